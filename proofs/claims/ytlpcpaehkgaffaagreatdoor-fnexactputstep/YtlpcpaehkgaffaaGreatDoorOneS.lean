/-
  The program's one step, whichever it is that is done: what is asked ahead of it and behind it.
-/
import Derived.Test.YtlpcpaehkgaffaaGreatDoorPsH
import Derived.Test.YtlpcpaehkgaffaaGreatDoorCpyA
import Derived.Test.YtlpcpaehkgaffaaGreatDoorIterE
namespace Go.Proofs.YtlpcpaehkgaffaaGreatDoor
set_option linter.unusedSimpArgs false
set_option linter.unusedVariables false
open Go.RowKit
set_option linter.unusedVariables false
attribute [local go_sem] OpUpon
attribute [local go_sem ↓] Go.wp_at_zero Go.wp_at_succ

theorem RgsD.setsT {lo hi : Nat} {A : Option Addr} {n cap : Nat} {L : List Rg} {k : Nat} {w : World} {cs : Array Value} {t : TypeId} (h : RgsD lo hi w A n cap L) (hk : BoxAt w k cs t) (h1 : t ≠ 66) (h2 : t ≠ 33) : ∀ (us : List Value) (o : Nat), RgsD lo hi (setCells w k o us) A n cap L
  | [], _ => h
  | u :: us, o => by
    refine RgsD.setsT (?_ : RgsD lo hi (w.setCell ⟨k, o, none⟩ u) A n cap L) (hk.set o u) h1 h2 us (o + 1)
    exact ⟨h.1, fun hn => by
      obtain ⟨b, rows, e, hb, ho, hd⟩ := h.2 hn
      obtain ⟨cb, hbx⟩ := own_box ho
      exact ⟨b, rows, e, hb, Own.set_ne ho (box_ne hbx hk (fun e => h1 e.symm)) _ _, hd.keep fun g _ _ _ hg => Below.heap_setCell w ⟨k, o, none⟩ u g (box_ne hg hk (fun e => h2 e.symm))⟩⟩

theorem gD_b {lo : Nat} {L : List Rg} (W W' : World) (A : Option Addr) (n c : Nat) (hb : Below W.heap.size W W') (h : RgsD lo W.heap.size W A n c L) : RgsD lo W'.heap.size W' A n c L := (h.below hb (Nat.le_refl _)).mono (Nat.le_refl _) hb.size
theorem gD_s {lo : Nat} {L : List Rg} (W : World) (A : Option Addr) (n c k : Nat) (cs : Array Value) (t : TypeId) (us : List Value) (h : RgsD lo W.heap.size W A n c L) (hk : BoxAt W k cs t) (h1 : t ≠ 66) (h2 : t ≠ 33) : RgsD lo (setCells W k 0 us).heap.size (setCells W k 0 us) A n c L := (h.setsT hk h1 h2 us 0).mono (Nat.le_refl _) (Nat.le_of_eq (sets_size _ _ _).symm)

/-- A store, a hand and a bool are returned, the store in memory of its own. -/
def RetSHBD (q : St × Hd × Bool) (w : World) (e : Ending) (w' : World) : Prop :=
  ∃ A n cap, e = .returned (.tuple #[stV q.1 A n cap, hdV q.2.1, .bool q.2.2]) ∧ RgsD w.heap.size w'.heap.size w' A n cap q.1.rs ∧ Below w.heap.size w w'
/-- A step: mb says whether it may be done, q is what it leaves. -/
def oneQ (mb : Bool) (q : St × Hd) (s : St) (h : Hd) : St × Hd × Bool :=
  if !stOk s || !h.ok then (St.zero, Hd.zero, false) else if !mb then (s, h, false) else if q.2.ok then (q.1, q.2, true) else (s, h, false)

set_option maxRecDepth 100000 in
set_option maxHeartbeats 8000000 in
theorem ione_any (s : St) (A : Option Addr) (n cap lo hi : Nat) (h : Hd) (fm fd : Nat) (mb : Bool) (q : St × Hd) (w : World) (hs : RgsW lo hi w A n cap s.rs) (hh : hi ≤ w.heap.size) (hm : n ≤ 1048576) (hpn : ∀ r ∈ s.rs, r.ps.length ≤ 1048576) (hem : Enters Tryz.prog fm) (hed : Enters Tryz.prog fd)
    (hMay : stOk s = true → h.ok = true → ∀ W, Below w.heap.size w W → Calls Tryz.prog fm #[stV s A n cap, hdV h] W (RetBelow (.bool mb) W))
    (hDo : stOk s = true → h.ok = true → mb = true → stOk q.1 = true ∧ ∀ W, Below w.heap.size w W → Calls Tryz.prog fd #[stV s A n cap, hdV h] W (RetSH q W)) :
    Calls Tryz.prog 25 #[stV s A n cap, hdV h, .func (.func fm) #[] #[], .func (.func fd) #[] #[]] w (RetSHBD (oneQ mb q s h) w) := by
  have HPN := Lib.hid hpn; clear hpn
  have HLN := Lib.hid hs.1
  have HEM := Lib.hid hem; clear hem
  have HED := Lib.hid hed; clear hed
  have HMAY := Lib.hid hMay; clear hMay
  have HDO := Lib.hid hDo; clear hDo
  obtain ⟨at_, v, r, t, seen, tr, sp, ag, re⟩ := h
  unfold stV hdV at HMAY HDO
  unfold stV hdV
  dsimp only at HMAY HDO ⊢
  go_enter Tryz.func25, Tryz.ntmps25
  go_upto_region 1 with fail
  refine wp_abs (fun W => Below w.heap.size w W ∧ BoxAt W w.heap.size #[.int .i64 s.rd, .int .i64 s.mo, .slice A n cap, .int .i64 s.fi, .int .i64 s.la] 32 ∧ BoxAt W (w.heap.size + 1) #[.int .i64 at_, .int .i64 v, .int .i64 r, .int .i64 t, .bool seen.s, .int .i64 seen.n, .bool seen.f, .int .i64 seen.v, .int .i64 tr, .int .i64 sp, .bool ag, .int .i64 re] 35 ∧ BoxAt W (w.heap.size + 1 + 1) #[.int .i64 0, .int .i64 0, .slice none 0 0, .int .i64 0, .int .i64 0] 32 ∧ BoxAt W (w.heap.size + 1 + 1 + 1) #[.int .i64 0, .int .i64 0, .int .i64 0, .int .i64 0, .bool false, .int .i64 0, .bool false, .int .i64 0, .int .i64 0, .int .i64 0, .bool false, .int .i64 0] 35) ⟨(((((Below.refl _ _).alloc (Nat.le_refl _) _).alloc (by simp) _).alloc (by simp; omega) _).alloc (by simp; omega) _), (((BoxAt.new _ _ _).alloc _).alloc _).alloc _, ((BoxAt.new' (by simp)).alloc _).alloc _, (BoxAt.new' (by simp)).alloc _, BoxAt.new' (by simp)⟩ ?_
  rintro W0 ⟨hB, hx, hy, hz, hw_⟩
  have lw0 := hw_.lt
  have hs0 := hs.below hB hh
  have kx := hx.cell
  have ky := hy.cell
  have fy := hy.frozen
  go_wp2_with fail
  clear kx ky fy
  refine (istoreOk_any s A n cap lo hi _ hs0 (Nat.le_trans hh hB.size) hm HPN.out).mono ?_
  rintro e w1 ⟨rfl, hb⟩
  replace hx := hx.below hb hx.lt
  replace hy := hy.below hb hy.lt
  replace hz := hz.below hb hz.lt
  replace hw_ := hw_.below hb hw_.lt
  have h1 := hb.size
  replace hB := bstep hB hB.size hb
  clear hb
  clear hs0
  cases hok : stOk s
  · have HV := Lib.hid (show oneQ mb q s (⟨at_, v, r, t, seen, tr, sp, ag, re⟩ : Hd) = (St.zero, Hd.zero, false) by simp [oneQ, hok])
    have kz := hz.cell
    have fz := hz.frozen
    have kw := hw_.cell
    have fw := hw_.frozen
    go_wp2
    refine bodyPost_ret (v := .tuple #[stV .zero none 0 0, hdV .zero, .bool false]) (by simp [results, Tryz.results25, go_sem, kz, kw, stV, St.zero, hdV, Hd.zero]) rfl ⟨none, 0, 0, by rw [HV.out], ?_, ?_⟩
    · rw [HV.out]; exact RgsD.nil
    · exact Below.setCells (by omega) [.int .i64 0, .int .i64 0, .int .i64 0, .int .i64 0, .bool false, .int .i64 0, .bool false, .int .i64 0, .int .i64 0, .int .i64 0, .bool false, .int .i64 0] 0 (Below.setCells (by omega) [.int .i64 0, .int .i64 0, .slice none 0 0, .int .i64 0, .int .i64 0] 0 hB)
  have HOK := Lib.hid hok
  have HNT := Lib.hid (stOk_neat hok)
  clear hok
  have ky := hy.cell
  go_wp2_with fail
  clear ky
  refine (ihandOk_any (⟨at_, v, r, t, seen, tr, sp, ag, re⟩ : Hd) _).mono ?_
  rintro e w2 ⟨rfl, hb⟩
  replace hx := hx.below hb hx.lt
  replace hy := hy.below hb hy.lt
  replace hz := hz.below hb hz.lt
  replace hw_ := hw_.below hb hw_.lt
  have h2 := hb.size
  replace hB := bstep hB hB.size hb
  clear hb
  cases hho : (⟨at_, v, r, t, seen, tr, sp, ag, re⟩ : Hd).ok
  · have HV := Lib.hid (show oneQ mb q s (⟨at_, v, r, t, seen, tr, sp, ag, re⟩ : Hd) = (St.zero, Hd.zero, false) by simp [oneQ, HOK.out, hho])
    have kz := hz.cell
    have fz := hz.frozen
    have kw := hw_.cell
    have fw := hw_.frozen
    go_wp2
    refine bodyPost_ret (v := .tuple #[stV .zero none 0 0, hdV .zero, .bool false]) (by simp [results, Tryz.results25, go_sem, kz, kw, stV, St.zero, hdV, Hd.zero]) rfl ⟨none, 0, 0, by rw [HV.out], ?_, ?_⟩
    · rw [HV.out]; exact RgsD.nil
    · exact Below.setCells (by omega) [.int .i64 0, .int .i64 0, .int .i64 0, .int .i64 0, .bool false, .int .i64 0, .bool false, .int .i64 0, .int .i64 0, .int .i64 0, .bool false, .int .i64 0] 0 (Below.setCells (by omega) [.int .i64 0, .int .i64 0, .slice none 0 0, .int .i64 0, .int .i64 0] 0 hB)
  have HHO := Lib.hid hho
  clear hho
  have kx := hx.cell
  have ky := hy.cell
  have hen := HEM.out
  unfold Enters at hen
  go_wp2_with fail
  clear kx ky hen
  refine (HMAY.out HOK.out HHO.out _ hB).mono ?_
  rintro e w3 ⟨rfl, hb⟩
  replace hx := hx.below hb hx.lt
  replace hy := hy.below hb hy.lt
  replace hz := hz.below hb hz.lt
  replace hw_ := hw_.below hb hw_.lt
  have h3 := hb.size
  replace hB := bstep hB hB.size hb
  clear hb
  cases hpb : mb
  · subst hpb
    go_upto_region 4 with fail
    have HV := Lib.hid (show oneQ false q s (⟨at_, v, r, t, seen, tr, sp, ag, re⟩ : Hd) = (s, (⟨at_, v, r, t, seen, tr, sp, ag, re⟩ : Hd), false) by simp [oneQ, HOK.out, HHO.out])
    refine ret6 (fun W A n c => RgsD w.heap.size W.heap.size W A n c (s).rs) gD_b gD_s w false s lo hi A n cap (⟨at_, v, r, t, seen, tr, sp, ag, re⟩ : Hd) w.heap.size (w.heap.size + 1) (by kernel_rfl) (by kernel_rfl) (by kernel_rfl) (by kernel_rfl) (by kernel_rfl) (by omega) ⟨hB, hx, hy, hz, hw_, hs.below hB hh, Nat.le_trans hh hB.size⟩ ?k0 ?k1 ?k2 ?k3 ?k4 ?k5 ?hQ
    case k0 | k2 | k3 | k4 =>
      intros
      rename_i k
      have kc_ := k.cell
      have kf_ := k.frozen
      refine OpGoes.step fun K hK => ?_
      unfold OpGoes
      go_simp
      first | exact hK _ _ ⟨rfl, rfl⟩ | exact hK _ _ rfl
    case k5 =>
      intros
      refine OpGoes.step fun K hK => ?_
      unfold OpGoes
      go_simp
      exact hK _ _ ⟨rfl, rfl⟩
    case k1 =>
      intro W' hBW hGW hhW
      refine OpGoes.step fun K hK => ?_
      unfold OpGoes
      go_simp
      refine (icopy_any s A n cap lo hi _ hGW hhW (by have := HNT.out.1; have := HLN.out; omega) (by have := HNT.out.2.1; have := HLN.out; omega) HNT.out.cp).mono ?_
      rintro e w9 ⟨b9, c9, rfl, hD, hb9⟩
      exact ⟨_, rfl, hK _ _ ⟨_, _, _, rfl, hD.mono hBW.size (Nat.le_refl _), hb9⟩⟩
    case hQ =>
      clear hB hx hy hz hw_
      intro σ W' A9 n9 c9 e5 hB k7 k8 hD
      replace k7 := k7.cell
      replace k8 := k8.cell
      simp only [lexAll]
      go_simp
      go_step
      go_wp2
      refine bodyPost_ret (v := .tuple #[stV s A9 n9 c9, hdV (⟨at_, v, r, t, seen, tr, sp, ag, re⟩ : Hd), .bool false]) (by simp [results, Tryz.results25, go_sem, k7, k8, stV, hdV]) rfl ⟨A9, n9, c9, by rw [HV.out], ?_, hB⟩
      rw [HV.out]
      exact hD
  subst hpb
  obtain ⟨hqk, hdo⟩ := HDO.out HOK.out HHO.out rfl
  have HQN := Lib.hid (stOk_neat hqk)
  clear hqk HDO HMAY
  have kx := hx.cell
  have ky := hy.cell
  have hen := HED.out
  unfold Enters at hen
  have HDD := Lib.hid hdo; clear hdo
  have lw := hw_.lt
  go_wp2_with fail
  clear kx ky hen
  refine (HDD.out _ hB).mono ?_
  rintro e w6 ⟨A5, n5, c5, rfl, hG5, hb6⟩
  replace hx := hx.below hb6 hx.lt
  replace hy := hy.below hb6 hy.lt
  replace hz := hz.below hb6 hz.lt
  replace hw_ := hw_.below hb6 hw_.lt
  have h6 := hb6.size
  replace hB := bstep hB hB.size hb6
  clear hb6
  unfold stV hdV
  go_upto_region 6 with fail
  refine wp_abs (fun W' => Below w.heap.size w W' ∧ BoxAt W' w.heap.size #[.int .i64 s.rd, .int .i64 s.mo, .slice A n cap, .int .i64 s.fi, .int .i64 s.la] 32 ∧ BoxAt W' (w.heap.size + 1) #[.int .i64 at_, .int .i64 v, .int .i64 r, .int .i64 t, .bool seen.s, .int .i64 seen.n, .bool seen.f, .int .i64 seen.v, .int .i64 tr, .int .i64 sp, .bool ag, .int .i64 re] 35 ∧ BoxAt W' (w.heap.size + 1 + 1) #[.int .i64 0, .int .i64 0, .slice none 0 0, .int .i64 0, .int .i64 0] 32 ∧ BoxAt W' (w.heap.size + 1 + 1 + 1) #[.int .i64 0, .int .i64 0, .int .i64 0, .int .i64 0, .bool false, .int .i64 0, .bool false, .int .i64 0, .int .i64 0, .int .i64 0, .bool false, .int .i64 0] 35 ∧ BoxAt W' w6.heap.size #[.int .i64 q.1.rd, .int .i64 q.1.mo, .slice A5 n5 c5, .int .i64 q.1.fi, .int .i64 q.1.la] 32 ∧ BoxAt W' (w6.heap.size + 1) #[.int .i64 q.2.at_, .int .i64 q.2.v, .int .i64 q.2.r, .int .i64 q.2.t, .bool q.2.seen.s, .int .i64 q.2.seen.n, .bool q.2.seen.f, .int .i64 q.2.seen.v, .int .i64 q.2.tr, .int .i64 q.2.sp, .bool q.2.ag, .int .i64 q.2.re] 35 ∧ RgsW 0 W'.heap.size W' A5 n5 c5 q.1.rs) ⟨(hB.alloc hB.size _).alloc (by simp; have := hB.size; omega) _, (hx.alloc _).alloc _, (hy.alloc _).alloc _, (hz.alloc _).alloc _, (hw_.alloc _).alloc _, (BoxAt.new _ _ _).alloc _, BoxAt.new' (by simp), ((hG5.al (Nat.le_refl _) _).al (by simp) _).mono (Nat.le_refl _) (by simp; omega)⟩ ?_
  have lX : w.heap.size + 4 ≤ w6.heap.size := by omega
  generalize w6.heap.size = X2 at *
  clear hB hx hy hz hw_ hG5
  rintro W7 ⟨hB, hx, hy, hz, hw_, hX, hY, hG⟩
  have ky := hY.cell
  go_wp2_with fail
  clear ky
  refine (ihandOk_any q.2 _).mono ?_
  rintro e w7 ⟨rfl, hb⟩
  replace hX := hX.below hb hX.lt
  replace hY := hY.below hb hY.lt
  replace hG := (hG.below hb (Nat.le_refl _)).mono (Nat.le_refl _) hb.size
  replace hx := hx.below hb hx.lt
  replace hy := hy.below hb hy.lt
  replace hz := hz.below hb hz.lt
  replace hw_ := hw_.below hb hw_.lt
  have h7 := hb.size
  replace hB := bstep hB hB.size hb
  clear hb
  cases hqo : q.2.ok
  · have HQK := Lib.hid hqo; clear hqo
    go_upto_region 7 with fail
    have HV := Lib.hid (show oneQ true q s (⟨at_, v, r, t, seen, tr, sp, ag, re⟩ : Hd) = (s, (⟨at_, v, r, t, seen, tr, sp, ag, re⟩ : Hd), false) by simp [oneQ, HOK.out, HHO.out, HQK.out])
    refine ret6 (fun W A n c => RgsD w.heap.size W.heap.size W A n c (s).rs) gD_b gD_s w false s lo hi A n cap (⟨at_, v, r, t, seen, tr, sp, ag, re⟩ : Hd) w.heap.size (w.heap.size + 1) (by kernel_rfl) (by kernel_rfl) (by kernel_rfl) (by kernel_rfl) (by kernel_rfl) (by omega) ⟨hB, hx, hy, hz, hw_, hs.below hB hh, Nat.le_trans hh hB.size⟩ ?k0 ?k1 ?k2 ?k3 ?k4 ?k5 ?hQ
    case k0 | k2 | k3 | k4 =>
      intros
      rename_i k
      have kc_ := k.cell
      have kf_ := k.frozen
      refine OpGoes.step fun K hK => ?_
      unfold OpGoes
      go_simp
      first | exact hK _ _ ⟨rfl, rfl⟩ | exact hK _ _ rfl
    case k5 =>
      intros
      refine OpGoes.step fun K hK => ?_
      unfold OpGoes
      go_simp
      exact hK _ _ ⟨rfl, rfl⟩
    case k1 =>
      intro W' hBW hGW hhW
      refine OpGoes.step fun K hK => ?_
      unfold OpGoes
      go_simp
      refine (icopy_any s A n cap lo hi _ hGW hhW (by have := HNT.out.1; have := HLN.out; omega) (by have := HNT.out.2.1; have := HLN.out; omega) HNT.out.cp).mono ?_
      rintro e w9 ⟨b9, c9, rfl, hD, hb9⟩
      exact ⟨_, rfl, hK _ _ ⟨_, _, _, rfl, hD.mono hBW.size (Nat.le_refl _), hb9⟩⟩
    case hQ =>
      clear hB hx hy hz hw_ hX hY hG
      intro σ W' A9 n9 c9 e5 hB k7 k8 hD
      replace k7 := k7.cell
      replace k8 := k8.cell
      simp only [lexAll]
      go_simp
      go_step
      go_wp2
      refine bodyPost_ret (v := .tuple #[stV s A9 n9 c9, hdV (⟨at_, v, r, t, seen, tr, sp, ag, re⟩ : Hd), .bool false]) (by simp [results, Tryz.results25, go_sem, k7, k8, stV, hdV]) rfl ⟨A9, n9, c9, by rw [HV.out], ?_, hB⟩
      rw [HV.out]
      exact hD
  · have HQK := Lib.hid hqo; clear hqo
    go_upto_region 8 with fail
    have HV := Lib.hid (show oneQ true q s (⟨at_, v, r, t, seen, tr, sp, ag, re⟩ : Hd) = (q.1, q.2, true) by simp [oneQ, HOK.out, HHO.out, HQK.out])
    refine ret6 (fun W A n c => RgsD w.heap.size W.heap.size W A n c (q.1).rs) gD_b gD_s w true q.1 0 w7.heap.size A5 n5 c5 q.2 X2 (X2 + 1) (by kernel_rfl) (by kernel_rfl) (by kernel_rfl) (by kernel_rfl) (by kernel_rfl) (by omega) ⟨hB, hX, hY, hz, hw_, hG, Nat.le_refl _⟩ ?k0 ?k1 ?k2 ?k3 ?k4 ?k5 ?hQ
    case k0 | k2 | k3 | k4 =>
      intros
      rename_i k
      have kc_ := k.cell
      have kf_ := k.frozen
      refine OpGoes.step fun K hK => ?_
      unfold OpGoes
      go_simp
      first | exact hK _ _ ⟨rfl, rfl⟩ | exact hK _ _ rfl
    case k5 =>
      intros
      refine OpGoes.step fun K hK => ?_
      unfold OpGoes
      go_simp
      exact hK _ _ ⟨rfl, rfl⟩
    case k1 =>
      intro W' hBW hGW hhW
      refine OpGoes.step fun K hK => ?_
      unfold OpGoes
      go_simp
      refine (icopy_any q.1 A5 n5 c5 0 w7.heap.size _ hGW hhW (by have := HQN.out.1; have := hGW.1; omega) (by have := HQN.out.2.1; have := hGW.1; omega) HQN.out.cp).mono ?_
      rintro e w9 ⟨b9, c9, rfl, hD, hb9⟩
      exact ⟨_, rfl, hK _ _ ⟨_, _, _, rfl, hD.mono hBW.size (Nat.le_refl _), hb9⟩⟩
    case hQ =>
      clear hB hx hy hz hw_ hX hY hG
      intro σ W' A9 n9 c9 e5 hB k7 k8 hD
      replace k7 := k7.cell
      replace k8 := k8.cell
      simp only [lexAll]
      go_simp
      go_step
      go_wp2
      refine bodyPost_ret (v := .tuple #[stV q.1 A9 n9 c9, hdV q.2, .bool true]) (by simp [results, Tryz.results25, go_sem, k7, k8, stV, hdV]) rfl ⟨A9, n9, c9, by rw [HV.out], ?_, hB⟩
      rw [HV.out]
      exact hD

end Go.Proofs.YtlpcpaehkgaffaaGreatDoor

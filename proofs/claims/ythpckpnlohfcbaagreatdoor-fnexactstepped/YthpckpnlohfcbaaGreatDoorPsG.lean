/-
 What a step of one who puts leaves is right, and it is said to be done where the hand is right: pure.
-/
import Derived.Laws.EntriesVeiled
import Derived.Laws.Tables
import Derived.Laws.Rows
import Derived.Test.YthpckpnlohfcbaaGreatDoorPutJ
import Derived.Test.YthpckpnlohfcbaaGreatDoorChgA
import Derived.Test.YthpckpnlohfcbaaGreatDoorStep
import Derived.Test.YthpckpnlohfcbaaGreatDoorPsA
import Derived.Test.YthpckpnlohfcbaaGreatDoorCpyA
import Derived.Test.YthpckpnlohfcbaaGreatDoorIterE
import Derived.Test.YthpckpnlohfcbaaGreatDoorPsB
import Derived.Test.YthpckpnlohfcbaaGreatDoorHand
import Derived.Test.YthpckpnlohfcbaaGreatDoorIterC
namespace Go.Proofs.YthpckpnlohfcbaaGreatDoor
set_option linter.unusedSimpArgs false
set_option linter.unusedVariables false
open Go.RowKit
set_option linter.unusedVariables false
theorem zpsG0 {p : Prop} (h : p := by
 clear hw hcl hL hC
 refine OpGoes.go fun K hK => ?_
 go_simp
 exact hK _ _ ⟨rfl, rfl⟩) : p := h -- ee92c020
theorem zpsG1 {p : Prop} (h : p := by
 have kz := hz.cell
 have fz := hz.frozen
 have kw := hw_.cell
 have fw := hw_.frozen
 go_wp2
 refine bodyPost_ret (v := .tuple #[stV .zero none 0 0, hdV .zero, .bool false]) (by simp [results, Tryz.results84, go_sem, kz, kw, stV, St.zero, hdV, Hd.zero]) rfl ⟨none, 0, 0, by rw [HV.out], ?_, ?_⟩
 · rw [HV.out]; exact RgsD.nil
 · exact Below.setCells (by omega) zH 0 (Below.setCells (by omega) zS 0 hB)) : p := h -- 3078938e
theorem zpsG2 {p : Prop} (h : p := by
 intro σ W' A9 n9 c9 e5 hB k7 k8 hD
 replace k7 := k7.cell
 replace k8 := k8.cell
 simp only [lexAll]
 go_simp
 go_step
 go_wp2
 refine bodyPost_ret (v := .tuple #[stV s A9 n9 c9, hdV (⟨at_, v, r, t, seen, tr, sp, ag, re⟩ : Hd), .bool false]) (by simp [results, Tryz.results84, go_sem, k7, k8, stV, hdV]) rfl ⟨A9, n9, c9, by rw [HV.out], ?_, hB⟩
 rw [HV.out]
 exact hD) : p := h -- 1345c044
theorem zpsG3 {p : Prop} (h : p := by
 go_light
 intro L σ W' hcl hL hC hw
 clear hw
 have HC := Lib.hid hC
 clear hC
 clear hcl hL
 refine OpGoes.go fun K hK => ?_
 go_simp
 obtain ⟨hB, hx, hy⟩ := HC.out
 refine (iputSteps_any _).mono ?_
 rintro e w1 ⟨rfl, hb1⟩
 exact ⟨_, rfl, hK _ _ ⟨⟨bstep hB hB.size hb1, hx.below hb1 hx.lt, hy.below hb1 hy.lt⟩, rfl, hb1⟩⟩) : p := h -- 6ddb4336
theorem zpsG4 {p : Prop} (h : p := by
 intro W' hBW hGW hhW
 refine OpGoes.go fun K hK => ?_
 go_simp
 refine (icopy_any s A n cap lo hi _ hGW hhW (by have := HNT.out.1; have := HLN.out; omega) (by have := HNT.out.2.1; have := HLN.out; omega) HNT.out.cp).mono ?_
 rintro e w9 ⟨b9, c9, rfl, hD, hb9⟩
 exact ⟨_, rfl, hK _ _ ⟨_, _, _, rfl, hD.mono hBW.size (Nat.le_refl _), hb9⟩⟩) : p := h -- fd14b99a
theorem zpsG5 {p : Prop} (h : p := by
 intros
 rename_i k
 have kc_ := k.cell
 have kf_ := k.frozen
 refine OpGoes.go fun K hK => ?_
 go_simp
 first | exact hK _ _ ⟨rfl, rfl⟩ | exact hK _ _ rfl) : p := h -- e92ca8c3
theorem zpsG6 {p : Prop} (h : p := by
 intro σ L W' hall hC hRR
 obtain ⟨hB, hx, hy⟩ := hC
 have e11 := dV hRR 11 rfl
 clear hRR
 simp only [lexAll]
 go_simp
 go_step
 go_wp2
 go_ret
 exact .mk HV.out hB) : p := h -- 6e92a732

theorem done_ok {c : St → Option St} {s : St} (h : stOk s = true) : stOk (done c s).1 = true := by
 cases hc : c s with
 | none => rw [done_no h hc]; exact h
 | some t =>
  rw [done_then h hc]
  cases ht : stOk t
  · exact h
  · exact ht
theorem chain_cut {rs : List Rg} {i : Nat} {q : Rg} (hq : q.x = -1) : ∀ (k : Nat) (z : Int) (l : List Int), chain rs k z = some l → ∃ l', chain (rs.set i q) k z = some l'
 | k, z, l, h => by
  by_cases hz : z < 0
  · exact ⟨_, chain_neg hz⟩
  cases k with
  | zero => rw [chain_zero hz] at h; cases h
  | succ k =>
   cases hr : rs[z.toNat]? with
   | none =>
    unfold chain at h
    simp [hz, hr] at h
   | some r =>
    rw [chain_succ hz hr] at h
    by_cases hi : i = z.toNat
    ·
     subst hi
     have hl : z.toNat < rs.length := (List.getElem?_eq_some_iff.1 hr).1
     rw [chain_succ hz (List.getElem?_set_self hl), hq, chain_neg (by omega)]
     exact ⟨_, rfl⟩
    ·
     cases hc : chain rs k r.x with
     | none => rw [hc] at h; cases h
     | some m =>
      obtain ⟨m', hm⟩ := chain_cut (i := i) hq k r.x m hc
      rw [chain_succ hz (by rw [List.getElem?_set_ne hi]; exact hr), hm]
      exact ⟨_, rfl⟩
theorem stOk_seed {s : St} (h : stOk s = true) {z v : Int} (hz : ringB s z = true) (hv : valB v = true) : stOk (s.turn z fun _ => Rg.seed s.rd.toNat v) = true := by
 obtain ⟨r, hr, _, _⟩ := ringB_some hz
 rw [St.turn_some hr]
 obtain ⟨h1, h2, h3⟩ := stOk_parts h
 have hrd := stOk_rd h
 refine stOk_of ?_ ?_ ?_
 · simpa [stHead] using h1
 ·
  intro q hq
  rcases List.mem_or_eq_of_mem_set hq with hq | rfl
  · simpa using h2 q hq
  ·
   have h5 := seed_ok (n := s.rd.toNat) (v := v) (by omega) (by omega) hv
   have h6 : ((Rg.seed s.rd.toNat v).ps.length : Int) = s.rd := by
    have : (Rg.seed s.rd.toNat v).ps.length = s.rd.toNat := by simp [Rg.seed, fresh]
    omega
   simp only [inSt, h5, h6, Bool.true_and, beq_self_eq_true, decide_eq_true_eq]
   show (-1 : Int) < _
   omega
 ·
  intro i hi
  obtain ⟨l, hl⟩ := h3 i (by simpa using hi)
  have := chain_cut (i := z.toNat) (q := Rg.seed s.rd.toNat v) rfl _ _ _ hl
  simpa using this
theorem rest_ok {h : Hd} (hok : h.ok = true) {re : Int} (h0 : 0 ≤ re) (h4 : re ≤ 4) : (h.rest re).ok = true := by
 simp only [Hd.ok, Hd.okA, Hd.okC, Bool.and_eq_true, inB, decide_eq_true_eq] at hok
 have h1 : -1 ≤ h.sp ∧ h.sp ≤ 15 := by omega
 simp [Hd.rest, Hd.zero, Hd.ok, Hd.okA, Hd.okC, inB, noB, putB, okB, h0, h4, h1.1, h1.2]
theorem step_ok {h : Hd} (hok : h.ok = true) (hp : putB h.at_ = true) {a tr sp : Int} (ha : 1 ≤ a ∧ a ≤ 12) (htr : 0 ≤ tr ∧ tr ≤ 1000000) (hsp : -1 ≤ sp ∧ sp ≤ 15) : ({ h with at_ := a, tr := tr, sp := sp } : Hd).ok = true := by
 simp only [Hd.ok, Hd.okA, Hd.okC, Bool.and_eq_true, inB, noB, putB, decide_eq_true_eq, Bool.or_eq_true, Bool.not_eq_true', Bool.and_eq_false_iff, decide_eq_false_iff_not] at hok hp ⊢
 exact ⟨⟨by omega, hok.1.2⟩, by omega⟩
theorem hd_facts {h : Hd} (hok : h.ok = true) (hp : putB h.at_ = true) : (0 ≤ h.tr ∧ h.tr ≤ 1000000) ∧ (-1 ≤ h.sp ∧ h.sp ≤ 15) ∧ valB h.v = true := by
 simp only [Hd.ok, Hd.okA, Hd.okC, Bool.and_eq_true, inB, noB, putB, decide_eq_true_eq, Bool.or_eq_true, Bool.not_eq_true', Bool.and_eq_false_iff, decide_eq_false_iff_not] at hok hp
 refine ⟨by omega, by omega, ?_⟩
 simp only [valB, Bool.and_eq_true, decide_eq_true_eq]
 omega
theorem putS_ok {s : St} (hok : stOk s = true) {h : Hd} (hho : h.ok = true) (hp : putB h.at_ = true) (hsp : h.at_ = 10 → h.sp = -1 ∨ ringB s h.sp = true) : stOk (putS s h).1 = true ∧ (putS s h).2.2 = (putS s h).2.1.ok := by
 obtain ⟨ftr, fsp, fv⟩ := hd_facts hho hp
 have hc : h.at_ = 1 ∨ h.at_ = 2 ∨ h.at_ = 3 ∨ h.at_ = 4 ∨ h.at_ = 5 ∨ h.at_ = 6 ∨ h.at_ = 7 ∨ h.at_ = 8 ∨ h.at_ = 9 ∨ h.at_ = 10 ∨ h.at_ = 11 ∨ h.at_ = 12 := by
  simp only [putB, inB, Bool.and_eq_true, decide_eq_true_eq] at hp
  omega
 rcases hc with e | e | e | e | e | e | e | e | e | e | e | e
 ·
  have : putS s h = put1 s h := by simp [putS, e]
  rw [this]; exact ⟨hok, rfl⟩
 ·
  have : putS s h = put2 s h := by simp [putS, e]
  rw [this]; exact ⟨hok, rfl⟩
 ·
  have : putS s h = put3 s h := by simp [putS, e]
  rw [this]
  refine ⟨?_, rfl⟩
  show stOk (swing s true h.r h.t).1 = true
  rw [swing_done]; exact done_ok hok
 ·
  have : putS s h = put4 s h := by simp [putS, e]
  rw [this]
  constructor
  ·
   show stOk (putTicket s h.r).1 = true
   rw [putTicket_done]; exact done_ok hok
  ·
   simp only [put4, fin]
   cases hk : ({ h with t := (putTicket s h.r).2, at_ := if (s.at h.r).c then 10 else 5 } : Hd).ok
   · simp
   ·
    have := (hd_nums hk).1.1
    dsimp only at this
    simp [this]
 ·
  have : putS s h = put5 s h := by simp [putS, e]
  rw [this]; exact ⟨hok, rfl⟩
 ·
  have : putS s h = put6 s h := by simp [putS, e]
  rw [this]; exact ⟨hok, rfl⟩
 ·
  have : putS s h = put7 s h := by simp [putS, e]
  rw [this]
  have h1 : stOk (swapPlace s h.r (h.t % s.rd) h.seen ⟨true, h.t, true, h.v⟩).1 = true := by rw [swap_done]; exact done_ok hok
  unfold put7
  split
  · exact ⟨h1, (rest_ok hho (by omega) (by omega)).symm⟩
  · exact ⟨h1, rfl⟩
 ·
  have : putS s h = put8 s h := by simp [putS, e]
  rw [this]; exact ⟨hok, rfl⟩
 ·
  have : putS s h = put9 s h := by simp [putS, e]
  rw [this]
  refine ⟨?_, rfl⟩
  show stOk (closeR s h.r).1 = true
  rw [close_done]; exact done_ok hok
 ·
  have : putS s h = make10 s h := by simp [putS, makeS, e]
  rw [this]
  unfold make10
  by_cases h0 : 0 ≤ h.sp
  ·
   rw [if_pos h0]
   rcases hsp e with hs | hs
   · omega
   ·
    rw [hs]
    exact ⟨stOk_seed hok hs fv, (step_ok hho hp (a := 11) (tr := h.tr) (sp := h.sp) (by omega) ftr fsp).symm⟩
  ·
   rw [if_neg h0]
   have h1 : stOk (addRing s h.v).1 = true := by rw [add_done]; exact done_ok hok
   split
   · exact ⟨hok, (rest_ok hho (by omega) (by omega)).symm⟩
   ·
    rename_i h2
    refine ⟨h1, (step_ok hho hp (a := 11) (tr := h.tr) (sp := (addRing s h.v).2) (by omega) ftr ⟨by omega, ?_⟩).symm⟩
    have hn := (stOk_neat h1).2.1
    have h4 := add_done s h.v
    have h5 : (addRing s h.v).2 = ((done (addC h.v) s).1.rs.length : Int) - 1 := by
     rw [h4]
     rw [h4] at h2
     dsimp only at h2 ⊢
     split at h2
     ·
      rename_i hd
      rw [if_pos hd]
     · omega
    have h6 : (addRing s h.v).1 = (done (addC h.v) s).1 := by rw [h4]
    rw [h6] at hn
    omega
 ·
  have : putS s h = make11 s h := by simp [putS, makeS, e]
  rw [this]
  unfold make11
  refine ⟨by rw [link_done]; exact done_ok hok, ?_⟩
  dsimp only
  split
  · exact (step_ok hho hp (a := 12) (tr := h.tr) (sp := h.sp) (by omega) ftr fsp).symm
  · exact (step_ok hho hp (a := 1) (tr := 0) (sp := h.sp) (by omega) (by omega) fsp).symm
 ·
  have : putS s h = make12 s h := by simp [putS, makeS, e]
  rw [this]
  unfold make12
  refine ⟨by rw [swing_done]; exact done_ok hok, ?_⟩
  have := rest_ok (h := { h with sp := -1 }) (step_ok hho hp (a := h.at_) (tr := h.tr) (sp := -1) (by simp only [putB, inB, Bool.and_eq_true, decide_eq_true_eq] at hp; omega) ftr (by omega)) (re := 1) (by omega) (by omega)
  exact this.symm
theorem stepS_put {s : St} (hok : stOk s = true) {h : Hd} (hho : h.ok = true) (hp : putB h.at_ = true) (hrb : ringB s h.r = true) (hsp : h.at_ = 10 → h.sp = -1 ∨ ringB s h.sp = true) :
  stepS putS putB s h = if (putS s h).2.1.ok then ((putS s h).1, (putS s h).2.1, true) else (s, h, false) := by
 obtain ⟨h1, h2⟩ := putS_ok hok hho hp hsp
 unfold stepS
 rw [hok, hho, hp, hrb, h1, h2]
 simp only [Bool.not_true, Bool.or_false, Bool.false_eq_true, if_false]
 cases (putS s h).2.1.ok <;> rfl
theorem stepS_none {s : St} (hok : stOk s = true) {h : Hd} (hho : h.ok = true) (hp : putB h.at_ = true) (hrb : ringB s h.r = true) (he : h.at_ = 10) (hs1 : h.sp ≠ -1) (hsp : ringB s h.sp = false) :
  stepS putS putB s h = (s, h, false) := by
 have fsp := (hd_facts hho hp).2.1
 have h2 : (putS s h).2.2 = false := by
  have : putS s h = make10 s h := by simp [putS, makeS, he]
  rw [this]
  unfold make10
  rw [if_pos (by omega), hsp]
  rfl
 unfold stepS
 rw [hok, hho, hp, hrb, h2]
 rfl
end Go.Proofs.YthpckpnlohfcbaaGreatDoor
namespace Go.Proofs.YthpckpnlohfcbaaGreatDoor
set_option linter.unusedSimpArgs false
set_option linter.unusedVariables false
open Go.RowKit
set_option linter.unusedVariables false
attribute [local go_sem] OpUpon
attribute [local go_sem ↓] Go.wp_at_zero Go.wp_at_succ
theorem RgsD.setsT {lo hi : Nat} {A : Option Addr} {n cap : Nat} {L : List Rg} {k : Nat} {w : World} {cs : Array Value} {t : TypeId} (h : RgsD lo hi w A n cap L) (hk : BoxAt w k cs t) (h1 : t ≠ 79) (h2 : t ≠ 33) : ∀ (us : List Value) (o : Nat), RgsD lo hi (setCells w k o us) A n cap L
 | [], _ => h
 | u :: us, o => by
  refine RgsD.setsT (?_ : RgsD lo hi (w.setCell ⟨k, o, none⟩ u) A n cap L) (hk.set o u) h1 h2 us (o + 1)
  exact ⟨h.1, fun hn => by
   obtain ⟨b, rows, e, hb, ho, hd⟩ := h.2 hn
   obtain ⟨cb, hbx⟩ := own_box ho
   exact ⟨b, rows, e, hb, Own.set_ne ho (box_ne hbx hk (fun e => h1 e.symm)) _ _, hd.keep fun g _ _ _ hg => Below.heap_setCell w ⟨k, o, none⟩ u g (box_ne hg hk (fun e => h2 e.symm))⟩⟩
theorem gD_b {lo : Nat} {L : List Rg} (W W' : World) (A : Option Addr) (n c : Nat) (hb : Below W.heap.size W W') (h : RgsD lo W.heap.size W A n c L) : RgsD lo W'.heap.size W' A n c L := (h.below hb (Nat.le_refl _)).mono (Nat.le_refl _) hb.size
theorem gD_s {lo : Nat} {L : List Rg} (W : World) (A : Option Addr) (n c k : Nat) (cs : Array Value) (t : TypeId) (us : List Value) (h : RgsD lo W.heap.size W A n c L) (hk : BoxAt W k cs t) (h1 : t ≠ 79) (h2 : t ≠ 33) : RgsD lo (setCells W k 0 us).heap.size (setCells W k 0 us) A n c L := (h.setsT hk h1 h2 us 0).mono (Nat.le_refl _) (Nat.le_of_eq (sets_size _ _ _).symm)
def RetSHBD (q : St × Hd × Bool) (w : World) (e : Ending) (w' : World) : Prop :=
 ∃ A n cap, e = .returned (.tuple #[stV q.1 A n cap, hdV q.2.1, q.2.2]) ∧ RgsD w.heap.size w'.heap.size w' A n cap q.1.rs ∧ Below w.heap.size w w'
def oneQ (mb : Bool) (q : St × Hd) (s : St) (h : Hd) : St × Hd × Bool :=
 if !stOk s || !h.ok then (St.zero, Hd.zero, false) else if !mb then (s, h, false) else if q.2.ok then (q.1, q.2, true) else (s, h, false)
set_option maxRecDepth 100000 in
set_option maxHeartbeats 8000000 in
theorem ione_any (s : St) (A : Option Addr) (n cap lo hi : Nat) (h : Hd) (fm fd : Nat) (mb : Bool) (q : St × Hd) (w : World) (hs : RgsW lo hi w A n cap s.rs) (hh : hi ≤ w.heap.size) (hm : n ≤ 1048576) (hpn : ∀ r ∈ s.rs, r.ps.length ≤ 1048576) (hem : Enters Tryz.prog fm) (hed : Enters Tryz.prog fd)
  (hMay : stOk s = true → h.ok = true → ∀ W, Below w.heap.size w W → Calls Tryz.prog fm #[stV s A n cap, hdV h] W (RetBelow (.bool mb) W))
  (hDo : stOk s = true → h.ok = true → mb = true → stOk q.1 = true ∧ ∀ W, Below w.heap.size w W → Calls Tryz.prog fd #[stV s A n cap, hdV h] W (RetSH q W)) :
  Calls Tryz.prog 84 #[stV s A n cap, hdV h, .func (.func fm) #[] #[], .func (.func fd) #[] #[]] w (RetSHBD (oneQ mb q s h) w) := by
 have HPN := Lib.hid hpn; clear hpn
 have HLN := Lib.hid hs.1
 have HEM := Lib.hid hem; clear hem
 have HED := Lib.hid hed; clear hed
 have HMAY := Lib.hid hMay; clear hMay
 have HDO := Lib.hid hDo; clear hDo
 obtain ⟨at_, v, r, t, seen, tr, sp, ag, re⟩ := h
 unfold stV hdV at HMAY HDO
 unfold stV hdV
 dsimp only at HMAY HDO ⊢
 go_enter Tryz.func84, Tryz.ntmps84
 go_upto_region 1 with fail
 refine wp_abs (fun W => Below w.heap.size w W ∧ BoxAt W w.heap.size (aS s A n cap) 32 ∧ BoxAt W (w.heap.size + 1) (dH at_ v r t seen tr sp ag re) 35 ∧ BoxAt W (w.heap.size + 1 + 1) zS 32 ∧ BoxAt W (w.heap.size + 1 + 1 + 1) zH 35) ⟨(((((Below.refl _ _).alloc (Nat.le_refl _) _).alloc (by simp) _).alloc (by simp; omega) _).alloc (by simp; omega) _), (((BoxAt.new _ _ _).alloc _).alloc _).alloc _, ((BoxAt.new' (by simp)).alloc _).alloc _, (BoxAt.new' (by simp)).alloc _, BoxAt.new' (by simp)⟩ ?_
 rintro W0 ⟨hB, hx, hy, hz, hw_⟩
 have lw0 := hw_.lt
 have hs0 := hs.below hB hh
 have kx := hx.cell
 have ky := hy.cell
 have fy := hy.frozen
 go_wp2_with fail
 clear kx ky fy
 refine (istoreOk_any s A n cap lo hi _ hs0 (Nat.le_trans hh hB.size) hm HPN.out).mono ?_
 rintro e w1 ⟨rfl, hb⟩
 replace hx := hx.below hb hx.lt
 replace hy := hy.below hb hy.lt
 replace hz := hz.below hb hz.lt
 replace hw_ := hw_.below hb hw_.lt
 have h1 := hb.size
 replace hB := bstep hB hB.size hb
 clear hb
 clear hs0
 cases hok : stOk s
 ·
  have HV := Lib.hid (show oneQ mb q s (⟨at_, v, r, t, seen, tr, sp, ag, re⟩ : Hd) = (St.zero, Hd.zero, false) by simp [oneQ, hok])
  exact zpsG1
 have HOK := Lib.hid hok
 have HNT := Lib.hid (stOk_neat hok)
 clear hok
 have ky := hy.cell
 go_wp2_with fail
 clear ky
 refine (ihandOk_any (⟨at_, v, r, t, seen, tr, sp, ag, re⟩ : Hd) _).mono ?_
 rintro e w2 ⟨rfl, hb⟩
 replace hx := hx.below hb hx.lt
 replace hy := hy.below hb hy.lt
 replace hz := hz.below hb hz.lt
 replace hw_ := hw_.below hb hw_.lt
 have h2 := hb.size
 replace hB := bstep hB hB.size hb
 clear hb
 cases hho : (⟨at_, v, r, t, seen, tr, sp, ag, re⟩ : Hd).ok
 ·
  have HV := Lib.hid (show oneQ mb q s (⟨at_, v, r, t, seen, tr, sp, ag, re⟩ : Hd) = (St.zero, Hd.zero, false) by simp [oneQ, HOK.out, hho])
  exact zpsG1
 have HHO := Lib.hid hho
 clear hho
 have kx := hx.cell
 have ky := hy.cell
 have hen := HEM.out
 unfold Enters at hen
 go_wp2_with fail
 clear kx ky hen
 refine (HMAY.out HOK.out HHO.out _ hB).mono ?_
 rintro e w3 ⟨rfl, hb⟩
 replace hx := hx.below hb hx.lt
 replace hy := hy.below hb hy.lt
 replace hz := hz.below hb hz.lt
 replace hw_ := hw_.below hb hw_.lt
 have h3 := hb.size
 replace hB := bstep hB hB.size hb
 clear hb
 cases hpb : mb
 ·
  subst hpb
  go_upto_region 4 with fail
  have HV := Lib.hid (show oneQ false q s (⟨at_, v, r, t, seen, tr, sp, ag, re⟩ : Hd) = (s, (⟨at_, v, r, t, seen, tr, sp, ag, re⟩ : Hd), false) by simp [oneQ, HOK.out, HHO.out])
  refine ret6 (fun W A n c => RgsD w.heap.size W.heap.size W A n c (s).rs) gD_b gD_s w false s lo hi A n cap (⟨at_, v, r, t, seen, tr, sp, ag, re⟩ : Hd) w.heap.size (w.heap.size + 1) (by kernel_rfl) (by kernel_rfl) (by kernel_rfl) (by kernel_rfl) (by kernel_rfl) (by omega) ⟨hB, hx, hy, hz, hw_, hs.below hB hh, Nat.le_trans hh hB.size⟩ ?k0 ?k1 ?k2 ?k3 ?k4 ?k5 ?hQ
  case k0 | k2 | k3 | k4 =>
   exact zpsG5
  case k5 =>
   intros
   refine OpGoes.go fun K hK => ?_
   go_simp
   exact hK _ _ ⟨rfl, rfl⟩
  case k1 =>
   exact zpsG4
  case hQ =>
   clear hB hx hy hz hw_
   exact zpsG2
 subst hpb
 obtain ⟨hqk, hdo⟩ := HDO.out HOK.out HHO.out rfl
 have HQN := Lib.hid (stOk_neat hqk)
 clear hqk HDO HMAY
 have kx := hx.cell
 have ky := hy.cell
 have hen := HED.out
 unfold Enters at hen
 have HDD := Lib.hid hdo; clear hdo
 have lw := hw_.lt
 go_wp2_with fail
 clear kx ky hen
 refine (HDD.out _ hB).mono ?_
 rintro e w6 ⟨A5, n5, c5, rfl, hG5, hb6⟩
 replace hx := hx.below hb6 hx.lt
 replace hy := hy.below hb6 hy.lt
 replace hz := hz.below hb6 hz.lt
 replace hw_ := hw_.below hb6 hw_.lt
 have h6 := hb6.size
 replace hB := bstep hB hB.size hb6
 clear hb6
 unfold stV hdV
 go_upto_region 6 with fail
 refine wp_abs (fun W' => Below w.heap.size w W' ∧ BoxAt W' w.heap.size (aS s A n cap) 32 ∧ BoxAt W' (w.heap.size + 1) (dH at_ v r t seen tr sp ag re) 35 ∧ BoxAt W' (w.heap.size + 1 + 1) zS 32 ∧ BoxAt W' (w.heap.size + 1 + 1 + 1) zH 35 ∧ BoxAt W' w6.heap.size (aS q.1 A5 n5 c5) 32 ∧ BoxAt W' (w6.heap.size + 1) (aH q.2) 35 ∧ RgsW 0 W'.heap.size W' A5 n5 c5 q.1.rs) ⟨(hB.alloc hB.size _).alloc (by simp; have := hB.size; omega) _, (hx.alloc _).alloc _, (hy.alloc _).alloc _, (hz.alloc _).alloc _, (hw_.alloc _).alloc _, (BoxAt.new _ _ _).alloc _, BoxAt.new' (by simp), ((hG5.al (Nat.le_refl _) _).al (by simp) _).mono (Nat.le_refl _) (by simp; omega)⟩ ?_
 have lX : w.heap.size + 4 ≤ w6.heap.size := by omega
 generalize w6.heap.size = X2 at *
 clear hB hx hy hz hw_ hG5
 rintro W7 ⟨hB, hx, hy, hz, hw_, hX, hY, hG⟩
 have ky := hY.cell
 go_wp2_with fail
 clear ky
 refine (ihandOk_any q.2 _).mono ?_
 rintro e w7 ⟨rfl, hb⟩
 replace hX := hX.below hb hX.lt
 replace hY := hY.below hb hY.lt
 replace hG := (hG.below hb (Nat.le_refl _)).mono (Nat.le_refl _) hb.size
 replace hx := hx.below hb hx.lt
 replace hy := hy.below hb hy.lt
 replace hz := hz.below hb hz.lt
 replace hw_ := hw_.below hb hw_.lt
 have h7 := hb.size
 replace hB := bstep hB hB.size hb
 clear hb
 cases hqo : q.2.ok
 ·
  have HQK := Lib.hid hqo; clear hqo
  go_upto_region 7 with fail
  have HV := Lib.hid (show oneQ true q s (⟨at_, v, r, t, seen, tr, sp, ag, re⟩ : Hd) = (s, (⟨at_, v, r, t, seen, tr, sp, ag, re⟩ : Hd), false) by simp [oneQ, HOK.out, HHO.out, HQK.out])
  refine ret6 (fun W A n c => RgsD w.heap.size W.heap.size W A n c (s).rs) gD_b gD_s w false s lo hi A n cap (⟨at_, v, r, t, seen, tr, sp, ag, re⟩ : Hd) w.heap.size (w.heap.size + 1) (by kernel_rfl) (by kernel_rfl) (by kernel_rfl) (by kernel_rfl) (by kernel_rfl) (by omega) ⟨hB, hx, hy, hz, hw_, hs.below hB hh, Nat.le_trans hh hB.size⟩ ?k0 ?k1 ?k2 ?k3 ?k4 ?k5 ?hQ
  case k0 | k2 | k3 | k4 =>
   exact zpsG5
  case k5 =>
   intros
   refine OpGoes.go fun K hK => ?_
   go_simp
   exact hK _ _ ⟨rfl, rfl⟩
  case k1 =>
   exact zpsG4
  case hQ =>
   clear hB hx hy hz hw_ hX hY hG
   exact zpsG2
 ·
  have HQK := Lib.hid hqo; clear hqo
  go_upto_region 8 with fail
  have HV := Lib.hid (show oneQ true q s (⟨at_, v, r, t, seen, tr, sp, ag, re⟩ : Hd) = (q.1, q.2, true) by simp [oneQ, HOK.out, HHO.out, HQK.out])
  refine ret6 (fun W A n c => RgsD w.heap.size W.heap.size W A n c (q.1).rs) gD_b gD_s w true q.1 0 w7.heap.size A5 n5 c5 q.2 X2 (X2 + 1) (by kernel_rfl) (by kernel_rfl) (by kernel_rfl) (by kernel_rfl) (by kernel_rfl) (by omega) ⟨hB, hX, hY, hz, hw_, hG, Nat.le_refl _⟩ ?k0 ?k1 ?k2 ?k3 ?k4 ?k5 ?hQ
  case k0 | k2 | k3 | k4 =>
   exact zpsG5
  case k5 =>
   intros
   refine OpGoes.go fun K hK => ?_
   go_simp
   exact hK _ _ ⟨rfl, rfl⟩
  case k1 =>
   intro W' hBW hGW hhW
   refine OpGoes.go fun K hK => ?_
   go_simp
   refine (icopy_any q.1 A5 n5 c5 0 w7.heap.size _ hGW hhW (by have := HQN.out.1; have := hGW.1; omega) (by have := HQN.out.2.1; have := hGW.1; omega) HQN.out.cp).mono ?_
   rintro e w9 ⟨b9, c9, rfl, hD, hb9⟩
   exact ⟨_, rfl, hK _ _ ⟨_, _, _, rfl, hD.mono hBW.size (Nat.le_refl _), hb9⟩⟩
  case hQ =>
   clear hB hx hy hz hw_ hX hY hG
   intro σ W' A9 n9 c9 e5 hB k7 k8 hD
   replace k7 := k7.cell
   replace k8 := k8.cell
   simp only [lexAll]
   go_simp
   go_step
   go_wp2
   refine bodyPost_ret (v := .tuple #[stV q.1 A9 n9 c9, hdV q.2, .bool true]) (by simp [results, Tryz.results84, go_sem, k7, k8, stV, hdV]) rfl ⟨A9, n9, c9, by rw [HV.out], ?_, hB⟩
   rw [HV.out]
   exact hD
end Go.Proofs.YthpckpnlohfcbaaGreatDoor
namespace Go.Proofs.YthpckpnlohfcbaaGreatDoor
set_option linter.unusedSimpArgs false
set_option linter.unusedVariables false
open Go.RowKit
set_option linter.unusedVariables false
attribute [local go_sem] OpUpon
attribute [local go_sem ↓] Go.wp_at_zero Go.wp_at_succ
def fidOf (z : Int) : Nat := [0, 113, 114, 115, 116, 117, 118, 119, 120, 121, 122, 123, 124].getD z.toNat 0
def asksB (z : Int) : Bool := z == 10
theorem wpList_build_v {P : Program} {ops : Array Oper} {rest : List Oper} {o : Oper} {a : Act} {w : World} {Q : Exit → Act → World → Prop} (hg : o.guard = none) (t : TypeId) (parts : Array (Nat × Operand)) (ho : o.op = .build t parts) (cells : Array Value)
  (hf : P.built t (parts.map fun (i, x) => (i, a.eval x)).toList = some cells) (h : wpList P ops Q rest (a.put o.dst (.agg cells)) w) : wpList P ops Q (o :: rest) a w :=
 wpList_build hg t parts ho (by rw [hf]; rfl) (by rw [hf]; exact h)
set_option maxRecDepth 100000 in
set_option maxHeartbeats 4000000 in
theorem iputSteps_any (w : World) : Calls Tryz.prog 105 #[] w (RetBelow (.agg #[.nilFunc, .bool false, .func (.func 113) #[] #[], .bool false, .func (.func 114) #[] #[], .bool false, .func (.func 115) #[] #[], .bool false, .func (.func 116) #[] #[], .bool false, .func (.func 117) #[] #[], .bool false, .func (.func 118) #[] #[], .bool false, .func (.func 119) #[] #[], .bool false, .func (.func 120) #[] #[], .bool false, .func (.func 121) #[] #[], .bool false, .func (.func 122) #[] #[], .bool true, .func (.func 123) #[] #[], .bool false, .func (.func 124) #[] #[], .bool false]) w) := by
 go_enter Tryz.func105, Tryz.ntmps105
 go_upto_region 1 with fail
 refine wp_abs (fun W => Below w.heap.size w W ∧ BoxAt W w.heap.size #[.nilFunc, .bool false, .nilFunc, .bool false, .nilFunc, .bool false, .nilFunc, .bool false, .nilFunc, .bool false, .nilFunc, .bool false, .nilFunc, .bool false, .nilFunc, .bool false, .nilFunc, .bool false, .nilFunc, .bool false, .nilFunc, .bool false, .nilFunc, .bool false, .nilFunc, .bool false] 119) ⟨(Below.refl _ _).alloc (Nat.le_refl _) _, BoxAt.new _ _ _⟩ ?_
 rintro W ⟨hB, hz⟩
 go_cut [13] (fun _ W' => Below w.heap.size w W' ∧ BoxAt W' w.heap.size #[.nilFunc, .bool false, .func (.func 113) #[] #[], .bool false, .func (.func 114) #[] #[], .bool false, .func (.func 115) #[] #[], .bool false, .func (.func 116) #[] #[], .bool false, .func (.func 117) #[] #[], .bool false, .func (.func 118) #[] #[], .bool false, .func (.func 119) #[] #[], .bool false, .func (.func 120) #[] #[], .bool false, .func (.func 121) #[] #[], .bool false, .func (.func 122) #[] #[], .bool true, .func (.func 123) #[] #[], .bool false, .func (.func 124) #[] #[], .bool false] 119)
 case first =>
  refine wp_region_lit ?_
  refine wpList_build_v rfl _ _ rfl #[.func (.func 113) #[] #[], .bool false] (by kernel_rfl) ?_
  refine wpList_build_v rfl _ _ rfl #[.func (.func 114) #[] #[], .bool false] (by kernel_rfl) ?_
  refine wpList_build_v rfl _ _ rfl #[.func (.func 115) #[] #[], .bool false] (by kernel_rfl) ?_
  refine wpList_build_v rfl _ _ rfl #[.func (.func 116) #[] #[], .bool false] (by kernel_rfl) ?_
  refine wpList_build_v rfl _ _ rfl #[.func (.func 117) #[] #[], .bool false] (by kernel_rfl) ?_
  refine wpList_build_v rfl _ _ rfl #[.func (.func 118) #[] #[], .bool false] (by kernel_rfl) ?_
  refine wpList_build_v rfl _ _ rfl #[.func (.func 119) #[] #[], .bool false] (by kernel_rfl) ?_
  refine wpList_build_v rfl _ _ rfl #[.func (.func 120) #[] #[], .bool false] (by kernel_rfl) ?_
  refine wpList_build_v rfl _ _ rfl #[.func (.func 121) #[] #[], .bool false] (by kernel_rfl) ?_
  refine wpList_build_v rfl _ _ rfl #[.func (.func 122) #[] #[], .bool true] (by kernel_rfl) ?_
  refine wpList_build_v rfl _ _ rfl #[.func (.func 123) #[] #[], .bool false] (by kernel_rfl) ?_
  refine wpList_build_v rfl _ _ rfl #[.func (.func 124) #[] #[], .bool false] (by kernel_rfl) ?_
  refine wpList_build_v rfl _ _ rfl #[.nilFunc, .bool false, .func (.func 113) #[] #[], .bool false, .func (.func 114) #[] #[], .bool false, .func (.func 115) #[] #[], .bool false, .func (.func 116) #[] #[], .bool false, .func (.func 117) #[] #[], .bool false, .func (.func 118) #[] #[], .bool false, .func (.func 119) #[] #[], .bool false, .func (.func 120) #[] #[], .bool false, .func (.func 121) #[] #[], .bool false, .func (.func 122) #[] #[], .bool true, .func (.func 123) #[] #[], .bool false, .func (.func 124) #[] #[], .bool false] (by kernel_rfl) ?_
  refine wpList_store_row rfl 119 (.tmp 0) (.tmp 13) rfl w.heap.size #[.nilFunc, .bool false, .func (.func 113) #[] #[], .bool false, .func (.func 114) #[] #[], .bool false, .func (.func 115) #[] #[], .bool false, .func (.func 116) #[] #[], .bool false, .func (.func 117) #[] #[], .bool false, .func (.func 118) #[] #[], .bool false, .func (.func 119) #[] #[], .bool false, .func (.func 120) #[] #[], .bool false, .func (.func 121) #[] #[], .bool false, .func (.func 122) #[] #[], .bool true, .func (.func 123) #[] #[], .bool false, .func (.func 124) #[] #[], .bool false] (by kernel_rfl) (by kernel_rfl) 119 #[.nilFunc, .bool false, .nilFunc, .bool false, .nilFunc, .bool false, .nilFunc, .bool false, .nilFunc, .bool false, .nilFunc, .bool false, .nilFunc, .bool false, .nilFunc, .bool false, .nilFunc, .bool false, .nilFunc, .bool false, .nilFunc, .bool false, .nilFunc, .bool false, .nilFunc, .bool false] hz (by kernel_rfl) rfl (by kernel_rfl) ?_
  go_simp
  go_step
  go_step
  go_step
  go_meet
  exact ⟨hB.trans ⟨rfl, rfl, rfl, by simp, fun k hk => setRow_other _ _ _ _ (by omega)⟩, setRow_heap _ _ _ _ _ _ hz⟩
 case rest =>
  obtain ⟨hB', hz'⟩ := hcut
  clear hB hz
  go_wp2
  exact bodyPost_ret (v := .agg #[.nilFunc, .bool false, .func (.func 113) #[] #[], .bool false, .func (.func 114) #[] #[], .bool false, .func (.func 115) #[] #[], .bool false, .func (.func 116) #[] #[], .bool false, .func (.func 117) #[] #[], .bool false, .func (.func 118) #[] #[], .bool false, .func (.func 119) #[] #[], .bool false, .func (.func 120) #[] #[], .bool false, .func (.func 121) #[] #[], .bool false, .func (.func 122) #[] #[], .bool true, .func (.func 123) #[] #[], .bool false, .func (.func 124) #[] #[], .bool false]) (results_cell_row Tryz.results105 _ _ w.heap.size 119 _ _ _ rfl hz' Tryz.underlying119 rfl (by kernel_rfl)) rfl ⟨rfl, hB'⟩
end Go.Proofs.YthpckpnlohfcbaaGreatDoor
namespace Go.Proofs.YthpckpnlohfcbaaGreatDoor
set_option linter.unusedSimpArgs false
set_option linter.unusedVariables false
open Go.RowKit
set_option linter.unusedVariables false
attribute [local go_sem] OpUpon
attribute [local go_sem ↓] Go.wp_at_zero Go.wp_at_succ
set_option maxRecDepth 100000 in
set_option maxHeartbeats 4000000 in
theorem ispare_any (s : St) (A : Option Addr) (n cap : Nat) (h : Hd) (w : World) (hn : s.rs.length = n) (hm : n ≤ 1048576) :
  Calls Tryz.prog 92 #[hdV h, stV s A n cap] w (RetBelow (.bool (decide (h.sp = -1) || ringB s h.sp)) w) := by
 obtain ⟨at_, v, r, t, seen, tr, sp, ag, re⟩ := h
 unfold stV hdV
 dsimp only
 go_enter Tryz.func92, Tryz.ntmps92
 go_upto_region 1 with fail
 refine wp_abs (fun W => Below w.heap.size w W ∧ BoxAt W w.heap.size (dH at_ v r t seen tr sp ag re) 35 ∧ BoxAt W (w.heap.size + 1) (aS s A n cap) 32) ⟨((Below.refl _ _).alloc (Nat.le_refl _) _).alloc (by simp) _, (BoxAt.new _ _ _).alloc _, BoxAt.new' (by simp)⟩ ?_
 rintro W ⟨hB, hx, hy⟩
 have kx := hx.cell
 have ky := hy.cell
 by_cases hsp : sp = -1
 ·
  subst hsp
  go_wp2
  go_ret
  exact .mk (by simp) hB
 have HSP := Lib.hid hsp
 go_wp2_with fail
 clear kx ky
 refine (hasRing_any s A n cap sp _ hn hm).mono ?_
 rintro e w1 ⟨rfl, hb⟩
 replace hB := bstep hB hB.size hb
 clear hb hx hy
 go_wp2
 go_ret
 exact .mk (by simp [HSP.out]) hB
end Go.Proofs.YthpckpnlohfcbaaGreatDoor
namespace Go.Proofs.YthpckpnlohfcbaaGreatDoor
set_option linter.unusedSimpArgs false
set_option linter.unusedVariables false
open Go.RowKit
set_option linter.unusedVariables false
attribute [local go_sem] OpUpon
attribute [local go_sem ↓] Go.wp_at_zero Go.wp_at_succ
theorem ips_any (s : St) (A : Option Addr) (n cap lo hi B : Nat) (a0 a1 a2 a3 a4 a5 : Addr) (h : Hd) (w : World) (hs : RgsW lo hi w A n cap s.rs) (hh : hi ≤ w.heap.size) (hok : stOk s = true) (hrb : ringB s h.r = true) (hE : Snt B a0 a1 a2 a3 a4 a5 w) (hho : h.ok = true) (hp : putB h.at_ = true) (hsp : h.at_ = 10 → h.sp = -1 ∨ ringB s h.sp = true) :
  Calls Tryz.prog (fidOf h.at_) #[stV s A n cap, hdV h] w (RetSH (PH (putS s h)) w) := by
 obtain ⟨ht, htr⟩ := hd_nums hho
 obtain ⟨_, _, hv⟩ := hd_facts hho hp
 obtain ⟨a, v, r, t, seen, tr, sp, ag, re⟩ := h
 dsimp only at hrb hp ht htr hsp hv
 have hc : a = 1 ∨ a = 2 ∨ a = 3 ∨ a = 4 ∨ a = 5 ∨ a = 6 ∨ a = 7 ∨ a = 8 ∨ a = 9 ∨ a = 10 ∨ a = 11 ∨ a = 12 := by
  simp only [putB, inB, Bool.and_eq_true, decide_eq_true_eq] at hp
  omega
 clear hp hho
 rcases hc with rfl | rfl | rfl | rfl | rfl | rfl | rfl | rfl | rfl | rfl | rfl | rfl
 · exact ips_1 s A n cap lo hi B a0 a1 a2 a3 a4 a5 v r t seen tr sp ag re w hs hh hok hrb hE
 · exact ips_2 s A n cap lo hi B a0 a1 a2 a3 a4 a5 v r t seen tr sp ag re w hs hh hok hrb hE
 · exact ips_3 s A n cap lo hi B a0 a1 a2 a3 a4 a5 v r t seen tr sp ag re w hs hh hok hrb hE
 · exact ips_4 s A n cap lo hi B a0 a1 a2 a3 a4 a5 v r t seen tr sp ag re w hs hh hok hrb hE
 · exact ips_5 s A n cap lo hi B a0 a1 a2 a3 a4 a5 v r t seen tr sp ag re w hs hh hok hrb hE ht
 · exact ips_6 s A n cap lo hi B a0 a1 a2 a3 a4 a5 v r t seen tr sp ag re w hs hh hok hrb hE
 · exact ips_7 s A n cap lo hi B a0 a1 a2 a3 a4 a5 v r t seen tr sp ag re w hs hh hok hrb hE ht
 · exact ips_8 s A n cap lo hi B a0 a1 a2 a3 a4 a5 v r t seen tr sp ag re w hs hh hok hrb hE ht htr
 · exact ips_9 s A n cap lo hi B a0 a1 a2 a3 a4 a5 v r t seen tr sp ag re w hs hh hok hrb hE
 ·
  rcases hsp rfl with rfl | hsp
  · exact ips_10a s A n cap lo hi B a0 a1 a2 a3 a4 a5 v r t seen tr 0 ag re w hs hh hok hrb hE
  · exact ips_10b s A n cap lo hi B a0 a1 a2 a3 a4 a5 v r t seen tr sp ag re w hs hh hok hrb hE hsp hv
 · exact ips_11 s A n cap lo hi B a0 a1 a2 a3 a4 a5 v r t seen tr sp ag re w hs hh hok hrb hE
 · exact ips_12 s A n cap lo hi B a0 a1 a2 a3 a4 a5 v r t seen tr sp ag re w hs hh hok hrb hE
def blkB (s : St) (a r sp : Int) : Bool := !ringB s r || (asksB a && (sp != -1) && !ringB s sp)
theorem stepS_blk {s : St} (hok : stOk s = true) {h : Hd} (hho : h.ok = true) (hp : putB h.at_ = true) (hb : blkB s h.at_ h.r h.sp = true) : stepS putS putB s h = (s, h, false) := by
 cases hrb : ringB s h.r
 · simp [stepS, hok, hho, hrb]
 ·
  simp only [blkB, hrb, asksB, Bool.not_true, Bool.false_or, Bool.and_eq_true, beq_iff_eq, bne_iff_ne, Bool.not_eq_true'] at hb
  exact stepS_none hok hho hp hrb hb.1.1 hb.1.2 hb.2
theorem blk_no {s : St} {a r sp : Int} (hb : blkB s a r sp = false) : ringB s r = true ∧ (a = 10 → sp = -1 ∨ ringB s sp = true) := by
 simp only [blkB, asksB, Bool.or_eq_false_iff, Bool.not_eq_false', Bool.and_eq_false_iff, beq_eq_false_iff_ne, bne_eq_false_iff_eq] at hb
 refine ⟨hb.1, fun h => ?_⟩
 rcases hb.2 with (h' | h') | h'
 · exact absurd h h'
 · exact .inl h'
 · exact .inr h'
def imAV (s : St) (N n cap : Nat) (A : Option Addr) (at_ v r t : Int) (seen : Pl) (tr sp : Int) (ag : Bool) (re : Int) : List Sl := [.v (.agg #[.nilFunc, .bool false, .func (.func 113) #[] #[], .bool false, .func (.func 114) #[] #[], .bool false, .func (.func 115) #[] #[], .bool false, .func (.func 116) #[] #[], .bool false, .func (.func 117) #[] #[], .bool false, .func (.func 118) #[] #[], .bool false, .func (.func 119) #[] #[], .bool false, .func (.func 120) #[] #[], .bool false, .func (.func 121) #[] #[], .bool false, .func (.func 122) #[] #[], .bool true, .func (.func 123) #[] #[], .bool false, .func (.func 124) #[] #[], .bool false]),
 .v (pT (N + 1)),
 .v at_,
 .v (.agg #[.func (.func (fidOf at_)) #[] #[], .bool false]),
 .v (.bool false),
 .v (.bool true),
 .v (.bool true),
 .v undef,
 .v undef,
 .v undef,
 .v (.bool true),
 .v (.bool true)]
def imCV (s : St) (N n cap : Nat) (A : Option Addr) (v r t : Int) (seen : Pl) (tr sp : Int) (ag : Bool) (re : Int) : List Sl := [.v (.agg #[.nilFunc, .bool false, .func (.func 113) #[] #[], .bool false, .func (.func 114) #[] #[], .bool false, .func (.func 115) #[] #[], .bool false, .func (.func 116) #[] #[], .bool false, .func (.func 117) #[] #[], .bool false, .func (.func 118) #[] #[], .bool false, .func (.func 119) #[] #[], .bool false, .func (.func 120) #[] #[], .bool false, .func (.func 121) #[] #[], .bool false, .func (.func 122) #[] #[], .bool true, .func (.func 123) #[] #[], .bool false, .func (.func 124) #[] #[], .bool false]),
 .v (pT (N + 1)),
 .v (.int .i64 10),
 .v (.agg #[.func (.func (fidOf 10)) #[] #[], .bool true]),
 .v (.bool true),
 .v (.bool false),
 .v (.bool false),
 .v (.agg (dH 10 v r t seen tr sp ag re)),
 .v (.agg (aS s A n cap)),
 .v (.bool ((decide (sp = -1) || ringB s sp))),
 .v (.bool ((decide (sp = -1) || ringB s sp))),
 .v (.bool ((decide (sp = -1) || ringB s sp)))]
def mayPB (s : St) (h : Hd) : Bool := putB h.at_ && !blkB s h.at_ h.r h.sp
set_option maxRecDepth 100000 in
set_option maxHeartbeats 8000000 in
theorem imayPutOn_any (s : St) (A : Option Addr) (n cap : Nat) (h : Hd) (w : World) (hn : s.rs.length = n) (hm : n ≤ 1048576) :
  Calls Tryz.prog 85 #[stV s A n cap, hdV h] w (RetBelow (.bool (mayPB s h)) w) := by
 have HLN := Lib.hid hn; clear hn
 obtain ⟨at_, v, r, t, seen, tr, sp, ag, re⟩ := h
 have hkn : (kindN at_ = 2 ∧ (1 ≤ at_ ∧ at_ ≤ 12)) ∨ (kindN at_ ≠ 2 ∧ putB at_ = false) := by
  by_cases h1 : 1 ≤ at_ ∧ at_ ≤ 12
  ·
   left
   refine ⟨?_, h1⟩
   unfold kindN
   rw [if_neg (by omega), if_pos h1]
  ·
   right
   refine ⟨?_, by simp only [putB, inB, Bool.and_eq_false_iff, decide_eq_false_iff_not]; omega⟩
   unfold kindN
   repeat' split
   all_goals omega
 unfold stV hdV mayPB
 dsimp only
 go_enter Tryz.func85, Tryz.ntmps85
 go_upto_region 1 with fail
 refine wp_abs (fun W => Below w.heap.size w W ∧ BoxAt W w.heap.size (aS s A n cap) 32 ∧ BoxAt W (w.heap.size + 1) (dH at_ v r t seen tr sp ag re) 35) ⟨((Below.refl _ _).alloc (Nat.le_refl _) _).alloc (by simp) _, (BoxAt.new _ _ _).alloc _, BoxAt.new' (by simp)⟩ ?_
 rintro W ⟨hB, hx, hy⟩
 have kx := hx.cell
 have ky := hy.cell
 go_wp2_with fail
 refine (kindOf_any _ _).mono ?_
 rintro e w' ⟨rfl, rfl⟩
 generalize kindN at_ = kn at *
 rcases hkn with ⟨rfl, hk⟩ | ⟨hk0, hk⟩
 rotate_left
 ·
  have HK := Lib.hid hk; clear hk
  have hk1 : (kn != 2) = true := by simpa using hk0
  go_wp2
  go_ret
  exact .mk (by rw [HK.out, Bool.false_and]; rfl) hB
 have HPB := Lib.hid (show putB at_ = true by simp [putB, inB, hk])
 have HAT := Lib.hid hk; clear hk
 go_wp2_with fail
 clear kx ky
 refine (hasRing_any s A n cap r _ HLN.out hm).mono ?_
 rintro e w1 ⟨rfl, hb⟩
 replace hx := hx.below hb hx.lt
 replace hy := hy.below hb hy.lt
 replace hB := bstep hB hB.size hb
 clear hb
 cases hrb : ringB s r
 ·
  have HV := Lib.hid (show Value.bool false = .bool (putB at_ && !blkB s at_ r sp) by simp [blkB, hrb])
  clear hrb
  go_wp2
  go_ret
  exact .mk HV.out hB
 have HRB := Lib.hid hrb; clear hrb
 by_cases h10 : at_ = 10
 ·
  subst h10
  have HV := Lib.hid (show Value.bool (decide (sp = -1) || ringB s sp) = .bool (putB 10 && !blkB s 10 r sp) by
   simp only [blkB, HRB.out, HPB.out, asksB]
   by_cases hsp : sp = -1
   · simp [hsp]
   · simp [hsp])
  go_upto_region 3 with fail
  refine wp_region2v (fun w w' => Below w.heap.size w w') (fun _ _ h => h.size) (fun _ => Below.refl _ _) (fun L W' => Below w.heap.size w W' ∧ BoxAt W' w.heap.size (aS s A n cap) 32 ∧ BoxAt W' (w.heap.size + 1) (dH 10 v r t seen tr sp ag re) 35) (imCV s w.heap.size n cap A v r t seen tr sp ag re) (fun _ => 0) [] (by kernel_rfl) (by kernel_rfl) ?_ ?_ ?_
   (.grow rfl ?a0 <| .still rfl ?a1 <| .still rfl ?a2 <| .grow rfl ?a3 <| .still rfl ?a4 <| .still rfl ?a5 <| .still rfl ?a6 <| .still rfl ?a7 <| .still rfl ?a8 <| .grow rfl ?a9 <| .still rfl ?a10 <| .still rfl ?a11 <| .nil) ?_ ?_
  · exact trivial
  · exact trivial
  · exact ⟨hB.drew, hx, hy⟩
  case a1 | a4 | a5 | a6 | a10 | a11 =>
   go_light
   intro L σ W' hcl hL hC hw
   try have e3 := wT hw 3 rfl
   try have e4 := wT hw 4 rfl
   try have e5 := wT hw 5 rfl
   try have e6 := wT hw 6 rfl
   try have e9 := wT hw 9 rfl
   try have e10 := wT hw 10 rfl
   exact zpsG0
  case a2 | a7 =>
   go_light
   intro L σ W' hcl hL hC hw
   try have e1 := wT hw 1 rfl
   try have e6 := wT hw 6 rfl
   have kh := hC.2.2.cell
   exact zpsG0
  case a8 =>
   go_light
   intro L σ W' hcl hL hC hw
   have e6 := wV hw 6 rfl
   have ks := hC.2.1.cell
   exact zpsG0
  case a0 =>
   exact zpsG3
  case a3 =>
   go_light
   intro L σ W' hcl hL hC hw
   have e0 := wV hw 0 rfl
   have e2 := wV hw 2 rfl
   clear hw
   obtain ⟨hB, hx, hy⟩ := hC
   clear hcl hL
   refine OpGoes.go fun K hK => ?_
   go_simp
   exact hK _ _ ⟨⟨hB, hx, hy⟩, rfl, Below.refl _ _⟩
  case a9 =>
   go_light
   intro L σ W' hcl hL hC hw
   have e6 := wV hw 6 rfl
   have e7 := wV hw 7 rfl
   have e8 := wV hw 8 rfl
   clear hw
   have HC := Lib.hid hC
   clear hC
   clear hcl hL
   refine OpGoes.go fun K hK => ?_
   go_simp
   obtain ⟨hB, hx, hy⟩ := HC.out
   refine (ispare_any s A n cap (⟨10, v, r, t, seen, tr, sp, ag, re⟩ : Hd) _ HLN.out hm).mono ?_
   rintro e w1 ⟨rfl, hb1⟩
   exact ⟨_, rfl, hK _ _ ⟨⟨bstep hB hB.size hb1, hx.below hb1 hx.lt, hy.below hb1 hy.lt⟩, rfl, hb1⟩⟩
  ·
   intro L L' W' hLL hC
   obtain ⟨hB, hx, hy⟩ := hC
   exact ⟨hB, hx, hy⟩
  ·
   exact zpsG6
 ·
  have HV := Lib.hid (show Value.bool true = .bool (putB at_ && !blkB s at_ r sp) by simp [blkB, HRB.out, HPB.out, asksB, h10])
  have HC12 := Lib.hid (show at_ = 1 ∨ at_ = 2 ∨ at_ = 3 ∨ at_ = 4 ∨ at_ = 5 ∨ at_ = 6 ∨ at_ = 7 ∨ at_ = 8 ∨ at_ = 9 ∨ at_ = 11 ∨ at_ = 12 by have := HAT.out; omega)
  go_upto_region 3 with fail
  refine wp_region2v (fun w w' => Below w.heap.size w w') (fun _ _ h => h.size) (fun _ => Below.refl _ _) (fun L W' => Below w.heap.size w W' ∧ BoxAt W' w.heap.size (aS s A n cap) 32 ∧ BoxAt W' (w.heap.size + 1) (dH at_ v r t seen tr sp ag re) 35) (imAV s w.heap.size n cap A at_ v r t seen tr sp ag re) (fun _ => 0) [] (by kernel_rfl) (by kernel_rfl) ?_ ?_ ?_
   (.grow rfl ?a0 <| .still rfl ?a1 <| .still rfl ?a2 <| .grow rfl ?a3 <| .still rfl ?a4 <| .still rfl ?a5 <| .still rfl ?a6 <| .still rfl ?a7 <| .still rfl ?a8 <| .still rfl ?a9 <| .still rfl ?a10 <| .still rfl ?a11 <| .nil) ?_ ?_
  · exact trivial
  · exact trivial
  · exact ⟨hB.drew, hx, hy⟩
  case a1 | a4 | a5 | a6 | a7 | a8 | a9 | a10 | a11 =>
   go_light
   intro L σ W' hcl hL hC hw
   try have e3 := wT hw 3 rfl
   try have e4 := wT hw 4 rfl
   try have e5 := wT hw 5 rfl
   try have e6 := wT hw 6 rfl
   try have e7 := wT hw 7 rfl
   try have e8 := wT hw 8 rfl
   try have e9 := wT hw 9 rfl
   try have e10 := wT hw 10 rfl
   exact zpsG0
  case a2 =>
   go_light
   intro L σ W' hcl hL hC hw
   have e1 := wV hw 1 rfl
   have kh := hC.2.2.cell
   exact zpsG0
  case a0 =>
   exact zpsG3
  case a3 =>
   go_light
   intro L σ W' hcl hL hC hw
   have e0 := wV hw 0 rfl
   have e2 := wV hw 2 rfl
   clear hw
   obtain ⟨hB, hx, hy⟩ := hC
   clear hcl hL
   have hc12 := HC12.out
   refine OpGoes.step fun K hK => ?_
   rcases hc12 with h | h | h | h | h | h | h | h | h | h | h <;> (subst h; unfold OpGoes; go_simp; exact hK _ _ ⟨⟨hB, hx, hy⟩, rfl, Below.refl _ _⟩)
  ·
   intro L L' W' hLL hC
   obtain ⟨hB, hx, hy⟩ := hC
   exact ⟨hB, hx, hy⟩
  ·
   exact zpsG6
def ipOV (s : St) (N n cap : Nat) (A : Option Addr) (at_ v r t : Int) (seen : Pl) (tr sp : Int) (ag : Bool) (re : Int) (q : St × Hd) : List Sl := [.v (.agg #[.nilFunc, .bool false, .func (.func 113) #[] #[], .bool false, .func (.func 114) #[] #[], .bool false, .func (.func 115) #[] #[], .bool false, .func (.func 116) #[] #[], .bool false, .func (.func 117) #[] #[], .bool false, .func (.func 118) #[] #[], .bool false, .func (.func 119) #[] #[], .bool false, .func (.func 120) #[] #[], .bool false, .func (.func 121) #[] #[], .bool false, .func (.func 122) #[] #[], .bool true, .func (.func 123) #[] #[], .bool false, .func (.func 124) #[] #[], .bool false]),
 .v (pT (N + 1)),
 .v at_,
 .v (.agg #[.func (.func (fidOf at_)) #[] #[], .bool (asksB at_)]),
 .v (.func (.func (fidOf at_)) #[] #[]),
 .v (.agg (aS s A n cap)),
 .v (.agg (dH at_ v r t seen tr sp ag re)),
 .e fun σ w => ∃ (A5 : Option Addr) (n5 c5 : Nat), σ 7 = .tuple #[.agg (aS q.1 A5 n5 c5), .agg (aH q.2)] ∧ RgsW 0 w.heap.size w A5 n5 c5 q.1.rs,
 .e fun σ w => ∃ (A5 : Option Addr) (n5 c5 : Nat), σ 8 = .agg (aS q.1 A5 n5 c5) ∧ RgsW 0 w.heap.size w A5 n5 c5 q.1.rs,
 .v (.agg (aH q.2)),
 .e fun σ w => ∃ (A5 : Option Addr) (n5 c5 : Nat), BoxAt w (N + 1 + 1) (aS q.1 A5 n5 c5) 32 ∧ RgsW 0 w.heap.size w A5 n5 c5 q.1.rs,
 .e fun σ w => BoxAt w (N + 1 + 1 + 1) (aH q.2) 35]
theorem enters_fid {at_ : Int} (h : at_ = 1 ∨ at_ = 2 ∨ at_ = 3 ∨ at_ = 4 ∨ at_ = 5 ∨ at_ = 6 ∨ at_ = 7 ∨ at_ = 8 ∨ at_ = 9 ∨ at_ = 10 ∨ at_ = 11 ∨ at_ = 12) : Enters Tryz.prog (fidOf at_) := by
 rcases h with rfl | rfl | rfl | rfl | rfl | rfl | rfl | rfl | rfl | rfl | rfl | rfl
 · exact enters_of Tryz.func113 (by kernel_rfl) rfl
 · exact enters_of Tryz.func114 (by kernel_rfl) rfl
 · exact enters_of Tryz.func115 (by kernel_rfl) rfl
 · exact enters_of Tryz.func116 (by kernel_rfl) rfl
 · exact enters_of Tryz.func117 (by kernel_rfl) rfl
 · exact enters_of Tryz.func118 (by kernel_rfl) rfl
 · exact enters_of Tryz.func119 (by kernel_rfl) rfl
 · exact enters_of Tryz.func120 (by kernel_rfl) rfl
 · exact enters_of Tryz.func121 (by kernel_rfl) rfl
 · exact enters_of Tryz.func122 (by kernel_rfl) rfl
 · exact enters_of Tryz.func123 (by kernel_rfl) rfl
 · exact enters_of Tryz.func124 (by kernel_rfl) rfl
set_option maxRecDepth 100000 in
set_option maxHeartbeats 8000000 in
theorem iputOn_any (s : St) (A : Option Addr) (n cap lo hi B : Nat) (a0 a1 a2 a3 a4 a5 : Addr) (h : Hd) (w : World) (hs : RgsW lo hi w A n cap s.rs) (hh : hi ≤ w.heap.size) (hok : stOk s = true) (hE : Snt B a0 a1 a2 a3 a4 a5 w) (hho : h.ok = true) (hmb : mayPB s h = true) :
  Calls Tryz.prog 86 #[stV s A n cap, hdV h] w (RetSH (PH (putS s h)) w) := by
 simp only [mayPB, Bool.and_eq_true, Bool.not_eq_true'] at hmb
 obtain ⟨hp, hb_⟩ := hmb
 obtain ⟨hrb, hsp⟩ := blk_no hb_
 clear hb_
 have HST := Lib.hid (fun (W : World) (hBW : Below w.heap.size w W) => ips_any s A n cap lo hi B a0 a1 a2 a3 a4 a5 h W (hs.below hBW hh) (Nat.le_trans hh hBW.size) hok hrb (hE.below hBW) hho hp hsp)
 clear hE hok hrb hsp hho
 generalize PH (putS s h) = q at *
 obtain ⟨at_, v, r, t, seen, tr, sp, ag, re⟩ := h
 have HC12 := Lib.hid (show at_ = 1 ∨ at_ = 2 ∨ at_ = 3 ∨ at_ = 4 ∨ at_ = 5 ∨ at_ = 6 ∨ at_ = 7 ∨ at_ = 8 ∨ at_ = 9 ∨ at_ = 10 ∨ at_ = 11 ∨ at_ = 12 by
  simp only [putB, inB, Bool.and_eq_true, decide_eq_true_eq] at hp
  omega)
 have HEN := Lib.hid (enters_fid HC12.out)
 clear hp
 unfold stV hdV at HST
 unfold stV hdV
 dsimp only at HST ⊢
 go_enter Tryz.func86, Tryz.ntmps86
 go_upto_region 1 with fail
 refine wp_abs (fun W => Below w.heap.size w W ∧ BoxAt W w.heap.size (aS s A n cap) 32 ∧ BoxAt W (w.heap.size + 1) (dH at_ v r t seen tr sp ag re) 35 ∧ BoxAt W (w.heap.size + 1 + 1) zS 32 ∧ BoxAt W (w.heap.size + 1 + 1 + 1) zH 35) ⟨(((((Below.refl _ _).alloc (Nat.le_refl _) _).alloc (by simp) _).alloc (by simp; omega) _).alloc (by simp; omega) _), (((BoxAt.new _ _ _).alloc _).alloc _).alloc _, ((BoxAt.new' (by simp)).alloc _).alloc _, (BoxAt.new' (by simp)).alloc _, BoxAt.new' (by simp)⟩ ?_
 rintro W0 ⟨hB, hx, hy, hz, hw_⟩
 have lw0 := hw_.lt
 have hs0 := hs.below hB hh
 have kx := hx.cell
 have ky := hy.cell
 have fy := hy.frozen
 clear kx ky fy hs0
 refine wp_region2v (fun w w' => Below w.heap.size w w') (fun _ _ h => h.size) (fun _ => Below.refl _ _) (fun L W' => Below w.heap.size w W' ∧ BoxAt W' w.heap.size (aS s A n cap) 32 ∧ BoxAt W' (w.heap.size + 1) (dH at_ v r t seen tr sp ag re) 35 ∧ (∃ x0 x1 x2 x3 x4, BoxAt W' (w.heap.size + 1 + 1) #[x0, x1, x2, x3, x4] 32) ∧ (L 10 = false → BoxAt W' (w.heap.size + 1 + 1) zS 32) ∧ (∃ x0 x1 x2 x3 x4 x5 x6 x7 x8 x9 x10 x11, BoxAt W' (w.heap.size + 1 + 1 + 1) #[x0, x1, x2, x3, x4, x5, x6, x7, x8, x9, x10, x11] 35) ∧ (L 11 = false → BoxAt W' (w.heap.size + 1 + 1 + 1) zH 35)) (ipOV s w.heap.size n cap A at_ v r t seen tr sp ag re q) (fun j => [0, 0, 0, 0, 0, 0, 0, 0, 0, 0, 1, 1].getD j 0) [] (by kernel_rfl) (by kernel_rfl) ?_ ?_ ?_
  (.grow rfl ?a0 <| .still rfl ?a1 <| .still rfl ?a2 <| .grow rfl ?a3 <| .still rfl ?a4 <| .still rfl ?a5 <| .still rfl ?a6 <| .grow rfl ?a7 <| .still rfl ?a8 <| .still rfl ?a9 <| .store rfl ?a10 <| .store rfl ?a11 <| .nil) ?_ ?_
 · exact ⟨fun _ _ _ h ⟨A5, n5, c5, e, hp⟩ => ⟨A5, n5, c5, (h 7 (List.mem_singleton.2 rfl)).symm.trans e, hp⟩, fun _ _ _ h ⟨A5, n5, c5, e, hp⟩ => ⟨A5, n5, c5, (h 8 (List.mem_singleton.2 rfl)).symm.trans e, hp⟩, fun _ _ _ _ h => h, fun _ _ _ _ h => h, trivial⟩
 · exact ⟨fun σ w w' hb ⟨A5, n5, c5, e, hp⟩ => ⟨A5, n5, c5, e, (hp.below hb (Nat.le_refl _)).mono (Nat.le_refl _) hb.size⟩, fun σ w w' hb ⟨A5, n5, c5, e, hp⟩ => ⟨A5, n5, c5, e, (hp.below hb (Nat.le_refl _)).mono (Nat.le_refl _) hb.size⟩, fun σ w w' hb ⟨A5, n5, c5, hx, hp⟩ => ⟨A5, n5, c5, hx.below hb hx.lt, (hp.below hb (Nat.le_refl _)).mono (Nat.le_refl _) hb.size⟩, fun σ w w' hb hR => hR.below hb hR.lt, trivial⟩
 · exact ⟨hB.drew, hx, hy, ⟨_, _, _, _, _, hz⟩, fun _ => hz, ⟨_, _, _, _, _, _, _, _, _, _, _, _, hw_⟩, fun _ => hw_⟩
 case a1 | a4 =>
  go_light
  intro L σ W' hcl hL hC hw
  try have e3 := wT hw 3 rfl
  exact zpsG0
 case a2 | a6 =>
  go_light
  intro L σ W' hcl hL hC hw
  try have e1 := wT hw 1 rfl
  have kh := hC.2.2.1.cell
  exact zpsG0
 case a5 =>
  go_light
  intro L σ W' hcl hL hC hw
  have ks := hC.2.1.cell
  exact zpsG0
 case a0 =>
  go_light
  intro L σ W' hcl hL hC hw
  clear hw
  have HC := Lib.hid hC
  clear hC
  clear hcl hL
  refine OpGoes.go fun K hK => ?_
  go_simp
  obtain ⟨hB, hx, hy, ⟨_, _, _, _, _, hz⟩, hz_o, ⟨_, _, _, _, _, _, _, _, _, _, _, _, hw_⟩, hw__o⟩ := HC.out
  refine (iputSteps_any _).mono ?_
  rintro e w1 ⟨rfl, hb1⟩
  exact ⟨_, rfl, hK _ _ ⟨⟨bstep hB hB.size hb1, hx.below hb1 hx.lt, hy.below hb1 hy.lt, ⟨_, _, _, _, _, hz.below hb1 hz.lt⟩, fun h => (hz_o (by simpa [upd] using h)).below hb1 (hz_o (by simpa [upd] using h)).lt, ⟨_, _, _, _, _, _, _, _, _, _, _, _, hw_.below hb1 hw_.lt⟩, fun h => (hw__o (by simpa [upd] using h)).below hb1 (hw__o (by simpa [upd] using h)).lt⟩, rfl, hb1⟩⟩
 case a3 =>
  go_light
  intro L σ W' hcl hL hC hw
  have e0 := wV hw 0 rfl
  have e2 := wV hw 2 rfl
  clear hw
  obtain ⟨hB, hx, hy, ⟨_, _, _, _, _, hz⟩, hz_o, ⟨_, _, _, _, _, _, _, _, _, _, _, _, hw_⟩, hw__o⟩ := hC
  clear hcl hL
  have hc12 := HC12.out
  refine OpGoes.step fun K hK => ?_
  rcases hc12 with h | h | h | h | h | h | h | h | h | h | h | h <;> (subst h; unfold OpGoes; go_simp; exact hK _ _ ⟨⟨hB, hx, hy, ⟨_, _, _, _, _, hz⟩, fun h => hz_o (by simpa [upd] using h), ⟨_, _, _, _, _, _, _, _, _, _, _, _, hw_⟩, fun h => hw__o (by simpa [upd] using h)⟩, rfl, Below.refl _ _⟩)
 case a7 =>
  go_light
  intro L σ W' hcl hL hC hw
  have e4 := wV hw 4 rfl
  have e5 := wV hw 5 rfl
  have e6 := wV hw 6 rfl
  clear hw
  have HC := Lib.hid hC
  obtain ⟨hB, hx, hy, ⟨_, _, _, _, _, hz⟩, hz_o, ⟨_, _, _, _, _, _, _, _, _, _, _, _, hw_⟩, hw__o⟩ := hC
  have hen := HEN.out
  unfold Enters at hen
  clear hcl hL
  clear hB hx hy hz hz_o hw_ hw__o
  refine OpGoes.go fun K hK => ?_
  go_simp
  obtain ⟨hB, hx, hy, ⟨_, _, _, _, _, hz⟩, hz_o, ⟨_, _, _, _, _, _, _, _, _, _, _, _, hw_⟩, hw__o⟩ := HC.out
  refine (HST.out _ hB).mono ?_
  rintro e w1 ⟨A5, n5, c5, rfl, hG5, hb1⟩
  exact ⟨_, rfl, hK _ _ ⟨⟨bstep hB hB.size hb1, hx.below hb1 hx.lt, hy.below hb1 hy.lt, ⟨_, _, _, _, _, hz.below hb1 hz.lt⟩, fun h => (hz_o (by simpa [upd] using h)).below hb1 (hz_o (by simpa [upd] using h)).lt, ⟨_, _, _, _, _, _, _, _, _, _, _, _, hw_.below hb1 hw_.lt⟩, fun h => (hw__o (by simpa [upd] using h)).below hb1 (hw__o (by simpa [upd] using h)).lt⟩, ⟨A5, n5, c5, rfl, hG5⟩, hb1⟩⟩
 case a8 =>
  go_light
  intro L σ W' hcl hL hC hw
  obtain ⟨A5, n5, c5, e7, hp7⟩ := wE hw 7 rfl
  clear hw hcl hL hC
  refine OpGoes.go fun K hK => ?_
  go_simp
  exact hK _ _ ⟨rfl, ⟨A5, n5, c5, rfl, hp7⟩⟩
 case a9 =>
  go_light
  intro L σ W' hcl hL hC hw
  obtain ⟨A5, n5, c5, e7, hp7⟩ := wE hw 7 rfl
  exact zpsG0
 case a10 =>
  go_light
  intro L σ W' hcl hL hC hw hne
  obtain ⟨A5, n5, c5, e8, hp8⟩ := wE hw 8 rfl
  clear hw hne
  have HC := Lib.hid hC
  obtain ⟨hB, hx, hy, ⟨_, _, _, _, _, hz⟩, hz_o, ⟨_, _, _, _, _, _, _, _, _, _, _, _, hw_⟩, hw__o⟩ := hC
  clear hcl hL
  have kc_ := hz.cell
  have kf_ := hz.frozen
  clear hB hx hy hz hz_o hw_ hw__o
  refine OpGoes.go fun K hK => ?_
  go_simp
  obtain ⟨hB, hx, hy, ⟨_, _, _, _, _, hz⟩, hz_o, ⟨_, _, _, _, _, _, _, _, _, _, _, _, hw_⟩, hw__o⟩ := HC.out
  have hset := sets_all (us := (aS q.1 A5 n5 c5)) hz rfl
  refine hK undef (setCells W' (w.heap.size + 1 + 1) 0 (aS q.1 A5 n5 c5)) ⟨⟨(Below.setCells (by omega) _ 0 hB), (BoxAt.sets_ne _ 0 hx (by omega)), (BoxAt.sets_ne _ 0 hy (by omega)), ⟨_, _, _, _, _, hset⟩, fun h => absurd h (by simp [upd]), ⟨_, _, _, _, _, _, _, _, _, _, _, _, (BoxAt.sets_ne _ 0 hw_ (by omega))⟩, fun h => (BoxAt.sets_ne _ 0 (hw__o (by simpa [upd] using h)) (by omega))⟩, ⟨A5, n5, c5, hset, ((RgsW.setsT hp8 hz (by decide) (by decide) _ 0).mono (Nat.le_refl _) (Nat.le_of_eq (sets_size _ _ _).symm))⟩, Nat.le_of_eq (sets_size _ _ _).symm, keepV ?_⟩
  exact ⟨fun _ _ ⟨A5_x, n5_x, c5_x, e, hp⟩ => ⟨A5_x, n5_x, c5_x, e, ((RgsW.setsT hp hz (by decide) (by decide) _ 0).mono (Nat.le_refl _) (Nat.le_of_eq (sets_size _ _ _).symm))⟩, fun _ _ ⟨A5_x, n5_x, c5_x, e, hp⟩ => ⟨A5_x, n5_x, c5_x, e, ((RgsW.setsT hp hz (by decide) (by decide) _ 0).mono (Nat.le_refl _) (Nat.le_of_eq (sets_size _ _ _).symm))⟩, fun h => absurd rfl h, fun _ _ hR => (BoxAt.sets_ne _ 0 hR (by omega)), trivial⟩
 case a11 =>
  go_light
  intro L σ W' hcl hL hC hw hne
  have e9 := wV hw 9 rfl
  clear hw hne
  have HC := Lib.hid hC
  obtain ⟨hB, hx, hy, ⟨_, _, _, _, _, hz⟩, hz_o, ⟨_, _, _, _, _, _, _, _, _, _, _, _, hw_⟩, hw__o⟩ := hC
  clear hcl hL
  have kc_ := hw_.cell
  have kf_ := hw_.frozen
  clear hB hx hy hz hz_o hw_ hw__o
  refine OpGoes.go fun K hK => ?_
  go_simp
  obtain ⟨hB, hx, hy, ⟨_, _, _, _, _, hz⟩, hz_o, ⟨_, _, _, _, _, _, _, _, _, _, _, _, hw_⟩, hw__o⟩ := HC.out
  have hset := sets_all (us := (aH q.2)) hw_ rfl
  refine hK undef (setCells W' (w.heap.size + 1 + 1 + 1) 0 (aH q.2)) ⟨⟨(Below.setCells (by omega) _ 0 hB), (BoxAt.sets_ne _ 0 hx (by omega)), (BoxAt.sets_ne _ 0 hy (by omega)), ⟨_, _, _, _, _, (BoxAt.sets_ne _ 0 hz (by omega))⟩, fun h => (BoxAt.sets_ne _ 0 (hz_o (by simpa [upd] using h)) (by omega)), ⟨_, _, _, _, _, _, _, _, _, _, _, _, hset⟩, fun h => absurd h (by simp [upd])⟩, hset, Nat.le_of_eq (sets_size _ _ _).symm, keepV ?_⟩
  exact ⟨fun _ _ ⟨A5_x, n5_x, c5_x, e, hp⟩ => ⟨A5_x, n5_x, c5_x, e, ((RgsW.setsT hp hw_ (by decide) (by decide) _ 0).mono (Nat.le_refl _) (Nat.le_of_eq (sets_size _ _ _).symm))⟩, fun _ _ ⟨A5_x, n5_x, c5_x, e, hp⟩ => ⟨A5_x, n5_x, c5_x, e, ((RgsW.setsT hp hw_ (by decide) (by decide) _ 0).mono (Nat.le_refl _) (Nat.le_of_eq (sets_size _ _ _).symm))⟩, fun _ _ ⟨A5, n5, c5, hx, hp⟩ => ⟨A5, n5, c5, (BoxAt.sets_ne _ 0 hx (by omega)), ((RgsW.setsT hp hw_ (by decide) (by decide) _ 0).mono (Nat.le_refl _) (Nat.le_of_eq (sets_size _ _ _).symm))⟩, fun h => absurd rfl h, trivial⟩
 ·
  intro L L' W' hLL hC
  obtain ⟨hB, hx, hy, ⟨_, _, _, _, _, hz⟩, hz_o, ⟨_, _, _, _, _, _, _, _, _, _, _, _, hw_⟩, hw__o⟩ := hC
  exact ⟨hB, hx, hy, ⟨_, _, _, _, _, hz⟩, fun h => hz_o (hLL _ h), ⟨_, _, _, _, _, _, _, _, _, _, _, _, hw_⟩, fun h => hw__o (hLL _ h)⟩
 ·
  intro σ L W' hall hC hRR
  obtain ⟨hB, hx, hy, ⟨_, _, _, _, _, hz⟩, hz_o, ⟨_, _, _, _, _, _, _, _, _, _, _, _, hw_⟩, hw__o⟩ := hC
  obtain ⟨A5, n5, c5, s10, hp10⟩ := dE hRR 10 rfl
  have s11 := dE hRR 11 rfl
  clear hRR
  simp only [lexAll]
  go_simp
  replace s10 := s10.cell
  replace s11 := s11.cell
  go_step
  go_wp2
  refine bodyPost_ret (v := .tuple #[stV q.1 A5 n5 c5, hdV q.2]) (by simp [results, Tryz.results86, go_sem, s10, s11, stV, hdV]) rfl ⟨A5, n5, c5, rfl, hp10, hB⟩
theorem oneQ_put {s : St} {h : Hd} : oneQ (mayPB s h) (PH (putS s h)) s h = stepS putS putB s h := by
 unfold oneQ
 cases hok : stOk s
 · simp [stepS, hok]
 cases hho : h.ok
 · simp [stepS, hok, hho]
 cases hp : putB h.at_
 · simp [stepS, hok, hho, hp, mayPB]
 cases hb : blkB s h.at_ h.r h.sp
 ·
  obtain ⟨hrb, hsp⟩ := blk_no hb
  rw [stepS_put hok hho hp hrb hsp]
  rw [show mayPB s h = true by simp [mayPB, hp, hb]]
  rfl
 ·
  rw [stepS_blk hok hho hp hb]
  simp [mayPB, hp, hb]
set_option maxRecDepth 100000 in
set_option maxHeartbeats 4000000 in
theorem iputStep_any (s : St) (A : Option Addr) (n cap lo hi B : Nat) (a0 a1 a2 a3 a4 a5 : Addr) (h : Hd) (w : World) (hs : RgsW lo hi w A n cap s.rs) (hh : hi ≤ w.heap.size) (hm : n ≤ 1048576) (hpn : ∀ r ∈ s.rs, r.ps.length ≤ 1048576) (hE : Snt B a0 a1 a2 a3 a4 a5 w) :
  Calls Tryz.prog 54 #[stV s A n cap, hdV h] w (RetSHBD (stepS putS putB s h) w) := by
 have hln := hs.1
 have HQ := Lib.hid (fun (W : World) (hBW : Below w.heap.size w W) => ione_any s A n cap lo hi h 85 86 (mayPB s h) (PH (putS s h)) W (hs.below hBW hh) (Nat.le_trans hh hBW.size) hm hpn (enters_of Tryz.func85 (by kernel_rfl) rfl) (enters_of Tryz.func86 (by kernel_rfl) rfl)
  (fun _ _ W' _ => imayPutOn_any s A n cap h W' hln hm)
  (fun hok hho hmb => by
   have hmb' := hmb
   simp only [mayPB, Bool.and_eq_true, Bool.not_eq_true'] at hmb'
   exact ⟨(putS_ok hok hho hmb'.1 (blk_no hmb'.2).2).1, fun W' hB' => iputOn_any s A n cap lo hi B a0 a1 a2 a3 a4 a5 h W' ((hs.below hBW hh).below hB' (Nat.le_trans hh hBW.size)) (Nat.le_trans hh (Nat.le_trans hBW.size hB'.size)) hok ((hE.below hBW).below hB') hho hmb⟩))
 rw [oneQ_put] at HQ
 generalize stepS putS putB s h = q at *
 clear hE hpn hln
 obtain ⟨at_, v, r, t, seen, tr, sp, ag, re⟩ := h
 unfold stV hdV at HQ
 unfold stV hdV
 dsimp only at HQ ⊢
 go_enter Tryz.func54, Tryz.ntmps54
 go_upto_region 1 with fail
 refine wp_abs (fun W => Below w.heap.size w W ∧ BoxAt W w.heap.size (aS s A n cap) 32 ∧ BoxAt W (w.heap.size + 1) (dH at_ v r t seen tr sp ag re) 35 ∧ BoxAt W (w.heap.size + 1 + 1) zS 32 ∧ BoxAt W (w.heap.size + 1 + 1 + 1) zH 35) ⟨(((((Below.refl _ _).alloc (Nat.le_refl _) _).alloc (by simp) _).alloc (by simp; omega) _).alloc (by simp; omega) _), (((BoxAt.new _ _ _).alloc _).alloc _).alloc _, ((BoxAt.new' (by simp)).alloc _).alloc _, (BoxAt.new' (by simp)).alloc _, BoxAt.new' (by simp)⟩ ?_
 rintro W0 ⟨hB, hx, hy, hz, hw_⟩
 have lw0 := hw_.lt
 have hs0 := hs.below hB hh
 have kx := hx.cell
 have ky := hy.cell
 have fy := hy.frozen
 go_wp2_with fail
 clear kx ky fy hs0
 refine (HQ.out _ hB).mono ?_
 rintro e w1 ⟨A5, n5, c5, rfl, hG, hb⟩
 replace hz := hz.below hb hz.lt
 replace hw_ := hw_.below hb hw_.lt
 have l1 := hb.size
 have l0 := hB.size
 replace hB := bstep hB hB.size hb
 clear hb
 unfold stV hdV
 have kz := hz.cell
 have fz := hz.frozen
 have kw := hw_.cell
 have fw := hw_.frozen
 go_wp2
 refine bodyPost_ret (v := .tuple #[stV q.1 A5 n5 c5, hdV q.2.1, q.2.2]) (by simp [results, Tryz.results54, go_sem, kz, kw, stV, hdV]) rfl ⟨A5, n5, c5, rfl, ?_, ?_⟩
 · exact (RgsD.setsT (RgsD.setsT hG hz (by decide) (by decide) (aS q.1 A5 n5 c5) 0) (BoxAt.sets_ne (aS q.1 A5 n5 c5) 0 hw_ (by omega)) (by decide) (by decide) (aH q.2.1) 0).mono l0 (by simp)
 · exact Below.setCells (by omega) (aH q.2.1) 0 (Below.setCells (by omega) (aS q.1 A5 n5 c5) 0 hB)
end Go.Proofs.YthpckpnlohfcbaaGreatDoor

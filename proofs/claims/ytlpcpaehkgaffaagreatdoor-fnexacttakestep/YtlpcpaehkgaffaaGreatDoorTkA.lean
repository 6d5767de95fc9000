/-
  The walk of the program's steps of one who takes, up to what is got at its place.
-/
import Derived.Test.YtlpcpaehkgaffaaGreatDoorTkB
import Derived.Test.YtlpcpaehkgaffaaGreatDoorTicB
import Derived.Test.YtlpcpaehkgaffaaGreatDoorSwpA
namespace Go.Proofs.YtlpcpaehkgaffaaGreatDoor
set_option linter.unusedSimpArgs false
set_option linter.unusedVariables false
open Go.RowKit
set_option linter.unusedVariables false
attribute [local go_sem] OpUpon
attribute [local go_sem ↓] Go.wp_at_zero Go.wp_at_succ

attribute [local go_sem] fwd_ret fwd_normal fwd_exit

theorem ileft_any (p : Pl) (t n : Int) (w : World) (ht : 0 ≤ t ∧ t ≤ 1000000) (hn : 2 ≤ n ∧ n ≤ 8) :
    Calls Tryz.prog 102 #[.agg #[.bool p.s, .int .i64 p.n, .bool p.f, .int .i64 p.v], .int .i64 t, .int .i64 n] w (RetBelow (.agg #[.bool p.s, .int .i64 (t + n), .bool false, .int .i64 0]) w) := by
  obtain ⟨t0, t1⟩ := ht
  obtain ⟨n0, n1⟩ := hn
  go_enter Tryz.func102, Tryz.ntmps102
  go_wp2
  refine bodyPost_ret (v := .agg #[.bool p.s, .int .i64 (t + n), .bool false, .int .i64 0]) (by simp [results, Tryz.results102, go_sem]) rfl ⟨rfl, ?_⟩
  exact ((Below.refl _ _).alloc (Nat.le_refl _) _).alloc (by simp) _
theorem inotSafe_any (p : Pl) (w : World) : Calls Tryz.prog 105 #[.agg #[.bool p.s, .int .i64 p.n, .bool p.f, .int .i64 p.v]] w (RetBelow (.agg #[.bool false, .int .i64 p.n, .bool p.f, .int .i64 p.v]) w) := by
  go_enter Tryz.func105, Tryz.ntmps105
  go_upto_region 1 with fail
  refine wp_abs (fun W => Below w.heap.size w W ∧ BoxAt W w.heap.size #[.bool p.s, .int .i64 p.n, .bool p.f, .int .i64 p.v] 33 ∧ BoxAt W (w.heap.size + 1) #[.bool false, .int .i64 0, .bool false, .int .i64 0] 33) ⟨((Below.refl _ _).alloc (Nat.le_refl _) _).alloc (by simp) _, (BoxAt.new _ _ _).alloc _, BoxAt.new' (by simp)⟩ ?_
  rintro W ⟨hB, hy, hz⟩
  have ky := hy.cell
  have fy := hy.frozen
  have kz := hz.cell
  have fz := hz.frozen
  go_wp2
  refine bodyPost_ret (v := .agg #[.bool false, .int .i64 p.n, .bool p.f, .int .i64 p.v]) (by simp [results, Tryz.results105, go_sem, kz]) rfl ⟨rfl, ?_⟩
  exact Below.setCells (by omega) [.bool false, .int .i64 p.n, .bool p.f, .int .i64 p.v] 0 (hB.setCell (by dsimp only; omega) _)
def atSeen (p : Pl) (t : Int) : Int := if t < p.n then 19 else if p.f then (if p.n = t then 16 else 17) else 18
set_option maxHeartbeats 1000000 in
theorem iatSeen_any (p : Pl) (t : Int) (w : World) : Calls Tryz.prog 104 #[.agg #[.bool p.s, .int .i64 p.n, .bool p.f, .int .i64 p.v], .int .i64 t] w (RetBelow (.int .i64 (atSeen p t)) w) := by
  go_enter Tryz.func104, Tryz.ntmps104
  by_cases h1 : t < p.n
  · go_wp2
    go_ret
    exact .mk (by simp [atSeen, h1]) ((Below.refl _ _).alloc (Nat.le_refl _) _)
  · cases hf : p.f
    · go_wp2
      go_ret
      exact .mk (by simp [atSeen, h1, hf]) ((Below.refl _ _).alloc (Nat.le_refl _) _)
    · by_cases h2 : p.n = t
      · go_wp2
        go_ret
        exact .mk (by simp [atSeen, h1, hf, h2]) ((Below.refl _ _).alloc (Nat.le_refl _) _)
      · go_wp2
        go_ret
        exact .mk (by simp [atSeen, h1, hf, h2]) ((Below.refl _ _).alloc (Nat.le_refl _) _)
set_option maxHeartbeats 1000000 in
theorem igot_any (h : Hd) (w : World) : Calls Tryz.prog 107 #[hdV h] w (RetBelow (hdV { h.rest 4 with v := h.seen.v }) w) := by
  obtain ⟨at_, v, r, t, seen, tr, sp, ag, re⟩ := h
  unfold hdV
  dsimp only
  go_enter Tryz.func107, Tryz.ntmps107
  go_upto_region 1 with fail
  refine wp_abs (fun W => Below w.heap.size w W ∧ BoxAt W w.heap.size #[.int .i64 at_, .int .i64 v, .int .i64 r, .int .i64 t, .bool seen.s, .int .i64 seen.n, .bool seen.f, .int .i64 seen.v, .int .i64 tr, .int .i64 sp, .bool ag, .int .i64 re] 35 ∧ BoxAt W (w.heap.size + 1) #[.int .i64 0, .int .i64 0, .int .i64 0, .int .i64 0, .bool false, .int .i64 0, .bool false, .int .i64 0, .int .i64 0, .int .i64 0, .bool false, .int .i64 0] 35) ⟨((Below.refl _ _).alloc (Nat.le_refl _) _).alloc (by simp) _, (BoxAt.new _ _ _).alloc _, BoxAt.new' (by simp)⟩ ?_
  rintro W ⟨hB, hy, hz⟩
  have ky := hy.cell
  go_wp2_with fail
  clear ky
  refine (irest_any ⟨at_, v, r, t, seen, tr, sp, ag, re⟩ 4 _).mono ?_
  rintro e w1 ⟨rfl, hb⟩
  replace hy := hy.below hb hy.lt
  replace hz := hz.below hb hz.lt
  replace hB := bstep hB hB.size hb
  clear hb
  unfold hdV
  go_upto_region 2 with fail
  refine wp_abs (fun W => Below w.heap.size w W ∧ BoxAt W w.heap.size #[.int .i64 at_, .int .i64 v, .int .i64 r, .int .i64 t, .bool seen.s, .int .i64 seen.n, .bool seen.f, .int .i64 seen.v, .int .i64 tr, .int .i64 sp, .bool ag, .int .i64 re] 35 ∧ BoxAt W (w.heap.size + 1) #[.int .i64 0, .int .i64 0, .int .i64 0, .int .i64 0, .bool false, .int .i64 0, .bool false, .int .i64 0, .int .i64 0, .int .i64 0, .bool false, .int .i64 0] 35 ∧ BoxAt W w1.heap.size #[.int .i64 0, .int .i64 0, .int .i64 0, .int .i64 0, .bool false, .int .i64 0, .bool false, .int .i64 0, .int .i64 0, .int .i64 sp, .bool false, .int .i64 4] 35) ⟨hB.alloc hB.size _, hy.alloc _, hz.alloc _, by simpa [Hd.rest, Hd.zero] using BoxAt.new _ _ _⟩ ?_
  have lz := hz.lt
  generalize w1.heap.size = X at *
  clear hB hy hz
  rintro W2 ⟨hB, hy, hz, hX⟩
  have ky := hy.cell
  have kz := hz.cell
  have fz := hz.frozen
  have kX := hX.cell
  have fX := hX.frozen
  go_wp2
  refine bodyPost_ret (v := hdV { (⟨at_, v, r, t, seen, tr, sp, ag, re⟩ : Hd).rest 4 with v := seen.v }) (by simp [results, Tryz.results107, go_sem, kz, hdV, Hd.rest, Hd.zero]) rfl ⟨rfl, ?_⟩
  exact Below.setCells (by omega) [.int .i64 0, .int .i64 seen.v, .int .i64 0, .int .i64 0, .bool false, .int .i64 0, .bool false, .int .i64 0, .int .i64 0, .int .i64 sp, .bool false, .int .i64 4] 0 (hB.setCell (by dsimp only; omega) _)

def ta1V (s : St) (N b n cap pb : Nat) (rg : Rg) (p : Pl) (at_ v r t : Int) (seen : Pl) (tr sp : Int) (ag : Bool) (re : Int) (n' cap' : Nat) : List Sl := [.v (.pointer (some ⟨N, 2, none⟩)),
  .v (.slice (some ⟨b, 0, none⟩) n cap),
  .v (.pointer (some ⟨(N + 1), 2, none⟩)),
  .v (.int .i64 r),
  .v (.pointer (some ⟨b, r.toNat * 5, none⟩)),
  .v (.agg #[.int .i64 rg.h, .int .i64 rg.t, .bool rg.c, .int .i64 rg.x, .slice (some ⟨pb, 0, none⟩) n' cap']),
  .v (.pointer (some ⟨(N + 1), 3, none⟩)),
  .v (.int .i64 t),
  .v (.int .i64 (t % s.rd)),
  .v (.int .i64 (t % s.rd)),
  .v (.bool false)]

set_option maxRecDepth 100000 in
set_option maxHeartbeats 8000000 in
theorem igo_any (s : St) (A : Option Addr) (n cap lo hi B : Nat) (a0 a1 a2 a3 a4 a5 : Addr) (at_ v r t : Int) (seen : Pl) (tr sp : Int) (ag : Bool) (re : Int) (w : World) (hs : RgsW lo hi w A n cap s.rs) (hh : hi ≤ w.heap.size) (hok : stOk s = true) (hrb : ringB s r = true) (hE : SntT B a0 a1 a2 a3 a4 a5 w) (ht : 0 ≤ t ∧ t ≤ 1000000) (hat : 13 ≤ at_ ∧ at_ ≤ 18) :
    Calls Tryz.prog 64 #[stV s A n cap, hdV ⟨at_, v, r, t, seen, tr, sp, ag, re⟩] w (RetSH (PH (takeS s ⟨at_, v, r, t, seen, tr, sp, ag, re⟩)) w) := by
  have HOK := Lib.hid hok
  have HRB := Lib.hid hrb
  have HLN := Lib.hid hs.1
  have HNT := Lib.hid (stOk_neat hok)
  have HTA := Lib.hid hat
  obtain ⟨z0, z1, z2⟩ := ringB_at HLN.out hrb
  obtain ⟨t0, t1⟩ := ht
  clear hok hrb hat
  unfold stV hdV
  dsimp only
  go_enter Tryz.func64, Tryz.ntmps64
  go_wp2
  refine wp_scope_let 2 fun cc hcc => ?_
  have HCC := Lib.hid hcc; clear hcc
  go_upto_region 1 with fail
  refine wp_abs (fun W => Below w.heap.size w W ∧ BoxAt W w.heap.size #[.int .i64 s.rd, .int .i64 s.mo, .slice A n cap, .int .i64 s.fi, .int .i64 s.la] 32 ∧ BoxAt W (w.heap.size + 1) #[.int .i64 at_, .int .i64 v, .int .i64 r, .int .i64 t, .bool seen.s, .int .i64 seen.n, .bool seen.f, .int .i64 seen.v, .int .i64 tr, .int .i64 sp, .bool ag, .int .i64 re] 35 ∧ BoxAt W (w.heap.size + 1 + 1) #[.int .i64 0, .int .i64 0, .slice none 0 0, .int .i64 0, .int .i64 0] 32 ∧ BoxAt W (w.heap.size + 1 + 1 + 1) #[.int .i64 0, .int .i64 0, .int .i64 0, .int .i64 0, .bool false, .int .i64 0, .bool false, .int .i64 0, .int .i64 0, .int .i64 0, .bool false, .int .i64 0] 35) ⟨(((((Below.refl _ _).alloc (Nat.le_refl _) _).alloc (by simp) _).alloc (by simp; omega) _).alloc (by simp; omega) _), (((BoxAt.new _ _ _).alloc _).alloc _).alloc _, ((BoxAt.new' (by simp)).alloc _).alloc _, (BoxAt.new' (by simp)).alloc _, BoxAt.new' (by simp)⟩ ?_
  rintro W0 ⟨hB, hx, hy, hz, hw_⟩
  have lw0 := hw_.lt
  have hs0 := hs.below hB hh
  have kx := hx.cell
  have ky := hy.cell
  have fy := hy.frozen
  obtain ⟨b, rg, A', n', cap', rfl, hlb, hbh, hri, c0, c1', c2, c3, c4, hpw⟩ := hs0.at_ z2
  have HAT := Lib.hid (St.at_some (s := s) (z := r) hri)
  have hrd := stOk_rd HOK.out
  have hrp := stOk_places HOK.out rg (List.mem_of_getElem? hri)
  have hn' : n' = rg.ps.length := hpw.1.symm
  obtain ⟨pb, rfl, hpbh, hpo⟩ := hpw.2 (by omega)
  have hm0 := Int.emod_nonneg t (show s.rd ≠ 0 by omega)
  have hm1 := Int.emod_lt_of_pos t (show 0 < s.rd by omega)
  have hkl : (t % s.rd).toNat < rg.ps.length := by omega
  obtain ⟨p, hpx⟩ : ∃ p, rg.ps[(t % s.rd).toNat]? = some p := ⟨_, List.getElem?_eq_getElem hkl⟩
  have he : PlE 0 W0 pb ((t % s.rd).toNat * 4) p := PlE.of_cells fun j u hu => Own.cell_ Pl.cs_len hpo hpx hu
  have hc : RgC W0 b r.toNat rg (some ⟨pb, 0, none⟩) n' cap' := ⟨c0, c1', c2, c3, c4⟩
  have hat0 : t % s.rd < (n' : Int) := by omega
  have hbl2 : b < w.heap.size ∧ pb < w.heap.size := by omega
  have hrok := stOk_rgok HOK.out (List.mem_of_getElem? hri)
  have hPR : ∀ W : World, Below w.heap.size w W → PlsR 0 W (some ⟨pb, 0, none⟩) n' rg.ps := fun W hBW => PlsW.r (lo := lo) (hi := hi) ⟨hpw.1, fun _ => ⟨pb, rfl, hpbh, Own.keep hpo (by rw [hBW.block pb (by omega), hB.block pb (by omega)])⟩⟩
  have HPA := Lib.hid (show ∀ W : World, Below w.heap.size w W → Calls Tryz.prog 101 #[rgV rg.h rg.t rg.c rg.x (some ⟨pb, 0, none⟩) n' cap', .int .i64 t] W (RetBelow (.int .i64 (t % s.rd)) W) from fun W hBW => by
    have := iplaceAt_any rg.h rg.t rg.c rg.x (some ⟨pb, 0, none⟩) n' cap' rg.ps t W (hPR W hBW) (by omega)
    rw [placeAt_yes (by rw [show rgOk rg.h rg.t rg.c rg.x rg.ps = true from hrok, show noB t = true by simp only [noB, Bool.and_eq_true, decide_eq_true_eq]; omega]; rfl), hrp] at this
    exact this)
  unfold rgV at HPA
  have HLK := Lib.hid (show ∀ a, lookAt s ⟨a, v, r, t, seen, tr, sp, ag, re⟩ = p from fun a => by simp [lookAt, HAT.out, hpx])
  clear hpx hpw hpo hs0 hn' hrp hri hrok c0 c1' c2 c3 c4 kx ky fy hPR
  go_cut [6, 7] (fun u u7 W' => Below w.heap.size w W' ∧ BoxAt W' w.heap.size #[.int .i64 s.rd, .int .i64 s.mo, .slice (some ⟨b, 0, none⟩) n cap, .int .i64 s.fi, .int .i64 s.la] 32 ∧ BoxAt W' (w.heap.size + 1) #[.int .i64 at_, .int .i64 v, .int .i64 r, .int .i64 t, .bool seen.s, .int .i64 seen.n, .bool seen.f, .int .i64 seen.v, .int .i64 tr, .int .i64 sp, .bool ag, .int .i64 re] 35 ∧ BoxAt W' (w.heap.size + 1 + 1) #[.int .i64 0, .int .i64 0, .slice none 0 0, .int .i64 0, .int .i64 0] 32 ∧ BoxAt W' (w.heap.size + 1 + 1 + 1) #[.int .i64 0, .int .i64 0, .int .i64 0, .int .i64 0, .bool false, .int .i64 0, .bool false, .int .i64 0, .int .i64 0, .int .i64 0, .bool false, .int .i64 0] 35 ∧ RgC W' b r.toNat rg (some ⟨pb, 0, none⟩) n' cap' ∧ PlE 0 W' pb ((t % s.rd).toNat * 4) p ∧ u = .int .i64 (t % s.rd) ∧ u7 = .bool false)
  case first =>
    refine wp_region2v (fun w w' => Below w.heap.size w w') (fun _ _ h => h.size) (fun _ => Below.refl _ _) (fun L W' => Below w.heap.size w W' ∧ BoxAt W' w.heap.size #[.int .i64 s.rd, .int .i64 s.mo, .slice (some ⟨b, 0, none⟩) n cap, .int .i64 s.fi, .int .i64 s.la] 32 ∧ BoxAt W' (w.heap.size + 1) #[.int .i64 at_, .int .i64 v, .int .i64 r, .int .i64 t, .bool seen.s, .int .i64 seen.n, .bool seen.f, .int .i64 seen.v, .int .i64 tr, .int .i64 sp, .bool ag, .int .i64 re] 35 ∧ BoxAt W' (w.heap.size + 1 + 1) #[.int .i64 0, .int .i64 0, .slice none 0 0, .int .i64 0, .int .i64 0] 32 ∧ BoxAt W' (w.heap.size + 1 + 1 + 1) #[.int .i64 0, .int .i64 0, .int .i64 0, .int .i64 0, .bool false, .int .i64 0, .bool false, .int .i64 0, .int .i64 0, .int .i64 0, .bool false, .int .i64 0] 35 ∧ RgC W' b r.toNat rg (some ⟨pb, 0, none⟩) n' cap' ∧ PlE 0 W' pb ((t % s.rd).toNat * 4) p) (ta1V s w.heap.size b n cap pb rg p at_ v r t seen tr sp ag re n' cap') (fun _ => 0) [] (by kernel_rfl) (by kernel_rfl) ?_ ?_ ?_
      (.still rfl ?a0 <| .still rfl ?a1 <| .still rfl ?a2 <| .still rfl ?a3 <| .still rfl ?a4 <| .still rfl ?a5 <| .still rfl ?a6 <| .still rfl ?a7 <| .grow rfl ?a8 <| .still rfl ?a9 <| .still rfl ?a10 <| .nil) ?_ ?_
    · exact trivial
    · exact trivial
    · exact ⟨hB.drew, hx, hy, hz, hw_, hc, he⟩
    case a0 | a2 | a4 | a6 | a9 | a10 =>
      go_light
      intro L σ W' hcl hL hC hw
      try have e1 := wT hw 1 rfl
      try have e3 := wT hw 3 rfl
      try have e8 := wT hw 8 rfl
      clear hw hcl hL hC
      refine OpGoes.step fun K hK => ?_
      unfold OpGoes
      go_simp
      exact hK _ _ ⟨rfl, rfl⟩
    case a1 =>
      go_light
      intro L σ W' hcl hL hC hw
      have e0 := wV hw 0 rfl
      have ks := hC.2.1.cell
      clear hw hcl hL hC
      refine OpGoes.step fun K hK => ?_
      unfold OpGoes
      go_simp
      exact hK _ _ ⟨rfl, rfl⟩
    case a3 | a7 =>
      go_light
      intro L σ W' hcl hL hC hw
      try have e2 := wT hw 2 rfl
      try have e6 := wT hw 6 rfl
      have kh := hC.2.2.1.cell
      clear hw hcl hL hC
      refine OpGoes.step fun K hK => ?_
      unfold OpGoes
      go_simp
      exact hK _ _ ⟨rfl, rfl⟩
    case a5 =>
      go_light
      intro L σ W' hcl hL hC hw
      have e4 := wV hw 4 rfl
      have hc0 := hC.2.2.2.2.2.1
      obtain ⟨c0, c1_, c2, c3, c4⟩ := hc0
      clear hw hcl hL hC
      refine OpGoes.step fun K hK => ?_
      unfold OpGoes
      go_simp
      exact hK _ _ ⟨rfl, rfl⟩
    case a8 =>
      go_light
      intro L σ W' hcl hL hC hw
      have e5 := wV hw 5 rfl
      have e7 := wV hw 7 rfl
      clear hw
      have HC := Lib.hid hC
      clear hC
      clear hcl hL
      refine OpGoes.step fun K hK => ?_
      unfold OpGoes
      go_simp
      obtain ⟨hB, hx, hy, hz, hw_, hc, he⟩ := HC.out
      refine (HPA.out _ hB).mono ?_
      rintro e w1 ⟨rfl, hb1⟩
      exact ⟨_, rfl, hK _ _ ⟨⟨bstep hB hB.size hb1, hx.below hb1 hx.lt, hy.below hb1 hy.lt, hz.below hb1 hz.lt, hw_.below hb1 hw_.lt, hc.below hb1, he.below hb1⟩, rfl, hb1⟩⟩
    · intro L L' W' hLL hC
      obtain ⟨hB, hx, hy, hz, hw_, hc, he⟩ := hC
      exact ⟨hB, hx, hy, hz, hw_, hc, he⟩
    · intro σ L W' hall hC hRR
      obtain ⟨hB, hx, hy, hz, hw_, hc, he⟩ := hC
      have e9 := dV hRR 9 rfl
      have e10 := dV hRR 10 rfl
      clear hRR
      simp only [lexAll]
      go_simp
      go_step
      go_meet
      exact ⟨hB, hx, hy, hz, hw_, hc, he, rfl, rfl⟩
  case rest =>
  clear hB hx hy hz hw_ hc he HPA
  obtain ⟨hB, hx, hy, hz, hw_, hc, he, rfl, rfl⟩ := hcut
  have kx := hx.cell
  have ky := hy.cell
  go_wp2_with fail
  clear kx ky
  refine (ileft_any seen t s.rd _ ⟨t0, t1⟩ hrd).mono ?_
  rintro e w1 ⟨rfl, hb⟩
  replace hx := hx.below hb hx.lt
  replace hy := hy.below hb hy.lt
  replace hz := hz.below hb hz.lt
  replace hw_ := hw_.below hb hw_.lt
  replace hc := hc.below hb
  replace he := he.below hb
  replace hB := bstep hB hB.size hb
  have lw3 := hw_.lt
  clear hb lw0
  go_upto_region 3 with fail
  refine wp_abs (fun W' => Below w.heap.size w W' ∧ BoxAt W' w.heap.size #[.int .i64 s.rd, .int .i64 s.mo, .slice (some ⟨b, 0, none⟩) n cap, .int .i64 s.fi, .int .i64 s.la] 32 ∧ BoxAt W' (w.heap.size + 1) #[.int .i64 at_, .int .i64 v, .int .i64 r, .int .i64 t, .bool seen.s, .int .i64 seen.n, .bool seen.f, .int .i64 seen.v, .int .i64 tr, .int .i64 sp, .bool ag, .int .i64 re] 35 ∧ BoxAt W' (w.heap.size + 1 + 1) #[.int .i64 0, .int .i64 0, .slice none 0 0, .int .i64 0, .int .i64 0] 32 ∧ BoxAt W' (w.heap.size + 1 + 1 + 1) #[.int .i64 0, .int .i64 0, .int .i64 0, .int .i64 0, .bool false, .int .i64 0, .bool false, .int .i64 0, .int .i64 0, .int .i64 0, .bool false, .int .i64 0] 35 ∧ RgC W' b r.toNat rg (some ⟨pb, 0, none⟩) n' cap' ∧ PlE 0 W' pb ((t % s.rd).toNat * 4) p ∧ BoxAt W' w1.heap.size #[.bool seen.s, .int .i64 (t + s.rd), .bool false, .int .i64 0] 33) ⟨hB.alloc hB.size _, hx.alloc _, hy.alloc _, hz.alloc _, hw_.alloc _, hc.below ((Below.refl _ _).alloc (Nat.le_refl _) _), he.below ((Below.refl _ _).alloc (Nat.le_refl _) _), BoxAt.new _ _ _⟩ ?_
  generalize hTe : w1.heap.size = T at *
  have lN : w.heap.size + 3 < T := by omega
  clear hTe hB hx hy hz hw_ hc he lw3
  rintro W0 ⟨hB, hx, hy, hz, hw_, hc, he, hT⟩
  have lT := hT.lt
  have lw2 := hw_.lt
  have hs0 := hs.below hB hh
  have kx := hx.cell
  have ky := hy.cell
  have fy := hy.frozen
  have kT := hT.cell
  have hc6 : at_ = 13 ∨ at_ = 14 ∨ at_ = 15 ∨ at_ = 16 ∨ at_ = 17 ∨ at_ = 18 := by have := HTA.out; omega
  clear HTA
  rcases hc6 with rfl | rfl | rfl | rfl | rfl | rfl
  · go_wp2_with fail
    refine wp_goto ?_
    go_simp
    refine fwd_on HCC.out rfl ?_
    go_upto_region 11 with fail
    have HV := Lib.hid (show PH (takeS s ⟨13, v, r, t, seen, tr, sp, ag, re⟩) = (s, (⟨14, v, s.fi, t, seen, tr, sp, ag, re⟩ : Hd)) by rw [show takeS s ⟨13, v, r, t, seen, tr, sp, ag, re⟩ = take13 s ⟨13, v, r, t, seen, tr, sp, ag, re⟩ from rfl]; unfold PH take13 fin; (try simp only []) <;> rfl)
    refine ret4 w s lo hi (some ⟨b, 0, none⟩) n cap (⟨14, v, s.fi, t, seen, tr, sp, ag, re⟩ : Hd) w.heap.size (w.heap.size + 1) (by kernel_rfl) (by kernel_rfl) (by kernel_rfl) (by kernel_rfl) (by omega) (by omega) ⟨((hB.setCell (by dsimp only; omega) _).setCell (by dsimp only; omega) _), ((hx.set_ne (by omega) _ _).set_ne (by omega) _ _), by simpa using ((hy.set 2 (.int .i64 s.fi)).set 0 (.int .i64 14)), ((hz.set_ne (by omega) _ _).set_ne (by omega) _ _), ((hw_.set_ne (by omega) _ _).set_ne (by omega) _ _), ((hs0.st (.inr (by omega)) _ _).st (.inr (by omega)) _ _), by simp; omega⟩ ?k0 ?k1 ?k2 ?k3 ?hQ
    case k0 | k1 | k2 | k3 =>
      intros
      rename_i k
      have kc_ := k.cell
      have kf_ := k.frozen
      refine OpGoes.step fun K hK => ?_
      unfold OpGoes
      go_simp
      first | exact hK _ _ ⟨rfl, rfl⟩ | exact hK _ _ rfl
    case hQ =>
      clear kx ky fy kT hB hx hy hz hw_ hs0 hT hc he
      generalize hq2 : (⟨14, v, s.fi, t, seen, tr, sp, ag, re⟩ : Hd) = h2 at *
      clear hq2
      intro σ W' _ hB k7 k8 hG _
      replace k7 := k7.cell
      replace k8 := k8.cell
      simp only [lexAll]
      go_simp
      go_step
      go_wp2
      refine bodyPost_ret (v := .tuple #[stV s (some ⟨b, 0, none⟩) n cap, hdV h2]) (by simp [results, Tryz.results64, go_sem, k7, k8, stV, hdV]) rfl ⟨(some ⟨b, 0, none⟩), n, cap, by rw [HV.out], ?_, hB⟩
      rw [HV.out]
      exact hG.cut.mono (Nat.zero_le _) (Nat.le_refl _)
  · go_wp2_with fail
    refine wp_goto ?_
    go_simp
    refine fwd_on HCC.out rfl ?_
    obtain ⟨e0, e1, ⟨e2, n2_⟩, ⟨e3, n3_⟩, ⟨e4, n4_⟩, e5, n5_⟩ := hE.below hB
    go_wp2_with fail
    clear kx ky fy kT hT hc he
    refine (itakeTicket_any s (some ⟨b, 0, none⟩) n cap lo hi B a0 a1 a2 r _ hs0 (Nat.le_trans hh hB.size) e0 e1 e2 n2_ (by have := HNT.out.2.1; have := HLN.out; omega) HNT.out.len).mono ?_
    rintro e w1 ⟨A5, n5, c5, rfl, hG5, hb5⟩
    replace hG5 := hG5.toW
    replace hx := hx.below hb5 hx.lt
    replace hy := hy.below hb5 hy.lt
    replace hz := hz.below hb5 hz.lt
    replace hw_ := hw_.below hb5 hw_.lt
    have h5 := hb5.size
    have l5 : w.heap.size + 4 ≤ W0.heap.size := by omega
    replace hB := bstep hB hB.size hb5
    clear hb5 e0 e1 e2 e3 e4 e5
    generalize hq5 : takeTicket s r = q at *
    have HQ5 := Lib.hid hq5; clear hq5
    unfold stV
    have kx := hx.cell
    have fx := hx.frozen
    have ky := hy.cell
    have fy := hy.frozen
    go_upto_region 14 with fail
    have HV := Lib.hid (show PH (takeS s ⟨14, v, r, t, seen, tr, sp, ag, re⟩) = (q.1, (⟨15, v, r, q.2, seen, tr, sp, ag, re⟩ : Hd)) by rw [show takeS s ⟨14, v, r, t, seen, tr, sp, ag, re⟩ = take14 s ⟨14, v, r, t, seen, tr, sp, ag, re⟩ from rfl]; unfold PH take14 fin; (try simp only [HQ5.out]) <;> rfl)
    refine ret4 w q.1 W0.heap.size w1.heap.size A5 n5 c5 (⟨15, v, r, q.2, seen, tr, sp, ag, re⟩ : Hd) w.heap.size (w.heap.size + 1) (by kernel_rfl) (by kernel_rfl) (by kernel_rfl) (by kernel_rfl) (by omega) (by omega) ⟨((((((((hB.setCell (by dsimp only; omega) _).setCell (by dsimp only; omega) _).setCell (by dsimp only; omega) _).setCell (by dsimp only; omega) _).setCell (by dsimp only; omega) _)).setCell (by dsimp only; omega) _).setCell (by dsimp only; omega) _), (((sets_all (us := [.int .i64 q.1.rd, .int .i64 q.1.mo, .slice A5 n5 c5, .int .i64 q.1.fi, .int .i64 q.1.la]) hx rfl).set_ne (by omega) _ _).set_ne (by omega) _ _), by simpa using ((((((((hy.set_ne (by omega) _ _).set_ne (by omega) _ _).set_ne (by omega) _ _).set_ne (by omega) _ _).set_ne (by omega) _ _)).set 3 (.int .i64 q.2)).set 0 (.int .i64 15)), ((((((((hz.set_ne (by omega) _ _).set_ne (by omega) _ _).set_ne (by omega) _ _).set_ne (by omega) _ _).set_ne (by omega) _ _)).set_ne (by omega) _ _).set_ne (by omega) _ _), ((((((((hw_.set_ne (by omega) _ _).set_ne (by omega) _ _).set_ne (by omega) _ _).set_ne (by omega) _ _).set_ne (by omega) _ _)).set_ne (by omega) _ _).set_ne (by omega) _ _), ((((((((hG5.st (.inl (by omega)) _ _).st (.inl (by omega)) _ _).st (.inl (by omega)) _ _).st (.inl (by omega)) _ _).st (.inl (by omega)) _ _)).st (.inl (by omega)) _ _).st (.inl (by omega)) _ _), by simp⟩ ?k0 ?k1 ?k2 ?k3 ?hQ
    case k0 | k1 | k2 | k3 =>
      intros
      rename_i k
      have kc_ := k.cell
      have kf_ := k.frozen
      refine OpGoes.step fun K hK => ?_
      unfold OpGoes
      go_simp
      first | exact hK _ _ ⟨rfl, rfl⟩ | exact hK _ _ rfl
    case hQ =>
      clear kx fx ky fy hB hx hy hz hw_ hs0 hG5
      generalize hq2 : (⟨15, v, r, q.2, seen, tr, sp, ag, re⟩ : Hd) = h2 at *
      clear hq2
      intro σ W' _ hB k7 k8 hG _
      replace k7 := k7.cell
      replace k8 := k8.cell
      simp only [lexAll]
      go_simp
      go_step
      go_wp2
      refine bodyPost_ret (v := .tuple #[stV q.1 A5 n5 c5, hdV h2]) (by simp [results, Tryz.results64, go_sem, k7, k8, stV, hdV]) rfl ⟨A5, n5, c5, by rw [HV.out], ?_, hB⟩
      rw [HV.out]
      exact hG.cut.mono (Nat.zero_le _) (Nat.le_refl _)
  · go_wp2_with fail
    refine wp_goto ?_
    go_simp
    refine fwd_on HCC.out rfl ?_
    obtain ⟨c0, c1_, c2, c3, c4⟩ := hc
    obtain ⟨d0, d1, d2, d3⟩ := he
    go_upto_region 16 with fail
    refine wp_abs (fun W => Below w.heap.size w W ∧ BoxAt W w.heap.size #[.int .i64 s.rd, .int .i64 s.mo, .slice (some ⟨b, 0, none⟩) n cap, .int .i64 s.fi, .int .i64 s.la] 32 ∧ BoxAt W (w.heap.size + 1) #[.int .i64 15, .int .i64 v, .int .i64 r, .int .i64 t, .bool p.s, .int .i64 p.n, .bool p.f, .int .i64 p.v, .int .i64 tr, .int .i64 sp, .bool ag, .int .i64 re] 35 ∧ BoxAt W (w.heap.size + 1 + 1) #[.int .i64 0, .int .i64 0, .slice none 0 0, .int .i64 0, .int .i64 0] 32 ∧ BoxAt W (w.heap.size + 1 + 1 + 1) #[.int .i64 0, .int .i64 0, .int .i64 0, .int .i64 0, .bool false, .int .i64 0, .bool false, .int .i64 0, .int .i64 0, .int .i64 0, .bool false, .int .i64 0] 35) ⟨(((hB.setCell (by dsimp only; omega) _).setCell (by dsimp only; omega) _).setCell (by dsimp only; omega) _).setCell (by dsimp only; omega) _, ((((hx.set_ne (by omega) _ _).set_ne (by omega) _ _).set_ne (by omega) _ _).set_ne (by omega) _ _), by simpa using (((hy.set 4 (.bool p.s)).set 5 (.int .i64 p.n)).set 6 (.bool p.f)).set 7 (.int .i64 p.v), ((((hz.set_ne (by omega) _ _).set_ne (by omega) _ _).set_ne (by omega) _ _).set_ne (by omega) _ _), ((((hw_.set_ne (by omega) _ _).set_ne (by omega) _ _).set_ne (by omega) _ _).set_ne (by omega) _ _)⟩ ?_
    clear kx ky fy kT hB hx hy hz hw_ hs0 hT c0 c1_ c2 c3 c4 d0 d1 d2 d3 lT lw2
    rintro W0 ⟨hB, hx, hy, hz, hw_⟩
    have ky := hy.cell
    go_wp2_with fail
    clear ky
    refine (iatSeen_any p t _).mono ?_
    rintro e w1 ⟨rfl, hb⟩
    replace hx := hx.below hb hx.lt
    replace hy := hy.below hb hy.lt
    replace hz := hz.below hb hz.lt
    replace hw_ := hw_.below hb hw_.lt
    replace hB := bstep hB hB.size hb
    clear hb
    have lw2 := hw_.lt
    have hs0 := hs.below hB hh
    have ky := hy.cell
    have fy := hy.frozen
    go_upto_region 17 with fail
    have HV := Lib.hid (show PH (takeS s ⟨15, v, r, t, seen, tr, sp, ag, re⟩) = (s, (⟨(atSeen p t), v, r, t, p, tr, sp, ag, re⟩ : Hd)) by rw [show takeS s ⟨15, v, r, t, seen, tr, sp, ag, re⟩ = take15 s ⟨15, v, r, t, seen, tr, sp, ag, re⟩ from rfl]; unfold PH take15 fin; (try simp only [HLK.out, atSeen]) <;> rfl)
    refine ret4 w s lo hi (some ⟨b, 0, none⟩) n cap (⟨(atSeen p t), v, r, t, p, tr, sp, ag, re⟩ : Hd) w.heap.size (w.heap.size + 1) (by kernel_rfl) (by kernel_rfl) (by kernel_rfl) (by kernel_rfl) (by omega) (by omega) ⟨(hB.setCell (by dsimp only; omega) _), (hx.set_ne (by omega) _ _), by simpa using (hy.set 0 (.int .i64 (atSeen p t))), (hz.set_ne (by omega) _ _), (hw_.set_ne (by omega) _ _), (hs0.st (.inr (by omega)) _ _), by simp; omega⟩ ?k0 ?k1 ?k2 ?k3 ?hQ
    case k0 | k1 | k2 | k3 =>
      intros
      rename_i k
      have kc_ := k.cell
      have kf_ := k.frozen
      refine OpGoes.step fun K hK => ?_
      unfold OpGoes
      go_simp
      first | exact hK _ _ ⟨rfl, rfl⟩ | exact hK _ _ rfl
    case hQ =>
      clear ky fy hB hx hy hz hw_ hs0
      generalize hq2 : (⟨(atSeen p t), v, r, t, p, tr, sp, ag, re⟩ : Hd) = h2 at *
      clear hq2
      intro σ W' _ hB k7 k8 hG _
      replace k7 := k7.cell
      replace k8 := k8.cell
      simp only [lexAll]
      go_simp
      go_step
      go_wp2
      refine bodyPost_ret (v := .tuple #[stV s (some ⟨b, 0, none⟩) n cap, hdV h2]) (by simp [results, Tryz.results64, go_sem, k7, k8, stV, hdV]) rfl ⟨(some ⟨b, 0, none⟩), n, cap, by rw [HV.out], ?_, hB⟩
      rw [HV.out]
      exact hG.cut.mono (Nat.zero_le _) (Nat.le_refl _)
  · go_wp2_with fail
    refine wp_goto ?_
    go_simp
    refine fwd_on HCC.out rfl ?_
    obtain ⟨e0, e1, ⟨e2, n2_⟩, ⟨e3, n3_⟩, ⟨e4, n4_⟩, e5, n5_⟩ := hE.below hB
    go_wp2_with fail
    clear kx ky fy kT hT hc he
    refine (iswap_any s (some ⟨b, 0, none⟩) n cap lo hi B a0 a1 a2 a3 a4 r (t % s.rd) seen ⟨seen.s, t + s.rd, false, 0⟩ _ hs0 (Nat.le_trans hh hB.size) e0 e1 e2 n2_ e3 n3_ e4 n4_ (by have := HNT.out.2.1; have := HLN.out; omega) HNT.out.len).mono ?_
    rintro e w1 ⟨A5, n5, c5, rfl, hG5, hb5⟩
    replace hG5 := hG5.toW
    replace hx := hx.below hb5 hx.lt
    replace hy := hy.below hb5 hy.lt
    replace hz := hz.below hb5 hz.lt
    replace hw_ := hw_.below hb5 hw_.lt
    have h5 := hb5.size
    have l5 : w.heap.size + 4 ≤ W0.heap.size := by omega
    replace hB := bstep hB hB.size hb5
    clear hb5 e0 e1 e2 e3 e4 e5
    generalize hq5 : swapPlace s r (t % s.rd) seen ⟨seen.s, t + s.rd, false, 0⟩ = q at *
    have HQ5 := Lib.hid hq5; clear hq5
    unfold stV
    have kx := hx.cell
    have fx := hx.frozen
    have ky := hy.cell
    have fy := hy.frozen
    cases hq2 : q.2
    · have HQ2 := Lib.hid hq2; clear hq2
      go_wp2
      go_step3
      go_upto_region 27 with fail
      have HV := Lib.hid (show PH (takeS s ⟨16, v, r, t, seen, tr, sp, ag, re⟩) = (q.1, (⟨15, v, r, t, seen, tr, sp, ag, re⟩ : Hd)) by rw [show takeS s ⟨16, v, r, t, seen, tr, sp, ag, re⟩ = take16 s ⟨16, v, r, t, seen, tr, sp, ag, re⟩ from rfl]; unfold PH take16 fin; (try simp only [grab, leftP, HQ5.out, HQ2.out, Bool.false_eq_true, if_false]) <;> rfl)
      refine ret4 w q.1 W0.heap.size w1.heap.size A5 n5 c5 (⟨15, v, r, t, seen, tr, sp, ag, re⟩ : Hd) w.heap.size (w.heap.size + 1) (by kernel_rfl) (by kernel_rfl) (by kernel_rfl) (by kernel_rfl) (by omega) (by omega) ⟨(((((((hB.setCell (by dsimp only; omega) _).setCell (by dsimp only; omega) _).setCell (by dsimp only; omega) _).setCell (by dsimp only; omega) _).setCell (by dsimp only; omega) _)).setCell (by dsimp only; omega) _), ((sets_all (us := [.int .i64 q.1.rd, .int .i64 q.1.mo, .slice A5 n5 c5, .int .i64 q.1.fi, .int .i64 q.1.la]) hx rfl).set_ne (by omega) _ _), by simpa using (((((((hy.set_ne (by omega) _ _).set_ne (by omega) _ _).set_ne (by omega) _ _).set_ne (by omega) _ _).set_ne (by omega) _ _)).set 0 (.int .i64 15)), (((((((hz.set_ne (by omega) _ _).set_ne (by omega) _ _).set_ne (by omega) _ _).set_ne (by omega) _ _).set_ne (by omega) _ _)).set_ne (by omega) _ _), (((((((hw_.set_ne (by omega) _ _).set_ne (by omega) _ _).set_ne (by omega) _ _).set_ne (by omega) _ _).set_ne (by omega) _ _)).set_ne (by omega) _ _), (((((((hG5.st (.inl (by omega)) _ _).st (.inl (by omega)) _ _).st (.inl (by omega)) _ _).st (.inl (by omega)) _ _).st (.inl (by omega)) _ _)).st (.inl (by omega)) _ _), by simp⟩ ?k0 ?k1 ?k2 ?k3 ?hQ
      case k0 | k1 | k2 | k3 =>
        intros
        rename_i k
        have kc_ := k.cell
        have kf_ := k.frozen
        refine OpGoes.step fun K hK => ?_
        unfold OpGoes
        go_simp
        first | exact hK _ _ ⟨rfl, rfl⟩ | exact hK _ _ rfl
      case hQ =>
        clear kx fx ky fy hB hx hy hz hw_ hs0 hG5
        generalize hq2 : (⟨15, v, r, t, seen, tr, sp, ag, re⟩ : Hd) = h2 at *
        clear hq2
        intro σ W' _ hB k7 k8 hG _
        replace k7 := k7.cell
        replace k8 := k8.cell
        simp only [lexAll]
        go_simp
        go_step
        go_wp2
        refine bodyPost_ret (v := .tuple #[stV q.1 A5 n5 c5, hdV h2]) (by simp [results, Tryz.results64, go_sem, k7, k8, stV, hdV]) rfl ⟨A5, n5, c5, by rw [HV.out], ?_, hB⟩
        rw [HV.out]
        exact hG.cut.mono (Nat.zero_le _) (Nat.le_refl _)
    · have HQ2 := Lib.hid hq2; clear hq2
      go_upto_region 25 with fail
      have HV := Lib.hid (show PH (takeS s ⟨16, v, r, t, seen, tr, sp, ag, re⟩) = (q.1, ({ ((⟨16, v, r, t, seen, tr, sp, ag, re⟩ : Hd)).rest 4 with v := seen.v } : Hd)) by rw [show takeS s ⟨16, v, r, t, seen, tr, sp, ag, re⟩ = take16 s ⟨16, v, r, t, seen, tr, sp, ag, re⟩ from rfl]; unfold PH take16 fin; (try simp only [grab, leftP, HQ5.out, HQ2.out, if_true]) <;> rfl)
      refine ret5g w ({ ((⟨16, v, r, t, seen, tr, sp, ag, re⟩ : Hd)).rest 4 with v := seen.v } : Hd) q.1 W0.heap.size w1.heap.size A5 n5 c5 (⟨16, v, r, t, seen, tr, sp, ag, re⟩ : Hd) w.heap.size (w.heap.size + 1) (by kernel_rfl) (by kernel_rfl) (by kernel_rfl) (by kernel_rfl) (by kernel_rfl) (by omega) (by omega) ⟨((((((hB.setCell (by dsimp only; omega) _).setCell (by dsimp only; omega) _).setCell (by dsimp only; omega) _).setCell (by dsimp only; omega) _).setCell (by dsimp only; omega) _)), (sets_all (us := [.int .i64 q.1.rd, .int .i64 q.1.mo, .slice A5 n5 c5, .int .i64 q.1.fi, .int .i64 q.1.la]) hx rfl), by simpa using ((((((hy.set_ne (by omega) _ _).set_ne (by omega) _ _).set_ne (by omega) _ _).set_ne (by omega) _ _).set_ne (by omega) _ _)), ((((((hz.set_ne (by omega) _ _).set_ne (by omega) _ _).set_ne (by omega) _ _).set_ne (by omega) _ _).set_ne (by omega) _ _)), ((((((hw_.set_ne (by omega) _ _).set_ne (by omega) _ _).set_ne (by omega) _ _).set_ne (by omega) _ _).set_ne (by omega) _ _)), ((((((hG5.st (.inl (by omega)) _ _).st (.inl (by omega)) _ _).st (.inl (by omega)) _ _).st (.inl (by omega)) _ _).st (.inl (by omega)) _ _)), by simp⟩ ?k0 ?k1 ?k2 ?k3 ?k4 ?hQ
      case k0 | k1 | k3 | k4 =>
        intros
        rename_i k
        have kc_ := k.cell
        have kf_ := k.frozen
        refine OpGoes.step fun K hK => ?_
        unfold OpGoes
        go_simp
        first | exact hK _ _ ⟨rfl, rfl⟩ | exact hK _ _ rfl
      case k2 =>
        intros
        refine OpGoes.step fun K hK => ?_
        unfold OpGoes
        go_simp
        refine (igot_any (⟨16, v, r, t, seen, tr, sp, ag, re⟩ : Hd) _).mono ?_
        rintro e w1 ⟨rfl, hb1⟩
        exact ⟨_, rfl, hK _ _ ⟨rfl, hb1⟩⟩
      case hQ =>
        clear kx fx ky fy hB hx hy hz hw_ hs0 hG5
        intro σ W' _ hB k7 k8 hG _
        replace k7 := k7.cell
        replace k8 := k8.cell
        simp only [lexAll]
        go_simp
        go_step
        go_wp2
        refine bodyPost_ret (v := .tuple #[stV q.1 A5 n5 c5, hdV ({ ((⟨16, v, r, t, seen, tr, sp, ag, re⟩ : Hd)).rest 4 with v := seen.v } : Hd)]) (by simp [results, Tryz.results64, go_sem, k7, k8, stV, hdV, Hd.rest, Hd.zero]) rfl ⟨A5, n5, c5, by rw [HV.out], ?_, hB⟩
        rw [HV.out]
        exact hG.cut.mono (Nat.zero_le _) (Nat.le_refl _)
  · go_wp2_with fail
    refine wp_goto ?_
    go_simp
    refine fwd_on HCC.out rfl ?_
    go_wp2_with fail
    clear kx ky fy kT
    refine (inotSafe_any seen _).mono ?_
    rintro e w1 ⟨rfl, hb⟩
    replace hx := hx.below hb hx.lt
    replace hy := hy.below hb hy.lt
    replace hz := hz.below hb hz.lt
    replace hw_ := hw_.below hb hw_.lt
    replace hT := hT.below hb hT.lt
    replace hB := bstep hB hB.size hb
    clear hb
    have kT := hT.cell
    have fT := hT.frozen
    go_wp2
    go_step3
    go_upto_region 19 with fail
    refine wp_abs (fun W => Below w.heap.size w W ∧ BoxAt W w.heap.size #[.int .i64 s.rd, .int .i64 s.mo, .slice (some ⟨b, 0, none⟩) n cap, .int .i64 s.fi, .int .i64 s.la] 32 ∧ BoxAt W (w.heap.size + 1) #[.int .i64 17, .int .i64 v, .int .i64 r, .int .i64 t, .bool seen.s, .int .i64 seen.n, .bool seen.f, .int .i64 seen.v, .int .i64 tr, .int .i64 sp, .bool ag, .int .i64 re] 35 ∧ BoxAt W (w.heap.size + 1 + 1) #[.int .i64 0, .int .i64 0, .slice none 0 0, .int .i64 0, .int .i64 0] 32 ∧ BoxAt W (w.heap.size + 1 + 1 + 1) #[.int .i64 0, .int .i64 0, .int .i64 0, .int .i64 0, .bool false, .int .i64 0, .bool false, .int .i64 0, .int .i64 0, .int .i64 0, .bool false, .int .i64 0] 35 ∧ BoxAt W T #[.bool false, .int .i64 seen.n, .bool seen.f, .int .i64 seen.v] 33) ⟨((((hB.setCell (by dsimp only; omega) _).setCell (by dsimp only; omega) _).setCell (by dsimp only; omega) _).setCell (by dsimp only; omega) _), ((((hx.set_ne (by omega) _ _).set_ne (by omega) _ _).set_ne (by omega) _ _).set_ne (by omega) _ _), ((((hy.set_ne (by omega) _ _).set_ne (by omega) _ _).set_ne (by omega) _ _).set_ne (by omega) _ _), ((((hz.set_ne (by omega) _ _).set_ne (by omega) _ _).set_ne (by omega) _ _).set_ne (by omega) _ _), ((((hw_.set_ne (by omega) _ _).set_ne (by omega) _ _).set_ne (by omega) _ _).set_ne (by omega) _ _), by simpa using (((hT.set 0 (.bool false)).set 1 (.int .i64 seen.n)).set 2 (.bool seen.f)).set 3 (.int .i64 seen.v)⟩ ?_
    clear kT fT hB hx hy hz hw_ hs0 hT lT lw2
    rintro W0 ⟨hB, hx, hy, hz, hw_, hT⟩
    have lT := hT.lt
    have lw2 := hw_.lt
    have hs0 := hs.below hB hh
    have kx := hx.cell
    have ky := hy.cell
    have fy := hy.frozen
    have kT := hT.cell
    obtain ⟨e0, e1, ⟨e2, n2_⟩, ⟨e3, n3_⟩, ⟨e4, n4_⟩, e5, n5_⟩ := hE.below hB
    go_wp2_with fail
    clear kx ky fy kT hT
    refine (iswap_any s (some ⟨b, 0, none⟩) n cap lo hi B a0 a1 a2 a3 a4 r (t % s.rd) seen ⟨false, seen.n, seen.f, seen.v⟩ _ hs0 (Nat.le_trans hh hB.size) e0 e1 e2 n2_ e3 n3_ e4 n4_ (by have := HNT.out.2.1; have := HLN.out; omega) HNT.out.len).mono ?_
    rintro e w1 ⟨A5, n5, c5, rfl, hG5, hb5⟩
    replace hG5 := hG5.toW
    replace hx := hx.below hb5 hx.lt
    replace hy := hy.below hb5 hy.lt
    replace hz := hz.below hb5 hz.lt
    replace hw_ := hw_.below hb5 hw_.lt
    have h5 := hb5.size
    have l5 : w.heap.size + 4 ≤ W0.heap.size := by omega
    replace hB := bstep hB hB.size hb5
    clear hb5 e0 e1 e2 e3 e4 e5
    generalize hq5 : swapPlace s r (t % s.rd) seen ⟨false, seen.n, seen.f, seen.v⟩ = q at *
    have HQ5 := Lib.hid hq5; clear hq5
    unfold stV
    have kx := hx.cell
    have fx := hx.frozen
    have ky := hy.cell
    have fy := hy.frozen
    cases hq2 : q.2
    · have HQ2 := Lib.hid hq2; clear hq2
      go_wp2_with fail
      refine wp_goto ?_
      go_simp
      refine fwd_on HCC.out rfl ?_
      go_upto_region 27 with fail
      have HV := Lib.hid (show PH (takeS s ⟨17, v, r, t, seen, tr, sp, ag, re⟩) = (q.1, (⟨15, v, r, t, seen, tr, sp, ag, re⟩ : Hd)) by rw [show takeS s ⟨17, v, r, t, seen, tr, sp, ag, re⟩ = take17 s ⟨17, v, r, t, seen, tr, sp, ag, re⟩ from rfl]; unfold PH take17 fin; (try simp only [spoil, leftP, HQ5.out, HQ2.out]) <;> rfl)
      refine ret4 w q.1 W0.heap.size w1.heap.size A5 n5 c5 (⟨15, v, r, t, seen, tr, sp, ag, re⟩ : Hd) w.heap.size (w.heap.size + 1) (by kernel_rfl) (by kernel_rfl) (by kernel_rfl) (by kernel_rfl) (by omega) (by omega) ⟨(((((((hB.setCell (by dsimp only; omega) _).setCell (by dsimp only; omega) _).setCell (by dsimp only; omega) _).setCell (by dsimp only; omega) _).setCell (by dsimp only; omega) _)).setCell (by dsimp only; omega) _), ((sets_all (us := [.int .i64 q.1.rd, .int .i64 q.1.mo, .slice A5 n5 c5, .int .i64 q.1.fi, .int .i64 q.1.la]) hx rfl).set_ne (by omega) _ _), by simpa using (((((((hy.set_ne (by omega) _ _).set_ne (by omega) _ _).set_ne (by omega) _ _).set_ne (by omega) _ _).set_ne (by omega) _ _)).set 0 (.int .i64 15)), (((((((hz.set_ne (by omega) _ _).set_ne (by omega) _ _).set_ne (by omega) _ _).set_ne (by omega) _ _).set_ne (by omega) _ _)).set_ne (by omega) _ _), (((((((hw_.set_ne (by omega) _ _).set_ne (by omega) _ _).set_ne (by omega) _ _).set_ne (by omega) _ _).set_ne (by omega) _ _)).set_ne (by omega) _ _), (((((((hG5.st (.inl (by omega)) _ _).st (.inl (by omega)) _ _).st (.inl (by omega)) _ _).st (.inl (by omega)) _ _).st (.inl (by omega)) _ _)).st (.inl (by omega)) _ _), by simp⟩ ?k0 ?k1 ?k2 ?k3 ?hQ
      case k0 | k1 | k2 | k3 =>
        intros
        rename_i k
        have kc_ := k.cell
        have kf_ := k.frozen
        refine OpGoes.step fun K hK => ?_
        unfold OpGoes
        go_simp
        first | exact hK _ _ ⟨rfl, rfl⟩ | exact hK _ _ rfl
      case hQ =>
        clear kx fx ky fy hB hx hy hz hw_ hs0 hG5
        generalize hq2 : (⟨15, v, r, t, seen, tr, sp, ag, re⟩ : Hd) = h2 at *
        clear hq2
        intro σ W' _ hB k7 k8 hG _
        replace k7 := k7.cell
        replace k8 := k8.cell
        simp only [lexAll]
        go_simp
        go_step
        go_wp2
        refine bodyPost_ret (v := .tuple #[stV q.1 A5 n5 c5, hdV h2]) (by simp [results, Tryz.results64, go_sem, k7, k8, stV, hdV]) rfl ⟨A5, n5, c5, by rw [HV.out], ?_, hB⟩
        rw [HV.out]
        exact hG.cut.mono (Nat.zero_le _) (Nat.le_refl _)
    · have HQ2 := Lib.hid hq2; clear hq2
      go_upto_region 22 with fail
      have HV := Lib.hid (show PH (takeS s ⟨17, v, r, t, seen, tr, sp, ag, re⟩) = (q.1, (⟨19, v, r, t, seen, tr, sp, ag, re⟩ : Hd)) by rw [show takeS s ⟨17, v, r, t, seen, tr, sp, ag, re⟩ = take17 s ⟨17, v, r, t, seen, tr, sp, ag, re⟩ from rfl]; unfold PH take17 fin; (try simp only [spoil, leftP, HQ5.out, HQ2.out]) <;> rfl)
      refine ret4 w q.1 W0.heap.size w1.heap.size A5 n5 c5 (⟨19, v, r, t, seen, tr, sp, ag, re⟩ : Hd) w.heap.size (w.heap.size + 1) (by kernel_rfl) (by kernel_rfl) (by kernel_rfl) (by kernel_rfl) (by omega) (by omega) ⟨(((((((hB.setCell (by dsimp only; omega) _).setCell (by dsimp only; omega) _).setCell (by dsimp only; omega) _).setCell (by dsimp only; omega) _).setCell (by dsimp only; omega) _)).setCell (by dsimp only; omega) _), ((sets_all (us := [.int .i64 q.1.rd, .int .i64 q.1.mo, .slice A5 n5 c5, .int .i64 q.1.fi, .int .i64 q.1.la]) hx rfl).set_ne (by omega) _ _), by simpa using (((((((hy.set_ne (by omega) _ _).set_ne (by omega) _ _).set_ne (by omega) _ _).set_ne (by omega) _ _).set_ne (by omega) _ _)).set 0 (.int .i64 19)), (((((((hz.set_ne (by omega) _ _).set_ne (by omega) _ _).set_ne (by omega) _ _).set_ne (by omega) _ _).set_ne (by omega) _ _)).set_ne (by omega) _ _), (((((((hw_.set_ne (by omega) _ _).set_ne (by omega) _ _).set_ne (by omega) _ _).set_ne (by omega) _ _).set_ne (by omega) _ _)).set_ne (by omega) _ _), (((((((hG5.st (.inl (by omega)) _ _).st (.inl (by omega)) _ _).st (.inl (by omega)) _ _).st (.inl (by omega)) _ _).st (.inl (by omega)) _ _)).st (.inl (by omega)) _ _), by simp⟩ ?k0 ?k1 ?k2 ?k3 ?hQ
      case k0 | k1 | k2 | k3 =>
        intros
        rename_i k
        have kc_ := k.cell
        have kf_ := k.frozen
        refine OpGoes.step fun K hK => ?_
        unfold OpGoes
        go_simp
        first | exact hK _ _ ⟨rfl, rfl⟩ | exact hK _ _ rfl
      case hQ =>
        clear kx fx ky fy hB hx hy hz hw_ hs0 hG5
        generalize hq2 : (⟨19, v, r, t, seen, tr, sp, ag, re⟩ : Hd) = h2 at *
        clear hq2
        intro σ W' _ hB k7 k8 hG _
        replace k7 := k7.cell
        replace k8 := k8.cell
        simp only [lexAll]
        go_simp
        go_step
        go_wp2
        refine bodyPost_ret (v := .tuple #[stV q.1 A5 n5 c5, hdV h2]) (by simp [results, Tryz.results64, go_sem, k7, k8, stV, hdV]) rfl ⟨A5, n5, c5, by rw [HV.out], ?_, hB⟩
        rw [HV.out]
        exact hG.cut.mono (Nat.zero_le _) (Nat.le_refl _)
  · go_wp2_with fail
    refine wp_goto ?_
    go_simp
    refine fwd_on HCC.out rfl ?_
    obtain ⟨e0, e1, ⟨e2, n2_⟩, ⟨e3, n3_⟩, ⟨e4, n4_⟩, e5, n5_⟩ := hE.below hB
    go_wp2_with fail
    clear kx ky fy kT hT hc he
    refine (iswap_any s (some ⟨b, 0, none⟩) n cap lo hi B a0 a1 a2 a3 a4 r (t % s.rd) seen ⟨seen.s, t + s.rd, false, 0⟩ _ hs0 (Nat.le_trans hh hB.size) e0 e1 e2 n2_ e3 n3_ e4 n4_ (by have := HNT.out.2.1; have := HLN.out; omega) HNT.out.len).mono ?_
    rintro e w1 ⟨A5, n5, c5, rfl, hG5, hb5⟩
    replace hG5 := hG5.toW
    replace hx := hx.below hb5 hx.lt
    replace hy := hy.below hb5 hy.lt
    replace hz := hz.below hb5 hz.lt
    replace hw_ := hw_.below hb5 hw_.lt
    have h5 := hb5.size
    have l5 : w.heap.size + 4 ≤ W0.heap.size := by omega
    replace hB := bstep hB hB.size hb5
    clear hb5 e0 e1 e2 e3 e4 e5
    generalize hq5 : swapPlace s r (t % s.rd) seen ⟨seen.s, t + s.rd, false, 0⟩ = q at *
    have HQ5 := Lib.hid hq5; clear hq5
    unfold stV
    have kx := hx.cell
    have fx := hx.frozen
    have ky := hy.cell
    have fy := hy.frozen
    cases hq2 : q.2
    · have HQ2 := Lib.hid hq2; clear hq2
      go_wp2_with fail
      refine wp_goto ?_
      go_simp
      refine fwd_on HCC.out rfl ?_
      go_upto_region 27 with fail
      have HV := Lib.hid (show PH (takeS s ⟨18, v, r, t, seen, tr, sp, ag, re⟩) = (q.1, (⟨15, v, r, t, seen, tr, sp, ag, re⟩ : Hd)) by rw [show takeS s ⟨18, v, r, t, seen, tr, sp, ag, re⟩ = take18 s ⟨18, v, r, t, seen, tr, sp, ag, re⟩ from rfl]; unfold PH take18 fin; (try simp only [grab, leftP, HQ5.out, HQ2.out]) <;> rfl)
      refine ret4 w q.1 W0.heap.size w1.heap.size A5 n5 c5 (⟨15, v, r, t, seen, tr, sp, ag, re⟩ : Hd) w.heap.size (w.heap.size + 1) (by kernel_rfl) (by kernel_rfl) (by kernel_rfl) (by kernel_rfl) (by omega) (by omega) ⟨(((((((hB.setCell (by dsimp only; omega) _).setCell (by dsimp only; omega) _).setCell (by dsimp only; omega) _).setCell (by dsimp only; omega) _).setCell (by dsimp only; omega) _)).setCell (by dsimp only; omega) _), ((sets_all (us := [.int .i64 q.1.rd, .int .i64 q.1.mo, .slice A5 n5 c5, .int .i64 q.1.fi, .int .i64 q.1.la]) hx rfl).set_ne (by omega) _ _), by simpa using (((((((hy.set_ne (by omega) _ _).set_ne (by omega) _ _).set_ne (by omega) _ _).set_ne (by omega) _ _).set_ne (by omega) _ _)).set 0 (.int .i64 15)), (((((((hz.set_ne (by omega) _ _).set_ne (by omega) _ _).set_ne (by omega) _ _).set_ne (by omega) _ _).set_ne (by omega) _ _)).set_ne (by omega) _ _), (((((((hw_.set_ne (by omega) _ _).set_ne (by omega) _ _).set_ne (by omega) _ _).set_ne (by omega) _ _).set_ne (by omega) _ _)).set_ne (by omega) _ _), (((((((hG5.st (.inl (by omega)) _ _).st (.inl (by omega)) _ _).st (.inl (by omega)) _ _).st (.inl (by omega)) _ _).st (.inl (by omega)) _ _)).st (.inl (by omega)) _ _), by simp⟩ ?k0 ?k1 ?k2 ?k3 ?hQ
      case k0 | k1 | k2 | k3 =>
        intros
        rename_i k
        have kc_ := k.cell
        have kf_ := k.frozen
        refine OpGoes.step fun K hK => ?_
        unfold OpGoes
        go_simp
        first | exact hK _ _ ⟨rfl, rfl⟩ | exact hK _ _ rfl
      case hQ =>
        clear kx fx ky fy hB hx hy hz hw_ hs0 hG5
        generalize hq2 : (⟨15, v, r, t, seen, tr, sp, ag, re⟩ : Hd) = h2 at *
        clear hq2
        intro σ W' _ hB k7 k8 hG _
        replace k7 := k7.cell
        replace k8 := k8.cell
        simp only [lexAll]
        go_simp
        go_step
        go_wp2
        refine bodyPost_ret (v := .tuple #[stV q.1 A5 n5 c5, hdV h2]) (by simp [results, Tryz.results64, go_sem, k7, k8, stV, hdV]) rfl ⟨A5, n5, c5, by rw [HV.out], ?_, hB⟩
        rw [HV.out]
        exact hG.cut.mono (Nat.zero_le _) (Nat.le_refl _)
    · have HQ2 := Lib.hid hq2; clear hq2
      go_upto_region 22 with fail
      have HV := Lib.hid (show PH (takeS s ⟨18, v, r, t, seen, tr, sp, ag, re⟩) = (q.1, (⟨19, v, r, t, seen, tr, sp, ag, re⟩ : Hd)) by rw [show takeS s ⟨18, v, r, t, seen, tr, sp, ag, re⟩ = take18 s ⟨18, v, r, t, seen, tr, sp, ag, re⟩ from rfl]; unfold PH take18 fin; (try simp only [grab, leftP, HQ5.out, HQ2.out]) <;> rfl)
      refine ret4 w q.1 W0.heap.size w1.heap.size A5 n5 c5 (⟨19, v, r, t, seen, tr, sp, ag, re⟩ : Hd) w.heap.size (w.heap.size + 1) (by kernel_rfl) (by kernel_rfl) (by kernel_rfl) (by kernel_rfl) (by omega) (by omega) ⟨(((((((hB.setCell (by dsimp only; omega) _).setCell (by dsimp only; omega) _).setCell (by dsimp only; omega) _).setCell (by dsimp only; omega) _).setCell (by dsimp only; omega) _)).setCell (by dsimp only; omega) _), ((sets_all (us := [.int .i64 q.1.rd, .int .i64 q.1.mo, .slice A5 n5 c5, .int .i64 q.1.fi, .int .i64 q.1.la]) hx rfl).set_ne (by omega) _ _), by simpa using (((((((hy.set_ne (by omega) _ _).set_ne (by omega) _ _).set_ne (by omega) _ _).set_ne (by omega) _ _).set_ne (by omega) _ _)).set 0 (.int .i64 19)), (((((((hz.set_ne (by omega) _ _).set_ne (by omega) _ _).set_ne (by omega) _ _).set_ne (by omega) _ _).set_ne (by omega) _ _)).set_ne (by omega) _ _), (((((((hw_.set_ne (by omega) _ _).set_ne (by omega) _ _).set_ne (by omega) _ _).set_ne (by omega) _ _).set_ne (by omega) _ _)).set_ne (by omega) _ _), (((((((hG5.st (.inl (by omega)) _ _).st (.inl (by omega)) _ _).st (.inl (by omega)) _ _).st (.inl (by omega)) _ _).st (.inl (by omega)) _ _)).st (.inl (by omega)) _ _), by simp⟩ ?k0 ?k1 ?k2 ?k3 ?hQ
      case k0 | k1 | k2 | k3 =>
        intros
        rename_i k
        have kc_ := k.cell
        have kf_ := k.frozen
        refine OpGoes.step fun K hK => ?_
        unfold OpGoes
        go_simp
        first | exact hK _ _ ⟨rfl, rfl⟩ | exact hK _ _ rfl
      case hQ =>
        clear kx fx ky fy hB hx hy hz hw_ hs0 hG5
        generalize hq2 : (⟨19, v, r, t, seen, tr, sp, ag, re⟩ : Hd) = h2 at *
        clear hq2
        intro σ W' _ hB k7 k8 hG _
        replace k7 := k7.cell
        replace k8 := k8.cell
        simp only [lexAll]
        go_simp
        go_step
        go_wp2
        refine bodyPost_ret (v := .tuple #[stV q.1 A5 n5 c5, hdV h2]) (by simp [results, Tryz.results64, go_sem, k7, k8, stV, hdV]) rfl ⟨A5, n5, c5, by rw [HV.out], ?_, hB⟩
        rw [HV.out]
        exact hG.cut.mono (Nat.zero_le _) (Nat.le_refl _)

end Go.Proofs.YtlpcpaehkgaffaaGreatDoor

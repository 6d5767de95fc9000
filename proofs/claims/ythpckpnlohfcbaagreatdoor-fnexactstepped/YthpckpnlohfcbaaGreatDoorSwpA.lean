/-
 SwapPlace of the program.
-/
import Derived.Test.YthpckpnlohfcbaaGreatDoorPrim4
import Derived.Test.YthpckpnlohfcbaaGreatDoorCloA
namespace Go.Proofs.YthpckpnlohfcbaaGreatDoor
set_option linter.unusedSimpArgs false
set_option linter.unusedVariables false
open Go.RowKit
set_option linter.unusedVariables false
attribute [local go_sem] OpUpon
attribute [local go_sem ↓] Go.wp_at_zero Go.wp_at_succ
theorem zswpA0 {p : Prop} (h : p := by
 clear hw hcl hL hC
 refine OpGoes.go fun K hK => ?_
 go_simp
 exact hK _ _ ⟨rfl, rfl⟩) : p := h -- ee92c020
theorem zswpA1 {p : Prop} (h : p := by
 go_light
 intro L σ W' hcl hL hC hw
 clear hw
 have HC := Lib.hid hC
 clear hC
 clear hcl hL
 refine OpGoes.go fun K hK => ?_
 go_simp
 obtain ⟨hbb, hX, hRg, hti, hc, hpe, hse, hye, hM1⟩ := HC.out
 have hb1 : Below W'.heap.size W' (W'.alloc (.cells #[.bool false, .int .i64 0, .bool false, .int .i64 0] 33)) := (Below.refl _ _).alloc (Nat.le_refl _) _
 exact hK _ _ ⟨⟨bstep hbb (Nat.le_trans hNw hbb.size) hb1, hX.below hb1 hX.lt, hRg.below hb1, hti.trans (.of_below hb1 (Nat.le_trans hMW hti.size)), hc.below hb1, hpe.below hb1, hse.below hb1 hse.lt, hye.below hb1 hye.lt, Nat.le_trans hM1 hb1.size⟩, ⟨_, rfl, hM1, _, _, _, _, BoxAt.new _ _ _⟩, hb1, rfl, by simp⟩) : p := h -- 87750b7a
theorem zswpA2 {p : Prop} (h : p := by
 simp only [List.setIfInBounds_toArray, List.set_cons_zero, List.set_cons_succ] at hset
 refine hK _ _ ⟨⟨(sc (sc (sc (sc hbb)))), ((((hX.sn).sn).sn).sn), ((((hRg.set1 (by omega) _ _).set1 (by omega) _ _).set1 (by omega) _ _).set1 (by omega) _ _), ((((hti.set (.inl (by omega)) _ _).set (.inl (by omega)) _ _).set (.inl (by omega)) _ _).set (.inl (by omega)) _ _), ((((hc.sn).sn).sn).sn), ((((hpe.sn).sn).sn).sn), ((((hse.sn).sn).sn).sn), ((((hye.sn).sn).sn).sn), (size_st (size_st (size_st (size_st hM1))))⟩, ⟨g13, e13, hg13, hset⟩, by simp, keepV ?_⟩
 exact ⟨fun _ _ _ => ⟨g13, e13, hg13, _, _, _, _, hset⟩, fun h => absurd rfl h, trivial⟩) : p := h -- d1ddf02a
theorem zswpA3 {p : Prop} (h : p := by
 intro σ L W' hall hC hRR
 obtain ⟨hbb, hX, hRg, hti, hc, hpe, hse, hye, hM1⟩ := hC
 obtain ⟨g13, e13, hg14, s14⟩ := dE hRR 14 rfl
 have e15 := dV hRR 15 rfl
 clear hRR
 simp only [lexAll]
 go_simp
 go_step
 go_meet
 exact ⟨hbb, hX, hRg, hti, hc, g13, rfl, hg14, s14, rfl⟩) : p := h -- e2291b21
theorem zswpA4 {p : Prop} (h : p := by
 rintro e w1 ⟨rfl, hb1⟩
 exact ⟨_, rfl, hK _ _ ⟨⟨bstep hbb (Nat.le_trans hNw hbb.size) hb1, hX.below hb1 hX.lt, hRg.below hb1, hti.trans (.of_below hb1 (Nat.le_trans hMW hti.size)), hc.below hb1, hpe.below hb1, hse.below hb1 hse.lt, hye.below hb1 hye.lt, Nat.le_trans hM1 hb1.size⟩, rfl, hb1⟩⟩) : p := h -- 0e89fc32
theorem zswpA5 {p : Prop} (h : p := by
 obtain ⟨hg0, hq0, hgg, cq, tq, hQ0⟩ := hSP.keep (W' := W1) (fun j hj => hbb.block j (by omega))
 clear d0 d1 d2 d3
 go_wp2
 go_ret
 exact .mkNo HCN.out hti hNP (by omega) ⟨cq, tq, hQ0⟩) : p := h -- f22ac353
theorem zswpA6 {p : Prop} (h : p := by
 intro L L' W' hLL hC
 obtain ⟨hbb, hX, hRg, hti, hc, hpe, hse, hye, hM1⟩ := hC
 exact ⟨hbb, hX, hRg, hti, hc, hpe, hse, hye, hM1⟩) : p := h -- 8d6ffbaa

set_option maxHeartbeats 400000 in
theorem iswappedP_yes (p q y : Pl) (w : World) (h : p.eqB q = true) :
  Calls Tryz.prog 170 #[.agg (cP p), .agg (cP q), .agg (cP y)] w (RetBelow (.tuple #[.agg (cP y), .bool true]) w) := by
 obtain rfl := Pl.eqB_iff.1 h
 clear h
 go_enter Tryz.func170, Tryz.ntmps170
 go_wp2
 refine bodyPost_ret (v := .tuple #[.agg (cP y), .bool true]) (by simp [results, Tryz.results170, go_sem]) rfl ⟨rfl, ?_⟩
 exact ((((Below.refl _ _).alloc (Nat.le_refl _) _).alloc (by simp) _).alloc (by simp; omega) _).alloc (by simp; omega) _
set_option maxHeartbeats 400000 in
theorem iswappedP_no (p q y : Pl) (w : World) (h : p.eqB q = false) :
  Calls Tryz.prog 170 #[.agg (cP p), .agg (cP q), .agg (cP y)] w (RetBelow (.tuple #[.agg (cP p), .bool false]) w) := by
 have H := Lib.hid h; clear h
 obtain ⟨a, b, c, d⟩ := p
 obtain ⟨a1, b1, c1, d1⟩ := q
 dsimp only
 go_enter Tryz.func170, Tryz.ntmps170
 go_wp2
 · exact absurd H.out (by simp [Pl.eqB, *])
 all_goals
  refine bodyPost_ret (v := .tuple #[.agg #[a, b, c, d], .bool false]) (by simp [results, Tryz.results170, go_sem, *]) rfl ⟨rfl, ?_⟩
  exact ((((Below.refl _ _).alloc (Nat.le_refl _) _).alloc (by simp) _).alloc (by simp; omega) _).alloc (by simp; omega) _
def RgV (M X : Nat) (W : World) (b n m : Nat) (L : List Rg) : Prop := RgsD M X W (some ⟨b, 0, none⟩) n m L ∧ X ≤ W.heap.size
theorem RgV.below {M X : Nat} {W W' : World} {b n m : Nat} {L : List Rg} (h : RgV M X W b n m L) (hb : Below W.heap.size W W') : RgV M X W' b n m L := ⟨h.1.below hb h.2, Nat.le_trans h.2 hb.size⟩
theorem RgV.set1 {M X : Nat} {b n m : Nat} {L : List Rg} {k : Nat} {W : World} (h : RgV M X W b n m L) (hk : X ≤ k) (i : Nat) (u : Value) : RgV M X (W.setCell ⟨k, i, none⟩ u) b n m L := ⟨h.1.setD (.inr hk) i u, by simpa using h.2⟩
theorem RgsD.put {M X : Nat} {W : World} {b n m : Nat} {L : List Rg} (h : RgsD M X W (some ⟨b, 0, none⟩) n m L) {i : Nat} {r : Rg} (hr : L[i]? = some r) {g k c : Nat} (h4 : W.cell? ⟨b, i * 5 + 4, none⟩ = some (.slice (some ⟨g, 0, none⟩) k c)) {j : Nat} (hj : j < k) (y : Pl) :
  RgsD M X (setCells W g (j * 4) (Pl.cs y)) (some ⟨b, 0, none⟩) n m (L.set i { r with ps := r.ps.set j y }) := by
 have hi : i < n := by have := (List.getElem?_eq_some_iff.1 hr).1; have := h.1; omega
 obtain ⟨b', rows, e, hb, ho, hd⟩ := h.2 (by omega)
 injection e with e
 injection e with e
 subst e
 have hil : i < rows.length := by have := ho.1; omega
 have ha : rows[i]? = some rows[i] := List.getElem?_eq_getElem hil
 obtain ⟨r0, hr0, h1, h2, h3, h4', g', hg, hh, hp⟩ := hd.1 i _ ha
 obtain rfl : r = r0 := by rw [hr] at hr0; injection hr0
 have d4 := (rws_at ho ha).2.2.2.2
 rw [hg, h4] at d4
 have e0 : (Value.slice (some ⟨g, 0, none⟩) k c) = .slice (some ⟨g', 0, none⟩) rows[i].n rows[i].cap := Option.some.inj d4
 injection e0 with e1 e2 e3
 injection e1 with e1
 injection e1 with e1
 subst e1
 obtain ⟨cb, hbx⟩ := own_box ho
 obtain ⟨cg, hbg⟩ := own_box hp
 have hbut := But.setCells (Pl.cs y) (j * 4) (But.refl g W)
 have hgb : b ≠ g := box_ne hbx hbg (by decide)
 have hrr : rows.set i ⟨r.h, r.t, r.c, r.x, rows[i].A, rows[i].n, rows[i].cap⟩ = rows := by
  apply List.ext_getElem?
  intro q
  by_cases hq : i = q
  ·
   subst hq
   rw [List.getElem?_set_self hil, ha]
   have : rows[i] = ⟨rows[i].h, rows[i].t, rows[i].c, rows[i].x, rows[i].A, rows[i].n, rows[i].cap⟩ := rfl
   rw [this, h1, h2, h3, h4']
  · rw [List.getElem?_set_ne hq]
 refine ⟨by simpa using h.1, fun _ => ⟨b, rows, rfl, hb, Own.keep ho (hbut.block b hbx.lt hgb), ?_⟩⟩
 have := hd.turn (w' := setCells W g (j * 4) (Pl.cs y)) ha hr hg (h' := r.h) (t' := r.t) (x' := r.x) (c' := r.c) (ps' := r.ps.set j y) (fun q cs hq hqg => hbut.block q hq.lt hqg) (Own.setEl hp Pl.cs_len (by omega) (by omega) y)
 rw [hrr] at this
 exact this
def swYV (s : St) (X b n m N M M1 S0 g1 k c : Nat) (z at_ : Int) (r : Rg) (p seen y : Pl) : List Sl := [.v (.pointer (some ⟨b, z.toNat * 5, none⟩)),
 .v (.pointer (some ⟨b, z.toNat * 5, none⟩)),
 .v (.pointer (some ⟨b, z.toNat * 5 + 4, none⟩)),
 .v (.slice (some ⟨g1, 0, none⟩) k c),
 .v at_,
 .v (.pointer (some ⟨g1, at_.toNat * 4, none⟩)),
 .v (.agg (cP p)),
 .v (.agg (cP seen)),
 .v (.agg (cP y)),
 .v (.tuple #[.agg (cP y), .bool true]),
 .v (.tuple #[.agg (cP y), .bool true]),
 .v (.agg (cP y)),
 .v (.bool true),
 .e fun σ w => ∃ g13, σ 13 = pT g13 ∧ M1 ≤ g13 ∧ ∃ x0 x1 x2 x3, BoxAt w g13 #[x0, x1, x2, x3] 33,
 .e fun σ w => ∃ g13, σ 13 = pT g13 ∧ M1 ≤ g13 ∧ BoxAt w g13 (cP y) 33,
 .v (.bool true)]
def swNV (s : St) (X b n m N M M1 S0 g1 k c : Nat) (z at_ : Int) (r : Rg) (p seen y : Pl) : List Sl := [.v (.pointer (some ⟨b, z.toNat * 5, none⟩)),
 .v (.pointer (some ⟨b, z.toNat * 5, none⟩)),
 .v (.pointer (some ⟨b, z.toNat * 5 + 4, none⟩)),
 .v (.slice (some ⟨g1, 0, none⟩) k c),
 .v at_,
 .v (.pointer (some ⟨g1, at_.toNat * 4, none⟩)),
 .v (.agg (cP p)),
 .v (.agg (cP seen)),
 .v (.agg (cP y)),
 .v (.tuple #[.agg (cP p), .bool false]),
 .v (.tuple #[.agg (cP p), .bool false]),
 .v (.agg (cP p)),
 .v (.bool false),
 .e fun σ w => ∃ g13, σ 13 = pT g13 ∧ M1 ≤ g13 ∧ ∃ x0 x1 x2 x3, BoxAt w g13 #[x0, x1, x2, x3] 33,
 .e fun σ w => ∃ g13, σ 13 = pT g13 ∧ M1 ≤ g13 ∧ BoxAt w g13 (cP p) 33,
 .v (.bool false)]
def swPV (s : St) (X b n m N M M1 gv g1 k c : Nat) (z at_ : Int) (r : Rg) (y : Pl) : List Sl := [.v (.pointer (some ⟨b, z.toNat * 5, none⟩)),
 .v (.pointer (some ⟨b, z.toNat * 5, none⟩)),
 .v (.pointer (some ⟨b, z.toNat * 5 + 4, none⟩)),
 .v (.slice (some ⟨g1, 0, none⟩) k c),
 .v at_,
 .v (.agg (cP y)),
 .v (.pointer (some ⟨g1, at_.toNat * 4, none⟩)),
 .e fun σ w => RgV M X w b n m (s.rs.set z.toNat { r with ps := r.ps.set at_.toNat y })]
set_option maxRecDepth 100000 in
set_option maxHeartbeats 4000000 in
theorem iswapAt (s : St) (z at_ : Int) (seen y : Pl) (n B : Nat) (a0 aP aN : Addr) (T : Nat) (w : World) (hSP : Sent B w 5 aP) (hNP : aP ≠ a0) (hSN : Sent B w 4 aN) (hNN : aN ≠ a0) (hBw : B ≤ w.heap.size) (h8 : ∀ r ∈ s.rs, r.ps.length ≤ 8)
  (W : World) (X b m M : Nat) (r : Rg) (hbb : Below w.heap.size w W) (hNM : w.heap.size ≤ M) (hMX : M ≤ X) (hXW : X < W.heap.size) (hX : BoxAt W X (sC s (some ⟨b, 0, none⟩) n m) 32) (hRg : RgsD M X W (some ⟨b, 0, none⟩) n m s.rs) (hrb : ringB s z = true) (hri : s.rs[z.toNat]? = some r) :
  Calls Tryz.prog 154 #[.pointer (some ⟨b, z.toNat * 5, none⟩), at_, .agg (cP seen), .agg (cP y)] W (ChPost (onRingC z (swapC at_ seen y)) s a0 w.heap.size X M T (fun _ => True) W) := by
 obtain ⟨hMb, hbX, ⟨cb, hbx⟩, d0, d1, d2, d3, df, g1, k, c, d4, hMg, hgX, hpo⟩ := hRg.ring hri
 have hk8 : k ≤ 8 := by have := h8 r (List.mem_of_getElem? hri); have := hpo.1; omega
 have HPL := Lib.hid hpo.1
 have HRI := Lib.hid hri
 have HRB := Lib.hid hrb
 have HLN := Lib.hid hRg.1
 obtain ⟨N, hN⟩ : ∃ N, N = w.heap.size := ⟨_, rfl⟩
 have hN1 : w.heap.size ≤ N := by omega
 have hNw : N ≤ w.heap.size := by omega
 have HN := Lib.hid hN
 have hMW : M ≤ W.heap.size := by omega
 replace hbb : Below N w W := hbb.mono (by omega)
 unfold sC at hX
 clear hN hri hrb h8
 obtain ⟨S0, hS0⟩ : ∃ S0, S0 = W.heap.size := ⟨_, rfl⟩
 have HS0 := Lib.hid hS0
 have hcR : RgC W b z.toNat r (some ⟨g1, 0, none⟩) k c := ⟨d0, d1, d2, d3, d4⟩
 clear d0 d1 d2 d3 d4 df
 go_enter Tryz.func154, Tryz.ntmps154
 go_upto_region 1 with fail
 rw [← HS0.out]
 refine wp_abs (fun W' => Below N w W' ∧ BoxAt W' X (aS s (some ⟨b, 0, none⟩) n m) 32 ∧ RgV M X W' b n m s.rs ∧ Till M T W W' ∧ RgC W' b z.toNat r (some ⟨g1, 0, none⟩) k c ∧ PlsO M W' g1 k c r.ps ∧ BoxAt W' S0 (cP seen) 33 ∧ BoxAt W' (S0 + 1) (cP y) 33 ∧ S0 + 2 ≤ W'.heap.size) ?_ ?_
 ·
  have b1 := (Below.refl W.heap.size W).alloc (Nat.le_refl _) (.cells (cP seen) 33)
  have b2 := b1.alloc (by simp) (.cells (cP y) 33)
  exact ⟨bstep hbb (by omega) b2, (hX.alloc _).alloc _, ⟨hRg.below b2 (by omega), by simp; omega⟩, .of_below b2 hMW, (hcR.below b2), (hpo.below b2), (BoxAt.new' hS0).alloc _, BoxAt.new' (by simp; omega), by simp; omega⟩
 have hS1 : X < S0 := by omega
 clear hbb hX hRg hcR hpo hbx hS0
 rintro W1 ⟨hbb, hX, hRg, hti, hc, hpo, hse, hye, hM0⟩
 obtain ⟨M1, hMe⟩ : ∃ M1, M1 = W1.heap.size := ⟨_, rfl⟩
 have hM1 : M1 ≤ W1.heap.size := by omega
 have hM1S : S0 + 2 ≤ M1 := by omega
 clear hMe
 obtain ⟨d0, d1, d2, d3, d4⟩ := hc
 by_cases hlo : at_ < 0
 ·
  have HCN := Lib.hid (show onRingC z (swapC at_ seen y) s = none by rw [onRingC_yes HRB.out HRI.out]; simp [swapC, hlo])
  exact zswpA5
 by_cases hhi : (k : Int) ≤ at_
 ·
  have HCN := Lib.hid (show onRingC z (swapC at_ seen y) s = none by rw [onRingC_yes HRB.out HRI.out]; simp [swapC, HPL.out, hhi])
  exact zswpA5
 have hat0 : 0 ≤ at_ := by omega
 have hat1 : at_ < (k : Int) := by omega
 have hatn : at_.toNat < k := by omega
 have hlt4 : at_.toNat < r.ps.length := by rw [HPL.out]; exact hatn
 obtain ⟨p, hpx⟩ : ∃ p, r.ps[at_.toNat]? = some p := ⟨_, List.getElem?_eq_getElem hlt4⟩
 have hpe : PlE 0 W1 g1 (at_.toNat * 4) p := PlE.of_cells fun j u hu => Own.cell_ Pl.cs_len hpo hpx hu
 have HPX := Lib.hid hpx
 have HOR := Lib.hid (show (decide (at_ < 0) || decide ((r.ps.length : Int) ≤ at_)) = false by rw [HPL.out]; simp [hlo, hhi])
 cases heq : p.eqB seen
 ·
  have HEQ := Lib.hid heq
  have HCN := Lib.hid (show onRingC z (swapC at_ seen y) s = none by rw [onRingC_yes HRB.out HRI.out]; simp only [swapC, HOR.out, HPX.out, HEQ.out]; rfl)
  clear heq hpx hpo
  go_upto_region 3 with fail
  have hc : RgC W1 b z.toNat r (some ⟨g1, 0, none⟩) k c := ⟨d0, d1, d2, d3, d4⟩
  clear d0 d1 d2 d3 d4
  go_cut [9, 10] (fun s9 s10 W' => Below N w W' ∧ BoxAt W' X (aS s (some ⟨b, 0, none⟩) n m) 32 ∧ RgV M X W' b n m s.rs ∧ Till M T W W' ∧ RgC W' b z.toNat r (some ⟨g1, 0, none⟩) k c ∧ ∃ gv, s9 = pT gv ∧ M1 ≤ gv ∧ BoxAt W' gv (cP p) 33 ∧ s10 = .bool false)
  case first =>
   refine wp_region2v (fun w w' => Below w.heap.size w w') (fun _ _ h => h.size) (fun _ => Below.refl _ _) (fun L W' => Below N w W' ∧ BoxAt W' X (aS s (some ⟨b, 0, none⟩) n m) 32 ∧ RgV M X W' b n m s.rs ∧ Till M T W W' ∧ RgC W' b z.toNat r (some ⟨g1, 0, none⟩) k c ∧ PlE 0 W' g1 (at_.toNat * 4) p ∧ BoxAt W' S0 (cP seen) 33 ∧ BoxAt W' (S0 + 1) (cP y) 33 ∧ M1 ≤ W'.heap.size) (swNV s X b n m N M M1 S0 g1 k c z at_ r p seen y) (fun j => [0, 0, 0, 0, 0, 0, 0, 0, 0, 0, 0, 0, 0, 2, 1, 0].getD j 0) [(14, 13)] (by kernel_rfl) (by kernel_rfl) ?_ ?_ ?_
    (.still rfl ?a0 <| .still rfl ?a1 <| .still rfl ?a2 <| .still rfl ?a3 <| .still rfl ?a4 <| .still rfl ?a5 <| .still rfl ?a6 <| .still rfl ?a7 <| .still rfl ?a8 <| .grow rfl ?a9 <| .still rfl ?a10 <| .still rfl ?a11 <| .still rfl ?a12 <| .make rfl ?a13 <| .store rfl ?a14 <| .still rfl ?a15 <| .nil) ?_ ?_
   · exact ⟨fun _ _ _ h ⟨g, e, hp⟩ => ⟨g, (h 13 (List.mem_singleton.2 rfl)).symm.trans e, hp⟩, fun _ _ _ h ⟨g, e, hp⟩ => ⟨g, (h 13 (List.mem_singleton.2 rfl)).symm.trans e, hp⟩, trivial⟩
   · exact ⟨fun σ w w' hb ⟨g, e, hg, x0, x1, x2, x3, hx⟩ => ⟨g, e, hg, x0, x1, x2, x3, hx.below hb hx.lt⟩, fun σ w w' hb ⟨g, e, hg, hx⟩ => ⟨g, e, hg, hx.below hb hx.lt⟩, trivial⟩
   · exact ⟨hbb.drew, hX, hRg, hti.drewN _, hc, hpe, hse, hye, hM1⟩
   case a0 | a1 | a2 | a4 | a5 | a10 | a11 | a12 | a15 =>
    go_light
    intro L σ W' hcl hL hC hw
    try have e0 := wT hw 0 rfl
    try have e1 := wT hw 1 rfl
    try have e3 := wT hw 3 rfl
    try have e4 := wT hw 4 rfl
    try have e9 := wT hw 9 rfl
    try have e10 := wT hw 10 rfl
    try have e12 := wT hw 12 rfl
    exact zswpA0
   case a3 =>
    go_light
    intro L σ W' hcl hL hC hw
    have e2 := wV hw 2 rfl
    have hc0 := hC.2.2.2.2.1
    obtain ⟨c0, c1_, c2, c3, c4⟩ := hc0
    exact zswpA0
   case a6 =>
    go_light
    intro L σ W' hcl hL hC hw
    have e5 := wV hw 5 rfl
    have he0 := hC.2.2.2.2.2.1
    obtain ⟨d0, d1, d2, d3⟩ := he0
    exact zswpA0
   case a7 =>
    go_light
    intro L σ W' hcl hL hC hw
    have kp := hC.2.2.2.2.2.2.1.cell
    exact zswpA0
   case a8 =>
    go_light
    intro L σ W' hcl hL hC hw
    have kq := hC.2.2.2.2.2.2.2.1.cell
    exact zswpA0
   case a9 =>
    go_light
    intro L σ W' hcl hL hC hw
    have e6 := wV hw 6 rfl
    have e7 := wV hw 7 rfl
    have e8 := wV hw 8 rfl
    clear hw
    have HC := Lib.hid hC
    clear hC
    clear hcl hL
    refine OpGoes.go fun K hK => ?_
    go_simp
    obtain ⟨hbb, hX, hRg, hti, hc, hpe, hse, hye, hM1⟩ := HC.out
    refine (iswappedP_no p seen y _ HEQ.out).mono ?_
    exact zswpA4
   case a13 =>
    exact zswpA1
   case a14 =>
    go_light
    intro L σ W' hcl hL hC hw hne
    have e11 := wV hw 11 rfl
    obtain ⟨g13, e13, hg13, x0, x1, x2, x3, hbox13⟩ := wE hw 13 rfl
    clear hw hne
    have HC := Lib.hid hC
    clear hC
    clear hcl hL
    have kc_ := hbox13.cell
    have kf_ := hbox13.frozen
    refine OpGoes.go fun K hK => ?_
    go_simp
    obtain ⟨hbb, hX, hRg, hti, hc, hpe, hse, hye, hM1⟩ := HC.out
    have hset := ((((hbox13.set 0 (.bool p.s)).set 1 (.int .i64 p.n)).set 2 (.bool p.f)).set 3 (.int .i64 p.v))
    exact zswpA2
   ·
    exact zswpA6
   ·
    exact zswpA3
  case rest =>
   clear hbb hX hRg hti hc hpe hse hye hM1
   obtain ⟨hbb, hX, hRg, hti, hc, gv, rfl, hgv, hv, rfl⟩ := hcut
   obtain ⟨hg0, hq0, hgg, cq, tq, hQ0⟩ := hSN.keep (W' := wc) (fun j hj => hbb.block j (by omega))
   go_wp2
   go_ret
   exact .mkNo HCN.out hti hNN (by omega) ⟨cq, tq, hQ0⟩
 ·
  have HEQ := Lib.hid heq
  have HCY := Lib.hid (show onRingC z (swapC at_ seen y) s = some { s with rs := s.rs.set z.toNat { r with ps := r.ps.set at_.toNat y } } by rw [onRingC_yes HRB.out HRI.out]; simp only [swapC, HOR.out, HPX.out, HEQ.out]; rfl)
  clear heq hpx hpo
  go_upto_region 3 with fail
  have hc : RgC W1 b z.toNat r (some ⟨g1, 0, none⟩) k c := ⟨d0, d1, d2, d3, d4⟩
  clear d0 d1 d2 d3 d4
  go_cut [9, 10] (fun s9 s10 W' => Below N w W' ∧ BoxAt W' X (aS s (some ⟨b, 0, none⟩) n m) 32 ∧ RgV M X W' b n m s.rs ∧ Till M T W W' ∧ RgC W' b z.toNat r (some ⟨g1, 0, none⟩) k c ∧ ∃ gv, s9 = pT gv ∧ M1 ≤ gv ∧ BoxAt W' gv (cP y) 33 ∧ s10 = .bool true)
  case first =>
   refine wp_region2v (fun w w' => Below w.heap.size w w') (fun _ _ h => h.size) (fun _ => Below.refl _ _) (fun L W' => Below N w W' ∧ BoxAt W' X (aS s (some ⟨b, 0, none⟩) n m) 32 ∧ RgV M X W' b n m s.rs ∧ Till M T W W' ∧ RgC W' b z.toNat r (some ⟨g1, 0, none⟩) k c ∧ PlE 0 W' g1 (at_.toNat * 4) p ∧ BoxAt W' S0 (cP seen) 33 ∧ BoxAt W' (S0 + 1) (cP y) 33 ∧ M1 ≤ W'.heap.size) (swYV s X b n m N M M1 S0 g1 k c z at_ r p seen y) (fun j => [0, 0, 0, 0, 0, 0, 0, 0, 0, 0, 0, 0, 0, 2, 1, 0].getD j 0) [(14, 13)] (by kernel_rfl) (by kernel_rfl) ?_ ?_ ?_
    (.still rfl ?a0 <| .still rfl ?a1 <| .still rfl ?a2 <| .still rfl ?a3 <| .still rfl ?a4 <| .still rfl ?a5 <| .still rfl ?a6 <| .still rfl ?a7 <| .still rfl ?a8 <| .grow rfl ?a9 <| .still rfl ?a10 <| .still rfl ?a11 <| .still rfl ?a12 <| .make rfl ?a13 <| .store rfl ?a14 <| .still rfl ?a15 <| .nil) ?_ ?_
   · exact ⟨fun _ _ _ h ⟨g, e, hp⟩ => ⟨g, (h 13 (List.mem_singleton.2 rfl)).symm.trans e, hp⟩, fun _ _ _ h ⟨g, e, hp⟩ => ⟨g, (h 13 (List.mem_singleton.2 rfl)).symm.trans e, hp⟩, trivial⟩
   · exact ⟨fun σ w w' hb ⟨g, e, hg, x0, x1, x2, x3, hx⟩ => ⟨g, e, hg, x0, x1, x2, x3, hx.below hb hx.lt⟩, fun σ w w' hb ⟨g, e, hg, hx⟩ => ⟨g, e, hg, hx.below hb hx.lt⟩, trivial⟩
   · exact ⟨hbb.drew, hX, hRg, hti.drewN _, hc, hpe, hse, hye, hM1⟩
   case a0 | a1 | a2 | a4 | a5 | a10 | a11 | a12 | a15 =>
    go_light
    intro L σ W' hcl hL hC hw
    try have e0 := wT hw 0 rfl
    try have e1 := wT hw 1 rfl
    try have e3 := wT hw 3 rfl
    try have e4 := wT hw 4 rfl
    try have e9 := wT hw 9 rfl
    try have e10 := wT hw 10 rfl
    try have e12 := wT hw 12 rfl
    exact zswpA0
   case a3 =>
    go_light
    intro L σ W' hcl hL hC hw
    have e2 := wV hw 2 rfl
    have hc0 := hC.2.2.2.2.1
    obtain ⟨c0, c1_, c2, c3, c4⟩ := hc0
    exact zswpA0
   case a6 =>
    go_light
    intro L σ W' hcl hL hC hw
    have e5 := wV hw 5 rfl
    have he0 := hC.2.2.2.2.2.1
    obtain ⟨d0, d1, d2, d3⟩ := he0
    exact zswpA0
   case a7 =>
    go_light
    intro L σ W' hcl hL hC hw
    have kp := hC.2.2.2.2.2.2.1.cell
    exact zswpA0
   case a8 =>
    go_light
    intro L σ W' hcl hL hC hw
    have kq := hC.2.2.2.2.2.2.2.1.cell
    exact zswpA0
   case a9 =>
    go_light
    intro L σ W' hcl hL hC hw
    have e6 := wV hw 6 rfl
    have e7 := wV hw 7 rfl
    have e8 := wV hw 8 rfl
    clear hw
    have HC := Lib.hid hC
    clear hC
    clear hcl hL
    refine OpGoes.go fun K hK => ?_
    go_simp
    obtain ⟨hbb, hX, hRg, hti, hc, hpe, hse, hye, hM1⟩ := HC.out
    refine (iswappedP_yes p seen y _ HEQ.out).mono ?_
    exact zswpA4
   case a13 =>
    exact zswpA1
   case a14 =>
    go_light
    intro L σ W' hcl hL hC hw hne
    have e11 := wV hw 11 rfl
    obtain ⟨g13, e13, hg13, x0, x1, x2, x3, hbox13⟩ := wE hw 13 rfl
    clear hw hne
    have HC := Lib.hid hC
    clear hC
    clear hcl hL
    have kc_ := hbox13.cell
    have kf_ := hbox13.frozen
    refine OpGoes.go fun K hK => ?_
    go_simp
    obtain ⟨hbb, hX, hRg, hti, hc, hpe, hse, hye, hM1⟩ := HC.out
    have hset := ((((hbox13.set 0 (.bool y.s)).set 1 (.int .i64 y.n)).set 2 (.bool y.f)).set 3 (.int .i64 y.v))
    exact zswpA2
   ·
    exact zswpA6
   ·
    exact zswpA3
  case rest =>
   clear hbb hX hRg hti hc hpe hse hye hM1
   obtain ⟨hbb, hX, hRg, hti, hc, gv, rfl, hgv, hv, rfl⟩ := hcut
   go_upto_region 6 with fail
   refine wp_region2v (fun w w' => Below w.heap.size w w') (fun _ _ h => h.size) (fun _ => Below.refl _ _) (fun L W' => Below N w W' ∧ BoxAt W' X (aS s (some ⟨b, 0, none⟩) n m) 32 ∧ Till M T W W' ∧ BoxAt W' gv (cP y) 33 ∧ (L 7 = false → RgV M X W' b n m s.rs) ∧ (L 7 = false → RgC W' b z.toNat r (some ⟨g1, 0, none⟩) k c)) (swPV s X b n m N M M1 gv g1 k c z at_ r y) (fun j => [0, 0, 0, 0, 0, 0, 0, 1].getD j 0) [] (by kernel_rfl) (by kernel_rfl) ?_ ?_ ?_
    (.still rfl ?a0 <| .still rfl ?a1 <| .still rfl ?a2 <| .still rfl ?a3 <| .still rfl ?a4 <| .still rfl ?a5 <| .still rfl ?a6 <| .store rfl ?a7 <| .nil) ?_ ?_
   · exact ⟨fun _ _ _ _ h => h, trivial⟩
   · exact ⟨fun σ w w' hb hR => RgV.below hR hb, trivial⟩
   · exact ⟨hbb.drew, hX, hti.drewN _, hv, fun _ => hRg, fun _ => hc⟩
   case a0 | a1 | a2 | a4 | a6 =>
    go_light
    intro L σ W' hcl hL hC hw
    try have e0 := wT hw 0 rfl
    try have e1 := wT hw 1 rfl
    try have e3 := wT hw 3 rfl
    try have e4 := wT hw 4 rfl
    exact zswpA0
   case a5 =>
    go_light
    intro L σ W' hcl hL hC hw
    have kv := hC.2.2.2.1.cell
    exact zswpA0
   case a3 =>
    go_light
    intro L σ W' hcl hL hC hw
    have e2 := wV hw 2 rfl
    have hc0 := (hC.2.2.2.2.2 (hcl.not (j := 7) (k := 6) (by kernel_rfl) (hcl.not (j := 6) (k := 3) (by kernel_rfl) hL)))
    obtain ⟨c0, c1_, c2, c3, c4⟩ := hc0
    exact zswpA0
   case a7 =>
    go_light
    intro L σ W' hcl hL hC hw hne
    have e5 := wV hw 5 rfl
    have e6 := wV hw 6 rfl
    clear hw hne
    obtain ⟨hbb, hX, hti, hv, hRg, hc⟩ := hC
    have hRg7 := (hRg hL)
    have hc7 := (hc hL)
    obtain ⟨_, _, _, _, _, _, _, _, gg, kk, cc, d4, hMg, hgX, hpo⟩ := hRg7.1.ring HRI.out
    have hcc := hc7.2.2.2.2
    rw [d4] at hcc
    have e0 : (Value.slice (some ⟨gg, 0, none⟩) kk cc) = .slice (some ⟨g1, 0, none⟩) k c := Option.some.inj hcc
    injection e0 with e1 e2 e3
    injection e1 with e1
    injection e1 with e1
    have e1' := e1.symm
    have e2' := e2.symm
    have e3' := e3.symm
    subst e1' e2' e3'
    clear e1 e2 e3
    have hlt4 : at_.toNat < r.ps.length := by rw [hpo.1]; exact hatn
    have hgx : r.ps[at_.toNat]? = some r.ps[at_.toNat] := List.getElem?_eq_getElem hlt4
    have d0 := Own.cell_ Pl.cs_len hpo (j := 0) hgx rfl
    have d1 := Own.cell_ Pl.cs_len hpo (j := 1) hgx rfl
    have d2 := Own.cell_ Pl.cs_len hpo (j := 2) hgx rfl
    have d3 := Own.cell_ Pl.cs_len hpo (j := 3) hgx rfl
    rw [Nat.add_zero] at d0
    have df := Own.frozen_ hpo
    have hput := hRg7.1.put HRI.out d4 hatn y
    clear hgx hcc
    clear hcl hL
    refine OpGoes.go fun K hK => ?_
    go_simp
    refine hK _ _ ⟨⟨sc (sc (sc (sc hbb))), (((hX.sn).sn).sn).sn, (((hti.set (.inl (by omega)) _ _).set (.inl (by omega)) _ _).set (.inl (by omega)) _ _).set (.inl (by omega)) _ _, (((hv.sn).sn).sn).sn, fun h => absurd h (by simp [upd]), fun h => absurd h (by simp [upd])⟩, ?_, by simp, fun j hj hn hR => ?_⟩
    · exact ⟨hput, by simpa using hRg7.2⟩
    refine keepV ?_ j hj hn hR
    exact ⟨fun h => absurd rfl h, trivial⟩
   ·
    intro L L' W' hLL hC
    obtain ⟨hbb, hX, hti, hv, hRg, hc⟩ := hC
    exact ⟨hbb, hX, hti, hv, fun h => hRg (hLL _ h), fun h => hc (hLL _ h)⟩
   ·
    intro σ L W' hall hC hRR
    obtain ⟨hbb, hX, hti, hv, hRg, hc⟩ := hC
    have hR7 : RgV M X W' b n m (s.rs.set z.toNat { r with ps := r.ps.set at_.toNat y }) := hRR 7 (by decide)
    clear hRR
    simp only [lexAll]
    go_simp
    go_step
    go_wp2
    go_ret
    exact .mkYes (t := { s with rs := s.rs.set z.toNat { r with ps := r.ps.set at_.toNat y } }) HCY.out hti trivial hX (hR7.1.mono (Nat.le_refl _) hR7.2)
set_option maxRecDepth 100000 in
set_option maxHeartbeats 4000000 in
theorem iswap1 (s : St) (z at_ : Int) (seen y : Pl) (n A_ S_ Y_ B : Nat) (a0 aP aN : Addr) (T : Nat) (w : World) (hok : stOk s = true) (hA0 : BoxAt w A_ #[at_] 2) (hS0 : BoxAt w S_ (cP seen) 33) (hY0 : BoxAt w Y_ (cP y) 33) (hSP : Sent B w 5 aP) (hNP : aP ≠ a0) (hSN : Sent B w 4 aN) (hNN : aN ≠ a0) (hBw : B ≤ w.heap.size) :
  RChanges (swapC at_ seen y) s z n a0 T (fun _ => True) 153 [pT A_, pT S_, pT Y_] w := by
 intro W X b m M r hbb hNM hMX hXW hX hRg hrb hri
 have h8 := Lib.hid (fun r hr => ((stOk_neat hok).2.2 r hr).2)
 have k1 := (hA0.below hbb hA0.lt).cell
 have k2 := (hS0.below hbb hS0.lt).cell
 have k3 := (hY0.below hbb hY0.lt).cell
 show Calls Tryz.prog 153 #[.pointer (some ⟨b, z.toNat * 5, none⟩), pT A_, pT S_, pT Y_] W _
 go_enter Tryz.func153, Tryz.ntmps153
 go_wp2_with fail
 refine (iswapAt s z at_ seen y n B a0 aP aN T w hSP hNP hSN hNN hBw h8.out W X b m M r hbb hNM hMX hXW hX hRg hrb hri).mono ?_
 intro e w1 hp
 obtain ⟨v, rfl⟩ := hp.ret
 clear k1 k2 k3
 go_wp2
 go_ret
 exact hp
theorem mild_swap {s t : St} {z at_ : Int} {seen y : Pl} (hok : stOk s = true) (ht : onRingC z (swapC at_ seen y) s = some t) : Mild t :=
 mild_ring (fun r r' h => by
  unfold swapC at h
  split at h
  · cases h
  ·
   cases hq : r.ps[at_.toNat]? with
   | none => rw [hq] at h; cases h
   | some p =>
    rw [hq] at h
    dsimp only at h
    split at h
    · injection h with h; subst h; simp
    · cases h) hok ht
def dn_swapV (s : St) (A : Option Addr) (n cap N : Nat) (z at_ : Int) (seen y : Pl) : List Sl := [.v (.agg (aS s A n cap)),
 .v z,
 .v (.func (.func 153) #[] #[pT (N + 1), pT (N + 2), pT (N + 3)]),
 .e fun σ w => ∃ (k : Nat), σ 3 = .func (.func 167) #[] #[pT k, pT (k + 1)] ∧ OnR (N + 5) w k z 153 [pT (N + 1), pT (N + 2), pT (N + 3)],
 .e fun σ w => ∃ (A' : Option Addr) (n' c' : Nat), σ 4 = .tuple #[.agg (dS ((done (onRingC z (swapC at_ seen y)) s).1.rd) ((done (onRingC z (swapC at_ seen y)) s).1.mo) A' n' c' ((done (onRingC z (swapC at_ seen y)) s).1.fi) ((done (onRingC z (swapC at_ seen y)) s).1.la)), .bool ((done (onRingC z (swapC at_ seen y)) s).2)] ∧ DnF (N + 5) (fun _ => True) (done (onRingC z (swapC at_ seen y)) s) w A' n' c',
 .e fun σ w => ∃ (A' : Option Addr) (n' c' : Nat), σ 5 = .agg (dS ((done (onRingC z (swapC at_ seen y)) s).1.rd) ((done (onRingC z (swapC at_ seen y)) s).1.mo) A' n' c' ((done (onRingC z (swapC at_ seen y)) s).1.fi) ((done (onRingC z (swapC at_ seen y)) s).1.la)) ∧ DnF (N + 5) (fun _ => True) (done (onRingC z (swapC at_ seen y)) s) w A' n' c',
 .v (.bool ((done (onRingC z (swapC at_ seen y)) s).2)),
 .e fun σ w => ∃ (A' : Option Addr) (n' c' : Nat), BoxAt w (N + 4) (dS ((done (onRingC z (swapC at_ seen y)) s).1.rd) ((done (onRingC z (swapC at_ seen y)) s).1.mo) A' n' c' ((done (onRingC z (swapC at_ seen y)) s).1.fi) ((done (onRingC z (swapC at_ seen y)) s).1.la)) 32 ∧ DnF (N + 5) (fun _ => True) (done (onRingC z (swapC at_ seen y)) s) w A' n' c',
 .v (.bool ((done (onRingC z (swapC at_ seen y)) s).2))]
set_option maxRecDepth 100000 in
set_option maxHeartbeats 4000000 in
theorem iswap_any (s : St) (A : Option Addr) (n cap lo hi B : Nat) (a0 a1 a2 a3 a4 : Addr) (z at_ : Int) (seen y : Pl) (w : World) (hs : RgsW lo hi w A n cap s.rs) (hh : hi ≤ w.heap.size) (hBw : B ≤ w.heap.size) (he : Errs B w a0 a1) (hS0 : Sent B w 2 a2) (hN0 : a2 ≠ a0) (hS1 : Sent B w 5 a3) (hN1x : a3 ≠ a0) (hS2 : Sent B w 4 a4) (hN2x : a4 ≠ a0) (hm : n ≤ 1048576) (hpn : ∀ r ∈ s.rs, r.ps.length ≤ 1048576) :
  Calls Tryz.prog 133 #[stV s A n cap, z, at_, .agg (cP seen), .agg (cP y)] w (RetSBD (swapPlace s z at_ seen y) w) := by
 have HPN := Lib.hid hpn; clear hpn
 have HLN := Lib.hid hs.1
 have HV := Lib.hid (swap_done s z at_ seen y)
 obtain ⟨N, hN⟩ : ∃ N, N = w.heap.size := ⟨_, rfl⟩
 have hN1 : w.heap.size ≤ N := by omega
 have hNw : N ≤ w.heap.size := by omega
 have HN := Lib.hid hN
 have hBN : B ≤ N := by omega
 unfold stV
 go_enter Tryz.func133, Tryz.ntmps133
 go_upto_region 1 with fail
 rw [← HN.out]
 refine wp_abs (fun W => Below N w W ∧ N + 5 ≤ W.heap.size ∧ BoxAt W N (aS s A n cap) 32 ∧ BoxAt W (N + 1) #[at_] 2 ∧ BoxAt W (N + 2) (cP seen) 33 ∧ BoxAt W (N + 3) (cP y) 33 ∧ BoxAt W (N + 4) zS 32) ⟨((((((Below.refl _ _).alloc hNw _).alloc (by simp; omega) _).alloc (by simp; omega) _).alloc (by simp; omega) _).alloc (by simp; omega) _), by simp; omega, (((((BoxAt.new' (by omega)).alloc _).alloc _).alloc _).alloc _), ((((BoxAt.new' (by simp; omega)).alloc _).alloc _).alloc _), (((BoxAt.new' (by simp; omega)).alloc _).alloc _), ((BoxAt.new' (by simp; omega)).alloc _), (BoxAt.new' (by simp; omega))⟩ ?_
 clear hN
 rintro W0 ⟨hB, hsz, hx, hc1, hc2, hc3, hz⟩
 refine wp_region2v (fun w w' => Below w.heap.size w w') (fun _ _ h => h.size) (fun _ => Below.refl _ _) (fun L W' => Below N w W' ∧ N + 5 ≤ W'.heap.size ∧ (L 4 = false → BoxAt W' N (aS s A n cap) 32) ∧ (L 4 = false → BoxAt W' (N + 1) #[at_] 2) ∧ (L 4 = false → BoxAt W' (N + 2) (cP seen) 33) ∧ (L 4 = false → BoxAt W' (N + 3) (cP y) 33) ∧ (∃ x0 x1 x2 x3 x4, BoxAt W' (N + 4) #[x0, x1, x2, x3, x4] 32) ∧ (L 7 = false → BoxAt W' (N + 4) zS 32)) (dn_swapV s A n cap N z at_ seen y) (fun j => [0, 0, 0, 0, 1, 0, 0, 1, 0].getD j 0) [] (by kernel_rfl) (by kernel_rfl) ?_ ?_ ?_
  (.still rfl ?a0 <| .still rfl ?a1 <| .still rfl ?a2 <| .grow rfl ?a3 <| .store rfl ?a4 <| .still rfl ?a5 <| .still rfl ?a6 <| .store rfl ?a7 <| .still rfl ?a8 <| .nil) ?_ ?_
 · exact ⟨fun _ _ _ h ⟨k, e, hp⟩ => ⟨k, (h 3 (List.mem_singleton.2 rfl)).symm.trans e, hp⟩, fun _ _ _ h ⟨A', n', c', e, hp⟩ => ⟨A', n', c', (h 4 (List.mem_singleton.2 rfl)).symm.trans e, hp⟩, fun _ _ _ h ⟨A', n', c', e, hp⟩ => ⟨A', n', c', (h 5 (List.mem_singleton.2 rfl)).symm.trans e, hp⟩, fun _ _ _ _ h => h, trivial⟩
 · exact ⟨fun σ w w' hb ⟨k, e, hp⟩ => ⟨k, e, hp.below hb⟩, fun σ w w' hb ⟨A', n', c', e, hp⟩ => ⟨A', n', c', e, hp.below hb (fun _ _ _ _ => trivial)⟩, fun σ w w' hb ⟨A', n', c', e, hp⟩ => ⟨A', n', c', e, hp.below hb (fun _ _ _ _ => trivial)⟩, fun σ w w' hb ⟨A', n', c', hx, hp⟩ => ⟨A', n', c', hx.below hb hx.lt, hp.below hb (fun _ _ _ _ => trivial)⟩, trivial⟩
 · exact ⟨hB.drew, hsz, fun _ => hx, fun _ => hc1, fun _ => hc2, fun _ => hc3, ⟨_, _, _, _, _, hz⟩, fun _ => hz⟩
 case a1 | a2 | a8 =>
  go_light
  intro L σ W' hcl hL hC hw
  try have e6 := wT hw 6 rfl
  exact zswpA0
 case a0 =>
  go_light
  intro L σ W' hcl hL hC hw
  have hx_ := (hC.2.2.1 (hcl.not (j := 4) (k := 0) (by kernel_rfl) hL))
  have ks := hx_.cell
  exact zswpA0
 case a3 =>
  go_light
  intro L σ W' hcl hL hC hw
  have e1 := wV hw 1 rfl
  have e2 := wV hw 2 rfl
  clear hw
  have HC := Lib.hid hC
  clear hC
  clear hcl hL
  refine OpGoes.go fun K hK => ?_
  go_simp
  obtain ⟨hB, hsz, hx, hc1, hc2, hc3, ⟨_, _, _, _, _, hz⟩, hz_o⟩ := HC.out
  refine (ionRing_any z 153 [pT (N + 1), pT (N + 2), pT (N + 3)] _).mono ?_
  rintro e w1 ⟨rfl, hk1, hk2, hk3, hb1⟩
  exact ⟨_, rfl, hK _ _ ⟨⟨bstep hB (Nat.le_trans hNw hB.size) hb1, Nat.le_trans hsz hb1.size, fun h => (hx (by simpa [upd] using h)).below hb1 (hx (by simpa [upd] using h)).lt, fun h => (hc1 (by simpa [upd] using h)).below hb1 (hc1 (by simpa [upd] using h)).lt, fun h => (hc2 (by simpa [upd] using h)).below hb1 (hc2 (by simpa [upd] using h)).lt, fun h => (hc3 (by simpa [upd] using h)).below hb1 (hc3 (by simpa [upd] using h)).lt, ⟨_, _, _, _, _, hz.below hb1 hz.lt⟩, fun h => (hz_o (by simpa [upd] using h)).below hb1 (hz_o (by simpa [upd] using h)).lt⟩, ⟨_, rfl, hk1, hk2, hsz⟩, hb1⟩⟩
 case a4 =>
  go_light
  intro L σ W' hcl hL hC hw hne
  have e0 := wV hw 0 rfl
  obtain ⟨k, e3, hp3⟩ := wE hw 3 rfl
  clear hw hne
  obtain ⟨hB, hsz, hx, hc1, hc2, hc3, ⟨_, _, _, _, _, hz⟩, hz_o⟩ := hC
  have hx3 := (hx hL)
  have hc1_ := (hc1 hL)
  have hc2_ := (hc2 hL)
  have hc3_ := (hc3 hL)
  clear hcl hL
  refine OpGoes.go fun K hK => ?_
  go_simp
  have hs3 := hs.keep (w' := W') (fun j _ hj => hB.block j (by omega))
  have he3 := he.below hB (by omega)
  refine (idoneOrNot_any (onRingC z (swapC at_ seen y)) s A n cap lo hi B N a0 a1 (fun _ => True) 167 [pT k, pT (k + 1)] W' hs3 (by omega) (by omega) (by omega) hBN (by omega) he3 hm HPN.out (fun t hok ht => mild_swap hok ht) (fun _ _ _ _ => trivial) (fun hok => ionRing1_any (swapC at_ seen y) s z n k (k + 1) B a0 a2 N (fun _ => True) 153 [pT (N + 1), pT (N + 2), pT (N + 3)] W' hp3.1 hp3.2.1 (iswap1 s z at_ seen y n (N + 1) (N + 2) (N + 3) B a0 a3 a4 N W' hok hc1_ hc2_ hc3_ (hS1.keep (fun j hj => hB.block j (by omega))) hN1x (hS2.keep (fun j hj => hB.block j (by omega))) hN2x (by omega)) (enters_of Tryz.func153 (by kernel_rfl) rfl) (hS0.keep (fun j hj => hB.block j (by omega))) hN0 (by omega) hBN hm) (enters_of Tryz.func167 (by kernel_rfl) rfl)).mono ?_
  rintro e w1 ⟨A', n', c', rfl, hR1, hk1, hbt⟩
  have hbt2 := hbt.size
  refine ⟨_, rfl, hK _ _ ⟨⟨hB.trans (hbt.below (Nat.le_refl _) (by omega)), by omega, fun h => absurd h (by simp [upd]), fun h => absurd h (by simp [upd]), fun h => absurd h (by simp [upd]), fun h => absurd h (by simp [upd]), ⟨_, _, _, _, _, hbt.box hz (by omega)⟩, fun h => hbt.box (hz_o (by simpa [upd] using h)) (by omega)⟩, ⟨A', n', c', rfl, ⟨_, Nat.le_refl _, hR1.mono (by omega) (Nat.le_refl _)⟩, hk1⟩, hbt2, fun j hj hn hR => ?_⟩⟩
  refine keepV ?_ j hj hn hR
  exact ⟨fun _ _ ⟨k, e, hp⟩ => ⟨k, e, hp.but hbt (by omega)⟩, fun h => absurd rfl h, fun _ h => absurd (h.symm.trans (show waits _ _ _ = true by kernel_rfl)) (by decide), fun _ _ ⟨A'_x, n'_x, c'_x, hx, hp⟩ => ⟨A'_x, n'_x, c'_x, hbt.box hx (by omega), hp.but hbt (by omega)⟩, trivial⟩
 case a5 =>
  go_light
  intro L σ W' hcl hL hC hw
  obtain ⟨A', n', c', e4, hp4⟩ := wE hw 4 rfl
  clear hw hcl hL hC
  refine OpGoes.go fun K hK => ?_
  go_simp
  exact hK _ _ ⟨rfl, ⟨A', n', c', rfl, hp4⟩⟩
 case a6 =>
  go_light
  intro L σ W' hcl hL hC hw
  obtain ⟨A', n', c', e4, hp4⟩ := wE hw 4 rfl
  exact zswpA0
 case a7 =>
  go_light
  intro L σ W' hcl hL hC hw hne
  obtain ⟨A', n', c', e5, hp5⟩ := wE hw 5 rfl
  clear hw hne
  have HC := Lib.hid hC
  obtain ⟨hB, hsz, hx, hc1, hc2, hc3, ⟨_, _, _, _, _, hz⟩, hz_o⟩ := hC
  clear hcl hL
  have kc_ := hz.cell
  have kf_ := hz.frozen
  clear hB hsz hx hc1 hc2 hc3 hz hz_o
  refine OpGoes.go fun K hK => ?_
  go_simp
  obtain ⟨hB, hsz, hx, hc1, hc2, hc3, ⟨_, _, _, _, _, hz⟩, hz_o⟩ := HC.out
  have hset := sets_all (us := (dS ((done (onRingC z (swapC at_ seen y)) s).1.rd) ((done (onRingC z (swapC at_ seen y)) s).1.mo) A' n' c' ((done (onRingC z (swapC at_ seen y)) s).1.fi) ((done (onRingC z (swapC at_ seen y)) s).1.la))) hz rfl
  refine hK undef (setCells W' (N + 4) 0 (dS ((done (onRingC z (swapC at_ seen y)) s).1.rd) ((done (onRingC z (swapC at_ seen y)) s).1.mo) A' n' c' ((done (onRingC z (swapC at_ seen y)) s).1.fi) ((done (onRingC z (swapC at_ seen y)) s).1.la))) ⟨⟨(Below.setCells (by omega) _ 0 hB), (size_sts hsz _ 0), fun h => (BoxAt.sets_ne _ 0 (hx (by simpa [upd] using h)) (by omega)), fun h => (BoxAt.sets_ne _ 0 (hc1 (by simpa [upd] using h)) (by omega)), fun h => (BoxAt.sets_ne _ 0 (hc2 (by simpa [upd] using h)) (by omega)), fun h => (BoxAt.sets_ne _ 0 (hc3 (by simpa [upd] using h)) (by omega)), ⟨_, _, _, _, _, hset⟩, fun h => absurd h (by simp [upd])⟩, ⟨A', n', c', hset, (DnF.sets (by omega) _ 0 hp5)⟩, Nat.le_of_eq (sets_size _ _ _).symm, keepV ?_⟩
  exact ⟨fun _ _ ⟨k_x, e, hp⟩ => ⟨k_x, e, (OnR.sets (by omega) _ 0 hp)⟩, fun _ _ ⟨A'_x, n'_x, c'_x, e, hp⟩ => ⟨A'_x, n'_x, c'_x, e, (DnF.sets (by omega) _ 0 hp)⟩, fun _ _ ⟨A'_x, n'_x, c'_x, e, hp⟩ => ⟨A'_x, n'_x, c'_x, e, (DnF.sets (by omega) _ 0 hp)⟩, fun h => absurd rfl h, trivial⟩
 ·
  intro L L' W' hLL hC
  obtain ⟨hB, hsz, hx, hc1, hc2, hc3, ⟨_, _, _, _, _, hz⟩, hz_o⟩ := hC
  exact ⟨hB, hsz, fun h => hx (hLL _ h), fun h => hc1 (hLL _ h), fun h => hc2 (hLL _ h), fun h => hc3 (hLL _ h), ⟨_, _, _, _, _, hz⟩, fun h => hz_o (hLL _ h)⟩
 ·
  intro σ L W' hall hC hRR
  obtain ⟨hB, hsz, hx, hc1, hc2, hc3, ⟨_, _, _, _, _, hz⟩, hz_o⟩ := hC
  obtain ⟨A', n', c', s7, hp7⟩ := dE hRR 7 rfl
  have e8 := dV hRR 8 rfl
  clear hRR
  simp only [lexAll]
  go_simp
  go_step
  have k6 := s7.cell
  go_wp2
  refine bodyPost_ret (v := .tuple #[stV (done (onRingC z (swapC at_ seen y)) s).1 A' n' c', .bool (done (onRingC z (swapC at_ seen y)) s).2]) (by simp [results, Tryz.results133, go_sem, k6, stV]) rfl ?_
  rw [HV.out]
  obtain ⟨hi', hl', hd'⟩ := hp7.1
  exact ⟨A', n', c', rfl, hd'.mono (by omega) hl', hB.mono hN1⟩
end Go.Proofs.YthpckpnlohfcbaaGreatDoor

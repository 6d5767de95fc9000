/-
  The walk of the law on ChainOf.
-/
import Derived.Test.YtnebllfmnandgaaStoreQ
import Derived.Test.YtnebllfmnandgaaIterF
namespace Go.Proofs.Ytnebllfmnandgaa
open Go.RowKit Go.ChangeShapes Go.WideShapes Go.ChangeAt Go.Joins
set_option linter.unusedVariables false
attribute [local go_sem] OpUpon

attribute [local go_sem ↓] Go.wp_at_zero Go.wp_at_succ

/-- Numbers in a slice of a block of its own, from lo on and below hi. -/
def IntsW (lo hi : Nat) (w : World) (v : Value) (l : List Int) : Prop := IntsO lo w v l ∧ ∀ g, v.ownBlock = some g → g < hi
theorem IntsW.of {lo : Nat} {w : World} {v : Value} {l : List Int} (h : IntsO lo w v l) : IntsW lo w.heap.size w v l := by
  refine ⟨h, fun g hg => ?_⟩
  rcases h.2 with ⟨h1, _⟩ | ⟨g', cap, cur, hv, _, hbx, _⟩
  · rw [h1] at hg; cases hg
  · rw [hv] at hg
    have : g' = g := by simpa [Value.ownBlock] using hg
    subst this
    exact (Array.getElem?_eq_some_iff.1 hbx).1
theorem IntsW.keep {lo hi : Nat} {w w' : World} {v : Value} {l : List Int} (h : IntsW lo hi w v l) (hs : SameIn lo hi w w') : IntsW lo hi w' v l := by
  refine ⟨⟨h.1.1, ?_⟩, h.2⟩
  rcases h.1.2 with h' | ⟨g, cap, cur, hv, hg, hbx, hr⟩
  · exact .inl h'
  · exact .inr ⟨g, cap, cur, hv, hg, (hs g hg (h.2 g (by rw [hv]; simp [Value.ownBlock]))).trans hbx, hr⟩
theorem IntsW.below {lo hi : Nat} {w w' : World} {v : Value} {l : List Int} (h : IntsW lo hi w v l) (hb : Below w.heap.size w w') (hh : hi ≤ w.heap.size) : IntsW lo hi w' v l := h.keep (.below hb hh)
theorem IntsW.r {lo hi : Nat} {w : World} {A : Option Addr} {n cap : Nat} {l : List Int} (h : IntsW lo hi w (.slice A n cap) l) (hn : l.length = n) : IntsR w A n l := by
  obtain ⟨A', c', e, h'⟩ := h.1.r
  injection e with e1 e2 e3
  subst e1
  rw [hn] at h'
  exact h'
theorem But.in_ {k N lo hi : Nat} {a b : World} (h : But k a b) (hk : N ≤ k) (hj : hi ≤ N) (hs : hi ≤ a.heap.size) : SameIn lo hi a b := fun j h1 h2 => h.block j (by omega) (by omega)

theorem chainOf_small {s : St} (h : Small s) : (chainOf s).length ≤ 1073741824 := by
  unfold chainOf
  split
  · cases hc : chain s.rs s.rs.length s.fi with
    | none => simp
    | some l =>
      have := chain_len _ _ _ hc
      have := h.1
      simp only [Option.getD_some]; omega
  · simp

def exactChainOfDR (_N : Nat) (s : St) (A : Option Addr) (n cap : Nat) (X : Option Addr) (m : Nat) (j : Nat) (σ : Nat → Value) (w : World) : Prop :=
  match j with
  | 0 => σ 0 = .agg #[.int .i64 s.rd, .int .i64 s.mo, .slice X n m, .int .i64 s.fi, .int .i64 s.la]
  | 1 => σ 1 = .agg #[.int .i64 s.rd, .int .i64 s.mo, .slice A n cap, .int .i64 s.fi, .int .i64 s.la]
  | 2 => ∃ (g : Option Addr) (d : Nat), σ 2 = .agg #[.int .i64 s.rd, .int .i64 s.mo, .slice g n d, .int .i64 s.fi, .int .i64 s.la] ∧ RgsR 0 w g n s.rs
  | 3 => σ 3 = .bool true
  | 4 => σ 4 = .bool false
  | _ => True

def exactChainOfDS (j : Nat) : List Nat := [[0], [1], [2], [3], [4]].getD j [j]
def exactChainOfDK (j : Nat) : Nat := [0, 0, 0, 0, 0].getD j 0

set_option maxRecDepth 100000 in
set_option maxHeartbeats 4000000 in
theorem exactChainOf_small (s : St) (A : Option Addr) (n cap : Nat) (w : World) (hl0 : RgsR 0 w A n s.rs) (hn : n ≤ maxLen) (hs : szL 1048576 s.rs ≠ -1) :
    Calls Try.prog 6 #[stV s A n cap] w (RetBelow (.bool true) w) := by
  have HS := Lib.hid (small_of hs)
  have HL := Lib.hid hl0.1
  have hn1 : n ≤ 1048576 := by have := HS.out.1; have := hl0.1; omega
  have hz : 0 ≤ szL 1048576 s.rs := by rcases szL_or s.rs (left := 1048576) (by omega) with h | h; exact absurd h hs; exact h.1
  clear hs
  obtain ⟨l, q, hfl, hql, hq⟩ : ∃ l q, chainOf s = l ∧ l.length = q ∧ q ≤ 1073741824 := ⟨_, _, rfl, rfl, chainOf_small HS.out⟩
  have HF := Lib.hid hfl; clear hfl
  have HQ := Lib.hid hql; clear hql
  have hend : 0 ≤ markEnd 1 s.rs := by unfold markEnd; omega
  unfold stV
  go_enter Try.func6, Try.ntmps6
  go_wp2_with fail
  refine calls_abs (fun W => Below w.heap.size w W ∧ BoxAt W w.heap.size #[.int .i64 s.rd, .int .i64 s.mo, .slice A n cap, .int .i64 s.fi, .int .i64 s.la] 42) ⟨(Below.refl _ _).alloc (Nat.le_refl _) _, BoxAt.new _ _ _⟩ ?_
  rintro W ⟨hB, ha⟩
  refine (szStore_any s A n cap 1048576 _ (hl0.below hB) hn (by omega) (by omega)).mono ?_
  rintro e w1 ⟨rfl, hb1⟩
  generalize szL 1048576 s.rs = z at *
  replace ha := ha.below hb1 ha.lt
  replace hB := bstep hB hB.size hb1
  clear hb1
  have la := ha.lt
  have ka := ha.cell
  go_wp2_with fail
  refine (toStore_any s A n cap _ (hl0.below hB) hn1 HS.out.each).mono ?_
  rintro e w2 ⟨A1, n1, d1, rfl, hO1, hb2⟩
  obtain rfl : n1 = n := hO1.1.symm.trans HL.out
  unfold stV
  replace ha := ha.below hb2 ha.lt
  replace hB := bstep hB hB.size hb2
  clear hb2 ka
  go_wp2_with fail
  refine (schainOf_any s A1 n1 d1 _ _ _ hO1.toW (Nat.le_refl _) hn1 HS.out.each).mono ?_
  rw [HF.out]
  rintro e w3 ⟨v0, rfl, hv0, hb3⟩
  have l2 := hb3.size
  have lB2 := hB.size
  have ha2 := ha.lt
  replace ha := ha.below hb3 ha.lt
  replace hB := bstep hB hB.size hb3
  clear hb3 hO1
  have hV := IntsW.of hv0
  obtain ⟨A0, c0, rfl, _⟩ := hv0.r
  clear hv0
  rw [HQ.out] at hV
  rw [HQ.out]
  generalize w2.heap.size = P2 at *
  have ka := ha.cell
  go_wp2_with fail
  refine (toStore_any s A n1 cap _ (hl0.below hB) hn1 HS.out.each).mono ?_
  rintro e w4 ⟨X, n2, m, rfl, hX, hb4⟩
  obtain rfl : n2 = n1 := hX.1.symm.trans HL.out
  unfold stV
  have l3 := hb4.size
  replace ha := ha.below hb4 ha.lt
  replace hV := hV.below hb4 (Nat.le_refl _)
  replace hB := bstep hB hB.size hb4
  clear hb4 ka
  go_wp2_with fail
  refine calls_abs (fun W' => Below w.heap.size w W' ∧ BoxAt W' w.heap.size #[.int .i64 s.rd, .int .i64 s.mo, .slice A n2 cap, .int .i64 s.fi, .int .i64 s.la] 42 ∧ BoxAt W' w4.heap.size #[.int .i64 s.rd, .int .i64 s.mo, .slice X n2 m, .int .i64 s.fi, .int .i64 s.la] 47 ∧ RgsD w3.heap.size w4.heap.size W' X n2 m s.rs ∧ IntsW P2 w3.heap.size W' (.slice A0 q c0) l ∧ w4.heap.size < W'.heap.size) ⟨hB.alloc hB.size _, ha.alloc _, BoxAt.new _ _ _, hX.keep (.alloc (Nat.le_refl _) _), hV.keep (.alloc l3 _), by simp⟩ ?_
  generalize w4.heap.size = Y at *
  generalize w3.heap.size = P3 at *
  clear ha hX hB hV
  rintro W4 ⟨hB, ha, hx0, hX, hV, lY⟩
  refine (ichainOf_any s X n2 m _ _ _ hX.toW (by omega) hn1 HS.out.each).mono ?_
  rw [HF.out]
  rintro e w5 ⟨vg, rfl, hvg, hb5⟩
  have l5 := hb5.size
  replace ha := ha.below hb5 ha.lt
  replace hx0 := hx0.below hb5 hx0.lt
  replace hX := hX.below hb5 (by omega)
  replace hV := hV.below hb5 (by omega)
  replace hB := bstep hB hB.size hb5
  clear hb5
  have hG := IntsW.of hvg
  obtain ⟨Ag, cg, rfl, _⟩ := hvg.r
  clear hvg
  rw [HQ.out] at hG
  rw [HQ.out]
  generalize W4.heap.size = P4 at *
  go_wp2_with fail
  refine (eqInt64S_same Ag A0 q cg c0 l _ (hG.r HQ.out) (hV.r HQ.out) hq).mono ?_
  rintro e w6 ⟨rfl, hb6⟩
  have l6 := hb6.size
  replace ha := ha.below hb6 ha.lt
  replace hx0 := hx0.below hb6 hx0.lt
  replace hX := hX.below hb6 (by omega)
  replace hV := hV.below hb6 (by omega)
  replace hG := hG.below hb6 (Nat.le_refl _)
  replace hB := bstep hB hB.size hb6
  clear hb6
  generalize w5.heap.size = P5 at *
  go_upto_region 10 with fail
  refine wp_abs (fun W' => Below w.heap.size w W' ∧ BoxAt W' w.heap.size #[.int .i64 s.rd, .int .i64 s.mo, .slice A n2 cap, .int .i64 s.fi, .int .i64 s.la] 42 ∧ BoxAt W' Y #[.int .i64 s.rd, .int .i64 s.mo, .slice X n2 m, .int .i64 s.fi, .int .i64 s.la] 47 ∧ RgsD P3 Y W' X n2 m s.rs ∧ IntsW P2 P3 W' (.slice A0 q c0) l ∧ IntsW P4 P5 W' (.slice Ag q cg) l ∧ P5 ≤ W'.heap.size) ⟨hB, ha, hx0, hX, hV, hG, l6⟩ ?_
  clear hB ha hx0 hX hV hG l6
  rintro W5 ⟨hB, ha, hx0, hX, hV, hG, l6⟩
  have hl := hl0.below hB
  have hXr := hX.r
  have l1 := ha.lt
  have lx0 := hx0.lt
  go_cut [31] (fun s W' => Below W5.heap.size W5 W' ∧ s = .bool false)
  case first =>
    refine wp_region_R (fun W' => Below W5.heap.size W5 W') (exactChainOfDR W5.heap.size s A n2 cap X m) exactChainOfDK exactChainOfDS (by kernel_rfl) (by kernel_rfl) ?_ ?_ ?_
      (.grow rfl ?_ <| .grow rfl ?_ <| .grow rfl ?_ <| .grow rfl ?_ <| .grow rfl ?_ <| .nil) ?_
    · intro j σ τ w h hR
      match j, h, hR with
      | 0, h, hR => exact (h 0 (by decide)).symm.trans hR
      | 1, h, hR => exact (h 1 (by decide)).symm.trans hR
      | 2, h, hR => obtain ⟨g, d, e, hp⟩ := hR; exact ⟨g, d, (h 2 (by decide)).symm.trans e, hp⟩
      | 3, h, hR => exact (h 3 (by decide)).symm.trans hR
      | 4, h, hR => exact (h 4 (by decide)).symm.trans hR
      | _ + 5, _, _ => exact trivial
    · intro j σ w w' hb hR
      match j, hR with
      | 0, hR => exact hR
      | 1, hR => exact hR
      | 2, hR => obtain ⟨g, d, e, hp⟩ := hR; exact ⟨g, d, e, hp.below hb⟩
      | 3, hR => exact hR
      | 4, hR => exact hR
      | _ + 5, _ => exact trivial
    · exact Below.drew (Below.refl _ _)
    · -- 0: Op.load 47 t5
      intro σ W' hC hw
      clear hw
      have k_hx0 := (hx0.below hC (by omega)).cell
      refine OpGoes.step fun K hK => ?_
      unfold OpGoes
      go_simp
      exact hK _ _ ⟨hC, rfl, Below.refl _ _⟩
    · -- 1: Op.load 42 t1
      intro σ W' hC hw
      clear hw
      have k_ha := (ha.below hC (by omega)).cell
      refine OpGoes.step fun K hK => ?_
      unfold OpGoes
      go_simp
      exact hK _ _ ⟨hC, rfl, Below.refl _ _⟩
    · -- 2: Op.call { value (Operand.func 23), args := #[t28], argTypes := #[42] }
      intro σ W' hC hw
      have e1 : σ 1 = .agg #[.int .i64 s.rd, .int .i64 s.mo, .slice A n2 cap, .int .i64 s.fi, .int .i64 s.la] := hw 1 (by kernel_rfl)
      clear hw
      refine OpGoes.step fun K hK => ?_
      unfold OpGoes
      go_simp
      refine (toStore_any s A n2 cap _ (hl.below hC) hn1 HS.out.each).mono ?_
      rintro e w1 ⟨g, nn, d, rfl, hO, hb1⟩
      exact ⟨_, rfl, hK _ _ ⟨bstep hC hC.size hb1, by obtain rfl : nn = n2 := hO.1.symm.trans HL.out; exact ⟨g, d, rfl, hO.r⟩, hb1⟩⟩
    · -- 3: Op.call { value (Operand.func 25), args := #[t27, t29], argTypes := #[47, 47] }
      intro σ W' hC hw
      have e0 : σ 0 = .agg #[.int .i64 s.rd, .int .i64 s.mo, .slice X n2 m, .int .i64 s.fi, .int .i64 s.la] := hw 0 (by kernel_rfl)
      obtain ⟨g_2, d_2, e2, hp2⟩ : ∃ (g : Option Addr) (d : Nat), σ 2 = .agg #[.int .i64 s.rd, .int .i64 s.mo, .slice g n2 d, .int .i64 s.fi, .int .i64 s.la] ∧ RgsR 0 W' g n2 s.rs := hw 2 (by kernel_rfl)
      clear hw
      refine OpGoes.step fun K hK => ?_
      unfold OpGoes
      go_simp
      refine (eqStore_same s _ _ n2 _ _ _ (hXr.below hC) hp2 hn1 HS.out.each).mono ?_
      rintro e w1 ⟨rfl, hb1⟩
      exact ⟨_, rfl, hK _ _ ⟨bstep hC hC.size hb1, rfl, hb1⟩⟩
    · -- 4: Op.unOp UnOp.not 4 t30
      intro σ W' hC hw
      have e3 : σ 3 = .bool true := hw 3 (by kernel_rfl)
      clear hw
      refine OpGoes.step fun K hK => ?_
      unfold OpGoes
      go_simp
      exact hK _ _ ⟨hC, rfl, Below.refl _ _⟩
    · intro σ W' hC hR
      have e4 : σ 4 = .bool false := hR 4 (by decide)
      clear hR
      simp only [lexAll]
      go_simp
      go_step
      go_meet
      exact ⟨hC, rfl⟩
  case rest =>
    obtain ⟨hb6, rfl⟩ := hcut
    have l7 := hb6.size
    replace ha := ha.below hb6 ha.lt
    replace hx0 := hx0.below hb6 hx0.lt
    replace hX := hX.below hb6 (by omega)
    replace hV := hV.below hb6 (by omega)
    replace hG := hG.below hb6 (by omega)
    replace hB := bstep hB hB.size hb6
    clear hb6 hl hXr l1 lx0
    have kx := hx0.cell
    go_wp2_with fail
    refine (markStore_any s X n2 m 1 P3 Y _ hX (by omega) (by omega) HS.out.k HS.out.2).mono ?_
    rintro e w7 ⟨rfl, hb7, hX7⟩
    clear hX7 hX kx
    have l8 := hb7.size
    replace ha := hb7.box ha (.inl (by omega))
    replace hV := hV.keep (hb7.same (.inl (Nat.le_refl _)) (by omega))
    replace hG := hG.keep (hb7.same (.inr (by omega)) (by omega))
    replace hB := hB.trans (hb7.below (by omega) hB.size)
    clear hb7 hx0
    generalize markEnd 1 s.rs = z2 at *
    go_wp2_with fail
    refine (eqInt64S_same Ag A0 q cg c0 l _ (hG.r HQ.out) (hV.r HQ.out) hq).mono ?_
    rintro e w8 ⟨rfl, hb8⟩
    have l9 := hb8.size
    replace ha := ha.below hb8 ha.lt
    replace hV := hV.below hb8 (by omega)
    replace hG := hG.below hb8 (by omega)
    replace hB := bstep hB hB.size hb8
    clear hb8
    go_wp2_with fail
    have hmk := markInt64S_any P4 (.slice Ag q cg) l 1 w8 hG.1 (by omega) (by rw [HQ.out]; exact hq) (by omega) (by omega)
    rw [HQ.out] at hmk
    refine hmk.mono ?_
    clear hmk
    rintro e w9 ⟨rfl, ⟨gb, hgb, hb9⟩, hM9⟩
    have l10 := hb9.size
    have hG9 : IntsW P4 P5 w9 (.slice Ag q cg) (imarks 1 q) := ⟨hM9, hG.2⟩
    replace ha := hb9.box ha (by omega)
    replace hV := hV.keep (hb9.in_ hgb (by omega) (by omega))
    replace hB := hB.trans (hb9.below (by omega) hB.size)
    clear hb9 hM9 hG
    go_wp2_with fail
    refine (heldInt64S_any Ag q cg 1 _ (hG9.r (imarks_len _ _)) hq (by omega) (by omega)).mono ?_
    rintro e w10 ⟨rfl, hb10⟩
    have l11 := hb10.size
    replace ha := ha.below hb10 ha.lt
    replace hV := hV.below hb10 (by omega)
    replace hG9 := hG9.below hb10 (by omega)
    replace hB := bstep hB hB.size hb10
    clear hb10
    have hz3 : 0 ≤ 1 + (q : Int) := by omega
    generalize hz4 : 1 + (q : Int) = z3 at *
    have HZ4 := Lib.hid hz4; clear hz4
    have ka := ha.cell
    go_wp2_with fail
    refine (toStore_any s A n2 cap _ (hl0.below hB) hn1 HS.out.each).mono ?_
    rintro e w11 ⟨X2, n3, m2, rfl, hX2, hb11⟩
    obtain rfl : n3 = n2 := hX2.1.symm.trans HL.out
    unfold stV
    have l12 := hb11.size
    replace hV := hV.below hb11 (by omega)
    replace hG9 := hG9.below hb11 (by omega)
    replace hB := bstep hB hB.size hb11
    clear hb11 ka ha
    go_wp2_with fail
    refine (ichainOf_any s X2 n3 m2 _ _ _ hX2.toW (Nat.le_refl _) hn1 HS.out.each).mono ?_
    rw [HF.out]
    rintro e w12 ⟨vh, rfl, hvh, hb12⟩
    have l13 := hb12.size
    replace hV := hV.below hb12 (by omega)
    replace hG9 := hG9.below hb12 (by omega)
    replace hB := bstep hB hB.size hb12
    clear hb12
    obtain ⟨Ah, ch, rfl, hH⟩ := hvh.r
    clear hvh
    rw [HQ.out] at hH
    rw [HQ.out]
    go_wp2_with fail
    refine (eqInt64S_same Ah A0 q ch c0 l _ hH (hV.r HQ.out) hq).mono ?_
    rintro e w13 ⟨rfl, hb13⟩
    replace hG9 := hG9.below hb13 (by omega)
    replace hB := bstep hB hB.size hb13
    clear hb13 hH hV
    go_wp2_with fail
    refine (heldInt64S_any Ag q cg 1 _ (hG9.r (imarks_len _ _)) hq (by omega) (by omega)).mono ?_
    rintro e w14 ⟨rfl, hb14⟩
    replace hB := bstep hB hB.size hb14
    rw [HZ4.out]
    go_wp2
    go_ret
    exact .mk rfl hB

set_option maxHeartbeats 400000 in
theorem exactChainOf_big (s : St) (A : Option Addr) (n cap : Nat) (w : World) (hl0 : RgsR 0 w A n s.rs) (hn : n ≤ maxLen) (hs : szL 1048576 s.rs = -1) :
    Calls Try.prog 6 #[stV s A n cap] w (RetBelow (.bool true) w) := by
  have HS := Lib.hid hs; clear hs
  unfold stV
  go_enter Try.func6, Try.ntmps6
  go_wp2_with fail
  refine calls_abs (fun W => Below w.heap.size w W) ((Below.refl _ _).alloc (Nat.le_refl _) _) ?_
  rintro W hB
  refine (szStore_any s A n cap 1048576 _ (hl0.below hB) hn (by omega) (by omega)).mono ?_
  rintro e w1 ⟨rfl, hb1⟩
  rw [HS.out]
  go_wp2
  go_ret
  exact .mk rfl (bstep hB hB.size hb1)

theorem exactChainOf_any (s : St) (A : Option Addr) (n cap : Nat) (w : World) (hl : RgsR 0 w A n s.rs) (hn : n ≤ maxLen) :
    Calls Try.prog 6 #[stV s A n cap] w (RetBelow (.bool true) w) := by
  by_cases hs : szL 1048576 s.rs = -1
  · exact exactChainOf_big s A n cap w hl hn hs
  · exact exactChainOf_small s A n cap w hl hn hs

end Go.Proofs.Ytnebllfmnandgaa

/-
  The walk of the law on PutTicket.
-/
import Derived.Test.YtbpjhdoldodlnaaDoorSlim
import Derived.Test.YtbpjhdoldodlnaaDoorTicB
namespace Go.Proofs.YtbpjhdoldodlnaaDoor
open Go.RowKit
set_option linter.unusedVariables false
attribute [local go_sem] OpUpon
attribute [local go_sem ↓] Go.wp_at_zero Go.wp_at_succ

theorem putticket_slim (s : St) (z : Int) (h : Slim s) : Slim (putTicket s z).1 := by rw [putTicket_done]; exact done_slim h

def exactPutTicketDR (_N : Nat) (s : St) (A : Option Addr) (n cap : Nat) (X : Option Addr) (m : Nat) (j : Nat) (σ : Nat → Value) (w : World) : Prop :=
  match j with
  | 0 => σ 0 = .agg #[.int .i64 s.rd, .int .i64 s.mo, .slice X n m, .int .i64 s.fi, .int .i64 s.la]
  | 1 => σ 1 = .agg #[.int .i64 s.rd, .int .i64 s.mo, .slice A n cap, .int .i64 s.fi, .int .i64 s.la]
  | 2 => ∃ (g : Option Addr) (d : Nat), σ 2 = .agg #[.int .i64 s.rd, .int .i64 s.mo, .slice g n d, .int .i64 s.fi, .int .i64 s.la] ∧ RgsR 0 w g n s.rs
  | 3 => σ 3 = .bool true
  | 4 => σ 4 = .bool false
  | _ => True

def exactPutTicketDS (j : Nat) : List Nat := [[0], [1], [2], [3], [4]].getD j [j]
def exactPutTicketDK (j : Nat) : Nat := [0, 0, 0, 0, 0].getD j 0

set_option maxRecDepth 100000 in
set_option maxHeartbeats 4000000 in
theorem exactPutTicket_small (s : St) (A : Option Addr) (n cap : Nat) (z : Int) (w : World) (hl0 : RgsR 0 w A n s.rs) (hn : n ≤ maxLen) (a0 a1 a2 : Addr) (he : Errs w.heap.size w a0 a1) (hS0 : Sent w.heap.size w 2 a2) (hN0 : a2 ≠ a0) (hs : szL 1048576 s.rs ≠ -1) :
    Calls Tryd.prog 4 #[stV s A n cap, .int .i64 z] w (RetBelow (.bool true) w) := by
  have HS := Lib.hid (slim_of hs)
  have HL := Lib.hid hl0.1
  have hn1 : n ≤ 1048576 := by have := HS.out.1; have := hl0.1; omega
  have hz : 0 ≤ szL 1048576 s.rs := by rcases szL_or s.rs (left := 1048576) (by omega) with h | h; exact absurd h hs; exact h.1
  clear hs
  obtain ⟨S, y, hq, hS⟩ : ∃ S y, putTicket s z = (S, y) ∧ Slim S := ⟨_, _, rfl, putticket_slim s z HS.out⟩
  have HQ := Lib.hid hq; clear hq
  have HT := Lib.hid hS; clear hS
  have hend : 0 ≤ markEnd 1 s.rs := by unfold markEnd; omega
  have hendS : 0 ≤ markEnd 1 S.rs := by unfold markEnd; omega
  unfold stV
  go_enter Tryd.func4, Tryd.ntmps4
  go_wp2_with fail
  refine calls_abs (fun W => Below w.heap.size w W ∧ BoxAt W w.heap.size #[.int .i64 s.rd, .int .i64 s.mo, .slice A n cap, .int .i64 s.fi, .int .i64 s.la] 24) ⟨(Below.refl _ _).alloc (Nat.le_refl _) _, BoxAt.new _ _ _⟩ ?_
  rintro W ⟨hB, ha⟩
  refine (szStore_any s A n cap 1048576 _ (hl0.below hB) hn (by omega) (by omega)).mono ?_
  rintro e w1 ⟨rfl, hb1⟩
  generalize szL 1048576 s.rs = z_ at *
  replace ha := ha.below hb1 ha.lt
  replace hB := bstep hB hB.size hb1
  clear hb1
  have la := ha.lt
  have ka := ha.cell
  go_wp2_with fail
  refine (toStore_any s A n cap _ (hl0.below hB) hn1 HS.out.each).mono ?_
  rintro e w2 ⟨A1, n1, d1, rfl, hO1, hb2⟩
  obtain rfl : n = n1 := (hO1.1.symm.trans HL.out).symm
  unfold stV
  replace ha := ha.below hb2 ha.lt
  replace hB := bstep hB hB.size hb2
  clear hb2 ka
  go_wp2_with fail
  refine (sputTicket_any s A1 n d1 _ _ z _ hO1.toW (Nat.le_refl _) hn1 HS.out.each).mono ?_
  rw [HQ.out]
  rintro e w3 ⟨As, ns, cs, rfl, hs, hb3⟩
  have hs1 : S.rs.length = ns := hs.1
  have hns : ns ≤ 1048576 := by have := HT.out.1; omega
  clear hs1
  have l2 := hb3.size
  have lB2 := hB.size
  replace ha := ha.below hb3 ha.lt
  replace hB := bstep hB hB.size hb3
  clear hb3 hO1
  unfold stV
  go_upto_region 6 with fail
  refine wp_abs (fun W' => Below w.heap.size w W' ∧ BoxAt W' w.heap.size #[.int .i64 s.rd, .int .i64 s.mo, .slice A n cap, .int .i64 s.fi, .int .i64 s.la] 24 ∧ BoxAt W' w3.heap.size #[.int .i64 S.rd, .int .i64 S.mo, .slice As ns cs, .int .i64 S.fi, .int .i64 S.la] 28 ∧ RgsW w2.heap.size w3.heap.size W' As ns cs S.rs ∧ w3.heap.size < W'.heap.size) ⟨hB.alloc hB.size _, ha.alloc _, BoxAt.new _ _ _, hs.al (Nat.le_refl _) _, by simp⟩ ?_
  clear hB ha hs
  generalize w2.heap.size = P1 at *
  generalize w3.heap.size = P2 at *
  rintro W3 ⟨hB, ha, h0, hs, l3⟩
  have ka := ha.cell
  go_wp2_with fail
  clear ka
  refine (toStore_any s A n cap _ (hl0.below hB) hn1 HS.out.each).mono ?_
  rintro e w4 ⟨X, n2, m, rfl, hX, hb4⟩
  obtain rfl : n = n2 := (hX.1.symm.trans HL.out).symm
  unfold stV
  have l4 := hb4.size
  replace ha := ha.below hb4 ha.lt
  replace h0 := h0.below hb4 h0.lt
  replace hs := hs.below hb4 (by omega)
  replace hB := bstep hB hB.size hb4
  clear hb4
  go_wp2_with fail
  refine calls_abs (fun W' => Below w.heap.size w W' ∧ BoxAt W' w.heap.size #[.int .i64 s.rd, .int .i64 s.mo, .slice A n cap, .int .i64 s.fi, .int .i64 s.la] 24 ∧ BoxAt W' P2 #[.int .i64 S.rd, .int .i64 S.mo, .slice As ns cs, .int .i64 S.fi, .int .i64 S.la] 28 ∧ RgsW P1 P2 W' As ns cs S.rs ∧ BoxAt W' w4.heap.size #[.int .i64 s.rd, .int .i64 s.mo, .slice X n m, .int .i64 s.fi, .int .i64 s.la] 28 ∧ RgsD W3.heap.size w4.heap.size W' X n m s.rs ∧ w4.heap.size < W'.heap.size) ⟨hB.alloc hB.size _, ha.alloc _, h0.alloc _, hs.al (by omega) _, BoxAt.new _ _ _, hX.keep (.alloc (Nat.le_refl _) _), by simp⟩ ?_
  clear hB ha h0 hs hX
  generalize W3.heap.size = P3 at *
  generalize w4.heap.size = P4 at *
  rintro W4 ⟨hB, ha, h0, hs, hx0, hX, l5⟩
  refine (iputTicket_any s X n m _ _ w.heap.size a0 a1 a2 z _ hX.toW (by omega) hB.size (he.below hB (Nat.le_refl _)) (hS0.keep (fun j hj => hB.block j hj)) hN0 hn1 HS.out.each).mono ?_
  rw [HQ.out]
  rintro e w5 ⟨Ai, ni, ci, rfl, hi, hb5⟩
  obtain rfl : ns = ni := (hi.1.symm.trans hs.1).symm
  unfold stV
  have l6 := hb5.size
  replace ha := ha.below hb5 ha.lt
  replace h0 := h0.below hb5 h0.lt
  replace hx0 := hx0.below hb5 hx0.lt
  replace hs := hs.below hb5 (by omega)
  replace hX := hX.below hb5 (by omega)
  replace hB := bstep hB hB.size hb5
  clear hb5
  go_upto_region 8 with fail
  refine wp_abs (fun W' => Below w.heap.size w W' ∧ BoxAt W' w.heap.size #[.int .i64 s.rd, .int .i64 s.mo, .slice A n cap, .int .i64 s.fi, .int .i64 s.la] 24 ∧ BoxAt W' P2 #[.int .i64 S.rd, .int .i64 S.mo, .slice As ns cs, .int .i64 S.fi, .int .i64 S.la] 28 ∧ RgsW P1 P2 W' As ns cs S.rs ∧ BoxAt W' P4 #[.int .i64 s.rd, .int .i64 s.mo, .slice X n m, .int .i64 s.fi, .int .i64 s.la] 28 ∧ RgsD P3 P4 W' X n m s.rs ∧ BoxAt W' w5.heap.size #[.int .i64 S.rd, .int .i64 S.mo, .slice Ai ns ci, .int .i64 S.fi, .int .i64 S.la] 28 ∧ RgsD W4.heap.size w5.heap.size W' Ai ns ci S.rs ∧ w5.heap.size < W'.heap.size) ⟨hB.alloc hB.size _, ha.alloc _, h0.alloc _, hs.al (by omega) _, hx0.alloc _, hX.keep (.alloc (by omega) _), BoxAt.new _ _ _, hi.keep (.alloc (Nat.le_refl _) _), by simp⟩ ?_
  clear hB ha h0 hs hX hx0 hi
  generalize W4.heap.size = P5 at *
  generalize w5.heap.size = P6 at *
  rintro W6 ⟨hB, ha, h0, hs, hx0, hX, hg, hG, l7⟩
  have k0 := h0.cell
  have kg := hg.cell
  go_wp2_with fail
  clear k0 kg
  refine (eqStore_same S _ _ _ _ _ _ hG.r hs.r hns HT.out.each).mono ?_
  rintro e w6 ⟨rfl, hb6⟩
  have l8 := hb6.size
  replace ha := ha.below hb6 ha.lt
  replace h0 := h0.below hb6 h0.lt
  replace hx0 := hx0.below hb6 hx0.lt
  replace hg := hg.below hb6 hg.lt
  replace hs := hs.below hb6 (by omega)
  replace hX := hX.below hb6 (by omega)
  replace hG := hG.below hb6 (by omega)
  replace hB := bstep hB hB.size hb6
  clear hb6
  go_upto_region 10 with fail
  refine wp_abs (fun W' => Below w.heap.size w W' ∧ BoxAt W' w.heap.size #[.int .i64 s.rd, .int .i64 s.mo, .slice A n cap, .int .i64 s.fi, .int .i64 s.la] 24 ∧ BoxAt W' P2 #[.int .i64 S.rd, .int .i64 S.mo, .slice As ns cs, .int .i64 S.fi, .int .i64 S.la] 28 ∧ RgsW P1 P2 W' As ns cs S.rs ∧ BoxAt W' P4 #[.int .i64 s.rd, .int .i64 s.mo, .slice X n m, .int .i64 s.fi, .int .i64 s.la] 28 ∧ RgsD P3 P4 W' X n m s.rs ∧ BoxAt W' P6 #[.int .i64 S.rd, .int .i64 S.mo, .slice Ai ns ci, .int .i64 S.fi, .int .i64 S.la] 28 ∧ RgsD P5 P6 W' Ai ns ci S.rs ∧ P6 < W'.heap.size) ⟨hB, ha, h0, hs, hx0, hX, hg, hG, by omega⟩ ?_
  clear hB ha h0 hs hX hx0 hg hG l8 l7
  rintro W5 ⟨hB, ha, h0, hs, hx0, hX, hg, hG, l7⟩
  have hl := hl0.below hB
  have hXr := hX.r
  have l1 := ha.lt
  have lx0 := hx0.lt
  go_cut [49] (fun s W' => Below W5.heap.size W5 W' ∧ s = .bool false)
  case first =>
    refine wp_region_R (fun W' => Below W5.heap.size W5 W') (exactPutTicketDR W5.heap.size s A n cap X m) exactPutTicketDK exactPutTicketDS (by kernel_rfl) (by kernel_rfl) ?_ ?_ ?_
      (.grow rfl ?_ <| .grow rfl ?_ <| .grow rfl ?_ <| .grow rfl ?_ <| .grow rfl ?_ <| .nil) ?_
    · intro j σ τ w h hR
      match j, h, hR with
      | 0, h, hR => exact (h 0 (by decide)).symm.trans hR
      | 1, h, hR => exact (h 1 (by decide)).symm.trans hR
      | 2, h, hR => obtain ⟨g, d, e, hp⟩ := hR; exact ⟨g, d, (h 2 (by decide)).symm.trans e, hp⟩
      | 3, h, hR => exact (h 3 (by decide)).symm.trans hR
      | 4, h, hR => exact (h 4 (by decide)).symm.trans hR
      | _ + 5, _, _ => exact trivial
    · intro j σ w w' hb hR
      match j, hR with
      | 0, hR => exact hR
      | 1, hR => exact hR
      | 2, hR => obtain ⟨g, d, e, hp⟩ := hR; exact ⟨g, d, e, hp.below hb⟩
      | 3, hR => exact hR
      | 4, hR => exact hR
      | _ + 5, _ => exact trivial
    · exact Below.drew (Below.refl _ _)
    · -- 0: Op.load 28 t8
      intro σ W' hC hw
      clear hw
      have k_hx0 := (hx0.below hC (by omega)).cell
      refine OpGoes.step fun K hK => ?_
      unfold OpGoes
      go_simp
      exact hK _ _ ⟨hC, rfl, Below.refl _ _⟩
    · -- 1: Op.load 24 t2
      intro σ W' hC hw
      clear hw
      have k_ha := (ha.below hC (by omega)).cell
      refine OpGoes.step fun K hK => ?_
      unfold OpGoes
      go_simp
      exact hK _ _ ⟨hC, rfl, Below.refl _ _⟩
    · -- 2: Op.call { value (Operand.func 13), args := #[t46], argTypes := #[24] }
      intro σ W' hC hw
      have e1 : σ 1 = .agg #[.int .i64 s.rd, .int .i64 s.mo, .slice A n cap, .int .i64 s.fi, .int .i64 s.la] := hw 1 (by kernel_rfl)
      clear hw
      refine OpGoes.step fun K hK => ?_
      unfold OpGoes
      go_simp
      refine (toStore_any s A n cap _ (hl.below hC) hn1 HS.out.each).mono ?_
      rintro e w1 ⟨g, nn, d, rfl, hO, hb1⟩
      exact ⟨_, rfl, hK _ _ ⟨bstep hC hC.size hb1, by obtain rfl : nn = n := hO.1.symm.trans HL.out; exact ⟨g, d, rfl, hO.r⟩, hb1⟩⟩
    · -- 3: Op.call { value (Operand.func 15), args := #[t45, t47], argTypes := #[28, 28] }
      intro σ W' hC hw
      have e0 : σ 0 = .agg #[.int .i64 s.rd, .int .i64 s.mo, .slice X n m, .int .i64 s.fi, .int .i64 s.la] := hw 0 (by kernel_rfl)
      obtain ⟨g_2, d_2, e2, hp2⟩ : ∃ (g : Option Addr) (d : Nat), σ 2 = .agg #[.int .i64 s.rd, .int .i64 s.mo, .slice g n d, .int .i64 s.fi, .int .i64 s.la] ∧ RgsR 0 W' g n s.rs := hw 2 (by kernel_rfl)
      clear hw
      refine OpGoes.step fun K hK => ?_
      unfold OpGoes
      go_simp
      refine (eqStore_same s _ _ n _ _ _ (hXr.below hC) hp2 hn1 HS.out.each).mono ?_
      rintro e w1 ⟨rfl, hb1⟩
      exact ⟨_, rfl, hK _ _ ⟨bstep hC hC.size hb1, rfl, hb1⟩⟩
    · -- 4: Op.unOp UnOp.not 4 t48
      intro σ W' hC hw
      have e3 : σ 3 = .bool true := hw 3 (by kernel_rfl)
      clear hw
      refine OpGoes.step fun K hK => ?_
      unfold OpGoes
      go_simp
      exact hK _ _ ⟨hC, rfl, Below.refl _ _⟩
    · intro σ W' hC hR
      have e4 : σ 4 = .bool false := hR 4 (by decide)
      clear hR
      simp only [lexAll]
      go_simp
      go_step
      go_meet
      exact ⟨hC, rfl⟩
  case rest =>
    obtain ⟨hb6, rfl⟩ := hcut
    have l8 := hb6.size
    replace ha := ha.below hb6 ha.lt
    replace h0 := h0.below hb6 h0.lt
    replace hx0 := hx0.below hb6 hx0.lt
    replace hg := hg.below hb6 hg.lt
    replace hs := hs.below hb6 (by omega)
    replace hX := hX.below hb6 (by omega)
    replace hG := hG.below hb6 (by omega)
    replace hB := bstep hB hB.size hb6
    clear hb6 hl hXr l1 lx0
    have kx := hx0.cell
    go_wp2_with fail
    clear kx
    refine (markStore_any s X n m 1 P3 P4 _ hX (by omega) (by omega) HS.out.k HS.out.2).mono ?_
    rintro e w7 ⟨rfl, hb7, hX7⟩
    clear hX7 hX
    have l9 := hb7.size
    replace ha := hb7.box ha (.inl (by omega))
    replace h0 := hb7.box h0 (.inl (by omega))
    replace hg := hb7.box hg (.inr (by omega))
    replace hs := hs.keep (hb7.same (.inl (by omega)) (by omega))
    replace hG := hG.keep (hb7.same (.inr (by omega)) (by omega))
    replace hB := hB.trans (hb7.below (by omega) hB.size)
    clear hb7 hx0
    generalize markEnd 1 s.rs = z2 at *
    have k0 := h0.cell
    have kg := hg.cell
    go_wp2_with fail
    clear k0 kg
    refine (eqStore_same S _ _ _ _ _ _ hG.r hs.r hns HT.out.each).mono ?_
    rintro e w8 ⟨rfl, hb8⟩
    have l10 := hb8.size
    replace ha := ha.below hb8 ha.lt
    replace h0 := h0.below hb8 h0.lt
    replace hg := hg.below hb8 hg.lt
    replace hs := hs.below hb8 (by omega)
    replace hG := hG.below hb8 (by omega)
    replace hB := bstep hB hB.size hb8
    clear hb8
    have kg := hg.cell
    go_wp2_with fail
    clear kg
    refine (markStore_any S Ai ns ci 1 P5 P6 _ hG (by omega) (by omega) HT.out.k HT.out.2).mono ?_
    rintro e w9 ⟨rfl, hb9, hM⟩
    clear hG
    have l11 := hb9.size
    replace ha := hb9.box ha (.inl (by omega))
    replace h0 := hb9.box h0 (.inl (by omega))
    replace hg := hb9.box hg (.inr (by omega))
    replace hs := hs.keep (hb9.same (.inl (by omega)) (by omega))
    replace hB := hB.trans (hb9.below (by omega) hB.size)
    clear hb9
    have kg := hg.cell
    go_wp2_with fail
    clear kg
    refine (heldStore_any _ S _ _ _ 1 _ hM.r (by omega) HT.out.k HT.out.2).mono ?_
    rintro e w10 ⟨rfl, hb10⟩
    have l12 := hb10.size
    replace ha := ha.below hb10 ha.lt
    replace h0 := h0.below hb10 h0.lt
    replace hg := hg.below hb10 hg.lt
    replace hs := hs.below hb10 (by omega)
    replace hM := hM.below hb10 (by omega)
    replace hB := bstep hB hB.size hb10
    clear hb10
    obtain ⟨z3, hz3⟩ : ∃ z3, z3 = markEnd 1 S.rs := ⟨_, rfl⟩
    rw [← hz3] at hendS
    have HE := Lib.hid hz3
    rw [← hz3]
    clear hz3
    have ka := ha.cell
    go_wp2_with fail
    clear ka
    refine (toStore_any s A n cap _ (hl0.below hB) hn1 HS.out.each).mono ?_
    rintro e w11 ⟨X2, n3, m2, rfl, hX2, hb11⟩
    obtain rfl : n = n3 := (hX2.1.symm.trans HL.out).symm
    unfold stV
    have l13 := hb11.size
    replace h0 := h0.below hb11 h0.lt
    replace hg := hg.below hb11 hg.lt
    replace hs := hs.below hb11 (by omega)
    replace hM := hM.below hb11 (by omega)
    replace hB := bstep hB hB.size hb11
    clear hb11 ha
    go_wp2_with fail
    refine (iputTicket_any s X2 n m2 _ _ w.heap.size a0 a1 a2 z _ hX2.toW (Nat.le_refl _) hB.size (he.below hB (Nat.le_refl _)) (hS0.keep (fun j hj => hB.block j hj)) hN0 hn1 HS.out.each).mono ?_
    rw [HQ.out]
    rintro e w12 ⟨Aj, nj, cj, rfl, hj, hb12⟩
    obtain rfl : ns = nj := (hj.1.symm.trans hs.1).symm
    unfold stV
    have l14 := hb12.size
    replace h0 := h0.below hb12 h0.lt
    replace hg := hg.below hb12 hg.lt
    replace hs := hs.below hb12 (by omega)
    replace hM := hM.below hb12 (by omega)
    replace hB := bstep hB hB.size hb12
    clear hb12
    go_upto_region 25 with fail
    refine wp_abs (fun W' => Below w.heap.size w W' ∧ BoxAt W' P2 #[.int .i64 S.rd, .int .i64 S.mo, .slice As ns cs, .int .i64 S.fi, .int .i64 S.la] 28 ∧ BoxAt W' P6 #[.int .i64 S.rd, .int .i64 S.mo, .slice Ai ns ci, .int .i64 S.fi, .int .i64 S.la] 28 ∧ RgsW P1 P2 W' As ns cs S.rs ∧ RgsD P5 P6 W' Ai ns ci (markRgs 1 S.rs) ∧ BoxAt W' w12.heap.size #[.int .i64 S.rd, .int .i64 S.mo, .slice Aj ns cj, .int .i64 S.fi, .int .i64 S.la] 28 ∧ RgsD w11.heap.size w12.heap.size W' Aj ns cj S.rs ∧ P6 < W'.heap.size) ⟨hB.alloc hB.size _, h0.alloc _, hg.alloc _, hs.al (by omega) _, hM.keep (.alloc (by omega) _), BoxAt.new _ _ _, hj.keep (.alloc (Nat.le_refl _) _), by simp; omega⟩ ?_
    clear hB h0 hg hs hM hj
    generalize w12.heap.size = P8 at *
    rintro W12 ⟨hB, h0, hg, hs, hM, hh0, hj, l15⟩
    have k0 := h0.cell
    have kh := hh0.cell
    go_wp2_with fail
    clear k0 kh
    refine (eqStore_same S _ _ _ _ _ _ hj.r hs.r hns HT.out.each).mono ?_
    rintro e w13 ⟨rfl, hb13⟩
    replace hg := hg.below hb13 hg.lt
    replace hM := hM.below hb13 (by omega)
    replace hB := bstep hB hB.size hb13
    clear hb13 h0 hs hj hh0
    have kg := hg.cell
    go_wp2_with fail
    clear kg
    refine (heldStore_any _ S _ _ _ 1 _ hM.r (by omega) HT.out.k HT.out.2).mono ?_
    rintro e w14 ⟨rfl, hb14⟩
    replace hB := bstep hB hB.size hb14
    rw [← HE.out]
    go_wp2
    go_ret
    exact .mk rfl hB

set_option maxHeartbeats 400000 in
theorem exactPutTicket_big (s : St) (A : Option Addr) (n cap : Nat) (z : Int) (w : World) (hl0 : RgsR 0 w A n s.rs) (hn : n ≤ maxLen) (hs : szL 1048576 s.rs = -1) :
    Calls Tryd.prog 4 #[stV s A n cap, .int .i64 z] w (RetBelow (.bool true) w) := by
  have HS := Lib.hid hs; clear hs
  unfold stV
  go_enter Tryd.func4, Tryd.ntmps4
  go_wp2_with fail
  refine calls_abs (fun W => Below w.heap.size w W) ((Below.refl _ _).alloc (Nat.le_refl _) _) ?_
  rintro W hB
  refine (szStore_any s A n cap 1048576 _ (hl0.below hB) hn (by omega) (by omega)).mono ?_
  rintro e w1 ⟨rfl, hb1⟩
  rw [HS.out]
  go_wp2
  go_ret
  exact .mk rfl (bstep hB hB.size hb1)

theorem exactPutTicket_any (s : St) (A : Option Addr) (n cap : Nat) (z : Int) (w : World) (hl : RgsR 0 w A n s.rs) (hn : n ≤ maxLen) (a0 a1 a2 : Addr) (he : Errs w.heap.size w a0 a1) (hS0 : Sent w.heap.size w 2 a2) (hN0 : a2 ≠ a0) :
    Calls Tryd.prog 4 #[stV s A n cap, .int .i64 z] w (RetBelow (.bool true) w) := by
  by_cases hs : szL 1048576 s.rs = -1
  · exact exactPutTicket_big s A n cap z w hl hn hs
  · exact exactPutTicket_small s A n cap z w hl hn a0 a1 a2 he hS0 hN0 hs

end Go.Proofs.YtbpjhdoldodlnaaDoor

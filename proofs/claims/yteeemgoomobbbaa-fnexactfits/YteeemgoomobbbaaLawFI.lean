/-
 The walk of the law on Fits.
-/
import Derived.Test.YteeemgoomobbbaaLawC
import Derived.Test.YteeemgoomobbbaaFitI
import Derived.Test.YteeemgoomobbbaaGrow
namespace Go.Proofs.Yteeemgoomobbbaa
set_option linter.unusedSimpArgs false
set_option linter.unusedVariables false
open Go.RowKit
set_option linter.unusedVariables false
attribute [local go_sem] OpUpon
attribute [local go_sem ↓] Go.wp_at_zero Go.wp_at_succ

/-- A store that is no more than the laws look at. -/
def Slim (s : St) : Prop := s.rs.length ≤ 1048576 ∧ sumPs s.rs ≤ 1048576
theorem Slim.each {s : St} (h : Slim s) : ∀ r ∈ s.rs, r.ps.length ≤ 1048576 := fun r hr => Nat.le_trans (sumPs_mem hr) h.2
theorem slim_of {s : St} (h : szL 1048576 s.rs ≠ -1) : Slim s := by
 rcases szL_or s.rs (left := 1048576) (by omega) with h' | ⟨_, _, h'⟩
 · exact absurd h' h
 · exact ⟨by omega, by omega⟩
/-- Rings of the call's own, from block lo on. -/
def OwD (lo : Nat) (w : World) (A : Option Addr) (n c : Nat) (L : List Rg) : Prop := ∃ hi, hi ≤ w.heap.size ∧ RgsD lo hi w A n c L
theorem OwD.below {lo : Nat} {w w' : World} {A : Option Addr} {n c : Nat} {L : List Rg} (h : OwD lo w A n c L) (hb : Below w.heap.size w w') : OwD lo w' A n c L := by
 obtain ⟨hi, hl, hd⟩ := h
 exact ⟨hi, Nat.le_trans hl hb.size, hd.below hb hl⟩

def fi5V (s : St) (A : Option Addr) (n cap N M5 : Nat) (h : Hd) (z : Bool) : List Sl := [.v (.agg (aS s A n cap)),
 .e fun σ w => ∃ (X1 : Option Addr) (d1 : Nat), σ 1 = .agg (aS s X1 n d1) ∧ OwD M5 w X1 n d1 s.rs,
 .v (.agg (aH h)),
 .v (.agg (aH h)),
 .v (.bool z),
 .v (.bool z)]

def fi7V (s : St) (A : Option Addr) (n cap N M7 P3 P4 : Nat) (X : Option Addr) (m : Nat) (h : Hd) (z : Bool) : List Sl := [.v (.agg (aS s X n m)),
 .v (.agg (aH h)),
 .v (.agg (aH h)),
 .v (.bool z),
 .v (.bool z)]

def exactFitsDR (_N : Nat) (s : St) (A : Option Addr) (n cap : Nat) (X : Option Addr) (m : Nat) (j : Nat) (σ : Nat → Value) (w : World) : Prop :=
 match j with
 | 0 => σ 0 = .agg (aS s X n m)
 | 1 => σ 1 = .agg (aS s A n cap)
 | 2 => ∃ (g : Option Addr) (d : Nat), σ 2 = .agg (aS s g n d) ∧ RgsR 0 w g n s.rs
 | 3 => σ 3 = .bool true
 | 4 => σ 4 = .bool false
 | _ => True

def exactFitsDS (j : Nat) : List Nat := [[0], [1], [2], [3], [4]].getD j [j]
def exactFitsDK (j : Nat) : Nat := [0, 0, 0, 0, 0].getD j 0

set_option maxRecDepth 100000 in
set_option maxHeartbeats 8000000 in
theorem exactFits_small (s : St) (A : Option Addr) (n cap : Nat) (h : Hd) (w : World) (hl0 : RgsR 0 w A n s.rs) (hn : n ≤ maxLen) (hs : szL 1048576 s.rs ≠ -1) :
  Calls Try.prog 4 #[stV s A n cap, hdV h] w (RetBelow (.bool true) w) := by
 have HS := Lib.hid (slim_of hs)
 have HL := Lib.hid hl0.1
 have hn1 : n ≤ 1048576 := by have := HS.out.1; have := hl0.1; omega
 have hz : 0 ≤ szL 1048576 s.rs := by rcases szL_or s.rs (left := 1048576) (by omega) with h | h; exact absurd h hs; exact h.1
 clear hs
 obtain ⟨z, hq_⟩ : ∃ z, fits s h = z := ⟨_, rfl⟩
 have HSQ := Lib.hid (show ∀ (A' : Option Addr) (c lo hi : Nat) (W : World), RgsW lo hi W A' n c s.rs → hi ≤ W.heap.size → Calls Try.prog 11 #[stV s A' n c, hdV h] W (RetBelow (.bool z) W) from fun A' c lo hi W h1 h2 => by
  have := sfits_any s A' n c lo hi h W h1 h2 hn1 HS.out.each
  rw [hq_] at this
  exact this)
 have HIQ := Lib.hid (show ∀ (A' : Option Addr) (c lo hi : Nat) (W : World), RgsW lo hi W A' n c s.rs → hi ≤ W.heap.size → Calls Try.prog 13 #[stV s A' n c, hdV h] W (RetBelow (.bool z) W) from fun A' c lo hi W h1 h2 => by
  have := ifits_any s A' n c lo hi h W h1 h2 hn1 HS.out.each
  rw [hq_] at this
  exact this)
 clear hq_
 unfold stV hdV
 go_enter Try.func4, Try.ntmps4
 go_wp2_with fail
 refine calls_abs (fun W' => Below w.heap.size w W' ∧ BoxAt W' w.heap.size (aS s A n cap) 34 ∧ BoxAt W' (w.heap.size + 1) (aH h) 25 ∧ w.heap.size + 2 ≤ W'.heap.size) ⟨((Below.refl _ _).alloc (Nat.le_refl _) _).alloc (by simp) _, (BoxAt.new _ _ _).alloc _, BoxAt.new' (by simp), by simp⟩ ?_
 rintro W ⟨hB, ha, hse, l0⟩
 refine (szStore_any s A n cap 1048576 _ (hl0.below hB) hn (by omega) (by omega)).mono ?_
 rintro e w1 ⟨rfl, hb1⟩
 generalize szL 1048576 s.rs = z_ at *
 have l1 := hb1.size
 replace ha := ha.below hb1 ha.lt
 replace hse := hse.below hb1 hse.lt
 replace hB := bstep hB hB.size hb1
 clear hb1
 obtain ⟨M5, hMe⟩ : ∃ M5, M5 = w1.heap.size := ⟨_, rfl⟩
 have hM5 : M5 ≤ w1.heap.size := by omega
 have hM53 : w.heap.size + 2 ≤ M5 := by omega
 clear hMe
 go_upto_region 5 with fail
 go_cut [6] (fun s6 W' => Below w.heap.size w W' ∧ BoxAt W' w.heap.size (aS s A n cap) 34 ∧ BoxAt W' (w.heap.size + 1) (aH h) 25 ∧ s6 = .bool z)
 case first =>
  refine wp_region2v (fun w w' => Below w.heap.size w w') (fun _ _ h => h.size) (fun _ => Below.refl _ _) (fun L W' => Below w.heap.size w W' ∧ BoxAt W' w.heap.size (aS s A n cap) 34 ∧ BoxAt W' (w.heap.size + 1) (aH h) 25 ∧ M5 ≤ W'.heap.size) (fi5V s A n cap w.heap.size M5 h z) (fun _ => 0) [] (by kernel_rfl) (by kernel_rfl) ?_ ?_ ?_
   (.still rfl ?a0 <| .grow rfl ?a1 <| .still rfl ?a2 <| .grow rfl ?a3 <| .grow rfl ?a4 <| .still rfl ?a5 <| .nil) ?_ ?_
  · exact ⟨fun _ _ _ h ⟨X1, d1, e, hp⟩ => ⟨X1, d1, (h 1 (List.mem_singleton.2 rfl)).symm.trans e, hp⟩, trivial⟩
  · exact ⟨fun σ w w' hb ⟨X1, d1, e, hp⟩ => ⟨X1, d1, e, hp.below hb⟩, trivial⟩
  · exact ⟨hB.drew, ha, hse, hM5⟩
  case a0 =>
   go_light
   intro L σ W' hcl hL hC hw
   have ka := hC.2.1.cell
   clear hw hcl hL hC
   refine OpGoes.go fun K hK => ?_
   go_simp
   exact hK _ _ ⟨rfl, rfl⟩
  case a2 =>
   go_light
   intro L σ W' hcl hL hC hw
   have kp := hC.2.2.1.cell
   clear hw hcl hL hC
   refine OpGoes.go fun K hK => ?_
   go_simp
   exact hK _ _ ⟨rfl, rfl⟩
  case a5 =>
   go_light
   intro L σ W' hcl hL hC hw
   have e4 := wV hw 4 rfl
   clear hw hcl hL hC
   refine OpGoes.go fun K hK => ?_
   go_simp
   exact hK _ _ ⟨rfl, rfl⟩
  case a1 =>
   go_light
   intro L σ W' hcl hL hC hw
   have e0 := wV hw 0 rfl
   clear hw
   have HC := Lib.hid hC
   clear hC
   clear hcl hL
   refine OpGoes.go fun K hK => ?_
   go_simp
   obtain ⟨hB, ha, hse, hM5⟩ := HC.out
   refine (toStore_any s A n cap _ (hl0.below hB) hn1 HS.out.each).mono ?_
   rintro e w1 ⟨X1, nn, d1, rfl, hO1, hb1⟩
   exact ⟨_, rfl, hK _ _ ⟨⟨bstep hB hB.size hb1, ha.below hb1 ha.lt, hse.below hb1 hse.lt, Nat.le_trans hM5 hb1.size⟩, (by obtain rfl : n = nn := (hO1.1.symm.trans HL.out).symm; exact ⟨X1, d1, rfl, _, Nat.le_refl _, hO1.mono hM5 (Nat.le_refl _)⟩), hb1⟩⟩
  case a3 =>
   go_light
   intro L σ W' hcl hL hC hw
   have e2 := wV hw 2 rfl
   clear hw
   have HC := Lib.hid hC
   clear hC
   clear hcl hL
   refine OpGoes.go fun K hK => ?_
   go_simp
   obtain ⟨hB, ha, hse, hM5⟩ := HC.out
   refine (toHand_any h _).mono ?_
   rintro e w1 ⟨rfl, hb1⟩
   exact ⟨_, rfl, hK _ _ ⟨⟨bstep hB hB.size hb1, ha.below hb1 ha.lt, hse.below hb1 hse.lt, Nat.le_trans hM5 hb1.size⟩, rfl, hb1⟩⟩
  case a4 =>
   go_light
   intro L σ W' hcl hL hC hw
   obtain ⟨X1, d1, e1, hp1⟩ := wE hw 1 rfl
   have e3 := wV hw 3 rfl
   clear hw
   have HC := Lib.hid hC
   clear hC
   clear hcl hL
   refine OpGoes.go fun K hK => ?_
   go_simp
   obtain ⟨hB, ha, hse, hM5⟩ := HC.out
   refine (hp1.elim fun hi_ h_ => HSQ.out X1 d1 M5 hi_ _ h_.2.toW h_.1).mono ?_
   rintro e w1 ⟨rfl, hb1⟩
   exact ⟨_, rfl, hK _ _ ⟨⟨bstep hB hB.size hb1, ha.below hb1 ha.lt, hse.below hb1 hse.lt, Nat.le_trans hM5 hb1.size⟩, rfl, hb1⟩⟩
  ·
   intro L L' W' hLL hC
   obtain ⟨hB, ha, hse, hM5⟩ := hC
   exact ⟨hB, ha, hse, hM5⟩
  ·
   intro σ L W' hall hC hRR
   obtain ⟨hB, ha, hse, hM5⟩ := hC
   have e5 := dV hRR 5 rfl
   clear hRR
   simp only [lexAll]
   go_simp
   go_step
   go_meet
   exact ⟨hB, ha, hse, rfl⟩

 case rest =>
 clear hB ha hse hM5
 obtain ⟨hB, ha, hse, rfl⟩ := hcut
 go_upto_region 6 with fail
 have ka := ha.cell
 go_wp2_with fail
 clear ka
 refine (toStore_any s A n cap _ (hl0.below hB) hn1 HS.out.each).mono ?_
 rintro e w4 ⟨X, n2, m, rfl, hX, hb4⟩
 obtain rfl : n = n2 := (hX.1.symm.trans HL.out).symm
 unfold stV
 have l4 := hb4.size
 replace ha := ha.below hb4 ha.lt
 replace hse := hse.below hb4 hse.lt
 replace hB := bstep hB hB.size hb4
 clear hb4
 go_upto_region 7 with fail
 refine wp_abs (fun W' => Below w.heap.size w W' ∧ BoxAt W' w.heap.size (aS s A n cap) 34 ∧ BoxAt W' (w.heap.size + 1) (aH h) 25 ∧ BoxAt W' w4.heap.size (aS s X n m) 39 ∧ RgsD wc.heap.size w4.heap.size W' X n m s.rs ∧ w4.heap.size < W'.heap.size) ⟨hB.alloc hB.size _, ha.alloc _, hse.alloc _, BoxAt.new _ _ _, hX.keep (.alloc (Nat.le_refl _) _), by simp⟩ ?_
 clear hB ha hse hX
 generalize wc.heap.size = P3 at *
 generalize w4.heap.size = P4 at *
 rintro W4 ⟨hB, ha, hse, hx0, hX, l5⟩
 obtain ⟨M7, hMe⟩ : ∃ M7, M7 = W4.heap.size := ⟨_, rfl⟩
 have hM7 : M7 ≤ W4.heap.size := by omega
 have hP4M : P4 ≤ M7 := by omega
 have hP4M' : P4 < M7 := by omega
 go_cut [8] (fun s8 W' => Below w.heap.size w W' ∧ BoxAt W' w.heap.size (aS s A n cap) 34 ∧ BoxAt W' (w.heap.size + 1) (aH h) 25 ∧ BoxAt W' P4 (aS s X n m) 39 ∧ RgsD P3 P4 W' X n m s.rs ∧ s8 = .bool z)
 case first =>
  refine wp_region2v (fun w w' => Below w.heap.size w w') (fun _ _ h => h.size) (fun _ => Below.refl _ _) (fun L W' => Below w.heap.size w W' ∧ BoxAt W' w.heap.size (aS s A n cap) 34 ∧ BoxAt W' (w.heap.size + 1) (aH h) 25 ∧ M7 ≤ W'.heap.size ∧ BoxAt W' P4 (aS s X n m) 39 ∧ RgsD P3 P4 W' X n m s.rs) (fi7V s A n cap w.heap.size M7 P3 P4 X m h z) (fun _ => 0) [] (by kernel_rfl) (by kernel_rfl) ?_ ?_ ?_
   (.still rfl ?a0 <| .still rfl ?a1 <| .grow rfl ?a2 <| .grow rfl ?a3 <| .still rfl ?a4 <| .nil) ?_ ?_
  · exact trivial
  · exact trivial
  · exact ⟨hB.drew, ha, hse, hM7, hx0, hX⟩
  case a0 =>
   go_light
   intro L σ W' hcl hL hC hw
   have kx := hC.2.2.2.2.1.cell
   clear hw hcl hL hC
   refine OpGoes.go fun K hK => ?_
   go_simp
   exact hK _ _ ⟨rfl, rfl⟩
  case a1 =>
   go_light
   intro L σ W' hcl hL hC hw
   have kp := hC.2.2.1.cell
   clear hw hcl hL hC
   refine OpGoes.go fun K hK => ?_
   go_simp
   exact hK _ _ ⟨rfl, rfl⟩
  case a4 =>
   go_light
   intro L σ W' hcl hL hC hw
   have e3 := wV hw 3 rfl
   clear hw hcl hL hC
   refine OpGoes.go fun K hK => ?_
   go_simp
   exact hK _ _ ⟨rfl, rfl⟩
  case a2 =>
   go_light
   intro L σ W' hcl hL hC hw
   have e1 := wV hw 1 rfl
   clear hw
   have HC := Lib.hid hC
   clear hC
   clear hcl hL
   refine OpGoes.go fun K hK => ?_
   go_simp
   obtain ⟨hB, ha, hse, hM7, hx0, hX⟩ := HC.out
   refine (toHand_any h _).mono ?_
   rintro e w1 ⟨rfl, hb1⟩
   exact ⟨_, rfl, hK _ _ ⟨⟨bstep hB hB.size hb1, ha.below hb1 ha.lt, hse.below hb1 hse.lt, Nat.le_trans hM7 hb1.size, hx0.below hb1 hx0.lt, hX.below hb1 (Nat.le_trans hP4M hM7)⟩, rfl, hb1⟩⟩
  case a3 =>
   go_light
   intro L σ W' hcl hL hC hw
   have e0 := wV hw 0 rfl
   have e2 := wV hw 2 rfl
   clear hw
   have HC := Lib.hid hC
   clear hC
   clear hcl hL
   refine OpGoes.go fun K hK => ?_
   go_simp
   obtain ⟨hB, ha, hse, hM7, hx0, hX⟩ := HC.out
   refine (HIQ.out X m P3 P4 _ hX.toW (Nat.le_trans hP4M hM7)).mono ?_
   rintro e w1 ⟨rfl, hb1⟩
   exact ⟨_, rfl, hK _ _ ⟨⟨bstep hB hB.size hb1, ha.below hb1 ha.lt, hse.below hb1 hse.lt, Nat.le_trans hM7 hb1.size, hx0.below hb1 hx0.lt, hX.below hb1 (Nat.le_trans hP4M hM7)⟩, rfl, hb1⟩⟩
  ·
   intro L L' W' hLL hC
   obtain ⟨hB, ha, hse, hM7, hx0, hX⟩ := hC
   exact ⟨hB, ha, hse, hM7, hx0, hX⟩
  ·
   intro σ L W' hall hC hRR
   obtain ⟨hB, ha, hse, hM7, hx0, hX⟩ := hC
   have e4 := dV hRR 4 rfl
   clear hRR
   simp only [lexAll]
   go_simp
   go_step
   go_meet
   exact ⟨hB, ha, hse, hx0, hX, rfl⟩

 case rest =>
 clear hB ha hse hX hx0 hM7
 obtain ⟨hB, ha, hse, hx0, hX, rfl⟩ := hcut
 have hz0 : (z != z) = false := by simp
 go_upto_region 10 with fail
 refine wp_abs (fun W' => Below w.heap.size w W' ∧ BoxAt W' w.heap.size (aS s A n cap) 34 ∧ BoxAt W' (w.heap.size + 1) (aH h) 25 ∧ BoxAt W' P4 (aS s X n m) 39 ∧ RgsD P3 P4 W' X n m s.rs) ⟨hB, ha, hse, hx0, hX⟩ ?_
 clear hB ha hse hx0 hX
 rintro W5 ⟨hB, ha, hse, hx0, hX⟩
 have hl := hl0.below hB
 have hXr := hX.r
 have l1 := ha.lt
 have lx0 := hx0.lt
 go_cut [32] (fun s W' => Below W5.heap.size W5 W' ∧ s = .bool false)
 case first =>
  refine wp_region_R (fun W' => Below W5.heap.size W5 W') (exactFitsDR W5.heap.size s A n cap X m) exactFitsDK exactFitsDS (by kernel_rfl) (by kernel_rfl) ?_ ?_ ?_
   (.grow rfl ?_ <| .grow rfl ?_ <| .grow rfl ?_ <| .grow rfl ?_ <| .grow rfl ?_ <| .nil) ?_
  ·
   intro j σ τ w h hR
   match j, h, hR with
   | 0, h, hR => exact (h 0 (by decide)).symm.trans hR
   | 1, h, hR => exact (h 1 (by decide)).symm.trans hR
   | 2, h, hR => obtain ⟨g, d, e, hp⟩ := hR; exact ⟨g, d, (h 2 (by decide)).symm.trans e, hp⟩
   | 3, h, hR => exact (h 3 (by decide)).symm.trans hR
   | 4, h, hR => exact (h 4 (by decide)).symm.trans hR
   | _ + 5, _, _ => exact trivial
  ·
   intro j σ w w' hb hR
   match j, hR with
   | 0, hR => exact hR
   | 1, hR => exact hR
   | 2, hR => obtain ⟨g, d, e, hp⟩ := hR; exact ⟨g, d, e, hp.below hb⟩
   | 3, hR => exact hR
   | 4, hR => exact hR
   | _ + 5, _ => exact trivial
  · exact Below.drew (Below.refl _ _)
  ·
   -- 0: Op.load 39 t7
   intro σ W' hC hw
   clear hw
   have k_hx0 := (hx0.below hC (by omega)).cell
   refine OpGoes.go fun K hK => ?_
   go_simp
   exact hK _ _ ⟨hC, rfl, Below.refl _ _⟩
  ·
   -- 1: Op.load 34 t2
   intro σ W' hC hw
   clear hw
   have k_ha := (ha.below hC (by omega)).cell
   refine OpGoes.go fun K hK => ?_
   go_simp
   exact hK _ _ ⟨hC, rfl, Below.refl _ _⟩
  ·
   -- 2: Op.call { value (Operand.func 12), args := #[t29], argTypes := #[34] }
   intro σ W' hC hw
   have e1 : σ 1 = .agg (aS s A n cap) := hw 1 (by kernel_rfl)
   clear hw
   refine OpGoes.go fun K hK => ?_
   go_simp
   refine (toStore_any s A n cap _ (hl.below hC) hn1 HS.out.each).mono ?_
   rintro e w1 ⟨g, nn, d, rfl, hO, hb1⟩
   exact ⟨_, rfl, hK _ _ ⟨bstep hC hC.size hb1, by obtain rfl : nn = n := hO.1.symm.trans HL.out; exact ⟨g, d, rfl, hO.r⟩, hb1⟩⟩
  ·
   -- 3: Op.call { value (Operand.func 14), args := #[t28, t30], argTypes := #[39, 39] }
   intro σ W' hC hw
   have e0 : σ 0 = .agg (aS s X n m) := hw 0 (by kernel_rfl)
   obtain ⟨g_2, d_2, e2, hp2⟩ : ∃ (g : Option Addr) (d : Nat), σ 2 = .agg (aS s g n d) ∧ RgsR 0 W' g n s.rs := hw 2 (by kernel_rfl)
   clear hw
   refine OpGoes.go fun K hK => ?_
   go_simp
   refine (eqStore_same s _ _ n _ _ _ (hXr.below hC) hp2 hn1 HS.out.each).mono ?_
   rintro e w1 ⟨rfl, hb1⟩
   exact ⟨_, rfl, hK _ _ ⟨bstep hC hC.size hb1, rfl, hb1⟩⟩
  ·
   -- 4: Op.unOp UnOp.not 4 t31
   intro σ W' hC hw
   have e3 : σ 3 = .bool true := hw 3 (by kernel_rfl)
   clear hw
   refine OpGoes.go fun K hK => ?_
   go_simp
   exact hK _ _ ⟨hC, rfl, Below.refl _ _⟩
  ·
   intro σ W' hC hR
   have e4 : σ 4 = .bool false := hR 4 (by decide)
   clear hR
   simp only [lexAll]
   go_simp
   go_step
   go_meet
   exact ⟨hC, rfl⟩

 case rest =>
  obtain ⟨hb6, rfl⟩ := hcut
  go_wp2
  go_ret
  exact .mk rfl (bstep hB hB.size hb6)

set_option maxHeartbeats 400000 in
theorem exactFits_big (s : St) (A : Option Addr) (n cap : Nat) (h : Hd) (w : World) (hl0 : RgsR 0 w A n s.rs) (hn : n ≤ maxLen) (hs : szL 1048576 s.rs = -1) :
  Calls Try.prog 4 #[stV s A n cap, hdV h] w (RetBelow (.bool true) w) := by
 have HS := Lib.hid hs; clear hs
 unfold stV hdV
 go_enter Try.func4, Try.ntmps4
 go_wp2_with fail
 refine calls_abs (fun W => Below w.heap.size w W) (((Below.refl _ _).alloc (Nat.le_refl _) _).alloc (by simp) _) ?_
 rintro W hB
 refine (szStore_any s A n cap 1048576 _ (hl0.below hB) hn (by omega) (by omega)).mono ?_
 rintro e w1 ⟨rfl, hb1⟩
 rw [HS.out]
 go_wp2
 go_ret
 exact .mk rfl (bstep hB hB.size hb1)

theorem exactFits_any (s : St) (A : Option Addr) (n cap : Nat) (h : Hd) (w : World) (hl : RgsR 0 w A n s.rs) (hn : n ≤ maxLen) :
  Calls Try.prog 4 #[stV s A n cap, hdV h] w (RetBelow (.bool true) w) := by
 by_cases hs : szL 1048576 s.rs = -1
 · exact exactFits_big s A n cap h w hl hn hs
 · exact exactFits_small s A n cap h w hl hn hs

end Go.Proofs.Yteeemgoomobbbaa

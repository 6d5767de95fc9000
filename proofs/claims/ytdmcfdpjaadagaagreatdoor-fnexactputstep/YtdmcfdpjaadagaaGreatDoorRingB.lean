/-
 The walks of NewRing, of both sides, and of the laws' helpers on rings.
-/
import Derived.Test.YtdmcfdpjaadagaaGreatDoorRingA
import Derived.OwnWalk
namespace Go.Proofs.YtdmcfdpjaadagaaGreatDoor
set_option linter.unusedSimpArgs false
set_option linter.unusedVariables false
open Go.RowKit
attribute [local go_sem ↓] Go.wp_at_zero Go.wp_at_succ

/-- A ring's value. -/
def rgV (h t : Int) (c : Bool) (x : Int) (A : Option Addr) (n cap : Nat) : Value := .agg #[.int .i64 h, .int .i64 t, .bool c, .int .i64 x, .slice A n cap]

/-- A ring of the call's own is returned. -/
def RetRg (h t : Int) (c : Bool) (x : Int) (n : Nat) (l : List Pl) (w : World) (e : Ending) (w' : World) : Prop :=
 ∃ g cap, e = .returned (rgV h t c x (some ⟨g, 0, none⟩) n cap) ∧ PlsO w.heap.size w' g n cap l ∧ Below w.heap.size w w'
/-- Likewise, and a bool. -/
def RetRgB (h t : Int) (c : Bool) (x : Int) (n : Nat) (l : List Pl) (b : Bool) (w : World) (e : Ending) (w' : World) : Prop :=
 ∃ g cap, e = .returned (.tuple #[rgV h t c x (some ⟨g, 0, none⟩) n cap, .bool b]) ∧ PlsO w.heap.size w' g n cap l ∧ Below w.heap.size w w'

set_option maxHeartbeats 400000 in
theorem szRing_any (h t : Int) (c : Bool) (x : Int) (A : Option Addr) (n cap : Nat) (left : Int) (w : World) (hn : n ≤ maxLen) (h0 : 0 ≤ left) (h1 : left ≤ 1048576) :
  Calls Tryz.prog 61 #[rgV h t c x A n cap, .int .i64 left] w (RetBelow (.int .i64 (szI left n)) w) := by
 unfold rgV
 go_enter Tryz.func61, Tryz.ntmps61
 go_wp2_with fail
 refine (szPlaceS_any _ _ _ _ _ hn h0 h1).mono ?_
 rintro e w1 ⟨rfl, hb1⟩
 have hB : Below w.heap.size w w1 := bstep ((Below.refl _ _).alloc (Nat.le_refl _) _) (by simp) hb1
 have hs : szI left n = -1 ∨ 0 ≤ szI left n := by unfold szI; split <;> omega
 generalize szI left n = z at *
 rcases hs with rfl | hs
 all_goals
  go_wp2
  go_ret
  exact .mk rfl hB

set_option maxHeartbeats 400000 in
theorem toRing_any (h t : Int) (c : Bool) (x : Int) (A : Option Addr) (n cap : Nat) (l : List Pl) (w : World) (hl : PlsR 0 w A n l) (hn : n ≤ 1048576) :
  Calls Tryz.prog 74 #[rgV h t c x A n cap] w (RetRg h t c x n l w) := by
 unfold rgV
 go_enter Tryz.func74, Tryz.ntmps74
 go_wp2_with fail
 refine calls_abs (fun W => Below w.heap.size w W ∧ BoxAt W (w.heap.size + 1) #[.int .i64 0, .int .i64 0, .bool false, .int .i64 0, .slice none 0 0] 86 ∧ BoxAt W (w.heap.size + 1 + 1) #[.int .i64 h, .int .i64 t, .bool c, .int .i64 x, .slice none 0 0] 86) ?_ ?_
 · exact ⟨(((Below.refl _ _).alloc (Nat.le_refl _) _).alloc (by simp) _).alloc (by simp; omega) _, (BoxAt.new' (by simp)).alloc _, BoxAt.new' (by simp)⟩
 rintro W ⟨hB, hx, hy⟩
 refine (toPlaceS_any _ _ _ l _ (hl.below hB) hn).mono ?_
 rintro e w1 ⟨g, rfl, hO, hb1⟩
 have hx1 := hx.below hb1 hx.lt
 have hy1 := hy.below hb1 hy.lt
 have kx := hx1.cell
 have fx := hx1.frozen
 have ky := hy1.cell
 have fy := hy1.frozen
 have hg := hO.ge
 have lx := hx.lt
 have ly := hy.lt
 go_wp2
 refine bodyPost_ret (v := rgV h t c x (some ⟨g, 0, none⟩) n n) (by simp [results, Tryz.results74, go_sem, kx, ky, rgV]) rfl ⟨g, n, rfl, ?_, ?_⟩
 · exact (((((((hO.mono hB.size).sn).sn).sn).sn).sn).sn)
 · exact (sc (sc (sc (sc (sc (sc (bstep hB hB.size hb1)))))))

set_option maxRecDepth 100000 in
set_option maxHeartbeats 400000 in
theorem eqRing_same (h t : Int) (c : Bool) (x : Int) (A B : Option Addr) (n ca cb : Nat) (l : List Pl) (w : World) (ha : PlsR 0 w A n l) (hb : PlsR 0 w B n l) (hn : n ≤ 1048576) :
  Calls Tryz.prog 81 #[rgV h t c x A n ca, rgV h t c x B n cb] w (RetBelow (.bool true) w) := by
 unfold rgV
 go_enter Tryz.func81, Tryz.ntmps81
 go_wp2_with fail
 refine calls_abs (fun W => Below w.heap.size w W) (((Below.refl _ _).alloc (Nat.le_refl _) _).alloc (by simp) _) ?_
 rintro W hB
 refine (eqPlaceS_same _ _ _ _ _ l _ (ha.below hB) (hb.below hB) hn).mono ?_
 rintro e w1 ⟨rfl, hb1⟩
 go_wp2
 go_ret
 exact .mk rfl (bstep hB hB.size hb1)

/-- What markRing does. -/
def MarkedR (N g n cap : Nat) (w : World) (e : Ending) (w' : World) : Prop :=
 e = .returned (.int .i64 (1 + 4 * n)) ∧ But g w w' ∧ PlsO N w' g n cap (marks 1 n)

/-- n places that nobody has put on. -/
def fresh (n : Nat) : List Pl := (List.range n).map fun (i : Nat) => ⟨true, (i : Int), false, 0⟩
theorem fresh_len (n : Nat) : (fresh n).length = n := by simp [fresh]
theorem fresh_at {n i : Nat} (h : i < n) : (fresh n)[i]? = some ⟨true, (i : Int), false, 0⟩ := by simp [fresh, h]

set_option maxHeartbeats 400000 in
theorem emptyPlace_any (i : Int) (w : World) : Calls Tryz.prog 189 #[.int .i64 i] w (RetBelow (.agg #[.bool true, .int .i64 i, .bool false, .int .i64 0]) w) := by
 go_enter Tryz.func189, Tryz.ntmps189
 go_wp2
 refine bodyPost_ret (v := .agg #[.bool true, .int .i64 i, .bool false, .int .i64 0]) (by simp [results, Tryz.results189, go_sem]) rfl ⟨rfl, ?_⟩
 exact (Below.refl _ _).alloc (Nat.le_refl _) _

set_option maxHeartbeats 400000 in
theorem newCarousel_any (n : Nat) (w : World) (hn : n ≤ 1048576) :
  Calls Tryz.prog 188 #[.int .i64 n, .func (.func 189) #[] #[]] w (ToPls n (fresh n) w) := by
 obtain ⟨i0, hi0, hz0, hz1, hz2⟩ := info_parts place_info
 have hmk : ∀ W : World, (Instr.makeSlice 142 (.int .i64 (n : Int)) (.int .i64 (n : Int))).run Tryz.prog W = .ok (.slice (some ⟨W.heap.size, 0, none⟩) n n) (W.alloc (.cells (madeCells #[.bool false, .int .i64 0, .bool false, .int .i64 0] (n * 4)) 33)) := by
  intro W
  have := run_make (P := Tryz.prog) W 142 33 i0 _ Tryz.underlying142 hi0 hz0 .i64 .i64 n n (by omega) (by omega) (by rw [hz2]; omega) (by omega)
  rw [hz1] at this
  simpa [Value.cells] using this
 go_enter Tryz.func188, Tryz.ntmps188
 go_wp2
 clear hmk hi0 hz0 hz1 hz2
 go_loopw [11] (fun s W => ∃ i : Nat, i ≤ n ∧ s = .int .i64 i ∧ Below w.heap.size w W ∧ PlsO w.heap.size W w.heap.size n n (upto ⟨false, 0, false, 0⟩ (fresh n) i)) (fun s _ => n - (intOf s).toNat)
 case atStart =>
  refine ⟨0, Nat.zero_le _, rfl, (Below.refl _ _).alloc (Nat.le_refl _) _, ?_⟩
  rw [upto_zero, fresh_len]
  exact Own.made Pl.cs_len (by omega) (⟨false, 0, false, 0⟩ : Pl) _ rfl (Nat.le_refl _) _ (by unfold maxLen; omega)
 case round =>
  obtain ⟨i, hi, rfl, hB, hO⟩ := hrel
  by_cases hlt : i < n
  ·
   have h1 : (i : Int) < (n : Int) := by omega
   have h2 : (0 : Int) ≤ (i : Int) := by omega
   go_wp2_with fail
   refine (emptyPlace_any _ _).mono ?_
   rintro e w1 ⟨rfl, hb1⟩
   have hO1 := Own.below hO hb1
   have hat := upto_at (⟨false, 0, false, 0⟩ : Pl) (fresh n) (i := i) (by rw [fresh_len]; exact hlt)
   have d0 := Own.cell_ Pl.cs_len hO1 (j := 0) hat rfl
   have d1 := Own.cell_ Pl.cs_len hO1 (j := 1) hat rfl
   have d2 := Own.cell_ Pl.cs_len hO1 (j := 2) hat rfl
   have d3 := Own.cell_ Pl.cs_len hO1 (j := 3) hat rfl
   rw [Nat.add_zero] at d0
   clear hat
   have df := Own.frozen_ hO1
   go_wp2
   go_roundw
   case rel =>
    refine ⟨i + 1, by omega, by go_num, ?_, ?_⟩
    · exact Below.setCells (Nat.le_refl _) [.bool true, .int .i64 i, .bool false, .int .i64 0] (i * 4) (bstep hB hB.size hb1)
    ·
     have := Own.setEl hO1 Pl.cs_len (by omega) hlt (⟨true, (i : Int), false, 0⟩ : Pl)
     rw [upto_set _ _ (fresh_at hlt)] at this
     exact this
   case measure => simp [intOf]; omega
  ·
   have h1 : ¬ (i : Int) < (n : Int) := by omega
   go_wp2
   go_ret
   rw [upto_all (⟨false, 0, false, 0⟩ : Pl) (fresh n) (i := i) (by rw [fresh_len]; omega)] at hO
   exact ⟨w.heap.size, rfl, hO, hB⟩

/-- No ring, and false. -/
def NoRg (w : World) (e : Ending) (w' : World) : Prop := e = .returned (.tuple #[rgV 0 0 false 0 none 0 0, .bool false]) ∧ Below w.heap.size w w'

set_option maxHeartbeats 400000 in
theorem inewRing_no (n : Int) (w : World) (h : roundB n = false) : Calls Tryz.prog 179 #[.int .i64 n] w (NoRg w) := by
 go_enter Tryz.func179, Tryz.ntmps179
 go_wp2_with fail
 refine (isRound_any _ _).mono ?_
 rintro e w' ⟨rfl, rfl⟩
 go_wp2
 exact bodyPost_ret (v := .tuple #[rgV 0 0 false 0 none 0 0, .bool false]) (by simp [results, Tryz.results179, go_sem, rgV]) rfl ⟨rfl, (Below.refl _ _).alloc (Nat.le_refl _) _⟩

set_option maxHeartbeats 400000 in
theorem inewRing_yes (n : Nat) (w : World) (h : roundB n = true) (hn : n ≤ 8) : Calls Tryz.prog 179 #[.int .i64 n] w (RetRgB 0 0 false (-1) n (fresh n) true w) := by
 go_enter Tryz.func179, Tryz.ntmps179
 go_wp2_with fail
 refine (isRound_any _ _).mono ?_
 rintro e w' ⟨rfl, rfl⟩
 go_wp2_with fail
 refine calls_abs (fun W => Below w.heap.size w W ∧ BoxAt W w.heap.size #[.int .i64 0, .int .i64 0, .bool false, .int .i64 0, .slice none 0 0] 86) ⟨(Below.refl _ _).alloc (Nat.le_refl _) _, BoxAt.new _ _ _⟩ ?_
 rintro W ⟨hB, hx⟩
 refine (newCarousel_any n _ (by omega)).mono ?_
 rintro e w1 ⟨g, rfl, hO, hb1⟩
 have hx1 := hx.below hb1 hx.lt
 have kx := hx1.cell
 have fx := hx1.frozen
 have hg := hO.ge
 have lx := hx.lt
 go_wp2
 refine bodyPost_ret (v := .tuple #[rgV 0 0 false (-1) (some ⟨g, 0, none⟩) n n, .bool true]) (by simp [results, Tryz.results179, go_sem, kx, rgV]) rfl ⟨g, _, rfl, ?_, ?_⟩
 · exact ((((((hO.mono hB.size).sn).sn).sn).sn).sn)
 · exact (sc (sc (sc (sc (sc (bstep hB hB.size hb1))))))

end Go.Proofs.YtdmcfdpjaadagaaGreatDoor

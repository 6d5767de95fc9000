/-
 Events: how they lie in lists; the laws' helpers on them.
-/
import Derived.Test.YtghgfbncijfocaaIntA
namespace Go.Proofs.Ytghgfbncijfocaa
set_option linter.unusedSimpArgs false
set_option linter.unusedVariables false
open Go.RowKit
set_option linter.unusedVariables false
attribute [local go_sem ↓] Go.wp_at_zero Go.wp_at_succ

structure Ev where
 who : Int
 put : Bool
 v : Int
 re : Int
 b : Int
 e : Int
def Ev.cs (x : Ev) : List Value := [.int .i64 x.who, .bool x.put, .int .i64 x.v, .int .i64 x.re, .int .i64 x.b, .int .i64 x.e]
theorem Ev.cs_len (x : Ev) : x.cs.length = 6 := rfl
abbrev Ev.V (x : Ev) : Value := .agg #[.int .i64 x.who, .bool x.put, .int .i64 x.v, .int .i64 x.re, .int .i64 x.b, .int .i64 x.e]

/-- An event's six cells, from an offset on. -/
def EvE (_N : Nat) (w : World) (b o : Nat) (x : Ev) : Prop :=
 w.cell? ⟨b, o, none⟩ = some (.int .i64 x.who) ∧ w.cell? ⟨b, o + 1, none⟩ = some (.bool x.put) ∧ w.cell? ⟨b, o + 2, none⟩ = some (.int .i64 x.v) ∧ w.cell? ⟨b, o + 3, none⟩ = some (.int .i64 x.re) ∧ w.cell? ⟨b, o + 4, none⟩ = some (.int .i64 x.b) ∧ w.cell? ⟨b, o + 5, none⟩ = some (.int .i64 x.e)
theorem EvE.kept : Kept EvE := fun _ _ _ _ _ _ hb hs h => ⟨hs.cell hb h.1, hs.cell hb h.2.1, hs.cell hb h.2.2.1, hs.cell hb h.2.2.2.1, hs.cell hb h.2.2.2.2.1, hs.cell hb h.2.2.2.2.2⟩
theorem EvE.of_cells {N : Nat} {w : World} {b o : Nat} {x : Ev} (h : ∀ j u, x.cs[j]? = some u → w.cell? ⟨b, o + j, none⟩ = some u) : EvE N w b o x := ⟨h 0 _ rfl, h 1 _ rfl, h 2 _ rfl, h 3 _ rfl, h 4 _ rfl, h 5 _ rfl⟩
/-- Events in a slice, to be read. -/
def EvsR (w : World) (A : Option Addr) (n : Nat) (l : List Ev) : Prop := SlE EvE 6 0 w A n l
/-- Events in a slice of its own. -/
def EvsW (lo hi : Nat) (w : World) (A : Option Addr) (n cap : Nat) (l : List Ev) : Prop := SlW Ev.cs 6 31 lo hi w A n cap l
theorem EvsR.below {w w' : World} {A : Option Addr} {n : Nat} {l : List Ev} (h : EvsR w A n l) (hb : Below w.heap.size w w') : EvsR w' A n l := SlE.below EvE.kept h hb
theorem EvsW.r {lo hi : Nat} {w : World} {A : Option Addr} {n cap : Nat} {l : List Ev} (h : EvsW lo hi w A n cap l) : EvsR w A n l := SlW.r Ev.cs_len (fun _ _ _ => EvE.of_cells) h

set_option maxHeartbeats 400000 in
theorem toEvent_any (x : Ev) (w : World) : Calls Try.prog 21 #[.agg #[.int .i64 x.who, .bool x.put, .int .i64 x.v, .int .i64 x.re, .int .i64 x.b, .int .i64 x.e]] w (RetBelow x.V w) := by
 go_enter Try.func21, Try.ntmps21
 go_wp2
 refine bodyPost_ret (v := x.V) (by simp [results, Try.results21, go_sem]) rfl ⟨rfl, ?_⟩
 exact (((Below.refl _ _).alloc (Nat.le_refl _) _).alloc (by simp) _).alloc (by simp; omega) _

theorem event_info : (Try.prog.info? 31).map (fun i => (i.zero, i.size, i.bytes)) = some (some (.agg #[.int .i64 0, .bool false, .int .i64 0, .int .i64 0, .int .i64 0, .int .i64 0]), 6, 48) := by kernel_rfl

/-- A list of events of the call's own is returned. -/
def RetEvs (l : List Ev) (w : World) (e : Ending) (w' : World) : Prop := ∃ A cap, e = .returned (.slice A l.length cap) ∧ EvsW w.heap.size w'.heap.size w' A l.length cap l ∧ Below w.heap.size w w'

set_option maxRecDepth 100000 in
set_option maxHeartbeats 1000000 in
theorem toEventS_any (A : Option Addr) (n cap : Nat) (l : List Ev) (w : World) (h : EvsR w A n l) (hn : n ≤ 1048576) :
  Calls Try.prog 9 #[.slice A n cap] w (RetEvs l w) := by
 obtain ⟨i0, hi0, hz0, hz1, hz2⟩ := info_parts event_info
 have hmk : ∀ W : World, (Instr.makeSlice 25 (.int .i64 (n : Int)) (.int .i64 (n : Int))).run Try.prog W = .ok (.slice (some ⟨W.heap.size, 0, none⟩) n n) (W.alloc (.cells (madeCells #[.int .i64 0, .bool false, .int .i64 0, .int .i64 0, .int .i64 0, .int .i64 0] (n * 6)) 31)) := by
  intro W
  have := run_make (P := Try.prog) W 25 31 i0 _ Try.underlying25 hi0 hz0 .i64 .i64 n n (by omega) (by omega) (by rw [hz2]; omega) (by omega)
  rw [hz1] at this
  simpa [Value.cells] using this
 go_enter Try.func9, Try.ntmps9
 go_wp2
 have hln := h.1
 obtain rfl : l.length = n := hln
 clear hmk hi0 hz0 hz1 hz2
 go_loopw [4] (fun s4 W => ∃ i : Nat, i ≤ l.length ∧ s4 = .int .i64 i ∧ Below w.heap.size w W ∧ Own Ev.cs 6 31 w.heap.size W w.heap.size l.length l.length (upto ⟨0, false, 0, 0, 0, 0⟩ l i)) (fun s4 _ => l.length - (intOf s4).toNat)
 case atStart =>
  refine ⟨0, Nat.zero_le _, rfl, (Below.refl _ _).alloc (Nat.le_refl _) _, ?_⟩
  rw [upto_zero]
  exact Own.made Ev.cs_len (by omega) (⟨0, false, 0, 0, 0, 0⟩ : Ev) _ rfl (Nat.le_refl _) _ (by unfold maxLen; omega)
 case round =>
  obtain ⟨i, hi, rfl, hB, hO⟩ := hrel
  by_cases hlt : i < l.length
  ·
   obtain ⟨b, o, p, rfl, _, hp, hc⟩ := SlE.at_ (SlE.keep EvE.kept h (fun j _ hj => hB.block j hj)) hlt
   obtain ⟨c0, c1, c2, c3, c4, c5⟩ := hc
   have h1 : (i : Int) < (l.length : Int) := by omega
   have h2 : (0 : Int) ≤ (i : Int) := by omega
   have HP := Lib.hid hp; clear hp
   go_wp2_with fail
   refine (toEvent_any p _).mono ?_
   rintro e w1 ⟨rfl, hb1⟩
   clear c0 c1 c2 c3 c4 c5
   have hO1 := Own.below hO hb1
   have d0 := Own.cell_ Ev.cs_len hO1 (j := 0) (upto_at _ _ hlt) rfl
   have d1 := Own.cell_ Ev.cs_len hO1 (j := 1) (upto_at _ _ hlt) rfl
   have d2 := Own.cell_ Ev.cs_len hO1 (j := 2) (upto_at _ _ hlt) rfl
   have d3 := Own.cell_ Ev.cs_len hO1 (j := 3) (upto_at _ _ hlt) rfl
   have d4 := Own.cell_ Ev.cs_len hO1 (j := 4) (upto_at _ _ hlt) rfl
   have d5 := Own.cell_ Ev.cs_len hO1 (j := 5) (upto_at _ _ hlt) rfl
   rw [Nat.add_zero] at d0
   have df := Own.frozen_ hO1
   go_wp2
   go_roundw
   case rel =>
    refine ⟨i + 1, by omega, by go_num, ?_, ?_⟩
    · exact Below.setCells (Nat.le_refl _) p.cs (i * 6) (bstep hB hB.size hb1)
    ·
     have := Own.setEl hO1 Ev.cs_len (by omega) hlt p
     rw [upto_set _ _ HP.out] at this
     exact this
   case measure => simp [intOf]; omega
  ·
   have h1 : ¬ (i : Int) < (l.length : Int) := by omega
   go_wp2
   go_ret
   have hu := upto_all (⟨0, false, 0, 0, 0, 0⟩ : Ev) l (i := i) (by omega)
   rw [hu] at hO
   exact ⟨_, _, rfl, SlW.of_Own hO, hB⟩

set_option maxHeartbeats 400000 in
theorem eqEvent_same (x : Ev) (w : World) : Calls Try.prog 26 #[.agg #[.int .i64 x.who, .bool x.put, .int .i64 x.v, .int .i64 x.re, .int .i64 x.b, .int .i64 x.e], .agg #[.int .i64 x.who, .bool x.put, .int .i64 x.v, .int .i64 x.re, .int .i64 x.b, .int .i64 x.e]] w (RetBelow (.bool true) w) := by
 go_enter Try.func26, Try.ntmps26
 go_wp2
 go_ret
 exact .mk rfl (((Below.refl _ _).alloc (Nat.le_refl _) _).alloc (by simp) _)

set_option maxRecDepth 100000 in
set_option maxHeartbeats 1000000 in
theorem eqEventS_same (A B : Option Addr) (n c d : Nat) (l : List Ev) (w : World) (h : EvsR w A n l) (h' : EvsR w B n l) (hn : n ≤ 1048576) :
  Calls Try.prog 11 #[.slice A n c, .slice B n d] w (RetBelow (.bool true) w) := by
 go_enter Try.func11, Try.ntmps11
 go_wp2
 go_loopw [5] (fun s5 W => ∃ i : Nat, i ≤ n ∧ s5 = .int .i64 i ∧ Below w.heap.size w W) (fun s5 _ => n - (intOf s5).toNat)
 case atStart => exact ⟨0, Nat.zero_le _, rfl, Below.refl _ _⟩
 case round =>
  obtain ⟨i, hi, rfl, hB⟩ := hrel
  by_cases hlt : i < n
  ·
   obtain ⟨b, o, p, rfl, _, hp, hc⟩ := SlE.at_ (SlE.keep EvE.kept h (fun j _ hj => hB.block j hj)) hlt
   obtain ⟨b', o', p', rfl, _, hp', hc'⟩ := SlE.at_ (SlE.keep EvE.kept h' (fun j _ hj => hB.block j hj)) hlt
   obtain rfl : p = p' := by rw [hp] at hp'; injection hp'
   obtain ⟨c0, c1, c2, c3, c4, c5⟩ := hc
   obtain ⟨d0, d1, d2, d3, d4, d5⟩ := hc'
   have h1 : (i : Int) < (n : Int) := by omega
   have h2 : (0 : Int) ≤ (i : Int) := by omega
   clear hp hp'
   go_wp2
   go_still_tail 8, (by kernel_rfl)
   go_wp2_with fail
   refine (eqEvent_same p _).mono ?_
   rintro e w1 ⟨rfl, hb1⟩
   go_wp2
   go_roundw
   case rel => exact ⟨i + 1, by omega, by go_num, bstep hB.drew hB.size hb1⟩
   case measure => simp [intOf]; omega
  ·
   have h1 : ¬ (i : Int) < (n : Int) := by omega
   go_wp2
   go_ret
   exact ⟨rfl, hB⟩

set_option maxHeartbeats 400000 in
theorem szEventS_any (A : Option Addr) (n cap : Nat) (left : Int) (w : World) (hn : n ≤ maxLen) (h0 : 0 ≤ left) (h1 : left ≤ 1048576) :
  Calls Try.prog 7 #[.slice A n cap, .int .i64 left] w (RetBelow (.int .i64 (szI left n)) w) := by
 unfold maxLen at hn
 by_cases h : (n : Int) ≤ left
 all_goals
  go_enter Try.func7, Try.ntmps7
  go_wp2
  go_ret
  exact .mk (by simp [szI, *] <;> omega) (Below.refl _ _)

/-- What the laws write into an event, and into events one behind the other. -/
def markEv (k : Int) : Ev := ⟨k, (k + 1) % 3 == 0, k + 1 + 1, k + 1 + 1 + 1, k + 1 + 1 + 1 + 1, k + 1 + 1 + 1 + 1 + 1⟩
def emarks (k : Int) (n : Nat) : List Ev := (List.range n).map fun (i : Nat) => markEv (k + 6 * (i : Int))
theorem emarks_len (k : Int) (n : Nat) : (emarks k n).length = n := by simp [emarks]
theorem emarks_at (k : Int) {n i : Nat} (h : i < n) : (emarks k n)[i]? = some (markEv (k + 6 * i)) := by simp [emarks, h]

end Go.Proofs.Ytghgfbncijfocaa

/-
 Events: how they lie in lists; the laws' helpers on them.
-/
import Derived.Test.YtiiaimjlohpemaaGreatIntA
namespace Go.Proofs.YtiiaimjlohpemaaGreat
set_option linter.unusedSimpArgs false
set_option linter.unusedVariables false
open Go.RowKit
set_option linter.unusedVariables false
attribute [local go_sem ↓] Go.wp_at_zero Go.wp_at_succ

structure Ev where
 who : Int
 put : Bool
 v : Int
 re : Int
 b : Int
 e : Int
def Ev.cs (x : Ev) : List Value := [x.who, x.put, x.v, x.re, x.b, x.e]
theorem Ev.cs_len (x : Ev) : x.cs.length = 6 := rfl
abbrev Ev.V (x : Ev) : Value := .agg #[x.who, x.put, x.v, x.re, x.b, x.e]

/-- An event's six cells, from an offset on. -/
def EvE (_N : Nat) (w : World) (b o : Nat) (x : Ev) : Prop :=
 w.cell? ⟨b, o, none⟩ = some (.int .i64 x.who) ∧ w.cell? ⟨b, o + 1, none⟩ = some (.bool x.put) ∧ w.cell? ⟨b, o + 2, none⟩ = some (.int .i64 x.v) ∧ w.cell? ⟨b, o + 3, none⟩ = some (.int .i64 x.re) ∧ w.cell? ⟨b, o + 4, none⟩ = some (.int .i64 x.b) ∧ w.cell? ⟨b, o + 5, none⟩ = some (.int .i64 x.e)
theorem EvE.kept : Kept EvE := fun _ _ _ _ _ _ hb hs h => ⟨hs.cell hb h.1, hs.cell hb h.2.1, hs.cell hb h.2.2.1, hs.cell hb h.2.2.2.1, hs.cell hb h.2.2.2.2.1, hs.cell hb h.2.2.2.2.2⟩
theorem EvE.of_cells {N : Nat} {w : World} {b o : Nat} {x : Ev} (h : ∀ j u, x.cs[j]? = some u → w.cell? ⟨b, o + j, none⟩ = some u) : EvE N w b o x := ⟨h 0 _ rfl, h 1 _ rfl, h 2 _ rfl, h 3 _ rfl, h 4 _ rfl, h 5 _ rfl⟩
/-- Events in a slice, to be read. -/
def EvsR (w : World) (A : Option Addr) (n : Nat) (l : List Ev) : Prop := SlE EvE 6 0 w A n l
/-- Events in a slice of its own. -/
def EvsW (lo hi : Nat) (w : World) (A : Option Addr) (n cap : Nat) (l : List Ev) : Prop := SlW Ev.cs 6 32 lo hi w A n cap l
theorem EvsR.below {w w' : World} {A : Option Addr} {n : Nat} {l : List Ev} (h : EvsR w A n l) (hb : Below w.heap.size w w') : EvsR w' A n l := SlE.below EvE.kept h hb
theorem EvsW.r {lo hi : Nat} {w : World} {A : Option Addr} {n cap : Nat} {l : List Ev} (h : EvsW lo hi w A n cap l) : EvsR w A n l := SlW.r Ev.cs_len (fun _ _ _ => EvE.of_cells) h

theorem event_info : (Tryz.prog.info? 32).map (fun i => (i.zero, i.size, i.bytes)) = some (some (.agg #[.int .i64 0, .bool false, .int .i64 0, .int .i64 0, .int .i64 0, .int .i64 0]), 6, 48) := by kernel_rfl

/-- A list of events of the call's own is returned. -/
def RetEvs (l : List Ev) (w : World) (e : Ending) (w' : World) : Prop := ∃ A cap, e = .returned (.slice A l.length cap) ∧ EvsW w.heap.size w'.heap.size w' A l.length cap l ∧ Below w.heap.size w w'

/-- What the laws write into an event, and into events one behind the other. -/
def markEv (k : Int) : Ev := ⟨k, (k + 1) % 3 == 0, k + 1 + 1, k + 1 + 1 + 1, k + 1 + 1 + 1 + 1, k + 1 + 1 + 1 + 1 + 1⟩
def emarks (k : Int) (n : Nat) : List Ev := (List.range n).map fun (i : Nat) => markEv (k + 6 * (i : Int))
theorem emarks_len (k : Int) (n : Nat) : (emarks k n).length = n := by simp [emarks]
theorem emarks_at (k : Int) {n i : Nat} (h : i < n) : (emarks k n)[i]? = some (markEv (k + 6 * i)) := by simp [emarks, h]

end Go.Proofs.YtiiaimjlohpemaaGreat

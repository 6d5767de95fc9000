/-
 Places and rings in words of this project's own; the walks of the laws' helpers on slices of places.
-/
import Derived.Test.YtiiaimjlohpemaaGreatNums
namespace Go.Proofs.YtiiaimjlohpemaaGreat
set_option linter.unusedSimpArgs false
set_option linter.unusedVariables false
open Go.RowKit
attribute [local go_sem ↓] Go.wp_at_zero Go.wp_at_succ

structure Pl where
 s : Bool
 n : Int
 f : Bool
 v : Int

structure CP where
 p : Pl
def cP (p : Pl) : CP := ⟨p⟩
instance (p : Pl) : CoeDep CP (cP p) (List Value) := ⟨[Value.bool p.s, Value.int .i64 p.n, Value.bool p.f, Value.int .i64 p.v]⟩
instance (p : Pl) : CoeDep CP (cP p) (Array Value) := ⟨#[Value.bool p.s, Value.int .i64 p.n, Value.bool p.f, Value.int .i64 p.v]⟩

def Pl.cs (p : Pl) : List Value := (cP p)
theorem Pl.cs_len (p : Pl) : p.cs.length = 4 := rfl

/-- A place's four cells, from an offset on. -/
def PlE (_N : Nat) (w : World) (b o : Nat) (p : Pl) : Prop :=
 w.cell? ⟨b, o, none⟩ = some (.bool p.s) ∧ w.cell? ⟨b, o + 1, none⟩ = some (.int .i64 p.n) ∧ w.cell? ⟨b, o + 2, none⟩ = some (.bool p.f) ∧ w.cell? ⟨b, o + 3, none⟩ = some (.int .i64 p.v)

theorem PlE.kept : Kept PlE := fun _ _ _ _ _ _ hb hs h => ⟨hs.cell hb h.1, hs.cell hb h.2.1, hs.cell hb h.2.2.1, hs.cell hb h.2.2.2⟩
theorem PlE.of_cells {N : Nat} {w : World} {b o : Nat} {p : Pl} (h : ∀ j u, p.cs[j]? = some u → w.cell? ⟨b, o + j, none⟩ = some u) : PlE N w b o p :=
 ⟨h 0 _ rfl, h 1 _ rfl, h 2 _ rfl, h 3 _ rfl⟩

/-- Places in a slice (anywhere from block N on), to be read. -/
def PlsR (N : Nat) (w : World) (A : Option Addr) (n : Nat) (l : List Pl) : Prop := SlE PlE 4 N w A n l
/-- Places in a slice of the call's own. -/
def PlsO (N : Nat) (w : World) (g n cap : Nat) (l : List Pl) : Prop := Own Pl.cs 4 104 N w g n cap l

theorem PlsO.r {N : Nat} {w : World} {g n cap : Nat} {l : List Pl} (h : PlsO N w g n cap l) : PlsR N w (some ⟨g, 0, none⟩) n l := Own.sl h Pl.cs_len fun _ _ _ => PlE.of_cells
theorem PlsR.below {N : Nat} {w w' : World} {A : Option Addr} {n : Nat} {l : List Pl} (h : PlsR N w A n l) (hb : Below w.heap.size w w') : PlsR N w' A n l := SlE.below PlE.kept h hb

theorem PlsO.set_ne {N : Nat} {w : World} {g n cap : Nat} {l : List Pl} (h : PlsO N w g n cap l) {b : Nat} (hb : g ≠ b) (i : Nat) (u : Value) : PlsO N (w.setCell ⟨b, i, none⟩ u) g n cap l := Own.set_ne h hb i u
theorem PlsO.below {N : Nat} {w w' : World} {g n cap : Nat} {l : List Pl} (h : PlsO N w g n cap l) (hb : Below w.heap.size w w') : PlsO N w' g n cap l := Own.below h hb
theorem PlsO.al {N : Nat} {w : World} {g n cap : Nat} {l : List Pl} (h : PlsO N w g n cap l) (o : Obj) : PlsO N (w.alloc o) g n cap l := Own.al h o
theorem PlsO.mono {N M : Nat} {w : World} {g n cap : Nat} {l : List Pl} (h : PlsO N w g n cap l) (hM : M ≤ N) : PlsO M w g n cap l := Own.mono h hM
theorem PlsO.ge {N : Nat} {w : World} {g n cap : Nat} {l : List Pl} (h : PlsO N w g n cap l) : N ≤ g := h.2.1
theorem PlsR.mono {N M : Nat} {w : World} {A : Option Addr} {n : Nat} {l : List Pl} (h : PlsR N w A n l) (hM : M ≤ N) : PlsR M w A n l :=
 ⟨h.1, fun hn => by obtain ⟨b, o, e, hb, hc⟩ := h.2 hn; exact ⟨b, o, e, Nat.le_trans hM hb, hc⟩⟩
theorem PlsO.sn {N : Nat} {w : World} {g n cap : Nat} {l : List Pl} (h : PlsO N w g n cap l) {b : Nat} {i : Nat} {u : Value} (hb : g ≠ b := by omega) : PlsO N (w.setCell ⟨b, i, none⟩ u) g n cap l := Own.set_ne h hb i u

theorem place_info : (Tryz.prog.info? 104).map (fun i => (i.zero, i.size, i.bytes)) = some (some (.agg #[.bool false, .int .i64 0, .bool false, .int .i64 0]), 4, 32) := by kernel_rfl

/-- What toPlaceS yields. -/
def ToPls (n : Nat) (l : List Pl) (w : World) (e : Ending) (w' : World) : Prop :=
 ∃ g, e = .returned (.slice (some ⟨g, 0, none⟩) n n) ∧ PlsO w.heap.size w' g n n l ∧ Below w.heap.size w w'

/-- What the laws write into a place, and into places one behind the other. -/
def markPl (k : Int) : Pl := ⟨k % 3 == 0, k + 1, (k + 1 + 1) % 3 == 0, k + 1 + 1 + 1⟩
def marks (k : Int) (n : Nat) : List Pl := (List.range n).map fun (i : Nat) => markPl (k + 4 * (i : Int))
theorem marks_len (k : Int) (n : Nat) : (marks k n).length = n := by simp [marks]
theorem marks_at (k : Int) {n i : Nat} (h : i < n) : (marks k n)[i]? = some (markPl (k + 4 * i)) := by simp [marks, h]

/-- What markPlaceS does. -/
def Marked (k : Int) (N g n cap : Nat) (w : World) (e : Ending) (w' : World) : Prop :=
 e = .returned (.int .i64 (k + 4 * n)) ∧ But g w w' ∧ PlsO N w' g n cap (marks k n)

end Go.Proofs.YtiiaimjlohpemaaGreat

/-
 The facts of a story, on plain data: what both sides answer.
-/
import Derived.Test.YtghgfbncijfocaaEvI
namespace Go.Proofs.Ytghgfbncijfocaa
set_option linter.unusedSimpArgs false
set_option linter.unusedVariables false
open Go.RowKit
set_option linter.unusedVariables false

/-! ### The facts -/

def times (l : List Ev) (v : Int) (put : Bool) : Nat := (l.filter fun x => x.put == put && x.v == v && (x.re == 1 || x.re == 4)).length
def nothingTwice (l : List Ev) : Bool := (l.all fun x => !(x.re == 4) || (decide (times l x.v false ≤ times l x.v true) && l.any fun y => y.re == 1 && y.v == x.v && !decide (x.e < y.b))) && storyOk l
def twiceB (l : List Ev) : Bool := l.any fun x => !(x.re == 2) && decide (0 < x.v) && decide (1 < times l x.v x.put)
/-- Was v got by a take that one is not ahead of? -/
def gotB (l : List Ev) (v : Int) (o : Ev) : Bool := match l.find? fun x => x.re == 4 && x.v == v with
 | some x => !decide (o.e < x.b)
 | none => false
def inOrder (l : List Ev) : Bool := storyOk l && (twiceB l || l.all fun x => l.all fun y => !(x.re == 1 && y.re == 1 && decide (x.e < y.b)) || l.all fun z => !(z.re == 4 && z.v == y.v) || gotB l x.v z)
def emptyHeld (l : List Ev) : Bool := storyOk l && (twiceB l || l.all fun x => l.all fun y => !(x.re == 3 && y.re == 1 && decide (y.e < x.b)) || gotB l y.v x)

/-- How many are under way at a time. -/
def busyN (l : List Ev) (c : Int) : Nat := (l.filter fun x => decide (x.b ≤ c) && decide (c ≤ x.e)).length
def busyTo (l : List Ev) : Nat → Nat
 | 0 => 0
 | i + 1 => max (busyTo l i) (match l[i]? with
  | some x => busyN l x.b
  | none => 0)
def busyZ (l : List Ev) : Int := bif storyOk l then (busyTo l l.length : Int) else -1

/-! ### A list, up to a place -/

theorem take_next {l : List Ev} {i : Nat} {x : Ev} (h : l[i]? = some x) : l.take (i + 1) = l.take i ++ [x] := by
 rw [List.take_add_one, h]; rfl
theorem all_to {p : Ev → Bool} {l : List Ev} {i : Nat} {x : Ev} (h : l[i]? = some x) (ha : (l.take i).all p = true) (hx : p x = true) : (l.take (i + 1)).all p = true := by
 rw [take_next h, List.all_append, ha]; simp [hx]
theorem all_no {p : Ev → Bool} {l : List Ev} {i : Nat} {x : Ev} (h : l[i]? = some x) (hx : p x = false) : l.all p = false := by
 rw [List.all_eq_false]; exact ⟨x, List.mem_of_getElem? h, by simp [hx]⟩
theorem all_end {p : Ev → Bool} {l : List Ev} (h : (l.take l.length).all p = true) : l.all p = true := by rwa [List.take_length] at h
theorem any_to {p : Ev → Bool} {l : List Ev} {i : Nat} {x : Ev} (h : l[i]? = some x) : (l.take (i + 1)).any p = ((l.take i).any p || p x) := by
 rw [take_next h, List.any_append]; simp
theorem any_yes {p : Ev → Bool} {l : List Ev} {i : Nat} {x : Ev} (h : l[i]? = some x) (hx : p x = true) : l.any p = true := by
 rw [List.any_eq_true]; exact ⟨x, List.mem_of_getElem? h, hx⟩
theorem cnt_to {p : Ev → Bool} {l : List Ev} {i : Nat} {x : Ev} (h : l[i]? = some x) : ((l.take (i + 1)).filter p).length = ((l.take i).filter p).length + (bif p x then 1 else 0) := by
 rw [take_next h, List.filter_append, List.length_append]
 cases hp : p x <;> simp [hp]
theorem cnt_le {p : Ev → Bool} {l : List Ev} {i : Nat} : ((l.take i).filter p).length ≤ i := Nat.le_trans (List.length_filter_le _ _) (List.length_take_le _ _)
theorem busyN_le (l : List Ev) (c : Int) : busyN l c ≤ l.length := List.length_filter_le _ _
theorem busyTo_le (l : List Ev) : ∀ i, busyTo l i ≤ l.length
 | 0 => Nat.zero_le _
 | i + 1 => by
  have := busyTo_le l i
  rw [busyTo]
  cases l[i]? with
  | none => simp; exact this
  | some x => have := busyN_le l x.b; simp; omega
theorem busyTo_next {l : List Ev} {i : Nat} {x : Ev} (h : l[i]? = some x) : busyTo l (i + 1) = max (busyTo l i) (busyN l x.b) := by rw [busyTo, h]

end Go.Proofs.Ytghgfbncijfocaa

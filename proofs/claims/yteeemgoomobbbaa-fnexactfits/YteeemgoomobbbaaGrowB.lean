/-
 Facts on memory, behind several cells written one behind the other.
-/
import Derived.Test.YteeemgoomobbbaaPrimL
namespace Go.Proofs.Yteeemgoomobbbaa
set_option linter.unusedSimpArgs false
set_option linter.unusedVariables false
open Go.RowKit

theorem BoxAt.sets_ne {g k : Nat} {cs : Array Value} {t : TypeId} : ∀ (us : List Value) (o : Nat) {w : World}, BoxAt w k cs t → k ≠ g → BoxAt (Go.Proofs.Yteeemgoomobbbaa.setCells w g o us) k cs t
 | [], _, _, h, _ => h
 | u :: us, o, _, h, hne => BoxAt.sets_ne us (o + 1) (h.set_ne hne o u) hne
theorem sets_block {g k : Nat} (hne : k ≠ g) : ∀ (us : List Value) (o : Nat) (w : World), (setCells w g o us).heap[k]? = w.heap[k]?
 | [], _, _ => rfl
 | u :: us, o, w => (sets_block hne us (o + 1) _).trans (Below.heap_setCell w ⟨g, o, none⟩ u k hne)
theorem sets_size {g : Nat} : ∀ (us : List Value) (o : Nat) (w : World), (setCells w g o us).heap.size = w.heap.size
 | [], _, _ => rfl
 | u :: us, o, w => (sets_size us (o + 1) _).trans (by simp)
theorem RgsW.sts {lo hi : Nat} {w : World} {A : Option Addr} {n cap : Nat} {L : List Rg} (h : RgsW lo hi w A n cap L) {k : Nat} (hk : k < lo ∨ hi ≤ k) (us : List Value) (o : Nat) : RgsW lo hi (setCells w k o us) A n cap L :=
 h.keep fun j h1 h2 => sets_block (by omega) us o w
theorem size_sts {M g : Nat} {w : World} (h : M ≤ w.heap.size) (us : List Value) (o : Nat) : M ≤ (setCells w g o us).heap.size := by rw [sets_size]; exact h
theorem sets_all {g : Nat} {t : TypeId} {us : List Value} {w : World} {cs : Array Value} (h : BoxAt w g cs t) (hs : cs.size = us.length) : BoxAt (setCells w g 0 us) g us.toArray t := by
 obtain ⟨cur, h1, h2, h3⟩ := h.setCells us w 0
 have : cur = us.toArray := by
  apply Array.toList_inj.1
  rw [h3]
  apply List.ext_getElem?
  intro j
  rw [setAll_get us _ 0 j (by simp; omega)]
  by_cases hj : j < us.length
  · simp [hj]
  · simp [hj]; omega
 rw [← this]; exact h1
theorem Own.sets_ne {α : Type} {f : α → List Value} {k : Nat} {e : TypeId} {N : Nat} {w : World} {g n cap : Nat} {l : List α} (h : Own f k e N w g n cap l) {b : Nat} (hb : g ≠ b) (us : List Value) (o : Nat) : Own f k e N (setCells w b o us) g n cap l :=
 h.keep (sets_block hb us o w)

end Go.Proofs.Yteeemgoomobbbaa

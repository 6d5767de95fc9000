/-
  Stores that are no more than the laws look at.
-/
import Derived.Test.YtbpjhdoldodlnaaDoorChgA
import Derived.Test.YtbpjhdoldodlnaaDoorLawC
namespace Go.Proofs.YtbpjhdoldodlnaaDoor

/-- A store that is no more than the laws look at. -/
def Slim (s : St) : Prop := s.rs.length ≤ 1048576 ∧ sumPs s.rs ≤ 1048576
theorem Slim.each {s : St} (h : Slim s) : ∀ r ∈ s.rs, r.ps.length ≤ 1048576 := fun r hr => Nat.le_trans (sumPs_mem hr) h.2
theorem Slim.k {s : St} (h : Slim s) : (1 : Int) + 4 * s.rs.length + 4 * sumPs s.rs ≤ 1000000000 := by have := h.1; have := h.2; omega
theorem slim_of {s : St} (h : szL 1048576 s.rs ≠ -1) : Slim s := by
  rcases szL_or s.rs (left := 1048576) (by omega) with h' | ⟨_, _, h'⟩
  · exact absurd h' h
  · exact ⟨by omega, by omega⟩
theorem sumPs_le : ∀ (L : List Rg) (k : Nat), (∀ r ∈ L, r.ps.length ≤ k) → sumPs L ≤ L.length * k
  | [], _, _ => by simp [sumPs]
  | r :: L, k, h => by
    have h1 := h r (by simp)
    have h2 := sumPs_le L k (fun x hx => h x (by simp [hx]))
    simp only [sumPs, List.length_cons, Nat.succ_mul]; omega
theorem neat_slim {s : St} (h : Neat s) : Slim s := by
  have h1 := sumPs_le s.rs 8 (fun r hr => (h.2.2 r hr).2)
  have h2 := h.2.1
  refine ⟨by omega, ?_⟩
  have : s.rs.length * 8 ≤ 16 * 8 := Nat.mul_le_mul_right 8 h2
  omega
theorem zero_slim : Slim .zero := ⟨by simp [St.zero], by simp [St.zero, sumPs]⟩
theorem done_slim {c : St → Option St} {s : St} (h : Slim s) : Slim (done c s).1 := by
  unfold done
  split
  · exact zero_slim
  · cases c s with
    | none => exact h
    | some t =>
      unfold thenB
      dsimp only
      split
      · rename_i ht; exact neat_slim (stOk_neat ht)
      · exact h

end Go.Proofs.YtbpjhdoldodlnaaDoor

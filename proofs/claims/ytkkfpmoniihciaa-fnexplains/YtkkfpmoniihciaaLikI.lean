/-
  Two lists of numbers that are alike, by the laws' own helper.
-/
import Derived.Test.YtkkfpmoniihciaaIntA
namespace Go.Proofs.Ytkkfpmoniihciaa
set_option linter.unusedSimpArgs false
set_option linter.unusedVariables false
open Go.RowKit
set_option linter.unusedVariables false
attribute [local go_sem ↓] Go.wp_at_zero Go.wp_at_succ

set_option maxRecDepth 100000 in
set_option maxHeartbeats 1000000 in
theorem likeInts_same (A B : Option Addr) (n c d : Nat) (l : List Int) (w : World) (h : IntsR w A n l) (h' : IntsR w B n l) (hn : n ≤ 1073741824) :
    Calls Try.prog 15 #[.slice A n c, .slice B n d] w (RetBelow (.bool true) w) := by
  go_enter Try.func15, Try.ntmps15
  go_wp2
  go_loopw [5] (fun s5 W => ∃ i : Nat, i ≤ n ∧ s5 = .int .i64 i ∧ Below w.heap.size w W) (fun s5 _ => n - (intOf s5).toNat)
  case atStart => exact ⟨0, Nat.zero_le _, rfl, Below.refl _ _⟩
  case round =>
    obtain ⟨i, hi, rfl, hB⟩ := hrel
    by_cases hlt : i < n
    · obtain ⟨b, o, x, rfl, _, hp, c0⟩ := SlE.at_ (SlE.keep IE.kept h (fun j _ hj => hB.block j hj)) hlt
      obtain ⟨b', o', x', rfl, _, hp', d0⟩ := SlE.at_ (SlE.keep IE.kept h' (fun j _ hj => hB.block j hj)) hlt
      obtain rfl : x = x' := by rw [hp] at hp'; injection hp'
      unfold IE at c0 d0
      rw [Nat.mul_one] at c0 d0
      have h1 : (i : Int) < (n : Int) := by omega
      have h2 : (0 : Int) ≤ (i : Int) := by omega
      clear hp hp'
      go_wp2
      go_still_tail 8, (by kernel_rfl)
      go_wp2
      go_roundw
      case rel => exact ⟨i + 1, by omega, by go_num, by first | exact hB | exact hB.drew | exact hB.drewN _⟩
      case measure => simp [intOf]; omega
    · have h1 : ¬ (i : Int) < (n : Int) := by omega
      go_wp2
      go_ret
      exact ⟨rfl, hB⟩

set_option maxHeartbeats 400000 in
theorem big_any (a0 : Option Addr) (len cap : Nat) (w : World) : Calls Try.prog 9 #[.slice a0 len cap] w (Quiet1 (.bool (decide (4096 < (len : Int)))) w) := by
  go_enter Try.func9, Try.ntmps9
  go_wp2
  go_ret
  exact ⟨rfl, rfl⟩

end Go.Proofs.Ytkkfpmoniihciaa

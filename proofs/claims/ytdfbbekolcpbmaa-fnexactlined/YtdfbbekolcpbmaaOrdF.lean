/-
  What is a story of so many; the makers of the orders.
-/
import Derived.Test.YtdfbbekolcpbmaaOrdE
namespace Go.Proofs.Ytdfbbekolcpbmaa
set_option linter.unusedSimpArgs false
set_option linter.unusedVariables false
open Go.RowKit
set_option linter.unusedVariables false
attribute [local go_sem ↓] Go.wp_at_zero Go.wp_at_succ

set_option maxHeartbeats 400000 in
theorem isStoryUpTo_any (l : List Ev) (A : Option Addr) (n cap m : Nat) (w : World) (h : EvsR w A n l) (hn : n ≤ 1048576) (hm : m ≤ 1000) :
    Calls Try.prog 15 #[.slice A n cap, .int .i64 m] w (RetBelow (.bool (decide (n ≤ m) && storyOk l)) w) := by
  by_cases hle : n ≤ m
  · have g1 : (n : Int) ≤ (m : Int) := by omega
    have HD := Lib.hid (show decide (n ≤ m) = true by simp [hle])
    go_enter Try.func15, Try.ntmps15
    go_wp2_with fail
    refine (istory_any l A n cap _ h hn).mono ?_
    rintro e w1 ⟨rfl, hb1⟩
    go_wp2
    go_ret
    exact .mk (by rw [HD.out]; rfl) hb1
  · have g1 : ¬ (n : Int) ≤ (m : Int) := by omega
    have HD := Lib.hid (show decide (n ≤ m) = false by simp [hle])
    go_enter Try.func15, Try.ntmps15
    go_wp2
    go_ret
    exact .mk rfl (Below.refl _ _)

set_option maxHeartbeats 400000 in
theorem ordersFrom_any (A B : Option Addr) (n cap m c : Nat) (w : World) :
    Calls Try.prog 22 #[.slice B m c, .slice A n cap] w (fun e w' => e = .returned (.func (.func 31) #[] #[.pointer (some ⟨w.heap.size + 1, 0, none⟩), .pointer (some ⟨w.heap.size, 0, none⟩)]) ∧ w' = (w.alloc (.cells #[.slice B m c] 32)).alloc (.cells #[.slice A n cap] 25)) := by
  go_enter Try.func22, Try.ntmps22
  go_wp2
  go_ret
  exact ⟨by simp, rfl⟩

set_option maxHeartbeats 400000 in
theorem ordersOf_any (A : Option Addr) (n cap : Nat) (w : World) :
    Calls Try.prog 16 #[.slice A n cap] w (fun e w' => e = .returned (.func (.func 31) #[] #[.pointer (some ⟨w.heap.size + 1, 0, none⟩), .pointer (some ⟨w.heap.size, 0, none⟩)]) ∧ w' = (w.alloc (.cells #[.slice none 0 0] 32)).alloc (.cells #[.slice A n cap] 25)) := by
  go_enter Try.func16, Try.ntmps16
  go_wp2_with fail
  refine (ordersFrom_any A none n cap 0 0 w).mono ?_
  rintro e w1 ⟨rfl, rfl⟩
  go_wp2
  go_ret
  exact ⟨rfl, rfl⟩

end Go.Proofs.Ytdfbbekolcpbmaa

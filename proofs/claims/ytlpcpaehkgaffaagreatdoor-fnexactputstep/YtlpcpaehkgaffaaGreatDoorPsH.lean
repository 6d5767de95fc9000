/-
  A body in which the run jumps on to a label, some times: what is behind the jump is walked from the label.
-/
import Derived.WalkMore
import Derived.ScopeJumps
import Derived.Test.YtlpcpaehkgaffaaGreatDoorKit
import Derived.Test.YtlpcpaehkgaffaaGreatDoorRetG
import Derived.Test.YtlpcpaehkgaffaaGreatDoorHanO
import Derived.Test.YtlpcpaehkgaffaaGreatDoorTriA
import Derived.Test.YtlpcpaehkgaffaaGreatDoorRingF
namespace Go.Proofs.YtlpcpaehkgaffaaGreatDoor
set_option linter.unusedSimpArgs false
set_option linter.unusedVariables false
open Go.RowKit
set_option linter.unusedVariables false

/-- By a goto: on from its label, n times at most; else as Q. -/
def fwd (P : Program) (c : Code) (Q : Exit → Act → World → Prop) : Nat → Exit → Act → World → Prop
  | 0 => Exit.noGoto Q
  | n + 1 => fun e a w => match e with
    | .goto l => ∃ rest, findLabel c l = some rest ∧ rest.wp P (fwd P c Q n) a w
    | e => Q e a w
section
variable {P : Program} {c : Code} {Q : Exit → Act → World → Prop} {a : Act} {w : World}
theorem fwd_normal (n : Nat) : fwd P c Q n .normal a w = Q .normal a w := by cases n <;> rfl
theorem fwd_ret (n : Nat) : fwd P c Q n .ret a w = Q .ret a w := by cases n <;> rfl
theorem fwd_exit (n id : Nat) : fwd P c Q n (.exit id) a w = Q (.exit id) a w := by cases n <;> rfl
theorem fwd_panic (n : Nat) (ch : List PanicEntry) : fwd P c Q n (.panic ch) a w = Q (.panic ch) a w := by cases n <;> rfl
theorem fwd_goto {n l : Nat} {rest : Code} (hf : findLabel c l = some rest) (h : rest.wp P (fwd P c Q n) a w) : fwd P c Q (n + 1) (.goto l) a w := ⟨rest, hf, h⟩

theorem fwd_runs : ∀ (n : Nat) (d : Code) (a : Act) (w : World), d.wp P (fwd P c Q n) a w → ∀ (b : Frame) (k : List Item) (cs : List Frame), ∃ e a' w', Q e a' w' ∧ Arrives P (lone (b.at a (.code d :: .inScope c :: k)) cs w) b k cs e a' w' := by
  intro n
  induction n with
  | zero =>
    intro d a w h b k cs
    obtain ⟨e, a₁, w₁, hq, harr⟩ := h b (.inScope c :: k) cs
    cases e with
    | normal => exact ⟨.normal, a₁, w₁, hq, Steps.trans harr (.one step_inScope)⟩
    | exit id => exact ⟨.exit id, a₁, w₁, hq, fun k' hk => harr k' (by simp [exitTo, hk])⟩
    | goto l => exact hq.elim
    | ret => exact ⟨_, a₁, w₁, hq, harr⟩
    | panic ch => exact ⟨_, a₁, w₁, hq, harr⟩
    | outgrown => exact ⟨_, a₁, w₁, hq, harr⟩
  | succ n ih =>
    intro d a w h b k cs
    obtain ⟨e, a₁, w₁, hq, harr⟩ := h b (.inScope c :: k) cs
    cases e with
    | normal => exact ⟨.normal, a₁, w₁, hq, Steps.trans harr (.one step_inScope)⟩
    | exit id => exact ⟨.exit id, a₁, w₁, hq, fun k' hk => harr k' (by simp [exitTo, hk])⟩
    | goto l =>
      obtain ⟨rest, hf, hr⟩ := hq
      obtain ⟨e₂, a₂, w₂, hq₂, harr₂⟩ := ih rest a₁ w₁ hr b k cs
      exact ⟨e₂, a₂, w₂, hq₂, .of_steps (harr _ (by simp [gotoIn, hf])) harr₂⟩
    | ret => exact ⟨_, a₁, w₁, hq, harr⟩
    | panic ch => exact ⟨_, a₁, w₁, hq, harr⟩
    | outgrown => exact ⟨_, a₁, w₁, hq, harr⟩

theorem wp_scope_fwd (n : Nat) (h : c.wp P (fwd P c Q n) a w) : (Code.scope c).wp P Q a w := by
  intro b k cs
  obtain ⟨e, a', w', hq, harr⟩ := fwd_runs n c a w h b k cs
  exact ⟨e, a', w', hq, .of_steps (.one step_scope) harr⟩
/-- The same, the body behind a letter. -/
theorem wp_scope_let (n : Nat) (h : ∀ c', c' = c → c.wp P (fwd P c' Q n) a w) : (Code.scope c).wp P Q a w := wp_scope_fwd n (h c rfl)
theorem fwd_on {c' : Code} {n l : Nat} {rest : Code} (he : c' = c) (hf : findLabel c l = some rest) (h : rest.wp P (fwd P c' Q n) a w) : fwd P c' Q (n + 1) (.goto l) a w := ⟨rest, he ▸ hf, h⟩
end

end Go.Proofs.YtlpcpaehkgaffaaGreatDoor

/-
  What a step of the program leaves: a store and a hand.
-/
namespace Go.Proofs.YtlpcpaehkgaffaaGreatDoor
set_option linter.unusedSimpArgs false
set_option linter.unusedVariables false
open Go.RowKit
set_option linter.unusedVariables false
attribute [local go_sem] OpUpon
attribute [local go_sem ↓] Go.wp_at_zero Go.wp_at_succ

/-- The store and the hand that a step leaves. -/
def PH (q : St × Hd × Bool) : St × Hd := (q.1, q.2.1)
def RetSH (q : St × Hd) (w : World) (e : Ending) (w' : World) : Prop :=
  ∃ A n cap, e = .returned (.tuple #[stV q.1 A n cap, hdV q.2]) ∧ RgsW 0 w'.heap.size w' A n cap q.1.rs ∧ Below w.heap.size w w'

set_option maxHeartbeats 400000 in
theorem irest_any (h : Hd) (re : Int) (w : World) : Calls Tryz.prog 115 #[hdV h, .int .i64 re] w (RetBelow (hdV (h.rest re)) w) := by
  unfold hdV
  go_enter Tryz.func115, Tryz.ntmps115
  go_wp2
  refine bodyPost_ret (v := hdV (h.rest re)) (by simp [results, Tryz.results115, go_sem, hdV, Hd.rest, Hd.zero]) rfl ⟨rfl, ?_⟩
  exact ((Below.refl _ _).alloc (Nat.le_refl _) _).alloc (by simp) _
theorem stOk_rgok {s : St} (h : stOk s = true) {r : Rg} (hr : r ∈ s.rs) : r.ok = true := by
  simp only [stOk, Bool.and_eq_true] at h
  have := List.all_eq_true.1 h.1.2 r hr
  simp only [inSt, Bool.and_eq_true] at this
  exact this.1.1

end Go.Proofs.YtlpcpaehkgaffaaGreatDoor


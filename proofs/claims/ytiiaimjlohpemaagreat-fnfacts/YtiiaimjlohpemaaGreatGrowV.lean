/-
 Regions that draw their order, where what an operation yields is laid in a list: a value, or what is known behind it.
-/
import Derived.Test.YtiiaimjlohpemaaGreatGrowM
namespace Go.Proofs.YtiiaimjlohpemaaGreat
set_option linter.unusedSimpArgs false
set_option linter.unusedVariables false
open Go.RowKit

/-- What is known of an operation that is done: its value, or some fact. -/
inductive Sl where
 | v (x : Value)
 | e (p : (Nat → Value) → World → Prop)

def RV (V : List Sl) (j : Nat) (σ : Nat → Value) (w : World) : Prop :=
 match V[j]? with
 | some (.v x) => σ j = x
 | some (.e p) => p σ w
 | none => True
/-- What holds of all facts of the list. -/
def AllE : Nat → List Sl → (Nat → ((Nat → Value) → World → Prop) → Prop) → Prop
 | _, [], _ => True
 | i, .v _ :: r, Φ => AllE (i + 1) r Φ
 | i, .e p :: r, Φ => Φ i p ∧ AllE (i + 1) r Φ
theorem AllE.get {Φ : Nat → ((Nat → Value) → World → Prop) → Prop} : ∀ {V : List Sl} {i : Nat}, AllE i V Φ → ∀ {j : Nat} {p : (Nat → Value) → World → Prop}, V[j]? = some (.e p) → Φ (i + j) p
 | [], _, _, _, _, h => by simp at h
 | .v _ :: r, i, H, 0, _, h => by simp at h
 | .e _ :: r, i, H, 0, _, h => by
  simp at h
  subst h
  exact H.1
 | .v _ :: r, i, H, j + 1, p, h => by
  have := AllE.get (V := r) (i := i + 1) H (j := j) (p := p) (by simpa using h)
  rwa [Nat.add_assoc, Nat.add_comm 1 j] at this
 | .e _ :: r, i, H, j + 1, p, h => by
  have := AllE.get (V := r) (i := i + 1) H.2 (j := j) (p := p) (by simpa using h)
  rwa [Nat.add_assoc, Nat.add_comm 1 j] at this
/-- Which value a fact speaks of: its own, or another one's that is listed. -/
def SV (V : List Sl) (dv : List (Nat × Nat)) (j : Nat) : List Nat :=
 match V[j]? with
 | some (.v _) => [j]
 | _ => [(dv.lookup j).getD j]

section
variable {P : Program} {l : List Oper} {le : World → World → Prop} {C : (Nat → Bool) → World → Prop} {kd : Nat → Nat} {k : Nat} {σ : Nat → Value} {w w' : World} {V : List Sl}
theorem wV (hw : ∀ j, waits l k j = true → RV V j σ w) (j : Nat) {x : Value} (h : V[j]? = some (.v x)) (hj : waits l k j = true := by kernel_rfl) : σ j = x := by
 have := hw j hj
 unfold RV at this
 rw [h] at this
 exact this
/-- As wV; fails where operation k does not wait for operation j. -/
theorem wT (hw : ∀ j, waits l k j = true → RV V j σ w) (j : Nat) {x : Value} (h : V[j]? = some (.v x)) (hj : waits l k j = true := by decide +kernel) : σ j = x := wV hw j h hj
theorem wE (hw : ∀ j, waits l k j = true → RV V j σ w) (j : Nat) {p : (Nat → Value) → World → Prop} (h : V[j]? = some (.e p)) (hj : waits l k j = true := by kernel_rfl) : p σ w := by
 have := hw j hj
 unfold RV at this
 rw [h] at this
 exact this
theorem dV (hw : ∀ j, j < l.length → RV V j σ w) (j : Nat) {x : Value} (h : V[j]? = some (.v x)) (hj : j < l.length := by decide) : σ j = x := by
 have := hw j hj
 unfold RV at this
 rw [h] at this
 exact this
theorem dE (hw : ∀ j, j < l.length → RV V j σ w) (j : Nat) {p : (Nat → Value) → World → Prop} (h : V[j]? = some (.e p)) (hj : j < l.length := by decide) : p σ w := by
 have := hw j hj
 unfold RV at this
 rw [h] at this
 exact this
/-- What a store keeps of the others. -/
theorem keepV (h : AllE 0 V fun i p => i ≠ k → waits l i k = false → p σ w → p σ w') : ∀ j, j ≠ k → waits l j k = false → RV V j σ w → RV V j σ w' := fun j hj hn hR => by
 unfold RV at hR ⊢
 cases e : V[j]? with
 | none => trivial
 | some s =>
  cases s with
  | v x => rw [e] at hR; exact hR
  | e p => rw [e] at hR; exact (by simpa using AllE.get h e : j ≠ k → waits l j k = false → p σ w → p σ w') hj hn hR

theorem wp_region2v {id : Nat} {Q : Exit → Act → World → Prop} {a : Act} {w : World} (le : World → World → Prop) (hle : ∀ w w', le w w' → w.heap.size ≤ w'.heap.size) (hrf : ∀ w, le w w) (C : (Nat → Bool) → World → Prop) (V : List Sl) (kd : Nat → Nat) (dv : List (Nat × Nat))
  (hm : P.follows .mixedOrders = true) (hB : growB l (SV V dv) = true)
  (hsupp : AllE 0 V fun i p => ∀ σ τ w, (∀ k ∈ [(dv.lookup i).getD i], σ k = τ k) → p σ w → p τ w)
  (hgrow : AllE 0 V fun _ p => ∀ σ w w', le w w' → p σ w → p σ w')
  (h0 : C (fun _ => false) w.drew) (hops : AllOpsM P l le C (RV V) kd 0 l fun _ => a) (hmn : MonoC C)
  (hend : ∀ σ L w', (∀ j, j < l.length → L j = true) → C L w' → (∀ j, j < l.length → RV V j σ w') → Q .normal (lexAll l 0 a σ) w') : (Code.region id l.toArray true).wp P Q a w := by
 refine wp_region2m le hle hrf C (RV V) kd (SV V dv) hm hB ?_ ?_ h0 hops hmn hend
 ·
  intro j σ τ w h hR
  unfold RV at hR ⊢
  unfold SV at h
  cases e : V[j]? with
  | none => trivial
  | some s =>
   cases s with
   | v x =>
    rw [e] at hR h
    exact (h j (List.mem_singleton.2 rfl)).symm.trans hR
   | e p =>
    rw [e] at hR h
    have := AllE.get hsupp e
    rw [Nat.zero_add] at this
    exact this σ τ w h hR
 ·
  intro j σ w w' hl hR
  unfold RV at hR ⊢
  cases e : V[j]? with
  | none => trivial
  | some s =>
   cases s with
   | v x => rw [e] at hR; exact hR
   | e p => rw [e] at hR; exact AllE.get hgrow e σ w w' hl hR
end

/-- The operations of a region, by its number, in a piece of code. -/
def findR (id : Nat) : Code → Option (List Oper)
 | .region i ops _ => if i = id then some ops.toList else none
 | .seq a b => match findR id a with
  | some x => some x
  | none => findR id b
 | .cond _ a b => match findR id a with
  | some x => some x
  | none => findR id b
 | .block _ b => findR id b
 | .loop b => findR id b
 | .rangeFunc _ _ a b => match findR id a with
  | some x => some x
  | none => findR id b
 | .scope b => findR id b
 | _ => none

end Go.Proofs.YtiiaimjlohpemaaGreat

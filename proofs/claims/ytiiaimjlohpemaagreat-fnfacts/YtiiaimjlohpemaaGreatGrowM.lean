/-
 Regions that draw their order, with operations that leave the memory as it is told apart: what is known of the memory is not told again at each of them.
-/
import Derived.Test.YtiiaimjlohpemaaGreatGrow2
namespace Go.Proofs.YtiiaimjlohpemaaGreat
set_option linter.unusedSimpArgs false
set_option linter.unusedVariables false
open Go.RowKit

/-- What is known while an operation is not done is known the less the more are done. -/
def MonoC (C : (Nat → Bool) → World → Prop) : Prop := ∀ (L L' : Nat → Bool) (w : World), (∀ j, L' j = false → L j = false) → C L w → C L' w

theorem upd_false {L : Nat → Bool} {k : Nat} : ∀ j, upd L k true j = false → L j = false := fun j h => by
 by_cases e : j = k
 · subst e; rw [upd_same] at h; cases h
 · rw [upd_ne _ _ e] at h; exact h

/-- What is asked of operation k where it leaves the memory as it is. -/
def Still2 (P : Program) (ops : List Oper) (C : (Nat → Bool) → World → Prop) (R : Nat → (Nat → Value) → World → Prop) (k : Nat) (o : Oper) (fr : (Nat → Value) → Act) : Prop :=
 ∀ (L : Nat → Bool) (σ : Nat → Value) (w : World), Closed ops L → L k = false → C L w → (∀ j, waits ops k j = true → R j σ w) → OpGoes P ops.toArray o (fr σ) w fun v w' => w' = w ∧ R k (upd σ k v) w

section
variable {P : Program} {l : List Oper} {le : World → World → Prop} {C : (Nat → Bool) → World → Prop} {R : Nat → (Nat → Value) → World → Prop} {kd : Nat → Nat} {k : Nat} {fr : (Nat → Value) → Act} {o : Oper} {r : List Oper}
/-- The operations from number k on, once it is known that C is of that kind. -/
def AllOpsM (P : Program) (l : List Oper) (le : World → World → Prop) (C : (Nat → Bool) → World → Prop) (R : Nat → (Nat → Value) → World → Prop) (kd : Nat → Nat) (k : Nat) (r : List Oper) (fr : (Nat → Value) → Act) : Prop := MonoC C → (∀ w, le w w) → AllOps2 P l le C R kd k r fr
theorem AllOpsM.nil : AllOpsM P l le C R kd k [] fr := fun _ _ => trivial
theorem AllOpsM.grow (hs : kd k = 0) (h : Grows2 P l le C R k o fr) (hr : AllOpsM P l le C R kd (k + 1) r fun σ => (fr σ).put o.dst (σ k)) : AllOpsM P l le C R kd k (o :: r) fr := fun hm hl => .grow hs h (hr hm hl)
theorem AllOpsM.store (hs : kd k = 1) (h : Stores2 P l C R kd k o fr) (hr : AllOpsM P l le C R kd (k + 1) r fun σ => (fr σ).put o.dst (σ k)) : AllOpsM P l le C R kd k (o :: r) fr := fun hm hl => .store hs h (hr hm hl)
theorem AllOpsM.make (hs : kd k = 2) (h : Makes2 P l le C R k o fr) (hr : AllOpsM P l le C R kd (k + 1) r fun σ => (fr σ).put o.dst (σ k)) : AllOpsM P l le C R kd k (o :: r) fr := fun hm hl => .make hs h (hr hm hl)
theorem AllOpsM.still (hs : kd k = 0) (h : Still2 P l C R k o fr) (hr : AllOpsM P l le C R kd (k + 1) r fun σ => (fr σ).put o.dst (σ k)) : AllOpsM P l le C R kd k (o :: r) fr := fun hm hl =>
 .grow hs (fun L σ w hcl hL hC hw => (h L σ w hcl hL hC hw).mono fun v w' ⟨e, hR⟩ => by subst e; exact ⟨hm _ _ _ upd_false hC, hR, hl _⟩) (hr hm hl)

theorem wp_region2m {id : Nat} {Q : Exit → Act → World → Prop} {a : Act} {w : World} (le : World → World → Prop) (hle : ∀ w w', le w w' → w.heap.size ≤ w'.heap.size) (hrf : ∀ w, le w w) (C : (Nat → Bool) → World → Prop) (R : Nat → (Nat → Value) → World → Prop) (kd : Nat → Nat) (supp : Nat → List Nat)
  (hm : P.follows .mixedOrders = true) (hB : growB l supp = true)
  (hsupp : ∀ j (σ τ : Nat → Value) w, (∀ k ∈ supp j, σ k = τ k) → R j σ w → R j τ w)
  (hgrow : ∀ j σ w w', le w w' → R j σ w → R j σ w')
  (h0 : C (fun _ => false) w.drew) (hops : AllOpsM P l le C R kd 0 l fun _ => a) (hmn : MonoC C)
  (hend : ∀ σ L w', (∀ j, j < l.length → L j = true) → C L w' → (∀ j, j < l.length → R j σ w') → Q .normal (lexAll l 0 a σ) w') : (Code.region id l.toArray true).wp P Q a w :=
 wp_region2 le hle C R kd supp hm hB hsupp hgrow h0 (hops hmn hrf) hend
end

end Go.Proofs.YtiiaimjlohpemaaGreat

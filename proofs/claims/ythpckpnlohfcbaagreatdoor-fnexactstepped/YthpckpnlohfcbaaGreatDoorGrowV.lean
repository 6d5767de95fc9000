/-
 Regions that draw their order, with operations that leave the memory as it is told apart: what is known of the memory is not told again at each of them.
-/
import Derived.Test.YthpckpnlohfcbaaGreatDoorGrow2
namespace Go.Proofs.YthpckpnlohfcbaaGreatDoor
set_option linter.unusedSimpArgs false
set_option linter.unusedVariables false
open Go.RowKit
def MonoC (C : (Nat → Bool) → World → Prop) : Prop := ∀ (L L' : Nat → Bool) (w : World), (∀ j, L' j = false → L j = false) → C L w → C L' w
theorem upd_false {L : Nat → Bool} {k : Nat} : ∀ j, upd L k true j = false → L j = false := fun j h => by
 by_cases e : j = k
 · subst e; rw [upd_same] at h; cases h
 · rw [upd_ne _ _ e] at h; exact h
def Still2 (P : Program) (ops : List Oper) (C : (Nat → Bool) → World → Prop) (R : Nat → (Nat → Value) → World → Prop) (k : Nat) (o : Oper) (fr : (Nat → Value) → Act) : Prop :=
 ∀ (L : Nat → Bool) (σ : Nat → Value) (w : World), Closed ops L → L k = false → C L w → (∀ j, waits ops k j = true → R j σ w) → OpGoes P ops.toArray o (fr σ) w fun v w' => w' = w ∧ R k (upd σ k v) w
section
variable {P : Program} {l : List Oper} {le : World → World → Prop} {C : (Nat → Bool) → World → Prop} {R : Nat → (Nat → Value) → World → Prop} {kd : Nat → Nat} {k : Nat} {fr : (Nat → Value) → Act} {o : Oper} {r : List Oper}
def AllOpsM (P : Program) (l : List Oper) (le : World → World → Prop) (C : (Nat → Bool) → World → Prop) (R : Nat → (Nat → Value) → World → Prop) (kd : Nat → Nat) (k : Nat) (r : List Oper) (fr : (Nat → Value) → Act) : Prop := MonoC C → (∀ w, le w w) → AllOps2 P l le C R kd k r fr
theorem AllOpsM.nil : AllOpsM P l le C R kd k [] fr := fun _ _ => trivial
theorem AllOpsM.grow (hs : kd k = 0) (h : Grows2 P l le C R k o fr) (hr : AllOpsM P l le C R kd (k + 1) r fun σ => (fr σ).put o.dst (σ k)) : AllOpsM P l le C R kd k (o :: r) fr := fun hm hl => .grow hs h (hr hm hl)
theorem AllOpsM.store (hs : kd k = 1) (h : Stores2 P l C R kd k o fr) (hr : AllOpsM P l le C R kd (k + 1) r fun σ => (fr σ).put o.dst (σ k)) : AllOpsM P l le C R kd k (o :: r) fr := fun hm hl => .store hs h (hr hm hl)
theorem AllOpsM.make (hs : kd k = 2) (h : Makes2 P l le C R k o fr) (hr : AllOpsM P l le C R kd (k + 1) r fun σ => (fr σ).put o.dst (σ k)) : AllOpsM P l le C R kd k (o :: r) fr := fun hm hl => .make hs h (hr hm hl)
theorem AllOpsM.still (hs : kd k = 0) (h : Still2 P l C R k o fr) (hr : AllOpsM P l le C R kd (k + 1) r fun σ => (fr σ).put o.dst (σ k)) : AllOpsM P l le C R kd k (o :: r) fr := fun hm hl =>
 .grow hs (fun L σ w hcl hL hC hw => (h L σ w hcl hL hC hw).mono fun v w' ⟨e, hR⟩ => by subst e; exact ⟨hm _ _ _ upd_false hC, hR, hl _⟩) (hr hm hl)
theorem wp_region2m {id : Nat} {Q : Exit → Act → World → Prop} {a : Act} {w : World} (le : World → World → Prop) (hle : ∀ w w', le w w' → w.heap.size ≤ w'.heap.size) (hrf : ∀ w, le w w) (C : (Nat → Bool) → World → Prop) (R : Nat → (Nat → Value) → World → Prop) (kd : Nat → Nat) (supp : Nat → List Nat)
  (hm : P.follows .mixedOrders = true) (hB : growB l supp = true)
  (hsupp : ∀ j (σ τ : Nat → Value) w, (∀ k ∈ supp j, σ k = τ k) → R j σ w → R j τ w)
  (hgrow : ∀ j σ w w', le w w' → R j σ w → R j σ w')
  (h0 : C (fun _ => false) w.drew) (hops : AllOpsM P l le C R kd 0 l fun _ => a) (hmn : MonoC C)
  (hend : ∀ σ L w', (∀ j, j < l.length → L j = true) → C L w' → (∀ j, j < l.length → R j σ w') → Q .normal (lexAll l 0 a σ) w') : (Code.region id l.toArray true).wp P Q a w :=
 wp_region2 le hle C R kd supp hm hB hsupp hgrow h0 (hops hmn hrf) hend
end
end Go.Proofs.YthpckpnlohfcbaaGreatDoor
namespace Go.Proofs.YthpckpnlohfcbaaGreatDoor
set_option linter.unusedSimpArgs false
set_option linter.unusedVariables false
open Go.RowKit
inductive Sl where
 | v (x : Value)
 | e (p : (Nat → Value) → World → Prop)
def RV (V : List Sl) (j : Nat) (σ : Nat → Value) (w : World) : Prop :=
 match V[j]? with
 | some (.v x) => σ j = x
 | some (.e p) => p σ w
 | none => True
def AllE : Nat → List Sl → (Nat → ((Nat → Value) → World → Prop) → Prop) → Prop
 | _, [], _ => True
 | i, .v _ :: r, Φ => AllE (i + 1) r Φ
 | i, .e p :: r, Φ => Φ i p ∧ AllE (i + 1) r Φ
theorem AllE.get {Φ : Nat → ((Nat → Value) → World → Prop) → Prop} : ∀ {V : List Sl} {i : Nat}, AllE i V Φ → ∀ {j : Nat} {p : (Nat → Value) → World → Prop}, V[j]? = some (.e p) → Φ (i + j) p
 | [], _, _, _, _, h => by simp at h
 | .v _ :: r, i, H, 0, _, h => by simp at h
 | .e _ :: r, i, H, 0, _, h => by
  simp at h
  subst h
  exact H.1
 | .v _ :: r, i, H, j + 1, p, h => by
  have := AllE.get (V := r) (i := i + 1) H (j := j) (p := p) (by simpa using h)
  rwa [Nat.add_assoc, Nat.add_comm 1 j] at this
 | .e _ :: r, i, H, j + 1, p, h => by
  have := AllE.get (V := r) (i := i + 1) H.2 (j := j) (p := p) (by simpa using h)
  rwa [Nat.add_assoc, Nat.add_comm 1 j] at this
def SV (V : List Sl) (dv : List (Nat × Nat)) (j : Nat) : List Nat :=
 match V[j]? with
 | some (.v _) => [j]
 | _ => [(dv.lookup j).getD j]
section
variable {P : Program} {l : List Oper} {le : World → World → Prop} {C : (Nat → Bool) → World → Prop} {kd : Nat → Nat} {k : Nat} {σ : Nat → Value} {w w' : World} {V : List Sl}
theorem wV (hw : ∀ j, waits l k j = true → RV V j σ w) (j : Nat) {x : Value} (h : V[j]? = some (.v x)) (hj : waits l k j = true := by kernel_rfl) : σ j = x := by
 have := hw j hj
 unfold RV at this
 rw [h] at this
 exact this
theorem wT (hw : ∀ j, waits l k j = true → RV V j σ w) (j : Nat) {x : Value} (h : V[j]? = some (.v x)) (hj : waits l k j = true := by decide +kernel) : σ j = x := wV hw j h hj
theorem wE (hw : ∀ j, waits l k j = true → RV V j σ w) (j : Nat) {p : (Nat → Value) → World → Prop} (h : V[j]? = some (.e p)) (hj : waits l k j = true := by kernel_rfl) : p σ w := by
 have := hw j hj
 unfold RV at this
 rw [h] at this
 exact this
theorem dV (hw : ∀ j, j < l.length → RV V j σ w) (j : Nat) {x : Value} (h : V[j]? = some (.v x)) (hj : j < l.length := by decide) : σ j = x := by
 have := hw j hj
 unfold RV at this
 rw [h] at this
 exact this
theorem dE (hw : ∀ j, j < l.length → RV V j σ w) (j : Nat) {p : (Nat → Value) → World → Prop} (h : V[j]? = some (.e p)) (hj : j < l.length := by decide) : p σ w := by
 have := hw j hj
 unfold RV at this
 rw [h] at this
 exact this
theorem keepV (h : AllE 0 V fun i p => i ≠ k → waits l i k = false → p σ w → p σ w') : ∀ j, j ≠ k → waits l j k = false → RV V j σ w → RV V j σ w' := fun j hj hn hR => by
 unfold RV at hR ⊢
 cases e : V[j]? with
 | none => trivial
 | some s =>
  cases s with
  | v x => rw [e] at hR; exact hR
  | e p => rw [e] at hR; exact (by simpa using AllE.get h e : j ≠ k → waits l j k = false → p σ w → p σ w') hj hn hR
theorem wp_region2v {id : Nat} {Q : Exit → Act → World → Prop} {a : Act} {w : World} (le : World → World → Prop) (hle : ∀ w w', le w w' → w.heap.size ≤ w'.heap.size) (hrf : ∀ w, le w w) (C : (Nat → Bool) → World → Prop) (V : List Sl) (kd : Nat → Nat) (dv : List (Nat × Nat))
  (hm : P.follows .mixedOrders = true) (hB : growB l (SV V dv) = true)
  (hsupp : AllE 0 V fun i p => ∀ σ τ w, (∀ k ∈ [(dv.lookup i).getD i], σ k = τ k) → p σ w → p τ w)
  (hgrow : AllE 0 V fun _ p => ∀ σ w w', le w w' → p σ w → p σ w')
  (h0 : C (fun _ => false) w.drew) (hops : AllOpsM P l le C (RV V) kd 0 l fun _ => a) (hmn : MonoC C)
  (hend : ∀ σ L w', (∀ j, j < l.length → L j = true) → C L w' → (∀ j, j < l.length → RV V j σ w') → Q .normal (lexAll l 0 a σ) w') : (Code.region id l.toArray true).wp P Q a w := by
 refine wp_region2m le hle hrf C (RV V) kd (SV V dv) hm hB ?_ ?_ h0 hops hmn hend
 ·
  intro j σ τ w h hR
  unfold RV at hR ⊢
  unfold SV at h
  cases e : V[j]? with
  | none => trivial
  | some s =>
   cases s with
   | v x =>
    rw [e] at hR h
    exact (h j (List.mem_singleton.2 rfl)).symm.trans hR
   | e p =>
    rw [e] at hR h
    have := AllE.get hsupp e
    rw [Nat.zero_add] at this
    exact this σ τ w h hR
 ·
  intro j σ w w' hl hR
  unfold RV at hR ⊢
  cases e : V[j]? with
  | none => trivial
  | some s =>
   cases s with
   | v x => rw [e] at hR; exact hR
   | e p => rw [e] at hR; exact AllE.get hgrow e σ w w' hl hR
end
def findR (id : Nat) : Code → Option (List Oper)
 | .region i ops _ => if i = id then some ops.toList else none
 | .seq a b => match findR id a with
  | some x => some x
  | none => findR id b
 | .cond _ a b => match findR id a with
  | some x => some x
  | none => findR id b
 | .block _ b => findR id b
 | .loop b => findR id b
 | .rangeFunc _ _ a b => match findR id a with
  | some x => some x
  | none => findR id b
 | .scope b => findR id b
 | _ => none
end Go.Proofs.YthpckpnlohfcbaaGreatDoor

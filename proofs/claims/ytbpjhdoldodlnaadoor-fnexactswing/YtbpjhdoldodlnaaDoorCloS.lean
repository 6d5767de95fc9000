/-
  Swing of the program.
-/
import Derived.Test.YtbpjhdoldodlnaaDoorCloB
namespace Go.Proofs.YtbpjhdoldodlnaaDoor
open Go.RowKit
set_option linter.unusedVariables false
attribute [local go_sem] OpUpon
attribute [local go_sem ↓] Go.wp_at_zero Go.wp_at_succ

def swtrueNR (s : St) (X b n m M T N : Nat) (S_ Y_ : Nat) (seen y : Int) (a0 : Addr) (W0 : World) (j : Nat) (σ : Nat → Value) (w : World) : Prop :=
  match j with
  | 0 => σ 0 = .pointer (some ⟨X, 0, none⟩)
  | 1 => σ 1 = .pointer (some ⟨X, 0, none⟩)
  | 2 => σ 2 = .pointer (some ⟨X, 4, none⟩)
  | 3 => σ 3 = .int .i64 seen
  | 4 => σ 4 = .int .i64 y
  | 5 => ∃ (v : Value), σ 5 = v ∧ ChPost (swingC true seen y) s a0 N X M T (fun _ => True) W0 (.returned v) w
  | 6 => ∃ (v : Value), σ 6 = v ∧ ChPost (swingC true seen y) s a0 N X M T (fun _ => True) W0 (.returned v) w
  | _ => True

def swtrueNS (j : Nat) : List Nat := [[0], [1], [2], [3], [4], [5], [6]].getD j [j]
def swtrueNK (j : Nat) : Nat := [0, 0, 0, 0, 0, 1, 0].getD j 0

def swtrueYR (s : St) (X b n m M T N : Nat) (S_ Y_ : Nat) (seen y : Int) (a0 : Addr) (W0 : World) (j : Nat) (σ : Nat → Value) (w : World) : Prop :=
  match j with
  | 0 => σ 0 = .pointer (some ⟨X, 0, none⟩)
  | 1 => σ 1 = .pointer (some ⟨X, 0, none⟩)
  | 2 => σ 2 = .pointer (some ⟨X, 4, none⟩)
  | 3 => σ 3 = .int .i64 seen
  | 4 => σ 4 = .int .i64 y
  | 5 => ∃ (v : Value), σ 5 = v ∧ ChPost (swingC true seen y) s a0 N X M T (fun _ => True) W0 (.returned v) w
  | 6 => ∃ (v : Value), σ 6 = v ∧ ChPost (swingC true seen y) s a0 N X M T (fun _ => True) W0 (.returned v) w
  | _ => True

def swtrueYS (j : Nat) : List Nat := [[0], [1], [2], [3], [4], [5], [6]].getD j [j]
def swtrueYK (j : Nat) : Nat := [0, 0, 0, 0, 0, 1, 0].getD j 0

def swfalseNR (s : St) (X b n m M T N : Nat) (S_ Y_ : Nat) (seen y : Int) (a0 : Addr) (W0 : World) (j : Nat) (σ : Nat → Value) (w : World) : Prop :=
  match j with
  | 0 => σ 0 = .pointer (some ⟨X, 0, none⟩)
  | 1 => σ 1 = .pointer (some ⟨X, 0, none⟩)
  | 2 => σ 2 = .pointer (some ⟨X, 3, none⟩)
  | 3 => σ 3 = .int .i64 seen
  | 4 => σ 4 = .int .i64 y
  | 5 => ∃ (v : Value), σ 5 = v ∧ ChPost (swingC false seen y) s a0 N X M T (fun _ => True) W0 (.returned v) w
  | 6 => ∃ (v : Value), σ 6 = v ∧ ChPost (swingC false seen y) s a0 N X M T (fun _ => True) W0 (.returned v) w
  | _ => True

def swfalseNS (j : Nat) : List Nat := [[0], [1], [2], [3], [4], [5], [6]].getD j [j]
def swfalseNK (j : Nat) : Nat := [0, 0, 0, 0, 0, 1, 0].getD j 0

def swfalseYR (s : St) (X b n m M T N : Nat) (S_ Y_ : Nat) (seen y : Int) (a0 : Addr) (W0 : World) (j : Nat) (σ : Nat → Value) (w : World) : Prop :=
  match j with
  | 0 => σ 0 = .pointer (some ⟨X, 0, none⟩)
  | 1 => σ 1 = .pointer (some ⟨X, 0, none⟩)
  | 2 => σ 2 = .pointer (some ⟨X, 3, none⟩)
  | 3 => σ 3 = .int .i64 seen
  | 4 => σ 4 = .int .i64 y
  | 5 => ∃ (v : Value), σ 5 = v ∧ ChPost (swingC false seen y) s a0 N X M T (fun _ => True) W0 (.returned v) w
  | 6 => ∃ (v : Value), σ 6 = v ∧ ChPost (swingC false seen y) s a0 N X M T (fun _ => True) W0 (.returned v) w
  | _ => True

def swfalseYS (j : Nat) : List Nat := [[0], [1], [2], [3], [4], [5], [6]].getD j [j]
def swfalseYK (j : Nat) : Nat := [0, 0, 0, 0, 0, 1, 0].getD j 0

set_option maxRecDepth 100000 in
set_option maxHeartbeats 4000000 in
theorem iswing1_true (s : St) (seen y : Int) (n L_ S_ Y_ B : Nat) (a0 aN : Addr) (T : Nat) (w : World) (hL0 : BoxAt w L_ #[.bool true] 4) (hS0 : BoxAt w S_ #[.int .i64 seen] 2) (hY0 : BoxAt w Y_ #[.int .i64 y] 2) (hSN : Sent B w 5 aN) (hNN : aN ≠ a0) (hBw : B ≤ w.heap.size) :
    Changes (swingC true seen y) s n a0 T (fun _ => True) 60 [.pointer (some ⟨L_, 0, none⟩), .pointer (some ⟨S_, 0, none⟩), .pointer (some ⟨Y_, 0, none⟩)] w := by
  intro W X b m M hbb hNM hMX hXW hX hRg
  have HLN := Lib.hid hRg.1
  obtain ⟨N, hN⟩ : ∃ N, N = w.heap.size := ⟨_, rfl⟩
  have hN1 : w.heap.size ≤ N := by omega
  have hNw : N ≤ w.heap.size := by omega
  have HN := Lib.hid hN
  have hMW : M ≤ W.heap.size := by omega
  replace hbb : Below N w W := hbb.mono (by omega)
  have hRg0 := hRg
  replace hRg : RgsD M X W (some ⟨b, 0, none⟩) n m s.rs ∧ X ≤ W.heap.size := ⟨hRg, by omega⟩
  have hti : Till M T W W := .refl _ _ _
  unfold sC at hX
  clear hN
  have hL1 := hL0.below hbb (by have := hL0.lt; omega)
  have hS1 := hS0.below hbb (by have := hS0.lt; omega)
  have hY1 := hY0.below hbb (by have := hY0.lt; omega)
  clear hL0 hS0 hY0
  show Calls Tryd.prog 60 #[.pointer (some ⟨X, 0, none⟩), .pointer (some ⟨L_, 0, none⟩), .pointer (some ⟨S_, 0, none⟩), .pointer (some ⟨Y_, 0, none⟩)] W _
  have k1 := hL1.cell
  cases hne : (s.la != seen)
  · have HEQ := Lib.hid (show s.la = seen by simpa using hne)
    have HCY := Lib.hid (show swingC true seen y s = some { s with la := y } by simp [swingC, hne])
    go_enter Tryd.func60, Tryd.ntmps60
    go_upto_region 2 with fail
    clear k1 hne
    refine wp_region2 (fun w w' => w = w') (fun _ _ h => Nat.le_of_eq (by rw [h])) (fun L W' => (L 5 = false → Below N w W') ∧ (L 5 = false → BoxAt W' X #[.int .i64 s.rd, .int .i64 s.mo, .slice (some ⟨b, 0, none⟩) n m, .int .i64 s.fi, .int .i64 s.la] 28) ∧ (L 5 = false → (RgsD M X W' (some ⟨b, 0, none⟩) n m s.rs ∧ X ≤ W'.heap.size)) ∧ (L 5 = false → Till M T W W') ∧ (L 5 = false → BoxAt W' S_ #[.int .i64 seen] 2) ∧ (L 5 = false → BoxAt W' Y_ #[.int .i64 y] 2)) (swtrueYR s X b n m M T N S_ Y_ seen y a0 W) swtrueYK swtrueYS (by kernel_rfl) (by kernel_rfl) ?_ ?_ ?_
      (.grow rfl ?_ <| .grow rfl ?_ <| .grow rfl ?_ <| .grow rfl ?_ <| .grow rfl ?_ <| .store rfl ?_ <| .grow rfl ?_ <| .nil) ?_
    · intro j σ τ w h hR
      match j, h, hR with
      | 0, h, hR => exact (h 0 (List.mem_singleton.2 rfl)).symm.trans hR
      | 1, h, hR => exact (h 1 (List.mem_singleton.2 rfl)).symm.trans hR
      | 2, h, hR => exact (h 2 (List.mem_singleton.2 rfl)).symm.trans hR
      | 3, h, hR => exact (h 3 (List.mem_singleton.2 rfl)).symm.trans hR
      | 4, h, hR => exact (h 4 (List.mem_singleton.2 rfl)).symm.trans hR
      | 5, h, hR => obtain ⟨v, e, hp⟩ := hR; exact ⟨v, (h 5 (List.mem_singleton.2 rfl)).symm.trans e, hp⟩
      | 6, h, hR => obtain ⟨v, e, hp⟩ := hR; exact ⟨v, (h 6 (List.mem_singleton.2 rfl)).symm.trans e, hp⟩
      | _ + 7, _, _ => exact trivial
    · intro j σ w w' hb hR
      match j, hR with
      | 0, hR => exact hR
      | 1, hR => exact hR
      | 2, hR => exact hR
      | 3, hR => exact hR
      | 4, hR => exact hR
      | 5, hR => obtain ⟨v, e, hp⟩ := hR; exact ⟨v, e, hb ▸ hp⟩
      | 6, hR => obtain ⟨v, e, hp⟩ := hR; exact ⟨v, e, hb ▸ hp⟩
      | _ + 7, _ => exact trivial
    · exact ⟨fun _ => hbb.drew, fun _ => hX, fun _ => hRg, fun _ => hti.drewN _, fun _ => hS1, fun _ => hY1⟩
    · -- 0: Op.move t0
      go_light
      intro L σ W' hcl hL hC hw
      clear hw
      have HC := Lib.hid hC
      clear hC
      clear hcl hL
      refine OpGoes.step fun K hK => ?_
      unfold OpGoes
      go_simp
      obtain ⟨hbb, hX, hRg, hti, hS1, hY1⟩ := HC.out
      exact hK _ _ ⟨⟨fun h => (hbb (by simpa [upd] using h)), fun h => (hX (by simpa [upd] using h)), fun h => (hRg (by simpa [upd] using h)), fun h => (hti (by simpa [upd] using h)), fun h => (hS1 (by simpa [upd] using h)), fun h => (hY1 (by simpa [upd] using h))⟩, rfl, rfl⟩
    · -- 1: Op.nilCheck t7
      go_light
      intro L σ W' hcl hL hC hw
      have e0 : σ 0 = .pointer (some ⟨X, 0, none⟩) := hw 0 (by kernel_rfl)
      clear hw
      have HC := Lib.hid hC
      clear hC
      clear hcl hL
      refine OpGoes.step fun K hK => ?_
      unfold OpGoes
      go_simp
      obtain ⟨hbb, hX, hRg, hti, hS1, hY1⟩ := HC.out
      exact hK _ _ ⟨⟨fun h => (hbb (by simpa [upd] using h)), fun h => (hX (by simpa [upd] using h)), fun h => (hRg (by simpa [upd] using h)), fun h => (hti (by simpa [upd] using h)), fun h => (hS1 (by simpa [upd] using h)), fun h => (hY1 (by simpa [upd] using h))⟩, rfl, rfl⟩
    · -- 2: Op.fieldAddr 28 t8 4
      go_light
      intro L σ W' hcl hL hC hw
      have e1 : σ 1 = .pointer (some ⟨X, 0, none⟩) := hw 1 (by kernel_rfl)
      clear hw
      have HC := Lib.hid hC
      clear hC
      clear hcl hL
      refine OpGoes.step fun K hK => ?_
      unfold OpGoes
      go_simp
      obtain ⟨hbb, hX, hRg, hti, hS1, hY1⟩ := HC.out
      exact hK _ _ ⟨⟨fun h => (hbb (by simpa [upd] using h)), fun h => (hX (by simpa [upd] using h)), fun h => (hRg (by simpa [upd] using h)), fun h => (hti (by simpa [upd] using h)), fun h => (hS1 (by simpa [upd] using h)), fun h => (hY1 (by simpa [upd] using h))⟩, rfl, rfl⟩
    · -- 3: Op.load 2 t2
      go_light
      intro L σ W' hcl hL hC hw
      clear hw
      have HC := Lib.hid hC
      obtain ⟨hbb, hX, hRg, hti, hS1, hY1⟩ := hC
      have h_ := (hS1 (hcl.not (j := 5) (k := 3) (by kernel_rfl) hL))
      have k_ := h_.cell
      clear hcl hL
      clear hbb hX hRg hti hS1 hY1
      refine OpGoes.step fun K hK => ?_
      unfold OpGoes
      go_simp
      obtain ⟨hbb, hX, hRg, hti, hS1, hY1⟩ := HC.out
      exact hK _ _ ⟨⟨fun h => (hbb (by simpa [upd] using h)), fun h => (hX (by simpa [upd] using h)), fun h => (hRg (by simpa [upd] using h)), fun h => (hti (by simpa [upd] using h)), fun h => (hS1 (by simpa [upd] using h)), fun h => (hY1 (by simpa [upd] using h))⟩, rfl, rfl⟩
    · -- 4: Op.load 2 t3
      go_light
      intro L σ W' hcl hL hC hw
      clear hw
      have HC := Lib.hid hC
      obtain ⟨hbb, hX, hRg, hti, hS1, hY1⟩ := hC
      have h_ := (hY1 (hcl.not (j := 5) (k := 4) (by kernel_rfl) hL))
      have k_ := h_.cell
      clear hcl hL
      clear hbb hX hRg hti hS1 hY1
      refine OpGoes.step fun K hK => ?_
      unfold OpGoes
      go_simp
      obtain ⟨hbb, hX, hRg, hti, hS1, hY1⟩ := HC.out
      exact hK _ _ ⟨⟨fun h => (hbb (by simpa [upd] using h)), fun h => (hX (by simpa [upd] using h)), fun h => (hRg (by simpa [upd] using h)), fun h => (hti (by simpa [upd] using h)), fun h => (hS1 (by simpa [upd] using h)), fun h => (hY1 (by simpa [upd] using h))⟩, rfl, rfl⟩
    · -- 5: Op.call { value (Operand.func 53), args := #[t9, t10, t11], argTypes := #[60, 2, 2] }
      go_light
      intro L σ W' hcl hL hC hw hne
      have e2 : σ 2 = .pointer (some ⟨X, 4, none⟩) := hw 2 (by kernel_rfl)
      have e3 : σ 3 = .int .i64 seen := hw 3 (by kernel_rfl)
      have e4 : σ 4 = .int .i64 y := hw 4 (by kernel_rfl)
      clear hw hne
      obtain ⟨hbb, hX, hRg, hti, hS1, hY1⟩ := hC
      have hb7 := (hbb hL)
      have hX7 := (hX hL)
      have hRg7 := (hRg hL)
      have hti7 := (hti hL)
      have kX7 := hX7.cell
      have fX7 := hX7.frozen
      clear hcl hL
      refine OpGoes.step fun K hK => ?_
      unfold OpGoes
      go_simp
      refine (ichangeSeen_yes X 4 seen y _ (by rw [kX7 4, ← HEQ.out]; rfl) (fX7 _)).mono ?_
      rintro e w1 ⟨rfl, rfl⟩
      have hpost := ChPost.mkYes (c := swingC true seen y) (s := s) (a0 := a0) (B := N) (X := X) (M := M) (T := T) (K := fun _ => True) HCY.out (hti7.set (.inl hMX) _ _) trivial (t := { s with la := y }) (b := b) (n := n) (cap := m) (by have := hX7.set 4 (.int .i64 y); simpa [sC] using this) ((hRg7.1.setD (.inr (Nat.le_refl X)) _ _).mono (Nat.le_refl _) (by simp; exact hRg7.2))
      refine ⟨_, rfl, hK _ _ ⟨⟨fun h => absurd h (by simp [upd]), fun h => absurd h (by simp [upd]), fun h => absurd h (by simp [upd]), fun h => absurd h (by simp [upd]), fun h => absurd h (by simp [upd]), fun h => absurd h (by simp [upd])⟩, ⟨_, rfl, hpost⟩, (by first | exact hsz | simp), fun j hj hn hR => ?_⟩⟩
      match j, hj, hn, hR with
      | 0, _, _, hR => exact (show σ 0 = .pointer (some ⟨X, 0, none⟩) from hR)
      | 1, _, _, hR => exact (show σ 1 = .pointer (some ⟨X, 0, none⟩) from hR)
      | 2, _, _, hR => exact (show σ 2 = .pointer (some ⟨X, 4, none⟩) from hR)
      | 3, _, _, hR => exact (show σ 3 = .int .i64 seen from hR)
      | 4, _, _, hR => exact (show σ 4 = .int .i64 y from hR)
      | 5, hj, _, _ => exact absurd rfl hj
      | 6, _, hn, _ => exact absurd (hn.symm.trans (show waits _ _ _ = true by kernel_rfl)) (by decide)
      | _ + 7, _, _, _ => exact trivial
    · -- 6: Op.assign t12
      go_light
      intro L σ W' hcl hL hC hw
      obtain ⟨v, e5, hp5⟩ : ∃ (v : Value), σ 5 = v ∧ ChPost (swingC true seen y) s a0 N X M T (fun _ => True) W (.returned v) W' := hw 5 (by kernel_rfl)
      clear hw
      have HC := Lib.hid hC
      clear hC
      clear hcl hL
      refine OpGoes.step fun K hK => ?_
      unfold OpGoes
      go_simp
      obtain ⟨hbb, hX, hRg, hti, hS1, hY1⟩ := HC.out
      exact hK _ _ ⟨⟨fun h => (hbb (by simpa [upd] using h)), fun h => (hX (by simpa [upd] using h)), fun h => (hRg (by simpa [upd] using h)), fun h => (hti (by simpa [upd] using h)), fun h => (hS1 (by simpa [upd] using h)), fun h => (hY1 (by simpa [upd] using h))⟩, ⟨v, rfl, hp5⟩, rfl⟩
    · intro σ L W' hall hC hR
      obtain ⟨hbb, hX, hRg, hti, hS1, hY1⟩ := hC
      obtain ⟨v, e6, hp6⟩ : ∃ (v : Value), σ 6 = v ∧ ChPost (swingC true seen y) s a0 N X M T (fun _ => True) W (.returned v) W' := hR 6 (by decide)
      clear hR
      simp only [lexAll]
      go_simp
      go_step
      go_wp2
      go_ret
      rw [← HN.out]
      exact hp6

  · have HNE := Lib.hid hne
    have HCN := Lib.hid (show swingC true seen y s = none by simp [swingC, hne])
    go_enter Tryd.func60, Tryd.ntmps60
    go_upto_region 2 with fail
    clear k1 hne
    refine wp_region2 (fun w w' => w = w') (fun _ _ h => Nat.le_of_eq (by rw [h])) (fun L W' => (L 5 = false → Below N w W') ∧ (L 5 = false → BoxAt W' X #[.int .i64 s.rd, .int .i64 s.mo, .slice (some ⟨b, 0, none⟩) n m, .int .i64 s.fi, .int .i64 s.la] 28) ∧ (L 5 = false → (RgsD M X W' (some ⟨b, 0, none⟩) n m s.rs ∧ X ≤ W'.heap.size)) ∧ (L 5 = false → Till M T W W') ∧ (L 5 = false → BoxAt W' S_ #[.int .i64 seen] 2) ∧ (L 5 = false → BoxAt W' Y_ #[.int .i64 y] 2)) (swtrueNR s X b n m M T N S_ Y_ seen y a0 W) swtrueNK swtrueNS (by kernel_rfl) (by kernel_rfl) ?_ ?_ ?_
      (.grow rfl ?_ <| .grow rfl ?_ <| .grow rfl ?_ <| .grow rfl ?_ <| .grow rfl ?_ <| .store rfl ?_ <| .grow rfl ?_ <| .nil) ?_
    · intro j σ τ w h hR
      match j, h, hR with
      | 0, h, hR => exact (h 0 (List.mem_singleton.2 rfl)).symm.trans hR
      | 1, h, hR => exact (h 1 (List.mem_singleton.2 rfl)).symm.trans hR
      | 2, h, hR => exact (h 2 (List.mem_singleton.2 rfl)).symm.trans hR
      | 3, h, hR => exact (h 3 (List.mem_singleton.2 rfl)).symm.trans hR
      | 4, h, hR => exact (h 4 (List.mem_singleton.2 rfl)).symm.trans hR
      | 5, h, hR => obtain ⟨v, e, hp⟩ := hR; exact ⟨v, (h 5 (List.mem_singleton.2 rfl)).symm.trans e, hp⟩
      | 6, h, hR => obtain ⟨v, e, hp⟩ := hR; exact ⟨v, (h 6 (List.mem_singleton.2 rfl)).symm.trans e, hp⟩
      | _ + 7, _, _ => exact trivial
    · intro j σ w w' hb hR
      match j, hR with
      | 0, hR => exact hR
      | 1, hR => exact hR
      | 2, hR => exact hR
      | 3, hR => exact hR
      | 4, hR => exact hR
      | 5, hR => obtain ⟨v, e, hp⟩ := hR; exact ⟨v, e, hb ▸ hp⟩
      | 6, hR => obtain ⟨v, e, hp⟩ := hR; exact ⟨v, e, hb ▸ hp⟩
      | _ + 7, _ => exact trivial
    · exact ⟨fun _ => hbb.drew, fun _ => hX, fun _ => hRg, fun _ => hti.drewN _, fun _ => hS1, fun _ => hY1⟩
    · -- 0: Op.move t0
      go_light
      intro L σ W' hcl hL hC hw
      clear hw
      have HC := Lib.hid hC
      clear hC
      clear hcl hL
      refine OpGoes.step fun K hK => ?_
      unfold OpGoes
      go_simp
      obtain ⟨hbb, hX, hRg, hti, hS1, hY1⟩ := HC.out
      exact hK _ _ ⟨⟨fun h => (hbb (by simpa [upd] using h)), fun h => (hX (by simpa [upd] using h)), fun h => (hRg (by simpa [upd] using h)), fun h => (hti (by simpa [upd] using h)), fun h => (hS1 (by simpa [upd] using h)), fun h => (hY1 (by simpa [upd] using h))⟩, rfl, rfl⟩
    · -- 1: Op.nilCheck t7
      go_light
      intro L σ W' hcl hL hC hw
      have e0 : σ 0 = .pointer (some ⟨X, 0, none⟩) := hw 0 (by kernel_rfl)
      clear hw
      have HC := Lib.hid hC
      clear hC
      clear hcl hL
      refine OpGoes.step fun K hK => ?_
      unfold OpGoes
      go_simp
      obtain ⟨hbb, hX, hRg, hti, hS1, hY1⟩ := HC.out
      exact hK _ _ ⟨⟨fun h => (hbb (by simpa [upd] using h)), fun h => (hX (by simpa [upd] using h)), fun h => (hRg (by simpa [upd] using h)), fun h => (hti (by simpa [upd] using h)), fun h => (hS1 (by simpa [upd] using h)), fun h => (hY1 (by simpa [upd] using h))⟩, rfl, rfl⟩
    · -- 2: Op.fieldAddr 28 t8 4
      go_light
      intro L σ W' hcl hL hC hw
      have e1 : σ 1 = .pointer (some ⟨X, 0, none⟩) := hw 1 (by kernel_rfl)
      clear hw
      have HC := Lib.hid hC
      clear hC
      clear hcl hL
      refine OpGoes.step fun K hK => ?_
      unfold OpGoes
      go_simp
      obtain ⟨hbb, hX, hRg, hti, hS1, hY1⟩ := HC.out
      exact hK _ _ ⟨⟨fun h => (hbb (by simpa [upd] using h)), fun h => (hX (by simpa [upd] using h)), fun h => (hRg (by simpa [upd] using h)), fun h => (hti (by simpa [upd] using h)), fun h => (hS1 (by simpa [upd] using h)), fun h => (hY1 (by simpa [upd] using h))⟩, rfl, rfl⟩
    · -- 3: Op.load 2 t2
      go_light
      intro L σ W' hcl hL hC hw
      clear hw
      have HC := Lib.hid hC
      obtain ⟨hbb, hX, hRg, hti, hS1, hY1⟩ := hC
      have h_ := (hS1 (hcl.not (j := 5) (k := 3) (by kernel_rfl) hL))
      have k_ := h_.cell
      clear hcl hL
      clear hbb hX hRg hti hS1 hY1
      refine OpGoes.step fun K hK => ?_
      unfold OpGoes
      go_simp
      obtain ⟨hbb, hX, hRg, hti, hS1, hY1⟩ := HC.out
      exact hK _ _ ⟨⟨fun h => (hbb (by simpa [upd] using h)), fun h => (hX (by simpa [upd] using h)), fun h => (hRg (by simpa [upd] using h)), fun h => (hti (by simpa [upd] using h)), fun h => (hS1 (by simpa [upd] using h)), fun h => (hY1 (by simpa [upd] using h))⟩, rfl, rfl⟩
    · -- 4: Op.load 2 t3
      go_light
      intro L σ W' hcl hL hC hw
      clear hw
      have HC := Lib.hid hC
      obtain ⟨hbb, hX, hRg, hti, hS1, hY1⟩ := hC
      have h_ := (hY1 (hcl.not (j := 5) (k := 4) (by kernel_rfl) hL))
      have k_ := h_.cell
      clear hcl hL
      clear hbb hX hRg hti hS1 hY1
      refine OpGoes.step fun K hK => ?_
      unfold OpGoes
      go_simp
      obtain ⟨hbb, hX, hRg, hti, hS1, hY1⟩ := HC.out
      exact hK _ _ ⟨⟨fun h => (hbb (by simpa [upd] using h)), fun h => (hX (by simpa [upd] using h)), fun h => (hRg (by simpa [upd] using h)), fun h => (hti (by simpa [upd] using h)), fun h => (hS1 (by simpa [upd] using h)), fun h => (hY1 (by simpa [upd] using h))⟩, rfl, rfl⟩
    · -- 5: Op.call { value (Operand.func 53), args := #[t9, t10, t11], argTypes := #[60, 2, 2] }
      go_light
      intro L σ W' hcl hL hC hw hne
      have e2 : σ 2 = .pointer (some ⟨X, 4, none⟩) := hw 2 (by kernel_rfl)
      have e3 : σ 3 = .int .i64 seen := hw 3 (by kernel_rfl)
      have e4 : σ 4 = .int .i64 y := hw 4 (by kernel_rfl)
      clear hw hne
      obtain ⟨hbb, hX, hRg, hti, hS1, hY1⟩ := hC
      have hb7 := (hbb hL)
      have hX7 := (hX hL)
      have hRg7 := (hRg hL)
      have hti7 := (hti hL)
      have kX7 := hX7.cell
      have fX7 := hX7.frozen
      have hg7 := hSN.keep (W' := W') (fun j hj => hb7.block j (by omega))
      clear hcl hL
      refine OpGoes.step fun K hK => ?_
      unfold OpGoes
      go_simp
      refine (ichangeSeen_no X 4 s.la seen y aN _ (kX7 4) hg7.2.2.1 HNE.out).mono ?_
      rintro e w1 ⟨rfl, rfl⟩
      have hpost := ChPost.mkNo (c := swingC true seen y) (s := s) (a0 := a0) (B := N) (X := X) (K := fun _ => True) HCN.out hti7 hNN (by have := hg7.2.1; omega) hg7.2.2.2
      have hsz := Nat.le_refl w1.heap.size
      refine ⟨_, rfl, hK _ _ ⟨⟨fun h => absurd h (by simp [upd]), fun h => absurd h (by simp [upd]), fun h => absurd h (by simp [upd]), fun h => absurd h (by simp [upd]), fun h => absurd h (by simp [upd]), fun h => absurd h (by simp [upd])⟩, ⟨_, rfl, hpost⟩, (by first | exact hsz | simp), fun j hj hn hR => ?_⟩⟩
      match j, hj, hn, hR with
      | 0, _, _, hR => exact (show σ 0 = .pointer (some ⟨X, 0, none⟩) from hR)
      | 1, _, _, hR => exact (show σ 1 = .pointer (some ⟨X, 0, none⟩) from hR)
      | 2, _, _, hR => exact (show σ 2 = .pointer (some ⟨X, 4, none⟩) from hR)
      | 3, _, _, hR => exact (show σ 3 = .int .i64 seen from hR)
      | 4, _, _, hR => exact (show σ 4 = .int .i64 y from hR)
      | 5, hj, _, _ => exact absurd rfl hj
      | 6, _, hn, _ => exact absurd (hn.symm.trans (show waits _ _ _ = true by kernel_rfl)) (by decide)
      | _ + 7, _, _, _ => exact trivial
    · -- 6: Op.assign t12
      go_light
      intro L σ W' hcl hL hC hw
      obtain ⟨v, e5, hp5⟩ : ∃ (v : Value), σ 5 = v ∧ ChPost (swingC true seen y) s a0 N X M T (fun _ => True) W (.returned v) W' := hw 5 (by kernel_rfl)
      clear hw
      have HC := Lib.hid hC
      clear hC
      clear hcl hL
      refine OpGoes.step fun K hK => ?_
      unfold OpGoes
      go_simp
      obtain ⟨hbb, hX, hRg, hti, hS1, hY1⟩ := HC.out
      exact hK _ _ ⟨⟨fun h => (hbb (by simpa [upd] using h)), fun h => (hX (by simpa [upd] using h)), fun h => (hRg (by simpa [upd] using h)), fun h => (hti (by simpa [upd] using h)), fun h => (hS1 (by simpa [upd] using h)), fun h => (hY1 (by simpa [upd] using h))⟩, ⟨v, rfl, hp5⟩, rfl⟩
    · intro σ L W' hall hC hR
      obtain ⟨hbb, hX, hRg, hti, hS1, hY1⟩ := hC
      obtain ⟨v, e6, hp6⟩ : ∃ (v : Value), σ 6 = v ∧ ChPost (swingC true seen y) s a0 N X M T (fun _ => True) W (.returned v) W' := hR 6 (by decide)
      clear hR
      simp only [lexAll]
      go_simp
      go_step
      go_wp2
      go_ret
      rw [← HN.out]
      exact hp6


set_option maxRecDepth 100000 in
set_option maxHeartbeats 4000000 in
theorem iswing1_false (s : St) (seen y : Int) (n L_ S_ Y_ B : Nat) (a0 aN : Addr) (T : Nat) (w : World) (hL0 : BoxAt w L_ #[.bool false] 4) (hS0 : BoxAt w S_ #[.int .i64 seen] 2) (hY0 : BoxAt w Y_ #[.int .i64 y] 2) (hSN : Sent B w 5 aN) (hNN : aN ≠ a0) (hBw : B ≤ w.heap.size) :
    Changes (swingC false seen y) s n a0 T (fun _ => True) 60 [.pointer (some ⟨L_, 0, none⟩), .pointer (some ⟨S_, 0, none⟩), .pointer (some ⟨Y_, 0, none⟩)] w := by
  intro W X b m M hbb hNM hMX hXW hX hRg
  have HLN := Lib.hid hRg.1
  obtain ⟨N, hN⟩ : ∃ N, N = w.heap.size := ⟨_, rfl⟩
  have hN1 : w.heap.size ≤ N := by omega
  have hNw : N ≤ w.heap.size := by omega
  have HN := Lib.hid hN
  have hMW : M ≤ W.heap.size := by omega
  replace hbb : Below N w W := hbb.mono (by omega)
  have hRg0 := hRg
  replace hRg : RgsD M X W (some ⟨b, 0, none⟩) n m s.rs ∧ X ≤ W.heap.size := ⟨hRg, by omega⟩
  have hti : Till M T W W := .refl _ _ _
  unfold sC at hX
  clear hN
  have hL1 := hL0.below hbb (by have := hL0.lt; omega)
  have hS1 := hS0.below hbb (by have := hS0.lt; omega)
  have hY1 := hY0.below hbb (by have := hY0.lt; omega)
  clear hL0 hS0 hY0
  show Calls Tryd.prog 60 #[.pointer (some ⟨X, 0, none⟩), .pointer (some ⟨L_, 0, none⟩), .pointer (some ⟨S_, 0, none⟩), .pointer (some ⟨Y_, 0, none⟩)] W _
  have k1 := hL1.cell
  cases hne : (s.fi != seen)
  · have HEQ := Lib.hid (show s.fi = seen by simpa using hne)
    have HCY := Lib.hid (show swingC false seen y s = some { s with fi := y } by simp [swingC, hne])
    go_enter Tryd.func60, Tryd.ntmps60
    go_upto_region 3 with fail
    clear k1 hne
    refine wp_region2 (fun w w' => w = w') (fun _ _ h => Nat.le_of_eq (by rw [h])) (fun L W' => (L 5 = false → Below N w W') ∧ (L 5 = false → BoxAt W' X #[.int .i64 s.rd, .int .i64 s.mo, .slice (some ⟨b, 0, none⟩) n m, .int .i64 s.fi, .int .i64 s.la] 28) ∧ (L 5 = false → (RgsD M X W' (some ⟨b, 0, none⟩) n m s.rs ∧ X ≤ W'.heap.size)) ∧ (L 5 = false → Till M T W W') ∧ (L 5 = false → BoxAt W' S_ #[.int .i64 seen] 2) ∧ (L 5 = false → BoxAt W' Y_ #[.int .i64 y] 2)) (swfalseYR s X b n m M T N S_ Y_ seen y a0 W) swfalseYK swfalseYS (by kernel_rfl) (by kernel_rfl) ?_ ?_ ?_
      (.grow rfl ?_ <| .grow rfl ?_ <| .grow rfl ?_ <| .grow rfl ?_ <| .grow rfl ?_ <| .store rfl ?_ <| .grow rfl ?_ <| .nil) ?_
    · intro j σ τ w h hR
      match j, h, hR with
      | 0, h, hR => exact (h 0 (List.mem_singleton.2 rfl)).symm.trans hR
      | 1, h, hR => exact (h 1 (List.mem_singleton.2 rfl)).symm.trans hR
      | 2, h, hR => exact (h 2 (List.mem_singleton.2 rfl)).symm.trans hR
      | 3, h, hR => exact (h 3 (List.mem_singleton.2 rfl)).symm.trans hR
      | 4, h, hR => exact (h 4 (List.mem_singleton.2 rfl)).symm.trans hR
      | 5, h, hR => obtain ⟨v, e, hp⟩ := hR; exact ⟨v, (h 5 (List.mem_singleton.2 rfl)).symm.trans e, hp⟩
      | 6, h, hR => obtain ⟨v, e, hp⟩ := hR; exact ⟨v, (h 6 (List.mem_singleton.2 rfl)).symm.trans e, hp⟩
      | _ + 7, _, _ => exact trivial
    · intro j σ w w' hb hR
      match j, hR with
      | 0, hR => exact hR
      | 1, hR => exact hR
      | 2, hR => exact hR
      | 3, hR => exact hR
      | 4, hR => exact hR
      | 5, hR => obtain ⟨v, e, hp⟩ := hR; exact ⟨v, e, hb ▸ hp⟩
      | 6, hR => obtain ⟨v, e, hp⟩ := hR; exact ⟨v, e, hb ▸ hp⟩
      | _ + 7, _ => exact trivial
    · exact ⟨fun _ => hbb.drew, fun _ => hX, fun _ => hRg, fun _ => hti.drewN _, fun _ => hS1, fun _ => hY1⟩
    · -- 0: Op.move t0
      go_light
      intro L σ W' hcl hL hC hw
      clear hw
      have HC := Lib.hid hC
      clear hC
      clear hcl hL
      refine OpGoes.step fun K hK => ?_
      unfold OpGoes
      go_simp
      obtain ⟨hbb, hX, hRg, hti, hS1, hY1⟩ := HC.out
      exact hK _ _ ⟨⟨fun h => (hbb (by simpa [upd] using h)), fun h => (hX (by simpa [upd] using h)), fun h => (hRg (by simpa [upd] using h)), fun h => (hti (by simpa [upd] using h)), fun h => (hS1 (by simpa [upd] using h)), fun h => (hY1 (by simpa [upd] using h))⟩, rfl, rfl⟩
    · -- 1: Op.nilCheck t13
      go_light
      intro L σ W' hcl hL hC hw
      have e0 : σ 0 = .pointer (some ⟨X, 0, none⟩) := hw 0 (by kernel_rfl)
      clear hw
      have HC := Lib.hid hC
      clear hC
      clear hcl hL
      refine OpGoes.step fun K hK => ?_
      unfold OpGoes
      go_simp
      obtain ⟨hbb, hX, hRg, hti, hS1, hY1⟩ := HC.out
      exact hK _ _ ⟨⟨fun h => (hbb (by simpa [upd] using h)), fun h => (hX (by simpa [upd] using h)), fun h => (hRg (by simpa [upd] using h)), fun h => (hti (by simpa [upd] using h)), fun h => (hS1 (by simpa [upd] using h)), fun h => (hY1 (by simpa [upd] using h))⟩, rfl, rfl⟩
    · -- 2: Op.fieldAddr 28 t14 3
      go_light
      intro L σ W' hcl hL hC hw
      have e1 : σ 1 = .pointer (some ⟨X, 0, none⟩) := hw 1 (by kernel_rfl)
      clear hw
      have HC := Lib.hid hC
      clear hC
      clear hcl hL
      refine OpGoes.step fun K hK => ?_
      unfold OpGoes
      go_simp
      obtain ⟨hbb, hX, hRg, hti, hS1, hY1⟩ := HC.out
      exact hK _ _ ⟨⟨fun h => (hbb (by simpa [upd] using h)), fun h => (hX (by simpa [upd] using h)), fun h => (hRg (by simpa [upd] using h)), fun h => (hti (by simpa [upd] using h)), fun h => (hS1 (by simpa [upd] using h)), fun h => (hY1 (by simpa [upd] using h))⟩, rfl, rfl⟩
    · -- 3: Op.load 2 t2
      go_light
      intro L σ W' hcl hL hC hw
      clear hw
      have HC := Lib.hid hC
      obtain ⟨hbb, hX, hRg, hti, hS1, hY1⟩ := hC
      have h_ := (hS1 (hcl.not (j := 5) (k := 3) (by kernel_rfl) hL))
      have k_ := h_.cell
      clear hcl hL
      clear hbb hX hRg hti hS1 hY1
      refine OpGoes.step fun K hK => ?_
      unfold OpGoes
      go_simp
      obtain ⟨hbb, hX, hRg, hti, hS1, hY1⟩ := HC.out
      exact hK _ _ ⟨⟨fun h => (hbb (by simpa [upd] using h)), fun h => (hX (by simpa [upd] using h)), fun h => (hRg (by simpa [upd] using h)), fun h => (hti (by simpa [upd] using h)), fun h => (hS1 (by simpa [upd] using h)), fun h => (hY1 (by simpa [upd] using h))⟩, rfl, rfl⟩
    · -- 4: Op.load 2 t3
      go_light
      intro L σ W' hcl hL hC hw
      clear hw
      have HC := Lib.hid hC
      obtain ⟨hbb, hX, hRg, hti, hS1, hY1⟩ := hC
      have h_ := (hY1 (hcl.not (j := 5) (k := 4) (by kernel_rfl) hL))
      have k_ := h_.cell
      clear hcl hL
      clear hbb hX hRg hti hS1 hY1
      refine OpGoes.step fun K hK => ?_
      unfold OpGoes
      go_simp
      obtain ⟨hbb, hX, hRg, hti, hS1, hY1⟩ := HC.out
      exact hK _ _ ⟨⟨fun h => (hbb (by simpa [upd] using h)), fun h => (hX (by simpa [upd] using h)), fun h => (hRg (by simpa [upd] using h)), fun h => (hti (by simpa [upd] using h)), fun h => (hS1 (by simpa [upd] using h)), fun h => (hY1 (by simpa [upd] using h))⟩, rfl, rfl⟩
    · -- 5: Op.call { value (Operand.func 53), args := #[t15, t16, t17], argTypes := #[60, 2, 2] }
      go_light
      intro L σ W' hcl hL hC hw hne
      have e2 : σ 2 = .pointer (some ⟨X, 3, none⟩) := hw 2 (by kernel_rfl)
      have e3 : σ 3 = .int .i64 seen := hw 3 (by kernel_rfl)
      have e4 : σ 4 = .int .i64 y := hw 4 (by kernel_rfl)
      clear hw hne
      obtain ⟨hbb, hX, hRg, hti, hS1, hY1⟩ := hC
      have hb7 := (hbb hL)
      have hX7 := (hX hL)
      have hRg7 := (hRg hL)
      have hti7 := (hti hL)
      have kX7 := hX7.cell
      have fX7 := hX7.frozen
      clear hcl hL
      refine OpGoes.step fun K hK => ?_
      unfold OpGoes
      go_simp
      refine (ichangeSeen_yes X 3 seen y _ (by rw [kX7 3, ← HEQ.out]; rfl) (fX7 _)).mono ?_
      rintro e w1 ⟨rfl, rfl⟩
      have hpost := ChPost.mkYes (c := swingC false seen y) (s := s) (a0 := a0) (B := N) (X := X) (M := M) (T := T) (K := fun _ => True) HCY.out (hti7.set (.inl hMX) _ _) trivial (t := { s with fi := y }) (b := b) (n := n) (cap := m) (by have := hX7.set 3 (.int .i64 y); simpa [sC] using this) ((hRg7.1.setD (.inr (Nat.le_refl X)) _ _).mono (Nat.le_refl _) (by simp; exact hRg7.2))
      refine ⟨_, rfl, hK _ _ ⟨⟨fun h => absurd h (by simp [upd]), fun h => absurd h (by simp [upd]), fun h => absurd h (by simp [upd]), fun h => absurd h (by simp [upd]), fun h => absurd h (by simp [upd]), fun h => absurd h (by simp [upd])⟩, ⟨_, rfl, hpost⟩, (by first | exact hsz | simp), fun j hj hn hR => ?_⟩⟩
      match j, hj, hn, hR with
      | 0, _, _, hR => exact (show σ 0 = .pointer (some ⟨X, 0, none⟩) from hR)
      | 1, _, _, hR => exact (show σ 1 = .pointer (some ⟨X, 0, none⟩) from hR)
      | 2, _, _, hR => exact (show σ 2 = .pointer (some ⟨X, 3, none⟩) from hR)
      | 3, _, _, hR => exact (show σ 3 = .int .i64 seen from hR)
      | 4, _, _, hR => exact (show σ 4 = .int .i64 y from hR)
      | 5, hj, _, _ => exact absurd rfl hj
      | 6, _, hn, _ => exact absurd (hn.symm.trans (show waits _ _ _ = true by kernel_rfl)) (by decide)
      | _ + 7, _, _, _ => exact trivial
    · -- 6: Op.assign t18
      go_light
      intro L σ W' hcl hL hC hw
      obtain ⟨v, e5, hp5⟩ : ∃ (v : Value), σ 5 = v ∧ ChPost (swingC false seen y) s a0 N X M T (fun _ => True) W (.returned v) W' := hw 5 (by kernel_rfl)
      clear hw
      have HC := Lib.hid hC
      clear hC
      clear hcl hL
      refine OpGoes.step fun K hK => ?_
      unfold OpGoes
      go_simp
      obtain ⟨hbb, hX, hRg, hti, hS1, hY1⟩ := HC.out
      exact hK _ _ ⟨⟨fun h => (hbb (by simpa [upd] using h)), fun h => (hX (by simpa [upd] using h)), fun h => (hRg (by simpa [upd] using h)), fun h => (hti (by simpa [upd] using h)), fun h => (hS1 (by simpa [upd] using h)), fun h => (hY1 (by simpa [upd] using h))⟩, ⟨v, rfl, hp5⟩, rfl⟩
    · intro σ L W' hall hC hR
      obtain ⟨hbb, hX, hRg, hti, hS1, hY1⟩ := hC
      obtain ⟨v, e6, hp6⟩ : ∃ (v : Value), σ 6 = v ∧ ChPost (swingC false seen y) s a0 N X M T (fun _ => True) W (.returned v) W' := hR 6 (by decide)
      clear hR
      simp only [lexAll]
      go_simp
      go_step
      go_wp2
      go_ret
      rw [← HN.out]
      exact hp6

  · have HNE := Lib.hid hne
    have HCN := Lib.hid (show swingC false seen y s = none by simp [swingC, hne])
    go_enter Tryd.func60, Tryd.ntmps60
    go_upto_region 3 with fail
    clear k1 hne
    refine wp_region2 (fun w w' => w = w') (fun _ _ h => Nat.le_of_eq (by rw [h])) (fun L W' => (L 5 = false → Below N w W') ∧ (L 5 = false → BoxAt W' X #[.int .i64 s.rd, .int .i64 s.mo, .slice (some ⟨b, 0, none⟩) n m, .int .i64 s.fi, .int .i64 s.la] 28) ∧ (L 5 = false → (RgsD M X W' (some ⟨b, 0, none⟩) n m s.rs ∧ X ≤ W'.heap.size)) ∧ (L 5 = false → Till M T W W') ∧ (L 5 = false → BoxAt W' S_ #[.int .i64 seen] 2) ∧ (L 5 = false → BoxAt W' Y_ #[.int .i64 y] 2)) (swfalseNR s X b n m M T N S_ Y_ seen y a0 W) swfalseNK swfalseNS (by kernel_rfl) (by kernel_rfl) ?_ ?_ ?_
      (.grow rfl ?_ <| .grow rfl ?_ <| .grow rfl ?_ <| .grow rfl ?_ <| .grow rfl ?_ <| .store rfl ?_ <| .grow rfl ?_ <| .nil) ?_
    · intro j σ τ w h hR
      match j, h, hR with
      | 0, h, hR => exact (h 0 (List.mem_singleton.2 rfl)).symm.trans hR
      | 1, h, hR => exact (h 1 (List.mem_singleton.2 rfl)).symm.trans hR
      | 2, h, hR => exact (h 2 (List.mem_singleton.2 rfl)).symm.trans hR
      | 3, h, hR => exact (h 3 (List.mem_singleton.2 rfl)).symm.trans hR
      | 4, h, hR => exact (h 4 (List.mem_singleton.2 rfl)).symm.trans hR
      | 5, h, hR => obtain ⟨v, e, hp⟩ := hR; exact ⟨v, (h 5 (List.mem_singleton.2 rfl)).symm.trans e, hp⟩
      | 6, h, hR => obtain ⟨v, e, hp⟩ := hR; exact ⟨v, (h 6 (List.mem_singleton.2 rfl)).symm.trans e, hp⟩
      | _ + 7, _, _ => exact trivial
    · intro j σ w w' hb hR
      match j, hR with
      | 0, hR => exact hR
      | 1, hR => exact hR
      | 2, hR => exact hR
      | 3, hR => exact hR
      | 4, hR => exact hR
      | 5, hR => obtain ⟨v, e, hp⟩ := hR; exact ⟨v, e, hb ▸ hp⟩
      | 6, hR => obtain ⟨v, e, hp⟩ := hR; exact ⟨v, e, hb ▸ hp⟩
      | _ + 7, _ => exact trivial
    · exact ⟨fun _ => hbb.drew, fun _ => hX, fun _ => hRg, fun _ => hti.drewN _, fun _ => hS1, fun _ => hY1⟩
    · -- 0: Op.move t0
      go_light
      intro L σ W' hcl hL hC hw
      clear hw
      have HC := Lib.hid hC
      clear hC
      clear hcl hL
      refine OpGoes.step fun K hK => ?_
      unfold OpGoes
      go_simp
      obtain ⟨hbb, hX, hRg, hti, hS1, hY1⟩ := HC.out
      exact hK _ _ ⟨⟨fun h => (hbb (by simpa [upd] using h)), fun h => (hX (by simpa [upd] using h)), fun h => (hRg (by simpa [upd] using h)), fun h => (hti (by simpa [upd] using h)), fun h => (hS1 (by simpa [upd] using h)), fun h => (hY1 (by simpa [upd] using h))⟩, rfl, rfl⟩
    · -- 1: Op.nilCheck t13
      go_light
      intro L σ W' hcl hL hC hw
      have e0 : σ 0 = .pointer (some ⟨X, 0, none⟩) := hw 0 (by kernel_rfl)
      clear hw
      have HC := Lib.hid hC
      clear hC
      clear hcl hL
      refine OpGoes.step fun K hK => ?_
      unfold OpGoes
      go_simp
      obtain ⟨hbb, hX, hRg, hti, hS1, hY1⟩ := HC.out
      exact hK _ _ ⟨⟨fun h => (hbb (by simpa [upd] using h)), fun h => (hX (by simpa [upd] using h)), fun h => (hRg (by simpa [upd] using h)), fun h => (hti (by simpa [upd] using h)), fun h => (hS1 (by simpa [upd] using h)), fun h => (hY1 (by simpa [upd] using h))⟩, rfl, rfl⟩
    · -- 2: Op.fieldAddr 28 t14 3
      go_light
      intro L σ W' hcl hL hC hw
      have e1 : σ 1 = .pointer (some ⟨X, 0, none⟩) := hw 1 (by kernel_rfl)
      clear hw
      have HC := Lib.hid hC
      clear hC
      clear hcl hL
      refine OpGoes.step fun K hK => ?_
      unfold OpGoes
      go_simp
      obtain ⟨hbb, hX, hRg, hti, hS1, hY1⟩ := HC.out
      exact hK _ _ ⟨⟨fun h => (hbb (by simpa [upd] using h)), fun h => (hX (by simpa [upd] using h)), fun h => (hRg (by simpa [upd] using h)), fun h => (hti (by simpa [upd] using h)), fun h => (hS1 (by simpa [upd] using h)), fun h => (hY1 (by simpa [upd] using h))⟩, rfl, rfl⟩
    · -- 3: Op.load 2 t2
      go_light
      intro L σ W' hcl hL hC hw
      clear hw
      have HC := Lib.hid hC
      obtain ⟨hbb, hX, hRg, hti, hS1, hY1⟩ := hC
      have h_ := (hS1 (hcl.not (j := 5) (k := 3) (by kernel_rfl) hL))
      have k_ := h_.cell
      clear hcl hL
      clear hbb hX hRg hti hS1 hY1
      refine OpGoes.step fun K hK => ?_
      unfold OpGoes
      go_simp
      obtain ⟨hbb, hX, hRg, hti, hS1, hY1⟩ := HC.out
      exact hK _ _ ⟨⟨fun h => (hbb (by simpa [upd] using h)), fun h => (hX (by simpa [upd] using h)), fun h => (hRg (by simpa [upd] using h)), fun h => (hti (by simpa [upd] using h)), fun h => (hS1 (by simpa [upd] using h)), fun h => (hY1 (by simpa [upd] using h))⟩, rfl, rfl⟩
    · -- 4: Op.load 2 t3
      go_light
      intro L σ W' hcl hL hC hw
      clear hw
      have HC := Lib.hid hC
      obtain ⟨hbb, hX, hRg, hti, hS1, hY1⟩ := hC
      have h_ := (hY1 (hcl.not (j := 5) (k := 4) (by kernel_rfl) hL))
      have k_ := h_.cell
      clear hcl hL
      clear hbb hX hRg hti hS1 hY1
      refine OpGoes.step fun K hK => ?_
      unfold OpGoes
      go_simp
      obtain ⟨hbb, hX, hRg, hti, hS1, hY1⟩ := HC.out
      exact hK _ _ ⟨⟨fun h => (hbb (by simpa [upd] using h)), fun h => (hX (by simpa [upd] using h)), fun h => (hRg (by simpa [upd] using h)), fun h => (hti (by simpa [upd] using h)), fun h => (hS1 (by simpa [upd] using h)), fun h => (hY1 (by simpa [upd] using h))⟩, rfl, rfl⟩
    · -- 5: Op.call { value (Operand.func 53), args := #[t15, t16, t17], argTypes := #[60, 2, 2] }
      go_light
      intro L σ W' hcl hL hC hw hne
      have e2 : σ 2 = .pointer (some ⟨X, 3, none⟩) := hw 2 (by kernel_rfl)
      have e3 : σ 3 = .int .i64 seen := hw 3 (by kernel_rfl)
      have e4 : σ 4 = .int .i64 y := hw 4 (by kernel_rfl)
      clear hw hne
      obtain ⟨hbb, hX, hRg, hti, hS1, hY1⟩ := hC
      have hb7 := (hbb hL)
      have hX7 := (hX hL)
      have hRg7 := (hRg hL)
      have hti7 := (hti hL)
      have kX7 := hX7.cell
      have fX7 := hX7.frozen
      have hg7 := hSN.keep (W' := W') (fun j hj => hb7.block j (by omega))
      clear hcl hL
      refine OpGoes.step fun K hK => ?_
      unfold OpGoes
      go_simp
      refine (ichangeSeen_no X 3 s.fi seen y aN _ (kX7 3) hg7.2.2.1 HNE.out).mono ?_
      rintro e w1 ⟨rfl, rfl⟩
      have hpost := ChPost.mkNo (c := swingC false seen y) (s := s) (a0 := a0) (B := N) (X := X) (K := fun _ => True) HCN.out hti7 hNN (by have := hg7.2.1; omega) hg7.2.2.2
      have hsz := Nat.le_refl w1.heap.size
      refine ⟨_, rfl, hK _ _ ⟨⟨fun h => absurd h (by simp [upd]), fun h => absurd h (by simp [upd]), fun h => absurd h (by simp [upd]), fun h => absurd h (by simp [upd]), fun h => absurd h (by simp [upd]), fun h => absurd h (by simp [upd])⟩, ⟨_, rfl, hpost⟩, (by first | exact hsz | simp), fun j hj hn hR => ?_⟩⟩
      match j, hj, hn, hR with
      | 0, _, _, hR => exact (show σ 0 = .pointer (some ⟨X, 0, none⟩) from hR)
      | 1, _, _, hR => exact (show σ 1 = .pointer (some ⟨X, 0, none⟩) from hR)
      | 2, _, _, hR => exact (show σ 2 = .pointer (some ⟨X, 3, none⟩) from hR)
      | 3, _, _, hR => exact (show σ 3 = .int .i64 seen from hR)
      | 4, _, _, hR => exact (show σ 4 = .int .i64 y from hR)
      | 5, hj, _, _ => exact absurd rfl hj
      | 6, _, hn, _ => exact absurd (hn.symm.trans (show waits _ _ _ = true by kernel_rfl)) (by decide)
      | _ + 7, _, _, _ => exact trivial
    · -- 6: Op.assign t18
      go_light
      intro L σ W' hcl hL hC hw
      obtain ⟨v, e5, hp5⟩ : ∃ (v : Value), σ 5 = v ∧ ChPost (swingC false seen y) s a0 N X M T (fun _ => True) W (.returned v) W' := hw 5 (by kernel_rfl)
      clear hw
      have HC := Lib.hid hC
      clear hC
      clear hcl hL
      refine OpGoes.step fun K hK => ?_
      unfold OpGoes
      go_simp
      obtain ⟨hbb, hX, hRg, hti, hS1, hY1⟩ := HC.out
      exact hK _ _ ⟨⟨fun h => (hbb (by simpa [upd] using h)), fun h => (hX (by simpa [upd] using h)), fun h => (hRg (by simpa [upd] using h)), fun h => (hti (by simpa [upd] using h)), fun h => (hS1 (by simpa [upd] using h)), fun h => (hY1 (by simpa [upd] using h))⟩, ⟨v, rfl, hp5⟩, rfl⟩
    · intro σ L W' hall hC hR
      obtain ⟨hbb, hX, hRg, hti, hS1, hY1⟩ := hC
      obtain ⟨v, e6, hp6⟩ : ∃ (v : Value), σ 6 = v ∧ ChPost (swingC false seen y) s a0 N X M T (fun _ => True) W (.returned v) W' := hR 6 (by decide)
      clear hR
      simp only [lexAll]
      go_simp
      go_step
      go_wp2
      go_ret
      rw [← HN.out]
      exact hp6


theorem iswing1 (s : St) (last : Bool) (seen y : Int) (n L_ S_ Y_ B : Nat) (a0 aN : Addr) (T : Nat) (w : World) (hL0 : BoxAt w L_ #[.bool last] 4) (hS0 : BoxAt w S_ #[.int .i64 seen] 2) (hY0 : BoxAt w Y_ #[.int .i64 y] 2) (hSN : Sent B w 5 aN) (hNN : aN ≠ a0) (hBw : B ≤ w.heap.size) :
    Changes (swingC last seen y) s n a0 T (fun _ => True) 60 [.pointer (some ⟨L_, 0, none⟩), .pointer (some ⟨S_, 0, none⟩), .pointer (some ⟨Y_, 0, none⟩)] w := by
  cases last
  · exact iswing1_false s seen y n L_ S_ Y_ B a0 aN T w hL0 hS0 hY0 hSN hNN hBw
  · exact iswing1_true s seen y n L_ S_ Y_ B a0 aN T w hL0 hS0 hY0 hSN hNN hBw
theorem mild_swing {s t : St} {last : Bool} {seen y : Int} (hok : stOk s = true) (ht : swingC last seen y s = some t) : Mild t := by
  have hn := stOk_neat hok
  have hm : Mild s := ⟨by have := hn.2.1; omega, fun r hr => by have := (hn.2.2 r hr).2; omega⟩
  unfold swingC at ht
  split at ht <;> split at ht
  · cases ht
  · injection ht with ht; subst ht; exact hm
  · cases ht
  · injection ht with ht; subst ht; exact hm

set_option maxRecDepth 100000 in
set_option maxHeartbeats 4000000 in
theorem iswing_any (s : St) (A : Option Addr) (n cap lo hi B : Nat) (a0 a1 a2 : Addr) (last : Bool) (seen y : Int) (w : World) (hs : RgsW lo hi w A n cap s.rs) (hh : hi ≤ w.heap.size) (hBw : B ≤ w.heap.size) (he : Errs B w a0 a1) (hS0 : Sent B w 5 a2) (hN0 : a2 ≠ a0) (hm : n ≤ 1048576) (hpn : ∀ r ∈ s.rs, r.ps.length ≤ 1048576) :
    Calls Tryd.prog 32 #[stV s A n cap, .bool last, .int .i64 seen, .int .i64 y] w (RetSBD (swing s last seen y) w) := by
  have HPN := Lib.hid hpn; clear hpn
  have HLN := Lib.hid hs.1
  have HV := Lib.hid (swing_done s last seen y)
  obtain ⟨N, hN⟩ : ∃ N, N = w.heap.size := ⟨_, rfl⟩
  have hN1 : w.heap.size ≤ N := by omega
  have hNw : N ≤ w.heap.size := by omega
  have HN := Lib.hid hN
  have hBN : B ≤ N := by omega
  unfold stV
  go_enter Tryd.func32, Tryd.ntmps32
  go_upto_region 1 with fail
  rw [← HN.out]
  refine wp_abs (fun W => Below N w W ∧ N + 5 ≤ W.heap.size ∧ BoxAt W N #[.int .i64 s.rd, .int .i64 s.mo, .slice A n cap, .int .i64 s.fi, .int .i64 s.la] 28 ∧ BoxAt W (N + 1) #[.bool last] 4 ∧ BoxAt W (N + 2) #[.int .i64 seen] 2 ∧ BoxAt W (N + 3) #[.int .i64 y] 2 ∧ BoxAt W (N + 4) #[.int .i64 0, .int .i64 0, .slice none 0 0, .int .i64 0, .int .i64 0] 28) ⟨((((((Below.refl _ _).alloc hNw _).alloc (by simp; omega) _).alloc (by simp; omega) _).alloc (by simp; omega) _).alloc (by simp; omega) _), by simp; omega, (((((BoxAt.new' (by omega)).alloc _).alloc _).alloc _).alloc _), ((((BoxAt.new' (by simp; omega)).alloc _).alloc _).alloc _), (((BoxAt.new' (by simp; omega)).alloc _).alloc _), ((BoxAt.new' (by simp; omega)).alloc _), (BoxAt.new' (by simp; omega))⟩ ?_
  clear hN
  rintro W0 ⟨hB, hsz, hx, hc1, hc2, hc3, hz⟩
  have ks := hx.cell
  go_wp2_with fail
  clear ks
  have hc1_ := hc1
  have hc2_ := hc2
  have hc3_ := hc3
  have hx3 := hx
  have hs3 := hs.keep (w' := W0) (fun j _ hj => hB.block j (by omega))
  have he3 := he.below hB (by omega)
  refine (idoneOrNot_any (swingC last seen y) s A n cap lo hi B N a0 a1 (fun _ => True) 60 [.pointer (some ⟨(N + 1), 0, none⟩), .pointer (some ⟨(N + 2), 0, none⟩), .pointer (some ⟨(N + 3), 0, none⟩)] W0 hs3 (by omega) (by omega) (by omega) hBN (by omega) he3 hm HPN.out (fun t hok ht => mild_swing hok ht) (fun _ _ _ _ => trivial) (fun hok => iswing1 s last seen y n (N + 1) (N + 2) (N + 3) B a0 a2 N W0 hc1_ hc2_ hc3_ (hS0.keep (fun j hj => hB.block j (by omega))) hN0 (by omega)) (enters_of Tryd.func60 (by kernel_rfl) rfl)).mono ?_
  rintro e w1 ⟨A', n', c', rfl, hR1, hk1, hbt⟩
  replace hz := hbt.box hz (by omega)
  have hbt2 := hbt.size
  replace hB := hB.trans (hbt.below (Nat.le_refl _) (by omega))
  unfold stV
  have kz := hz.cell
  have fz := hz.frozen
  go_wp2
  refine bodyPost_ret (v := .tuple #[stV (done (swingC last seen y) s).1 A' n' c', .bool (done (swingC last seen y) s).2]) (by simp [results, Tryd.results32, go_sem, kz, stV]) rfl ?_
  rw [HV.out]
  exact ⟨A', n', c', rfl, ((((((hR1.setD (.inl (by omega)) _ _).setD (.inl (by omega)) _ _).setD (.inl (by omega)) _ _).setD (.inl (by omega)) _ _).setD (.inl (by omega)) _ _)).mono (by omega) (by simp), ((((((hB.setCell (by dsimp only; omega) _).setCell (by dsimp only; omega) _).setCell (by dsimp only; omega) _).setCell (by dsimp only; omega) _).setCell (by dsimp only; omega) _)).mono hN1⟩

end Go.Proofs.YtbpjhdoldodlnaaDoor

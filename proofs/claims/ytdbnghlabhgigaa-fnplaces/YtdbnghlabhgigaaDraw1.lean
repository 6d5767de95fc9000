/-
  The draws of places.
-/
import Derived.Test.YtdbnghlabhgigaaCur
namespace Go.Proofs.Ytdbnghlabhgigaa
open Go.RowKit Go.ChangeShapes Go.WideShapes Go.ChangeAt Go.Joins
set_option linter.unusedVariables false
attribute [local go_sem] OpUpon

/-- What is drawn of places, behind a call that leaves old memory alone. -/
def DrawnL (w : World) (e : Ending) (w' : World) : Prop :=
  ∃ (a c : Bool) (b d t n : Int), e = .returned (.tuple #[.agg #[.bool a, .int .i64 b, .bool c, .int .i64 d], .int .i64 t, .int .i64 n]) ∧ 0 ≤ t ∧ t < 9 ∧ 2 ≤ n ∧ n < 6 ∧ Below w.heap.size w w'
def DrawnM (w : World) (e : Ending) (w' : World) : Prop :=
  ∃ (a c : Bool) (b d t : Int), e = .returned (.tuple #[.agg #[.bool a, .int .i64 b, .bool c, .int .i64 d], .int .i64 t]) ∧ -1 ≤ t ∧ t ≤ 9 ∧ Below w.heap.size w w'

theorem CodeOk.self {N : Nat} {w : World} {a0 : Option Addr} {len : Nat} (h : CodeOk N w a0 len) (M : Nat) (hM : w.heap.size ≤ M) : CodeOk M w a0 len := by
  refine ⟨h.1, fun hl => ?_⟩
  obtain ⟨b, off, e, _, hs, hc⟩ := h.2 hl
  exact ⟨b, off, e, by omega, hs, hc⟩
theorem CodeOk.le {N M : Nat} {w : World} {a0 : Option Addr} {len : Nat} (h : CodeOk N w a0 len) (hM : N ≤ M) : CodeOk M w a0 len := by
  refine ⟨h.1, fun hl => ?_⟩
  obtain ⟨b, off, e, hn, hs, hc⟩ := h.2 hl
  exact ⟨b, off, e, by omega, hs, hc⟩

def dmpR (k g2 : Nat) (a c : Bool) (b d : Int) (j : Nat) (σ : Nat → Value) (w : World) : Prop :=
  match j with
  | 0 => σ 0 = .agg #[.bool a, .int .i64 b, .bool c, .int .i64 d]
  | 1 => σ 1 = .pointer (some ⟨k, 0, none⟩)
  | 2 => ∃ (t : Int), σ 2 = .int .i64 t ∧ -1 ≤ t ∧ t ≤ 9
  | 3 => BoxAt w g2 #[.bool a, .int .i64 b, .bool c, .int .i64 d] 25
  | 4 => ∃ (t : Int), σ 4 = .int .i64 t ∧ -1 ≤ t ∧ t ≤ 9
  | _ => True

def dmpS (j : Nat) : List Nat := [[0], [1], [2], [3], [4]].getD j [j]
def dmpK (j : Nat) : Nat := [0, 0, 0, 1, 0].getD j 0

set_option maxHeartbeats 1000000 in
theorem drawMayPut_any (a0 : Option Addr) (len cap : Nat) (w : World) (hc : CodeOk w.heap.size w a0 len) :
    Calls Try.prog 11 #[.slice a0 len cap] w (DrawnM w) := by
  go_enter Try.func11, Try.ntmps11
  go_wp2_with fail
  refine calls_abs (fun W => Below w.heap.size w W ∧ BoxAt W w.heap.size #[.bool false, .int .i64 0, .bool false, .int .i64 0] 25) ⟨(Below.refl _ _).alloc (Nat.le_refl _) _, BoxAt.new _ _ _⟩ ?_
  rintro W0 ⟨hB0, hx0⟩
  have lx := hx0.lt
  refine (l1New_any w.heap.size a0 len cap _ (hc.below hB0)).mono ?_
  rintro e w1 ⟨h, rfl, rfl⟩
  go_wp2_with fail
  generalize hk : W0.heap.size = k at *
  refine calls_abs (fun W => Below w.heap.size w W ∧ BoxAt W w.heap.size #[.bool false, .int .i64 0, .bool false, .int .i64 0] 25 ∧ CurAt W k a0 len cap) ⟨hB0.alloc hB0.size _, hx0.alloc _, 0, h, Nat.zero_le _, by rw [← hk]; exact BoxAt.new _ _ _⟩ ?_
  clear hB0 hx0
  rintro W1 ⟨hB1, hx1, hcur1⟩
  refine (l1DrawAny_any w.heap.size k a0 len cap _ (hc.below hB1) (by omega) hB1.size hcur1).mono ?_
  rintro e w2 ⟨a, c, b, d, rfl, hB2, hcur2⟩
  replace hx1 := hB2.box hx1 (by omega)
  have hB3 := hB1.trans (hB2.below (by omega) hB1.size)
  generalize hg5 : w2.heap.size = g5 at *
  go_wp2_with fail
  refine wp_abs (fun W => Below w.heap.size w W ∧ CurAt W k a0 len cap ∧ BoxAt W g5 #[.bool a, .int .i64 b, .bool c, .int .i64 d] 25 ∧ (∃ r0 r1 r2 r3, BoxAt W w.heap.size #[r0, r1, r2, r3] 25)) ⟨hB3.alloc hB3.size _, hcur2.alloc _, by rw [← hg5]; exact BoxAt.new _ _ _, _, _, _, _, hx1.alloc _⟩ ?_
  have lk2 := hcur2.lt
  have lx2 := hx1.lt
  clear hB1 hx1 hcur1 hB2 hB3 hcur2
  rintro W3 hW3
  refine wp_region_le (fun w w' => But k w w') (fun _ _ h => h.size) (fun W' => Below w.heap.size w W' ∧ CurAt W' k a0 len cap ∧ BoxAt W' g5 #[.bool a, .int .i64 b, .bool c, .int .i64 d] 25 ∧ (∃ r0 r1 r2 r3, BoxAt W' w.heap.size #[r0, r1, r2, r3] 25)) (dmpR k w.heap.size a c b d) dmpK dmpS (by kernel_rfl) (by kernel_rfl) ?_ ?_ ?_
    (.grow rfl ?_ <| .grow rfl ?_ <| .grow rfl ?_ <| .store rfl ?_ <| .grow rfl ?_ <| .nil) ?_
  · intro j σ τ w h hR
    match j, h, hR with
    | 0, h, hR => exact (h 0 (by decide)).symm.trans hR
    | 1, h, hR => exact (h 1 (by decide)).symm.trans hR
    | 2, h, hR => obtain ⟨t, e, hp⟩ := hR; exact ⟨t, (h 2 (by decide)).symm.trans e, hp⟩
    | 3, _, hR => exact hR
    | 4, h, hR => obtain ⟨t, e, hp⟩ := hR; exact ⟨t, (h 4 (by decide)).symm.trans e, hp⟩
    | _ + 5, _, _ => exact trivial
  · intro j σ w w' hb hR
    match j, hR with
    | 0, hR => exact hR
    | 1, hR => exact hR
    | 2, hR => exact hR
    | 3, hR => have hx := hR; exact But.box hb hx (by omega)
    | 4, hR => exact hR
    | _ + 5, _ => exact trivial
  · exact ⟨Below.drew hW3.1, hW3.2⟩
  · -- 0: Op.load 25 t5
    intro σ W' hC hw
    clear hw
    obtain ⟨cB, cC, c_p, ⟨r0, r1, r2, r3, c_r⟩⟩ := hC
    have kp := c_p.cell
    refine OpGoes.step fun K hK => ?_
    unfold OpGoes
    go_simp
    exact hK _ _ ⟨⟨cB, cC, c_p, ⟨_, _, _, _, c_r⟩⟩, rfl, But.refl _ _⟩
  · -- 1: Op.move t4
    intro σ W' hC hw
    clear hw
    obtain ⟨cB, cC, c_p, ⟨r0, r1, r2, r3, c_r⟩⟩ := hC
    refine OpGoes.step fun K hK => ?_
    unfold OpGoes
    go_simp
    exact hK _ _ ⟨⟨cB, cC, c_p, ⟨_, _, _, _, c_r⟩⟩, rfl, But.refl _ _⟩
  · -- 2: Op.call { value (Operand.func 25), args := #[t11, const (Value.int IntKind.i64 (-1)), const (9:i64)], argTypes := #[44, 2, 2] }
    intro σ W' hC hw
    have e1 : σ 1 = .pointer (some ⟨k, 0, none⟩) := hw 1 (by kernel_rfl)
    clear hw
    obtain ⟨cB, cC, c_p, ⟨r0, r1, r2, r3, c_r⟩⟩ := hC
    refine OpGoes.step fun K hK => ?_
    unfold OpGoes
    go_simp
    refine (l1From_any w.heap.size k a0 len cap _ _ _ (hc.below cB) (by omega) cB.size cC (by omega) (by omega) (by omega)).mono ?_
    rintro e w1 ⟨x, hx, rfl, hB1, hcur1⟩
    exact ⟨_, rfl, hK _ _ ⟨⟨cB.trans (hB1.below (by omega) (Nat.le_trans (by omega) cB.size)), hcur1, hB1.box c_p (by omega), ⟨_, _, _, _, hB1.box c_r (by omega)⟩⟩, ⟨x, rfl, hx⟩, hB1⟩⟩
  · -- 3: Op.store 25 t2 t10
    intro σ W' hC hw hne
    have e0 : σ 0 = .agg #[.bool a, .int .i64 b, .bool c, .int .i64 d] := hw 0 (by kernel_rfl)
    clear hw hne
    obtain ⟨cB, cC, c_p, ⟨r0, r1, r2, r3, c_r⟩⟩ := hC
    have kx := c_r.cell
    have kf := c_r.frozen
    refine OpGoes.step fun K hK => ?_
    unfold OpGoes
    go_simp
    have hset := ((((c_r.set 0 (.bool a)).set 1 (.int .i64 b)).set 2 (.bool c)).set 3 (.int .i64 d))
    simp only [List.setIfInBounds_toArray, List.set_cons_zero, List.set_cons_succ] at hset
    refine hK _ _ ⟨⟨(Below.setCell (Below.setCell (Below.setCell (Below.setCell cB (by dsimp only; omega) _) (by dsimp only; omega) _) (by dsimp only; omega) _) (by dsimp only; omega) _), ((((cC.set_ne (by omega) 0 _).set_ne (by omega) 1 _).set_ne (by omega) 2 _).set_ne (by omega) 3 _), ((((c_p.set_ne (by omega) 0 _).set_ne (by omega) 1 _).set_ne (by omega) 2 _).set_ne (by omega) 3 _), ⟨_, _, _, _, hset⟩⟩, hset, by simp, fun j hj hn hR => ?_⟩
    match j, hj, hn, hR with
    | 0, _, _, hR => exact hR
    | 1, _, _, hR => exact hR
    | 2, _, _, hR => exact hR
    | 3, hj, _, _ => exact absurd rfl hj
    | 4, _, _, hR => exact hR
    | _ + 5, _, _, _ => exact trivial
  · -- 4: Op.assign t12
    intro σ W' hC hw
    obtain ⟨t_2, e2, hp2⟩ : ∃ (t : Int), σ 2 = .int .i64 t ∧ -1 ≤ t ∧ t ≤ 9 := hw 2 (by kernel_rfl)
    clear hw
    obtain ⟨cB, cC, c_p, ⟨r0, r1, r2, r3, c_r⟩⟩ := hC
    refine OpGoes.step fun K hK => ?_
    unfold OpGoes
    go_simp
    exact hK _ _ ⟨⟨cB, cC, c_p, ⟨_, _, _, _, c_r⟩⟩, ⟨t_2, rfl, hp2⟩, But.refl _ _⟩
  · intro σ W' hC hR
    obtain ⟨cB, cC, c_p, ⟨r0, r1, r2, r3, c_r⟩⟩ := hC
    obtain ⟨t, e4, ht⟩ : ∃ t : Int, σ 4 = .int .i64 t ∧ -1 ≤ t ∧ t ≤ 9 := hR 4 (by decide)
    have hbox : BoxAt W' w.heap.size #[.bool a, .int .i64 b, .bool c, .int .i64 d] 25 := hR 3 (by decide)
    clear hR
    simp only [lexAll]
    go_simp
    have kx := hbox.cell
    go_wp2
    refine bodyPost_ret (v := .tuple #[.agg #[.bool a, .int .i64 b, .bool c, .int .i64 d], .int .i64 t]) (by simp [results, Try.results11, go_sem, kx]) rfl ⟨_, _, _, _, t, rfl, ht.1, ht.2, cB⟩
def dlfR (k g2 : Nat) (a c : Bool) (b d t : Int) (j : Nat) (σ : Nat → Value) (w : World) : Prop :=
  match j with
  | 0 => σ 0 = .agg #[.bool a, .int .i64 b, .bool c, .int .i64 d]
  | 1 => σ 1 = .int .i64 t
  | 2 => σ 2 = .pointer (some ⟨k, 0, none⟩)
  | 3 => ∃ (u : Int), σ 3 = .int .i64 u ∧ 0 ≤ u ∧ u < 4
  | 4 => ∃ (n : Int), σ 4 = .int .i64 n ∧ 2 ≤ n ∧ n < 6
  | 5 => BoxAt w g2 #[.bool a, .int .i64 b, .bool c, .int .i64 d] 25
  | 6 => σ 6 = .int .i64 t
  | 7 => ∃ (n : Int), σ 7 = .int .i64 n ∧ 2 ≤ n ∧ n < 6
  | _ => True

def dlfS (j : Nat) : List Nat := [[0], [1], [2], [3], [4], [5], [6], [7]].getD j [j]
def dlfK (j : Nat) : Nat := [0, 0, 0, 0, 0, 1, 0, 0].getD j 0

set_option maxHeartbeats 1000000 in
theorem drawLeft_any (a0 : Option Addr) (len cap : Nat) (w : World) (hc : CodeOk w.heap.size w a0 len) :
    Calls Try.prog 12 #[.slice a0 len cap] w (DrawnL w) := by
  go_enter Try.func12, Try.ntmps12
  go_wp2_with fail
  refine calls_abs (fun W => Below w.heap.size w W ∧ BoxAt W w.heap.size #[.bool false, .int .i64 0, .bool false, .int .i64 0] 25) ⟨(Below.refl _ _).alloc (Nat.le_refl _) _, BoxAt.new _ _ _⟩ ?_
  rintro W0 ⟨hB0, hx0⟩
  have lx := hx0.lt
  refine (l1New_any w.heap.size a0 len cap _ (hc.below hB0)).mono ?_
  rintro e w1 ⟨h, rfl, rfl⟩
  go_wp2_with fail
  generalize hk : W0.heap.size = k at *
  refine calls_abs (fun W => Below w.heap.size w W ∧ BoxAt W w.heap.size #[.bool false, .int .i64 0, .bool false, .int .i64 0] 25 ∧ CurAt W k a0 len cap) ⟨hB0.alloc hB0.size _, hx0.alloc _, 0, h, Nat.zero_le _, by rw [← hk]; exact BoxAt.new _ _ _⟩ ?_
  clear hB0 hx0
  rintro W1 ⟨hB1, hx1, hcur1⟩
  refine (l1DrawAny_any w.heap.size k a0 len cap _ (hc.below hB1) (by omega) hB1.size hcur1).mono ?_
  rintro e w2 ⟨a, c, b, d, rfl, hB2, hcur2⟩
  replace hx1 := hB2.box hx1 (by omega)
  have hB3 := hB1.trans (hB2.below (by omega) hB1.size)
  generalize hg5 : w2.heap.size = g5 at *
  go_wp2_with fail
  refine calls_abs (fun W => Below w.heap.size w W ∧ CurAt W k a0 len cap ∧ BoxAt W g5 #[.bool a, .int .i64 b, .bool c, .int .i64 d] 25 ∧ (∃ r0 r1 r2 r3, BoxAt W w.heap.size #[r0, r1, r2, r3] 25)) ⟨hB3.alloc hB3.size _, hcur2.alloc _, by rw [← hg5]; exact BoxAt.new _ _ _, _, _, _, _, hx1.alloc _⟩ ?_
  have lk2 := hcur2.lt
  have lx2 := hx1.lt
  clear hB1 hx1 hcur1 hB2 hB3 hcur2
  rintro W3 ⟨hB3, hcur3, hp3, r0, r1, r2, r3, hx3⟩
  refine (l1Below_any w.heap.size k a0 len cap _ _ (hc.below hB3) (by omega) hB3.size hcur3 (by omega)).mono ?_
  rintro e w4 ⟨t, ⟨ht0, ht1⟩, rfl, hB4, hcur4⟩
  have hW3 : Below w.heap.size w w4 ∧ CurAt w4 k a0 len cap ∧ BoxAt w4 g5 #[.bool a, .int .i64 b, .bool c, .int .i64 d] 25 ∧ (∃ r0 r1 r2 r3, BoxAt w4 w.heap.size #[r0, r1, r2, r3] 25) := ⟨hB3.trans (hB4.below (by omega) hB3.size), hcur4, hB4.box hp3 (by omega), _, _, _, _, hB4.box hx3 (by omega)⟩
  go_wp2_with fail
  refine wp_region_le (fun w w' => But k w w') (fun _ _ h => h.size) (fun W' => Below w.heap.size w W' ∧ CurAt W' k a0 len cap ∧ BoxAt W' g5 #[.bool a, .int .i64 b, .bool c, .int .i64 d] 25 ∧ (∃ r0 r1 r2 r3, BoxAt W' w.heap.size #[r0, r1, r2, r3] 25)) (dlfR k w.heap.size a c b d t) dlfK dlfS (by kernel_rfl) (by kernel_rfl) ?_ ?_ ?_
    (.grow rfl ?_ <| .grow rfl ?_ <| .grow rfl ?_ <| .grow rfl ?_ <| .grow rfl ?_ <| .store rfl ?_ <| .grow rfl ?_ <| .grow rfl ?_ <| .nil) ?_
  · intro j σ τ w h hR
    match j, h, hR with
    | 0, h, hR => exact (h 0 (by decide)).symm.trans hR
    | 1, h, hR => exact (h 1 (by decide)).symm.trans hR
    | 2, h, hR => exact (h 2 (by decide)).symm.trans hR
    | 3, h, hR => obtain ⟨u, e, hp⟩ := hR; exact ⟨u, (h 3 (by decide)).symm.trans e, hp⟩
    | 4, h, hR => obtain ⟨n, e, hp⟩ := hR; exact ⟨n, (h 4 (by decide)).symm.trans e, hp⟩
    | 5, _, hR => exact hR
    | 6, h, hR => exact (h 6 (by decide)).symm.trans hR
    | 7, h, hR => obtain ⟨n, e, hp⟩ := hR; exact ⟨n, (h 7 (by decide)).symm.trans e, hp⟩
    | _ + 8, _, _ => exact trivial
  · intro j σ w w' hb hR
    match j, hR with
    | 0, hR => exact hR
    | 1, hR => exact hR
    | 2, hR => exact hR
    | 3, hR => exact hR
    | 4, hR => exact hR
    | 5, hR => have hx := hR; exact But.box hb hx (by omega)
    | 6, hR => exact hR
    | 7, hR => exact hR
    | _ + 8, _ => exact trivial
  · exact ⟨Below.drew hW3.1, hW3.2⟩
  · -- 0: Op.load 25 t6
    intro σ W' hC hw
    clear hw
    obtain ⟨cB, cC, c_p, ⟨r0, r1, r2, r3, c_r⟩⟩ := hC
    have kp := c_p.cell
    refine OpGoes.step fun K hK => ?_
    unfold OpGoes
    go_simp
    exact hK _ _ ⟨⟨cB, cC, c_p, ⟨_, _, _, _, c_r⟩⟩, rfl, But.refl _ _⟩
  · -- 1: Op.move t7
    intro σ W' hC hw
    clear hw
    obtain ⟨cB, cC, c_p, ⟨r0, r1, r2, r3, c_r⟩⟩ := hC
    refine OpGoes.step fun K hK => ?_
    unfold OpGoes
    go_simp
    exact hK _ _ ⟨⟨cB, cC, c_p, ⟨_, _, _, _, c_r⟩⟩, rfl, But.refl _ _⟩
  · -- 2: Op.move t5
    intro σ W' hC hw
    clear hw
    obtain ⟨cB, cC, c_p, ⟨r0, r1, r2, r3, c_r⟩⟩ := hC
    refine OpGoes.step fun K hK => ?_
    unfold OpGoes
    go_simp
    exact hK _ _ ⟨⟨cB, cC, c_p, ⟨_, _, _, _, c_r⟩⟩, rfl, But.refl _ _⟩
  · -- 3: Op.call { value (Operand.func 26), args := #[t16, const (4:i64)], argTypes := #[44, 2] }
    intro σ W' hC hw
    have e2 : σ 2 = .pointer (some ⟨k, 0, none⟩) := hw 2 (by kernel_rfl)
    clear hw
    obtain ⟨cB, cC, c_p, ⟨r0, r1, r2, r3, c_r⟩⟩ := hC
    refine OpGoes.step fun K hK => ?_
    unfold OpGoes
    go_simp
    refine (l1Below_any w.heap.size k a0 len cap _ _ (hc.below cB) (by omega) cB.size cC (by omega)).mono ?_
    rintro e w1 ⟨x, hx, rfl, hB1, hcur1⟩
    exact ⟨_, rfl, hK _ _ ⟨⟨cB.trans (hB1.below (by omega) (Nat.le_trans (by omega) cB.size)), hcur1, hB1.box c_p (by omega), ⟨_, _, _, _, hB1.box c_r (by omega)⟩⟩, ⟨x, rfl, hx⟩, hB1⟩⟩
  · -- 4: Op.binOp BinOp.add 2 (const (2:i64)) t17 2
    intro σ W' hC hw
    obtain ⟨u_3, e3, hp3⟩ : ∃ (u : Int), σ 3 = .int .i64 u ∧ 0 ≤ u ∧ u < 4 := hw 3 (by kernel_rfl)
    clear hw
    obtain ⟨cB, cC, c_p, ⟨r0, r1, r2, r3, c_r⟩⟩ := hC
    refine OpGoes.step fun K hK => ?_
    unfold OpGoes
    go_simp
    have e : IntKind.i64.wrap (2 + u_3) = 2 + u_3 := by rw [IntKind.wrap_i64]; omega
    first | rw [e] | skip
    exact hK _ _ ⟨⟨cB, cC, c_p, ⟨_, _, _, _, c_r⟩⟩, ⟨2 + u_3, rfl, by omega, by omega⟩, But.refl _ _⟩
  · -- 5: Op.store 25 t2 t14
    intro σ W' hC hw hne
    have e0 : σ 0 = .agg #[.bool a, .int .i64 b, .bool c, .int .i64 d] := hw 0 (by kernel_rfl)
    clear hw hne
    obtain ⟨cB, cC, c_p, ⟨r0, r1, r2, r3, c_r⟩⟩ := hC
    have kx := c_r.cell
    have kf := c_r.frozen
    refine OpGoes.step fun K hK => ?_
    unfold OpGoes
    go_simp
    have hset := ((((c_r.set 0 (.bool a)).set 1 (.int .i64 b)).set 2 (.bool c)).set 3 (.int .i64 d))
    simp only [List.setIfInBounds_toArray, List.set_cons_zero, List.set_cons_succ] at hset
    refine hK _ _ ⟨⟨(Below.setCell (Below.setCell (Below.setCell (Below.setCell cB (by dsimp only; omega) _) (by dsimp only; omega) _) (by dsimp only; omega) _) (by dsimp only; omega) _), ((((cC.set_ne (by omega) 0 _).set_ne (by omega) 1 _).set_ne (by omega) 2 _).set_ne (by omega) 3 _), ((((c_p.set_ne (by omega) 0 _).set_ne (by omega) 1 _).set_ne (by omega) 2 _).set_ne (by omega) 3 _), ⟨_, _, _, _, hset⟩⟩, hset, by simp, fun j hj hn hR => ?_⟩
    match j, hj, hn, hR with
    | 0, _, _, hR => exact hR
    | 1, _, _, hR => exact hR
    | 2, _, _, hR => exact hR
    | 3, _, _, hR => exact hR
    | 4, _, _, hR => exact hR
    | 5, hj, _, _ => exact absurd rfl hj
    | 6, _, _, hR => exact hR
    | 7, _, _, hR => exact hR
    | _ + 8, _, _, _ => exact trivial
  · -- 6: Op.assign t15
    intro σ W' hC hw
    have e1 : σ 1 = .int .i64 t := hw 1 (by kernel_rfl)
    clear hw
    obtain ⟨cB, cC, c_p, ⟨r0, r1, r2, r3, c_r⟩⟩ := hC
    refine OpGoes.step fun K hK => ?_
    unfold OpGoes
    go_simp
    exact hK _ _ ⟨⟨cB, cC, c_p, ⟨_, _, _, _, c_r⟩⟩, rfl, But.refl _ _⟩
  · -- 7: Op.assign t18
    intro σ W' hC hw
    obtain ⟨n_4, e4, hp4⟩ : ∃ (n : Int), σ 4 = .int .i64 n ∧ 2 ≤ n ∧ n < 6 := hw 4 (by kernel_rfl)
    clear hw
    obtain ⟨cB, cC, c_p, ⟨r0, r1, r2, r3, c_r⟩⟩ := hC
    refine OpGoes.step fun K hK => ?_
    unfold OpGoes
    go_simp
    exact hK _ _ ⟨⟨cB, cC, c_p, ⟨_, _, _, _, c_r⟩⟩, ⟨n_4, rfl, hp4⟩, But.refl _ _⟩
  · intro σ W' hC hR
    obtain ⟨cB, cC, c_p, ⟨r0, r1, r2, r3, c_r⟩⟩ := hC
    have e6 : σ 6 = _ := hR 6 (by decide)
    obtain ⟨n, e7, hn⟩ : ∃ n : Int, σ 7 = .int .i64 n ∧ 2 ≤ n ∧ n < 6 := hR 7 (by decide)
    have hbox : BoxAt W' w.heap.size #[.bool a, .int .i64 b, .bool c, .int .i64 d] 25 := hR 5 (by decide)
    clear hR
    simp only [lexAll]
    go_simp
    have kx := hbox.cell
    go_wp2
    refine bodyPost_ret (v := .tuple #[.agg #[.bool a, .int .i64 b, .bool c, .int .i64 d], .int .i64 t, .int .i64 n]) (by simp [results, Try.results12, go_sem, kx]) rfl ⟨_, _, _, _, t, n, rfl, ht0, ht1, hn.1, hn.2, cB⟩

def DrawnS (w : World) (e : Ending) (w' : World) : Prop :=
  ∃ (a c a1 c1 a2 c2 : Bool) (b d b1 d1 b2 d2 : Int), e = .returned (.tuple #[.agg #[.bool a, .int .i64 b, .bool c, .int .i64 d], .agg #[.bool a1, .int .i64 b1, .bool c1, .int .i64 d1], .agg #[.bool a2, .int .i64 b2, .bool c2, .int .i64 d2]]) ∧ Below w.heap.size w w'

def dswR (k g2 g3 g4 : Nat) (a c a1 c1 : Bool) (b d b1 d1 : Int) (j : Nat) (σ : Nat → Value) (w : World) : Prop :=
  match j with
  | 0 => σ 0 = .agg #[.bool a, .int .i64 b, .bool c, .int .i64 d]
  | 1 => σ 1 = .agg #[.bool a1, .int .i64 b1, .bool c1, .int .i64 d1]
  | 2 => σ 2 = .pointer (some ⟨k, 0, none⟩)
  | 3 => ∃ (a2 c2 : Bool) (b2 d2 : Int), σ 3 = .agg #[.bool a2, .int .i64 b2, .bool c2, .int .i64 d2] ∧ True
  | 4 => BoxAt w g2 #[.bool a, .int .i64 b, .bool c, .int .i64 d] 25
  | 5 => BoxAt w g3 #[.bool a1, .int .i64 b1, .bool c1, .int .i64 d1] 25
  | 6 => ∃ (a2 c2 : Bool) (b2 d2 : Int), BoxAt w g4 #[.bool a2, .int .i64 b2, .bool c2, .int .i64 d2] 25
  | _ => True

def dswS (j : Nat) : List Nat := [[0], [1], [2], [3], [4], [5], [6]].getD j [j]
def dswK (j : Nat) : Nat := [0, 0, 0, 0, 1, 1, 1].getD j 0

set_option maxHeartbeats 2000000 in
theorem drawSwapped_any (a0 : Option Addr) (len cap : Nat) (w : World) (hc : CodeOk w.heap.size w a0 len) :
    Calls Try.prog 9 #[.slice a0 len cap] w (DrawnS w) := by
  go_enter Try.func9, Try.ntmps9
  go_wp2_with fail
  refine calls_abs (fun W => Below w.heap.size w W ∧ w.heap.size + 3 ≤ W.heap.size ∧ (∃ r0 r1 r2 r3, BoxAt W w.heap.size #[r0, r1, r2, r3] 25) ∧ (∃ s0 s1 s2 s3, BoxAt W (w.heap.size + 1) #[s0, s1, s2, s3] 25) ∧ (∃ u0 u1 u2 u3, BoxAt W (w.heap.size + 1 + 1) #[u0, u1, u2, u3] 25)) ⟨(((Below.refl _ _).alloc (Nat.le_refl _) _).alloc (by simp) _).alloc (by simp; omega) _, by simp, ?_, ?_, ?_⟩ ?_
  · exact ⟨_, _, _, _, ((BoxAt.new _ _ _).alloc _).alloc _⟩
  · have := (BoxAt.new (w.alloc (.cells #[.bool false, .int .i64 0, .bool false, .int .i64 0] 25)) #[.bool false, .int .i64 0, .bool false, .int .i64 0] 25).alloc (.cells #[.bool false, .int .i64 0, .bool false, .int .i64 0] 25)
    exact ⟨_, _, _, _, by simpa using this⟩
  · have := (BoxAt.new ((w.alloc (.cells #[.bool false, .int .i64 0, .bool false, .int .i64 0] 25)).alloc (.cells #[.bool false, .int .i64 0, .bool false, .int .i64 0] 25)) #[.bool false, .int .i64 0, .bool false, .int .i64 0] 25)
    exact ⟨_, _, _, _, by simpa using this⟩
  rintro W0 ⟨hB0, hs0, ⟨r0, r1, r2, r3, hr0⟩, ⟨s0, s1, s2, s3, hs1⟩, ⟨u0, u1, u2, u3, hu0⟩⟩
  refine (l1New_any w.heap.size a0 len cap _ (hc.below hB0)).mono ?_
  rintro e w1 ⟨h, rfl, rfl⟩
  generalize hk : W0.heap.size = k at *
  go_wp2_with fail
  refine calls_abs (fun W => Below w.heap.size w W ∧ CurAt W k a0 len cap ∧ (∃ r0 r1 r2 r3, BoxAt W w.heap.size #[r0, r1, r2, r3] 25) ∧ (∃ s0 s1 s2 s3, BoxAt W (w.heap.size + 1) #[s0, s1, s2, s3] 25) ∧ (∃ u0 u1 u2 u3, BoxAt W (w.heap.size + 1 + 1) #[u0, u1, u2, u3] 25)) ⟨hB0.alloc hB0.size _, ⟨0, h, Nat.zero_le _, by rw [← hk]; exact BoxAt.new _ _ _⟩, ⟨_, _, _, _, hr0.alloc _⟩, ⟨_, _, _, _, hs1.alloc _⟩, ⟨_, _, _, _, hu0.alloc _⟩⟩ ?_
  clear hB0 hr0 hs1 hu0
  rintro W1 ⟨hB1, hcur1, ⟨r0, r1, r2, r3, hr1⟩, ⟨s0, s1, s2, s3, hs1⟩, ⟨u0, u1, u2, u3, hu1⟩⟩
  refine (l1DrawAny_any w.heap.size k a0 len cap _ (hc.below hB1) (by omega) hB1.size hcur1).mono ?_
  rintro e w2 ⟨a, c, b, d, rfl, hB2, hcur2⟩
  replace hr1 := hB2.box hr1 (by omega)
  replace hs1 := hB2.box hs1 (by omega)
  replace hu1 := hB2.box hu1 (by omega)
  replace hB1 := hB1.trans (hB2.below (by omega) hB1.size)
  have lk2 := hcur2.lt
  generalize hg5 : w2.heap.size = g5 at *
  go_wp2_with fail
  refine calls_abs (fun W => Below w.heap.size w W ∧ CurAt W k a0 len cap ∧ BoxAt W g5 #[.bool a, .int .i64 b, .bool c, .int .i64 d] 25 ∧ BoxAt W (g5 + 1) #[.bool a, .int .i64 b, .bool c, .int .i64 d] 25 ∧ (∃ r0 r1 r2 r3, BoxAt W w.heap.size #[r0, r1, r2, r3] 25) ∧ (∃ s0 s1 s2 s3, BoxAt W (w.heap.size + 1) #[s0, s1, s2, s3] 25) ∧ (∃ u0 u1 u2 u3, BoxAt W (w.heap.size + 1 + 1) #[u0, u1, u2, u3] 25)) ⟨(hB1.alloc hB1.size _).alloc (by simp; omega) _, (hcur2.alloc _).alloc _, ?_, ?_, ⟨_, _, _, _, (hr1.alloc _).alloc _⟩, ⟨_, _, _, _, (hs1.alloc _).alloc _⟩, ⟨_, _, _, _, (hu1.alloc _).alloc _⟩⟩ ?_
  · rw [← hg5]; exact (BoxAt.new _ _ _).alloc _
  · rw [← hg5]; have := BoxAt.new (w2.alloc (.cells #[.bool a, .int .i64 b, .bool c, .int .i64 d] 25)) #[.bool a, .int .i64 b, .bool c, .int .i64 d] 25; simpa using this
  clear hB1 hcur1 hB2 hcur2 hr1 hs1 hu1
  rintro W3 ⟨hB3, hcur3, hp3, hq3, ⟨r0, r1, r2, r3, hr3⟩, ⟨s0, s1, s2, s3, hs3⟩, ⟨u0, u1, u2, u3, hu3⟩⟩
  have lq3 := hq3.lt
  refine (l1Once_any w.heap.size k a0 len cap _ _ (hc.below hB3) (by omega) hB3.size hcur3 (by omega)).mono ?_
  rintro e w4 ⟨z, rfl, hB4, hcur4⟩
  replace hp3 := hB4.box hp3 (by omega)
  replace hq3 := hB4.box hq3 (by omega)
  replace hr3 := hB4.box hr3 (by omega)
  replace hs3 := hB4.box hs3 (by omega)
  replace hu3 := hB4.box hu3 (by omega)
  replace hB4 := hB3.trans (hB4.below (by omega) hB3.size)
  clear hB3 hcur3
  generalize hg6 : g5 + 1 = g6 at *
  have lg6 : g5 < g6 := by omega
  clear hg6
  cases z
  · have hW3 : Below w.heap.size w w4 ∧ CurAt w4 k a0 len cap ∧ BoxAt w4 g5 #[.bool a, .int .i64 b, .bool c, .int .i64 d] 25 ∧ BoxAt w4 g6 #[.bool a, .int .i64 b, .bool c, .int .i64 d] 25 ∧ (∃ r0 r1 r2 r3, BoxAt w4 w.heap.size #[r0, r1, r2, r3] 25) ∧ (∃ s0 s1 s2 s3, BoxAt w4 (w.heap.size + 1) #[s0, s1, s2, s3] 25) ∧ (∃ u0 u1 u2 u3, BoxAt w4 (w.heap.size + 1 + 1) #[u0, u1, u2, u3] 25) := ⟨hB4, hcur4, hp3, hq3, ⟨_, _, _, _, hr3⟩, ⟨_, _, _, _, hs3⟩, ⟨_, _, _, _, hu3⟩⟩
    clear hB4 hcur4 hp3 hq3 hr3 hs3 hu3
    go_wp2_with fail
    refine wp_region_le (fun w w' => But k w w') (fun _ _ h => h.size) (fun W' => Below w.heap.size w W' ∧ CurAt W' k a0 len cap ∧ BoxAt W' g5 #[.bool a, .int .i64 b, .bool c, .int .i64 d] 25 ∧ BoxAt W' g6 #[.bool a, .int .i64 b, .bool c, .int .i64 d] 25 ∧ (∃ r0 r1 r2 r3, BoxAt W' w.heap.size #[r0, r1, r2, r3] 25) ∧ (∃ s0 s1 s2 s3, BoxAt W' (w.heap.size + 1) #[s0, s1, s2, s3] 25) ∧ (∃ u0 u1 u2 u3, BoxAt W' (w.heap.size + 1 + 1) #[u0, u1, u2, u3] 25)) (dswR k w.heap.size (w.heap.size + 1) (w.heap.size + 1 + 1) a c a c b d b d) dswK dswS (by kernel_rfl) (by kernel_rfl) ?_ ?_ ?_
      (.grow rfl ?_ <| .grow rfl ?_ <| .grow rfl ?_ <| .grow rfl ?_ <| .store rfl ?_ <| .store rfl ?_ <| .store rfl ?_ <| .nil) ?_
    · intro j σ τ w h hR
      match j, h, hR with
      | 0, h, hR => exact (h 0 (by decide)).symm.trans hR
      | 1, h, hR => exact (h 1 (by decide)).symm.trans hR
      | 2, h, hR => exact (h 2 (by decide)).symm.trans hR
      | 3, h, hR => obtain ⟨a2, c2, b2, d2, e, hp⟩ := hR; exact ⟨a2, c2, b2, d2, (h 3 (by decide)).symm.trans e, hp⟩
      | 4, _, hR => exact hR
      | 5, _, hR => exact hR
      | 6, _, hR => exact hR
      | _ + 7, _, _ => exact trivial
    · intro j σ w w' hb hR
      match j, hR with
      | 0, hR => exact hR
      | 1, hR => exact hR
      | 2, hR => exact hR
      | 3, hR => exact hR
      | 4, hR => have hx := hR; exact But.box hb hx (by omega)
      | 5, hR => have hx := hR; exact But.box hb hx (by omega)
      | 6, hR => obtain ⟨a2, c2, b2, d2, hx⟩ := hR; exact ⟨a2, c2, b2, d2, But.box hb hx (by omega)⟩
      | _ + 7, _ => exact trivial
    · exact ⟨Below.drew hW3.1, hW3.2⟩
    · -- 0: Op.load 25 t6
      intro σ W' hC hw
      clear hw
      obtain ⟨cB, cC, c_p, c_q, ⟨r0, r1, r2, r3, c_r⟩, ⟨s0, s1, s2, s3, c_s⟩, ⟨u0, u1, u2, u3, c_u⟩⟩ := hC
      have kp := c_p.cell
      refine OpGoes.step fun K hK => ?_
      unfold OpGoes
      go_simp
      exact hK _ _ ⟨⟨cB, cC, c_p, c_q, ⟨_, _, _, _, c_r⟩, ⟨_, _, _, _, c_s⟩, ⟨_, _, _, _, c_u⟩⟩, rfl, But.refl _ _⟩
    · -- 1: Op.load 25 t7
      intro σ W' hC hw
      clear hw
      obtain ⟨cB, cC, c_p, c_q, ⟨r0, r1, r2, r3, c_r⟩, ⟨s0, s1, s2, s3, c_s⟩, ⟨u0, u1, u2, u3, c_u⟩⟩ := hC
      have kq := c_q.cell
      refine OpGoes.step fun K hK => ?_
      unfold OpGoes
      go_simp
      exact hK _ _ ⟨⟨cB, cC, c_p, c_q, ⟨_, _, _, _, c_r⟩, ⟨_, _, _, _, c_s⟩, ⟨_, _, _, _, c_u⟩⟩, rfl, But.refl _ _⟩
    · -- 2: Op.move t5
      intro σ W' hC hw
      clear hw
      obtain ⟨cB, cC, c_p, c_q, ⟨r0, r1, r2, r3, c_r⟩, ⟨s0, s1, s2, s3, c_s⟩, ⟨u0, u1, u2, u3, c_u⟩⟩ := hC
      refine OpGoes.step fun K hK => ?_
      unfold OpGoes
      go_simp
      exact hK _ _ ⟨⟨cB, cC, c_p, c_q, ⟨_, _, _, _, c_r⟩, ⟨_, _, _, _, c_s⟩, ⟨_, _, _, _, c_u⟩⟩, rfl, But.refl _ _⟩
    · -- 3: Op.call { value (Operand.func 23), args := #[t19], argTypes := #[44] }
      intro σ W' hC hw
      have e2 : σ 2 = .pointer (some ⟨k, 0, none⟩) := hw 2 (by kernel_rfl)
      clear hw
      obtain ⟨cB, cC, c_p, c_q, ⟨r0, r1, r2, r3, c_r⟩, ⟨s0, s1, s2, s3, c_s⟩, ⟨u0, u1, u2, u3, c_u⟩⟩ := hC
      refine OpGoes.step fun K hK => ?_
      unfold OpGoes
      go_simp
      refine (l1DrawAny_any w.heap.size k a0 len cap _ (hc.below cB) (by omega) cB.size cC).mono ?_
      rintro e w1 ⟨x0, x1, x2, x3, rfl, hB1, hcur1⟩
      exact ⟨_, rfl, hK _ _ ⟨⟨cB.trans (hB1.below (by omega) (Nat.le_trans (by omega) cB.size)), hcur1, hB1.box c_p (by omega), hB1.box c_q (by omega), ⟨_, _, _, _, hB1.box c_r (by omega)⟩, ⟨_, _, _, _, hB1.box c_s (by omega)⟩, ⟨_, _, _, _, hB1.box c_u (by omega)⟩⟩, ⟨x0, x1, x2, x3, rfl, trivial⟩, hB1⟩⟩
    · -- 4: Op.store 25 t2 t17
      intro σ W' hC hw hne
      have e0 : σ 0 = .agg #[.bool a, .int .i64 b, .bool c, .int .i64 d] := hw 0 (by kernel_rfl)
      clear hw hne
      obtain ⟨cB, cC, c_p, c_q, ⟨r0, r1, r2, r3, c_r⟩, ⟨s0, s1, s2, s3, c_s⟩, ⟨u0, u1, u2, u3, c_u⟩⟩ := hC
      have kx := c_r.cell
      have kf := c_r.frozen
      refine OpGoes.step fun K hK => ?_
      unfold OpGoes
      go_simp
      have hset := ((((c_r.set 0 (.bool a)).set 1 (.int .i64 b)).set 2 (.bool c)).set 3 (.int .i64 d))
      simp only [List.setIfInBounds_toArray, List.set_cons_zero, List.set_cons_succ] at hset
      refine hK _ _ ⟨⟨(Below.setCell (Below.setCell (Below.setCell (Below.setCell cB (by dsimp only; omega) _) (by dsimp only; omega) _) (by dsimp only; omega) _) (by dsimp only; omega) _), ((((cC.set_ne (by omega) 0 _).set_ne (by omega) 1 _).set_ne (by omega) 2 _).set_ne (by omega) 3 _), ((((c_p.set_ne (by omega) 0 _).set_ne (by omega) 1 _).set_ne (by omega) 2 _).set_ne (by omega) 3 _), ((((c_q.set_ne (by omega) 0 _).set_ne (by omega) 1 _).set_ne (by omega) 2 _).set_ne (by omega) 3 _), ⟨_, _, _, _, hset⟩, ⟨_, _, _, _, ((((c_s.set_ne (by omega) 0 _).set_ne (by omega) 1 _).set_ne (by omega) 2 _).set_ne (by omega) 3 _)⟩, ⟨_, _, _, _, ((((c_u.set_ne (by omega) 0 _).set_ne (by omega) 1 _).set_ne (by omega) 2 _).set_ne (by omega) 3 _)⟩⟩, hset, by simp, fun j hj hn hR => ?_⟩
      match j, hj, hn, hR with
      | 0, _, _, hR => exact hR
      | 1, _, _, hR => exact hR
      | 2, _, _, hR => exact hR
      | 3, _, _, hR => exact hR
      | 4, hj, _, _ => exact absurd rfl hj
      | 5, _, _, hR => have hx := hR; exact ((((hx.set_ne (by omega) 0 _).set_ne (by omega) 1 _).set_ne (by omega) 2 _).set_ne (by omega) 3 _)
      | 6, _, _, hR => obtain ⟨a2, c2, b2, d2, hx⟩ := hR; exact ⟨a2, c2, b2, d2, ((((hx.set_ne (by omega) 0 _).set_ne (by omega) 1 _).set_ne (by omega) 2 _).set_ne (by omega) 3 _)⟩
      | _ + 7, _, _, _ => exact trivial
    · -- 5: Op.store 25 t3 t18
      intro σ W' hC hw hne
      have e1 : σ 1 = .agg #[.bool a, .int .i64 b, .bool c, .int .i64 d] := hw 1 (by kernel_rfl)
      clear hw hne
      obtain ⟨cB, cC, c_p, c_q, ⟨r0, r1, r2, r3, c_r⟩, ⟨s0, s1, s2, s3, c_s⟩, ⟨u0, u1, u2, u3, c_u⟩⟩ := hC
      have kx := c_s.cell
      have kf := c_s.frozen
      refine OpGoes.step fun K hK => ?_
      unfold OpGoes
      go_simp
      have hset := ((((c_s.set 0 (.bool a)).set 1 (.int .i64 b)).set 2 (.bool c)).set 3 (.int .i64 d))
      simp only [List.setIfInBounds_toArray, List.set_cons_zero, List.set_cons_succ] at hset
      refine hK _ _ ⟨⟨(Below.setCell (Below.setCell (Below.setCell (Below.setCell cB (by dsimp only; omega) _) (by dsimp only; omega) _) (by dsimp only; omega) _) (by dsimp only; omega) _), ((((cC.set_ne (by omega) 0 _).set_ne (by omega) 1 _).set_ne (by omega) 2 _).set_ne (by omega) 3 _), ((((c_p.set_ne (by omega) 0 _).set_ne (by omega) 1 _).set_ne (by omega) 2 _).set_ne (by omega) 3 _), ((((c_q.set_ne (by omega) 0 _).set_ne (by omega) 1 _).set_ne (by omega) 2 _).set_ne (by omega) 3 _), ⟨_, _, _, _, ((((c_r.set_ne (by omega) 0 _).set_ne (by omega) 1 _).set_ne (by omega) 2 _).set_ne (by omega) 3 _)⟩, ⟨_, _, _, _, hset⟩, ⟨_, _, _, _, ((((c_u.set_ne (by omega) 0 _).set_ne (by omega) 1 _).set_ne (by omega) 2 _).set_ne (by omega) 3 _)⟩⟩, hset, by simp, fun j hj hn hR => ?_⟩
      match j, hj, hn, hR with
      | 0, _, _, hR => exact hR
      | 1, _, _, hR => exact hR
      | 2, _, _, hR => exact hR
      | 3, _, _, hR => exact hR
      | 4, _, _, hR => have hx := hR; exact ((((hx.set_ne (by omega) 0 _).set_ne (by omega) 1 _).set_ne (by omega) 2 _).set_ne (by omega) 3 _)
      | 5, hj, _, _ => exact absurd rfl hj
      | 6, _, _, hR => obtain ⟨a2, c2, b2, d2, hx⟩ := hR; exact ⟨a2, c2, b2, d2, ((((hx.set_ne (by omega) 0 _).set_ne (by omega) 1 _).set_ne (by omega) 2 _).set_ne (by omega) 3 _)⟩
      | _ + 7, _, _, _ => exact trivial
    · -- 6: Op.store 25 t4 t20
      intro σ W' hC hw hne
      obtain ⟨a2_3, c2_3, b2_3, d2_3, e3, hp3⟩ : ∃ (a2 c2 : Bool) (b2 d2 : Int), σ 3 = .agg #[.bool a2, .int .i64 b2, .bool c2, .int .i64 d2] ∧ True := hw 3 (by kernel_rfl)
      clear hw hne
      obtain ⟨cB, cC, c_p, c_q, ⟨r0, r1, r2, r3, c_r⟩, ⟨s0, s1, s2, s3, c_s⟩, ⟨u0, u1, u2, u3, c_u⟩⟩ := hC
      have kx := c_u.cell
      have kf := c_u.frozen
      refine OpGoes.step fun K hK => ?_
      unfold OpGoes
      go_simp
      have hset := ((((c_u.set 0 (.bool a2_3)).set 1 (.int .i64 b2_3)).set 2 (.bool c2_3)).set 3 (.int .i64 d2_3))
      simp only [List.setIfInBounds_toArray, List.set_cons_zero, List.set_cons_succ] at hset
      refine hK _ _ ⟨⟨(Below.setCell (Below.setCell (Below.setCell (Below.setCell cB (by dsimp only; omega) _) (by dsimp only; omega) _) (by dsimp only; omega) _) (by dsimp only; omega) _), ((((cC.set_ne (by omega) 0 _).set_ne (by omega) 1 _).set_ne (by omega) 2 _).set_ne (by omega) 3 _), ((((c_p.set_ne (by omega) 0 _).set_ne (by omega) 1 _).set_ne (by omega) 2 _).set_ne (by omega) 3 _), ((((c_q.set_ne (by omega) 0 _).set_ne (by omega) 1 _).set_ne (by omega) 2 _).set_ne (by omega) 3 _), ⟨_, _, _, _, ((((c_r.set_ne (by omega) 0 _).set_ne (by omega) 1 _).set_ne (by omega) 2 _).set_ne (by omega) 3 _)⟩, ⟨_, _, _, _, ((((c_s.set_ne (by omega) 0 _).set_ne (by omega) 1 _).set_ne (by omega) 2 _).set_ne (by omega) 3 _)⟩, ⟨_, _, _, _, hset⟩⟩, ⟨a2_3, c2_3, b2_3, d2_3, hset⟩, by simp, fun j hj hn hR => ?_⟩
      match j, hj, hn, hR with
      | 0, _, _, hR => exact hR
      | 1, _, _, hR => exact hR
      | 2, _, _, hR => exact hR
      | 3, _, _, hR => exact hR
      | 4, _, _, hR => have hx := hR; exact ((((hx.set_ne (by omega) 0 _).set_ne (by omega) 1 _).set_ne (by omega) 2 _).set_ne (by omega) 3 _)
      | 5, _, _, hR => have hx := hR; exact ((((hx.set_ne (by omega) 0 _).set_ne (by omega) 1 _).set_ne (by omega) 2 _).set_ne (by omega) 3 _)
      | 6, hj, _, _ => exact absurd rfl hj
      | _ + 7, _, _, _ => exact trivial
    · intro σ W' hC hR
      obtain ⟨cB, cC, c_p, c_q, ⟨r0, r1, r2, r3, c_r⟩, ⟨s0, s1, s2, s3, c_s⟩, ⟨u0, u1, u2, u3, c_u⟩⟩ := hC
      have hbox0 : BoxAt W' w.heap.size #[.bool a, .int .i64 b, .bool c, .int .i64 d] 25 := hR 4 (by decide)
      have hbox1 : BoxAt W' (w.heap.size + 1) #[.bool a, .int .i64 b, .bool c, .int .i64 d] 25 := hR 5 (by decide)
      obtain ⟨a2, c2, b2, d2, hbox2⟩ : ∃ (a2 c2 : Bool) (b2 d2 : Int), BoxAt W' (w.heap.size + 1 + 1) #[.bool a2, .int .i64 b2, .bool c2, .int .i64 d2] 25 := hR 6 (by decide)
      clear hR
      simp only [lexAll]
      go_simp
      have kx := hbox0.cell
      have ky := hbox1.cell
      have kz := hbox2.cell
      go_wp2
      refine bodyPost_ret (v := .tuple #[.agg #[.bool a, .int .i64 b, .bool c, .int .i64 d], .agg #[.bool a, .int .i64 b, .bool c, .int .i64 d], .agg #[.bool a2, .int .i64 b2, .bool c2, .int .i64 d2]]) (by simp [results, Try.results9, go_sem, kx, ky, kz]) rfl ⟨_, _, _, _, _, _, _, _, _, _, _, _, rfl, cB⟩
  · go_wp2_with fail
    refine (l1DrawAny_any w.heap.size k a0 len cap _ (hc.below hB4) (by omega) hB4.size hcur4).mono ?_
    rintro e w5 ⟨a1, c1, b1, d1, rfl, hB5, hcur5⟩
    replace hq3 := hB5.box hq3 (by omega)
    replace hp3 := hB5.box hp3 (by omega)
    replace hr3 := hB5.box hr3 (by omega)
    replace hs3 := hB5.box hs3 (by omega)
    replace hu3 := hB5.box hu3 (by omega)
    replace hB5 := hB4.trans (hB5.below (by omega) hB4.size)
    have kq := hq3.cell
    have fq := hq3.frozen
    go_wp2_with fail
    refine wp_abs (fun W => Below w.heap.size w W ∧ CurAt W k a0 len cap ∧ BoxAt W g5 #[.bool a, .int .i64 b, .bool c, .int .i64 d] 25 ∧ BoxAt W g6 #[.bool a1, .int .i64 b1, .bool c1, .int .i64 d1] 25 ∧ (∃ r0 r1 r2 r3, BoxAt W w.heap.size #[r0, r1, r2, r3] 25) ∧ (∃ s0 s1 s2 s3, BoxAt W (w.heap.size + 1) #[s0, s1, s2, s3] 25) ∧ (∃ u0 u1 u2 u3, BoxAt W (w.heap.size + 1 + 1) #[u0, u1, u2, u3] 25)) ⟨(Below.setCell (Below.setCell (Below.setCell (Below.setCell hB5 (by dsimp only; omega) _) (by dsimp only; omega) _) (by dsimp only; omega) _) (by dsimp only; omega) _), ((((hcur5.set_ne (by omega) 0 _).set_ne (by omega) 1 _).set_ne (by omega) 2 _).set_ne (by omega) 3 _), ((((hp3.set_ne (by omega) 0 _).set_ne (by omega) 1 _).set_ne (by omega) 2 _).set_ne (by omega) 3 _), ?_, ⟨_, _, _, _, ((((hr3.set_ne (by omega) 0 _).set_ne (by omega) 1 _).set_ne (by omega) 2 _).set_ne (by omega) 3 _)⟩, ⟨_, _, _, _, ((((hs3.set_ne (by omega) 0 _).set_ne (by omega) 1 _).set_ne (by omega) 2 _).set_ne (by omega) 3 _)⟩, ⟨_, _, _, _, ((((hu3.set_ne (by omega) 0 _).set_ne (by omega) 1 _).set_ne (by omega) 2 _).set_ne (by omega) 3 _)⟩⟩ ?_
    · have := (((hq3.set 0 (.bool a1)).set 1 (.int .i64 b1)).set 2 (.bool c1)).set 3 (.int .i64 d1)
      simpa using this
    clear kq fq hq3 hp3 hr3 hs3 hu3 hB5 hB4 hcur4 hcur5
    rintro W6 hW3
    refine wp_region_le (fun w w' => But k w w') (fun _ _ h => h.size) (fun W' => Below w.heap.size w W' ∧ CurAt W' k a0 len cap ∧ BoxAt W' g5 #[.bool a, .int .i64 b, .bool c, .int .i64 d] 25 ∧ BoxAt W' g6 #[.bool a1, .int .i64 b1, .bool c1, .int .i64 d1] 25 ∧ (∃ r0 r1 r2 r3, BoxAt W' w.heap.size #[r0, r1, r2, r3] 25) ∧ (∃ s0 s1 s2 s3, BoxAt W' (w.heap.size + 1) #[s0, s1, s2, s3] 25) ∧ (∃ u0 u1 u2 u3, BoxAt W' (w.heap.size + 1 + 1) #[u0, u1, u2, u3] 25)) (dswR k w.heap.size (w.heap.size + 1) (w.heap.size + 1 + 1) a c a1 c1 b d b1 d1) dswK dswS (by kernel_rfl) (by kernel_rfl) ?_ ?_ ?_
      (.grow rfl ?_ <| .grow rfl ?_ <| .grow rfl ?_ <| .grow rfl ?_ <| .store rfl ?_ <| .store rfl ?_ <| .store rfl ?_ <| .nil) ?_
    · intro j σ τ w h hR
      match j, h, hR with
      | 0, h, hR => exact (h 0 (by decide)).symm.trans hR
      | 1, h, hR => exact (h 1 (by decide)).symm.trans hR
      | 2, h, hR => exact (h 2 (by decide)).symm.trans hR
      | 3, h, hR => obtain ⟨a2, c2, b2, d2, e, hp⟩ := hR; exact ⟨a2, c2, b2, d2, (h 3 (by decide)).symm.trans e, hp⟩
      | 4, _, hR => exact hR
      | 5, _, hR => exact hR
      | 6, _, hR => exact hR
      | _ + 7, _, _ => exact trivial
    · intro j σ w w' hb hR
      match j, hR with
      | 0, hR => exact hR
      | 1, hR => exact hR
      | 2, hR => exact hR
      | 3, hR => exact hR
      | 4, hR => have hx := hR; exact But.box hb hx (by omega)
      | 5, hR => have hx := hR; exact But.box hb hx (by omega)
      | 6, hR => obtain ⟨a2, c2, b2, d2, hx⟩ := hR; exact ⟨a2, c2, b2, d2, But.box hb hx (by omega)⟩
      | _ + 7, _ => exact trivial
    · exact ⟨Below.drew hW3.1, hW3.2⟩
    · -- 0: Op.load 25 t6
      intro σ W' hC hw
      clear hw
      obtain ⟨cB, cC, c_p, c_q, ⟨r0, r1, r2, r3, c_r⟩, ⟨s0, s1, s2, s3, c_s⟩, ⟨u0, u1, u2, u3, c_u⟩⟩ := hC
      have kp := c_p.cell
      refine OpGoes.step fun K hK => ?_
      unfold OpGoes
      go_simp
      exact hK _ _ ⟨⟨cB, cC, c_p, c_q, ⟨_, _, _, _, c_r⟩, ⟨_, _, _, _, c_s⟩, ⟨_, _, _, _, c_u⟩⟩, rfl, But.refl _ _⟩
    · -- 1: Op.load 25 t7
      intro σ W' hC hw
      clear hw
      obtain ⟨cB, cC, c_p, c_q, ⟨r0, r1, r2, r3, c_r⟩, ⟨s0, s1, s2, s3, c_s⟩, ⟨u0, u1, u2, u3, c_u⟩⟩ := hC
      have kq := c_q.cell
      refine OpGoes.step fun K hK => ?_
      unfold OpGoes
      go_simp
      exact hK _ _ ⟨⟨cB, cC, c_p, c_q, ⟨_, _, _, _, c_r⟩, ⟨_, _, _, _, c_s⟩, ⟨_, _, _, _, c_u⟩⟩, rfl, But.refl _ _⟩
    · -- 2: Op.move t5
      intro σ W' hC hw
      clear hw
      obtain ⟨cB, cC, c_p, c_q, ⟨r0, r1, r2, r3, c_r⟩, ⟨s0, s1, s2, s3, c_s⟩, ⟨u0, u1, u2, u3, c_u⟩⟩ := hC
      refine OpGoes.step fun K hK => ?_
      unfold OpGoes
      go_simp
      exact hK _ _ ⟨⟨cB, cC, c_p, c_q, ⟨_, _, _, _, c_r⟩, ⟨_, _, _, _, c_s⟩, ⟨_, _, _, _, c_u⟩⟩, rfl, But.refl _ _⟩
    · -- 3: Op.call { value (Operand.func 23), args := #[t19], argTypes := #[44] }
      intro σ W' hC hw
      have e2 : σ 2 = .pointer (some ⟨k, 0, none⟩) := hw 2 (by kernel_rfl)
      clear hw
      obtain ⟨cB, cC, c_p, c_q, ⟨r0, r1, r2, r3, c_r⟩, ⟨s0, s1, s2, s3, c_s⟩, ⟨u0, u1, u2, u3, c_u⟩⟩ := hC
      refine OpGoes.step fun K hK => ?_
      unfold OpGoes
      go_simp
      refine (l1DrawAny_any w.heap.size k a0 len cap _ (hc.below cB) (by omega) cB.size cC).mono ?_
      rintro e w1 ⟨x0, x1, x2, x3, rfl, hB1, hcur1⟩
      exact ⟨_, rfl, hK _ _ ⟨⟨cB.trans (hB1.below (by omega) (Nat.le_trans (by omega) cB.size)), hcur1, hB1.box c_p (by omega), hB1.box c_q (by omega), ⟨_, _, _, _, hB1.box c_r (by omega)⟩, ⟨_, _, _, _, hB1.box c_s (by omega)⟩, ⟨_, _, _, _, hB1.box c_u (by omega)⟩⟩, ⟨x0, x1, x2, x3, rfl, trivial⟩, hB1⟩⟩
    · -- 4: Op.store 25 t2 t17
      intro σ W' hC hw hne
      have e0 : σ 0 = .agg #[.bool a, .int .i64 b, .bool c, .int .i64 d] := hw 0 (by kernel_rfl)
      clear hw hne
      obtain ⟨cB, cC, c_p, c_q, ⟨r0, r1, r2, r3, c_r⟩, ⟨s0, s1, s2, s3, c_s⟩, ⟨u0, u1, u2, u3, c_u⟩⟩ := hC
      have kx := c_r.cell
      have kf := c_r.frozen
      refine OpGoes.step fun K hK => ?_
      unfold OpGoes
      go_simp
      have hset := ((((c_r.set 0 (.bool a)).set 1 (.int .i64 b)).set 2 (.bool c)).set 3 (.int .i64 d))
      simp only [List.setIfInBounds_toArray, List.set_cons_zero, List.set_cons_succ] at hset
      refine hK _ _ ⟨⟨(Below.setCell (Below.setCell (Below.setCell (Below.setCell cB (by dsimp only; omega) _) (by dsimp only; omega) _) (by dsimp only; omega) _) (by dsimp only; omega) _), ((((cC.set_ne (by omega) 0 _).set_ne (by omega) 1 _).set_ne (by omega) 2 _).set_ne (by omega) 3 _), ((((c_p.set_ne (by omega) 0 _).set_ne (by omega) 1 _).set_ne (by omega) 2 _).set_ne (by omega) 3 _), ((((c_q.set_ne (by omega) 0 _).set_ne (by omega) 1 _).set_ne (by omega) 2 _).set_ne (by omega) 3 _), ⟨_, _, _, _, hset⟩, ⟨_, _, _, _, ((((c_s.set_ne (by omega) 0 _).set_ne (by omega) 1 _).set_ne (by omega) 2 _).set_ne (by omega) 3 _)⟩, ⟨_, _, _, _, ((((c_u.set_ne (by omega) 0 _).set_ne (by omega) 1 _).set_ne (by omega) 2 _).set_ne (by omega) 3 _)⟩⟩, hset, by simp, fun j hj hn hR => ?_⟩
      match j, hj, hn, hR with
      | 0, _, _, hR => exact hR
      | 1, _, _, hR => exact hR
      | 2, _, _, hR => exact hR
      | 3, _, _, hR => exact hR
      | 4, hj, _, _ => exact absurd rfl hj
      | 5, _, _, hR => have hx := hR; exact ((((hx.set_ne (by omega) 0 _).set_ne (by omega) 1 _).set_ne (by omega) 2 _).set_ne (by omega) 3 _)
      | 6, _, _, hR => obtain ⟨a2, c2, b2, d2, hx⟩ := hR; exact ⟨a2, c2, b2, d2, ((((hx.set_ne (by omega) 0 _).set_ne (by omega) 1 _).set_ne (by omega) 2 _).set_ne (by omega) 3 _)⟩
      | _ + 7, _, _, _ => exact trivial
    · -- 5: Op.store 25 t3 t18
      intro σ W' hC hw hne
      have e1 : σ 1 = .agg #[.bool a1, .int .i64 b1, .bool c1, .int .i64 d1] := hw 1 (by kernel_rfl)
      clear hw hne
      obtain ⟨cB, cC, c_p, c_q, ⟨r0, r1, r2, r3, c_r⟩, ⟨s0, s1, s2, s3, c_s⟩, ⟨u0, u1, u2, u3, c_u⟩⟩ := hC
      have kx := c_s.cell
      have kf := c_s.frozen
      refine OpGoes.step fun K hK => ?_
      unfold OpGoes
      go_simp
      have hset := ((((c_s.set 0 (.bool a1)).set 1 (.int .i64 b1)).set 2 (.bool c1)).set 3 (.int .i64 d1))
      simp only [List.setIfInBounds_toArray, List.set_cons_zero, List.set_cons_succ] at hset
      refine hK _ _ ⟨⟨(Below.setCell (Below.setCell (Below.setCell (Below.setCell cB (by dsimp only; omega) _) (by dsimp only; omega) _) (by dsimp only; omega) _) (by dsimp only; omega) _), ((((cC.set_ne (by omega) 0 _).set_ne (by omega) 1 _).set_ne (by omega) 2 _).set_ne (by omega) 3 _), ((((c_p.set_ne (by omega) 0 _).set_ne (by omega) 1 _).set_ne (by omega) 2 _).set_ne (by omega) 3 _), ((((c_q.set_ne (by omega) 0 _).set_ne (by omega) 1 _).set_ne (by omega) 2 _).set_ne (by omega) 3 _), ⟨_, _, _, _, ((((c_r.set_ne (by omega) 0 _).set_ne (by omega) 1 _).set_ne (by omega) 2 _).set_ne (by omega) 3 _)⟩, ⟨_, _, _, _, hset⟩, ⟨_, _, _, _, ((((c_u.set_ne (by omega) 0 _).set_ne (by omega) 1 _).set_ne (by omega) 2 _).set_ne (by omega) 3 _)⟩⟩, hset, by simp, fun j hj hn hR => ?_⟩
      match j, hj, hn, hR with
      | 0, _, _, hR => exact hR
      | 1, _, _, hR => exact hR
      | 2, _, _, hR => exact hR
      | 3, _, _, hR => exact hR
      | 4, _, _, hR => have hx := hR; exact ((((hx.set_ne (by omega) 0 _).set_ne (by omega) 1 _).set_ne (by omega) 2 _).set_ne (by omega) 3 _)
      | 5, hj, _, _ => exact absurd rfl hj
      | 6, _, _, hR => obtain ⟨a2, c2, b2, d2, hx⟩ := hR; exact ⟨a2, c2, b2, d2, ((((hx.set_ne (by omega) 0 _).set_ne (by omega) 1 _).set_ne (by omega) 2 _).set_ne (by omega) 3 _)⟩
      | _ + 7, _, _, _ => exact trivial
    · -- 6: Op.store 25 t4 t20
      intro σ W' hC hw hne
      obtain ⟨a2_3, c2_3, b2_3, d2_3, e3, hp3⟩ : ∃ (a2 c2 : Bool) (b2 d2 : Int), σ 3 = .agg #[.bool a2, .int .i64 b2, .bool c2, .int .i64 d2] ∧ True := hw 3 (by kernel_rfl)
      clear hw hne
      obtain ⟨cB, cC, c_p, c_q, ⟨r0, r1, r2, r3, c_r⟩, ⟨s0, s1, s2, s3, c_s⟩, ⟨u0, u1, u2, u3, c_u⟩⟩ := hC
      have kx := c_u.cell
      have kf := c_u.frozen
      refine OpGoes.step fun K hK => ?_
      unfold OpGoes
      go_simp
      have hset := ((((c_u.set 0 (.bool a2_3)).set 1 (.int .i64 b2_3)).set 2 (.bool c2_3)).set 3 (.int .i64 d2_3))
      simp only [List.setIfInBounds_toArray, List.set_cons_zero, List.set_cons_succ] at hset
      refine hK _ _ ⟨⟨(Below.setCell (Below.setCell (Below.setCell (Below.setCell cB (by dsimp only; omega) _) (by dsimp only; omega) _) (by dsimp only; omega) _) (by dsimp only; omega) _), ((((cC.set_ne (by omega) 0 _).set_ne (by omega) 1 _).set_ne (by omega) 2 _).set_ne (by omega) 3 _), ((((c_p.set_ne (by omega) 0 _).set_ne (by omega) 1 _).set_ne (by omega) 2 _).set_ne (by omega) 3 _), ((((c_q.set_ne (by omega) 0 _).set_ne (by omega) 1 _).set_ne (by omega) 2 _).set_ne (by omega) 3 _), ⟨_, _, _, _, ((((c_r.set_ne (by omega) 0 _).set_ne (by omega) 1 _).set_ne (by omega) 2 _).set_ne (by omega) 3 _)⟩, ⟨_, _, _, _, ((((c_s.set_ne (by omega) 0 _).set_ne (by omega) 1 _).set_ne (by omega) 2 _).set_ne (by omega) 3 _)⟩, ⟨_, _, _, _, hset⟩⟩, ⟨a2_3, c2_3, b2_3, d2_3, hset⟩, by simp, fun j hj hn hR => ?_⟩
      match j, hj, hn, hR with
      | 0, _, _, hR => exact hR
      | 1, _, _, hR => exact hR
      | 2, _, _, hR => exact hR
      | 3, _, _, hR => exact hR
      | 4, _, _, hR => have hx := hR; exact ((((hx.set_ne (by omega) 0 _).set_ne (by omega) 1 _).set_ne (by omega) 2 _).set_ne (by omega) 3 _)
      | 5, _, _, hR => have hx := hR; exact ((((hx.set_ne (by omega) 0 _).set_ne (by omega) 1 _).set_ne (by omega) 2 _).set_ne (by omega) 3 _)
      | 6, hj, _, _ => exact absurd rfl hj
      | _ + 7, _, _, _ => exact trivial
    · intro σ W' hC hR
      obtain ⟨cB, cC, c_p, c_q, ⟨r0, r1, r2, r3, c_r⟩, ⟨s0, s1, s2, s3, c_s⟩, ⟨u0, u1, u2, u3, c_u⟩⟩ := hC
      have hbox0 : BoxAt W' w.heap.size #[.bool a, .int .i64 b, .bool c, .int .i64 d] 25 := hR 4 (by decide)
      have hbox1 : BoxAt W' (w.heap.size + 1) #[.bool a1, .int .i64 b1, .bool c1, .int .i64 d1] 25 := hR 5 (by decide)
      obtain ⟨a2, c2, b2, d2, hbox2⟩ : ∃ (a2 c2 : Bool) (b2 d2 : Int), BoxAt W' (w.heap.size + 1 + 1) #[.bool a2, .int .i64 b2, .bool c2, .int .i64 d2] 25 := hR 6 (by decide)
      clear hR
      simp only [lexAll]
      go_simp
      have kx := hbox0.cell
      have ky := hbox1.cell
      have kz := hbox2.cell
      go_wp2
      refine bodyPost_ret (v := .tuple #[.agg #[.bool a, .int .i64 b, .bool c, .int .i64 d], .agg #[.bool a1, .int .i64 b1, .bool c1, .int .i64 d1], .agg #[.bool a2, .int .i64 b2, .bool c2, .int .i64 d2]]) (by simp [results, Try.results9, go_sem, kx, ky, kz]) rfl ⟨_, _, _, _, _, _, _, _, _, _, _, _, rfl, cB⟩

end Go.Proofs.Ytdbnghlabhgigaa

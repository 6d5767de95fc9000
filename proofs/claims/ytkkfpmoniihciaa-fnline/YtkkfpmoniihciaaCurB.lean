/-
  The draws: what the cursor over the bytes of a draw yields.
-/
import Derived.Test.YtkkfpmoniihciaaMem
import Derived.Test.YtkkfpmoniihciaaGrow
import Derived.Deep.QuietTactic
import Derived.BigQuiet
import Derived.Laws.Bits64
import Derived.Test.YtkkfpmoniihciaaChecked
namespace Go.Proofs.Ytkkfpmoniihciaa
set_option linter.unusedSimpArgs false
set_option linter.unusedVariables false
open Go.RowKit Go.ChangeShapes Go.WideShapes Go.ChangeAt Go.Joins
set_option linter.unusedVariables false
attribute [local go_sem] OpUpon



/-- The bytes of a draw lie below N. -/
def CodeOk (N : Nat) (w : World) (a0 : Option Addr) (len : Nat) : Prop :=
  len ≤ maxLen ∧ (0 < len → ∃ b off, a0 = some ⟨b, off, none⟩ ∧ b < N ∧ b < w.heap.size ∧ ∀ i, i < len → ∃ z : Int, 0 ≤ z ∧ z ≤ 255 ∧ w.cell? ⟨b, off + i, none⟩ = some (.int .u8 z))

theorem CodeOk.below {N : Nat} {w w' : World} {a0 : Option Addr} {len : Nat} (h : CodeOk N w a0 len) (hb : Below N w w') : CodeOk N w' a0 len := by
  refine ⟨h.1, fun hl => ?_⟩
  obtain ⟨b, off, e, hN, hs, hc⟩ := h.2 hl
  refine ⟨b, off, e, hN, Nat.lt_of_lt_of_le hs hb.size, fun i hi => ?_⟩
  obtain ⟨z, h1, h2, h3⟩ := hc i hi
  exact ⟨z, h1, h2, by rw [hb.cell (p := ⟨b, off + i, none⟩) hN]; exact h3⟩

/-- Block k holds a cursor over those bytes. -/
def CurAt (w : World) (k : Nat) (a0 : Option Addr) (len cap : Nat) : Prop :=
  ∃ (i : Nat) (h : Int), i ≤ len ∧ BoxAt w k #[.slice a0 len cap, .int .i64 i, .int .i64 h] 65

/-- A draw yields a number of which P holds; all but the cursor's block is as it was. -/
def Draws (P : Int → Prop) (k : Nat) (a0 : Option Addr) (len cap : Nat) (w : World) (e : Ending) (w' : World) : Prop :=
  ∃ x : Int, P x ∧ e = .returned (.int .i64 x) ∧ But k w w' ∧ CurAt w' k a0 len cap

theorem and255 (x : Int) : 0 ≤ bits .and .i64 x 255 ∧ bits .and .i64 x 255 ≤ 255 := by
  have h : (BitVec.ofInt 64 x &&& BitVec.ofInt 64 255).toNat ≤ 255 := by
    rw [BitVec.toNat_and]
    exact Nat.le_trans Nat.and_le_right (by decide)
  have e : bits .and .i64 x 255 = ((BitVec.ofInt 64 x &&& BitVec.ofInt 64 255).toNat : Int) := by
    show IntKind.i64.wrap ((BitVec.ofInt 64 x &&& BitVec.ofInt 64 255).toNat : Int) = _
    rw [IntKind.wrap_i64]
    omega
  rw [e]
  omega

set_option maxHeartbeats 400000 in
theorem l1Byte_any (N k : Nat) (a0 : Option Addr) (len cap : Nat) (w : World) (hc : CodeOk N w a0 len) (hk : N ≤ k) (hcur : CurAt w k a0 len cap) :
    Calls Try.prog 42 #[.pointer (some ⟨k, 0, none⟩)] w (Draws (fun x => 0 ≤ x ∧ x ≤ 255) k a0 len cap w) := by
  obtain ⟨i, h, hi, hbox⟩ := hcur
  have kc := hbox.cell
  have kf := hbox.frozen
  go_enter Try.func42, Try.ntmps42
  go_wp2
  refine wp_abs (fun W => But k w W ∧ ∃ h', BoxAt W k #[.slice a0 len cap, .int .i64 i, .int .i64 h'] 65) ⟨(But.refl k w).set 2 _, _, by simpa using hbox.set 2 _⟩ ?_
  rintro W ⟨hB, h', hbox'⟩
  clear kc kf
  have kc := hbox'.cell
  have kf := hbox'.frozen
  go_quiet (fail)
  go_wp2
  have hX := and255 (bits BinOp.xor IntKind.i64 (h' / 8589934592) (h' / 35184372088832))
  generalize bits BinOp.and IntKind.i64 (bits BinOp.xor IntKind.i64 (h' / 8589934592) (h' / 35184372088832)) 255 = X at *
  obtain ⟨hX0, hX1⟩ := hX
  refine wp_abs (fun W' => But k w W' ∧ BoxAt W' k #[.slice a0 len cap, .int .i64 i, .int .i64 h'] 65) ⟨hB.drewN _, hbox'.drewN _⟩ ?_
  clear kc kf hbox hbox' hB
  rintro W1 ⟨hB, hbox⟩
  have kc := hbox.cell
  have kf := hbox.frozen
  by_cases hlt : i < len
  · have hm := hc.1
    unfold maxLen at hm
    have hlt' : (i : Int) < (len : Int) := by omega
    have hge' : (0 : Int) ≤ (i : Int) := by omega
    obtain ⟨b, off, rfl, hbN, hbs, hcs⟩ := hc.2 (by omega)
    obtain ⟨z, z0, z1, hz⟩ := hcs i hlt
    have hz' : W1.cell? ⟨b, off + i, none⟩ = some (.int .u8 z) := by
      rw [← hz]; unfold World.cell?; rw [hB.block b hbs (by omega)]
    go_quiet (fail)
    go_wp2
    go_quiet (fail)
    go_wp2
    go_ret
    refine ⟨_, and255 _, rfl, (hB.drewN _).set 1 _, i + 1, h', by omega, ?_⟩
    have := fun n => (BoxAt.drewN hbox n).set 1 (.int .i64 (i + 1))
    simpa using this _
  · have hlt' : ¬ (i : Int) < (len : Int) := by omega
    go_quiet (fail)
    go_wp2
    go_ret
    exact ⟨X, ⟨hX0, hX1⟩, rfl, hB.drewN _, i, h', hi, hbox.drewN _⟩

/-- Likewise a bool. -/
def DrawsB (k : Nat) (a0 : Option Addr) (len cap : Nat) (w : World) (e : Ending) (w' : World) : Prop :=
  ∃ x : Bool, e = .returned (.bool x) ∧ But k w w' ∧ CurAt w' k a0 len cap

/-- A new cursor. -/
def NewCur (a0 : Option Addr) (len cap : Nat) (w : World) (e : Ending) (w' : World) : Prop :=
  ∃ h : Int, e = .returned (.pointer (some ⟨w.heap.size, 0, none⟩)) ∧ w' = w.alloc (.cells #[.slice a0 len cap, .int .i64 0, .int .i64 h] 65)

set_option maxHeartbeats 400000 in
theorem l1New_any (N : Nat) (a0 : Option Addr) (len cap : Nat) (w : World) (hc : CodeOk N w a0 len) :
    Calls Try.prog 27 #[.slice a0 len cap] w (NewCur a0 len cap w) := by
  obtain ⟨hm, hcs⟩ := hc
  unfold maxLen at hm
  have HC := Lib.hid hcs; clear hcs
  go_enter Try.func27, Try.ntmps27
  go_wp2
  go_loop [3, 4] (fun s3 s4 => ∃ (h : Int) (i : Nat), i ≤ len ∧ s3 = .int .i64 h ∧ s4 = .int .i64 i) (fun _ s4 => len - (intOf s4).toNat)
  case atStart => exact ⟨_, 0, Nat.zero_le _, rfl, rfl⟩
  case round =>
    obtain ⟨h, i, hi, rfl, rfl⟩ := hrel
    by_cases hlt : i < len
    · obtain ⟨b, off, rfl, _, _, hz⟩ := HC.out (by omega)
      obtain ⟨z, z0, z1, hz⟩ := hz i hlt
      have h1 : (i : Int) < (len : Int) := by omega
      have h2 : (0 : Int) ≤ (i : Int) := by omega
      go_wp2
      go_round
      case rel => exact ⟨_, i + 1, by omega, rfl, by go_num⟩
      case measure => simp [intOf]; omega
    · have h1 : ¬ (i : Int) < (len : Int) := by omega
      go_wp2
      go_ret
      exact ⟨h, rfl, rfl⟩

set_option maxHeartbeats 400000 in
theorem l1Below_any (N k : Nat) (a0 : Option Addr) (len cap : Nat) (n : Int) (w : World) (hc : CodeOk N w a0 len) (hk : N ≤ k) (hN : N ≤ w.heap.size) (hcur : CurAt w k a0 len cap) (hn : 0 < n) :
    Calls Try.prog 29 #[.pointer (some ⟨k, 0, none⟩), .int .i64 n] w (Draws (fun x => 0 ≤ x ∧ x < n) k a0 len cap w) := by
  by_cases hs : n ≤ 256
  · go_enter Try.func29, Try.ntmps29
    go_wp2_with fail
    refine (l1Byte_any N k a0 len cap _ hc hk hcur).mono ?_
    rintro e w1 ⟨x, ⟨x0, x1⟩, rfl, hB, hcur1⟩
    go_wp2
    go_ret
    exact ⟨x % n, ⟨Int.emod_nonneg _ (by omega), Int.emod_lt_of_pos _ hn⟩, rfl, hB, hcur1⟩
  · have hp : ¬ n ≤ 0 := by omega
    go_enter Try.func29, Try.ntmps29
    go_wp2_with fail
    refine (l1Byte_any N k a0 len cap _ hc hk hcur).mono ?_
    rintro e w1 ⟨x, ⟨x0, x1⟩, rfl, hB1, hcur1⟩
    have hc1 := hc.below (hB1.below hk hN)
    have hN1 := Nat.le_trans hN hB1.size
    go_wp2_with fail
    refine (l1Byte_any N k a0 len cap _ hc1 hk hcur1).mono ?_
    rintro e w2 ⟨y, ⟨y0, y1⟩, rfl, hB2, hcur2⟩
    have hc2 := hc1.below (hB2.below hk hN1)
    have hN2 := Nat.le_trans hN1 hB2.size
    go_wp2_with fail
    refine (l1Byte_any N k a0 len cap _ hc2 hk hcur2).mono ?_
    rintro e w3 ⟨z, ⟨z0, z1⟩, rfl, hB3, hcur3⟩
    have hc3 := hc2.below (hB3.below hk hN2)
    go_wp2_with fail
    refine (l1Byte_any N k a0 len cap _ hc3 hk hcur3).mono ?_
    rintro e w4 ⟨v, ⟨v0, v1⟩, rfl, hB4, hcur4⟩
    go_wp2
    go_ret
    exact ⟨(x * 16777216 + y * 65536 + z * 256 + v) % n, ⟨Int.emod_nonneg _ (by omega), Int.emod_lt_of_pos _ hn⟩, rfl, ((hB1.trans hB2).trans hB3).trans hB4, hcur4⟩

set_option maxHeartbeats 400000 in
theorem l1Once_any (N k : Nat) (a0 : Option Addr) (len cap : Nat) (n : Int) (w : World) (hc : CodeOk N w a0 len) (hk : N ≤ k) (hN : N ≤ w.heap.size) (hcur : CurAt w k a0 len cap) (hn : 0 < n) :
    Calls Try.prog 41 #[.pointer (some ⟨k, 0, none⟩), .int .i64 n] w (DrawsB k a0 len cap w) := by
  go_enter Try.func41, Try.ntmps41
  go_wp2_with fail
  refine (l1Below_any N k a0 len cap n _ hc hk hN hcur hn).mono ?_
  rintro e w1 ⟨x, _, rfl, hB, hcur1⟩
  go_wp2
  go_ret
  exact ⟨_, rfl, hB, hcur1⟩

set_option maxHeartbeats 400000 in
theorem l1From_any (N k : Nat) (a0 : Option Addr) (len cap : Nat) (lo hi : Int) (w : World) (hc : CodeOk N w a0 len) (hk : N ≤ k) (hN : N ≤ w.heap.size) (hcur : CurAt w k a0 len cap) (h1 : lo ≤ hi) (h2 : -1000000000 ≤ lo) (h3 : hi ≤ 1000000000) :
    Calls Try.prog 47 #[.pointer (some ⟨k, 0, none⟩), .int .i64 lo, .int .i64 hi] w (Draws (fun x => lo ≤ x ∧ x ≤ hi) k a0 len cap w) := by
  go_enter Try.func47, Try.ntmps47
  go_wp2_with fail
  refine (l1Below_any N k a0 len cap _ _ hc hk hN hcur (by omega)).mono ?_
  rintro e w1 ⟨x, ⟨x0, x1⟩, rfl, hB, hcur1⟩
  go_wp2
  go_ret
  exact ⟨lo + x, ⟨by omega, by omega⟩, rfl, hB, hcur1⟩

/-- A place is drawn. -/
def DrawsP (k : Nat) (a0 : Option Addr) (len cap : Nat) (w : World) (e : Ending) (w' : World) : Prop :=
  ∃ (a c : Bool) (b d : Int), e = .returned (.agg #[.bool a, .int .i64 b, .bool c, .int .i64 d]) ∧ But k w w' ∧ CurAt w' k a0 len cap

theorem But.alloc {k : Nat} {a b : World} (h : But k a b) (o : Obj) : But k a (b.alloc o) :=
  ⟨h.os, h.tape, h.output, by have := h.size; simp; omega, fun j hj hk => by
    rw [← h.block j hj hk]
    exact ((Below.refl _ b).alloc (Nat.le_refl _) o).block j (Nat.lt_of_lt_of_le hj h.size)⟩
theorem But.setNew {k g : Nat} {a b : World} (h : But k a b) (hg : a.heap.size ≤ g) (i : Nat) (v : Value) : But k a (b.setCell ⟨g, i, none⟩ v) :=
  ⟨h.os, h.tape, h.output, by simpa using h.size, fun j hj hk => by
    rw [← h.block j hj hk]
    simp [World.setCell, Array.getElem?_modify, show g ≠ j by omega]⟩
theorem CurAt.alloc {k : Nat} {w : World} {a0 : Option Addr} {len cap : Nat} (h : CurAt w k a0 len cap) (o : Obj) : CurAt (w.alloc o) k a0 len cap := by
  obtain ⟨i, x, hi, hb⟩ := h
  exact ⟨i, x, hi, hb.alloc o⟩
theorem CurAt.set_ne {k g : Nat} {w : World} {a0 : Option Addr} {len cap : Nat} (h : CurAt w k a0 len cap) (hne : k ≠ g) (i : Nat) (v : Value) : CurAt (w.setCell ⟨g, i, none⟩ v) k a0 len cap := by
  obtain ⟨j, x, hi, hb⟩ := h
  exact ⟨j, x, hi, hb.set_ne hne i v⟩
theorem CurAt.lt {k : Nat} {w : World} {a0 : Option Addr} {len cap : Nat} (h : CurAt w k a0 len cap) : k < w.heap.size := by
  obtain ⟨j, x, hi, hb⟩ := h
  exact hb.lt
theorem CurAt.sn {k g : Nat} {w : World} {a0 : Option Addr} {len cap : Nat} (h : CurAt w k a0 len cap) {i : Nat} {v : Value} (hne : k ≠ g := by omega) : CurAt (w.setCell ⟨g, i, none⟩ v) k a0 len cap := h.set_ne hne i v

end Go.Proofs.Ytkkfpmoniihciaa

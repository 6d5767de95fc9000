/-
 The draws: what the cursor over the bytes of a draw yields.
-/
import Derived.Test.YtibmbanbaopeiaaGreatMem
import Derived.Test.YtibmbanbaopeiaaGreatGrow
import Derived.Deep.QuietTactic
import Derived.BigQuiet
import Derived.Laws.Bits64
import Derived.Test.YtibmbanbaopeiaaGreatChecked
namespace Go.Proofs.YtibmbanbaopeiaaGreat
set_option linter.unusedSimpArgs false
set_option linter.unusedVariables false
open Go.RowKit Go.ChangeShapes Go.WideShapes Go.ChangeAt Go.Joins
set_option linter.unusedVariables false
attribute [local go_sem] OpUpon



/-- The bytes of a draw lie below N. -/
def CodeOk (N : Nat) (w : World) (a0 : Option Addr) (len : Nat) : Prop :=
 len ≤ maxLen ∧ (0 < len → ∃ b off, a0 = some ⟨b, off, none⟩ ∧ b < N ∧ b < w.heap.size ∧ ∀ i, i < len → ∃ z : Int, 0 ≤ z ∧ z ≤ 255 ∧ w.cell? ⟨b, off + i, none⟩ = some (.int .u8 z))

theorem CodeOk.below {N : Nat} {w w' : World} {a0 : Option Addr} {len : Nat} (h : CodeOk N w a0 len) (hb : Below N w w') : CodeOk N w' a0 len := by
 refine ⟨h.1, fun hl => ?_⟩
 obtain ⟨b, off, e, hN, hs, hc⟩ := h.2 hl
 refine ⟨b, off, e, hN, Nat.lt_of_lt_of_le hs hb.size, fun i hi => ?_⟩
 obtain ⟨z, h1, h2, h3⟩ := hc i hi
 exact ⟨z, h1, h2, by rw [hb.cell (p := ⟨b, off + i, none⟩) hN]; exact h3⟩

/-- Block k holds a cursor over those bytes. -/
def CurAt (w : World) (k : Nat) (a0 : Option Addr) (len cap : Nat) : Prop :=
 ∃ (i : Nat) (h : Int), i ≤ len ∧ BoxAt w k #[.slice a0 len cap, .int .i64 i, .int .i64 h] 60

/-- A draw yields a number of which P holds; all but the cursor's block is as it was. -/
def Draws (P : Int → Prop) (k : Nat) (a0 : Option Addr) (len cap : Nat) (w : World) (e : Ending) (w' : World) : Prop :=
 ∃ x : Int, P x ∧ e = .returned (.int .i64 x) ∧ But k w w' ∧ CurAt w' k a0 len cap

theorem and255 (x : Int) : 0 ≤ bits .and .i64 x 255 ∧ bits .and .i64 x 255 ≤ 255 := by
 have h : (BitVec.ofInt 64 x &&& BitVec.ofInt 64 255).toNat ≤ 255 := by
  rw [BitVec.toNat_and]
  exact Nat.le_trans Nat.and_le_right (by decide)
 have e : bits .and .i64 x 255 = ((BitVec.ofInt 64 x &&& BitVec.ofInt 64 255).toNat : Int) := by
  show IntKind.i64.wrap ((BitVec.ofInt 64 x &&& BitVec.ofInt 64 255).toNat : Int) = _
  rw [IntKind.wrap_i64]
  omega
 rw [e]
 omega

set_option maxHeartbeats 400000 in
theorem l1Byte_any (N k : Nat) (a0 : Option Addr) (len cap : Nat) (w : World) (hc : CodeOk N w a0 len) (hk : N ≤ k) (hcur : CurAt w k a0 len cap) :
  Calls Tryz.prog 45 #[.pointer (some ⟨k, 0, none⟩)] w (Draws (fun x => 0 ≤ x ∧ x ≤ 255) k a0 len cap w) := by
 obtain ⟨i, h, hi, hbox⟩ := hcur
 have kc := hbox.cell
 have kf := hbox.frozen
 go_enter Tryz.func45, Tryz.ntmps45
 go_wp2
 refine wp_abs (fun W => But k w W ∧ ∃ h', BoxAt W k #[.slice a0 len cap, .int .i64 i, .int .i64 h'] 60) ⟨(But.refl k w).set 2 _, _, by simpa using hbox.set 2 _⟩ ?_
 rintro W ⟨hB, h', hbox'⟩
 clear kc kf
 have kc := hbox'.cell
 have kf := hbox'.frozen
 go_quiet (fail)
 go_wp2
 have hX := and255 (bits BinOp.xor IntKind.i64 (h' / 8589934592) (h' / 35184372088832))
 generalize bits BinOp.and IntKind.i64 (bits BinOp.xor IntKind.i64 (h' / 8589934592) (h' / 35184372088832)) 255 = X at *
 obtain ⟨hX0, hX1⟩ := hX
 refine wp_abs (fun W' => But k w W' ∧ BoxAt W' k #[.slice a0 len cap, .int .i64 i, .int .i64 h'] 60) ⟨hB.drewN _, hbox'.drewN _⟩ ?_
 clear kc kf hbox hbox' hB
 rintro W1 ⟨hB, hbox⟩
 have kc := hbox.cell
 have kf := hbox.frozen
 by_cases hlt : i < len
 ·
  have hm := hc.1
  unfold maxLen at hm
  have hlt' : (i : Int) < (len : Int) := by omega
  have hge' : (0 : Int) ≤ (i : Int) := by omega
  obtain ⟨b, off, rfl, hbN, hbs, hcs⟩ := hc.2 (by omega)
  obtain ⟨z, z0, z1, hz⟩ := hcs i hlt
  have hz' : W1.cell? ⟨b, off + i, none⟩ = some (.int .u8 z) := by
   rw [← hz]; unfold World.cell?; rw [hB.block b hbs (by omega)]
  go_quiet (fail)
  go_wp2
  go_quiet (fail)
  go_wp2
  go_ret
  refine ⟨_, and255 _, rfl, (hB.drewN _).set 1 _, i + 1, h', by omega, ?_⟩
  have := fun n => (BoxAt.drewN hbox n).set 1 (.int .i64 (i + 1))
  simpa using this _
 ·
  have hlt' : ¬ (i : Int) < (len : Int) := by omega
  go_quiet (fail)
  go_wp2
  go_ret
  exact ⟨X, ⟨hX0, hX1⟩, rfl, hB.drewN _, i, h', hi, hbox.drewN _⟩

/-- Likewise a bool. -/
def DrawsB (k : Nat) (a0 : Option Addr) (len cap : Nat) (w : World) (e : Ending) (w' : World) : Prop :=
 ∃ x : Bool, e = .returned (.bool x) ∧ But k w w' ∧ CurAt w' k a0 len cap

/-- A new cursor. -/
def NewCur (a0 : Option Addr) (len cap : Nat) (w : World) (e : Ending) (w' : World) : Prop :=
 ∃ h : Int, e = .returned (.pointer (some ⟨w.heap.size, 0, none⟩)) ∧ w' = w.alloc (.cells #[.slice a0 len cap, .int .i64 0, .int .i64 h] 60)

set_option maxHeartbeats 400000 in
theorem l1New_any (N : Nat) (a0 : Option Addr) (len cap : Nat) (w : World) (hc : CodeOk N w a0 len) :
  Calls Tryz.prog 17 #[.slice a0 len cap] w (NewCur a0 len cap w) := by
 obtain ⟨hm, hcs⟩ := hc
 unfold maxLen at hm
 have HC := Lib.hid hcs; clear hcs
 go_enter Tryz.func17, Tryz.ntmps17
 go_wp2
 go_loop [3, 4] (fun s3 s4 => ∃ (h : Int) (i : Nat), i ≤ len ∧ s3 = .int .i64 h ∧ s4 = .int .i64 i) (fun _ s4 => len - (intOf s4).toNat)
 case atStart => exact ⟨_, 0, Nat.zero_le _, rfl, rfl⟩
 case round =>
  obtain ⟨h, i, hi, rfl, rfl⟩ := hrel
  by_cases hlt : i < len
  ·
   obtain ⟨b, off, rfl, _, _, hz⟩ := HC.out (by omega)
   obtain ⟨z, z0, z1, hz⟩ := hz i hlt
   have h1 : (i : Int) < (len : Int) := by omega
   have h2 : (0 : Int) ≤ (i : Int) := by omega
   go_wp2
   go_round
   case rel => exact ⟨_, i + 1, by omega, rfl, by go_num⟩
   case measure => simp [intOf]; omega
  ·
   have h1 : ¬ (i : Int) < (len : Int) := by omega
   go_wp2
   go_ret
   exact ⟨h, rfl, rfl⟩

set_option maxHeartbeats 400000 in
theorem l1Below_any (N k : Nat) (a0 : Option Addr) (len cap : Nat) (n : Int) (w : World) (hc : CodeOk N w a0 len) (hk : N ≤ k) (hN : N ≤ w.heap.size) (hcur : CurAt w k a0 len cap) (hn : 0 < n) :
  Calls Tryz.prog 32 #[.pointer (some ⟨k, 0, none⟩), .int .i64 n] w (Draws (fun x => 0 ≤ x ∧ x < n) k a0 len cap w) := by
 by_cases hs : n ≤ 256
 ·
  go_enter Tryz.func32, Tryz.ntmps32
  go_wp2_with fail
  refine (l1Byte_any N k a0 len cap _ hc hk hcur).mono ?_
  rintro e w1 ⟨x, ⟨x0, x1⟩, rfl, hB, hcur1⟩
  go_wp2
  go_ret
  exact ⟨x % n, ⟨Int.emod_nonneg _ (by omega), Int.emod_lt_of_pos _ hn⟩, rfl, hB, hcur1⟩
 ·
  have hp : ¬ n ≤ 0 := by omega
  go_enter Tryz.func32, Tryz.ntmps32
  go_wp2_with fail
  refine (l1Byte_any N k a0 len cap _ hc hk hcur).mono ?_
  rintro e w1 ⟨x, ⟨x0, x1⟩, rfl, hB1, hcur1⟩
  have hc1 := hc.below (hB1.below hk hN)
  have hN1 := Nat.le_trans hN hB1.size
  go_wp2_with fail
  refine (l1Byte_any N k a0 len cap _ hc1 hk hcur1).mono ?_
  rintro e w2 ⟨y, ⟨y0, y1⟩, rfl, hB2, hcur2⟩
  have hc2 := hc1.below (hB2.below hk hN1)
  have hN2 := Nat.le_trans hN1 hB2.size
  go_wp2_with fail
  refine (l1Byte_any N k a0 len cap _ hc2 hk hcur2).mono ?_
  rintro e w3 ⟨z, ⟨z0, z1⟩, rfl, hB3, hcur3⟩
  have hc3 := hc2.below (hB3.below hk hN2)
  go_wp2_with fail
  refine (l1Byte_any N k a0 len cap _ hc3 hk hcur3).mono ?_
  rintro e w4 ⟨v, ⟨v0, v1⟩, rfl, hB4, hcur4⟩
  go_wp2
  go_ret
  exact ⟨(x * 16777216 + y * 65536 + z * 256 + v) % n, ⟨Int.emod_nonneg _ (by omega), Int.emod_lt_of_pos _ hn⟩, rfl, ((hB1.trans hB2).trans hB3).trans hB4, hcur4⟩

set_option maxHeartbeats 400000 in
theorem l1Once_any (N k : Nat) (a0 : Option Addr) (len cap : Nat) (n : Int) (w : World) (hc : CodeOk N w a0 len) (hk : N ≤ k) (hN : N ≤ w.heap.size) (hcur : CurAt w k a0 len cap) (hn : 0 < n) :
  Calls Tryz.prog 47 #[.pointer (some ⟨k, 0, none⟩), .int .i64 n] w (DrawsB k a0 len cap w) := by
 go_enter Tryz.func47, Tryz.ntmps47
 go_wp2_with fail
 refine (l1Below_any N k a0 len cap n _ hc hk hN hcur hn).mono ?_
 rintro e w1 ⟨x, _, rfl, hB, hcur1⟩
 go_wp2
 go_ret
 exact ⟨_, rfl, hB, hcur1⟩

set_option maxHeartbeats 400000 in
theorem l1From_any (N k : Nat) (a0 : Option Addr) (len cap : Nat) (lo hi : Int) (w : World) (hc : CodeOk N w a0 len) (hk : N ≤ k) (hN : N ≤ w.heap.size) (hcur : CurAt w k a0 len cap) (h1 : lo ≤ hi) (h2 : -1000000000 ≤ lo) (h3 : hi ≤ 1000000000) :
  Calls Tryz.prog 18 #[.pointer (some ⟨k, 0, none⟩), .int .i64 lo, .int .i64 hi] w (Draws (fun x => lo ≤ x ∧ x ≤ hi) k a0 len cap w) := by
 go_enter Tryz.func18, Tryz.ntmps18
 go_wp2_with fail
 refine (l1Below_any N k a0 len cap _ _ hc hk hN hcur (by omega)).mono ?_
 rintro e w1 ⟨x, ⟨x0, x1⟩, rfl, hB, hcur1⟩
 go_wp2
 go_ret
 exact ⟨lo + x, ⟨by omega, by omega⟩, rfl, hB, hcur1⟩

/-- A place is drawn. -/
def DrawsP (k : Nat) (a0 : Option Addr) (len cap : Nat) (w : World) (e : Ending) (w' : World) : Prop :=
 ∃ (a c : Bool) (b d : Int), e = .returned (.agg #[.bool a, .int .i64 b, .bool c, .int .i64 d]) ∧ But k w w' ∧ CurAt w' k a0 len cap

theorem But.alloc {k : Nat} {a b : World} (h : But k a b) (o : Obj) : But k a (b.alloc o) :=
 ⟨h.os, h.tape, h.output, by have := h.size; simp; omega, fun j hj hk => by
  rw [← h.block j hj hk]
  exact ((Below.refl _ b).alloc (Nat.le_refl _) o).block j (Nat.lt_of_lt_of_le hj h.size)⟩
theorem But.setNew {k g : Nat} {a b : World} (h : But k a b) (hg : a.heap.size ≤ g) (i : Nat) (v : Value) : But k a (b.setCell ⟨g, i, none⟩ v) :=
 ⟨h.os, h.tape, h.output, by simpa using h.size, fun j hj hk => by
  rw [← h.block j hj hk]
  simp [World.setCell, Array.getElem?_modify, show g ≠ j by omega]⟩
theorem CurAt.alloc {k : Nat} {w : World} {a0 : Option Addr} {len cap : Nat} (h : CurAt w k a0 len cap) (o : Obj) : CurAt (w.alloc o) k a0 len cap := by
 obtain ⟨i, x, hi, hb⟩ := h
 exact ⟨i, x, hi, hb.alloc o⟩
theorem CurAt.set_ne {k g : Nat} {w : World} {a0 : Option Addr} {len cap : Nat} (h : CurAt w k a0 len cap) (hne : k ≠ g) (i : Nat) (v : Value) : CurAt (w.setCell ⟨g, i, none⟩ v) k a0 len cap := by
 obtain ⟨j, x, hi, hb⟩ := h
 exact ⟨j, x, hi, hb.set_ne hne i v⟩
theorem CurAt.lt {k : Nat} {w : World} {a0 : Option Addr} {len cap : Nat} (h : CurAt w k a0 len cap) : k < w.heap.size := by
 obtain ⟨j, x, hi, hb⟩ := h
 exact hb.lt
theorem CurAt.sn {k g : Nat} {w : World} {a0 : Option Addr} {len cap : Nat} (h : CurAt w k a0 len cap) {i : Nat} {v : Value} (hne : k ≠ g := by omega) : CurAt (w.setCell ⟨g, i, none⟩ v) k a0 len cap := h.set_ne hne i v

set_option maxHeartbeats 400000 in
theorem l1DrawPlace_any (N k : Nat) (a0 : Option Addr) (len cap : Nat) (w : World) (hc : CodeOk N w a0 len) (hk : N ≤ k) (hN : N ≤ w.heap.size) (hcur : CurAt w k a0 len cap) :
  Calls Tryz.prog 80 #[.pointer (some ⟨k, 0, none⟩)] w (DrawsP k a0 len cap w) := by
 have lk := hcur.lt
 go_enter Tryz.func80, Tryz.ntmps80
 go_wp2_with fail
 refine calls_abs (fun W => But k w W ∧ CurAt W k a0 len cap ∧ BoxAt W w.heap.size #[.bool false, .int .i64 0, .bool false, .int .i64 0] 58) ⟨(But.refl _ _).alloc _, hcur.alloc _, BoxAt.new _ _ _⟩ ?_
 rintro W0 ⟨hB0, hcur0, hx0⟩
 refine (l1Once_any N k a0 len cap _ _ (hc.below (hB0.below hk hN)) hk (Nat.le_trans hN hB0.size) hcur0 (by omega)).mono ?_
 rintro e w1 ⟨x, rfl, hB1, hcur1⟩
 replace hx0 := hB1.box hx0 (by omega)
 replace hB1 := hB0.trans hB1
 go_wp2_with fail
 refine (l1Below_any N k a0 len cap _ _ (hc.below (hB1.below hk hN)) hk (Nat.le_trans hN hB1.size) hcur1 (by omega)).mono ?_
 rintro e w2 ⟨y, ⟨y0, y1⟩, rfl, hB2, hcur2⟩
 replace hx0 := hB2.box hx0 (by omega)
 replace hB2 := hB1.trans hB2
 have hs2 := hB2.size
 have lx := hx0.lt
 go_wp2_with fail
 refine calls_abs (fun W => But k w W ∧ CurAt W k a0 len cap ∧ BoxAt W w.heap.size #[.bool false, .int .i64 0, .bool false, .int .i64 0] 58 ∧ BoxAt W w2.heap.size #[.bool (!x), .int .i64 y, .bool false, .int .i64 0] 58) ⟨hB2.alloc _, hcur2.alloc _, hx0.alloc _, BoxAt.new _ _ _⟩ ?_
 rintro W3 ⟨hB3, hcur3, hx3, hp3⟩
 refine (l1Once_any N k a0 len cap _ _ (hc.below (hB3.below hk hN)) hk (Nat.le_trans hN hB3.size) hcur3 (by omega)).mono ?_
 rintro e w4 ⟨z, rfl, hB4, hcur4⟩
 replace hx3 := hB4.box hx3 (by omega)
 replace hp3 := hB4.box hp3 (by omega)
 replace hB4 := hB3.trans hB4
 have kx := hx3.cell
 have kp := hp3.cell
 have fx := hx3.frozen
 have fp := hp3.frozen
 cases z
 ·
  go_wp2
  refine bodyPost_ret (v := .agg #[.bool (!x), .int .i64 y, .bool false, .int .i64 0]) (by simp [results, Tryz.results80, go_sem, kx]) rfl ⟨_, _, _, _, rfl, ?_, ?_⟩
  · exact (((hB4.setNew (Nat.le_refl _) 0 _).setNew (Nat.le_refl _) 1 _).setNew (Nat.le_refl _) 2 _).setNew (Nat.le_refl _) 3 _
  · exact (((hcur4.set_ne (by omega) 0 _).set_ne (by omega) 1 _).set_ne (by omega) 2 _).set_ne (by omega) 3 _
 ·
  go_wp2_with fail
  refine calls_abs (fun W => But k w W ∧ CurAt W k a0 len cap ∧ BoxAt W w.heap.size #[.bool false, .int .i64 0, .bool false, .int .i64 0] 58 ∧ BoxAt W w2.heap.size #[.bool (!x), .int .i64 y, .bool true, .int .i64 0] 58) ⟨hB4.setNew hs2 2 _, hcur4.set_ne (by omega) 2 _, hx3.set_ne (by omega) 2 _, by simpa using hp3.set 2 (.bool true)⟩ ?_
  clear kx kp fx fp hp3 hx3
  rintro W5 ⟨hB5, hcur5, hx5, hp5⟩
  refine (l1Below_any N k a0 len cap _ _ (hc.below (hB5.below hk hN)) hk (Nat.le_trans hN hB5.size) hcur5 (by omega)).mono ?_
  rintro e w6 ⟨u, ⟨u0, u1⟩, rfl, hB6, hcur6⟩
  replace hx5 := hB6.box hx5 (by omega)
  replace hp5 := hB6.box hp5 (by omega)
  replace hB6 := hB5.trans hB6
  have kx := hx5.cell
  have kp := hp5.cell
  have fx := hx5.frozen
  have fp := hp5.frozen
  have hne : w.heap.size ≠ w2.heap.size := by omega
  go_wp2
  refine bodyPost_ret (v := .agg #[.bool (!x), .int .i64 y, .bool true, .int .i64 (1 + u)]) (by simp [results, Tryz.results80, go_sem, kx]) rfl ⟨_, _, _, _, rfl, ?_, ?_⟩
  · exact ((((hB6.setNew hs2 3 _).setNew (Nat.le_refl _) 0 _).setNew (Nat.le_refl _) 1 _).setNew (Nat.le_refl _) 2 _).setNew (Nat.le_refl _) 3 _
  · exact ((((hcur6.set_ne (by omega) 3 _).set_ne (by omega) 0 _).set_ne (by omega) 1 _).set_ne (by omega) 2 _).set_ne (by omega) 3 _

set_option maxHeartbeats 1000000 in
theorem l1DrawAny_any (N k : Nat) (a0 : Option Addr) (len cap : Nat) (w : World) (hc : CodeOk N w a0 len) (hk : N ≤ k) (hN : N ≤ w.heap.size) (hcur : CurAt w k a0 len cap) :
  Calls Tryz.prog 58 #[.pointer (some ⟨k, 0, none⟩)] w (DrawsP k a0 len cap w) := by
 have lk := hcur.lt
 go_enter Tryz.func58, Tryz.ntmps58
 go_wp2_with fail
 refine calls_abs (fun W => But k w W ∧ CurAt W k a0 len cap ∧ BoxAt W w.heap.size #[.bool false, .int .i64 0, .bool false, .int .i64 0] 58) ⟨(But.refl _ _).alloc _, hcur.alloc _, BoxAt.new _ _ _⟩ ?_
 rintro W0 ⟨hB0, hcur0, hx0⟩
 refine (l1DrawPlace_any N k a0 len cap _ (hc.below (hB0.below hk hN)) hk (Nat.le_trans hN hB0.size) hcur0).mono ?_
 rintro e w2 ⟨a, c, b, d, rfl, hB2, hcur2⟩
 replace hx0 := hB2.box hx0 (by omega)
 replace hB2 := hB0.trans hB2
 have hs2 := hB2.size
 have lx := hx0.lt
 go_wp2_with fail
 refine calls_abs (fun W => But k w W ∧ CurAt W k a0 len cap ∧ BoxAt W w.heap.size #[.bool false, .int .i64 0, .bool false, .int .i64 0] 58 ∧ BoxAt W w2.heap.size #[.bool a, .int .i64 b, .bool c, .int .i64 d] 58) ⟨hB2.alloc _, hcur2.alloc _, hx0.alloc _, BoxAt.new _ _ _⟩ ?_
 rintro W3 ⟨hB3, hcur3, hx3, hp3⟩
 refine (l1Once_any N k a0 len cap _ _ (hc.below (hB3.below hk hN)) hk (Nat.le_trans hN hB3.size) hcur3 (by omega)).mono ?_
 rintro e w4 ⟨z, rfl, hB4, hcur4⟩
 replace hx3 := hB4.box hx3 (by omega)
 replace hp3 := hB4.box hp3 (by omega)
 replace hB4 := hB3.trans hB4
 have hne : w.heap.size ≠ w2.heap.size := by omega
 cases z
 ·
  have kx := hx3.cell
  have kp := hp3.cell
  have fx := hx3.frozen
  go_wp2
  refine bodyPost_ret (v := .agg #[.bool a, .int .i64 b, .bool c, .int .i64 d]) (by simp [results, Tryz.results58, go_sem, kx]) rfl ⟨_, _, _, _, rfl, ?_, ?_⟩
  · exact (((hB4.setNew (Nat.le_refl _) 0 _).setNew (Nat.le_refl _) 1 _).setNew (Nat.le_refl _) 2 _).setNew (Nat.le_refl _) 3 _
  · exact (((hcur4.set_ne (by omega) 0 _).set_ne (by omega) 1 _).set_ne (by omega) 2 _).set_ne (by omega) 3 _
 ·
  go_wp2_with fail
  refine (l1Below_any N k a0 len cap _ _ (hc.below (hB4.below hk hN)) hk (Nat.le_trans hN hB4.size) hcur4 (by omega)).mono ?_
  rintro e w5 ⟨y, ⟨y0, y1⟩, rfl, hB5, hcur5⟩
  replace hx3 := hB5.box hx3 (by omega)
  replace hp3 := hB5.box hp3 (by omega)
  replace hB5 := hB4.trans hB5
  have l5 := hp3.lt
  have lk5 := hcur5.lt
  have kx := hx3.cell
  have kp := hp3.cell
  have fx := hx3.frozen
  have fp := hp3.frozen
  have hy : y = 0 ∨ y = 1 ∨ y = 2 := by omega
  rcases hy with rfl | rfl | rfl
  ·
   go_wp2_with fail
   refine calls_abs (fun W => But k w W ∧ CurAt W k a0 len cap ∧ BoxAt W w.heap.size #[.bool false, .int .i64 0, .bool false, .int .i64 0] 58 ∧ BoxAt W w2.heap.size #[.bool a, .int .i64 b, .bool c, .int .i64 d] 58 ∧ BoxAt W w5.heap.size #[.int .i64 (-1), .int .i64 (1000000), .int .i64 (1000001)] 2 ∧ w5.heap.size < W.heap.size) ⟨hB5.alloc _, hcur5.alloc _, hx3.alloc _, hp3.alloc _, BoxAt.new _ _ _, by simp⟩ ?_
   clear kx kp fx fp hx3 hp3
   rintro W6 ⟨hB6, hcur6, hx3, hp3, hl6, hs6⟩
   refine (l1Below_any N k a0 len cap _ _ (hc.below (hB6.below hk hN)) hk (Nat.le_trans hN hB6.size) hcur6 (by omega)).mono ?_
   rintro e w7 ⟨u, ⟨u0, u1⟩, rfl, hB7, hcur7⟩
   have hx7 := hB7.box hx3 (by omega)
   have hp7 := hB7.box hp3 (by omega)
   have hl7 := hB7.box hl6 (by omega)
   replace hB7 := hB6.trans hB7
   have kx := hx7.cell
   have kp := hp7.cell
   have kl := hl7.cell
   have fx := hx7.frozen
   have fp := hp7.frozen
   clear hx3 hp3 hl6 hx7 hp7 hl7 hB6 hcur6
   have hu : u = 0 ∨ u = 1 ∨ u = 2 := by omega
   rcases hu with rfl | rfl | rfl
   ·
    go_wp2
    refine bodyPost_ret (v := .agg #[.bool a, .int .i64 (-1), .bool c, .int .i64 d]) (by simp [results, Tryz.results58, go_sem, kx]) rfl ⟨_, _, _, _, rfl, ?_, ?_⟩
    · exact ((((hB7.setNew hs2 1 _).setNew (Nat.le_refl _) 0 _).setNew (Nat.le_refl _) 1 _).setNew (Nat.le_refl _) 2 _).setNew (Nat.le_refl _) 3 _
    · exact ((((hcur7.set_ne (by omega) 1 _).set_ne (by omega) 0 _).set_ne (by omega) 1 _).set_ne (by omega) 2 _).set_ne (by omega) 3 _
   ·
    go_wp2
    refine bodyPost_ret (v := .agg #[.bool a, .int .i64 (1000000), .bool c, .int .i64 d]) (by simp [results, Tryz.results58, go_sem, kx]) rfl ⟨_, _, _, _, rfl, ?_, ?_⟩
    · exact ((((hB7.setNew hs2 1 _).setNew (Nat.le_refl _) 0 _).setNew (Nat.le_refl _) 1 _).setNew (Nat.le_refl _) 2 _).setNew (Nat.le_refl _) 3 _
    · exact ((((hcur7.set_ne (by omega) 1 _).set_ne (by omega) 0 _).set_ne (by omega) 1 _).set_ne (by omega) 2 _).set_ne (by omega) 3 _
   ·
    go_wp2
    refine bodyPost_ret (v := .agg #[.bool a, .int .i64 (1000001), .bool c, .int .i64 d]) (by simp [results, Tryz.results58, go_sem, kx]) rfl ⟨_, _, _, _, rfl, ?_, ?_⟩
    · exact ((((hB7.setNew hs2 1 _).setNew (Nat.le_refl _) 0 _).setNew (Nat.le_refl _) 1 _).setNew (Nat.le_refl _) 2 _).setNew (Nat.le_refl _) 3 _
    · exact ((((hcur7.set_ne (by omega) 1 _).set_ne (by omega) 0 _).set_ne (by omega) 1 _).set_ne (by omega) 2 _).set_ne (by omega) 3 _
  ·
   go_wp2_with fail
   refine calls_abs (fun W => But k w W ∧ CurAt W k a0 len cap ∧ BoxAt W w.heap.size #[.bool false, .int .i64 0, .bool false, .int .i64 0] 58 ∧ BoxAt W w2.heap.size #[.bool a, .int .i64 b, .bool c, .int .i64 d] 58 ∧ BoxAt W w5.heap.size #[.int .i64 (0), .int .i64 (1000000), .int .i64 (1000001)] 2 ∧ w5.heap.size < W.heap.size) ⟨hB5.alloc _, hcur5.alloc _, hx3.alloc _, hp3.alloc _, BoxAt.new _ _ _, by simp⟩ ?_
   clear kx kp fx fp hx3 hp3
   rintro W6 ⟨hB6, hcur6, hx3, hp3, hl6, hs6⟩
   refine (l1Below_any N k a0 len cap _ _ (hc.below (hB6.below hk hN)) hk (Nat.le_trans hN hB6.size) hcur6 (by omega)).mono ?_
   rintro e w7 ⟨u, ⟨u0, u1⟩, rfl, hB7, hcur7⟩
   have hx7 := hB7.box hx3 (by omega)
   have hp7 := hB7.box hp3 (by omega)
   have hl7 := hB7.box hl6 (by omega)
   replace hB7 := hB6.trans hB7
   have kx := hx7.cell
   have kp := hp7.cell
   have kl := hl7.cell
   have fx := hx7.frozen
   have fp := hp7.frozen
   clear hx3 hp3 hl6 hx7 hp7 hl7 hB6 hcur6
   have hu : u = 0 ∨ u = 1 ∨ u = 2 := by omega
   rcases hu with rfl | rfl | rfl
   ·
    go_wp2
    refine bodyPost_ret (v := .agg #[.bool a, .int .i64 b, .bool c, .int .i64 (0)]) (by simp [results, Tryz.results58, go_sem, kx]) rfl ⟨_, _, _, _, rfl, ?_, ?_⟩
    · exact ((((hB7.setNew hs2 3 _).setNew (Nat.le_refl _) 0 _).setNew (Nat.le_refl _) 1 _).setNew (Nat.le_refl _) 2 _).setNew (Nat.le_refl _) 3 _
    · exact ((((hcur7.set_ne (by omega) 3 _).set_ne (by omega) 0 _).set_ne (by omega) 1 _).set_ne (by omega) 2 _).set_ne (by omega) 3 _
   ·
    go_wp2
    refine bodyPost_ret (v := .agg #[.bool a, .int .i64 b, .bool c, .int .i64 (1000000)]) (by simp [results, Tryz.results58, go_sem, kx]) rfl ⟨_, _, _, _, rfl, ?_, ?_⟩
    · exact ((((hB7.setNew hs2 3 _).setNew (Nat.le_refl _) 0 _).setNew (Nat.le_refl _) 1 _).setNew (Nat.le_refl _) 2 _).setNew (Nat.le_refl _) 3 _
    · exact ((((hcur7.set_ne (by omega) 3 _).set_ne (by omega) 0 _).set_ne (by omega) 1 _).set_ne (by omega) 2 _).set_ne (by omega) 3 _
   ·
    go_wp2
    refine bodyPost_ret (v := .agg #[.bool a, .int .i64 b, .bool c, .int .i64 (1000001)]) (by simp [results, Tryz.results58, go_sem, kx]) rfl ⟨_, _, _, _, rfl, ?_, ?_⟩
    · exact ((((hB7.setNew hs2 3 _).setNew (Nat.le_refl _) 0 _).setNew (Nat.le_refl _) 1 _).setNew (Nat.le_refl _) 2 _).setNew (Nat.le_refl _) 3 _
    · exact ((((hcur7.set_ne (by omega) 3 _).set_ne (by omega) 0 _).set_ne (by omega) 1 _).set_ne (by omega) 2 _).set_ne (by omega) 3 _
  ·
   -- the flag turns
   go_wp2
   refine bodyPost_ret (v := .agg #[.bool a, .int .i64 b, .bool (!c), .int .i64 d]) (by simp [results, Tryz.results58, go_sem, kx]) rfl ⟨_, _, _, _, rfl, ?_, ?_⟩
   · exact ((((hB5.setNew hs2 2 _).setNew (Nat.le_refl _) 0 _).setNew (Nat.le_refl _) 1 _).setNew (Nat.le_refl _) 2 _).setNew (Nat.le_refl _) 3 _
   · exact ((((hcur5.set_ne (by omega) 2 _).set_ne (by omega) 0 _).set_ne (by omega) 1 _).set_ne (by omega) 2 _).set_ne (by omega) 3 _

end Go.Proofs.YtibmbanbaopeiaaGreat

/-
 The draws: what the cursor over the bytes of a draw yields.
-/
import Derived.Deep.QuietTactic
import Derived.BigQuiet
import Derived.Laws.Bits64
import Derived.ArgAppend
import Derived.Deep.Light
import Derived.Test.YtiiaimjlohpemaaGreatMem
import Derived.Test.YtiiaimjlohpemaaGreatGrow
import Derived.Test.YtiiaimjlohpemaaGreatChecked
import Derived.Test.YtiiaimjlohpemaaGreatIntA
import Derived.Test.YtiiaimjlohpemaaGreatOrdT
import Derived.Test.YtiiaimjlohpemaaGreatEvA
import Derived.Test.YtiiaimjlohpemaaGreatGrowV
namespace Go.Proofs.YtiiaimjlohpemaaGreat
set_option linter.unusedSimpArgs false
set_option linter.unusedVariables false
open Go.RowKit Go.ChangeShapes Go.WideShapes Go.ChangeAt Go.Joins
set_option linter.unusedVariables false
attribute [local go_sem] OpUpon



theorem zdrwS0 {p : Prop} (h : p := by
 go_wp2_with fail
 refine calls_abs (fun W => But k w W ∧ CurAt W k a0 len cap ∧ BoxAt W w.heap.size #[.int .i64 0, .bool false, .int .i64 0, .int .i64 0, .int .i64 0, .int .i64 0] 32 ∧ BoxAt W Y #[.int .i64 (who), .bool true, .int .i64 (0), .int .i64 (0), .int .i64 (at_), .int .i64 (at_ + d)] 32) ⟨(hB.setNew hY 1 _), (hcur.set_ne (by omega) 1 _), (hz.set_ne hYz 1 _), by simpa using (hy.set 1 (.bool true))⟩ ?_
 clear hB hcur hz hy ky fy kz fz
 rintro W ⟨hB, hcur, hz, hy⟩
 refine (l1Below_any N k a0 len cap _ _ (hc.below (hB.below hk hN)) hk (Nat.le_trans hN hB.size) hcur (by omega)).mono ?_
 rintro e w5 ⟨v, ⟨v0, v1⟩, rfl, hB2, hcur2⟩
 replace hz := hB2.box hz (by omega)
 replace hy := hB2.box hy (by omega)
 replace hB := hB.trans hB2
 clear hB2 hcur
 have hcur := hcur2
 clear hcur2
 have ky := hy.cell
 have fy := hy.frozen
 have kz := hz.cell
 have fz := hz.frozen
 go_wp2_with fail
 refine calls_abs (fun W => But k w W ∧ CurAt W k a0 len cap ∧ BoxAt W w.heap.size #[.int .i64 0, .bool false, .int .i64 0, .int .i64 0, .int .i64 0, .int .i64 0] 32 ∧ BoxAt W Y #[.int .i64 (who), .bool true, .int .i64 (1 + v), .int .i64 (1), .int .i64 (at_), .int .i64 (at_ + d)] 32) ⟨((hB.setNew hY 2 _).setNew hY 3 _), ((hcur.set_ne (by omega) 2 _).set_ne (by omega) 3 _), ((hz.set_ne hYz 2 _).set_ne hYz 3 _), by simpa using ((hy.set 2 (.int .i64 (1 + v))).set 3 (.int .i64 1))⟩ ?_
 clear hB hcur hz hy ky fy kz fz
 rintro W ⟨hB, hcur, hz, hy⟩
 refine (l1Once_any N k a0 len cap _ _ (hc.below (hB.below hk hN)) hk (Nat.le_trans hN hB.size) hcur (by omega)).mono ?_
 rintro e w6 ⟨b, rfl, hB2, hcur2⟩
 replace hz := hB2.box hz (by omega)
 replace hy := hB2.box hy (by omega)
 replace hB := hB.trans hB2
 clear hB2 hcur
 have hcur := hcur2
 clear hcur2
 have ky := hy.cell
 have fy := hy.frozen
 have kz := hz.cell
 have fz := hz.frozen
 cases b
 ·
  go_wp2
  refine bodyPost_ret (v := (⟨who, true, 1 + v, 1, at_, at_ + d⟩ : Ev).V) (by simp [results, Tryz.results49, go_sem, kz, Ev.V]) rfl ⟨_, rfl, ?_, ?_⟩
  · exact ((((((hB.setNew (Nat.le_refl _) 0 _).setNew (Nat.le_refl _) 1 _).setNew (Nat.le_refl _) 2 _).setNew (Nat.le_refl _) 3 _).setNew (Nat.le_refl _) 4 _).setNew (Nat.le_refl _) 5 _)
  · exact ((((((hcur.set_ne (by omega) 0 _).set_ne (by omega) 1 _).set_ne (by omega) 2 _).set_ne (by omega) 3 _).set_ne (by omega) 4 _).set_ne (by omega) 5 _)
 ·
  go_wp2
  refine bodyPost_ret (v := (⟨who, true, 1 + v, 2, at_, at_ + d⟩ : Ev).V) (by simp [results, Tryz.results49, go_sem, kz, Ev.V]) rfl ⟨_, rfl, ?_, ?_⟩
  · exact (((((((hB.setNew hY 3 _).setNew (Nat.le_refl _) 0 _).setNew (Nat.le_refl _) 1 _).setNew (Nat.le_refl _) 2 _).setNew (Nat.le_refl _) 3 _).setNew (Nat.le_refl _) 4 _).setNew (Nat.le_refl _) 5 _)
  · exact (((((((hcur.set_ne (by omega) 3 _).set_ne (by omega) 0 _).set_ne (by omega) 1 _).set_ne (by omega) 2 _).set_ne (by omega) 3 _).set_ne (by omega) 4 _).set_ne (by omega) 5 _)) : p := h -- 47302d58
theorem zdrwS1 {p : Prop} (h : p := by
 go_wp2_with fail
 refine (l1Below_any N k a0 len cap _ _ (hc.below (hB.below hk hN)) hk (Nat.le_trans hN hB.size) hcur (by omega)).mono ?_
 rintro e w5 ⟨v, ⟨v0, v1⟩, rfl, hB2, hcur2⟩
 replace hz := hB2.box hz (by omega)
 replace hy := hB2.box hy (by omega)
 replace hB := hB.trans hB2
 clear hB2 hcur
 have hcur := hcur2
 clear hcur2
 have ky := hy.cell
 have fy := hy.frozen
 have kz := hz.cell
 have fz := hz.frozen
 go_wp2
 refine bodyPost_ret (v := (⟨who, false, 1 + v, 4, at_, at_ + d⟩ : Ev).V) (by simp [results, Tryz.results49, go_sem, kz, Ev.V]) rfl ⟨_, rfl, ?_, ?_⟩
 · exact ((((((((hB.setNew hY 2 _).setNew hY 3 _).setNew (Nat.le_refl _) 0 _).setNew (Nat.le_refl _) 1 _).setNew (Nat.le_refl _) 2 _).setNew (Nat.le_refl _) 3 _).setNew (Nat.le_refl _) 4 _).setNew (Nat.le_refl _) 5 _)
 · exact ((((((((hcur.set_ne (by omega) 2 _).set_ne (by omega) 3 _).set_ne (by omega) 0 _).set_ne (by omega) 1 _).set_ne (by omega) 2 _).set_ne (by omega) 3 _).set_ne (by omega) 4 _).set_ne (by omega) 5 _)) : p := h -- a4f1ecad
theorem zdrwS2 {p : Prop} (h : p := by
 clear hw hcl hL hC
 refine OpGoes.go fun K hK => ?_
 go_simp
 exact hK _ _ ⟨rfl, rfl⟩) : p := h -- ee92c020
theorem zdrwS3 {p : Prop} (h : p := by
 have HO := Lib.hid hO; clear hO
 go_wp2
 go_ret
 exact ⟨l, A, c, rfl, by omega, evs_own HO.out, hB, hcur⟩) : p := h -- bf5c6e8e

/-- The bytes of a draw lie below N. -/
def CodeOk (N : Nat) (w : World) (a0 : Option Addr) (len : Nat) : Prop :=
 len ≤ maxLen ∧ (0 < len → ∃ b off, a0 = some ⟨b, off, none⟩ ∧ b < N ∧ b < w.heap.size ∧ ∀ i, i < len → ∃ z : Int, 0 ≤ z ∧ z ≤ 255 ∧ w.cell? ⟨b, off + i, none⟩ = some (.int .u8 z))

theorem CodeOk.below {N : Nat} {w w' : World} {a0 : Option Addr} {len : Nat} (h : CodeOk N w a0 len) (hb : Below N w w') : CodeOk N w' a0 len := by
 refine ⟨h.1, fun hl => ?_⟩
 obtain ⟨b, off, e, hN, hs, hc⟩ := h.2 hl
 refine ⟨b, off, e, hN, Nat.lt_of_lt_of_le hs hb.size, fun i hi => ?_⟩
 obtain ⟨z, h1, h2, h3⟩ := hc i hi
 exact ⟨z, h1, h2, by rw [hb.cell (p := ⟨b, off + i, none⟩) hN]; exact h3⟩

/-- Block k holds a cursor over those bytes. -/
def CurAt (w : World) (k : Nat) (a0 : Option Addr) (len cap : Nat) : Prop :=
 ∃ (i : Nat) (h : Int), i ≤ len ∧ BoxAt w k #[.slice a0 len cap, .int .i64 i, .int .i64 h] 60

/-- A draw yields a number of which P holds; all but the cursor's block is as it was. -/
def Draws (P : Int → Prop) (k : Nat) (a0 : Option Addr) (len cap : Nat) (w : World) (e : Ending) (w' : World) : Prop :=
 ∃ x : Int, P x ∧ e = .returned (.int .i64 x) ∧ But k w w' ∧ CurAt w' k a0 len cap

theorem and255 (x : Int) : 0 ≤ bits .and .i64 x 255 ∧ bits .and .i64 x 255 ≤ 255 := by
 have h : (BitVec.ofInt 64 x &&& BitVec.ofInt 64 255).toNat ≤ 255 := by
  rw [BitVec.toNat_and]
  exact Nat.le_trans Nat.and_le_right (by decide)
 have e : bits .and .i64 x 255 = ((BitVec.ofInt 64 x &&& BitVec.ofInt 64 255).toNat : Int) := by
  show IntKind.i64.wrap ((BitVec.ofInt 64 x &&& BitVec.ofInt 64 255).toNat : Int) = _
  rw [IntKind.wrap_i64]
  omega
 rw [e]
 omega

set_option maxHeartbeats 400000 in
theorem l1Byte_any (N k : Nat) (a0 : Option Addr) (len cap : Nat) (w : World) (hc : CodeOk N w a0 len) (hk : N ≤ k) (hcur : CurAt w k a0 len cap) :
  Calls Tryz.prog 57 #[.pointer (some ⟨k, 0, none⟩)] w (Draws (fun x => 0 ≤ x ∧ x ≤ 255) k a0 len cap w) := by
 obtain ⟨i, h, hi, hbox⟩ := hcur
 have kc := hbox.cell
 have kf := hbox.frozen
 go_enter Tryz.func57, Tryz.ntmps57
 go_wp2
 refine wp_abs (fun W => But k w W ∧ ∃ h', BoxAt W k #[.slice a0 len cap, .int .i64 i, .int .i64 h'] 60) ⟨(But.refl k w).set 2 _, _, by simpa using hbox.set 2 _⟩ ?_
 rintro W ⟨hB, h', hbox'⟩
 clear kc kf
 have kc := hbox'.cell
 have kf := hbox'.frozen
 go_quiet (fail)
 go_wp2
 have hX := and255 (bits BinOp.xor IntKind.i64 (h' / 8589934592) (h' / 35184372088832))
 generalize bits BinOp.and IntKind.i64 (bits BinOp.xor IntKind.i64 (h' / 8589934592) (h' / 35184372088832)) 255 = X at *
 obtain ⟨hX0, hX1⟩ := hX
 refine wp_abs (fun W' => But k w W' ∧ BoxAt W' k #[.slice a0 len cap, .int .i64 i, .int .i64 h'] 60) ⟨hB.drewN _, hbox'.drewN _⟩ ?_
 clear kc kf hbox hbox' hB
 rintro W1 ⟨hB, hbox⟩
 have kc := hbox.cell
 have kf := hbox.frozen
 by_cases hlt : i < len
 ·
  have hm := hc.1
  unfold maxLen at hm
  have hlt' : (i : Int) < (len : Int) := by omega
  have hge' : (0 : Int) ≤ (i : Int) := by omega
  obtain ⟨b, off, rfl, hbN, hbs, hcs⟩ := hc.2 (by omega)
  obtain ⟨z, z0, z1, hz⟩ := hcs i hlt
  have hz' : W1.cell? ⟨b, off + i, none⟩ = some (.int .u8 z) := by
   rw [← hz]; unfold World.cell?; rw [hB.block b hbs (by omega)]
  go_quiet (fail)
  go_wp2
  go_quiet (fail)
  go_wp2
  go_ret
  refine ⟨_, and255 _, rfl, (hB.drewN _).set 1 _, i + 1, h', by omega, ?_⟩
  have := fun n => (BoxAt.drewN hbox n).set 1 (.int .i64 (i + 1))
  simpa using this _
 ·
  have hlt' : ¬ (i : Int) < (len : Int) := by omega
  go_quiet (fail)
  go_wp2
  go_ret
  exact ⟨X, ⟨hX0, hX1⟩, rfl, hB.drewN _, i, h', hi, hbox.drewN _⟩

/-- Likewise a bool. -/
def DrawsB (k : Nat) (a0 : Option Addr) (len cap : Nat) (w : World) (e : Ending) (w' : World) : Prop :=
 ∃ x : Bool, e = .returned (.bool x) ∧ But k w w' ∧ CurAt w' k a0 len cap

/-- A new cursor. -/
def NewCur (a0 : Option Addr) (len cap : Nat) (w : World) (e : Ending) (w' : World) : Prop :=
 ∃ h : Int, e = .returned (.pointer (some ⟨w.heap.size, 0, none⟩)) ∧ w' = w.alloc (.cells #[.slice a0 len cap, .int .i64 0, .int .i64 h] 60)

set_option maxHeartbeats 400000 in
theorem l1New_any (N : Nat) (a0 : Option Addr) (len cap : Nat) (w : World) (hc : CodeOk N w a0 len) :
  Calls Tryz.prog 32 #[.slice a0 len cap] w (NewCur a0 len cap w) := by
 obtain ⟨hm, hcs⟩ := hc
 unfold maxLen at hm
 have HC := Lib.hid hcs; clear hcs
 go_enter Tryz.func32, Tryz.ntmps32
 go_wp2
 go_loop [3, 4] (fun s3 s4 => ∃ (h : Int) (i : Nat), i ≤ len ∧ s3 = .int .i64 h ∧ s4 = .int .i64 i) (fun _ s4 => len - (intOf s4).toNat)
 case atStart => exact ⟨_, 0, Nat.zero_le _, rfl, rfl⟩
 case round =>
  obtain ⟨h, i, hi, rfl, rfl⟩ := hrel
  by_cases hlt : i < len
  ·
   obtain ⟨b, off, rfl, _, _, hz⟩ := HC.out (by omega)
   obtain ⟨z, z0, z1, hz⟩ := hz i hlt
   have h1 : (i : Int) < (len : Int) := by omega
   have h2 : (0 : Int) ≤ (i : Int) := by omega
   go_wp2
   go_round
   case rel => exact ⟨_, i + 1, by omega, rfl, by go_num⟩
   case measure => simp [intOf]; omega
  ·
   have h1 : ¬ (i : Int) < (len : Int) := by omega
   go_wp2
   go_ret
   exact ⟨h, rfl, rfl⟩

set_option maxHeartbeats 400000 in
theorem l1Below_any (N k : Nat) (a0 : Option Addr) (len cap : Nat) (n : Int) (w : World) (hc : CodeOk N w a0 len) (hk : N ≤ k) (hN : N ≤ w.heap.size) (hcur : CurAt w k a0 len cap) (hn : 0 < n) :
  Calls Tryz.prog 44 #[.pointer (some ⟨k, 0, none⟩), .int .i64 n] w (Draws (fun x => 0 ≤ x ∧ x < n) k a0 len cap w) := by
 by_cases hs : n ≤ 256
 ·
  go_enter Tryz.func44, Tryz.ntmps44
  go_wp2_with fail
  refine (l1Byte_any N k a0 len cap _ hc hk hcur).mono ?_
  rintro e w1 ⟨x, ⟨x0, x1⟩, rfl, hB, hcur1⟩
  go_wp2
  go_ret
  exact ⟨x % n, ⟨Int.emod_nonneg _ (by omega), Int.emod_lt_of_pos _ hn⟩, rfl, hB, hcur1⟩
 ·
  have hp : ¬ n ≤ 0 := by omega
  go_enter Tryz.func44, Tryz.ntmps44
  go_wp2_with fail
  refine (l1Byte_any N k a0 len cap _ hc hk hcur).mono ?_
  rintro e w1 ⟨x, ⟨x0, x1⟩, rfl, hB1, hcur1⟩
  have hc1 := hc.below (hB1.below hk hN)
  have hN1 := Nat.le_trans hN hB1.size
  go_wp2_with fail
  refine (l1Byte_any N k a0 len cap _ hc1 hk hcur1).mono ?_
  rintro e w2 ⟨y, ⟨y0, y1⟩, rfl, hB2, hcur2⟩
  have hc2 := hc1.below (hB2.below hk hN1)
  have hN2 := Nat.le_trans hN1 hB2.size
  go_wp2_with fail
  refine (l1Byte_any N k a0 len cap _ hc2 hk hcur2).mono ?_
  rintro e w3 ⟨z, ⟨z0, z1⟩, rfl, hB3, hcur3⟩
  have hc3 := hc2.below (hB3.below hk hN2)
  go_wp2_with fail
  refine (l1Byte_any N k a0 len cap _ hc3 hk hcur3).mono ?_
  rintro e w4 ⟨v, ⟨v0, v1⟩, rfl, hB4, hcur4⟩
  go_wp2
  go_ret
  exact ⟨(x * 16777216 + y * 65536 + z * 256 + v) % n, ⟨Int.emod_nonneg _ (by omega), Int.emod_lt_of_pos _ hn⟩, rfl, ((hB1.trans hB2).trans hB3).trans hB4, hcur4⟩

set_option maxHeartbeats 400000 in
theorem l1Once_any (N k : Nat) (a0 : Option Addr) (len cap : Nat) (n : Int) (w : World) (hc : CodeOk N w a0 len) (hk : N ≤ k) (hN : N ≤ w.heap.size) (hcur : CurAt w k a0 len cap) (hn : 0 < n) :
  Calls Tryz.prog 47 #[.pointer (some ⟨k, 0, none⟩), .int .i64 n] w (DrawsB k a0 len cap w) := by
 go_enter Tryz.func47, Tryz.ntmps47
 go_wp2_with fail
 refine (l1Below_any N k a0 len cap n _ hc hk hN hcur hn).mono ?_
 rintro e w1 ⟨x, _, rfl, hB, hcur1⟩
 go_wp2
 go_ret
 exact ⟨_, rfl, hB, hcur1⟩

set_option maxHeartbeats 400000 in
theorem l1From_any (N k : Nat) (a0 : Option Addr) (len cap : Nat) (lo hi : Int) (w : World) (hc : CodeOk N w a0 len) (hk : N ≤ k) (hN : N ≤ w.heap.size) (hcur : CurAt w k a0 len cap) (h1 : lo ≤ hi) (h2 : -1000000000 ≤ lo) (h3 : hi ≤ 1000000000) :
  Calls Tryz.prog 65 #[.pointer (some ⟨k, 0, none⟩), .int .i64 lo, .int .i64 hi] w (Draws (fun x => lo ≤ x ∧ x ≤ hi) k a0 len cap w) := by
 go_enter Tryz.func65, Tryz.ntmps65
 go_wp2_with fail
 refine (l1Below_any N k a0 len cap _ _ hc hk hN hcur (by omega)).mono ?_
 rintro e w1 ⟨x, ⟨x0, x1⟩, rfl, hB, hcur1⟩
 go_wp2
 go_ret
 exact ⟨lo + x, ⟨by omega, by omega⟩, rfl, hB, hcur1⟩

/-- A place is drawn. -/
def DrawsP (k : Nat) (a0 : Option Addr) (len cap : Nat) (w : World) (e : Ending) (w' : World) : Prop :=
 ∃ (a c : Bool) (b d : Int), e = .returned (.agg #[.bool a, .int .i64 b, .bool c, .int .i64 d]) ∧ But k w w' ∧ CurAt w' k a0 len cap

theorem But.alloc {k : Nat} {a b : World} (h : But k a b) (o : Obj) : But k a (b.alloc o) :=
 ⟨h.os, h.tape, h.output, by have := h.size; simp; omega, fun j hj hk => by
  rw [← h.block j hj hk]
  exact ((Below.refl _ b).alloc (Nat.le_refl _) o).block j (Nat.lt_of_lt_of_le hj h.size)⟩
theorem But.setNew {k g : Nat} {a b : World} (h : But k a b) (hg : a.heap.size ≤ g) (i : Nat) (v : Value) : But k a (b.setCell ⟨g, i, none⟩ v) :=
 ⟨h.os, h.tape, h.output, by simpa using h.size, fun j hj hk => by
  rw [← h.block j hj hk]
  simp [World.setCell, Array.getElem?_modify, show g ≠ j by omega]⟩
theorem CurAt.alloc {k : Nat} {w : World} {a0 : Option Addr} {len cap : Nat} (h : CurAt w k a0 len cap) (o : Obj) : CurAt (w.alloc o) k a0 len cap := by
 obtain ⟨i, x, hi, hb⟩ := h
 exact ⟨i, x, hi, hb.alloc o⟩
theorem CurAt.set_ne {k g : Nat} {w : World} {a0 : Option Addr} {len cap : Nat} (h : CurAt w k a0 len cap) (hne : k ≠ g) (i : Nat) (v : Value) : CurAt (w.setCell ⟨g, i, none⟩ v) k a0 len cap := by
 obtain ⟨j, x, hi, hb⟩ := h
 exact ⟨j, x, hi, hb.set_ne hne i v⟩
theorem CurAt.lt {k : Nat} {w : World} {a0 : Option Addr} {len cap : Nat} (h : CurAt w k a0 len cap) : k < w.heap.size := by
 obtain ⟨j, x, hi, hb⟩ := h
 exact hb.lt
theorem CurAt.sn {k g : Nat} {w : World} {a0 : Option Addr} {len cap : Nat} (h : CurAt w k a0 len cap) {i : Nat} {v : Value} (hne : k ≠ g := by omega) : CurAt (w.setCell ⟨g, i, none⟩ v) k a0 len cap := h.set_ne hne i v

end Go.Proofs.YtiiaimjlohpemaaGreat

/-
 What a drawing cursor leaves as it is.
-/
namespace Go.Proofs.YtiiaimjlohpemaaGreat
set_option linter.unusedSimpArgs false
set_option linter.unusedVariables false
open Go.RowKit
set_option linter.unusedVariables false

theorem But.grown {k : Nat} {a b c : World} {row : Option Nat} (h : But k a b) (hg : b.grownBy c row) (hr : ∀ g, row = some g → a.heap.size ≤ g) : But k a c :=
 ⟨hg.os.trans h.os, hg.tape.trans h.tape, hg.output.trans h.output, Nat.le_trans h.size hg.size, fun j hj hk => (hg.block j (Nat.lt_of_lt_of_le hj h.size) (fun e => by have := hr j e.symm; omega)).trans (h.block j hj hk)⟩
theorem CurAt.grown {k : Nat} {w w' : World} {a0 : Option Addr} {len cap : Nat} {row : Option Nat} (h : CurAt w k a0 len cap) (hg : w.grownBy w' row) (hr : row ≠ some k) : CurAt w' k a0 len cap := by
 obtain ⟨i, x, hi, hb⟩ := h
 exact ⟨i, x, hi, hb.grown2 hg hr⟩
theorem own_but {k N : Nat} {e : TypeId} {s : Nat} {v : Value} {n : Nat} {xs : List Value} {w w' : World} (h : w.ownsRow N e s v n xs) (hb : But k w w') (hk : k < N) : w'.ownsRow N e s v n xs := by
 refine ⟨h.1, ?_⟩
 rcases h.2 with h' | ⟨g, cap, cur, hv, hg, hh, hr⟩
 · exact .inl h'
 · exact .inr ⟨g, cap, cur, hv, hg, (hb.block g (Array.getElem?_eq_some_iff.1 hh).1 (by omega)).trans hh, hr⟩
theorem KeepT.but {T : TypeId} {k : Nat} {w w' : World} {cs : Array Value} {t : TypeId} (hb : But k w w') (hk : BoxAt w k cs t) (ht : t ≠ T) : KeepT T w w' := fun g cs' hg => hb.block g hg.lt (by
 rintro rfl
 unfold BoxAt at hg hk
 rw [hg] at hk
 injection hk with hk
 injection hk with _ hk
 exact ht hk.symm)
theorem CurAt.box {k : Nat} {w : World} {a0 : Option Addr} {len cap : Nat} (h : CurAt w k a0 len cap) : ∃ cs, BoxAt w k cs 60 := by
 obtain ⟨i, x, hi, hb⟩ := h
 exact ⟨_, hb⟩
theorem But.setsNew {k g : Nat} {a : World} : ∀ {b : World}, But k a b → a.heap.size ≤ g → ∀ (us : List Value) (o : Nat), But k a (Go.Proofs.YtiiaimjlohpemaaGreat.setCells b g o us)
 | _, h, _, [], _ => h
 | _, h, hg, u :: us, o => But.setsNew (h.setNew hg o u) hg us (o + 1)
theorem But.drew {k : Nat} {a b : World} (h : But k a b) : But k a b.drew := ⟨h.os, h.tape, h.output, h.size, h.block⟩
theorem CurAt.sets {k g : Nat} {w : World} {a0 : Option Addr} {len cap : Nat} (h : CurAt w k a0 len cap) (hne : k ≠ g) (us : List Value) (o : Nat) : CurAt (setCells w g o us) k a0 len cap := by
 obtain ⟨j, x, hi, hb⟩ := h
 exact ⟨j, x, hi, BoxAt.sets_ne us o hb hne⟩
theorem CurAt.belowC {k : Nat} {w w' : World} {a0 : Option Addr} {len cap : Nat} (h : CurAt w k a0 len cap) (hb : Below w.heap.size w w') : CurAt w' k a0 len cap := by
 obtain ⟨j, x, hi, hx⟩ := h
 exact ⟨j, x, hi, hx.below hb hx.lt⟩
theorem SameIn.butc {lo hi k : Nat} {w w' : World} (h : But k w w') (hk : k < lo) (hh : hi ≤ w.heap.size) : SameIn lo hi w w' := fun j h1 h2 => h.block j (by omega) (by omega)
theorem IntsO.butc {N k : Nat} {w w' : World} {v : Value} {l : List Int} (h : IntsO N w v l) (hb : But k w w') (hk : k < N) : IntsO N w' v l := own_but h hb hk

/-- Numbers are drawn: a list of them, of the call's own. -/
def DrawsL (m : Nat) (k : Nat) (a0 : Option Addr) (len cap : Nat) (w : World) (e : Ending) (w' : World) : Prop :=
 ∃ (l : List Int) (A : Option Addr) (c : Nat), e = .returned (.slice A l.length c) ∧ l.length ≤ m ∧ IntsW w.heap.size w'.heap.size w' A l.length c l ∧ But k w w' ∧ CurAt w' k a0 len cap

end Go.Proofs.YtiiaimjlohpemaaGreat

/-
 The draws of lines and of events.
-/
namespace Go.Proofs.YtiiaimjlohpemaaGreat
set_option linter.unusedSimpArgs false
set_option linter.unusedVariables false
open Go.RowKit
set_option linter.unusedVariables false
attribute [local go_sem ↓] Go.wp_at_zero Go.wp_at_succ

/-- The length that stands in a slice. -/
def lenOf : Value → Nat
 | .slice _ n _ => n
 | _ => 0

end Go.Proofs.YtiiaimjlohpemaaGreat

/-
 The draws of lines with a number, of events, and of both.
-/
namespace Go.Proofs.YtiiaimjlohpemaaGreat
set_option linter.unusedSimpArgs false
set_option linter.unusedVariables false
open Go.RowKit
set_option linter.unusedVariables false
attribute [local go_sem ↓] Go.wp_at_zero Go.wp_at_succ

/-- An event is drawn. -/
def DrawsE (k : Nat) (a0 : Option Addr) (len cap : Nat) (w : World) (e : Ending) (w' : World) : Prop := ∃ x : Ev, e = .returned x.V ∧ But k w w' ∧ CurAt w' k a0 len cap
set_option maxRecDepth 100000 in
set_option maxHeartbeats 4000000 in
theorem l11Draw_any (N k : Nat) (a0 : Option Addr) (len cap : Nat) (w : World) (hc : CodeOk N w a0 len) (hk : N ≤ k) (hN : N ≤ w.heap.size) (hcur0 : CurAt w k a0 len cap) :
  Calls Tryz.prog 49 #[pT k] w (DrawsE k a0 len cap w) := by
 have lk := hcur0.lt
 go_enter Tryz.func49, Tryz.ntmps49
 go_wp2_with fail
 refine calls_abs (fun W => But k w W ∧ CurAt W k a0 len cap ∧ BoxAt W w.heap.size #[.int .i64 0, .bool false, .int .i64 0, .int .i64 0, .int .i64 0, .int .i64 0] 32) ⟨(But.refl _ _).alloc _, hcur0.alloc _, BoxAt.new _ _ _⟩ ?_
 clear hcur0
 rintro W ⟨hB, hcur, hz⟩
 refine (l1Below_any N k a0 len cap _ _ (hc.below (hB.below hk hN)) hk (Nat.le_trans hN hB.size) hcur (by omega)).mono ?_
 rintro e w1 ⟨at_, ⟨at_0, at_1⟩, rfl, hB2, hcur2⟩
 replace hz := hB2.box hz (by omega)
 replace hB := hB.trans hB2
 clear hB2 hcur
 have hcur := hcur2
 clear hcur2
 go_wp2_with fail
 refine (l1Below_any N k a0 len cap _ _ (hc.below (hB.below hk hN)) hk (Nat.le_trans hN hB.size) hcur (by omega)).mono ?_
 rintro e w2 ⟨who, ⟨who0, who1⟩, rfl, hB2, hcur2⟩
 replace hz := hB2.box hz (by omega)
 replace hB := hB.trans hB2
 clear hB2 hcur
 have hcur := hcur2
 clear hcur2
 go_wp2_with fail
 refine (l1Below_any N k a0 len cap _ _ (hc.below (hB.below hk hN)) hk (Nat.le_trans hN hB.size) hcur (by omega)).mono ?_
 rintro e w3 ⟨d, ⟨d0, d1⟩, rfl, hB2, hcur2⟩
 replace hz := hB2.box hz (by omega)
 replace hB := hB.trans hB2
 clear hB2 hcur
 have hcur := hcur2
 clear hcur2
 go_wp2_with fail
 refine calls_abs (fun W => But k w W ∧ CurAt W k a0 len cap ∧ BoxAt W w.heap.size #[.int .i64 0, .bool false, .int .i64 0, .int .i64 0, .int .i64 0, .int .i64 0] 32 ∧ BoxAt W w3.heap.size #[.int .i64 (who), .bool false, .int .i64 (0), .int .i64 (0), .int .i64 (at_), .int .i64 (at_ + d)] 32) ⟨hB.alloc _, hcur.alloc _, hz.alloc _, BoxAt.new _ _ _⟩ ?_
 have hY : w.heap.size ≤ w3.heap.size := hB.size
 have hYz : w.heap.size ≠ w3.heap.size := by have := hz.lt; omega
 generalize w3.heap.size = Y at *
 clear hB hcur hz
 rintro W3 ⟨hB, hcur, hz, hy⟩
 refine (l1Below_any N k a0 len cap _ _ (hc.below (hB.below hk hN)) hk (Nat.le_trans hN hB.size) hcur (by omega)).mono ?_
 rintro e w4 ⟨r, ⟨r0, r1⟩, rfl, hB2, hcur2⟩
 replace hz := hB2.box hz (by omega)
 replace hy := hB2.box hy (by omega)
 replace hB := hB.trans hB2
 clear hB2 hcur
 have hcur := hcur2
 clear hcur2
 have ky := hy.cell
 have fy := hy.frozen
 have kz := hz.cell
 have fz := hz.frozen
 have hr : r = 0 ∨ r = 1 ∨ r = 2 ∨ r = 3 ∨ r = 4 ∨ r = 5 := by omega
 clear r0 r1
 rcases hr with rfl | rfl | rfl | rfl | rfl | rfl
 ·
  exact zdrwS0
 ·
  exact zdrwS0
 ·
  exact zdrwS0
 ·
  go_wp2
  refine bodyPost_ret (v := (⟨who, false, 0, 3, at_, at_ + d⟩ : Ev).V) (by simp [results, Tryz.results49, go_sem, kz, Ev.V]) rfl ⟨_, rfl, ?_, ?_⟩
  · exact (((((((hB.setNew hY 3 _).setNew (Nat.le_refl _) 0 _).setNew (Nat.le_refl _) 1 _).setNew (Nat.le_refl _) 2 _).setNew (Nat.le_refl _) 3 _).setNew (Nat.le_refl _) 4 _).setNew (Nat.le_refl _) 5 _)
  · exact (((((((hcur.set_ne (by omega) 3 _).set_ne (by omega) 0 _).set_ne (by omega) 1 _).set_ne (by omega) 2 _).set_ne (by omega) 3 _).set_ne (by omega) 4 _).set_ne (by omega) 5 _)
 ·
  exact zdrwS1
 ·
  exact zdrwS1

set_option maxRecDepth 100000 in
set_option maxHeartbeats 4000000 in
theorem l11DrawAny_any (N k : Nat) (a0 : Option Addr) (len cap : Nat) (w : World) (hc : CodeOk N w a0 len) (hk : N ≤ k) (hN : N ≤ w.heap.size) (hcur0 : CurAt w k a0 len cap) :
  Calls Tryz.prog 50 #[pT k] w (DrawsE k a0 len cap w) := by
 have lk := hcur0.lt
 go_enter Tryz.func50, Tryz.ntmps50
 go_wp2_with fail
 refine calls_abs (fun W => But k w W ∧ CurAt W k a0 len cap ∧ BoxAt W w.heap.size #[.int .i64 0, .bool false, .int .i64 0, .int .i64 0, .int .i64 0, .int .i64 0] 32) ⟨(But.refl _ _).alloc _, hcur0.alloc _, BoxAt.new _ _ _⟩ ?_
 clear hcur0
 rintro W ⟨hB, hcur, hz⟩
 refine (l11Draw_any N k a0 len cap _ (hc.below (hB.below hk hN)) hk (Nat.le_trans hN hB.size) hcur).mono ?_
 rintro e w3 ⟨x, rfl, hB2, hcur2⟩
 replace hz := hB2.box hz (by omega)
 replace hB := hB.trans hB2
 clear hB2 hcur
 have hcur := hcur2
 clear hcur2
 unfold Ev.V
 go_wp2_with fail
 refine calls_abs (fun W => But k w W ∧ CurAt W k a0 len cap ∧ BoxAt W w.heap.size #[.int .i64 0, .bool false, .int .i64 0, .int .i64 0, .int .i64 0, .int .i64 0] 32 ∧ BoxAt W w3.heap.size #[x.who, x.put, x.v, x.re, x.b, x.e] 32) ⟨hB.alloc _, hcur.alloc _, hz.alloc _, BoxAt.new _ _ _⟩ ?_
 have hY : w.heap.size ≤ w3.heap.size := hB.size
 have hYz : w.heap.size ≠ w3.heap.size := by have := hz.lt; omega
 generalize w3.heap.size = Y at *
 clear hB hcur hz
 rintro W3 ⟨hB, hcur, hz, hy⟩
 refine (l1Once_any N k a0 len cap _ _ (hc.below (hB.below hk hN)) hk (Nat.le_trans hN hB.size) hcur (by omega)).mono ?_
 rintro e w4 ⟨b, rfl, hB2, hcur2⟩
 replace hz := hB2.box hz (by omega)
 replace hy := hB2.box hy (by omega)
 replace hB := hB.trans hB2
 clear hB2 hcur
 have hcur := hcur2
 clear hcur2
 have ky := hy.cell
 have fy := hy.frozen
 have kz := hz.cell
 have fz := hz.frozen
 cases b
 ·
  go_wp2
  refine bodyPost_ret (v := (⟨x.who, x.put, x.v, x.re, x.b, x.e⟩ : Ev).V) (by simp [results, Tryz.results50, go_sem, kz, Ev.V]) rfl ⟨_, rfl, ?_, ?_⟩
  · exact ((((((hB.setNew (Nat.le_refl _) 0 _).setNew (Nat.le_refl _) 1 _).setNew (Nat.le_refl _) 2 _).setNew (Nat.le_refl _) 3 _).setNew (Nat.le_refl _) 4 _).setNew (Nat.le_refl _) 5 _)
  · exact ((((((hcur.set_ne (by omega) 0 _).set_ne (by omega) 1 _).set_ne (by omega) 2 _).set_ne (by omega) 3 _).set_ne (by omega) 4 _).set_ne (by omega) 5 _)
 ·
  go_wp2_with fail
  refine (l1Below_any N k a0 len cap _ _ (hc.below (hB.below hk hN)) hk (Nat.le_trans hN hB.size) hcur (by omega)).mono ?_
  rintro e w5 ⟨r, ⟨r0, r1⟩, rfl, hB2, hcur2⟩
  replace hz := hB2.box hz (by omega)
  replace hy := hB2.box hy (by omega)
  replace hB := hB.trans hB2
  clear hB2 hcur
  have hcur := hcur2
  clear hcur2
  have ky := hy.cell
  have fy := hy.frozen
  have kz := hz.cell
  have fz := hz.frozen
  have hr : r = 0 ∨ r = 1 ∨ r = 2 ∨ r = 3 ∨ r = 4 := by omega
  clear r0 r1
  rcases hr with rfl | rfl | rfl | rfl | rfl
  ·
   go_wp2_with fail
   refine (l1From_any N k a0 len cap _ _ _ (hc.below (hB.below hk hN)) hk (Nat.le_trans hN hB.size) hcur (by omega) (by omega) (by omega)).mono ?_
   rintro e w6 ⟨z, ⟨z0, z1⟩, rfl, hB2, hcur2⟩
   replace hz := hB2.box hz (by omega)
   replace hy := hB2.box hy (by omega)
   replace hB := hB.trans hB2
   clear hB2 hcur
   have hcur := hcur2
   clear hcur2
   have ky := hy.cell
   have fy := hy.frozen
   have kz := hz.cell
   have fz := hz.frozen
   go_wp2
   refine bodyPost_ret (v := (⟨z, x.put, x.v, x.re, x.b, x.e⟩ : Ev).V) (by simp [results, Tryz.results50, go_sem, kz, Ev.V]) rfl ⟨_, rfl, ?_, ?_⟩
   · exact (((((((hB.setNew hY 0 _).setNew (Nat.le_refl _) 0 _).setNew (Nat.le_refl _) 1 _).setNew (Nat.le_refl _) 2 _).setNew (Nat.le_refl _) 3 _).setNew (Nat.le_refl _) 4 _).setNew (Nat.le_refl _) 5 _)
   · exact (((((((hcur.set_ne (by omega) 0 _).set_ne (by omega) 0 _).set_ne (by omega) 1 _).set_ne (by omega) 2 _).set_ne (by omega) 3 _).set_ne (by omega) 4 _).set_ne (by omega) 5 _)
  ·
   go_wp2_with fail
   refine (l1From_any N k a0 len cap _ _ _ (hc.below (hB.below hk hN)) hk (Nat.le_trans hN hB.size) hcur (by omega) (by omega) (by omega)).mono ?_
   rintro e w6 ⟨z, ⟨z0, z1⟩, rfl, hB2, hcur2⟩
   replace hz := hB2.box hz (by omega)
   replace hy := hB2.box hy (by omega)
   replace hB := hB.trans hB2
   clear hB2 hcur
   have hcur := hcur2
   clear hcur2
   have ky := hy.cell
   have fy := hy.frozen
   have kz := hz.cell
   have fz := hz.frozen
   go_wp2
   refine bodyPost_ret (v := (⟨x.who, x.put, x.v, x.re, z, x.e⟩ : Ev).V) (by simp [results, Tryz.results50, go_sem, kz, Ev.V]) rfl ⟨_, rfl, ?_, ?_⟩
   · exact (((((((hB.setNew hY 4 _).setNew (Nat.le_refl _) 0 _).setNew (Nat.le_refl _) 1 _).setNew (Nat.le_refl _) 2 _).setNew (Nat.le_refl _) 3 _).setNew (Nat.le_refl _) 4 _).setNew (Nat.le_refl _) 5 _)
   · exact (((((((hcur.set_ne (by omega) 4 _).set_ne (by omega) 0 _).set_ne (by omega) 1 _).set_ne (by omega) 2 _).set_ne (by omega) 3 _).set_ne (by omega) 4 _).set_ne (by omega) 5 _)
  ·
   go_wp2_with fail
   refine calls_abs (fun W => But k w W ∧ CurAt W k a0 len cap ∧ BoxAt W w.heap.size #[.int .i64 0, .bool false, .int .i64 0, .int .i64 0, .int .i64 0, .int .i64 0] 32 ∧ BoxAt W Y #[x.who, x.put, x.v, x.re, x.b, x.e] 32 ∧ BoxAt W w5.heap.size #[.int .i64 (-1), .int .i64 2000, .int .i64 2001] 2) ⟨hB.alloc _, hcur.alloc _, hz.alloc _, hy.alloc _, BoxAt.new _ _ _⟩ ?_
   have hG : w.heap.size ≤ w5.heap.size := hB.size
   generalize w5.heap.size = G at *
   clear hB hcur hz hy ky fy kz fz
   rintro W5 ⟨hB, hcur, hz, hy, hg⟩
   refine (l1Below_any N k a0 len cap _ _ (hc.below (hB.below hk hN)) hk (Nat.le_trans hN hB.size) hcur (by omega)).mono ?_
   rintro e w6 ⟨q, ⟨q0, q1⟩, rfl, hB2, hcur2⟩
   replace hz := hB2.box hz (by omega)
   replace hy := hB2.box hy (by omega)
   replace hg := hB2.box hg (by omega)
   replace hB := hB.trans hB2
   clear hB2 hcur
   have hcur := hcur2
   clear hcur2
   have ky := hy.cell
   have fy := hy.frozen
   have kz := hz.cell
   have fz := hz.frozen
   have kg := hg.cell
   have hq : q = 0 ∨ q = 1 ∨ q = 2 := by omega
   clear q0 q1
   rcases hq with rfl | rfl | rfl
   ·
    go_wp2
    refine bodyPost_ret (v := (⟨x.who, x.put, x.v, x.re, x.b, -1⟩ : Ev).V) (by simp [results, Tryz.results50, go_sem, kz, Ev.V]) rfl ⟨_, rfl, ?_, ?_⟩
    · exact (((((((hB.setNew hY 5 _).setNew (Nat.le_refl _) 0 _).setNew (Nat.le_refl _) 1 _).setNew (Nat.le_refl _) 2 _).setNew (Nat.le_refl _) 3 _).setNew (Nat.le_refl _) 4 _).setNew (Nat.le_refl _) 5 _)
    · exact (((((((hcur.set_ne (by omega) 5 _).set_ne (by omega) 0 _).set_ne (by omega) 1 _).set_ne (by omega) 2 _).set_ne (by omega) 3 _).set_ne (by omega) 4 _).set_ne (by omega) 5 _)
   ·
    go_wp2
    refine bodyPost_ret (v := (⟨x.who, x.put, x.v, x.re, x.b, 2000⟩ : Ev).V) (by simp [results, Tryz.results50, go_sem, kz, Ev.V]) rfl ⟨_, rfl, ?_, ?_⟩
    · exact (((((((hB.setNew hY 5 _).setNew (Nat.le_refl _) 0 _).setNew (Nat.le_refl _) 1 _).setNew (Nat.le_refl _) 2 _).setNew (Nat.le_refl _) 3 _).setNew (Nat.le_refl _) 4 _).setNew (Nat.le_refl _) 5 _)
    · exact (((((((hcur.set_ne (by omega) 5 _).set_ne (by omega) 0 _).set_ne (by omega) 1 _).set_ne (by omega) 2 _).set_ne (by omega) 3 _).set_ne (by omega) 4 _).set_ne (by omega) 5 _)
   ·
    go_wp2
    refine bodyPost_ret (v := (⟨x.who, x.put, x.v, x.re, x.b, 2001⟩ : Ev).V) (by simp [results, Tryz.results50, go_sem, kz, Ev.V]) rfl ⟨_, rfl, ?_, ?_⟩
    · exact (((((((hB.setNew hY 5 _).setNew (Nat.le_refl _) 0 _).setNew (Nat.le_refl _) 1 _).setNew (Nat.le_refl _) 2 _).setNew (Nat.le_refl _) 3 _).setNew (Nat.le_refl _) 4 _).setNew (Nat.le_refl _) 5 _)
    · exact (((((((hcur.set_ne (by omega) 5 _).set_ne (by omega) 0 _).set_ne (by omega) 1 _).set_ne (by omega) 2 _).set_ne (by omega) 3 _).set_ne (by omega) 4 _).set_ne (by omega) 5 _)
  ·
   go_wp2_with fail
   refine (l1From_any N k a0 len cap _ _ _ (hc.below (hB.below hk hN)) hk (Nat.le_trans hN hB.size) hcur (by omega) (by omega) (by omega)).mono ?_
   rintro e w6 ⟨z, ⟨z0, z1⟩, rfl, hB2, hcur2⟩
   replace hz := hB2.box hz (by omega)
   replace hy := hB2.box hy (by omega)
   replace hB := hB.trans hB2
   clear hB2 hcur
   have hcur := hcur2
   clear hcur2
   have ky := hy.cell
   have fy := hy.frozen
   have kz := hz.cell
   have fz := hz.frozen
   go_wp2
   refine bodyPost_ret (v := (⟨x.who, x.put, z, x.re, x.b, x.e⟩ : Ev).V) (by simp [results, Tryz.results50, go_sem, kz, Ev.V]) rfl ⟨_, rfl, ?_, ?_⟩
   · exact (((((((hB.setNew hY 2 _).setNew (Nat.le_refl _) 0 _).setNew (Nat.le_refl _) 1 _).setNew (Nat.le_refl _) 2 _).setNew (Nat.le_refl _) 3 _).setNew (Nat.le_refl _) 4 _).setNew (Nat.le_refl _) 5 _)
   · exact (((((((hcur.set_ne (by omega) 2 _).set_ne (by omega) 0 _).set_ne (by omega) 1 _).set_ne (by omega) 2 _).set_ne (by omega) 3 _).set_ne (by omega) 4 _).set_ne (by omega) 5 _)
  ·
   go_wp2_with fail
   refine (l1From_any N k a0 len cap _ _ _ (hc.below (hB.below hk hN)) hk (Nat.le_trans hN hB.size) hcur (by omega) (by omega) (by omega)).mono ?_
   rintro e w6 ⟨z, ⟨z0, z1⟩, rfl, hB2, hcur2⟩
   replace hz := hB2.box hz (by omega)
   replace hy := hB2.box hy (by omega)
   replace hB := hB.trans hB2
   clear hB2 hcur
   have hcur := hcur2
   clear hcur2
   have ky := hy.cell
   have fy := hy.frozen
   have kz := hz.cell
   have fz := hz.frozen
   go_wp2
   refine bodyPost_ret (v := (⟨x.who, x.put, x.v, z, x.b, x.e⟩ : Ev).V) (by simp [results, Tryz.results50, go_sem, kz, Ev.V]) rfl ⟨_, rfl, ?_, ?_⟩
   · exact (((((((hB.setNew hY 3 _).setNew (Nat.le_refl _) 0 _).setNew (Nat.le_refl _) 1 _).setNew (Nat.le_refl _) 2 _).setNew (Nat.le_refl _) 3 _).setNew (Nat.le_refl _) 4 _).setNew (Nat.le_refl _) 5 _)
   · exact (((((((hcur.set_ne (by omega) 3 _).set_ne (by omega) 0 _).set_ne (by omega) 1 _).set_ne (by omega) 2 _).set_ne (by omega) 3 _).set_ne (by omega) 4 _).set_ne (by omega) 5 _)

end Go.Proofs.YtiiaimjlohpemaaGreat

/-
 A line that is cut and grows: a slice that lies anywhere in a block of its own.
-/
namespace Go.Proofs.YtiiaimjlohpemaaGreat
set_option linter.unusedSimpArgs false
set_option linter.unusedVariables false
open Go.RowKit
set_option linter.unusedVariables false
attribute [local go_sem ↓] Go.wp_at_zero Go.wp_at_succ

theorem own_keepB {w w' : World} {N : Nat} {e : TypeId} {s : Nat} {v : Value} {n : Nat} {xs : List Value} (h : w.ownsRow N e s v n xs) (hk : ∀ g, v.ownBlock = some g → w'.heap[g]? = w.heap[g]?) : w'.ownsRow N e s v n xs := by
 refine ⟨h.1, ?_⟩
 rcases h.2 with h' | ⟨g, cap, cur, rfl, hg, hh, hr⟩
 · exact .inl h'
 · exact .inr ⟨g, cap, cur, rfl, hg, (hk g rfl).trans hh, hr⟩
theorem own_sn {w : World} {N b i : Nat} {u : Value} {e : TypeId} {s : Nat} {v : Value} {n : Nat} {xs : List Value} (h : w.ownsRow N e s v n xs) (hb : ∀ g, v.ownBlock = some g → g < b) : (w.setCell ⟨b, i, none⟩ u).ownsRow N e s v n xs :=
 own_keepB h fun g hg => Below.heap_setCell w ⟨b, i, none⟩ u g (by have := hb g hg; show g ≠ b; omega)

structure LineX (lo : Nat) (w : World) (g o n cap : Nat) (q : List Int) : Prop where
 len : q.length = n
 le : n ≤ cap
 lo : lo ≤ g
 box : ∃ cur : Array Value, BoxAt w g cur 2 ∧ o + cap ≤ cur.size ∧ ∀ (j : Nat) x, q[j]? = some x → cur[o + j]? = some (.int .i64 x)
section
variable {lo g o n cap : Nat} {w w' : World} {q : List Int}
theorem LineX.lt (h : LineX lo w g o n cap q) : g < w.heap.size := by obtain ⟨cur, hb, _⟩ := h.box; exact hb.lt
theorem LineX.keep (h : LineX lo w g o n cap q) (hk : w'.heap[g]? = w.heap[g]?) : LineX lo w' g o n cap q := by
 obtain ⟨h1, h2, h3, cur, hb, h4⟩ := h
 exact ⟨h1, h2, h3, cur, by unfold BoxAt at hb ⊢; rw [hk]; exact hb, h4⟩
theorem LineX.but {k : Nat} (h : LineX lo w g o n cap q) (hb : But k w w') (hk : k < lo) : LineX lo w' g o n cap q := h.keep (hb.block g h.lt (by have := h.lo; omega))
theorem LineX.al (h : LineX lo w g o n cap q) (ob : Obj) : LineX lo (w.alloc ob) g o n cap q := h.keep (Below.heap_alloc w ob g h.lt)
theorem LineX.sn {b i : Nat} {u : Value} (h : LineX lo w g o n cap q) (hb : g ≠ b) : LineX lo (w.setCell ⟨b, i, none⟩ u) g o n cap q := h.keep (Below.heap_setCell w ⟨b, i, none⟩ u g hb)
theorem LineX.snT {b i : Nat} {u : Value} {cs : Array Value} {t : TypeId} (h : LineX lo w g o n cap q) (hb : BoxAt w b cs t) (ht : 2 ≠ t) : LineX lo (w.setCell ⟨b, i, none⟩ u) g o n cap q := by
 obtain ⟨cur, hc, _⟩ := h.box
 exact h.sn (by
  rintro rfl
  unfold BoxAt at hc hb
  rw [hc] at hb
  injection hb with hb
  injection hb with _ hb
  exact ht hb)
theorem LineX.cell (h : LineX lo w g o n cap q) {j : Nat} {x : Int} (hx : q[j]? = some x) : w.cell? ⟨g, o + j, none⟩ = some (.int .i64 x) := by
 obtain ⟨cur, hb, _, hc⟩ := h.box
 rw [hb.cell]; exact hc j x hx
theorem LineX.frozen (h : LineX lo w g o n cap q) (i : Nat) : w.frozen? ⟨g, i, none⟩ = false := by
 obtain ⟨cur, hb, _, hc⟩ := h.box
 exact hb.frozen i
theorem LineX.drop (h : LineX lo w g o n cap q) (hn : 1 ≤ n) {o' : Nat} (ho : cap = 1 ∧ o' = o ∨ o' = o + 1) : LineX lo w g o' (n - 1) (cap - 1) (q.drop 1) := by
 obtain ⟨h1, h2, h3, cur, hb, h4, h5⟩ := h
 refine ⟨by rw [List.length_drop, h1], by omega, h3, cur, hb, ?_, fun j x hx => ?_⟩
 · rcases ho with ⟨e, rfl⟩ | rfl <;> omega
 ·
  rw [List.getElem?_drop] at hx
  have hj := (List.getElem?_eq_some_iff.1 hx).1
  rcases ho with ⟨e, rfl⟩ | rfl
  · omega
  · rw [Nat.add_assoc]; exact h5 _ x hx
theorem LineX.made {k : Nat} (h : k = w.heap.size) (hl : lo ≤ w.heap.size) : LineX lo (w.alloc (.cells #[] 2)) k 0 0 0 [] := by
 subst h
 exact ⟨rfl, Nat.le_refl _, hl, #[], BoxAt.new _ _ _, by simp, fun j x hx => by simp at hx⟩
theorem LineX.olds (h : LineX lo w g o n cap q) : ∀ (j : Nat) u, (q.flatMap ic)[j]? = some u → w.cell? ⟨g, o + j, none⟩ = some u := fun j u hu => by
 obtain ⟨x, hx, rfl⟩ := flat_at hu
 exact h.cell hx
theorem LineX.spare (h : LineX lo w g o n cap q) (hr : n + 1 ≤ cap) : (w.cell? ⟨g, o + n * 1 + 0, none⟩).isSome = true ∧ w.frozen? ⟨g, o + n * 1 + 0, none⟩ = false := by
 refine ⟨?_, h.frozen _⟩
 obtain ⟨cur, hb, h4, h5⟩ := h.box
 rw [hb.cell, Nat.mul_one, Nat.add_zero, Array.getElem?_eq_getElem (by omega)]
 rfl
theorem LineX.room {x : Int} (h : LineX lo w g o n cap q) (hr : n + 1 ≤ cap) : LineX lo (w.setCell ⟨g, o + n, none⟩ (.int .i64 x)) g o (n + 1) cap (q ++ [x]) := by
 obtain ⟨h1, h2, h3, cur, hb, h4, h5⟩ := h
 refine ⟨by rw [List.length_append, h1]; rfl, hr, h3, cur.setIfInBounds (o + n) (.int .i64 x), hb.set _ _, by simpa using h4, fun j y hy => ?_⟩
 by_cases hj : j < q.length
 ·
  rw [List.getElem?_append_left hj] at hy
  rw [Array.getElem?_setIfInBounds_ne (by omega)]
  exact h5 j y hy
 ·
  rw [List.getElem?_append_right (by omega)] at hy
  have hj2 := (List.getElem?_eq_some_iff.1 hy).1
  simp only [List.length_cons, List.length_nil] at hj2
  have e : j = n := by omega
  subst e
  rw [h1, Nat.sub_self] at hy
  simp at hy
  subst hy
  rw [Array.getElem?_setIfInBounds_self_of_lt (by omega)]
theorem LineX.grow {x : Int} {v' : Value} {N : Nat} (h1 : q.length = n) (hN : lo ≤ N) (hO : w'.ownsRow N 2 1 v' (n + 1) (q.flatMap ic ++ [.int .i64 x])) : ∃ g' cap', v' = .slice (some ⟨g', 0, none⟩) (n + 1) cap' ∧ N ≤ g' ∧ LineX lo w' g' 0 (n + 1) cap' (q ++ [x]) := by
 obtain ⟨g', cap', rfl, hP⟩ := Own.of_row (f := ic) (l := q ++ [x]) (by rw [List.flatMap_append]; exact hO) (by simp [h1]) (by omega)
 obtain ⟨p1, p2, p3, p4, cur, hb, p5, p6⟩ := hP
 refine ⟨g', cap', rfl, p2, p1, p3, Nat.le_trans hN p2, cur, hb, by omega, fun j y hy => ?_⟩
 have hj := (List.getElem?_eq_some_iff.1 hy).1
 have e : ∀ l : List Int, l.flatMap ic = l.map (fun z => Value.int .i64 z) := by
  intro l
  induction l with
  | nil => rfl
  | cons x l ih => rw [List.flatMap_cons, ih]; rfl
 have h2 : ((q ++ [x]).flatMap ic)[j]? = some (.int .i64 y) := by rw [e, List.getElem?_map, hy]; rfl
 rw [← p6, List.getElem?_take] at h2
 split at h2
 · rw [Nat.zero_add, ← Array.getElem?_toList]; exact h2
 · cases h2
end

theorem own_blkT {w : World} {N : Nat} {e : TypeId} {s : Nat} {v : Value} {n : Nat} {xs : List Value} (h : w.ownsRow N e s v n xs) {b : Nat} {cs : Array Value} {t : TypeId} (hb : BoxAt w b cs t) (ht : e ≠ t) : ∀ g, v.ownBlock = some g → g ≠ b := fun g hg => by
 rcases h.2 with ⟨rfl, _⟩ | ⟨g', cap, cur, rfl, _, hh, _⟩
 · cases hg
 ·
  have e1 := own_blk hg
  subst e1
  rintro rfl
  unfold BoxAt at hb
  rw [hb] at hh
  injection hh with hh
  injection hh with _ hh
  exact ht hh.symm
theorem own_snL {lo g o m cap i : Nat} {u : Value} {q : List Int} {w : World} {N : Nat} {e : TypeId} {s : Nat} {v : Value} {n : Nat} {xs : List Value} (h : w.ownsRow N e s v n xs) (hL : LineX lo w g o m cap q) (ht : e ≠ 2) : (w.setCell ⟨g, i, none⟩ u).ownsRow N e s v n xs := by
 obtain ⟨cur, hb, _⟩ := hL.box
 exact own_keepB h fun b hb' => Below.heap_setCell w ⟨g, i, none⟩ u b (own_blkT h hb ht b hb')
theorem LineX.box_sn {lo g o m cap i : Nat} {u : Value} {q : List Int} {w : World} {b : Nat} {cs : Array Value} {t : TypeId} (hL : LineX lo w g o m cap q) (hb : BoxAt w b cs t) (ht : t ≠ 2) : BoxAt (w.setCell ⟨g, i, none⟩ u) b cs t := by
 obtain ⟨cur, hc, _⟩ := hL.box
 refine (Below.heap_setCell w ⟨g, i, none⟩ u b ?_).trans hb
 rintro rfl
 unfold BoxAt at hc hb
 rw [hc] at hb
 injection hb with hb
 injection hb with _ hb
 exact ht hb.symm
theorem own_al {w : World} {N : Nat} {e : TypeId} {s : Nat} {v : Value} {n : Nat} {xs : List Value} (h : w.ownsRow N e s v n xs) (ob : Obj) : (w.alloc ob).ownsRow N e s v n xs := own_keepB h fun g hg => Below.heap_alloc w ob g (h.lt g hg).2
theorem own_grow {w w' : World} {N : Nat} {e : TypeId} {s : Nat} {v : Value} {n : Nat} {xs : List Value} (h : w.ownsRow N e s v n xs) (hg : w.grownBy w' none) : w'.ownsRow N e s v n xs := own_keepB h fun g hb => hg.block g (h.lt g hb).2 (by simp)

set_option maxHeartbeats 400000 in
theorem l1Max_any (a b : Int) (w : World) : Calls Tryz.prog 29 #[.int .i64 a, .int .i64 b] w (fun e w' => e = .returned (.int .i64 (max a b)) ∧ w = w') := by
 by_cases h : a > b
 all_goals
  go_enter Tryz.func29, Tryz.ntmps29
  go_wp2
  go_ret
  exact ⟨by show Ending.returned (Value.int .i64 _) = _; congr 2; omega, rfl⟩

set_option maxHeartbeats 400000 in
theorem l1Min_any (a b : Int) (w : World) : Calls Tryz.prog 48 #[.int .i64 a, .int .i64 b] w (fun e w' => e = .returned (.int .i64 (min a b)) ∧ w = w') := by
 by_cases h : a < b
 all_goals
  go_enter Tryz.func48, Tryz.ntmps48
  go_wp2
  go_ret
  exact ⟨by show Ending.returned (Value.int .i64 _) = _; congr 2; omega, rfl⟩

end Go.Proofs.YtiiaimjlohpemaaGreat

/-
 The draw of a story: of a crew, of a line, or of anything.
-/
namespace Go.Proofs.YtiiaimjlohpemaaGreat
set_option linter.unusedSimpArgs false
set_option linter.unusedVariables false
open Go.RowKit
set_option linter.unusedVariables false
attribute [local go_sem] OpUpon
attribute [local go_sem ↓] Go.wp_at_zero Go.wp_at_succ

/-- A story is drawn: some events, of the call's own. -/
def DrawsS (k : Nat) (a0 : Option Addr) (len cap : Nat) (w : World) (e : Ending) (w' : World) : Prop :=
 ∃ (l : List Ev) (A : Option Addr) (c : Nat), e = .returned (.slice A l.length c) ∧ l.length ≤ 16 ∧ EvsW w.heap.size w'.heap.size w' A l.length c l ∧ But k w w' ∧ CurAt w' k a0 len cap
/-- A story is drawn from a code, of the call's own. -/
def DrawnS (w : World) (e : Ending) (w' : World) : Prop := ∃ (l : List Ev) (A : Option Addr) (c : Nat), e = .returned (.slice A l.length c) ∧ l.length ≤ 16 ∧ EvsW w.heap.size w'.heap.size w' A l.length c l ∧ Below w.heap.size w w'
theorem evs_one {x : Ev} : ∀ u ∈ x.cs, u.oneCell' = true := by
 intro u hu
 simp [Ev.cs] at hu
 rcases hu with rfl | rfl | rfl | rfl | rfl | rfl <;> rfl
theorem evs_own {N : Nat} {w : World} {A : Option Addr} {c : Nat} {l : List Ev} (h : w.ownsRow N 32 6 (.slice A l.length c) l.length (l.flatMap Ev.cs)) : EvsW N w.heap.size w A l.length c l := by
 obtain ⟨A', c', e, hW⟩ := SlW.of_own (f := Ev.cs) h rfl
 injection e with e1 _ e2
 subst e1 e2
 exact hW

def dsEV (l : List Ev) (x : Ev) (M gb c i : Nat) : List Sl := [.v (.slice (some ⟨gb, 0, none⟩) l.length c),
 .v (.int .i64 ((i : Int))),
 .v (.slice (some ⟨gb, 0, none⟩) l.length c),
 .v (.int .i64 ((i : Int))),
 .v (.pointer (some ⟨gb, i * 6, none⟩)),
 .v (.pointer (some ⟨gb, i * 6 + 5, none⟩)),
 .v x.e,
 .v (.slice (some ⟨gb, 0, none⟩) l.length c),
 .v (.int .i64 ((i : Int))),
 .v (.pointer (some ⟨gb, i * 6, none⟩)),
 .v (.pointer (some ⟨gb, i * 6 + 4, none⟩)),
 .v x.b,
 .v (.int .i64 ((IntKind.i64.wrap (x.b + 1)))),
 .v (.int .i64 ((min x.e (IntKind.i64.wrap (x.b + 1))))),
 .v (.pointer (some ⟨gb, i * 6, none⟩)),
 .v (.pointer (some ⟨gb, i * 6 + 5, none⟩)),
 .e fun σ w => Own Ev.cs 6 32 M w gb l.length c (l.set i (⟨x.who, x.put, x.v, x.re, x.b, min x.e (IntKind.i64.wrap (x.b + 1))⟩ : Ev))]

theorem fld5 (rd mo fi la ck : Int) (A1 A2 A3 A4 A : Option Addr) (n1 d1 n2 d2 n3 d3 n4 d4 n c : Nat) (W : World) : (Instr.field 68 (.agg #[rd, mo, .slice A1 n1 d1, fi, la, .slice A2 n2 d2, .slice A3 n3 d3, .slice A4 n4 d4, ck, .slice A n c]) 5).run Tryz.prog W = .ok (.slice A n c) W := by kernel_rfl

set_option maxHeartbeats 400000 in
theorem l1Min_b (a b : Int) (w : World) : Calls Tryz.prog 48 #[a, b] w (RetBelow (.int .i64 (min a b)) w) := by
 refine (l1Min_any a b w).mono ?_
 rintro e w1 ⟨rfl, rfl⟩
 exact .mk rfl (Below.refl _ _)

set_option maxRecDepth 100000 in
set_option maxHeartbeats 8000000 in
theorem l11DrawStory_of (G : Value → World → Prop)
  (HD : ∀ (N k : Nat) (a0 : Option Addr) (len cap : Nat) (W : World), CodeOk N W a0 len → N ≤ k → N ≤ W.heap.size → CurAt W k a0 len cap → Calls Tryz.prog 46 #[pT k] W (fun e w' => ∃ v, e = .returned v ∧ G v w' ∧ But k W w' ∧ CurAt w' k a0 len cap))
  (HF : ∀ (v : Value) (W : World), G v W → Calls Tryz.prog 45 #[v] W (fun e w' => ∃ (rd mo fi la ck : Int) (A1 A2 A3 A4 A : Option Addr) (n1 d1 n2 d2 n3 d3 n4 d4 n c : Nat) (l : List Ev), e = .returned (.agg #[rd, mo, .slice A1 n1 d1, fi, la, .slice A2 n2 d2, .slice A3 n3 d3, .slice A4 n4 d4, ck, .slice A n c]) ∧ n ≤ 16 ∧ EvsW W.heap.size w'.heap.size w' A n c l ∧ Below W.heap.size W w'))
  (N k : Nat) (a0 : Option Addr) (len cap : Nat) (w : World) (hc : CodeOk N w a0 len) (hk : N ≤ k) (hN : N ≤ w.heap.size) (hcur : CurAt w k a0 len cap) :
  Calls Tryz.prog 33 #[pT k] w (DrawsS k a0 len cap w) := by
 obtain ⟨i0, hi0, hz0, hz1, hz2⟩ := info_parts event_info
 have HI := Lib.hid hi0
 have HZ0 := Lib.hid hz0
 have HZ1 := Lib.hid hz1
 have HZ2 := Lib.hid hz2
 clear hi0 hz0 hz1 hz2
 obtain ⟨j0, ji0, jz0, jz1, jz2⟩ := info_parts int_info
 have JI := Lib.hid ji0
 have JZ0 := Lib.hid jz0
 have JZ1 := Lib.hid jz1
 have JZ2 := Lib.hid jz2
 clear ji0 jz0 jz1 jz2
 have lk := hcur.lt
 go_enter Tryz.func33, Tryz.ntmps33
 go_wp2_with fail
 refine calls_abs (fun W => But k w W ∧ CurAt W k a0 len cap ∧ W.ownsRow w.heap.size 32 6 (.slice (some ⟨w.heap.size, 0, none⟩) 0 0) 0 (([] : List Ev).flatMap Ev.cs)) ⟨(But.refl _ _).alloc _, hcur.alloc _, own_made rfl (Nat.le_refl _)⟩ ?_
 clear hcur
 rintro W0 ⟨hB, hcur, hO⟩
 refine (l1Below_any N k a0 len cap _ _ (hc.below (hB.below hk hN)) hk (Nat.le_trans hN hB.size) hcur (by omega)).mono ?_
 rintro e w1 ⟨r, ⟨r0, r1⟩, rfl, hB2, hcur2⟩
 replace hO := own_but hO hB2 lk
 replace hB := hB.trans hB2
 clear hB2 hcur
 have hcur := hcur2
 clear hcur2
 have hr : r = 0 ∨ r = 1 ∨ r = 2 := by omega
 clear r0 r1
 rcases hr with rfl | rfl | rfl
 ·
  go_wp2_with fail
  refine (HD N k a0 len cap _ (hc.below (hB.below hk hN)) hk (Nat.le_trans hN hB.size) hcur).mono ?_
  rintro e w2 ⟨v, rfl, hG, hB2, hcur2⟩
  clear hO
  replace hB := hB.trans hB2
  go_wp2_with fail
  refine (HF v _ hG).mono ?_
  rintro e w3 ⟨rd, mo, fi, la, ck, A1, A2, A3, A4, A, n1, d1, n2, d2, n3, d3, n4, d4, n, c, l, rfl, hn, hE, hb⟩
  have hln := hE.1
  subst hln
  have hfl := fld5 rd mo fi la ck A1 A2 A3 A4 A n1 d1 n2 d2 n3 d3 n4 d4 l.length c
  go_wp2
  go_ret
  exact ⟨l, A, c, rfl, hn, SlW.mono hE hB.size (Nat.le_refl _), hB.trans (.of_below hb), hcur2.belowC hb⟩
 ·
  go_wp2_with fail
  refine calls_abs (fun W => But k w W ∧ CurAt W k a0 len cap ∧ W.ownsRow w.heap.size 32 6 (.slice (some ⟨w.heap.size, 0, none⟩) 0 0) 0 (([] : List Ev).flatMap Ev.cs) ∧ LineX w.heap.size W w1.heap.size 0 0 0 []) ⟨hB.alloc _, hcur.alloc _, own_al hO _, LineX.made rfl hB.size⟩ ?_
  generalize w1.heap.size = P at *
  clear hB hcur hO
  rintro W1 ⟨hB, hcur, hO, hL⟩
  refine (l1Below_any N k a0 len cap _ _ (hc.below (hB.below hk hN)) hk (Nat.le_trans hN hB.size) hcur (by omega)).mono ?_
  rintro e w2 ⟨z, ⟨z0, z1⟩, rfl, hB2, hcur2⟩
  replace hO := own_but hO hB2 lk
  replace hL := hL.but hB2 lk
  replace hB := hB.trans hB2
  clear hB2 hcur
  have hcur := hcur2
  clear hcur2
  go_wp2
  go_loopw [3, 4, 5, 6, 7] (fun s3 s4 s5 s6 s7 W => ∃ (l : List Ev) (q : List Int) (at_ v z : Int) (A : Option Addr) (c g o cb : Nat), s3 = .slice A l.length c ∧ s4 = .int .i64 at_ ∧ s5 = .slice (some ⟨g, o, none⟩) q.length cb ∧ s6 = .int .i64 v ∧ s7 = .int .i64 z ∧ 0 ≤ z ∧ z ≤ 6 ∧ (l.length : Int) + z ≤ 6 ∧ (q.length : Int) + z ≤ 6 ∧ 0 ≤ at_ ∧ at_ + 3 * z ≤ 18 ∧ 0 ≤ v ∧ v + z ≤ 10 ∧ But k w W ∧ CurAt W k a0 len cap ∧ W.ownsRow w.heap.size 32 6 (.slice A l.length c) l.length (l.flatMap Ev.cs) ∧ LineX w.heap.size W g o (q).length cb (q)) (fun _ _ _ _ s7 _ => (intOf s7).toNat)
  case atStart => exact ⟨[], [], 0, 1, z, some ⟨w.heap.size, 0, none⟩, 0, P, 0, 0, rfl, rfl, rfl, rfl, rfl, by omega, by omega, by simp; omega, by simp; omega, by omega, by omega, by omega, by omega, hB, hcur, hO, hL⟩
  case round =>
   clear hB hcur hO hL
   obtain ⟨l, q, at_, v, z, A, c, g, o, cb, rfl, rfl, rfl, rfl, rfl, z0, z1, z2, z3, a0_, a1, v0, v1, hB, hcur, hO, hL⟩ := hrel
   by_cases hzp : 0 < z
   ·
    have hqm : q.length ≤ 100 := by omega
    go_wp2_with fail
    refine (l1Below_any N k a0 len cap _ _ (hc.below (hB.below hk hN)) hk (Nat.le_trans hN hB.size) hcur (by omega)).mono ?_
    rintro e w2 ⟨who, ⟨who0, who1⟩, rfl, hB2, hcur2⟩
    replace hO := own_but hO hB2 lk
    replace hL := hL.but hB2 lk
    replace hB := hB.trans hB2
    clear hB2 hcur
    have hcur := hcur2
    clear hcur2
    go_wp2_with fail
    refine (l1Below_any N k a0 len cap _ _ (hc.below (hB.below hk hN)) hk (Nat.le_trans hN hB.size) hcur (by omega)).mono ?_
    rintro e w3 ⟨b1, ⟨b10, b11⟩, rfl, hB2, hcur2⟩
    replace hO := own_but hO hB2 lk
    replace hL := hL.but hB2 lk
    replace hB := hB.trans hB2
    clear hB2 hcur
    have hcur := hcur2
    clear hcur2
    go_wp2_with fail
    refine (l1Max_any 0 (at_ - b1) _).mono ?_
    rintro e w4 ⟨rfl, rfl⟩
    go_wp2_with fail
    refine (l1Below_any N k a0 len cap _ _ (hc.below (hB.below hk hN)) hk (Nat.le_trans hN hB.size) hcur (by omega)).mono ?_
    rintro e w5 ⟨b2, ⟨b20, b21⟩, rfl, hB2, hcur2⟩
    replace hO := own_but hO hB2 lk
    replace hL := hL.but hB2 lk
    replace hB := hB.trans hB2
    clear hB2 hcur
    have hcur := hcur2
    clear hcur2
    go_wp2_with fail
    refine calls_abs (fun W => But k w W ∧ CurAt W k a0 len cap ∧ W.ownsRow w.heap.size 32 6 (.slice A l.length c) l.length (l.flatMap Ev.cs) ∧ LineX w.heap.size W g o (q).length cb (q) ∧ BoxAt W w5.heap.size #[.int .i64 (who), .bool false, .int .i64 (0), .int .i64 (0), .int .i64 (max 0 (at_ - b1)), .int .i64 (at_ + b2)] 32) ⟨hB.alloc _, hcur.alloc _, own_al hO _, hL.al _, BoxAt.new _ _ _⟩ ?_
    have hY : w.heap.size ≤ w5.heap.size := hB.size
    have hgA : ∀ g, (Value.slice A l.length c).ownBlock = some g → g < w5.heap.size := fun g hg => (hO.lt g hg).2
    generalize w5.heap.size = Y at *
    clear hB hcur hO hL
    rintro W5 ⟨hB, hcur, hO, hL, hy⟩
    refine (l1Below_any N k a0 len cap _ _ (hc.below (hB.below hk hN)) hk (Nat.le_trans hN hB.size) hcur (by omega)).mono ?_
    rintro e w6 ⟨d, ⟨d0, d1⟩, rfl, hB2, hcur2⟩
    replace hO := own_but hO hB2 lk
    replace hL := hL.but hB2 lk
    replace hy := hB2.box hy (by omega)
    replace hB := hB.trans hB2
    clear hB2 hcur
    have hcur := hcur2
    clear hcur2
    go_wp2_with fail
    refine (l1Once_any N k a0 len cap _ _ (hc.below (hB.below hk hN)) hk (Nat.le_trans hN hB.size) hcur (by omega)).mono ?_
    rintro e w7 ⟨p, rfl, hB2, hcur2⟩
    replace hO := own_but hO hB2 lk
    replace hL := hL.but hB2 lk
    replace hy := hB2.box hy (by omega)
    replace hB := hB.trans hB2
    clear hB2 hcur
    have hcur := hcur2
    clear hcur2
    have ky := hy.cell
    have fy := hy.frozen
    cases p
    ·
     by_cases hq : 0 < q.length
     ·
      have hq0 : q[0]? = some (q[0]'hq) := List.getElem?_eq_getElem hq
      obtain ⟨x0, hx0⟩ : ∃ x0, q[0]'hq = x0 := ⟨_, rfl⟩
      rw [hx0] at hq0
      clear hx0
      have g0 : ((q.length : Nat) : Int) > 0 := by omega
      go_upto_region 22 with fail
      refine wp_abs (fun W => But k w W ∧ CurAt W k a0 len cap ∧ W.ownsRow w.heap.size 32 6 (.slice A l.length c) l.length (l.flatMap Ev.cs) ∧ LineX w.heap.size W g o (q).length cb (q) ∧ BoxAt W Y #[.int .i64 (who), .bool false, .int .i64 (0), .int .i64 (4), .int .i64 (max 0 (at_ - b1)), .int .i64 (at_ + b2)] 32) ⟨(But.setNew hB hY 3 (.int .i64 4)), (CurAt.set_ne hcur (by omega) 3 (.int .i64 4)), (own_sn (i := 3) (u := .int .i64 4) hO hgA), (LineX.snT (i := 3) (u := .int .i64 4) hL hy (by decide)), by simpa using (BoxAt.set hy 3 (.int .i64 4))⟩ ?_
      clear hB hcur hO hL hy ky fy
      rintro W6 ⟨hB, hcur, hO, hL, hy⟩
      have ky := hy.cell
      have fy := hy.frozen
      have kl := hL.cell hq0
      rw [Nat.add_zero] at kl
      have g1 : ((q.length : Nat) : Int) > 0 := by omega
      have g2 : (1 : Int) ≤ (q.length : Int) := by omega
      have hcb := hL.le
      have g3 : (q.length : Int) ≤ (cb : Int) := by omega
      have hdl : (q.drop 1).length = q.length - 1 := List.length_drop ..
      have hL0 := (LineX.snT (i := 2) (u := .int .i64 x0) hL hy (by decide))
      by_cases hcp : cb = 1
      ·
       have hL1 := hL0.drop (o' := o) (by omega) (.inl ⟨hcp, rfl⟩)
       go_upto_region 25 with fail
       refine wp_abs (fun W => But k w W ∧ CurAt W k a0 len cap ∧ W.ownsRow w.heap.size 32 6 (.slice A l.length c) l.length (l.flatMap Ev.cs) ∧ LineX w.heap.size W g o (q.drop 1).length (cb - 1) (q.drop 1) ∧ BoxAt W Y #[.int .i64 (who), .bool false, .int .i64 (x0), .int .i64 (4), .int .i64 (max 0 (at_ - b1)), .int .i64 (at_ + b2)] 32) ⟨(But.setNew hB hY 2 (.int .i64 x0)), (CurAt.set_ne hcur (by omega) 2 (.int .i64 x0)), (own_sn (i := 2) (u := .int .i64 x0) hO hgA), by rw [hdl]; exact hL1, by simpa using (BoxAt.set hy 2 (.int .i64 x0))⟩ ?_
       clear hB hcur hO hL hy
       rintro W7 ⟨hB, hcur, hO, hL, hy⟩
       have ky := hy.cell
       go_wp2_with (at_builtin; go_must (refine wpList_append_own_at _ rfl (.tmp 69) (.tmp 71) _ rfl w.heap.size 32 i0 _ 6 48 Tryz.underlying24 HI.out HZ0.out HZ1.out HZ2.out rfl (by omega) (.slice A l.length c) l.length _ rfl (own_al hO _) ⟨W7.heap.size, 0, none⟩ 1 1 (Ev.cs (⟨who, false, x0, 4, max 0 (at_ - b1), at_ + b2⟩ : Ev)) rfl rfl (news_alloc _ _ _) evs_one (by unfold maxLen; omega) (by omega) (by have := hB.size; simp; omega) ?_; intro v' w' hO' hg' hz' hat'; clear hz' hat'; obtain ⟨g', cap'', rfl, hP'⟩ := Own.of_row (f := Ev.cs) (l := l ++ [(⟨who, false, x0, 4, max 0 (at_ - b1), at_ + b2⟩ : Ev)]) (by rw [List.flatMap_append]; simpa using hO') (by simp) (by omega); have hB' := But.grown (hB.alloc _) hg' (fun g hg => (hO.lt g hg).1); have hcur' := CurAt.grown (hcur.alloc _) hg' (fun e => by have := (hO.lt k e).1; omega); have hL' := (hL.al _).keep (KeepT.grown (T := 2) (own_al hO _) hg' (by decide) _ _ (hL.al _).box.choose_spec.1)))
       go_roundw
       case rel => exact ⟨l ++ [(⟨who, false, x0, 4, max 0 (at_ - b1), at_ + b2⟩ : Ev)], q.drop 1, at_ + 1 + d, v, z - 1, some ⟨g', 0, none⟩, cap'', g, o, cb - 1, by simp, rfl, by first | (simp; done) | (simp; omega), by go_num, by go_num, by omega, by omega, by simp; omega, by first | omega | (simp; omega), by omega, by omega, by omega, by omega, hB', hcur', by have := hP'.own Ev.cs_len; simpa using this, hL'⟩
       case measure => simp [intOf]; omega
      ·
       have hL1 := hL0.drop (o' := o + 1) (by omega) (.inr rfl)
       go_upto_region 25 with fail
       refine wp_abs (fun W => But k w W ∧ CurAt W k a0 len cap ∧ W.ownsRow w.heap.size 32 6 (.slice A l.length c) l.length (l.flatMap Ev.cs) ∧ LineX w.heap.size W g (o + 1) (q.drop 1).length (cb - 1) (q.drop 1) ∧ BoxAt W Y #[.int .i64 (who), .bool false, .int .i64 (x0), .int .i64 (4), .int .i64 (max 0 (at_ - b1)), .int .i64 (at_ + b2)] 32) ⟨(But.setNew hB hY 2 (.int .i64 x0)), (CurAt.set_ne hcur (by omega) 2 (.int .i64 x0)), (own_sn (i := 2) (u := .int .i64 x0) hO hgA), by rw [hdl]; exact hL1, by simpa using (BoxAt.set hy 2 (.int .i64 x0))⟩ ?_
       clear hB hcur hO hL hy
       rintro W7 ⟨hB, hcur, hO, hL, hy⟩
       have ky := hy.cell
       go_wp2_with (at_builtin; go_must (refine wpList_append_own_at _ rfl (.tmp 69) (.tmp 71) _ rfl w.heap.size 32 i0 _ 6 48 Tryz.underlying24 HI.out HZ0.out HZ1.out HZ2.out rfl (by omega) (.slice A l.length c) l.length _ rfl (own_al hO _) ⟨W7.heap.size, 0, none⟩ 1 1 (Ev.cs (⟨who, false, x0, 4, max 0 (at_ - b1), at_ + b2⟩ : Ev)) rfl rfl (news_alloc _ _ _) evs_one (by unfold maxLen; omega) (by omega) (by have := hB.size; simp; omega) ?_; intro v' w' hO' hg' hz' hat'; clear hz' hat'; obtain ⟨g', cap'', rfl, hP'⟩ := Own.of_row (f := Ev.cs) (l := l ++ [(⟨who, false, x0, 4, max 0 (at_ - b1), at_ + b2⟩ : Ev)]) (by rw [List.flatMap_append]; simpa using hO') (by simp) (by omega); have hB' := But.grown (hB.alloc _) hg' (fun g hg => (hO.lt g hg).1); have hcur' := CurAt.grown (hcur.alloc _) hg' (fun e => by have := (hO.lt k e).1; omega); have hL' := (hL.al _).keep (KeepT.grown (T := 2) (own_al hO _) hg' (by decide) _ _ (hL.al _).box.choose_spec.1)))
       go_roundw
       case rel => exact ⟨l ++ [(⟨who, false, x0, 4, max 0 (at_ - b1), at_ + b2⟩ : Ev)], q.drop 1, at_ + 1 + d, v, z - 1, some ⟨g', 0, none⟩, cap'', g, o + 1, cb - 1, by simp, rfl, by first | (simp; done) | (simp; omega), by go_num, by go_num, by omega, by omega, by simp; omega, by first | omega | (simp; omega), by omega, by omega, by omega, by omega, hB', hcur', by have := hP'.own Ev.cs_len; simpa using this, hL'⟩
       case measure => simp [intOf]; omega
     ·
      have g1 : ¬ ((q.length : Nat) : Int) > 0 := by omega
      go_upto_region 25 with fail
      refine wp_abs (fun W => But k w W ∧ CurAt W k a0 len cap ∧ W.ownsRow w.heap.size 32 6 (.slice A l.length c) l.length (l.flatMap Ev.cs) ∧ LineX w.heap.size W g o (q).length cb (q) ∧ BoxAt W Y #[.int .i64 (who), .bool false, .int .i64 (0), .int .i64 (3), .int .i64 (max 0 (at_ - b1)), .int .i64 (at_ + b2)] 32) ⟨(But.setNew hB hY 3 (.int .i64 3)), (CurAt.set_ne hcur (by omega) 3 (.int .i64 3)), (own_sn (i := 3) (u := .int .i64 3) hO hgA), (LineX.snT (i := 3) (u := .int .i64 3) hL hy (by decide)), by simpa using (BoxAt.set hy 3 (.int .i64 3))⟩ ?_
      clear hB hcur hO hL hy
      rintro W7 ⟨hB, hcur, hO, hL, hy⟩
      have ky := hy.cell
      go_wp2_with (at_builtin; go_must (refine wpList_append_own_at _ rfl (.tmp 69) (.tmp 71) _ rfl w.heap.size 32 i0 _ 6 48 Tryz.underlying24 HI.out HZ0.out HZ1.out HZ2.out rfl (by omega) (.slice A l.length c) l.length _ rfl (own_al hO _) ⟨W7.heap.size, 0, none⟩ 1 1 (Ev.cs (⟨who, false, 0, 3, max 0 (at_ - b1), at_ + b2⟩ : Ev)) rfl rfl (news_alloc _ _ _) evs_one (by unfold maxLen; omega) (by omega) (by have := hB.size; simp; omega) ?_; intro v' w' hO' hg' hz' hat'; clear hz' hat'; obtain ⟨g', cap'', rfl, hP'⟩ := Own.of_row (f := Ev.cs) (l := l ++ [(⟨who, false, 0, 3, max 0 (at_ - b1), at_ + b2⟩ : Ev)]) (by rw [List.flatMap_append]; simpa using hO') (by simp) (by omega); have hB' := But.grown (hB.alloc _) hg' (fun g hg => (hO.lt g hg).1); have hcur' := CurAt.grown (hcur.alloc _) hg' (fun e => by have := (hO.lt k e).1; omega); have hL' := (hL.al _).keep (KeepT.grown (T := 2) (own_al hO _) hg' (by decide) _ _ (hL.al _).box.choose_spec.1)))
      go_roundw
      case rel => exact ⟨l ++ [(⟨who, false, 0, 3, max 0 (at_ - b1), at_ + b2⟩ : Ev)], q, at_ + 1 + d, v, z - 1, some ⟨g', 0, none⟩, cap'', g, o, cb, by simp, rfl, by first | (simp; done) | (simp; omega), by go_num, by go_num, by omega, by omega, by simp; omega, by first | omega | (simp; omega), by omega, by omega, by omega, by omega, hB', hcur', by have := hP'.own Ev.cs_len; simpa using this, hL'⟩
      case measure => simp [intOf]; omega
    ·
     go_upto_region 18 with fail
     refine wp_abs (fun W => But k w W ∧ CurAt W k a0 len cap ∧ W.ownsRow w.heap.size 32 6 (.slice A l.length c) l.length (l.flatMap Ev.cs) ∧ LineX w.heap.size W g o (q).length cb (q) ∧ BoxAt W Y #[.int .i64 (who), .bool true, .int .i64 (v), .int .i64 (1), .int .i64 (max 0 (at_ - b1)), .int .i64 (at_ + b2)] 32) ⟨(But.setNew (But.setNew (But.setNew hB hY 1 (.bool true)) hY 2 (.int .i64 v)) hY 3 (.int .i64 1)), (CurAt.set_ne (CurAt.set_ne (CurAt.set_ne hcur (by omega) 1 (.bool true)) (by omega) 2 (.int .i64 v)) (by omega) 3 (.int .i64 1)), (own_sn (i := 3) (u := .int .i64 1) (own_sn (i := 2) (u := .int .i64 v) (own_sn (i := 1) (u := .bool true) hO hgA) hgA) hgA), (LineX.snT (i := 3) (u := .int .i64 1) (LineX.snT (i := 2) (u := .int .i64 v) (LineX.snT (i := 1) (u := .bool true) hL hy (by decide)) (BoxAt.set hy 1 (.bool true)) (by decide)) (BoxAt.set (BoxAt.set hy 1 (.bool true)) 2 (.int .i64 v)) (by decide)), by simpa using (BoxAt.set (BoxAt.set (BoxAt.set hy 1 (.bool true)) 2 (.int .i64 v)) 3 (.int .i64 1))⟩ ?_
     clear hB hcur hO hL hy ky fy
     rintro W6 ⟨hB, hcur, hO, hL, hy⟩
     by_cases hroom : q.length + 1 ≤ cb
     ·
      go_upto_region 25 with (at_builtin; go_must (refine wpList_append_arg _ rfl (.tmp 52) (.tmp 54) _ rfl 2 j0 _ 1 8 Tryz.underlying42 JI.out JZ0.out JZ1.out JZ2.out rfl (by omega) g o q.length cb (q.flatMap ic) rfl (by rw [flat_len _ 1 ic_len]) (hL.al _).olds ⟨W6.heap.size, 0, none⟩ 1 1 [v] rfl rfl (news_alloc _ _ _) (by intro u hu; simp at hu; subst hu; rfl) (fun hr j hj => by obtain rfl : j = 0 := (by simp at hj; exact hj); exact (hL.al _).spare hr) (by unfold maxLen; omega) (by omega) ?_ (fun h => absurd h (by omega)); intro _; rw [Nat.mul_one]; unfold World.setCells World.setCells))
      have hL2 := (hL.al (.cells #[v] 2)).room (x := v) hroom
      have hgw : w.heap.size ≤ g := hL.lo
      refine wp_abs (fun W => But k w W ∧ CurAt W k a0 len cap ∧ W.ownsRow w.heap.size 32 6 (.slice A l.length c) l.length (l.flatMap Ev.cs) ∧ LineX w.heap.size W g o (q ++ [v]).length cb (q ++ [v]) ∧ BoxAt W Y #[.int .i64 (who), .bool true, .int .i64 (v), .int .i64 (1), .int .i64 (max 0 (at_ - b1)), .int .i64 (at_ + b2)] 32) ⟨(hB.alloc _).setNew hgw _ _, (hcur.alloc _).sn, own_snL (own_al hO _) (hL.al _) (by decide), by simpa using hL2, LineX.box_sn (hL.al _) (hy.alloc _) (by decide)⟩ ?_
      clear hB hcur hO hL hy
      rintro W7 ⟨hB, hcur, hO, hL, hy⟩
      have ky := hy.cell
      go_wp2_with (at_builtin; go_must (refine wpList_append_own_at _ rfl (.tmp 69) (.tmp 71) _ rfl w.heap.size 32 i0 _ 6 48 Tryz.underlying24 HI.out HZ0.out HZ1.out HZ2.out rfl (by omega) (.slice A l.length c) l.length _ rfl (own_al hO _) ⟨W7.heap.size, 0, none⟩ 1 1 (Ev.cs (⟨who, true, v, 1, max 0 (at_ - b1), at_ + b2⟩ : Ev)) rfl rfl (news_alloc _ _ _) evs_one (by unfold maxLen; omega) (by omega) (by have := hB.size; simp; omega) ?_; intro v' w' hO' hg' hz' hat'; clear hz' hat'; obtain ⟨g', cap'', rfl, hP'⟩ := Own.of_row (f := Ev.cs) (l := l ++ [(⟨who, true, v, 1, max 0 (at_ - b1), at_ + b2⟩ : Ev)]) (by rw [List.flatMap_append]; simpa using hO') (by simp) (by omega); have hB' := But.grown (hB.alloc _) hg' (fun g hg => (hO.lt g hg).1); have hcur' := CurAt.grown (hcur.alloc _) hg' (fun e => by have := (hO.lt k e).1; omega); have hL' := (hL.al _).keep (KeepT.grown (T := 2) (own_al hO _) hg' (by decide) _ _ (hL.al _).box.choose_spec.1)))
      go_roundw
      case rel => exact ⟨l ++ [(⟨who, true, v, 1, max 0 (at_ - b1), at_ + b2⟩ : Ev)], q ++ [v], at_ + 1 + d, v + 1, z - 1, some ⟨g', 0, none⟩, cap'', g, o, cb, by simp, rfl, by first | (simp; done) | (simp; omega), by go_num, by go_num, by omega, by omega, by simp; omega, by first | omega | (simp; omega), by omega, by omega, by omega, by omega, hB', hcur', by have := hP'.own Ev.cs_len; simpa using this, hL'⟩
      case measure => simp [intOf]; omega
     ·
      have hgrow : cb < q.length + 1 := by omega
      go_upto_region 25 with (at_builtin; go_must (refine wpList_append_arg _ rfl (.tmp 52) (.tmp 54) _ rfl 2 j0 _ 1 8 Tryz.underlying42 JI.out JZ0.out JZ1.out JZ2.out rfl (by omega) g o q.length cb (q.flatMap ic) rfl (by rw [flat_len _ 1 ic_len]) (hL.al _).olds ⟨W6.heap.size, 0, none⟩ 1 1 [v] rfl rfl (news_alloc _ _ _) (by intro u hu; simp at hu; subst hu; rfl) (fun hr j hj => absurd hr (by omega)) (by unfold maxLen; omega) (by omega) (fun h => absurd h (by omega)) ?_; intro _ v' w8 hO8 hg8; obtain ⟨g8, cb8, rfl, hg8l, hL8⟩ := LineX.grow (lo := w.heap.size) (x := v) rfl (by have := hB.size; simp; omega) hO8))
      refine wp_abs (fun W => But k w W ∧ CurAt W k a0 len cap ∧ W.ownsRow w.heap.size 32 6 (.slice A l.length c) l.length (l.flatMap Ev.cs) ∧ LineX w.heap.size W g8 0 (q ++ [v]).length cb8 (q ++ [v]) ∧ BoxAt W Y #[.int .i64 (who), .bool true, .int .i64 (v), .int .i64 (1), .int .i64 (max 0 (at_ - b1)), .int .i64 (at_ + b2)] 32) ⟨But.grown (hB.alloc _) hg8 (fun g hg => by cases hg), CurAt.grown (hcur.alloc _) hg8 (by simp), own_grow (own_al hO _) hg8, by simpa using hL8, (hy.alloc _).grown2 hg8 (by simp)⟩ ?_
      clear hB hcur hO hL hy
      rintro W7 ⟨hB, hcur, hO, hL, hy⟩
      have ky := hy.cell
      go_wp2_with (at_builtin; go_must (refine wpList_append_own_at _ rfl (.tmp 69) (.tmp 71) _ rfl w.heap.size 32 i0 _ 6 48 Tryz.underlying24 HI.out HZ0.out HZ1.out HZ2.out rfl (by omega) (.slice A l.length c) l.length _ rfl (own_al hO _) ⟨W7.heap.size, 0, none⟩ 1 1 (Ev.cs (⟨who, true, v, 1, max 0 (at_ - b1), at_ + b2⟩ : Ev)) rfl rfl (news_alloc _ _ _) evs_one (by unfold maxLen; omega) (by omega) (by have := hB.size; simp; omega) ?_; intro v' w' hO' hg' hz' hat'; clear hz' hat'; obtain ⟨g', cap'', rfl, hP'⟩ := Own.of_row (f := Ev.cs) (l := l ++ [(⟨who, true, v, 1, max 0 (at_ - b1), at_ + b2⟩ : Ev)]) (by rw [List.flatMap_append]; simpa using hO') (by simp) (by omega); have hB' := But.grown (hB.alloc _) hg' (fun g hg => (hO.lt g hg).1); have hcur' := CurAt.grown (hcur.alloc _) hg' (fun e => by have := (hO.lt k e).1; omega); have hL' := (hL.al _).keep (KeepT.grown (T := 2) (own_al hO _) hg' (by decide) _ _ (hL.al _).box.choose_spec.1)))
      go_roundw
      case rel => exact ⟨l ++ [(⟨who, true, v, 1, max 0 (at_ - b1), at_ + b2⟩ : Ev)], q ++ [v], at_ + 1 + d, v + 1, z - 1, some ⟨g', 0, none⟩, cap'', g8, 0, cb8, by simp, rfl, by first | (simp; done) | (simp; omega), by go_num, by go_num, by omega, by omega, by simp; omega, by first | omega | (simp; omega), by omega, by omega, by omega, by omega, hB', hcur', by have := hP'.own Ev.cs_len; simpa using this, hL'⟩
      case measure => simp [intOf]; omega
   ·
    have HO := Lib.hid hO; clear hO
    by_cases h1l : 1 < l.length
    ·
     have g1 : ((l.length : Nat) : Int) > 1 := by omega
     have hO := HO.out
     have hpos : 0 < (l.length : Int) := by omega
     go_wp2_with fail
     refine (l1Once_any N k a0 len cap _ _ (hc.below (hB.below hk hN)) hk (Nat.le_trans hN hB.size) hcur (by omega)).mono ?_
     rintro e w3 ⟨p, rfl, hB2, hcur2⟩
     replace hO := own_but hO hB2 lk
     replace hB := hB.trans hB2
     clear hB2 hcur
     have hcur := hcur2
     clear hcur2
     cases p
     ·
      exact zdrwS3
     ·
      go_wp2_with fail
      refine (l1Below_any N k a0 len cap _ _ (hc.below (hB.below hk hN)) hk (Nat.le_trans hN hB.size) hcur hpos).mono ?_
      rintro e w4 ⟨i0, ⟨i00, i01⟩, rfl, hB2, hcur2⟩
      replace hO := own_but hO hB2 lk
      replace hB := hB.trans hB2
      clear hB2 hcur
      have hcur := hcur2
      clear hcur2
      obtain ⟨gb, cc, e1, hP⟩ := Own.of_row (f := Ev.cs) hO rfl (by omega)
      injection e1 with e1 _ e3
      subst e1 e3
      obtain ⟨i, rfl⟩ : ∃ i : Nat, i0 = (i : Int) := ⟨i0.toNat, by omega⟩
      obtain ⟨x, hx⟩ : ∃ x, l[i]? = some x := ⟨_, List.getElem?_eq_getElem (by omega)⟩
      have HX := Lib.hid hx
      have h1 : (0 : Int) ≤ (i : Int) := by omega
      have h2 : (i : Int) < (l.length : Int) := by omega
      have hgb := hP.2.1
      clear hO hx
      have hW := hP
      obtain ⟨M, hM0⟩ : ∃ M, M = w.heap.size := ⟨_, rfl⟩
      rw [← hM0] at hW
      go_wp2_with fail
      refine wp_region2v (fun w w' => Below w.heap.size w w') (fun _ _ h => h.size) (fun _ => Below.refl _ _) (fun L W' => But k w W' ∧ CurAt W' k a0 len cap ∧ (L 16 = false → Own Ev.cs 6 32 M W' gb l.length c l)) (dsEV l x M gb c i) (fun j => [0, 0, 0, 0, 0, 0, 0, 0, 0, 0, 0, 0, 0, 0, 0, 0, 1].getD j 0) [] (by kernel_rfl) (by kernel_rfl) ?_ ?_ ?_
       (.still rfl ?a0 <| .still rfl ?a1 <| .still rfl ?a2 <| .still rfl ?a3 <| .still rfl ?a4 <| .still rfl ?a5 <| .still rfl ?a6 <| .still rfl ?a7 <| .still rfl ?a8 <| .still rfl ?a9 <| .still rfl ?a10 <| .still rfl ?a11 <| .still rfl ?a12 <| .grow rfl ?a13 <| .still rfl ?a14 <| .still rfl ?a15 <| .store rfl ?a16 <| .nil) ?_ ?_
      · exact ⟨fun _ _ _ _ h => h, trivial⟩
      · exact ⟨fun σ w w' hb h1 => Own.below h1 hb, trivial⟩
      · exact ⟨hB.drew, hcur, fun _ => hW⟩
      case a0 | a1 | a2 | a3 | a5 | a7 | a8 | a10 | a12 | a15 =>
       go_light
       intro L σ W' hcl hL hC hw
       try have e4 := wT hw 4 rfl
       try have e9 := wT hw 9 rfl
       try have e11 := wT hw 11 rfl
       try have e14 := wT hw 14 rfl
       exact zdrwS2
      case a4 =>
       go_light
       intro L σ W' hcl hL hC hw
       have e2 := wV hw 2 rfl
       have e3 := wV hw 3 rfl
       have g1 := h1
       have g2 := h2
       exact zdrwS2
      case a6 =>
       go_light
       intro L σ W' hcl hL hC hw
       have e5 := wV hw 5 rfl
       have hW_ := (hC.2.2 (hcl.not (j := 16) (k := 13) (by kernel_rfl) (hcl.not (j := 13) (k := 6) (by kernel_rfl) hL)))
       have e0_ := Own.cell_ Ev.cs_len hW_ (j := 0) HX.out rfl
       have e4_ := Own.cell_ Ev.cs_len hW_ (j := 4) HX.out rfl
       have e5_ := Own.cell_ Ev.cs_len hW_ (j := 5) HX.out rfl
       exact zdrwS2
      case a9 =>
       go_light
       intro L σ W' hcl hL hC hw
       have e7 := wV hw 7 rfl
       have e8 := wV hw 8 rfl
       have g1 := h1
       have g2 := h2
       exact zdrwS2
      case a11 =>
       go_light
       intro L σ W' hcl hL hC hw
       have e10 := wV hw 10 rfl
       have hW_ := (hC.2.2 (hcl.not (j := 16) (k := 13) (by kernel_rfl) (hcl.not (j := 13) (k := 12) (by kernel_rfl) (hcl.not (j := 12) (k := 11) (by kernel_rfl) hL))))
       have e0_ := Own.cell_ Ev.cs_len hW_ (j := 0) HX.out rfl
       have e4_ := Own.cell_ Ev.cs_len hW_ (j := 4) HX.out rfl
       have e5_ := Own.cell_ Ev.cs_len hW_ (j := 5) HX.out rfl
       exact zdrwS2
      case a13 =>
       go_light
       intro L σ W' hcl hL hC hw
       have e6 := wV hw 6 rfl
       have e12 := wV hw 12 rfl
       clear hw
       have HC := Lib.hid hC
       clear hC
       clear hcl hL
       refine OpGoes.go fun K hK => ?_
       go_simp
       obtain ⟨hB, hcur, hW⟩ := HC.out
       refine (l1Min_b x.e (IntKind.i64.wrap (x.b + 1)) _).mono ?_
       rintro e w1 ⟨rfl, hb1⟩
       exact ⟨_, rfl, hK _ _ ⟨⟨hB.trans (But.of_below hb1), hcur.belowC hb1, fun h => Own.below (hW (by simpa [upd] using h)) hb1⟩, rfl, hb1⟩⟩
      case a14 =>
       go_light
       intro L σ W' hcl hL hC hw
       have e0 := wV hw 0 rfl
       have e1 := wV hw 1 rfl
       have g1 := h1
       have g2 := h2
       exact zdrwS2
      case a16 =>
       go_light
       intro L σ W' hcl hL hC hw hne
       have e13 := wV hw 13 rfl
       have e15 := wV hw 15 rfl
       clear hw hne
       obtain ⟨hB, hcur, hW⟩ := hC
       have hW16 := (hW hL)
       have d5 := Own.cell_ Ev.cs_len hW16 (j := 5) HX.out rfl
       have df := Own.frozen_ hW16
       clear hcl hL
       refine OpGoes.go fun K hK => ?_
       go_simp
       refine hK _ _ ⟨⟨hB.setNew hgb _ _, hcur.sn, fun h => absurd h (by simp [upd])⟩, ?_, by simp, fun j hj hn hR => ?_⟩
       · exact Own.set1 hW16 Ev.cs_len (j := 5) (x' := (⟨x.who, x.put, x.v, x.re, x.b, min x.e (IntKind.i64.wrap (x.b + 1))⟩ : Ev)) HX.out (by omega) rfl
       refine keepV ?_ j hj hn hR
       exact ⟨fun h => absurd rfl h, trivial⟩
      ·
       intro L L' W' hLL hC
       obtain ⟨hB, hcur, hW⟩ := hC
       exact ⟨hB, hcur, fun h => hW (hLL _ h)⟩
      ·
       intro σ L W' hall hC hRR
       obtain ⟨hB, hcur, hW⟩ := hC
       have hE : Own Ev.cs 6 32 M W' gb l.length c (l.set i (⟨x.who, x.put, x.v, x.re, x.b, min x.e (IntKind.i64.wrap (x.b + 1))⟩ : Ev)) := hRR 16 (by decide)
       clear hRR
       simp only [lexAll]
       go_simp
       go_step
       go_wp2
       go_ret
       exact ⟨l.set i (⟨x.who, x.put, x.v, x.re, x.b, min x.e (IntKind.i64.wrap (x.b + 1))⟩ : Ev), some ⟨gb, 0, none⟩, c, by simp, by simp; omega, by have h3 := SlW.of_Own hE; rw [hM0] at h3; unfold EvsW; simpa using h3, hB, hcur⟩
    ·
     have g1 : ¬ ((l.length : Nat) : Int) > 1 := by omega
     go_wp2
     go_ret
     exact ⟨l, A, c, rfl, by omega, evs_own HO.out, hB, hcur⟩
 ·
  go_wp2_with fail
  refine (l1Below_any N k a0 len cap _ _ (hc.below (hB.below hk hN)) hk (Nat.le_trans hN hB.size) hcur (by omega)).mono ?_
  rintro e w2 ⟨z, ⟨z0, z1⟩, rfl, hB2, hcur2⟩
  replace hO := own_but hO hB2 lk
  replace hB := hB.trans hB2
  clear hB2 hcur
  have hcur := hcur2
  clear hcur2
  go_wp2
  go_loopw [3, 10] (fun s3 s10 W => ∃ (l : List Ev) (z : Int) (A : Option Addr) (c : Nat), s3 = .slice A l.length c ∧ s10 = .int .i64 z ∧ 0 ≤ z ∧ (l.length : Int) + z ≤ 5 ∧ But k w W ∧ CurAt W k a0 len cap ∧ W.ownsRow w.heap.size 32 6 (.slice A l.length c) l.length (l.flatMap Ev.cs)) (fun _ s10 _ => (intOf s10).toNat)
  case atStart => exact ⟨[], z, some ⟨w.heap.size, 0, none⟩, 0, rfl, rfl, by omega, by simp; omega, hB, hcur, hO⟩
  case round =>
   clear hB hcur hO
   obtain ⟨l, z, A, c, rfl, rfl, z0, z1, hB, hcur, hO⟩ := hrel
   by_cases hzp : 0 < z
   ·
    go_wp2_with fail
    refine (l11Draw_any N k a0 len cap _ (hc.below (hB.below hk hN)) hk (Nat.le_trans hN hB.size) hcur).mono ?_
    rintro e w3 ⟨x, rfl, hB2, hcur2⟩
    replace hO := own_but hO hB2 lk
    replace hB := hB.trans hB2
    clear hB2 hcur
    have hcur := hcur2
    clear hcur2
    unfold Ev.V
    go_wp2_with (at_builtin; go_must (refine wpList_append_own_at _ rfl (.tmp 107) (.tmp 110) _ rfl w.heap.size 32 i0 _ 6 48 Tryz.underlying24 HI.out HZ0.out HZ1.out HZ2.out rfl (by omega) (.slice A l.length c) l.length _ rfl (own_al hO _) ⟨w3.heap.size, 0, none⟩ 1 1 (Ev.cs x) rfl rfl (news_alloc _ _ _) evs_one (by unfold maxLen; omega) (by omega) (by have := hB.size; simp; omega) ?_; intro v' w' hO' hg' hz' hat'; clear hz' hat'; obtain ⟨g', cap'', rfl, hP'⟩ := Own.of_row (f := Ev.cs) (l := l ++ [x]) (by rw [List.flatMap_append]; simpa using hO') (by simp) (by omega); have hB' := But.grown (hB.alloc _) hg' (fun g hg => (hO.lt g hg).1); have hcur' := CurAt.grown (hcur.alloc _) hg' (fun e => by have := (hO.lt k e).1; omega)))
    go_roundw
    case rel => exact ⟨l ++ [x], z - 1, some ⟨g', 0, none⟩, cap'', by simp, by go_num, by omega, by simp; omega, hB', hcur', by have := hP'.own Ev.cs_len; simpa using this⟩
    case measure => simp [intOf]; omega
   ·
    go_wp2_with fail
    refine (l1Once_any N k a0 len cap _ _ (hc.below (hB.below hk hN)) hk (Nat.le_trans hN hB.size) hcur (by omega)).mono ?_
    rintro e w3 ⟨p, rfl, hB2, hcur2⟩
    replace hO := own_but hO hB2 lk
    replace hB := hB.trans hB2
    clear hB2 hcur
    have hcur := hcur2
    clear hcur2
    cases p
    ·
     exact zdrwS3
    ·
     go_wp2_with fail
     refine (l11DrawAny_any N k a0 len cap _ (hc.below (hB.below hk hN)) hk (Nat.le_trans hN hB.size) hcur).mono ?_
     rintro e w4 ⟨x, rfl, hB2, hcur2⟩
     replace hO := own_but hO hB2 lk
     replace hB := hB.trans hB2
     clear hB2 hcur
     have hcur := hcur2
     clear hcur2
     unfold Ev.V
     go_wp2_with (at_builtin; go_must (refine wpList_append_own_at _ rfl (.tmp 114) (.tmp 117) _ rfl w.heap.size 32 i0 _ 6 48 Tryz.underlying24 HI.out HZ0.out HZ1.out HZ2.out rfl (by omega) (.slice A l.length c) l.length _ rfl (own_al hO _) ⟨w4.heap.size, 0, none⟩ 1 1 (Ev.cs x) rfl rfl (news_alloc _ _ _) evs_one (by unfold maxLen; omega) (by omega) (by have := hB.size; simp; omega) ?_; intro v' w' hO' hg' hz' hat'; clear hz' hat'; obtain ⟨g', cap'', rfl, hP'⟩ := Own.of_row (f := Ev.cs) (l := l ++ [x]) (by rw [List.flatMap_append]; simpa using hO') (by simp) (by omega); have hB' := But.grown (hB.alloc _) hg' (fun g hg => (hO.lt g hg).1); have hcur' := CurAt.grown (hcur.alloc _) hg' (fun e => by have := (hO.lt k e).1; omega)))
     go_ret
     exact ⟨l ++ [x], some ⟨g', 0, none⟩, cap'', by simp, by simp; omega, by have h1 := hP'.own Ev.cs_len; have h2 := evs_own (l := l ++ [x]) (A := some ⟨g', 0, none⟩) (c := cap'') (by simpa using h1); exact h2, hB', hcur'⟩

end Go.Proofs.YtiiaimjlohpemaaGreat


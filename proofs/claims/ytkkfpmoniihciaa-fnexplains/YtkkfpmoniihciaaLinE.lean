/-
  The draws of lines with a number, of events, and of both.
-/
import Derived.Test.YtkkfpmoniihciaaLinD
import Derived.Test.YtkkfpmoniihciaaEvA
namespace Go.Proofs.Ytkkfpmoniihciaa
set_option linter.unusedSimpArgs false
set_option linter.unusedVariables false
open Go.RowKit
set_option linter.unusedVariables false
attribute [local go_sem ↓] Go.wp_at_zero Go.wp_at_succ

/-- A line is drawn, of the call's own. -/
def DrawnL (w : World) (e : Ending) (w' : World) : Prop := ∃ (l : List Int) (A : Option Addr) (c : Nat), e = .returned (.slice A l.length c) ∧ l.length ≤ 44 ∧ IntsW w.heap.size w'.heap.size w' A l.length c l ∧ Below w.heap.size w w'
def DrawnLV (w : World) (e : Ending) (w' : World) : Prop := ∃ (l : List Int) (A : Option Addr) (c : Nat) (v : Int), e = .returned (.tuple #[.slice A l.length c, .int .i64 v]) ∧ l.length ≤ 44 ∧ IntsW w.heap.size w'.heap.size w' A l.length c l ∧ Below w.heap.size w w'
def DrawnLE (w : World) (e : Ending) (w' : World) : Prop := ∃ (l : List Int) (A : Option Addr) (c : Nat) (x : Ev), e = .returned (.tuple #[.slice A l.length c, x.V]) ∧ l.length ≤ 44 ∧ IntsW w.heap.size w'.heap.size w' A l.length c l ∧ Below w.heap.size w w'
/-- An event is drawn. -/
def DrawsE (k : Nat) (a0 : Option Addr) (len cap : Nat) (w : World) (e : Ending) (w' : World) : Prop := ∃ x : Ev, e = .returned x.V ∧ But k w w' ∧ CurAt w' k a0 len cap
theorem IntsW.butc {lo hi k : Nat} {w w' : World} {A : Option Addr} {n cap : Nat} {l : List Int} (h : IntsW lo hi w A n cap l) (hb : But k w w') (hk : k < lo) (hh : hi ≤ w.heap.size) : IntsW lo hi w' A n cap l := SlW.keep h (.butc hb hk hh)

set_option maxHeartbeats 1000000 in
theorem drawLineOk_any (a0 : Option Addr) (len cap : Nat) (w : World) (hc : CodeOk w.heap.size w a0 len) :
    Calls Try.prog 32 #[.slice a0 len cap] w (DrawnL w) := by
  go_enter Try.func32, Try.ntmps32
  go_wp2_with fail
  refine (l1New_any w.heap.size a0 len cap _ hc).mono ?_
  rintro e w1 ⟨h, rfl, rfl⟩
  go_wp2_with fail
  refine calls_abs (fun W => Below w.heap.size w W ∧ CurAt W w.heap.size a0 len cap) ⟨(Below.refl _ _).alloc (Nat.le_refl _) _, 0, h, Nat.zero_le _, BoxAt.new _ _ _⟩ ?_
  rintro W ⟨hB, hcur⟩
  have lk := hcur.lt
  refine (l12Draw_any w.heap.size w.heap.size a0 len cap _ (hc.below hB) (Nat.le_refl _) hB.size hcur).mono ?_
  rintro e w2 ⟨l, A, c, rfl, hl, hW, hB2, hcur2⟩
  go_wp2
  go_ret
  exact ⟨l, A, c, rfl, hl, SlW.mono hW hB.size (Nat.le_refl _), hB.trans (hB2.below (Nat.le_refl _) hB.size)⟩

set_option maxHeartbeats 1000000 in
theorem drawLineTake_any (a0 : Option Addr) (len cap : Nat) (w : World) (hc : CodeOk w.heap.size w a0 len) :
    Calls Try.prog 12 #[.slice a0 len cap] w (DrawnL w) := by
  go_enter Try.func12, Try.ntmps12
  go_wp2_with fail
  refine (drawLineOk_any a0 len cap _ hc).mono ?_
  rintro e w2 ⟨l, A, c, rfl, h⟩
  go_wp2
  go_ret
  exact ⟨l, A, c, rfl, h⟩

set_option maxHeartbeats 1000000 in
theorem drawLinePut_any (a0 : Option Addr) (len cap : Nat) (w : World) (hc : CodeOk w.heap.size w a0 len) :
    Calls Try.prog 10 #[.slice a0 len cap] w (DrawnLV w) := by
  go_enter Try.func10, Try.ntmps10
  go_wp2_with fail
  refine (l1New_any w.heap.size a0 len cap _ hc).mono ?_
  rintro e w1 ⟨h, rfl, rfl⟩
  go_wp2_with fail
  refine calls_abs (fun W => Below w.heap.size w W ∧ CurAt W w.heap.size a0 len cap) ⟨(Below.refl _ _).alloc (Nat.le_refl _) _, 0, h, Nat.zero_le _, BoxAt.new _ _ _⟩ ?_
  rintro W ⟨hB, hcur⟩
  have lk := hcur.lt
  refine (l12Draw_any w.heap.size w.heap.size a0 len cap _ (hc.below hB) (Nat.le_refl _) hB.size hcur).mono ?_
  rintro e w2 ⟨l, A, c, rfl, hl, hW, hB2, hcur2⟩
  have hs := hB.size
  replace hB := hB.trans (hB2.below (Nat.le_refl _) hB.size)
  go_wp2_with fail
  refine (l1Below_any w.heap.size w.heap.size a0 len cap _ _ (hc.below hB) (Nat.le_refl _) hB.size hcur2 (by omega)).mono ?_
  rintro e w3 ⟨v, hv, rfl, hB3, hcur3⟩
  replace hW := IntsW.butc hW hB3 (by omega) (Nat.le_refl _)
  have hs3 := hB3.size
  replace hB := hB.trans (hB3.below (Nat.le_refl _) hB.size)
  go_wp2
  go_ret2
  exact ⟨l, A, c, v, rfl, hl, SlW.mono hW (by omega) (by omega), hB⟩

set_option maxRecDepth 100000 in
set_option maxHeartbeats 4000000 in
theorem l11Draw_any (N k : Nat) (a0 : Option Addr) (len cap : Nat) (w : World) (hc : CodeOk N w a0 len) (hk : N ≤ k) (hN : N ≤ w.heap.size) (hcur0 : CurAt w k a0 len cap) :
    Calls Try.prog 46 #[.pointer (some ⟨k, 0, none⟩)] w (DrawsE k a0 len cap w) := by
  have lk := hcur0.lt
  go_enter Try.func46, Try.ntmps46
  go_wp2_with fail
  refine calls_abs (fun W => But k w W ∧ CurAt W k a0 len cap ∧ BoxAt W w.heap.size #[.int .i64 0, .bool false, .int .i64 0, .int .i64 0, .int .i64 0, .int .i64 0] 35) ⟨(But.refl _ _).alloc _, hcur0.alloc _, BoxAt.new _ _ _⟩ ?_
  clear hcur0
  rintro W ⟨hB, hcur, hz⟩
  refine (l1Below_any N k a0 len cap _ _ (hc.below (hB.below hk hN)) hk (Nat.le_trans hN hB.size) hcur (by omega)).mono ?_
  rintro e w1 ⟨at_, ⟨at_0, at_1⟩, rfl, hB2, hcur2⟩
  replace hz := hB2.box hz (by omega)
  replace hB := hB.trans hB2
  clear hB2 hcur
  have hcur := hcur2
  clear hcur2
  go_wp2_with fail
  refine (l1Below_any N k a0 len cap _ _ (hc.below (hB.below hk hN)) hk (Nat.le_trans hN hB.size) hcur (by omega)).mono ?_
  rintro e w2 ⟨who, ⟨who0, who1⟩, rfl, hB2, hcur2⟩
  replace hz := hB2.box hz (by omega)
  replace hB := hB.trans hB2
  clear hB2 hcur
  have hcur := hcur2
  clear hcur2
  go_wp2_with fail
  refine (l1Below_any N k a0 len cap _ _ (hc.below (hB.below hk hN)) hk (Nat.le_trans hN hB.size) hcur (by omega)).mono ?_
  rintro e w3 ⟨d, ⟨d0, d1⟩, rfl, hB2, hcur2⟩
  replace hz := hB2.box hz (by omega)
  replace hB := hB.trans hB2
  clear hB2 hcur
  have hcur := hcur2
  clear hcur2
  go_wp2_with fail
  refine calls_abs (fun W => But k w W ∧ CurAt W k a0 len cap ∧ BoxAt W w.heap.size #[.int .i64 0, .bool false, .int .i64 0, .int .i64 0, .int .i64 0, .int .i64 0] 35 ∧ BoxAt W w3.heap.size #[.int .i64 (who), .bool false, .int .i64 (0), .int .i64 (0), .int .i64 (at_), .int .i64 (at_ + d)] 35) ⟨hB.alloc _, hcur.alloc _, hz.alloc _, BoxAt.new _ _ _⟩ ?_
  have hY : w.heap.size ≤ w3.heap.size := hB.size
  have hYz : w.heap.size ≠ w3.heap.size := by have := hz.lt; omega
  generalize w3.heap.size = Y at *
  clear hB hcur hz
  rintro W3 ⟨hB, hcur, hz, hy⟩
  refine (l1Below_any N k a0 len cap _ _ (hc.below (hB.below hk hN)) hk (Nat.le_trans hN hB.size) hcur (by omega)).mono ?_
  rintro e w4 ⟨r, ⟨r0, r1⟩, rfl, hB2, hcur2⟩
  replace hz := hB2.box hz (by omega)
  replace hy := hB2.box hy (by omega)
  replace hB := hB.trans hB2
  clear hB2 hcur
  have hcur := hcur2
  clear hcur2
  have ky := hy.cell
  have fy := hy.frozen
  have kz := hz.cell
  have fz := hz.frozen
  have hr : r = 0 ∨ r = 1 ∨ r = 2 ∨ r = 3 ∨ r = 4 ∨ r = 5 := by omega
  clear r0 r1
  rcases hr with rfl | rfl | rfl | rfl | rfl | rfl
  · go_wp2_with fail
    refine calls_abs (fun W => But k w W ∧ CurAt W k a0 len cap ∧ BoxAt W w.heap.size #[.int .i64 0, .bool false, .int .i64 0, .int .i64 0, .int .i64 0, .int .i64 0] 35 ∧ BoxAt W Y #[.int .i64 (who), .bool true, .int .i64 (0), .int .i64 (0), .int .i64 (at_), .int .i64 (at_ + d)] 35) ⟨(hB.setNew hY 1 _), (hcur.set_ne (by omega) 1 _), (hz.set_ne hYz 1 _), by simpa using (hy.set 1 (.bool true))⟩ ?_
    clear hB hcur hz hy ky fy kz fz
    rintro W ⟨hB, hcur, hz, hy⟩
    refine (l1Below_any N k a0 len cap _ _ (hc.below (hB.below hk hN)) hk (Nat.le_trans hN hB.size) hcur (by omega)).mono ?_
    rintro e w5 ⟨v, ⟨v0, v1⟩, rfl, hB2, hcur2⟩
    replace hz := hB2.box hz (by omega)
    replace hy := hB2.box hy (by omega)
    replace hB := hB.trans hB2
    clear hB2 hcur
    have hcur := hcur2
    clear hcur2
    have ky := hy.cell
    have fy := hy.frozen
    have kz := hz.cell
    have fz := hz.frozen
    go_wp2_with fail
    refine calls_abs (fun W => But k w W ∧ CurAt W k a0 len cap ∧ BoxAt W w.heap.size #[.int .i64 0, .bool false, .int .i64 0, .int .i64 0, .int .i64 0, .int .i64 0] 35 ∧ BoxAt W Y #[.int .i64 (who), .bool true, .int .i64 (1 + v), .int .i64 (1), .int .i64 (at_), .int .i64 (at_ + d)] 35) ⟨((hB.setNew hY 2 _).setNew hY 3 _), ((hcur.set_ne (by omega) 2 _).set_ne (by omega) 3 _), ((hz.set_ne hYz 2 _).set_ne hYz 3 _), by simpa using ((hy.set 2 (.int .i64 (1 + v))).set 3 (.int .i64 1))⟩ ?_
    clear hB hcur hz hy ky fy kz fz
    rintro W ⟨hB, hcur, hz, hy⟩
    refine (l1Once_any N k a0 len cap _ _ (hc.below (hB.below hk hN)) hk (Nat.le_trans hN hB.size) hcur (by omega)).mono ?_
    rintro e w6 ⟨b, rfl, hB2, hcur2⟩
    replace hz := hB2.box hz (by omega)
    replace hy := hB2.box hy (by omega)
    replace hB := hB.trans hB2
    clear hB2 hcur
    have hcur := hcur2
    clear hcur2
    have ky := hy.cell
    have fy := hy.frozen
    have kz := hz.cell
    have fz := hz.frozen
    cases b
    · go_wp2
      refine bodyPost_ret (v := (⟨who, true, 1 + v, 1, at_, at_ + d⟩ : Ev).V) (by simp [results, Try.results46, go_sem, kz, Ev.V]) rfl ⟨_, rfl, ?_, ?_⟩
      · exact ((((((hB.setNew (Nat.le_refl _) 0 _).setNew (Nat.le_refl _) 1 _).setNew (Nat.le_refl _) 2 _).setNew (Nat.le_refl _) 3 _).setNew (Nat.le_refl _) 4 _).setNew (Nat.le_refl _) 5 _)
      · exact ((((((hcur.set_ne (by omega) 0 _).set_ne (by omega) 1 _).set_ne (by omega) 2 _).set_ne (by omega) 3 _).set_ne (by omega) 4 _).set_ne (by omega) 5 _)
    · go_wp2
      refine bodyPost_ret (v := (⟨who, true, 1 + v, 2, at_, at_ + d⟩ : Ev).V) (by simp [results, Try.results46, go_sem, kz, Ev.V]) rfl ⟨_, rfl, ?_, ?_⟩
      · exact (((((((hB.setNew hY 3 _).setNew (Nat.le_refl _) 0 _).setNew (Nat.le_refl _) 1 _).setNew (Nat.le_refl _) 2 _).setNew (Nat.le_refl _) 3 _).setNew (Nat.le_refl _) 4 _).setNew (Nat.le_refl _) 5 _)
      · exact (((((((hcur.set_ne (by omega) 3 _).set_ne (by omega) 0 _).set_ne (by omega) 1 _).set_ne (by omega) 2 _).set_ne (by omega) 3 _).set_ne (by omega) 4 _).set_ne (by omega) 5 _)
  · go_wp2_with fail
    refine calls_abs (fun W => But k w W ∧ CurAt W k a0 len cap ∧ BoxAt W w.heap.size #[.int .i64 0, .bool false, .int .i64 0, .int .i64 0, .int .i64 0, .int .i64 0] 35 ∧ BoxAt W Y #[.int .i64 (who), .bool true, .int .i64 (0), .int .i64 (0), .int .i64 (at_), .int .i64 (at_ + d)] 35) ⟨(hB.setNew hY 1 _), (hcur.set_ne (by omega) 1 _), (hz.set_ne hYz 1 _), by simpa using (hy.set 1 (.bool true))⟩ ?_
    clear hB hcur hz hy ky fy kz fz
    rintro W ⟨hB, hcur, hz, hy⟩
    refine (l1Below_any N k a0 len cap _ _ (hc.below (hB.below hk hN)) hk (Nat.le_trans hN hB.size) hcur (by omega)).mono ?_
    rintro e w5 ⟨v, ⟨v0, v1⟩, rfl, hB2, hcur2⟩
    replace hz := hB2.box hz (by omega)
    replace hy := hB2.box hy (by omega)
    replace hB := hB.trans hB2
    clear hB2 hcur
    have hcur := hcur2
    clear hcur2
    have ky := hy.cell
    have fy := hy.frozen
    have kz := hz.cell
    have fz := hz.frozen
    go_wp2_with fail
    refine calls_abs (fun W => But k w W ∧ CurAt W k a0 len cap ∧ BoxAt W w.heap.size #[.int .i64 0, .bool false, .int .i64 0, .int .i64 0, .int .i64 0, .int .i64 0] 35 ∧ BoxAt W Y #[.int .i64 (who), .bool true, .int .i64 (1 + v), .int .i64 (1), .int .i64 (at_), .int .i64 (at_ + d)] 35) ⟨((hB.setNew hY 2 _).setNew hY 3 _), ((hcur.set_ne (by omega) 2 _).set_ne (by omega) 3 _), ((hz.set_ne hYz 2 _).set_ne hYz 3 _), by simpa using ((hy.set 2 (.int .i64 (1 + v))).set 3 (.int .i64 1))⟩ ?_
    clear hB hcur hz hy ky fy kz fz
    rintro W ⟨hB, hcur, hz, hy⟩
    refine (l1Once_any N k a0 len cap _ _ (hc.below (hB.below hk hN)) hk (Nat.le_trans hN hB.size) hcur (by omega)).mono ?_
    rintro e w6 ⟨b, rfl, hB2, hcur2⟩
    replace hz := hB2.box hz (by omega)
    replace hy := hB2.box hy (by omega)
    replace hB := hB.trans hB2
    clear hB2 hcur
    have hcur := hcur2
    clear hcur2
    have ky := hy.cell
    have fy := hy.frozen
    have kz := hz.cell
    have fz := hz.frozen
    cases b
    · go_wp2
      refine bodyPost_ret (v := (⟨who, true, 1 + v, 1, at_, at_ + d⟩ : Ev).V) (by simp [results, Try.results46, go_sem, kz, Ev.V]) rfl ⟨_, rfl, ?_, ?_⟩
      · exact ((((((hB.setNew (Nat.le_refl _) 0 _).setNew (Nat.le_refl _) 1 _).setNew (Nat.le_refl _) 2 _).setNew (Nat.le_refl _) 3 _).setNew (Nat.le_refl _) 4 _).setNew (Nat.le_refl _) 5 _)
      · exact ((((((hcur.set_ne (by omega) 0 _).set_ne (by omega) 1 _).set_ne (by omega) 2 _).set_ne (by omega) 3 _).set_ne (by omega) 4 _).set_ne (by omega) 5 _)
    · go_wp2
      refine bodyPost_ret (v := (⟨who, true, 1 + v, 2, at_, at_ + d⟩ : Ev).V) (by simp [results, Try.results46, go_sem, kz, Ev.V]) rfl ⟨_, rfl, ?_, ?_⟩
      · exact (((((((hB.setNew hY 3 _).setNew (Nat.le_refl _) 0 _).setNew (Nat.le_refl _) 1 _).setNew (Nat.le_refl _) 2 _).setNew (Nat.le_refl _) 3 _).setNew (Nat.le_refl _) 4 _).setNew (Nat.le_refl _) 5 _)
      · exact (((((((hcur.set_ne (by omega) 3 _).set_ne (by omega) 0 _).set_ne (by omega) 1 _).set_ne (by omega) 2 _).set_ne (by omega) 3 _).set_ne (by omega) 4 _).set_ne (by omega) 5 _)
  · go_wp2_with fail
    refine calls_abs (fun W => But k w W ∧ CurAt W k a0 len cap ∧ BoxAt W w.heap.size #[.int .i64 0, .bool false, .int .i64 0, .int .i64 0, .int .i64 0, .int .i64 0] 35 ∧ BoxAt W Y #[.int .i64 (who), .bool true, .int .i64 (0), .int .i64 (0), .int .i64 (at_), .int .i64 (at_ + d)] 35) ⟨(hB.setNew hY 1 _), (hcur.set_ne (by omega) 1 _), (hz.set_ne hYz 1 _), by simpa using (hy.set 1 (.bool true))⟩ ?_
    clear hB hcur hz hy ky fy kz fz
    rintro W ⟨hB, hcur, hz, hy⟩
    refine (l1Below_any N k a0 len cap _ _ (hc.below (hB.below hk hN)) hk (Nat.le_trans hN hB.size) hcur (by omega)).mono ?_
    rintro e w5 ⟨v, ⟨v0, v1⟩, rfl, hB2, hcur2⟩
    replace hz := hB2.box hz (by omega)
    replace hy := hB2.box hy (by omega)
    replace hB := hB.trans hB2
    clear hB2 hcur
    have hcur := hcur2
    clear hcur2
    have ky := hy.cell
    have fy := hy.frozen
    have kz := hz.cell
    have fz := hz.frozen
    go_wp2_with fail
    refine calls_abs (fun W => But k w W ∧ CurAt W k a0 len cap ∧ BoxAt W w.heap.size #[.int .i64 0, .bool false, .int .i64 0, .int .i64 0, .int .i64 0, .int .i64 0] 35 ∧ BoxAt W Y #[.int .i64 (who), .bool true, .int .i64 (1 + v), .int .i64 (1), .int .i64 (at_), .int .i64 (at_ + d)] 35) ⟨((hB.setNew hY 2 _).setNew hY 3 _), ((hcur.set_ne (by omega) 2 _).set_ne (by omega) 3 _), ((hz.set_ne hYz 2 _).set_ne hYz 3 _), by simpa using ((hy.set 2 (.int .i64 (1 + v))).set 3 (.int .i64 1))⟩ ?_
    clear hB hcur hz hy ky fy kz fz
    rintro W ⟨hB, hcur, hz, hy⟩
    refine (l1Once_any N k a0 len cap _ _ (hc.below (hB.below hk hN)) hk (Nat.le_trans hN hB.size) hcur (by omega)).mono ?_
    rintro e w6 ⟨b, rfl, hB2, hcur2⟩
    replace hz := hB2.box hz (by omega)
    replace hy := hB2.box hy (by omega)
    replace hB := hB.trans hB2
    clear hB2 hcur
    have hcur := hcur2
    clear hcur2
    have ky := hy.cell
    have fy := hy.frozen
    have kz := hz.cell
    have fz := hz.frozen
    cases b
    · go_wp2
      refine bodyPost_ret (v := (⟨who, true, 1 + v, 1, at_, at_ + d⟩ : Ev).V) (by simp [results, Try.results46, go_sem, kz, Ev.V]) rfl ⟨_, rfl, ?_, ?_⟩
      · exact ((((((hB.setNew (Nat.le_refl _) 0 _).setNew (Nat.le_refl _) 1 _).setNew (Nat.le_refl _) 2 _).setNew (Nat.le_refl _) 3 _).setNew (Nat.le_refl _) 4 _).setNew (Nat.le_refl _) 5 _)
      · exact ((((((hcur.set_ne (by omega) 0 _).set_ne (by omega) 1 _).set_ne (by omega) 2 _).set_ne (by omega) 3 _).set_ne (by omega) 4 _).set_ne (by omega) 5 _)
    · go_wp2
      refine bodyPost_ret (v := (⟨who, true, 1 + v, 2, at_, at_ + d⟩ : Ev).V) (by simp [results, Try.results46, go_sem, kz, Ev.V]) rfl ⟨_, rfl, ?_, ?_⟩
      · exact (((((((hB.setNew hY 3 _).setNew (Nat.le_refl _) 0 _).setNew (Nat.le_refl _) 1 _).setNew (Nat.le_refl _) 2 _).setNew (Nat.le_refl _) 3 _).setNew (Nat.le_refl _) 4 _).setNew (Nat.le_refl _) 5 _)
      · exact (((((((hcur.set_ne (by omega) 3 _).set_ne (by omega) 0 _).set_ne (by omega) 1 _).set_ne (by omega) 2 _).set_ne (by omega) 3 _).set_ne (by omega) 4 _).set_ne (by omega) 5 _)
  · go_wp2
    refine bodyPost_ret (v := (⟨who, false, 0, 3, at_, at_ + d⟩ : Ev).V) (by simp [results, Try.results46, go_sem, kz, Ev.V]) rfl ⟨_, rfl, ?_, ?_⟩
    · exact (((((((hB.setNew hY 3 _).setNew (Nat.le_refl _) 0 _).setNew (Nat.le_refl _) 1 _).setNew (Nat.le_refl _) 2 _).setNew (Nat.le_refl _) 3 _).setNew (Nat.le_refl _) 4 _).setNew (Nat.le_refl _) 5 _)
    · exact (((((((hcur.set_ne (by omega) 3 _).set_ne (by omega) 0 _).set_ne (by omega) 1 _).set_ne (by omega) 2 _).set_ne (by omega) 3 _).set_ne (by omega) 4 _).set_ne (by omega) 5 _)
  · go_wp2_with fail
    refine (l1Below_any N k a0 len cap _ _ (hc.below (hB.below hk hN)) hk (Nat.le_trans hN hB.size) hcur (by omega)).mono ?_
    rintro e w5 ⟨v, ⟨v0, v1⟩, rfl, hB2, hcur2⟩
    replace hz := hB2.box hz (by omega)
    replace hy := hB2.box hy (by omega)
    replace hB := hB.trans hB2
    clear hB2 hcur
    have hcur := hcur2
    clear hcur2
    have ky := hy.cell
    have fy := hy.frozen
    have kz := hz.cell
    have fz := hz.frozen
    go_wp2
    refine bodyPost_ret (v := (⟨who, false, 1 + v, 4, at_, at_ + d⟩ : Ev).V) (by simp [results, Try.results46, go_sem, kz, Ev.V]) rfl ⟨_, rfl, ?_, ?_⟩
    · exact ((((((((hB.setNew hY 2 _).setNew hY 3 _).setNew (Nat.le_refl _) 0 _).setNew (Nat.le_refl _) 1 _).setNew (Nat.le_refl _) 2 _).setNew (Nat.le_refl _) 3 _).setNew (Nat.le_refl _) 4 _).setNew (Nat.le_refl _) 5 _)
    · exact ((((((((hcur.set_ne (by omega) 2 _).set_ne (by omega) 3 _).set_ne (by omega) 0 _).set_ne (by omega) 1 _).set_ne (by omega) 2 _).set_ne (by omega) 3 _).set_ne (by omega) 4 _).set_ne (by omega) 5 _)
  · go_wp2_with fail
    refine (l1Below_any N k a0 len cap _ _ (hc.below (hB.below hk hN)) hk (Nat.le_trans hN hB.size) hcur (by omega)).mono ?_
    rintro e w5 ⟨v, ⟨v0, v1⟩, rfl, hB2, hcur2⟩
    replace hz := hB2.box hz (by omega)
    replace hy := hB2.box hy (by omega)
    replace hB := hB.trans hB2
    clear hB2 hcur
    have hcur := hcur2
    clear hcur2
    have ky := hy.cell
    have fy := hy.frozen
    have kz := hz.cell
    have fz := hz.frozen
    go_wp2
    refine bodyPost_ret (v := (⟨who, false, 1 + v, 4, at_, at_ + d⟩ : Ev).V) (by simp [results, Try.results46, go_sem, kz, Ev.V]) rfl ⟨_, rfl, ?_, ?_⟩
    · exact ((((((((hB.setNew hY 2 _).setNew hY 3 _).setNew (Nat.le_refl _) 0 _).setNew (Nat.le_refl _) 1 _).setNew (Nat.le_refl _) 2 _).setNew (Nat.le_refl _) 3 _).setNew (Nat.le_refl _) 4 _).setNew (Nat.le_refl _) 5 _)
    · exact ((((((((hcur.set_ne (by omega) 2 _).set_ne (by omega) 3 _).set_ne (by omega) 0 _).set_ne (by omega) 1 _).set_ne (by omega) 2 _).set_ne (by omega) 3 _).set_ne (by omega) 4 _).set_ne (by omega) 5 _)

set_option maxRecDepth 100000 in
set_option maxHeartbeats 4000000 in
theorem l11DrawAny_any (N k : Nat) (a0 : Option Addr) (len cap : Nat) (w : World) (hc : CodeOk N w a0 len) (hk : N ≤ k) (hN : N ≤ w.heap.size) (hcur0 : CurAt w k a0 len cap) :
    Calls Try.prog 37 #[.pointer (some ⟨k, 0, none⟩)] w (DrawsE k a0 len cap w) := by
  have lk := hcur0.lt
  go_enter Try.func37, Try.ntmps37
  go_wp2_with fail
  refine calls_abs (fun W => But k w W ∧ CurAt W k a0 len cap ∧ BoxAt W w.heap.size #[.int .i64 0, .bool false, .int .i64 0, .int .i64 0, .int .i64 0, .int .i64 0] 35) ⟨(But.refl _ _).alloc _, hcur0.alloc _, BoxAt.new _ _ _⟩ ?_
  clear hcur0
  rintro W ⟨hB, hcur, hz⟩
  refine (l11Draw_any N k a0 len cap _ (hc.below (hB.below hk hN)) hk (Nat.le_trans hN hB.size) hcur).mono ?_
  rintro e w3 ⟨x, rfl, hB2, hcur2⟩
  replace hz := hB2.box hz (by omega)
  replace hB := hB.trans hB2
  clear hB2 hcur
  have hcur := hcur2
  clear hcur2
  unfold Ev.V
  go_wp2_with fail
  refine calls_abs (fun W => But k w W ∧ CurAt W k a0 len cap ∧ BoxAt W w.heap.size #[.int .i64 0, .bool false, .int .i64 0, .int .i64 0, .int .i64 0, .int .i64 0] 35 ∧ BoxAt W w3.heap.size #[.int .i64 x.who, .bool x.put, .int .i64 x.v, .int .i64 x.re, .int .i64 x.b, .int .i64 x.e] 35) ⟨hB.alloc _, hcur.alloc _, hz.alloc _, BoxAt.new _ _ _⟩ ?_
  have hY : w.heap.size ≤ w3.heap.size := hB.size
  have hYz : w.heap.size ≠ w3.heap.size := by have := hz.lt; omega
  generalize w3.heap.size = Y at *
  clear hB hcur hz
  rintro W3 ⟨hB, hcur, hz, hy⟩
  refine (l1Once_any N k a0 len cap _ _ (hc.below (hB.below hk hN)) hk (Nat.le_trans hN hB.size) hcur (by omega)).mono ?_
  rintro e w4 ⟨b, rfl, hB2, hcur2⟩
  replace hz := hB2.box hz (by omega)
  replace hy := hB2.box hy (by omega)
  replace hB := hB.trans hB2
  clear hB2 hcur
  have hcur := hcur2
  clear hcur2
  have ky := hy.cell
  have fy := hy.frozen
  have kz := hz.cell
  have fz := hz.frozen
  cases b
  · go_wp2
    refine bodyPost_ret (v := (⟨x.who, x.put, x.v, x.re, x.b, x.e⟩ : Ev).V) (by simp [results, Try.results37, go_sem, kz, Ev.V]) rfl ⟨_, rfl, ?_, ?_⟩
    · exact ((((((hB.setNew (Nat.le_refl _) 0 _).setNew (Nat.le_refl _) 1 _).setNew (Nat.le_refl _) 2 _).setNew (Nat.le_refl _) 3 _).setNew (Nat.le_refl _) 4 _).setNew (Nat.le_refl _) 5 _)
    · exact ((((((hcur.set_ne (by omega) 0 _).set_ne (by omega) 1 _).set_ne (by omega) 2 _).set_ne (by omega) 3 _).set_ne (by omega) 4 _).set_ne (by omega) 5 _)
  · go_wp2_with fail
    refine (l1Below_any N k a0 len cap _ _ (hc.below (hB.below hk hN)) hk (Nat.le_trans hN hB.size) hcur (by omega)).mono ?_
    rintro e w5 ⟨r, ⟨r0, r1⟩, rfl, hB2, hcur2⟩
    replace hz := hB2.box hz (by omega)
    replace hy := hB2.box hy (by omega)
    replace hB := hB.trans hB2
    clear hB2 hcur
    have hcur := hcur2
    clear hcur2
    have ky := hy.cell
    have fy := hy.frozen
    have kz := hz.cell
    have fz := hz.frozen
    have hr : r = 0 ∨ r = 1 ∨ r = 2 ∨ r = 3 ∨ r = 4 := by omega
    clear r0 r1
    rcases hr with rfl | rfl | rfl | rfl | rfl
    · go_wp2_with fail
      refine (l1From_any N k a0 len cap _ _ _ (hc.below (hB.below hk hN)) hk (Nat.le_trans hN hB.size) hcur (by omega) (by omega) (by omega)).mono ?_
      rintro e w6 ⟨z, ⟨z0, z1⟩, rfl, hB2, hcur2⟩
      replace hz := hB2.box hz (by omega)
      replace hy := hB2.box hy (by omega)
      replace hB := hB.trans hB2
      clear hB2 hcur
      have hcur := hcur2
      clear hcur2
      have ky := hy.cell
      have fy := hy.frozen
      have kz := hz.cell
      have fz := hz.frozen
      go_wp2
      refine bodyPost_ret (v := (⟨z, x.put, x.v, x.re, x.b, x.e⟩ : Ev).V) (by simp [results, Try.results37, go_sem, kz, Ev.V]) rfl ⟨_, rfl, ?_, ?_⟩
      · exact (((((((hB.setNew hY 0 _).setNew (Nat.le_refl _) 0 _).setNew (Nat.le_refl _) 1 _).setNew (Nat.le_refl _) 2 _).setNew (Nat.le_refl _) 3 _).setNew (Nat.le_refl _) 4 _).setNew (Nat.le_refl _) 5 _)
      · exact (((((((hcur.set_ne (by omega) 0 _).set_ne (by omega) 0 _).set_ne (by omega) 1 _).set_ne (by omega) 2 _).set_ne (by omega) 3 _).set_ne (by omega) 4 _).set_ne (by omega) 5 _)
    · go_wp2_with fail
      refine (l1From_any N k a0 len cap _ _ _ (hc.below (hB.below hk hN)) hk (Nat.le_trans hN hB.size) hcur (by omega) (by omega) (by omega)).mono ?_
      rintro e w6 ⟨z, ⟨z0, z1⟩, rfl, hB2, hcur2⟩
      replace hz := hB2.box hz (by omega)
      replace hy := hB2.box hy (by omega)
      replace hB := hB.trans hB2
      clear hB2 hcur
      have hcur := hcur2
      clear hcur2
      have ky := hy.cell
      have fy := hy.frozen
      have kz := hz.cell
      have fz := hz.frozen
      go_wp2
      refine bodyPost_ret (v := (⟨x.who, x.put, x.v, x.re, z, x.e⟩ : Ev).V) (by simp [results, Try.results37, go_sem, kz, Ev.V]) rfl ⟨_, rfl, ?_, ?_⟩
      · exact (((((((hB.setNew hY 4 _).setNew (Nat.le_refl _) 0 _).setNew (Nat.le_refl _) 1 _).setNew (Nat.le_refl _) 2 _).setNew (Nat.le_refl _) 3 _).setNew (Nat.le_refl _) 4 _).setNew (Nat.le_refl _) 5 _)
      · exact (((((((hcur.set_ne (by omega) 4 _).set_ne (by omega) 0 _).set_ne (by omega) 1 _).set_ne (by omega) 2 _).set_ne (by omega) 3 _).set_ne (by omega) 4 _).set_ne (by omega) 5 _)
    · go_wp2_with fail
      refine calls_abs (fun W => But k w W ∧ CurAt W k a0 len cap ∧ BoxAt W w.heap.size #[.int .i64 0, .bool false, .int .i64 0, .int .i64 0, .int .i64 0, .int .i64 0] 35 ∧ BoxAt W Y #[.int .i64 x.who, .bool x.put, .int .i64 x.v, .int .i64 x.re, .int .i64 x.b, .int .i64 x.e] 35 ∧ BoxAt W w5.heap.size #[.int .i64 (-1), .int .i64 2000, .int .i64 2001] 2) ⟨hB.alloc _, hcur.alloc _, hz.alloc _, hy.alloc _, BoxAt.new _ _ _⟩ ?_
      have hG : w.heap.size ≤ w5.heap.size := hB.size
      generalize w5.heap.size = G at *
      clear hB hcur hz hy ky fy kz fz
      rintro W5 ⟨hB, hcur, hz, hy, hg⟩
      refine (l1Below_any N k a0 len cap _ _ (hc.below (hB.below hk hN)) hk (Nat.le_trans hN hB.size) hcur (by omega)).mono ?_
      rintro e w6 ⟨q, ⟨q0, q1⟩, rfl, hB2, hcur2⟩
      replace hz := hB2.box hz (by omega)
      replace hy := hB2.box hy (by omega)
      replace hg := hB2.box hg (by omega)
      replace hB := hB.trans hB2
      clear hB2 hcur
      have hcur := hcur2
      clear hcur2
      have ky := hy.cell
      have fy := hy.frozen
      have kz := hz.cell
      have fz := hz.frozen
      have kg := hg.cell
      have hq : q = 0 ∨ q = 1 ∨ q = 2 := by omega
      clear q0 q1
      rcases hq with rfl | rfl | rfl
      · go_wp2
        refine bodyPost_ret (v := (⟨x.who, x.put, x.v, x.re, x.b, -1⟩ : Ev).V) (by simp [results, Try.results37, go_sem, kz, Ev.V]) rfl ⟨_, rfl, ?_, ?_⟩
        · exact (((((((hB.setNew hY 5 _).setNew (Nat.le_refl _) 0 _).setNew (Nat.le_refl _) 1 _).setNew (Nat.le_refl _) 2 _).setNew (Nat.le_refl _) 3 _).setNew (Nat.le_refl _) 4 _).setNew (Nat.le_refl _) 5 _)
        · exact (((((((hcur.set_ne (by omega) 5 _).set_ne (by omega) 0 _).set_ne (by omega) 1 _).set_ne (by omega) 2 _).set_ne (by omega) 3 _).set_ne (by omega) 4 _).set_ne (by omega) 5 _)
      · go_wp2
        refine bodyPost_ret (v := (⟨x.who, x.put, x.v, x.re, x.b, 2000⟩ : Ev).V) (by simp [results, Try.results37, go_sem, kz, Ev.V]) rfl ⟨_, rfl, ?_, ?_⟩
        · exact (((((((hB.setNew hY 5 _).setNew (Nat.le_refl _) 0 _).setNew (Nat.le_refl _) 1 _).setNew (Nat.le_refl _) 2 _).setNew (Nat.le_refl _) 3 _).setNew (Nat.le_refl _) 4 _).setNew (Nat.le_refl _) 5 _)
        · exact (((((((hcur.set_ne (by omega) 5 _).set_ne (by omega) 0 _).set_ne (by omega) 1 _).set_ne (by omega) 2 _).set_ne (by omega) 3 _).set_ne (by omega) 4 _).set_ne (by omega) 5 _)
      · go_wp2
        refine bodyPost_ret (v := (⟨x.who, x.put, x.v, x.re, x.b, 2001⟩ : Ev).V) (by simp [results, Try.results37, go_sem, kz, Ev.V]) rfl ⟨_, rfl, ?_, ?_⟩
        · exact (((((((hB.setNew hY 5 _).setNew (Nat.le_refl _) 0 _).setNew (Nat.le_refl _) 1 _).setNew (Nat.le_refl _) 2 _).setNew (Nat.le_refl _) 3 _).setNew (Nat.le_refl _) 4 _).setNew (Nat.le_refl _) 5 _)
        · exact (((((((hcur.set_ne (by omega) 5 _).set_ne (by omega) 0 _).set_ne (by omega) 1 _).set_ne (by omega) 2 _).set_ne (by omega) 3 _).set_ne (by omega) 4 _).set_ne (by omega) 5 _)
    · go_wp2_with fail
      refine (l1From_any N k a0 len cap _ _ _ (hc.below (hB.below hk hN)) hk (Nat.le_trans hN hB.size) hcur (by omega) (by omega) (by omega)).mono ?_
      rintro e w6 ⟨z, ⟨z0, z1⟩, rfl, hB2, hcur2⟩
      replace hz := hB2.box hz (by omega)
      replace hy := hB2.box hy (by omega)
      replace hB := hB.trans hB2
      clear hB2 hcur
      have hcur := hcur2
      clear hcur2
      have ky := hy.cell
      have fy := hy.frozen
      have kz := hz.cell
      have fz := hz.frozen
      go_wp2
      refine bodyPost_ret (v := (⟨x.who, x.put, z, x.re, x.b, x.e⟩ : Ev).V) (by simp [results, Try.results37, go_sem, kz, Ev.V]) rfl ⟨_, rfl, ?_, ?_⟩
      · exact (((((((hB.setNew hY 2 _).setNew (Nat.le_refl _) 0 _).setNew (Nat.le_refl _) 1 _).setNew (Nat.le_refl _) 2 _).setNew (Nat.le_refl _) 3 _).setNew (Nat.le_refl _) 4 _).setNew (Nat.le_refl _) 5 _)
      · exact (((((((hcur.set_ne (by omega) 2 _).set_ne (by omega) 0 _).set_ne (by omega) 1 _).set_ne (by omega) 2 _).set_ne (by omega) 3 _).set_ne (by omega) 4 _).set_ne (by omega) 5 _)
    · go_wp2_with fail
      refine (l1From_any N k a0 len cap _ _ _ (hc.below (hB.below hk hN)) hk (Nat.le_trans hN hB.size) hcur (by omega) (by omega) (by omega)).mono ?_
      rintro e w6 ⟨z, ⟨z0, z1⟩, rfl, hB2, hcur2⟩
      replace hz := hB2.box hz (by omega)
      replace hy := hB2.box hy (by omega)
      replace hB := hB.trans hB2
      clear hB2 hcur
      have hcur := hcur2
      clear hcur2
      have ky := hy.cell
      have fy := hy.frozen
      have kz := hz.cell
      have fz := hz.frozen
      go_wp2
      refine bodyPost_ret (v := (⟨x.who, x.put, x.v, z, x.b, x.e⟩ : Ev).V) (by simp [results, Try.results37, go_sem, kz, Ev.V]) rfl ⟨_, rfl, ?_, ?_⟩
      · exact (((((((hB.setNew hY 3 _).setNew (Nat.le_refl _) 0 _).setNew (Nat.le_refl _) 1 _).setNew (Nat.le_refl _) 2 _).setNew (Nat.le_refl _) 3 _).setNew (Nat.le_refl _) 4 _).setNew (Nat.le_refl _) 5 _)
      · exact (((((((hcur.set_ne (by omega) 3 _).set_ne (by omega) 0 _).set_ne (by omega) 1 _).set_ne (by omega) 2 _).set_ne (by omega) 3 _).set_ne (by omega) 4 _).set_ne (by omega) 5 _)

set_option maxRecDepth 100000 in
set_option maxHeartbeats 2000000 in
theorem drawExplains_any (a0 : Option Addr) (len cap : Nat) (w : World) (hc : CodeOk w.heap.size w a0 len) :
    Calls Try.prog 19 #[.slice a0 len cap] w (DrawnLE w) := by
  go_enter Try.func19, Try.ntmps19
  go_wp2_with fail
  refine calls_abs (fun W => Below w.heap.size w W ∧ BoxAt W w.heap.size #[.int .i64 0, .bool false, .int .i64 0, .int .i64 0, .int .i64 0, .int .i64 0] 35) ⟨(Below.refl _ _).alloc (Nat.le_refl _) _, BoxAt.new _ _ _⟩ ?_
  rintro W ⟨hB, hz⟩
  refine (l1New_any w.heap.size a0 len cap _ (hc.below hB)).mono ?_
  rintro e w1 ⟨h, rfl, rfl⟩
  go_wp2_with fail
  refine calls_abs (fun W' => Below w.heap.size w W' ∧ BoxAt W' w.heap.size #[.int .i64 0, .bool false, .int .i64 0, .int .i64 0, .int .i64 0, .int .i64 0] 35 ∧ CurAt W' W.heap.size a0 len cap) ⟨hB.alloc hB.size _, hz.alloc _, 0, h, Nat.zero_le _, BoxAt.new _ _ _⟩ ?_
  have hkz : w.heap.size < W.heap.size := hz.lt
  generalize W.heap.size = k at *
  clear hB hz
  rintro W1 ⟨hB, hz, hcur⟩
  have lk := hcur.lt
  refine (l12Draw_any w.heap.size k a0 len cap _ (hc.below hB) (by omega) hB.size hcur).mono ?_
  rintro e w2 ⟨l, A, c, rfl, hl, hW, hB2, hcur2⟩
  have hs := hB.size
  replace hz := hB2.box hz (by omega)
  replace hB := hB.trans (hB2.below (by omega) hB.size)
  go_wp2_with fail
  refine (l11DrawAny_any w.heap.size k a0 len cap _ (hc.below hB) (by omega) hB.size hcur2).mono ?_
  rintro e w3 ⟨x, rfl, hB3, hcur3⟩
  replace hz := hB3.box hz (by omega)
  replace hW := IntsW.butc hW hB3 (by omega) (Nat.le_refl _)
  have hs3 := hB3.size
  replace hB := hB.trans (hB3.below (by omega) hB.size)
  have hz1 := hz.lt
  have kz := hz.cell
  have fz := hz.frozen
  unfold Ev.V
  go_wp2
  refine bodyPost_ret (v := .tuple #[.slice A l.length c, x.V]) (by simp [results, Try.results19, go_sem, kz, Ev.V]) rfl ⟨l, A, c, x, rfl, hl, ?_, ?_⟩
  · exact SlW.mono (((((((hW.st (.inl (by omega)) _ _).st (.inl (by omega)) _ _).st (.inl (by omega)) _ _).st (.inl (by omega)) _ _).st (.inl (by omega)) _ _).st (.inl (by omega)) _ _)) (by omega) (by simp; omega)
  · exact ((((((hB.setCell (Nat.le_refl _) _).setCell (Nat.le_refl _) _).setCell (Nat.le_refl _) _).setCell (Nat.le_refl _) _).setCell (Nat.le_refl _) _).setCell (Nat.le_refl _) _)

end Go.Proofs.Ytkkfpmoniihciaa

/-
  The draw of a store and of any hand.
-/
import Derived.Test.YtbdgkmamieagfaaDrwD
namespace Go.Proofs.Ytbdgkmamieagfaa
set_option linter.unusedSimpArgs false
set_option linter.unusedVariables false
open Go.RowKit
set_option linter.unusedVariables false
attribute [local go_sem] OpUpon
attribute [local go_sem ↓] Go.wp_at_zero Go.wp_at_succ

def daRR (s : St) (hnd : Hd) (N S4 n c : Nat) (A : Option Addr) (j : Nat) (σ : Nat → Value) (w : World) : Prop :=
  match j with
  | 0 => σ 0 = .agg #[.int .i64 s.rd, .int .i64 s.mo, .slice A n c, .int .i64 s.fi, .int .i64 s.la]
  | 1 => σ 1 = .agg #[.int .i64 hnd.at_, .int .i64 hnd.v, .int .i64 hnd.r, .int .i64 hnd.t, .bool hnd.seen.s, .int .i64 hnd.seen.n, .bool hnd.seen.f, .int .i64 hnd.seen.v, .int .i64 hnd.tr, .int .i64 hnd.sp, .bool hnd.ag, .int .i64 hnd.re]
  | 2 => BoxAt w N #[.int .i64 s.rd, .int .i64 s.mo, .slice A n c, .int .i64 s.fi, .int .i64 s.la] 75
  | 3 => BoxAt w (N + 1) #[.int .i64 hnd.at_, .int .i64 hnd.v, .int .i64 hnd.r, .int .i64 hnd.t, .bool hnd.seen.s, .int .i64 hnd.seen.n, .bool hnd.seen.f, .int .i64 hnd.seen.v, .int .i64 hnd.tr, .int .i64 hnd.sp, .bool hnd.ag, .int .i64 hnd.re] 41
  | _ => True

def daRS (j : Nat) : List Nat := [[0], [1], [2], [3]].getD j [j]
def daRK (j : Nat) : Nat := [0, 0, 1, 1].getD j 0

set_option maxRecDepth 100000 in
set_option maxHeartbeats 4000000 in
theorem l5DrawAny_any (K0 k : Nat) (a0 : Option Addr) (len cap : Nat) (w : World) (hc : CodeOk K0 w a0 len) (hkk : K0 ≤ k) (hN0 : K0 ≤ w.heap.size) (hcur : CurAt w k a0 len cap) :
    Calls Try.prog 65 #[.pointer (some ⟨k, 0, none⟩)] w (DrawsSH k a0 len cap w) := by
  have hkN := hcur.lt
  go_enter Try.func65, Try.ntmps65
  go_wp2_with fail
  refine calls_abs (fun W => But k w W ∧ CurAt W k a0 len cap ∧ BoxAt W w.heap.size #[.int .i64 0, .int .i64 0, .slice none 0 0, .int .i64 0, .int .i64 0] 75 ∧ BoxAt W (w.heap.size + 1) #[.int .i64 0, .int .i64 0, .int .i64 0, .int .i64 0, .bool false, .int .i64 0, .bool false, .int .i64 0, .int .i64 0, .int .i64 0, .bool false, .int .i64 0] 41) ⟨((But.refl _ _).alloc _).alloc _, (hcur.alloc _).alloc _, (BoxAt.new _ _ _).alloc _, BoxAt.new' (by simp)⟩ ?_
  clear hcur
  rintro W0 ⟨hB, hcur, hz, hy⟩
  refine (l5Draw_any K0 k a0 len cap _ (hc.below (hB.below hkk hN0)) hkk (Nat.le_trans hN0 hB.size) hcur).mono ?_
  rintro e w1 ⟨s, A, n, c, h, rfl, hso, hG, hb1, hcur1⟩
  have HSO := Lib.hid hso; clear hso
  have ly := hy.lt
  have hs1 := hb1.size
  replace hz := hb1.box hz (by omega)
  replace hy := hb1.box hy (by omega)
  replace hB := hB.trans hb1
  clear hb1 hcur
  unfold stV hdV
  go_wp2_with fail
  refine calls_abs (fun W => But k w W ∧ CurAt W k a0 len cap ∧ BoxAt W w.heap.size #[.int .i64 0, .int .i64 0, .slice none 0 0, .int .i64 0, .int .i64 0] 75 ∧ BoxAt W (w.heap.size + 1) #[.int .i64 0, .int .i64 0, .int .i64 0, .int .i64 0, .bool false, .int .i64 0, .bool false, .int .i64 0, .int .i64 0, .int .i64 0, .bool false, .int .i64 0] 41 ∧ BoxAt W w1.heap.size #[.int .i64 s.rd, .int .i64 s.mo, .slice A n c, .int .i64 s.fi, .int .i64 s.la] 75 ∧ BoxAt W (w1.heap.size + 1) #[.int .i64 h.at_, .int .i64 h.v, .int .i64 h.r, .int .i64 h.t, .bool h.seen.s, .int .i64 h.seen.n, .bool h.seen.f, .int .i64 h.seen.v, .int .i64 h.tr, .int .i64 h.sp, .bool h.ag, .int .i64 h.re] 41 ∧ RgsW (w.heap.size + 2) w1.heap.size W A n c s.rs ∧ w1.heap.size ≤ W.heap.size) ⟨(hB.alloc _).alloc _, (hcur1.alloc _).alloc _, (hz.alloc _).alloc _, (hy.alloc _).alloc _, (BoxAt.new _ _ _).alloc _, BoxAt.new' (by simp), ((hG.mono (by omega) (Nat.le_refl _)).al (Nat.le_refl _) _).al (by simp) _, by simp; omega⟩ ?_
  have hNS : w.heap.size + 2 ≤ w1.heap.size := by omega
  clear hB hcur1 hz hy hG
  generalize w1.heap.size = S4 at *
  rintro W1 ⟨hB, hcur0, hz, hy, hs, hh, hG, hS4⟩
  refine (l1Once_any K0 k a0 len cap _ _ (hc.below (hB.below hkk hN0)) hkk (Nat.le_trans hN0 hB.size) hcur0 (by omega)).mono ?_
  rintro e w2 ⟨x, rfl, hb1, hcur1⟩
  replace hz := hb1.box hz (by omega)
  replace hy := hb1.box hy (by omega)
  replace hs := hb1.box hs (by omega)
  replace hh := hb1.box hh (by omega)
  replace hG := hG.keep (.but hb1 (.inl (by omega)) hS4)
  replace hS4 := Nat.le_trans hS4 hb1.size
  replace hB := hB.trans hb1
  clear hb1 hcur0
  have hcur0 := hcur1
  clear hcur1
  go_upto_if 12 with fail
  go_cut [15] (fun u15 W' => ∃ h : Hd, But k w W' ∧ CurAt W' k a0 len cap ∧ BoxAt W' w.heap.size #[.int .i64 0, .int .i64 0, .slice none 0 0, .int .i64 0, .int .i64 0] 75 ∧ BoxAt W' (w.heap.size + 1) #[.int .i64 0, .int .i64 0, .int .i64 0, .int .i64 0, .bool false, .int .i64 0, .bool false, .int .i64 0, .int .i64 0, .int .i64 0, .bool false, .int .i64 0] 41 ∧ BoxAt W' S4 #[.int .i64 s.rd, .int .i64 s.mo, .slice A n c, .int .i64 s.fi, .int .i64 s.la] 75 ∧ BoxAt W' (S4 + 1) #[.int .i64 h.at_, .int .i64 h.v, .int .i64 h.r, .int .i64 h.t, .bool h.seen.s, .int .i64 h.seen.n, .bool h.seen.f, .int .i64 h.seen.v, .int .i64 h.tr, .int .i64 h.sp, .bool h.ag, .int .i64 h.re] 41 ∧ RgsW (w.heap.size + 2) S4 W' A n c s.rs ∧ S4 ≤ W'.heap.size)
  case first =>
    cases x
    · go_wp2
      go_meet
      exact ⟨h, hB, hcur0, hz, hy, hs, hh, hG, hS4⟩
    · go_wp2_with fail
      refine (l1Below_any K0 k a0 len cap _ _ (hc.below (hB.below hkk hN0)) hkk (Nat.le_trans hN0 hB.size) hcur0 (by omega)).mono ?_
      rintro e w3 ⟨y, ⟨y0, y1⟩, rfl, hb1, hcur1⟩
      replace hz := hb1.box hz (by omega)
      replace hy := hb1.box hy (by omega)
      replace hs := hb1.box hs (by omega)
      replace hh := hb1.box hh (by omega)
      replace hG := hG.keep (.but hb1 (.inl (by omega)) hS4)
      replace hS4 := Nat.le_trans hS4 hb1.size
      replace hB := hB.trans hb1
      clear hb1 hcur0
      have hcur0 := hcur1
      clear hcur1
      have kh := hh.cell
      have fh := hh.frozen
      have hy8 : y = 0 ∨ y = 1 ∨ y = 2 ∨ y = 3 ∨ y = 4 ∨ y = 5 ∨ y = 6 ∨ y = 7 := by omega
      rcases hy8 with rfl | rfl | rfl | rfl | rfl | rfl | rfl | rfl
      · go_wp2_with fail
        refine (l1From_any K0 k a0 len cap _ _ _ (hc.below (hB.below hkk hN0)) hkk (Nat.le_trans hN0 hB.size) hcur0 (by omega) (by omega) (by omega)).mono ?_
        rintro e w4 ⟨v, hv, rfl, hb1, hcur1⟩
        replace hz := hb1.box hz (by omega)
        replace hy := hb1.box hy (by omega)
        replace hs := hb1.box hs (by omega)
        replace hh := hb1.box hh (by omega)
        replace hG := hG.keep (.but hb1 (.inl (by omega)) hS4)
        replace hS4 := Nat.le_trans hS4 hb1.size
        replace hB := hB.trans hb1
        clear hb1 hcur0
        clear kh fh
        have hcur0 := hcur1
        have kh := hh.cell
        have fh := hh.frozen
        go_wp2
        go_meet
        exact ⟨{ h with at_ := v }, hB.setNew (by omega) _ _, hcur0.set_ne (by omega) _ _, hz.set_ne (by omega) _ _, hy.set_ne (by omega) _ _, hs.set_ne (by omega) _ _, by simpa using hh.set 0 (.int .i64 (v)), hG.st (.inr (by omega)) _ _, by simpa using hS4⟩
      · go_wp2_with fail
        have hL3 := hS4
        refine calls_abs (fun W => But k w W ∧ CurAt W k a0 len cap ∧ BoxAt W w.heap.size #[.int .i64 0, .int .i64 0, .slice none 0 0, .int .i64 0, .int .i64 0] 75 ∧ BoxAt W (w.heap.size + 1) #[.int .i64 0, .int .i64 0, .int .i64 0, .int .i64 0, .bool false, .int .i64 0, .bool false, .int .i64 0, .int .i64 0, .int .i64 0, .bool false, .int .i64 0] 41 ∧ BoxAt W S4 #[.int .i64 s.rd, .int .i64 s.mo, .slice A n c, .int .i64 s.fi, .int .i64 s.la] 75 ∧ BoxAt W (S4 + 1) #[.int .i64 h.at_, .int .i64 h.v, .int .i64 h.r, .int .i64 h.t, .bool h.seen.s, .int .i64 h.seen.n, .bool h.seen.f, .int .i64 h.seen.v, .int .i64 h.tr, .int .i64 h.sp, .bool h.ag, .int .i64 h.re] 41 ∧ RgsW (w.heap.size + 2) S4 W A n c s.rs ∧ BoxAt W w3.heap.size #[.int .i64 (-1), .int .i64 (0), .int .i64 (1000000), .int .i64 (1000001)] 2 ∧ S4 ≤ W.heap.size) ⟨hB.alloc _, hcur0.alloc _, hz.alloc _, hy.alloc _, hs.alloc _, hh.alloc _, hG.al hS4 _, BoxAt.new _ _ _, by simp; omega⟩ ?_
        have hl3 := hh.lt
        have hk3 := hcur0.lt
        clear hB hcur0 hz hy hs hh hG kh fh hS4
        rintro W4 ⟨hB, hcur0, hz, hy, hs, hh, hG, hlit, hS4⟩
        refine (l1Below_any K0 k a0 len cap _ _ (hc.below (hB.below hkk hN0)) hkk (Nat.le_trans hN0 hB.size) hcur0 (by omega)).mono ?_
        rintro e w4 ⟨u, ⟨u0, u1⟩, rfl, hb1, hcur1⟩
        replace hlit := hb1.box hlit (by omega)
        replace hz := hb1.box hz (by omega)
        replace hy := hb1.box hy (by omega)
        replace hs := hb1.box hs (by omega)
        replace hh := hb1.box hh (by omega)
        replace hG := hG.keep (.but hb1 (.inl (by omega)) hS4)
        replace hS4 := Nat.le_trans hS4 hb1.size
        replace hB := hB.trans hb1
        clear hb1 hcur0
        have hcur0 := hcur1
        have kh := hh.cell
        have fh := hh.frozen
        have kl := hlit.cell
        have hu : u = 0 ∨ u = 1 ∨ u = 2 ∨ u = 3 := by omega
        rcases hu with rfl | rfl | rfl | rfl
        · go_wp2
          go_meet
          exact ⟨{ h with v := (-1) }, hB.setNew (by omega) _ _, hcur0.set_ne (by omega) _ _, hz.set_ne (by omega) _ _, hy.set_ne (by omega) _ _, hs.set_ne (by omega) _ _, by simpa using hh.set 1 (.int .i64 ((-1))), hG.st (.inr (by omega)) _ _, by simpa using hS4⟩
        · go_wp2
          go_meet
          exact ⟨{ h with v := 0 }, hB.setNew (by omega) _ _, hcur0.set_ne (by omega) _ _, hz.set_ne (by omega) _ _, hy.set_ne (by omega) _ _, hs.set_ne (by omega) _ _, by simpa using hh.set 1 (.int .i64 (0)), hG.st (.inr (by omega)) _ _, by simpa using hS4⟩
        · go_wp2
          go_meet
          exact ⟨{ h with v := 1000000 }, hB.setNew (by omega) _ _, hcur0.set_ne (by omega) _ _, hz.set_ne (by omega) _ _, hy.set_ne (by omega) _ _, hs.set_ne (by omega) _ _, by simpa using hh.set 1 (.int .i64 (1000000)), hG.st (.inr (by omega)) _ _, by simpa using hS4⟩
        · go_wp2
          go_meet
          exact ⟨{ h with v := 1000001 }, hB.setNew (by omega) _ _, hcur0.set_ne (by omega) _ _, hz.set_ne (by omega) _ _, hy.set_ne (by omega) _ _, hs.set_ne (by omega) _ _, by simpa using hh.set 1 (.int .i64 (1000001)), hG.st (.inr (by omega)) _ _, by simpa using hS4⟩
      · go_wp2_with fail
        refine (l1From_any K0 k a0 len cap _ _ _ (hc.below (hB.below hkk hN0)) hkk (Nat.le_trans hN0 hB.size) hcur0 (by omega) (by omega) (by omega)).mono ?_
        rintro e w4 ⟨v, hv, rfl, hb1, hcur1⟩
        replace hz := hb1.box hz (by omega)
        replace hy := hb1.box hy (by omega)
        replace hs := hb1.box hs (by omega)
        replace hh := hb1.box hh (by omega)
        replace hG := hG.keep (.but hb1 (.inl (by omega)) hS4)
        replace hS4 := Nat.le_trans hS4 hb1.size
        replace hB := hB.trans hb1
        clear hb1 hcur0
        clear kh fh
        have hcur0 := hcur1
        have kh := hh.cell
        have fh := hh.frozen
        go_wp2
        go_meet
        exact ⟨{ h with r := v }, hB.setNew (by omega) _ _, hcur0.set_ne (by omega) _ _, hz.set_ne (by omega) _ _, hy.set_ne (by omega) _ _, hs.set_ne (by omega) _ _, by simpa using hh.set 2 (.int .i64 (v)), hG.st (.inr (by omega)) _ _, by simpa using hS4⟩
      · go_wp2_with fail
        have hL3 := hS4
        refine calls_abs (fun W => But k w W ∧ CurAt W k a0 len cap ∧ BoxAt W w.heap.size #[.int .i64 0, .int .i64 0, .slice none 0 0, .int .i64 0, .int .i64 0] 75 ∧ BoxAt W (w.heap.size + 1) #[.int .i64 0, .int .i64 0, .int .i64 0, .int .i64 0, .bool false, .int .i64 0, .bool false, .int .i64 0, .int .i64 0, .int .i64 0, .bool false, .int .i64 0] 41 ∧ BoxAt W S4 #[.int .i64 s.rd, .int .i64 s.mo, .slice A n c, .int .i64 s.fi, .int .i64 s.la] 75 ∧ BoxAt W (S4 + 1) #[.int .i64 h.at_, .int .i64 h.v, .int .i64 h.r, .int .i64 h.t, .bool h.seen.s, .int .i64 h.seen.n, .bool h.seen.f, .int .i64 h.seen.v, .int .i64 h.tr, .int .i64 h.sp, .bool h.ag, .int .i64 h.re] 41 ∧ RgsW (w.heap.size + 2) S4 W A n c s.rs ∧ BoxAt W w3.heap.size #[.int .i64 (-1), .int .i64 (0), .int .i64 (1000000), .int .i64 (1000001)] 2 ∧ S4 ≤ W.heap.size) ⟨hB.alloc _, hcur0.alloc _, hz.alloc _, hy.alloc _, hs.alloc _, hh.alloc _, hG.al hS4 _, BoxAt.new _ _ _, by simp; omega⟩ ?_
        have hl3 := hh.lt
        have hk3 := hcur0.lt
        clear hB hcur0 hz hy hs hh hG kh fh hS4
        rintro W4 ⟨hB, hcur0, hz, hy, hs, hh, hG, hlit, hS4⟩
        refine (l1Below_any K0 k a0 len cap _ _ (hc.below (hB.below hkk hN0)) hkk (Nat.le_trans hN0 hB.size) hcur0 (by omega)).mono ?_
        rintro e w4 ⟨u, ⟨u0, u1⟩, rfl, hb1, hcur1⟩
        replace hlit := hb1.box hlit (by omega)
        replace hz := hb1.box hz (by omega)
        replace hy := hb1.box hy (by omega)
        replace hs := hb1.box hs (by omega)
        replace hh := hb1.box hh (by omega)
        replace hG := hG.keep (.but hb1 (.inl (by omega)) hS4)
        replace hS4 := Nat.le_trans hS4 hb1.size
        replace hB := hB.trans hb1
        clear hb1 hcur0
        have hcur0 := hcur1
        have kh := hh.cell
        have fh := hh.frozen
        have kl := hlit.cell
        have hu : u = 0 ∨ u = 1 ∨ u = 2 ∨ u = 3 := by omega
        rcases hu with rfl | rfl | rfl | rfl
        · go_wp2
          go_meet
          exact ⟨{ h with t := (-1) }, hB.setNew (by omega) _ _, hcur0.set_ne (by omega) _ _, hz.set_ne (by omega) _ _, hy.set_ne (by omega) _ _, hs.set_ne (by omega) _ _, by simpa using hh.set 3 (.int .i64 ((-1))), hG.st (.inr (by omega)) _ _, by simpa using hS4⟩
        · go_wp2
          go_meet
          exact ⟨{ h with t := 0 }, hB.setNew (by omega) _ _, hcur0.set_ne (by omega) _ _, hz.set_ne (by omega) _ _, hy.set_ne (by omega) _ _, hs.set_ne (by omega) _ _, by simpa using hh.set 3 (.int .i64 (0)), hG.st (.inr (by omega)) _ _, by simpa using hS4⟩
        · go_wp2
          go_meet
          exact ⟨{ h with t := 1000000 }, hB.setNew (by omega) _ _, hcur0.set_ne (by omega) _ _, hz.set_ne (by omega) _ _, hy.set_ne (by omega) _ _, hs.set_ne (by omega) _ _, by simpa using hh.set 3 (.int .i64 (1000000)), hG.st (.inr (by omega)) _ _, by simpa using hS4⟩
        · go_wp2
          go_meet
          exact ⟨{ h with t := 1000001 }, hB.setNew (by omega) _ _, hcur0.set_ne (by omega) _ _, hz.set_ne (by omega) _ _, hy.set_ne (by omega) _ _, hs.set_ne (by omega) _ _, by simpa using hh.set 3 (.int .i64 (1000001)), hG.st (.inr (by omega)) _ _, by simpa using hS4⟩
      · go_wp2_with fail
        refine (l1DrawAny_any K0 k a0 len cap _ (hc.below (hB.below hkk hN0)) hkk (Nat.le_trans hN0 hB.size) hcur0).mono ?_
        rintro e w4 ⟨p1, p3, p2, p4, rfl, hb1, hcur1⟩
        replace hz := hb1.box hz (by omega)
        replace hy := hb1.box hy (by omega)
        replace hs := hb1.box hs (by omega)
        replace hh := hb1.box hh (by omega)
        replace hG := hG.keep (.but hb1 (.inl (by omega)) hS4)
        replace hS4 := Nat.le_trans hS4 hb1.size
        replace hB := hB.trans hb1
        clear hb1 hcur0
        clear kh fh
        have hcur0 := hcur1
        have kh := hh.cell
        have fh := hh.frozen
        go_wp2
        go_meet
        exact ⟨{ h with seen := ⟨p1, p2, p3, p4⟩ }, (((hB.setNew (by omega) _ _).setNew (by omega) _ _).setNew (by omega) _ _).setNew (by omega) _ _, (((hcur0.set_ne (by omega) _ _).set_ne (by omega) _ _).set_ne (by omega) _ _).set_ne (by omega) _ _, (((hz.set_ne (by omega) _ _).set_ne (by omega) _ _).set_ne (by omega) _ _).set_ne (by omega) _ _, (((hy.set_ne (by omega) _ _).set_ne (by omega) _ _).set_ne (by omega) _ _).set_ne (by omega) _ _, (((hs.set_ne (by omega) _ _).set_ne (by omega) _ _).set_ne (by omega) _ _).set_ne (by omega) _ _, by simpa using (((hh.set 4 (.bool p1)).set 5 (.int .i64 p2)).set 6 (.bool p3)).set 7 (.int .i64 p4), (((hG.st (.inr (by omega)) _ _).st (.inr (by omega)) _ _).st (.inr (by omega)) _ _).st (.inr (by omega)) _ _, by simpa using hS4⟩
      · go_wp2_with fail
        have hL3 := hS4
        refine calls_abs (fun W => But k w W ∧ CurAt W k a0 len cap ∧ BoxAt W w.heap.size #[.int .i64 0, .int .i64 0, .slice none 0 0, .int .i64 0, .int .i64 0] 75 ∧ BoxAt W (w.heap.size + 1) #[.int .i64 0, .int .i64 0, .int .i64 0, .int .i64 0, .bool false, .int .i64 0, .bool false, .int .i64 0, .int .i64 0, .int .i64 0, .bool false, .int .i64 0] 41 ∧ BoxAt W S4 #[.int .i64 s.rd, .int .i64 s.mo, .slice A n c, .int .i64 s.fi, .int .i64 s.la] 75 ∧ BoxAt W (S4 + 1) #[.int .i64 h.at_, .int .i64 h.v, .int .i64 h.r, .int .i64 h.t, .bool h.seen.s, .int .i64 h.seen.n, .bool h.seen.f, .int .i64 h.seen.v, .int .i64 h.tr, .int .i64 h.sp, .bool h.ag, .int .i64 h.re] 41 ∧ RgsW (w.heap.size + 2) S4 W A n c s.rs ∧ BoxAt W w3.heap.size #[.int .i64 (-1), .int .i64 (3), .int .i64 (1000000), .int .i64 (1000001)] 2 ∧ S4 ≤ W.heap.size) ⟨hB.alloc _, hcur0.alloc _, hz.alloc _, hy.alloc _, hs.alloc _, hh.alloc _, hG.al hS4 _, BoxAt.new _ _ _, by simp; omega⟩ ?_
        have hl3 := hh.lt
        have hk3 := hcur0.lt
        clear hB hcur0 hz hy hs hh hG kh fh hS4
        rintro W4 ⟨hB, hcur0, hz, hy, hs, hh, hG, hlit, hS4⟩
        refine (l1Below_any K0 k a0 len cap _ _ (hc.below (hB.below hkk hN0)) hkk (Nat.le_trans hN0 hB.size) hcur0 (by omega)).mono ?_
        rintro e w4 ⟨u, ⟨u0, u1⟩, rfl, hb1, hcur1⟩
        replace hlit := hb1.box hlit (by omega)
        replace hz := hb1.box hz (by omega)
        replace hy := hb1.box hy (by omega)
        replace hs := hb1.box hs (by omega)
        replace hh := hb1.box hh (by omega)
        replace hG := hG.keep (.but hb1 (.inl (by omega)) hS4)
        replace hS4 := Nat.le_trans hS4 hb1.size
        replace hB := hB.trans hb1
        clear hb1 hcur0
        have hcur0 := hcur1
        have kh := hh.cell
        have fh := hh.frozen
        have kl := hlit.cell
        have hu : u = 0 ∨ u = 1 ∨ u = 2 ∨ u = 3 := by omega
        rcases hu with rfl | rfl | rfl | rfl
        · go_wp2
          go_meet
          exact ⟨{ h with tr := (-1) }, hB.setNew (by omega) _ _, hcur0.set_ne (by omega) _ _, hz.set_ne (by omega) _ _, hy.set_ne (by omega) _ _, hs.set_ne (by omega) _ _, by simpa using hh.set 8 (.int .i64 ((-1))), hG.st (.inr (by omega)) _ _, by simpa using hS4⟩
        · go_wp2
          go_meet
          exact ⟨{ h with tr := 3 }, hB.setNew (by omega) _ _, hcur0.set_ne (by omega) _ _, hz.set_ne (by omega) _ _, hy.set_ne (by omega) _ _, hs.set_ne (by omega) _ _, by simpa using hh.set 8 (.int .i64 (3)), hG.st (.inr (by omega)) _ _, by simpa using hS4⟩
        · go_wp2
          go_meet
          exact ⟨{ h with tr := 1000000 }, hB.setNew (by omega) _ _, hcur0.set_ne (by omega) _ _, hz.set_ne (by omega) _ _, hy.set_ne (by omega) _ _, hs.set_ne (by omega) _ _, by simpa using hh.set 8 (.int .i64 (1000000)), hG.st (.inr (by omega)) _ _, by simpa using hS4⟩
        · go_wp2
          go_meet
          exact ⟨{ h with tr := 1000001 }, hB.setNew (by omega) _ _, hcur0.set_ne (by omega) _ _, hz.set_ne (by omega) _ _, hy.set_ne (by omega) _ _, hs.set_ne (by omega) _ _, by simpa using hh.set 8 (.int .i64 (1000001)), hG.st (.inr (by omega)) _ _, by simpa using hS4⟩
      · go_wp2_with fail
        refine (l1From_any K0 k a0 len cap _ _ _ (hc.below (hB.below hkk hN0)) hkk (Nat.le_trans hN0 hB.size) hcur0 (by omega) (by omega) (by omega)).mono ?_
        rintro e w4 ⟨v, hv, rfl, hb1, hcur1⟩
        replace hz := hb1.box hz (by omega)
        replace hy := hb1.box hy (by omega)
        replace hs := hb1.box hs (by omega)
        replace hh := hb1.box hh (by omega)
        replace hG := hG.keep (.but hb1 (.inl (by omega)) hS4)
        replace hS4 := Nat.le_trans hS4 hb1.size
        replace hB := hB.trans hb1
        clear hb1 hcur0
        clear kh fh
        have hcur0 := hcur1
        have kh := hh.cell
        have fh := hh.frozen
        go_wp2
        go_meet
        exact ⟨{ h with sp := v }, hB.setNew (by omega) _ _, hcur0.set_ne (by omega) _ _, hz.set_ne (by omega) _ _, hy.set_ne (by omega) _ _, hs.set_ne (by omega) _ _, by simpa using hh.set 9 (.int .i64 (v)), hG.st (.inr (by omega)) _ _, by simpa using hS4⟩
      · go_wp2_with fail
        refine (l1From_any K0 k a0 len cap _ _ _ (hc.below (hB.below hkk hN0)) hkk (Nat.le_trans hN0 hB.size) hcur0 (by omega) (by omega) (by omega)).mono ?_
        rintro e w4 ⟨v, hv, rfl, hb1, hcur1⟩
        replace hz := hb1.box hz (by omega)
        replace hy := hb1.box hy (by omega)
        replace hs := hb1.box hs (by omega)
        replace hh := hb1.box hh (by omega)
        replace hG := hG.keep (.but hb1 (.inl (by omega)) hS4)
        replace hS4 := Nat.le_trans hS4 hb1.size
        replace hB := hB.trans hb1
        clear hb1 hcur0
        clear kh fh
        have hcur0 := hcur1
        have kh := hh.cell
        have fh := hh.frozen
        go_wp2
        go_meet
        exact ⟨{ h with re := v }, hB.setNew (by omega) _ _, hcur0.set_ne (by omega) _ _, hz.set_ne (by omega) _ _, hy.set_ne (by omega) _ _, hs.set_ne (by omega) _ _, by simpa using hh.set 11 (.int .i64 (v)), hG.st (.inr (by omega)) _ _, by simpa using hS4⟩
  case rest =>
    clear hB hcur0 hz hy hs hh hG hS4
    obtain ⟨hnd, hB, hcur, hz, hy, hs, hh, hG, hS4⟩ := hcut
    go_upto_region 20 with fail
    refine wp_region2 (fun w w' => Below w.heap.size w w') (fun _ _ h => h.size) (fun L W' => But k w W' ∧ CurAt W' k a0 len cap ∧ BoxAt W' S4 #[.int .i64 s.rd, .int .i64 s.mo, .slice A n c, .int .i64 s.fi, .int .i64 s.la] 75 ∧ BoxAt W' (S4 + 1) #[.int .i64 hnd.at_, .int .i64 hnd.v, .int .i64 hnd.r, .int .i64 hnd.t, .bool hnd.seen.s, .int .i64 hnd.seen.n, .bool hnd.seen.f, .int .i64 hnd.seen.v, .int .i64 hnd.tr, .int .i64 hnd.sp, .bool hnd.ag, .int .i64 hnd.re] 41 ∧ RgsW (w.heap.size + 2) S4 W' A n c s.rs ∧ (∃ x0 x1 x2 x3 x4, BoxAt W' w.heap.size #[x0, x1, x2, x3, x4] 75) ∧ (L 2 = false → BoxAt W' w.heap.size #[.int .i64 0, .int .i64 0, .slice none 0 0, .int .i64 0, .int .i64 0] 75) ∧ (∃ x0 x1 x2 x3 x4 x5 x6 x7 x8 x9 x10 x11, BoxAt W' (w.heap.size + 1) #[x0, x1, x2, x3, x4, x5, x6, x7, x8, x9, x10, x11] 41) ∧ (L 3 = false → BoxAt W' (w.heap.size + 1) #[.int .i64 0, .int .i64 0, .int .i64 0, .int .i64 0, .bool false, .int .i64 0, .bool false, .int .i64 0, .int .i64 0, .int .i64 0, .bool false, .int .i64 0] 41)) (daRR s hnd w.heap.size S4 n c A) daRK daRS (by kernel_rfl) (by kernel_rfl) ?_ ?_ ?_
      (.grow rfl ?_ <| .grow rfl ?_ <| .store rfl ?_ <| .store rfl ?_ <| .nil) ?_
    · intro j σ τ w h hR
      match j, h, hR with
      | 0, h, hR => exact (h 0 (List.mem_singleton.2 rfl)).symm.trans hR
      | 1, h, hR => exact (h 1 (List.mem_singleton.2 rfl)).symm.trans hR
      | 2, _, hR => exact hR
      | 3, _, hR => exact hR
      | _ + 4, _, _ => exact trivial
    · intro j σ w w' hb hR
      match j, hR with
      | 0, hR => exact hR
      | 1, hR => exact hR
      | 2, hR => exact hR.below hb hR.lt
      | 3, hR => exact hR.below hb hR.lt
      | _ + 4, _ => exact trivial
    · exact ⟨hB.drew, hcur, hs, hh, hG, ⟨_, _, _, _, _, hz⟩, fun _ => hz, ⟨_, _, _, _, _, _, _, _, _, _, _, _, hy⟩, fun _ => hy⟩
    · -- 0: Op.load 75 t4
      go_light
      intro L σ W' hcl hL hC hw
      clear hw
      have HC := Lib.hid hC
      obtain ⟨hB, hcur, hs, hh, hG, ⟨hz_x0, hz_x1, hz_x2, hz_x3, hz_x4, hz⟩, hz_o, ⟨hy_x0, hy_x1, hy_x2, hy_x3, hy_x4, hy_x5, hy_x6, hy_x7, hy_x8, hy_x9, hy_x10, hy_x11, hy⟩, hy_o⟩ := hC
      have ks := hs.cell
      clear hcl hL
      clear hB hcur hs hh hG hz hz_o hy hy_o
      refine OpGoes.step fun K hK => ?_
      unfold OpGoes
      go_simp
      obtain ⟨hB, hcur, hs, hh, hG, ⟨hz_x0, hz_x1, hz_x2, hz_x3, hz_x4, hz⟩, hz_o, ⟨hy_x0, hy_x1, hy_x2, hy_x3, hy_x4, hy_x5, hy_x6, hy_x7, hy_x8, hy_x9, hy_x10, hy_x11, hy⟩, hy_o⟩ := HC.out
      exact hK _ _ ⟨⟨hB, hcur, hs, hh, hG, ⟨_, _, _, _, _, hz⟩, fun h => hz_o (by simpa [upd] using h), ⟨_, _, _, _, _, _, _, _, _, _, _, _, hy⟩, fun h => hy_o (by simpa [upd] using h)⟩, rfl, Below.refl _ _⟩
    · -- 1: Op.load 41 t5
      go_light
      intro L σ W' hcl hL hC hw
      clear hw
      have HC := Lib.hid hC
      obtain ⟨hB, hcur, hs, hh, hG, ⟨hz_x0, hz_x1, hz_x2, hz_x3, hz_x4, hz⟩, hz_o, ⟨hy_x0, hy_x1, hy_x2, hy_x3, hy_x4, hy_x5, hy_x6, hy_x7, hy_x8, hy_x9, hy_x10, hy_x11, hy⟩, hy_o⟩ := hC
      have kh := hh.cell
      clear hcl hL
      clear hB hcur hs hh hG hz hz_o hy hy_o
      refine OpGoes.step fun K hK => ?_
      unfold OpGoes
      go_simp
      obtain ⟨hB, hcur, hs, hh, hG, ⟨hz_x0, hz_x1, hz_x2, hz_x3, hz_x4, hz⟩, hz_o, ⟨hy_x0, hy_x1, hy_x2, hy_x3, hy_x4, hy_x5, hy_x6, hy_x7, hy_x8, hy_x9, hy_x10, hy_x11, hy⟩, hy_o⟩ := HC.out
      exact hK _ _ ⟨⟨hB, hcur, hs, hh, hG, ⟨_, _, _, _, _, hz⟩, fun h => hz_o (by simpa [upd] using h), ⟨_, _, _, _, _, _, _, _, _, _, _, _, hy⟩, fun h => hy_o (by simpa [upd] using h)⟩, rfl, Below.refl _ _⟩
    · -- 2: Op.store 75 t2 t64
      go_light
      intro L σ W' hcl hL hC hw hne
      have e0 : σ 0 = .agg #[.int .i64 s.rd, .int .i64 s.mo, .slice A n c, .int .i64 s.fi, .int .i64 s.la] := hw 0 (by kernel_rfl)
      clear hw hne
      have HC := Lib.hid hC
      obtain ⟨hB, hcur, hs, hh, hG, ⟨hz_x0, hz_x1, hz_x2, hz_x3, hz_x4, hz⟩, hz_o, ⟨hy_x0, hy_x1, hy_x2, hy_x3, hy_x4, hy_x5, hy_x6, hy_x7, hy_x8, hy_x9, hy_x10, hy_x11, hy⟩, hy_o⟩ := hC
      clear hcl hL
      have kc_ := hz.cell
      have kf_ := hz.frozen
      clear hB hcur hs hh hG hz hz_o hy hy_o
      refine OpGoes.step fun K hK => ?_
      unfold OpGoes
      go_simp
      obtain ⟨hB, hcur, hs, hh, hG, ⟨hz_x0, hz_x1, hz_x2, hz_x3, hz_x4, hz⟩, hz_o, ⟨hy_x0, hy_x1, hy_x2, hy_x3, hy_x4, hy_x5, hy_x6, hy_x7, hy_x8, hy_x9, hy_x10, hy_x11, hy⟩, hy_o⟩ := HC.out
      have hset := sets_all (us := [.int .i64 s.rd, .int .i64 s.mo, .slice A n c, .int .i64 s.fi, .int .i64 s.la]) hz rfl
      refine hK undef (setCells W' w.heap.size 0 [.int .i64 s.rd, .int .i64 s.mo, .slice A n c, .int .i64 s.fi, .int .i64 s.la]) ⟨⟨(But.setsNew hB (by omega) [.int .i64 s.rd, .int .i64 s.mo, .slice A n c, .int .i64 s.fi, .int .i64 s.la] 0), (CurAt.sets hcur (by omega) [.int .i64 s.rd, .int .i64 s.mo, .slice A n c, .int .i64 s.fi, .int .i64 s.la] 0), (BoxAt.sets_ne [.int .i64 s.rd, .int .i64 s.mo, .slice A n c, .int .i64 s.fi, .int .i64 s.la] 0 hs (by omega)), (BoxAt.sets_ne [.int .i64 s.rd, .int .i64 s.mo, .slice A n c, .int .i64 s.fi, .int .i64 s.la] 0 hh (by omega)), (RgsW.sts hG (by omega) [.int .i64 s.rd, .int .i64 s.mo, .slice A n c, .int .i64 s.fi, .int .i64 s.la] 0), ⟨_, _, _, _, _, hset⟩, fun h => absurd h (by simp [upd]), ⟨_, _, _, _, _, _, _, _, _, _, _, _, (BoxAt.sets_ne [.int .i64 s.rd, .int .i64 s.mo, .slice A n c, .int .i64 s.fi, .int .i64 s.la] 0 hy (by omega))⟩, fun h => (BoxAt.sets_ne [.int .i64 s.rd, .int .i64 s.mo, .slice A n c, .int .i64 s.fi, .int .i64 s.la] 0 (hy_o (by simpa [upd] using h)) (by omega))⟩, hset, Nat.le_of_eq (sets_size _ _ _).symm, fun j hj hn hR => ?_⟩
      match j, hj, hn, hR with
      | 0, _, _, hR => exact (show σ 0 = .agg #[.int .i64 s.rd, .int .i64 s.mo, .slice A n c, .int .i64 s.fi, .int .i64 s.la] from hR)
      | 1, _, _, hR => exact (show σ 1 = .agg #[.int .i64 hnd.at_, .int .i64 hnd.v, .int .i64 hnd.r, .int .i64 hnd.t, .bool hnd.seen.s, .int .i64 hnd.seen.n, .bool hnd.seen.f, .int .i64 hnd.seen.v, .int .i64 hnd.tr, .int .i64 hnd.sp, .bool hnd.ag, .int .i64 hnd.re] from hR)
      | 2, hj, _, _ => exact absurd rfl hj
      | 3, _, _, hR => exact (BoxAt.sets_ne [.int .i64 s.rd, .int .i64 s.mo, .slice A n c, .int .i64 s.fi, .int .i64 s.la] 0 hR (by omega))
      | _ + 4, _, _, _ => exact trivial
    · -- 3: Op.store 41 t3 t65
      go_light
      intro L σ W' hcl hL hC hw hne
      have e1 : σ 1 = .agg #[.int .i64 hnd.at_, .int .i64 hnd.v, .int .i64 hnd.r, .int .i64 hnd.t, .bool hnd.seen.s, .int .i64 hnd.seen.n, .bool hnd.seen.f, .int .i64 hnd.seen.v, .int .i64 hnd.tr, .int .i64 hnd.sp, .bool hnd.ag, .int .i64 hnd.re] := hw 1 (by kernel_rfl)
      clear hw hne
      have HC := Lib.hid hC
      obtain ⟨hB, hcur, hs, hh, hG, ⟨hz_x0, hz_x1, hz_x2, hz_x3, hz_x4, hz⟩, hz_o, ⟨hy_x0, hy_x1, hy_x2, hy_x3, hy_x4, hy_x5, hy_x6, hy_x7, hy_x8, hy_x9, hy_x10, hy_x11, hy⟩, hy_o⟩ := hC
      clear hcl hL
      have kc_ := hy.cell
      have kf_ := hy.frozen
      clear hB hcur hs hh hG hz hz_o hy hy_o
      refine OpGoes.step fun K hK => ?_
      unfold OpGoes
      go_simp
      obtain ⟨hB, hcur, hs, hh, hG, ⟨hz_x0, hz_x1, hz_x2, hz_x3, hz_x4, hz⟩, hz_o, ⟨hy_x0, hy_x1, hy_x2, hy_x3, hy_x4, hy_x5, hy_x6, hy_x7, hy_x8, hy_x9, hy_x10, hy_x11, hy⟩, hy_o⟩ := HC.out
      have hset := sets_all (us := [.int .i64 hnd.at_, .int .i64 hnd.v, .int .i64 hnd.r, .int .i64 hnd.t, .bool hnd.seen.s, .int .i64 hnd.seen.n, .bool hnd.seen.f, .int .i64 hnd.seen.v, .int .i64 hnd.tr, .int .i64 hnd.sp, .bool hnd.ag, .int .i64 hnd.re]) hy rfl
      refine hK undef (setCells W' (w.heap.size + 1) 0 [.int .i64 hnd.at_, .int .i64 hnd.v, .int .i64 hnd.r, .int .i64 hnd.t, .bool hnd.seen.s, .int .i64 hnd.seen.n, .bool hnd.seen.f, .int .i64 hnd.seen.v, .int .i64 hnd.tr, .int .i64 hnd.sp, .bool hnd.ag, .int .i64 hnd.re]) ⟨⟨(But.setsNew hB (by omega) [.int .i64 hnd.at_, .int .i64 hnd.v, .int .i64 hnd.r, .int .i64 hnd.t, .bool hnd.seen.s, .int .i64 hnd.seen.n, .bool hnd.seen.f, .int .i64 hnd.seen.v, .int .i64 hnd.tr, .int .i64 hnd.sp, .bool hnd.ag, .int .i64 hnd.re] 0), (CurAt.sets hcur (by omega) [.int .i64 hnd.at_, .int .i64 hnd.v, .int .i64 hnd.r, .int .i64 hnd.t, .bool hnd.seen.s, .int .i64 hnd.seen.n, .bool hnd.seen.f, .int .i64 hnd.seen.v, .int .i64 hnd.tr, .int .i64 hnd.sp, .bool hnd.ag, .int .i64 hnd.re] 0), (BoxAt.sets_ne [.int .i64 hnd.at_, .int .i64 hnd.v, .int .i64 hnd.r, .int .i64 hnd.t, .bool hnd.seen.s, .int .i64 hnd.seen.n, .bool hnd.seen.f, .int .i64 hnd.seen.v, .int .i64 hnd.tr, .int .i64 hnd.sp, .bool hnd.ag, .int .i64 hnd.re] 0 hs (by omega)), (BoxAt.sets_ne [.int .i64 hnd.at_, .int .i64 hnd.v, .int .i64 hnd.r, .int .i64 hnd.t, .bool hnd.seen.s, .int .i64 hnd.seen.n, .bool hnd.seen.f, .int .i64 hnd.seen.v, .int .i64 hnd.tr, .int .i64 hnd.sp, .bool hnd.ag, .int .i64 hnd.re] 0 hh (by omega)), (RgsW.sts hG (by omega) [.int .i64 hnd.at_, .int .i64 hnd.v, .int .i64 hnd.r, .int .i64 hnd.t, .bool hnd.seen.s, .int .i64 hnd.seen.n, .bool hnd.seen.f, .int .i64 hnd.seen.v, .int .i64 hnd.tr, .int .i64 hnd.sp, .bool hnd.ag, .int .i64 hnd.re] 0), ⟨_, _, _, _, _, (BoxAt.sets_ne [.int .i64 hnd.at_, .int .i64 hnd.v, .int .i64 hnd.r, .int .i64 hnd.t, .bool hnd.seen.s, .int .i64 hnd.seen.n, .bool hnd.seen.f, .int .i64 hnd.seen.v, .int .i64 hnd.tr, .int .i64 hnd.sp, .bool hnd.ag, .int .i64 hnd.re] 0 hz (by omega))⟩, fun h => (BoxAt.sets_ne [.int .i64 hnd.at_, .int .i64 hnd.v, .int .i64 hnd.r, .int .i64 hnd.t, .bool hnd.seen.s, .int .i64 hnd.seen.n, .bool hnd.seen.f, .int .i64 hnd.seen.v, .int .i64 hnd.tr, .int .i64 hnd.sp, .bool hnd.ag, .int .i64 hnd.re] 0 (hz_o (by simpa [upd] using h)) (by omega)), ⟨_, _, _, _, _, _, _, _, _, _, _, _, hset⟩, fun h => absurd h (by simp [upd])⟩, hset, Nat.le_of_eq (sets_size _ _ _).symm, fun j hj hn hR => ?_⟩
      match j, hj, hn, hR with
      | 0, _, _, hR => exact (show σ 0 = .agg #[.int .i64 s.rd, .int .i64 s.mo, .slice A n c, .int .i64 s.fi, .int .i64 s.la] from hR)
      | 1, _, _, hR => exact (show σ 1 = .agg #[.int .i64 hnd.at_, .int .i64 hnd.v, .int .i64 hnd.r, .int .i64 hnd.t, .bool hnd.seen.s, .int .i64 hnd.seen.n, .bool hnd.seen.f, .int .i64 hnd.seen.v, .int .i64 hnd.tr, .int .i64 hnd.sp, .bool hnd.ag, .int .i64 hnd.re] from hR)
      | 2, _, _, hR => exact (BoxAt.sets_ne [.int .i64 hnd.at_, .int .i64 hnd.v, .int .i64 hnd.r, .int .i64 hnd.t, .bool hnd.seen.s, .int .i64 hnd.seen.n, .bool hnd.seen.f, .int .i64 hnd.seen.v, .int .i64 hnd.tr, .int .i64 hnd.sp, .bool hnd.ag, .int .i64 hnd.re] 0 hR (by omega))
      | 3, hj, _, _ => exact absurd rfl hj
      | _ + 4, _, _, _ => exact trivial
    · intro σ L W' hall hC hR
      obtain ⟨hB, hcur, hs, hh, hG, ⟨hz_x0, hz_x1, hz_x2, hz_x3, hz_x4, hz⟩, hz_o, ⟨hy_x0, hy_x1, hy_x2, hy_x3, hy_x4, hy_x5, hy_x6, hy_x7, hy_x8, hy_x9, hy_x10, hy_x11, hy⟩, hy_o⟩ := hC
      have s2 : BoxAt W' w.heap.size #[.int .i64 s.rd, .int .i64 s.mo, .slice A n c, .int .i64 s.fi, .int .i64 s.la] 75 := hR 2 (by decide)
      have s3 : BoxAt W' (w.heap.size + 1) #[.int .i64 hnd.at_, .int .i64 hnd.v, .int .i64 hnd.r, .int .i64 hnd.t, .bool hnd.seen.s, .int .i64 hnd.seen.n, .bool hnd.seen.f, .int .i64 hnd.seen.v, .int .i64 hnd.tr, .int .i64 hnd.sp, .bool hnd.ag, .int .i64 hnd.re] 41 := hR 3 (by decide)
      clear hR
      simp only [lexAll]
      go_simp
      go_step
      have kz := s2.cell
      have ky := s3.cell
      have lS := hh.lt
      go_wp2
      refine bodyPost_ret (v := .tuple #[stV s A n c, hdV hnd]) (by simp [results, Try.results65, go_sem, kz, ky, stV, hdV]) rfl ⟨s, A, n, c, hnd, rfl, HSO.out, RgsW.mono hG (by omega) (by omega), hB, hcur⟩
end Go.Proofs.Ytbdgkmamieagfaa

/-
  The draw of a store and of any hand.
-/
import Derived.Test.YtaieigdnfdnnpaaDrwC
namespace Go.Proofs.Ytaieigdnfdnnpaa
set_option linter.unusedSimpArgs false
set_option linter.unusedVariables false
open Go.RowKit
set_option linter.unusedVariables false
attribute [local go_sem] OpUpon
attribute [local go_sem ↓] Go.wp_at_zero Go.wp_at_succ

def daRV (s : St) (hnd : Hd) (N S4 n c : Nat) (A : Option Addr) : List Sl := [.v (.agg #[.int .i64 s.rd, .int .i64 s.mo, .slice A n c, .int .i64 s.fi, .int .i64 s.la]),
  .v (.agg #[.int .i64 hnd.at_, .int .i64 hnd.v, .int .i64 hnd.r, .int .i64 hnd.t, .bool hnd.seen.s, .int .i64 hnd.seen.n, .bool hnd.seen.f, .int .i64 hnd.seen.v, .int .i64 hnd.tr, .int .i64 hnd.sp, .bool hnd.ag, .int .i64 hnd.re]),
  .e fun σ w => BoxAt w N #[.int .i64 s.rd, .int .i64 s.mo, .slice A n c, .int .i64 s.fi, .int .i64 s.la] 72,
  .e fun σ w => BoxAt w (N + 1) #[.int .i64 hnd.at_, .int .i64 hnd.v, .int .i64 hnd.r, .int .i64 hnd.t, .bool hnd.seen.s, .int .i64 hnd.seen.n, .bool hnd.seen.f, .int .i64 hnd.seen.v, .int .i64 hnd.tr, .int .i64 hnd.sp, .bool hnd.ag, .int .i64 hnd.re] 27]

set_option maxRecDepth 100000 in
set_option maxHeartbeats 4000000 in
theorem l5DrawAny_any (K0 k : Nat) (a0 : Option Addr) (len cap : Nat) (w : World) (hc : CodeOk K0 w a0 len) (hkk : K0 ≤ k) (hN0 : K0 ≤ w.heap.size) (hcur : CurAt w k a0 len cap) :
    Calls Try.prog 59 #[.pointer (some ⟨k, 0, none⟩)] w (DrawsSH k a0 len cap w) := by
  have hkN := hcur.lt
  go_enter Try.func59, Try.ntmps59
  go_wp2_with fail
  refine calls_abs (fun W => But k w W ∧ CurAt W k a0 len cap ∧ BoxAt W w.heap.size #[.int .i64 0, .int .i64 0, .slice none 0 0, .int .i64 0, .int .i64 0] 72 ∧ BoxAt W (w.heap.size + 1) #[.int .i64 0, .int .i64 0, .int .i64 0, .int .i64 0, .bool false, .int .i64 0, .bool false, .int .i64 0, .int .i64 0, .int .i64 0, .bool false, .int .i64 0] 27) ⟨((But.refl _ _).alloc _).alloc _, (hcur.alloc _).alloc _, (BoxAt.new _ _ _).alloc _, BoxAt.new' (by simp)⟩ ?_
  clear hcur
  rintro W0 ⟨hB, hcur, hz, hy⟩
  refine (l5Draw_any K0 k a0 len cap _ (hc.below (hB.below hkk hN0)) hkk (Nat.le_trans hN0 hB.size) hcur).mono ?_
  rintro e w1 ⟨s, A, n, c, h, rfl, hso, hG, hb1, hcur1⟩
  have HSO := Lib.hid hso; clear hso
  have ly := hy.lt
  have hs1 := hb1.size
  replace hz := hb1.box hz (by omega)
  replace hy := hb1.box hy (by omega)
  replace hB := hB.trans hb1
  clear hb1 hcur
  unfold stV hdV
  go_wp2_with fail
  refine calls_abs (fun W => But k w W ∧ CurAt W k a0 len cap ∧ BoxAt W w.heap.size #[.int .i64 0, .int .i64 0, .slice none 0 0, .int .i64 0, .int .i64 0] 72 ∧ BoxAt W (w.heap.size + 1) #[.int .i64 0, .int .i64 0, .int .i64 0, .int .i64 0, .bool false, .int .i64 0, .bool false, .int .i64 0, .int .i64 0, .int .i64 0, .bool false, .int .i64 0] 27 ∧ BoxAt W w1.heap.size #[.int .i64 s.rd, .int .i64 s.mo, .slice A n c, .int .i64 s.fi, .int .i64 s.la] 72 ∧ BoxAt W (w1.heap.size + 1) #[.int .i64 h.at_, .int .i64 h.v, .int .i64 h.r, .int .i64 h.t, .bool h.seen.s, .int .i64 h.seen.n, .bool h.seen.f, .int .i64 h.seen.v, .int .i64 h.tr, .int .i64 h.sp, .bool h.ag, .int .i64 h.re] 27 ∧ RgsW (w.heap.size + 2) w1.heap.size W A n c s.rs ∧ w1.heap.size ≤ W.heap.size) ⟨(hB.alloc _).alloc _, (hcur1.alloc _).alloc _, (hz.alloc _).alloc _, (hy.alloc _).alloc _, (BoxAt.new _ _ _).alloc _, BoxAt.new' (by simp), ((hG.mono (by omega) (Nat.le_refl _)).al (Nat.le_refl _) _).al (by simp) _, by simp; omega⟩ ?_
  have hNS : w.heap.size + 2 ≤ w1.heap.size := by omega
  clear hB hcur1 hz hy hG
  generalize w1.heap.size = S4 at *
  rintro W1 ⟨hB, hcur0, hz, hy, hs, hh, hG, hS4⟩
  refine (l1Once_any K0 k a0 len cap _ _ (hc.below (hB.below hkk hN0)) hkk (Nat.le_trans hN0 hB.size) hcur0 (by omega)).mono ?_
  rintro e w2 ⟨x, rfl, hb1, hcur1⟩
  replace hz := hb1.box hz (by omega)
  replace hy := hb1.box hy (by omega)
  replace hs := hb1.box hs (by omega)
  replace hh := hb1.box hh (by omega)
  replace hG := hG.keep (.but hb1 (.inl (by omega)) hS4)
  replace hS4 := Nat.le_trans hS4 hb1.size
  replace hB := hB.trans hb1
  clear hb1 hcur0
  have hcur0 := hcur1
  clear hcur1
  go_upto_if 12 with fail
  go_cut [15] (fun u15 W' => ∃ h : Hd, But k w W' ∧ CurAt W' k a0 len cap ∧ BoxAt W' w.heap.size #[.int .i64 0, .int .i64 0, .slice none 0 0, .int .i64 0, .int .i64 0] 72 ∧ BoxAt W' (w.heap.size + 1) #[.int .i64 0, .int .i64 0, .int .i64 0, .int .i64 0, .bool false, .int .i64 0, .bool false, .int .i64 0, .int .i64 0, .int .i64 0, .bool false, .int .i64 0] 27 ∧ BoxAt W' S4 #[.int .i64 s.rd, .int .i64 s.mo, .slice A n c, .int .i64 s.fi, .int .i64 s.la] 72 ∧ BoxAt W' (S4 + 1) #[.int .i64 h.at_, .int .i64 h.v, .int .i64 h.r, .int .i64 h.t, .bool h.seen.s, .int .i64 h.seen.n, .bool h.seen.f, .int .i64 h.seen.v, .int .i64 h.tr, .int .i64 h.sp, .bool h.ag, .int .i64 h.re] 27 ∧ RgsW (w.heap.size + 2) S4 W' A n c s.rs ∧ S4 ≤ W'.heap.size)
  case first =>
    cases x
    · go_wp2
      go_meet
      exact ⟨h, hB, hcur0, hz, hy, hs, hh, hG, hS4⟩
    · go_wp2_with fail
      refine (l1Below_any K0 k a0 len cap _ _ (hc.below (hB.below hkk hN0)) hkk (Nat.le_trans hN0 hB.size) hcur0 (by omega)).mono ?_
      rintro e w3 ⟨y, ⟨y0, y1⟩, rfl, hb1, hcur1⟩
      replace hz := hb1.box hz (by omega)
      replace hy := hb1.box hy (by omega)
      replace hs := hb1.box hs (by omega)
      replace hh := hb1.box hh (by omega)
      replace hG := hG.keep (.but hb1 (.inl (by omega)) hS4)
      replace hS4 := Nat.le_trans hS4 hb1.size
      replace hB := hB.trans hb1
      clear hb1 hcur0
      have hcur0 := hcur1
      clear hcur1
      have kh := hh.cell
      have fh := hh.frozen
      have hy8 : y = 0 ∨ y = 1 ∨ y = 2 ∨ y = 3 ∨ y = 4 ∨ y = 5 ∨ y = 6 ∨ y = 7 := by omega
      rcases hy8 with rfl | rfl | rfl | rfl | rfl | rfl | rfl | rfl
      · go_wp2_with fail
        refine (l1From_any K0 k a0 len cap _ _ _ (hc.below (hB.below hkk hN0)) hkk (Nat.le_trans hN0 hB.size) hcur0 (by omega) (by omega) (by omega)).mono ?_
        rintro e w4 ⟨v, hv, rfl, hb1, hcur1⟩
        replace hz := hb1.box hz (by omega)
        replace hy := hb1.box hy (by omega)
        replace hs := hb1.box hs (by omega)
        replace hh := hb1.box hh (by omega)
        replace hG := hG.keep (.but hb1 (.inl (by omega)) hS4)
        replace hS4 := Nat.le_trans hS4 hb1.size
        replace hB := hB.trans hb1
        clear hb1 hcur0
        clear kh fh
        have hcur0 := hcur1
        have kh := hh.cell
        have fh := hh.frozen
        go_wp2
        go_meet
        exact ⟨{ h with at_ := v }, hB.setNew (by omega) _ _, hcur0.set_ne (by omega) _ _, hz.set_ne (by omega) _ _, hy.set_ne (by omega) _ _, hs.set_ne (by omega) _ _, by simpa using hh.set 0 (.int .i64 (v)), hG.st (.inr (by omega)) _ _, by simpa using hS4⟩
      · go_wp2_with fail
        have hL3 := hS4
        refine calls_abs (fun W => But k w W ∧ CurAt W k a0 len cap ∧ BoxAt W w.heap.size #[.int .i64 0, .int .i64 0, .slice none 0 0, .int .i64 0, .int .i64 0] 72 ∧ BoxAt W (w.heap.size + 1) #[.int .i64 0, .int .i64 0, .int .i64 0, .int .i64 0, .bool false, .int .i64 0, .bool false, .int .i64 0, .int .i64 0, .int .i64 0, .bool false, .int .i64 0] 27 ∧ BoxAt W S4 #[.int .i64 s.rd, .int .i64 s.mo, .slice A n c, .int .i64 s.fi, .int .i64 s.la] 72 ∧ BoxAt W (S4 + 1) #[.int .i64 h.at_, .int .i64 h.v, .int .i64 h.r, .int .i64 h.t, .bool h.seen.s, .int .i64 h.seen.n, .bool h.seen.f, .int .i64 h.seen.v, .int .i64 h.tr, .int .i64 h.sp, .bool h.ag, .int .i64 h.re] 27 ∧ RgsW (w.heap.size + 2) S4 W A n c s.rs ∧ BoxAt W w3.heap.size #[.int .i64 (-1), .int .i64 (0), .int .i64 (1000000), .int .i64 (1000001)] 2 ∧ S4 ≤ W.heap.size) ⟨hB.alloc _, hcur0.alloc _, hz.alloc _, hy.alloc _, hs.alloc _, hh.alloc _, hG.al hS4 _, BoxAt.new _ _ _, by simp; omega⟩ ?_
        have hl3 := hh.lt
        have hk3 := hcur0.lt
        clear hB hcur0 hz hy hs hh hG kh fh hS4
        rintro W4 ⟨hB, hcur0, hz, hy, hs, hh, hG, hlit, hS4⟩
        refine (l1Below_any K0 k a0 len cap _ _ (hc.below (hB.below hkk hN0)) hkk (Nat.le_trans hN0 hB.size) hcur0 (by omega)).mono ?_
        rintro e w4 ⟨u, ⟨u0, u1⟩, rfl, hb1, hcur1⟩
        replace hlit := hb1.box hlit (by omega)
        replace hz := hb1.box hz (by omega)
        replace hy := hb1.box hy (by omega)
        replace hs := hb1.box hs (by omega)
        replace hh := hb1.box hh (by omega)
        replace hG := hG.keep (.but hb1 (.inl (by omega)) hS4)
        replace hS4 := Nat.le_trans hS4 hb1.size
        replace hB := hB.trans hb1
        clear hb1 hcur0
        have hcur0 := hcur1
        have kh := hh.cell
        have fh := hh.frozen
        have kl := hlit.cell
        have hu : u = 0 ∨ u = 1 ∨ u = 2 ∨ u = 3 := by omega
        rcases hu with rfl | rfl | rfl | rfl
        · go_wp2
          go_meet
          exact ⟨{ h with v := (-1) }, hB.setNew (by omega) _ _, hcur0.set_ne (by omega) _ _, hz.set_ne (by omega) _ _, hy.set_ne (by omega) _ _, hs.set_ne (by omega) _ _, by simpa using hh.set 1 (.int .i64 ((-1))), hG.st (.inr (by omega)) _ _, by simpa using hS4⟩
        · go_wp2
          go_meet
          exact ⟨{ h with v := 0 }, hB.setNew (by omega) _ _, hcur0.set_ne (by omega) _ _, hz.set_ne (by omega) _ _, hy.set_ne (by omega) _ _, hs.set_ne (by omega) _ _, by simpa using hh.set 1 (.int .i64 (0)), hG.st (.inr (by omega)) _ _, by simpa using hS4⟩
        · go_wp2
          go_meet
          exact ⟨{ h with v := 1000000 }, hB.setNew (by omega) _ _, hcur0.set_ne (by omega) _ _, hz.set_ne (by omega) _ _, hy.set_ne (by omega) _ _, hs.set_ne (by omega) _ _, by simpa using hh.set 1 (.int .i64 (1000000)), hG.st (.inr (by omega)) _ _, by simpa using hS4⟩
        · go_wp2
          go_meet
          exact ⟨{ h with v := 1000001 }, hB.setNew (by omega) _ _, hcur0.set_ne (by omega) _ _, hz.set_ne (by omega) _ _, hy.set_ne (by omega) _ _, hs.set_ne (by omega) _ _, by simpa using hh.set 1 (.int .i64 (1000001)), hG.st (.inr (by omega)) _ _, by simpa using hS4⟩
      · go_wp2_with fail
        refine (l1From_any K0 k a0 len cap _ _ _ (hc.below (hB.below hkk hN0)) hkk (Nat.le_trans hN0 hB.size) hcur0 (by omega) (by omega) (by omega)).mono ?_
        rintro e w4 ⟨v, hv, rfl, hb1, hcur1⟩
        replace hz := hb1.box hz (by omega)
        replace hy := hb1.box hy (by omega)
        replace hs := hb1.box hs (by omega)
        replace hh := hb1.box hh (by omega)
        replace hG := hG.keep (.but hb1 (.inl (by omega)) hS4)
        replace hS4 := Nat.le_trans hS4 hb1.size
        replace hB := hB.trans hb1
        clear hb1 hcur0
        clear kh fh
        have hcur0 := hcur1
        have kh := hh.cell
        have fh := hh.frozen
        go_wp2
        go_meet
        exact ⟨{ h with r := v }, hB.setNew (by omega) _ _, hcur0.set_ne (by omega) _ _, hz.set_ne (by omega) _ _, hy.set_ne (by omega) _ _, hs.set_ne (by omega) _ _, by simpa using hh.set 2 (.int .i64 (v)), hG.st (.inr (by omega)) _ _, by simpa using hS4⟩
      · go_wp2_with fail
        have hL3 := hS4
        refine calls_abs (fun W => But k w W ∧ CurAt W k a0 len cap ∧ BoxAt W w.heap.size #[.int .i64 0, .int .i64 0, .slice none 0 0, .int .i64 0, .int .i64 0] 72 ∧ BoxAt W (w.heap.size + 1) #[.int .i64 0, .int .i64 0, .int .i64 0, .int .i64 0, .bool false, .int .i64 0, .bool false, .int .i64 0, .int .i64 0, .int .i64 0, .bool false, .int .i64 0] 27 ∧ BoxAt W S4 #[.int .i64 s.rd, .int .i64 s.mo, .slice A n c, .int .i64 s.fi, .int .i64 s.la] 72 ∧ BoxAt W (S4 + 1) #[.int .i64 h.at_, .int .i64 h.v, .int .i64 h.r, .int .i64 h.t, .bool h.seen.s, .int .i64 h.seen.n, .bool h.seen.f, .int .i64 h.seen.v, .int .i64 h.tr, .int .i64 h.sp, .bool h.ag, .int .i64 h.re] 27 ∧ RgsW (w.heap.size + 2) S4 W A n c s.rs ∧ BoxAt W w3.heap.size #[.int .i64 (-1), .int .i64 (0), .int .i64 (1000000), .int .i64 (1000001)] 2 ∧ S4 ≤ W.heap.size) ⟨hB.alloc _, hcur0.alloc _, hz.alloc _, hy.alloc _, hs.alloc _, hh.alloc _, hG.al hS4 _, BoxAt.new _ _ _, by simp; omega⟩ ?_
        have hl3 := hh.lt
        have hk3 := hcur0.lt
        clear hB hcur0 hz hy hs hh hG kh fh hS4
        rintro W4 ⟨hB, hcur0, hz, hy, hs, hh, hG, hlit, hS4⟩
        refine (l1Below_any K0 k a0 len cap _ _ (hc.below (hB.below hkk hN0)) hkk (Nat.le_trans hN0 hB.size) hcur0 (by omega)).mono ?_
        rintro e w4 ⟨u, ⟨u0, u1⟩, rfl, hb1, hcur1⟩
        replace hlit := hb1.box hlit (by omega)
        replace hz := hb1.box hz (by omega)
        replace hy := hb1.box hy (by omega)
        replace hs := hb1.box hs (by omega)
        replace hh := hb1.box hh (by omega)
        replace hG := hG.keep (.but hb1 (.inl (by omega)) hS4)
        replace hS4 := Nat.le_trans hS4 hb1.size
        replace hB := hB.trans hb1
        clear hb1 hcur0
        have hcur0 := hcur1
        have kh := hh.cell
        have fh := hh.frozen
        have kl := hlit.cell
        have hu : u = 0 ∨ u = 1 ∨ u = 2 ∨ u = 3 := by omega
        rcases hu with rfl | rfl | rfl | rfl
        · go_wp2
          go_meet
          exact ⟨{ h with t := (-1) }, hB.setNew (by omega) _ _, hcur0.set_ne (by omega) _ _, hz.set_ne (by omega) _ _, hy.set_ne (by omega) _ _, hs.set_ne (by omega) _ _, by simpa using hh.set 3 (.int .i64 ((-1))), hG.st (.inr (by omega)) _ _, by simpa using hS4⟩
        · go_wp2
          go_meet
          exact ⟨{ h with t := 0 }, hB.setNew (by omega) _ _, hcur0.set_ne (by omega) _ _, hz.set_ne (by omega) _ _, hy.set_ne (by omega) _ _, hs.set_ne (by omega) _ _, by simpa using hh.set 3 (.int .i64 (0)), hG.st (.inr (by omega)) _ _, by simpa using hS4⟩
        · go_wp2
          go_meet
          exact ⟨{ h with t := 1000000 }, hB.setNew (by omega) _ _, hcur0.set_ne (by omega) _ _, hz.set_ne (by omega) _ _, hy.set_ne (by omega) _ _, hs.set_ne (by omega) _ _, by simpa using hh.set 3 (.int .i64 (1000000)), hG.st (.inr (by omega)) _ _, by simpa using hS4⟩
        · go_wp2
          go_meet
          exact ⟨{ h with t := 1000001 }, hB.setNew (by omega) _ _, hcur0.set_ne (by omega) _ _, hz.set_ne (by omega) _ _, hy.set_ne (by omega) _ _, hs.set_ne (by omega) _ _, by simpa using hh.set 3 (.int .i64 (1000001)), hG.st (.inr (by omega)) _ _, by simpa using hS4⟩
      · go_wp2_with fail
        refine (l1DrawAny_any K0 k a0 len cap _ (hc.below (hB.below hkk hN0)) hkk (Nat.le_trans hN0 hB.size) hcur0).mono ?_
        rintro e w4 ⟨p1, p3, p2, p4, rfl, hb1, hcur1⟩
        replace hz := hb1.box hz (by omega)
        replace hy := hb1.box hy (by omega)
        replace hs := hb1.box hs (by omega)
        replace hh := hb1.box hh (by omega)
        replace hG := hG.keep (.but hb1 (.inl (by omega)) hS4)
        replace hS4 := Nat.le_trans hS4 hb1.size
        replace hB := hB.trans hb1
        clear hb1 hcur0
        clear kh fh
        have hcur0 := hcur1
        have kh := hh.cell
        have fh := hh.frozen
        go_wp2
        go_meet
        exact ⟨{ h with seen := ⟨p1, p2, p3, p4⟩ }, (((hB.setNew (by omega) _ _).setNew (by omega) _ _).setNew (by omega) _ _).setNew (by omega) _ _, (((hcur0.set_ne (by omega) _ _).set_ne (by omega) _ _).set_ne (by omega) _ _).set_ne (by omega) _ _, (((hz.set_ne (by omega) _ _).set_ne (by omega) _ _).set_ne (by omega) _ _).set_ne (by omega) _ _, (((hy.set_ne (by omega) _ _).set_ne (by omega) _ _).set_ne (by omega) _ _).set_ne (by omega) _ _, (((hs.set_ne (by omega) _ _).set_ne (by omega) _ _).set_ne (by omega) _ _).set_ne (by omega) _ _, by simpa using (((hh.set 4 (.bool p1)).set 5 (.int .i64 p2)).set 6 (.bool p3)).set 7 (.int .i64 p4), (((hG.st (.inr (by omega)) _ _).st (.inr (by omega)) _ _).st (.inr (by omega)) _ _).st (.inr (by omega)) _ _, by simpa using hS4⟩
      · go_wp2_with fail
        have hL3 := hS4
        refine calls_abs (fun W => But k w W ∧ CurAt W k a0 len cap ∧ BoxAt W w.heap.size #[.int .i64 0, .int .i64 0, .slice none 0 0, .int .i64 0, .int .i64 0] 72 ∧ BoxAt W (w.heap.size + 1) #[.int .i64 0, .int .i64 0, .int .i64 0, .int .i64 0, .bool false, .int .i64 0, .bool false, .int .i64 0, .int .i64 0, .int .i64 0, .bool false, .int .i64 0] 27 ∧ BoxAt W S4 #[.int .i64 s.rd, .int .i64 s.mo, .slice A n c, .int .i64 s.fi, .int .i64 s.la] 72 ∧ BoxAt W (S4 + 1) #[.int .i64 h.at_, .int .i64 h.v, .int .i64 h.r, .int .i64 h.t, .bool h.seen.s, .int .i64 h.seen.n, .bool h.seen.f, .int .i64 h.seen.v, .int .i64 h.tr, .int .i64 h.sp, .bool h.ag, .int .i64 h.re] 27 ∧ RgsW (w.heap.size + 2) S4 W A n c s.rs ∧ BoxAt W w3.heap.size #[.int .i64 (-1), .int .i64 (3), .int .i64 (1000000), .int .i64 (1000001)] 2 ∧ S4 ≤ W.heap.size) ⟨hB.alloc _, hcur0.alloc _, hz.alloc _, hy.alloc _, hs.alloc _, hh.alloc _, hG.al hS4 _, BoxAt.new _ _ _, by simp; omega⟩ ?_
        have hl3 := hh.lt
        have hk3 := hcur0.lt
        clear hB hcur0 hz hy hs hh hG kh fh hS4
        rintro W4 ⟨hB, hcur0, hz, hy, hs, hh, hG, hlit, hS4⟩
        refine (l1Below_any K0 k a0 len cap _ _ (hc.below (hB.below hkk hN0)) hkk (Nat.le_trans hN0 hB.size) hcur0 (by omega)).mono ?_
        rintro e w4 ⟨u, ⟨u0, u1⟩, rfl, hb1, hcur1⟩
        replace hlit := hb1.box hlit (by omega)
        replace hz := hb1.box hz (by omega)
        replace hy := hb1.box hy (by omega)
        replace hs := hb1.box hs (by omega)
        replace hh := hb1.box hh (by omega)
        replace hG := hG.keep (.but hb1 (.inl (by omega)) hS4)
        replace hS4 := Nat.le_trans hS4 hb1.size
        replace hB := hB.trans hb1
        clear hb1 hcur0
        have hcur0 := hcur1
        have kh := hh.cell
        have fh := hh.frozen
        have kl := hlit.cell
        have hu : u = 0 ∨ u = 1 ∨ u = 2 ∨ u = 3 := by omega
        rcases hu with rfl | rfl | rfl | rfl
        · go_wp2
          go_meet
          exact ⟨{ h with tr := (-1) }, hB.setNew (by omega) _ _, hcur0.set_ne (by omega) _ _, hz.set_ne (by omega) _ _, hy.set_ne (by omega) _ _, hs.set_ne (by omega) _ _, by simpa using hh.set 8 (.int .i64 ((-1))), hG.st (.inr (by omega)) _ _, by simpa using hS4⟩
        · go_wp2
          go_meet
          exact ⟨{ h with tr := 3 }, hB.setNew (by omega) _ _, hcur0.set_ne (by omega) _ _, hz.set_ne (by omega) _ _, hy.set_ne (by omega) _ _, hs.set_ne (by omega) _ _, by simpa using hh.set 8 (.int .i64 (3)), hG.st (.inr (by omega)) _ _, by simpa using hS4⟩
        · go_wp2
          go_meet
          exact ⟨{ h with tr := 1000000 }, hB.setNew (by omega) _ _, hcur0.set_ne (by omega) _ _, hz.set_ne (by omega) _ _, hy.set_ne (by omega) _ _, hs.set_ne (by omega) _ _, by simpa using hh.set 8 (.int .i64 (1000000)), hG.st (.inr (by omega)) _ _, by simpa using hS4⟩
        · go_wp2
          go_meet
          exact ⟨{ h with tr := 1000001 }, hB.setNew (by omega) _ _, hcur0.set_ne (by omega) _ _, hz.set_ne (by omega) _ _, hy.set_ne (by omega) _ _, hs.set_ne (by omega) _ _, by simpa using hh.set 8 (.int .i64 (1000001)), hG.st (.inr (by omega)) _ _, by simpa using hS4⟩
      · go_wp2_with fail
        refine (l1From_any K0 k a0 len cap _ _ _ (hc.below (hB.below hkk hN0)) hkk (Nat.le_trans hN0 hB.size) hcur0 (by omega) (by omega) (by omega)).mono ?_
        rintro e w4 ⟨v, hv, rfl, hb1, hcur1⟩
        replace hz := hb1.box hz (by omega)
        replace hy := hb1.box hy (by omega)
        replace hs := hb1.box hs (by omega)
        replace hh := hb1.box hh (by omega)
        replace hG := hG.keep (.but hb1 (.inl (by omega)) hS4)
        replace hS4 := Nat.le_trans hS4 hb1.size
        replace hB := hB.trans hb1
        clear hb1 hcur0
        clear kh fh
        have hcur0 := hcur1
        have kh := hh.cell
        have fh := hh.frozen
        go_wp2
        go_meet
        exact ⟨{ h with sp := v }, hB.setNew (by omega) _ _, hcur0.set_ne (by omega) _ _, hz.set_ne (by omega) _ _, hy.set_ne (by omega) _ _, hs.set_ne (by omega) _ _, by simpa using hh.set 9 (.int .i64 (v)), hG.st (.inr (by omega)) _ _, by simpa using hS4⟩
      · go_wp2_with fail
        refine (l1From_any K0 k a0 len cap _ _ _ (hc.below (hB.below hkk hN0)) hkk (Nat.le_trans hN0 hB.size) hcur0 (by omega) (by omega) (by omega)).mono ?_
        rintro e w4 ⟨v, hv, rfl, hb1, hcur1⟩
        replace hz := hb1.box hz (by omega)
        replace hy := hb1.box hy (by omega)
        replace hs := hb1.box hs (by omega)
        replace hh := hb1.box hh (by omega)
        replace hG := hG.keep (.but hb1 (.inl (by omega)) hS4)
        replace hS4 := Nat.le_trans hS4 hb1.size
        replace hB := hB.trans hb1
        clear hb1 hcur0
        clear kh fh
        have hcur0 := hcur1
        have kh := hh.cell
        have fh := hh.frozen
        go_wp2
        go_meet
        exact ⟨{ h with re := v }, hB.setNew (by omega) _ _, hcur0.set_ne (by omega) _ _, hz.set_ne (by omega) _ _, hy.set_ne (by omega) _ _, hs.set_ne (by omega) _ _, by simpa using hh.set 11 (.int .i64 (v)), hG.st (.inr (by omega)) _ _, by simpa using hS4⟩
  case rest =>
    clear hB hcur0 hz hy hs hh hG hS4
    obtain ⟨hnd, hB, hcur, hz, hy, hs, hh, hG, hS4⟩ := hcut
    go_upto_region 20 with fail
    refine wp_region2v (fun w w' => Below w.heap.size w w') (fun _ _ h => h.size) (fun _ => Below.refl _ _) (fun L W' => But k w W' ∧ CurAt W' k a0 len cap ∧ BoxAt W' S4 #[.int .i64 s.rd, .int .i64 s.mo, .slice A n c, .int .i64 s.fi, .int .i64 s.la] 72 ∧ BoxAt W' (S4 + 1) #[.int .i64 hnd.at_, .int .i64 hnd.v, .int .i64 hnd.r, .int .i64 hnd.t, .bool hnd.seen.s, .int .i64 hnd.seen.n, .bool hnd.seen.f, .int .i64 hnd.seen.v, .int .i64 hnd.tr, .int .i64 hnd.sp, .bool hnd.ag, .int .i64 hnd.re] 27 ∧ RgsW (w.heap.size + 2) S4 W' A n c s.rs ∧ (∃ x0 x1 x2 x3 x4, BoxAt W' w.heap.size #[x0, x1, x2, x3, x4] 72) ∧ (L 2 = false → BoxAt W' w.heap.size #[.int .i64 0, .int .i64 0, .slice none 0 0, .int .i64 0, .int .i64 0] 72) ∧ (∃ x0 x1 x2 x3 x4 x5 x6 x7 x8 x9 x10 x11, BoxAt W' (w.heap.size + 1) #[x0, x1, x2, x3, x4, x5, x6, x7, x8, x9, x10, x11] 27) ∧ (L 3 = false → BoxAt W' (w.heap.size + 1) #[.int .i64 0, .int .i64 0, .int .i64 0, .int .i64 0, .bool false, .int .i64 0, .bool false, .int .i64 0, .int .i64 0, .int .i64 0, .bool false, .int .i64 0] 27)) (daRV s hnd w.heap.size S4 n c A) (fun j => [0, 0, 1, 1].getD j 0) [] (by kernel_rfl) (by kernel_rfl) ?_ ?_ ?_
      (.still rfl ?a0 <| .still rfl ?a1 <| .store rfl ?a2 <| .store rfl ?a3 <| .nil) ?_ ?_
    · exact ⟨fun _ _ _ _ h => h, fun _ _ _ _ h => h, trivial⟩
    · exact ⟨fun σ w w' hb hR => hR.below hb hR.lt, fun σ w w' hb hR => hR.below hb hR.lt, trivial⟩
    · exact ⟨hB.drew, hcur, hs, hh, hG, ⟨_, _, _, _, _, hz⟩, fun _ => hz, ⟨_, _, _, _, _, _, _, _, _, _, _, _, hy⟩, fun _ => hy⟩
    case a0 =>
      go_light
      intro L σ W' hcl hL hC hw
      have ks := hC.2.2.1.cell
      clear hw hcl hL hC
      refine OpGoes.step fun K hK => ?_
      unfold OpGoes
      go_simp
      exact hK _ _ ⟨rfl, rfl⟩
    case a1 =>
      go_light
      intro L σ W' hcl hL hC hw
      have kh := hC.2.2.2.1.cell
      clear hw hcl hL hC
      refine OpGoes.step fun K hK => ?_
      unfold OpGoes
      go_simp
      exact hK _ _ ⟨rfl, rfl⟩
    case a2 =>
      go_light
      intro L σ W' hcl hL hC hw hne
      have e0 := wV hw 0 rfl
      clear hw hne
      have HC := Lib.hid hC
      obtain ⟨hB, hcur, hs, hh, hG, ⟨_, _, _, _, _, hz⟩, hz_o, ⟨_, _, _, _, _, _, _, _, _, _, _, _, hy⟩, hy_o⟩ := hC
      clear hcl hL
      have kc_ := hz.cell
      have kf_ := hz.frozen
      clear hB hcur hs hh hG hz hz_o hy hy_o
      refine OpGoes.step fun K hK => ?_
      unfold OpGoes
      go_simp
      obtain ⟨hB, hcur, hs, hh, hG, ⟨_, _, _, _, _, hz⟩, hz_o, ⟨_, _, _, _, _, _, _, _, _, _, _, _, hy⟩, hy_o⟩ := HC.out
      have hset := sets_all (us := [.int .i64 s.rd, .int .i64 s.mo, .slice A n c, .int .i64 s.fi, .int .i64 s.la]) hz rfl
      refine hK undef (setCells W' w.heap.size 0 [.int .i64 s.rd, .int .i64 s.mo, .slice A n c, .int .i64 s.fi, .int .i64 s.la]) ⟨⟨(But.setsNew hB (by omega) _ 0), (CurAt.sets hcur (by omega) _ 0), (BoxAt.sets_ne _ 0 hs (by omega)), (BoxAt.sets_ne _ 0 hh (by omega)), (RgsW.sts hG (by omega) _ 0), ⟨_, _, _, _, _, hset⟩, fun h => absurd h (by simp [upd]), ⟨_, _, _, _, _, _, _, _, _, _, _, _, (BoxAt.sets_ne _ 0 hy (by omega))⟩, fun h => (BoxAt.sets_ne _ 0 (hy_o (by simpa [upd] using h)) (by omega))⟩, hset, Nat.le_of_eq (sets_size _ _ _).symm, keepV ?_⟩
      exact ⟨fun h => absurd rfl h, fun _ _ hR => (BoxAt.sets_ne _ 0 hR (by omega)), trivial⟩
    case a3 =>
      go_light
      intro L σ W' hcl hL hC hw hne
      have e1 := wV hw 1 rfl
      clear hw hne
      have HC := Lib.hid hC
      obtain ⟨hB, hcur, hs, hh, hG, ⟨_, _, _, _, _, hz⟩, hz_o, ⟨_, _, _, _, _, _, _, _, _, _, _, _, hy⟩, hy_o⟩ := hC
      clear hcl hL
      have kc_ := hy.cell
      have kf_ := hy.frozen
      clear hB hcur hs hh hG hz hz_o hy hy_o
      refine OpGoes.step fun K hK => ?_
      unfold OpGoes
      go_simp
      obtain ⟨hB, hcur, hs, hh, hG, ⟨_, _, _, _, _, hz⟩, hz_o, ⟨_, _, _, _, _, _, _, _, _, _, _, _, hy⟩, hy_o⟩ := HC.out
      have hset := sets_all (us := [.int .i64 hnd.at_, .int .i64 hnd.v, .int .i64 hnd.r, .int .i64 hnd.t, .bool hnd.seen.s, .int .i64 hnd.seen.n, .bool hnd.seen.f, .int .i64 hnd.seen.v, .int .i64 hnd.tr, .int .i64 hnd.sp, .bool hnd.ag, .int .i64 hnd.re]) hy rfl
      refine hK undef (setCells W' (w.heap.size + 1) 0 [.int .i64 hnd.at_, .int .i64 hnd.v, .int .i64 hnd.r, .int .i64 hnd.t, .bool hnd.seen.s, .int .i64 hnd.seen.n, .bool hnd.seen.f, .int .i64 hnd.seen.v, .int .i64 hnd.tr, .int .i64 hnd.sp, .bool hnd.ag, .int .i64 hnd.re]) ⟨⟨(But.setsNew hB (by omega) _ 0), (CurAt.sets hcur (by omega) _ 0), (BoxAt.sets_ne _ 0 hs (by omega)), (BoxAt.sets_ne _ 0 hh (by omega)), (RgsW.sts hG (by omega) _ 0), ⟨_, _, _, _, _, (BoxAt.sets_ne _ 0 hz (by omega))⟩, fun h => (BoxAt.sets_ne _ 0 (hz_o (by simpa [upd] using h)) (by omega)), ⟨_, _, _, _, _, _, _, _, _, _, _, _, hset⟩, fun h => absurd h (by simp [upd])⟩, hset, Nat.le_of_eq (sets_size _ _ _).symm, keepV ?_⟩
      exact ⟨fun _ _ hR => (BoxAt.sets_ne _ 0 hR (by omega)), fun h => absurd rfl h, trivial⟩
    · intro L L' W' hLL hC
      obtain ⟨hB, hcur, hs, hh, hG, ⟨_, _, _, _, _, hz⟩, hz_o, ⟨_, _, _, _, _, _, _, _, _, _, _, _, hy⟩, hy_o⟩ := hC
      exact ⟨hB, hcur, hs, hh, hG, ⟨_, _, _, _, _, hz⟩, fun h => hz_o (hLL _ h), ⟨_, _, _, _, _, _, _, _, _, _, _, _, hy⟩, fun h => hy_o (hLL _ h)⟩
    · intro σ L W' hall hC hRR
      obtain ⟨hB, hcur, hs, hh, hG, ⟨_, _, _, _, _, hz⟩, hz_o, ⟨_, _, _, _, _, _, _, _, _, _, _, _, hy⟩, hy_o⟩ := hC
      have s2 := dE hRR 2 rfl
      have s3 := dE hRR 3 rfl
      clear hRR
      simp only [lexAll]
      go_simp
      go_step
      have kz := s2.cell
      have ky := s3.cell
      have lS := hh.lt
      go_wp2
      refine bodyPost_ret (v := .tuple #[stV s A n c, hdV hnd]) (by simp [results, Try.results59, go_sem, kz, ky, stV, hdV]) rfl ⟨s, A, n, c, hnd, rfl, HSO.out, RgsW.mono hG (by omega) (by omega), hB, hcur⟩
end Go.Proofs.Ytaieigdnfdnnpaa

/-
  The draws of chapter 5: any hand, any value.
-/
namespace Go.Proofs.Ytaieigdnfdnnpaa
set_option linter.unusedSimpArgs false
set_option linter.unusedVariables false
open Go.RowKit
set_option linter.unusedVariables false
attribute [local go_sem ↓] Go.wp_at_zero Go.wp_at_succ

theorem CodeOk.le {N M : Nat} {w : World} {a0 : Option Addr} {len : Nat} (h : CodeOk N w a0 len) (hM : N ≤ M) : CodeOk M w a0 len := by
  refine ⟨h.1, fun hl => ?_⟩
  obtain ⟨b, off, e, hn, hs, hc⟩ := h.2 hl
  exact ⟨b, off, e, by omega, hs, hc⟩

/-- A hand is drawn; old memory is as it was. -/
def DrawnH (w : World) (e : Ending) (w' : World) : Prop := ∃ h : Hd, e = .returned (hdV h) ∧ Below w.heap.size w w'
def DrawnHI (w : World) (e : Ending) (w' : World) : Prop := ∃ (h : Hd) (v : Int), e = .returned (.tuple #[hdV h, .int .i64 v]) ∧ Below w.heap.size w w'

set_option maxRecDepth 100000 in
set_option maxHeartbeats 1000000 in
theorem drawHandOk_any (a0 : Option Addr) (len cap : Nat) (w : World) (hc : CodeOk w.heap.size w a0 len) :
    Calls Try.prog 31 #[.slice a0 len cap] w (DrawnH w) := by
  go_enter Try.func31, Try.ntmps31
  go_wp2_with fail
  refine calls_abs (fun W => Below w.heap.size w W ∧ BoxAt W w.heap.size #[.int .i64 0, .int .i64 0, .int .i64 0, .int .i64 0, .bool false, .int .i64 0, .bool false, .int .i64 0, .int .i64 0, .int .i64 0, .bool false, .int .i64 0] 27) ⟨(Below.refl _ _).alloc (Nat.le_refl _) _, BoxAt.new _ _ _⟩ ?_
  rintro W0 ⟨hB, hx⟩
  have lx := hx.lt
  refine (l1New_any w.heap.size a0 len cap _ (hc.below hB)).mono ?_
  rintro e w1 ⟨h0, rfl, rfl⟩
  go_wp2_with fail
  generalize hk : W0.heap.size = k at *
  refine calls_abs (fun W => Below w.heap.size w W ∧ BoxAt W w.heap.size #[.int .i64 0, .int .i64 0, .int .i64 0, .int .i64 0, .bool false, .int .i64 0, .bool false, .int .i64 0, .int .i64 0, .int .i64 0, .bool false, .int .i64 0] 27 ∧ CurAt W k a0 len cap) ⟨hB.alloc hB.size _, hx.alloc _, 0, h0, Nat.zero_le _, by rw [← hk]; exact BoxAt.new _ _ _⟩ ?_
  clear hB hx
  rintro W1 ⟨hB, hx, hcur⟩
  refine (l5DrawAny_any w.heap.size k a0 len cap _ (hc.below hB) (by omega) hB.size hcur).mono ?_
  rintro e w2 ⟨s, A, n, c, h, rfl, -, -, hb1, -⟩
  replace hx := hb1.box hx (by omega)
  replace hB := hB.trans (hb1.below (by omega) hB.size)
  clear hb1 hcur
  have lx2 := hx.lt
  unfold stV hdV
  go_upto_region 3 with fail
  refine wp_abs (fun W => Below w.heap.size w W ∧ BoxAt W w.heap.size #[.int .i64 0, .int .i64 0, .int .i64 0, .int .i64 0, .bool false, .int .i64 0, .bool false, .int .i64 0, .int .i64 0, .int .i64 0, .bool false, .int .i64 0] 27 ∧ BoxAt W (w2.heap.size + 1) #[.int .i64 h.at_, .int .i64 h.v, .int .i64 h.r, .int .i64 h.t, .bool h.seen.s, .int .i64 h.seen.n, .bool h.seen.f, .int .i64 h.seen.v, .int .i64 h.tr, .int .i64 h.sp, .bool h.ag, .int .i64 h.re] 27) ⟨(hB.alloc hB.size _).alloc (by have := hB.size; simp; omega) _, (hx.alloc _).alloc _, BoxAt.new' (by simp)⟩ ?_
  clear hB hx
  rintro W3 ⟨hB, hx, hh⟩
  have kx := hx.cell
  have fx := hx.frozen
  have kh := hh.cell
  go_wp2
  refine bodyPost_ret (v := hdV h) (by simp [results, Try.results31, go_sem, kx, hdV]) rfl ⟨h, rfl, ?_⟩
  exact Below.setCells (Nat.le_refl _) [.int .i64 h.at_, .int .i64 h.v, .int .i64 h.r, .int .i64 h.t, .bool h.seen.s, .int .i64 h.seen.n, .bool h.seen.f, .int .i64 h.seen.v, .int .i64 h.tr, .int .i64 h.sp, .bool h.ag, .int .i64 h.re] 0 hB

set_option maxRecDepth 100000 in
set_option maxHeartbeats 1000000 in
theorem drawIsPutting_any (a0 : Option Addr) (len cap : Nat) (w : World) (hc : CodeOk w.heap.size w a0 len) :
    Calls Try.prog 10 #[.slice a0 len cap] w (DrawnH w) := by
  go_enter Try.func10, Try.ntmps10
  go_wp2_with fail
  refine calls_abs (fun W => Below w.heap.size w W ∧ BoxAt W w.heap.size #[.int .i64 0, .int .i64 0, .int .i64 0, .int .i64 0, .bool false, .int .i64 0, .bool false, .int .i64 0, .int .i64 0, .int .i64 0, .bool false, .int .i64 0] 27) ⟨(Below.refl _ _).alloc (Nat.le_refl _) _, BoxAt.new _ _ _⟩ ?_
  rintro W0 ⟨hB, hx⟩
  refine (drawHandOk_any a0 len cap _ ((hc.below hB).le hB.size)).mono ?_
  rintro e w2 ⟨h, rfl, hb1⟩
  replace hx := hx.below hb1 hx.lt
  replace hB := bstep hB hB.size hb1
  clear hb1
  unfold hdV
  have kx := hx.cell
  have fx := hx.frozen
  go_wp2
  refine bodyPost_ret (v := hdV h) (by simp [results, Try.results10, go_sem, kx, hdV]) rfl ⟨h, rfl, ?_⟩
  exact Below.setCells (Nat.le_refl _) [.int .i64 h.at_, .int .i64 h.v, .int .i64 h.r, .int .i64 h.t, .bool h.seen.s, .int .i64 h.seen.n, .bool h.seen.f, .int .i64 h.seen.v, .int .i64 h.tr, .int .i64 h.sp, .bool h.ag, .int .i64 h.re] 0 hB

set_option maxRecDepth 100000 in
set_option maxHeartbeats 2000000 in
theorem drawToPut_any (a0 : Option Addr) (len cap : Nat) (w : World) (hc : CodeOk w.heap.size w a0 len) :
    Calls Try.prog 6 #[.slice a0 len cap] w (DrawnHI w) := by
  go_enter Try.func6, Try.ntmps6
  go_wp2_with fail
  refine calls_abs (fun W => Below w.heap.size w W ∧ BoxAt W w.heap.size #[.int .i64 0, .int .i64 0, .int .i64 0, .int .i64 0, .bool false, .int .i64 0, .bool false, .int .i64 0, .int .i64 0, .int .i64 0, .bool false, .int .i64 0] 27) ⟨(Below.refl _ _).alloc (Nat.le_refl _) _, BoxAt.new _ _ _⟩ ?_
  rintro W0 ⟨hB, hx⟩
  refine (drawHandOk_any a0 len cap _ ((hc.below hB).le hB.size)).mono ?_
  rintro e w2 ⟨h, rfl, hb1⟩
  replace hx := hx.below hb1 hx.lt
  replace hB := bstep hB hB.size hb1
  clear hb1
  unfold hdV
  have lx2 := hx.lt
  go_wp2_with fail
  refine calls_abs (fun W => Below w.heap.size w W ∧ BoxAt W w.heap.size #[.int .i64 0, .int .i64 0, .int .i64 0, .int .i64 0, .bool false, .int .i64 0, .bool false, .int .i64 0, .int .i64 0, .int .i64 0, .bool false, .int .i64 0] 27 ∧ BoxAt W w2.heap.size #[.int .i64 h.at_, .int .i64 h.v, .int .i64 h.r, .int .i64 h.t, .bool h.seen.s, .int .i64 h.seen.n, .bool h.seen.f, .int .i64 h.seen.v, .int .i64 h.tr, .int .i64 h.sp, .bool h.ag, .int .i64 h.re] 27) ⟨hB.alloc hB.size _, hx.alloc _, BoxAt.new _ _ _⟩ ?_
  clear hB hx
  generalize w2.heap.size = H4 at *
  rintro W1 ⟨hB, hx, hh⟩
  refine (l1New_any w.heap.size a0 len cap _ (hc.below hB)).mono ?_
  rintro e w3 ⟨h0, rfl, rfl⟩
  have lh := hh.lt
  go_wp2_with fail
  generalize hk : W1.heap.size = k at *
  refine calls_abs (fun W => Below w.heap.size w W ∧ BoxAt W w.heap.size #[.int .i64 0, .int .i64 0, .int .i64 0, .int .i64 0, .bool false, .int .i64 0, .bool false, .int .i64 0, .int .i64 0, .int .i64 0, .bool false, .int .i64 0] 27 ∧ BoxAt W H4 #[.int .i64 h.at_, .int .i64 h.v, .int .i64 h.r, .int .i64 h.t, .bool h.seen.s, .int .i64 h.seen.n, .bool h.seen.f, .int .i64 h.seen.v, .int .i64 h.tr, .int .i64 h.sp, .bool h.ag, .int .i64 h.re] 27 ∧ CurAt W k a0 len cap) ⟨hB.alloc (by omega) _, hx.alloc _, hh.alloc _, 0, h0, Nat.zero_le _, by rw [← hk]; exact BoxAt.new _ _ _⟩ ?_
  clear hB hx hh
  rintro W2 ⟨hB, hx, hh, hcur⟩
  refine (l1Once_any w.heap.size k a0 len cap _ _ (hc.below hB) (by omega) hB.size hcur (by omega)).mono ?_
  rintro e w4 ⟨b, rfl, hb1, hcur1⟩
  replace hx := hb1.box hx (by omega)
  replace hh := hb1.box hh (by omega)
  replace hB := hB.trans (hb1.below (by omega) hB.size)
  clear hb1 hcur
  have hcur := hcur1
  clear hcur1
  go_upto_if 12 with fail
  go_cut [14] (fun u14 W' => ∃ h : Hd, Below w.heap.size w W' ∧ BoxAt W' w.heap.size #[.int .i64 0, .int .i64 0, .int .i64 0, .int .i64 0, .bool false, .int .i64 0, .bool false, .int .i64 0, .int .i64 0, .int .i64 0, .bool false, .int .i64 0] 27 ∧ BoxAt W' H4 #[.int .i64 h.at_, .int .i64 h.v, .int .i64 h.r, .int .i64 h.t, .bool h.seen.s, .int .i64 h.seen.n, .bool h.seen.f, .int .i64 h.seen.v, .int .i64 h.tr, .int .i64 h.sp, .bool h.ag, .int .i64 h.re] 27 ∧ CurAt W' k a0 len cap)
  case first =>
    cases b
    · go_wp2
      go_meet
      exact ⟨h, hB, hx, hh, hcur⟩
    · go_wp2_with fail
      refine (l1From_any w.heap.size k a0 len cap _ _ _ (hc.below hB) (by omega) hB.size hcur (by omega) (by omega) (by omega)).mono ?_
      rintro e w5 ⟨v, hv, rfl, hb1, hcur1⟩
      replace hx := hb1.box hx (by omega)
      replace hh := hb1.box hh (by omega)
      replace hB := hB.trans (hb1.below (by omega) hB.size)
      clear hb1 hcur
      have hcur := hcur1
      clear hcur1
      go_wp2_with fail
      refine (l1Below_any w.heap.size k a0 len cap _ _ (hc.below hB) (by omega) hB.size hcur (by omega)).mono ?_
      rintro e w6 ⟨u, hu, rfl, hb1, hcur1⟩
      replace hx := hb1.box hx (by omega)
      replace hh := hb1.box hh (by omega)
      replace hB := hB.trans (hb1.below (by omega) hB.size)
      clear hb1 hcur
      have hcur := hcur1
      clear hcur1
      have kh := hh.cell
      have fh := hh.frozen
      go_wp2
      go_meet
      refine ⟨{ Hd.zero with sp := v, re := u }, Below.setCells (by omega) [.int .i64 0, .int .i64 0, .int .i64 0, .int .i64 0, .bool false, .int .i64 0, .bool false, .int .i64 0, .int .i64 0, .int .i64 v, .bool false, .int .i64 u] 0 hB, BoxAt.sets_ne [.int .i64 0, .int .i64 0, .int .i64 0, .int .i64 0, .bool false, .int .i64 0, .bool false, .int .i64 0, .int .i64 0, .int .i64 v, .bool false, .int .i64 u] 0 hx (by omega), sets_all (us := [.int .i64 0, .int .i64 0, .int .i64 0, .int .i64 0, .bool false, .int .i64 0, .bool false, .int .i64 0, .int .i64 0, .int .i64 v, .bool false, .int .i64 u]) hh rfl, CurAt.sets hcur (by omega) [.int .i64 0, .int .i64 0, .int .i64 0, .int .i64 0, .bool false, .int .i64 0, .bool false, .int .i64 0, .int .i64 0, .int .i64 v, .bool false, .int .i64 u] 0⟩
  case rest =>
    clear hB hx hh hcur
    obtain ⟨h, hB, hx, hh, hcur⟩ := hcut
    have lh := hh.lt
    go_wp2_with fail
    refine (l1Below_any w.heap.size k a0 len cap _ _ (hc.below hB) (by omega) hB.size hcur (by omega)).mono ?_
    rintro e w5 ⟨v, hv, rfl, hb1, hcur1⟩
    replace hx := hb1.box hx (by omega)
    replace hh := hb1.box hh (by omega)
    replace hB := hB.trans (hb1.below (by omega) hB.size)
    clear hb1 hcur
    have hcur := hcur1
    clear hcur1
    go_wp2_with fail
    refine (l1Once_any w.heap.size k a0 len cap _ _ (hc.below hB) (by omega) hB.size hcur (by omega)).mono ?_
    rintro e w6 ⟨b, rfl, hb1, hcur1⟩
    replace hx := hb1.box hx (by omega)
    replace hh := hb1.box hh (by omega)
    replace hB := hB.trans (hb1.below (by omega) hB.size)
    clear hb1 hcur
    have hcur := hcur1
    clear hcur1
    go_upto_if 22 with fail
    go_cut [6] (fun u6 W' => ∃ z : Int, u6 = .int .i64 z ∧ Below w.heap.size w W' ∧ BoxAt W' w.heap.size #[.int .i64 0, .int .i64 0, .int .i64 0, .int .i64 0, .bool false, .int .i64 0, .bool false, .int .i64 0, .int .i64 0, .int .i64 0, .bool false, .int .i64 0] 27 ∧ BoxAt W' H4 #[.int .i64 h.at_, .int .i64 h.v, .int .i64 h.r, .int .i64 h.t, .bool h.seen.s, .int .i64 h.seen.n, .bool h.seen.f, .int .i64 h.seen.v, .int .i64 h.tr, .int .i64 h.sp, .bool h.ag, .int .i64 h.re] 27)
    case first =>
      cases b
      · go_wp2
        go_meet
        exact ⟨_, rfl, hB, hx, hh⟩
      · go_wp2_with fail
        have lk7 := hcur.lt
        refine calls_abs (fun W => Below w.heap.size w W ∧ BoxAt W w.heap.size #[.int .i64 0, .int .i64 0, .int .i64 0, .int .i64 0, .bool false, .int .i64 0, .bool false, .int .i64 0, .int .i64 0, .int .i64 0, .bool false, .int .i64 0] 27 ∧ BoxAt W H4 #[.int .i64 h.at_, .int .i64 h.v, .int .i64 h.r, .int .i64 h.t, .bool h.seen.s, .int .i64 h.seen.n, .bool h.seen.f, .int .i64 h.seen.v, .int .i64 h.tr, .int .i64 h.sp, .bool h.ag, .int .i64 h.re] 27 ∧ CurAt W k a0 len cap ∧ BoxAt W w6.heap.size #[.int .i64 0, .int .i64 1000000, .int .i64 1000001] 2) ⟨hB.alloc hB.size _, hx.alloc _, hh.alloc _, hcur.alloc _, BoxAt.new _ _ _⟩ ?_
        clear hB hx hh hcur
        rintro W7 ⟨hB, hx, hh, hcur, hlit⟩
        refine (l1Below_any w.heap.size k a0 len cap _ _ (hc.below hB) (by omega) hB.size hcur (by omega)).mono ?_
        rintro e w7 ⟨u, ⟨u0, u1⟩, rfl, hb1, hcur1⟩
        replace hlit := hb1.box hlit (by omega)
        replace hx := hb1.box hx (by omega)
        replace hh := hb1.box hh (by omega)
        replace hB := hB.trans (hb1.below (by omega) hB.size)
        clear hb1 hcur
        have hcur := hcur1
        clear hcur1
        have kl := hlit.cell
        have hu : u = 0 ∨ u = 1 ∨ u = 2 := by omega
        rcases hu with rfl | rfl | rfl
        all_goals
          go_wp2
          go_meet
          exact ⟨_, rfl, hB, hx, hh⟩
    case rest =>
      clear hB hx hh hcur
      obtain ⟨z, rfl, hB, hx, hh⟩ := hcut
      have kx := hx.cell
      have fx := hx.frozen
      have kh := hh.cell
      go_wp2
      refine bodyPost_ret (v := .tuple #[hdV h, .int .i64 z]) (by simp [results, Try.results6, go_sem, kx, hdV]) rfl ⟨h, z, rfl, ?_⟩
      exact Below.setCells (Nat.le_refl _) [.int .i64 h.at_, .int .i64 h.v, .int .i64 h.r, .int .i64 h.t, .bool h.seen.s, .int .i64 h.seen.n, .bool h.seen.f, .int .i64 h.seen.v, .int .i64 h.tr, .int .i64 h.sp, .bool h.ag, .int .i64 h.re] 0 hB

set_option maxRecDepth 100000 in
set_option maxHeartbeats 1000000 in
theorem drawToTake_any (a0 : Option Addr) (len cap : Nat) (w : World) (hc : CodeOk w.heap.size w a0 len) :
    Calls Try.prog 8 #[.slice a0 len cap] w (DrawnH w) := by
  go_enter Try.func8, Try.ntmps8
  go_wp2_with fail
  refine calls_abs (fun W => Below w.heap.size w W ∧ BoxAt W w.heap.size #[.int .i64 0, .int .i64 0, .int .i64 0, .int .i64 0, .bool false, .int .i64 0, .bool false, .int .i64 0, .int .i64 0, .int .i64 0, .bool false, .int .i64 0] 27) ⟨(Below.refl _ _).alloc (Nat.le_refl _) _, BoxAt.new _ _ _⟩ ?_
  rintro W0 ⟨hB, hx⟩
  refine (drawToPut_any a0 len cap _ ((hc.below hB).le hB.size)).mono ?_
  rintro e w2 ⟨h, v, rfl, hb1⟩
  replace hx := hx.below hb1 hx.lt
  replace hB := bstep hB hB.size hb1
  clear hb1
  have lx2 := hx.lt
  unfold hdV
  go_upto_region 2 with fail
  refine wp_abs (fun W => Below w.heap.size w W ∧ BoxAt W w.heap.size #[.int .i64 0, .int .i64 0, .int .i64 0, .int .i64 0, .bool false, .int .i64 0, .bool false, .int .i64 0, .int .i64 0, .int .i64 0, .bool false, .int .i64 0] 27 ∧ BoxAt W w2.heap.size #[.int .i64 h.at_, .int .i64 h.v, .int .i64 h.r, .int .i64 h.t, .bool h.seen.s, .int .i64 h.seen.n, .bool h.seen.f, .int .i64 h.seen.v, .int .i64 h.tr, .int .i64 h.sp, .bool h.ag, .int .i64 h.re] 27) ⟨hB.alloc hB.size _, hx.alloc _, BoxAt.new _ _ _⟩ ?_
  clear hB hx
  rintro W3 ⟨hB, hx, hh⟩
  have kx := hx.cell
  have fx := hx.frozen
  have kh := hh.cell
  go_wp2
  refine bodyPost_ret (v := hdV h) (by simp [results, Try.results8, go_sem, kx, hdV]) rfl ⟨h, rfl, ?_⟩
  exact Below.setCells (Nat.le_refl _) [.int .i64 h.at_, .int .i64 h.v, .int .i64 h.r, .int .i64 h.t, .bool h.seen.s, .int .i64 h.seen.n, .bool h.seen.f, .int .i64 h.seen.v, .int .i64 h.tr, .int .i64 h.sp, .bool h.ag, .int .i64 h.re] 0 hB

end Go.Proofs.Ytaieigdnfdnnpaa


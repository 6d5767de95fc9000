/-
  The draws of chapter 5: any hand, any value.
-/
import Derived.Test.YtbdgkmamieagfaaDrwE
namespace Go.Proofs.Ytbdgkmamieagfaa
set_option linter.unusedSimpArgs false
set_option linter.unusedVariables false
open Go.RowKit
set_option linter.unusedVariables false
attribute [local go_sem ↓] Go.wp_at_zero Go.wp_at_succ

theorem CodeOk.le {N M : Nat} {w : World} {a0 : Option Addr} {len : Nat} (h : CodeOk N w a0 len) (hM : N ≤ M) : CodeOk M w a0 len := by
  refine ⟨h.1, fun hl => ?_⟩
  obtain ⟨b, off, e, hn, hs, hc⟩ := h.2 hl
  exact ⟨b, off, e, by omega, hs, hc⟩

/-- A hand is drawn; old memory is as it was. -/
def DrawnH (w : World) (e : Ending) (w' : World) : Prop := ∃ h : Hd, e = .returned (hdV h) ∧ Below w.heap.size w w'
def DrawnHI (w : World) (e : Ending) (w' : World) : Prop := ∃ (h : Hd) (v : Int), e = .returned (.tuple #[hdV h, .int .i64 v]) ∧ Below w.heap.size w w'

set_option maxRecDepth 100000 in
set_option maxHeartbeats 1000000 in
theorem drawHandOk_any (a0 : Option Addr) (len cap : Nat) (w : World) (hc : CodeOk w.heap.size w a0 len) :
    Calls Try.prog 50 #[.slice a0 len cap] w (DrawnH w) := by
  go_enter Try.func50, Try.ntmps50
  go_wp2_with fail
  refine calls_abs (fun W => Below w.heap.size w W ∧ BoxAt W w.heap.size #[.int .i64 0, .int .i64 0, .int .i64 0, .int .i64 0, .bool false, .int .i64 0, .bool false, .int .i64 0, .int .i64 0, .int .i64 0, .bool false, .int .i64 0] 41) ⟨(Below.refl _ _).alloc (Nat.le_refl _) _, BoxAt.new _ _ _⟩ ?_
  rintro W0 ⟨hB, hx⟩
  have lx := hx.lt
  refine (l1New_any w.heap.size a0 len cap _ (hc.below hB)).mono ?_
  rintro e w1 ⟨h0, rfl, rfl⟩
  go_wp2_with fail
  generalize hk : W0.heap.size = k at *
  refine calls_abs (fun W => Below w.heap.size w W ∧ BoxAt W w.heap.size #[.int .i64 0, .int .i64 0, .int .i64 0, .int .i64 0, .bool false, .int .i64 0, .bool false, .int .i64 0, .int .i64 0, .int .i64 0, .bool false, .int .i64 0] 41 ∧ CurAt W k a0 len cap) ⟨hB.alloc hB.size _, hx.alloc _, 0, h0, Nat.zero_le _, by rw [← hk]; exact BoxAt.new _ _ _⟩ ?_
  clear hB hx
  rintro W1 ⟨hB, hx, hcur⟩
  refine (l5DrawAny_any w.heap.size k a0 len cap _ (hc.below hB) (by omega) hB.size hcur).mono ?_
  rintro e w2 ⟨s, A, n, c, h, rfl, -, -, hb1, -⟩
  replace hx := hb1.box hx (by omega)
  replace hB := hB.trans (hb1.below (by omega) hB.size)
  clear hb1 hcur
  have lx2 := hx.lt
  unfold stV hdV
  go_upto_region 3 with fail
  refine wp_abs (fun W => Below w.heap.size w W ∧ BoxAt W w.heap.size #[.int .i64 0, .int .i64 0, .int .i64 0, .int .i64 0, .bool false, .int .i64 0, .bool false, .int .i64 0, .int .i64 0, .int .i64 0, .bool false, .int .i64 0] 41 ∧ BoxAt W (w2.heap.size + 1) #[.int .i64 h.at_, .int .i64 h.v, .int .i64 h.r, .int .i64 h.t, .bool h.seen.s, .int .i64 h.seen.n, .bool h.seen.f, .int .i64 h.seen.v, .int .i64 h.tr, .int .i64 h.sp, .bool h.ag, .int .i64 h.re] 41) ⟨(hB.alloc hB.size _).alloc (by have := hB.size; simp; omega) _, (hx.alloc _).alloc _, BoxAt.new' (by simp)⟩ ?_
  clear hB hx
  rintro W3 ⟨hB, hx, hh⟩
  have kx := hx.cell
  have fx := hx.frozen
  have kh := hh.cell
  go_wp2
  refine bodyPost_ret (v := hdV h) (by simp [results, Try.results50, go_sem, kx, hdV]) rfl ⟨h, rfl, ?_⟩
  exact Below.setCells (Nat.le_refl _) [.int .i64 h.at_, .int .i64 h.v, .int .i64 h.r, .int .i64 h.t, .bool h.seen.s, .int .i64 h.seen.n, .bool h.seen.f, .int .i64 h.seen.v, .int .i64 h.tr, .int .i64 h.sp, .bool h.ag, .int .i64 h.re] 0 hB

set_option maxRecDepth 100000 in
set_option maxHeartbeats 1000000 in
theorem drawIsPutting_any (a0 : Option Addr) (len cap : Nat) (w : World) (hc : CodeOk w.heap.size w a0 len) :
    Calls Try.prog 22 #[.slice a0 len cap] w (DrawnH w) := by
  go_enter Try.func22, Try.ntmps22
  go_wp2_with fail
  refine calls_abs (fun W => Below w.heap.size w W ∧ BoxAt W w.heap.size #[.int .i64 0, .int .i64 0, .int .i64 0, .int .i64 0, .bool false, .int .i64 0, .bool false, .int .i64 0, .int .i64 0, .int .i64 0, .bool false, .int .i64 0] 41) ⟨(Below.refl _ _).alloc (Nat.le_refl _) _, BoxAt.new _ _ _⟩ ?_
  rintro W0 ⟨hB, hx⟩
  refine (drawHandOk_any a0 len cap _ ((hc.below hB).le hB.size)).mono ?_
  rintro e w2 ⟨h, rfl, hb1⟩
  replace hx := hx.below hb1 hx.lt
  replace hB := bstep hB hB.size hb1
  clear hb1
  unfold hdV
  have kx := hx.cell
  have fx := hx.frozen
  go_wp2
  refine bodyPost_ret (v := hdV h) (by simp [results, Try.results22, go_sem, kx, hdV]) rfl ⟨h, rfl, ?_⟩
  exact Below.setCells (Nat.le_refl _) [.int .i64 h.at_, .int .i64 h.v, .int .i64 h.r, .int .i64 h.t, .bool h.seen.s, .int .i64 h.seen.n, .bool h.seen.f, .int .i64 h.seen.v, .int .i64 h.tr, .int .i64 h.sp, .bool h.ag, .int .i64 h.re] 0 hB

set_option maxRecDepth 100000 in
set_option maxHeartbeats 2000000 in
theorem drawToPut_any (a0 : Option Addr) (len cap : Nat) (w : World) (hc : CodeOk w.heap.size w a0 len) :
    Calls Try.prog 18 #[.slice a0 len cap] w (DrawnHI w) := by
  go_enter Try.func18, Try.ntmps18
  go_wp2_with fail
  refine calls_abs (fun W => Below w.heap.size w W ∧ BoxAt W w.heap.size #[.int .i64 0, .int .i64 0, .int .i64 0, .int .i64 0, .bool false, .int .i64 0, .bool false, .int .i64 0, .int .i64 0, .int .i64 0, .bool false, .int .i64 0] 41) ⟨(Below.refl _ _).alloc (Nat.le_refl _) _, BoxAt.new _ _ _⟩ ?_
  rintro W0 ⟨hB, hx⟩
  refine (drawHandOk_any a0 len cap _ ((hc.below hB).le hB.size)).mono ?_
  rintro e w2 ⟨h, rfl, hb1⟩
  replace hx := hx.below hb1 hx.lt
  replace hB := bstep hB hB.size hb1
  clear hb1
  unfold hdV
  have lx2 := hx.lt
  go_wp2_with fail
  refine calls_abs (fun W => Below w.heap.size w W ∧ BoxAt W w.heap.size #[.int .i64 0, .int .i64 0, .int .i64 0, .int .i64 0, .bool false, .int .i64 0, .bool false, .int .i64 0, .int .i64 0, .int .i64 0, .bool false, .int .i64 0] 41 ∧ BoxAt W w2.heap.size #[.int .i64 h.at_, .int .i64 h.v, .int .i64 h.r, .int .i64 h.t, .bool h.seen.s, .int .i64 h.seen.n, .bool h.seen.f, .int .i64 h.seen.v, .int .i64 h.tr, .int .i64 h.sp, .bool h.ag, .int .i64 h.re] 41) ⟨hB.alloc hB.size _, hx.alloc _, BoxAt.new _ _ _⟩ ?_
  clear hB hx
  generalize w2.heap.size = H4 at *
  rintro W1 ⟨hB, hx, hh⟩
  refine (l1New_any w.heap.size a0 len cap _ (hc.below hB)).mono ?_
  rintro e w3 ⟨h0, rfl, rfl⟩
  have lh := hh.lt
  go_wp2_with fail
  generalize hk : W1.heap.size = k at *
  refine calls_abs (fun W => Below w.heap.size w W ∧ BoxAt W w.heap.size #[.int .i64 0, .int .i64 0, .int .i64 0, .int .i64 0, .bool false, .int .i64 0, .bool false, .int .i64 0, .int .i64 0, .int .i64 0, .bool false, .int .i64 0] 41 ∧ BoxAt W H4 #[.int .i64 h.at_, .int .i64 h.v, .int .i64 h.r, .int .i64 h.t, .bool h.seen.s, .int .i64 h.seen.n, .bool h.seen.f, .int .i64 h.seen.v, .int .i64 h.tr, .int .i64 h.sp, .bool h.ag, .int .i64 h.re] 41 ∧ CurAt W k a0 len cap) ⟨hB.alloc (by omega) _, hx.alloc _, hh.alloc _, 0, h0, Nat.zero_le _, by rw [← hk]; exact BoxAt.new _ _ _⟩ ?_
  clear hB hx hh
  rintro W2 ⟨hB, hx, hh, hcur⟩
  refine (l1Once_any w.heap.size k a0 len cap _ _ (hc.below hB) (by omega) hB.size hcur (by omega)).mono ?_
  rintro e w4 ⟨b, rfl, hb1, hcur1⟩
  replace hx := hb1.box hx (by omega)
  replace hh := hb1.box hh (by omega)
  replace hB := hB.trans (hb1.below (by omega) hB.size)
  clear hb1 hcur
  have hcur := hcur1
  clear hcur1
  go_upto_if 12 with fail
  go_cut [14] (fun u14 W' => ∃ h : Hd, Below w.heap.size w W' ∧ BoxAt W' w.heap.size #[.int .i64 0, .int .i64 0, .int .i64 0, .int .i64 0, .bool false, .int .i64 0, .bool false, .int .i64 0, .int .i64 0, .int .i64 0, .bool false, .int .i64 0] 41 ∧ BoxAt W' H4 #[.int .i64 h.at_, .int .i64 h.v, .int .i64 h.r, .int .i64 h.t, .bool h.seen.s, .int .i64 h.seen.n, .bool h.seen.f, .int .i64 h.seen.v, .int .i64 h.tr, .int .i64 h.sp, .bool h.ag, .int .i64 h.re] 41 ∧ CurAt W' k a0 len cap)
  case first =>
    cases b
    · go_wp2
      go_meet
      exact ⟨h, hB, hx, hh, hcur⟩
    · go_wp2_with fail
      refine (l1From_any w.heap.size k a0 len cap _ _ _ (hc.below hB) (by omega) hB.size hcur (by omega) (by omega) (by omega)).mono ?_
      rintro e w5 ⟨v, hv, rfl, hb1, hcur1⟩
      replace hx := hb1.box hx (by omega)
      replace hh := hb1.box hh (by omega)
      replace hB := hB.trans (hb1.below (by omega) hB.size)
      clear hb1 hcur
      have hcur := hcur1
      clear hcur1
      go_wp2_with fail
      refine (l1Below_any w.heap.size k a0 len cap _ _ (hc.below hB) (by omega) hB.size hcur (by omega)).mono ?_
      rintro e w6 ⟨u, hu, rfl, hb1, hcur1⟩
      replace hx := hb1.box hx (by omega)
      replace hh := hb1.box hh (by omega)
      replace hB := hB.trans (hb1.below (by omega) hB.size)
      clear hb1 hcur
      have hcur := hcur1
      clear hcur1
      have kh := hh.cell
      have fh := hh.frozen
      go_wp2
      go_meet
      refine ⟨{ Hd.zero with sp := v, re := u }, Below.setCells (by omega) [.int .i64 0, .int .i64 0, .int .i64 0, .int .i64 0, .bool false, .int .i64 0, .bool false, .int .i64 0, .int .i64 0, .int .i64 v, .bool false, .int .i64 u] 0 hB, BoxAt.sets_ne [.int .i64 0, .int .i64 0, .int .i64 0, .int .i64 0, .bool false, .int .i64 0, .bool false, .int .i64 0, .int .i64 0, .int .i64 v, .bool false, .int .i64 u] 0 hx (by omega), sets_all (us := [.int .i64 0, .int .i64 0, .int .i64 0, .int .i64 0, .bool false, .int .i64 0, .bool false, .int .i64 0, .int .i64 0, .int .i64 v, .bool false, .int .i64 u]) hh rfl, CurAt.sets hcur (by omega) [.int .i64 0, .int .i64 0, .int .i64 0, .int .i64 0, .bool false, .int .i64 0, .bool false, .int .i64 0, .int .i64 0, .int .i64 v, .bool false, .int .i64 u] 0⟩
  case rest =>
    clear hB hx hh hcur
    obtain ⟨h, hB, hx, hh, hcur⟩ := hcut
    have lh := hh.lt
    go_wp2_with fail
    refine (l1Below_any w.heap.size k a0 len cap _ _ (hc.below hB) (by omega) hB.size hcur (by omega)).mono ?_
    rintro e w5 ⟨v, hv, rfl, hb1, hcur1⟩
    replace hx := hb1.box hx (by omega)
    replace hh := hb1.box hh (by omega)
    replace hB := hB.trans (hb1.below (by omega) hB.size)
    clear hb1 hcur
    have hcur := hcur1
    clear hcur1
    go_wp2_with fail
    refine (l1Once_any w.heap.size k a0 len cap _ _ (hc.below hB) (by omega) hB.size hcur (by omega)).mono ?_
    rintro e w6 ⟨b, rfl, hb1, hcur1⟩
    replace hx := hb1.box hx (by omega)
    replace hh := hb1.box hh (by omega)
    replace hB := hB.trans (hb1.below (by omega) hB.size)
    clear hb1 hcur
    have hcur := hcur1
    clear hcur1
    go_upto_if 22 with fail
    go_cut [6] (fun u6 W' => ∃ z : Int, u6 = .int .i64 z ∧ Below w.heap.size w W' ∧ BoxAt W' w.heap.size #[.int .i64 0, .int .i64 0, .int .i64 0, .int .i64 0, .bool false, .int .i64 0, .bool false, .int .i64 0, .int .i64 0, .int .i64 0, .bool false, .int .i64 0] 41 ∧ BoxAt W' H4 #[.int .i64 h.at_, .int .i64 h.v, .int .i64 h.r, .int .i64 h.t, .bool h.seen.s, .int .i64 h.seen.n, .bool h.seen.f, .int .i64 h.seen.v, .int .i64 h.tr, .int .i64 h.sp, .bool h.ag, .int .i64 h.re] 41)
    case first =>
      cases b
      · go_wp2
        go_meet
        exact ⟨_, rfl, hB, hx, hh⟩
      · go_wp2_with fail
        have lk7 := hcur.lt
        refine calls_abs (fun W => Below w.heap.size w W ∧ BoxAt W w.heap.size #[.int .i64 0, .int .i64 0, .int .i64 0, .int .i64 0, .bool false, .int .i64 0, .bool false, .int .i64 0, .int .i64 0, .int .i64 0, .bool false, .int .i64 0] 41 ∧ BoxAt W H4 #[.int .i64 h.at_, .int .i64 h.v, .int .i64 h.r, .int .i64 h.t, .bool h.seen.s, .int .i64 h.seen.n, .bool h.seen.f, .int .i64 h.seen.v, .int .i64 h.tr, .int .i64 h.sp, .bool h.ag, .int .i64 h.re] 41 ∧ CurAt W k a0 len cap ∧ BoxAt W w6.heap.size #[.int .i64 0, .int .i64 1000000, .int .i64 1000001] 2) ⟨hB.alloc hB.size _, hx.alloc _, hh.alloc _, hcur.alloc _, BoxAt.new _ _ _⟩ ?_
        clear hB hx hh hcur
        rintro W7 ⟨hB, hx, hh, hcur, hlit⟩
        refine (l1Below_any w.heap.size k a0 len cap _ _ (hc.below hB) (by omega) hB.size hcur (by omega)).mono ?_
        rintro e w7 ⟨u, ⟨u0, u1⟩, rfl, hb1, hcur1⟩
        replace hlit := hb1.box hlit (by omega)
        replace hx := hb1.box hx (by omega)
        replace hh := hb1.box hh (by omega)
        replace hB := hB.trans (hb1.below (by omega) hB.size)
        clear hb1 hcur
        have hcur := hcur1
        clear hcur1
        have kl := hlit.cell
        have hu : u = 0 ∨ u = 1 ∨ u = 2 := by omega
        rcases hu with rfl | rfl | rfl
        all_goals
          go_wp2
          go_meet
          exact ⟨_, rfl, hB, hx, hh⟩
    case rest =>
      clear hB hx hh hcur
      obtain ⟨z, rfl, hB, hx, hh⟩ := hcut
      have kx := hx.cell
      have fx := hx.frozen
      have kh := hh.cell
      go_wp2
      refine bodyPost_ret (v := .tuple #[hdV h, .int .i64 z]) (by simp [results, Try.results18, go_sem, kx, hdV]) rfl ⟨h, z, rfl, ?_⟩
      exact Below.setCells (Nat.le_refl _) [.int .i64 h.at_, .int .i64 h.v, .int .i64 h.r, .int .i64 h.t, .bool h.seen.s, .int .i64 h.seen.n, .bool h.seen.f, .int .i64 h.seen.v, .int .i64 h.tr, .int .i64 h.sp, .bool h.ag, .int .i64 h.re] 0 hB

set_option maxRecDepth 100000 in
set_option maxHeartbeats 1000000 in
theorem drawToTake_any (a0 : Option Addr) (len cap : Nat) (w : World) (hc : CodeOk w.heap.size w a0 len) :
    Calls Try.prog 20 #[.slice a0 len cap] w (DrawnH w) := by
  go_enter Try.func20, Try.ntmps20
  go_wp2_with fail
  refine calls_abs (fun W => Below w.heap.size w W ∧ BoxAt W w.heap.size #[.int .i64 0, .int .i64 0, .int .i64 0, .int .i64 0, .bool false, .int .i64 0, .bool false, .int .i64 0, .int .i64 0, .int .i64 0, .bool false, .int .i64 0] 41) ⟨(Below.refl _ _).alloc (Nat.le_refl _) _, BoxAt.new _ _ _⟩ ?_
  rintro W0 ⟨hB, hx⟩
  refine (drawToPut_any a0 len cap _ ((hc.below hB).le hB.size)).mono ?_
  rintro e w2 ⟨h, v, rfl, hb1⟩
  replace hx := hx.below hb1 hx.lt
  replace hB := bstep hB hB.size hb1
  clear hb1
  have lx2 := hx.lt
  unfold hdV
  go_upto_region 2 with fail
  refine wp_abs (fun W => Below w.heap.size w W ∧ BoxAt W w.heap.size #[.int .i64 0, .int .i64 0, .int .i64 0, .int .i64 0, .bool false, .int .i64 0, .bool false, .int .i64 0, .int .i64 0, .int .i64 0, .bool false, .int .i64 0] 41 ∧ BoxAt W w2.heap.size #[.int .i64 h.at_, .int .i64 h.v, .int .i64 h.r, .int .i64 h.t, .bool h.seen.s, .int .i64 h.seen.n, .bool h.seen.f, .int .i64 h.seen.v, .int .i64 h.tr, .int .i64 h.sp, .bool h.ag, .int .i64 h.re] 41) ⟨hB.alloc hB.size _, hx.alloc _, BoxAt.new _ _ _⟩ ?_
  clear hB hx
  rintro W3 ⟨hB, hx, hh⟩
  have kx := hx.cell
  have fx := hx.frozen
  have kh := hh.cell
  go_wp2
  refine bodyPost_ret (v := hdV h) (by simp [results, Try.results20, go_sem, kx, hdV]) rfl ⟨h, rfl, ?_⟩
  exact Below.setCells (Nat.le_refl _) [.int .i64 h.at_, .int .i64 h.v, .int .i64 h.r, .int .i64 h.t, .bool h.seen.s, .int .i64 h.seen.n, .bool h.seen.f, .int .i64 h.seen.v, .int .i64 h.tr, .int .i64 h.sp, .bool h.ag, .int .i64 h.re] 0 hB

end Go.Proofs.Ytbdgkmamieagfaa

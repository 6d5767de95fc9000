/-
  The program's Lined and Orders.
-/
import Derived.Test.YtdfbbekolcpbmaaOrdG
namespace Go.Proofs.Ytdfbbekolcpbmaa
set_option linter.unusedSimpArgs false
set_option linter.unusedVariables false
open Go.RowKit Go.Shelf
set_option linter.unusedVariables false
attribute [local go_sem] Oper.semAt_some
attribute [local go_sem ↓] Go.wp_at_zero Go.wp_at_succ

def linedB (l : List Ev) : Bool := decide (l.length ≤ 8) && storyOk l && decide (0 < cntO l.length l [])
def ordersZ (l : List Ev) : Int := bif decide (l.length ≤ 6) && storyOk l then (cntO l.length l [] : Int) else -1

/-- What the makers leave. -/
theorem ords_seq {X : Nat} {l : List Ev} {A : Option Addr} {n cap lo hi : Nat} {w w5 : World} (h : EvsW lo hi w A n cap l) (hh : hi ≤ w.heap.size) (hX : X < w.heap.size) (hXl : X < lo ∨ hi ≤ X) (hn : n ≤ 4096)
    (hw5 : w5 = (w.alloc (.cells #[.slice none 0 0] 32)).alloc (.cells #[.slice A n cap] 25)) :
    OrdSeq Try.prog X (cntO l.length l []) 31 #[.pointer (some ⟨w.heap.size + 1, 0, none⟩), .pointer (some ⟨w.heap.size, 0, none⟩)] w5 := by
  have hb5 : Below w.heap.size w w5 := by rw [hw5]; exact ((Below.refl _ _).alloc (Nat.le_refl _) _).alloc (by simp) _
  have hs5 : w5.heap.size = w.heap.size + 2 := by rw [hw5]; simp
  have hat : OrdAt X (w.heap.size + 1) w.heap.size l A n cap lo hi [] none 0 0 w.heap.size w.heap.size w5 := by
    have h1 : BoxAt w5 (w.heap.size + 1) #[.slice A n cap] 25 := by rw [hw5]; exact BoxAt.new' (by simp)
    have h2 : BoxAt w5 w.heap.size #[.slice none 0 0] 32 := by rw [hw5]; exact (BoxAt.new _ _ _).alloc _
    exact ⟨h1, h2, SlW.below h hb5 hh, SlW.nil, by omega, by omega, hXl, .inl hX, by omega, by omega⟩
  exact fun l' J' Jx' W' hW' hJ' hJx' hY' h0' =>
    ords_in l.length l [] X l' _ _ A n cap _ _ none 0 0 _ _ J' Jx' W' rfl hn (by omega) (by have := hW'.size; omega) hJ' hJx' (hat.kp (.below (B := 0) hW')) hY' h0'

set_option maxRecDepth 100000 in
set_option maxHeartbeats 2000000 in
theorem ilined_any (l : List Ev) (A : Option Addr) (n cap lo hi : Nat) (w : World) (h : EvsW lo hi w A n cap l) (hh : hi ≤ w.heap.size) (hn : n ≤ 1048576) :
    Calls Try.prog 8 #[.slice A n cap] w (RetBelow (.bool (linedB l)) w) := by
  have HL := Lib.hid h.1
  refine (callsIn_wide (n := 0)).1 ?_
  refine callsIn_of_wp_marks Try.func8 rfl trivial ?_ rfl
  simp only [Try.ntmps8, List.size_toArray, List.length_cons, List.length_nil, Nat.reduceAdd, Nat.reduceSub, Array.replicate_succ, Array.replicate_zero, List.push_toArray, List.append_toArray, List.nil_append, List.cons_append]
  gi_upto_region 1 with fail
  have hB0 := (Below.refl w.heap.size w).alloc (Nat.le_refl _) (.cells #[.bool false] 4)
  have hx0 : BoxAt (w.alloc (.cells #[.bool false] 4)) w.heap.size #[.bool false] 4 := .new _ _ _
  obtain ⟨W, hW⟩ : ∃ W, w.alloc (.cells #[.bool false] 4) = W := ⟨_, rfl⟩
  rw [hW] at hB0 hx0 ⊢
  clear hW
  have hW := SlW.below h hB0 hh
  gi_wp2_with fail
  refine ⟨trivial, rfl, (callsIn_wide.2 (isStoryUpTo_any l A n cap 8 W (EvsW.r hW) hn (by omega))).mono ?_⟩
  rintro e w1 ⟨rfl, hb1⟩
  replace hx0 := hx0.below hb1 hx0.lt
  replace hB0 := bstep hB0 hB0.size hb1
  replace h := SlW.below h hB0 hh
  clear hb1 hW
  have kx := hx0.cell
  have fx := hx0.frozen
  cases hok : (decide (n ≤ 8) && storyOk l)
  · have HQ := Lib.hid (show linedB l = false by unfold linedB; rw [HL.out, hok]; rfl)
    clear hok
    gi_wp2
    refine ⟨.bool false, ?_, .mk (by rw [HQ.out]) (hB0.setCell (by simp) _)⟩
    have kx3 := (hx0.set 0 (.bool false)).cell
    simp [results, Try.results8, go_sem, kx3]
  · have HQ := Lib.hid (show linedB l = decide (0 < cntO l.length l []) by unfold linedB; rw [HL.out, hok]; rfl)
    have hn8 : n ≤ 8 := by simp only [Bool.and_eq_true, decide_eq_true_eq] at hok; exact hok.1
    clear hok
    gi_wp2_with fail
    refine ⟨trivial, rfl, (callsIn_wide.2 (ordersOf_any A n cap w1)).mono ?_⟩
    rintro e w5 ⟨rfl, hw5⟩
    have hseq := ords_seq (X := w.heap.size) h (Nat.le_trans hh hB0.size) hx0.lt (.inr hh) (by omega) hw5
    have hb5 : Below w1.heap.size w1 w5 := by rw [hw5]; exact ((Below.refl _ _).alloc (Nat.le_refl _) _).alloc (by simp) _
    replace hx0 := hx0.below hb5 hx0.lt
    replace hB0 := bstep hB0 hB0.size hb5
    obtain ⟨P, hP⟩ : ∃ P, w1.heap.size = P := ⟨_, rfl⟩
    rw [hP] at hseq ⊢
    clear hb5 hw5 kx fx hP h
    gi_wp2_with fail
    refine wpIn_ord rfl (enters_of Try.func31 (by kernel_rfl) rfl) hseq
      (fun ys Wy => (ys = [] ∧ BoxAt Wy w.heap.size #[.bool false] 4) ∧ Below w.heap.size w Wy)
      (fun ys Wy => (ys ≠ [] ∧ BoxAt Wy w.heap.size #[.bool true] 4) ∧ Below w.heap.size w Wy)
      (OwnFrom.and (OwnFrom.and (ownFrom_pure _ _) box_own) (ownFrom_below (Nat.le_refl _) hB0.size))
      (OwnFrom.and (OwnFrom.and (ownFrom_pure _ (fun ys => ys ≠ [])) box_own) (ownFrom_below (Nat.le_refl _) hB0.size))
      ⟨⟨rfl, hx0⟩, hB0⟩ (fun y => { tmps := #[.slice A n cap, undef, .pointer (some ⟨w.heap.size, 0, none⟩), .slice A n cap, .bool true, .bool false, .slice A n cap, .func (.func 31) #[] #[.pointer (some ⟨P + 1, 0, none⟩), .pointer (some ⟨P, 0, none⟩)], y], defers := [] }) ?assign ?body ?done ?stop
    case assign =>
      intro l' y Wy K hK
      gi_wp2
      simpa using hK
    case body =>
      rintro l' ys y Wy hsz ⟨⟨hy, hx⟩, hB⟩ _
      have kx := hx.cell
      have fx := hx.frozen
      gi_wp2
      exact ⟨.set _ hx0.lt, ⟨by simp, hx.set 0 _⟩, hB.setCell (by simp) _⟩
    case done =>
      rintro xs Wd hkd hxl ⟨⟨rfl, hx⟩, hB⟩ hdef
      have hR := Lib.hid (show linedB l = false by rw [HQ.out, ← hxl]; rfl)
      have hdf := Lib.hid hdef
      have kx := hx.cell
      have fx := hx.frozen
      clear hxl hkd hdef hseq
      gi_wp2
      have hdef := hdf.out
      have hK' := (KeepsOthers.setCell Wd ⟨w.heap.size, 0, none⟩ (.bool false)).same w5.heap.size _ hdef rfl
      refine ⟨by simp, .inl ⟨_, _, rfl, run_takeDeferred hK', ?_⟩⟩
      have hx3 := Go.Proofs.Ytdfbbekolcpbmaa.box_own (β := Unit) (C := 0) () _ _ (some w5.heap.size) (hx.set 0 (.bool false)) (grownBy_putObj' _ w5.heap.size (.deferred none)) (fun r e => by cases e; exact ⟨Nat.zero_le _, _, hK', rfl⟩)
      have kx3 := hx3.cell
      refine ⟨.bool false, ?_, .mk (by rw [hR.out]) ?_⟩
      · simp [results, Try.results8, go_sem, kx3]
      · exact (hB.setCell (p := ⟨w.heap.size, 0, none⟩) (by simp) _).trans (belowK_b (w := w) (Nat.le_refl _) _ w5.heap.size _ _ hB0.size hK' rfl rfl)
    case stop =>
      rintro ps Ws hks hpl2 ⟨⟨hne, hx⟩, hB⟩ hdef
      have hR := Lib.hid (show linedB l = true by
        rw [HQ.out]
        have : 0 < ps.length := List.length_pos_iff.2 hne
        simp; omega)
      gi_wp2
      refine ⟨by simp, .inl ⟨_, _, rfl, run_takeDeferred hdef, ?_⟩⟩
      have hx3 := Go.Proofs.Ytdfbbekolcpbmaa.box_own (β := Unit) (C := 0) () _ _ (some w5.heap.size) hx (grownBy_putObj' _ w5.heap.size (.deferred none)) (fun r e => by cases e; exact ⟨Nat.zero_le _, _, hdef, rfl⟩)
      have kx3 := hx3.cell
      refine ⟨.bool true, ?_, .mk (by rw [hR.out]) ?_⟩
      · simp [results, Try.results8, go_sem, kx3]
      · exact hB.trans (belowK_b (w := w) (Nat.le_refl _) _ w5.heap.size _ _ hB0.size hdef rfl rfl)

set_option maxRecDepth 100000 in
set_option maxHeartbeats 2000000 in
theorem iorders_any (l : List Ev) (A : Option Addr) (n cap lo hi : Nat) (w : World) (h : EvsW lo hi w A n cap l) (hh : hi ≤ w.heap.size) (hn : n ≤ 1048576) :
    Calls Try.prog 11 #[.slice A n cap] w (RetBelow (.int .i64 (ordersZ l)) w) := by
  have HL := Lib.hid h.1
  refine (callsIn_wide (n := 0)).1 ?_
  refine callsIn_of_wp_marks Try.func11 rfl trivial ?_ rfl
  simp only [Try.ntmps11, List.size_toArray, List.length_cons, List.length_nil, Nat.reduceAdd, Nat.reduceSub, Array.replicate_succ, Array.replicate_zero, List.push_toArray, List.append_toArray, List.nil_append, List.cons_append]
  gi_wp2_with fail
  refine ⟨trivial, rfl, (callsIn_wide.2 (isStoryUpTo_any l A n cap 6 w (EvsW.r h) hn (by omega))).mono ?_⟩
  rintro e w1 ⟨rfl, hb1⟩
  cases hok : (decide (n ≤ 6) && storyOk l)
  · have HQ := Lib.hid (show ordersZ l = -1 by unfold ordersZ; rw [HL.out, hok]; rfl)
    clear hok
    gi_wp2
    exact ⟨_, results_tmp rfl _ _ _, .mk (by rw [HQ.out]; rfl) hb1⟩
  · have HQ := Lib.hid (show ordersZ l = (cntO l.length l [] : Int) by unfold ordersZ; rw [HL.out, hok]; rfl)
    have hn6 : n ≤ 6 := by simp only [Bool.and_eq_true, decide_eq_true_eq] at hok; exact hok.1
    have HN := Lib.hid (show cntO l.length l [] ≤ 720 by
      refine Nat.le_trans (cntO_le _ _ _ rfl) ?_
      have h6 : l.length ≤ 6 := by rw [HL.out]; exact hn6
      have : l.length = 0 ∨ l.length = 1 ∨ l.length = 2 ∨ l.length = 3 ∨ l.length = 4 ∨ l.length = 5 ∨ l.length = 6 := by omega
      rcases this with e | e | e | e | e | e | e <;> rw [e] <;> decide)
    clear hok
    gi_upto_region 4 with fail
    have hB0 := hb1.alloc hb1.size (.cells #[.int .i64 0] 2)
    have hx0 : BoxAt (w1.alloc (.cells #[.int .i64 0] 2)) w1.heap.size #[.int .i64 0] 2 := .new _ _ _
    have hs0 := hb1.size
    obtain ⟨X, hX⟩ : ∃ X, w1.heap.size = X := ⟨_, rfl⟩
    obtain ⟨W, hW⟩ : ∃ W, w1.alloc (.cells #[.int .i64 0] 2) = W := ⟨_, rfl⟩
    rw [hW] at hB0 hx0 ⊢
    rw [hX] at hx0 hs0 ⊢
    clear hW hX hb1
    gi_wp2_with fail
    refine ⟨trivial, rfl, (callsIn_wide.2 (ordersOf_any A n cap W)).mono ?_⟩
    rintro e w5 ⟨rfl, hw5⟩
    have hseq := ords_seq (X := X) (SlW.below h hB0 hh) (Nat.le_trans hh hB0.size) hx0.lt (.inr (Nat.le_trans hh hs0)) (by omega) hw5
    have hb5 : Below W.heap.size W w5 := by rw [hw5]; exact ((Below.refl _ _).alloc (Nat.le_refl _) _).alloc (by simp) _
    replace hx0 := hx0.below hb5 hx0.lt
    replace hB0 := bstep hB0 hB0.size hb5
    obtain ⟨P, hP⟩ : ∃ P, W.heap.size = P := ⟨_, rfl⟩
    rw [hP] at hseq ⊢
    clear hb5 hw5 hP h
    gi_wp2_with fail
    refine wpIn_ord rfl (enters_of Try.func31 (by kernel_rfl) rfl) hseq
      (fun ys Wy => BoxAt Wy X #[.int .i64 (ys.length : Int)] 2 ∧ Below w.heap.size w Wy) (fun _ _ => False)
      (OwnFrom.and (fun ys A B row h hg hr => Go.Proofs.Ytdfbbekolcpbmaa.box_own (β := Unit) (C := w5.heap.size) () A B row h hg hr) (ownFrom_below (Nat.le_refl _) hB0.size))
      (fun _ _ _ _ h _ _ => h)
      ⟨hx0, hB0⟩ (fun y => { tmps := #[.slice A n cap, undef, .int .i64 0, .pointer (some ⟨X, 0, none⟩), .slice A n cap, .bool true, .bool false, .slice A n cap, .func (.func 31) #[] #[.pointer (some ⟨P + 1, 0, none⟩), .pointer (some ⟨P, 0, none⟩)], y, undef, undef, undef], defers := [] }) ?assign ?body ?done ?stop
    case assign =>
      intro l' y Wy K hK
      gi_wp2
      simpa using hK
    case body =>
      rintro l' ys y Wy hsz ⟨hx, hB⟩ hlt
      have hys : ys.length < 720 := Nat.lt_of_lt_of_le hlt HN.out
      clear hlt
      have kx := hx.cell
      have fx := hx.frozen
      have wq : IntKind.wrap .i64 ((ys.length : Int) + 1) = (ys.length : Int) + 1 := Go.IntWalk.i64_in _ (by omega)
      gi_wp2
      refine ⟨.set _ hx0.lt, ?_, hB.setCell hs0 _⟩
      have := hx.set 0 (.int .i64 ((ys.length : Int) + 1))
      simpa using this
    case done =>
      rintro xs Wd hkd hxl ⟨hx, hB⟩ hdef
      rw [hxl] at hx
      have hdf := Lib.hid hdef
      have kx := hx.cell
      clear hxl hkd hdef hseq
      gi_wp2
      have hdef := hdf.out
      refine ⟨by simp, .inl ⟨_, _, rfl, run_takeDeferred hdef, ?_⟩⟩
      refine ⟨_, results_tmp rfl _ _ _, .mk (by rw [HQ.out]; rfl) ?_⟩
      exact hB.trans (belowK_b (w := w) (Nat.le_refl _) _ w5.heap.size _ _ hB0.size hdef rfl rfl)
    case stop =>
      rintro ps Ws _ _ h _
      exact h.elim

end Go.Proofs.Ytdfbbekolcpbmaa

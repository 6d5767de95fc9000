/-
  The walk of Seeded of the program.
-/
import Derived.BigQuiet
import Derived.Test.YtlpcpaehkgaffaaRingC
import Derived.Test.YtlpcpaehkgaffaaModel
import Derived.Test.YtlpcpaehkgaffaaRingB
import Derived.Test.YtlpcpaehkgaffaaCurB
import Derived.Test.YtlpcpaehkgaffaaRingD
namespace Go.Proofs.Ytlpcpaehkgaffaa
set_option linter.unusedSimpArgs false
set_option linter.unusedVariables false
open Go.RowKit
attribute [local go_sem ↓] Go.wp_at_zero Go.wp_at_succ

set_option maxHeartbeats 400000 in
theorem iseeded_no (n v : Int) (w : World) (h : roundB n = false) : Calls Try.prog 8 #[.int .i64 n, .int .i64 v] w (NoRg w) := by
  go_enter Try.func8, Try.ntmps8
  go_wp2_with fail
  refine calls_abs (fun W => Below w.heap.size w W ∧ BoxAt W w.heap.size #[.int .i64 0, .int .i64 0, .bool false, .int .i64 0, .slice none 0 0] 27) ⟨(Below.refl _ _).alloc (Nat.le_refl _) _, BoxAt.new _ _ _⟩ ?_
  rintro W ⟨hB, hx⟩
  refine (inewRing_no n _ h).mono ?_
  rintro e w1 ⟨rfl, hb1⟩
  have hx1 := hx.below hb1 hx.lt
  have kx := hx1.cell
  have fx := hx1.frozen
  have lx := hx1.lt
  unfold rgV
  go_wp2
  refine bodyPost_ret (v := .tuple #[rgV 0 0 false 0 none 0 0, .bool false]) (by simp [results, Try.results8, go_sem, kx, lx, rgV]) rfl ⟨rfl, ?_⟩
  exact (((((((bstep hB hB.size hb1).setCell (by dsimp only; omega) _).setCell (by dsimp only; omega) _).setCell (by dsimp only; omega) _).setCell (by dsimp only; omega) _).setCell (by dsimp only; omega) _)).alloc (by simp; omega) _

set_option maxHeartbeats 400000 in
theorem iseeded_no2 (n : Nat) (v : Int) (w : World) (h : roundB n = true) (hn : n ≤ 8) (hv : valB v = false) : Calls Try.prog 8 #[.int .i64 n, .int .i64 v] w (NoRg w) := by
  go_enter Try.func8, Try.ntmps8
  go_wp2_with fail
  refine calls_abs (fun W => Below w.heap.size w W ∧ BoxAt W w.heap.size #[.int .i64 0, .int .i64 0, .bool false, .int .i64 0, .slice none 0 0] 27) ⟨(Below.refl _ _).alloc (Nat.le_refl _) _, BoxAt.new _ _ _⟩ ?_
  rintro W ⟨hB, hx⟩
  refine (inewRing_yes n _ h hn).mono ?_
  rintro e w1 ⟨g, cap, rfl, hO, hb1⟩
  have hx1 := hx.below hb1 hx.lt
  have lx := hx1.lt
  unfold rgV
  go_wp2_with fail
  refine calls_abs (fun W => Below w.heap.size w W ∧ BoxAt W w.heap.size #[.int .i64 0, .int .i64 0, .bool false, .int .i64 0, .slice none 0 0] 27) ⟨(bstep hB hB.size hb1).alloc (by omega) _, hx1.alloc _⟩ ?_
  clear hx1 hB hb1 hx
  rintro W ⟨hB, hx⟩
  refine (isValue_any _ _).mono ?_
  rintro e w' ⟨rfl, rfl⟩
  have kx := hx.cell
  have fx := hx.frozen
  go_wp2
  refine bodyPost_ret (v := .tuple #[rgV 0 0 false 0 none 0 0, .bool false]) (by simp [results, Try.results8, go_sem, kx, lx, rgV]) rfl ⟨rfl, ?_⟩
  exact (((((hB.setCell (by dsimp only; omega) _).setCell (by dsimp only; omega) _).setCell (by dsimp only; omega) _).setCell (by dsimp only; omega) _).setCell (by dsimp only; omega) _)

set_option maxHeartbeats 400000 in
theorem iseeded_yes (n : Nat) (v : Int) (w : World) (h : roundB n = true) (h1 : 1 ≤ n) (hn : n ≤ 8) (hv : valB v = true) : Calls Try.prog 8 #[.int .i64 n, .int .i64 v] w (RetRgB 0 1 false (-1) n (seeded n v) true w) := by
  have h2 : (0 : Int) < (n : Int) := by omega
  go_enter Try.func8, Try.ntmps8
  go_wp2_with fail
  refine calls_abs (fun W => Below w.heap.size w W ∧ BoxAt W w.heap.size #[.int .i64 0, .int .i64 0, .bool false, .int .i64 0, .slice none 0 0] 27) ⟨(Below.refl _ _).alloc (Nat.le_refl _) _, BoxAt.new _ _ _⟩ ?_
  rintro W ⟨hB, hx⟩
  refine (inewRing_yes n _ h hn).mono ?_
  rintro e w1 ⟨g, cap, rfl, hO, hb1⟩
  have hx1 := hx.below hb1 hx.lt
  have hg := hO.ge
  have lx := hx.lt
  have lg := Own.lt hO
  unfold rgV
  go_wp2_with fail
  refine calls_abs (fun W2 => Below w.heap.size w W2 ∧ BoxAt W2 w.heap.size #[.int .i64 0, .int .i64 0, .bool false, .int .i64 0, .slice none 0 0] 27 ∧ BoxAt W2 w1.heap.size #[.int .i64 0, .int .i64 0, .bool false, .int .i64 (-1), .slice (some ⟨g, 0, none⟩) n cap] 27 ∧ PlsO w.heap.size W2 g n cap (fresh n)) ⟨(bstep hB hB.size hb1).alloc (by omega) _, hx1.alloc _, BoxAt.new _ _ _, (hO.mono hB.size).al _⟩ ?_
  generalize w1.heap.size = R at *
  clear hx1 hO hB hb1
  rintro W2 ⟨hB, hx1, hr, hO⟩
  refine (isValue_any _ _).mono ?_
  rintro e w' ⟨rfl, rfl⟩
  have hat : (fresh n)[0]? = some ⟨true, 0, false, 0⟩ := fresh_at (by omega)
  have d0 := Own.cell_ Pl.cs_len hO (i := 0) (j := 0) hat rfl
  have d1 := Own.cell_ Pl.cs_len hO (i := 0) (j := 1) hat rfl
  have d2 := Own.cell_ Pl.cs_len hO (i := 0) (j := 2) hat rfl
  have d3 := Own.cell_ Pl.cs_len hO (i := 0) (j := 3) hat rfl
  simp only [Nat.zero_mul, Nat.zero_add] at d0 d1 d2 d3
  clear hat
  have df := Own.frozen_ hO
  have kr := hr.cell
  have fr := hr.frozen
  go_upto_region 5 with fail
  refine wp_abs (fun W3 => Below w.heap.size w W3 ∧ BoxAt W3 w.heap.size #[.int .i64 0, .int .i64 0, .bool false, .int .i64 0, .slice none 0 0] 27 ∧ BoxAt W3 R #[.int .i64 0, .int .i64 0, .bool false, .int .i64 (-1), .slice (some ⟨g, 0, none⟩) n cap] 27 ∧ PlsO w.heap.size W3 g n cap (seeded n v)) ⟨((((hB.setCell (by dsimp only; omega) _).setCell (by dsimp only; omega) _).setCell (by dsimp only; omega) _).setCell (by dsimp only; omega) _), ((((hx1.set_ne (by omega) _ _).set_ne (by omega) _ _).set_ne (by omega) _ _).set_ne (by omega) _ _), ((((hr.set_ne (by omega) _ _).set_ne (by omega) _ _).set_ne (by omega) _ _).set_ne (by omega) _ _), ?_⟩ ?_
  · have := Own.setEl hO Pl.cs_len (by omega) (i := 0) (by omega) (⟨true, 0, true, v⟩ : Pl)
    simp only [Nat.zero_mul] at this
    exact this
  clear hx1 hO hB hr d0 d1 d2 d3 df kr fr
  rintro W3 ⟨hB, hx1, hr, hO⟩
  have kr := hr.cell
  have fr := hr.frozen
  have kx := hx1.cell
  have fx := hx1.frozen
  go_wp2
  refine bodyPost_ret (v := .tuple #[rgV 0 1 false (-1) (some ⟨g, 0, none⟩) n cap, .bool true]) (by simp [results, Try.results8, go_sem, kx, rgV]) rfl ⟨g, _, rfl, ?_, ?_⟩
  · exact ((((((hO.set_ne (by omega) _ _).set_ne (by omega) _ _).set_ne (by omega) _ _).set_ne (by omega) _ _).set_ne (by omega) _ _).set_ne (by omega) _ _)
  · exact ((((((hB.setCell (by dsimp only; omega) _).setCell (by dsimp only; omega) _).setCell (by dsimp only; omega) _).setCell (by dsimp only; omega) _).setCell (by dsimp only; omega) _).setCell (by dsimp only; omega) _)

end Go.Proofs.Ytlpcpaehkgaffaa

/-
  New rings, and those with one parcel, of both sides: one contract each, whatever they are given.
-/
namespace Go.Proofs.Ytlpcpaehkgaffaa
set_option linter.unusedSimpArgs false
set_option linter.unusedVariables false
open Go.RowKit
set_option linter.unusedVariables false

def noRg : Rg := ⟨0, 0, false, 0, []⟩
def newU (n : Int) : Rg × Bool := if roundB n then (.fresh n.toNat, true) else (noRg, false)
def seedU (n v : Int) : Rg × Bool := if roundB n && valB v then (.seed n.toNat v, true) else (noRg, false)
/-- A ring and a bool are returned. -/
def RetUR (q : Rg × Bool) (w : World) (e : Ending) (w' : World) : Prop :=
  ∃ A n cp, e = .returned (.tuple #[rgV q.1.h q.1.t q.1.c q.1.x A n cp, .bool q.2]) ∧ PlsR 0 w' A n q.1.ps ∧ n ≤ 8 ∧ Below w.heap.size w w'

theorem noU {q : Rg × Bool} (hq : q = (noRg, false)) {w : World} {e : Ending} {w' : World} (h : NoRg w e w') : RetUR q w e w' := by
  subst hq
  obtain ⟨rfl, hb⟩ := h
  exact ⟨none, 0, 0, rfl, ⟨rfl, fun h => absurd h (by omega)⟩, by omega, hb⟩
theorem yesU {q : Rg × Bool} {h t : Int} {c : Bool} {x : Int} {n : Nat} {l : List Pl} {b : Bool} (hq : q = (⟨h, t, c, x, l⟩, b)) (hn : n ≤ 8) {w : World} {e : Ending} {w' : World} (hr : RetRgB h t c x n l b w e w') : RetUR q w e w' := by
  subst hq
  obtain ⟨g, cp, rfl, ho, hb⟩ := hr
  exact ⟨_, n, cp, rfl, (PlsO.r ho).mono (Nat.zero_le _), hn, hb⟩
theorem round_nat {n : Int} (h : roundB n = true) : ∃ m : Nat, n = m ∧ 2 ≤ m ∧ m ≤ 8 := by
  simp only [roundB, Bool.and_eq_true, decide_eq_true_eq] at h
  exact ⟨n.toNat, by omega, by omega, by omega⟩

theorem inewU_any (n : Int) (w : World) : Calls Try.prog 6 #[.int .i64 n] w (RetUR (newU n) w) := by
  cases h : roundB n
  · exact (inewRing_no n w h).mono fun _ _ hr => noU (by simp [newU, h]) hr
  · obtain ⟨m, rfl, h2, h8⟩ := round_nat h
    exact (inewRing_yes m w h h8).mono fun _ _ hr => yesU (by simp [newU, h, Rg.fresh]) h8 hr
theorem snewU_any (n : Int) (w : World) : Calls Try.prog 11 #[.int .i64 n] w (RetUR (newU n) w) := by
  cases h : roundB n
  · exact (snewRing_no n w h).mono fun _ _ hr => noU (by simp [newU, h]) hr
  · obtain ⟨m, rfl, h2, h8⟩ := round_nat h
    exact (snewRing_yes m w h (by omega) h8).mono fun _ _ hr => yesU (by simp [newU, h, Rg.fresh]) h8 hr
theorem iseedU_any (n v : Int) (w : World) : Calls Try.prog 8 #[.int .i64 n, .int .i64 v] w (RetUR (seedU n v) w) := by
  cases h : roundB n
  · exact (iseeded_no n v w h).mono fun _ _ hr => noU (by simp [seedU, h]) hr
  · obtain ⟨m, rfl, h2, h8⟩ := round_nat h
    cases hv : valB v
    · exact (iseeded_no2 m v w h h8 hv).mono fun _ _ hr => noU (by simp [seedU, h, hv]) hr
    · exact (iseeded_yes m v w h (by omega) h8 hv).mono fun _ _ hr => yesU (by simp [seedU, h, hv, Rg.seed, seeded]) h8 hr
theorem sseedU_any (n v : Int) (w : World) : Calls Try.prog 16 #[.int .i64 n, .int .i64 v] w (RetUR (seedU n v) w) := by
  cases h : roundB n && valB v
  · exact (sseeded_no n v w h).mono fun _ _ hr => noU (by simp only [seedU, h]; rfl) hr
  · simp only [Bool.and_eq_true] at h
    obtain ⟨m, rfl, h2, h8⟩ := round_nat h.1
    exact (sseeded_yes m v w h.1 h.2 (by omega) h8).mono fun _ _ hr => yesU (by simp [seedU, h.1, h.2, Rg.seed, seeded]) h8 hr

end Go.Proofs.Ytlpcpaehkgaffaa

/-
  Two rings that are alike, by the laws' own helper.
-/
namespace Go.Proofs.Ytlpcpaehkgaffaa
set_option linter.unusedSimpArgs false
set_option linter.unusedVariables false
open Go.RowKit
set_option linter.unusedVariables false
attribute [local go_sem ↓] Go.wp_at_zero Go.wp_at_succ

set_option maxRecDepth 100000 in
set_option maxHeartbeats 1000000 in
theorem likeRing_same (h t : Int) (c : Bool) (x : Int) (A B : Option Addr) (n cp cq : Nat) (l : List Pl) (w : World) (ha : PlsR 0 w A n l) (hb : PlsR 0 w B n l) (hn : n ≤ 1048576) :
    Calls Try.prog 12 #[rgV h t c x A n cp, rgV h t c x B n cq] w (RetBelow (.bool true) w) := by
  unfold rgV
  go_enter Try.func12, Try.ntmps12
  go_upto_region 1 with fail
  refine wp_abs (fun W => Below w.heap.size w W ∧ BoxAt W w.heap.size #[.int .i64 h, .int .i64 t, .bool c, .int .i64 x, .slice A n cp] 27 ∧ BoxAt W (w.heap.size + 1) #[.int .i64 h, .int .i64 t, .bool c, .int .i64 x, .slice B n cq] 27) ⟨((Below.refl _ _).alloc (Nat.le_refl _) _).alloc (by simp) _, (BoxAt.new _ _ _).alloc _, BoxAt.new' (by simp)⟩ ?_
  rintro W0 ⟨hB, h1, h2⟩
  have k1 := h1.cell
  have k2 := h2.cell
  go_wp2
  clear k1 k2
  go_loopw [5] (fun s5 W => ∃ i : Nat, i ≤ n ∧ s5 = .int .i64 i ∧ Below w.heap.size w W ∧ BoxAt W w.heap.size #[.int .i64 h, .int .i64 t, .bool c, .int .i64 x, .slice A n cp] 27 ∧ BoxAt W (w.heap.size + 1) #[.int .i64 h, .int .i64 t, .bool c, .int .i64 x, .slice B n cq] 27) (fun s5 _ => n - (intOf s5).toNat)
  case atStart => exact ⟨0, Nat.zero_le _, rfl, hB, h1, h2⟩
  case round =>
    clear hB h1 h2
    obtain ⟨i, hi, rfl, hB, h1, h2⟩ := hrel
    have k1 := h1.cell
    have k2 := h2.cell
    by_cases hlt : i < n
    · obtain ⟨b, o, p, rfl, _, hp, hc⟩ := SlE.at_ (SlE.keep PlE.kept ha (fun j _ hj => hB.block j hj)) hlt
      obtain ⟨b', o', p', rfl, _, hp', hc'⟩ := SlE.at_ (SlE.keep PlE.kept hb (fun j _ hj => hB.block j hj)) hlt
      obtain rfl : p = p' := by rw [hp] at hp'; injection hp'
      obtain ⟨c0, c1, c2, c3⟩ := hc
      obtain ⟨d0, d1, d2, d3⟩ := hc'
      have q1 : (i : Int) < (n : Int) := by omega
      have q2 : (0 : Int) ≤ (i : Int) := by omega
      clear hp hp'
      go_wp2
      go_quiet (fail)
      go_wp2
      go_roundw
      case rel => exact ⟨i + 1, by omega, by go_num, ⟨hB.os, hB.tape, hB.output, hB.size, hB.block⟩, h1.drewN _, h2.drewN _⟩
      case measure => simp [intOf]; omega
    · have q1 : ¬ (i : Int) < (n : Int) := by omega
      go_wp2
      go_ret
      exact ⟨rfl, hB⟩

end Go.Proofs.Ytlpcpaehkgaffaa

/-
  The walks of RingOk and PlaceAt of the program, and of PlaceAt of the model.
-/
namespace Go.Proofs.Ytlpcpaehkgaffaa
set_option linter.unusedSimpArgs false
set_option linter.unusedVariables false
open Go.RowKit
attribute [local go_sem ↓] Go.wp_at_zero Go.wp_at_succ

set_option maxHeartbeats 400000 in
theorem round_any (A : Option Addr) (n cap : Nat) (w : World) (hn : n ≤ 1048576) : Calls Try.prog 39 #[.slice A n cap] w (Quiet1 (.int .i64 n) w) := by
  go_enter Try.func39, Try.ntmps39
  go_wp2
  go_ret
  exact ⟨rfl, rfl⟩

set_option maxHeartbeats 400000 in
theorem at_any (A : Option Addr) (n cap : Nat) (z : Int) (w : World) (hn : n ≤ 1048576) (h0 : 0 < n) (hz : 0 ≤ z) : Calls Try.prog 27 #[.slice A n cap, .int .i64 z] w (Quiet1 (.int .i64 (z % (n : Int))) w) := by
  have h0' : (0 : Int) < (n : Int) := by omega
  go_enter Try.func27, Try.ntmps27
  go_wp2_with fail
  refine (round_any _ _ _ _ hn).mono ?_
  rintro e w' ⟨rfl, rfl⟩
  go_wp2
  go_ret
  exact ⟨rfl, rfl⟩

set_option maxHeartbeats 400000 in
theorem nextOk_any (h t : Int) (c : Bool) (x : Int) (A : Option Addr) (n cap : Nat) (w : World) :
    Calls Try.prog 30 #[rgV h t c x A n cap] w (RetBelow (.bool (nextB c x)) w) := by
  unfold rgV
  by_cases hx : x = -1
  · subst hx
    go_enter Try.func30, Try.ntmps30
    go_wp2
    go_ret
    exact .mk rfl ((Below.refl _ _).alloc (Nat.le_refl _) _)
  · have hx' : (x == -1) = false := by simpa using hx
    cases c
    · go_enter Try.func30, Try.ntmps30
      go_wp2
      go_ret
      exact .mk (by simp [nextB, hx']) ((Below.refl _ _).alloc (Nat.le_refl _) _)
    · go_enter Try.func30, Try.ntmps30
      go_wp2_with fail
      refine (isRingIndex_any _ _).mono ?_
      rintro e w' ⟨rfl, rfl⟩
      go_wp2
      go_ret
      exact .mk (by simp [nextB, hx']) ((Below.refl _ _).alloc (Nat.le_refl _) _)

set_option maxHeartbeats 400000 in
theorem closure_any (i : Int) (p : Pl) (k n cap : Nat) (A : Option Addr) (w : World) (hk : BoxAt w k #[.slice A n cap] 44) (hn : n ≤ 1048576) (h0 : 0 < n) :
    Calls Try.prog 42 #[.int .i64 i, .agg #[.bool p.s, .int .i64 p.n, .bool p.f, .int .i64 p.v], .pointer (some ⟨k, 0, none⟩)] w (RetBelow (.bool (okB p.n p.f p.v && (p.n % (n : Int) == i))) w) := by
  go_enter Try.func42, Try.ntmps42
  go_wp2_with fail
  refine calls_abs (fun W => Below w.heap.size w W ∧ BoxAt W w.heap.size #[.bool p.s, .int .i64 p.n, .bool p.f, .int .i64 p.v] 39) ⟨(Below.refl _ _).alloc (Nat.le_refl _) _, BoxAt.new _ _ _⟩ ?_
  rintro W ⟨hB, hx⟩
  refine (iplaceOk_any _ _ _ _ _).mono ?_
  rintro e w1 ⟨rfl, hb1⟩
  replace hx := hx.below hb1 hx.lt
  replace hB := bstep hB hB.size hb1
  replace hk := hk.below hB hk.lt
  clear hb1
  have kx := hx.cell
  have kk := hk.cell
  cases ho : okB p.n p.f p.v
  · go_wp2
    go_ret
    exact .mk (by rw [ho]; rfl) hB
  · obtain ⟨n0, n1⟩ := okB_no ho
    have HO := Lib.hid ho; clear ho
    go_wp2_with fail
    refine (at_any _ _ _ _ _ hn h0 n0).mono ?_
    rintro e w' ⟨rfl, rfl⟩
    go_wp2
    go_ret
    exact .mk (by rw [HO.out]; rfl) hB

set_option maxHeartbeats 400000 in
theorem every_any (k n cap cap' : Nat) (A : Option Addr) (l : List Pl) (w : World) (hk : BoxAt w k #[.slice A n cap'] 44) (hl : PlsR 0 w A n l) (hn : n ≤ 1048576) :
    Calls Try.prog 41 #[.slice A n cap, .func (.func 42) #[] #[.pointer (some ⟨k, 0, none⟩)]] w (RetBelow (.bool (allB l)) w) := by
  have hln := hl.1
  obtain rfl : l.length = n := hln
  go_enter Try.func41, Try.ntmps41
  go_wp2
  go_loopw [9] (fun s W => ∃ i : Nat, i ≤ l.length ∧ s = .int .i64 i ∧ Below w.heap.size w W ∧ (List.range i).all (okAt l) = true) (fun s _ => l.length - (intOf s).toNat)
  case atStart => exact ⟨0, Nat.zero_le _, rfl, Below.refl _ _, rfl⟩
  case round =>
    obtain ⟨i, hi, rfl, hB, hall⟩ := hrel
    have HA := Lib.hid hall; clear hall
    by_cases hlt : i < l.length
    · obtain ⟨b, o, p, rfl, _, hp, hc⟩ := SlE.at_ (SlE.keep PlE.kept hl (fun j _ hj => hB.block j hj)) hlt
      obtain ⟨c0, c1, c2, c3⟩ := hc
      have hok := okAt_some hp
      have HP := Lib.hid hok
      clear hp hok
      have g1 : (i : Int) < (l.length : Int) := by omega
      have g2 : (0 : Int) ≤ (i : Int) := by omega
      have hk1 := hk.below hB hk.lt
      go_wp2_with fail
      refine calls_abs (fun W => Below w.heap.size w W ∧ BoxAt W k #[.slice (some ⟨b, o, none⟩) l.length cap'] 44) ⟨hB.alloc hB.size _, hk1.alloc _⟩ ?_
      clear hB hk1 c0 c1 c2 c3
      rintro W ⟨hB, hk1⟩
      refine (closure_any _ _ _ _ _ _ _ hk1 hn (by omega)).mono ?_
      rintro e w1 ⟨rfl, hb1⟩
      rw [← HP.out]
      replace hB := bstep hB hB.size hb1
      clear hb1 hk1
      cases ho : okAt l i
      · go_wp2
        go_ret
        exact .mk (by rw [allB_false hlt ho]; rfl) hB
      · have HO := Lib.hid ho; clear ho
        go_wp2
        go_roundw
        case rel => exact ⟨i + 1, by omega, by go_num, hB, all_succ HA.out HO.out⟩
        case measure => simp [intOf]; omega
    · have g1 : ¬ (i : Int) < (l.length : Int) := by omega
      obtain rfl : i = l.length := by omega
      go_wp2
      go_ret
      exact .mk (by rw [show allB l = true from HA.out]; rfl) hB

set_option maxHeartbeats 400000 in
theorem placesOk_any (n cap : Nat) (A : Option Addr) (l : List Pl) (w : World) (hl : PlsR 0 w A n l) (hn : n ≤ 1048576) :
    Calls Try.prog 31 #[.slice A n cap] w (RetBelow (.bool (roundB l.length && allB l)) w) := by
  have hln := hl.1
  obtain rfl : l.length = n := hln
  go_enter Try.func31, Try.ntmps31
  go_wp2_with fail
  refine calls_abs (fun W => Below w.heap.size w W ∧ BoxAt W w.heap.size #[.slice A l.length cap] 44) ⟨(Below.refl _ _).alloc (Nat.le_refl _) _, BoxAt.new _ _ _⟩ ?_
  rintro W ⟨hB, hk⟩
  refine (round_any _ _ _ _ hn).mono ?_
  rintro e w' ⟨rfl, rfl⟩
  go_wp2_with fail
  refine (isRound_any _ _).mono ?_
  rintro e w' ⟨rfl, rfl⟩
  cases hr : roundB l.length
  · go_wp2
    go_ret
    exact .mk (by rw [hr]; rfl) hB
  · have HR := Lib.hid hr; clear hr
    have kk := hk.cell
    go_wp2_with fail
    refine (every_any _ _ _ _ _ l _ hk (hl.below hB) hn).mono ?_
    rintro e w1 ⟨rfl, hb1⟩
    go_wp2
    go_ret
    exact .mk (by rw [HR.out]; rfl) (bstep hB hB.size hb1)

set_option maxHeartbeats 400000 in
theorem iringOk_any (h t : Int) (c : Bool) (x : Int) (A : Option Addr) (n cap : Nat) (l : List Pl) (w : World) (hl : PlsR 0 w A n l) (hn : n ≤ 1048576) :
    Calls Try.prog 13 #[rgV h t c x A n cap] w (RetBelow (.bool (rgOk h t c x l)) w) := by
  unfold rgV
  go_enter Try.func13, Try.ntmps13
  go_wp2_with fail
  refine calls_abs (fun W => Below w.heap.size w W ∧ BoxAt W w.heap.size #[.int .i64 h, .int .i64 t, .bool c, .int .i64 x, .slice A n cap] 27) ⟨(Below.refl _ _).alloc (Nat.le_refl _) _, BoxAt.new _ _ _⟩ ?_
  rintro W ⟨hB, hr⟩
  have kr := hr.cell
  refine (isNo_any _ _).mono ?_
  rintro e w' ⟨rfl, rfl⟩
  cases h1 : noB h
  · go_wp2
    go_ret
    exact .mk (by simp [rgOk, h1]) hB
  go_wp2_with fail
  refine (isNo_any _ _).mono ?_
  rintro e w' ⟨rfl, rfl⟩
  cases h2 : noB t
  · go_wp2
    go_ret
    exact .mk (by simp [rgOk, h2]) hB
  go_wp2_with fail
  refine (nextOk_any _ _ _ _ _ _ _ _).mono ?_
  rintro e w1 ⟨rfl, hb1⟩
  replace hr := hr.below hb1 hr.lt
  replace hB := bstep hB hB.size hb1
  clear hb1 kr
  have kr := hr.cell
  cases h3 : nextB c x
  · go_wp2
    go_ret
    exact .mk (by simp [rgOk, h3]) hB
  go_wp2_with fail
  refine (placesOk_any _ _ _ l _ (hl.below hB) hn).mono ?_
  rintro e w2 ⟨rfl, hb2⟩
  have HV := Lib.hid (show rgOk h t c x l = (roundB l.length && allB l) by simp [rgOk, h1, h2, h3])
  generalize (roundB l.length && allB l) = z at *
  clear h1 h2 h3
  go_wp2
  go_ret
  exact .mk (by rw [HV.out]; rfl) (bstep hB hB.size hb2)

/-- Which place a number has. -/
def placeAt (h t : Int) (c : Bool) (x : Int) (l : List Pl) (z : Int) : Int := if rgOk h t c x l && noB z then z % (l.length : Int) else -1
theorem placeAt_no {h t x z : Int} {c : Bool} {l : List Pl} (e : (rgOk h t c x l && noB z) = false) : placeAt h t c x l z = -1 := by simp [placeAt, e]
theorem placeAt_yes {h t x z : Int} {c : Bool} {l : List Pl} (e : (rgOk h t c x l && noB z) = true) : placeAt h t c x l z = z % (l.length : Int) := by simp [placeAt, e]
theorem rgOk_len {h t x : Int} {c : Bool} {l : List Pl} (e : rgOk h t c x l = true) : 2 ≤ l.length ∧ l.length ≤ 8 := by
  simp [rgOk, roundB] at e; omega
theorem noB_ge {z : Int} (e : noB z = true) : 0 ≤ z := by simp [noB] at e; omega

set_option maxHeartbeats 400000 in
theorem iplaceAt_any (h t : Int) (c : Bool) (x : Int) (A : Option Addr) (n cap : Nat) (l : List Pl) (z : Int) (w : World) (hl : PlsR 0 w A n l) (hn : n ≤ 1048576) :
    Calls Try.prog 10 #[rgV h t c x A n cap, .int .i64 z] w (RetBelow (.int .i64 (placeAt h t c x l z)) w) := by
  have hln := hl.1
  obtain rfl : l.length = n := hln
  unfold rgV
  go_enter Try.func10, Try.ntmps10
  go_wp2_with fail
  refine calls_abs (fun W => Below w.heap.size w W ∧ BoxAt W w.heap.size #[.int .i64 h, .int .i64 t, .bool c, .int .i64 x, .slice A l.length cap] 27) ⟨(Below.refl _ _).alloc (Nat.le_refl _) _, BoxAt.new _ _ _⟩ ?_
  rintro W ⟨hB, hr⟩
  refine (iringOk_any _ _ _ _ _ _ _ l _ (hl.below hB) hn).mono ?_
  rintro e w1 ⟨rfl, hb1⟩
  replace hr := hr.below hb1 hr.lt
  replace hB := bstep hB hB.size hb1
  clear hb1
  have kr := hr.cell
  cases h1 : rgOk h t c x l
  · go_wp2
    go_ret
    exact .mk (by rw [placeAt_no (by rw [h1]; rfl)]; rfl) hB
  have hlen := rgOk_len h1
  go_wp2_with fail
  refine (isNo_any _ _).mono ?_
  rintro e w' ⟨rfl, rfl⟩
  cases h2 : noB z
  · go_wp2
    go_ret
    exact .mk (by rw [placeAt_no (by rw [h1, h2]; rfl)]; rfl) hB
  have hz := noB_ge h2
  have HV := Lib.hid (placeAt_yes (show (rgOk h t c x l && noB z) = true by rw [h1, h2]; rfl))
  go_wp2_with fail
  refine (at_any _ _ _ _ _ hn (by omega) hz).mono ?_
  rintro e w' ⟨rfl, rfl⟩
  clear h1 h2
  go_wp2
  go_ret
  exact .mk (by rw [HV.out]; rfl) hB

set_option maxHeartbeats 400000 in
theorem splaceAt_any (h t : Int) (c : Bool) (x : Int) (A : Option Addr) (n cap : Nat) (l : List Pl) (z : Int) (w : World) (hl : PlsR 0 w A n l) (hn : n ≤ 1048576) :
    Calls Try.prog 15 #[rgV h t c x A n cap, .int .i64 z] w (RetBelow (.int .i64 (placeAt h t c x l z)) w) := by
  have hln := hl.1
  obtain rfl : l.length = n := hln
  unfold rgV
  go_enter Try.func15, Try.ntmps15
  go_wp2_with fail
  refine calls_abs (fun W => Below w.heap.size w W ∧ BoxAt W w.heap.size #[.int .i64 h, .int .i64 t, .bool c, .int .i64 x, .slice A l.length cap] 27) ⟨(Below.refl _ _).alloc (Nat.le_refl _) _, BoxAt.new _ _ _⟩ ?_
  rintro W ⟨hB, hr⟩
  refine (sringOk_any _ _ _ _ _ _ _ l _ (hl.below hB) hn).mono ?_
  rintro e w1 ⟨rfl, hb1⟩
  replace hr := hr.below hb1 hr.lt
  replace hB := bstep hB hB.size hb1
  clear hb1
  have kr := hr.cell
  cases h1 : rgOk h t c x l
  · go_wp2
    go_ret
    exact .mk (by rw [placeAt_no (by rw [h1]; rfl)]; rfl) hB
  have hlen := rgOk_len h1
  go_wp2_with fail
  refine (l1No_any _ _).mono ?_
  rintro e w' ⟨rfl, rfl⟩
  cases h2 : noB z
  · go_wp2
    go_ret
    exact .mk (by rw [placeAt_no (by rw [h1, h2]; rfl)]; rfl) hB
  have hz := noB_ge h2
  have hpos : (0 : Int) < (l.length : Int) := by omega
  have HV := Lib.hid (placeAt_yes (show (rgOk h t c x l && noB z) = true by rw [h1, h2]; rfl))
  clear h1
  go_wp2
  go_ret
  exact .mk (by rw [HV.out]; rfl) hB

end Go.Proofs.Ytlpcpaehkgaffaa


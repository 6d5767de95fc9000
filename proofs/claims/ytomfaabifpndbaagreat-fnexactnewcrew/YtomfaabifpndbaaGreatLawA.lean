/-
  Stores as the laws read, measure and compare them.
-/
import Derived.Test.YtomfaabifpndbaaGreatStoreA
namespace Go.Proofs.YtomfaabifpndbaaGreat
set_option linter.unusedSimpArgs false
set_option linter.unusedVariables false
open Go.RowKit
attribute [local go_sem ↓] Go.wp_at_zero Go.wp_at_succ

/-- A ring's five cells, from an offset on, to be read. -/
def RgE (N : Nat) (w : World) (b o : Nat) (r : Rg) : Prop :=
  ∃ A n cap, w.cell? ⟨b, o, none⟩ = some (.int .i64 r.h) ∧ w.cell? ⟨b, o + 1, none⟩ = some (.int .i64 r.t) ∧ w.cell? ⟨b, o + 2, none⟩ = some (.bool r.c) ∧ w.cell? ⟨b, o + 3, none⟩ = some (.int .i64 r.x) ∧
    w.cell? ⟨b, o + 4, none⟩ = some (.slice A n cap) ∧ n ≤ maxLen ∧ PlsR N w A n r.ps
theorem RgE.kept : Kept RgE := fun _ _ _ _ _ _ hb hs ⟨A, n, cap, h0, h1, h2, h3, h4, hm, hp⟩ =>
  ⟨A, n, cap, hs.cell hb h0, hs.cell hb h1, hs.cell hb h2, hs.cell hb h3, hs.cell hb h4, hm, SlE.keep PlE.kept hp hs⟩

/-- Rings in a slice, to be read. -/
def RgsR (N : Nat) (w : World) (A : Option Addr) (n : Nat) (L : List Rg) : Prop := SlE RgE 5 N w A n L
theorem RgsR.below {N : Nat} {w w' : World} {A : Option Addr} {n : Nat} {L : List Rg} (h : RgsR N w A n L) (hb : Below w.heap.size w w') : RgsR N w' A n L := SlE.below RgE.kept h hb

theorem PlsW.le {lo hi : Nat} {w : World} {A : Option Addr} {n cap : Nat} {l : List Pl} (h : PlsW lo hi w A n cap l) : n ≤ maxLen := by
  rcases Nat.eq_zero_or_pos n with h0 | h0
  · omega
  · obtain ⟨b, _, _, ho⟩ := h.2 h0
    exact Nat.le_trans ho.2.2.1 ho.2.2.2.1

theorem RgsW.r {lo hi : Nat} {w : World} {A : Option Addr} {n cap : Nat} {L : List Rg} (h : RgsW lo hi w A n cap L) : RgsR 0 w A n L :=
  ⟨h.1, fun hn => by
    obtain ⟨b, _, e, _⟩ := h.2 hn
    refine ⟨b, 0, e, Nat.zero_le _, fun i x hx => ?_⟩
    have hi : i < n := by have := (List.getElem?_eq_some_iff.1 hx).1; have := h.1; omega
    obtain ⟨b', r, A', n', cap', e', _, _, hr, d0, d1, d2, d3, d4, hp⟩ := h.at_ hi
    rw [e] at e'
    injection e' with e'
    injection e' with e'
    subst e'
    obtain rfl : r = x := by rw [hr] at hx; injection hx
    rw [Nat.zero_add]
    exact ⟨A', n', cap', d0, d1, d2, d3, d4, hp.le, hp.r⟩⟩
theorem RgsW.le {lo hi : Nat} {w : World} {A : Option Addr} {n cap : Nat} {L : List Rg} (h : RgsW lo hi w A n cap L) : n ≤ maxLen := by
  rcases Nat.eq_zero_or_pos n with h0 | h0
  · omega
  · obtain ⟨b, _, _, _, ho, _⟩ := h.2 h0
    exact Nat.le_trans ho.2.2.1 ho.2.2.2.1

/-! ### How much a store holds -/

def sumPs : List Rg → Nat
  | [] => 0
  | r :: L => r.ps.length + sumPs L
def szRs (left : Int) : List Rg → Int
  | [] => left
  | r :: L => if (r.ps.length : Int) ≤ left then szRs (left - r.ps.length) L else -1
def szL (left : Int) (L : List Rg) : Int := if (L.length : Int) ≤ left then szRs (left - L.length) L else -1
theorem szRs_or : ∀ (L : List Rg) (left : Int), 0 ≤ left → szRs left L = -1 ∨ (0 ≤ szRs left L ∧ szRs left L ≤ left ∧ (sumPs L : Int) ≤ left)
  | [], left, h => .inr ⟨h, Int.le_refl _, by simpa [sumPs] using h⟩
  | r :: L, left, h => by
    unfold szRs
    split
    · rcases szRs_or L (left - r.ps.length) (by omega) with h1 | ⟨h1, h2, h3⟩
      · exact .inl h1
      · exact .inr ⟨h1, by omega, by simp only [sumPs]; omega⟩
    · exact .inl rfl
theorem szL_or {left : Int} (L : List Rg) (h : 0 ≤ left) : szL left L = -1 ∨ (0 ≤ szL left L ∧ szL left L ≤ left ∧ (sumPs L : Int) + L.length ≤ left) := by
  unfold szL
  split
  · rcases szRs_or L (left - L.length) (by omega) with h1 | ⟨h1, h2, h3⟩
    · exact .inl h1
    · exact .inr ⟨h1, by omega, by omega⟩
  · exact .inl rfl
theorem sumPs_mem : ∀ {L : List Rg} {r : Rg}, r ∈ L → r.ps.length ≤ sumPs L
  | r' :: L, r, h => by
    rcases List.mem_cons.1 h with rfl | h
    · simp [sumPs]
    · have := sumPs_mem h
      simp only [sumPs]; omega
theorem szRs_drop {L : List Rg} {i : Nat} {r : Rg} (h : L[i]? = some r) (left : Int) : szRs left (L.drop i) = if (r.ps.length : Int) ≤ left then szRs (left - r.ps.length) (L.drop (i + 1)) else -1 := by
  obtain ⟨hi, e⟩ := List.getElem?_eq_some_iff.1 h
  rw [List.drop_eq_getElem_cons hi, e]
  rfl

set_option maxHeartbeats 1000000 in
theorem szRingS_any (A : Option Addr) (n cap : Nat) (L : List Rg) (left : Int) (w : World) (hr : RgsR 0 w A n L) (hn : n ≤ maxLen) (h0 : 0 ≤ left) (h1 : left ≤ 1048576) :
    Calls Tryz.prog 73 #[.slice A n cap, .int .i64 left] w (RetBelow (.int .i64 (szL left L)) w) := by
  have hl : L.length = n := hr.1
  unfold maxLen at hn
  by_cases h : (n : Int) ≤ left
  · have hz := Lib.hid (show szL left L = szRs (left - n) L by unfold szL; rw [if_pos (by omega), hl])
    go_enter Tryz.func73, Tryz.ntmps73
    go_wp2
    go_loopw [1, 5] (fun s1 s5 W => ∃ (i : Nat) (z : Int), i ≤ n ∧ 0 ≤ z ∧ z ≤ 1048576 ∧ s1 = .int .i64 z ∧ s5 = .int .i64 i ∧ Below w.heap.size w W ∧ szRs (left - n) L = szRs z (L.drop i)) (fun _ s5 _ => n - (intOf s5).toNat)
    case atStart => exact ⟨0, left - n, Nat.zero_le _, by omega, by omega, by go_num, rfl, Below.refl _ _, by simp⟩
    case round =>
      obtain ⟨i, z, hi, hz0, hz1, rfl, rfl, hB, hs⟩ := hrel
      have HS := Lib.hid hs; clear hs
      by_cases hlt : i < n
      · obtain ⟨b, o, r, rfl, _, hri, A', n', cap', c0, c1, c2, c3, c4, hm, hp⟩ := SlE.at_ (SlE.keep RgE.kept hr (fun j _ hj => hB.block j hj)) hlt
        have h1 : (i : Int) < (n : Int) := by omega
        have h2 : (0 : Int) ≤ (i : Int) := by omega
        have hpl : r.ps.length = n' := hp.1
        have HR := Lib.hid hri; clear hri
        go_wp2_with fail
        refine (szRing_any r.h r.t r.c r.x A' n' cap' z _ hm hz0 hz1).mono ?_
        rintro e w1 ⟨rfl, hb1⟩
        clear c0 c1 c2 c3 c4
        have hd := szRs_drop HR.out z
        by_cases hle : (n' : Int) ≤ z
        · have e1 : szI z n' = z - n' := by unfold szI; rw [if_pos hle]
          rw [e1]
          rw [hpl, if_pos hle] at hd
          have HD := Lib.hid hd; clear hd e1
          have h3 : 0 ≤ z - n' := by omega
          have h4 : z - n' ≤ 1048576 := by omega
          generalize z - (n' : Int) = y at *
          go_wp2
          go_roundw
          case rel => exact ⟨i + 1, y, by omega, h3, h4, by go_num, by go_num, bstep hB hB.size hb1, by rw [HS.out, HD.out]⟩
          case measure => simp [intOf]; omega
        · have e1 : szI z n' = -1 := by unfold szI; rw [if_neg hle]
          rw [e1]
          rw [hpl, if_neg hle] at hd
          have HD := Lib.hid hd; clear hd e1
          go_wp2
          go_ret
          exact .mk (by rw [hz.out, HS.out, HD.out]; rfl) (bstep hB hB.size hb1)
      · have h1 : ¬ (i : Int) < (n : Int) := by omega
        go_wp2
        go_ret
        exact .mk (by rw [hz.out, HS.out, List.drop_eq_nil_of_le (by omega)]; rfl) hB
  · have hz := Lib.hid (show szL left L = -1 by unfold szL; rw [if_neg (by omega)])
    go_enter Tryz.func73, Tryz.ntmps73
    go_wp2
    go_ret
    exact .mk (by rw [hz.out]; rfl) (Below.refl _ _)

set_option maxHeartbeats 1000000 in
theorem szStore_any (s : St) (A : Option Addr) (n cap : Nat) (left : Int) (w : World) (hr : RgsR 0 w A n s.rs) (hn : n ≤ maxLen) (h0 : 0 ≤ left) (h1 : left ≤ 1048576) :
    Calls Tryz.prog 42 #[stV s A n cap, .int .i64 left] w (RetBelow (.int .i64 (szL left s.rs)) w) := by
  unfold stV
  go_enter Tryz.func42, Tryz.ntmps42
  go_wp2_with fail
  refine calls_abs (fun W => Below w.heap.size w W) ((Below.refl _ _).alloc (Nat.le_refl _) _) ?_
  rintro W hB
  refine (szRingS_any A n cap s.rs left _ (hr.below hB) hn h0 h1).mono ?_
  rintro e w1 ⟨rfl, hb1⟩
  have hs := szL_or s.rs h0
  generalize szL left s.rs = z at *
  rcases hs with rfl | ⟨hs, _, _⟩
  all_goals
    go_wp2
    go_ret
    exact .mk rfl (bstep hB hB.size hb1)

/-! ### Two that hold the same -/

set_option maxRecDepth 100000 in
set_option maxHeartbeats 1000000 in
theorem eqRingS_same (A B : Option Addr) (n c d : Nat) (L : List Rg) (w : World) (h : RgsR 0 w A n L) (h' : RgsR 0 w B n L) (hn : n ≤ 1048576) (hm : ∀ r ∈ L, r.ps.length ≤ 1048576) :
    Calls Tryz.prog 69 #[.slice A n c, .slice B n d] w (RetBelow (.bool true) w) := by
  have HM := Lib.hid hm; clear hm
  go_enter Tryz.func69, Tryz.ntmps69
  go_wp2
  go_loopw [5] (fun s5 W => ∃ i : Nat, i ≤ n ∧ s5 = .int .i64 i ∧ Below w.heap.size w W) (fun s5 _ => n - (intOf s5).toNat)
  case atStart => exact ⟨0, Nat.zero_le _, rfl, Below.refl _ _⟩
  case round =>
    obtain ⟨i, hi, rfl, hB⟩ := hrel
    by_cases hlt : i < n
    · obtain ⟨b, o, r, rfl, _, hp, A1, n1, k1, c0, c1, c2, c3, c4, hm1, hp1⟩ := SlE.at_ (SlE.keep RgE.kept h (fun j _ hj => hB.block j hj)) hlt
      obtain ⟨b', o', r', rfl, _, hp', A2, n2, k2, d0, d1, d2, d3, d4, hm2, hp2⟩ := SlE.at_ (SlE.keep RgE.kept h' (fun j _ hj => hB.block j hj)) hlt
      obtain rfl : r = r' := by rw [hp] at hp'; injection hp'
      obtain rfl : n1 = n2 := hp1.1.symm.trans hp2.1
      have hle : n1 ≤ 1048576 := by have := HM.out r (List.mem_of_getElem? hp); have := hp1.1; omega
      have h1 : (i : Int) < (n : Int) := by omega
      have h2 : (0 : Int) ≤ (i : Int) := by omega
      clear hp hp'
      go_wp2
      go_still_tail 8, (by kernel_rfl)
      go_wp2_with fail
      refine calls_abs (fun W => Below wr.heap.size wr W) ?_ ?_
      · first | exact (Below.refl _ _) | exact (Below.refl _ _).drew | exact (Below.refl _ _).drewN _
      rintro W2 hB2
      refine (eqRing_same r.h r.t r.c r.x A1 A2 n1 k1 k2 r.ps _ (hp1.below hB2) (hp2.below hB2) hle).mono ?_
      rintro e w1 ⟨rfl, hb1⟩
      go_wp2
      go_roundw
      case rel => exact ⟨i + 1, by omega, by go_num, bstep (bstep hB hB.size hB2) (Nat.le_trans hB.size hB2.size) hb1⟩
      case measure => simp [intOf]; omega
    · have h1 : ¬ (i : Int) < (n : Int) := by omega
      go_wp2
      go_ret
      exact ⟨rfl, hB⟩

set_option maxRecDepth 100000 in
set_option maxHeartbeats 1000000 in
theorem eqStore_same (s : St) (A B : Option Addr) (n c d : Nat) (w : World) (h : RgsR 0 w A n s.rs) (h' : RgsR 0 w B n s.rs) (hn : n ≤ 1048576) (hm : ∀ r ∈ s.rs, r.ps.length ≤ 1048576) :
    Calls Tryz.prog 32 #[stV s A n c, stV s B n d] w (RetBelow (.bool true) w) := by
  have HM := Lib.hid hm; clear hm
  unfold stV
  go_enter Tryz.func32, Tryz.ntmps32
  go_wp2_with fail
  refine calls_abs (fun W => Below w.heap.size w W ∧ BoxAt W w.heap.size #[.int .i64 s.rd, .int .i64 s.mo, .slice A n c, .int .i64 s.fi, .int .i64 s.la] 26 ∧ BoxAt W (w.heap.size + 1) #[.int .i64 s.rd, .int .i64 s.mo, .slice B n d, .int .i64 s.fi, .int .i64 s.la] 26) ⟨((Below.refl _ _).alloc (Nat.le_refl _) _).alloc (by simp) _, (BoxAt.new _ _ _).alloc _, BoxAt.new' (by simp)⟩ ?_
  rintro W ⟨hB, hx, hy⟩
  refine (eqRingS_same A B n c d s.rs _ (h.below hB) (h'.below hB) hn HM.out).mono ?_
  rintro e w1 ⟨rfl, hb1⟩
  replace hx := hx.below hb1 hx.lt
  replace hy := hy.below hb1 hy.lt
  have kx := hx.cell
  have ky := hy.cell
  go_wp2
  go_ret
  exact .mk rfl (bstep hB hB.size hb1)

end Go.Proofs.YtomfaabifpndbaaGreat

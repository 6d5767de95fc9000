/-
  The walk of CrewOk of the model.
-/
import Derived.Test.YtbdgkmamieagfaaCrewB
namespace Go.Proofs.Ytbdgkmamieagfaa
set_option linter.unusedSimpArgs false
set_option linter.unusedVariables false
open Go.RowKit
set_option linter.unusedVariables false
attribute [local go_sem] OpUpon
attribute [local go_sem ↓] Go.wp_at_zero Go.wp_at_succ

theorem sfits_is (s : St) (A : Option Addr) (n cap lo hi : Nat) (h : Hd) (z : Bool) (w : World) (hs : RgsW lo hi w A n cap s.rs) (hh : hi ≤ w.heap.size) (hm : n ≤ 1048576) (hpn : ∀ r ∈ s.rs, r.ps.length ≤ 1048576) (hz : fits s h = z) :
    Calls Try.prog 81 #[.agg #[.int .i64 s.rd, .int .i64 s.mo, .slice A n cap, .int .i64 s.fi, .int .i64 s.la], hdV h] w (RetBelow (.bool z) w) := by
  rw [← hz]; exact sfits_any s A n cap lo hi h w hs hh hm hpn
theorem l10Jobs_is (l : List Int) (A : Option Addr) (n cap lo hi : Nat) (z : Bool) (w : World) (h : IntsW lo hi w A n cap l) (hh : hi ≤ w.heap.size) (hm : n ≤ 1048576) (hz : jobsOk l = z) :
    Calls Try.prog 82 #[.slice A n cap] w (RetBelow (.bool z) w) := by
  rw [← hz]; exact l10Jobs_any l A n cap lo hi w h hh hm
theorem l1In_is (x lo hi : Int) (z : Bool) (w : World) (hz : inB x lo hi = z) : Calls Try.prog 42 #[.int .i64 x, .int .i64 lo, .int .i64 hi] w (RetBelow (.bool z) w) := by
  rw [← hz]
  refine (l1In_any x lo hi w).mono ?_
  rintro e w' ⟨rfl, rfl⟩
  exact ⟨rfl, Below.refl _ _⟩
theorem crOk_head {c : Cr} (h : crHead c = false) : crOk c = false := by simp [crOk, h]
theorem crOk_at {c : Cr} {i : Nat} (hi : i < c.hs.length) (h : crAt c i = false) : crOk c = false := by
  have : (List.range c.hs.length).all (crAt c) = false := by rw [List.all_eq_false]; exact ⟨i, List.mem_range.2 hi, by simp [h]⟩
  simp [crOk, this]
theorem getD_some {α : Type} {l : List α} {i : Nat} {x d : α} (h : l[i]? = some x) : l.getD i d = x := by simp [List.getD_eq_getElem?_getD, h]

def cwAR (c : Cr) (SB i n sN kS hb kH jb kJ bb kB eN kE : Nat) (sA eA : Option Addr) (h : Hd) (A' : Option Addr) (n' cap' : Nat) (bz : Int) (j : Nat) (σ : Nat → Value) (w : World) : Prop :=
  match j with
  | 0 => σ 0 = .pointer (some ⟨SB, 0, none⟩)
  | 1 => σ 1 = .agg #[.int .i64 c.st.rd, .int .i64 c.st.mo, .slice sA sN kS, .int .i64 c.st.fi, .int .i64 c.st.la]
  | 2 => σ 2 = .pointer (some ⟨SB, 5, none⟩)
  | 3 => σ 3 = .slice (some ⟨hb, 0, none⟩) n kH
  | 4 => σ 4 = .int .i64 ((i : Int))
  | 5 => σ 5 = .pointer (some ⟨hb, i * 12, none⟩)
  | 6 => σ 6 = .agg #[.int .i64 h.at_, .int .i64 h.v, .int .i64 h.r, .int .i64 h.t, .bool h.seen.s, .int .i64 h.seen.n, .bool h.seen.f, .int .i64 h.seen.v, .int .i64 h.tr, .int .i64 h.sp, .bool h.ag, .int .i64 h.re]
  | 7 => σ 7 = .bool false
  | 8 => σ 8 = .bool true
  | 9 => σ 9 = .bool true
  | 10 => σ 10 = undef
  | 11 => σ 11 = undef
  | 12 => σ 12 = undef
  | 13 => σ 13 = undef
  | 14 => σ 14 = undef
  | 15 => σ 15 = undef
  | 16 => σ 16 = undef
  | 17 => σ 17 = .bool true
  | 18 => σ 18 = .bool true
  | 19 => σ 19 = undef
  | 20 => σ 20 = undef
  | 21 => σ 21 = undef
  | 22 => σ 22 = undef
  | 23 => σ 23 = undef
  | 24 => σ 24 = undef
  | 25 => σ 25 = undef
  | 26 => σ 26 = undef
  | 27 => σ 27 = undef
  | 28 => σ 28 = .bool true
  | _ => True

def cwAS (j : Nat) : List Nat := [[0], [1], [2], [3], [4], [5], [6], [7], [8], [9], [10], [11], [12], [13], [14], [15], [16], [17], [18], [19], [20], [21], [22], [23], [24], [25], [26], [27], [28]].getD j [j]
def cwAK (j : Nat) : Nat := [0, 0, 0, 0, 0, 0, 0, 0, 0, 0, 0, 0, 0, 0, 0, 0, 0, 0, 0, 0, 0, 0, 0, 0, 0, 0, 0, 0, 0].getD j 0

def cwBR (c : Cr) (SB i n sN kS hb kH jb kJ bb kB eN kE : Nat) (sA eA : Option Addr) (h : Hd) (A' : Option Addr) (n' cap' : Nat) (bz : Int) (j : Nat) (σ : Nat → Value) (w : World) : Prop :=
  match j with
  | 0 => σ 0 = .pointer (some ⟨SB, 0, none⟩)
  | 1 => σ 1 = .agg #[.int .i64 c.st.rd, .int .i64 c.st.mo, .slice sA sN kS, .int .i64 c.st.fi, .int .i64 c.st.la]
  | 2 => σ 2 = .pointer (some ⟨SB, 5, none⟩)
  | 3 => σ 3 = .slice (some ⟨hb, 0, none⟩) n kH
  | 4 => σ 4 = .int .i64 ((i : Int))
  | 5 => σ 5 = .pointer (some ⟨hb, i * 12, none⟩)
  | 6 => σ 6 = .agg #[.int .i64 h.at_, .int .i64 h.v, .int .i64 h.r, .int .i64 h.t, .bool h.seen.s, .int .i64 h.seen.n, .bool h.seen.f, .int .i64 h.seen.v, .int .i64 h.tr, .int .i64 h.sp, .bool h.ag, .int .i64 h.re]
  | 7 => σ 7 = .bool true
  | 8 => σ 8 = .bool false
  | 9 => σ 9 = .bool false
  | 10 => σ 10 = .pointer (some ⟨SB, 6, none⟩)
  | 11 => σ 11 = .slice (some ⟨jb, 0, none⟩) n kJ
  | 12 => σ 12 = .int .i64 ((i : Int))
  | 13 => σ 13 = .pointer (some ⟨jb, i, none⟩)
  | 14 => σ 14 = .slice A' n' cap'
  | 15 => σ 15 = .bool false
  | 16 => σ 16 = .bool true
  | 17 => σ 17 = .bool true
  | 18 => σ 18 = .bool true
  | 19 => σ 19 = undef
  | 20 => σ 20 = undef
  | 21 => σ 21 = undef
  | 22 => σ 22 = undef
  | 23 => σ 23 = undef
  | 24 => σ 24 = undef
  | 25 => σ 25 = undef
  | 26 => σ 26 = undef
  | 27 => σ 27 = undef
  | 28 => σ 28 = .bool true
  | _ => True

def cwBS (j : Nat) : List Nat := [[0], [1], [2], [3], [4], [5], [6], [7], [8], [9], [10], [11], [12], [13], [14], [15], [16], [17], [18], [19], [20], [21], [22], [23], [24], [25], [26], [27], [28]].getD j [j]
def cwBK (j : Nat) : Nat := [0, 0, 0, 0, 0, 0, 0, 0, 0, 0, 0, 0, 0, 0, 0, 0, 0, 0, 0, 0, 0, 0, 0, 0, 0, 0, 0, 0, 0].getD j 0

def cwCR (c : Cr) (SB i n sN kS hb kH jb kJ bb kB eN kE : Nat) (sA eA : Option Addr) (h : Hd) (A' : Option Addr) (n' cap' : Nat) (bz : Int) (j : Nat) (σ : Nat → Value) (w : World) : Prop :=
  match j with
  | 0 => σ 0 = .pointer (some ⟨SB, 0, none⟩)
  | 1 => σ 1 = .agg #[.int .i64 c.st.rd, .int .i64 c.st.mo, .slice sA sN kS, .int .i64 c.st.fi, .int .i64 c.st.la]
  | 2 => σ 2 = .pointer (some ⟨SB, 5, none⟩)
  | 3 => σ 3 = .slice (some ⟨hb, 0, none⟩) n kH
  | 4 => σ 4 = .int .i64 ((i : Int))
  | 5 => σ 5 = .pointer (some ⟨hb, i * 12, none⟩)
  | 6 => σ 6 = .agg #[.int .i64 h.at_, .int .i64 h.v, .int .i64 h.r, .int .i64 h.t, .bool h.seen.s, .int .i64 h.seen.n, .bool h.seen.f, .int .i64 h.seen.v, .int .i64 h.tr, .int .i64 h.sp, .bool h.ag, .int .i64 h.re]
  | 7 => σ 7 = .bool true
  | 8 => σ 8 = .bool false
  | 9 => σ 9 = .bool false
  | 10 => σ 10 = .pointer (some ⟨SB, 6, none⟩)
  | 11 => σ 11 = .slice (some ⟨jb, 0, none⟩) n kJ
  | 12 => σ 12 = .int .i64 ((i : Int))
  | 13 => σ 13 = .pointer (some ⟨jb, i, none⟩)
  | 14 => σ 14 = .slice A' n' cap'
  | 15 => σ 15 = .bool true
  | 16 => σ 16 = .bool false
  | 17 => σ 17 = .bool false
  | 18 => σ 18 = .bool false
  | 19 => σ 19 = .pointer (some ⟨SB, 7, none⟩)
  | 20 => σ 20 = .slice (some ⟨bb, 0, none⟩) n kB
  | 21 => σ 21 = .int .i64 ((i : Int))
  | 22 => σ 22 = .pointer (some ⟨bb, i, none⟩)
  | 23 => σ 23 = .int .i64 bz
  | 24 => σ 24 = .pointer (some ⟨SB, 8, none⟩)
  | 25 => σ 25 = .int .i64 c.ck
  | 26 => σ 26 = .bool false
  | 27 => σ 27 = .bool true
  | 28 => σ 28 = .bool true
  | _ => True

def cwCS (j : Nat) : List Nat := [[0], [1], [2], [3], [4], [5], [6], [7], [8], [9], [10], [11], [12], [13], [14], [15], [16], [17], [18], [19], [20], [21], [22], [23], [24], [25], [26], [27], [28]].getD j [j]
def cwCK (j : Nat) : Nat := [0, 0, 0, 0, 0, 0, 0, 0, 0, 0, 0, 0, 0, 0, 0, 0, 0, 0, 0, 0, 0, 0, 0, 0, 0, 0, 0, 0, 0].getD j 0

def cwDR (c : Cr) (SB i n sN kS hb kH jb kJ bb kB eN kE : Nat) (sA eA : Option Addr) (h : Hd) (A' : Option Addr) (n' cap' : Nat) (bz : Int) (j : Nat) (σ : Nat → Value) (w : World) : Prop :=
  match j with
  | 0 => σ 0 = .pointer (some ⟨SB, 0, none⟩)
  | 1 => σ 1 = .agg #[.int .i64 c.st.rd, .int .i64 c.st.mo, .slice sA sN kS, .int .i64 c.st.fi, .int .i64 c.st.la]
  | 2 => σ 2 = .pointer (some ⟨SB, 5, none⟩)
  | 3 => σ 3 = .slice (some ⟨hb, 0, none⟩) n kH
  | 4 => σ 4 = .int .i64 ((i : Int))
  | 5 => σ 5 = .pointer (some ⟨hb, i * 12, none⟩)
  | 6 => σ 6 = .agg #[.int .i64 h.at_, .int .i64 h.v, .int .i64 h.r, .int .i64 h.t, .bool h.seen.s, .int .i64 h.seen.n, .bool h.seen.f, .int .i64 h.seen.v, .int .i64 h.tr, .int .i64 h.sp, .bool h.ag, .int .i64 h.re]
  | 7 => σ 7 = .bool true
  | 8 => σ 8 = .bool false
  | 9 => σ 9 = .bool false
  | 10 => σ 10 = .pointer (some ⟨SB, 6, none⟩)
  | 11 => σ 11 = .slice (some ⟨jb, 0, none⟩) n kJ
  | 12 => σ 12 = .int .i64 ((i : Int))
  | 13 => σ 13 = .pointer (some ⟨jb, i, none⟩)
  | 14 => σ 14 = .slice A' n' cap'
  | 15 => σ 15 = .bool true
  | 16 => σ 16 = .bool false
  | 17 => σ 17 = .bool false
  | 18 => σ 18 = .bool false
  | 19 => σ 19 = .pointer (some ⟨SB, 7, none⟩)
  | 20 => σ 20 = .slice (some ⟨bb, 0, none⟩) n kB
  | 21 => σ 21 = .int .i64 ((i : Int))
  | 22 => σ 22 = .pointer (some ⟨bb, i, none⟩)
  | 23 => σ 23 = .int .i64 bz
  | 24 => σ 24 = .pointer (some ⟨SB, 8, none⟩)
  | 25 => σ 25 = .int .i64 c.ck
  | 26 => σ 26 = .bool true
  | 27 => σ 27 = .bool false
  | 28 => σ 28 = .bool false
  | _ => True

def cwDS (j : Nat) : List Nat := [[0], [1], [2], [3], [4], [5], [6], [7], [8], [9], [10], [11], [12], [13], [14], [15], [16], [17], [18], [19], [20], [21], [22], [23], [24], [25], [26], [27], [28]].getD j [j]
def cwDK (j : Nat) : Nat := [0, 0, 0, 0, 0, 0, 0, 0, 0, 0, 0, 0, 0, 0, 0, 0, 0, 0, 0, 0, 0, 0, 0, 0, 0, 0, 0, 0, 0].getD j 0

set_option maxRecDepth 100000 in
set_option maxHeartbeats 4000000 in
theorem screwOk_any (c : Cr) (y : CrL) (lo hi : Nat) (w : World) (hW0 : CrW lo hi w c y) (hh : hi ≤ w.heap.size) (hf : CrFit c) :
    Calls Try.prog 75 #[crV c y] w (RetBelow (.bool (crOk c)) w) := by
  obtain ⟨⟨sA, sN, kS⟩, ⟨hA, n, kH⟩, ⟨jA, jN, kJ⟩, ⟨bA, bN, kB⟩, ⟨eA, eN, kE⟩⟩ := y
  have e1 : c.st.rs.length = sN := hW0.s.1
  have e2 : c.hs.length = n := hW0.h.1
  have e3 : c.js.length = jN := hW0.j.len
  have e4 : c.bs.length = bN := hW0.b.1
  have e5 : c.es.length = eN := hW0.e.1
  have hm1 : sN ≤ 1048576 := by have := hf.s; omega
  have hm2 : n ≤ 1048576 := by have := hf.h; omega
  have hm3 : jN ≤ 1048576 := by have := hf.j; omega
  have hm4 : bN ≤ 1048576 := by have := hf.b; omega
  have hm5 : eN ≤ 1048576 := by have := hf.e; omega
  have HP := Lib.hid hf.p
  have HJ := Lib.hid hf.l
  have E2 := Lib.hid e2
  have E3 := Lib.hid e3
  have E4 := Lib.hid e4
  clear e1 e2 e3 e4 e5 hf
  unfold crV
  dsimp only
  go_enter Try.func75, Try.ntmps75
  go_wp2_with fail
  refine calls_abs (fun W => Below w.heap.size w W ∧ BoxAt W w.heap.size #[.int .i64 c.st.rd, .int .i64 c.st.mo, .slice sA sN kS, .int .i64 c.st.fi, .int .i64 c.st.la, .slice hA n kH, .slice jA jN kJ, .slice bA bN kB, .int .i64 c.ck, .slice eA eN kE] 88) ⟨(Below.refl _ _).alloc (Nat.le_refl _) _, BoxAt.new _ _ _⟩ ?_
  rintro W ⟨hB, hs⟩
  refine (sstoreOk_any c.st sA sN kS lo hi _ (hW0.s.below hB hh) (Nat.le_trans hh hB.size) hm1 HP.out).mono ?_
  rintro e w1 ⟨rfl, hb1⟩
  replace hs := hs.below hb1 hs.lt
  replace hB := bstep hB hB.size hb1
  clear hb1
  have ks := hs.cell
  cases h1 : stOk c.st
  · go_wp2
    go_ret
    exact .mk (by rw [crOk_head (by simp [crHead, h1])]; rfl) hB
  go_wp2_with fail
  refine (l1In_any _ _ _ _).mono ?_
  rintro e w' ⟨rfl, rfl⟩
  cases h2 : inB n 1 4
  · go_wp2
    go_ret
    exact .mk (by rw [crOk_head (by simp [crHead, E2.out, h2])]; rfl) hB
  cases h3 : (jN == n)
  · have h3' : ((jN : Int) != (n : Int)) = true := by simp at h3 ⊢; omega
    have h3'' : ¬ ((jN : Int) = (n : Int)) := by simp at h3; omega
    go_wp2
    go_ret
    exact .mk (by rw [crOk_head (by simp [crHead, E2.out, E3.out, h3])]; rfl) hB
  obtain rfl : jN = n := by simpa using h3
  cases h4 : (bN == jN)
  · have h4' : ((bN : Int) != (jN : Int)) = true := by simp at h4 ⊢; omega
    have h4'' : ¬ ((bN : Int) = (jN : Int)) := by simp at h4; omega
    go_wp2
    go_ret
    exact .mk (by rw [crOk_head (by simp [crHead, E2.out, E4.out, h4])]; rfl) hB
  obtain rfl : bN = jN := by simpa using h4
  go_wp2_with fail
  refine (l1In_any _ _ _ _).mono ?_
  rintro e w' ⟨rfl, rfl⟩
  cases h5 : inB c.ck 0 2000
  · go_wp2
    go_ret
    exact .mk (by rw [crOk_head (by simp [crHead, h5])]; rfl) hB
  go_wp2_with fail
  refine (sstoryOk_any c.es eA eN kE lo hi _ (SlW.below hW0.e hB hh) (Nat.le_trans hh hB.size) hm5).mono ?_
  rintro e w2 ⟨rfl, hb1⟩
  replace hs := hs.below hb1 hs.lt
  replace hB := bstep hB hB.size hb1
  clear hb1 ks
  have ks := hs.cell
  cases h6 : storyOk c.es
  · go_wp2
    go_ret
    exact .mk (by rw [crOk_head (by simp [crHead, h6])]; rfl) hB
  have HH := Lib.hid (show crHead c = true by simp [crHead, E2.out, E3.out, E4.out, h1, h2, h5, h6])
  have hn1 : 1 ≤ bN ∧ bN ≤ 4 := by simp [inB] at h2; omega
  obtain ⟨hn1, hn4⟩ := hn1
  clear h1 h2 h3 h4 h5 h6
  obtain ⟨hb, -, hA', -, -, -, -⟩ := SlW.at_ hW0.h Hd.cs_len (i := 0) (by show 0 < bN; omega)
  obtain ⟨jb, -, -, -, -, jA', -, -, -, -, -⟩ := hW0.j.at_ (i := 0) (by show 0 < bN; omega)
  obtain ⟨bb, -, bA', -, -, -, -⟩ := SlW.at_ hW0.b ic_len (i := 0) (by show 0 < bN; omega)
  dsimp only at hA' jA' bA'
  subst hA' jA' bA'
  go_wp2
  go_loopw [4] (fun s4 W => ∃ i : Nat, i ≤ bN ∧ s4 = .int .i64 i ∧ Below w.heap.size w W ∧ BoxAt W w.heap.size #[.int .i64 c.st.rd, .int .i64 c.st.mo, .slice sA sN kS, .int .i64 c.st.fi, .int .i64 c.st.la, .slice (some ⟨hb, 0, none⟩) bN kH, .slice (some ⟨jb, 0, none⟩) bN kJ, .slice (some ⟨bb, 0, none⟩) bN kB, .int .i64 c.ck, .slice eA eN kE] 88 ∧ ∀ j : Nat, j < i → crAt c j = true) (fun s4 _ => bN - (intOf s4).toNat)
  case atStart => exact ⟨0, Nat.zero_le _, rfl, hB, hs, fun j h => absurd h (by omega)⟩
  case round =>
    clear hB hs ks
    obtain ⟨i, hin, rfl, hB, hs, hal⟩ := hrel
    have HAL := Lib.hid hal; clear hal
    have ks := hs.cell
    by_cases hlt : i < bN
    · have hW := hW0.below hB hh
      have hhi : hi ≤ wr.heap.size := Nat.le_trans hh hB.size
      obtain ⟨b1, h, hA', -, -, hh1, hhc⟩ := SlW.at_ hW.h Hd.cs_len (i := i) hlt
      obtain ⟨b2, jl, A', n', cap', jA', -, -, hj1, hjc0, hI⟩ := hW.j.at_ (i := i) hlt
      obtain ⟨b3, bz, bA', -, -, hb1, hbc0⟩ := SlW.at_ hW.b ic_len (i := i) hlt
      dsimp only at hA' jA' bA'
      injection hA' with hA'
      injection hA' with hA'
      injection jA' with jA'
      injection jA' with jA'
      injection bA' with bA'
      injection bA' with bA'
      subst hA' jA' bA'
      replace hhc : CellsAt wr hb (i * 12) h.cs := hhc
      have hjc : CellsAt wr jb i [.slice A' n' cap'] := fun j u hu => by
        obtain rfl : j = 0 := by have := (List.getElem?_eq_some_iff.1 hu).1; simp at this; exact this
        simp at hu; subst hu; exact hjc0
      have hbc : CellsAt wr bb i [.int .i64 bz] := fun j u hu => by
        have := hbc0 j u hu
        rwa [Nat.mul_one] at this
      clear hjc0 hbc0
      have hn' : n' ≤ 1048576 := by rw [← hI.1]; exact HJ.out jl (List.mem_of_getElem? hj1)
      have HAT := Lib.hid (show crAt c i = (fits c.st h && jobsOk jl && inB bz 0 c.ck) by unfold crAt; rw [getD_some hh1, getD_some hj1, getD_some hb1])
      clear hh1 hj1 hb1
      have g1 : (i : Int) < (bN : Int) := by omega
      have g2 : (0 : Int) ≤ (i : Int) := by omega
      cases hfit : fits c.st h
      · go_upto_region 7 with fail
        clear ks
        go_cut [76] (fun u76 W' => BoxAt W' w.heap.size #[.int .i64 c.st.rd, .int .i64 c.st.mo, .slice sA sN kS, .int .i64 c.st.fi, .int .i64 c.st.la, .slice (some ⟨hb, 0, none⟩) bN kH, .slice (some ⟨jb, 0, none⟩) bN kJ, .slice (some ⟨bb, 0, none⟩) bN kB, .int .i64 c.ck, .slice eA eN kE] 88 ∧ Below w.heap.size w W' ∧ u76 = .bool true)
        case first =>
          refine wp_region2 (fun w w' => Below w.heap.size w w') (fun _ _ h => h.size) (fun L W' => BoxAt W' w.heap.size #[.int .i64 c.st.rd, .int .i64 c.st.mo, .slice sA sN kS, .int .i64 c.st.fi, .int .i64 c.st.la, .slice (some ⟨hb, 0, none⟩) bN kH, .slice (some ⟨jb, 0, none⟩) bN kJ, .slice (some ⟨bb, 0, none⟩) bN kB, .int .i64 c.ck, .slice eA eN kE] 88 ∧ CrW lo hi W' c (⟨⟨sA, sN, kS⟩, ⟨some ⟨hb, 0, none⟩, bN, kH⟩, ⟨some ⟨jb, 0, none⟩, bN, kJ⟩, ⟨some ⟨bb, 0, none⟩, bN, kB⟩, ⟨eA, eN, kE⟩⟩ : CrL) ∧ hi ≤ W'.heap.size ∧ CellsAt W' hb (i * 12) h.cs ∧ CellsAt W' jb i [.slice A' n' cap'] ∧ IntsW lo hi W' A' n' cap' jl ∧ CellsAt W' bb i [.int .i64 bz] ∧ Below w.heap.size w W') (cwAR c w.heap.size i bN sN kS hb kH jb kJ bb kB eN kE sA eA h A' n' cap' bz) cwAK cwAS (by kernel_rfl) (by kernel_rfl) ?_ ?_ ?_
            (.grow rfl ?_ <| .grow rfl ?_ <| .grow rfl ?_ <| .grow rfl ?_ <| .grow rfl ?_ <| .grow rfl ?_ <| .grow rfl ?_ <| .grow rfl ?_ <| .grow rfl ?_ <| .grow rfl ?_ <| .grow rfl ?_ <| .grow rfl ?_ <| .grow rfl ?_ <| .grow rfl ?_ <| .grow rfl ?_ <| .grow rfl ?_ <| .grow rfl ?_ <| .grow rfl ?_ <| .grow rfl ?_ <| .grow rfl ?_ <| .grow rfl ?_ <| .grow rfl ?_ <| .grow rfl ?_ <| .grow rfl ?_ <| .grow rfl ?_ <| .grow rfl ?_ <| .grow rfl ?_ <| .grow rfl ?_ <| .grow rfl ?_ <| .nil) ?_
          · intro j σ τ w h hR
            match j, h, hR with
            | 0, h, hR => exact (h 0 (List.mem_singleton.2 rfl)).symm.trans hR
            | 1, h, hR => exact (h 1 (List.mem_singleton.2 rfl)).symm.trans hR
            | 2, h, hR => exact (h 2 (List.mem_singleton.2 rfl)).symm.trans hR
            | 3, h, hR => exact (h 3 (List.mem_singleton.2 rfl)).symm.trans hR
            | 4, h, hR => exact (h 4 (List.mem_singleton.2 rfl)).symm.trans hR
            | 5, h, hR => exact (h 5 (List.mem_singleton.2 rfl)).symm.trans hR
            | 6, h, hR => exact (h 6 (List.mem_singleton.2 rfl)).symm.trans hR
            | 7, h, hR => exact (h 7 (List.mem_singleton.2 rfl)).symm.trans hR
            | 8, h, hR => exact (h 8 (List.mem_singleton.2 rfl)).symm.trans hR
            | 9, h, hR => exact (h 9 (List.mem_singleton.2 rfl)).symm.trans hR
            | 10, h, hR => exact (h 10 (List.mem_singleton.2 rfl)).symm.trans hR
            | 11, h, hR => exact (h 11 (List.mem_singleton.2 rfl)).symm.trans hR
            | 12, h, hR => exact (h 12 (List.mem_singleton.2 rfl)).symm.trans hR
            | 13, h, hR => exact (h 13 (List.mem_singleton.2 rfl)).symm.trans hR
            | 14, h, hR => exact (h 14 (List.mem_singleton.2 rfl)).symm.trans hR
            | 15, h, hR => exact (h 15 (List.mem_singleton.2 rfl)).symm.trans hR
            | 16, h, hR => exact (h 16 (List.mem_singleton.2 rfl)).symm.trans hR
            | 17, h, hR => exact (h 17 (List.mem_singleton.2 rfl)).symm.trans hR
            | 18, h, hR => exact (h 18 (List.mem_singleton.2 rfl)).symm.trans hR
            | 19, h, hR => exact (h 19 (List.mem_singleton.2 rfl)).symm.trans hR
            | 20, h, hR => exact (h 20 (List.mem_singleton.2 rfl)).symm.trans hR
            | 21, h, hR => exact (h 21 (List.mem_singleton.2 rfl)).symm.trans hR
            | 22, h, hR => exact (h 22 (List.mem_singleton.2 rfl)).symm.trans hR
            | 23, h, hR => exact (h 23 (List.mem_singleton.2 rfl)).symm.trans hR
            | 24, h, hR => exact (h 24 (List.mem_singleton.2 rfl)).symm.trans hR
            | 25, h, hR => exact (h 25 (List.mem_singleton.2 rfl)).symm.trans hR
            | 26, h, hR => exact (h 26 (List.mem_singleton.2 rfl)).symm.trans hR
            | 27, h, hR => exact (h 27 (List.mem_singleton.2 rfl)).symm.trans hR
            | 28, h, hR => exact (h 28 (List.mem_singleton.2 rfl)).symm.trans hR
            | _ + 29, _, _ => exact trivial
          · intro j σ w w' hb hR
            match j, hR with
            | 0, hR => exact hR
            | 1, hR => exact hR
            | 2, hR => exact hR
            | 3, hR => exact hR
            | 4, hR => exact hR
            | 5, hR => exact hR
            | 6, hR => exact hR
            | 7, hR => exact hR
            | 8, hR => exact hR
            | 9, hR => exact hR
            | 10, hR => exact hR
            | 11, hR => exact hR
            | 12, hR => exact hR
            | 13, hR => exact hR
            | 14, hR => exact hR
            | 15, hR => exact hR
            | 16, hR => exact hR
            | 17, hR => exact hR
            | 18, hR => exact hR
            | 19, hR => exact hR
            | 20, hR => exact hR
            | 21, hR => exact hR
            | 22, hR => exact hR
            | 23, hR => exact hR
            | 24, hR => exact hR
            | 25, hR => exact hR
            | 26, hR => exact hR
            | 27, hR => exact hR
            | 28, hR => exact hR
            | _ + 29, _ => exact trivial
          · exact ⟨hs, hW.drew, hhi, hhc, hjc, hI, hbc, hB.drew⟩
          · -- 0: Op.fieldAddr 88 t1 0
            go_light
            intro L σ W' hcl hL hC hw
            clear hw
            have HC := Lib.hid hC
            clear hC
            clear hcl hL
            refine OpGoes.step fun K hK => ?_
            unfold OpGoes
            go_simp
            obtain ⟨hs, hW, hhi, hhc, hjc, hI, hbc, hB⟩ := HC.out
            exact hK _ _ ⟨⟨hs, hW, hhi, hhc, hjc, hI, hbc, hB⟩, rfl, Below.refl _ _⟩
          · -- 1: Op.load 75 t48
            go_light
            intro L σ W' hcl hL hC hw
            have e0 : σ 0 = .pointer (some ⟨w.heap.size, 0, none⟩) := hw 0 (by kernel_rfl)
            clear hw
            have HC := Lib.hid hC
            obtain ⟨hs, hW, hhi, hhc, hjc, hI, hbc, hB⟩ := hC
            have ks := hs.cell
            clear hcl hL
            clear hs hW hhi hhc hjc hI hbc hB
            refine OpGoes.step fun K hK => ?_
            unfold OpGoes
            go_simp
            obtain ⟨hs, hW, hhi, hhc, hjc, hI, hbc, hB⟩ := HC.out
            exact hK _ _ ⟨⟨hs, hW, hhi, hhc, hjc, hI, hbc, hB⟩, rfl, Below.refl _ _⟩
          · -- 2: Op.fieldAddr 88 t1 1
            go_light
            intro L σ W' hcl hL hC hw
            clear hw
            have HC := Lib.hid hC
            clear hC
            clear hcl hL
            refine OpGoes.step fun K hK => ?_
            unfold OpGoes
            go_simp
            obtain ⟨hs, hW, hhi, hhc, hjc, hI, hbc, hB⟩ := HC.out
            exact hK _ _ ⟨⟨hs, hW, hhi, hhc, hjc, hI, hbc, hB⟩, rfl, Below.refl _ _⟩
          · -- 3: Op.load 84 t50
            go_light
            intro L σ W' hcl hL hC hw
            have e2 : σ 2 = .pointer (some ⟨w.heap.size, 5, none⟩) := hw 2 (by kernel_rfl)
            clear hw
            have HC := Lib.hid hC
            obtain ⟨hs, hW, hhi, hhc, hjc, hI, hbc, hB⟩ := hC
            have ks := hs.cell
            clear hcl hL
            clear hs hW hhi hhc hjc hI hbc hB
            refine OpGoes.step fun K hK => ?_
            unfold OpGoes
            go_simp
            obtain ⟨hs, hW, hhi, hhc, hjc, hI, hbc, hB⟩ := HC.out
            exact hK _ _ ⟨⟨hs, hW, hhi, hhc, hjc, hI, hbc, hB⟩, rfl, Below.refl _ _⟩
          · -- 4: Op.move t4
            go_light
            intro L σ W' hcl hL hC hw
            clear hw
            have HC := Lib.hid hC
            clear hC
            clear hcl hL
            refine OpGoes.step fun K hK => ?_
            unfold OpGoes
            go_simp
            obtain ⟨hs, hW, hhi, hhc, hjc, hI, hbc, hB⟩ := HC.out
            exact hK _ _ ⟨⟨hs, hW, hhi, hhc, hjc, hI, hbc, hB⟩, rfl, Below.refl _ _⟩
          · -- 5: Op.indexAddr 84 t51 t52
            go_light
            intro L σ W' hcl hL hC hw
            have e3 : σ 3 = .slice (some ⟨hb, 0, none⟩) bN kH := hw 3 (by kernel_rfl)
            have e4 : σ 4 = .int .i64 ((i : Int)) := hw 4 (by kernel_rfl)
            clear hw
            have HC := Lib.hid hC
            clear hC
            clear hcl hL
            refine OpGoes.step fun K hK => ?_
            unfold OpGoes
            go_simp
            obtain ⟨hs, hW, hhi, hhc, hjc, hI, hbc, hB⟩ := HC.out
            exact hK _ _ ⟨⟨hs, hW, hhi, hhc, hjc, hI, hbc, hB⟩, rfl, Below.refl _ _⟩
          · -- 6: Op.load 41 t53
            go_light
            intro L σ W' hcl hL hC hw
            have e5 : σ 5 = .pointer (some ⟨hb, i * 12, none⟩) := hw 5 (by kernel_rfl)
            clear hw
            have HC := Lib.hid hC
            obtain ⟨hs, hW, hhi, hhc, hjc, hI, hbc, hB⟩ := hC
            have hhc0 := hhc
            have d0 := hhc 0 _ rfl
            have d1 := hhc 1 _ rfl
            have d2 := hhc 2 _ rfl
            have d3 := hhc 3 _ rfl
            have d4 := hhc 4 _ rfl
            have d5 := hhc 5 _ rfl
            have d6 := hhc 6 _ rfl
            have d7 := hhc 7 _ rfl
            have d8 := hhc 8 _ rfl
            have d9 := hhc 9 _ rfl
            have d10 := hhc 10 _ rfl
            have d11 := hhc 11 _ rfl
            rw [Nat.add_zero] at d0
            clear hcl hL
            clear hs hW hhi hhc hjc hI hbc hB
            refine OpGoes.step fun K hK => ?_
            unfold OpGoes
            go_simp
            obtain ⟨hs, hW, hhi, hhc, hjc, hI, hbc, hB⟩ := HC.out
            exact hK _ _ ⟨⟨hs, hW, hhi, hhc, hjc, hI, hbc, hB⟩, rfl, Below.refl _ _⟩
          · -- 7: Op.call { value (Operand.func 81), args := #[t49, t54], argTypes := #[75, 41] }
            go_light
            intro L σ W' hcl hL hC hw
            have e1 : σ 1 = .agg #[.int .i64 c.st.rd, .int .i64 c.st.mo, .slice sA sN kS, .int .i64 c.st.fi, .int .i64 c.st.la] := hw 1 (by kernel_rfl)
            have e6 : σ 6 = .agg #[.int .i64 h.at_, .int .i64 h.v, .int .i64 h.r, .int .i64 h.t, .bool h.seen.s, .int .i64 h.seen.n, .bool h.seen.f, .int .i64 h.seen.v, .int .i64 h.tr, .int .i64 h.sp, .bool h.ag, .int .i64 h.re] := hw 6 (by kernel_rfl)
            clear hw
            have HC := Lib.hid hC
            clear hC
            clear hcl hL
            refine OpGoes.step fun K hK => ?_
            unfold OpGoes
            go_simp
            obtain ⟨hs, hW, hhi, hhc, hjc, hI, hbc, hB⟩ := HC.out
            refine (sfits_is c.st sA sN kS lo hi h false _ hW.s hhi hm1 HP.out hfit).mono ?_
            rintro e w1 ⟨rfl, hb1⟩
            exact ⟨_, rfl, hK _ _ ⟨⟨hs.below hb1 hs.lt, hW.below hb1 hhi, Nat.le_trans hhi hb1.size, hhc.below hb1, hjc.below hb1, SlW.below hI hb1 hhi, hbc.below hb1, bstep hB hB.size hb1⟩, rfl, hb1⟩⟩
          · -- 8: Op.unOp UnOp.not 4 t55
            go_light
            intro L σ W' hcl hL hC hw
            have e7 : σ 7 = .bool false := hw 7 (by kernel_rfl)
            clear hw
            have HC := Lib.hid hC
            clear hC
            clear hcl hL
            refine OpGoes.step fun K hK => ?_
            unfold OpGoes
            go_simp
            obtain ⟨hs, hW, hhi, hhc, hjc, hI, hbc, hB⟩ := HC.out
            exact hK _ _ ⟨⟨hs, hW, hhi, hhc, hjc, hI, hbc, hB⟩, rfl, Below.refl _ _⟩
          · -- 9: Op.move t56
            go_light
            intro L σ W' hcl hL hC hw
            have e8 : σ 8 = .bool true := hw 8 (by kernel_rfl)
            clear hw
            have HC := Lib.hid hC
            clear hC
            clear hcl hL
            refine OpGoes.step fun K hK => ?_
            unfold OpGoes
            go_simp
            obtain ⟨hs, hW, hhi, hhc, hjc, hI, hbc, hB⟩ := HC.out
            exact hK _ _ ⟨⟨hs, hW, hhi, hhc, hjc, hI, hbc, hB⟩, rfl, Below.refl _ _⟩
          · -- 10: Op.fieldAddr 88 t1 2   [guarded: some (9, false)]
            go_light
            intro L σ W' hcl hL hC hw
            have e9 : σ 9 = .bool true := hw 9 (by kernel_rfl)
            clear hw
            have HC := Lib.hid hC
            clear hC
            clear hcl hL
            refine OpGoes.step fun K hK => ?_
            unfold OpGoes
            go_simp
            obtain ⟨hs, hW, hhi, hhc, hjc, hI, hbc, hB⟩ := HC.out
            exact hK _ _ ⟨⟨hs, hW, hhi, hhc, hjc, hI, hbc, hB⟩, rfl, Below.refl _ _⟩
          · -- 11: Op.load 85 t58   [guarded: some (9, false)]
            go_light
            intro L σ W' hcl hL hC hw
            have e9 : σ 9 = .bool true := hw 9 (by kernel_rfl)
            have e10 : σ 10 = undef := hw 10 (by kernel_rfl)
            clear hw
            have HC := Lib.hid hC
            clear hC
            clear hcl hL
            refine OpGoes.step fun K hK => ?_
            unfold OpGoes
            go_simp
            obtain ⟨hs, hW, hhi, hhc, hjc, hI, hbc, hB⟩ := HC.out
            exact hK _ _ ⟨⟨hs, hW, hhi, hhc, hjc, hI, hbc, hB⟩, rfl, Below.refl _ _⟩
          · -- 12: Op.move t4   [guarded: some (9, false)]
            go_light
            intro L σ W' hcl hL hC hw
            have e9 : σ 9 = .bool true := hw 9 (by kernel_rfl)
            clear hw
            have HC := Lib.hid hC
            clear hC
            clear hcl hL
            refine OpGoes.step fun K hK => ?_
            unfold OpGoes
            go_simp
            obtain ⟨hs, hW, hhi, hhc, hjc, hI, hbc, hB⟩ := HC.out
            exact hK _ _ ⟨⟨hs, hW, hhi, hhc, hjc, hI, hbc, hB⟩, rfl, Below.refl _ _⟩
          · -- 13: Op.indexAddr 85 t59 t60   [guarded: some (9, false)]
            go_light
            intro L σ W' hcl hL hC hw
            have e9 : σ 9 = .bool true := hw 9 (by kernel_rfl)
            have e11 : σ 11 = undef := hw 11 (by kernel_rfl)
            have e12 : σ 12 = undef := hw 12 (by kernel_rfl)
            clear hw
            have HC := Lib.hid hC
            clear hC
            clear hcl hL
            refine OpGoes.step fun K hK => ?_
            unfold OpGoes
            go_simp
            obtain ⟨hs, hW, hhi, hhc, hjc, hI, hbc, hB⟩ := HC.out
            exact hK _ _ ⟨⟨hs, hW, hhi, hhc, hjc, hI, hbc, hB⟩, rfl, Below.refl _ _⟩
          · -- 14: Op.load 59 t61   [guarded: some (9, false)]
            go_light
            intro L σ W' hcl hL hC hw
            have e9 : σ 9 = .bool true := hw 9 (by kernel_rfl)
            have e13 : σ 13 = undef := hw 13 (by kernel_rfl)
            clear hw
            have HC := Lib.hid hC
            clear hC
            clear hcl hL
            refine OpGoes.step fun K hK => ?_
            unfold OpGoes
            go_simp
            obtain ⟨hs, hW, hhi, hhc, hjc, hI, hbc, hB⟩ := HC.out
            exact hK _ _ ⟨⟨hs, hW, hhi, hhc, hjc, hI, hbc, hB⟩, rfl, Below.refl _ _⟩
          · -- 15: Op.call { value (Operand.func 82), args := #[t62], argTypes := #[59] }   [guarded: some (9, false)]
            go_light
            intro L σ W' hcl hL hC hw
            have e9 : σ 9 = .bool true := hw 9 (by kernel_rfl)
            have e14 : σ 14 = undef := hw 14 (by kernel_rfl)
            clear hw
            have HC := Lib.hid hC
            clear hC
            clear hcl hL
            refine OpGoes.step fun K hK => ?_
            unfold OpGoes
            go_simp
            obtain ⟨hs, hW, hhi, hhc, hjc, hI, hbc, hB⟩ := HC.out
            exact hK _ _ ⟨⟨hs, hW, hhi, hhc, hjc, hI, hbc, hB⟩, rfl, Below.refl _ _⟩
          · -- 16: Op.unOp UnOp.not 4 t63   [guarded: some (9, false)]
            go_light
            intro L σ W' hcl hL hC hw
            have e9 : σ 9 = .bool true := hw 9 (by kernel_rfl)
            have e15 : σ 15 = undef := hw 15 (by kernel_rfl)
            clear hw
            have HC := Lib.hid hC
            clear hC
            clear hcl hL
            refine OpGoes.step fun K hK => ?_
            unfold OpGoes
            go_simp
            obtain ⟨hs, hW, hhi, hhc, hjc, hI, hbc, hB⟩ := HC.out
            exact hK _ _ ⟨⟨hs, hW, hhi, hhc, hjc, hI, hbc, hB⟩, rfl, Below.refl _ _⟩
          · -- 17: Op.pick t57 (const (Value.bool true)) t64
            go_light
            intro L σ W' hcl hL hC hw
            have e9 : σ 9 = .bool true := hw 9 (by kernel_rfl)
            have e16 : σ 16 = undef := hw 16 (by kernel_rfl)
            clear hw
            have HC := Lib.hid hC
            clear hC
            clear hcl hL
            refine OpGoes.step fun K hK => ?_
            unfold OpGoes
            go_simp
            obtain ⟨hs, hW, hhi, hhc, hjc, hI, hbc, hB⟩ := HC.out
            exact hK _ _ ⟨⟨hs, hW, hhi, hhc, hjc, hI, hbc, hB⟩, rfl, Below.refl _ _⟩
          · -- 18: Op.move t65
            go_light
            intro L σ W' hcl hL hC hw
            have e17 : σ 17 = .bool true := hw 17 (by kernel_rfl)
            clear hw
            have HC := Lib.hid hC
            clear hC
            clear hcl hL
            refine OpGoes.step fun K hK => ?_
            unfold OpGoes
            go_simp
            obtain ⟨hs, hW, hhi, hhc, hjc, hI, hbc, hB⟩ := HC.out
            exact hK _ _ ⟨⟨hs, hW, hhi, hhc, hjc, hI, hbc, hB⟩, rfl, Below.refl _ _⟩
          · -- 19: Op.fieldAddr 88 t1 3   [guarded: some (18, false)]
            go_light
            intro L σ W' hcl hL hC hw
            have e18 : σ 18 = .bool true := hw 18 (by kernel_rfl)
            clear hw
            have HC := Lib.hid hC
            clear hC
            clear hcl hL
            refine OpGoes.step fun K hK => ?_
            unfold OpGoes
            go_simp
            obtain ⟨hs, hW, hhi, hhc, hjc, hI, hbc, hB⟩ := HC.out
            exact hK _ _ ⟨⟨hs, hW, hhi, hhc, hjc, hI, hbc, hB⟩, rfl, Below.refl _ _⟩
          · -- 20: Op.load 59 t67   [guarded: some (18, false)]
            go_light
            intro L σ W' hcl hL hC hw
            have e18 : σ 18 = .bool true := hw 18 (by kernel_rfl)
            have e19 : σ 19 = undef := hw 19 (by kernel_rfl)
            clear hw
            have HC := Lib.hid hC
            clear hC
            clear hcl hL
            refine OpGoes.step fun K hK => ?_
            unfold OpGoes
            go_simp
            obtain ⟨hs, hW, hhi, hhc, hjc, hI, hbc, hB⟩ := HC.out
            exact hK _ _ ⟨⟨hs, hW, hhi, hhc, hjc, hI, hbc, hB⟩, rfl, Below.refl _ _⟩
          · -- 21: Op.move t4   [guarded: some (18, false)]
            go_light
            intro L σ W' hcl hL hC hw
            have e18 : σ 18 = .bool true := hw 18 (by kernel_rfl)
            clear hw
            have HC := Lib.hid hC
            clear hC
            clear hcl hL
            refine OpGoes.step fun K hK => ?_
            unfold OpGoes
            go_simp
            obtain ⟨hs, hW, hhi, hhc, hjc, hI, hbc, hB⟩ := HC.out
            exact hK _ _ ⟨⟨hs, hW, hhi, hhc, hjc, hI, hbc, hB⟩, rfl, Below.refl _ _⟩
          · -- 22: Op.indexAddr 59 t68 t69   [guarded: some (18, false)]
            go_light
            intro L σ W' hcl hL hC hw
            have e18 : σ 18 = .bool true := hw 18 (by kernel_rfl)
            have e20 : σ 20 = undef := hw 20 (by kernel_rfl)
            have e21 : σ 21 = undef := hw 21 (by kernel_rfl)
            clear hw
            have HC := Lib.hid hC
            clear hC
            clear hcl hL
            refine OpGoes.step fun K hK => ?_
            unfold OpGoes
            go_simp
            obtain ⟨hs, hW, hhi, hhc, hjc, hI, hbc, hB⟩ := HC.out
            exact hK _ _ ⟨⟨hs, hW, hhi, hhc, hjc, hI, hbc, hB⟩, rfl, Below.refl _ _⟩
          · -- 23: Op.load 2 t70   [guarded: some (18, false)]
            go_light
            intro L σ W' hcl hL hC hw
            have e18 : σ 18 = .bool true := hw 18 (by kernel_rfl)
            have e22 : σ 22 = undef := hw 22 (by kernel_rfl)
            clear hw
            have HC := Lib.hid hC
            clear hC
            clear hcl hL
            refine OpGoes.step fun K hK => ?_
            unfold OpGoes
            go_simp
            obtain ⟨hs, hW, hhi, hhc, hjc, hI, hbc, hB⟩ := HC.out
            exact hK _ _ ⟨⟨hs, hW, hhi, hhc, hjc, hI, hbc, hB⟩, rfl, Below.refl _ _⟩
          · -- 24: Op.fieldAddr 88 t1 4   [guarded: some (18, false)]
            go_light
            intro L σ W' hcl hL hC hw
            have e18 : σ 18 = .bool true := hw 18 (by kernel_rfl)
            clear hw
            have HC := Lib.hid hC
            clear hC
            clear hcl hL
            refine OpGoes.step fun K hK => ?_
            unfold OpGoes
            go_simp
            obtain ⟨hs, hW, hhi, hhc, hjc, hI, hbc, hB⟩ := HC.out
            exact hK _ _ ⟨⟨hs, hW, hhi, hhc, hjc, hI, hbc, hB⟩, rfl, Below.refl _ _⟩
          · -- 25: Op.load 2 t72   [guarded: some (18, false)]
            go_light
            intro L σ W' hcl hL hC hw
            have e18 : σ 18 = .bool true := hw 18 (by kernel_rfl)
            have e24 : σ 24 = undef := hw 24 (by kernel_rfl)
            clear hw
            have HC := Lib.hid hC
            clear hC
            clear hcl hL
            refine OpGoes.step fun K hK => ?_
            unfold OpGoes
            go_simp
            obtain ⟨hs, hW, hhi, hhc, hjc, hI, hbc, hB⟩ := HC.out
            exact hK _ _ ⟨⟨hs, hW, hhi, hhc, hjc, hI, hbc, hB⟩, rfl, Below.refl _ _⟩
          · -- 26: Op.call { value (Operand.func 42), args := #[t71, const (0:i64), t73], argTypes := #[2, 2, 2] }   [guarded: some (18, false)]
            go_light
            intro L σ W' hcl hL hC hw
            have e18 : σ 18 = .bool true := hw 18 (by kernel_rfl)
            have e23 : σ 23 = undef := hw 23 (by kernel_rfl)
            have e25 : σ 25 = undef := hw 25 (by kernel_rfl)
            clear hw
            have HC := Lib.hid hC
            clear hC
            clear hcl hL
            refine OpGoes.step fun K hK => ?_
            unfold OpGoes
            go_simp
            obtain ⟨hs, hW, hhi, hhc, hjc, hI, hbc, hB⟩ := HC.out
            exact hK _ _ ⟨⟨hs, hW, hhi, hhc, hjc, hI, hbc, hB⟩, rfl, Below.refl _ _⟩
          · -- 27: Op.unOp UnOp.not 4 t74   [guarded: some (18, false)]
            go_light
            intro L σ W' hcl hL hC hw
            have e18 : σ 18 = .bool true := hw 18 (by kernel_rfl)
            have e26 : σ 26 = undef := hw 26 (by kernel_rfl)
            clear hw
            have HC := Lib.hid hC
            clear hC
            clear hcl hL
            refine OpGoes.step fun K hK => ?_
            unfold OpGoes
            go_simp
            obtain ⟨hs, hW, hhi, hhc, hjc, hI, hbc, hB⟩ := HC.out
            exact hK _ _ ⟨⟨hs, hW, hhi, hhc, hjc, hI, hbc, hB⟩, rfl, Below.refl _ _⟩
          · -- 28: Op.pick t66 (const (Value.bool true)) t75
            go_light
            intro L σ W' hcl hL hC hw
            have e18 : σ 18 = .bool true := hw 18 (by kernel_rfl)
            have e27 : σ 27 = undef := hw 27 (by kernel_rfl)
            clear hw
            have HC := Lib.hid hC
            clear hC
            clear hcl hL
            refine OpGoes.step fun K hK => ?_
            unfold OpGoes
            go_simp
            obtain ⟨hs, hW, hhi, hhc, hjc, hI, hbc, hB⟩ := HC.out
            exact hK _ _ ⟨⟨hs, hW, hhi, hhc, hjc, hI, hbc, hB⟩, rfl, Below.refl _ _⟩
          · intro σ L W' hall hC hR
            obtain ⟨hs, hW, hhi, hhc, hjc, hI, hbc, hB⟩ := hC
            have e28 : σ 28 = .bool true := hR 28 (by decide)
            clear hR
            simp only [lexAll]
            go_simp
            go_step
            go_meet
            exact ⟨hs, hB, rfl⟩
        case rest =>
          obtain ⟨hs, hB, rfl⟩ := hcut
          go_wp2
          go_ret
          exact .mk (by rw [crOk_at (i := i) (by rw [E2.out]; exact hlt) (by rw [HAT.out, hfit]; rfl)]; rfl) hB
      · cases hjob : jobsOk jl
        · go_upto_region 7 with fail
          clear ks
          go_cut [76] (fun u76 W' => BoxAt W' w.heap.size #[.int .i64 c.st.rd, .int .i64 c.st.mo, .slice sA sN kS, .int .i64 c.st.fi, .int .i64 c.st.la, .slice (some ⟨hb, 0, none⟩) bN kH, .slice (some ⟨jb, 0, none⟩) bN kJ, .slice (some ⟨bb, 0, none⟩) bN kB, .int .i64 c.ck, .slice eA eN kE] 88 ∧ Below w.heap.size w W' ∧ u76 = .bool true)
          case first =>
            refine wp_region2 (fun w w' => Below w.heap.size w w') (fun _ _ h => h.size) (fun L W' => BoxAt W' w.heap.size #[.int .i64 c.st.rd, .int .i64 c.st.mo, .slice sA sN kS, .int .i64 c.st.fi, .int .i64 c.st.la, .slice (some ⟨hb, 0, none⟩) bN kH, .slice (some ⟨jb, 0, none⟩) bN kJ, .slice (some ⟨bb, 0, none⟩) bN kB, .int .i64 c.ck, .slice eA eN kE] 88 ∧ CrW lo hi W' c (⟨⟨sA, sN, kS⟩, ⟨some ⟨hb, 0, none⟩, bN, kH⟩, ⟨some ⟨jb, 0, none⟩, bN, kJ⟩, ⟨some ⟨bb, 0, none⟩, bN, kB⟩, ⟨eA, eN, kE⟩⟩ : CrL) ∧ hi ≤ W'.heap.size ∧ CellsAt W' hb (i * 12) h.cs ∧ CellsAt W' jb i [.slice A' n' cap'] ∧ IntsW lo hi W' A' n' cap' jl ∧ CellsAt W' bb i [.int .i64 bz] ∧ Below w.heap.size w W') (cwBR c w.heap.size i bN sN kS hb kH jb kJ bb kB eN kE sA eA h A' n' cap' bz) cwBK cwBS (by kernel_rfl) (by kernel_rfl) ?_ ?_ ?_
              (.grow rfl ?_ <| .grow rfl ?_ <| .grow rfl ?_ <| .grow rfl ?_ <| .grow rfl ?_ <| .grow rfl ?_ <| .grow rfl ?_ <| .grow rfl ?_ <| .grow rfl ?_ <| .grow rfl ?_ <| .grow rfl ?_ <| .grow rfl ?_ <| .grow rfl ?_ <| .grow rfl ?_ <| .grow rfl ?_ <| .grow rfl ?_ <| .grow rfl ?_ <| .grow rfl ?_ <| .grow rfl ?_ <| .grow rfl ?_ <| .grow rfl ?_ <| .grow rfl ?_ <| .grow rfl ?_ <| .grow rfl ?_ <| .grow rfl ?_ <| .grow rfl ?_ <| .grow rfl ?_ <| .grow rfl ?_ <| .grow rfl ?_ <| .nil) ?_
            · intro j σ τ w h hR
              match j, h, hR with
              | 0, h, hR => exact (h 0 (List.mem_singleton.2 rfl)).symm.trans hR
              | 1, h, hR => exact (h 1 (List.mem_singleton.2 rfl)).symm.trans hR
              | 2, h, hR => exact (h 2 (List.mem_singleton.2 rfl)).symm.trans hR
              | 3, h, hR => exact (h 3 (List.mem_singleton.2 rfl)).symm.trans hR
              | 4, h, hR => exact (h 4 (List.mem_singleton.2 rfl)).symm.trans hR
              | 5, h, hR => exact (h 5 (List.mem_singleton.2 rfl)).symm.trans hR
              | 6, h, hR => exact (h 6 (List.mem_singleton.2 rfl)).symm.trans hR
              | 7, h, hR => exact (h 7 (List.mem_singleton.2 rfl)).symm.trans hR
              | 8, h, hR => exact (h 8 (List.mem_singleton.2 rfl)).symm.trans hR
              | 9, h, hR => exact (h 9 (List.mem_singleton.2 rfl)).symm.trans hR
              | 10, h, hR => exact (h 10 (List.mem_singleton.2 rfl)).symm.trans hR
              | 11, h, hR => exact (h 11 (List.mem_singleton.2 rfl)).symm.trans hR
              | 12, h, hR => exact (h 12 (List.mem_singleton.2 rfl)).symm.trans hR
              | 13, h, hR => exact (h 13 (List.mem_singleton.2 rfl)).symm.trans hR
              | 14, h, hR => exact (h 14 (List.mem_singleton.2 rfl)).symm.trans hR
              | 15, h, hR => exact (h 15 (List.mem_singleton.2 rfl)).symm.trans hR
              | 16, h, hR => exact (h 16 (List.mem_singleton.2 rfl)).symm.trans hR
              | 17, h, hR => exact (h 17 (List.mem_singleton.2 rfl)).symm.trans hR
              | 18, h, hR => exact (h 18 (List.mem_singleton.2 rfl)).symm.trans hR
              | 19, h, hR => exact (h 19 (List.mem_singleton.2 rfl)).symm.trans hR
              | 20, h, hR => exact (h 20 (List.mem_singleton.2 rfl)).symm.trans hR
              | 21, h, hR => exact (h 21 (List.mem_singleton.2 rfl)).symm.trans hR
              | 22, h, hR => exact (h 22 (List.mem_singleton.2 rfl)).symm.trans hR
              | 23, h, hR => exact (h 23 (List.mem_singleton.2 rfl)).symm.trans hR
              | 24, h, hR => exact (h 24 (List.mem_singleton.2 rfl)).symm.trans hR
              | 25, h, hR => exact (h 25 (List.mem_singleton.2 rfl)).symm.trans hR
              | 26, h, hR => exact (h 26 (List.mem_singleton.2 rfl)).symm.trans hR
              | 27, h, hR => exact (h 27 (List.mem_singleton.2 rfl)).symm.trans hR
              | 28, h, hR => exact (h 28 (List.mem_singleton.2 rfl)).symm.trans hR
              | _ + 29, _, _ => exact trivial
            · intro j σ w w' hb hR
              match j, hR with
              | 0, hR => exact hR
              | 1, hR => exact hR
              | 2, hR => exact hR
              | 3, hR => exact hR
              | 4, hR => exact hR
              | 5, hR => exact hR
              | 6, hR => exact hR
              | 7, hR => exact hR
              | 8, hR => exact hR
              | 9, hR => exact hR
              | 10, hR => exact hR
              | 11, hR => exact hR
              | 12, hR => exact hR
              | 13, hR => exact hR
              | 14, hR => exact hR
              | 15, hR => exact hR
              | 16, hR => exact hR
              | 17, hR => exact hR
              | 18, hR => exact hR
              | 19, hR => exact hR
              | 20, hR => exact hR
              | 21, hR => exact hR
              | 22, hR => exact hR
              | 23, hR => exact hR
              | 24, hR => exact hR
              | 25, hR => exact hR
              | 26, hR => exact hR
              | 27, hR => exact hR
              | 28, hR => exact hR
              | _ + 29, _ => exact trivial
            · exact ⟨hs, hW.drew, hhi, hhc, hjc, hI, hbc, hB.drew⟩
            · -- 0: Op.fieldAddr 88 t1 0
              go_light
              intro L σ W' hcl hL hC hw
              clear hw
              have HC := Lib.hid hC
              clear hC
              clear hcl hL
              refine OpGoes.step fun K hK => ?_
              unfold OpGoes
              go_simp
              obtain ⟨hs, hW, hhi, hhc, hjc, hI, hbc, hB⟩ := HC.out
              exact hK _ _ ⟨⟨hs, hW, hhi, hhc, hjc, hI, hbc, hB⟩, rfl, Below.refl _ _⟩
            · -- 1: Op.load 75 t48
              go_light
              intro L σ W' hcl hL hC hw
              have e0 : σ 0 = .pointer (some ⟨w.heap.size, 0, none⟩) := hw 0 (by kernel_rfl)
              clear hw
              have HC := Lib.hid hC
              obtain ⟨hs, hW, hhi, hhc, hjc, hI, hbc, hB⟩ := hC
              have ks := hs.cell
              clear hcl hL
              clear hs hW hhi hhc hjc hI hbc hB
              refine OpGoes.step fun K hK => ?_
              unfold OpGoes
              go_simp
              obtain ⟨hs, hW, hhi, hhc, hjc, hI, hbc, hB⟩ := HC.out
              exact hK _ _ ⟨⟨hs, hW, hhi, hhc, hjc, hI, hbc, hB⟩, rfl, Below.refl _ _⟩
            · -- 2: Op.fieldAddr 88 t1 1
              go_light
              intro L σ W' hcl hL hC hw
              clear hw
              have HC := Lib.hid hC
              clear hC
              clear hcl hL
              refine OpGoes.step fun K hK => ?_
              unfold OpGoes
              go_simp
              obtain ⟨hs, hW, hhi, hhc, hjc, hI, hbc, hB⟩ := HC.out
              exact hK _ _ ⟨⟨hs, hW, hhi, hhc, hjc, hI, hbc, hB⟩, rfl, Below.refl _ _⟩
            · -- 3: Op.load 84 t50
              go_light
              intro L σ W' hcl hL hC hw
              have e2 : σ 2 = .pointer (some ⟨w.heap.size, 5, none⟩) := hw 2 (by kernel_rfl)
              clear hw
              have HC := Lib.hid hC
              obtain ⟨hs, hW, hhi, hhc, hjc, hI, hbc, hB⟩ := hC
              have ks := hs.cell
              clear hcl hL
              clear hs hW hhi hhc hjc hI hbc hB
              refine OpGoes.step fun K hK => ?_
              unfold OpGoes
              go_simp
              obtain ⟨hs, hW, hhi, hhc, hjc, hI, hbc, hB⟩ := HC.out
              exact hK _ _ ⟨⟨hs, hW, hhi, hhc, hjc, hI, hbc, hB⟩, rfl, Below.refl _ _⟩
            · -- 4: Op.move t4
              go_light
              intro L σ W' hcl hL hC hw
              clear hw
              have HC := Lib.hid hC
              clear hC
              clear hcl hL
              refine OpGoes.step fun K hK => ?_
              unfold OpGoes
              go_simp
              obtain ⟨hs, hW, hhi, hhc, hjc, hI, hbc, hB⟩ := HC.out
              exact hK _ _ ⟨⟨hs, hW, hhi, hhc, hjc, hI, hbc, hB⟩, rfl, Below.refl _ _⟩
            · -- 5: Op.indexAddr 84 t51 t52
              go_light
              intro L σ W' hcl hL hC hw
              have e3 : σ 3 = .slice (some ⟨hb, 0, none⟩) bN kH := hw 3 (by kernel_rfl)
              have e4 : σ 4 = .int .i64 ((i : Int)) := hw 4 (by kernel_rfl)
              clear hw
              have HC := Lib.hid hC
              clear hC
              clear hcl hL
              refine OpGoes.step fun K hK => ?_
              unfold OpGoes
              go_simp
              obtain ⟨hs, hW, hhi, hhc, hjc, hI, hbc, hB⟩ := HC.out
              exact hK _ _ ⟨⟨hs, hW, hhi, hhc, hjc, hI, hbc, hB⟩, rfl, Below.refl _ _⟩
            · -- 6: Op.load 41 t53
              go_light
              intro L σ W' hcl hL hC hw
              have e5 : σ 5 = .pointer (some ⟨hb, i * 12, none⟩) := hw 5 (by kernel_rfl)
              clear hw
              have HC := Lib.hid hC
              obtain ⟨hs, hW, hhi, hhc, hjc, hI, hbc, hB⟩ := hC
              have hhc0 := hhc
              have d0 := hhc 0 _ rfl
              have d1 := hhc 1 _ rfl
              have d2 := hhc 2 _ rfl
              have d3 := hhc 3 _ rfl
              have d4 := hhc 4 _ rfl
              have d5 := hhc 5 _ rfl
              have d6 := hhc 6 _ rfl
              have d7 := hhc 7 _ rfl
              have d8 := hhc 8 _ rfl
              have d9 := hhc 9 _ rfl
              have d10 := hhc 10 _ rfl
              have d11 := hhc 11 _ rfl
              rw [Nat.add_zero] at d0
              clear hcl hL
              clear hs hW hhi hhc hjc hI hbc hB
              refine OpGoes.step fun K hK => ?_
              unfold OpGoes
              go_simp
              obtain ⟨hs, hW, hhi, hhc, hjc, hI, hbc, hB⟩ := HC.out
              exact hK _ _ ⟨⟨hs, hW, hhi, hhc, hjc, hI, hbc, hB⟩, rfl, Below.refl _ _⟩
            · -- 7: Op.call { value (Operand.func 81), args := #[t49, t54], argTypes := #[75, 41] }
              go_light
              intro L σ W' hcl hL hC hw
              have e1 : σ 1 = .agg #[.int .i64 c.st.rd, .int .i64 c.st.mo, .slice sA sN kS, .int .i64 c.st.fi, .int .i64 c.st.la] := hw 1 (by kernel_rfl)
              have e6 : σ 6 = .agg #[.int .i64 h.at_, .int .i64 h.v, .int .i64 h.r, .int .i64 h.t, .bool h.seen.s, .int .i64 h.seen.n, .bool h.seen.f, .int .i64 h.seen.v, .int .i64 h.tr, .int .i64 h.sp, .bool h.ag, .int .i64 h.re] := hw 6 (by kernel_rfl)
              clear hw
              have HC := Lib.hid hC
              clear hC
              clear hcl hL
              refine OpGoes.step fun K hK => ?_
              unfold OpGoes
              go_simp
              obtain ⟨hs, hW, hhi, hhc, hjc, hI, hbc, hB⟩ := HC.out
              refine (sfits_is c.st sA sN kS lo hi h true _ hW.s hhi hm1 HP.out hfit).mono ?_
              rintro e w1 ⟨rfl, hb1⟩
              exact ⟨_, rfl, hK _ _ ⟨⟨hs.below hb1 hs.lt, hW.below hb1 hhi, Nat.le_trans hhi hb1.size, hhc.below hb1, hjc.below hb1, SlW.below hI hb1 hhi, hbc.below hb1, bstep hB hB.size hb1⟩, rfl, hb1⟩⟩
            · -- 8: Op.unOp UnOp.not 4 t55
              go_light
              intro L σ W' hcl hL hC hw
              have e7 : σ 7 = .bool true := hw 7 (by kernel_rfl)
              clear hw
              have HC := Lib.hid hC
              clear hC
              clear hcl hL
              refine OpGoes.step fun K hK => ?_
              unfold OpGoes
              go_simp
              obtain ⟨hs, hW, hhi, hhc, hjc, hI, hbc, hB⟩ := HC.out
              exact hK _ _ ⟨⟨hs, hW, hhi, hhc, hjc, hI, hbc, hB⟩, rfl, Below.refl _ _⟩
            · -- 9: Op.move t56
              go_light
              intro L σ W' hcl hL hC hw
              have e8 : σ 8 = .bool false := hw 8 (by kernel_rfl)
              clear hw
              have HC := Lib.hid hC
              clear hC
              clear hcl hL
              refine OpGoes.step fun K hK => ?_
              unfold OpGoes
              go_simp
              obtain ⟨hs, hW, hhi, hhc, hjc, hI, hbc, hB⟩ := HC.out
              exact hK _ _ ⟨⟨hs, hW, hhi, hhc, hjc, hI, hbc, hB⟩, rfl, Below.refl _ _⟩
            · -- 10: Op.fieldAddr 88 t1 2   [guarded: some (9, false)]
              go_light
              intro L σ W' hcl hL hC hw
              have e9 : σ 9 = .bool false := hw 9 (by kernel_rfl)
              clear hw
              have HC := Lib.hid hC
              clear hC
              clear hcl hL
              refine OpGoes.step fun K hK => ?_
              unfold OpGoes
              go_simp
              obtain ⟨hs, hW, hhi, hhc, hjc, hI, hbc, hB⟩ := HC.out
              exact hK _ _ ⟨⟨hs, hW, hhi, hhc, hjc, hI, hbc, hB⟩, rfl, Below.refl _ _⟩
            · -- 11: Op.load 85 t58   [guarded: some (9, false)]
              go_light
              intro L σ W' hcl hL hC hw
              have e9 : σ 9 = .bool false := hw 9 (by kernel_rfl)
              have e10 : σ 10 = .pointer (some ⟨w.heap.size, 6, none⟩) := hw 10 (by kernel_rfl)
              clear hw
              have HC := Lib.hid hC
              obtain ⟨hs, hW, hhi, hhc, hjc, hI, hbc, hB⟩ := hC
              have ks := hs.cell
              clear hcl hL
              clear hs hW hhi hhc hjc hI hbc hB
              refine OpGoes.step fun K hK => ?_
              unfold OpGoes
              go_simp
              obtain ⟨hs, hW, hhi, hhc, hjc, hI, hbc, hB⟩ := HC.out
              exact hK _ _ ⟨⟨hs, hW, hhi, hhc, hjc, hI, hbc, hB⟩, rfl, Below.refl _ _⟩
            · -- 12: Op.move t4   [guarded: some (9, false)]
              go_light
              intro L σ W' hcl hL hC hw
              have e9 : σ 9 = .bool false := hw 9 (by kernel_rfl)
              clear hw
              have HC := Lib.hid hC
              clear hC
              clear hcl hL
              refine OpGoes.step fun K hK => ?_
              unfold OpGoes
              go_simp
              obtain ⟨hs, hW, hhi, hhc, hjc, hI, hbc, hB⟩ := HC.out
              exact hK _ _ ⟨⟨hs, hW, hhi, hhc, hjc, hI, hbc, hB⟩, rfl, Below.refl _ _⟩
            · -- 13: Op.indexAddr 85 t59 t60   [guarded: some (9, false)]
              go_light
              intro L σ W' hcl hL hC hw
              have e9 : σ 9 = .bool false := hw 9 (by kernel_rfl)
              have e11 : σ 11 = .slice (some ⟨jb, 0, none⟩) bN kJ := hw 11 (by kernel_rfl)
              have e12 : σ 12 = .int .i64 ((i : Int)) := hw 12 (by kernel_rfl)
              clear hw
              have HC := Lib.hid hC
              clear hC
              clear hcl hL
              refine OpGoes.step fun K hK => ?_
              unfold OpGoes
              go_simp
              obtain ⟨hs, hW, hhi, hhc, hjc, hI, hbc, hB⟩ := HC.out
              exact hK _ _ ⟨⟨hs, hW, hhi, hhc, hjc, hI, hbc, hB⟩, rfl, Below.refl _ _⟩
            · -- 14: Op.load 59 t61   [guarded: some (9, false)]
              go_light
              intro L σ W' hcl hL hC hw
              have e9 : σ 9 = .bool false := hw 9 (by kernel_rfl)
              have e13 : σ 13 = .pointer (some ⟨jb, i, none⟩) := hw 13 (by kernel_rfl)
              clear hw
              have HC := Lib.hid hC
              obtain ⟨hs, hW, hhi, hhc, hjc, hI, hbc, hB⟩ := hC
              have dj := hjc 0 _ rfl
              rw [Nat.add_zero] at dj
              clear hcl hL
              clear hs hW hhi hhc hjc hI hbc hB
              refine OpGoes.step fun K hK => ?_
              unfold OpGoes
              go_simp
              obtain ⟨hs, hW, hhi, hhc, hjc, hI, hbc, hB⟩ := HC.out
              exact hK _ _ ⟨⟨hs, hW, hhi, hhc, hjc, hI, hbc, hB⟩, rfl, Below.refl _ _⟩
            · -- 15: Op.call { value (Operand.func 82), args := #[t62], argTypes := #[59] }   [guarded: some (9, false)]
              go_light
              intro L σ W' hcl hL hC hw
              have e9 : σ 9 = .bool false := hw 9 (by kernel_rfl)
              have e14 : σ 14 = .slice A' n' cap' := hw 14 (by kernel_rfl)
              clear hw
              have HC := Lib.hid hC
              clear hC
              clear hcl hL
              refine OpGoes.step fun K hK => ?_
              unfold OpGoes
              go_simp
              obtain ⟨hs, hW, hhi, hhc, hjc, hI, hbc, hB⟩ := HC.out
              refine (l10Jobs_is jl A' n' cap' lo hi false _ hI hhi hn' hjob).mono ?_
              rintro e w1 ⟨rfl, hb1⟩
              exact ⟨_, rfl, hK _ _ ⟨⟨hs.below hb1 hs.lt, hW.below hb1 hhi, Nat.le_trans hhi hb1.size, hhc.below hb1, hjc.below hb1, SlW.below hI hb1 hhi, hbc.below hb1, bstep hB hB.size hb1⟩, rfl, hb1⟩⟩
            · -- 16: Op.unOp UnOp.not 4 t63   [guarded: some (9, false)]
              go_light
              intro L σ W' hcl hL hC hw
              have e9 : σ 9 = .bool false := hw 9 (by kernel_rfl)
              have e15 : σ 15 = .bool false := hw 15 (by kernel_rfl)
              clear hw
              have HC := Lib.hid hC
              clear hC
              clear hcl hL
              refine OpGoes.step fun K hK => ?_
              unfold OpGoes
              go_simp
              obtain ⟨hs, hW, hhi, hhc, hjc, hI, hbc, hB⟩ := HC.out
              exact hK _ _ ⟨⟨hs, hW, hhi, hhc, hjc, hI, hbc, hB⟩, rfl, Below.refl _ _⟩
            · -- 17: Op.pick t57 (const (Value.bool true)) t64
              go_light
              intro L σ W' hcl hL hC hw
              have e9 : σ 9 = .bool false := hw 9 (by kernel_rfl)
              have e16 : σ 16 = .bool true := hw 16 (by kernel_rfl)
              clear hw
              have HC := Lib.hid hC
              clear hC
              clear hcl hL
              refine OpGoes.step fun K hK => ?_
              unfold OpGoes
              go_simp
              obtain ⟨hs, hW, hhi, hhc, hjc, hI, hbc, hB⟩ := HC.out
              exact hK _ _ ⟨⟨hs, hW, hhi, hhc, hjc, hI, hbc, hB⟩, rfl, Below.refl _ _⟩
            · -- 18: Op.move t65
              go_light
              intro L σ W' hcl hL hC hw
              have e17 : σ 17 = .bool true := hw 17 (by kernel_rfl)
              clear hw
              have HC := Lib.hid hC
              clear hC
              clear hcl hL
              refine OpGoes.step fun K hK => ?_
              unfold OpGoes
              go_simp
              obtain ⟨hs, hW, hhi, hhc, hjc, hI, hbc, hB⟩ := HC.out
              exact hK _ _ ⟨⟨hs, hW, hhi, hhc, hjc, hI, hbc, hB⟩, rfl, Below.refl _ _⟩
            · -- 19: Op.fieldAddr 88 t1 3   [guarded: some (18, false)]
              go_light
              intro L σ W' hcl hL hC hw
              have e18 : σ 18 = .bool true := hw 18 (by kernel_rfl)
              clear hw
              have HC := Lib.hid hC
              clear hC
              clear hcl hL
              refine OpGoes.step fun K hK => ?_
              unfold OpGoes
              go_simp
              obtain ⟨hs, hW, hhi, hhc, hjc, hI, hbc, hB⟩ := HC.out
              exact hK _ _ ⟨⟨hs, hW, hhi, hhc, hjc, hI, hbc, hB⟩, rfl, Below.refl _ _⟩
            · -- 20: Op.load 59 t67   [guarded: some (18, false)]
              go_light
              intro L σ W' hcl hL hC hw
              have e18 : σ 18 = .bool true := hw 18 (by kernel_rfl)
              have e19 : σ 19 = undef := hw 19 (by kernel_rfl)
              clear hw
              have HC := Lib.hid hC
              clear hC
              clear hcl hL
              refine OpGoes.step fun K hK => ?_
              unfold OpGoes
              go_simp
              obtain ⟨hs, hW, hhi, hhc, hjc, hI, hbc, hB⟩ := HC.out
              exact hK _ _ ⟨⟨hs, hW, hhi, hhc, hjc, hI, hbc, hB⟩, rfl, Below.refl _ _⟩
            · -- 21: Op.move t4   [guarded: some (18, false)]
              go_light
              intro L σ W' hcl hL hC hw
              have e18 : σ 18 = .bool true := hw 18 (by kernel_rfl)
              clear hw
              have HC := Lib.hid hC
              clear hC
              clear hcl hL
              refine OpGoes.step fun K hK => ?_
              unfold OpGoes
              go_simp
              obtain ⟨hs, hW, hhi, hhc, hjc, hI, hbc, hB⟩ := HC.out
              exact hK _ _ ⟨⟨hs, hW, hhi, hhc, hjc, hI, hbc, hB⟩, rfl, Below.refl _ _⟩
            · -- 22: Op.indexAddr 59 t68 t69   [guarded: some (18, false)]
              go_light
              intro L σ W' hcl hL hC hw
              have e18 : σ 18 = .bool true := hw 18 (by kernel_rfl)
              have e20 : σ 20 = undef := hw 20 (by kernel_rfl)
              have e21 : σ 21 = undef := hw 21 (by kernel_rfl)
              clear hw
              have HC := Lib.hid hC
              clear hC
              clear hcl hL
              refine OpGoes.step fun K hK => ?_
              unfold OpGoes
              go_simp
              obtain ⟨hs, hW, hhi, hhc, hjc, hI, hbc, hB⟩ := HC.out
              exact hK _ _ ⟨⟨hs, hW, hhi, hhc, hjc, hI, hbc, hB⟩, rfl, Below.refl _ _⟩
            · -- 23: Op.load 2 t70   [guarded: some (18, false)]
              go_light
              intro L σ W' hcl hL hC hw
              have e18 : σ 18 = .bool true := hw 18 (by kernel_rfl)
              have e22 : σ 22 = undef := hw 22 (by kernel_rfl)
              clear hw
              have HC := Lib.hid hC
              clear hC
              clear hcl hL
              refine OpGoes.step fun K hK => ?_
              unfold OpGoes
              go_simp
              obtain ⟨hs, hW, hhi, hhc, hjc, hI, hbc, hB⟩ := HC.out
              exact hK _ _ ⟨⟨hs, hW, hhi, hhc, hjc, hI, hbc, hB⟩, rfl, Below.refl _ _⟩
            · -- 24: Op.fieldAddr 88 t1 4   [guarded: some (18, false)]
              go_light
              intro L σ W' hcl hL hC hw
              have e18 : σ 18 = .bool true := hw 18 (by kernel_rfl)
              clear hw
              have HC := Lib.hid hC
              clear hC
              clear hcl hL
              refine OpGoes.step fun K hK => ?_
              unfold OpGoes
              go_simp
              obtain ⟨hs, hW, hhi, hhc, hjc, hI, hbc, hB⟩ := HC.out
              exact hK _ _ ⟨⟨hs, hW, hhi, hhc, hjc, hI, hbc, hB⟩, rfl, Below.refl _ _⟩
            · -- 25: Op.load 2 t72   [guarded: some (18, false)]
              go_light
              intro L σ W' hcl hL hC hw
              have e18 : σ 18 = .bool true := hw 18 (by kernel_rfl)
              have e24 : σ 24 = undef := hw 24 (by kernel_rfl)
              clear hw
              have HC := Lib.hid hC
              clear hC
              clear hcl hL
              refine OpGoes.step fun K hK => ?_
              unfold OpGoes
              go_simp
              obtain ⟨hs, hW, hhi, hhc, hjc, hI, hbc, hB⟩ := HC.out
              exact hK _ _ ⟨⟨hs, hW, hhi, hhc, hjc, hI, hbc, hB⟩, rfl, Below.refl _ _⟩
            · -- 26: Op.call { value (Operand.func 42), args := #[t71, const (0:i64), t73], argTypes := #[2, 2, 2] }   [guarded: some (18, false)]
              go_light
              intro L σ W' hcl hL hC hw
              have e18 : σ 18 = .bool true := hw 18 (by kernel_rfl)
              have e23 : σ 23 = undef := hw 23 (by kernel_rfl)
              have e25 : σ 25 = undef := hw 25 (by kernel_rfl)
              clear hw
              have HC := Lib.hid hC
              clear hC
              clear hcl hL
              refine OpGoes.step fun K hK => ?_
              unfold OpGoes
              go_simp
              obtain ⟨hs, hW, hhi, hhc, hjc, hI, hbc, hB⟩ := HC.out
              exact hK _ _ ⟨⟨hs, hW, hhi, hhc, hjc, hI, hbc, hB⟩, rfl, Below.refl _ _⟩
            · -- 27: Op.unOp UnOp.not 4 t74   [guarded: some (18, false)]
              go_light
              intro L σ W' hcl hL hC hw
              have e18 : σ 18 = .bool true := hw 18 (by kernel_rfl)
              have e26 : σ 26 = undef := hw 26 (by kernel_rfl)
              clear hw
              have HC := Lib.hid hC
              clear hC
              clear hcl hL
              refine OpGoes.step fun K hK => ?_
              unfold OpGoes
              go_simp
              obtain ⟨hs, hW, hhi, hhc, hjc, hI, hbc, hB⟩ := HC.out
              exact hK _ _ ⟨⟨hs, hW, hhi, hhc, hjc, hI, hbc, hB⟩, rfl, Below.refl _ _⟩
            · -- 28: Op.pick t66 (const (Value.bool true)) t75
              go_light
              intro L σ W' hcl hL hC hw
              have e18 : σ 18 = .bool true := hw 18 (by kernel_rfl)
              have e27 : σ 27 = undef := hw 27 (by kernel_rfl)
              clear hw
              have HC := Lib.hid hC
              clear hC
              clear hcl hL
              refine OpGoes.step fun K hK => ?_
              unfold OpGoes
              go_simp
              obtain ⟨hs, hW, hhi, hhc, hjc, hI, hbc, hB⟩ := HC.out
              exact hK _ _ ⟨⟨hs, hW, hhi, hhc, hjc, hI, hbc, hB⟩, rfl, Below.refl _ _⟩
            · intro σ L W' hall hC hR
              obtain ⟨hs, hW, hhi, hhc, hjc, hI, hbc, hB⟩ := hC
              have e28 : σ 28 = .bool true := hR 28 (by decide)
              clear hR
              simp only [lexAll]
              go_simp
              go_step
              go_meet
              exact ⟨hs, hB, rfl⟩
          case rest =>
            obtain ⟨hs, hB, rfl⟩ := hcut
            go_wp2
            go_ret
            exact .mk (by rw [crOk_at (i := i) (by rw [E2.out]; exact hlt) (by rw [HAT.out, hjob]; simp)]; rfl) hB
        · cases hbeg : inB bz 0 c.ck
          · go_upto_region 7 with fail
            clear ks
            go_cut [76] (fun u76 W' => BoxAt W' w.heap.size #[.int .i64 c.st.rd, .int .i64 c.st.mo, .slice sA sN kS, .int .i64 c.st.fi, .int .i64 c.st.la, .slice (some ⟨hb, 0, none⟩) bN kH, .slice (some ⟨jb, 0, none⟩) bN kJ, .slice (some ⟨bb, 0, none⟩) bN kB, .int .i64 c.ck, .slice eA eN kE] 88 ∧ Below w.heap.size w W' ∧ u76 = .bool true)
            case first =>
              refine wp_region2 (fun w w' => Below w.heap.size w w') (fun _ _ h => h.size) (fun L W' => BoxAt W' w.heap.size #[.int .i64 c.st.rd, .int .i64 c.st.mo, .slice sA sN kS, .int .i64 c.st.fi, .int .i64 c.st.la, .slice (some ⟨hb, 0, none⟩) bN kH, .slice (some ⟨jb, 0, none⟩) bN kJ, .slice (some ⟨bb, 0, none⟩) bN kB, .int .i64 c.ck, .slice eA eN kE] 88 ∧ CrW lo hi W' c (⟨⟨sA, sN, kS⟩, ⟨some ⟨hb, 0, none⟩, bN, kH⟩, ⟨some ⟨jb, 0, none⟩, bN, kJ⟩, ⟨some ⟨bb, 0, none⟩, bN, kB⟩, ⟨eA, eN, kE⟩⟩ : CrL) ∧ hi ≤ W'.heap.size ∧ CellsAt W' hb (i * 12) h.cs ∧ CellsAt W' jb i [.slice A' n' cap'] ∧ IntsW lo hi W' A' n' cap' jl ∧ CellsAt W' bb i [.int .i64 bz] ∧ Below w.heap.size w W') (cwCR c w.heap.size i bN sN kS hb kH jb kJ bb kB eN kE sA eA h A' n' cap' bz) cwCK cwCS (by kernel_rfl) (by kernel_rfl) ?_ ?_ ?_
                (.grow rfl ?_ <| .grow rfl ?_ <| .grow rfl ?_ <| .grow rfl ?_ <| .grow rfl ?_ <| .grow rfl ?_ <| .grow rfl ?_ <| .grow rfl ?_ <| .grow rfl ?_ <| .grow rfl ?_ <| .grow rfl ?_ <| .grow rfl ?_ <| .grow rfl ?_ <| .grow rfl ?_ <| .grow rfl ?_ <| .grow rfl ?_ <| .grow rfl ?_ <| .grow rfl ?_ <| .grow rfl ?_ <| .grow rfl ?_ <| .grow rfl ?_ <| .grow rfl ?_ <| .grow rfl ?_ <| .grow rfl ?_ <| .grow rfl ?_ <| .grow rfl ?_ <| .grow rfl ?_ <| .grow rfl ?_ <| .grow rfl ?_ <| .nil) ?_
              · intro j σ τ w h hR
                match j, h, hR with
                | 0, h, hR => exact (h 0 (List.mem_singleton.2 rfl)).symm.trans hR
                | 1, h, hR => exact (h 1 (List.mem_singleton.2 rfl)).symm.trans hR
                | 2, h, hR => exact (h 2 (List.mem_singleton.2 rfl)).symm.trans hR
                | 3, h, hR => exact (h 3 (List.mem_singleton.2 rfl)).symm.trans hR
                | 4, h, hR => exact (h 4 (List.mem_singleton.2 rfl)).symm.trans hR
                | 5, h, hR => exact (h 5 (List.mem_singleton.2 rfl)).symm.trans hR
                | 6, h, hR => exact (h 6 (List.mem_singleton.2 rfl)).symm.trans hR
                | 7, h, hR => exact (h 7 (List.mem_singleton.2 rfl)).symm.trans hR
                | 8, h, hR => exact (h 8 (List.mem_singleton.2 rfl)).symm.trans hR
                | 9, h, hR => exact (h 9 (List.mem_singleton.2 rfl)).symm.trans hR
                | 10, h, hR => exact (h 10 (List.mem_singleton.2 rfl)).symm.trans hR
                | 11, h, hR => exact (h 11 (List.mem_singleton.2 rfl)).symm.trans hR
                | 12, h, hR => exact (h 12 (List.mem_singleton.2 rfl)).symm.trans hR
                | 13, h, hR => exact (h 13 (List.mem_singleton.2 rfl)).symm.trans hR
                | 14, h, hR => exact (h 14 (List.mem_singleton.2 rfl)).symm.trans hR
                | 15, h, hR => exact (h 15 (List.mem_singleton.2 rfl)).symm.trans hR
                | 16, h, hR => exact (h 16 (List.mem_singleton.2 rfl)).symm.trans hR
                | 17, h, hR => exact (h 17 (List.mem_singleton.2 rfl)).symm.trans hR
                | 18, h, hR => exact (h 18 (List.mem_singleton.2 rfl)).symm.trans hR
                | 19, h, hR => exact (h 19 (List.mem_singleton.2 rfl)).symm.trans hR
                | 20, h, hR => exact (h 20 (List.mem_singleton.2 rfl)).symm.trans hR
                | 21, h, hR => exact (h 21 (List.mem_singleton.2 rfl)).symm.trans hR
                | 22, h, hR => exact (h 22 (List.mem_singleton.2 rfl)).symm.trans hR
                | 23, h, hR => exact (h 23 (List.mem_singleton.2 rfl)).symm.trans hR
                | 24, h, hR => exact (h 24 (List.mem_singleton.2 rfl)).symm.trans hR
                | 25, h, hR => exact (h 25 (List.mem_singleton.2 rfl)).symm.trans hR
                | 26, h, hR => exact (h 26 (List.mem_singleton.2 rfl)).symm.trans hR
                | 27, h, hR => exact (h 27 (List.mem_singleton.2 rfl)).symm.trans hR
                | 28, h, hR => exact (h 28 (List.mem_singleton.2 rfl)).symm.trans hR
                | _ + 29, _, _ => exact trivial
              · intro j σ w w' hb hR
                match j, hR with
                | 0, hR => exact hR
                | 1, hR => exact hR
                | 2, hR => exact hR
                | 3, hR => exact hR
                | 4, hR => exact hR
                | 5, hR => exact hR
                | 6, hR => exact hR
                | 7, hR => exact hR
                | 8, hR => exact hR
                | 9, hR => exact hR
                | 10, hR => exact hR
                | 11, hR => exact hR
                | 12, hR => exact hR
                | 13, hR => exact hR
                | 14, hR => exact hR
                | 15, hR => exact hR
                | 16, hR => exact hR
                | 17, hR => exact hR
                | 18, hR => exact hR
                | 19, hR => exact hR
                | 20, hR => exact hR
                | 21, hR => exact hR
                | 22, hR => exact hR
                | 23, hR => exact hR
                | 24, hR => exact hR
                | 25, hR => exact hR
                | 26, hR => exact hR
                | 27, hR => exact hR
                | 28, hR => exact hR
                | _ + 29, _ => exact trivial
              · exact ⟨hs, hW.drew, hhi, hhc, hjc, hI, hbc, hB.drew⟩
              · -- 0: Op.fieldAddr 88 t1 0
                go_light
                intro L σ W' hcl hL hC hw
                clear hw
                have HC := Lib.hid hC
                clear hC
                clear hcl hL
                refine OpGoes.step fun K hK => ?_
                unfold OpGoes
                go_simp
                obtain ⟨hs, hW, hhi, hhc, hjc, hI, hbc, hB⟩ := HC.out
                exact hK _ _ ⟨⟨hs, hW, hhi, hhc, hjc, hI, hbc, hB⟩, rfl, Below.refl _ _⟩
              · -- 1: Op.load 75 t48
                go_light
                intro L σ W' hcl hL hC hw
                have e0 : σ 0 = .pointer (some ⟨w.heap.size, 0, none⟩) := hw 0 (by kernel_rfl)
                clear hw
                have HC := Lib.hid hC
                obtain ⟨hs, hW, hhi, hhc, hjc, hI, hbc, hB⟩ := hC
                have ks := hs.cell
                clear hcl hL
                clear hs hW hhi hhc hjc hI hbc hB
                refine OpGoes.step fun K hK => ?_
                unfold OpGoes
                go_simp
                obtain ⟨hs, hW, hhi, hhc, hjc, hI, hbc, hB⟩ := HC.out
                exact hK _ _ ⟨⟨hs, hW, hhi, hhc, hjc, hI, hbc, hB⟩, rfl, Below.refl _ _⟩
              · -- 2: Op.fieldAddr 88 t1 1
                go_light
                intro L σ W' hcl hL hC hw
                clear hw
                have HC := Lib.hid hC
                clear hC
                clear hcl hL
                refine OpGoes.step fun K hK => ?_
                unfold OpGoes
                go_simp
                obtain ⟨hs, hW, hhi, hhc, hjc, hI, hbc, hB⟩ := HC.out
                exact hK _ _ ⟨⟨hs, hW, hhi, hhc, hjc, hI, hbc, hB⟩, rfl, Below.refl _ _⟩
              · -- 3: Op.load 84 t50
                go_light
                intro L σ W' hcl hL hC hw
                have e2 : σ 2 = .pointer (some ⟨w.heap.size, 5, none⟩) := hw 2 (by kernel_rfl)
                clear hw
                have HC := Lib.hid hC
                obtain ⟨hs, hW, hhi, hhc, hjc, hI, hbc, hB⟩ := hC
                have ks := hs.cell
                clear hcl hL
                clear hs hW hhi hhc hjc hI hbc hB
                refine OpGoes.step fun K hK => ?_
                unfold OpGoes
                go_simp
                obtain ⟨hs, hW, hhi, hhc, hjc, hI, hbc, hB⟩ := HC.out
                exact hK _ _ ⟨⟨hs, hW, hhi, hhc, hjc, hI, hbc, hB⟩, rfl, Below.refl _ _⟩
              · -- 4: Op.move t4
                go_light
                intro L σ W' hcl hL hC hw
                clear hw
                have HC := Lib.hid hC
                clear hC
                clear hcl hL
                refine OpGoes.step fun K hK => ?_
                unfold OpGoes
                go_simp
                obtain ⟨hs, hW, hhi, hhc, hjc, hI, hbc, hB⟩ := HC.out
                exact hK _ _ ⟨⟨hs, hW, hhi, hhc, hjc, hI, hbc, hB⟩, rfl, Below.refl _ _⟩
              · -- 5: Op.indexAddr 84 t51 t52
                go_light
                intro L σ W' hcl hL hC hw
                have e3 : σ 3 = .slice (some ⟨hb, 0, none⟩) bN kH := hw 3 (by kernel_rfl)
                have e4 : σ 4 = .int .i64 ((i : Int)) := hw 4 (by kernel_rfl)
                clear hw
                have HC := Lib.hid hC
                clear hC
                clear hcl hL
                refine OpGoes.step fun K hK => ?_
                unfold OpGoes
                go_simp
                obtain ⟨hs, hW, hhi, hhc, hjc, hI, hbc, hB⟩ := HC.out
                exact hK _ _ ⟨⟨hs, hW, hhi, hhc, hjc, hI, hbc, hB⟩, rfl, Below.refl _ _⟩
              · -- 6: Op.load 41 t53
                go_light
                intro L σ W' hcl hL hC hw
                have e5 : σ 5 = .pointer (some ⟨hb, i * 12, none⟩) := hw 5 (by kernel_rfl)
                clear hw
                have HC := Lib.hid hC
                obtain ⟨hs, hW, hhi, hhc, hjc, hI, hbc, hB⟩ := hC
                have hhc0 := hhc
                have d0 := hhc 0 _ rfl
                have d1 := hhc 1 _ rfl
                have d2 := hhc 2 _ rfl
                have d3 := hhc 3 _ rfl
                have d4 := hhc 4 _ rfl
                have d5 := hhc 5 _ rfl
                have d6 := hhc 6 _ rfl
                have d7 := hhc 7 _ rfl
                have d8 := hhc 8 _ rfl
                have d9 := hhc 9 _ rfl
                have d10 := hhc 10 _ rfl
                have d11 := hhc 11 _ rfl
                rw [Nat.add_zero] at d0
                clear hcl hL
                clear hs hW hhi hhc hjc hI hbc hB
                refine OpGoes.step fun K hK => ?_
                unfold OpGoes
                go_simp
                obtain ⟨hs, hW, hhi, hhc, hjc, hI, hbc, hB⟩ := HC.out
                exact hK _ _ ⟨⟨hs, hW, hhi, hhc, hjc, hI, hbc, hB⟩, rfl, Below.refl _ _⟩
              · -- 7: Op.call { value (Operand.func 81), args := #[t49, t54], argTypes := #[75, 41] }
                go_light
                intro L σ W' hcl hL hC hw
                have e1 : σ 1 = .agg #[.int .i64 c.st.rd, .int .i64 c.st.mo, .slice sA sN kS, .int .i64 c.st.fi, .int .i64 c.st.la] := hw 1 (by kernel_rfl)
                have e6 : σ 6 = .agg #[.int .i64 h.at_, .int .i64 h.v, .int .i64 h.r, .int .i64 h.t, .bool h.seen.s, .int .i64 h.seen.n, .bool h.seen.f, .int .i64 h.seen.v, .int .i64 h.tr, .int .i64 h.sp, .bool h.ag, .int .i64 h.re] := hw 6 (by kernel_rfl)
                clear hw
                have HC := Lib.hid hC
                clear hC
                clear hcl hL
                refine OpGoes.step fun K hK => ?_
                unfold OpGoes
                go_simp
                obtain ⟨hs, hW, hhi, hhc, hjc, hI, hbc, hB⟩ := HC.out
                refine (sfits_is c.st sA sN kS lo hi h true _ hW.s hhi hm1 HP.out hfit).mono ?_
                rintro e w1 ⟨rfl, hb1⟩
                exact ⟨_, rfl, hK _ _ ⟨⟨hs.below hb1 hs.lt, hW.below hb1 hhi, Nat.le_trans hhi hb1.size, hhc.below hb1, hjc.below hb1, SlW.below hI hb1 hhi, hbc.below hb1, bstep hB hB.size hb1⟩, rfl, hb1⟩⟩
              · -- 8: Op.unOp UnOp.not 4 t55
                go_light
                intro L σ W' hcl hL hC hw
                have e7 : σ 7 = .bool true := hw 7 (by kernel_rfl)
                clear hw
                have HC := Lib.hid hC
                clear hC
                clear hcl hL
                refine OpGoes.step fun K hK => ?_
                unfold OpGoes
                go_simp
                obtain ⟨hs, hW, hhi, hhc, hjc, hI, hbc, hB⟩ := HC.out
                exact hK _ _ ⟨⟨hs, hW, hhi, hhc, hjc, hI, hbc, hB⟩, rfl, Below.refl _ _⟩
              · -- 9: Op.move t56
                go_light
                intro L σ W' hcl hL hC hw
                have e8 : σ 8 = .bool false := hw 8 (by kernel_rfl)
                clear hw
                have HC := Lib.hid hC
                clear hC
                clear hcl hL
                refine OpGoes.step fun K hK => ?_
                unfold OpGoes
                go_simp
                obtain ⟨hs, hW, hhi, hhc, hjc, hI, hbc, hB⟩ := HC.out
                exact hK _ _ ⟨⟨hs, hW, hhi, hhc, hjc, hI, hbc, hB⟩, rfl, Below.refl _ _⟩
              · -- 10: Op.fieldAddr 88 t1 2   [guarded: some (9, false)]
                go_light
                intro L σ W' hcl hL hC hw
                have e9 : σ 9 = .bool false := hw 9 (by kernel_rfl)
                clear hw
                have HC := Lib.hid hC
                clear hC
                clear hcl hL
                refine OpGoes.step fun K hK => ?_
                unfold OpGoes
                go_simp
                obtain ⟨hs, hW, hhi, hhc, hjc, hI, hbc, hB⟩ := HC.out
                exact hK _ _ ⟨⟨hs, hW, hhi, hhc, hjc, hI, hbc, hB⟩, rfl, Below.refl _ _⟩
              · -- 11: Op.load 85 t58   [guarded: some (9, false)]
                go_light
                intro L σ W' hcl hL hC hw
                have e9 : σ 9 = .bool false := hw 9 (by kernel_rfl)
                have e10 : σ 10 = .pointer (some ⟨w.heap.size, 6, none⟩) := hw 10 (by kernel_rfl)
                clear hw
                have HC := Lib.hid hC
                obtain ⟨hs, hW, hhi, hhc, hjc, hI, hbc, hB⟩ := hC
                have ks := hs.cell
                clear hcl hL
                clear hs hW hhi hhc hjc hI hbc hB
                refine OpGoes.step fun K hK => ?_
                unfold OpGoes
                go_simp
                obtain ⟨hs, hW, hhi, hhc, hjc, hI, hbc, hB⟩ := HC.out
                exact hK _ _ ⟨⟨hs, hW, hhi, hhc, hjc, hI, hbc, hB⟩, rfl, Below.refl _ _⟩
              · -- 12: Op.move t4   [guarded: some (9, false)]
                go_light
                intro L σ W' hcl hL hC hw
                have e9 : σ 9 = .bool false := hw 9 (by kernel_rfl)
                clear hw
                have HC := Lib.hid hC
                clear hC
                clear hcl hL
                refine OpGoes.step fun K hK => ?_
                unfold OpGoes
                go_simp
                obtain ⟨hs, hW, hhi, hhc, hjc, hI, hbc, hB⟩ := HC.out
                exact hK _ _ ⟨⟨hs, hW, hhi, hhc, hjc, hI, hbc, hB⟩, rfl, Below.refl _ _⟩
              · -- 13: Op.indexAddr 85 t59 t60   [guarded: some (9, false)]
                go_light
                intro L σ W' hcl hL hC hw
                have e9 : σ 9 = .bool false := hw 9 (by kernel_rfl)
                have e11 : σ 11 = .slice (some ⟨jb, 0, none⟩) bN kJ := hw 11 (by kernel_rfl)
                have e12 : σ 12 = .int .i64 ((i : Int)) := hw 12 (by kernel_rfl)
                clear hw
                have HC := Lib.hid hC
                clear hC
                clear hcl hL
                refine OpGoes.step fun K hK => ?_
                unfold OpGoes
                go_simp
                obtain ⟨hs, hW, hhi, hhc, hjc, hI, hbc, hB⟩ := HC.out
                exact hK _ _ ⟨⟨hs, hW, hhi, hhc, hjc, hI, hbc, hB⟩, rfl, Below.refl _ _⟩
              · -- 14: Op.load 59 t61   [guarded: some (9, false)]
                go_light
                intro L σ W' hcl hL hC hw
                have e9 : σ 9 = .bool false := hw 9 (by kernel_rfl)
                have e13 : σ 13 = .pointer (some ⟨jb, i, none⟩) := hw 13 (by kernel_rfl)
                clear hw
                have HC := Lib.hid hC
                obtain ⟨hs, hW, hhi, hhc, hjc, hI, hbc, hB⟩ := hC
                have dj := hjc 0 _ rfl
                rw [Nat.add_zero] at dj
                clear hcl hL
                clear hs hW hhi hhc hjc hI hbc hB
                refine OpGoes.step fun K hK => ?_
                unfold OpGoes
                go_simp
                obtain ⟨hs, hW, hhi, hhc, hjc, hI, hbc, hB⟩ := HC.out
                exact hK _ _ ⟨⟨hs, hW, hhi, hhc, hjc, hI, hbc, hB⟩, rfl, Below.refl _ _⟩
              · -- 15: Op.call { value (Operand.func 82), args := #[t62], argTypes := #[59] }   [guarded: some (9, false)]
                go_light
                intro L σ W' hcl hL hC hw
                have e9 : σ 9 = .bool false := hw 9 (by kernel_rfl)
                have e14 : σ 14 = .slice A' n' cap' := hw 14 (by kernel_rfl)
                clear hw
                have HC := Lib.hid hC
                clear hC
                clear hcl hL
                refine OpGoes.step fun K hK => ?_
                unfold OpGoes
                go_simp
                obtain ⟨hs, hW, hhi, hhc, hjc, hI, hbc, hB⟩ := HC.out
                refine (l10Jobs_is jl A' n' cap' lo hi true _ hI hhi hn' hjob).mono ?_
                rintro e w1 ⟨rfl, hb1⟩
                exact ⟨_, rfl, hK _ _ ⟨⟨hs.below hb1 hs.lt, hW.below hb1 hhi, Nat.le_trans hhi hb1.size, hhc.below hb1, hjc.below hb1, SlW.below hI hb1 hhi, hbc.below hb1, bstep hB hB.size hb1⟩, rfl, hb1⟩⟩
              · -- 16: Op.unOp UnOp.not 4 t63   [guarded: some (9, false)]
                go_light
                intro L σ W' hcl hL hC hw
                have e9 : σ 9 = .bool false := hw 9 (by kernel_rfl)
                have e15 : σ 15 = .bool true := hw 15 (by kernel_rfl)
                clear hw
                have HC := Lib.hid hC
                clear hC
                clear hcl hL
                refine OpGoes.step fun K hK => ?_
                unfold OpGoes
                go_simp
                obtain ⟨hs, hW, hhi, hhc, hjc, hI, hbc, hB⟩ := HC.out
                exact hK _ _ ⟨⟨hs, hW, hhi, hhc, hjc, hI, hbc, hB⟩, rfl, Below.refl _ _⟩
              · -- 17: Op.pick t57 (const (Value.bool true)) t64
                go_light
                intro L σ W' hcl hL hC hw
                have e9 : σ 9 = .bool false := hw 9 (by kernel_rfl)
                have e16 : σ 16 = .bool false := hw 16 (by kernel_rfl)
                clear hw
                have HC := Lib.hid hC
                clear hC
                clear hcl hL
                refine OpGoes.step fun K hK => ?_
                unfold OpGoes
                go_simp
                obtain ⟨hs, hW, hhi, hhc, hjc, hI, hbc, hB⟩ := HC.out
                exact hK _ _ ⟨⟨hs, hW, hhi, hhc, hjc, hI, hbc, hB⟩, rfl, Below.refl _ _⟩
              · -- 18: Op.move t65
                go_light
                intro L σ W' hcl hL hC hw
                have e17 : σ 17 = .bool false := hw 17 (by kernel_rfl)
                clear hw
                have HC := Lib.hid hC
                clear hC
                clear hcl hL
                refine OpGoes.step fun K hK => ?_
                unfold OpGoes
                go_simp
                obtain ⟨hs, hW, hhi, hhc, hjc, hI, hbc, hB⟩ := HC.out
                exact hK _ _ ⟨⟨hs, hW, hhi, hhc, hjc, hI, hbc, hB⟩, rfl, Below.refl _ _⟩
              · -- 19: Op.fieldAddr 88 t1 3   [guarded: some (18, false)]
                go_light
                intro L σ W' hcl hL hC hw
                have e18 : σ 18 = .bool false := hw 18 (by kernel_rfl)
                clear hw
                have HC := Lib.hid hC
                clear hC
                clear hcl hL
                refine OpGoes.step fun K hK => ?_
                unfold OpGoes
                go_simp
                obtain ⟨hs, hW, hhi, hhc, hjc, hI, hbc, hB⟩ := HC.out
                exact hK _ _ ⟨⟨hs, hW, hhi, hhc, hjc, hI, hbc, hB⟩, rfl, Below.refl _ _⟩
              · -- 20: Op.load 59 t67   [guarded: some (18, false)]
                go_light
                intro L σ W' hcl hL hC hw
                have e18 : σ 18 = .bool false := hw 18 (by kernel_rfl)
                have e19 : σ 19 = .pointer (some ⟨w.heap.size, 7, none⟩) := hw 19 (by kernel_rfl)
                clear hw
                have HC := Lib.hid hC
                obtain ⟨hs, hW, hhi, hhc, hjc, hI, hbc, hB⟩ := hC
                have ks := hs.cell
                clear hcl hL
                clear hs hW hhi hhc hjc hI hbc hB
                refine OpGoes.step fun K hK => ?_
                unfold OpGoes
                go_simp
                obtain ⟨hs, hW, hhi, hhc, hjc, hI, hbc, hB⟩ := HC.out
                exact hK _ _ ⟨⟨hs, hW, hhi, hhc, hjc, hI, hbc, hB⟩, rfl, Below.refl _ _⟩
              · -- 21: Op.move t4   [guarded: some (18, false)]
                go_light
                intro L σ W' hcl hL hC hw
                have e18 : σ 18 = .bool false := hw 18 (by kernel_rfl)
                clear hw
                have HC := Lib.hid hC
                clear hC
                clear hcl hL
                refine OpGoes.step fun K hK => ?_
                unfold OpGoes
                go_simp
                obtain ⟨hs, hW, hhi, hhc, hjc, hI, hbc, hB⟩ := HC.out
                exact hK _ _ ⟨⟨hs, hW, hhi, hhc, hjc, hI, hbc, hB⟩, rfl, Below.refl _ _⟩
              · -- 22: Op.indexAddr 59 t68 t69   [guarded: some (18, false)]
                go_light
                intro L σ W' hcl hL hC hw
                have e18 : σ 18 = .bool false := hw 18 (by kernel_rfl)
                have e20 : σ 20 = .slice (some ⟨bb, 0, none⟩) bN kB := hw 20 (by kernel_rfl)
                have e21 : σ 21 = .int .i64 ((i : Int)) := hw 21 (by kernel_rfl)
                clear hw
                have HC := Lib.hid hC
                clear hC
                clear hcl hL
                refine OpGoes.step fun K hK => ?_
                unfold OpGoes
                go_simp
                obtain ⟨hs, hW, hhi, hhc, hjc, hI, hbc, hB⟩ := HC.out
                exact hK _ _ ⟨⟨hs, hW, hhi, hhc, hjc, hI, hbc, hB⟩, rfl, Below.refl _ _⟩
              · -- 23: Op.load 2 t70   [guarded: some (18, false)]
                go_light
                intro L σ W' hcl hL hC hw
                have e18 : σ 18 = .bool false := hw 18 (by kernel_rfl)
                have e22 : σ 22 = .pointer (some ⟨bb, i, none⟩) := hw 22 (by kernel_rfl)
                clear hw
                have HC := Lib.hid hC
                obtain ⟨hs, hW, hhi, hhc, hjc, hI, hbc, hB⟩ := hC
                have db := hbc 0 _ rfl
                rw [Nat.add_zero] at db
                clear hcl hL
                clear hs hW hhi hhc hjc hI hbc hB
                refine OpGoes.step fun K hK => ?_
                unfold OpGoes
                go_simp
                obtain ⟨hs, hW, hhi, hhc, hjc, hI, hbc, hB⟩ := HC.out
                exact hK _ _ ⟨⟨hs, hW, hhi, hhc, hjc, hI, hbc, hB⟩, rfl, Below.refl _ _⟩
              · -- 24: Op.fieldAddr 88 t1 4   [guarded: some (18, false)]
                go_light
                intro L σ W' hcl hL hC hw
                have e18 : σ 18 = .bool false := hw 18 (by kernel_rfl)
                clear hw
                have HC := Lib.hid hC
                clear hC
                clear hcl hL
                refine OpGoes.step fun K hK => ?_
                unfold OpGoes
                go_simp
                obtain ⟨hs, hW, hhi, hhc, hjc, hI, hbc, hB⟩ := HC.out
                exact hK _ _ ⟨⟨hs, hW, hhi, hhc, hjc, hI, hbc, hB⟩, rfl, Below.refl _ _⟩
              · -- 25: Op.load 2 t72   [guarded: some (18, false)]
                go_light
                intro L σ W' hcl hL hC hw
                have e18 : σ 18 = .bool false := hw 18 (by kernel_rfl)
                have e24 : σ 24 = .pointer (some ⟨w.heap.size, 8, none⟩) := hw 24 (by kernel_rfl)
                clear hw
                have HC := Lib.hid hC
                obtain ⟨hs, hW, hhi, hhc, hjc, hI, hbc, hB⟩ := hC
                have ks := hs.cell
                clear hcl hL
                clear hs hW hhi hhc hjc hI hbc hB
                refine OpGoes.step fun K hK => ?_
                unfold OpGoes
                go_simp
                obtain ⟨hs, hW, hhi, hhc, hjc, hI, hbc, hB⟩ := HC.out
                exact hK _ _ ⟨⟨hs, hW, hhi, hhc, hjc, hI, hbc, hB⟩, rfl, Below.refl _ _⟩
              · -- 26: Op.call { value (Operand.func 42), args := #[t71, const (0:i64), t73], argTypes := #[2, 2, 2] }   [guarded: some (18, false)]
                go_light
                intro L σ W' hcl hL hC hw
                have e18 : σ 18 = .bool false := hw 18 (by kernel_rfl)
                have e23 : σ 23 = .int .i64 bz := hw 23 (by kernel_rfl)
                have e25 : σ 25 = .int .i64 c.ck := hw 25 (by kernel_rfl)
                clear hw
                have HC := Lib.hid hC
                clear hC
                clear hcl hL
                refine OpGoes.step fun K hK => ?_
                unfold OpGoes
                go_simp
                obtain ⟨hs, hW, hhi, hhc, hjc, hI, hbc, hB⟩ := HC.out
                refine (l1In_is bz 0 c.ck false _ hbeg).mono ?_
                rintro e w1 ⟨rfl, hb1⟩
                exact ⟨_, rfl, hK _ _ ⟨⟨hs.below hb1 hs.lt, hW.below hb1 hhi, Nat.le_trans hhi hb1.size, hhc.below hb1, hjc.below hb1, SlW.below hI hb1 hhi, hbc.below hb1, bstep hB hB.size hb1⟩, rfl, hb1⟩⟩
              · -- 27: Op.unOp UnOp.not 4 t74   [guarded: some (18, false)]
                go_light
                intro L σ W' hcl hL hC hw
                have e18 : σ 18 = .bool false := hw 18 (by kernel_rfl)
                have e26 : σ 26 = .bool false := hw 26 (by kernel_rfl)
                clear hw
                have HC := Lib.hid hC
                clear hC
                clear hcl hL
                refine OpGoes.step fun K hK => ?_
                unfold OpGoes
                go_simp
                obtain ⟨hs, hW, hhi, hhc, hjc, hI, hbc, hB⟩ := HC.out
                exact hK _ _ ⟨⟨hs, hW, hhi, hhc, hjc, hI, hbc, hB⟩, rfl, Below.refl _ _⟩
              · -- 28: Op.pick t66 (const (Value.bool true)) t75
                go_light
                intro L σ W' hcl hL hC hw
                have e18 : σ 18 = .bool false := hw 18 (by kernel_rfl)
                have e27 : σ 27 = .bool true := hw 27 (by kernel_rfl)
                clear hw
                have HC := Lib.hid hC
                clear hC
                clear hcl hL
                refine OpGoes.step fun K hK => ?_
                unfold OpGoes
                go_simp
                obtain ⟨hs, hW, hhi, hhc, hjc, hI, hbc, hB⟩ := HC.out
                exact hK _ _ ⟨⟨hs, hW, hhi, hhc, hjc, hI, hbc, hB⟩, rfl, Below.refl _ _⟩
              · intro σ L W' hall hC hR
                obtain ⟨hs, hW, hhi, hhc, hjc, hI, hbc, hB⟩ := hC
                have e28 : σ 28 = .bool true := hR 28 (by decide)
                clear hR
                simp only [lexAll]
                go_simp
                go_step
                go_meet
                exact ⟨hs, hB, rfl⟩
            case rest =>
              obtain ⟨hs, hB, rfl⟩ := hcut
              go_wp2
              go_ret
              exact .mk (by rw [crOk_at (i := i) (by rw [E2.out]; exact hlt) (by rw [HAT.out, hbeg]; simp)]; rfl) hB
          · go_upto_region 7 with fail
            clear ks
            go_cut [76] (fun u76 W' => BoxAt W' w.heap.size #[.int .i64 c.st.rd, .int .i64 c.st.mo, .slice sA sN kS, .int .i64 c.st.fi, .int .i64 c.st.la, .slice (some ⟨hb, 0, none⟩) bN kH, .slice (some ⟨jb, 0, none⟩) bN kJ, .slice (some ⟨bb, 0, none⟩) bN kB, .int .i64 c.ck, .slice eA eN kE] 88 ∧ Below w.heap.size w W' ∧ u76 = .bool false)
            case first =>
              refine wp_region2 (fun w w' => Below w.heap.size w w') (fun _ _ h => h.size) (fun L W' => BoxAt W' w.heap.size #[.int .i64 c.st.rd, .int .i64 c.st.mo, .slice sA sN kS, .int .i64 c.st.fi, .int .i64 c.st.la, .slice (some ⟨hb, 0, none⟩) bN kH, .slice (some ⟨jb, 0, none⟩) bN kJ, .slice (some ⟨bb, 0, none⟩) bN kB, .int .i64 c.ck, .slice eA eN kE] 88 ∧ CrW lo hi W' c (⟨⟨sA, sN, kS⟩, ⟨some ⟨hb, 0, none⟩, bN, kH⟩, ⟨some ⟨jb, 0, none⟩, bN, kJ⟩, ⟨some ⟨bb, 0, none⟩, bN, kB⟩, ⟨eA, eN, kE⟩⟩ : CrL) ∧ hi ≤ W'.heap.size ∧ CellsAt W' hb (i * 12) h.cs ∧ CellsAt W' jb i [.slice A' n' cap'] ∧ IntsW lo hi W' A' n' cap' jl ∧ CellsAt W' bb i [.int .i64 bz] ∧ Below w.heap.size w W') (cwDR c w.heap.size i bN sN kS hb kH jb kJ bb kB eN kE sA eA h A' n' cap' bz) cwDK cwDS (by kernel_rfl) (by kernel_rfl) ?_ ?_ ?_
                (.grow rfl ?_ <| .grow rfl ?_ <| .grow rfl ?_ <| .grow rfl ?_ <| .grow rfl ?_ <| .grow rfl ?_ <| .grow rfl ?_ <| .grow rfl ?_ <| .grow rfl ?_ <| .grow rfl ?_ <| .grow rfl ?_ <| .grow rfl ?_ <| .grow rfl ?_ <| .grow rfl ?_ <| .grow rfl ?_ <| .grow rfl ?_ <| .grow rfl ?_ <| .grow rfl ?_ <| .grow rfl ?_ <| .grow rfl ?_ <| .grow rfl ?_ <| .grow rfl ?_ <| .grow rfl ?_ <| .grow rfl ?_ <| .grow rfl ?_ <| .grow rfl ?_ <| .grow rfl ?_ <| .grow rfl ?_ <| .grow rfl ?_ <| .nil) ?_
              · intro j σ τ w h hR
                match j, h, hR with
                | 0, h, hR => exact (h 0 (List.mem_singleton.2 rfl)).symm.trans hR
                | 1, h, hR => exact (h 1 (List.mem_singleton.2 rfl)).symm.trans hR
                | 2, h, hR => exact (h 2 (List.mem_singleton.2 rfl)).symm.trans hR
                | 3, h, hR => exact (h 3 (List.mem_singleton.2 rfl)).symm.trans hR
                | 4, h, hR => exact (h 4 (List.mem_singleton.2 rfl)).symm.trans hR
                | 5, h, hR => exact (h 5 (List.mem_singleton.2 rfl)).symm.trans hR
                | 6, h, hR => exact (h 6 (List.mem_singleton.2 rfl)).symm.trans hR
                | 7, h, hR => exact (h 7 (List.mem_singleton.2 rfl)).symm.trans hR
                | 8, h, hR => exact (h 8 (List.mem_singleton.2 rfl)).symm.trans hR
                | 9, h, hR => exact (h 9 (List.mem_singleton.2 rfl)).symm.trans hR
                | 10, h, hR => exact (h 10 (List.mem_singleton.2 rfl)).symm.trans hR
                | 11, h, hR => exact (h 11 (List.mem_singleton.2 rfl)).symm.trans hR
                | 12, h, hR => exact (h 12 (List.mem_singleton.2 rfl)).symm.trans hR
                | 13, h, hR => exact (h 13 (List.mem_singleton.2 rfl)).symm.trans hR
                | 14, h, hR => exact (h 14 (List.mem_singleton.2 rfl)).symm.trans hR
                | 15, h, hR => exact (h 15 (List.mem_singleton.2 rfl)).symm.trans hR
                | 16, h, hR => exact (h 16 (List.mem_singleton.2 rfl)).symm.trans hR
                | 17, h, hR => exact (h 17 (List.mem_singleton.2 rfl)).symm.trans hR
                | 18, h, hR => exact (h 18 (List.mem_singleton.2 rfl)).symm.trans hR
                | 19, h, hR => exact (h 19 (List.mem_singleton.2 rfl)).symm.trans hR
                | 20, h, hR => exact (h 20 (List.mem_singleton.2 rfl)).symm.trans hR
                | 21, h, hR => exact (h 21 (List.mem_singleton.2 rfl)).symm.trans hR
                | 22, h, hR => exact (h 22 (List.mem_singleton.2 rfl)).symm.trans hR
                | 23, h, hR => exact (h 23 (List.mem_singleton.2 rfl)).symm.trans hR
                | 24, h, hR => exact (h 24 (List.mem_singleton.2 rfl)).symm.trans hR
                | 25, h, hR => exact (h 25 (List.mem_singleton.2 rfl)).symm.trans hR
                | 26, h, hR => exact (h 26 (List.mem_singleton.2 rfl)).symm.trans hR
                | 27, h, hR => exact (h 27 (List.mem_singleton.2 rfl)).symm.trans hR
                | 28, h, hR => exact (h 28 (List.mem_singleton.2 rfl)).symm.trans hR
                | _ + 29, _, _ => exact trivial
              · intro j σ w w' hb hR
                match j, hR with
                | 0, hR => exact hR
                | 1, hR => exact hR
                | 2, hR => exact hR
                | 3, hR => exact hR
                | 4, hR => exact hR
                | 5, hR => exact hR
                | 6, hR => exact hR
                | 7, hR => exact hR
                | 8, hR => exact hR
                | 9, hR => exact hR
                | 10, hR => exact hR
                | 11, hR => exact hR
                | 12, hR => exact hR
                | 13, hR => exact hR
                | 14, hR => exact hR
                | 15, hR => exact hR
                | 16, hR => exact hR
                | 17, hR => exact hR
                | 18, hR => exact hR
                | 19, hR => exact hR
                | 20, hR => exact hR
                | 21, hR => exact hR
                | 22, hR => exact hR
                | 23, hR => exact hR
                | 24, hR => exact hR
                | 25, hR => exact hR
                | 26, hR => exact hR
                | 27, hR => exact hR
                | 28, hR => exact hR
                | _ + 29, _ => exact trivial
              · exact ⟨hs, hW.drew, hhi, hhc, hjc, hI, hbc, hB.drew⟩
              · -- 0: Op.fieldAddr 88 t1 0
                go_light
                intro L σ W' hcl hL hC hw
                clear hw
                have HC := Lib.hid hC
                clear hC
                clear hcl hL
                refine OpGoes.step fun K hK => ?_
                unfold OpGoes
                go_simp
                obtain ⟨hs, hW, hhi, hhc, hjc, hI, hbc, hB⟩ := HC.out
                exact hK _ _ ⟨⟨hs, hW, hhi, hhc, hjc, hI, hbc, hB⟩, rfl, Below.refl _ _⟩
              · -- 1: Op.load 75 t48
                go_light
                intro L σ W' hcl hL hC hw
                have e0 : σ 0 = .pointer (some ⟨w.heap.size, 0, none⟩) := hw 0 (by kernel_rfl)
                clear hw
                have HC := Lib.hid hC
                obtain ⟨hs, hW, hhi, hhc, hjc, hI, hbc, hB⟩ := hC
                have ks := hs.cell
                clear hcl hL
                clear hs hW hhi hhc hjc hI hbc hB
                refine OpGoes.step fun K hK => ?_
                unfold OpGoes
                go_simp
                obtain ⟨hs, hW, hhi, hhc, hjc, hI, hbc, hB⟩ := HC.out
                exact hK _ _ ⟨⟨hs, hW, hhi, hhc, hjc, hI, hbc, hB⟩, rfl, Below.refl _ _⟩
              · -- 2: Op.fieldAddr 88 t1 1
                go_light
                intro L σ W' hcl hL hC hw
                clear hw
                have HC := Lib.hid hC
                clear hC
                clear hcl hL
                refine OpGoes.step fun K hK => ?_
                unfold OpGoes
                go_simp
                obtain ⟨hs, hW, hhi, hhc, hjc, hI, hbc, hB⟩ := HC.out
                exact hK _ _ ⟨⟨hs, hW, hhi, hhc, hjc, hI, hbc, hB⟩, rfl, Below.refl _ _⟩
              · -- 3: Op.load 84 t50
                go_light
                intro L σ W' hcl hL hC hw
                have e2 : σ 2 = .pointer (some ⟨w.heap.size, 5, none⟩) := hw 2 (by kernel_rfl)
                clear hw
                have HC := Lib.hid hC
                obtain ⟨hs, hW, hhi, hhc, hjc, hI, hbc, hB⟩ := hC
                have ks := hs.cell
                clear hcl hL
                clear hs hW hhi hhc hjc hI hbc hB
                refine OpGoes.step fun K hK => ?_
                unfold OpGoes
                go_simp
                obtain ⟨hs, hW, hhi, hhc, hjc, hI, hbc, hB⟩ := HC.out
                exact hK _ _ ⟨⟨hs, hW, hhi, hhc, hjc, hI, hbc, hB⟩, rfl, Below.refl _ _⟩
              · -- 4: Op.move t4
                go_light
                intro L σ W' hcl hL hC hw
                clear hw
                have HC := Lib.hid hC
                clear hC
                clear hcl hL
                refine OpGoes.step fun K hK => ?_
                unfold OpGoes
                go_simp
                obtain ⟨hs, hW, hhi, hhc, hjc, hI, hbc, hB⟩ := HC.out
                exact hK _ _ ⟨⟨hs, hW, hhi, hhc, hjc, hI, hbc, hB⟩, rfl, Below.refl _ _⟩
              · -- 5: Op.indexAddr 84 t51 t52
                go_light
                intro L σ W' hcl hL hC hw
                have e3 : σ 3 = .slice (some ⟨hb, 0, none⟩) bN kH := hw 3 (by kernel_rfl)
                have e4 : σ 4 = .int .i64 ((i : Int)) := hw 4 (by kernel_rfl)
                clear hw
                have HC := Lib.hid hC
                clear hC
                clear hcl hL
                refine OpGoes.step fun K hK => ?_
                unfold OpGoes
                go_simp
                obtain ⟨hs, hW, hhi, hhc, hjc, hI, hbc, hB⟩ := HC.out
                exact hK _ _ ⟨⟨hs, hW, hhi, hhc, hjc, hI, hbc, hB⟩, rfl, Below.refl _ _⟩
              · -- 6: Op.load 41 t53
                go_light
                intro L σ W' hcl hL hC hw
                have e5 : σ 5 = .pointer (some ⟨hb, i * 12, none⟩) := hw 5 (by kernel_rfl)
                clear hw
                have HC := Lib.hid hC
                obtain ⟨hs, hW, hhi, hhc, hjc, hI, hbc, hB⟩ := hC
                have hhc0 := hhc
                have d0 := hhc 0 _ rfl
                have d1 := hhc 1 _ rfl
                have d2 := hhc 2 _ rfl
                have d3 := hhc 3 _ rfl
                have d4 := hhc 4 _ rfl
                have d5 := hhc 5 _ rfl
                have d6 := hhc 6 _ rfl
                have d7 := hhc 7 _ rfl
                have d8 := hhc 8 _ rfl
                have d9 := hhc 9 _ rfl
                have d10 := hhc 10 _ rfl
                have d11 := hhc 11 _ rfl
                rw [Nat.add_zero] at d0
                clear hcl hL
                clear hs hW hhi hhc hjc hI hbc hB
                refine OpGoes.step fun K hK => ?_
                unfold OpGoes
                go_simp
                obtain ⟨hs, hW, hhi, hhc, hjc, hI, hbc, hB⟩ := HC.out
                exact hK _ _ ⟨⟨hs, hW, hhi, hhc, hjc, hI, hbc, hB⟩, rfl, Below.refl _ _⟩
              · -- 7: Op.call { value (Operand.func 81), args := #[t49, t54], argTypes := #[75, 41] }
                go_light
                intro L σ W' hcl hL hC hw
                have e1 : σ 1 = .agg #[.int .i64 c.st.rd, .int .i64 c.st.mo, .slice sA sN kS, .int .i64 c.st.fi, .int .i64 c.st.la] := hw 1 (by kernel_rfl)
                have e6 : σ 6 = .agg #[.int .i64 h.at_, .int .i64 h.v, .int .i64 h.r, .int .i64 h.t, .bool h.seen.s, .int .i64 h.seen.n, .bool h.seen.f, .int .i64 h.seen.v, .int .i64 h.tr, .int .i64 h.sp, .bool h.ag, .int .i64 h.re] := hw 6 (by kernel_rfl)
                clear hw
                have HC := Lib.hid hC
                clear hC
                clear hcl hL
                refine OpGoes.step fun K hK => ?_
                unfold OpGoes
                go_simp
                obtain ⟨hs, hW, hhi, hhc, hjc, hI, hbc, hB⟩ := HC.out
                refine (sfits_is c.st sA sN kS lo hi h true _ hW.s hhi hm1 HP.out hfit).mono ?_
                rintro e w1 ⟨rfl, hb1⟩
                exact ⟨_, rfl, hK _ _ ⟨⟨hs.below hb1 hs.lt, hW.below hb1 hhi, Nat.le_trans hhi hb1.size, hhc.below hb1, hjc.below hb1, SlW.below hI hb1 hhi, hbc.below hb1, bstep hB hB.size hb1⟩, rfl, hb1⟩⟩
              · -- 8: Op.unOp UnOp.not 4 t55
                go_light
                intro L σ W' hcl hL hC hw
                have e7 : σ 7 = .bool true := hw 7 (by kernel_rfl)
                clear hw
                have HC := Lib.hid hC
                clear hC
                clear hcl hL
                refine OpGoes.step fun K hK => ?_
                unfold OpGoes
                go_simp
                obtain ⟨hs, hW, hhi, hhc, hjc, hI, hbc, hB⟩ := HC.out
                exact hK _ _ ⟨⟨hs, hW, hhi, hhc, hjc, hI, hbc, hB⟩, rfl, Below.refl _ _⟩
              · -- 9: Op.move t56
                go_light
                intro L σ W' hcl hL hC hw
                have e8 : σ 8 = .bool false := hw 8 (by kernel_rfl)
                clear hw
                have HC := Lib.hid hC
                clear hC
                clear hcl hL
                refine OpGoes.step fun K hK => ?_
                unfold OpGoes
                go_simp
                obtain ⟨hs, hW, hhi, hhc, hjc, hI, hbc, hB⟩ := HC.out
                exact hK _ _ ⟨⟨hs, hW, hhi, hhc, hjc, hI, hbc, hB⟩, rfl, Below.refl _ _⟩
              · -- 10: Op.fieldAddr 88 t1 2   [guarded: some (9, false)]
                go_light
                intro L σ W' hcl hL hC hw
                have e9 : σ 9 = .bool false := hw 9 (by kernel_rfl)
                clear hw
                have HC := Lib.hid hC
                clear hC
                clear hcl hL
                refine OpGoes.step fun K hK => ?_
                unfold OpGoes
                go_simp
                obtain ⟨hs, hW, hhi, hhc, hjc, hI, hbc, hB⟩ := HC.out
                exact hK _ _ ⟨⟨hs, hW, hhi, hhc, hjc, hI, hbc, hB⟩, rfl, Below.refl _ _⟩
              · -- 11: Op.load 85 t58   [guarded: some (9, false)]
                go_light
                intro L σ W' hcl hL hC hw
                have e9 : σ 9 = .bool false := hw 9 (by kernel_rfl)
                have e10 : σ 10 = .pointer (some ⟨w.heap.size, 6, none⟩) := hw 10 (by kernel_rfl)
                clear hw
                have HC := Lib.hid hC
                obtain ⟨hs, hW, hhi, hhc, hjc, hI, hbc, hB⟩ := hC
                have ks := hs.cell
                clear hcl hL
                clear hs hW hhi hhc hjc hI hbc hB
                refine OpGoes.step fun K hK => ?_
                unfold OpGoes
                go_simp
                obtain ⟨hs, hW, hhi, hhc, hjc, hI, hbc, hB⟩ := HC.out
                exact hK _ _ ⟨⟨hs, hW, hhi, hhc, hjc, hI, hbc, hB⟩, rfl, Below.refl _ _⟩
              · -- 12: Op.move t4   [guarded: some (9, false)]
                go_light
                intro L σ W' hcl hL hC hw
                have e9 : σ 9 = .bool false := hw 9 (by kernel_rfl)
                clear hw
                have HC := Lib.hid hC
                clear hC
                clear hcl hL
                refine OpGoes.step fun K hK => ?_
                unfold OpGoes
                go_simp
                obtain ⟨hs, hW, hhi, hhc, hjc, hI, hbc, hB⟩ := HC.out
                exact hK _ _ ⟨⟨hs, hW, hhi, hhc, hjc, hI, hbc, hB⟩, rfl, Below.refl _ _⟩
              · -- 13: Op.indexAddr 85 t59 t60   [guarded: some (9, false)]
                go_light
                intro L σ W' hcl hL hC hw
                have e9 : σ 9 = .bool false := hw 9 (by kernel_rfl)
                have e11 : σ 11 = .slice (some ⟨jb, 0, none⟩) bN kJ := hw 11 (by kernel_rfl)
                have e12 : σ 12 = .int .i64 ((i : Int)) := hw 12 (by kernel_rfl)
                clear hw
                have HC := Lib.hid hC
                clear hC
                clear hcl hL
                refine OpGoes.step fun K hK => ?_
                unfold OpGoes
                go_simp
                obtain ⟨hs, hW, hhi, hhc, hjc, hI, hbc, hB⟩ := HC.out
                exact hK _ _ ⟨⟨hs, hW, hhi, hhc, hjc, hI, hbc, hB⟩, rfl, Below.refl _ _⟩
              · -- 14: Op.load 59 t61   [guarded: some (9, false)]
                go_light
                intro L σ W' hcl hL hC hw
                have e9 : σ 9 = .bool false := hw 9 (by kernel_rfl)
                have e13 : σ 13 = .pointer (some ⟨jb, i, none⟩) := hw 13 (by kernel_rfl)
                clear hw
                have HC := Lib.hid hC
                obtain ⟨hs, hW, hhi, hhc, hjc, hI, hbc, hB⟩ := hC
                have dj := hjc 0 _ rfl
                rw [Nat.add_zero] at dj
                clear hcl hL
                clear hs hW hhi hhc hjc hI hbc hB
                refine OpGoes.step fun K hK => ?_
                unfold OpGoes
                go_simp
                obtain ⟨hs, hW, hhi, hhc, hjc, hI, hbc, hB⟩ := HC.out
                exact hK _ _ ⟨⟨hs, hW, hhi, hhc, hjc, hI, hbc, hB⟩, rfl, Below.refl _ _⟩
              · -- 15: Op.call { value (Operand.func 82), args := #[t62], argTypes := #[59] }   [guarded: some (9, false)]
                go_light
                intro L σ W' hcl hL hC hw
                have e9 : σ 9 = .bool false := hw 9 (by kernel_rfl)
                have e14 : σ 14 = .slice A' n' cap' := hw 14 (by kernel_rfl)
                clear hw
                have HC := Lib.hid hC
                clear hC
                clear hcl hL
                refine OpGoes.step fun K hK => ?_
                unfold OpGoes
                go_simp
                obtain ⟨hs, hW, hhi, hhc, hjc, hI, hbc, hB⟩ := HC.out
                refine (l10Jobs_is jl A' n' cap' lo hi true _ hI hhi hn' hjob).mono ?_
                rintro e w1 ⟨rfl, hb1⟩
                exact ⟨_, rfl, hK _ _ ⟨⟨hs.below hb1 hs.lt, hW.below hb1 hhi, Nat.le_trans hhi hb1.size, hhc.below hb1, hjc.below hb1, SlW.below hI hb1 hhi, hbc.below hb1, bstep hB hB.size hb1⟩, rfl, hb1⟩⟩
              · -- 16: Op.unOp UnOp.not 4 t63   [guarded: some (9, false)]
                go_light
                intro L σ W' hcl hL hC hw
                have e9 : σ 9 = .bool false := hw 9 (by kernel_rfl)
                have e15 : σ 15 = .bool true := hw 15 (by kernel_rfl)
                clear hw
                have HC := Lib.hid hC
                clear hC
                clear hcl hL
                refine OpGoes.step fun K hK => ?_
                unfold OpGoes
                go_simp
                obtain ⟨hs, hW, hhi, hhc, hjc, hI, hbc, hB⟩ := HC.out
                exact hK _ _ ⟨⟨hs, hW, hhi, hhc, hjc, hI, hbc, hB⟩, rfl, Below.refl _ _⟩
              · -- 17: Op.pick t57 (const (Value.bool true)) t64
                go_light
                intro L σ W' hcl hL hC hw
                have e9 : σ 9 = .bool false := hw 9 (by kernel_rfl)
                have e16 : σ 16 = .bool false := hw 16 (by kernel_rfl)
                clear hw
                have HC := Lib.hid hC
                clear hC
                clear hcl hL
                refine OpGoes.step fun K hK => ?_
                unfold OpGoes
                go_simp
                obtain ⟨hs, hW, hhi, hhc, hjc, hI, hbc, hB⟩ := HC.out
                exact hK _ _ ⟨⟨hs, hW, hhi, hhc, hjc, hI, hbc, hB⟩, rfl, Below.refl _ _⟩
              · -- 18: Op.move t65
                go_light
                intro L σ W' hcl hL hC hw
                have e17 : σ 17 = .bool false := hw 17 (by kernel_rfl)
                clear hw
                have HC := Lib.hid hC
                clear hC
                clear hcl hL
                refine OpGoes.step fun K hK => ?_
                unfold OpGoes
                go_simp
                obtain ⟨hs, hW, hhi, hhc, hjc, hI, hbc, hB⟩ := HC.out
                exact hK _ _ ⟨⟨hs, hW, hhi, hhc, hjc, hI, hbc, hB⟩, rfl, Below.refl _ _⟩
              · -- 19: Op.fieldAddr 88 t1 3   [guarded: some (18, false)]
                go_light
                intro L σ W' hcl hL hC hw
                have e18 : σ 18 = .bool false := hw 18 (by kernel_rfl)
                clear hw
                have HC := Lib.hid hC
                clear hC
                clear hcl hL
                refine OpGoes.step fun K hK => ?_
                unfold OpGoes
                go_simp
                obtain ⟨hs, hW, hhi, hhc, hjc, hI, hbc, hB⟩ := HC.out
                exact hK _ _ ⟨⟨hs, hW, hhi, hhc, hjc, hI, hbc, hB⟩, rfl, Below.refl _ _⟩
              · -- 20: Op.load 59 t67   [guarded: some (18, false)]
                go_light
                intro L σ W' hcl hL hC hw
                have e18 : σ 18 = .bool false := hw 18 (by kernel_rfl)
                have e19 : σ 19 = .pointer (some ⟨w.heap.size, 7, none⟩) := hw 19 (by kernel_rfl)
                clear hw
                have HC := Lib.hid hC
                obtain ⟨hs, hW, hhi, hhc, hjc, hI, hbc, hB⟩ := hC
                have ks := hs.cell
                clear hcl hL
                clear hs hW hhi hhc hjc hI hbc hB
                refine OpGoes.step fun K hK => ?_
                unfold OpGoes
                go_simp
                obtain ⟨hs, hW, hhi, hhc, hjc, hI, hbc, hB⟩ := HC.out
                exact hK _ _ ⟨⟨hs, hW, hhi, hhc, hjc, hI, hbc, hB⟩, rfl, Below.refl _ _⟩
              · -- 21: Op.move t4   [guarded: some (18, false)]
                go_light
                intro L σ W' hcl hL hC hw
                have e18 : σ 18 = .bool false := hw 18 (by kernel_rfl)
                clear hw
                have HC := Lib.hid hC
                clear hC
                clear hcl hL
                refine OpGoes.step fun K hK => ?_
                unfold OpGoes
                go_simp
                obtain ⟨hs, hW, hhi, hhc, hjc, hI, hbc, hB⟩ := HC.out
                exact hK _ _ ⟨⟨hs, hW, hhi, hhc, hjc, hI, hbc, hB⟩, rfl, Below.refl _ _⟩
              · -- 22: Op.indexAddr 59 t68 t69   [guarded: some (18, false)]
                go_light
                intro L σ W' hcl hL hC hw
                have e18 : σ 18 = .bool false := hw 18 (by kernel_rfl)
                have e20 : σ 20 = .slice (some ⟨bb, 0, none⟩) bN kB := hw 20 (by kernel_rfl)
                have e21 : σ 21 = .int .i64 ((i : Int)) := hw 21 (by kernel_rfl)
                clear hw
                have HC := Lib.hid hC
                clear hC
                clear hcl hL
                refine OpGoes.step fun K hK => ?_
                unfold OpGoes
                go_simp
                obtain ⟨hs, hW, hhi, hhc, hjc, hI, hbc, hB⟩ := HC.out
                exact hK _ _ ⟨⟨hs, hW, hhi, hhc, hjc, hI, hbc, hB⟩, rfl, Below.refl _ _⟩
              · -- 23: Op.load 2 t70   [guarded: some (18, false)]
                go_light
                intro L σ W' hcl hL hC hw
                have e18 : σ 18 = .bool false := hw 18 (by kernel_rfl)
                have e22 : σ 22 = .pointer (some ⟨bb, i, none⟩) := hw 22 (by kernel_rfl)
                clear hw
                have HC := Lib.hid hC
                obtain ⟨hs, hW, hhi, hhc, hjc, hI, hbc, hB⟩ := hC
                have db := hbc 0 _ rfl
                rw [Nat.add_zero] at db
                clear hcl hL
                clear hs hW hhi hhc hjc hI hbc hB
                refine OpGoes.step fun K hK => ?_
                unfold OpGoes
                go_simp
                obtain ⟨hs, hW, hhi, hhc, hjc, hI, hbc, hB⟩ := HC.out
                exact hK _ _ ⟨⟨hs, hW, hhi, hhc, hjc, hI, hbc, hB⟩, rfl, Below.refl _ _⟩
              · -- 24: Op.fieldAddr 88 t1 4   [guarded: some (18, false)]
                go_light
                intro L σ W' hcl hL hC hw
                have e18 : σ 18 = .bool false := hw 18 (by kernel_rfl)
                clear hw
                have HC := Lib.hid hC
                clear hC
                clear hcl hL
                refine OpGoes.step fun K hK => ?_
                unfold OpGoes
                go_simp
                obtain ⟨hs, hW, hhi, hhc, hjc, hI, hbc, hB⟩ := HC.out
                exact hK _ _ ⟨⟨hs, hW, hhi, hhc, hjc, hI, hbc, hB⟩, rfl, Below.refl _ _⟩
              · -- 25: Op.load 2 t72   [guarded: some (18, false)]
                go_light
                intro L σ W' hcl hL hC hw
                have e18 : σ 18 = .bool false := hw 18 (by kernel_rfl)
                have e24 : σ 24 = .pointer (some ⟨w.heap.size, 8, none⟩) := hw 24 (by kernel_rfl)
                clear hw
                have HC := Lib.hid hC
                obtain ⟨hs, hW, hhi, hhc, hjc, hI, hbc, hB⟩ := hC
                have ks := hs.cell
                clear hcl hL
                clear hs hW hhi hhc hjc hI hbc hB
                refine OpGoes.step fun K hK => ?_
                unfold OpGoes
                go_simp
                obtain ⟨hs, hW, hhi, hhc, hjc, hI, hbc, hB⟩ := HC.out
                exact hK _ _ ⟨⟨hs, hW, hhi, hhc, hjc, hI, hbc, hB⟩, rfl, Below.refl _ _⟩
              · -- 26: Op.call { value (Operand.func 42), args := #[t71, const (0:i64), t73], argTypes := #[2, 2, 2] }   [guarded: some (18, false)]
                go_light
                intro L σ W' hcl hL hC hw
                have e18 : σ 18 = .bool false := hw 18 (by kernel_rfl)
                have e23 : σ 23 = .int .i64 bz := hw 23 (by kernel_rfl)
                have e25 : σ 25 = .int .i64 c.ck := hw 25 (by kernel_rfl)
                clear hw
                have HC := Lib.hid hC
                clear hC
                clear hcl hL
                refine OpGoes.step fun K hK => ?_
                unfold OpGoes
                go_simp
                obtain ⟨hs, hW, hhi, hhc, hjc, hI, hbc, hB⟩ := HC.out
                refine (l1In_is bz 0 c.ck true _ hbeg).mono ?_
                rintro e w1 ⟨rfl, hb1⟩
                exact ⟨_, rfl, hK _ _ ⟨⟨hs.below hb1 hs.lt, hW.below hb1 hhi, Nat.le_trans hhi hb1.size, hhc.below hb1, hjc.below hb1, SlW.below hI hb1 hhi, hbc.below hb1, bstep hB hB.size hb1⟩, rfl, hb1⟩⟩
              · -- 27: Op.unOp UnOp.not 4 t74   [guarded: some (18, false)]
                go_light
                intro L σ W' hcl hL hC hw
                have e18 : σ 18 = .bool false := hw 18 (by kernel_rfl)
                have e26 : σ 26 = .bool true := hw 26 (by kernel_rfl)
                clear hw
                have HC := Lib.hid hC
                clear hC
                clear hcl hL
                refine OpGoes.step fun K hK => ?_
                unfold OpGoes
                go_simp
                obtain ⟨hs, hW, hhi, hhc, hjc, hI, hbc, hB⟩ := HC.out
                exact hK _ _ ⟨⟨hs, hW, hhi, hhc, hjc, hI, hbc, hB⟩, rfl, Below.refl _ _⟩
              · -- 28: Op.pick t66 (const (Value.bool true)) t75
                go_light
                intro L σ W' hcl hL hC hw
                have e18 : σ 18 = .bool false := hw 18 (by kernel_rfl)
                have e27 : σ 27 = .bool false := hw 27 (by kernel_rfl)
                clear hw
                have HC := Lib.hid hC
                clear hC
                clear hcl hL
                refine OpGoes.step fun K hK => ?_
                unfold OpGoes
                go_simp
                obtain ⟨hs, hW, hhi, hhc, hjc, hI, hbc, hB⟩ := HC.out
                exact hK _ _ ⟨⟨hs, hW, hhi, hhc, hjc, hI, hbc, hB⟩, rfl, Below.refl _ _⟩
              · intro σ L W' hall hC hR
                obtain ⟨hs, hW, hhi, hhc, hjc, hI, hbc, hB⟩ := hC
                have e28 : σ 28 = .bool false := hR 28 (by decide)
                clear hR
                simp only [lexAll]
                go_simp
                go_step
                go_meet
                exact ⟨hs, hB, rfl⟩
            case rest =>
              obtain ⟨hs, hB, rfl⟩ := hcut
              have HOK := Lib.hid (show crAt c i = true by rw [HAT.out, hfit, hjob, hbeg]; rfl)
              clear hfit hjob hbeg
              go_wp2
              go_roundw
              case rel =>
                refine ⟨i + 1, by omega, by go_num, hB, hs, fun j hj => ?_⟩
                by_cases hji : j < i
                · exact HAL.out j hji
                · obtain rfl : j = i := by omega
                  exact HOK.out
              case measure => simp [intOf]; omega
    · have g1 : ¬ (i : Int) < (bN : Int) := by omega
      obtain rfl : bN = i := by omega
      have HOK := Lib.hid (show crOk c = true by
        simp only [crOk, HH.out, Bool.true_and, List.all_eq_true]
        intro j hj
        rw [E2.out] at hj
        exact HAL.out j (List.mem_range.1 hj))
      go_wp2
      go_ret
      exact .mk (by rw [HOK.out]; rfl) hB

end Go.Proofs.Ytbdgkmamieagfaa

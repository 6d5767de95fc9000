/-
 The walk of CrewOk of the model.
-/
import Derived.Test.YtiiaimjlohpemaaGreatCrewB
import Derived.Test.YtiiaimjlohpemaaGreatGrowV
namespace Go.Proofs.YtiiaimjlohpemaaGreat
set_option linter.unusedSimpArgs false
set_option linter.unusedVariables false
open Go.RowKit
set_option linter.unusedVariables false
attribute [local go_sem] OpUpon
attribute [local go_sem ↓] Go.wp_at_zero Go.wp_at_succ

theorem zcrewC0 {p : Prop} (h : p := by
 go_light
 intro L σ W' hcl hL hC hw
 have e5 := wV hw 5 rfl
 have hhc0 := hC.2.2.2.1
 have d0 := hC.2.2.2.1 0 _ rfl
 have d1 := hC.2.2.2.1 1 _ rfl
 have d2 := hC.2.2.2.1 2 _ rfl
 have d3 := hC.2.2.2.1 3 _ rfl
 have d4 := hC.2.2.2.1 4 _ rfl
 have d5 := hC.2.2.2.1 5 _ rfl
 have d6 := hC.2.2.2.1 6 _ rfl
 have d7 := hC.2.2.2.1 7 _ rfl
 have d8 := hC.2.2.2.1 8 _ rfl
 have d9 := hC.2.2.2.1 9 _ rfl
 have d10 := hC.2.2.2.1 10 _ rfl
 have d11 := hC.2.2.2.1 11 _ rfl
 rw [Nat.add_zero] at d0
 clear hw hcl hL hC
 refine OpGoes.go fun K hK => ?_
 go_simp
 exact hK _ _ ⟨rfl, rfl⟩) : p := h -- 76977b46
theorem zcrewC1 {p : Prop} (h : p := by
 rintro e w1 ⟨rfl, hb1⟩
 exact ⟨_, rfl, hK _ _ ⟨⟨hs.below hb1 hs.lt, hW.below hb1 hhi, Nat.le_trans hhi hb1.size, hhc.below hb1, hjc.below hb1, SlW.below hI hb1 hhi, hbc.below hb1, bstep hB hB.size hb1⟩, rfl, hb1⟩⟩) : p := h -- 20bb8e81
theorem zcrewC2 {p : Prop} (h : p := by
 clear hw hcl hL hC
 refine OpGoes.go fun K hK => ?_
 go_simp
 exact hK _ _ ⟨rfl, rfl⟩) : p := h -- ee92c020
theorem zcrewC3 {p : Prop} (h : p := by
 intro σ L W' hall hC hRR
 obtain ⟨hs, hW, hhi, hhc, hjc, hI, hbc, hB⟩ := hC
 have e28 := dV hRR 28 rfl
 clear hRR
 simp only [lexAll]
 go_simp
 go_step
 go_meet
 exact ⟨hs, hB, rfl⟩) : p := h -- 159cf283
theorem zcrewC4 {p : Prop} (h : p := by
 intro L L' W' hLL hC
 obtain ⟨hs, hW, hhi, hhc, hjc, hI, hbc, hB⟩ := hC
 exact ⟨hs, hW, hhi, hhc, hjc, hI, hbc, hB⟩) : p := h -- 9559caf2

theorem sfits_is (s : St) (A : Option Addr) (n cap lo hi : Nat) (h : Hd) (z : Bool) (w : World) (hs : RgsW lo hi w A n cap s.rs) (hh : hi ≤ w.heap.size) (hm : n ≤ 1048576) (hpn : ∀ r ∈ s.rs, r.ps.length ≤ 1048576) (hz : fits s h = z) :
  Calls Tryz.prog 67 #[.agg (aS s A n cap), hdV h] w (RetBelow (.bool z) w) := by
 rw [← hz]; exact sfits_any s A n cap lo hi h w hs hh hm hpn
theorem l10Jobs_is (l : List Int) (A : Option Addr) (n cap lo hi : Nat) (z : Bool) (w : World) (h : IntsW lo hi w A n cap l) (hh : hi ≤ w.heap.size) (hm : n ≤ 1048576) (hz : jobsOk l = z) :
  Calls Tryz.prog 68 #[.slice A n cap] w (RetBelow (.bool z) w) := by
 rw [← hz]; exact l10Jobs_any l A n cap lo hi w h hh hm
theorem l1In_is (x lo hi : Int) (z : Bool) (w : World) (hz : inB x lo hi = z) : Calls Tryz.prog 40 #[x, lo, hi] w (RetBelow (.bool z) w) := by
 rw [← hz]
 refine (l1In_any x lo hi w).mono ?_
 rintro e w' ⟨rfl, rfl⟩
 exact ⟨rfl, Below.refl _ _⟩
theorem crOk_head {c : Cr} (h : crHead c = false) : crOk c = false := by simp [crOk, h]
theorem crOk_at {c : Cr} {i : Nat} (hi : i < c.hs.length) (h : crAt c i = false) : crOk c = false := by
 have : (List.range c.hs.length).all (crAt c) = false := by rw [List.all_eq_false]; exact ⟨i, List.mem_range.2 hi, by simp [h]⟩
 simp [crOk, this]
theorem getD_some {α : Type} {l : List α} {i : Nat} {x d : α} (h : l[i]? = some x) : l.getD i d = x := by simp [List.getD_eq_getElem?_getD, h]

def cwAV (c : Cr) (SB i n sN kS hb kH jb kJ bb kB eN kE : Nat) (sA eA : Option Addr) (h : Hd) (A' : Option Addr) (n' cap' : Nat) (bz : Int) : List Sl := [.v (pT SB),
 .v (.agg (aS c.st sA sN kS)),
 .v (.pointer (some ⟨SB, 5, none⟩)),
 .v (.slice (some ⟨hb, 0, none⟩) n kH),
 .v (.int .i64 ((i : Int))),
 .v (.pointer (some ⟨hb, i * 12, none⟩)),
 .v (.agg (aH h)),
 .v (.bool false),
 .v (.bool true),
 .v (.bool true),
 .v undef,
 .v undef,
 .v undef,
 .v undef,
 .v undef,
 .v undef,
 .v undef,
 .v (.bool true),
 .v (.bool true),
 .v undef,
 .v undef,
 .v undef,
 .v undef,
 .v undef,
 .v undef,
 .v undef,
 .v undef,
 .v undef,
 .v (.bool true)]

def cwBV (c : Cr) (SB i n sN kS hb kH jb kJ bb kB eN kE : Nat) (sA eA : Option Addr) (h : Hd) (A' : Option Addr) (n' cap' : Nat) (bz : Int) : List Sl := [.v (pT SB),
 .v (.agg (aS c.st sA sN kS)),
 .v (.pointer (some ⟨SB, 5, none⟩)),
 .v (.slice (some ⟨hb, 0, none⟩) n kH),
 .v (.int .i64 ((i : Int))),
 .v (.pointer (some ⟨hb, i * 12, none⟩)),
 .v (.agg (aH h)),
 .v (.bool true),
 .v (.bool false),
 .v (.bool false),
 .v (.pointer (some ⟨SB, 6, none⟩)),
 .v (.slice (some ⟨jb, 0, none⟩) n kJ),
 .v (.int .i64 ((i : Int))),
 .v (.pointer (some ⟨jb, i, none⟩)),
 .v (.slice A' n' cap'),
 .v (.bool false),
 .v (.bool true),
 .v (.bool true),
 .v (.bool true),
 .v undef,
 .v undef,
 .v undef,
 .v undef,
 .v undef,
 .v undef,
 .v undef,
 .v undef,
 .v undef,
 .v (.bool true)]

def cwCV (c : Cr) (SB i n sN kS hb kH jb kJ bb kB eN kE : Nat) (sA eA : Option Addr) (h : Hd) (A' : Option Addr) (n' cap' : Nat) (bz : Int) : List Sl := [.v (pT SB),
 .v (.agg (aS c.st sA sN kS)),
 .v (.pointer (some ⟨SB, 5, none⟩)),
 .v (.slice (some ⟨hb, 0, none⟩) n kH),
 .v (.int .i64 ((i : Int))),
 .v (.pointer (some ⟨hb, i * 12, none⟩)),
 .v (.agg (aH h)),
 .v (.bool true),
 .v (.bool false),
 .v (.bool false),
 .v (.pointer (some ⟨SB, 6, none⟩)),
 .v (.slice (some ⟨jb, 0, none⟩) n kJ),
 .v (.int .i64 ((i : Int))),
 .v (.pointer (some ⟨jb, i, none⟩)),
 .v (.slice A' n' cap'),
 .v (.bool true),
 .v (.bool false),
 .v (.bool false),
 .v (.bool false),
 .v (.pointer (some ⟨SB, 7, none⟩)),
 .v (.slice (some ⟨bb, 0, none⟩) n kB),
 .v (.int .i64 ((i : Int))),
 .v (.pointer (some ⟨bb, i, none⟩)),
 .v bz,
 .v (.pointer (some ⟨SB, 8, none⟩)),
 .v c.ck,
 .v (.bool false),
 .v (.bool true),
 .v (.bool true)]

def cwDV (c : Cr) (SB i n sN kS hb kH jb kJ bb kB eN kE : Nat) (sA eA : Option Addr) (h : Hd) (A' : Option Addr) (n' cap' : Nat) (bz : Int) : List Sl := [.v (pT SB),
 .v (.agg (aS c.st sA sN kS)),
 .v (.pointer (some ⟨SB, 5, none⟩)),
 .v (.slice (some ⟨hb, 0, none⟩) n kH),
 .v (.int .i64 ((i : Int))),
 .v (.pointer (some ⟨hb, i * 12, none⟩)),
 .v (.agg (aH h)),
 .v (.bool true),
 .v (.bool false),
 .v (.bool false),
 .v (.pointer (some ⟨SB, 6, none⟩)),
 .v (.slice (some ⟨jb, 0, none⟩) n kJ),
 .v (.int .i64 ((i : Int))),
 .v (.pointer (some ⟨jb, i, none⟩)),
 .v (.slice A' n' cap'),
 .v (.bool true),
 .v (.bool false),
 .v (.bool false),
 .v (.bool false),
 .v (.pointer (some ⟨SB, 7, none⟩)),
 .v (.slice (some ⟨bb, 0, none⟩) n kB),
 .v (.int .i64 ((i : Int))),
 .v (.pointer (some ⟨bb, i, none⟩)),
 .v bz,
 .v (.pointer (some ⟨SB, 8, none⟩)),
 .v c.ck,
 .v (.bool true),
 .v (.bool false),
 .v (.bool false)]

set_option maxRecDepth 100000 in
set_option maxHeartbeats 4000000 in
theorem screwOk_any (c : Cr) (y : CrL) (lo hi : Nat) (w : World) (hW0 : CrW lo hi w c y) (hh : hi ≤ w.heap.size) (hf : CrFit c) :
  Calls Tryz.prog 58 #[crV c y] w (RetBelow (.bool (crOk c)) w) := by
 obtain ⟨⟨sA, sN, kS⟩, ⟨hA, n, kH⟩, ⟨jA, jN, kJ⟩, ⟨bA, bN, kB⟩, ⟨eA, eN, kE⟩⟩ := y
 have e1 : c.st.rs.length = sN := hW0.s.1
 have e2 : c.hs.length = n := hW0.h.1
 have e3 : c.js.length = jN := hW0.j.len
 have e4 : c.bs.length = bN := hW0.b.1
 have e5 : c.es.length = eN := hW0.e.1
 have hm1 : sN ≤ 1048576 := by have := hf.s; omega
 have hm2 : n ≤ 1048576 := by have := hf.h; omega
 have hm3 : jN ≤ 1048576 := by have := hf.j; omega
 have hm4 : bN ≤ 1048576 := by have := hf.b; omega
 have hm5 : eN ≤ 1048576 := by have := hf.e; omega
 have HP := Lib.hid hf.p
 have HJ := Lib.hid hf.l
 have E2 := Lib.hid e2
 have E3 := Lib.hid e3
 have E4 := Lib.hid e4
 clear e1 e2 e3 e4 e5 hf
 unfold crV
 dsimp only
 go_enter Tryz.func58, Tryz.ntmps58
 go_wp2_with fail
 refine calls_abs (fun W => Below w.heap.size w W ∧ BoxAt W w.heap.size #[c.st.rd, c.st.mo, .slice sA sN kS, c.st.fi, c.st.la, .slice hA n kH, .slice jA jN kJ, .slice bA bN kB, c.ck, .slice eA eN kE] 68) ⟨(Below.refl _ _).alloc (Nat.le_refl _) _, BoxAt.new _ _ _⟩ ?_
 rintro W ⟨hB, hs⟩
 refine (sstoreOk_any c.st sA sN kS lo hi _ (hW0.s.below hB hh) (Nat.le_trans hh hB.size) hm1 HP.out).mono ?_
 rintro e w1 ⟨rfl, hb1⟩
 replace hs := hs.below hb1 hs.lt
 replace hB := bstep hB hB.size hb1
 clear hb1
 have ks := hs.cell
 cases h1 : stOk c.st
 ·
  go_wp2
  go_ret
  exact .mk (by rw [crOk_head (by simp [crHead, h1])]; rfl) hB
 go_wp2_with fail
 refine (l1In_any _ _ _ _).mono ?_
 rintro e w' ⟨rfl, rfl⟩
 cases h2 : inB n 1 4
 ·
  go_wp2
  go_ret
  exact .mk (by rw [crOk_head (by simp [crHead, E2.out, h2])]; rfl) hB
 cases h3 : (jN == n)
 ·
  have h3' : ((jN : Int) != (n : Int)) = true := by simp at h3 ⊢; omega
  have h3'' : ¬ ((jN : Int) = (n : Int)) := by simp at h3; omega
  go_wp2
  go_ret
  exact .mk (by rw [crOk_head (by simp [crHead, E2.out, E3.out, h3])]; rfl) hB
 obtain rfl : jN = n := by simpa using h3
 cases h4 : (bN == jN)
 ·
  have h4' : ((bN : Int) != (jN : Int)) = true := by simp at h4 ⊢; omega
  have h4'' : ¬ ((bN : Int) = (jN : Int)) := by simp at h4; omega
  go_wp2
  go_ret
  exact .mk (by rw [crOk_head (by simp [crHead, E2.out, E4.out, h4])]; rfl) hB
 obtain rfl : bN = jN := by simpa using h4
 go_wp2_with fail
 refine (l1In_any _ _ _ _).mono ?_
 rintro e w' ⟨rfl, rfl⟩
 cases h5 : inB c.ck 0 2000
 ·
  go_wp2
  go_ret
  exact .mk (by rw [crOk_head (by simp [crHead, h5])]; rfl) hB
 go_wp2_with fail
 refine (sstoryOk_any c.es eA eN kE lo hi _ (SlW.below hW0.e hB hh) (Nat.le_trans hh hB.size) hm5).mono ?_
 rintro e w2 ⟨rfl, hb1⟩
 replace hs := hs.below hb1 hs.lt
 replace hB := bstep hB hB.size hb1
 clear hb1 ks
 have ks := hs.cell
 cases h6 : storyOk c.es
 ·
  go_wp2
  go_ret
  exact .mk (by rw [crOk_head (by simp [crHead, h6])]; rfl) hB
 have HH := Lib.hid (show crHead c = true by simp [crHead, E2.out, E3.out, E4.out, h1, h2, h5, h6])
 have hn1 : 1 ≤ bN ∧ bN ≤ 4 := by simp [inB] at h2; omega
 obtain ⟨hn1, hn4⟩ := hn1
 clear h1 h2 h3 h4 h5 h6
 obtain ⟨hb, -, hA', -, -, -, -⟩ := SlW.at_ hW0.h Hd.cs_len (i := 0) (by show 0 < bN; omega)
 obtain ⟨jb, -, -, -, -, jA', -, -, -, -, -⟩ := hW0.j.at_ (i := 0) (by show 0 < bN; omega)
 obtain ⟨bb, -, bA', -, -, -, -⟩ := SlW.at_ hW0.b ic_len (i := 0) (by show 0 < bN; omega)
 dsimp only at hA' jA' bA'
 subst hA' jA' bA'
 go_wp2
 go_loopw [4] (fun s4 W => ∃ i : Nat, i ≤ bN ∧ s4 = .int .i64 i ∧ Below w.heap.size w W ∧ BoxAt W w.heap.size #[c.st.rd, c.st.mo, .slice sA sN kS, c.st.fi, c.st.la, .slice (some ⟨hb, 0, none⟩) bN kH, .slice (some ⟨jb, 0, none⟩) bN kJ, .slice (some ⟨bb, 0, none⟩) bN kB, c.ck, .slice eA eN kE] 68 ∧ ∀ j : Nat, j < i → crAt c j = true) (fun s4 _ => bN - (intOf s4).toNat)
 case atStart => exact ⟨0, Nat.zero_le _, rfl, hB, hs, fun j h => absurd h (by omega)⟩
 case round =>
  clear hB hs ks
  obtain ⟨i, hin, rfl, hB, hs, hal⟩ := hrel
  have HAL := Lib.hid hal; clear hal
  have ks := hs.cell
  by_cases hlt : i < bN
  ·
   have hW := hW0.below hB hh
   have hhi : hi ≤ wr.heap.size := Nat.le_trans hh hB.size
   obtain ⟨b1, h, hA', -, -, hh1, hhc⟩ := SlW.at_ hW.h Hd.cs_len (i := i) hlt
   obtain ⟨b2, jl, A', n', cap', jA', -, -, hj1, hjc0, hI⟩ := hW.j.at_ (i := i) hlt
   obtain ⟨b3, bz, bA', -, -, hb1, hbc0⟩ := SlW.at_ hW.b ic_len (i := i) hlt
   dsimp only at hA' jA' bA'
   injection hA' with hA'
   injection hA' with hA'
   injection jA' with jA'
   injection jA' with jA'
   injection bA' with bA'
   injection bA' with bA'
   subst hA' jA' bA'
   replace hhc : CellsAt wr hb (i * 12) h.cs := hhc
   have hjc : CellsAt wr jb i [.slice A' n' cap'] := fun j u hu => by
    obtain rfl : j = 0 := by have := (List.getElem?_eq_some_iff.1 hu).1; simp at this; exact this
    simp at hu; subst hu; exact hjc0
   have hbc : CellsAt wr bb i [bz] := fun j u hu => by
    have := hbc0 j u hu
    rwa [Nat.mul_one] at this
   clear hjc0 hbc0
   have hn' : n' ≤ 1048576 := by rw [← hI.1]; exact HJ.out jl (List.mem_of_getElem? hj1)
   have HAT := Lib.hid (show crAt c i = (fits c.st h && jobsOk jl && inB bz 0 c.ck) by unfold crAt; rw [getD_some hh1, getD_some hj1, getD_some hb1])
   clear hh1 hj1 hb1
   have g1 : (i : Int) < (bN : Int) := by omega
   have g2 : (0 : Int) ≤ (i : Int) := by omega
   cases hfit : fits c.st h
   ·
    go_upto_region 7 with fail
    clear ks
    go_cut [76] (fun u76 W' => BoxAt W' w.heap.size #[c.st.rd, c.st.mo, .slice sA sN kS, c.st.fi, c.st.la, .slice (some ⟨hb, 0, none⟩) bN kH, .slice (some ⟨jb, 0, none⟩) bN kJ, .slice (some ⟨bb, 0, none⟩) bN kB, c.ck, .slice eA eN kE] 68 ∧ Below w.heap.size w W' ∧ u76 = .bool true)
    case first =>
     refine wp_region2v (fun w w' => Below w.heap.size w w') (fun _ _ h => h.size) (fun _ => Below.refl _ _) (fun L W' => BoxAt W' w.heap.size #[c.st.rd, c.st.mo, .slice sA sN kS, c.st.fi, c.st.la, .slice (some ⟨hb, 0, none⟩) bN kH, .slice (some ⟨jb, 0, none⟩) bN kJ, .slice (some ⟨bb, 0, none⟩) bN kB, c.ck, .slice eA eN kE] 68 ∧ CrW lo hi W' c (⟨⟨sA, sN, kS⟩, ⟨some ⟨hb, 0, none⟩, bN, kH⟩, ⟨some ⟨jb, 0, none⟩, bN, kJ⟩, ⟨some ⟨bb, 0, none⟩, bN, kB⟩, ⟨eA, eN, kE⟩⟩ : CrL) ∧ hi ≤ W'.heap.size ∧ CellsAt W' hb (i * 12) h.cs ∧ CellsAt W' jb i [.slice A' n' cap'] ∧ IntsW lo hi W' A' n' cap' jl ∧ CellsAt W' bb i [bz] ∧ Below w.heap.size w W') (cwAV c w.heap.size i bN sN kS hb kH jb kJ bb kB eN kE sA eA h A' n' cap' bz) (fun _ => 0) [] (by kernel_rfl) (by kernel_rfl) ?_ ?_ ?_
      (.still rfl ?a0 <| .still rfl ?a1 <| .still rfl ?a2 <| .still rfl ?a3 <| .still rfl ?a4 <| .still rfl ?a5 <| .still rfl ?a6 <| .grow rfl ?a7 <| .still rfl ?a8 <| .still rfl ?a9 <| .still rfl ?a10 <| .still rfl ?a11 <| .still rfl ?a12 <| .still rfl ?a13 <| .still rfl ?a14 <| .still rfl ?a15 <| .still rfl ?a16 <| .still rfl ?a17 <| .still rfl ?a18 <| .still rfl ?a19 <| .still rfl ?a20 <| .still rfl ?a21 <| .still rfl ?a22 <| .still rfl ?a23 <| .still rfl ?a24 <| .still rfl ?a25 <| .still rfl ?a26 <| .still rfl ?a27 <| .still rfl ?a28 <| .nil) ?_ ?_
     · exact trivial
     · exact trivial
     · exact ⟨hs, hW.drew, hhi, hhc, hjc, hI, hbc, hB.drew⟩
     case a0 | a2 | a4 | a5 | a8 | a9 | a10 | a11 | a12 | a13 | a14 | a15 | a16 | a17 | a18 | a19 | a20 | a21 | a22 | a23 | a24 | a25 | a26 | a27 | a28 =>
      go_light
      intro L σ W' hcl hL hC hw
      try have e3 := wT hw 3 rfl
      try have e4 := wT hw 4 rfl
      try have e7 := wT hw 7 rfl
      try have e8 := wT hw 8 rfl
      try have e9 := wT hw 9 rfl
      try have e10 := wT hw 10 rfl
      try have e11 := wT hw 11 rfl
      try have e12 := wT hw 12 rfl
      try have e13 := wT hw 13 rfl
      try have e14 := wT hw 14 rfl
      try have e15 := wT hw 15 rfl
      try have e16 := wT hw 16 rfl
      try have e17 := wT hw 17 rfl
      try have e18 := wT hw 18 rfl
      try have e19 := wT hw 19 rfl
      try have e20 := wT hw 20 rfl
      try have e21 := wT hw 21 rfl
      try have e22 := wT hw 22 rfl
      try have e23 := wT hw 23 rfl
      try have e24 := wT hw 24 rfl
      try have e25 := wT hw 25 rfl
      try have e26 := wT hw 26 rfl
      try have e27 := wT hw 27 rfl
      exact zcrewC2
     case a1 | a3 =>
      go_light
      intro L σ W' hcl hL hC hw
      try have e0 := wT hw 0 rfl
      try have e2 := wT hw 2 rfl
      have ks := hC.1.cell
      exact zcrewC2
     case a6 =>
      exact zcrewC0
     case a7 =>
      go_light
      intro L σ W' hcl hL hC hw
      have e1 := wV hw 1 rfl
      have e6 := wV hw 6 rfl
      clear hw
      have HC := Lib.hid hC
      clear hC
      clear hcl hL
      refine OpGoes.go fun K hK => ?_
      go_simp
      obtain ⟨hs, hW, hhi, hhc, hjc, hI, hbc, hB⟩ := HC.out
      refine (sfits_is c.st sA sN kS lo hi h false _ hW.s hhi hm1 HP.out hfit).mono ?_
      exact zcrewC1
     ·
      exact zcrewC4
     ·
      exact zcrewC3
    case rest =>
     obtain ⟨hs, hB, rfl⟩ := hcut
     go_wp2
     go_ret
     exact .mk (by rw [crOk_at (i := i) (by rw [E2.out]; exact hlt) (by rw [HAT.out, hfit]; rfl)]; rfl) hB
   ·
    cases hjob : jobsOk jl
    ·
     go_upto_region 7 with fail
     clear ks
     go_cut [76] (fun u76 W' => BoxAt W' w.heap.size #[c.st.rd, c.st.mo, .slice sA sN kS, c.st.fi, c.st.la, .slice (some ⟨hb, 0, none⟩) bN kH, .slice (some ⟨jb, 0, none⟩) bN kJ, .slice (some ⟨bb, 0, none⟩) bN kB, c.ck, .slice eA eN kE] 68 ∧ Below w.heap.size w W' ∧ u76 = .bool true)
     case first =>
      refine wp_region2v (fun w w' => Below w.heap.size w w') (fun _ _ h => h.size) (fun _ => Below.refl _ _) (fun L W' => BoxAt W' w.heap.size #[c.st.rd, c.st.mo, .slice sA sN kS, c.st.fi, c.st.la, .slice (some ⟨hb, 0, none⟩) bN kH, .slice (some ⟨jb, 0, none⟩) bN kJ, .slice (some ⟨bb, 0, none⟩) bN kB, c.ck, .slice eA eN kE] 68 ∧ CrW lo hi W' c (⟨⟨sA, sN, kS⟩, ⟨some ⟨hb, 0, none⟩, bN, kH⟩, ⟨some ⟨jb, 0, none⟩, bN, kJ⟩, ⟨some ⟨bb, 0, none⟩, bN, kB⟩, ⟨eA, eN, kE⟩⟩ : CrL) ∧ hi ≤ W'.heap.size ∧ CellsAt W' hb (i * 12) h.cs ∧ CellsAt W' jb i [.slice A' n' cap'] ∧ IntsW lo hi W' A' n' cap' jl ∧ CellsAt W' bb i [bz] ∧ Below w.heap.size w W') (cwBV c w.heap.size i bN sN kS hb kH jb kJ bb kB eN kE sA eA h A' n' cap' bz) (fun _ => 0) [] (by kernel_rfl) (by kernel_rfl) ?_ ?_ ?_
       (.still rfl ?a0 <| .still rfl ?a1 <| .still rfl ?a2 <| .still rfl ?a3 <| .still rfl ?a4 <| .still rfl ?a5 <| .still rfl ?a6 <| .grow rfl ?a7 <| .still rfl ?a8 <| .still rfl ?a9 <| .still rfl ?a10 <| .still rfl ?a11 <| .still rfl ?a12 <| .still rfl ?a13 <| .still rfl ?a14 <| .grow rfl ?a15 <| .still rfl ?a16 <| .still rfl ?a17 <| .still rfl ?a18 <| .still rfl ?a19 <| .still rfl ?a20 <| .still rfl ?a21 <| .still rfl ?a22 <| .still rfl ?a23 <| .still rfl ?a24 <| .still rfl ?a25 <| .still rfl ?a26 <| .still rfl ?a27 <| .still rfl ?a28 <| .nil) ?_ ?_
      · exact trivial
      · exact trivial
      · exact ⟨hs, hW.drew, hhi, hhc, hjc, hI, hbc, hB.drew⟩
      case a0 | a2 | a4 | a5 | a8 | a9 | a10 | a12 | a13 | a16 | a17 | a18 | a19 | a20 | a21 | a22 | a23 | a24 | a25 | a26 | a27 | a28 =>
       go_light
       intro L σ W' hcl hL hC hw
       try have e3 := wT hw 3 rfl
       try have e4 := wT hw 4 rfl
       try have e7 := wT hw 7 rfl
       try have e8 := wT hw 8 rfl
       try have e9 := wT hw 9 rfl
       try have e11 := wT hw 11 rfl
       try have e12 := wT hw 12 rfl
       try have e15 := wT hw 15 rfl
       try have e16 := wT hw 16 rfl
       try have e17 := wT hw 17 rfl
       try have e18 := wT hw 18 rfl
       try have e19 := wT hw 19 rfl
       try have e20 := wT hw 20 rfl
       try have e21 := wT hw 21 rfl
       try have e22 := wT hw 22 rfl
       try have e23 := wT hw 23 rfl
       try have e24 := wT hw 24 rfl
       try have e25 := wT hw 25 rfl
       try have e26 := wT hw 26 rfl
       try have e27 := wT hw 27 rfl
       exact zcrewC2
      case a1 | a3 | a11 =>
       go_light
       intro L σ W' hcl hL hC hw
       try have e0 := wT hw 0 rfl
       try have e2 := wT hw 2 rfl
       try have e9 := wT hw 9 rfl
       try have e10 := wT hw 10 rfl
       have ks := hC.1.cell
       exact zcrewC2
      case a6 =>
       exact zcrewC0
      case a14 =>
       go_light
       intro L σ W' hcl hL hC hw
       have e9 := wV hw 9 rfl
       have e13 := wV hw 13 rfl
       have dj := hC.2.2.2.2.1 0 _ rfl
       rw [Nat.add_zero] at dj
       exact zcrewC2
      case a7 =>
       go_light
       intro L σ W' hcl hL hC hw
       have e1 := wV hw 1 rfl
       have e6 := wV hw 6 rfl
       clear hw
       have HC := Lib.hid hC
       clear hC
       clear hcl hL
       refine OpGoes.go fun K hK => ?_
       go_simp
       obtain ⟨hs, hW, hhi, hhc, hjc, hI, hbc, hB⟩ := HC.out
       refine (sfits_is c.st sA sN kS lo hi h true _ hW.s hhi hm1 HP.out hfit).mono ?_
       exact zcrewC1
      case a15 =>
       go_light
       intro L σ W' hcl hL hC hw
       have e9 := wV hw 9 rfl
       have e14 := wV hw 14 rfl
       clear hw
       have HC := Lib.hid hC
       clear hC
       clear hcl hL
       refine OpGoes.go fun K hK => ?_
       go_simp
       obtain ⟨hs, hW, hhi, hhc, hjc, hI, hbc, hB⟩ := HC.out
       refine (l10Jobs_is jl A' n' cap' lo hi false _ hI hhi hn' hjob).mono ?_
       exact zcrewC1
      ·
       exact zcrewC4
      ·
       exact zcrewC3
     case rest =>
      obtain ⟨hs, hB, rfl⟩ := hcut
      go_wp2
      go_ret
      exact .mk (by rw [crOk_at (i := i) (by rw [E2.out]; exact hlt) (by rw [HAT.out, hjob]; simp)]; rfl) hB
    ·
     cases hbeg : inB bz 0 c.ck
     ·
      go_upto_region 7 with fail
      clear ks
      go_cut [76] (fun u76 W' => BoxAt W' w.heap.size #[c.st.rd, c.st.mo, .slice sA sN kS, c.st.fi, c.st.la, .slice (some ⟨hb, 0, none⟩) bN kH, .slice (some ⟨jb, 0, none⟩) bN kJ, .slice (some ⟨bb, 0, none⟩) bN kB, c.ck, .slice eA eN kE] 68 ∧ Below w.heap.size w W' ∧ u76 = .bool true)
      case first =>
       refine wp_region2v (fun w w' => Below w.heap.size w w') (fun _ _ h => h.size) (fun _ => Below.refl _ _) (fun L W' => BoxAt W' w.heap.size #[c.st.rd, c.st.mo, .slice sA sN kS, c.st.fi, c.st.la, .slice (some ⟨hb, 0, none⟩) bN kH, .slice (some ⟨jb, 0, none⟩) bN kJ, .slice (some ⟨bb, 0, none⟩) bN kB, c.ck, .slice eA eN kE] 68 ∧ CrW lo hi W' c (⟨⟨sA, sN, kS⟩, ⟨some ⟨hb, 0, none⟩, bN, kH⟩, ⟨some ⟨jb, 0, none⟩, bN, kJ⟩, ⟨some ⟨bb, 0, none⟩, bN, kB⟩, ⟨eA, eN, kE⟩⟩ : CrL) ∧ hi ≤ W'.heap.size ∧ CellsAt W' hb (i * 12) h.cs ∧ CellsAt W' jb i [.slice A' n' cap'] ∧ IntsW lo hi W' A' n' cap' jl ∧ CellsAt W' bb i [bz] ∧ Below w.heap.size w W') (cwCV c w.heap.size i bN sN kS hb kH jb kJ bb kB eN kE sA eA h A' n' cap' bz) (fun _ => 0) [] (by kernel_rfl) (by kernel_rfl) ?_ ?_ ?_
        (.still rfl ?a0 <| .still rfl ?a1 <| .still rfl ?a2 <| .still rfl ?a3 <| .still rfl ?a4 <| .still rfl ?a5 <| .still rfl ?a6 <| .grow rfl ?a7 <| .still rfl ?a8 <| .still rfl ?a9 <| .still rfl ?a10 <| .still rfl ?a11 <| .still rfl ?a12 <| .still rfl ?a13 <| .still rfl ?a14 <| .grow rfl ?a15 <| .still rfl ?a16 <| .still rfl ?a17 <| .still rfl ?a18 <| .still rfl ?a19 <| .still rfl ?a20 <| .still rfl ?a21 <| .still rfl ?a22 <| .still rfl ?a23 <| .still rfl ?a24 <| .still rfl ?a25 <| .grow rfl ?a26 <| .still rfl ?a27 <| .still rfl ?a28 <| .nil) ?_ ?_
       · exact trivial
       · exact trivial
       · exact ⟨hs, hW.drew, hhi, hhc, hjc, hI, hbc, hB.drew⟩
       case a0 | a2 | a4 | a5 | a8 | a9 | a10 | a12 | a13 | a16 | a17 | a18 | a19 | a21 | a22 | a24 | a27 | a28 =>
        go_light
        intro L σ W' hcl hL hC hw
        try have e3 := wT hw 3 rfl
        try have e4 := wT hw 4 rfl
        try have e7 := wT hw 7 rfl
        try have e8 := wT hw 8 rfl
        try have e9 := wT hw 9 rfl
        try have e11 := wT hw 11 rfl
        try have e12 := wT hw 12 rfl
        try have e15 := wT hw 15 rfl
        try have e16 := wT hw 16 rfl
        try have e17 := wT hw 17 rfl
        try have e18 := wT hw 18 rfl
        try have e20 := wT hw 20 rfl
        try have e21 := wT hw 21 rfl
        try have e26 := wT hw 26 rfl
        try have e27 := wT hw 27 rfl
        exact zcrewC2
       case a1 | a3 | a11 | a20 | a25 =>
        go_light
        intro L σ W' hcl hL hC hw
        try have e0 := wT hw 0 rfl
        try have e2 := wT hw 2 rfl
        try have e9 := wT hw 9 rfl
        try have e10 := wT hw 10 rfl
        try have e18 := wT hw 18 rfl
        try have e19 := wT hw 19 rfl
        try have e24 := wT hw 24 rfl
        have ks := hC.1.cell
        exact zcrewC2
       case a6 =>
        exact zcrewC0
       case a14 =>
        go_light
        intro L σ W' hcl hL hC hw
        have e9 := wV hw 9 rfl
        have e13 := wV hw 13 rfl
        have dj := hC.2.2.2.2.1 0 _ rfl
        rw [Nat.add_zero] at dj
        exact zcrewC2
       case a23 =>
        go_light
        intro L σ W' hcl hL hC hw
        have e18 := wV hw 18 rfl
        have e22 := wV hw 22 rfl
        have db := hC.2.2.2.2.2.2.1 0 _ rfl
        rw [Nat.add_zero] at db
        exact zcrewC2
       case a7 =>
        go_light
        intro L σ W' hcl hL hC hw
        have e1 := wV hw 1 rfl
        have e6 := wV hw 6 rfl
        clear hw
        have HC := Lib.hid hC
        clear hC
        clear hcl hL
        refine OpGoes.go fun K hK => ?_
        go_simp
        obtain ⟨hs, hW, hhi, hhc, hjc, hI, hbc, hB⟩ := HC.out
        refine (sfits_is c.st sA sN kS lo hi h true _ hW.s hhi hm1 HP.out hfit).mono ?_
        exact zcrewC1
       case a15 =>
        go_light
        intro L σ W' hcl hL hC hw
        have e9 := wV hw 9 rfl
        have e14 := wV hw 14 rfl
        clear hw
        have HC := Lib.hid hC
        clear hC
        clear hcl hL
        refine OpGoes.go fun K hK => ?_
        go_simp
        obtain ⟨hs, hW, hhi, hhc, hjc, hI, hbc, hB⟩ := HC.out
        refine (l10Jobs_is jl A' n' cap' lo hi true _ hI hhi hn' hjob).mono ?_
        exact zcrewC1
       case a26 =>
        go_light
        intro L σ W' hcl hL hC hw
        have e18 := wV hw 18 rfl
        have e23 := wV hw 23 rfl
        have e25 := wV hw 25 rfl
        clear hw
        have HC := Lib.hid hC
        clear hC
        clear hcl hL
        refine OpGoes.go fun K hK => ?_
        go_simp
        obtain ⟨hs, hW, hhi, hhc, hjc, hI, hbc, hB⟩ := HC.out
        refine (l1In_is bz 0 c.ck false _ hbeg).mono ?_
        exact zcrewC1
       ·
        exact zcrewC4
       ·
        exact zcrewC3
      case rest =>
       obtain ⟨hs, hB, rfl⟩ := hcut
       go_wp2
       go_ret
       exact .mk (by rw [crOk_at (i := i) (by rw [E2.out]; exact hlt) (by rw [HAT.out, hbeg]; simp)]; rfl) hB
     ·
      go_upto_region 7 with fail
      clear ks
      go_cut [76] (fun u76 W' => BoxAt W' w.heap.size #[c.st.rd, c.st.mo, .slice sA sN kS, c.st.fi, c.st.la, .slice (some ⟨hb, 0, none⟩) bN kH, .slice (some ⟨jb, 0, none⟩) bN kJ, .slice (some ⟨bb, 0, none⟩) bN kB, c.ck, .slice eA eN kE] 68 ∧ Below w.heap.size w W' ∧ u76 = .bool false)
      case first =>
       refine wp_region2v (fun w w' => Below w.heap.size w w') (fun _ _ h => h.size) (fun _ => Below.refl _ _) (fun L W' => BoxAt W' w.heap.size #[c.st.rd, c.st.mo, .slice sA sN kS, c.st.fi, c.st.la, .slice (some ⟨hb, 0, none⟩) bN kH, .slice (some ⟨jb, 0, none⟩) bN kJ, .slice (some ⟨bb, 0, none⟩) bN kB, c.ck, .slice eA eN kE] 68 ∧ CrW lo hi W' c (⟨⟨sA, sN, kS⟩, ⟨some ⟨hb, 0, none⟩, bN, kH⟩, ⟨some ⟨jb, 0, none⟩, bN, kJ⟩, ⟨some ⟨bb, 0, none⟩, bN, kB⟩, ⟨eA, eN, kE⟩⟩ : CrL) ∧ hi ≤ W'.heap.size ∧ CellsAt W' hb (i * 12) h.cs ∧ CellsAt W' jb i [.slice A' n' cap'] ∧ IntsW lo hi W' A' n' cap' jl ∧ CellsAt W' bb i [bz] ∧ Below w.heap.size w W') (cwDV c w.heap.size i bN sN kS hb kH jb kJ bb kB eN kE sA eA h A' n' cap' bz) (fun _ => 0) [] (by kernel_rfl) (by kernel_rfl) ?_ ?_ ?_
        (.still rfl ?a0 <| .still rfl ?a1 <| .still rfl ?a2 <| .still rfl ?a3 <| .still rfl ?a4 <| .still rfl ?a5 <| .still rfl ?a6 <| .grow rfl ?a7 <| .still rfl ?a8 <| .still rfl ?a9 <| .still rfl ?a10 <| .still rfl ?a11 <| .still rfl ?a12 <| .still rfl ?a13 <| .still rfl ?a14 <| .grow rfl ?a15 <| .still rfl ?a16 <| .still rfl ?a17 <| .still rfl ?a18 <| .still rfl ?a19 <| .still rfl ?a20 <| .still rfl ?a21 <| .still rfl ?a22 <| .still rfl ?a23 <| .still rfl ?a24 <| .still rfl ?a25 <| .grow rfl ?a26 <| .still rfl ?a27 <| .still rfl ?a28 <| .nil) ?_ ?_
       · exact trivial
       · exact trivial
       · exact ⟨hs, hW.drew, hhi, hhc, hjc, hI, hbc, hB.drew⟩
       case a0 | a2 | a4 | a5 | a8 | a9 | a10 | a12 | a13 | a16 | a17 | a18 | a19 | a21 | a22 | a24 | a27 | a28 =>
        go_light
        intro L σ W' hcl hL hC hw
        try have e3 := wT hw 3 rfl
        try have e4 := wT hw 4 rfl
        try have e7 := wT hw 7 rfl
        try have e8 := wT hw 8 rfl
        try have e9 := wT hw 9 rfl
        try have e11 := wT hw 11 rfl
        try have e12 := wT hw 12 rfl
        try have e15 := wT hw 15 rfl
        try have e16 := wT hw 16 rfl
        try have e17 := wT hw 17 rfl
        try have e18 := wT hw 18 rfl
        try have e20 := wT hw 20 rfl
        try have e21 := wT hw 21 rfl
        try have e26 := wT hw 26 rfl
        try have e27 := wT hw 27 rfl
        exact zcrewC2
       case a1 | a3 | a11 | a20 | a25 =>
        go_light
        intro L σ W' hcl hL hC hw
        try have e0 := wT hw 0 rfl
        try have e2 := wT hw 2 rfl
        try have e9 := wT hw 9 rfl
        try have e10 := wT hw 10 rfl
        try have e18 := wT hw 18 rfl
        try have e19 := wT hw 19 rfl
        try have e24 := wT hw 24 rfl
        have ks := hC.1.cell
        exact zcrewC2
       case a6 =>
        exact zcrewC0
       case a14 =>
        go_light
        intro L σ W' hcl hL hC hw
        have e9 := wV hw 9 rfl
        have e13 := wV hw 13 rfl
        have dj := hC.2.2.2.2.1 0 _ rfl
        rw [Nat.add_zero] at dj
        exact zcrewC2
       case a23 =>
        go_light
        intro L σ W' hcl hL hC hw
        have e18 := wV hw 18 rfl
        have e22 := wV hw 22 rfl
        have db := hC.2.2.2.2.2.2.1 0 _ rfl
        rw [Nat.add_zero] at db
        exact zcrewC2
       case a7 =>
        go_light
        intro L σ W' hcl hL hC hw
        have e1 := wV hw 1 rfl
        have e6 := wV hw 6 rfl
        clear hw
        have HC := Lib.hid hC
        clear hC
        clear hcl hL
        refine OpGoes.go fun K hK => ?_
        go_simp
        obtain ⟨hs, hW, hhi, hhc, hjc, hI, hbc, hB⟩ := HC.out
        refine (sfits_is c.st sA sN kS lo hi h true _ hW.s hhi hm1 HP.out hfit).mono ?_
        exact zcrewC1
       case a15 =>
        go_light
        intro L σ W' hcl hL hC hw
        have e9 := wV hw 9 rfl
        have e14 := wV hw 14 rfl
        clear hw
        have HC := Lib.hid hC
        clear hC
        clear hcl hL
        refine OpGoes.go fun K hK => ?_
        go_simp
        obtain ⟨hs, hW, hhi, hhc, hjc, hI, hbc, hB⟩ := HC.out
        refine (l10Jobs_is jl A' n' cap' lo hi true _ hI hhi hn' hjob).mono ?_
        exact zcrewC1
       case a26 =>
        go_light
        intro L σ W' hcl hL hC hw
        have e18 := wV hw 18 rfl
        have e23 := wV hw 23 rfl
        have e25 := wV hw 25 rfl
        clear hw
        have HC := Lib.hid hC
        clear hC
        clear hcl hL
        refine OpGoes.go fun K hK => ?_
        go_simp
        obtain ⟨hs, hW, hhi, hhc, hjc, hI, hbc, hB⟩ := HC.out
        refine (l1In_is bz 0 c.ck true _ hbeg).mono ?_
        exact zcrewC1
       ·
        exact zcrewC4
       ·
        exact zcrewC3
      case rest =>
       obtain ⟨hs, hB, rfl⟩ := hcut
       have HOK := Lib.hid (show crAt c i = true by rw [HAT.out, hfit, hjob, hbeg]; rfl)
       clear hfit hjob hbeg
       go_wp2
       go_roundw
       case rel =>
        refine ⟨i + 1, by omega, by go_num, hB, hs, fun j hj => ?_⟩
        by_cases hji : j < i
        · exact HAL.out j hji
        ·
         obtain rfl : j = i := by omega
         exact HOK.out
       case measure => simp [intOf]; omega
  ·
   have g1 : ¬ (i : Int) < (bN : Int) := by omega
   obtain rfl : bN = i := by omega
   have HOK := Lib.hid (show crOk c = true by
    simp only [crOk, HH.out, Bool.true_and, List.all_eq_true]
    intro j hj
    rw [E2.out] at hj
    exact HAL.out j (List.mem_range.1 hj))
   go_wp2
   go_ret
   exact .mk (by rw [HOK.out]; rfl) hB

end Go.Proofs.YtiiaimjlohpemaaGreat

/-
  Crews in the laws' hands: read, measured, compared, copied.
-/
import Derived.Test.YtomfaabifpndbaaGreatCrewB
import Derived.Test.YtomfaabifpndbaaGreatLawB
import Derived.Test.YtomfaabifpndbaaGreatHanI
namespace Go.Proofs.YtomfaabifpndbaaGreat
set_option linter.unusedSimpArgs false
set_option linter.unusedVariables false
open Go.RowKit
set_option linter.unusedVariables false
attribute [local go_sem ↓] Go.wp_at_zero Go.wp_at_succ

/-! ### Read -/

def HdE (_N : Nat) (w : World) (b o : Nat) (h : Hd) : Prop := ∀ j u, h.cs[j]? = some u → w.cell? ⟨b, o + j, none⟩ = some u
theorem HdE.kept : Kept HdE := fun _ _ _ _ _ _ hb hs h => fun j u hu => hs.cell hb (h j u hu)
/-- Hands in a slice, to be read. -/
def HdsR (w : World) (A : Option Addr) (n : Nat) (l : List Hd) : Prop := SlE HdE 12 0 w A n l
theorem HdsR.below {w w' : World} {A : Option Addr} {n : Nat} {l : List Hd} (h : HdsR w A n l) (hb : Below w.heap.size w w') : HdsR w' A n l := SlE.below HdE.kept h hb
theorem HdsW.r {lo hi : Nat} {w : World} {A : Option Addr} {n cap : Nat} {l : List Hd} (h : HdsW lo hi w A n cap l) : HdsR w A n l := SlW.r Hd.cs_len (fun _ _ _ hc => hc) h
def LiE (N : Nat) (w : World) (b o : Nat) (l : List Int) : Prop := ∃ A n cap, w.cell? ⟨b, o, none⟩ = some (.slice A n cap) ∧ n ≤ maxLen ∧ SlE IE 1 N w A n l
theorem LiE.kept : Kept LiE := fun _ _ _ _ _ _ hb hs ⟨A, n, cap, h0, hm, hp⟩ => ⟨A, n, cap, hs.cell hb h0, hm, SlE.keep IE.kept hp hs⟩
/-- Lists in a slice, to be read. -/
def LisR (w : World) (A : Option Addr) (n : Nat) (L : List (List Int)) : Prop := SlE LiE 1 0 w A n L
theorem LisR.below {w w' : World} {A : Option Addr} {n : Nat} {L : List (List Int)} (h : LisR w A n L) (hb : Below w.heap.size w w') : LisR w' A n L := SlE.below LiE.kept h hb
theorem SlW.le {α : Type} {f : α → List Value} {k : Nat} {e : TypeId} {lo hi : Nat} {w : World} {A : Option Addr} {n cap : Nat} {l : List α} (h : SlW f k e lo hi w A n cap l) : n ≤ maxLen := by
  rcases h.2 with ⟨_, h1, _⟩ | ⟨b, _, _, ho⟩
  · omega
  · exact Nat.le_trans ho.2.2.1 ho.2.2.2.1
theorem ListsW.r {lo hi : Nat} {w : World} {A : Option Addr} {n cap : Nat} {L : List (List Int)} (h : ListsW lo hi w A n cap L) : LisR w A n L := by
  refine ⟨h.len, fun hn => ?_⟩
  obtain ⟨b0, l0, A0, n0, k0, e0, _, _, _, _, _⟩ := h.at_ hn
  refine ⟨b0, 0, e0, Nat.zero_le _, fun i x hi => ?_⟩
  have hin : i < n := by have := (List.getElem?_eq_some_iff.1 hi).1; have := h.len; omega
  obtain ⟨b1, l1, A1, n1, k1, e1, _, _, hl1, hc1, hW⟩ := h.at_ hin
  rw [e0] at e1
  injection e1 with e1
  injection e1 with e1
  subst e1
  rw [hi] at hl1
  injection hl1 with hl1
  subst hl1
  exact ⟨A1, n1, k1, by simpa using hc1, SlW.le hW, IntsW.r hW⟩
/-- A crew that can be read. -/
structure CrR (w : World) (c : Cr) (y : CrL) : Prop where
  s : RgsR 0 w y.s.A y.s.n c.st.rs
  h : HdsR w y.h.A y.h.n c.hs
  j : LisR w y.j.A y.j.n c.js
  b : IntsR w y.b.A y.b.n c.bs
  e : EvsR w y.e.A y.e.n c.es
theorem CrR.below {w w' : World} {c : Cr} {y : CrL} (h : CrR w c y) (hb : Below w.heap.size w w') : CrR w' c y := ⟨h.s.below hb, h.h.below hb, h.j.below hb, h.b.below hb, h.e.below hb⟩
theorem CrW.r {lo hi : Nat} {w : World} {c : Cr} {y : CrL} (h : CrW lo hi w c y) : CrR w c y := ⟨h.s.r, HdsW.r h.h, h.j.r, IntsW.r h.b, EvsW.r h.e⟩

/-! ### How much there is -/

def sumLs : List (List Int) → Nat
  | [] => 0
  | r :: L => r.length + sumLs L
def szLs (left : Int) : List (List Int) → Int
  | [] => left
  | r :: L => if (r.length : Int) ≤ left then szLs (left - r.length) L else -1
def szLL (left : Int) (L : List (List Int)) : Int := if (L.length : Int) ≤ left then szLs (left - L.length) L else -1
theorem szLs_or : ∀ (L : List (List Int)) (left : Int), 0 ≤ left → szLs left L = -1 ∨ (0 ≤ szLs left L ∧ szLs left L ≤ left ∧ (sumLs L : Int) ≤ left)
  | [], left, h => .inr ⟨h, Int.le_refl _, by simpa [sumLs] using h⟩
  | r :: L, left, h => by
    unfold szLs
    split
    · rcases szLs_or L (left - r.length) (by omega) with h1 | ⟨h1, h2, h3⟩
      · exact .inl h1
      · exact .inr ⟨h1, by omega, by simp only [sumLs]; omega⟩
    · exact .inl rfl
theorem szLL_or {left : Int} (L : List (List Int)) (h : 0 ≤ left) : szLL left L = -1 ∨ (0 ≤ szLL left L ∧ szLL left L ≤ left ∧ (sumLs L : Int) + L.length ≤ left) := by
  unfold szLL
  split
  · rcases szLs_or L (left - L.length) (by omega) with h1 | ⟨h1, h2, h3⟩
    · exact .inl h1
    · exact .inr ⟨h1, by omega, by omega⟩
  · exact .inl rfl
theorem sumLs_mem : ∀ {L : List (List Int)} {r : List Int}, r ∈ L → r.length ≤ sumLs L
  | r' :: L, r, h => by
    rcases List.mem_cons.1 h with rfl | h
    · simp [sumLs]
    · have := sumLs_mem h
      simp only [sumLs]; omega
theorem szLs_drop {L : List (List Int)} {i : Nat} {r : List Int} (h : L[i]? = some r) (left : Int) : szLs left (L.drop i) = if (r.length : Int) ≤ left then szLs (left - r.length) (L.drop (i + 1)) else -1 := by
  obtain ⟨hi, e⟩ := List.getElem?_eq_some_iff.1 h
  rw [List.drop_eq_getElem_cons hi, e]
  rfl

set_option maxHeartbeats 400000 in
theorem szHandS_any (A : Option Addr) (n cap : Nat) (left : Int) (w : World) (hn : n ≤ maxLen) (h0 : 0 ≤ left) (h1 : left ≤ 1048576) :
    Calls Tryz.prog 43 #[.slice A n cap, .int .i64 left] w (RetBelow (.int .i64 (szI left n)) w) := by
  unfold maxLen at hn
  by_cases h : (n : Int) ≤ left
  all_goals
    go_enter Tryz.func43, Tryz.ntmps43
    go_wp2
    go_ret
    exact .mk (by simp [szI, *] <;> omega) (Below.refl _ _)

set_option maxHeartbeats 1000000 in
theorem szInt64SS_any (A : Option Addr) (n cap : Nat) (L : List (List Int)) (left : Int) (w : World) (hr : LisR w A n L) (hn : n ≤ maxLen) (h0 : 0 ≤ left) (h1 : left ≤ 1048576) :
    Calls Tryz.prog 5 #[.slice A n cap, .int .i64 left] w (RetBelow (.int .i64 (szLL left L)) w) := by
  have hl : L.length = n := hr.1
  unfold maxLen at hn
  by_cases h : (n : Int) ≤ left
  · have hz := Lib.hid (show szLL left L = szLs (left - n) L by unfold szLL; rw [if_pos (by omega), hl])
    go_enter Tryz.func5, Tryz.ntmps5
    go_wp2
    go_loopw [1, 5] (fun s1 s5 W => ∃ (i : Nat) (z : Int), i ≤ n ∧ 0 ≤ z ∧ z ≤ 1048576 ∧ s1 = .int .i64 z ∧ s5 = .int .i64 i ∧ Below w.heap.size w W ∧ szLs (left - n) L = szLs z (L.drop i)) (fun _ s5 _ => n - (intOf s5).toNat)
    case atStart => exact ⟨0, left - n, Nat.zero_le _, by omega, by omega, by go_num, rfl, Below.refl _ _, by simp⟩
    case round =>
      obtain ⟨i, z, hi, hz0, hz1, rfl, rfl, hB, hs⟩ := hrel
      have HS := Lib.hid hs; clear hs
      by_cases hlt : i < n
      · obtain ⟨b, o, r, rfl, _, hri, A', n', cap', c0, hm, hp⟩ := SlE.at_ (SlE.keep LiE.kept hr (fun j _ hj => hB.block j hj)) hlt
        have h1 : (i : Int) < (n : Int) := by omega
        have h2 : (0 : Int) ≤ (i : Int) := by omega
        rw [Nat.mul_one] at c0
        have hpl : r.length = n' := hp.1
        have HR := Lib.hid hri; clear hri
        go_wp2_with fail
        refine (szInt64S_any A' n' cap' z _ hm hz0 hz1).mono ?_
        rintro e w1 ⟨rfl, hb1⟩
        clear c0
        have hd := szLs_drop HR.out z
        by_cases hle : (n' : Int) ≤ z
        · have e1 : szI z n' = z - n' := by unfold szI; rw [if_pos hle]
          rw [e1]
          rw [hpl, if_pos hle] at hd
          have HD := Lib.hid hd; clear hd e1
          have h3 : 0 ≤ z - n' := by omega
          have h4 : z - n' ≤ 1048576 := by omega
          generalize z - (n' : Int) = y at *
          go_wp2
          go_roundw
          case rel => exact ⟨i + 1, y, by omega, h3, h4, by go_num, by go_num, bstep hB hB.size hb1, by rw [HS.out, HD.out]⟩
          case measure => simp [intOf]; omega
        · have e1 : szI z n' = -1 := by unfold szI; rw [if_neg hle]
          rw [e1]
          rw [hpl, if_neg hle] at hd
          have HD := Lib.hid hd; clear hd e1
          go_wp2
          go_ret
          exact .mk (by rw [hz.out, HS.out, HD.out]; rfl) (bstep hB hB.size hb1)
      · have h1 : ¬ (i : Int) < (n : Int) := by omega
        go_wp2
        go_ret
        exact .mk (by rw [hz.out, HS.out, List.drop_eq_nil_of_le (by omega)]; rfl) hB
  · have hz := Lib.hid (show szLL left L = -1 by unfold szLL; rw [if_neg (by omega)])
    go_enter Tryz.func5, Tryz.ntmps5
    go_wp2
    go_ret
    exact .mk (by rw [hz.out]; rfl) (Below.refl _ _)

theorem szI_or {left : Int} (n : Nat) (h : 0 ≤ left) : szI left n = -1 ∨ (0 ≤ szI left n ∧ szI left n ≤ left ∧ (n : Int) ≤ left) := by
  unfold szI
  split
  · exact .inr ⟨by omega, by omega, by omega⟩
  · exact .inl rfl
/-- All that its lists hold together is no more than is reckoned with. -/
structure CrSum (c : Cr) : Prop where
  s : sumPs c.st.rs ≤ 1048576
  j : sumLs c.js ≤ 1048576
/-- The lengths of a crew's slices are within Go's. -/
structure CrMx (y : CrL) : Prop where
  s : y.s.n ≤ maxLen
  h : y.h.n ≤ maxLen
  j : y.j.n ≤ maxLen
  b : y.b.n ≤ maxLen
  e : y.e.n ≤ maxLen

set_option maxRecDepth 100000 in
set_option maxHeartbeats 2000000 in
theorem szCrew_d (c : Cr) (y : CrL) (left : Int) (w : World) (hr : CrR w c y) (hm : CrMx y) (h0 : 0 ≤ left) (h1 : left ≤ 1048576) :
    Calls Tryz.prog 14 #[crV c y, .int .i64 left] w (fun e w' => ∃ z : Int, e = .returned (.int .i64 z) ∧ (z = -1 ∨ (0 ≤ z ∧ CrFit c ∧ CrSum c)) ∧ Below w.heap.size w w') := by
  obtain ⟨⟨sA, sN, sK⟩, ⟨hA, hN, hK⟩, ⟨jA, jN, jK⟩, ⟨bA, bN, bK⟩, ⟨eA, eN, eK⟩⟩ := y
  unfold crV
  dsimp only
  have HR := Lib.hid hr
  have HM := Lib.hid hm
  clear hr hm
  go_enter Tryz.func14, Tryz.ntmps14
  go_wp2_with fail
  refine calls_abs (fun W => Below w.heap.size w W ∧ BoxAt W w.heap.size #[.int .i64 c.st.rd, .int .i64 c.st.mo, .slice sA sN sK, .int .i64 c.st.fi, .int .i64 c.st.la, .slice hA hN hK, .slice jA jN jK, .slice bA bN bK, .int .i64 c.ck, .slice eA eN eK] 45) ⟨(Below.refl _ _).alloc (Nat.le_refl _) _, BoxAt.new _ _ _⟩ ?_
  rintro W ⟨hB, hx⟩
  refine (szStore_any c.st sA sN sK left _ (HR.out.s.below hB) HM.out.s h0 h1).mono ?_
  rintro e w1 ⟨rfl, hb⟩
  replace hx := hx.below hb hx.lt
  replace hB := bstep hB hB.size hb
  clear hb
  have hz1 := szL_or c.st.rs h0
  generalize szL left c.st.rs = z1 at *
  rcases hz1 with rfl | ⟨p1, q1, r1⟩
  · go_wp2
    go_ret
    exact ⟨_, rfl, .inl rfl, hB⟩
  have kx := hx.cell
  go_wp2_with fail
  clear kx
  refine (szHandS_any hA hN hK z1 _ HM.out.h p1 (by omega)).mono ?_
  rintro e w2 ⟨rfl, hb⟩
  replace hx := hx.below hb hx.lt
  replace hB := bstep hB hB.size hb
  clear hb
  have hz2 := szI_or hN p1
  generalize szI z1 hN = z2 at *
  rcases hz2 with rfl | ⟨p2, q2, r2⟩
  · go_wp2
    go_ret
    exact ⟨_, rfl, .inl rfl, hB⟩
  have kx := hx.cell
  go_wp2_with fail
  clear kx
  refine (szInt64SS_any jA jN jK c.js z2 _ (HR.out.j.below hB) HM.out.j p2 (by omega)).mono ?_
  rintro e w3 ⟨rfl, hb⟩
  replace hx := hx.below hb hx.lt
  replace hB := bstep hB hB.size hb
  clear hb
  have hz3 := szLL_or c.js p2
  generalize szLL z2 c.js = z3 at *
  rcases hz3 with rfl | ⟨p3, q3, r3⟩
  · go_wp2
    go_ret
    exact ⟨_, rfl, .inl rfl, hB⟩
  have kx := hx.cell
  go_wp2_with fail
  clear kx
  refine (szInt64S_any bA bN bK z3 _ HM.out.b p3 (by omega)).mono ?_
  rintro e w4 ⟨rfl, hb⟩
  replace hx := hx.below hb hx.lt
  replace hB := bstep hB hB.size hb
  clear hb
  have hz4 := szI_or bN p3
  generalize szI z3 bN = z4 at *
  rcases hz4 with rfl | ⟨p4, q4, r4⟩
  · go_wp2
    go_ret
    exact ⟨_, rfl, .inl rfl, hB⟩
  have kx := hx.cell
  go_wp2_with fail
  clear kx
  refine (szEventS_any eA eN eK z4 _ HM.out.e p4 (by omega)).mono ?_
  rintro e w5 ⟨rfl, hb⟩
  replace hx := hx.below hb hx.lt
  replace hB := bstep hB hB.size hb
  clear hb
  have hz5 := szI_or eN p4
  generalize szI z4 eN = z5 at *
  rcases hz5 with rfl | ⟨p5, q5, r5⟩
  · go_wp2
    go_ret
    exact ⟨_, rfl, .inl rfl, hB⟩
  go_wp2
  go_ret
  exact ⟨_, rfl, .inr ⟨p5, by
    have := HR.out.s.1; have := HR.out.h.1; have := HR.out.j.1; have := HR.out.b.1; have := HR.out.e.1
    dsimp only at *
    exact ⟨⟨by omega, fun r hr => by have := sumPs_mem hr; omega, by omega, by omega, fun l hl => by have := sumLs_mem hl; omega, by omega, by omega⟩, by omega, by omega⟩⟩, hB⟩
theorem szCrew_any (c : Cr) (y : CrL) (left : Int) (w : World) (hr : CrR w c y) (hm : CrMx y) (h0 : 0 ≤ left) (h1 : left ≤ 1048576) :
    Calls Tryz.prog 14 #[crV c y, .int .i64 left] w (fun e w' => ∃ z : Int, e = .returned (.int .i64 z) ∧ (z = -1 ∨ (0 ≤ z ∧ CrFit c)) ∧ Below w.heap.size w w') := by
  refine (szCrew_d c y left w hr hm h0 h1).mono ?_
  rintro e w' ⟨z, he, hz, hb⟩
  exact ⟨z, he, hz.imp id fun h => ⟨h.1, h.2.1⟩, hb⟩

/-! ### Compared -/

set_option maxRecDepth 100000 in
set_option maxHeartbeats 2000000 in
theorem eqHandS_same (A B : Option Addr) (n c d : Nat) (l : List Hd) (w : World) (h : HdsR w A n l) (h' : HdsR w B n l) (hn : n ≤ 1048576) :
    Calls Tryz.prog 33 #[.slice A n c, .slice B n d] w (RetBelow (.bool true) w) := by
  go_enter Tryz.func33, Tryz.ntmps33
  go_wp2
  go_loopw [5] (fun s5 W => ∃ i : Nat, i ≤ n ∧ s5 = .int .i64 i ∧ Below w.heap.size w W) (fun s5 _ => n - (intOf s5).toNat)
  case atStart => exact ⟨0, Nat.zero_le _, rfl, Below.refl _ _⟩
  case round =>
    obtain ⟨i, hi, rfl, hB⟩ := hrel
    by_cases hlt : i < n
    · obtain ⟨b, o, p, rfl, _, hp, hc⟩ := SlE.at_ (SlE.keep HdE.kept h (fun j _ hj => hB.block j hj)) hlt
      obtain ⟨b', o', p', rfl, _, hp', hc'⟩ := SlE.at_ (SlE.keep HdE.kept h' (fun j _ hj => hB.block j hj)) hlt
      obtain rfl : p = p' := by rw [hp] at hp'; injection hp'
      have c0 := hc 0 _ rfl
      have c1 := hc 1 _ rfl
      have c2 := hc 2 _ rfl
      have c3 := hc 3 _ rfl
      have c4 := hc 4 _ rfl
      have c5 := hc 5 _ rfl
      have c6 := hc 6 _ rfl
      have c7 := hc 7 _ rfl
      have c8 := hc 8 _ rfl
      have c9 := hc 9 _ rfl
      have c10 := hc 10 _ rfl
      have c11 := hc 11 _ rfl
      rw [Nat.add_zero] at c0
      have d0 := hc' 0 _ rfl
      have d1 := hc' 1 _ rfl
      have d2 := hc' 2 _ rfl
      have d3 := hc' 3 _ rfl
      have d4 := hc' 4 _ rfl
      have d5 := hc' 5 _ rfl
      have d6 := hc' 6 _ rfl
      have d7 := hc' 7 _ rfl
      have d8 := hc' 8 _ rfl
      have d9 := hc' 9 _ rfl
      have d10 := hc' 10 _ rfl
      have d11 := hc' 11 _ rfl
      rw [Nat.add_zero] at d0
      have h1 : (i : Int) < (n : Int) := by omega
      have h2 : (0 : Int) ≤ (i : Int) := by omega
      clear hp hp' hc hc'
      go_wp2
      go_still_tail 8, (by kernel_rfl)
      go_wp2_with fail
      refine (eqHand_same p _).mono ?_
      rintro e w1 ⟨rfl, hb1⟩
      clear c0 d0 c1 d1 c2 d2 c3 d3 c4 d4 c5 d5 c6 d6 c7 d7 c8 d8 c9 d9 c10 d10 c11 d11
      go_wp2
      go_roundw
      case rel => exact ⟨i + 1, by omega, by go_num, bstep (by first | exact hB | exact hB.drew | exact hB.drewN _) (by first | exact hB.size | exact hB.drew.size) hb1⟩
      case measure => simp [intOf]; omega
    · have h1 : ¬ (i : Int) < (n : Int) := by omega
      go_wp2
      go_ret
      exact ⟨rfl, hB⟩

set_option maxRecDepth 100000 in
set_option maxHeartbeats 1000000 in
theorem eqInt64SS_same (A B : Option Addr) (n c d : Nat) (L : List (List Int)) (w : World) (h : LisR w A n L) (h' : LisR w B n L) (hn : n ≤ 1048576) (hm : ∀ l ∈ L, l.length ≤ 1048576) :
    Calls Tryz.prog 10 #[.slice A n c, .slice B n d] w (RetBelow (.bool true) w) := by
  have HM := Lib.hid hm; clear hm
  go_enter Tryz.func10, Tryz.ntmps10
  go_wp2
  go_loopw [5] (fun s5 W => ∃ i : Nat, i ≤ n ∧ s5 = .int .i64 i ∧ Below w.heap.size w W) (fun s5 _ => n - (intOf s5).toNat)
  case atStart => exact ⟨0, Nat.zero_le _, rfl, Below.refl _ _⟩
  case round =>
    obtain ⟨i, hi, rfl, hB⟩ := hrel
    by_cases hlt : i < n
    · obtain ⟨b, o, l, rfl, _, hp, A1, n1, k1, c0, _, h1_⟩ := SlE.at_ (SlE.keep LiE.kept h (fun j _ hj => hB.block j hj)) hlt
      obtain ⟨b', o', l', rfl, _, hp', A2, n2, k2, d0, _, h2_⟩ := SlE.at_ (SlE.keep LiE.kept h' (fun j _ hj => hB.block j hj)) hlt
      obtain rfl : l = l' := by rw [hp] at hp'; injection hp'
      obtain rfl : n1 = n2 := h1_.1.symm.trans h2_.1
      have hle : n1 ≤ 1048576 := by have := HM.out l (List.mem_of_getElem? hp); have := h1_.1; omega
      rw [Nat.mul_one] at c0 d0
      have g1 : (i : Int) < (n : Int) := by omega
      have g2 : (0 : Int) ≤ (i : Int) := by omega
      clear hp hp'
      go_wp2
      go_still_tail 8, (by kernel_rfl)
      go_wp2_with fail
      refine (eqInt64S_same A1 A2 n1 k1 k2 l wr.drew h1_ h2_ (by omega)).mono ?_
      rintro e w1 ⟨rfl, hb1⟩
      clear c0 d0
      go_wp2
      go_roundw
      case rel => exact ⟨i + 1, by omega, by go_num, bstep (by first | exact hB | exact hB.drew | exact hB.drewN _) (by first | exact hB.size | exact hB.drew.size) hb1⟩
      case measure => simp [intOf]; omega
    · have h1 : ¬ (i : Int) < (n : Int) := by omega
      go_wp2
      go_ret
      exact ⟨rfl, hB⟩

/-! ### Copied -/

theorem handl_info : (Tryz.prog.info? 58).map (fun i => (i.zero, i.size)) = some (some (.agg #[.int .i64 0, .int .i64 0, .int .i64 0, .int .i64 0, .bool false, .int .i64 0, .bool false, .int .i64 0, .int .i64 0, .int .i64 0, .bool false, .int .i64 0]), 12) := by kernel_rfl
theorem hand_bytes : (Tryz.prog.info? 58).map (fun i => decide (i.bytes ≤ 128)) = some true := by kernel_rfl
theorem lists_info : (Tryz.prog.info? 28).map (fun i => (i.zero, i.size, i.bytes)) = some (some (.slice none 0 0), 1, 24) := by kernel_rfl
/-- Hands of the call's own are returned. -/
def RetHds (l : List Hd) (w : World) (e : Ending) (w' : World) : Prop := ∃ A cap, e = .returned (.slice A l.length cap) ∧ HdsW w.heap.size w'.heap.size w' A l.length cap l ∧ Below w.heap.size w w'
/-- No two rows lie in one block. -/
def Apart (rows : List Jw) : Prop := ∀ (i j : Nat) (a b : Jw), rows[i]? = some a → rows[j]? = some b → i ≠ j → ∀ g, a.A = some ⟨g, 0, none⟩ → b.A ≠ some ⟨g, 0, none⟩
/-- Lists in a slice of their own, each in a block of its own. -/
def ListsD (lo hi : Nat) (w : World) (A : Option Addr) (n cap : Nat) (L : List (List Int)) : Prop := ∃ rows : List Jw, SlW Jw.cs 1 28 lo hi w A n cap rows ∧ EachW lo hi w rows L ∧ Apart rows
section
variable {lo hi lo' hi' : Nat} {w w' : World} {A : Option Addr} {n cap : Nat} {L : List (List Int)}
theorem ListsD.toW (h : ListsD lo hi w A n cap L) : ListsW lo hi w A n cap L := by obtain ⟨rows, h1, h2, _⟩ := h; exact ⟨rows, h1, h2⟩
theorem ListsD.keep (h : ListsD lo hi w A n cap L) (hs : SameIn lo hi w w') : ListsD lo hi w' A n cap L := by obtain ⟨rows, h1, h2, h3⟩ := h; exact ⟨rows, h1.keep hs, h2.keep hs, h3⟩
theorem ListsD.mono (h : ListsD lo hi w A n cap L) (h1 : lo' ≤ lo) (h2 : hi ≤ hi') : ListsD lo' hi' w A n cap L := by obtain ⟨rows, k1, k2, k3⟩ := h; exact ⟨rows, k1.mono h1 h2, k2.mono h1 h2, k3⟩
theorem Apart.snoc {rows : List Jw} {a : Jw} (h : Apart rows) (hn : ∀ (j : Nat) (b : Jw), rows[j]? = some b → ∀ g, a.A = some ⟨g, 0, none⟩ → b.A ≠ some ⟨g, 0, none⟩) : Apart (rows ++ [a]) := by
  intro i j x y hx hy hij g hg hg2
  have hl : ∀ {k : Nat} {z : Jw}, (rows ++ [a])[k]? = some z → (k < rows.length ∧ rows[k]? = some z) ∨ (k = rows.length ∧ z = a) := fun {k z} hz => by
    by_cases hk : k < rows.length
    · rw [List.getElem?_append_left hk] at hz; exact .inl ⟨hk, hz⟩
    · have := (List.getElem?_eq_some_iff.1 hz).1
      simp at this
      obtain rfl : k = rows.length := by omega
      rw [List.getElem?_append_right (Nat.le_refl _)] at hz
      simp at hz
      exact .inr ⟨rfl, hz.symm⟩
  rcases hl hx with ⟨h1, h2⟩ | ⟨h1, h2⟩
  · rcases hl hy with ⟨h3, h4⟩ | ⟨h3, h4⟩
    · exact h i j x y h2 h4 hij g hg hg2
    · subst h4; exact hn i x h2 g hg2 hg
  · rcases hl hy with ⟨h3, h4⟩ | ⟨h3, h4⟩
    · subst h2; exact hn j y h4 g hg hg2
    · omega
end
/-- Lists of the call's own are returned. -/
def RetLis (L : List (List Int)) (w : World) (e : Ending) (w' : World) : Prop := ∃ A cap, e = .returned (.slice A L.length cap) ∧ ListsD w.heap.size w'.heap.size w' A L.length cap L ∧ Below w.heap.size w w'

set_option maxRecDepth 100000 in
set_option maxHeartbeats 2000000 in
theorem toHandS_any (A : Option Addr) (n cap : Nat) (l : List Hd) (w : World) (h : HdsR w A n l) (hn : n ≤ 1048576) :
    Calls Tryz.prog 46 #[.slice A n cap] w (RetHds l w) := by
  obtain ⟨i0, hi0, hz0, hz1⟩ : ∃ i, Tryz.prog.info? 58 = some i ∧ i.zero = some (.agg #[.int .i64 0, .int .i64 0, .int .i64 0, .int .i64 0, .bool false, .int .i64 0, .bool false, .int .i64 0, .int .i64 0, .int .i64 0, .bool false, .int .i64 0]) ∧ i.size = 12 := by
    have := handl_info
    cases hq : Tryz.prog.info? 58 with
    | none => rw [hq] at this; cases this
    | some i => rw [hq] at this; injection this with this; injection this with h1 h2; exact ⟨i, rfl, h1, h2⟩
  have hz2 : i0.bytes ≤ 128 := by
    have := hand_bytes
    rw [hi0] at this
    injection this with this
    exact of_decide_eq_true this
  have hmk : ∀ W : World, (Instr.makeSlice 27 (.int .i64 (n : Int)) (.int .i64 (n : Int))).run Tryz.prog W = .ok (.slice (some ⟨W.heap.size, 0, none⟩) n n) (W.alloc (.cells (madeCells #[.int .i64 0, .int .i64 0, .int .i64 0, .int .i64 0, .bool false, .int .i64 0, .bool false, .int .i64 0, .int .i64 0, .int .i64 0, .bool false, .int .i64 0] (n * 12)) 58)) := by
    intro W
    have := run_make (P := Tryz.prog) W 27 58 i0 _ Tryz.underlying27 hi0 hz0 .i64 .i64 n n (by omega) (by omega) (by have := Nat.mul_le_mul hz2 hn; omega) (by omega)
    rw [hz1] at this
    simpa [Value.cells] using this
  go_enter Tryz.func46, Tryz.ntmps46
  go_wp2
  have hln := h.1
  obtain rfl : l.length = n := hln
  clear hmk hi0 hz0 hz1 hz2
  go_loopw [4] (fun s4 W => ∃ i : Nat, i ≤ l.length ∧ s4 = .int .i64 i ∧ Below w.heap.size w W ∧ Own Hd.cs 12 58 w.heap.size W w.heap.size l.length l.length (upto .zero l i)) (fun s4 _ => l.length - (intOf s4).toNat)
  case atStart =>
    refine ⟨0, Nat.zero_le _, rfl, (Below.refl _ _).alloc (Nat.le_refl _) _, ?_⟩
    rw [upto_zero]
    exact Own.made Hd.cs_len (by omega) Hd.zero _ rfl (Nat.le_refl _) _ (by unfold maxLen; omega)
  case round =>
    obtain ⟨i, hi, rfl, hB, hO⟩ := hrel
    by_cases hlt : i < l.length
    · obtain ⟨b, o, p, rfl, _, hp, hc⟩ := SlE.at_ (SlE.keep HdE.kept h (fun j _ hj => hB.block j hj)) hlt
      have c0 := hc 0 _ rfl
      have c1 := hc 1 _ rfl
      have c2 := hc 2 _ rfl
      have c3 := hc 3 _ rfl
      have c4 := hc 4 _ rfl
      have c5 := hc 5 _ rfl
      have c6 := hc 6 _ rfl
      have c7 := hc 7 _ rfl
      have c8 := hc 8 _ rfl
      have c9 := hc 9 _ rfl
      have c10 := hc 10 _ rfl
      have c11 := hc 11 _ rfl
      rw [Nat.add_zero] at c0
      have h1 : (i : Int) < (l.length : Int) := by omega
      have h2 : (0 : Int) ≤ (i : Int) := by omega
      have HP := Lib.hid hp; clear hp hc
      go_wp2_with fail
      refine (toHand_any p _).mono ?_
      rintro e w1 ⟨rfl, hb1⟩
      unfold hdV
      clear c0 c1 c2 c3 c4 c5 c6 c7 c8 c9 c10 c11
      have hO1 := Own.below hO hb1
      have d0 := Own.cell_ Hd.cs_len hO1 (j := 0) (upto_at _ _ hlt) rfl
      have d1 := Own.cell_ Hd.cs_len hO1 (j := 1) (upto_at _ _ hlt) rfl
      have d2 := Own.cell_ Hd.cs_len hO1 (j := 2) (upto_at _ _ hlt) rfl
      have d3 := Own.cell_ Hd.cs_len hO1 (j := 3) (upto_at _ _ hlt) rfl
      have d4 := Own.cell_ Hd.cs_len hO1 (j := 4) (upto_at _ _ hlt) rfl
      have d5 := Own.cell_ Hd.cs_len hO1 (j := 5) (upto_at _ _ hlt) rfl
      have d6 := Own.cell_ Hd.cs_len hO1 (j := 6) (upto_at _ _ hlt) rfl
      have d7 := Own.cell_ Hd.cs_len hO1 (j := 7) (upto_at _ _ hlt) rfl
      have d8 := Own.cell_ Hd.cs_len hO1 (j := 8) (upto_at _ _ hlt) rfl
      have d9 := Own.cell_ Hd.cs_len hO1 (j := 9) (upto_at _ _ hlt) rfl
      have d10 := Own.cell_ Hd.cs_len hO1 (j := 10) (upto_at _ _ hlt) rfl
      have d11 := Own.cell_ Hd.cs_len hO1 (j := 11) (upto_at _ _ hlt) rfl
      rw [Nat.add_zero] at d0
      have df := Own.frozen_ hO1
      go_wp2
      go_roundw
      case rel =>
        refine ⟨i + 1, by omega, by go_num, ?_, ?_⟩
        · exact Below.setCells (Nat.le_refl _) p.cs (i * 12) (bstep hB hB.size hb1)
        · have := Own.setEl hO1 Hd.cs_len (by omega) hlt p
          rw [upto_set _ _ HP.out] at this
          exact this
      case measure => simp [intOf]; omega
    · have h1 : ¬ (i : Int) < (l.length : Int) := by omega
      go_wp2
      go_ret
      have hu := upto_all Hd.zero l (i := i) (by omega)
      rw [hu] at hO
      exact ⟨_, _, rfl, SlW.of_Own hO, hB⟩

set_option maxRecDepth 100000 in
set_option maxHeartbeats 2000000 in
theorem toInt64SS_any (A : Option Addr) (n cap : Nat) (L : List (List Int)) (w : World) (h : LisR w A n L) (hn : n ≤ 1048576) (hm : ∀ l ∈ L, l.length ≤ 1048576) :
    Calls Tryz.prog 7 #[.slice A n cap] w (RetLis L w) := by
  obtain ⟨i0, hi0, hz0, hz1, hz2⟩ := info_parts lists_info
  have hmk : ∀ W : World, (Instr.makeSlice 22 (.int .i64 (n : Int)) (.int .i64 (n : Int))).run Tryz.prog W = .ok (.slice (some ⟨W.heap.size, 0, none⟩) n n) (W.alloc (.cells (madeCells #[.slice none 0 0] (n * 1)) 28)) := by
    intro W
    have := run_make (P := Tryz.prog) W 22 28 i0 _ Tryz.underlying22 hi0 hz0 .i64 .i64 n n (by omega) (by omega) (by rw [hz2]; omega) (by omega)
    rw [hz1] at this
    simpa [Value.cells] using this
  have HM := Lib.hid hm; clear hm
  go_enter Tryz.func7, Tryz.ntmps7
  go_wp2
  have hln := h.1
  obtain rfl : L.length = n := hln
  clear hmk hi0 hz0 hz1 hz2
  go_loopw [4] (fun s4 W => ∃ (i : Nat) (rows : List Jw), i ≤ L.length ∧ s4 = .int .i64 i ∧ rows.length = i ∧ Below w.heap.size w W ∧ Own Jw.cs 1 28 w.heap.size W w.heap.size L.length L.length (rows ++ List.replicate (L.length - i) ⟨none, 0, 0⟩) ∧ EachW w.heap.size W.heap.size W rows (L.take i) ∧ Apart rows) (fun s4 _ => L.length - (intOf s4).toNat)
  case atStart =>
    refine ⟨0, [], Nat.zero_le _, rfl, rfl, (Below.refl _ _).alloc (Nat.le_refl _) _, ?_, ⟨rfl, fun i a l ha _ => by simp at ha⟩, fun i j a b ha _ => by simp at ha⟩
    rw [Nat.sub_zero, List.nil_append]
    have hmd := Own.made (w := w) (e := 28) Jw.cs_len (by omega) (⟨none, 0, 0⟩ : Jw) #[.slice none 0 0] rfl (Nat.le_refl _) L.length (by unfold maxLen; omega)
    rw [Nat.mul_one] at hmd
    exact hmd
  case round =>
    obtain ⟨i, rows, hi, rfl, hrl, hB, hO, hE, hAp⟩ := hrel
    by_cases hlt : i < L.length
    · obtain ⟨b, o, l, rfl, _, hli, A1, n1, k1, c0, _, hl1⟩ := SlE.at_ (SlE.keep LiE.kept h (fun j _ hj => hB.block j hj)) hlt
      have h1 : (i : Int) < (L.length : Int) := by omega
      have h2 : (0 : Int) ≤ (i : Int) := by omega
      have hle : n1 ≤ 1048576 := by have := HM.out l (List.mem_of_getElem? hli); have := hl1.1; omega
      have HR := Lib.hid hli; clear hli
      have HL := Lib.hid hrl; clear hrl
      rw [Nat.mul_one] at c0
      go_wp2_with fail
      refine (toInt64S_any A1 n1 k1 l _ hl1 hle).mono ?_
      rintro e w1 ⟨X, d, rfl, hX, hb1⟩
      clear c0
      have hO1 := Own.below hO hb1
      have hat : (rows ++ List.replicate (L.length - i) (⟨none, 0, 0⟩ : Jw))[i]? = some ⟨none, 0, 0⟩ := by
        rw [List.getElem?_append_right (by rw [HL.out]; exact Nat.le_refl _), HL.out, Nat.sub_self, List.getElem?_replicate, if_pos (by omega)]
      have d0 := Own.cell_ Jw.cs_len hO1 (j := 0) hat rfl
      rw [Nat.add_zero, Nat.mul_one] at d0
      clear hat
      have df := Own.frozen_ hO1
      obtain ⟨_, _, _, _, cur, hbx, _⟩ := hO1
      have hO1 := Own.below hO hb1
      go_wp2
      go_roundw
      case rel =>
        refine ⟨i + 1, rows ++ [⟨X, l.length, d⟩], by omega, by go_num, by simp [HL.out], ?_, ?_, ?_, ?_⟩
        · exact (bstep hB hB.size hb1).setCell (Nat.le_refl _) _
        · have := Own.setEl hO1 Jw.cs_len (by omega) hlt (⟨X, l.length, d⟩ : Jw)
          rw [List.set_append_right _ _ (by rw [HL.out]; exact Nat.le_refl _), HL.out, Nat.sub_self, show L.length - i = (L.length - (i + 1)) + 1 by omega, List.replicate_succ, List.set_cons_zero, Nat.mul_one] at this
          rw [List.append_assoc]
          exact this
        · have hx : EachW w.heap.size w1.heap.size w1 (rows ++ [⟨X, l.length, d⟩]) (L.take (i + 1)) := by
            have h0 : EachW w.heap.size w1.heap.size w1 rows (L.take i) := (hE.keep (.below hb1 (Nat.le_refl _))).mono (Nat.le_refl _) hb1.size
            have hs : L.take (i + 1) = L.take i ++ [l] := by
              obtain ⟨hi', e⟩ := List.getElem?_eq_some_iff.1 HR.out
              rw [List.take_succ_eq_append_getElem hi', e]
            rw [hs]
            refine ⟨by simp [HL.out]; omega, fun j a l' ha hl => ?_⟩
            by_cases hj : j < i
            · rw [List.getElem?_append_left (by rw [HL.out]; exact hj)] at ha
              rw [List.getElem?_append_left (by simp; omega)] at hl
              exact h0.2 j a l' ha hl
            · have hj2 : j = i := by
                have := (List.getElem?_eq_some_iff.1 ha).1
                simp [HL.out] at this
                omega
              subst hj2
              rw [List.getElem?_append_right (by rw [HL.out]; exact Nat.le_refl _), HL.out, Nat.sub_self] at ha
              rw [List.getElem?_append_right (by rw [List.length_take]; exact Nat.min_le_left _ _)] at hl
              simp at ha
              have : (L.take j).length = j := by simp; omega
              rw [this, Nat.sub_self] at hl
              simp at hl
              subst ha hl
              exact SlW.mono hX hB.size (Nat.le_refl _)
          have hk := hx.setsT (us := [.slice X l.length d]) (o := i) hbx (by decide)
          exact hk.mono (Nat.le_refl _) (by simp)
        · refine hAp.snoc fun j b hb g hg hg2 => ?_
          have h1 : wr.heap.size ≤ g := by
            rcases hX.2 with ⟨h0, _⟩ | ⟨g', h0, _, ho⟩
            · dsimp only at hg; rw [h0] at hg; cases hg
            · dsimp only at hg; rw [h0] at hg; injection hg with hg; injection hg with hg; subst hg; exact ho.2.1
          have hj : j < i := by have := (List.getElem?_eq_some_iff.1 hb).1; have := HL.out; omega
          have hjl : (L.take i)[j]? = some (L[j]'(by omega)) := by rw [List.getElem?_take_of_lt hj]; exact List.getElem?_eq_getElem (by omega)
          rcases (hE.2 j b _ hb hjl).2 with ⟨h0, _⟩ | ⟨g', h0, h2, _⟩
          · rw [h0] at hg2; cases hg2
          · rw [h0] at hg2; injection hg2 with hg2; injection hg2 with hg2; subst hg2; omega
      case measure => simp [intOf]; omega
    · have h1 : ¬ (i : Int) < (L.length : Int) := by omega
      obtain rfl : i = L.length := by omega
      go_wp2
      go_ret
      rw [Nat.sub_self, List.replicate_zero, List.append_nil] at hO
      rw [List.take_of_length_le (Nat.le_refl _)] at hE
      exact ⟨_, _, rfl, ⟨rows, SlW.of_Own hO, hE, hAp⟩, hB⟩

/-- A crew of the call's own, part behind part. -/
structure CrZ (w : World) (c : Cr) (y : CrL) (l0 l1 l2 l3 l4 l5 : Nat) : Prop where
  s : RgsD l0 l1 w y.s.A y.s.n y.s.cap c.st.rs
  h : HdsW l1 l2 w y.h.A y.h.n y.h.cap c.hs
  j : ListsD l2 l3 w y.j.A y.j.n y.j.cap c.js
  b : IntsW l3 l4 w y.b.A y.b.n y.b.cap c.bs
  e : EvsW l4 l5 w y.e.A y.e.n y.e.cap c.es
  k0 : l0 ≤ l1
  k1 : l1 ≤ l2
  k2 : l2 ≤ l3
  k3 : l3 ≤ l4
  k4 : l4 ≤ l5
theorem CrZ.toW {w : World} {c : Cr} {y : CrL} {l0 l1 l2 l3 l4 l5 : Nat} (h : CrZ w c y l0 l1 l2 l3 l4 l5) : CrW l0 l5 w c y :=
  have k0 := h.k0; have k1 := h.k1; have k2 := h.k2; have k3 := h.k3; have k4 := h.k4
  ⟨h.s.toW.mono (by omega) (by omega), SlW.mono h.h (by omega) (by omega), h.j.toW.mono (by omega) (by omega), SlW.mono h.b (by omega) (by omega), SlW.mono h.e (by omega) (by omega)⟩
theorem CrZ.keep {w w' : World} {c : Cr} {y : CrL} {l0 l1 l2 l3 l4 l5 : Nat} (h : CrZ w c y l0 l1 l2 l3 l4 l5) (hs : SameIn l0 l5 w w') : CrZ w' c y l0 l1 l2 l3 l4 l5 :=
  have k0 := h.k0; have k1 := h.k1; have k2 := h.k2; have k3 := h.k3; have k4 := h.k4
  have q : ∀ a b, l0 ≤ a → b ≤ l5 → SameIn a b w w' := fun a b ha hb j h1 h2 => hs j (by omega) (by omega)
  ⟨h.s.keep (q _ _ (by omega) (by omega)), SlW.keep h.h (q _ _ (by omega) (by omega)), h.j.keep (q _ _ (by omega) (by omega)), SlW.keep h.b (q _ _ (by omega) (by omega)), SlW.keep h.e (q _ _ (by omega) (by omega)), k0, k1, k2, k3, k4⟩
theorem CrZ.below {w w' : World} {c : Cr} {y : CrL} {l0 l1 l2 l3 l4 l5 : Nat} (h : CrZ w c y l0 l1 l2 l3 l4 l5) (hb : Below w.heap.size w w') (hh : l5 ≤ w.heap.size) : CrZ w' c y l0 l1 l2 l3 l4 l5 := h.keep (.below hb hh)
/-- A crew of the call's own is returned, part behind part. -/
def RetCrZ (q : Cr) (w : World) (e : Ending) (w' : World) : Prop := ∃ y l1 l2 l3 l4, e = .returned (crV q y) ∧ CrZ w' q y w.heap.size l1 l2 l3 l4 w'.heap.size ∧ Below w.heap.size w w'

set_option maxRecDepth 100000 in
set_option maxHeartbeats 4000000 in
theorem toCrew_z (c : Cr) (y : CrL) (w : World) (hr : CrR w c y) (hf : CrFit c) :
    Calls Tryz.prog 16 #[crV c y] w (RetCrZ c w) := by
  obtain ⟨⟨sA, sN, sK⟩, ⟨hA, hN, hK⟩, ⟨jA, jN, jK⟩, ⟨bA, bN, bK⟩, ⟨eA, eN, eK⟩⟩ := y
  have HR := Lib.hid hr
  have hn1 : sN ≤ 1048576 := by have := hr.s.1; have := hf.s; dsimp only at *; omega
  have hn2 : hN ≤ 1048576 := by have := hr.h.1; have := hf.h; dsimp only at *; omega
  have hn3 : jN ≤ 1048576 := by have := hr.j.1; have := hf.j; dsimp only at *; omega
  have hn4 : bN ≤ 1048576 := by have := hr.b.1; have := hf.b; dsimp only at *; omega
  have hn5 : eN ≤ 1048576 := by have := hr.e.1; have := hf.e; dsimp only at *; omega
  have HP := Lib.hid hf.p
  have HL := Lib.hid hf.l
  clear hr hf
  unfold crV
  dsimp only
  go_enter Tryz.func16, Tryz.ntmps16
  go_wp2_with fail
  refine calls_abs (fun W => Below w.heap.size w W ∧ BoxAt W w.heap.size #[.int .i64 c.st.rd, .int .i64 c.st.mo, .slice sA sN sK, .int .i64 c.st.fi, .int .i64 c.st.la, .slice hA hN hK, .slice jA jN jK, .slice bA bN bK, .int .i64 c.ck, .slice eA eN eK] 45 ∧ BoxAt W (w.heap.size + 1) #[.int .i64 0, .int .i64 0, .slice none 0 0, .int .i64 0, .int .i64 0, .slice none 0 0, .slice none 0 0, .slice none 0 0, .int .i64 0, .slice none 0 0] 31 ∧ BoxAt W (w.heap.size + 1 + 1) #[.int .i64 0, .int .i64 0, .slice none 0 0, .int .i64 0, .int .i64 0, .slice none 0 0, .slice none 0 0, .slice none 0 0, .int .i64 0, .slice none 0 0] 31 ∧ (w.heap.size + 1 + 1 + 1) ≤ W.heap.size) ⟨(((Below.refl _ _).alloc (Nat.le_refl _) _).alloc (by simp) _).alloc (by simp; omega) _, ((BoxAt.new _ _ _).alloc _).alloc _, (BoxAt.new' (by simp)).alloc _, BoxAt.new' (by simp), by simp⟩ ?_
  rintro W ⟨hB, ha, hz, hy, hT⟩
  refine (toStore_any c.st sA sN sK _ (HR.out.s.below hB) hn1 HP.out).mono ?_
  rintro e w1 ⟨SA, SN, SK, rfl, hX, hb⟩
  unfold stV
  replace ha := ha.below hb ha.lt
  replace hz := hz.below hb hz.lt
  replace hy := hy.below hb hy.lt
  replace hB := bstep hB hB.size hb
  have hbs := hb.size
  clear hb
  have ka := ha.cell
  have ky := hy.cell
  have fy := hy.frozen
  go_wp2_with fail
  obtain ⟨l1, hl1⟩ : ∃ l, l = w1.heap.size := ⟨_, rfl⟩
  have hk1 : (w.heap.size + 1 + 1 + 1) ≤ l1 := by omega
  refine calls_abs (fun W => Below w.heap.size w W ∧ BoxAt W w.heap.size #[.int .i64 c.st.rd, .int .i64 c.st.mo, .slice sA sN sK, .int .i64 c.st.fi, .int .i64 c.st.la, .slice hA hN hK, .slice jA jN jK, .slice bA bN bK, .int .i64 c.ck, .slice eA eN eK] 45 ∧ BoxAt W (w.heap.size + 1) #[.int .i64 0, .int .i64 0, .slice none 0 0, .int .i64 0, .int .i64 0, .slice none 0 0, .slice none 0 0, .slice none 0 0, .int .i64 0, .slice none 0 0] 31 ∧ BoxAt W (w.heap.size + 1 + 1) #[.int .i64 c.st.rd, .int .i64 c.st.mo, .slice SA SN SK, .int .i64 c.st.fi, .int .i64 c.st.la, .slice none 0 0, .slice none 0 0, .slice none 0 0, .int .i64 0, .slice none 0 0] 31 ∧ l1 ≤ W.heap.size ∧ RgsD (w.heap.size + 1 + 1 + 1) l1 W SA SN SK c.st.rs) ⟨(((((hB.setCell (by dsimp only; omega) _).setCell (by dsimp only; omega) _).setCell (by dsimp only; omega) _).setCell (by dsimp only; omega) _).setCell (by dsimp only; omega) _), (((((ha.set_ne (by omega) _ _).set_ne (by omega) _ _).set_ne (by omega) _ _).set_ne (by omega) _ _).set_ne (by omega) _ _), (((((hz.set_ne (by omega) _ _).set_ne (by omega) _ _).set_ne (by omega) _ _).set_ne (by omega) _ _).set_ne (by omega) _ _), by simpa using (((((hy.set 0 (.int .i64 c.st.rd)).set 1 (.int .i64 c.st.mo)).set 2 (.slice SA SN SK)).set 3 (.int .i64 c.st.fi)).set 4 (.int .i64 c.st.la)), by simp; omega, RgsD.mono (RgsD.keep (w' := _) hX ((((((SameIn.refl _ _ _).trans (SameIn.set (.inl (by omega)) _ _)).trans (SameIn.set (.inl (by omega)) _ _)).trans (SameIn.set (.inl (by omega)) _ _)).trans (SameIn.set (.inl (by omega)) _ _)).trans (SameIn.set (.inl (by omega)) _ _))) (by omega) (by omega)⟩ ?_
  clear hB ha hz hy hX hbs ka ky fy hT hl1
  rintro W ⟨hB, ha, hz, hy, hT, hs_⟩
  refine (toHandS_any hA hN hK c.hs _ (HR.out.h.below hB) hn2).mono ?_
  rintro e w1 ⟨HA, HK, rfl, hX, hb⟩
  replace hs_ := RgsD.keep hs_ (.below hb (by omega))
  replace ha := ha.below hb ha.lt
  replace hz := hz.below hb hz.lt
  replace hy := hy.below hb hy.lt
  replace hB := bstep hB hB.size hb
  have hbs := hb.size
  clear hb
  have ka := ha.cell
  have ky := hy.cell
  have fy := hy.frozen
  go_wp2_with fail
  obtain ⟨l2, hl2⟩ : ∃ l, l = w1.heap.size := ⟨_, rfl⟩
  have hk2 : l1 ≤ l2 := by omega
  refine calls_abs (fun W => Below w.heap.size w W ∧ BoxAt W w.heap.size #[.int .i64 c.st.rd, .int .i64 c.st.mo, .slice sA sN sK, .int .i64 c.st.fi, .int .i64 c.st.la, .slice hA hN hK, .slice jA jN jK, .slice bA bN bK, .int .i64 c.ck, .slice eA eN eK] 45 ∧ BoxAt W (w.heap.size + 1) #[.int .i64 0, .int .i64 0, .slice none 0 0, .int .i64 0, .int .i64 0, .slice none 0 0, .slice none 0 0, .slice none 0 0, .int .i64 0, .slice none 0 0] 31 ∧ BoxAt W (w.heap.size + 1 + 1) #[.int .i64 c.st.rd, .int .i64 c.st.mo, .slice SA SN SK, .int .i64 c.st.fi, .int .i64 c.st.la, .slice HA c.hs.length HK, .slice none 0 0, .slice none 0 0, .int .i64 0, .slice none 0 0] 31 ∧ l2 ≤ W.heap.size ∧ RgsD (w.heap.size + 1 + 1 + 1) l1 W SA SN SK c.st.rs ∧ HdsW l1 l2 W HA c.hs.length HK c.hs) ⟨(hB.setCell (by dsimp only; omega) _), (ha.set_ne (by omega) _ _), (hz.set_ne (by omega) _ _), by simpa using (hy.set 5 (.slice HA c.hs.length HK)), by simp; omega, RgsD.keep (w' := _) hs_ ((SameIn.refl _ _ _).trans (SameIn.set (.inl (by omega)) _ _)), SlW.mono (SlW.keep (w' := _) hX ((SameIn.refl _ _ _).trans (SameIn.set (.inl (by omega)) _ _))) (by omega) (by omega)⟩ ?_
  clear hB ha hz hy hX hbs ka ky fy hT hl2 hs_
  rintro W ⟨hB, ha, hz, hy, hT, hs_, hh_⟩
  refine (toInt64SS_any jA jN jK c.js _ (HR.out.j.below hB) hn3 HL.out).mono ?_
  rintro e w1 ⟨JA, JK, rfl, hX, hb⟩
  replace hs_ := RgsD.keep hs_ (.below hb (by omega))
  replace hh_ := SlW.keep hh_ (.below hb (by omega))
  replace ha := ha.below hb ha.lt
  replace hz := hz.below hb hz.lt
  replace hy := hy.below hb hy.lt
  replace hB := bstep hB hB.size hb
  have hbs := hb.size
  clear hb
  have ka := ha.cell
  have ky := hy.cell
  have fy := hy.frozen
  go_wp2_with fail
  obtain ⟨l3, hl3⟩ : ∃ l, l = w1.heap.size := ⟨_, rfl⟩
  have hk3 : l2 ≤ l3 := by omega
  refine calls_abs (fun W => Below w.heap.size w W ∧ BoxAt W w.heap.size #[.int .i64 c.st.rd, .int .i64 c.st.mo, .slice sA sN sK, .int .i64 c.st.fi, .int .i64 c.st.la, .slice hA hN hK, .slice jA jN jK, .slice bA bN bK, .int .i64 c.ck, .slice eA eN eK] 45 ∧ BoxAt W (w.heap.size + 1) #[.int .i64 0, .int .i64 0, .slice none 0 0, .int .i64 0, .int .i64 0, .slice none 0 0, .slice none 0 0, .slice none 0 0, .int .i64 0, .slice none 0 0] 31 ∧ BoxAt W (w.heap.size + 1 + 1) #[.int .i64 c.st.rd, .int .i64 c.st.mo, .slice SA SN SK, .int .i64 c.st.fi, .int .i64 c.st.la, .slice HA c.hs.length HK, .slice JA c.js.length JK, .slice none 0 0, .int .i64 0, .slice none 0 0] 31 ∧ l3 ≤ W.heap.size ∧ RgsD (w.heap.size + 1 + 1 + 1) l1 W SA SN SK c.st.rs ∧ HdsW l1 l2 W HA c.hs.length HK c.hs ∧ ListsD l2 l3 W JA c.js.length JK c.js) ⟨(hB.setCell (by dsimp only; omega) _), (ha.set_ne (by omega) _ _), (hz.set_ne (by omega) _ _), by simpa using (hy.set 6 (.slice JA c.js.length JK)), by simp; omega, RgsD.keep (w' := _) hs_ ((SameIn.refl _ _ _).trans (SameIn.set (.inl (by omega)) _ _)), SlW.keep (w' := _) hh_ ((SameIn.refl _ _ _).trans (SameIn.set (.inl (by omega)) _ _)), ListsD.mono (ListsD.keep (w' := _) hX ((SameIn.refl _ _ _).trans (SameIn.set (.inl (by omega)) _ _))) (by omega) (by omega)⟩ ?_
  clear hB ha hz hy hX hbs ka ky fy hT hl3 hs_ hh_
  rintro W ⟨hB, ha, hz, hy, hT, hs_, hh_, hj_⟩
  refine (toInt64S_any bA bN bK c.bs _ (HR.out.b.below hB) hn4).mono ?_
  rintro e w1 ⟨BA, BK, rfl, hX, hb⟩
  replace hs_ := RgsD.keep hs_ (.below hb (by omega))
  replace hh_ := SlW.keep hh_ (.below hb (by omega))
  replace hj_ := ListsD.keep hj_ (.below hb (by omega))
  replace ha := ha.below hb ha.lt
  replace hz := hz.below hb hz.lt
  replace hy := hy.below hb hy.lt
  replace hB := bstep hB hB.size hb
  have hbs := hb.size
  clear hb
  have ka := ha.cell
  have ky := hy.cell
  have fy := hy.frozen
  go_wp2_with fail
  obtain ⟨l4, hl4⟩ : ∃ l, l = w1.heap.size := ⟨_, rfl⟩
  have hk4 : l3 ≤ l4 := by omega
  refine calls_abs (fun W => Below w.heap.size w W ∧ BoxAt W w.heap.size #[.int .i64 c.st.rd, .int .i64 c.st.mo, .slice sA sN sK, .int .i64 c.st.fi, .int .i64 c.st.la, .slice hA hN hK, .slice jA jN jK, .slice bA bN bK, .int .i64 c.ck, .slice eA eN eK] 45 ∧ BoxAt W (w.heap.size + 1) #[.int .i64 0, .int .i64 0, .slice none 0 0, .int .i64 0, .int .i64 0, .slice none 0 0, .slice none 0 0, .slice none 0 0, .int .i64 0, .slice none 0 0] 31 ∧ BoxAt W (w.heap.size + 1 + 1) #[.int .i64 c.st.rd, .int .i64 c.st.mo, .slice SA SN SK, .int .i64 c.st.fi, .int .i64 c.st.la, .slice HA c.hs.length HK, .slice JA c.js.length JK, .slice BA c.bs.length BK, .int .i64 c.ck, .slice none 0 0] 31 ∧ l4 ≤ W.heap.size ∧ RgsD (w.heap.size + 1 + 1 + 1) l1 W SA SN SK c.st.rs ∧ HdsW l1 l2 W HA c.hs.length HK c.hs ∧ ListsD l2 l3 W JA c.js.length JK c.js ∧ IntsW l3 l4 W BA c.bs.length BK c.bs) ⟨((hB.setCell (by dsimp only; omega) _).setCell (by dsimp only; omega) _), ((ha.set_ne (by omega) _ _).set_ne (by omega) _ _), ((hz.set_ne (by omega) _ _).set_ne (by omega) _ _), by simpa using ((hy.set 7 (.slice BA c.bs.length BK)).set 8 (.int .i64 c.ck)), by simp; omega, RgsD.keep (w' := _) hs_ (((SameIn.refl _ _ _).trans (SameIn.set (.inl (by omega)) _ _)).trans (SameIn.set (.inl (by omega)) _ _)), SlW.keep (w' := _) hh_ (((SameIn.refl _ _ _).trans (SameIn.set (.inl (by omega)) _ _)).trans (SameIn.set (.inl (by omega)) _ _)), ListsD.keep (w' := _) hj_ (((SameIn.refl _ _ _).trans (SameIn.set (.inl (by omega)) _ _)).trans (SameIn.set (.inl (by omega)) _ _)), SlW.mono (SlW.keep (w' := _) hX (((SameIn.refl _ _ _).trans (SameIn.set (.inl (by omega)) _ _)).trans (SameIn.set (.inl (by omega)) _ _))) (by omega) (by omega)⟩ ?_
  clear hB ha hz hy hX hbs ka ky fy hT hl4 hs_ hh_ hj_
  rintro W ⟨hB, ha, hz, hy, hT, hs_, hh_, hj_, hb_⟩
  refine (toEventS_any eA eN eK c.es _ (HR.out.e.below hB) hn5).mono ?_
  rintro e w1 ⟨EA, EK, rfl, hX, hb⟩
  replace hs_ := RgsD.keep hs_ (.below hb (by omega))
  replace hh_ := SlW.keep hh_ (.below hb (by omega))
  replace hj_ := ListsD.keep hj_ (.below hb (by omega))
  replace hb_ := SlW.keep hb_ (.below hb (by omega))
  replace ha := ha.below hb ha.lt
  replace hz := hz.below hb hz.lt
  replace hy := hy.below hb hy.lt
  replace hB := bstep hB hB.size hb
  have hbs := hb.size
  clear hb
  have ka := ha.cell
  have ky := hy.cell
  have fy := hy.frozen
  have kz := hz.cell
  have fz := hz.frozen
  go_wp2
  refine bodyPost_ret (v := crV c (⟨⟨SA, SN, SK⟩, ⟨HA, c.hs.length, HK⟩, ⟨JA, c.js.length, JK⟩, ⟨BA, c.bs.length, BK⟩, ⟨EA, c.es.length, EK⟩⟩ : CrL)) (by simp [results, Tryz.results16, go_sem, ky, kz, crV]) rfl ⟨_, l1, l2, l3, l4, rfl, ⟨(RgsD.mono (RgsD.keep (w' := _) hs_ ((((((((((((SameIn.refl _ _ _).trans (SameIn.set (.inl (by omega)) _ _)).trans (SameIn.set (.inl (by omega)) _ _)).trans (SameIn.set (.inl (by omega)) _ _)).trans (SameIn.set (.inl (by omega)) _ _)).trans (SameIn.set (.inl (by omega)) _ _)).trans (SameIn.set (.inl (by omega)) _ _)).trans (SameIn.set (.inl (by omega)) _ _)).trans (SameIn.set (.inl (by omega)) _ _)).trans (SameIn.set (.inl (by omega)) _ _)).trans (SameIn.set (.inl (by omega)) _ _)).trans (SameIn.set (.inl (by omega)) _ _))) (by omega) (Nat.le_refl _)), SlW.keep (w' := _) hh_ ((((((((((((SameIn.refl _ _ _).trans (SameIn.set (.inl (by omega)) _ _)).trans (SameIn.set (.inl (by omega)) _ _)).trans (SameIn.set (.inl (by omega)) _ _)).trans (SameIn.set (.inl (by omega)) _ _)).trans (SameIn.set (.inl (by omega)) _ _)).trans (SameIn.set (.inl (by omega)) _ _)).trans (SameIn.set (.inl (by omega)) _ _)).trans (SameIn.set (.inl (by omega)) _ _)).trans (SameIn.set (.inl (by omega)) _ _)).trans (SameIn.set (.inl (by omega)) _ _)).trans (SameIn.set (.inl (by omega)) _ _)), ListsD.keep (w' := _) hj_ ((((((((((((SameIn.refl _ _ _).trans (SameIn.set (.inl (by omega)) _ _)).trans (SameIn.set (.inl (by omega)) _ _)).trans (SameIn.set (.inl (by omega)) _ _)).trans (SameIn.set (.inl (by omega)) _ _)).trans (SameIn.set (.inl (by omega)) _ _)).trans (SameIn.set (.inl (by omega)) _ _)).trans (SameIn.set (.inl (by omega)) _ _)).trans (SameIn.set (.inl (by omega)) _ _)).trans (SameIn.set (.inl (by omega)) _ _)).trans (SameIn.set (.inl (by omega)) _ _)).trans (SameIn.set (.inl (by omega)) _ _)), SlW.keep (w' := _) hb_ ((((((((((((SameIn.refl _ _ _).trans (SameIn.set (.inl (by omega)) _ _)).trans (SameIn.set (.inl (by omega)) _ _)).trans (SameIn.set (.inl (by omega)) _ _)).trans (SameIn.set (.inl (by omega)) _ _)).trans (SameIn.set (.inl (by omega)) _ _)).trans (SameIn.set (.inl (by omega)) _ _)).trans (SameIn.set (.inl (by omega)) _ _)).trans (SameIn.set (.inl (by omega)) _ _)).trans (SameIn.set (.inl (by omega)) _ _)).trans (SameIn.set (.inl (by omega)) _ _)).trans (SameIn.set (.inl (by omega)) _ _)), SlW.mono (SlW.keep (w' := _) hX ((((((((((((SameIn.refl _ _ _).trans (SameIn.set (.inl (by omega)) _ _)).trans (SameIn.set (.inl (by omega)) _ _)).trans (SameIn.set (.inl (by omega)) _ _)).trans (SameIn.set (.inl (by omega)) _ _)).trans (SameIn.set (.inl (by omega)) _ _)).trans (SameIn.set (.inl (by omega)) _ _)).trans (SameIn.set (.inl (by omega)) _ _)).trans (SameIn.set (.inl (by omega)) _ _)).trans (SameIn.set (.inl (by omega)) _ _)).trans (SameIn.set (.inl (by omega)) _ _)).trans (SameIn.set (.inl (by omega)) _ _))) (by omega) (by simp), by omega, by omega, by omega, by omega, by simp; omega⟩, (((((((((((hB.setCell (by dsimp only; omega) _).setCell (by dsimp only; omega) _).setCell (by dsimp only; omega) _).setCell (by dsimp only; omega) _).setCell (by dsimp only; omega) _).setCell (by dsimp only; omega) _).setCell (by dsimp only; omega) _).setCell (by dsimp only; omega) _).setCell (by dsimp only; omega) _).setCell (by dsimp only; omega) _).setCell (by dsimp only; omega) _)⟩

theorem toCrew_any (c : Cr) (y : CrL) (w : World) (hr : CrR w c y) (hf : CrFit c) :
    Calls Tryz.prog 16 #[crV c y] w (RetCr c w) := by
  refine (toCrew_z c y w hr hf).mono ?_
  rintro e w' ⟨y', l1, l2, l3, l4, he, hZ, hb⟩
  exact ⟨y', he, hZ.toW, hb⟩

set_option maxRecDepth 100000 in
set_option maxHeartbeats 4000000 in
theorem eqCrew_same (c : Cr) (y z : CrL) (w : World) (hr : CrR w c y) (hq : CrR w c z) (hf : CrFit c) :
    Calls Tryz.prog 9 #[crV c y, crV c z] w (RetBelow (.bool true) w) := by
  obtain ⟨⟨sA, sN, sK⟩, ⟨hA, hN, hK⟩, ⟨jA, jN, jK⟩, ⟨bA, bN, bK⟩, ⟨eA, eN, eK⟩⟩ := y
  obtain ⟨⟨sA', sN', sK'⟩, ⟨hA', hN', hK'⟩, ⟨jA', jN', jK'⟩, ⟨bA', bN', bK'⟩, ⟨eA', eN', eK'⟩⟩ := z
  obtain rfl : sN = sN' := hr.s.1.symm.trans hq.s.1
  obtain rfl : hN = hN' := hr.h.1.symm.trans hq.h.1
  obtain rfl : jN = jN' := hr.j.1.symm.trans hq.j.1
  obtain rfl : bN = bN' := hr.b.1.symm.trans hq.b.1
  obtain rfl : eN = eN' := hr.e.1.symm.trans hq.e.1
  have HR := Lib.hid hr
  have HQ := Lib.hid hq
  have hn1 : sN ≤ 1048576 := by have := hr.s.1; have := hf.s; dsimp only at *; omega
  have hn2 : hN ≤ 1048576 := by have := hr.h.1; have := hf.h; dsimp only at *; omega
  have hn3 : jN ≤ 1048576 := by have := hr.j.1; have := hf.j; dsimp only at *; omega
  have hn4 : bN ≤ 1048576 := by have := hr.b.1; have := hf.b; dsimp only at *; omega
  have hn5 : eN ≤ 1048576 := by have := hr.e.1; have := hf.e; dsimp only at *; omega
  have HP := Lib.hid hf.p
  have HL := Lib.hid hf.l
  clear hr hq hf
  unfold crV
  dsimp only
  go_enter Tryz.func9, Tryz.ntmps9
  go_wp2_with fail
  refine calls_abs (fun W => Below w.heap.size w W ∧ BoxAt W w.heap.size #[.int .i64 c.st.rd, .int .i64 c.st.mo, .slice sA sN sK, .int .i64 c.st.fi, .int .i64 c.st.la, .slice hA hN hK, .slice jA jN jK, .slice bA bN bK, .int .i64 c.ck, .slice eA eN eK] 31 ∧ BoxAt W (w.heap.size + 1) #[.int .i64 c.st.rd, .int .i64 c.st.mo, .slice sA' sN sK', .int .i64 c.st.fi, .int .i64 c.st.la, .slice hA' hN hK', .slice jA' jN jK', .slice bA' bN bK', .int .i64 c.ck, .slice eA' eN eK'] 31) ⟨((Below.refl _ _).alloc (Nat.le_refl _) _).alloc (by simp) _, (BoxAt.new _ _ _).alloc _, BoxAt.new' (by simp)⟩ ?_
  rintro W ⟨hB, ha, hz⟩
  refine (eqStore_same c.st sA sA' sN sK sK' _ (HR.out.s.below hB) (HQ.out.s.below hB) hn1 HP.out).mono ?_
  rintro e w1 ⟨rfl, hb⟩
  replace ha := ha.below hb ha.lt
  replace hz := hz.below hb hz.lt
  replace hB := bstep hB hB.size hb
  clear hb
  have ka := ha.cell
  have kz := hz.cell
  go_wp2_with fail
  clear ka kz
  refine (eqHandS_same hA hA' hN hK hK' c.hs _ (HR.out.h.below hB) (HQ.out.h.below hB) hn2).mono ?_
  rintro e w2 ⟨rfl, hb⟩
  replace ha := ha.below hb ha.lt
  replace hz := hz.below hb hz.lt
  replace hB := bstep hB hB.size hb
  clear hb
  have ka := ha.cell
  have kz := hz.cell
  go_wp2_with fail
  clear ka kz
  refine (eqInt64SS_same jA jA' jN jK jK' c.js _ (HR.out.j.below hB) (HQ.out.j.below hB) hn3 HL.out).mono ?_
  rintro e w3 ⟨rfl, hb⟩
  replace ha := ha.below hb ha.lt
  replace hz := hz.below hb hz.lt
  replace hB := bstep hB hB.size hb
  clear hb
  have ka := ha.cell
  have kz := hz.cell
  go_wp2_with fail
  clear ka kz
  refine (eqInt64S_same bA bA' bN bK bK' c.bs _ (HR.out.b.below hB) (HQ.out.b.below hB) (by omega)).mono ?_
  rintro e w4 ⟨rfl, hb⟩
  replace ha := ha.below hb ha.lt
  replace hz := hz.below hb hz.lt
  replace hB := bstep hB hB.size hb
  clear hb
  have ka := ha.cell
  have kz := hz.cell
  go_wp2_with fail
  clear ka kz
  refine (eqEventS_same eA eA' eN eK eK' c.es _ (HR.out.e.below hB) (HQ.out.e.below hB) hn5).mono ?_
  rintro e w5 ⟨rfl, hb⟩
  replace ha := ha.below hb ha.lt
  replace hz := hz.below hb hz.lt
  replace hB := bstep hB hB.size hb
  clear hb
  have ka := ha.cell
  have kz := hz.cell
  go_wp2
  go_ret
  exact .mk rfl hB

end Go.Proofs.YtomfaabifpndbaaGreat

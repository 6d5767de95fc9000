/-
  The program's test of a crew.
-/
import Derived.Test.YtomfaabifpndbaaGreatCrewB
import Derived.Test.YtomfaabifpndbaaGreatFitI
namespace Go.Proofs.YtomfaabifpndbaaGreat
set_option linter.unusedSimpArgs false
set_option linter.unusedVariables false
open Go.RowKit
set_option linter.unusedVariables false
attribute [local go_sem ↓] Go.wp_at_zero Go.wp_at_succ

theorem alljob_yes {l : List Int} (h : ∀ (j : Nat) x, j < l.length → l[j]? = some x → jobB x = true) : l.all jobB = true := by
  rw [List.all_eq_true]
  intro x hx
  obtain ⟨j, hj⟩ := List.mem_iff_getElem?.1 hx
  exact h j x (List.getElem?_eq_some_iff.1 hj).1 hj
theorem alljob_no {l : List Int} {i : Nat} {x : Int} (hx : l[i]? = some x) (h : jobB x = false) : l.all jobB = false := by
  rw [List.all_eq_false]; exact ⟨x, List.mem_of_getElem? hx, by simp [h]⟩
theorem alljob_next {l : List Int} {i : Nat} {x : Int} (h : ∀ (j : Nat) y, j < i → l[j]? = some y → jobB y = true) (hx : l[i]? = some x) (hk : jobB x = true) : ∀ (j : Nat) y, j < i + 1 → l[j]? = some y → jobB y = true := fun j y hj hy => by
  by_cases hji : j < i
  · exact h j y hji hy
  · obtain rfl : j = i := by omega
    rw [hx] at hy
    injection hy with hy
    subst hy
    exact hk

set_option maxHeartbeats 400000 in
theorem isNoJob_any (z : Int) (w : World) : Calls Tryz.prog 107 #[.int .i64 z] w (Quiet1 (.bool (!jobB z)) w) := by
  by_cases h0 : z = 0
  · subst h0
    go_enter Tryz.func107, Tryz.ntmps107
    go_wp2
    go_ret
    exact ⟨rfl, rfl⟩
  · have e : (!jobB z) = !valB z := by
      congr 1
      unfold jobB inB valB
      rw [show decide (0 ≤ z) = decide (1 ≤ z) from decide_eq_decide.2 (by omega)]
    rw [e]
    go_enter Tryz.func107, Tryz.ntmps107
    go_wp2_with fail
    refine (isValue_any _ _).mono ?_
    rintro e w' ⟨rfl, rfl⟩
    go_wp2
    go_ret
    exact ⟨by simp [h0], rfl⟩

set_option maxHeartbeats 1000000 in
theorem indexJob_any (l : List Int) (A : Option Addr) (n cap : Nat) (w : World) (h : IntsR w A n l) (hn : n ≤ 1073741824) :
    Calls Tryz.prog 116 #[.slice A n cap, .func (.func 107) #[] #[]] w (fun e w' => ∃ z : Int, e = .returned (.int .i64 z) ∧ l.all jobB = !decide (0 ≤ z) ∧ Below w.heap.size w w') := by
  have HL := Lib.hid h.1
  go_enter Tryz.func116, Tryz.ntmps116
  go_wp2
  go_loopw [8] (fun s8 W => ∃ i : Nat, i ≤ n ∧ s8 = .int .i64 i ∧ Below w.heap.size w W ∧ ∀ (j : Nat) x, j < i → l[j]? = some x → jobB x = true) (fun s8 _ => n - (intOf s8).toNat)
  case atStart => exact ⟨0, Nat.zero_le _, rfl, Below.refl _ _, fun j x h => absurd h (by omega)⟩
  case round =>
    obtain ⟨i, hin, rfl, hB, hal⟩ := hrel
    have HAL := Lib.hid hal; clear hal
    by_cases hlt : i < n
    · obtain ⟨b, o, x, rfl, _, hx, c0⟩ := SlE.at_ (SlE.keep IE.kept h (fun j _ hj => hB.block j hj)) hlt
      unfold IE at c0
      rw [Nat.mul_one] at c0
      have HX := Lib.hid hx; clear hx
      have g1 : (i : Int) < (n : Int) := by omega
      have g2 : (0 : Int) ≤ (i : Int) := by omega
      go_wp2_with fail
      refine (isNoJob_any x _).mono ?_
      rintro e w1 ⟨rfl, rfl⟩
      clear c0
      cases hok : jobB x
      · go_wp2
        go_ret
        exact ⟨_, rfl, by rw [alljob_no HX.out hok]; simp, hB⟩
      · have HOK := Lib.hid hok; clear hok
        go_wp2
        go_roundw
        case rel => exact ⟨i + 1, by omega, by go_num, hB, alljob_next HAL.out HX.out HOK.out⟩
        case measure => simp [intOf]; omega
    · have g1 : ¬ (i : Int) < (n : Int) := by omega
      obtain rfl : n = i := by omega
      go_wp2
      go_ret
      exact ⟨_, rfl, by rw [alljob_yes (by rw [HL.out]; exact HAL.out)]; decide, hB⟩

set_option maxHeartbeats 40000 in
theorem ijobsOk_any (l : List Int) (A : Option Addr) (n cap : Nat) (w : World) (h : IntsR w A n l) (hn : n ≤ 1073741824) :
    Calls Tryz.prog 89 #[.slice A n cap] w (RetBelow (.bool (jobsOk l)) w) := by
  have HL := Lib.hid h.1
  go_enter Tryz.func89, Tryz.ntmps89
  by_cases hgt : (n : Int) ≤ 4
  · go_wp2_with fail
    go_enter Tryz.func106, Tryz.ntmps106
    go_wp2_with fail
    refine (indexJob_any l A n cap _ h hn).mono ?_
    rintro e w1 ⟨z, rfl, hz, hb⟩
    have HV := Lib.hid (show jobsOk l = !decide (0 ≤ z) by
      have h1 : decide (l.length ≤ 4) = true := by have := HL.out; simp; omega
      rw [jobsOk, h1, Bool.and_true]; exact hz)
    clear hz
    by_cases hz : z ≥ 0
    · go_wp2
      go_ret
      exact .mk (by rw [HV.out]; simp <;> omega) hb
    · go_wp2
      go_ret
      exact .mk (by rw [HV.out]; simp <;> omega) hb
  · go_wp2
    go_ret
    exact .mk (by have := HL.out; simp [jobsOk]; omega) (Below.refl _ _)

set_option maxHeartbeats 400000 in
theorem isHandCount_any (n : Int) (w : World) : Calls Tryz.prog 59 #[.int .i64 n] w (Quiet1 (.bool (inB n 1 4)) w) := by
  go_enter Tryz.func59, Tryz.ntmps59
  go_wp2
  all_goals
    go_ret
    exact ⟨by simp [inB, *] <;> omega, rfl⟩

set_option maxRecDepth 100000 in
set_option maxHeartbeats 1000000 in
theorem asMany_any (c : Cr) (y : CrL) (w : World) (hj : c.js.length = y.j.n) (hh : c.hs.length = y.h.n) (hb : c.bs.length = y.b.n) :
    Calls Tryz.prog 60 #[crV c y] w (RetBelow (.bool ((c.js.length == c.hs.length) && (c.bs.length == c.hs.length))) w) := by
  obtain ⟨⟨sA, sN, sK⟩, ⟨hA, hN, hK⟩, ⟨jA, jN, jK⟩, ⟨bA, bN, bK⟩, ⟨eA, eN, eK⟩⟩ := y
  dsimp only at hj hh hb
  rw [hj, hh, hb]
  unfold crV
  dsimp only
  by_cases h1 : jN = hN
  · by_cases h2 : bN = hN
    · subst h1 h2
      go_enter Tryz.func60, Tryz.ntmps60
      go_wp2
      go_ret
      exact .mk (by simp) ((Below.refl _ _).alloc (Nat.le_refl _) _)
    · have g2 : ((bN : Int) == (hN : Int)) = false := by simp; omega
      subst h1
      go_enter Tryz.func60, Tryz.ntmps60
      go_wp2
      go_ret
      exact .mk (by simp; omega) ((Below.refl _ _).alloc (Nat.le_refl _) _)
  · have g1 : ((jN : Int) == (hN : Int)) = false := by simp; omega
    go_enter Tryz.func60, Tryz.ntmps60
    go_wp2
    go_ret
    exact .mk (by simp; omega) ((Below.refl _ _).alloc (Nat.le_refl _) _)

theorem all_no {n : Nat} {p : Nat → Bool} {i : Nat} (hi : i < n) (h : p i = false) : (List.range n).all p = false := by
  rw [List.all_eq_false]; exact ⟨i, List.mem_range.2 hi, by simp [h]⟩
theorem all_yes {n : Nat} {p : Nat → Bool} (h : ∀ i, i < n → p i = true) : (List.range n).all p = true := by
  rw [List.all_eq_true]; exact fun i hi => h i (List.mem_range.1 hi)
theorem getD_at {α : Type} {l : List α} {i : Nat} {x d : α} (h : l[i]? = some x) : l.getD i d = x := by simp [List.getD_eq_getElem?_getD, h]
theorem crAt_is {c : Cr} {i : Nat} {h : Hd} {l : List Int} {z : Int} (h1 : c.hs[i]? = some h) (h2 : c.js[i]? = some l) (h3 : c.bs[i]? = some z) : crAt c i = (fits c.st h && jobsOk l && inB z 0 c.ck) := by
  unfold crAt
  rw [getD_at h1, getD_at h2, getD_at h3]

set_option maxRecDepth 100000 in
set_option maxHeartbeats 4000000 in
theorem handsOk_any (c : Cr) (y : CrL) (lo hi : Nat) (w : World) (hW0 : CrW lo hi w c y) (hh : hi ≤ w.heap.size) (hf : CrFit c) (hj : c.js.length = c.hs.length) (hb : c.bs.length = c.hs.length) :
    Calls Tryz.prog 63 #[crV c y] w (RetBelow (.bool ((List.range c.hs.length).all (crAt c))) w) := by
  obtain ⟨⟨sA, sN, sK⟩, ⟨hA, hN, hK⟩, ⟨jA, jN, jK⟩, ⟨bA, bN, bK⟩, ⟨eA, eN, eK⟩⟩ := y
  have e1 : c.st.rs.length = sN := hW0.s.1
  have e2 : c.hs.length = hN := hW0.h.1
  have e3 : c.js.length = jN := hW0.j.len
  have e4 : c.bs.length = bN := hW0.b.1
  obtain rfl : jN = hN := by omega
  obtain rfl : bN = jN := by omega
  have hn1 : sN ≤ 1048576 := by have := hf.s; omega
  have hn2 : bN ≤ 1048576 := by have := hf.h; omega
  have HPN := Lib.hid hf.p
  have HLL := Lib.hid hf.l
  have HL := Lib.hid e2
  clear hf hj hb e1 e3 e4 e2
  unfold crV
  dsimp only
  go_enter Tryz.func63, Tryz.ntmps63
  go_upto_region 1 with fail
  refine wp_abs (fun W => Below w.heap.size w W ∧ BoxAt W w.heap.size #[.int .i64 c.st.rd, .int .i64 c.st.mo, .slice sA sN sK, .int .i64 c.st.fi, .int .i64 c.st.la, .slice hA bN hK, .slice jA bN jK, .slice bA bN bK, .int .i64 c.ck, .slice eA eN eK] 31 ∧ CrW lo hi W c (⟨⟨sA, sN, sK⟩, ⟨hA, bN, hK⟩, ⟨jA, bN, jK⟩, ⟨bA, bN, bK⟩, ⟨eA, eN, eK⟩⟩ : CrL)) ⟨(Below.refl _ _).alloc (Nat.le_refl _) _, BoxAt.new _ _ _, hW0.below ((Below.refl _ _).alloc (Nat.le_refl _) _) hh⟩ ?_
  clear hW0
  rintro W0 ⟨hB, hx, hW⟩
  have kx := hx.cell
  go_wp2
  clear kx
  go_loopw [9] (fun s9 W => ∃ i : Nat, i ≤ bN ∧ s9 = .int .i64 i ∧ Below w.heap.size w W ∧ BoxAt W w.heap.size #[.int .i64 c.st.rd, .int .i64 c.st.mo, .slice sA sN sK, .int .i64 c.st.fi, .int .i64 c.st.la, .slice hA bN hK, .slice jA bN jK, .slice bA bN bK, .int .i64 c.ck, .slice eA eN eK] 31 ∧ CrW lo hi W c (⟨⟨sA, sN, sK⟩, ⟨hA, bN, hK⟩, ⟨jA, bN, jK⟩, ⟨bA, bN, bK⟩, ⟨eA, eN, eK⟩⟩ : CrL) ∧ ∀ j, j < i → crAt c j = true) (fun s9 _ => bN - (intOf s9).toNat)
  case atStart => exact ⟨0, Nat.zero_le _, rfl, hB, hx, hW, fun j h => absurd h (by omega)⟩
  case round =>
    clear hB hx hW
    obtain ⟨i, hi_, rfl, hB, hx, hW, hal⟩ := hrel
    have HAL := Lib.hid hal; clear hal
    have hh1 := Nat.le_trans hh hB.size
    by_cases hlt : i < bN
    · obtain ⟨b1, h, e_, _, _, hh_, hc⟩ := SlW.at_ hW.h Hd.cs_len hlt
      dsimp only at e_
      subst e_
      have d0 := hc 0 _ rfl
      have d1 := hc 1 _ rfl
      have d2 := hc 2 _ rfl
      have d3 := hc 3 _ rfl
      have d4 := hc 4 _ rfl
      have d5 := hc 5 _ rfl
      have d6 := hc 6 _ rfl
      have d7 := hc 7 _ rfl
      have d8 := hc 8 _ rfl
      have d9 := hc 9 _ rfl
      have d10 := hc 10 _ rfl
      have d11 := hc 11 _ rfl
      rw [Nat.add_zero] at d0
      have HH := Lib.hid hh_; clear hh_ hc
      have g1 : (i : Int) < (bN : Int) := by omega
      have g2 : (0 : Int) ≤ (i : Int) := by omega
      have kx := hx.cell
      go_upto_region 4 with fail
      refine wp_abs (fun W => Below w.heap.size w W ∧ BoxAt W w.heap.size #[.int .i64 c.st.rd, .int .i64 c.st.mo, .slice sA sN sK, .int .i64 c.st.fi, .int .i64 c.st.la, .slice (some ⟨b1, 0, none⟩) bN hK, .slice jA bN jK, .slice bA bN bK, .int .i64 c.ck, .slice eA eN eK] 31 ∧ CrW lo hi W c (⟨⟨sA, sN, sK⟩, ⟨some ⟨b1, 0, none⟩, bN, hK⟩, ⟨jA, bN, jK⟩, ⟨bA, bN, bK⟩, ⟨eA, eN, eK⟩⟩ : CrL) ∧ BoxAt W wr.heap.size #[.int .i64 h.at_, .int .i64 h.v, .int .i64 h.r, .int .i64 h.t, .bool h.seen.s, .int .i64 h.seen.n, .bool h.seen.f, .int .i64 h.seen.v, .int .i64 h.tr, .int .i64 h.sp, .bool h.ag, .int .i64 h.re] 58) ⟨hB.alloc hB.size _, hx.alloc _, hW.below ((Below.refl _ _).alloc (Nat.le_refl _) _) hh1, BoxAt.new _ _ _⟩ ?_
      generalize wr.heap.size = XH at *
      clear hB hx hW kx d0 d1 d2 d3 d4 d5 d6 d7 d8 d9 d10 d11 hh1
      rintro W1 ⟨hB, hx, hW, hhx⟩
      obtain ⟨b2, z, e_, _, _, hz_, hcz⟩ := SlW.at_ hW.b ic_len hlt
      dsimp only at e_
      subst e_
      have z0 := hcz 0 _ rfl
      simp only [Nat.mul_one, Nat.add_zero] at z0
      have HZ := Lib.hid hz_; clear hz_ hcz
      have kx := hx.cell
      have kh := hhx.cell
      go_wp2_with fail
      clear kx kh hhx z0
      have hh1 := Nat.le_trans hh hB.size
      refine (ifits_any c.st sA sN sK lo hi h _ hW.s hh1 hn1 HPN.out).mono ?_
      rintro e w2 ⟨rfl, hb⟩
      replace hx := hx.below hb hx.lt
      replace hW := hW.below hb hh1
      replace hB := bstep hB hB.size hb
      clear hb hh1
      have hh1 := Nat.le_trans hh hB.size
      obtain ⟨b3, l, A', n', k', e_, _, _, hl_, hcl, hWl⟩ := hW.j.at_ hlt
      dsimp only at e_
      subst e_
      have HA := Lib.hid (crAt_is HH.out hl_ HZ.out)
      have hle : n' ≤ 1048576 := by have := HLL.out l (List.mem_of_getElem? hl_); have := hWl.1; omega
      clear hl_
      cases hfit : fits c.st h
      · have HN := Lib.hid (show crAt c i = false by rw [HA.out, hfit]; rfl)
        clear hfit
        go_wp2
        go_ret
        exact .mk (by rw [all_no (by rw [HL.out]; exact hlt) HN.out]; rfl) hB
      have HF := Lib.hid hfit; clear hfit
      have kx := hx.cell
      go_wp2_with fail
      clear kx hcl
      refine (ijobsOk_any l A' n' k' _ (IntsW.r hWl) (by omega)).mono ?_
      rintro e w3 ⟨rfl, hb⟩
      replace hx := hx.below hb hx.lt
      replace hW := hW.below hb hh1
      replace hB := bstep hB hB.size hb
      clear hb hh1 hWl
      cases hjb : jobsOk l
      · have HN := Lib.hid (show crAt c i = false by rw [HA.out, hjb]; simp)
        clear hjb
        go_wp2
        go_ret
        exact .mk (by rw [all_no (by rw [HL.out]; exact hlt) HN.out]; rfl) hB
      have HJ := Lib.hid hjb; clear hjb
      have HA2 := Lib.hid (show crAt c i = inB z 0 c.ck by rw [HA.out, HF.out, HJ.out]; simp)
      by_cases hz0 : z < 0
      · have HN := Lib.hid (show crAt c i = false by rw [HA2.out]; simp [inB]; omega)
        go_wp2
        go_ret
        exact .mk (by rw [all_no (by rw [HL.out]; exact hlt) HN.out]; rfl) hB
      have kx := hx.cell
      by_cases hz1 : z > c.ck
      · have HN := Lib.hid (show crAt c i = false by rw [HA2.out]; simp [inB]; omega)
        go_wp2
        go_ret
        exact .mk (by rw [all_no (by rw [HL.out]; exact hlt) HN.out]; rfl) hB
      · have HN := Lib.hid (show crAt c i = true by rw [HA2.out]; simp [inB]; omega)
        go_wp2
        clear kx
        go_roundw
        case rel => exact ⟨i + 1, by omega, by go_num, hB, hx, hW, fun j hj => by
          by_cases hji : j < i
          · exact HAL.out j hji
          · obtain rfl : j = i := by omega
            exact HN.out⟩
        case measure => simp [intOf]; omega
    · have g1 : ¬ (i : Int) < (bN : Int) := by omega
      go_wp2
      go_ret
      exact .mk (by rw [all_yes (fun j hj => HAL.out j (by have := HL.out; omega))]; rfl) hB

theorem crOk_is (c : Cr) : crOk c = (inB c.hs.length 1 4 && ((c.js.length == c.hs.length) && (c.bs.length == c.hs.length)) && inB c.ck 0 2000 && storyOk c.es && (List.range c.hs.length).all (crAt c)) := by
  cases hst : stOk c.st
  · have h1 : crOk c = false := by simp [crOk, crHead, hst]
    rw [h1]
    symm
    apply Bool.eq_false_iff.2
    intro h
    simp only [Bool.and_eq_true] at h
    obtain ⟨⟨⟨⟨hn, _⟩, _⟩, _⟩, ha⟩ := h
    have hn1 : 0 < c.hs.length := by simp [inB] at hn; omega
    have := List.all_eq_true.1 ha 0 (List.mem_range.2 hn1)
    simp [crAt, fits, hst] at this
  · simp [crOk, crHead, hst, Bool.and_assoc]

set_option maxRecDepth 100000 in
set_option maxHeartbeats 4000000 in
theorem icrewOk_any (c : Cr) (y : CrL) (lo hi : Nat) (w : World) (hW0 : CrW lo hi w c y) (hh : hi ≤ w.heap.size) (hf : CrFit c) :
    Calls Tryz.prog 30 #[crV c y] w (RetBelow (.bool (crOk c)) w) := by
  obtain ⟨⟨sA, sN, sK⟩, ⟨hA, hN, hK⟩, ⟨jA, jN, jK⟩, ⟨bA, bN, bK⟩, ⟨eA, eN, eK⟩⟩ := y
  have e2 : c.hs.length = hN := hW0.h.1
  have e3 : c.js.length = jN := hW0.j.len
  have e4 : c.bs.length = bN := hW0.b.1
  have e5 : c.es.length = eN := hW0.e.1
  have hm5 : eN ≤ 1048576 := by have := hf.e; omega
  have HV := Lib.hid (crOk_is c)
  have HM := Lib.hid (fun W => asMany_any c ⟨⟨sA, sN, sK⟩, ⟨hA, hN, hK⟩, ⟨jA, jN, jK⟩, ⟨bA, bN, bK⟩, ⟨eA, eN, eK⟩⟩ W e3 e2 e4)
  have HH := Lib.hid (fun W hW hs h1 h2 => handsOk_any c ⟨⟨sA, sN, sK⟩, ⟨hA, hN, hK⟩, ⟨jA, jN, jK⟩, ⟨bA, bN, bK⟩, ⟨eA, eN, eK⟩⟩ lo hi W hW hs hf h1 h2)
  have HL := Lib.hid e2
  clear e2 e3 e4 e5 hf
  unfold crV
  dsimp only
  go_enter Tryz.func30, Tryz.ntmps30
  go_wp2_with fail
  refine calls_abs (fun W => Below w.heap.size w W ∧ BoxAt W w.heap.size #[.int .i64 c.st.rd, .int .i64 c.st.mo, .slice sA sN sK, .int .i64 c.st.fi, .int .i64 c.st.la, .slice hA hN hK, .slice jA jN jK, .slice bA bN bK, .int .i64 c.ck, .slice eA eN eK] 31 ∧ CrW lo hi W c (⟨⟨sA, sN, sK⟩, ⟨hA, hN, hK⟩, ⟨jA, jN, jK⟩, ⟨bA, bN, bK⟩, ⟨eA, eN, eK⟩⟩ : CrL)) ⟨(Below.refl _ _).alloc (Nat.le_refl _) _, BoxAt.new _ _ _, hW0.below ((Below.refl _ _).alloc (Nat.le_refl _) _) hh⟩ ?_
  clear hW0
  rintro W0 ⟨hB, hx, hW⟩
  refine (isHandCount_any hN _).mono ?_
  rintro e w1 ⟨rfl, rfl⟩
  cases h1 : inB (hN : Int) 1 4
  · have HQ := Lib.hid (show crOk c = false by rw [HV.out, HL.out, h1]; rfl)
    clear h1
    go_wp2
    go_ret
    exact .mk (by rw [HQ.out]; rfl) hB
  have H1 := Lib.hid (show inB (c.hs.length : Int) 1 4 = true by rw [HL.out]; exact h1)
  clear h1
  have kx := hx.cell
  go_wp2_with fail
  clear kx
  refine (HM.out _).mono ?_
  rintro e w2 ⟨rfl, hb⟩
  replace hx := hx.below hb hx.lt
  replace hW := hW.below hb (Nat.le_trans hh hB.size)
  replace hB := bstep hB hB.size hb
  clear hb
  cases h2 : ((c.js.length == c.hs.length) && (c.bs.length == c.hs.length))
  · have HQ := Lib.hid (show crOk c = false by rw [HV.out, h2]; simp)
    clear h2
    go_wp2
    go_ret
    exact .mk (by rw [HQ.out]; rfl) hB
  have H2 := Lib.hid h2
  clear h2
  have kx := hx.cell
  go_wp2_with fail
  clear kx
  refine (isClock_any c.ck _).mono ?_
  rintro e w3 ⟨rfl, rfl⟩
  cases h3 : inB c.ck 0 2000
  · have HQ := Lib.hid (show crOk c = false by rw [HV.out, h3]; simp)
    clear h3
    go_wp2
    go_ret
    exact .mk (by rw [HQ.out]; rfl) hB
  have H3 := Lib.hid h3
  clear h3
  have kx := hx.cell
  go_wp2_with fail
  clear kx
  refine (istory_any c.es eA eN eK _ (EvsW.r hW.e) hm5).mono ?_
  rintro e w4 ⟨rfl, hb⟩
  replace hx := hx.below hb hx.lt
  replace hW := hW.below hb (Nat.le_trans hh hB.size)
  replace hB := bstep hB hB.size hb
  clear hb
  cases h4 : storyOk c.es
  · have HQ := Lib.hid (show crOk c = false by rw [HV.out, h4]; simp)
    clear h4
    go_wp2
    go_ret
    exact .mk (by rw [HQ.out]; rfl) hB
  have H4 := Lib.hid h4
  clear h4
  have h5 := H2.out
  simp only [Bool.and_eq_true, beq_iff_eq] at h5
  have HQ := Lib.hid (show crOk c = (List.range c.hs.length).all (crAt c) by rw [HV.out, H1.out, H2.out, H3.out, H4.out]; rfl)
  have kx := hx.cell
  have HC := HH.out _ hW (Nat.le_trans hh hB.size) h5.1 h5.2
  clear h5
  go_wp2_with fail
  clear kx
  refine HC.mono ?_
  rintro e w5 ⟨rfl, hb⟩
  replace hB := bstep hB hB.size hb
  rw [← HQ.out]
  go_wp2
  go_ret
  exact .mk rfl hB

end Go.Proofs.YtomfaabifpndbaaGreat

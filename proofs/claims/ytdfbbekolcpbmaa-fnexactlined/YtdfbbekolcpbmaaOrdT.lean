/-
  The model's count of orders, and its Lined and Orders.
-/
import Derived.Test.YtdfbbekolcpbmaaOrdS
import Derived.Test.YtdfbbekolcpbmaaOrdH
namespace Go.Proofs.Ytdfbbekolcpbmaa
set_option linter.unusedSimpArgs false
set_option linter.unusedVariables false
open Go.RowKit
set_option linter.unusedVariables false
attribute [local go_sem ↓] Go.wp_at_zero Go.wp_at_succ

theorem rank_succ (m i : Nat) : rank m (i + 1) = rank m i + m / 2 ^ i % 2 := rfl
theorem rank_mono {m i j : Nat} (h : i ≤ j) : rank m i ≤ rank m j := by
  induction j with
  | zero => obtain rfl : i = 0 := by omega
            exact Nat.le_refl _
  | succ j ih =>
    by_cases e : i = j + 1
    · subst e; exact Nat.le_refl _
    · have := ih (by omega)
      rw [rank_succ]; omega
/-- What the count is after i places. -/
def upTo (k : Nat) (l : List Ev) (m : Nat) (line : List Int) (i : Nat) : Nat := sumN (stepN (cntO k) (pick l m) line) (rank m i)
theorem upTo_all {k : Nat} {l : List Ev} {m : Nat} {line : List Int} : upTo k l m line l.length = cntO (k + 1) (pick l m) line := by
  unfold upTo; rw [← pick_len]; rfl
theorem upTo_le {k : Nat} {l : List Ev} {m : Nat} {line : List Int} {i j : Nat} (h : i ≤ j) : upTo k l m line i ≤ upTo k l m line j := sumN_mono (rank_mono h)
theorem upTo_none {k : Nat} {l : List Ev} {m : Nat} {line : List Int} {i : Nat} {x : Ev} (hx : l[i]? = some x) (h : ((explains line x).2 && maskNext l m i x) = false) : upTo k l m line (i + 1) = upTo k l m line i := by
  unfold upTo
  rw [rank_succ]
  by_cases hb : m / 2 ^ i % 2 = 1
  · rw [hb, sumN, stepN_at (x := x) (by rw [pick_at l m i hb (List.getElem?_eq_some_iff.1 hx).1]; exact hx)]
    have : ((explains line x).2 && nextB (pick l m) x) = false := by
      unfold maskNext at h
      simpa [hb] using h
    rw [this]; rfl
  · rw [show m / 2 ^ i % 2 = 0 by omega]; rfl
theorem upTo_some {k : Nat} {l : List Ev} {m : Nat} {line : List Int} {i : Nat} {x : Ev} (hx : l[i]? = some x) (h1 : (explains line x).2 = true) (h2 : maskNext l m i x = true) :
    upTo k l m line (i + 1) = upTo k l m line i + cntO k (pick l (m - 2 ^ i)) (explains line x).1 := by
  have hi := (List.getElem?_eq_some_iff.1 hx).1
  unfold maskNext at h2
  simp only [Bool.and_eq_true, decide_eq_true_eq] at h2
  unfold upTo
  rw [rank_succ, h2.1, sumN, stepN_at (x := x) (by rw [pick_at l m i h2.1 hi]; exact hx), h1, h2.2, pick_del l m i h2.1 hi]
  rfl
theorem del_len {k : Nat} {l : List Ev} {m i : Nat} {x : Ev} (hx : l[i]? = some x) (h2 : maskNext l m i x = true) (hk : (pick l m).length = k + 1) : (pick l (m - 2 ^ i)).length = k := by
  have hi := (List.getElem?_eq_some_iff.1 hx).1
  unfold maskNext at h2
  simp only [Bool.and_eq_true, decide_eq_true_eq] at h2
  have h3 := (List.getElem?_eq_some_iff.1 ((pick_at l m i h2.1 hi).trans hx)).1
  rw [pick_del l m i h2.1 hi, List.length_eraseIdx]
  simp [h3]; omega
theorem mask_bit {l : List Ev} {m i : Nat} {x : Ev} (h2 : maskNext l m i x = true) : 2 ^ i ≤ m := by
  unfold maskNext at h2
  simp only [Bool.and_eq_true, decide_eq_true_eq] at h2
  exact pick_sub (l := l) h2.1
theorem mask_wrap {m i : Nat} (h : 2 ^ i ≤ m) (hm : m < 65536) : ((m - 2 ^ i : Nat) : Int) = wrap64 ((m : Int) - wrap64 (2 ^ i)) := by
  have hpc : ((2 : Int) ^ i) = ((2 ^ i : Nat) : Int) := by push_cast; rfl
  rw [hpc]
  generalize 2 ^ i = q at *
  unfold wrap64; omega
theorem pow_le16 {i : Nat} (h : i ≤ 16) : 2 ^ i ≤ 65536 := Nat.pow_le_pow_right (n := 2) (by omega) h

set_option maxRecDepth 100000 in
set_option maxHeartbeats 2000000 in
theorem scount_any : ∀ (k : Nat) (l : List Ev) (m : Nat) (line : List Int) (A : Option Addr) (n cap : Nat) (B : Option Addr) (nb cb lo hi most : Nat) (w : World),
    EvsR w A n l → n ≤ 15 → (∀ x ∈ l, x.b ≤ x.e) → m < 2 ^ n → (pick l m).length = k → IntsW lo hi w B nb cb line → hi ≤ w.heap.size → nb ≤ 4096 → 1 ≤ most → most ≤ 1000 →
    Calls Try.prog 13 #[.slice A n cap, .int .i64 (m : Int), .slice B nb cb, .int .i64 (most : Int)] w (RetBelow (.int .i64 ((min (cntO k (pick l m) line) most : Nat) : Int)) w) := by
  intro k
  induction k with
  | zero =>
    intro l m line A n cap B nb cb lo hi most w hl hn hst hm hk hL hh hnb h1 h2
    have hm0 : m = 0 := pick_nil (l := l) (by rw [hl.1]; exact hm) (List.eq_nil_of_length_eq_zero hk)
    subst hm0
    have HR := Lib.hid (show min (cntO 0 (pick l 0) line) most = 1 by show min 1 most = 1; omega)
    go_enter Try.func13, Try.ntmps13
    go_wp2
    go_ret
    exact .mk (by rw [HR.out]; rfl) (Below.refl _ _)
  | succ k ih =>
    intro l m line A n cap B nb cb lo hi most w hl hn hst hm hk hL hh hnb h1 h2
    have hm0 : ¬ (m : Int) = 0 := by
      intro e
      have : m = 0 := by omega
      subst this
      rw [pick_zero] at hk; simp at hk
    have HL := Lib.hid hl.1
    have HK := Lib.hid hk
    have hm16 : m < 65536 := Nat.lt_of_lt_of_le hm (pow_le16 (by omega))
    have HM := Lib.hid hm
    have HST := Lib.hid hst
    clear hk hm hst
    have hl0 := hl
    have hL0 := hL
    go_enter Try.func13, Try.ntmps13
    go_wp2
    obtain ⟨b14, hb14⟩ : ∃ b14, Value.bool ((m : Int) == 0) = b14 := ⟨_, rfl⟩
    rw [hb14]
    clear hb14 hm0
    go_loopw [9, 10] (fun s9 s10 W => ∃ i : Nat, i ≤ n ∧ s10 = .int .i64 i ∧ s9 = .int .i64 ((min (upTo k l m line i) most : Nat) : Int) ∧ Below w.heap.size w W) (fun _ s10 _ => n - (intOf s10).toNat)
    case atStart => exact ⟨0, Nat.zero_le _, rfl, by show _ = Value.int .i64 ((min 0 most : Nat) : Int); simp, Below.refl _ _⟩
    case round =>
      obtain ⟨i, hin, rfl, rfl, hB⟩ := hrel
      by_cases hlt : i < n
      · have g1 : (i : Int) < (n : Int) := by omega
        have g2 : (0 : Int) ≤ (i : Int) := by omega
        by_cases hmo : upTo k l m line i < most
        · have hc : min (upTo k l m line i) most = upTo k l m line i := Nat.min_eq_left (by omega)
          rw [hc]
          have g3 : ((upTo k l m line i : Nat) : Int) < (most : Int) := by omega
          obtain ⟨b, o, x, rfl, _, hx, hE⟩ := SlE.at_ (hl0.below hB) hlt
          have HX := Lib.hid hx
          have hsx : x.b ≤ x.e := HST.out x (List.mem_of_getElem? hx)
          go_wp2_with fail
          refine (snext_any l x b o n cap m i wr (hl0.below hB) (by omega) hm16 hlt hx hsx).mono ?_
          clear hx hsx hE
          rintro e w1 ⟨rfl, hb1⟩
          replace hB := bstep hB hB.size hb1
          clear hb1
          cases hmk : maskNext l m i x
          · have HU := Lib.hid (upTo_none (k := k) (line := line) HX.out (by rw [hmk, Bool.and_false]))
            clear hmk
            go_wp2
            go_roundw
            case rel => exact ⟨i + 1, by omega, by go_num, by rw [HU.out, hc], hB⟩
            case measure => simp [intOf]; omega
          · have HMK := Lib.hid hmk
            clear hmk
            obtain ⟨c0, c1, c2, c3, c4, c5⟩ := ev_cells (hl0.below hB) hlt HX.out
            go_wp2_with fail
            refine (sexplains_any line x B nb cb lo hi w1 (SlW.below hL0 hB hh) (Nat.le_trans hh hB.size) (by omega)).mono ?_
            clear c0 c1 c2 c3 c4 c5
            obtain ⟨th, is, hq⟩ : ∃ th is, explains line x = (th, is) := ⟨_, _, rfl⟩
            have HQ := Lib.hid hq
            rw [hq]
            clear hq
            rintro e w2 ⟨C, cc, rfl, hT, hb2⟩
            simp only at hT
            have hs2 := hb2.size
            replace hB := bstep hB hB.size hb2
            clear hb2
            cases is
            · have HU := Lib.hid (upTo_none (k := k) (m := m) HX.out (by rw [HQ.out]; rfl))
              go_wp2
              go_roundw
              case rel => exact ⟨i + 1, by omega, by go_num, by rw [HU.out, hc], hB⟩
              case measure => simp [intOf]; omega
            · have hth : th.length ≤ 41 := by have := ex_small (l := line) (x := x) (by rw [HQ.out]); rw [HQ.out] at this; exact this
              have HU := Lib.hid (upTo_some (k := k) HX.out (by rw [HQ.out]) HMK.out)
              have hbit := mask_bit HMK.out
              have hp := pow_le16 (i := i) (by omega)
              have hwu : IntKind.u64.wrap (i : Int) = (i : Int) := by rw [IntKind.wrap_u64]; omega
              have hm' : m - 2 ^ i < 2 ^ n := Nat.lt_of_le_of_lt (Nat.sub_le _ _) HM.out
              have hmost : 1 ≤ most - upTo k l m line i := by omega
              have hIH := ih l (m - 2 ^ i) th (some ⟨b, o, none⟩) n cap C th.length cc _ _ (most - upTo k l m line i) w2 (hl0.below hB) hn HST.out hm' (del_len HX.out HMK.out HK.out) hT (Nat.le_refl _) (by omega) hmost (by omega)
              have e1 := mask_wrap hbit hm16
              have e2 : ((most - upTo k l m line i : Nat) : Int) = (most : Int) - (upTo k l m line i : Nat) := by omega
              rw [e1, e2] at hIH
              have HC := Lib.hid hIH
              have HS := Lib.hid (show (upTo k l m line i : Int) + ((min (cntO k (pick l (m - 2 ^ i)) th) (most - upTo k l m line i) : Nat) : Int) = ((min (upTo k l m line (i + 1)) most : Nat) : Int) by rw [HU.out, HQ.out]; simp only; omega)
              have hcx : min (cntO k (pick l (m - 2 ^ i)) th) (most - upTo k l m line i) ≤ 1000 := by omega
              have hux : upTo k l m line i ≤ 1000 := by omega
              clear hIH e1 e2 hp hbit
              go_wp2_with fail
              refine (HC.out).mono ?_
              rintro e w3 ⟨rfl, hb3⟩
              replace hB := bstep hB hB.size hb3
              clear hb3
              obtain ⟨cx, hcg⟩ : ∃ cx, min (cntO k (pick l (m - 2 ^ i)) th) (most - upTo k l m line i) = cx := ⟨_, rfl⟩
              rw [hcg] at hcx HS ⊢
              clear hcg
              go_wp2
              go_roundw
              case rel => exact ⟨i + 1, by omega, by go_num, by rw [← HS.out], hB⟩
              case measure => simp [intOf]; omega
        · have hc : min (upTo k l m line i) most = most := Nat.min_eq_right (by omega)
          have HR := Lib.hid (show min (cntO (k + 1) (pick l m) line) most = most by
            rw [← upTo_all, HL.out]
            have := upTo_le (k := k) (l := l) (m := m) (line := line) (show i ≤ n by omega)
            omega)
          rw [hc]
          go_wp2
          go_ret
          exact .mk (by rw [HR.out]; rfl) hB
      · have g1 : ¬ (i : Int) < (n : Int) := by omega
        obtain rfl : n = i := by omega
        have HR := Lib.hid (show cntO (k + 1) (pick l m) line = upTo k l m line n by rw [← upTo_all, HL.out])
        go_wp2
        go_ret
        exact .mk (by rw [HR.out]; rfl) hB

theorem mask_full {n : Nat} (h : n ≤ 15) : wrap64 (wrap64 (2 ^ n) - 1) = ((2 ^ n - 1 : Nat) : Int) := by
  have hpc : ((2 : Int) ^ n) = ((2 ^ n : Nat) : Int) := by push_cast; rfl
  have h1 := pow_le16 (i := n) (by omega)
  have h0 : 0 < 2 ^ n := Nat.pow_pos (by omega)
  rw [hpc]
  generalize 2 ^ n = q at *
  unfold wrap64; omega

theorem story_be {l : List Ev} (h : storyOk l = true) : ∀ x ∈ l, x.b ≤ x.e := fun x hx => by
  simp only [storyOk, Bool.and_eq_true, List.all_eq_true] at h
  have h2 := h.1 x hx
  simp only [evOk, inB, Bool.and_eq_true, decide_eq_true_eq] at h2
  omega

set_option maxRecDepth 100000 in
set_option maxHeartbeats 2000000 in
theorem slined_any (l : List Ev) (A : Option Addr) (n cap : Nat) (w : World) (h : EvsR w A n l) (hn : n ≤ 1048576) :
    Calls Try.prog 6 #[.slice A n cap] w (RetBelow (.bool (linedB l)) w) := by
  have HL := Lib.hid h.1
  go_enter Try.func6, Try.ntmps6
  go_wp2_with fail
  refine (sstory_any l A n cap _ h hn).mono ?_
  rintro e w1 ⟨rfl, hb1⟩
  cases hok : storyOk l
  · have HQ := Lib.hid (show linedB l = false by unfold linedB; rw [hok, Bool.and_false]; rfl)
    clear hok
    go_wp2
    go_ret
    exact .mk (by rw [HQ.out]; rfl) hb1
  · have HOK := Lib.hid hok
    clear hok
    by_cases h8 : (n : Int) > 8
    · have HQ := Lib.hid (show linedB l = false by unfold linedB; rw [HL.out]; simp; omega)
      go_wp2
      go_ret
      exact .mk (by rw [HQ.out]; rfl) hb1
    · have HQ := Lib.hid (show linedB l = decide (0 < cntO l.length l []) by unfold linedB; rw [HOK.out, HL.out]; simp; omega)
      have hwu : IntKind.u64.wrap (n : Int) = (n : Int) := by rw [IntKind.wrap_u64]; omega
      have hl1 := h.below hb1
      have hi0 := ints_none (w := w1) (Below.refl w1.heap.size w1)
      have hC := scount_any n l (2 ^ n - 1) [] A n cap (some ⟨w1.heap.size, 0, none⟩) 0 0 _ _ 1 (w1.alloc (.cells #[] 2)) (hl1.below ((Below.refl _ _).alloc (Nat.le_refl _) _)) (by omega) (story_be HOK.out) (by have := Nat.pow_pos (n := n) (show 0 < 2 by omega); omega) (by have := HL.out; rw [← this, pick_all]) hi0 (Nat.le_refl _) (by omega) (by omega) (by omega)
      rw [← mask_full (n := n) (by omega)] at hC
      have HC := Lib.hid hC
      have HP := Lib.hid (show pick l (2 ^ n - 1) = l by rw [← HL.out, pick_all])
      clear hC hi0
      go_wp2_with fail
      refine (HC.out).mono ?_
      rintro e w2 ⟨rfl, hb2⟩
      rw [HP.out]
      have hB := bstep hb1 hb1.size (bstep ((Below.refl _ _).alloc (Nat.le_refl _) _) (by simp) hb2)
      have HLl := HL.out
      by_cases hc : 0 < cntO n l []
      · have hm : min (cntO n l []) 1 = 1 := by omega
        rw [hm]
        go_wp2
        go_ret
        exact .mk (by rw [HQ.out, HLl]; simp; omega) hB
      · have hm : min (cntO n l []) 1 = 0 := by omega
        rw [hm]
        go_wp2
        go_ret
        exact .mk (by rw [HQ.out, HLl]; simp; omega) hB

set_option maxRecDepth 100000 in
set_option maxHeartbeats 2000000 in
theorem sorders_any (l : List Ev) (A : Option Addr) (n cap : Nat) (w : World) (h : EvsR w A n l) (hn : n ≤ 1048576) :
    Calls Try.prog 10 #[.slice A n cap] w (RetBelow (.int .i64 (ordersZ l)) w) := by
  have HL := Lib.hid h.1
  go_enter Try.func10, Try.ntmps10
  go_wp2_with fail
  refine (sstory_any l A n cap _ h hn).mono ?_
  rintro e w1 ⟨rfl, hb1⟩
  cases hok : storyOk l
  · have HQ := Lib.hid (show ordersZ l = -1 by unfold ordersZ; rw [hok, Bool.and_false]; rfl)
    clear hok
    go_wp2
    go_ret
    exact .mk (by rw [HQ.out]; rfl) hb1
  · have HOK := Lib.hid hok
    clear hok
    by_cases h8 : (n : Int) > 6
    · have HQ := Lib.hid (show ordersZ l = -1 by unfold ordersZ; rw [HL.out, show decide (n ≤ 6) = false by simp; omega]; rfl)
      go_wp2
      go_ret
      exact .mk (by rw [HQ.out]; rfl) hb1
    · have HQ := Lib.hid (show ordersZ l = (cntO l.length l [] : Int) by unfold ordersZ; rw [HOK.out, HL.out, show decide (n ≤ 6) = true by simp; omega]; rfl)
      have hwu : IntKind.u64.wrap (n : Int) = (n : Int) := by rw [IntKind.wrap_u64]; omega
      have hl1 := h.below hb1
      have hi0 := ints_none (w := w1) (Below.refl w1.heap.size w1)
      have hC := scount_any n l (2 ^ n - 1) [] A n cap (some ⟨w1.heap.size, 0, none⟩) 0 0 _ _ 1000 (w1.alloc (.cells #[] 2)) (hl1.below ((Below.refl _ _).alloc (Nat.le_refl _) _)) (by omega) (story_be HOK.out) (by have := Nat.pow_pos (n := n) (show 0 < 2 by omega); omega) (by have := HL.out; rw [← this, pick_all]) hi0 (Nat.le_refl _) (by omega) (by omega) (by omega)
      rw [← mask_full (n := n) (by omega)] at hC
      have HC := Lib.hid hC
      have HP := Lib.hid (show pick l (2 ^ n - 1) = l by rw [← HL.out, pick_all])
      clear hC hi0
      go_wp2_with fail
      refine (HC.out).mono ?_
      rintro e w2 ⟨rfl, hb2⟩
      rw [HP.out]
      have hB := bstep hb1 hb1.size (bstep ((Below.refl _ _).alloc (Nat.le_refl _) _) (by simp) hb2)
      have HLl := HL.out
      have hm : min (cntO n l []) 1000 = cntO n l [] := Nat.min_eq_left (by
        have h1 := cntO_le n l [] HLl
        have : n = 0 ∨ n = 1 ∨ n = 2 ∨ n = 3 ∨ n = 4 ∨ n = 5 ∨ n = 6 := by omega
        rcases this with e | e | e | e | e | e | e <;> rw [e] at h1 ⊢ <;> exact Nat.le_trans h1 (by decide))
      rw [hm]
      go_wp2
      go_ret
      exact .mk (by rw [HQ.out, HLl]; rfl) hB

end Go.Proofs.Ytdfbbekolcpbmaa

/-
  The walk of the law on lines.
-/
import Derived.Test.YtkkfpmoniihciaaLinC
import Derived.Test.YtkkfpmoniihciaaLinE
import Derived.Test.YtkkfpmoniihciaaLikI
namespace Go.Proofs.Ytkkfpmoniihciaa
set_option linter.unusedSimpArgs false
set_option linter.unusedVariables false
open Go.RowKit
set_option linter.unusedVariables false
attribute [local go_sem ↓] Go.wp_at_zero Go.wp_at_succ

/-- A list of the call's own, wherever it lies. -/
def LnX (w : World) (A : Option Addr) (n cap : Nat) (l : List Int) : Prop := ∃ lo hi, hi ≤ w.heap.size ∧ IntsW lo hi w A n cap l
theorem LnX.below {w w' : World} {A : Option Addr} {n cap : Nat} {l : List Int} (h : LnX w A n cap l) (hb : Below w.heap.size w w') : LnX w' A n cap l := by
  obtain ⟨lo, hi, hh, hW⟩ := h
  exact ⟨lo, hi, Nat.le_trans hh hb.size, SlW.below hW hb hh⟩
theorem LnX.ln {w : World} {A : Option Addr} {n cap : Nat} {l : List Int} (h : LnX w A n cap l) : LnR w A n cap l := by
  obtain ⟨lo, hi, hh, hW⟩ := h
  exact hW.ln
theorem LnX.r {w : World} {A : Option Addr} {n cap : Nat} {l : List Int} (h : LnX w A n cap l) : IntsR w A n l := h.ln.1
theorem LnX.of {lo : Nat} {w : World} {A : Option Addr} {n cap : Nat} {l : List Int} (h : IntsW lo w.heap.size w A n cap l) : LnX w A n cap l := ⟨_, _, Nat.le_refl _, h⟩
def RetXB (V : List Int) (b : Bool) (w : World) (e : Ending) (w' : World) : Prop := ∃ A cap, e = .returned (.tuple #[.slice A V.length cap, .bool b]) ∧ LnX w' A V.length cap V ∧ Below w.heap.size w w'
def RetXVB (V : List Int) (z : Int) (b : Bool) (w : World) (e : Ending) (w' : World) : Prop := ∃ A cap, e = .returned (.tuple #[.slice A V.length cap, .int .i64 z, .bool b]) ∧ LnX w' A V.length cap V ∧ Below w.heap.size w w'
theorem RetXB.of {q : List Int × Bool} {V : List Int} {b : Bool} (hq : q = (V, b)) {w w' : World} {e : Ending} (h : RetIntB q w e w') : RetXB V b w e w' := by
  subst hq
  obtain ⟨A, c, he, hW, hb⟩ := h
  exact ⟨A, c, he, .of hW, hb⟩
theorem RetXVB.of {q : List Int × Int × Bool} {V : List Int} {z : Int} {b : Bool} (hq : q = (V, z, b)) {w w' : World} {e : Ending} (h : RetIntVB q w e w') : RetXVB V z b w e w' := by
  subst hq
  obtain ⟨A, c, he, hW, hb⟩ := h
  exact ⟨A, c, he, .of hW, hb⟩
theorem ilineTake_x {l V : List Int} {z : Int} {b : Bool} (hq : lineTake l = (V, z, b)) (A : Option Addr) (n cap : Nat) (w : World) (h : LnX w A n cap l) (hn : n ≤ 1048576) :
    Calls Try.prog 13 #[.slice A n cap] w (RetXVB V z b w) := by
  obtain ⟨lo, hi, hh, hW⟩ := h
  exact (ilineTake_any l A n cap lo hi w hW hh hn).mono fun e w' h => RetXVB.of hq h
theorem slineTake_x {l V : List Int} {z : Int} {b : Bool} (hq : lineTake l = (V, z, b)) (A : Option Addr) (n cap : Nat) (w : World) (h : LnX w A n cap l) (hn : n ≤ 1048576) :
    Calls Try.prog 18 #[.slice A n cap] w (RetXVB V z b w) := by
  obtain ⟨lo, hi, hh, hW⟩ := h
  exact (slineTake_any l A n cap lo hi w hW hh hn).mono fun e w' h => RetXVB.of hq h

theorem put_no {l V : List Int} {v : Int} (h : linePut l v = (V, false)) (hl : lineOk l = true) : V = l := by
  rw [linePut, hl] at h
  cases hc : valB v && !decide (l.length = 40)
  · rw [hc] at h; injection h with h _; exact h.symm
  · rw [hc] at h; injection h with _ h; cases h
theorem put_yes {l V : List Int} {v : Int} (h : linePut l v = (V, true)) : V = l ++ [v] ∧ lineOk l = true ∧ lineOk (l ++ [v]) = true := by
  cases hl : lineOk l
  · rw [linePut, hl] at h; injection h with _ h; cases h
  · rw [linePut, hl] at h
    cases hc : valB v && !decide (l.length = 40)
    · rw [hc] at h; injection h with _ h; cases h
    · rw [hc] at h; injection h with h _; exact ⟨h.symm, rfl, by rw [lineOk_snoc hl, hc]⟩
theorem take_yes {l V : List Int} {z : Int} (h : lineTake l = (V, z, true)) : l = z :: V := by
  cases hl : lineOk l
  · unfold lineTake at h; rw [hl] at h; injection h with _ h; injection h with _ h; cases h
  · unfold lineTake at h; rw [hl] at h
    cases l with
    | nil => injection h with _ h; injection h with _ h; cases h
    | cons x t => injection h with h1 h; injection h with h2 _; rw [h1, h2]
theorem lineOk_drop {l : List Int} (h : lineOk l = true) (i : Nat) : lineOk (l.drop i) = true := by
  simp [lineOk] at h ⊢
  exact ⟨fun x hx => h.1 x (List.mem_of_mem_drop hx), by omega⟩
theorem take_drop {l : List Int} {i : Nat} {x : Int} (h : lineOk l = true) (hx : l[i]? = some x) : lineTake (l.drop i) = (l.drop (i + 1), x, true) := by
  have hl : i < l.length := (List.getElem?_eq_some_iff.1 hx).1
  have e : l.drop i = x :: l.drop (i + 1) := by
    rw [List.drop_eq_getElem_cons hl]
    have := List.getElem?_eq_getElem hl
    rw [hx] at this
    injection this with this
    rw [this]
  have h2 := lineOk_drop h i
  rw [e] at h2 ⊢
  unfold lineTake
  rw [h2]
  rfl

set_option maxRecDepth 100000 in
set_option maxHeartbeats 8000000 in
theorem fnLine_any (a0 : Option Addr) (len cap : Nat) (w : World) (hc : CodeOk w.heap.size w a0 len) :
    Calls Try.prog 3 #[.slice a0 len cap] w (RetBelow (.bool true) w) := by
  by_cases hbg : 4096 < (len : Int)
  · have hbg' : decide (4096 < (len : Int)) = true := decide_eq_true hbg
    go_enter Try.func3, Try.ntmps3
    go_wp2_with fail
    refine (big_any _ _ _ _).mono ?_
    rintro e w' ⟨rfl, rfl⟩
    go_wp2
    go_ret
    exact .mk rfl (Below.refl _ _)
  · have hbg' : decide (4096 < (len : Int)) = false := decide_eq_false hbg
    go_enter Try.func3, Try.ntmps3
    go_wp2_with fail
    refine (big_any _ _ _ _).mono ?_
    rintro e w' ⟨rfl, rfl⟩
    go_wp2_with fail
    refine (drawLinePut_any a0 len cap _ hc).mono ?_
    rintro e w1 ⟨l, A, c, v, rfl, hl44, hW, hB⟩
    have hl := LnX.of hW
    clear hW
    obtain ⟨V, b, hq⟩ : ∃ (V : List Int) (b : Bool), linePut l v = (V, b) := ⟨_, _, rfl⟩
    have hVn : V.length ≤ 45 := by
      have h1 : (linePut l v).1.length ≤ l.length + 1 := by
        unfold linePut
        cases lineOk l
        · simp
        · cases valB v && !decide (l.length = 40) <;> simp
      rw [hq] at h1; simp only at h1; omega
    have HQ := Lib.hid hq; clear hq
    go_wp2_with fail
    refine ((ilinePut_any l v A l.length c _ hl.ln (by omega)).mono fun e w' h => RetXB.of HQ.out h).mono ?_
    rintro e w2 ⟨A2, c2, rfl, hV, hb⟩
    replace hl := hl.below hb
    replace hB := bstep hB hB.size hb
    clear hb
    go_wp2_with fail
    refine (drawLineTake_any a0 len cap _ ⟨(hc.below hB).1, fun h => by obtain ⟨b, off, e, hN, hs, hx⟩ := (hc.below hB).2 h; exact ⟨b, off, e, hs, hs, hx⟩⟩).mono ?_
    rintro e w3 ⟨q, A3, c3, rfl, hq44, hW, hb⟩
    have hq := LnX.of hW
    clear hW
    replace hl := hl.below hb
    replace hV := hV.below hb
    replace hB := bstep hB hB.size hb
    clear hb
    obtain ⟨Y, z, f, hT⟩ : ∃ (Y : List Int) (z : Int) (f : Bool), lineTake q = (Y, z, f) := ⟨_, _, _, rfl⟩
    have hYn : Y.length ≤ 45 := by
      have h1 : (lineTake q).1.length ≤ q.length := by
        unfold lineTake
        cases lineOk q
        · simp
        · cases q <;> simp
      rw [hT] at h1; simp only at h1; omega
    have HT := Lib.hid hT; clear hT
    go_wp2_with fail
    refine (ilineTake_x HT.out A3 q.length c3 _ hq (by omega)).mono ?_
    rintro e w4 ⟨A4, c4, rfl, hY, hb⟩
    replace hl := hl.below hb
    replace hV := hV.below hb
    replace hq := hq.below hb
    replace hB := bstep hB hB.size hb
    clear hb
    go_wp2_with fail
    refine ((slinePut_any l v A l.length c _ hl.ln (by omega)).mono fun e w' h => RetXB.of HQ.out h).mono ?_
    rintro e w5 ⟨A5, c5, rfl, hV2, hb⟩
    replace hl := hl.below hb
    replace hV := hV.below hb
    replace hq := hq.below hb
    replace hY := hY.below hb
    replace hB := bstep hB hB.size hb
    clear hb
    go_wp2_with fail
    refine (likeInts_same A2 A5 V.length c2 c5 V _ hV.r hV2.r (by omega)).mono ?_
    rintro e w6 ⟨rfl, hb⟩
    replace hl := hl.below hb
    replace hV := hV.below hb
    replace hq := hq.below hb
    replace hY := hY.below hb
    replace hB := bstep hB hB.size hb
    clear hb hV2
    go_wp2_with fail
    refine (ilineOk_any l A l.length c _ hl.r (by omega)).mono ?_
    rintro e w7 ⟨rfl, hb⟩
    replace hl := hl.below hb
    replace hV := hV.below hb
    replace hq := hq.below hb
    replace hY := hY.below hb
    replace hB := bstep hB hB.size hb
    clear hb
    go_wp2_with fail
    refine (slineOk_any l A l.length c _ hl.r (by omega)).mono ?_
    rintro e w8 ⟨rfl, hb⟩
    replace hl := hl.below hb
    replace hV := hV.below hb
    replace hq := hq.below hb
    replace hY := hY.below hb
    replace hB := bstep hB hB.size hb
    clear hb
    obtain ⟨o, ho⟩ : ∃ o, lineOk l = o := ⟨_, rfl⟩
    rw [ho]
    have HO := Lib.hid ho; clear ho
    go_wp2_with fail
    refine (slineTake_x HT.out A3 q.length c3 _ hq (by omega)).mono ?_
    rintro e w9 ⟨A9, c9, rfl, hY2, hb⟩
    replace hl := hl.below hb
    replace hV := hV.below hb
    replace hq := hq.below hb
    replace hY := hY.below hb
    replace hB := bstep hB hB.size hb
    clear hb
    go_upto_region 11 with fail
    go_cut [7, 102] (fun _ u W' => Below w.heap.size w W' ∧ LnX W' A l.length c l ∧ LnX W' A2 V.length c2 V ∧ u = .bool false)
    case first =>
      go_wp2_with fail
      refine (likeInts_same A4 A9 Y.length c4 c9 Y _ hY.r hY2.r (by omega)).mono ?_
      rintro e w10 ⟨rfl, hb⟩
      replace hl := hl.below hb
      replace hV := hV.below hb
      replace hq := hq.below hb
      replace hY := hY.below hb
      replace hB := bstep hB hB.size hb
      clear hb hY2
      cases f
      · go_wp2
        go_meet
        exact ⟨hB, hl, hV, rfl⟩
      · obtain rfl := take_yes HT.out
        obtain ⟨lo, hi, hh, hW⟩ := hq
        obtain ⟨bq, x, rfl, _, _, hx, hcx⟩ := SlW.at_ hW ic_len (i := 0) (by simp)
        have hr := hW.r
        have d0 := hcx 0 _ rfl
        rw [Nat.zero_mul] at d0
        simp only [List.getElem?_cons_zero, Option.some.injEq] at hx
        subst hx
        clear hcx
        have hd : ∀ B, (B = some ⟨bq, 0, none⟩ ∧ Y.length = 0 ∨ B = some ⟨bq, 1, none⟩) → IntsR w10 B Y.length Y := fun B hB' => by
          have := hr.drop (k := 1) (B := B) fun b o e hk => by
            injection e with e
            injection e with e1 e2
            subst e1 e2
            rcases hB' with ⟨_, h0⟩ | h1
            · simp [h0] at hk
            · exact h1
          simpa using this
        have hc3 : Y.length + 1 ≤ c3 := by have := hW.ln.2.2; simpa using this
        have HD := Lib.hid hd; clear hd
        clear hW hr
        have g1 : (1 : Int) ≤ (Y.length : Int) + 1 := by omega
        go_wp2_with fail
        · refine (likeInts_same A4 _ Y.length c4 _ Y _ hY.r (HD.out _ (.inl ⟨rfl, by omega⟩)) (by omega)).mono ?_
          rintro e w11 ⟨rfl, hb⟩
          replace hl := hl.below hb
          replace hV := hV.below hb
          replace hY := hY.below hb
          replace hB := bstep hB hB.size hb
          clear hb
          go_wp2
          go_meet
          exact ⟨hB, hl, hV, rfl⟩
        · refine (likeInts_same A4 _ Y.length c4 _ Y _ hY.r (HD.out _ (.inr rfl)) (by omega)).mono ?_
          rintro e w11 ⟨rfl, hb⟩
          replace hl := hl.below hb
          replace hV := hV.below hb
          replace hY := hY.below hb
          replace hB := bstep hB hB.size hb
          clear hb
          go_wp2
          go_meet
          exact ⟨hB, hl, hV, rfl⟩
    case rest =>
      clear hB hl hV hq hY
      obtain ⟨hB, hl, hV, rfl⟩ := hcut
      cases b
      · go_wp2_with fail
        refine (slineOk_any l A l.length c _ hl.r (by omega)).mono ?_
        rintro e w12 ⟨rfl, hb⟩
        rw [HO.out]
        replace hl := hl.below hb
        replace hV := hV.below hb
        replace hB := bstep hB hB.size hb
        clear hb
        cases o
        · go_wp2
          go_ret
          exact .mk rfl hB
        · obtain rfl := put_no HQ.out HO.out
          go_wp2_with fail
          refine (likeInts_same A2 A _ c2 c _ _ hV.r hl.r (by omega)).mono ?_
          rintro e w13 ⟨rfl, hb⟩
          replace hl := hl.below hb
          replace hV := hV.below hb
          replace hB := bstep hB hB.size hb
          clear hb
          go_wp2
          go_ret
          exact .mk rfl hB
      · obtain ⟨hVe, _, hok2⟩ := put_yes HQ.out
        rw [← hVe] at hok2
        have HOK2 := Lib.hid hok2; clear hok2
        have hVl : V.length = l.length + 1 := by rw [hVe]; simp
        have HV0 := Lib.hid (show ∀ i x, l[i]? = some x → V[i]? = some x from fun i x h => by rw [hVe, List.getElem?_append_left (List.getElem?_eq_some_iff.1 h).1]; exact h)
        have HV1 := Lib.hid (show V[l.length]? = some v by rw [hVe]; simp)
        have HVL := Lib.hid hVl
        rw [hVl]
        rw [hVl] at hV
        clear hVe hVl
        go_wp2
        go_loopw [5, 16] (fun s5 s16 W => ∃ (i : Nat) (B : Option Addr) (d : Nat), i ≤ l.length ∧ s16 = .int .i64 i ∧ s5 = .slice B (l.length + 1 - i) d ∧ Below w.heap.size w W ∧ LnX W A l.length c l ∧ LnX W B (l.length + 1 - i) d (V.drop i)) (fun _ s16 _ => l.length - (intOf s16).toNat)
        case atStart => exact ⟨0, A2, c2, Nat.zero_le _, rfl, rfl, hB, hl, hV⟩
        case round =>
          clear hB hl hV
          obtain ⟨i, B, d, hi, rfl, rfl, hB, hl, hV⟩ := hrel
          by_cases hlt : i < l.length
          · obtain ⟨x, hx⟩ : ∃ x, l[i]? = some x := ⟨l[i], List.getElem?_eq_getElem hlt⟩
            have HX := Lib.hid hx; clear hx
            have g1 : (i : Int) < (l.length : Int) := by omega
            have g2 : (0 : Int) ≤ (i : Int) := by omega
            go_wp2_with fail
            refine (ilineTake_x (take_drop HOK2.out (HV0.out i x HX.out)) B (l.length + 1 - i) d _ hV (by omega)).mono ?_
            rintro e w14 ⟨B', d', rfl, hV', hb⟩
            have e2 : (V.drop (i + 1)).length = l.length + 1 - (i + 1) := by rw [List.length_drop, HVL.out]
            rw [e2] at hV'
            rw [e2]
            clear e2
            replace hl := hl.below hb
            replace hV := hV.below hb
            replace hB := bstep hB hB.size hb
            clear hb
            obtain ⟨bb, oo, x', rfl, _, hx', d0⟩ := SlE.at_ hl.r hlt
            rw [HX.out] at hx'
            injection hx' with hx'
            subst hx'
            unfold IE at d0
            rw [Nat.mul_one] at d0
            go_wp2
            go_roundw
            case rel => exact ⟨i + 1, B', d', by omega, by go_num, by rw [show l.length + 1 - (i + 1) = l.length - i by omega], hB, hl, hV'⟩
            case measure => simp [intOf]; omega
          · have g1 : ¬ (i : Int) < (l.length : Int) := by omega
            obtain rfl : i = l.length := by omega
            rw [show l.length + 1 - l.length = 1 by omega] at hV ⊢
            go_wp2_with fail
            refine (ilineTake_x (take_drop HOK2.out HV1.out) B 1 d _ hV (by omega)).mono ?_
            rintro e w14 ⟨B', d', rfl, hV', hb⟩
            have e2 : (V.drop (l.length + 1)).length = 0 := by rw [List.length_drop, HVL.out]; omega
            rw [e2]
            clear e2 hV'
            replace hl := hl.below hb
            replace hV := hV.below hb
            replace hB := bstep hB hB.size hb
            clear hb
            go_wp2
            go_ret
            exact .mk rfl hB

end Go.Proofs.Ytkkfpmoniihciaa

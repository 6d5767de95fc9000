/-
 The tests of events and of stories, of both sides.
-/
import Derived.Test.YtiiaimjlohpemaaGreatEvA
import Derived.Handy
namespace Go.Proofs.YtiiaimjlohpemaaGreat
set_option linter.unusedSimpArgs false
set_option linter.unusedVariables false
open Go.RowKit
set_option linter.unusedVariables false
attribute [local go_sem ↓] Go.wp_at_zero Go.wp_at_succ

def evOk (x : Ev) : Bool := inB x.who 0 3 && inB x.e 0 2000 && inB x.b 0 x.e && (bif x.put then valB x.v && (x.re == 1 || x.re == 2) else (x.re == 4 && valB x.v) || (x.re == 3 && x.v == 0))
def storyOk (l : List Ev) : Bool := l.all evOk && decide (l.length ≤ 16)

/-- The program's shape of an event. -/
def shV (put : Bool) (re v : Int) : Value :=
 if put = true ∧ re = 1 then .iface 95 (.agg #[v]) else if put = true ∧ re = 2 then .iface 96 (.agg #[v])
 else if put = false ∧ re = 4 then .iface 97 (.agg #[v]) else if put = false ∧ re = 3 then .iface 98 (.agg #[v]) else .iface 100 (.agg #[])

set_option maxHeartbeats 1000000 in
theorem shapeOf_any (x : Ev) (w : World) : Calls Tryz.prog 52 #[.agg #[x.who, x.put, x.v, x.re, x.b, x.e]] w (RetBelow (shV x.put x.re x.v) w) := by
 obtain ⟨who, put, v, re, b, en⟩ := x
 dsimp only
 cases put
 ·
  by_cases r4 : re = 4
  ·
   go_enter Tryz.func52, Tryz.ntmps52
   go_wp2
   go_ret
   exact .mk (by simp [shV, r4]) ((Below.refl _ _).alloc (Nat.le_refl _) _)
  ·
   by_cases r3 : re = 3
   all_goals
    go_enter Tryz.func52, Tryz.ntmps52
    go_wp2
    go_ret
    exact .mk (by simp [shV, r4, r3]) ((Below.refl _ _).alloc (Nat.le_refl _) _)
 ·
  by_cases r1 : re = 1
  ·
   go_enter Tryz.func52, Tryz.ntmps52
   go_wp2
   go_ret
   exact .mk (by simp [shV, r1]) ((Below.refl _ _).alloc (Nat.le_refl _) _)
  ·
   by_cases r2 : re = 2
   all_goals
    go_enter Tryz.func52, Tryz.ntmps52
    go_wp2
    go_ret
    exact .mk (by simp [shV, r1, r2]) ((Below.refl _ _).alloc (Nat.le_refl _) _)

set_option maxHeartbeats 400000 in
theorem parcelRight_any (v : Int) (w : World) : Calls Tryz.prog 123 #[.agg #[v]] w (RetBelow (.bool (valB v)) w) := by
 go_enter Tryz.func123, Tryz.ntmps123
 go_wp2_with fail
 refine (isValue_any _ _).mono ?_
 rintro e w' ⟨rfl, rfl⟩
 go_wp2
 go_ret
 exact .mk rfl ((Below.refl _ _).alloc (Nat.le_refl _) _)

set_option maxHeartbeats 400000 in
theorem gotNoneRight_any (v : Int) (w : World) : Calls Tryz.prog 125 #[.agg #[v]] w (RetBelow (.bool (v == 0)) w) := by
 go_enter Tryz.func125, Tryz.ntmps125
 go_wp2
 go_ret
 exact .mk rfl ((Below.refl _ _).alloc (Nat.le_refl _) _)

set_option maxHeartbeats 400000 in
theorem untoldRight_any (w : World) : Calls Tryz.prog 126 #[.agg #[]] w (RetBelow (.bool false) w) := by
 go_enter Tryz.func126, Tryz.ntmps126
 go_wp2
 go_ret
 exact .mk rfl ((Below.refl _ _).alloc (Nat.le_refl _) _)

set_option maxHeartbeats 400000 in
theorem isClock_any (z : Int) (w : World) : Calls Tryz.prog 51 #[z] w (Quiet1 (.bool (inB z 0 2000)) w) := by
 go_enter Tryz.func51, Tryz.ntmps51
 go_wp2
 all_goals
  go_ret
  exact ⟨by simp [inB, *] <;> omega, rfl⟩

set_option maxHeartbeats 1000000 in
theorem eventOk_any (x : Ev) (w : World) : Calls Tryz.prog 34 #[.agg #[x.who, x.put, x.v, x.re, x.b, x.e]] w (RetBelow (.bool (evOk x)) w) := by
 obtain ⟨who, put, v, re, b, en⟩ := x
 dsimp only
 go_enter Tryz.func34, Tryz.ntmps34
 by_cases h0 : 0 ≤ who
 ·
  by_cases h1 : who < 4
  ·
   by_cases h2 : 0 ≤ b
   ·
    by_cases h3 : b ≤ en
    ·
     go_wp2_with fail
     refine calls_abs (fun W => Below w.heap.size w W ∧ BoxAt W w.heap.size #[who, put, v, re, b, en] 32) ⟨(Below.refl _ _).alloc (Nat.le_refl _) _, BoxAt.new _ _ _⟩ ?_
     rintro W ⟨hB, hx⟩
     have kx := hx.cell
     refine (isClock_any _ _).mono ?_
     rintro e w' ⟨rfl, rfl⟩
     cases h4 : inB en 0 2000
     ·
      go_wp2
      go_ret
      exact .mk (by simp [evOk, h4]) hB
     have HE := Lib.hid (show evOk ⟨who, put, v, re, b, en⟩ = (bif put then valB v && (re == 1 || re == 2) else (re == 4 && valB v) || (re == 3 && v == 0)) by
      rw [show evOk ⟨who, put, v, re, b, en⟩ = (inB who 0 3 && inB en 0 2000 && inB b 0 en && (bif put then valB v && (re == 1 || re == 2) else (re == 4 && valB v) || (re == 3 && v == 0))) from rfl, h4, show inB who 0 3 = true by simp [inB]; omega, show inB b 0 en = true by simp [inB]; omega]; rfl)
     clear h4
     go_wp2_with fail
     refine (shapeOf_any ⟨who, put, v, re, b, en⟩ _).mono ?_
     rintro e w1 ⟨rfl, hb1⟩
     replace hB := bstep hB hB.size hb1
     clear hb1 kx hx
     dsimp only
     cases put
     ·
      by_cases r4 : re = 4
      ·
       rw [show shV false re v = .iface 97 (.agg #[v]) by simp [shV, r4]]
       go_wp2_with fail
       refine (parcelRight_any _ _).mono ?_
       rintro e w2 ⟨rfl, hb2⟩
       go_wp2
       go_ret
       exact .mk (by rw [HE.out, r4]; simp) (bstep hB hB.size hb2)
      ·
       by_cases r3 : re = 3
       ·
        rw [show shV false re v = .iface 98 (.agg #[v]) by simp [shV, r3]]
        go_wp2_with fail
        refine (gotNoneRight_any _ _).mono ?_
        rintro e w2 ⟨rfl, hb2⟩
        go_wp2
        go_ret
        exact .mk (by rw [HE.out, r3]; simp) (bstep hB hB.size hb2)
       ·
        rw [show shV false re v = .iface 100 (.agg #[]) by simp [shV, r3, r4]]
        go_wp2_with fail
        refine (untoldRight_any _).mono ?_
        rintro e w2 ⟨rfl, hb2⟩
        go_wp2
        go_ret
        exact .mk (by rw [HE.out]; simp [r3, r4]) (bstep hB hB.size hb2)
     ·
      by_cases r1 : re = 1
      ·
       rw [show shV true re v = .iface 95 (.agg #[v]) by simp [shV, r1]]
       go_wp2_with fail
       refine (parcelRight_any _ _).mono ?_
       rintro e w2 ⟨rfl, hb2⟩
       go_wp2
       go_ret
       exact .mk (by rw [HE.out, r1]; simp) (bstep hB hB.size hb2)
      ·
       by_cases r2 : re = 2
       ·
        rw [show shV true re v = .iface 96 (.agg #[v]) by simp [shV, r2]]
        go_wp2_with fail
        refine (parcelRight_any _ _).mono ?_
        rintro e w2 ⟨rfl, hb2⟩
        go_wp2
        go_ret
        exact .mk (by rw [HE.out, r2]; simp) (bstep hB hB.size hb2)
       ·
        rw [show shV true re v = .iface 100 (.agg #[]) by simp [shV, r1, r2]]
        go_wp2_with fail
        refine (untoldRight_any _).mono ?_
        rintro e w2 ⟨rfl, hb2⟩
        go_wp2
        go_ret
        exact .mk (by rw [HE.out]; simp [r1, r2]) (bstep hB hB.size hb2)
    ·
     go_wp2
     go_ret
     exact .mk (by simp [evOk, show inB b 0 en = false by simp [inB]; omega]) ((Below.refl _ _).alloc (Nat.le_refl _) _)
   ·
    go_wp2
    go_ret
    exact .mk (by simp [evOk, show inB b 0 en = false by simp [inB]; omega]) ((Below.refl _ _).alloc (Nat.le_refl _) _)
  ·
   go_wp2
   go_ret
   exact .mk (by simp [evOk, show inB who 0 3 = false by simp [inB]; omega]) ((Below.refl _ _).alloc (Nat.le_refl _) _)
 ·
  go_wp2
  go_ret
  exact .mk (by simp [evOk, show inB who 0 3 = false by simp [inB]; omega]) ((Below.refl _ _).alloc (Nat.le_refl _) _)

set_option maxHeartbeats 1000000 in
theorem l10Event_any (x : Ev) (w : World) : Calls Tryz.prog 30 #[.agg #[x.who, x.put, x.v, x.re, x.b, x.e]] w (RetBelow (.bool (evOk x)) w) := by
 obtain ⟨who, put, v, re, b, en⟩ := x
 dsimp only
 go_enter Tryz.func30, Tryz.ntmps30
 go_wp2_with fail
 refine calls_abs (fun W => Below w.heap.size w W ∧ BoxAt W w.heap.size #[who, put, v, re, b, en] 32) ⟨(Below.refl _ _).alloc (Nat.le_refl _) _, BoxAt.new _ _ _⟩ ?_
 rintro W ⟨hB, hx⟩
 have kx := hx.cell
 refine (l1In_any _ _ _ _).mono ?_
 rintro e w' ⟨rfl, rfl⟩
 cases h0 : inB who 0 3
 ·
  go_wp2
  go_ret
  exact .mk (by simp [evOk, h0]) hB
 go_wp2_with fail
 refine (l1In_any _ _ _ _).mono ?_
 rintro e w' ⟨rfl, rfl⟩
 cases h1 : inB en 0 2000
 ·
  go_wp2
  go_ret
  exact .mk (by simp [evOk, h1]) hB
 go_wp2_with fail
 refine (l1In_any _ _ _ _).mono ?_
 rintro e w' ⟨rfl, rfl⟩
 cases h2 : inB b 0 en
 ·
  go_wp2
  go_ret
  exact .mk (by simp [evOk, h2]) hB
 have HE := Lib.hid (show evOk ⟨who, put, v, re, b, en⟩ = (bif put then valB v && (re == 1 || re == 2) else (re == 4 && valB v) || (re == 3 && v == 0)) by simp [evOk, h0, h1, h2])
 clear h0 h1 h2
 cases put
 ·
  by_cases r4 : re = 4
  ·
   have e4 : (re == 4) = true := by simp [r4]
   have e3 : (re == 3) = false := by simp [r4]
   go_wp2_with fail
   refine (l1Value_any _ _).mono ?_
   rintro e w' ⟨rfl, rfl⟩
   cases hv : valB v
   ·
    go_wp2
    go_ret
    exact .mk (by rw [HE.out, hv, e3]; simp) hB
   ·
    go_wp2
    go_ret
    exact .mk (by rw [HE.out, hv, e4]; rfl) hB
  ·
   have e4 : (re == 4) = false := by simp [r4]
   by_cases r3 : re = 3
   ·
    have e3 : (re == 3) = true := by simp [r3]
    have HE2 := Lib.hid (show evOk ⟨who, false, v, re, b, en⟩ = (v == 0) by rw [HE.out, e4, e3]; simp)
    go_wp2
    go_ret
    exact .mk (congrArg Value.bool HE2.out.symm) hB
   ·
    have e3 : (re == 3) = false := by simp [r3]
    have HE2 := Lib.hid (show evOk ⟨who, false, v, re, b, en⟩ = false by rw [HE.out, e4, e3]; simp)
    go_wp2
    go_ret
    exact .mk (congrArg Value.bool HE2.out.symm) hB
 ·
  go_wp2_with fail
  refine (l1Value_any _ _).mono ?_
  rintro e w' ⟨rfl, rfl⟩
  cases hv : valB v
  ·
   go_wp2
   go_ret
   exact .mk (by rw [HE.out, hv]; rfl) hB
  ·
   by_cases r1 : re = 1
   ·
    have e1 : (re == 1) = true := by simp [r1]
    go_wp2
    go_ret
    exact .mk (by rw [HE.out, hv, e1]; rfl) hB
   ·
    have e1 : (re == 1) = false := by simp [r1]
    have HE2 := Lib.hid (show evOk ⟨who, true, v, re, b, en⟩ = (re == 2) by rw [HE.out, hv, e1]; simp)
    go_wp2
    go_ret
    exact .mk (congrArg Value.bool HE2.out.symm) hB

theorem storyOk_no {l : List Ev} {i : Nat} {x : Ev} (hx : l[i]? = some x) (h : evOk x = false) : storyOk l = false := by
 have : l.all evOk = false := by rw [List.all_eq_false]; exact ⟨x, List.mem_of_getElem? hx, by simp [h]⟩
 simp [storyOk, this]
theorem storyOk_yes {l : List Ev} (h : ∀ (j : Nat) x, j < l.length → l[j]? = some x → evOk x = true) : storyOk l = decide (l.length ≤ 16) := by
 have : l.all evOk = true := by
  rw [List.all_eq_true]
  intro x hx
  obtain ⟨j, hj⟩ := List.mem_iff_getElem?.1 hx
  exact h j x (List.getElem?_eq_some_iff.1 hj).1 hj
 rw [storyOk, this, Bool.true_and]
theorem all_next {l : List Ev} {i : Nat} {x : Ev} (h : ∀ (j : Nat) y, j < i → l[j]? = some y → evOk y = true) (hx : l[i]? = some x) (hk : evOk x = true) : ∀ (j : Nat) y, j < i + 1 → l[j]? = some y → evOk y = true := fun j y hj hy => by
 by_cases hji : j < i
 · exact h j y hji hy
 ·
  obtain rfl : j = i := by omega
  rw [hx] at hy
  injection hy with hy
  subst hy
  exact hk

set_option maxHeartbeats 1000000 in
theorem sstory_any (l : List Ev) (A : Option Addr) (n cap : Nat) (w : World) (h : EvsR w A n l) (hm : n ≤ 1048576) :
  Calls Tryz.prog 14 #[.slice A n cap] w (RetBelow (.bool (storyOk l)) w) := by
 have HL := Lib.hid h.1
 go_enter Tryz.func14, Tryz.ntmps14
 go_wp2
 go_loopw [3] (fun s3 W => ∃ i : Nat, i ≤ n ∧ s3 = .int .i64 i ∧ Below w.heap.size w W ∧ ∀ (j : Nat) x, j < i → l[j]? = some x → evOk x = true) (fun s3 _ => n - (intOf s3).toNat)
 case atStart => exact ⟨0, Nat.zero_le _, rfl, Below.refl _ _, fun j x h => absurd h (by omega)⟩
 case round =>
  obtain ⟨i, hin, rfl, hB, hal⟩ := hrel
  have HAL := Lib.hid hal; clear hal
  by_cases hlt : i < n
  ·
   obtain ⟨b, o, x, rfl, _, hx, c0, c1, c2, c3, c4, c5⟩ := SlE.at_ (SlE.keep EvE.kept h (fun j _ hj => hB.block j hj)) hlt
   have HX := Lib.hid hx; clear hx
   have g1 : (i : Int) < (n : Int) := by omega
   have g2 : (0 : Int) ≤ (i : Int) := by omega
   go_wp2_with fail
   refine (l10Event_any x _).mono ?_
   rintro e w1 ⟨rfl, hb1⟩
   replace hB := bstep hB hB.size hb1
   clear c0 c1 c2 c3 c4 c5 hb1
   cases hok : evOk x
   ·
    go_wp2
    go_ret
    exact .mk (by
     have : l.all evOk = false := by rw [List.all_eq_false]; exact ⟨x, List.mem_of_getElem? HX.out, by simp [hok]⟩
     simp [storyOk, this]) hB
   ·
    have HOK := Lib.hid hok; clear hok
    go_wp2
    go_roundw
    case rel =>
     refine ⟨i + 1, by omega, by go_num, hB, fun j x' hj hx' => ?_⟩
     by_cases hji : j < i
     · exact HAL.out j x' hji hx'
     ·
      obtain rfl : j = i := by omega
      obtain rfl : x = x' := by have := HX.out; rw [hx'] at this; injection this with this; exact this.symm
      exact HOK.out
    case measure => simp [intOf]; omega
  ·
   have g1 : ¬ (i : Int) < (n : Int) := by omega
   obtain rfl : n = i := by omega
   have HV := Lib.hid (show storyOk l = decide ((n : Int) ≤ 16) by
    have : l.all evOk = true := by
     rw [List.all_eq_true]
     intro x hx
     obtain ⟨j, hj⟩ := List.mem_iff_getElem?.1 hx
     exact HAL.out j x (by have := (List.getElem?_eq_some_iff.1 hj).1; rw [HL.out] at this; exact this) hj
    rw [storyOk, this, HL.out, Bool.true_and]
    exact decide_eq_decide.2 (by omega))
   go_wp2
   go_ret
   exact .mk (congrArg Value.bool HV.out.symm) hB

theorem sstoryOk_any (l : List Ev) (A : Option Addr) (n cap lo hi : Nat) (w : World) (h : EvsW lo hi w A n cap l) (hh : hi ≤ w.heap.size) (hm : n ≤ 1048576) :
  Calls Tryz.prog 14 #[.slice A n cap] w (RetBelow (.bool (storyOk l)) w) := sstory_any l A n cap w (EvsW.r h) hm

set_option maxHeartbeats 1000000 in
theorem istory_any (l : List Ev) (A : Option Addr) (n cap : Nat) (w : World) (h : EvsR w A n l) (hm : n ≤ 1048576) :
  Calls Tryz.prog 17 #[.slice A n cap] w (RetBelow (.bool (storyOk l)) w) := by
 have HL := Lib.hid h.1
 go_enter Tryz.func17, Tryz.ntmps17
 by_cases hgt : (n : Int) > 16
 ·
  go_wp2
  go_ret
  exact .mk (by simp [storyOk, HL.out]; omega) (Below.refl _ _)
 go_wp2
 go_loopw [10] (fun s3 W => ∃ i : Nat, i ≤ n ∧ s3 = .int .i64 i ∧ Below w.heap.size w W ∧ ∀ (j : Nat) x, j < i → l[j]? = some x → evOk x = true) (fun s3 _ => n - (intOf s3).toNat)
 case atStart => exact ⟨0, Nat.zero_le _, rfl, Below.refl _ _, fun j x h => absurd h (by omega)⟩
 case round =>
  obtain ⟨i, hin, rfl, hB, hal⟩ := hrel
  have HAL := Lib.hid hal; clear hal
  by_cases hlt : i < n
  ·
   obtain ⟨b, o, x, rfl, _, hx, c0, c1, c2, c3, c4, c5⟩ := SlE.at_ (SlE.keep EvE.kept h (fun j _ hj => hB.block j hj)) hlt
   have HX := Lib.hid hx; clear hx
   have g1 : (i : Int) < (n : Int) := by omega
   have g2 : (0 : Int) ≤ (i : Int) := by omega
   go_wp2_with fail
   refine (eventOk_any x _).mono ?_
   rintro e w1 ⟨rfl, hb1⟩
   replace hB := bstep (hB.alloc hB.size _) (by simp; have := hB.size; omega) hb1
   clear c0 c1 c2 c3 c4 c5 hb1
   cases hok : evOk x
   ·
    go_wp2
    go_ret
    exact .mk (by rw [storyOk_no HX.out hok]; rfl) hB
   ·
    have HOK := Lib.hid hok; clear hok
    go_wp2
    go_roundw
    case rel => exact ⟨i + 1, by omega, by go_num, hB, all_next HAL.out HX.out HOK.out⟩
    case measure => simp [intOf]; omega
  ·
   have g1 : ¬ (i : Int) < (n : Int) := by omega
   obtain rfl : n = i := by omega
   have HV := Lib.hid (show storyOk l = true by
    rw [storyOk_yes (by rw [HL.out]; exact HAL.out)]; simp; have := HL.out; omega)
   go_wp2
   go_ret
   exact .mk (congrArg Value.bool HV.out.symm) hB

end Go.Proofs.YtiiaimjlohpemaaGreat

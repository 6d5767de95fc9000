/-
 The walks of RingOk and PlaceAt of the program, and of PlaceAt of the model.
-/
import Derived.Test.YthpckpnlohfcbaaGreatDoorRingD
namespace Go.Proofs.YthpckpnlohfcbaaGreatDoor
set_option linter.unusedSimpArgs false
set_option linter.unusedVariables false
open Go.RowKit
attribute [local go_sem ↓] Go.wp_at_zero Go.wp_at_succ
set_option maxHeartbeats 400000 in
theorem round_any (A : Option Addr) (n cap : Nat) (w : World) (hn : n ≤ 1048576) : Calls Tryz.prog 168 #[.slice A n cap] w (Quiet1 (.int .i64 n) w) := by
 go_enter Tryz.func168, Tryz.ntmps168
 go_wp2
 go_ret
 exact ⟨rfl, rfl⟩
set_option maxHeartbeats 400000 in
theorem at_any (A : Option Addr) (n cap : Nat) (z : Int) (w : World) (hn : n ≤ 1048576) (h0 : 0 < n) (hz : 0 ≤ z) : Calls Tryz.prog 150 #[.slice A n cap, z] w (Quiet1 (.int .i64 (z % (n : Int))) w) := by
 have h0' : (0 : Int) < (n : Int) := by omega
 go_enter Tryz.func150, Tryz.ntmps150
 go_wp2_with fail
 refine (round_any _ _ _ _ hn).mono ?_
 rintro e w' ⟨rfl, rfl⟩
 go_wp2
 go_ret
 exact ⟨rfl, rfl⟩
set_option maxHeartbeats 400000 in
theorem nextOk_any (h t : Int) (c : Bool) (x : Int) (A : Option Addr) (n cap : Nat) (w : World) :
  Calls Tryz.prog 156 #[rgV h t c x A n cap] w (RetBelow (.bool (nextB c x)) w) := by
 unfold rgV
 by_cases hx : x = -1
 ·
  subst hx
  go_enter Tryz.func156, Tryz.ntmps156
  go_wp2
  go_ret
  exact .mk rfl ((Below.refl _ _).alloc (Nat.le_refl _) _)
 ·
  have hx' : (x == -1) = false := by simpa using hx
  cases c
  ·
   go_enter Tryz.func156, Tryz.ntmps156
   go_wp2
   go_ret
   exact .mk (by simp [nextB, hx']) ((Below.refl _ _).alloc (Nat.le_refl _) _)
  ·
   go_enter Tryz.func156, Tryz.ntmps156
   go_wp2_with fail
   refine (isRingIndex_any _ _).mono ?_
   rintro e w' ⟨rfl, rfl⟩
   go_wp2
   go_ret
   exact .mk (by simp [nextB, hx']) ((Below.refl _ _).alloc (Nat.le_refl _) _)
set_option maxHeartbeats 400000 in
theorem closure_any (i : Int) (p : Pl) (k n cap : Nat) (A : Option Addr) (w : World) (hk : BoxAt w k #[.slice A n cap] 140) (hn : n ≤ 1048576) (h0 : 0 < n) :
  Calls Tryz.prog 172 #[i, .agg (cP p), pT k] w (RetBelow (.bool (okB p.n p.f p.v && (p.n % (n : Int) == i))) w) := by
 go_enter Tryz.func172, Tryz.ntmps172
 go_wp2_with fail
 refine calls_abs (fun W => Below w.heap.size w W ∧ BoxAt W w.heap.size (cP p) 33) ⟨(Below.refl _ _).alloc (Nat.le_refl _) _, BoxAt.new _ _ _⟩ ?_
 rintro W ⟨hB, hx⟩
 refine (iplaceOk_any _ _ _ _ _).mono ?_
 rintro e w1 ⟨rfl, hb1⟩
 replace hx := hx.below hb1 hx.lt
 replace hB := bstep hB hB.size hb1
 replace hk := hk.below hB hk.lt
 clear hb1
 have kx := hx.cell
 have kk := hk.cell
 cases ho : okB p.n p.f p.v
 ·
  go_wp2
  go_ret
  exact .mk (by rw [ho]; rfl) hB
 ·
  obtain ⟨n0, n1⟩ := okB_no ho
  have HO := Lib.hid ho; clear ho
  go_wp2_with fail
  refine (at_any _ _ _ _ _ hn h0 n0).mono ?_
  rintro e w' ⟨rfl, rfl⟩
  go_wp2
  go_ret
  exact .mk (by rw [HO.out]; rfl) hB
set_option maxHeartbeats 400000 in
theorem every_any (k n cap cap' : Nat) (A : Option Addr) (l : List Pl) (w : World) (hk : BoxAt w k #[.slice A n cap'] 140) (hl : PlsR 0 w A n l) (hn : n ≤ 1048576) :
  Calls Tryz.prog 171 #[.slice A n cap, .func (.func 172) #[] #[pT k]] w (RetBelow (.bool (allB l)) w) := by
 have hln := hl.1
 obtain rfl : l.length = n := hln
 go_enter Tryz.func171, Tryz.ntmps171
 go_wp2
 go_loopw [9] (fun s W => ∃ i : Nat, i ≤ l.length ∧ s = .int .i64 i ∧ Below w.heap.size w W ∧ (List.range i).all (okAt l) = true) (fun s _ => l.length - (intOf s).toNat)
 case atStart => exact ⟨0, Nat.zero_le _, rfl, Below.refl _ _, rfl⟩
 case round =>
  obtain ⟨i, hi, rfl, hB, hall⟩ := hrel
  have HA := Lib.hid hall; clear hall
  by_cases hlt : i < l.length
  ·
   obtain ⟨b, o, p, rfl, _, hp, hc⟩ := SlE.at_ (SlE.keep PlE.kept hl (fun j _ hj => hB.block j hj)) hlt
   obtain ⟨c0, c1, c2, c3⟩ := hc
   have hok := okAt_some hp
   have HP := Lib.hid hok
   clear hp hok
   have g1 : (i : Int) < (l.length : Int) := by omega
   have g2 : (0 : Int) ≤ (i : Int) := by omega
   have hk1 := hk.below hB hk.lt
   go_wp2_with fail
   refine calls_abs (fun W => Below w.heap.size w W ∧ BoxAt W k #[.slice (some ⟨b, o, none⟩) l.length cap'] 140) ⟨hB.alloc hB.size _, hk1.alloc _⟩ ?_
   clear hB hk1 c0 c1 c2 c3
   rintro W ⟨hB, hk1⟩
   refine (closure_any _ _ _ _ _ _ _ hk1 hn (by omega)).mono ?_
   rintro e w1 ⟨rfl, hb1⟩
   rw [← HP.out]
   replace hB := bstep hB hB.size hb1
   clear hb1 hk1
   cases ho : okAt l i
   ·
    go_wp2
    go_ret
    exact .mk (by rw [allB_false hlt ho]; rfl) hB
   ·
    have HO := Lib.hid ho; clear ho
    go_wp2
    go_roundw
    case rel => exact ⟨i + 1, by omega, by go_num, hB, all_succ HA.out HO.out⟩
    case measure => simp [intOf]; omega
  ·
   have g1 : ¬ (i : Int) < (l.length : Int) := by omega
   obtain rfl : i = l.length := by omega
   go_wp2
   go_ret
   exact .mk (by rw [show allB l = true from HA.out]; rfl) hB
set_option maxHeartbeats 400000 in
theorem placesOk_any (n cap : Nat) (A : Option Addr) (l : List Pl) (w : World) (hl : PlsR 0 w A n l) (hn : n ≤ 1048576) :
  Calls Tryz.prog 157 #[.slice A n cap] w (RetBelow (.bool (roundB l.length && allB l)) w) := by
 have hln := hl.1
 obtain rfl : l.length = n := hln
 go_enter Tryz.func157, Tryz.ntmps157
 go_wp2_with fail
 refine calls_abs (fun W => Below w.heap.size w W ∧ BoxAt W w.heap.size #[.slice A l.length cap] 140) ⟨(Below.refl _ _).alloc (Nat.le_refl _) _, BoxAt.new _ _ _⟩ ?_
 rintro W ⟨hB, hk⟩
 refine (round_any _ _ _ _ hn).mono ?_
 rintro e w' ⟨rfl, rfl⟩
 go_wp2_with fail
 refine (isRound_any _ _).mono ?_
 rintro e w' ⟨rfl, rfl⟩
 cases hr : roundB l.length
 ·
  go_wp2
  go_ret
  exact .mk (by rw [hr]; rfl) hB
 ·
  have HR := Lib.hid hr; clear hr
  have kk := hk.cell
  go_wp2_with fail
  refine (every_any _ _ _ _ _ l _ hk (hl.below hB) hn).mono ?_
  rintro e w1 ⟨rfl, hb1⟩
  go_wp2
  go_ret
  exact .mk (by rw [HR.out]; rfl) (bstep hB hB.size hb1)
set_option maxHeartbeats 400000 in
theorem iringOk_any (h t : Int) (c : Bool) (x : Int) (A : Option Addr) (n cap : Nat) (l : List Pl) (w : World) (hl : PlsR 0 w A n l) (hn : n ≤ 1048576) :
  Calls Tryz.prog 136 #[rgV h t c x A n cap] w (RetBelow (.bool (rgOk h t c x l)) w) := by
 unfold rgV
 go_enter Tryz.func136, Tryz.ntmps136
 go_wp2_with fail
 refine calls_abs (fun W => Below w.heap.size w W ∧ BoxAt W w.heap.size #[h, t, c, x, .slice A n cap] 79) ⟨(Below.refl _ _).alloc (Nat.le_refl _) _, BoxAt.new _ _ _⟩ ?_
 rintro W ⟨hB, hr⟩
 have kr := hr.cell
 refine (isNo_any _ _).mono ?_
 rintro e w' ⟨rfl, rfl⟩
 cases h1 : noB h
 ·
  go_wp2
  go_ret
  exact .mk (by simp [rgOk, h1]) hB
 go_wp2_with fail
 refine (isNo_any _ _).mono ?_
 rintro e w' ⟨rfl, rfl⟩
 cases h2 : noB t
 ·
  go_wp2
  go_ret
  exact .mk (by simp [rgOk, h2]) hB
 go_wp2_with fail
 refine (nextOk_any _ _ _ _ _ _ _ _).mono ?_
 rintro e w1 ⟨rfl, hb1⟩
 replace hr := hr.below hb1 hr.lt
 replace hB := bstep hB hB.size hb1
 clear hb1 kr
 have kr := hr.cell
 cases h3 : nextB c x
 ·
  go_wp2
  go_ret
  exact .mk (by simp [rgOk, h3]) hB
 go_wp2_with fail
 refine (placesOk_any _ _ _ l _ (hl.below hB) hn).mono ?_
 rintro e w2 ⟨rfl, hb2⟩
 have HV := Lib.hid (show rgOk h t c x l = (roundB l.length && allB l) by simp [rgOk, h1, h2, h3])
 generalize (roundB l.length && allB l) = z at *
 clear h1 h2 h3
 go_wp2
 go_ret
 exact .mk (by rw [HV.out]; rfl) (bstep hB hB.size hb2)
def placeAt (h t : Int) (c : Bool) (x : Int) (l : List Pl) (z : Int) : Int := if rgOk h t c x l && noB z then z % (l.length : Int) else -1
theorem placeAt_no {h t x z : Int} {c : Bool} {l : List Pl} (e : (rgOk h t c x l && noB z) = false) : placeAt h t c x l z = -1 := by simp [placeAt, e]
theorem placeAt_yes {h t x z : Int} {c : Bool} {l : List Pl} (e : (rgOk h t c x l && noB z) = true) : placeAt h t c x l z = z % (l.length : Int) := by simp [placeAt, e]
theorem rgOk_len {h t x : Int} {c : Bool} {l : List Pl} (e : rgOk h t c x l = true) : 2 ≤ l.length ∧ l.length ≤ 8 := by
 simp [rgOk, roundB] at e; omega
theorem noB_ge {z : Int} (e : noB z = true) : 0 ≤ z := by simp [noB] at e; omega
set_option maxHeartbeats 400000 in
theorem iplaceAt_any (h t : Int) (c : Bool) (x : Int) (A : Option Addr) (n cap : Nat) (l : List Pl) (z : Int) (w : World) (hl : PlsR 0 w A n l) (hn : n ≤ 1048576) :
  Calls Tryz.prog 128 #[rgV h t c x A n cap, .int .i64 z] w (RetBelow (.int .i64 (placeAt h t c x l z)) w) := by
 have hln := hl.1
 obtain rfl : l.length = n := hln
 unfold rgV
 go_enter Tryz.func128, Tryz.ntmps128
 go_wp2_with fail
 refine calls_abs (fun W => Below w.heap.size w W ∧ BoxAt W w.heap.size #[h, t, c, x, .slice A l.length cap] 79) ⟨(Below.refl _ _).alloc (Nat.le_refl _) _, BoxAt.new _ _ _⟩ ?_
 rintro W ⟨hB, hr⟩
 refine (iringOk_any _ _ _ _ _ _ _ l _ (hl.below hB) hn).mono ?_
 rintro e w1 ⟨rfl, hb1⟩
 replace hr := hr.below hb1 hr.lt
 replace hB := bstep hB hB.size hb1
 clear hb1
 have kr := hr.cell
 cases h1 : rgOk h t c x l
 ·
  go_wp2
  go_ret
  exact .mk (by rw [placeAt_no (by rw [h1]; rfl)]; rfl) hB
 have hlen := rgOk_len h1
 go_wp2_with fail
 refine (isNo_any _ _).mono ?_
 rintro e w' ⟨rfl, rfl⟩
 cases h2 : noB z
 ·
  go_wp2
  go_ret
  exact .mk (by rw [placeAt_no (by rw [h1, h2]; rfl)]; rfl) hB
 have hz := noB_ge h2
 have HV := Lib.hid (placeAt_yes (show (rgOk h t c x l && noB z) = true by rw [h1, h2]; rfl))
 go_wp2_with fail
 refine (at_any _ _ _ _ _ hn (by omega) hz).mono ?_
 rintro e w' ⟨rfl, rfl⟩
 clear h1 h2
 go_wp2
 go_ret
 exact .mk (by rw [HV.out]; rfl) hB
end Go.Proofs.YthpckpnlohfcbaaGreatDoor

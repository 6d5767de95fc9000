/-
 The walks of RingOk and PlaceAt, of both sides.
-/
import Derived.Test.YtiiaimjlohpemaaGreatRingB
namespace Go.Proofs.YtiiaimjlohpemaaGreat
set_option linter.unusedSimpArgs false
set_option linter.unusedVariables false
open Go.RowKit
attribute [local go_sem ↓] Go.wp_at_zero Go.wp_at_succ

def okB (b : Int) (c : Bool) (d : Int) : Bool := decide (0 ≤ b) && decide (b ≤ 1000000) && (bif c then decide (1 ≤ d) && decide (d ≤ 1000000) else (d == 0))
theorem okB_no {b d : Int} {c : Bool} (h : okB b c d = true) : 0 ≤ b ∧ b ≤ 1000000 := by
 simp [okB] at h; omega

set_option maxHeartbeats 400000 in
theorem splaceOk_any (a c : Bool) (b d : Int) (w : World) :
  Calls Tryz.prog 87 #[.agg #[a, b, c, d]] w (RetBelow (.bool (okB b c d)) w) := by
 cases c
 all_goals
  go_enter Tryz.func87, Tryz.ntmps87
  go_wp2
  all_goals
   go_ret
   exact .mk (by simp [okB, *] <;> omega) ((Below.refl _ _).alloc (Nat.le_refl _) _)

/-- The place at i is right, and its number is i, modulo how many there are. -/
def okAt (l : List Pl) (i : Nat) : Bool := match l[i]? with
 | some p => okB p.n p.f p.v && (p.n % (l.length : Int) == (i : Int))
 | none => true
theorem okAt_some {l : List Pl} {i : Nat} {p : Pl} (h : l[i]? = some p) : okAt l i = (okB p.n p.f p.v && (p.n % (l.length : Int) == (i : Int))) := by simp [okAt, h]
def allB (l : List Pl) : Bool := (List.range l.length).all (okAt l)
theorem allB_false {l : List Pl} {i : Nat} (hi : i < l.length) (h : okAt l i = false) : allB l = false := by
 unfold allB
 rw [List.all_eq_false]
 exact ⟨i, List.mem_range.2 hi, by simp [h]⟩
theorem all_succ {l : List Pl} {i : Nat} (h : (List.range i).all (okAt l) = true) (h' : okAt l i = true) : (List.range (i + 1)).all (okAt l) = true := by
 rw [List.range_succ, List.all_append, h]; simp [h']

def nextB (c : Bool) (x : Int) : Bool := (x == -1) || (c && idxB x)
def rgOk (h t : Int) (c : Bool) (x : Int) (l : List Pl) : Bool := noB h && noB t && nextB c x && roundB l.length && allB l

set_option maxHeartbeats 1000000 in
theorem sringOk_any (h t : Int) (c : Bool) (x : Int) (A : Option Addr) (n cap : Nat) (l : List Pl) (w : World) (hl : PlsR 0 w A n l) (hn : n ≤ 1048576) :
  Calls Tryz.prog 77 #[rgV h t c x A n cap] w (RetBelow (.bool (rgOk h t c x l)) w) := by
 have hln := hl.1
 obtain rfl : l.length = n := hln
 have hB0 : ∀ o, Below w.heap.size w (w.alloc o) := fun o => (Below.refl _ _).alloc (Nat.le_refl _) _
 have HB0 := Lib.hid hB0; clear hB0
 unfold rgV
 go_enter Tryz.func77, Tryz.ntmps77
 go_wp2_with fail
 refine (l1In_any _ _ _ _).mono ?_
 rintro e w' ⟨rfl, rfl⟩
 cases h1 : inB l.length 2 8
 ·
  go_wp2
  go_ret
  exact .mk (by simp [rgOk, show roundB l.length = false from h1]) (HB0.out _)
 go_wp2_with fail
 refine (l1No_any _ _).mono ?_
 rintro e w' ⟨rfl, rfl⟩
 cases h2 : noB h
 ·
  go_wp2
  go_ret
  exact .mk (by simp [rgOk, h2]) (HB0.out _)
 go_wp2_with fail
 refine (l1No_any _ _).mono ?_
 rintro e w' ⟨rfl, rfl⟩
 cases h3 : noB t
 ·
  go_wp2
  go_ret
  exact .mk (by simp [rgOk, h3]) (HB0.out _)
 go_wp2_with fail
 refine (l1In_any _ _ _ _).mono ?_
 rintro e w' ⟨rfl, rfl⟩
 cases h4 : inB x (-1) 15
 ·
  have hx : nextB c x = false := by simp [inB] at h4; simp [nextB, idxB]; omega
  go_wp2
  go_ret
  exact .mk (by simp [rgOk, hx]) (HB0.out _)
 have hx : 0 ≤ x ∧ c = false ∧ nextB c x = false ∨ 0 ≤ x ∧ c = true ∧ nextB c x = true ∨ ¬ 0 ≤ x ∧ nextB c x = true := by
  simp [inB] at h4; simp [nextB, idxB]
  cases c <;> simp <;> omega
 rcases hx with ⟨hx0, rfl, hx⟩ | hx
 ·
  go_wp2
  go_ret
  exact .mk (by simp [rgOk, hx]) (HB0.out _)
 have hnx : nextB c x = true := by rcases hx with ⟨_, _, h⟩ | ⟨_, h⟩ <;> exact h
 have HR := Lib.hid (show rgOk h t c x l = allB l by simp [rgOk, h2, h3, hnx, show roundB l.length = true from h1])
 have hpos : 2 ≤ l.length ∧ l.length ≤ 8 := by simp [inB] at h1; omega
 replace hx : 0 ≤ x ∧ c = true ∨ ¬ 0 ≤ x := by rcases hx with ⟨a, b, _⟩ | ⟨a, _⟩ <;> simp [*]
 clear hnx h1 h2 h3 h4
 rcases hx with ⟨hx0, rfl⟩ | hx0
 all_goals
  go_wp2
  go_loopw [4] (fun s W => ∃ i : Nat, i ≤ l.length ∧ s = .int .i64 i ∧ Below w.heap.size w W ∧ BoxAt W w.heap.size #[h, t, _, x, .slice A l.length cap] 120 ∧ (List.range i).all (okAt l) = true) (fun s _ => l.length - (intOf s).toNat)
  case atStart => exact ⟨0, Nat.zero_le _, rfl, HB0.out _, BoxAt.new _ _ _, rfl⟩
  case round =>
   obtain ⟨i, hi, rfl, hB, hr, hall⟩ := hrel
   have HA := Lib.hid hall; clear hall
   have kr := hr.cell
   have lr := hr.lt
   by_cases hlt : i < l.length
   ·
    obtain ⟨b, o, p, rfl, _, hp, hc⟩ := SlE.at_ (SlE.keep PlE.kept hl (fun j _ hj => hB.block j hj)) hlt
    have hpc := Lib.hid hc
    obtain ⟨c0, c1, c2, c3⟩ := hc
    have hok := okAt_some hp
    have HP := Lib.hid hok
    clear hp hok
    have g1 : (i : Int) < (l.length : Int) := by omega
    have g2 : (0 : Int) ≤ (i : Int) := by omega
    go_wp2_with fail
    refine (splaceOk_any _ _ _ _ _).mono ?_
    rintro e w1 ⟨rfl, hb1⟩
    cases hk : okB p.n p.f p.v
    ·
     go_wp2
     go_ret
     exact .mk (by rw [HR.out, allB_false hlt (by rw [HP.out, hk]; rfl)]; rfl) (bstep hB hB.size hb1)
    ·
     have hno := okB_no hk
     obtain ⟨n0, n1⟩ := hno
     have hr1 := hr.below hb1 lr
     have hpc1 := PlE.kept _ _ _ _ _ _ (Nat.zero_le _) (.of_below hb1) hpc.out
     have d1 := hpc1.2.1
     have kr1 := hr1.cell
     clear c0 c1 c2 c3 kr hpc1
     have HK := Lib.hid hk; clear hk
     by_cases he : p.n % (l.length : Int) = (i : Int)
     ·
      go_wp2
      go_roundw
      case rel => exact ⟨i + 1, by omega, by go_num, bstep hB hB.size hb1, hr1, all_succ HA.out (by rw [HP.out, HK.out]; simp [he])⟩
      case measure => simp [intOf]; omega
     ·
      go_wp2
      go_ret
      exact .mk (by rw [HR.out, allB_false hlt (by rw [HP.out, HK.out]; simp [he])]; rfl) (bstep hB hB.size hb1)
   ·
    have g1 : ¬ (i : Int) < (l.length : Int) := by omega
    obtain rfl : i = l.length := by omega
    go_wp2
    go_ret
    exact .mk (by rw [HR.out, show allB l = true from HA.out]; rfl) hB

end Go.Proofs.YtiiaimjlohpemaaGreat

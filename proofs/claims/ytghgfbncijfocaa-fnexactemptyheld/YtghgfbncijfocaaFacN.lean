/-
 What the program's facts answer is what the model's answer.
-/
import Derived.Test.YtghgfbncijfocaaFacM
namespace Go.Proofs.Ytghgfbncijfocaa
set_option linter.unusedSimpArgs false
set_option linter.unusedVariables false
open Go.RowKit
set_option linter.unusedVariables false

theorem count_cnt (ys : List Ev) (v : Int) : (ys.map Ev.v).count v = cntV ys v := by
 unfold cntV
 induction ys with
 | nil => rfl
 | cons y ys ih =>
  rw [List.map_cons, List.count_cons, ih, List.filter_cons]
  cases h : (y.v == v) <;> simp
theorem nodup_cnt (ys : List Ev) : (ys.map Ev.v).Nodup ↔ ∀ x ∈ ys, cntV ys x.v ≤ 1 := by
 rw [List.nodup_iff_count]
 constructor
 ·
  intro h x _
  rw [← count_cnt]; exact h _
 ·
  intro h a
  rw [count_cnt]
  by_cases ha : ∃ x ∈ ys, x.v = a
  · obtain ⟨x, hx, rfl⟩ := ha; exact h x hx
  ·
   have : cntV ys a = 0 := by
    unfold cntV
    rw [List.length_eq_zero_iff, List.filter_eq_nil_iff]
    intro x hx e
    exact ha ⟨x, hx, by simpa using e⟩
   omega
theorem nodup_inj : ∀ {ys : List Ev}, (ys.map Ev.v).Nodup → ∀ x ∈ ys, ∀ y ∈ ys, x.v = y.v → x = y
 | [], _, x, hx, _, _, _ => by simp at hx
 | z :: ys, h, x, hx, y, hy, e => by
  rw [List.map_cons, List.nodup_cons] at h
  rcases List.mem_cons.1 hx with e1 | hx1
  ·
   rcases List.mem_cons.1 hy with e2 | hy1
   · rw [e1, e2]
   · exact absurd (by rw [← e1, e]; exact List.mem_map_of_mem hy1) h.1
  ·
   rcases List.mem_cons.1 hy with e2 | hy1
   · exact absurd (by rw [← e2, ← e]; exact List.mem_map_of_mem hx1) h.1
   · exact nodup_inj h.2 x hx1 y hy1 e
theorem mem_gotsF {l : List Ev} {x : Ev} : x ∈ gotsF l ↔ x ∈ l ∧ x.re = 4 := by unfold gotsF; rw [List.mem_filter]; simp
theorem mem_putsF {l : List Ev} {x : Ev} : x ∈ putsF l ↔ x ∈ l ∧ x.re = 1 := by unfold putsF; rw [List.mem_filter]; simp
theorem anyTwice_eq {l : List Ev} (hev : ∀ x ∈ l, evOk x = true) : anyTwice l = twiceB l := by
 rw [Bool.eq_iff_iff]
 unfold anyTwice twiceB
 simp only [Bool.or_eq_true, Bool.not_eq_true', decide_eq_false_iff_not, nodup_cnt, List.any_eq_true, Bool.and_eq_true, decide_eq_true_eq, beq_eq_false_iff_ne]
 constructor
 ·
  rintro (h | h)
  ·
   obtain ⟨x, h⟩ := Classical.not_forall.1 h
   obtain ⟨hx, h⟩ := Classical.not_imp.1 h
   have hm := mem_putsF.1 hx
   have h1 := ev_put (hev x hm.1)
   refine ⟨x, hm.1, ⟨by omega, h1.2.2.2.2.2.1 (.inl hm.2)⟩, ?_⟩
   rw [h1.1 hm.2, times_puts hev]; omega
  ·
   obtain ⟨x, h⟩ := Classical.not_forall.1 h
   obtain ⟨hx, h⟩ := Classical.not_imp.1 h
   have hm := mem_gotsF.1 hx
   have h1 := ev_put (hev x hm.1)
   refine ⟨x, hm.1, ⟨by omega, h1.2.2.2.2.2.1 (.inr hm.2)⟩, ?_⟩
   rw [h1.2.1 hm.2, times_gots hev]; omega
 ·
  rintro ⟨x, hx, ⟨hr, hv⟩, ht⟩
  have h1 := ev_put (hev x hx)
  rcases h1.2.2.2.2.1 with h2 | h2 | h2 | h2
  ·
   refine .inl fun h => ?_
   have := h x (mem_putsF.2 ⟨hx, h2⟩)
   rw [h1.1 h2, times_puts hev] at ht
   omega
  · exact absurd h2 hr
  · have := h1.2.2.2.2.2.2.1 h2; omega
  ·
   refine .inr fun h => ?_
   have := h x (mem_gotsF.2 ⟨hx, h2⟩)
   rw [h1.2.1 h2, times_gots hev] at ht
   omega
theorem find_take {l : List Ev} (hn : ((gotsF l).map Ev.v).Nodup) (v : Int) : (l.find? fun x => x.re == 4 && x.v == v) = takeOf (gotsF l) v := by
 cases ht : takeOf (gotsF l) v with
 | none =>
  rw [List.find?_eq_none]
  intro x hx h
  simp only [Bool.and_eq_true, beq_iff_eq] at h
  exact takeOf_none ht x (mem_gotsF.2 ⟨hx, h.1⟩) h.2
 | some t =>
  have h1 := takeOf_mem ht
  cases hf : l.find? fun x => x.re == 4 && x.v == v with
  | none =>
   rw [List.find?_eq_none] at hf
   have h2 := mem_gotsF.1 h1.1
   exact absurd (by simp [h2.2, h1.2]) (hf t h2.1)
  | some u =>
   have h2 := List.mem_of_find?_eq_some hf
   have h3 := List.find?_some hf
   simp only [Bool.and_eq_true, beq_iff_eq] at h3
   rw [nodup_inj hn u (mem_gotsF.2 ⟨h2, h3.1⟩) t h1.1 (by rw [h3.2, h1.2])]
theorem gotB_eq {l : List Ev} (hn : ((gotsF l).map Ev.v).Nodup) (v : Int) (o : Ev) : gotB l v o = inTime l o v := by
 unfold gotB inTime
 rw [find_take hn]
 cases takeOf (gotsF l) v <;> rfl
theorem iEmpty_eq (l : List Ev) : (storyOk l && (anyTwice l || emptyR l)) = emptyHeld l := by
 unfold emptyHeld
 cases hok : storyOk l
 · rfl
 have hev := story_ev hok
 rw [← anyTwice_eq hev]
 cases htw : anyTwice l
 ·
  have hn : ((gotsF l).map Ev.v).Nodup := by
   unfold anyTwice at htw
   simp only [Bool.or_eq_false_iff, Bool.not_eq_false', decide_eq_true_eq] at htw
   exact htw.2
  simp only [Bool.true_and, Bool.false_or]
  rw [Bool.eq_iff_iff]
  unfold emptyR allGotB
  simp only [List.all_eq_true, List.mem_filter, gotB_eq hn, dueQ, Bool.or_eq_true, Bool.not_eq_true', Bool.and_eq_false_iff, beq_eq_false_iff_ne, decide_eq_false_iff_not, beq_iff_eq, and_imp]
  constructor
  ·
   intro h x hx y hy
   by_cases hr : x.re = 3
   ·
    rcases h x hx hr y hy with (h1 | h1) | h1
    · exact .inl (.inl (.inr h1))
    · exact .inl (.inr h1)
    · exact .inr h1
   · exact .inl (.inl (.inl hr))
  ·
   intro h x hx hr y hy
   rcases h x hx y hy with ((h1 | h1) | h1) | h1
   · exact absurd hr h1
   · exact .inl (.inl h1)
   · exact .inl (.inr h1)
   · exact .inr h1
 · rfl
theorem iInOrder_eq (l : List Ev) : (storyOk l && (anyTwice l || gotOrd l)) = inOrder l := by
 unfold inOrder
 cases hok : storyOk l
 · rfl
 have hev := story_ev hok
 rw [← anyTwice_eq hev]
 cases htw : anyTwice l
 ·
  have hn : ((gotsF l).map Ev.v).Nodup := by
   unfold anyTwice at htw
   simp only [Bool.or_eq_false_iff, Bool.not_eq_false', decide_eq_true_eq] at htw
   exact htw.2
  simp only [Bool.true_and, Bool.false_or]
  rw [Bool.eq_iff_iff]
  unfold gotOrd
  simp only [List.all_eq_true, gotB_eq hn, Bool.or_eq_true, Bool.not_eq_true', Bool.and_eq_false_iff, beq_eq_false_iff_ne, decide_eq_false_iff_not]
  constructor
  ·
   intro h x hx y hy
   by_cases hxr : x.re = 1
   ·
    by_cases hyr : y.re = 1
    ·
     by_cases ha : x.e < y.b
     ·
      refine .inr fun z hz => ?_
      by_cases hzr : z.re = 4
      ·
       by_cases hzv : z.v = y.v
       ·
        refine .inr ?_
        have h1 := h y (mem_putsF.2 ⟨hy, hyr⟩)
        unfold putInTime at h1
        cases ht : takeOf (gotsF l) y.v with
        | none => exact absurd hzv (takeOf_none ht z (mem_gotsF.2 ⟨hz, hzr⟩))
        | some t =>
         rw [ht] at h1
         have h2 := takeOf_mem ht
         obtain rfl := nodup_inj hn z (mem_gotsF.2 ⟨hz, hzr⟩) t h2.1 (by rw [hzv, h2.2])
         unfold allGotB at h1
         have h3 := (List.all_eq_true.1 h1) x hx
         have h4 : dueQ y x = true := by simp [dueQ, hxr, ha]
         rw [h4] at h3
         exact h3
       · exact .inl (.inr hzv)
      · exact .inl (.inl hzr)
     · exact .inl (.inr ha)
    · exact .inl (.inl (.inr hyr))
   · exact .inl (.inl (.inl hxr))
  ·
   intro h y hy
   have hym := mem_putsF.1 hy
   unfold putInTime
   cases ht : takeOf (gotsF l) y.v with
   | none => rfl
   | some t =>
    have h2 := takeOf_mem ht
    have h3 := mem_gotsF.1 h2.1
    show allGotB l y t = true
    unfold allGotB
    rw [List.all_eq_true]
    intro x hx
    cases hd : dueQ y x
    · rfl
    ·
     simp only [dueQ, Bool.and_eq_true, beq_iff_eq, decide_eq_true_eq] at hd
     rcases h x hx y hym.1 with h4 | h4
     ·
      rcases h4 with (h4 | h4) | h4
      · exact absurd hd.1 h4
      · exact absurd hym.2 h4
      · exact absurd hd.2 h4
     ·
      rcases h4 t h3.1 with h5 | h5
      ·
       rcases h5 with h5 | h5
       · exact absurd h3.2 h5
       · exact absurd h2.2 h5
      · rw [h5]; rfl
 · rfl

theorem inothing2_any (l : List Ev) (A : Option Addr) (n cap : Nat) (w : World) (h : EvsR w A n l) (hn : n ≤ 1048576) :
  Calls Try.prog 10 #[.slice A n cap] w (RetBelow (.bool (nothingTwice l)) w) := by
 have h1 := inothing_any l A n cap w h hn
 rw [iNothing_eq] at h1
 exact h1
theorem iinOrder2_any (l : List Ev) (A : Option Addr) (n cap : Nat) (w : World) (h : EvsR w A n l) (hn : n ≤ 1048576) :
  Calls Try.prog 13 #[.slice A n cap] w (RetBelow (.bool (inOrder l)) w) := by
 have h1 := iinOrder_any l A n cap w h hn
 rw [iInOrder_eq] at h1
 exact h1
theorem iempty2_any (l : List Ev) (A : Option Addr) (n cap : Nat) (w : World) (h : EvsR w A n l) (hn : n ≤ 1048576) :
  Calls Try.prog 15 #[.slice A n cap] w (RetBelow (.bool (emptyHeld l)) w) := by
 have h1 := iempty_any l A n cap w h hn
 rw [iEmpty_eq] at h1
 exact h1

end Go.Proofs.Ytghgfbncijfocaa

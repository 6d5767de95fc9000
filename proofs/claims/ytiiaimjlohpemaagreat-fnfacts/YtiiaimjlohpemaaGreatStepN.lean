/-
 What a step leaves is neat: pure.
-/
import Derived.Test.YtiiaimjlohpemaaGreatTakeJ
import Derived.Test.YtiiaimjlohpemaaGreatPutJ
namespace Go.Proofs.YtiiaimjlohpemaaGreat
set_option linter.unusedSimpArgs false
set_option linter.unusedVariables false
open Go.RowKit
set_option linter.unusedVariables false

theorem set_neat {s : St} (h : Neat s) {i : Nat} {q : Rg} (h0 : 0 < q.ps.length) (h8 : q.ps.length ≤ 8) : Neat { s with rs := s.rs.set i q } := by
 refine ⟨by simpa using h.1, by simpa using h.2.1, fun r hr => ?_⟩
 rcases List.mem_or_eq_of_mem_set hr with hr | rfl
 · exact h.2.2 r hr
 · exact ⟨h0, h8⟩
theorem turn_neat {s : St} (h : Neat s) {z : Int} {f : Rg → Rg} (hf : ∀ r, 0 < r.ps.length ∧ r.ps.length ≤ 8 → 0 < (f r).ps.length ∧ (f r).ps.length ≤ 8) : Neat (s.turn z f) := by
 unfold St.turn
 split
 ·
  rename_i r hr
  have := h.2.2 r (List.mem_of_getElem? hr)
  exact set_neat h (hf r this).1 (hf r this).2
 · exact h
theorem then_neat {s out : St} (h : Neat s) : Neat (thenB s out).1 := by
 unfold thenB
 split
 · exact stOk_neat (by assumption)
 · exact h

theorem takeTicket_neat {s : St} (hok : stOk s = true) {z : Int} : Neat (takeTicket s z).1 := by
 have h := stOk_neat hok
 unfold takeTicket
 rw [hok]
 simp only [Bool.not_true, Bool.false_eq_true, if_false]
 split
 · exact h
 · split <;> exact then_neat h
theorem putTicket_neat {s : St} (hok : stOk s = true) {z : Int} : Neat (putTicket s z).1 := by
 have h := stOk_neat hok
 unfold putTicket
 rw [hok]
 simp only [Bool.not_true, Bool.false_eq_true, if_false]
 split
 · exact h
 · split <;> exact then_neat h
theorem closeR_neat {s : St} (hok : stOk s = true) {z : Int} : Neat (closeR s z).1 := by
 have h := stOk_neat hok
 unfold closeR
 rw [hok]
 simp only [Bool.not_true, Bool.false_eq_true, if_false]
 split
 · exact h
 · exact turn_neat h fun _ h => h
theorem raiseTail_neat {s : St} (hok : stOk s = true) {z a b : Int} : Neat (raiseTail s z a b).1 := by
 have h := stOk_neat hok
 unfold raiseTail
 rw [hok]
 simp only [Bool.not_true, Bool.false_eq_true, if_false]
 split
 · exact h
 · exact then_neat h
theorem linkR_neat {s : St} (hok : stOk s = true) {z a : Int} : Neat (linkR s z a).1 := by
 have h := stOk_neat hok
 unfold linkR
 rw [hok]
 simp only [Bool.not_true, Bool.false_eq_true, if_false]
 split
 · exact h
 · exact then_neat h
theorem swing_neat {s : St} (hok : stOk s = true) {l : Bool} {a b : Int} : Neat (swing s l a b).1 := by
 have h := stOk_neat hok
 unfold swing
 rw [hok]
 simp only [Bool.not_true, Bool.false_eq_true, if_false]
 cases l
 all_goals
  simp only [if_true, Bool.false_eq_true, if_false]
  split <;> exact h
theorem swapPlace_neat {s : St} (hok : stOk s = true) {z a : Int} {p q : Pl} : Neat (swapPlace s z a p q).1 := by
 have h := stOk_neat hok
 unfold swapPlace
 rw [hok]
 simp only [Bool.not_true, Bool.false_eq_true, if_false]
 split
 · exact h
 ·
  split
  ·
   split
   · exact then_neat h
   · exact h
  · exact h
theorem seed_len8 {rd : Int} (h : 2 ≤ rd ∧ rd ≤ 8) (v : Int) : 0 < (Rg.seed rd.toNat v).ps.length ∧ (Rg.seed rd.toNat v).ps.length ≤ 8 := by
 have : (Rg.seed rd.toNat v).ps.length = rd.toNat := by simp [Rg.seed, fresh]
 omega
theorem addRing_neat {s : St} (hok : stOk s = true) {v : Int} : Neat (addRing s v).1 := by
 have h := stOk_neat hok
 have hm : (s.rs.length : Int) ≤ s.mo ∧ s.mo ≤ 16 := by
  simp only [stOk, stHead, Bool.and_eq_true, inB, decide_eq_true_eq] at hok
  omega
 unfold addRing
 rw [hok]
 simp only [Bool.not_true, Bool.false_eq_true, if_false]
 split
 · exact h
 ·
  rename_i hn
  simp only [Bool.or_eq_true, beq_iff_eq, not_or] at hn
  refine ⟨by simp, by simp; omega, fun r hr => ?_⟩
  rcases List.mem_append.1 hr with hr | hr
  · exact h.2.2 r hr
  ·
   rw [List.mem_singleton.1 hr]
   exact seed_len8 (stOk_rd hok) v

theorem make10_neat {s : St} (hok : stOk s = true) {h : Hd} : Neat (make10 s h).1 := by
 have hn := stOk_neat hok
 unfold make10
 repeat' split
 all_goals first
  | exact hn
  | exact addRing_neat hok
  | exact turn_neat hn fun _ _ => seed_len8 (stOk_rd hok) _
theorem makeS_neat {s : St} (hok : stOk s = true) {h : Hd} : Neat (makeS s h).1 := by
 unfold makeS
 repeat' split
 · exact make10_neat hok
 · exact linkR_neat hok
 · exact swing_neat hok
theorem putS_neat {s : St} (hok : stOk s = true) {h : Hd} : Neat (putS s h).1 := by
 have hn := stOk_neat hok
 unfold putS
 repeat' split
 · exact hn
 · exact hn
 · exact swing_neat hok
 · exact putTicket_neat hok
 · exact hn
 · exact hn
 ·
  unfold put7
  repeat' split
  all_goals exact swapPlace_neat hok
 · exact hn
 · exact closeR_neat hok
 · exact makeS_neat hok
theorem takeS_neat {s : St} (hok : stOk s = true) {h : Hd} : Neat (takeS s h).1 := by
 have hn := stOk_neat hok
 unfold takeS
 repeat' split
 · exact hn
 · exact takeTicket_neat hok
 · exact hn
 ·
  unfold take16
  split <;> exact swapPlace_neat hok
 · exact swapPlace_neat hok
 · exact swapPlace_neat hok
 · exact hn
 · exact hn
 ·
  unfold fixS
  split
  ·
   unfold take21
   split <;> exact hn
  ·
   split
   · exact raiseTail_neat hok
   ·
    split
    ·
     unfold take23
     repeat' split
     all_goals exact hn
    · exact swing_neat hok

/-- A step, whole: f is what is done of right ones, b which of them it is asked of. -/
def stepS (f : St → Hd → St × Hd × Bool) (b : Int → Bool) (s : St) (h : Hd) : St × Hd × Bool :=
 if !stOk s || !h.ok then (St.zero, Hd.zero, false) else if !b h.at_ || !ringB s h.r then (s, h, false) else
 if !(f s h).2.2 || !stOk (f s h).1 then (s, h, false) else ((f s h).1, (f s h).2.1, true)

end Go.Proofs.YtiiaimjlohpemaaGreat

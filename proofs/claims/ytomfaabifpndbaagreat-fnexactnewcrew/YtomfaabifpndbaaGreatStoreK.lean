/-
  When a store is right: as the program asks it, and as the model does.
-/
import Derived.Test.YtomfaabifpndbaaGreatModel
namespace Go.Proofs.YtomfaabifpndbaaGreat
set_option linter.unusedSimpArgs false
set_option linter.unusedVariables false

/-- Where one comes to from ring z on, k rounds at most; X: which ring is next. -/
def endX (X : List Int) : Nat → Int → Int
  | 0, z => z
  | k + 1, z => if 0 ≤ z then match X[z.toNat]? with
    | some x => endX X k x
    | none => z
    else z
theorem endX_neg {X : List Int} {k : Nat} {z : Int} (h : z < 0) : endX X k z = z := by
  cases k with
  | zero => rfl
  | succ k => unfold endX; rw [if_neg (by omega)]
theorem endX_out {X : List Int} {k : Nat} {z : Int} (h : (X.length : Int) ≤ z) : endX X k z = z := by
  cases k with
  | zero => rfl
  | succ k =>
    unfold endX
    rw [List.getElem?_eq_none (by omega)]
    simp
theorem endX_in {X : List Int} {k : Nat} {z x : Int} (h : 0 ≤ z) (hx : X[z.toNat]? = some x) : endX X (k + 1) z = endX X k x := by
  conv => lhs; unfold endX
  rw [if_pos h, hx]

theorem end_chain {L : List Rg} (hL : ∀ r ∈ L, -1 ≤ r.x ∧ r.x < L.length) : ∀ (k : Nat) (z : Int), -1 ≤ z → z < L.length → ((chain L k z).isSome = true ↔ endX (L.map Rg.x) k z = -1)
  | k, z, h1, h2 => by
    by_cases h0 : z < 0
    · rw [chain_neg h0, endX_neg h0]
      simp; omega
    · cases k with
      | zero =>
        rw [chain_zero h0]
        simp [endX]; omega
      | succ k =>
        have hl : z.toNat < L.length := by omega
        have hr : L[z.toNat]? = some L[z.toNat] := List.getElem?_eq_getElem hl
        have hm := hL _ (List.getElem_mem hl)
        rw [chain_succ h0 hr, endX_in (by omega) (by rw [List.getElem?_map, hr]; rfl), ← end_chain hL k _ hm.1 hm.2]
        simp

def endB (s : St) (i : Nat) : Bool := endX (s.rs.map Rg.x) s.rs.length (i : Int) == -1
def inIt (s : St) (i : Nat) (r : Rg) : Bool := r.ok && ((r.ps.length : Int) == s.rd) && endB s i
def ringsB (s : St) : Bool := (List.range s.rs.length).all fun i => match s.rs[i]? with
  | some r => inIt s i r
  | none => true
theorem ringsB_iff {s : St} : ringsB s = true ↔ ∀ (i : Nat) (r : Rg), s.rs[i]? = some r → inIt s i r = true := by
  unfold ringsB
  rw [List.all_eq_true]
  constructor
  · intro h i r hr
    have := h i (List.mem_range.2 (List.getElem?_eq_some_iff.1 hr).1)
    rw [hr] at this
    exact this
  · intro h i hi
    have hl := List.mem_range.1 hi
    rw [List.getElem?_eq_getElem hl]
    exact h i _ (List.getElem?_eq_getElem hl)
theorem ringsB_false {s : St} {i : Nat} {r : Rg} (h : s.rs[i]? = some r) (h' : inIt s i r = false) : ringsB s = false := by
  cases hb : ringsB s with
  | false => rfl
  | true => rw [ringsB_iff.1 hb i r h] at h'; cases h'

theorem ok_next {r : Rg} (h : r.ok = true) : -1 ≤ r.x := by
  simp only [Rg.ok, rgOk, Bool.and_eq_true, nextB, Bool.or_eq_true, beq_iff_eq, idxB, decide_eq_true_eq] at h
  omega

def iHead (s : St) : Bool := roundB s.rd && inB s.mo 1 16 && decide ((s.rs.length : Int) ≤ s.mo) && ringB s s.fi && ringB s s.la
theorem iHead_eq (s : St) : iHead s = stHead s := by
  rw [Bool.eq_iff_iff]
  simp only [iHead, stHead, ringB, inB, Bool.and_eq_true, decide_eq_true_eq]
  constructor
  · rintro ⟨⟨⟨⟨a, b⟩, c⟩, d⟩, e⟩
    exact ⟨⟨⟨⟨a, b⟩, by omega, c⟩, d⟩, e⟩
  · rintro ⟨⟨⟨⟨a, b⟩, _, c⟩, d⟩, e⟩
    exact ⟨⟨⟨⟨a, b⟩, c⟩, d⟩, e⟩

theorem stOk_i (s : St) : stOk s = (iHead s && ringsB s) := by
  rw [Bool.eq_iff_iff, iHead_eq]
  simp only [stOk, Bool.and_eq_true, List.all_eq_true, and_assoc]
  refine and_congr_right fun hh => ?_
  rw [ringsB_iff]
  constructor
  · rintro ⟨h1, h2⟩ i r hr
    have key : ∀ r ∈ s.rs, -1 ≤ r.x ∧ r.x < s.rs.length := fun r hm => by
      have := h1 r hm
      simp only [inSt, Bool.and_eq_true, decide_eq_true_eq] at this
      exact ⟨ok_next this.1.1, this.2⟩
    have hi : i < s.rs.length := (List.getElem?_eq_some_iff.1 hr).1
    have h3 := h1 r (List.mem_of_getElem? hr)
    simp only [inSt, Bool.and_eq_true, decide_eq_true_eq] at h3
    have h4 := h2 i (List.mem_range.2 hi)
    rw [end_chain key _ _ (by omega) (by omega)] at h4
    simp only [inIt, Bool.and_eq_true, endB, beq_iff_eq]
    exact ⟨⟨h3.1.1, by simpa using h3.1.2⟩, h4⟩
  · intro h
    have key0 : ∀ (i : Nat) (r : Rg), s.rs[i]? = some r → r.ok = true ∧ (r.ps.length : Int) = s.rd ∧ endX (s.rs.map Rg.x) s.rs.length (i : Int) = -1 := fun i r hr => by
      have := h i r hr
      simp only [inIt, Bool.and_eq_true, endB, beq_iff_eq] at this
      exact ⟨this.1.1, this.1.2, this.2⟩
    have key : ∀ r ∈ s.rs, -1 ≤ r.x ∧ r.x < s.rs.length := fun r hm => by
      obtain ⟨i, hi, e⟩ := List.getElem_of_mem hm
      have hr : s.rs[i]? = some r := by rw [List.getElem?_eq_getElem hi, e]
      obtain ⟨h1, _, h3⟩ := key0 i r hr
      refine ⟨ok_next h1, ?_⟩
      have h0 := ok_next h1
      refine Classical.byContradiction fun hge => ?_
      obtain ⟨k, hk⟩ : ∃ k, s.rs.length = k + 1 := ⟨s.rs.length - 1, by omega⟩
      rw [hk, endX_in (by omega) (x := r.x) (by rw [show ((i : Int)).toNat = i by omega, List.getElem?_map, hr]; rfl), endX_out (by simp; omega)] at h3
      omega
    refine ⟨fun r hm => ?_, fun i hi => ?_⟩
    · obtain ⟨i, hi, e⟩ := List.getElem_of_mem hm
      have hr : s.rs[i]? = some r := by rw [List.getElem?_eq_getElem hi, e]
      obtain ⟨h1, h2, _⟩ := key0 i r hr
      simp only [inSt, Bool.and_eq_true, decide_eq_true_eq]
      exact ⟨⟨h1, by simpa using h2⟩, (key r hm).2⟩
    · have hl := List.mem_range.1 hi
      obtain ⟨_, _, h3⟩ := key0 i _ (List.getElem?_eq_getElem hl)
      rw [end_chain key _ _ (by omega) (by omega)]
      exact h3

end Go.Proofs.YtomfaabifpndbaaGreat

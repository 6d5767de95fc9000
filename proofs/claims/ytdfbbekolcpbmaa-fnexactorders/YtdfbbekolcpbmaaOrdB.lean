/-
  In how many orders the events of a list, each one explained by the line before it, may stand one after the other.
-/
import Derived.Test.YtdfbbekolcpbmaaLinC
namespace Go.Proofs.Ytdfbbekolcpbmaa
set_option linter.unusedSimpArgs false
set_option linter.unusedVariables false
open Go.RowKit
set_option linter.unusedVariables false

def sumN (f : Nat → Nat) : Nat → Nat
  | 0 => 0
  | i + 1 => sumN f i + f i
/-- Nothing that is left ends before x begins. -/
def nextB (left : List Ev) (x : Ev) : Bool := left.all fun o => !decide (o.e < x.b)
/-- What event i of those left leads to, if it goes on from the line. -/
def stepN (c : List Ev → List Int → Nat) (left : List Ev) (line : List Int) (i : Nat) : Nat := match left[i]? with
  | some x => bif (explains line x).2 && nextB left x then c (left.eraseIdx i) (explains line x).1 else 0
  | none => 0
/-- The number of orders of k events. -/
def cntO : Nat → List Ev → List Int → Nat
  | 0, _, _ => 1
  | k + 1, left, line => sumN (stepN (cntO k) left line) left.length

theorem stepN_at {c : List Ev → List Int → Nat} {left : List Ev} {line : List Int} {i : Nat} {x : Ev} (h : left[i]? = some x) : stepN c left line i = bif (explains line x).2 && nextB left x then c (left.eraseIdx i) (explains line x).1 else 0 := by
  unfold stepN; rw [h]
theorem sumN_mono {f : Nat → Nat} {i j : Nat} (h : i ≤ j) : sumN f i ≤ sumN f j := by
  induction j with
  | zero => obtain rfl : i = 0 := by omega
            exact Nat.le_refl _
  | succ j ih =>
    by_cases e : i = j + 1
    · subst e; exact Nat.le_refl _
    · have := ih (by omega)
      simp only [sumN]; omega
theorem sumN_le {f : Nat → Nat} {n b : Nat} (h : ∀ i, i < n → f i ≤ b) : sumN f n ≤ n * b := by
  induction n with
  | zero => simp [sumN]
  | succ n ih =>
    have h1 := ih fun i hi => h i (by omega)
    have h2 := h n (by omega)
    simp only [sumN]
    rw [Nat.succ_mul]; omega
def facN : Nat → Nat
  | 0 => 1
  | k + 1 => (k + 1) * facN k
theorem cntO_le : ∀ (k : Nat) (left : List Ev) (line : List Int), left.length = k → cntO k left line ≤ facN k
  | 0, _, _, _ => Nat.le_refl _
  | k + 1, left, line, h => by
    unfold cntO
    rw [h, facN]
    refine sumN_le fun i hi => ?_
    unfold stepN
    cases hx : left[i]? with
    | none => simp
    | some x =>
      simp only
      cases hb : ((explains line x).2 && nextB left x)
      · simp
      · simp only [cond_true]
        exact cntO_le k _ _ (by rw [List.length_eraseIdx]; simp [h, hi])

theorem nextB_no {left : List Ev} {x o : Ev} {i : Nat} (h : left[i]? = some o) (hb : o.e < x.b) : nextB left x = false := by
  rw [nextB, List.all_eq_false]
  exact ⟨o, List.mem_of_getElem? h, by simp [hb]⟩
theorem nextB_yes {left : List Ev} {x : Ev} (h : ∀ (j : Nat) o, j < left.length → left[j]? = some o → ¬ o.e < x.b) : nextB left x = true := by
  rw [nextB, List.all_eq_true]
  intro o ho
  obtain ⟨j, hj⟩ := List.mem_iff_getElem?.1 ho
  have := h j o (List.getElem?_eq_some_iff.1 hj).1 hj
  simp; omega

/-! ### Sets of places as numbers -/

def pick : List Ev → Nat → List Ev
  | [], _ => []
  | x :: t, m => if m % 2 = 1 then x :: pick t (m / 2) else pick t (m / 2)
def rank (m : Nat) : Nat → Nat
  | 0 => 0
  | i + 1 => rank m i + (m / 2 ^ i) % 2

theorem rank_cons (m : Nat) : ∀ i, rank m (i + 1) = m % 2 + rank (m / 2) i
  | 0 => by simp [rank]
  | i + 1 => by
    rw [rank, rank_cons m i, rank, Nat.div_div_eq_div_mul, ← Nat.pow_succ', Nat.add_assoc]
theorem pick_len : ∀ (l : List Ev) (m : Nat), (pick l m).length = rank m l.length
  | [], m => rfl
  | x :: t, m => by
    rw [List.length_cons, rank_cons, pick]
    have := pick_len t (m / 2)
    split
    · rename_i h; rw [List.length_cons, this, h]; omega
    · rename_i h; rw [this]; omega
theorem pick_at : ∀ (l : List Ev) (m i : Nat), m / 2 ^ i % 2 = 1 → i < l.length → (pick l m)[rank m i]? = l[i]?
  | [], m, i, _, h => absurd h (by simp)
  | x :: t, m, 0, hb, h => by
    have hb' : m % 2 = 1 := by simpa using hb
    rw [pick, if_pos hb']; rfl
  | x :: t, m, i + 1, hb, h => by
    have hb' : m / 2 / 2 ^ i % 2 = 1 := by rw [Nat.div_div_eq_div_mul, ← Nat.pow_succ']; exact hb
    have ih := pick_at t (m / 2) i hb' (by simpa using h)
    rw [pick, rank_cons]
    split
    · rename_i h1
      rw [h1, Nat.add_comm, List.getElem?_cons_succ, List.getElem?_cons_succ, ih]
    · rename_i h1
      rw [show m % 2 = 0 by omega, Nat.zero_add, List.getElem?_cons_succ, ih]
theorem pick_del : ∀ (l : List Ev) (m i : Nat), m / 2 ^ i % 2 = 1 → i < l.length → pick l (m - 2 ^ i) = (pick l m).eraseIdx (rank m i)
  | [], m, i, _, h => absurd h (by simp)
  | x :: t, m, 0, hb, h => by
    have hb' : m % 2 = 1 := by simpa using hb
    have h1 : ¬ (m - 2 ^ 0) % 2 = 1 := by simp; omega
    have h2 : (m - 2 ^ 0) / 2 = m / 2 := by simp; omega
    rw [pick, if_neg h1, pick, if_pos hb', h2]; rfl
  | x :: t, m, i + 1, hb, h => by
    have hb' : m / 2 / 2 ^ i % 2 = 1 := by rw [Nat.div_div_eq_div_mul, ← Nat.pow_succ']; exact hb
    have ih := pick_del t (m / 2) i hb' (by simpa using h)
    have hp : 2 ^ (i + 1) = 2 * 2 ^ i := by rw [Nat.pow_succ']
    have hge : 2 ^ i ≤ m / 2 := by
      by_cases hlt : m / 2 < 2 ^ i
      · rw [Nat.div_eq_of_lt hlt] at hb'; simp at hb'
      · omega
    have h1 : (m - 2 ^ (i + 1)) % 2 = m % 2 := by omega
    have h2 : (m - 2 ^ (i + 1)) / 2 = m / 2 - 2 ^ i := by omega
    rw [pick, pick, rank_cons, h1, h2, ih]
    split
    · rename_i h3
      rw [h3, Nat.add_comm 1, List.eraseIdx_cons_succ]
    · rename_i h3
      rw [show m % 2 = 0 by omega, Nat.zero_add]
theorem pick_sub {l : List Ev} {m i : Nat} (hb : m / 2 ^ i % 2 = 1) : 2 ^ i ≤ m := by
  by_cases hlt : m < 2 ^ i
  · rw [Nat.div_eq_of_lt hlt] at hb; simp at hb
  · omega
theorem pick_all : ∀ (l : List Ev), pick l (2 ^ l.length - 1) = l
  | [] => rfl
  | x :: t => by
    have hp : 2 ^ (t.length + 1) = 2 * 2 ^ t.length := by rw [Nat.pow_succ']
    have h0 : 0 < 2 ^ t.length := Nat.pow_pos (by omega)
    have h1 : (2 ^ (t.length + 1) - 1) % 2 = 1 := by omega
    have h2 : (2 ^ (t.length + 1) - 1) / 2 = 2 ^ t.length - 1 := by omega
    rw [List.length_cons, pick, if_pos h1, h2, pick_all t]
theorem pick_nil {l : List Ev} {m : Nat} (hm : m < 2 ^ l.length) (h : pick l m = []) : m = 0 := by
  induction l generalizing m with
  | nil => simp at hm; exact hm
  | cons x t ih =>
    rw [pick] at h
    split at h
    · cases h
    · have hp : 2 ^ (t.length + 1) = 2 * 2 ^ t.length := by rw [Nat.pow_succ']
      rw [List.length_cons] at hm
      have := ih (m := m / 2) (by omega) h
      omega
theorem pick_zero (l : List Ev) : pick l 0 = [] := by
  induction l with
  | nil => rfl
  | cons x t ih => rw [pick]; simpa using ih
theorem pick_mem {l : List Ev} {m i : Nat} {x : Ev} (h : (pick l m)[i]? = some x) : x ∈ l := by
  induction l generalizing m i with
  | nil => simp [pick] at h
  | cons y t ih =>
    rw [pick] at h
    split at h
    · cases i with
      | zero => simp at h; subst h; exact List.mem_cons_self
      | succ i => rw [List.getElem?_cons_succ] at h; exact List.mem_cons_of_mem _ (ih h)
    · exact List.mem_cons_of_mem _ (ih h)
/-- Whoever is picked stands at a place that is marked. -/
theorem pick_from : ∀ (l : List Ev) (m j : Nat) (x : Ev), (pick l m)[j]? = some x → ∃ i, i < l.length ∧ m / 2 ^ i % 2 = 1 ∧ l[i]? = some x ∧ rank m i = j
  | [], m, j, x, h => by simp [pick] at h
  | y :: t, m, j, x, h => by
    rw [pick] at h
    split at h
    · rename_i h1
      cases j with
      | zero => exact ⟨0, by simp, by simpa using h1, by simpa using h, rfl⟩
      | succ j =>
        rw [List.getElem?_cons_succ] at h
        obtain ⟨i, hi, hb, hx, hr⟩ := pick_from t (m / 2) j x h
        refine ⟨i + 1, by simpa using hi, ?_, by simpa using hx, by rw [rank_cons, hr, h1]; omega⟩
        rw [Nat.pow_succ', ← Nat.div_div_eq_div_mul]; exact hb
    · rename_i h1
      obtain ⟨i, hi, hb, hx, hr⟩ := pick_from t (m / 2) j x h
      refine ⟨i + 1, by simpa using hi, ?_, by simpa using hx, by rw [rank_cons, hr]; omega⟩
      rw [Nat.pow_succ', ← Nat.div_div_eq_div_mul]; exact hb

theorem ex_small {l : List Int} {x : Ev} (h : (explains l x).2 = true) : (explains l x).1.length ≤ 41 := by
  cases hok : lineOk l
  · rw [ex_no hok] at h; cases h
  · have h40 := lineOk_len hok
    cases hev : evOk x
    · rw [ex_ev hok hev] at h; cases h
    · rcases ev_shape hev with ⟨hp, hr | hr⟩ | ⟨hp, hr | hr⟩
      · rw [ex1 hok hev hp hr, linePut, hok]
        cases valB x.v && !decide (l.length = 40)
        · simp; omega
        · simp; omega
      · rw [ex2 hok hev hp hr]; simp only; omega
      · rw [ex4 hok hev hp hr] at h ⊢
        cases hb : ((lineTake l).2.2 && (lineTake l).2.1 == x.v)
        · simp; omega
        · cases l with
          | nil => simp [lineTake, hok]
          | cons y t => simp [lineTake, hok] at h40 ⊢; omega
      · rw [ex3 hok hev hp hr]; simp only; omega

end Go.Proofs.Ytdfbbekolcpbmaa

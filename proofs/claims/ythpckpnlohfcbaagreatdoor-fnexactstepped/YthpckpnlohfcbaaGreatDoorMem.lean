/-
 Memory in words of this project's own: lists that lie in slices, kept where old memory is; rows of a call's own that hold the cells of a list, read and written by element.
-/
import Derived.Test.YthpckpnlohfcbaaGreatDoorKit
import Derived.Laws.MakeOwn
import Derived.Laws.OwnMore
import Derived.Maps.AppendAt
import Derived.Deep.AppendLies
import Derived.Deep.Slices
import Derived.Deep.Fields
namespace Go.Proofs.YthpckpnlohfcbaaGreatDoor
set_option linter.unusedSimpArgs false
set_option linter.unusedVariables false
open Go.RowKit
def Same (N : Nat) (w w' : World) : Prop := ∀ j, N ≤ j → j < w.heap.size → w'.heap[j]? = w.heap[j]?
theorem Same.of_below {N : Nat} {w w' : World} (h : Below w.heap.size w w') : Same N w w' := fun j _ hj => h.block j hj
theorem Same.refl (N : Nat) (w : World) : Same N w w := fun _ _ _ => rfl
theorem Same.mono {N M : Nat} {w w' : World} (h : Same N w w') (hN : N ≤ M) : Same M w w' := fun j hj hs => h j (Nat.le_trans hN hj) hs
theorem Same.cell {N : Nat} {w w' : World} (h : Same N w w') {b o : Nat} {v : Value} (hb : N ≤ b) (hc : w.cell? ⟨b, o, none⟩ = some v) : w'.cell? ⟨b, o, none⟩ = some v :=
 (World.cell?_of_block (h b hb (World.block_lt_of_cell? w _ hc))).trans hc
def SlE {α : Type} (E : Nat → World → Nat → Nat → α → Prop) (k N : Nat) (w : World) (A : Option Addr) (n : Nat) (l : List α) : Prop :=
 l.length = n ∧ (0 < n → ∃ b o, A = some ⟨b, o, none⟩ ∧ N ≤ b ∧ ∀ i x, l[i]? = some x → E N w b (o + i * k) x)
def Kept {α : Type} (E : Nat → World → Nat → Nat → α → Prop) : Prop := ∀ (N : Nat) (w w' : World) (b o : Nat) (x : α), N ≤ b → Same N w w' → E N w b o x → E N w' b o x
section
variable {α : Type} {E : Nat → World → Nat → Nat → α → Prop} {k N : Nat} {w w' : World} {A : Option Addr} {n : Nat} {l : List α}
theorem SlE.keep (hE : Kept E) (h : SlE E k N w A n l) (hs : Same N w w') : SlE E k N w' A n l :=
 ⟨h.1, fun hn => by
  obtain ⟨b, o, e, hb, hc⟩ := h.2 hn
  exact ⟨b, o, e, hb, fun i x hx => hE _ _ _ _ _ _ hb hs (hc i x hx)⟩⟩
theorem SlE.below (hE : Kept E) (h : SlE E k N w A n l) (hb : Below w.heap.size w w') : SlE E k N w' A n l := h.keep hE (.of_below hb)
theorem SlE.at_ (h : SlE E k N w A n l) {i : Nat} (hi : i < n) : ∃ b o x, A = some ⟨b, o, none⟩ ∧ N ≤ b ∧ l[i]? = some x ∧ E N w b (o + i * k) x := by
 obtain ⟨b, o, e, hb, hc⟩ := h.2 (by omega)
 have hl : i < l.length := by have := h.1; omega
 exact ⟨b, o, l[i], e, hb, List.getElem?_eq_getElem hl, hc i _ (List.getElem?_eq_getElem hl)⟩
end
section
variable {α : Type} (f : α → List Value) (k : Nat)
theorem flat_len (hf : ∀ x, (f x).length = k) (l : List α) : (l.flatMap f).length = l.length * k := by
 induction l with
 | nil => simp
 | cons x l ih => simp [List.flatMap_cons, hf, ih, Nat.succ_mul, Nat.add_comm]
theorem flat_get (hf : ∀ x, (f x).length = k) : ∀ (l : List α) (i j : Nat), j < k → (l.flatMap f)[i * k + j]? = (l[i]?).bind fun x => (f x)[j]?
 | [], i, j, _ => by simp
 | x :: l, 0, j, hj => by
  rw [List.flatMap_cons, List.getElem?_append_left (by rw [hf]; omega)]
  simp
 | x :: l, i + 1, j, hj => by
  rw [List.flatMap_cons, List.getElem?_append_right (by rw [hf, Nat.succ_mul]; omega), hf, show (i + 1) * k + j - k = i * k + j by rw [Nat.succ_mul]; omega, flat_get hf l i j hj]
  simp
def setAll (xs : List Value) (o : Nat) : List Value → List Value
 | [] => xs
 | u :: us => setAll (xs.set o u) (o + 1) us
theorem setAll_get : ∀ (us : List Value) (xs : List Value) (o j : Nat), o + us.length ≤ xs.length → (setAll xs o us)[j]? = if j < o then xs[j]? else if j < o + us.length then us[j - o]? else xs[j]?
 | [], xs, o, j, _ => by
  simp only [setAll, List.length_nil, Nat.add_zero]
  split <;> first | rfl | rfl
 | u :: us, xs, o, j, h => by
  simp only [List.length_cons] at h
  simp only [setAll, List.length_cons]
  rw [setAll_get us (xs.set o u) (o + 1) j (by simp; omega)]
  by_cases h1 : j < o
  · rw [if_pos (by omega), if_pos h1, List.getElem?_set_ne (by omega)]
  ·
   by_cases h2 : j = o
   ·
    subst h2
    rw [if_pos (by omega), if_neg (by omega), if_pos (by omega), List.getElem?_set_self (by omega)]
    simp
   ·
    rw [if_neg (by omega), if_neg h1]
    by_cases h3 : j < o + 1 + us.length
    · rw [if_pos h3, if_pos (by omega), show j - o = (j - (o + 1)) + 1 by omega, List.getElem?_cons_succ]
    · rw [if_neg h3, if_neg (by omega), List.getElem?_set_ne (by omega)]
theorem flat_set (hk : 0 < k) (hf : ∀ x, (f x).length = k) (l : List α) (i : Nat) (x : α) (hi : i < l.length) : setAll (l.flatMap f) (i * k) (f x) = (l.set i x).flatMap f := by
 have hlen := flat_len f k hf
 have hmul : i * k + k ≤ l.length * k := by
  have := Nat.mul_le_mul_right k (show i + 1 ≤ l.length from hi)
  rw [Nat.succ_mul] at this; exact this
 apply List.ext_getElem?
 intro j
 rw [setAll_get _ _ _ _ (by rw [hlen, hf]; exact hmul), hf]
 have hj : j = j / k * k + j % k := by rw [Nat.mul_comm]; exact (Nat.div_add_mod j k).symm
 have hm : j % k < k := Nat.mod_lt _ hk
 have e2 : ((l.set i x).flatMap f)[j]? = ((l.set i x)[j / k]?).bind fun x => (f x)[j % k]? := by
  conv => lhs; rw [hj]
  exact flat_get f k hf _ _ _ hm
 have e1 : (l.flatMap f)[j]? = (l[j / k]?).bind fun x => (f x)[j % k]? := by
  conv => lhs; rw [hj]
  exact flat_get f k hf _ _ _ hm
 rw [e1, e2]
 by_cases hq : j / k = i
 ·
  subst hq
  rw [if_neg (by omega), if_pos (by omega), List.getElem?_set_self hi, show j - j / k * k = j % k by omega]
  rfl
 ·
  rw [List.getElem?_set_ne (fun h => hq h.symm)]
  by_cases h1 : j < i * k
  · rw [if_pos h1]
  ·
   rw [if_neg h1, if_neg]
   intro h2
   apply hq
   have : i ≤ j / k := (Nat.le_div_iff_mul_le hk).2 (by omega)
   have : j / k < i + 1 := (Nat.div_lt_iff_lt_mul hk).2 (by rw [Nat.succ_mul]; exact h2)
   omega
end
def Own {α : Type} (f : α → List Value) (k : Nat) (e : TypeId) (N : Nat) (w : World) (g n cap : Nat) (l : List α) : Prop :=
 l.length = n ∧ N ≤ g ∧ n ≤ cap ∧ cap ≤ maxLen ∧ ∃ cur : Array Value, BoxAt w g cur e ∧ cur.size = cap * k ∧ cur.toList.take (n * k) = l.flatMap f
section
variable {α : Type} {f : α → List Value} {k : Nat} {e : TypeId} {N : Nat} {w w' : World} {g n cap : Nat} {l : List α}
theorem Own.lt (h : Own f k e N w g n cap l) : g < w.heap.size := by
 obtain ⟨_, _, _, _, cur, hb, _⟩ := h
 exact hb.lt
theorem Own.cell_ (hf : ∀ x, (f x).length = k) (h : Own f k e N w g n cap l) {i j : Nat} {x : α} {u : Value} (hx : l[i]? = some x) (hu : (f x)[j]? = some u) : w.cell? ⟨g, i * k + j, none⟩ = some u := by
 obtain ⟨hl, _, _, _, cur, hb, _, ht⟩ := h
 have hj : j < k := by rw [← hf x]; exact (List.getElem?_eq_some_iff.1 hu).1
 have hi : i < l.length := (List.getElem?_eq_some_iff.1 hx).1
 have hm : i * k + j < n * k := by
  have := Nat.mul_le_mul_right k (show i + 1 ≤ n by omega)
  rw [Nat.succ_mul] at this; omega
 rw [hb.cell]
 have h1 : (cur.toList.take (n * k))[i * k + j]? = some u := by rw [ht, flat_get f k hf _ _ _ hj, hx]; exact hu
 rw [List.getElem?_take_of_lt hm] at h1
 simpa using h1
theorem Own.frozen_ (h : Own f k e N w g n cap l) (o : Nat) : w.frozen? ⟨g, o, none⟩ = false := by
 obtain ⟨_, _, _, _, cur, hb, _⟩ := h
 exact hb.frozen o
theorem Own.keep (h : Own f k e N w g n cap l) (hs : w'.heap[g]? = w.heap[g]?) : Own f k e N w' g n cap l := by
 obtain ⟨a, b, c, d, cur, hb, hr⟩ := h
 exact ⟨a, b, c, d, cur, by unfold BoxAt at *; rw [hs]; exact hb, hr⟩
theorem Own.below (h : Own f k e N w g n cap l) (hb : Below w.heap.size w w') : Own f k e N w' g n cap l := h.keep (hb.block g h.lt)
theorem Own.mono {M : Nat} (h : Own f k e N w g n cap l) (hM : M ≤ N) : Own f k e M w g n cap l := ⟨h.1, Nat.le_trans hM h.2.1, h.2.2⟩
theorem Own.own (h : Own f k e N w g n cap l) (hf : ∀ x, (f x).length = k) : w.ownsRow N e k (.slice (some ⟨g, 0, none⟩) n cap) n (l.flatMap f) := by
 obtain ⟨a, b, c, d, cur, hb, hs, ht⟩ := h
 exact ⟨by rw [flat_len f k hf, a], .inr ⟨g, cap, cur, rfl, b, hb, c, d, hs, ht⟩⟩
theorem Own.of_own (h : w.ownsRow N e k (.slice (some ⟨g, 0, none⟩) n cap) n (l.flatMap f)) (hl : l.length = n) : Own f k e N w g n cap l := by
 rcases h.2 with ⟨h1, _⟩ | ⟨g', cap', cur, hv, hg, hb, hc, hm, hs, ht⟩
 · cases h1
 ·
  injection hv with h1 h2 h3
  injection h1 with h1
  injection h1 with h1
  subst h1 h3
  exact ⟨hl, hg, hc, hm, cur, hb, hs, ht⟩
theorem Own.sl {E : Nat → World → Nat → Nat → α → Prop} (h : Own f k e N w g n cap l) (hf : ∀ x, (f x).length = k)
  (hE : ∀ b o x, (∀ j u, (f x)[j]? = some u → w.cell? ⟨b, o + j, none⟩ = some u) → E N w b o x) : SlE E k N w (some ⟨g, 0, none⟩) n l :=
 ⟨h.1, fun _ => ⟨g, 0, rfl, h.2.1, fun i x hx => hE _ _ _ fun j u hu => by rw [Nat.zero_add]; exact h.cell_ hf hx hu⟩⟩
theorem take_set_lt {xs : List Value} {m o : Nat} {u : Value} : (xs.set o u).take m = (xs.take m).set o u := by
 exact List.take_set ..
theorem Own.set1 (h : Own f k e N w g n cap l) (hf : ∀ x, (f x).length = k) {i j : Nat} {x x' : α} {u : Value} (hx : l[i]? = some x) (hj : j < k) (hx' : (f x).set j u = f x') :
  Own f k e N (w.setCell ⟨g, i * k + j, none⟩ u) g n cap (l.set i x') := by
 obtain ⟨a, b, c, d, cur, hb, hs, ht⟩ := h
 have hi : i < l.length := (List.getElem?_eq_some_iff.1 hx).1
 refine ⟨by simpa using a, b, c, d, cur.setIfInBounds (i * k + j) u, hb.set _ _, by simpa using hs, ?_⟩
 rw [Array.toList_setIfInBounds, take_set_lt, ht]
 apply List.ext_getElem?
 intro m
 have hk : 0 < k := by omega
 have hm : m = m / k * k + m % k := by rw [Nat.mul_comm]; exact (Nat.div_add_mod m k).symm
 have hmk : m % k < k := Nat.mod_lt _ hk
 have e2 : ((l.set i x').flatMap f)[m]? = ((l.set i x')[m / k]?).bind fun x => (f x)[m % k]? := by
  conv => lhs; rw [hm]
  exact flat_get f k hf _ _ _ hmk
 have e1 : (l.flatMap f)[m]? = (l[m / k]?).bind fun x => (f x)[m % k]? := by
  conv => lhs; rw [hm]
  exact flat_get f k hf _ _ _ hmk
 have hlen := flat_len f k hf l
 have hmul : i * k + k ≤ l.length * k := by
  have := Nat.mul_le_mul_right k (show i + 1 ≤ l.length from hi)
  rw [Nat.succ_mul] at this; exact this
 rw [e2]
 by_cases hq : i * k + j = m
 ·
  have hd : m / k = i := by rw [← hq, Nat.mul_comm, Nat.mul_add_div hk, Nat.div_eq_of_lt hj]; omega
  have hr : m % k = j := by rw [← hq, Nat.mul_comm, Nat.mul_add_mod, Nat.mod_eq_of_lt hj]
  rw [← hq, List.getElem?_set_self (by omega), hq, hd, hr, List.getElem?_set_self hi]
  show _ = (f x')[j]?
  rw [← hx', List.getElem?_set_self (by rw [hf]; exact hj)]
 ·
  rw [List.getElem?_set_ne hq, e1]
  by_cases hd : m / k = i
  ·
   rw [hd, List.getElem?_set_self hi, hx]
   show (f x)[m % k]? = (f x')[m % k]?
   rw [← hx', List.getElem?_set_ne]
   rintro rfl
   apply hq
   rw [← hd]; exact hm.symm
  · rw [List.getElem?_set_ne (fun h => hd h.symm)]
end
theorem made_flat {α : Type} {f : α → List Value} {k : Nat} (hf : ∀ x, (f x).length = k) (hk : 0 < k) (x : α) (z : Array Value) (hz : z.toList = f x) (n : Nat) : (madeCells z (n * k)).toList = (List.replicate n x).flatMap f := by
 have hzk : z.size = k := by rw [← hf x, ← hz]; simp
 apply List.ext_getElem?
 intro m
 have hm : m = m / k * k + m % k := by rw [Nat.mul_comm]; exact (Nat.div_add_mod m k).symm
 have hmk : m % k < k := Nat.mod_lt _ hk
 have e2 : ((List.replicate n x).flatMap f)[m]? = ((List.replicate n x)[m / k]?).bind fun x => (f x)[m % k]? := by
  conv => lhs; rw [hm]
  exact flat_get f k hf _ _ _ hmk
 rw [e2]
 by_cases h : m < n * k
 ·
  have hd : m / k < n := (Nat.div_lt_iff_lt_mul hk).2 h
  have hg : (f x)[m % k]? = some (z[m % k]'(by omega)) := by rw [← hz]; simp [hzk, hmk]
  simp only [madeCells, Array.toList_map, Array.toList_range, List.getElem?_map, List.getElem?_range h, List.getElem?_replicate, hd, if_true, Option.map_some, Option.bind_some, hg]
  have : m % z.size = m % k := by rw [hzk]
  rw [this, getElem!_pos z (m % k) (by omega)]
 ·
  have hd : ¬ m / k < n := fun hd => h ((Nat.div_lt_iff_lt_mul hk).1 hd)
  simp [madeCells, List.getElem?_replicate, hd, h]
theorem Own.made {α : Type} {f : α → List Value} {k : Nat} (hf : ∀ x, (f x).length = k) (hk : 0 < k) (x : α) (z : Array Value) (hz : z.toList = f x) {e : TypeId} {N : Nat} {w : World} (hN : N ≤ w.heap.size) (n : Nat) (hn : n ≤ maxLen) :
  Own f k e N (w.alloc (.cells (madeCells z (n * k)) e)) w.heap.size n n (List.replicate n x) := by
 refine ⟨by simp, hN, Nat.le_refl _, hn, _, BoxAt.new _ _ _, size_madeCells _ _, ?_⟩
 rw [made_flat hf hk x z hz n, List.take_of_length_le]
 rw [flat_len f k hf]; simp
def upto {α : Type} (x : α) (l : List α) (i : Nat) : List α := l.take i ++ List.replicate (l.length - i) x
theorem upto_zero {α : Type} (x : α) (l : List α) : upto x l 0 = List.replicate l.length x := by simp [upto]
theorem upto_all {α : Type} (x : α) (l : List α) {i : Nat} (h : l.length ≤ i) : upto x l i = l := by
 simp [upto, List.take_of_length_le h, show l.length - i = 0 by omega]
theorem upto_at {α : Type} (x : α) (l : List α) {i : Nat} (h : i < l.length) : (upto x l i)[i]? = some x := by
 unfold upto
 rw [List.getElem?_append_right (by simp; omega)]
 simp [List.getElem?_replicate]; omega
theorem upto_set {α : Type} (x : α) (l : List α) {i : Nat} {y : α} (h : l[i]? = some y) : (upto x l i).set i y = upto x l (i + 1) := by
 have hi : i < l.length := (List.getElem?_eq_some_iff.1 h).1
 unfold upto
 have e : l.length - i = (l.length - (i + 1)) + 1 := by omega
 rw [List.set_append_right _ _ (by simp; omega), e, List.replicate_succ, List.take_add_one, h]
 simp [Nat.min_eq_left (Nat.le_of_lt hi)]
def setCells (w : World) (g o : Nat) : List Value → World
 | [] => w
 | u :: us => setCells (w.setCell ⟨g, o, none⟩ u) g (o + 1) us
theorem BoxAt.setCells {e : TypeId} {g : Nat} : ∀ (us : List Value) (w : World) (o : Nat) (cur : Array Value), BoxAt w g cur e → ∃ cur' : Array Value, BoxAt (setCells w g o us) g cur' e ∧ cur'.size = cur.size ∧ cur'.toList = setAll cur.toList o us
 | [], w, o, cur, h => ⟨cur, h, rfl, rfl⟩
 | u :: us, w, o, cur, h => by
  obtain ⟨cur', h1, h2, h3⟩ := BoxAt.setCells us (w.setCell ⟨g, o, none⟩ u) (o + 1) _ (h.set o u)
  exact ⟨cur', h1, by simpa using h2, by rw [h3, Array.toList_setIfInBounds]; rfl⟩
theorem setAll_take : ∀ (us : List Value) (xs : List Value) (o m : Nat), (setAll xs o us).take m = setAll (xs.take m) o us
 | [], _, _, _ => rfl
 | u :: us, xs, o, m => by
  simp only [setAll]
  rw [setAll_take us, take_set_lt]
theorem Own.setEl {α : Type} {f : α → List Value} {k : Nat} {e : TypeId} {N : Nat} {w : World} {g n cap : Nat} {l : List α} (h : Own f k e N w g n cap l) (hf : ∀ x, (f x).length = k) (hk : 0 < k) {i : Nat} (hi : i < n) (x : α) :
  Own f k e N (setCells w g (i * k) (f x)) g n cap (l.set i x) := by
 obtain ⟨a, b, c, d, cur, hb, hs, ht⟩ := h
 obtain ⟨cur', h1, h2, h3⟩ := hb.setCells (f x) w (i * k)
 refine ⟨by simpa using a, b, c, d, cur', h1, by omega, ?_⟩
 rw [h3, setAll_take, ht, flat_set f k hk hf l i x (by omega)]
structure But (k : Nat) (w w' : World) : Prop where
 os : w'.os = w.os
 tape : w'.tape = w.tape
 output : w'.output = w.output
 size : w.heap.size ≤ w'.heap.size
 block : ∀ j, j < w.heap.size → j ≠ k → w'.heap[j]? = w.heap[j]?
theorem But.refl (k : Nat) (w : World) : But k w w := ⟨rfl, rfl, rfl, Nat.le_refl _, fun _ _ _ => rfl⟩
theorem But.trans {k : Nat} {a b c : World} (h : But k a b) (h' : But k b c) : But k a c :=
 ⟨h'.os.trans h.os, h'.tape.trans h.tape, h'.output.trans h.output, Nat.le_trans h.size h'.size, fun j hj hk => (h'.block j (Nat.lt_of_lt_of_le hj h.size) hk).trans (h.block j hj hk)⟩
theorem But.drewN {k : Nat} {a b : World} (h : But k a b) (n : Nat) : But k a (b.drewN n) := ⟨h.os, h.tape, h.output, h.size, h.block⟩
theorem But.set {k : Nat} {a b : World} (h : But k a b) (i : Nat) (v : Value) : But k a (b.setCell ⟨k, i, none⟩ v) :=
 ⟨h.os, h.tape, h.output, by simpa using h.size, fun j hj hk => by
  rw [← h.block j hj hk]
  simp [World.setCell, Array.getElem?_modify, Ne.symm hk]⟩
theorem But.below {k B : Nat} {a b : World} (h : But k a b) (hB : B ≤ k) (hs : B ≤ a.heap.size) : Below B a b :=
 ⟨h.os, h.tape, h.output, h.size, fun j hj => h.block j (by omega) (by omega)⟩
theorem But.of_below {k : Nat} {a b : World} (h : Below a.heap.size a b) : But k a b := ⟨h.os, h.tape, h.output, h.size, fun j hj _ => h.block j hj⟩
theorem But.box {k : Nat} {a b : World} (h : But k a b) {j : Nat} {cs : Array Value} {t : TypeId} (hb : BoxAt a j cs t) (hj : j ≠ k) : BoxAt b j cs t := by
 have := hb.lt
 unfold BoxAt at *
 rw [h.block j this hj]; exact hb
theorem But.same {k N : Nat} {a b : World} (h : But k a b) (hk : k < N) : Same N a b := fun j hj hs => h.block j hs (by omega)
theorem BoxAt.drewN {W : World} {k : Nat} {cs : Array Value} {t : TypeId} (h : BoxAt W k cs t) (n : Nat) : BoxAt (W.drewN n) k cs t := h
theorem But.setCells {k : Nat} {a : World} : ∀ (us : List Value) {b : World} (o : Nat), But k a b → But k a (setCells b k o us)
 | [], _, _, h => h
 | u :: us, _, o, h => But.setCells us (o + 1) (h.set o u)
theorem Below.setCells {B g : Nat} {a : World} (hg : B ≤ g) : ∀ (us : List Value) {b : World} (o : Nat), Below B a b → Below B a (setCells b g o us)
 | [], _, _, h => h
 | u :: us, _, o, h => Below.setCells hg us (o + 1) (Below.setCell h (p := ⟨g, o, none⟩) hg u)
def over {α : Type} (l m : List α) (i : Nat) : List α := m.take i ++ l.drop i
theorem over_zero {α : Type} (l m : List α) : over l m 0 = l := by simp [over]
theorem over_all {α : Type} {l m : List α} (h : l.length = m.length) {i : Nat} (hi : l.length ≤ i) : over l m i = m := by
 simp [over, List.take_of_length_le (show m.length ≤ i by omega), List.drop_eq_nil_of_le hi]
theorem over_at {α : Type} {l m : List α} (h : l.length = m.length) {i : Nat} (hi : i < l.length) : (over l m i)[i]? = l[i]? := by
 unfold over
 rw [List.getElem?_append_right (by simp; omega), List.length_take, Nat.min_eq_left (by omega), List.getElem?_drop]
 simp
theorem over_set {α : Type} {l m : List α} (h : l.length = m.length) {i : Nat} {y : α} (hy : m[i]? = some y) : (over l m i).set i y = over l m (i + 1) := by
 have hi : i < m.length := (List.getElem?_eq_some_iff.1 hy).1
 unfold over
 have hd : l.drop i = l[i]'(by omega) :: l.drop (i + 1) := List.drop_eq_getElem_cons (by omega)
 rw [List.set_append_right _ _ (by simp; omega), List.take_add_one, hy, List.length_take, Nat.min_eq_left (by omega), Nat.sub_self, hd, List.set_cons_zero]
 simp only [Option.toList_some, List.append_assoc, List.singleton_append]
theorem BoxAt.new' {W : World} {k : Nat} {cs : Array Value} {t : TypeId} (h : k = W.heap.size) : BoxAt (W.alloc (.cells cs t)) k cs t := by
 subst h; exact BoxAt.new _ _ _
theorem Own.set_ne {α : Type} {f : α → List Value} {k : Nat} {e : TypeId} {N : Nat} {w : World} {g n cap : Nat} {l : List α} (h : Own f k e N w g n cap l) {b : Nat} (hb : g ≠ b) (i : Nat) (u : Value) : Own f k e N (w.setCell ⟨b, i, none⟩ u) g n cap l :=
 h.keep (Below.heap_setCell w ⟨b, i, none⟩ u g hb)
theorem Own.al {α : Type} {f : α → List Value} {k : Nat} {e : TypeId} {N : Nat} {w : World} {g n cap : Nat} {l : List α} (h : Own f k e N w g n cap l) (o : Obj) : Own f k e N (w.alloc o) g n cap l :=
 h.keep (Below.heap_alloc w o g h.lt)
theorem Own.sn {α : Type} {f : α → List Value} {k : Nat} {e : TypeId} {N : Nat} {w : World} {g n cap : Nat} {l : List α} (h : Own f k e N w g n cap l) {b : Nat} {i : Nat} {u : Value} (hb : g ≠ b := by omega) : Own f k e N (w.setCell ⟨b, i, none⟩ u) g n cap l := Own.set_ne h hb i u
theorem news_alloc (W : World) (cs : List Value) (t : TypeId) : ∀ j u, cs[j]? = some u → (W.alloc (.cells cs.toArray t)).cell? ((⟨W.heap.size, 0, none⟩ : Addr).add j) = some u := by
 intro j u hu
 have hb := BoxAt.new W cs.toArray t
 have e : (⟨W.heap.size, 0, none⟩ : Addr).add j = ⟨W.heap.size, j, none⟩ := by
  by_cases h : j = 0
  · subst h; simp [Addr.add]
  · simp [Addr.add, h]
 rw [e, hb.cell]
 simpa using hu
theorem Own.of_row {α : Type} {f : α → List Value} {k : Nat} {e : TypeId} {N : Nat} {w : World} {v : Value} {n : Nat} {l : List α} (h : w.ownsRow N e k v n (l.flatMap f)) (hl : l.length = n) (hn : 0 < n) :
  ∃ g cap, v = .slice (some ⟨g, 0, none⟩) n cap ∧ Own f k e N w g n cap l := by
 rcases h.2 with ⟨_, h1⟩ | ⟨g, cap, cur, hv, hg, hb, hc, hm, hs, ht⟩
 · omega
 · exact ⟨g, cap, hv, hl, hg, hc, hm, cur, hb, hs, ht⟩
theorem BoxAt.grown {W W' : World} {k : Nat} {cs : Array Value} {t : TypeId} {row : Option Nat} (h : BoxAt W k cs t) (hg : W.grownBy W' row) (hr : ∀ g, row = some g → k < g) : BoxAt W' k cs t := by
 unfold BoxAt at *
 rw [hg.block k (Array.getElem?_eq_some_iff.1 h).1 (fun e => absurd (hr k e.symm) (Nat.lt_irrefl _))]
 exact h
theorem own_ge {W : World} {M : Nat} {e : TypeId} {s : Nat} {v : Value} {n : Nat} {xs : List Value} (h : W.ownsRow M e s v n xs) {k : Nat} (hk : k < M) : ∀ g, v.ownBlock = some g → k < g :=
 fun g hg => Nat.lt_of_lt_of_le hk (h.lt g hg).1
theorem own_mono {W : World} {M N : Nat} {e : TypeId} {s : Nat} {v : Value} {n : Nat} {xs : List Value} (h : W.ownsRow M e s v n xs) (hN : N ≤ M) : W.ownsRow N e s v n xs := by
 refine ⟨h.1, ?_⟩
 rcases h.2 with h' | ⟨g, cap, cur, hv, hg, hr⟩
 · exact .inl h'
 · exact .inr ⟨g, cap, cur, hv, Nat.le_trans hN hg, hr⟩
end Go.Proofs.YthpckpnlohfcbaaGreatDoor

/-
 A region that draws its order, shown once for all orders: of each operation one says what is known of its value (and of the memory behind it) from then on; an operation may lean on those alone that it waits for.
-/
import Derived.Test.YthpckpnlohfcbaaGreatDoorKit
namespace Go.Proofs.YthpckpnlohfcbaaGreatDoor
set_option linter.unusedSimpArgs false
set_option linter.unusedVariables false
open Go.RowKit
def upd {α : Type} (f : Nat → α) (i : Nat) (v : α) : Nat → α := fun j => if j = i then v else f j
theorem upd_same {α : Type} (f : Nat → α) (i : Nat) (v : α) : upd f i v i = v := by simp [upd]
theorem upd_ne {α : Type} (f : Nat → α) {i j : Nat} (v : α) (h : j ≠ i) : upd f i v j = f j := by simp [upd, h]
def dstAt (l : List Oper) (i : Nat) : Option Tmp := (l[i]?).bind (·.dst)
def waits (l : List Oper) (i j : Nat) : Bool :=
 match l[i]? with
 | some o => o.after.any fun e => Region.binds .any e && e.on == j
 | none => false
def fill (l : List Oper) (σ : Nat → Value) (L : Nat → Bool) (a : Act) : Nat → Act
 | 0 => a
 | n + 1 => bif L n then (fill l σ L a n).put (dstAt l n) (σ n) else fill l σ L a n
def notSelect : Op → Bool
 | .select _ _ => false
 | _ => true
def later (l : List Oper) (i j : Nat) : Bool := waits l j i || (List.range l.length).any fun k => waits l j k && waits l k i
theorem later_no {l : List Oper} {L : Nat → Bool} {i j : Nat} (hc : ∀ j, L j = true → ∀ k, waits l j k = true → L k = true) (hi : L i = false) (h : later l i j = true) : L j = false := by
 cases hj : L j with
 | false => rfl
 | true =>
  simp only [later, Bool.or_eq_true, List.any_eq_true, Bool.and_eq_true] at h
  rcases h with h | ⟨k, _, h1, h2⟩
  · rw [hc j hj i h] at hi; cases hi
  · rw [hc k (hc j hj k h1) i h2] at hi; cases hi
def growB (l : List Oper) (supp : Nat → List Nat) : Bool :=
 (List.range l.length).all fun i =>
  (match l[i]? with
   | some o =>
    ((o.looksAt l.toArray).all fun d => (List.range l.length).all fun j => (dstAt l j != some d) || (decide (j < i) && waits l i j) || (decide (i < j) && later l i j)) &&
    ((List.range l.length).all fun j => j == i || (dstAt l i).isNone || dstAt l j != dstAt l i) &&
    (o.after.all fun e => !Region.binds .any e || decide (e.on < i)) && notSelect o.op
   | none => true) &&
  ((supp i).all fun k => k == i || waits l i k)
def OpUpon (P : Program) (K : Value → World → Prop) : Result Next → Prop
 | .ok (.value v) w' => K v w'
 | .ok .skip w' => K undef w'
 | .ok (.enter f args) w' => Calls P f args w' fun e w'' => ∃ v, e = .returned v ∧ K v w''
 | _ => False
def OpGoes (P : Program) (ops : Array Oper) (o : Oper) (a : Act) (w : World) (K : Value → World → Prop) : Prop :=
 (Region.wanted o (yielded ops a.tmps) = true → OpUpon P K ((execOp a.eval o).run P w)) ∧ (Region.wanted o (yielded ops a.tmps) = false → K undef w)
theorem tmps_put_ne (a : Act) (x : Option Tmp) (v : Value) (d : Tmp) (h : x ≠ some d) : (a.put x v).tmps[d]? = a.tmps[d]? := by
 cases x with
 | none => rfl
 | some e => simp [Act.put, Array.getElem?_setIfInBounds_ne (show e ≠ d from fun h' => h (by rw [h']))]
theorem tmps_put_same (a b : Act) (v : Value) (d : Tmp) (h : a.tmps.size = b.tmps.size) : (a.put (some d) v).tmps[d]? = (b.put (some d) v).tmps[d]? := by
 simp [Act.put, Array.getElem?_setIfInBounds, h]
theorem size_put (a : Act) (x : Option Tmp) (v : Value) : (a.put x v).tmps.size = a.tmps.size := by
 cases x <;> simp [Act.put]
theorem size_fill (l : List Oper) (σ : Nat → Value) (L : Nat → Bool) (a : Act) : ∀ n, (fill l σ L a n).tmps.size = a.tmps.size
 | 0 => rfl
 | n + 1 => by
  unfold fill
  cases L n <;> simp [size_put, size_fill l σ L a n]
theorem fill_none {l : List Oper} {σ : Nat → Value} {L : Nat → Bool} {a : Act} {d : Tmp} : ∀ {n : Nat}, (∀ j, j < n → L j = true → dstAt l j ≠ some d) → (fill l σ L a n).tmps[d]? = a.tmps[d]?
 | 0, _ => rfl
 | n + 1, h => by
  unfold fill
  cases hL : L n with
  | false => exact fill_none fun j hj => h j (by omega)
  | true =>
   simp only [cond_true]
   rw [tmps_put_ne _ _ _ _ (h n (by omega) hL)]
   exact fill_none fun j hj => h j (by omega)
theorem fill_one {l : List Oper} {σ : Nat → Value} {L : Nat → Bool} {a : Act} {d : Tmp} {j : Nat} (hj : dstAt l j = some d) (hL : L j = true) (hu : ∀ k, k ≠ j → dstAt l k ≠ some d) :
  ∀ {n : Nat}, j < n → (fill l σ L a n).tmps[d]? = (a.put (some d) (σ j)).tmps[d]?
 | 0, h => absurd h (by omega)
 | n + 1, h => by
  unfold fill
  by_cases e : j = n
  ·
   subst e
   simp only [hL, cond_true, hj]
   exact tmps_put_same _ _ _ _ (size_fill ..)
  ·
   cases hLn : L n with
   | false => exact fill_one hj hL hu (by omega)
   | true =>
    simp only [cond_true]
    rw [tmps_put_ne _ _ _ _ (hu n (Ne.symm e))]
    exact fill_one hj hL hu (by omega)
theorem fill_all {l : List Oper} {σ : Nat → Value} {L : Nat → Bool} {a : Act} : ∀ {n : Nat}, (∀ j, j < n → L j = true) → fill l σ L a n = fill l σ (fun _ => true) a n
 | 0, _ => rfl
 | n + 1, h => by
  unfold fill
  rw [h n (by omega), fill_all fun j hj => h j (by omega)]
theorem fill_upd {l : List Oper} {σ : Nat → Value} {L : Nat → Bool} {a : Act} {i : Nat} {v : Value} (hL : L i = false) (hu : ∀ k, k ≠ i → ∀ d, dstAt l i = some d → dstAt l k ≠ some d) :
  ∀ {n : Nat}, fill l (upd σ i v) (upd L i true) a n = bif decide (i < n) then (fill l σ L a n).put (dstAt l i) v else fill l σ L a n
 | 0 => rfl
 | n + 1 => by
  unfold fill
  by_cases e : i = n
  ·
   subst e
   have := fill_upd (l := l) (σ := σ) (L := L) (a := a) (v := v) hL hu (n := i)
   simp at this
   simp [upd_same, hL, this]
  ·
   rw [fill_upd (σ := σ) (a := a) (v := v) hL hu (n := n), upd_ne L true (fun h => e h.symm), upd_ne σ v (fun h => e h.symm)]
   by_cases hi : i < n
   ·
    have h1 : i < n + 1 := by omega
    simp only [hi, h1, decide_true, cond_true]
    cases L n with
    | false => rfl
    | true =>
     simp only [cond_true]
     exact Act.put_comm _ v (σ n) (fun d hd => hu n (fun h => e h.symm) d hd)
   ·
    have h1 : ¬ i < n + 1 := by omega
    simp [hi, h1]
section
variable {P : Program} {l : List Oper} {supp : Nat → List Nat}
theorem growB_at (h : growB l supp = true) {i : Nat} {o : Oper} (ho : l[i]? = some o) :
  (∀ d ∈ o.looksAt l.toArray, ∀ j, dstAt l j = some d → (j < i ∧ waits l i j = true) ∨ (i < j ∧ later l i j = true ∧ j < l.length)) ∧ (∀ k, k ≠ i → ∀ d, dstAt l i = some d → dstAt l k ≠ some d) ∧
  (∀ e ∈ o.after, Region.binds .any e = true → e.on < i) ∧ (∀ cs b, o.op ≠ .select cs b) ∧ (∀ k ∈ supp i, k = i ∨ waits l i k = true) := by
 have hi : i < l.length := (List.getElem?_eq_some_iff.1 ho).1
 have hlt : ∀ {j : Nat} {d : Tmp}, dstAt l j = some d → j < l.length := fun {j d} hj => by
  unfold dstAt at hj
  cases hl : l[j]? with
  | none => rw [hl] at hj; cases hj
  | some _ => exact (List.getElem?_eq_some_iff.1 hl).1
 unfold growB at h
 have h1 := List.all_eq_true.1 h i (List.mem_range.2 hi)
 rw [ho] at h1
 simp only [Bool.and_eq_true] at h1
 obtain ⟨⟨⟨⟨a1, a2⟩, a3⟩, a4⟩, a5⟩ := h1
 refine ⟨fun d hd j hj => ?_, fun k hk d hd hkd => ?_, fun e he hb => ?_, fun cs b hop => ?_, fun k hk => ?_⟩
 ·
  have := List.all_eq_true.1 (List.all_eq_true.1 a1 d hd) j (List.mem_range.2 (hlt hj))
  simp only [hj, bne_self_eq_false, Bool.false_or, Bool.or_eq_true, Bool.and_eq_true, decide_eq_true_eq] at this
  rcases this with h | h
  · exact .inl h
  · exact .inr ⟨h.1, h.2, hlt hj⟩
 ·
  have := List.all_eq_true.1 a2 k (List.mem_range.2 (hlt hkd))
  simp [hd, hkd, hk] at this
 ·
  have := Array.all_eq_true_iff_forall_mem.1 a3 e he
  simpa [hb] using this
 · rw [hop] at a4; cases a4
 ·
  have := List.all_eq_true.1 a5 k hk
  simpa using this
theorem waits_of {i : Nat} {o : Oper} (ho : l[i]? = some o) {j : Nat} (h : waits l i j = true) : ∃ e ∈ o.after, Region.binds .any e = true ∧ e.on = j := by
 unfold waits at h
 rw [ho] at h
 obtain ⟨e, he, hb⟩ := Array.any_eq_true'.1 h
 simp only [Bool.and_eq_true, beq_iff_eq] at hb
 exact ⟨e, he, hb.1, hb.2⟩
def Grows (P : Program) (ops : List Oper) (le : World → World → Prop) (C : World → Prop) (R : Nat → (Nat → Value) → World → Prop) (k : Nat) (o : Oper) (fr : (Nat → Value) → Act) : Prop :=
 ∀ (σ : Nat → Value) (w : World), C w → (∀ j, waits ops k j = true → R j σ w) → OpGoes P ops.toArray o (fr σ) w fun v w' => C w' ∧ R k (upd σ k v) w' ∧ le w w'
def Makes (P : Program) (ops : List Oper) (le : World → World → Prop) (C : World → Prop) (R : Nat → (Nat → Value) → World → Prop) (k : Nat) (o : Oper) (fr : (Nat → Value) → Act) : Prop :=
 ∀ (σ : Nat → Value) (w : World), C w → (∀ j, waits ops k j = true → R j σ w) → OpGoes P ops.toArray o (fr σ) w fun v w' => C w' ∧ R k (upd σ k v) w' ∧ le w w' ∧ v = pT w.heap.size ∧ w.heap.size < w'.heap.size
def Stores (P : Program) (ops : List Oper) (C : World → Prop) (R : Nat → (Nat → Value) → World → Prop) (kd : Nat → Nat) (k : Nat) (o : Oper) (fr : (Nat → Value) → Act) : Prop :=
 ∀ (σ : Nat → Value) (w : World), C w → (∀ j, waits ops k j = true → R j σ w) → (∀ i j, kd i = 2 → kd j = 2 → i ≠ j → waits ops k i = true → waits ops k j = true → σ i ≠ σ j) → OpGoes P ops.toArray o (fr σ) w fun v w' => C w' ∧ R k (upd σ k v) w' ∧ w.heap.size ≤ w'.heap.size ∧ ∀ j, j ≠ k → waits ops j k = false → R j σ w → R j σ w'
def AllOps (P : Program) (ops : List Oper) (le : World → World → Prop) (C : World → Prop) (R : Nat → (Nat → Value) → World → Prop) (kd : Nat → Nat) : Nat → List Oper → ((Nat → Value) → Act) → Prop
 | _, [], _ => True
 | k, o :: r, fr => (kd k = 0 ∧ Grows P ops le C R k o fr ∨ kd k = 1 ∧ Stores P ops C R kd k o fr ∨ kd k = 2 ∧ Makes P ops le C R k o fr) ∧ AllOps P ops le C R kd (k + 1) r fun σ => (fr σ).put o.dst (σ k)
theorem OpUpon.mono {P : Program} {K K' : Value → World → Prop} (h : ∀ v w, K v w → K' v w) {r : Result Next} (hr : OpUpon P K r) : OpUpon P K' r := by
 cases r with
 | ok n w' =>
  cases n <;> simp only [OpUpon] at hr ⊢
  case value v => exact h _ _ hr
  case skip => exact h _ _ hr
  case enter f args => exact Calls.mono hr fun _ _ ⟨v, he, hk⟩ => ⟨v, he, h _ _ hk⟩
 | halt x w' => simp only [OpUpon] at hr
theorem OpGoes.mono {P : Program} {ops : Array Oper} {o : Oper} {a : Act} {w : World} {K K' : Value → World → Prop} (h : ∀ v w, K v w → K' v w) (hg : OpGoes P ops o a w K) : OpGoes P ops o a w K' :=
 ⟨fun hw => (hg.1 hw).mono h, fun hw => h _ _ (hg.2 hw)⟩
theorem OpGoes.step {P : Program} {ops : Array Oper} {o : Oper} {a : Act} {w : World} {K : Value → World → Prop} (h : ∀ K' : Value → World → Prop, (∀ v w, K v w → K' v w) → OpGoes P ops o a w K') : OpGoes P ops o a w K := h K fun _ _ h => h
theorem OpGoes.go {P : Program} {ops : Array Oper} {o : Oper} {a : Act} {w : World} {K : Value → World → Prop} (h : ∀ K' : Value → World → Prop, (∀ v w, K v w → K' v w) → (Region.wanted o (yielded ops a.tmps) = true → OpUpon P K' ((execOp a.eval o).run P w)) ∧ (Region.wanted o (yielded ops a.tmps) = false → K' undef w)) : OpGoes P ops o a w K := h K fun _ _ h => h
theorem AllOps.nil {le : World → World → Prop} {C : World → Prop} {R : Nat → (Nat → Value) → World → Prop} {kd : Nat → Nat} {k : Nat} {fr : (Nat → Value) → Act} : AllOps P l le C R kd k [] fr := trivial
theorem AllOps.grow {le : World → World → Prop} {C : World → Prop} {R : Nat → (Nat → Value) → World → Prop} {kd : Nat → Nat} {k : Nat} {fr : (Nat → Value) → Act} {o : Oper} {r : List Oper} (hs : kd k = 0) (h : Grows P l le C R k o fr)
  (hr : AllOps P l le C R kd (k + 1) r fun σ => (fr σ).put o.dst (σ k)) : AllOps P l le C R kd k (o :: r) fr := ⟨.inl ⟨hs, h⟩, hr⟩
theorem AllOps.store {le : World → World → Prop} {C : World → Prop} {R : Nat → (Nat → Value) → World → Prop} {kd : Nat → Nat} {k : Nat} {fr : (Nat → Value) → Act} {o : Oper} {r : List Oper} (hs : kd k = 1) (h : Stores P l C R kd k o fr)
  (hr : AllOps P l le C R kd (k + 1) r fun σ => (fr σ).put o.dst (σ k)) : AllOps P l le C R kd k (o :: r) fr := ⟨.inr (.inl ⟨hs, h⟩), hr⟩
theorem AllOps.make {le : World → World → Prop} {C : World → Prop} {R : Nat → (Nat → Value) → World → Prop} {kd : Nat → Nat} {k : Nat} {fr : (Nat → Value) → Act} {o : Oper} {r : List Oper} (hs : kd k = 2) (h : Makes P l le C R k o fr)
  (hr : AllOps P l le C R kd (k + 1) r fun σ => (fr σ).put o.dst (σ k)) : AllOps P l le C R kd k (o :: r) fr := ⟨.inr (.inr ⟨hs, h⟩), hr⟩
def Goes (ops : List Oper) (le : World → World → Prop) (C : World → Prop) (R : Nat → (Nat → Value) → World → Prop) (kd : Nat → Nat) (k : Nat) (σ : Nat → Value) (w : World) (v : Value) (w' : World) : Prop :=
 C w' ∧ R k (upd σ k v) w' ∧ w.heap.size ≤ w'.heap.size ∧ (kd k = 2 → v = pT w.heap.size ∧ w.heap.size < w'.heap.size) ∧
  (le w w' ∨ ∀ i, i ≠ k → waits ops i k = false → R i σ w → R i σ w')
theorem AllOps.get {le : World → World → Prop} (hle : ∀ w w', le w w' → w.heap.size ≤ w'.heap.size) {C : World → Prop} {R : Nat → (Nat → Value) → World → Prop} {kd : Nat → Nat} {a : Act} : ∀ {r : List Oper} {k : Nat}, (∀ j, r[j]? = l[k + j]?) → AllOps P l le C R kd k r (fun σ => fill l σ (fun _ => true) a k) →
  ∀ {j : Nat} {o : Oper}, r[j]? = some o → ∀ (σ : Nat → Value) (w : World), C w → (∀ i, waits l (k + j) i = true → R i σ w) → (∀ i i', kd i = 2 → kd i' = 2 → i ≠ i' → waits l (k + j) i = true → waits l (k + j) i' = true → σ i ≠ σ i') →
   OpGoes P l.toArray o (fill l σ (fun _ => true) a (k + j)) w (Goes l le C R kd (k + j) σ w)
 | [], _, _, _, _, _, h => by simp at h
 | o :: r, k, hl, h, j, oj, hj => by
  cases j with
  | zero =>
   simp at hj
   subst hj
   intro σ w hC hw hne
   rcases h.1 with ⟨hk, h1⟩ | ⟨hk, h1⟩ | ⟨hk, h1⟩
   · exact (h1 σ w hC hw).mono fun _ _ ⟨x, y, z⟩ => ⟨x, y, hle _ _ z, (fun h => by simp [hk] at h), .inl z⟩
   · exact (h1 σ w hC hw hne).mono fun _ _ ⟨x, y, y', z⟩ => ⟨x, y, y', (fun h => by simp [hk] at h), .inr z⟩
   · exact (h1 σ w hC hw).mono fun _ _ ⟨x, y, z, z'⟩ => ⟨x, y, hle _ _ z, (fun _ => z'), .inl z⟩
  | succ j =>
   have hk : l[k]? = some o := by simpa using (hl 0).symm
   have h2 := h.2
   have e : (fun σ => (fill l σ (fun _ => true) a k).put o.dst (σ k)) = fun σ => fill l σ (fun _ => true) a (k + 1) := by
    funext σ
    simp [fill, dstAt, hk]
   rw [e] at h2
   have := AllOps.get hle (r := r) (k := k + 1) (fun j => by have := hl (j + 1); simpa [Nat.add_assoc, Nat.add_comm 1 j] using this) h2 (j := j) (o := oj) (by simpa using hj)
   rwa [Nat.add_assoc, Nat.add_comm 1 j] at this
def lexAll : List Oper → Nat → Act → (Nat → Value) → Act
 | [], _, a, _ => a
 | o :: r, k, a, σ => lexAll r (k + 1) (a.put o.dst (σ k)) σ
theorem lexAll_eq {a : Act} {σ : Nat → Value} : ∀ {r : List Oper} {k : Nat}, (∀ j, r[j]? = l[k + j]?) → lexAll r k (fill l σ (fun _ => true) a k) σ = fill l σ (fun _ => true) a (k + r.length)
 | [], _, _ => rfl
 | o :: r, k, hl => by
  have hk : l[k]? = some o := by simpa using (hl 0).symm
  have e : (fill l σ (fun _ => true) a k).put o.dst (σ k) = fill l σ (fun _ => true) a (k + 1) := by simp [fill, dstAt, hk]
  simp only [lexAll, e, List.length_cons]
  rw [lexAll_eq (r := r) (k := k + 1) (fun j => by have := hl (j + 1); simpa [Nat.add_assoc, Nat.add_comm 1 j] using this)]
  rw [Nat.add_assoc, Nat.add_comm 1]
theorem execOp_same {o : Oper} {a b : Act} {ops : Array Oper} (hs : ∀ cs x, o.op ≠ .select cs x) (h : ∀ d ∈ o.looksAt ops, a.tmps[d]? = b.tmps[d]?) :
  execOp a.eval o = execOp b.eval o ∧ Region.wanted o (yielded ops a.tmps) = Region.wanted o (yielded ops b.tmps) := by
 constructor
 ·
  refine execOp_congr o hs fun x hx => ?_
  cases x with
  | tmp t =>
   have := h t (List.mem_append_left _ (List.mem_filterMap.2 ⟨.tmp t, by simpa using hx, rfl⟩))
   simp [Act.eval, Array.getD_eq_getD_getElem?, this]
  | _ => rfl
 ·
  unfold Region.wanted
  cases hg : o.guard with
  | none => rfl
  | some gw =>
   obtain ⟨g, want⟩ := gw
   have hy : yielded ops a.tmps g = yielded ops b.tmps g := by
    unfold yielded
    cases ht : (ops[g]?).bind (·.dst) with
    | none => rfl
    | some t =>
     have := h t (by simp [Oper.looksAt, hg, ht])
     simp [this]
   simp only [hy]
theorem listed_upd {listed : Array Bool} {i : Nat} (hi : i < listed.size) : (fun j => (listed.setIfInBounds i true).getD j false) = upd (fun j => listed.getD j false) i true := by
 funext j
 by_cases h : j = i
 · subst h; simp [upd, hi]
 · simp [upd, h, Array.getElem?_setIfInBounds_ne (show i ≠ j from fun e => h e.symm)]
theorem wp_region_le {id : Nat} {Q : Exit → Act → World → Prop} {a : Act} {w : World} (le : World → World → Prop) (hle : ∀ w w', le w w' → w.heap.size ≤ w'.heap.size) (C : World → Prop) (R : Nat → (Nat → Value) → World → Prop) (kd : Nat → Nat) (supp : Nat → List Nat)
  (hm : P.follows .mixedOrders = true) (hB : growB l supp = true)
  (hsupp : ∀ j (σ τ : Nat → Value) w, (∀ k ∈ supp j, σ k = τ k) → R j σ w → R j τ w)
  (hgrow : ∀ j σ w w', le w w' → R j σ w → R j σ w')
  (h0 : C w.drew) (hops : AllOps P l le C R kd 0 l fun _ => a)
  (hend : ∀ σ w', C w' → (∀ j, j < l.length → R j σ w') → Q .normal (lexAll l 0 a σ) w') : (Code.region id l.toArray true).wp P Q a w := by
 have hlex : ∀ σ, lexAll l 0 a σ = fill l σ (fun _ => true) a l.length := fun σ => by
  have := lexAll_eq (l := l) (a := a) (σ := σ) (r := l) (k := 0) (fun j => by simp)
  simpa [fill] using this
 simp only [hlex] at hend
 refine wp_region_any hm ?_
 have key : ∀ (fuel : Nat) (listed : Array Bool) (σ : Nat → Value) (w : World), listed.size = l.length → listed.toList.countP (· == false) ≤ fuel → C w →
   (∀ j, listed.getD j false = true → ∀ i, waits l j i = true → listed.getD i false = true) → (∀ j, listed.getD j false = true → R j σ w) → (∀ j, kd j = 2 → listed.getD j false = true → ∃ g, σ j = pT g ∧ g < w.heap.size) →
   (∀ i j, kd i = 2 → kd j = 2 → i ≠ j → listed.getD i false = true → listed.getD j false = true → σ i ≠ σ j) →
   wpAny P .any l.toArray Q fuel listed (fill l σ (fun j => listed.getD j false) a l.length) w := by
  intro fuel
  induction fuel with
  | zero =>
   intro listed σ w hsz hcnt hC hcl hR hA hD
   have hall : ∀ j, j < l.length → listed.getD j false = true := fun j hj => by
    have h0 : listed.toList.countP (· == false) = 0 := by omega
    have := List.countP_eq_zero.1 h0 listed[j] (by simp)
    simp [show j < listed.size by omega] at this ⊢
    exact this
   refine ⟨?_, ?_⟩
   ·
    rw [List.eq_nil_iff_forall_not_mem]
    intro j hj
    obtain ⟨hj1, o, ho, _⟩ := mem_ready.1 hj
    have hlt : j < l.length := by have := (Array.getElem?_eq_some_iff.1 ho).1; simpa using this
    have := hall j hlt
    simp [show j < listed.size by omega] at this hj1
    rw [this] at hj1
    cases hj1
   ·
    rw [fill_all hall]
    exact hend σ w hC fun j hj => hR j (hall j hj)
  | succ fuel ih =>
   intro listed σ w hsz hcnt hC hcl hR hA hD
   refine ⟨fun hr => ?_, fun i hi => ?_⟩
   ·
    have hall : ∀ m j, j < m → j < l.length → listed.getD j false = true := by
     intro m
     induction m with
     | zero => intro j hj; omega
     | succ m ihm =>
      intro j hj hjl
      cases hf : listed.getD j false with
      | true => rfl
      | false =>
       exfalso
       have hjs : j < listed.size := by omega
       have : j ∈ Region.ready .any l.toArray listed := mem_ready.2 ⟨by simp [hjs] at hf ⊢; exact hf, l[j], by simp [hjl], fun e he hb => by
        have := (growB_at hB (i := j) (o := l[j]) (by simp [hjl])).2.2.1 e he hb
        exact ihm e.on (by omega) (by omega)⟩
       rw [hr] at this
       cases this
    rw [fill_all fun j hj => hall (j + 1) j (by omega) hj]
    exact hend σ w hC fun j hj => hR j (hall (j + 1) j (by omega) hj)
   ·
    obtain ⟨hi1, o, ho, hdeps⟩ := mem_ready.1 hi
    have hol : l[i]? = some o := by simpa using ho
    have hil : i < l.length := (List.getElem?_eq_some_iff.1 hol).1
    have his : i < listed.size := by omega
    have hLi : listed.getD i false = false := by simp [his] at hi1 ⊢; exact hi1
    obtain ⟨g1, g2, g3, g4, g5⟩ := growB_at hB hol
    have hw : ∀ j, waits l i j = true → listed.getD j false = true := fun j hj => by
     obtain ⟨e, he, hb, rfl⟩ := waits_of hol hj
     exact hdeps e he hb
    have hsame : ∀ d ∈ o.looksAt l.toArray, (fill l σ (fun j => listed.getD j false) a l.length).tmps[d]? = (fill l σ (fun _ => true) a i).tmps[d]? := fun d hd => by
     by_cases hex : ∃ j, dstAt l j = some d
     ·
      obtain ⟨j, hj⟩ := hex
      have hun : ∀ k, k ≠ j → dstAt l k ≠ some d := fun k hk hkd => by
       have hjl : j < l.length := by rcases g1 d hd j hj with h | h <;> omega
       exact (growB_at hB (i := j) (o := l[j]) (by simp [hjl])).2.1 k hk d hj hkd
      rcases g1 d hd j hj with ⟨j1, j2⟩ | ⟨j1, j2, _⟩
      · rw [fill_one hj (hw j j2) hun (by omega), fill_one hj rfl hun j1]
      ·
       have hno := later_no hcl hLi j2
       rw [fill_none fun k _ hk h => hun k (fun e => by rw [e, hno] at hk; cases hk) h, fill_none fun k hk _ h => hun k (fun e => by omega) h]
     · rw [fill_none fun j _ _ h => hex ⟨j, h⟩, fill_none fun j _ _ h => hex ⟨j, h⟩]
    obtain ⟨e1, e2⟩ := execOp_same g4 hsame
    have hgo := AllOps.get hle (k := 0) (fun j => by simp) hops hol σ w hC (by simpa using fun j hj => hR j (hw j hj)) (by simpa using fun i j h1 h2 h3 h4 h5 => hD i j h1 h2 h3 (hw i h4) (hw j h5))
    simp only [Nat.zero_add] at hgo
    have next : ∀ v w', Goes l le C R kd i σ w v w' →
      wpAny P .any l.toArray Q fuel (listed.setIfInBounds i true) ((fill l σ (fun j => listed.getD j false) a l.length).put o.dst v) w' := fun v w' ⟨c1, c2, c4, c5, c3⟩ => by
     have hd : dstAt l i = o.dst := by simp [dstAt, hol]
     have hf := fill_upd (l := l) (σ := σ) (L := fun j => listed.getD j false) (a := a) (v := v) hLi g2 (n := l.length)
     simp only [hil, decide_true, cond_true, hd] at hf
     rw [← hf, ← listed_upd his]
     have hgd : ∀ j, (listed.setIfInBounds i true).getD j false = upd (fun j => listed.getD j false) i true j := fun j => congrFun (listed_upd his) j
     refine ih _ _ _ (by simp [hsz]) ?_ c1 ?_ ?_ ?_ ?_
     ·
      have : listed.toList.countP (· == false) = (listed.setIfInBounds i true).toList.countP (· == false) + 1 := by
       rw [Array.toList_setIfInBounds, List.countP_set (by simpa using his)]
       have hb : listed[i] = false := by simpa [his] using hLi
       have hpos : 0 < listed.toList.countP (· == false) := List.countP_pos_iff.2 ⟨listed[i], by simp, by simp [hb]⟩
       have hb' : (listed.toList[i]'(by simpa using his) == false) = true := by simp [hb]
       rw [if_pos hb', if_neg (by simp)]
       omega
      omega
     ·
      intro j hj k hk
      rw [hgd] at hj ⊢
      by_cases hki : k = i
      · subst hki; rw [upd_same]
      ·
       rw [upd_ne _ _ hki]
       by_cases hji : j = i
       · subst hji; exact hw k hk
       ·
        rw [upd_ne _ _ hji] at hj
        exact hcl j hj k hk
     ·
      intro j hj
      rw [hgd] at hj
      by_cases hji : j = i
      · subst hji; exact c2
      ·
       rw [upd_ne _ _ hji] at hj
       have hRj : R j σ w' := by
        rcases c3 with c3 | c3
        · exact hgrow j σ w w' c3 (hR j hj)
        ·
         refine c3 j hji ?_ (hR j hj)
         cases hwt : waits l j i with
         | false => rfl
         | true =>
          have := hcl j hj i hwt
          rw [hLi] at this
          cases this
       refine hsupp j σ _ w' (fun k hk => ?_) hRj
       have hjl : j < l.length := by
        rcases Nat.lt_or_ge j l.length with h | h
        · exact h
        · simp [Array.getElem?_eq_none (show listed.size ≤ j by omega)] at hj
       have hki : k ≠ i := fun e => by
        subst e
        rcases (growB_at hB (i := j) (o := l[j]) (by simp [hjl])).2.2.2.2 k hk with h | h
        · exact hji h.symm
        ·
         have := hcl j hj k h
         rw [hLi] at this
         cases this
       rw [upd_ne _ _ hki]
     ·
      intro j hk hj
      rw [hgd] at hj
      by_cases hji : j = i
      ·
       subst hji
       obtain ⟨e, hlt⟩ := c5 hk
       rw [upd_same]
       exact ⟨_, e, hlt⟩
      ·
       rw [upd_ne _ _ hji] at hj ⊢
       obtain ⟨g, e, hlt⟩ := hA j hk hj
       exact ⟨g, e, by omega⟩
     ·
      intro x y hx hy hxy lx ly
      rw [hgd] at lx ly
      by_cases hxi : x = i
      ·
       subst hxi
       have hyx : y ≠ x := fun e => hxy e.symm
       rw [upd_ne _ _ hyx] at ly
       obtain ⟨e, _⟩ := c5 hx
       obtain ⟨g, e', hlt⟩ := hA y hy ly
       rw [upd_same, upd_ne _ _ hyx, e, e']
       intro h
       injection h with h
       injection h with h
       injection h with h
       omega
      ·
       rw [upd_ne _ _ hxi] at lx
       by_cases hyi : y = i
       ·
        subst hyi
        obtain ⟨e, _⟩ := c5 hy
        obtain ⟨g, e', hlt⟩ := hA x hx lx
        rw [upd_same, upd_ne _ _ hxi, e, e']
        intro h
        injection h with h
        injection h with h
        injection h with h
        omega
       ·
        rw [upd_ne _ _ hyi] at ly
        rw [upd_ne _ _ hxi, upd_ne _ _ hyi]
        exact hD x y hx hy hxy lx ly
    unfold wpOp
    simp only [ho]
    split
    ·
     rename_i hwant
     refine .inl ?_
     unfold Oper.wp
     have h1 := hgo.1 (by rw [← e2]; exact hwant)
     rw [← e1] at h1
     generalize (execOp (fill l σ (fun j => listed.getD j false) a l.length).eval o).run P w = r at h1
     cases r with
     | ok n w' =>
      cases n <;> simp only [OpUpon] at h1 <;> simp only [Oper.upon]
      case value v => exact next v w' h1
      case skip => exact next undef w' h1
      case enter f args => exact h1.mono fun e w'' ⟨v, he, hk⟩ => by subst he; exact next v w'' hk
     | halt x w' => simp only [OpUpon] at h1
    ·
     rename_i hwant
     exact next undef w (hgo.2 (by rw [← e2]; simpa using hwant))
 have := key l.toArray.size (Array.replicate l.toArray.size false) (fun _ => undef) w.drew (by simp) (Nat.le_trans List.countP_le_length (by simp)) h0 (fun j hj => by
  rcases Nat.lt_or_ge j l.length with h | h
  · simp [h] at hj
  · simp [h] at hj) (fun j hj => by
  rcases Nat.lt_or_ge j l.length with h | h
  · simp [h] at hj
  · simp [h] at hj) (fun j _ hj => by
  rcases Nat.lt_or_ge j l.length with h | h
  · simp [h] at hj
  · simp [h] at hj) (fun j _ _ _ _ hj => by
  rcases Nat.lt_or_ge j l.length with h | h
  · simp [h] at hj
  · simp [h] at hj)
 have e : fill l (fun _ => undef) (fun j => (Array.replicate l.toArray.size false).getD j false) a l.length = a := by
  have : (fun j => (Array.replicate l.toArray.size false).getD j false) = fun _ => false := by
   funext j
   rcases Nat.lt_or_ge j l.length with h | h
   · simp [h]
   · simp [h]
  rw [this]
  generalize l.length = n
  induction n with
  | zero => rfl
  | succ n ih => simpa [fill] using ih
 rw [e] at this
 exact this
theorem wp_region_R {id : Nat} {Q : Exit → Act → World → Prop} {a : Act} {w : World} (C : World → Prop) (R : Nat → (Nat → Value) → World → Prop) (kd : Nat → Nat) (supp : Nat → List Nat)
  (hm : P.follows .mixedOrders = true) (hB : growB l supp = true)
  (hsupp : ∀ j (σ τ : Nat → Value) w, (∀ k ∈ supp j, σ k = τ k) → R j σ w → R j τ w)
  (hgrow : ∀ j σ w w', Below w.heap.size w w' → R j σ w → R j σ w')
  (h0 : C w.drew) (hops : AllOps P l (fun w w' => Below w.heap.size w w') C R kd 0 l fun _ => a)
  (hend : ∀ σ w', C w' → (∀ j, j < l.length → R j σ w') → Q .normal (lexAll l 0 a σ) w') : (Code.region id l.toArray true).wp P Q a w :=
 wp_region_le _ (fun _ _ h => h.size) C R kd supp hm hB hsupp hgrow h0 hops hend
end
end Go.Proofs.YthpckpnlohfcbaaGreatDoor

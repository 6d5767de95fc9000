/-
 A region that draws its order, as in Grow, where what is known of the memory may hang on which operations are done.
-/
import Derived.OwnWalk
import Derived.Test.YthpckpnlohfcbaaGreatDoorGrow
import Derived.Test.YthpckpnlohfcbaaGreatDoorMem
namespace Go.Proofs.YthpckpnlohfcbaaGreatDoor
set_option linter.unusedSimpArgs false
set_option linter.unusedVariables false
open Go.RowKit
def Closed (ops : List Oper) (L : Nat → Bool) : Prop := ∀ j, L j = true → ∀ k, waits ops j k = true → L k = true
theorem Closed.not {ops : List Oper} {L : Nat → Bool} (h : Closed ops L) {j k : Nat} (hw : waits ops j k = true) (hk : L k = false) : L j = false := by
 cases hj : L j with
 | false => rfl
 | true => have := h j hj k hw; rw [hk] at this; cases this
def Grows2 (P : Program) (ops : List Oper) (le : World → World → Prop) (C : (Nat → Bool) → World → Prop) (R : Nat → (Nat → Value) → World → Prop) (k : Nat) (o : Oper) (fr : (Nat → Value) → Act) : Prop :=
 ∀ (L : Nat → Bool) (σ : Nat → Value) (w : World), Closed ops L → L k = false → C L w → (∀ j, waits ops k j = true → R j σ w) → OpGoes P ops.toArray o (fr σ) w fun v w' => C (upd L k true) w' ∧ R k (upd σ k v) w' ∧ le w w'
def Makes2 (P : Program) (ops : List Oper) (le : World → World → Prop) (C : (Nat → Bool) → World → Prop) (R : Nat → (Nat → Value) → World → Prop) (k : Nat) (o : Oper) (fr : (Nat → Value) → Act) : Prop :=
 ∀ (L : Nat → Bool) (σ : Nat → Value) (w : World), Closed ops L → L k = false → C L w → (∀ j, waits ops k j = true → R j σ w) → OpGoes P ops.toArray o (fr σ) w fun v w' => C (upd L k true) w' ∧ R k (upd σ k v) w' ∧ le w w' ∧ v = pT w.heap.size ∧ w.heap.size < w'.heap.size
def Stores2 (P : Program) (ops : List Oper) (C : (Nat → Bool) → World → Prop) (R : Nat → (Nat → Value) → World → Prop) (kd : Nat → Nat) (k : Nat) (o : Oper) (fr : (Nat → Value) → Act) : Prop :=
 ∀ (L : Nat → Bool) (σ : Nat → Value) (w : World), Closed ops L → L k = false → C L w → (∀ j, waits ops k j = true → R j σ w) → (∀ i j, kd i = 2 → kd j = 2 → i ≠ j → waits ops k i = true → waits ops k j = true → σ i ≠ σ j) → OpGoes P ops.toArray o (fr σ) w fun v w' => C (upd L k true) w' ∧ R k (upd σ k v) w' ∧ w.heap.size ≤ w'.heap.size ∧ ∀ j, j ≠ k → waits ops j k = false → R j σ w → R j σ w'
def AllOps2 (P : Program) (ops : List Oper) (le : World → World → Prop) (C : (Nat → Bool) → World → Prop) (R : Nat → (Nat → Value) → World → Prop) (kd : Nat → Nat) : Nat → List Oper → ((Nat → Value) → Act) → Prop
 | _, [], _ => True
 | k, o :: r, fr => (kd k = 0 ∧ Grows2 P ops le C R k o fr ∨ kd k = 1 ∧ Stores2 P ops C R kd k o fr ∨ kd k = 2 ∧ Makes2 P ops le C R k o fr) ∧ AllOps2 P ops le C R kd (k + 1) r fun σ => (fr σ).put o.dst (σ k)
section
variable {P : Program} {l : List Oper} {supp : Nat → List Nat}
theorem AllOps2.nil {le : World → World → Prop} {C : (Nat → Bool) → World → Prop} {R : Nat → (Nat → Value) → World → Prop} {kd : Nat → Nat} {k : Nat} {fr : (Nat → Value) → Act} : AllOps2 P l le C R kd k [] fr := trivial
theorem AllOps2.grow {le : World → World → Prop} {C : (Nat → Bool) → World → Prop} {R : Nat → (Nat → Value) → World → Prop} {kd : Nat → Nat} {k : Nat} {fr : (Nat → Value) → Act} {o : Oper} {r : List Oper} (hs : kd k = 0) (h : Grows2 P l le C R k o fr)
  (hr : AllOps2 P l le C R kd (k + 1) r fun σ => (fr σ).put o.dst (σ k)) : AllOps2 P l le C R kd k (o :: r) fr := ⟨.inl ⟨hs, h⟩, hr⟩
theorem AllOps2.store {le : World → World → Prop} {C : (Nat → Bool) → World → Prop} {R : Nat → (Nat → Value) → World → Prop} {kd : Nat → Nat} {k : Nat} {fr : (Nat → Value) → Act} {o : Oper} {r : List Oper} (hs : kd k = 1) (h : Stores2 P l C R kd k o fr)
  (hr : AllOps2 P l le C R kd (k + 1) r fun σ => (fr σ).put o.dst (σ k)) : AllOps2 P l le C R kd k (o :: r) fr := ⟨.inr (.inl ⟨hs, h⟩), hr⟩
theorem AllOps2.make {le : World → World → Prop} {C : (Nat → Bool) → World → Prop} {R : Nat → (Nat → Value) → World → Prop} {kd : Nat → Nat} {k : Nat} {fr : (Nat → Value) → Act} {o : Oper} {r : List Oper} (hs : kd k = 2) (h : Makes2 P l le C R k o fr)
  (hr : AllOps2 P l le C R kd (k + 1) r fun σ => (fr σ).put o.dst (σ k)) : AllOps2 P l le C R kd k (o :: r) fr := ⟨.inr (.inr ⟨hs, h⟩), hr⟩
def Goes2 (ops : List Oper) (le : World → World → Prop) (C : (Nat → Bool) → World → Prop) (R : Nat → (Nat → Value) → World → Prop) (kd : Nat → Nat) (k : Nat) (L : Nat → Bool) (σ : Nat → Value) (w : World) (v : Value) (w' : World) : Prop :=
 C (upd L k true) w' ∧ R k (upd σ k v) w' ∧ w.heap.size ≤ w'.heap.size ∧ (kd k = 2 → v = pT w.heap.size ∧ w.heap.size < w'.heap.size) ∧
  (le w w' ∨ ∀ i, i ≠ k → waits ops i k = false → R i σ w → R i σ w')
theorem AllOps2.get {le : World → World → Prop} (hle : ∀ w w', le w w' → w.heap.size ≤ w'.heap.size) {C : (Nat → Bool) → World → Prop} {R : Nat → (Nat → Value) → World → Prop} {kd : Nat → Nat} {a : Act} : ∀ {r : List Oper} {k : Nat}, (∀ j, r[j]? = l[k + j]?) → AllOps2 P l le C R kd k r (fun σ => fill l σ (fun _ => true) a k) →
  ∀ {j : Nat} {o : Oper}, r[j]? = some o → ∀ (L : Nat → Bool) (σ : Nat → Value) (w : World), Closed l L → L (k + j) = false → C L w → (∀ i, waits l (k + j) i = true → R i σ w) → (∀ i i', kd i = 2 → kd i' = 2 → i ≠ i' → waits l (k + j) i = true → waits l (k + j) i' = true → σ i ≠ σ i') →
   OpGoes P l.toArray o (fill l σ (fun _ => true) a (k + j)) w (Goes2 l le C R kd (k + j) L σ w)
 | [], _, _, _, _, _, h => by simp at h
 | o :: r, k, hl, h, j, oj, hj => by
  cases j with
  | zero =>
   simp at hj
   subst hj
   intro L σ w hcl hL hC hw hne
   rcases h.1 with ⟨hk, h1⟩ | ⟨hk, h1⟩ | ⟨hk, h1⟩
   · exact (h1 L σ w hcl hL hC hw).mono fun _ _ ⟨x, y, z⟩ => ⟨x, y, hle _ _ z, (fun h => by simp [hk] at h), .inl z⟩
   · exact (h1 L σ w hcl hL hC hw hne).mono fun _ _ ⟨x, y, y', z⟩ => ⟨x, y, y', (fun h => by simp [hk] at h), .inr z⟩
   · exact (h1 L σ w hcl hL hC hw).mono fun _ _ ⟨x, y, z, z'⟩ => ⟨x, y, hle _ _ z, (fun _ => z'), .inl z⟩
  | succ j =>
   have hk : l[k]? = some o := by simpa using (hl 0).symm
   have h2 := h.2
   have e : (fun σ => (fill l σ (fun _ => true) a k).put o.dst (σ k)) = fun σ => fill l σ (fun _ => true) a (k + 1) := by
    funext σ
    simp [fill, dstAt, hk]
   rw [e] at h2
   have := AllOps2.get hle (r := r) (k := k + 1) (fun j => by have := hl (j + 1); simpa [Nat.add_assoc, Nat.add_comm 1 j] using this) h2 (j := j) (o := oj) (by simpa using hj)
   rwa [Nat.add_assoc, Nat.add_comm 1 j] at this
theorem wp_region2 {id : Nat} {Q : Exit → Act → World → Prop} {a : Act} {w : World} (le : World → World → Prop) (hle : ∀ w w', le w w' → w.heap.size ≤ w'.heap.size) (C : (Nat → Bool) → World → Prop) (R : Nat → (Nat → Value) → World → Prop) (kd : Nat → Nat) (supp : Nat → List Nat)
  (hm : P.follows .mixedOrders = true) (hB : growB l supp = true)
  (hsupp : ∀ j (σ τ : Nat → Value) w, (∀ k ∈ supp j, σ k = τ k) → R j σ w → R j τ w)
  (hgrow : ∀ j σ w w', le w w' → R j σ w → R j σ w')
  (h0 : C (fun _ => false) w.drew) (hops : AllOps2 P l le C R kd 0 l fun _ => a)
  (hend : ∀ σ L w', (∀ j, j < l.length → L j = true) → C L w' → (∀ j, j < l.length → R j σ w') → Q .normal (lexAll l 0 a σ) w') : (Code.region id l.toArray true).wp P Q a w := by
 have hlex : ∀ σ, lexAll l 0 a σ = fill l σ (fun _ => true) a l.length := fun σ => by
  have := lexAll_eq (l := l) (a := a) (σ := σ) (r := l) (k := 0) (fun j => by simp)
  simpa [fill] using this
 simp only [hlex] at hend
 refine wp_region_any hm ?_
 have key : ∀ (fuel : Nat) (listed : Array Bool) (σ : Nat → Value) (w : World), listed.size = l.length → listed.toList.countP (· == false) ≤ fuel → C (fun j => listed.getD j false) w →
   (∀ j, listed.getD j false = true → ∀ i, waits l j i = true → listed.getD i false = true) → (∀ j, listed.getD j false = true → R j σ w) → (∀ j, kd j = 2 → listed.getD j false = true → ∃ g, σ j = pT g ∧ g < w.heap.size) →
   (∀ i j, kd i = 2 → kd j = 2 → i ≠ j → listed.getD i false = true → listed.getD j false = true → σ i ≠ σ j) →
   wpAny P .any l.toArray Q fuel listed (fill l σ (fun j => listed.getD j false) a l.length) w := by
  intro fuel
  induction fuel with
  | zero =>
   intro listed σ w hsz hcnt hC hcl hR hA hD
   have hall : ∀ j, j < l.length → listed.getD j false = true := fun j hj => by
    have h0 : listed.toList.countP (· == false) = 0 := by omega
    have := List.countP_eq_zero.1 h0 listed[j] (by simp)
    simp [show j < listed.size by omega] at this ⊢
    exact this
   refine ⟨?_, ?_⟩
   ·
    rw [List.eq_nil_iff_forall_not_mem]
    intro j hj
    obtain ⟨hj1, o, ho, _⟩ := mem_ready.1 hj
    have hlt : j < l.length := by have := (Array.getElem?_eq_some_iff.1 ho).1; simpa using this
    have := hall j hlt
    simp [show j < listed.size by omega] at this hj1
    rw [this] at hj1
    cases hj1
   ·
    rw [fill_all hall]
    exact hend σ _ w hall hC fun j hj => hR j (hall j hj)
  | succ fuel ih =>
   intro listed σ w hsz hcnt hC hcl hR hA hD
   refine ⟨fun hr => ?_, fun i hi => ?_⟩
   ·
    have hall : ∀ m j, j < m → j < l.length → listed.getD j false = true := by
     intro m
     induction m with
     | zero => intro j hj; omega
     | succ m ihm =>
      intro j hj hjl
      cases hf : listed.getD j false with
      | true => rfl
      | false =>
       exfalso
       have hjs : j < listed.size := by omega
       have : j ∈ Region.ready .any l.toArray listed := mem_ready.2 ⟨by simp [hjs] at hf ⊢; exact hf, l[j], by simp [hjl], fun e he hb => by
        have := (growB_at hB (i := j) (o := l[j]) (by simp [hjl])).2.2.1 e he hb
        exact ihm e.on (by omega) (by omega)⟩
       rw [hr] at this
       cases this
    rw [fill_all fun j hj => hall (j + 1) j (by omega) hj]
    exact hend σ _ w (fun j hj => hall (j + 1) j (by omega) hj) hC fun j hj => hR j (hall (j + 1) j (by omega) hj)
   ·
    obtain ⟨hi1, o, ho, hdeps⟩ := mem_ready.1 hi
    have hol : l[i]? = some o := by simpa using ho
    have hil : i < l.length := (List.getElem?_eq_some_iff.1 hol).1
    have his : i < listed.size := by omega
    have hLi : listed.getD i false = false := by simp [his] at hi1 ⊢; exact hi1
    obtain ⟨g1, g2, g3, g4, g5⟩ := growB_at hB hol
    have hw : ∀ j, waits l i j = true → listed.getD j false = true := fun j hj => by
     obtain ⟨e, he, hb, rfl⟩ := waits_of hol hj
     exact hdeps e he hb
    have hsame : ∀ d ∈ o.looksAt l.toArray, (fill l σ (fun j => listed.getD j false) a l.length).tmps[d]? = (fill l σ (fun _ => true) a i).tmps[d]? := fun d hd => by
     by_cases hex : ∃ j, dstAt l j = some d
     ·
      obtain ⟨j, hj⟩ := hex
      have hun : ∀ k, k ≠ j → dstAt l k ≠ some d := fun k hk hkd => by
       have hjl : j < l.length := by rcases g1 d hd j hj with h | h <;> omega
       exact (growB_at hB (i := j) (o := l[j]) (by simp [hjl])).2.1 k hk d hj hkd
      rcases g1 d hd j hj with ⟨j1, j2⟩ | ⟨j1, j2, _⟩
      · rw [fill_one hj (hw j j2) hun (by omega), fill_one hj rfl hun j1]
      ·
       have hno := later_no hcl hLi j2
       rw [fill_none fun k _ hk h => hun k (fun e => by rw [e, hno] at hk; cases hk) h, fill_none fun k hk _ h => hun k (fun e => by omega) h]
     · rw [fill_none fun j _ _ h => hex ⟨j, h⟩, fill_none fun j _ _ h => hex ⟨j, h⟩]
    obtain ⟨e1, e2⟩ := execOp_same g4 hsame
    have hgo := AllOps2.get hle (k := 0) (fun j => by simp) hops hol (fun j => listed.getD j false) σ w (fun j hj k hk => hcl j hj k hk) (by simpa using hLi) hC (by simpa using fun j hj => hR j (hw j hj)) (by simpa using fun i j h1 h2 h3 h4 h5 => hD i j h1 h2 h3 (hw i h4) (hw j h5))
    simp only [Nat.zero_add] at hgo
    have next : ∀ v w', Goes2 l le C R kd i (fun j => listed.getD j false) σ w v w' →
      wpAny P .any l.toArray Q fuel (listed.setIfInBounds i true) ((fill l σ (fun j => listed.getD j false) a l.length).put o.dst v) w' := fun v w' ⟨c1, c2, c4, c5, c3⟩ => by
     have hd : dstAt l i = o.dst := by simp [dstAt, hol]
     have hf := fill_upd (l := l) (σ := σ) (L := fun j => listed.getD j false) (a := a) (v := v) hLi g2 (n := l.length)
     simp only [hil, decide_true, cond_true, hd] at hf
     rw [← hf, ← listed_upd his]
     have hgd : ∀ j, (listed.setIfInBounds i true).getD j false = upd (fun j => listed.getD j false) i true j := fun j => congrFun (listed_upd his) j
     refine ih _ _ _ (by simp [hsz]) ?_ (by rw [listed_upd his]; exact c1) ?_ ?_ ?_ ?_
     ·
      have : listed.toList.countP (· == false) = (listed.setIfInBounds i true).toList.countP (· == false) + 1 := by
       rw [Array.toList_setIfInBounds, List.countP_set (by simpa using his)]
       have hb : listed[i] = false := by simpa [his] using hLi
       have hpos : 0 < listed.toList.countP (· == false) := List.countP_pos_iff.2 ⟨listed[i], by simp, by simp [hb]⟩
       have hb' : (listed.toList[i]'(by simpa using his) == false) = true := by simp [hb]
       rw [if_pos hb', if_neg (by simp)]
       omega
      omega
     ·
      intro j hj k hk
      rw [hgd] at hj ⊢
      by_cases hki : k = i
      · subst hki; rw [upd_same]
      ·
       rw [upd_ne _ _ hki]
       by_cases hji : j = i
       · subst hji; exact hw k hk
       ·
        rw [upd_ne _ _ hji] at hj
        exact hcl j hj k hk
     ·
      intro j hj
      rw [hgd] at hj
      by_cases hji : j = i
      · subst hji; exact c2
      ·
       rw [upd_ne _ _ hji] at hj
       have hRj : R j σ w' := by
        rcases c3 with c3 | c3
        · exact hgrow j σ w w' c3 (hR j hj)
        ·
         refine c3 j hji ?_ (hR j hj)
         cases hwt : waits l j i with
         | false => rfl
         | true =>
          have := hcl j hj i hwt
          rw [hLi] at this
          cases this
       refine hsupp j σ _ w' (fun k hk => ?_) hRj
       have hjl : j < l.length := by
        rcases Nat.lt_or_ge j l.length with h | h
        · exact h
        · simp [Array.getElem?_eq_none (show listed.size ≤ j by omega)] at hj
       have hki : k ≠ i := fun e => by
        subst e
        rcases (growB_at hB (i := j) (o := l[j]) (by simp [hjl])).2.2.2.2 k hk with h | h
        · exact hji h.symm
        ·
         have := hcl j hj k h
         rw [hLi] at this
         cases this
       rw [upd_ne _ _ hki]
     ·
      intro j hk hj
      rw [hgd] at hj
      by_cases hji : j = i
      ·
       subst hji
       obtain ⟨e, hlt⟩ := c5 hk
       rw [upd_same]
       exact ⟨_, e, hlt⟩
      ·
       rw [upd_ne _ _ hji] at hj ⊢
       obtain ⟨g, e, hlt⟩ := hA j hk hj
       exact ⟨g, e, by omega⟩
     ·
      intro x y hx hy hxy lx ly
      rw [hgd] at lx ly
      by_cases hxi : x = i
      ·
       subst hxi
       have hyx : y ≠ x := fun e => hxy e.symm
       rw [upd_ne _ _ hyx] at ly
       obtain ⟨e, _⟩ := c5 hx
       obtain ⟨g, e', hlt⟩ := hA y hy ly
       rw [upd_same, upd_ne _ _ hyx, e, e']
       intro h
       injection h with h
       injection h with h
       injection h with h
       omega
      ·
       rw [upd_ne _ _ hxi] at lx
       by_cases hyi : y = i
       ·
        subst hyi
        obtain ⟨e, _⟩ := c5 hy
        obtain ⟨g, e', hlt⟩ := hA x hx lx
        rw [upd_same, upd_ne _ _ hxi, e, e']
        intro h
        injection h with h
        injection h with h
        injection h with h
        omega
       ·
        rw [upd_ne _ _ hyi] at ly
        rw [upd_ne _ _ hxi, upd_ne _ _ hyi]
        exact hD x y hx hy hxy lx ly
    unfold wpOp
    simp only [ho]
    split
    ·
     rename_i hwant
     refine .inl ?_
     unfold Oper.wp
     have h1 := hgo.1 (by rw [← e2]; exact hwant)
     rw [← e1] at h1
     generalize (execOp (fill l σ (fun j => listed.getD j false) a l.length).eval o).run P w = r at h1
     cases r with
     | ok n w' =>
      cases n <;> simp only [OpUpon] at h1 <;> simp only [Oper.upon]
      case value v => exact next v w' h1
      case skip => exact next undef w' h1
      case enter f args => exact h1.mono fun e w'' ⟨v, he, hk⟩ => by subst he; exact next v w'' hk
     | halt x w' => simp only [OpUpon] at h1
    ·
     rename_i hwant
     exact next undef w (hgo.2 (by rw [← e2]; simpa using hwant))
 have hnone : (fun j => (Array.replicate l.toArray.size false).getD j false) = fun _ => false := by
  funext j
  rcases Nat.lt_or_ge j l.length with h | h
  · simp [h]
  · simp [h]
 have := key l.toArray.size (Array.replicate l.toArray.size false) (fun _ => undef) w.drew (by simp) (Nat.le_trans List.countP_le_length (by simp)) (by rw [hnone]; exact h0) (fun j hj => by
  rcases Nat.lt_or_ge j l.length with h | h
  · simp [h] at hj
  · simp [h] at hj) (fun j hj => by
  rcases Nat.lt_or_ge j l.length with h | h
  · simp [h] at hj
  · simp [h] at hj) (fun j _ hj => by
  rcases Nat.lt_or_ge j l.length with h | h
  · simp [h] at hj
  · simp [h] at hj) (fun j _ _ _ _ hj => by
  rcases Nat.lt_or_ge j l.length with h | h
  · simp [h] at hj
  · simp [h] at hj)
 have e : fill l (fun _ => undef) (fun j => (Array.replicate l.toArray.size false).getD j false) a l.length = a := by
  have : (fun j => (Array.replicate l.toArray.size false).getD j false) = fun _ => false := by
   funext j
   rcases Nat.lt_or_ge j l.length with h | h
   · simp [h]
   · simp [h]
  rw [this]
  generalize l.length = n
  induction n with
  | zero => rfl
  | succ n ih => simpa [fill] using ih
 rw [e] at this
 exact this
end
end Go.Proofs.YthpckpnlohfcbaaGreatDoor
namespace Go.Proofs.YthpckpnlohfcbaaGreatDoor
set_option linter.unusedSimpArgs false
set_option linter.unusedVariables false
open Go.RowKit
theorem OpGoes.append_own {P : Program} {ops : Array Oper} {o : Oper} {a : Act} {w : World} {K : Value → World → Prop} (hgd : o.guard = none) (s x : Operand) (t : TypeId)
  (ho : o.op = .call { callee := .builtin .append, args := #[s, x], argTypes := #[t, t] })
  (base : Nat) (e : TypeId) (i : TypeInfo) (z : Value) (size bytes : Nat) (ht : P.underlying t = some (.slice e)) (hi : P.info? e = some i) (hz : i.zero = some z)
  (hsize : i.size = size) (hby : i.bytes = bytes) (hzs : z.cells.size = size) (hsz : 0 < size)
  (v : Value) (n : Nat) (xs : List Value) (hs : a.eval s = v) (hown : w.ownsRow base e size v n xs)
  (ad : Addr) (m c : Nat) (news : List Value) (hx : a.eval x = .slice (some ad) m c) (hl : news.length = m * size) (hnews : ∀ j u, news[j]? = some u → w.cell? (ad.add j) = some u) (h1 : ∀ u ∈ news, u.oneCell' = true)
  (h63 : n + m ≤ maxLen) (hbytes : (n + m) * bytes ≤ 140737488355328) (hbase : base ≤ w.heap.size)
  (h : ∀ v' w', w'.ownsRow base e size v' (n + m) (xs ++ news) → w.grownBy w' v.ownBlock → (v'.ownBlock = v.ownBlock ∨ v'.ownBlock = some w.heap.size) → K v' w') : OpGoes P ops o a w K := by
 obtain ⟨v', w', hr, h2, h3, _, h5⟩ := run_append_own_at (P := P) w base t o.type e i z size bytes ht hi hz hsize hby hzs hsz v n xs hown ad m c news hl hnews h1 h63 hbytes hbase
 refine ⟨fun _ => ?_, fun hw => ?_⟩
 ·
  unfold execOp
  simp only [ho, resolve, invoke, builtin, Sem.run_bind, Sem.run_pure, Result.andThen_ok, List.map_toArray, List.map_cons, List.map_nil, hs, hx, hr]
  exact h v' w' h2 h3 h5
 · simp [Region.wanted, hgd] at hw
theorem own_keep {N : Nat} {e : TypeId} {k : Nat} {v : Value} {n : Nat} {xs : List Value} {w w' : World} (h : w.ownsRow N e k v n xs) (hb : Below w.heap.size w w') : w'.ownsRow N e k v n xs := by
 refine ⟨h.1, ?_⟩
 rcases h.2 with h' | ⟨g, cap, cur, hv, hg, hh, hr⟩
 · exact .inl h'
 · exact .inr ⟨g, cap, cur, hv, hg, (hb.block g (Array.getElem?_eq_some_iff.1 hh).1).trans hh, hr⟩
theorem size_st {M : Nat} {w : World} {p : Addr} {u : Value} (h : M ≤ w.heap.size) : M ≤ (w.setCell p u).heap.size := by simpa using h
end Go.Proofs.YthpckpnlohfcbaaGreatDoor

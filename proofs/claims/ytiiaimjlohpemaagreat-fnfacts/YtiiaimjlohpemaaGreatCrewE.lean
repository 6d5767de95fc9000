/-
 As Grow2, with a span of blocks for each operation (those that it made): no two spans meet.
-/
import Derived.Test.YtiiaimjlohpemaaGreatGrow2
import Derived.Test.YtiiaimjlohpemaaGreatPrimL
import Derived.Test.YtiiaimjlohpemaaGreatStep
import Derived.Test.YtiiaimjlohpemaaGreatFitS
import Derived.Test.YtiiaimjlohpemaaGreatCrewC
import Derived.Test.YtiiaimjlohpemaaGreatStoreD
namespace Go.Proofs.YtiiaimjlohpemaaGreat
set_option linter.unusedSimpArgs false
set_option linter.unusedVariables false
open Go.RowKit

theorem zcrewE0 {p : Prop} (h : p := by
 refine OpGoes.go fun K hK => ?_
 go_simp
 obtain ⟨hB, hs, hW, hhi, hM, ⟨_, _, _, _, _, _, _, _, _, _, hz⟩, hz_o⟩ := HC.out
 exact hK _ _ ⟨⟨hB, hs, hW, hhi, hM, ⟨_, _, _, _, _, _, _, _, _, _, hz⟩, fun h => hz_o (by simpa [upd] using h)⟩, rfl, Below.refl _ _⟩) : p := h -- a587b67c
theorem zcrewE1 {p : Prop} (h : p := by
 clear hq5
 unfold stV hdV
 have kz := hz.cell
 have fz := hz.frozen
 have kw := hw_.cell
 have fw := hw_.frozen
 go_wp2
 refine bodyPost_ret (v := .tuple #[stV q.1 A5 n5 c5, hdV q.2.1, q.2.2]) (by simp [results, Tryz.results73, go_sem, kz, kw, stV, hdV]) rfl ⟨A5, n5, c5, by rw [HV.out], ?_, ?_⟩
 ·
  rw [HV.out]
  exact (RgsW.setsT (RgsW.setsT hG5 hz (by decide) (by decide) (aS q.1 A5 n5 c5) 0) (BoxAt.sets_ne (aS q.1 A5 n5 c5) 0 hw_ (by omega)) (by decide) (by decide) (aH q.2.1) 0).mono (by omega) (by simp)
 · exact Below.setCells (by omega) (aH q.2.1) 0 (Below.setCells (by omega) (aS q.1 A5 n5 c5) 0 hB)) : p := h -- 08f9fa7c
theorem zcrewE2 {p : Prop} (h : p := by
 exact hK _ _ ⟨⟨bstep hB (Nat.le_trans hN2 hB.size) hb1, hs.below hb1 hs.lt, hW.below hb1 hhi, Nat.le_trans hhi hb1.size, Nat.le_trans hM hb1.size, ⟨_, _, _, _, _, _, _, _, _, _, hz.below hb1 hz.lt⟩, fun h => (hz_o (by simpa [upd] using h)).below hb1 (hz_o (by simpa [upd] using h)).lt⟩, ⟨W'.heap.size, rfl, BoxAt.new _ _ _, hM⟩, hb1⟩) : p := h -- 70f56704
theorem zcrewE3 {p : Prop} (h : p := by
 go_wp2
 refine bodyPost_ret (v := .tuple #[stV .zero none 0 0, .bool false]) (by simp [results, Tryz.results75, go_sem, kz, stV, St.zero]) rfl ⟨none, 0, 0, by rw [HV.out], ?_, ?_⟩
 · rw [HV.out]; exact RgsW.nil
 · exact (sc (sc (sc (sc (sc hB)))))) : p := h -- 2f578989

/-- What is asked of operation k where it only makes memory. -/
def Grows3 (P : Program) (ops : List Oper) (le : World → World → Prop) (C : (Nat → Bool) → World → Prop) (R : Nat → (Nat → Nat × Nat) → (Nat → Value) → World → Prop) (k : Nat) (o : Oper) (fr : (Nat → Value) → Act) : Prop :=
 ∀ (L : Nat → Bool) (ω : Nat → Nat × Nat) (σ : Nat → Value) (w : World), Closed ops L → L k = false → C L w → (∀ j, waits ops k j = true → R j ω σ w) → (∀ i j, waits ops k i = true → waits ops k j = true → i ≠ j → (ω i).2 ≤ (ω j).1 ∨ (ω j).2 ≤ (ω i).1) → OpGoes P ops.toArray o (fr σ) w fun v w' => C (upd L k true) w' ∧ R k (upd ω k (w.heap.size, w'.heap.size)) (upd σ k v) w' ∧ le w w'

/-- What is asked of operation k where it makes a variable. -/
def Makes3 (P : Program) (ops : List Oper) (le : World → World → Prop) (C : (Nat → Bool) → World → Prop) (R : Nat → (Nat → Nat × Nat) → (Nat → Value) → World → Prop) (k : Nat) (o : Oper) (fr : (Nat → Value) → Act) : Prop :=
 ∀ (L : Nat → Bool) (ω : Nat → Nat × Nat) (σ : Nat → Value) (w : World), Closed ops L → L k = false → C L w → (∀ j, waits ops k j = true → R j ω σ w) → (∀ i j, waits ops k i = true → waits ops k j = true → i ≠ j → (ω i).2 ≤ (ω j).1 ∨ (ω j).2 ≤ (ω i).1) → OpGoes P ops.toArray o (fr σ) w fun v w' => C (upd L k true) w' ∧ R k (upd ω k (w.heap.size, w'.heap.size)) (upd σ k v) w' ∧ le w w' ∧ v = pT w.heap.size ∧ w.heap.size < w'.heap.size

/-- What is asked of operation k where it stores. -/
def Stores3 (P : Program) (ops : List Oper) (C : (Nat → Bool) → World → Prop) (R : Nat → (Nat → Nat × Nat) → (Nat → Value) → World → Prop) (kd : Nat → Nat) (k : Nat) (o : Oper) (fr : (Nat → Value) → Act) : Prop :=
 ∀ (L : Nat → Bool) (ω : Nat → Nat × Nat) (σ : Nat → Value) (w : World), Closed ops L → L k = false → C L w → (∀ j, waits ops k j = true → R j ω σ w) → (∀ i j, waits ops k i = true → waits ops k j = true → i ≠ j → (ω i).2 ≤ (ω j).1 ∨ (ω j).2 ≤ (ω i).1) → (∀ i j, kd i = 2 → kd j = 2 → i ≠ j → waits ops k i = true → waits ops k j = true → σ i ≠ σ j) → OpGoes P ops.toArray o (fr σ) w fun v w' => C (upd L k true) w' ∧ R k (upd ω k (w.heap.size, w'.heap.size)) (upd σ k v) w' ∧ w.heap.size ≤ w'.heap.size ∧ ∀ j, j ≠ k → waits ops j k = false → R j ω σ w → R j ω σ w'

/-- What is asked of the operations from number k on, a frame for each choice of the values ahead of them. -/
def AllOps3 (P : Program) (ops : List Oper) (le : World → World → Prop) (C : (Nat → Bool) → World → Prop) (R : Nat → (Nat → Nat × Nat) → (Nat → Value) → World → Prop) (kd : Nat → Nat) : Nat → List Oper → ((Nat → Value) → Act) → Prop
 | _, [], _ => True
 | k, o :: r, fr => (kd k = 0 ∧ Grows3 P ops le C R k o fr ∨ kd k = 1 ∧ Stores3 P ops C R kd k o fr ∨ kd k = 2 ∧ Makes3 P ops le C R k o fr) ∧ AllOps3 P ops le C R kd (k + 1) r fun σ => (fr σ).put o.dst (σ k)

section
variable {P : Program} {l : List Oper} {supp : Nat → List Nat}

theorem AllOps3.nil {le : World → World → Prop} {C : (Nat → Bool) → World → Prop} {R : Nat → (Nat → Nat × Nat) → (Nat → Value) → World → Prop} {kd : Nat → Nat} {k : Nat} {fr : (Nat → Value) → Act} : AllOps3 P l le C R kd k [] fr := trivial
theorem AllOps3.grow {le : World → World → Prop} {C : (Nat → Bool) → World → Prop} {R : Nat → (Nat → Nat × Nat) → (Nat → Value) → World → Prop} {kd : Nat → Nat} {k : Nat} {fr : (Nat → Value) → Act} {o : Oper} {r : List Oper} (hs : kd k = 0) (h : Grows3 P l le C R k o fr)
  (hr : AllOps3 P l le C R kd (k + 1) r fun σ => (fr σ).put o.dst (σ k)) : AllOps3 P l le C R kd k (o :: r) fr := ⟨.inl ⟨hs, h⟩, hr⟩
theorem AllOps3.store {le : World → World → Prop} {C : (Nat → Bool) → World → Prop} {R : Nat → (Nat → Nat × Nat) → (Nat → Value) → World → Prop} {kd : Nat → Nat} {k : Nat} {fr : (Nat → Value) → Act} {o : Oper} {r : List Oper} (hs : kd k = 1) (h : Stores3 P l C R kd k o fr)
  (hr : AllOps3 P l le C R kd (k + 1) r fun σ => (fr σ).put o.dst (σ k)) : AllOps3 P l le C R kd k (o :: r) fr := ⟨.inr (.inl ⟨hs, h⟩), hr⟩
theorem AllOps3.make {le : World → World → Prop} {C : (Nat → Bool) → World → Prop} {R : Nat → (Nat → Nat × Nat) → (Nat → Value) → World → Prop} {kd : Nat → Nat} {k : Nat} {fr : (Nat → Value) → Act} {o : Oper} {r : List Oper} (hs : kd k = 2) (h : Makes3 P l le C R k o fr)
  (hr : AllOps3 P l le C R kd (k + 1) r fun σ => (fr σ).put o.dst (σ k)) : AllOps3 P l le C R kd k (o :: r) fr := ⟨.inr (.inr ⟨hs, h⟩), hr⟩

/-- What the region's invariant gets of operation k. -/
def Goes3 (ops : List Oper) (le : World → World → Prop) (C : (Nat → Bool) → World → Prop) (R : Nat → (Nat → Nat × Nat) → (Nat → Value) → World → Prop) (kd : Nat → Nat) (k : Nat) (L : Nat → Bool) (ω : Nat → Nat × Nat) (σ : Nat → Value) (w : World) (v : Value) (w' : World) : Prop :=
 C (upd L k true) w' ∧ R k (upd ω k (w.heap.size, w'.heap.size)) (upd σ k v) w' ∧ w.heap.size ≤ w'.heap.size ∧ (kd k = 2 → v = pT w.heap.size ∧ w.heap.size < w'.heap.size) ∧
  (le w w' ∨ ∀ i, i ≠ k → waits ops i k = false → R i ω σ w → R i ω σ w')

theorem AllOps3.get {le : World → World → Prop} (hle : ∀ w w', le w w' → w.heap.size ≤ w'.heap.size) {C : (Nat → Bool) → World → Prop} {R : Nat → (Nat → Nat × Nat) → (Nat → Value) → World → Prop} {kd : Nat → Nat} {a : Act} : ∀ {r : List Oper} {k : Nat}, (∀ j, r[j]? = l[k + j]?) → AllOps3 P l le C R kd k r (fun σ => fill l σ (fun _ => true) a k) →
  ∀ {j : Nat} {o : Oper}, r[j]? = some o → ∀ (L : Nat → Bool) (ω : Nat → Nat × Nat) (σ : Nat → Value) (w : World), Closed l L → L (k + j) = false → C L w → (∀ i, waits l (k + j) i = true → R i ω σ w) → (∀ i i', waits l (k + j) i = true → waits l (k + j) i' = true → i ≠ i' → (ω i).2 ≤ (ω i').1 ∨ (ω i').2 ≤ (ω i).1) → (∀ i i', kd i = 2 → kd i' = 2 → i ≠ i' → waits l (k + j) i = true → waits l (k + j) i' = true → σ i ≠ σ i') →
   OpGoes P l.toArray o (fill l σ (fun _ => true) a (k + j)) w (Goes3 l le C R kd (k + j) L ω σ w)
 | [], _, _, _, _, _, h => by simp at h
 | o :: r, k, hl, h, j, oj, hj => by
  cases j with
  | zero =>
   simp at hj
   subst hj
   intro L ω σ w hcl hL hC hw hx hne
   rcases h.1 with ⟨hk, h1⟩ | ⟨hk, h1⟩ | ⟨hk, h1⟩
   · exact (h1 L ω σ w hcl hL hC hw hx).mono fun _ _ ⟨x, y, z⟩ => ⟨x, y, hle _ _ z, (fun h => by simp [hk] at h), .inl z⟩
   · exact (h1 L ω σ w hcl hL hC hw hx hne).mono fun _ _ ⟨x, y, y', z⟩ => ⟨x, y, y', (fun h => by simp [hk] at h), .inr z⟩
   · exact (h1 L ω σ w hcl hL hC hw hx).mono fun _ _ ⟨x, y, z, z'⟩ => ⟨x, y, hle _ _ z, (fun _ => z'), .inl z⟩
  | succ j =>
   have hk : l[k]? = some o := by simpa using (hl 0).symm
   have h2 := h.2
   have e : (fun σ => (fill l σ (fun _ => true) a k).put o.dst (σ k)) = fun σ => fill l σ (fun _ => true) a (k + 1) := by
    funext σ
    simp [fill, dstAt, hk]
   rw [e] at h2
   have := AllOps3.get hle (r := r) (k := k + 1) (fun j => by have := hl (j + 1); simpa [Nat.add_assoc, Nat.add_comm 1 j] using this) h2 (j := j) (o := oj) (by simpa using hj)
   rwa [Nat.add_assoc, Nat.add_comm 1 j] at this

theorem wp_region3 {id : Nat} {Q : Exit → Act → World → Prop} {a : Act} {w : World} (le : World → World → Prop) (hle : ∀ w w', le w w' → w.heap.size ≤ w'.heap.size) (C : (Nat → Bool) → World → Prop) (R : Nat → (Nat → Nat × Nat) → (Nat → Value) → World → Prop) (kd : Nat → Nat) (supp : Nat → List Nat)
  (hm : P.follows .mixedOrders = true) (hB : growB l supp = true)
  (hsupp : ∀ j (ω ω' : Nat → Nat × Nat) (σ τ : Nat → Value) w, (∀ k ∈ supp j, σ k = τ k) → ω j = ω' j → R j ω σ w → R j ω' τ w)
  (hgrow : ∀ j ω σ w w', le w w' → R j ω σ w → R j ω σ w')
  (h0 : C (fun _ => false) w.drew) (hops : AllOps3 P l le C R kd 0 l fun _ => a)
  (hend : ∀ (ω : Nat → Nat × Nat) σ L w', (∀ j, j < l.length → L j = true) → C L w' → (∀ j, j < l.length → R j ω σ w') → (∀ i j, i < l.length → j < l.length → i ≠ j → (ω i).2 ≤ (ω j).1 ∨ (ω j).2 ≤ (ω i).1) → Q .normal (lexAll l 0 a σ) w') : (Code.region id l.toArray true).wp P Q a w := by
 have hlex : ∀ σ, lexAll l 0 a σ = fill l σ (fun _ => true) a l.length := fun σ => by
  have := lexAll_eq (l := l) (a := a) (σ := σ) (r := l) (k := 0) (fun j => by simp)
  simpa [fill] using this
 simp only [hlex] at hend
 refine wp_region_any hm ?_
 have key : ∀ (fuel : Nat) (listed : Array Bool) (ω : Nat → Nat × Nat) (σ : Nat → Value) (w : World), listed.size = l.length → listed.toList.countP (· == false) ≤ fuel → C (fun j => listed.getD j false) w →
   (∀ j, listed.getD j false = true → ∀ i, waits l j i = true → listed.getD i false = true) → (∀ j, listed.getD j false = true → R j ω σ w) → (∀ j, listed.getD j false = true → (ω j).2 ≤ w.heap.size) → (∀ i j, listed.getD i false = true → listed.getD j false = true → i ≠ j → (ω i).2 ≤ (ω j).1 ∨ (ω j).2 ≤ (ω i).1) → (∀ j, kd j = 2 → listed.getD j false = true → ∃ g, σ j = pT g ∧ g < w.heap.size) →
   (∀ i j, kd i = 2 → kd j = 2 → i ≠ j → listed.getD i false = true → listed.getD j false = true → σ i ≠ σ j) →
   wpAny P .any l.toArray Q fuel listed (fill l σ (fun j => listed.getD j false) a l.length) w := by
  intro fuel
  induction fuel with
  | zero =>
   intro listed ω σ w hsz hcnt hC hcl hR hW hX hA hD
   have hall : ∀ j, j < l.length → listed.getD j false = true := fun j hj => by
    have h0 : listed.toList.countP (· == false) = 0 := by omega
    have := List.countP_eq_zero.1 h0 listed[j] (by simp)
    simp [show j < listed.size by omega] at this ⊢
    exact this
   refine ⟨?_, ?_⟩
   ·
    rw [List.eq_nil_iff_forall_not_mem]
    intro j hj
    obtain ⟨hj1, o, ho, _⟩ := mem_ready.1 hj
    have hlt : j < l.length := by have := (Array.getElem?_eq_some_iff.1 ho).1; simpa using this
    have := hall j hlt
    simp [show j < listed.size by omega] at this hj1
    rw [this] at hj1
    cases hj1
   ·
    rw [fill_all hall]
    exact hend ω σ _ w hall hC (fun j hj => hR j (hall j hj)) fun i j hi hj hij => hX i j (hall i hi) (hall j hj) hij
  | succ fuel ih =>
   intro listed ω σ w hsz hcnt hC hcl hR hW hX hA hD
   refine ⟨fun hr => ?_, fun i hi => ?_⟩
   ·
    have hall : ∀ m j, j < m → j < l.length → listed.getD j false = true := by
     intro m
     induction m with
     | zero => intro j hj; omega
     | succ m ihm =>
      intro j hj hjl
      cases hf : listed.getD j false with
      | true => rfl
      | false =>
       exfalso
       have hjs : j < listed.size := by omega
       have : j ∈ Region.ready .any l.toArray listed := mem_ready.2 ⟨by simp [hjs] at hf ⊢; exact hf, l[j], by simp [hjl], fun e he hb => by
        have := (growB_at hB (i := j) (o := l[j]) (by simp [hjl])).2.2.1 e he hb
        exact ihm e.on (by omega) (by omega)⟩
       rw [hr] at this
       cases this
    rw [fill_all fun j hj => hall (j + 1) j (by omega) hj]
    exact hend ω σ _ w (fun j hj => hall (j + 1) j (by omega) hj) hC (fun j hj => hR j (hall (j + 1) j (by omega) hj)) fun i j hi hj hij => hX i j (hall (i + 1) i (by omega) hi) (hall (j + 1) j (by omega) hj) hij
   ·
    obtain ⟨hi1, o, ho, hdeps⟩ := mem_ready.1 hi
    have hol : l[i]? = some o := by simpa using ho
    have hil : i < l.length := (List.getElem?_eq_some_iff.1 hol).1
    have his : i < listed.size := by omega
    have hLi : listed.getD i false = false := by simp [his] at hi1 ⊢; exact hi1
    obtain ⟨g1, g2, g3, g4, g5⟩ := growB_at hB hol
    have hw : ∀ j, waits l i j = true → listed.getD j false = true := fun j hj => by
     obtain ⟨e, he, hb, rfl⟩ := waits_of hol hj
     exact hdeps e he hb
    have hsame : ∀ d ∈ o.looksAt l.toArray, (fill l σ (fun j => listed.getD j false) a l.length).tmps[d]? = (fill l σ (fun _ => true) a i).tmps[d]? := fun d hd => by
     by_cases hex : ∃ j, dstAt l j = some d
     ·
      obtain ⟨j, hj⟩ := hex
      have hun : ∀ k, k ≠ j → dstAt l k ≠ some d := fun k hk hkd => by
       have hjl : j < l.length := by rcases g1 d hd j hj with h | h <;> omega
       exact (growB_at hB (i := j) (o := l[j]) (by simp [hjl])).2.1 k hk d hj hkd
      rcases g1 d hd j hj with ⟨j1, j2⟩ | ⟨j1, j2, _⟩
      · rw [fill_one hj (hw j j2) hun (by omega), fill_one hj rfl hun j1]
      ·
       have hno := later_no hcl hLi j2
       rw [fill_none fun k _ hk h => hun k (fun e => by rw [e, hno] at hk; cases hk) h, fill_none fun k hk _ h => hun k (fun e => by omega) h]
     · rw [fill_none fun j _ _ h => hex ⟨j, h⟩, fill_none fun j _ _ h => hex ⟨j, h⟩]
    obtain ⟨e1, e2⟩ := execOp_same g4 hsame
    have hgo := AllOps3.get hle (k := 0) (fun j => by simp) hops hol (fun j => listed.getD j false) ω σ w (fun j hj k hk => hcl j hj k hk) (by simpa using hLi) hC (by simpa using fun j hj => hR j (hw j hj)) (by simpa using fun i j h1 h2 h3 => hX i j (hw i h1) (hw j h2) h3) (by simpa using fun i j h1 h2 h3 h4 h5 => hD i j h1 h2 h3 (hw i h4) (hw j h5))
    simp only [Nat.zero_add] at hgo
    have next : ∀ v w', Goes3 l le C R kd i (fun j => listed.getD j false) ω σ w v w' →
      wpAny P .any l.toArray Q fuel (listed.setIfInBounds i true) ((fill l σ (fun j => listed.getD j false) a l.length).put o.dst v) w' := fun v w' ⟨c1, c2, c4, c5, c3⟩ => by
     have hd : dstAt l i = o.dst := by simp [dstAt, hol]
     have hf := fill_upd (l := l) (σ := σ) (L := fun j => listed.getD j false) (a := a) (v := v) hLi g2 (n := l.length)
     simp only [hil, decide_true, cond_true, hd] at hf
     rw [← hf, ← listed_upd his]
     have hgd : ∀ j, (listed.setIfInBounds i true).getD j false = upd (fun j => listed.getD j false) i true j := fun j => congrFun (listed_upd his) j
     refine ih _ (upd ω i (w.heap.size, w'.heap.size)) _ _ (by simp [hsz]) ?_ (by rw [listed_upd his]; exact c1) ?_ ?_ ?_ ?_ ?_ ?_
     ·
      have : listed.toList.countP (· == false) = (listed.setIfInBounds i true).toList.countP (· == false) + 1 := by
       rw [Array.toList_setIfInBounds, List.countP_set (by simpa using his)]
       have hb : listed[i] = false := by simpa [his] using hLi
       have hpos : 0 < listed.toList.countP (· == false) := List.countP_pos_iff.2 ⟨listed[i], by simp, by simp [hb]⟩
       have hb' : (listed.toList[i]'(by simpa using his) == false) = true := by simp [hb]
       rw [if_pos hb', if_neg (by simp)]
       omega
      omega
     ·
      intro j hj k hk
      rw [hgd] at hj ⊢
      by_cases hki : k = i
      · subst hki; rw [upd_same]
      ·
       rw [upd_ne _ _ hki]
       by_cases hji : j = i
       · subst hji; exact hw k hk
       ·
        rw [upd_ne _ _ hji] at hj
        exact hcl j hj k hk
     ·
      intro j hj
      rw [hgd] at hj
      by_cases hji : j = i
      · subst hji; exact c2
      ·
       rw [upd_ne _ _ hji] at hj
       have hRj : R j ω σ w' := by
        rcases c3 with c3 | c3
        · exact hgrow j ω σ w w' c3 (hR j hj)
        ·
         refine c3 j hji ?_ (hR j hj)
         cases hwt : waits l j i with
         | false => rfl
         | true =>
          have := hcl j hj i hwt
          rw [hLi] at this
          cases this
       refine hsupp j ω _ σ _ w' (fun k hk => ?_) (by rw [upd_ne _ _ hji]) hRj
       have hjl : j < l.length := by
        rcases Nat.lt_or_ge j l.length with h | h
        · exact h
        · simp [Array.getElem?_eq_none (show listed.size ≤ j by omega)] at hj
       have hki : k ≠ i := fun e => by
        subst e
        rcases (growB_at hB (i := j) (o := l[j]) (by simp [hjl])).2.2.2.2 k hk with h | h
        · exact hji h.symm
        ·
         have := hcl j hj k h
         rw [hLi] at this
         cases this
       rw [upd_ne _ _ hki]
     ·
      intro j hj
      rw [hgd] at hj
      by_cases hji : j = i
      · subst hji; rw [upd_same]; exact Nat.le_refl _
      ·
       rw [upd_ne _ _ hji] at hj ⊢
       exact Nat.le_trans (hW j hj) c4
     ·
      intro x y lx ly hxy
      rw [hgd] at lx ly
      by_cases hxi : x = i
      ·
       subst hxi
       have hyx : y ≠ x := fun e => hxy e.symm
       rw [upd_ne _ _ hyx] at ly
       rw [upd_same, upd_ne _ _ hyx]
       exact .inr (hW y ly)
      ·
       rw [upd_ne _ _ hxi] at lx
       by_cases hyi : y = i
       ·
        subst hyi
        rw [upd_same, upd_ne _ _ hxi]
        exact .inl (hW x lx)
       ·
        rw [upd_ne _ _ hyi] at ly
        rw [upd_ne _ _ hxi, upd_ne _ _ hyi]
        exact hX x y lx ly hxy
     ·
      intro j hk hj
      rw [hgd] at hj
      by_cases hji : j = i
      ·
       subst hji
       obtain ⟨e, hlt⟩ := c5 hk
       rw [upd_same]
       exact ⟨_, e, hlt⟩
      ·
       rw [upd_ne _ _ hji] at hj ⊢
       obtain ⟨g, e, hlt⟩ := hA j hk hj
       exact ⟨g, e, by omega⟩
     ·
      intro x y hx hy hxy lx ly
      rw [hgd] at lx ly
      by_cases hxi : x = i
      ·
       subst hxi
       have hyx : y ≠ x := fun e => hxy e.symm
       rw [upd_ne _ _ hyx] at ly
       obtain ⟨e, _⟩ := c5 hx
       obtain ⟨g, e', hlt⟩ := hA y hy ly
       rw [upd_same, upd_ne _ _ hyx, e, e']
       intro h
       injection h with h
       injection h with h
       injection h with h
       omega
      ·
       rw [upd_ne _ _ hxi] at lx
       by_cases hyi : y = i
       ·
        subst hyi
        obtain ⟨e, _⟩ := c5 hy
        obtain ⟨g, e', hlt⟩ := hA x hx lx
        rw [upd_same, upd_ne _ _ hxi, e, e']
        intro h
        injection h with h
        injection h with h
        injection h with h
        omega
       ·
        rw [upd_ne _ _ hyi] at ly
        rw [upd_ne _ _ hxi, upd_ne _ _ hyi]
        exact hD x y hx hy hxy lx ly
    unfold wpOp
    simp only [ho]
    split
    ·
     rename_i hwant
     refine .inl ?_
     unfold Oper.wp
     have h1 := hgo.1 (by rw [← e2]; exact hwant)
     rw [← e1] at h1
     generalize (execOp (fill l σ (fun j => listed.getD j false) a l.length).eval o).run P w = r at h1
     cases r with
     | ok n w' =>
      cases n <;> simp only [OpUpon] at h1 <;> simp only [Oper.upon]
      case value v => exact next v w' h1
      case skip => exact next undef w' h1
      case enter f args => exact h1.mono fun e w'' ⟨v, he, hk⟩ => by subst he; exact next v w'' hk
     | halt x w' => simp only [OpUpon] at h1
    ·
     rename_i hwant
     exact next undef w (hgo.2 (by rw [← e2]; simpa using hwant))
 have hnone : (fun j => (Array.replicate l.toArray.size false).getD j false) = fun _ => false := by
  funext j
  rcases Nat.lt_or_ge j l.length with h | h
  · simp [h]
  · simp [h]
 have := key l.toArray.size (Array.replicate l.toArray.size false) (fun _ => (0, 0)) (fun _ => undef) w.drew (by simp) (Nat.le_trans List.countP_le_length (by simp)) (by rw [hnone]; exact h0) (fun j hj => by
  rcases Nat.lt_or_ge j l.length with h | h
  · simp [h] at hj
  · simp [h] at hj) (fun j hj => by
  rcases Nat.lt_or_ge j l.length with h | h
  · simp [h] at hj
  · simp [h] at hj) (fun j hj => by
  rcases Nat.lt_or_ge j l.length with h | h
  · simp [h] at hj
  · simp [h] at hj) (fun _ j _ hj => by
  rcases Nat.lt_or_ge j l.length with h | h
  · simp [h] at hj
  · simp [h] at hj) (fun j _ hj => by
  rcases Nat.lt_or_ge j l.length with h | h
  · simp [h] at hj
  · simp [h] at hj) (fun j _ _ _ _ hj => by
  rcases Nat.lt_or_ge j l.length with h | h
  · simp [h] at hj
  · simp [h] at hj)
 have e : fill l (fun _ => undef) (fun j => (Array.replicate l.toArray.size false).getD j false) a l.length = a := by
  have : (fun j => (Array.replicate l.toArray.size false).getD j false) = fun _ => false := by
   funext j
   rcases Nat.lt_or_ge j l.length with h | h
   · simp [h]
   · simp [h]
  rw [this]
  generalize l.length = n
  induction n with
  | zero => rfl
  | succ n ih => simpa [fill] using ih
 rw [e] at this
 exact this
end

end Go.Proofs.YtiiaimjlohpemaaGreat

/-
 The walk of NewStore of the model.
-/
namespace Go.Proofs.YtiiaimjlohpemaaGreat
set_option linter.unusedSimpArgs false
set_option linter.unusedVariables false
open Go.RowKit
set_option linter.unusedVariables false
attribute [local go_sem ↓] Go.wp_at_zero Go.wp_at_succ

def newStore (rd mo : Int) : St × Bool := if roundB rd && inB mo 1 16 then (⟨rd, mo, [Rg.fresh rd.toNat], 0, 0⟩, true) else (.zero, false)

/-- One ring in a new block. -/
theorem rgs_one {lo k : Nat} {V : World} {g q cap : Nat} {r : Rg} (hp : PlsO lo V g q cap r.ps) (hlo : lo ≤ V.heap.size) (hk : k = V.heap.size) :
  RgsW lo (V.alloc (.cells #[r.h, r.t, r.c, r.x, .slice (some ⟨g, 0, none⟩) q cap] 120)).heap.size (V.alloc (.cells #[r.h, r.t, r.c, r.x, .slice (some ⟨g, 0, none⟩) q cap] 120)) (some ⟨k, 0, none⟩) 1 1 [r] := by
 subst hk
 refine ⟨rfl, fun _ => ⟨V.heap.size, [⟨r.h, r.t, r.c, r.x, some ⟨g, 0, none⟩, q, cap⟩], rfl, by simp, ?_, fun i a ha => ?_⟩⟩
 · exact ⟨rfl, hlo, Nat.le_refl _, by unfold maxLen; omega, _, BoxAt.new _ _ _, rfl, rfl⟩
 ·
  have hi : i = 0 := by
   have := (List.getElem?_eq_some_iff.1 ha).1
   simp at this; exact this
  subst hi
  simp at ha
  subst ha
  exact ⟨r, rfl, rfl, rfl, rfl, rfl, hp.1, fun _ => ⟨g, rfl, by have := Own.lt hp; simp; omega, hp.al _⟩⟩

set_option maxRecDepth 100000 in
set_option maxHeartbeats 1000000 in
theorem snewStore_any (rd mo : Int) (w : World) : Calls Tryz.prog 75 #[rd, mo] w (RetSB w.heap.size (newStore rd mo) w) := by
 go_enter Tryz.func75, Tryz.ntmps75
 go_wp2_with fail
 refine calls_abs (fun W => Below w.heap.size w W ∧ BoxAt W w.heap.size zS 64) ⟨(Below.refl _ _).alloc (Nat.le_refl _) _, BoxAt.new _ _ _⟩ ?_
 rintro W ⟨hB, hz⟩
 refine (l1In_any _ _ _ _).mono ?_
 rintro e w' ⟨rfl, rfl⟩
 have kz := hz.cell
 have fz := hz.frozen
 have lz := hz.lt
 cases h1 : inB rd 2 8
 ·
  have HV := Lib.hid (show newStore rd mo = (.zero, false) by simp [newStore, show roundB rd = false from h1])
  exact zcrewE3
 go_wp2_with fail
 refine (l1In_any _ _ _ _).mono ?_
 rintro e w' ⟨rfl, rfl⟩
 cases h2 : inB mo 1 16
 ·
  have HV := Lib.hid (show newStore rd mo = (.zero, false) by simp [newStore, h2])
  exact zcrewE3
 obtain ⟨q, rfl, hq2, hq8⟩ : ∃ q : Nat, rd = q ∧ 2 ≤ q ∧ q ≤ 8 := by
  simp [inB] at h1
  exact ⟨rd.toNat, by omega, by omega, by omega⟩
 have HV := Lib.hid (show newStore q mo = (⟨q, mo, [Rg.fresh q], 0, 0⟩, true) by simp [newStore, show roundB q = true from h1, h2])
 clear h1 h2
 go_wp2_with fail
 clear kz fz
 refine (l2New_any q _ (by omega) hq8).mono ?_
 rintro e w1 ⟨g, cap, rfl, hO, hb1⟩
 have hz1 := hz.below hb1 hz.lt
 have hg := hO.ge
 have lz1 := hz1.lt
 have hB1 := bstep hB hB.size hb1
 have lg := Own.lt hO
 have kz := hz1.cell
 have fz := hz1.frozen
 unfold rgV
 go_wp2
 refine bodyPost_ret (v := .tuple #[stV ⟨q, mo, [Rg.fresh q], 0, 0⟩ (some ⟨w1.heap.size, 0, none⟩) 1 1, .bool true]) (by simp [results, Tryz.results75, go_sem, kz, lz1, stV]) rfl ⟨some ⟨w1.heap.size, 0, none⟩, 1, 1, by rw [HV.out], ?_, ?_⟩
 ·
  rw [HV.out]
  exact rgs_one (r := Rg.fresh q) (((((((hO.mono (by omega)).sn).sn).sn).sn).sn)) (by simp; omega) (by simp)
 · exact ((sc (sc (sc (sc (sc hB1)))))).alloc (by simp; omega) _

end Go.Proofs.YtiiaimjlohpemaaGreat

/-
 A step of whoever it is, and whether a hand fits, of the model.
-/
namespace Go.Proofs.YtiiaimjlohpemaaGreat
set_option linter.unusedSimpArgs false
set_option linter.unusedVariables false
open Go.RowKit
set_option linter.unusedVariables false
attribute [local go_sem] OpUpon
attribute [local go_sem ↓] Go.wp_at_zero Go.wp_at_succ

def stepped (s : St) (h : Hd) : St × Hd × Bool := if isPutting h then stepS putS putB s h else stepS takeS lateB s h

set_option maxRecDepth 100000 in
set_option maxHeartbeats 4000000 in
theorem sstepped_any (s : St) (A : Option Addr) (n cap lo hi : Nat) (h : Hd) (w : World) (hs : RgsW lo hi w A n cap s.rs) (hh : hi ≤ w.heap.size) (hm : n ≤ 1048576) (hpn : ∀ r ∈ s.rs, r.ps.length ≤ 1048576) :
  Calls Tryz.prog 73 #[stV s A n cap, hdV h] w (RetSHB w.heap.size (stepped s h) w) := by
 have HPN := Lib.hid hpn; clear hpn
 have HLN := Lib.hid hs.1
 obtain ⟨at_, v, r, t, seen, tr, sp, ag, re⟩ := h
 unfold stV hdV
 dsimp only
 go_enter Tryz.func73, Tryz.ntmps73
 go_upto_region 1 with fail
 refine wp_abs (fun W => Below w.heap.size w W ∧ BoxAt W w.heap.size (aS s A n cap) 64 ∧ BoxAt W (w.heap.size + 1) (dH at_ v r t seen tr sp ag re) 106 ∧ BoxAt W (w.heap.size + 1 + 1) zS 64 ∧ BoxAt W (w.heap.size + 1 + 1 + 1) zH 106) ⟨(((((Below.refl _ _).alloc (Nat.le_refl _) _).alloc (by simp) _).alloc (by simp; omega) _).alloc (by simp; omega) _), (((BoxAt.new _ _ _).alloc _).alloc _).alloc _, ((BoxAt.new' (by simp)).alloc _).alloc _, (BoxAt.new' (by simp)).alloc _, BoxAt.new' (by simp)⟩ ?_
 rintro W0 ⟨hB, hx, hy, hz, hw_⟩
 have lw0 := hw_.lt
 have hs0 := hs.below hB hh
 have kx := hx.cell
 have ky := hy.cell
 have fy := hy.frozen
 go_wp2_with fail
 clear kx ky fy hs0
 refine (sisPutting_any (⟨at_, v, r, t, seen, tr, sp, ag, re⟩ : Hd) _).mono ?_
 rintro e w1 ⟨rfl, hb⟩
 replace hz := hz.below hb hz.lt
 replace hw_ := hw_.below hb hw_.lt
 replace hx := hx.below hb hx.lt
 replace hy := hy.below hb hy.lt
 replace hB := bstep hB hB.size hb
 have h1 := hb.size
 clear hb
 cases hp : isPutting (⟨at_, v, r, t, seen, tr, sp, ag, re⟩ : Hd)
 ·
  have HV := Lib.hid (show stepped s (⟨at_, v, r, t, seen, tr, sp, ag, re⟩ : Hd) = stepS takeS lateB s (⟨at_, v, r, t, seen, tr, sp, ag, re⟩ : Hd) by simp [stepped, hp])
  clear hp
  have kx := hx.cell
  have ky := hy.cell
  go_wp2_with fail
  clear kx ky
  refine (stakeStep_any s A n cap lo hi (⟨at_, v, r, t, seen, tr, sp, ag, re⟩ : Hd) _ (hs.below hB hh) (Nat.le_trans hh hB.size) hm HPN.out).mono ?_
  rintro e w2 ⟨A5, n5, c5, rfl, hG5, hb5⟩
  replace hz := hz.below hb5 hz.lt
  replace hw_ := hw_.below hb5 hw_.lt
  have h5 := hb5.size
  have h6 := hB.size
  replace hB := bstep hB hB.size hb5
  clear hb5 hx hy
  generalize hq5 : stepS takeS lateB s (⟨at_, v, r, t, seen, tr, sp, ag, re⟩ : Hd) = q at *
  exact zcrewE1
 ·
  have HV := Lib.hid (show stepped s (⟨at_, v, r, t, seen, tr, sp, ag, re⟩ : Hd) = stepS putS putB s (⟨at_, v, r, t, seen, tr, sp, ag, re⟩ : Hd) by simp [stepped, hp])
  clear hp
  have kx := hx.cell
  have ky := hy.cell
  go_wp2_with fail
  clear kx ky
  refine (sputStep_any s A n cap lo hi (⟨at_, v, r, t, seen, tr, sp, ag, re⟩ : Hd) _ (hs.below hB hh) (Nat.le_trans hh hB.size) hm HPN.out).mono ?_
  rintro e w2 ⟨A5, n5, c5, rfl, hG5, hb5⟩
  replace hz := hz.below hb5 hz.lt
  replace hw_ := hw_.below hb5 hw_.lt
  have h5 := hb5.size
  have h6 := hB.size
  replace hB := bstep hB hB.size hb5
  clear hb5 hx hy
  generalize hq5 : stepS putS putB s (⟨at_, v, r, t, seen, tr, sp, ag, re⟩ : Hd) = q at *
  exact zcrewE1

end Go.Proofs.YtiiaimjlohpemaaGreat

/-
 The walk of the copy of a crew, of the model.
-/
namespace Go.Proofs.YtiiaimjlohpemaaGreat
set_option linter.unusedSimpArgs false
set_option linter.unusedVariables false
open Go.RowKit
set_option linter.unusedVariables false
attribute [local go_sem] OpUpon
attribute [local go_sem ↓] Go.wp_at_zero Go.wp_at_succ

/-! ### An append onto an empty row: nothing old is written -/

section
variable {P : Program}
theorem run_append_zero (w : World) (base : Nat) (t ty e : TypeId) (i : TypeInfo) (z : Value) (size bytes : Nat) (ht : P.underlying t = some (.slice e)) (hi : P.info? e = some i) (hz : i.zero = some z)
  (hsize : i.size = size) (hby : i.bytes = bytes) (hzs : z.cells.size = size) (hsz : 0 < size) (g : Nat) (hg : BoxAt w g #[] e) (hbg : base ≤ g)
  (A : Option Addr) (m c : Nat) (news : List Value) (hA : A = none → m = 0 ∧ c = 0) (hl : news.length = m * size) (hnews : ∀ ad, A = some ad → ∀ j u, news[j]? = some u → w.cell? (ad.add j) = some u) (h1 : ∀ u ∈ news, u.oneCell' = true)
  (h63 : m ≤ maxLen) (hbytes : m * bytes ≤ 140737488355328) (hbase : base ≤ w.heap.size) :
  ∃ A' cap' w', (Builtin.append_ #[t, t] ty #[.slice (some ⟨g, 0, none⟩) 0 0, .slice A m c]).run P w = .ok (.slice A' m cap') w' ∧ w'.ownsRow base e size (.slice A' m cap') m news ∧ Below w.heap.size w w' := by
 have hown : w.ownsRow base e size (.slice (some ⟨g, 0, none⟩) 0 0) 0 [] := ⟨by simp, .inr ⟨g, 0, #[], rfl, hbg, hg, Nat.le_refl _, Nat.zero_le _, by simp, by simp⟩⟩
 rcases Nat.eq_zero_or_pos m with h0 | h0
 ·
  subst h0
  have hn : news = [] := List.eq_nil_of_length_eq_zero (by simpa using hl)
  subst hn
  refine ⟨some ⟨g, 0, none⟩, 0, w, ?_, hown, Below.refl _ _⟩
  cases A with
  | none =>
   obtain ⟨_, rfl⟩ := hA rfl
   exact run_append_owned_none (P := P) w base t ty e i size ht hi _ 0 [] hown
  | some ad =>
   simp [Builtin.append_, run_underlying ht, sizeOf, typeInfo, hi, Builtin.lenOf, Builtin.firstCells, loadCells, loadCellsFrom, storeCells]
 ·
  cases A with
  | none => obtain ⟨h2, _⟩ := hA rfl; omega
  | some ad =>
   subst hsize
   subst hby
   have hr := run_append_grow (P := P) w t ty e i z ht hi hz ⟨g, 0, none⟩ 0 0 [] (by simp) (fun j u hu => by simp at hu) ad m c news hl (hnews ad rfl) (by omega) (by simp only [maxLen] at h63; omega) (growslice_fits (by omega) (by simpa using hbytes))
   have hge := grownCap_ge w (0 + m) 0 e
   have hcm : grownCap w (0 + m) 0 e ≤ maxLen := grownCap_le_maxLen w (0 + m) 0 e (by simpa using h63)
   simp only [Nat.zero_add] at hr hge hcm
   refine ⟨_, _, _, hr, ⟨hl, .inr ⟨w.heap.size, _, _, rfl, hbase, heap_alloc_new w.drew _, hge, hcm, ?_, ?_⟩⟩, ?_⟩
   ·
    simp only [Array.size_append, List.size_toArray, size_zeroCells, hzs, List.length_nil, hl, Nat.zero_add, ← Nat.add_mul]
    congr 1
    omega
   ·
    simp only [Array.toList_append, List.append_assoc]
    rw [← hl]
    simp
   · exact (Below.refl _ _).drew.alloc (Nat.le_refl _) _

theorem OpGoes.append_zero {ops : Array Oper} {o : Oper} {a : Act} {w : World} {K : Value → World → Prop} (hgd : o.guard = none) (s x : Operand) (t : TypeId)
  (ho : o.op = .call { callee := .builtin .append, args := #[s, x], argTypes := #[t, t] })
  (base : Nat) (e : TypeId) (i : TypeInfo) (z : Value) (size bytes : Nat) (ht : P.underlying t = some (.slice e)) (hi : P.info? e = some i) (hz : i.zero = some z)
  (hsize : i.size = size) (hby : i.bytes = bytes) (hzs : z.cells.size = size) (hsz : 0 < size) (g : Nat) (hs : a.eval s = .slice (some ⟨g, 0, none⟩) 0 0) (hg : BoxAt w g #[] e) (hbg : base ≤ g)
  (A : Option Addr) (m c : Nat) (news : List Value) (hx : a.eval x = .slice A m c) (hA : A = none → m = 0 ∧ c = 0) (hl : news.length = m * size) (hnews : ∀ ad, A = some ad → ∀ j u, news[j]? = some u → w.cell? (ad.add j) = some u) (h1 : ∀ u ∈ news, u.oneCell' = true)
  (h63 : m ≤ maxLen) (hbytes : m * bytes ≤ 140737488355328) (hbase : base ≤ w.heap.size)
  (h : ∀ A' cap' w', w'.ownsRow base e size (.slice A' m cap') m news → Below w.heap.size w w' → K (.slice A' m cap') w') : OpGoes P ops o a w K := by
 obtain ⟨A', cap', w', hr, h2, h3⟩ := run_append_zero (P := P) w base t o.type e i z size bytes ht hi hz hsize hby hzs hsz g hg hbg A m c news hA hl hnews h1 h63 hbytes hbase
 refine ⟨fun _ => ?_, fun hw => ?_⟩
 ·
  unfold execOp
  simp only [ho, resolve, invoke, builtin, Sem.run_bind, Sem.run_pure, Result.andThen_ok, List.map_toArray, List.map_cons, List.map_nil, hs, hx, hr]
  exact h A' cap' w' h2 h3
 · simp [Region.wanted, hgd] at hw
end

theorem SlW.of_own' {α : Type} {f : α → List Value} {k : Nat} {e : TypeId} {lo : Nat} {w : World} {A : Option Addr} {n cap : Nat} {l : List α} (h : w.ownsRow lo e k (.slice A n cap) n (l.flatMap f)) (hl : l.length = n) : SlW f k e lo w.heap.size w A n cap l := by
 obtain ⟨A', cap', e1, h1⟩ := SlW.of_own h hl
 injection e1 with e1 _ e2
 subst e1 e2
 exact h1
theorem Hd.cs_one {l : List Hd} : ∀ u ∈ l.flatMap Hd.cs, u.oneCell' = true := by
 intro u hu
 obtain ⟨p, _, hp⟩ := List.mem_flatMap.1 hu
 simp [Hd.cs] at hp
 rcases hp with rfl | rfl | rfl | rfl | rfl | rfl | rfl | rfl | rfl | rfl | rfl | rfl <;> rfl
theorem Ev.cs_one {l : List Ev} : ∀ u ∈ l.flatMap Ev.cs, u.oneCell' = true := by
 intro u hu
 obtain ⟨p, _, hp⟩ := List.mem_flatMap.1 hu
 simp [Ev.cs] at hp
 rcases hp with rfl | rfl | rfl | rfl | rfl | rfl <;> rfl
theorem hand_info : (Tryz.prog.info? 106).map (fun i => (i.zero, i.size, i.bytes)) = some (some (.agg zH), 12, 96) := by kernel_rfl

/-! ### The parts of a copy, all from block N on -/

def EmptyAt (N : Nat) (w : World) (g : Nat) (T : TypeId) : Prop := BoxAt w g #[] T ∧ N ≤ g
def RgsN (N : Nat) (w : World) (A : Option Addr) (n cap : Nat) (L : List Rg) : Prop := RgsW N w.heap.size w A n cap L
def HdsN (N : Nat) (w : World) (A : Option Addr) (n cap : Nat) (L : List Hd) : Prop := HdsW N w.heap.size w A n cap L
def EvsN (N : Nat) (w : World) (A : Option Addr) (n cap : Nat) (L : List Ev) : Prop := EvsW N w.heap.size w A n cap L
def SpL (N : Nat) (w : World) (l u : Nat) (A : Option Addr) (n cap : Nat) (L : List (List Int)) : Prop := ListsW l u w A n cap L ∧ u ≤ w.heap.size ∧ N ≤ l
def SpI (N : Nat) (w : World) (l u : Nat) (A : Option Addr) (n cap : Nat) (L : List Int) : Prop := IntsW l u w A n cap L ∧ u ≤ w.heap.size ∧ N ≤ l
/-- A copy of a crew: the numbers' list lies apart from the lists'. -/
structure CopyCr (N : Nat) (w : World) (c : Cr) (y : CrL) (l u l' u' : Nat) : Prop where
 s : RgsN N w y.s.A y.s.n y.s.cap c.st.rs
 h : HdsN N w y.h.A y.h.n y.h.cap c.hs
 j : SpL N w l u y.j.A y.j.n y.j.cap c.js
 b : SpI N w l' u' y.b.A y.b.n y.b.cap c.bs
 e : EvsN N w y.e.A y.e.n y.e.cap c.es
 x : u ≤ l' ∨ u' ≤ l

section
variable {N M : Nat} {w w' : World} {A : Option Addr} {n cap l u l' u' : Nat}
theorem EmptyAt.belowN {g : Nat} {T : TypeId} (h : EmptyAt N w g T) (hb : Below w.heap.size w w') : EmptyAt N w' g T := ⟨h.1.below hb h.1.lt, h.2⟩
theorem EmptyAt.stsN {g : Nat} {T : TypeId} (h : EmptyAt N w g T) {b : Nat} (hb : b < N) (us : List Value) (o : Nat) : EmptyAt N (setCells w b o us) g T := ⟨BoxAt.sets_ne us o h.1 (by have := h.2; omega), h.2⟩
theorem RgsN.belowN {L : List Rg} (h : RgsN N w A n cap L) (hb : Below w.heap.size w w') : RgsN N w' A n cap L := RgsW.mono (RgsW.below h hb (Nat.le_refl _)) (Nat.le_refl _) hb.size
theorem RgsN.stsN {L : List Rg} (h : RgsN N w A n cap L) {b : Nat} (hb : b < N) (us : List Value) (o : Nat) : RgsN N (setCells w b o us) A n cap L := RgsW.mono (RgsW.sts h (.inl hb) us o) (Nat.le_refl _) (Nat.le_of_eq (sets_size _ _ _).symm)
theorem HdsN.belowN {L : List Hd} (h : HdsN N w A n cap L) (hb : Below w.heap.size w w') : HdsN N w' A n cap L := SlW.mono (SlW.below h hb (Nat.le_refl _)) (Nat.le_refl _) hb.size
theorem HdsN.stsN {L : List Hd} (h : HdsN N w A n cap L) {b : Nat} (hb : b < N) (us : List Value) (o : Nat) : HdsN N (setCells w b o us) A n cap L := SlW.mono (SlW.sts h (.inl hb) us o) (Nat.le_refl _) (Nat.le_of_eq (sets_size _ _ _).symm)
theorem EvsN.belowN {L : List Ev} (h : EvsN N w A n cap L) (hb : Below w.heap.size w w') : EvsN N w' A n cap L := SlW.mono (SlW.below h hb (Nat.le_refl _)) (Nat.le_refl _) hb.size
theorem EvsN.stsN {L : List Ev} (h : EvsN N w A n cap L) {b : Nat} (hb : b < N) (us : List Value) (o : Nat) : EvsN N (setCells w b o us) A n cap L := SlW.mono (SlW.sts h (.inl hb) us o) (Nat.le_refl _) (Nat.le_of_eq (sets_size _ _ _).symm)
theorem SpL.belowN {L : List (List Int)} (h : SpL N w l u A n cap L) (hb : Below w.heap.size w w') : SpL N w' l u A n cap L := ⟨h.1.below hb h.2.1, Nat.le_trans h.2.1 hb.size, h.2.2⟩
theorem SpL.stsN {L : List (List Int)} (h : SpL N w l u A n cap L) {b : Nat} (hb : b < N) (us : List Value) (o : Nat) : SpL N (setCells w b o us) l u A n cap L := ⟨h.1.keep fun j h1 h2 => sets_block (by have := h.2.2; omega) us o w, by rw [sets_size]; exact h.2.1, h.2.2⟩
theorem SpI.belowN {L : List Int} (h : SpI N w l u A n cap L) (hb : Below w.heap.size w w') : SpI N w' l u A n cap L := ⟨SlW.below h.1 hb h.2.1, Nat.le_trans h.2.1 hb.size, h.2.2⟩
theorem SpI.stsN {L : List Int} (h : SpI N w l u A n cap L) {b : Nat} (hb : b < N) (us : List Value) (o : Nat) : SpI N (setCells w b o us) l u A n cap L := ⟨SlW.keep h.1 fun j h1 h2 => sets_block (by have := h.2.2; omega) us o w, by rw [sets_size]; exact h.2.1, h.2.2⟩
theorem CopyCr.belowN {c : Cr} {y : CrL} (h : CopyCr N w c y l u l' u') (hb : Below w.heap.size w w') : CopyCr N w' c y l u l' u' := ⟨h.s.belowN hb, h.h.belowN hb, h.j.belowN hb, h.b.belowN hb, h.e.belowN hb, h.x⟩
theorem CopyCr.stsN {c : Cr} {y : CrL} (h : CopyCr N w c y l u l' u') {b : Nat} (hb : b < N) (us : List Value) (o : Nat) : CopyCr N (setCells w b o us) c y l u l' u' := ⟨h.s.stsN hb us o, h.h.stsN hb us o, h.j.stsN hb us o, h.b.stsN hb us o, h.e.stsN hb us o, h.x⟩
theorem CopyCr.mono {c : Cr} {y : CrL} (h : CopyCr N w c y l u l' u') (hM : M ≤ N) : CopyCr M w c y l u l' u' := ⟨RgsW.mono h.s hM (Nat.le_refl _), SlW.mono h.h hM (Nat.le_refl _), ⟨h.j.1, h.j.2.1, Nat.le_trans hM h.j.2.2⟩, ⟨h.b.1, h.b.2.1, Nat.le_trans hM h.b.2.2⟩, SlW.mono h.e hM (Nat.le_refl _), h.x⟩
theorem CopyCr.crw {c : Cr} {y : CrL} (h : CopyCr N w c y l u l' u') : CrW N w.heap.size w c y := ⟨h.s, h.h, h.j.1.mono h.j.2.2 h.j.2.1, SlW.mono h.b.1 h.b.2.2 h.b.2.1, h.e⟩
end

theorem l3CopyN (s : St) (A : Option Addr) (n cap lo hi : Nat) (w : World) (hr0 : RgsW lo hi w A n cap s.rs) (hh : hi ≤ w.heap.size) (h0 : 1 ≤ n) (hm : n ≤ 1048576) (hps : ∀ r ∈ s.rs, 0 < r.ps.length ∧ r.ps.length ≤ 1048576) :
  Calls Tryz.prog 69 #[.agg (aS s A n cap)] w (fun e w' => ∃ b c, e = .returned (.agg (aS s (some ⟨b, 0, none⟩) n c)) ∧ RgsW w.heap.size w'.heap.size w' (some ⟨b, 0, none⟩) n c s.rs ∧ Below w.heap.size w w') := by
 refine (l3Copy_any s A n cap lo hi w hr0 hh h0 hm hps).mono ?_
 rintro e w' ⟨b, c, rows, rfl, hR, hC, hb⟩
 exact ⟨b, c, rfl, hC.rgs hR hr0.1, hb⟩
theorem l10ListsN (L : List (List Int)) (A : Option Addr) (n cap lo hi : Nat) (w : World) (h : ListsW lo hi w A n cap L) (hh : hi ≤ w.heap.size) (hm : n ≤ 1048576) (hml : ∀ l ∈ L, l.length ≤ 1048576) :
  Calls Tryz.prog 70 #[.slice A n cap] w (fun e w' => ∃ A' c, e = .returned (.slice A' n c) ∧ ListsW w.heap.size w'.heap.size w' A' n c L ∧ Below w.heap.size w w') := by
 have hl := h.len
 refine (l10Lists_any L A n cap lo hi w h hh hm hml).mono ?_
 rintro e w' ⟨A', c, rfl, h1, hb⟩
 rw [hl] at h1 ⊢
 exact ⟨A', c, rfl, h1, hb⟩
/-- What a right crew is. -/
structure CrNeat (c : Cr) : Prop where
 s : stOk c.st = true
 h : 1 ≤ c.hs.length ∧ c.hs.length ≤ 4
 j : c.js.length = c.hs.length
 b : c.bs.length = c.hs.length
 e : c.es.length ≤ 16
 l : ∀ l ∈ c.js, l.length ≤ 4
 k : 0 ≤ c.ck ∧ c.ck ≤ 2000
theorem crOk_neat {c : Cr} (h : crOk c = true) : CrNeat c := by
 simp only [crOk, crHead, Bool.and_eq_true, beq_iff_eq, List.all_eq_true, List.mem_range] at h
 obtain ⟨⟨⟨⟨⟨⟨h1, h2⟩, h3⟩, h4⟩, h5⟩, h6⟩, h7⟩ := h
 simp only [inB, Bool.and_eq_true, decide_eq_true_eq] at h2 h5
 simp only [storyOk, Bool.and_eq_true, decide_eq_true_eq] at h6
 refine ⟨h1, by omega, h3, h4, h6.2, fun l hl => ?_, h5⟩
 obtain ⟨i, hi⟩ := List.mem_iff_getElem?.1 hl
 have hil : i < c.hs.length := by have := (List.getElem?_eq_some_iff.1 hi).1; omega
 have := h7 i hil
 simp only [crAt, Bool.and_eq_true, jobsOk, decide_eq_true_eq] at this
 have h8 := this.1.2.2
 rwa [getD_some hi] at h8
theorem CrNeat.fit {c : Cr} (h : CrNeat c) : CrFit c :=
 ⟨by have := (stOk_neat h.s).2.1; omega, (stOk_neat h.s).len, by have := h.h; omega, by have := h.h; have := h.j; omega, fun l hl => by have := h.l l hl; omega, by have := h.h; have := h.b; omega, by have := h.e; omega⟩

/-- A copy of a crew is returned. -/
def RetCopyCr (c : Cr) (w : World) (e : Ending) (w' : World) : Prop := ∃ y l u l' u', e = .returned (crV c y) ∧ CopyCr w.heap.size w' c y l u l' u' ∧ Below w.heap.size w w'

def ccRR (c : Cr) (N mS kS mH kH mJ kJ mB kB mE kE : Nat) (sA hA jA bA eA : Option Addr) (j : Nat) (ω : Nat → Nat × Nat) (σ : Nat → Value) (w : World) : Prop :=
 match j with
 | 0 => σ 0 = pT N
 | 1 => σ 1 = .agg (aS c.st sA mS kS)
 | 2 => ∃ (b2 c2 : Nat), σ 2 = .agg (aS c.st (some ⟨b2, 0, none⟩) mS c2) ∧ RgsN (N + 2) w (some ⟨b2, 0, none⟩) mS c2 c.st.rs
 | 3 => ∃ (g3 : Nat), σ 3 = .slice (some ⟨g3, 0, none⟩) 0 0 ∧ EmptyAt (N + 2) w g3 106
 | 4 => σ 4 = .pointer (some ⟨N, 5, none⟩)
 | 5 => σ 5 = .slice hA mH kH
 | 6 => ∃ (A6 : Option Addr) (c6 : Nat), σ 6 = .slice A6 mH c6 ∧ HdsN (N + 2) w A6 mH c6 c.hs
 | 7 => σ 7 = .pointer (some ⟨N, 6, none⟩)
 | 8 => σ 8 = .slice jA mJ kJ
 | 9 => ∃ (A9 : Option Addr) (c9 : Nat), σ 9 = .slice A9 mJ c9 ∧ SpL (N + 2) w (ω 9).1 (ω 9).2 A9 mJ c9 c.js
 | 10 => σ 10 = .pointer (some ⟨N, 7, none⟩)
 | 11 => σ 11 = .slice bA mB kB
 | 12 => ∃ (A12 : Option Addr) (c12 : Nat), σ 12 = .slice A12 mB c12 ∧ SpI (N + 2) w (ω 12).1 (ω 12).2 A12 mB c12 c.bs
 | 13 => σ 13 = .pointer (some ⟨N, 8, none⟩)
 | 14 => σ 14 = .int .i64 c.ck
 | 15 => ∃ (g15 : Nat), σ 15 = .slice (some ⟨g15, 0, none⟩) 0 0 ∧ EmptyAt (N + 2) w g15 32
 | 16 => σ 16 = .pointer (some ⟨N, 9, none⟩)
 | 17 => σ 17 = .slice eA mE kE
 | 18 => ∃ (A18 : Option Addr) (c18 : Nat), σ 18 = .slice A18 mE c18 ∧ EvsN (N + 2) w A18 mE c18 c.es
 | 19 => ∃ (y : CrL) (l9 u9 l12 u12 : Nat), σ 19 = .agg #[c.st.rd, c.st.mo, .slice y.s.A y.s.n y.s.cap, c.st.fi, c.st.la, .slice y.h.A y.h.n y.h.cap, .slice y.j.A y.j.n y.j.cap, .slice y.b.A y.b.n y.b.cap, c.ck, .slice y.e.A y.e.n y.e.cap] ∧ CopyCr (N + 2) w c y l9 u9 l12 u12
 | 20 => ∃ (y : CrL) (l9 u9 l12 u12 : Nat), BoxAt w (N + 1) #[c.st.rd, c.st.mo, .slice y.s.A y.s.n y.s.cap, c.st.fi, c.st.la, .slice y.h.A y.h.n y.h.cap, .slice y.j.A y.j.n y.j.cap, .slice y.b.A y.b.n y.b.cap, c.ck, .slice y.e.A y.e.n y.e.cap] 68 ∧ CopyCr (N + 2) w c y l9 u9 l12 u12
 | _ => True

def ccRS (j : Nat) : List Nat := [[0], [1], [2], [3], [4], [5], [6], [7], [8], [9], [10], [11], [12], [13], [14], [15], [16], [17], [18], [19], [20]].getD j [j]
def ccRK (j : Nat) : Nat := [0, 0, 0, 0, 0, 0, 0, 0, 0, 0, 0, 0, 0, 0, 0, 0, 0, 0, 0, 0, 1].getD j 0

set_option maxRecDepth 100000 in
set_option maxHeartbeats 4000000 in
theorem l10Copy_any (c : Cr) (y : CrL) (lo hi : Nat) (w : World) (hW0 : CrW lo hi w c y) (hh : hi ≤ w.heap.size) (hn : CrNeat c) :
  Calls Tryz.prog 59 #[crV c y] w (RetCopyCr c w) := by
 obtain ⟨iH, hi0, hz0, hz1, hz2⟩ := info_parts hand_info
 have HI := Lib.hid hi0
 have HZ0 := Lib.hid hz0
 have HZ1 := Lib.hid hz1
 have HZ2 := Lib.hid hz2
 clear hi0 hz0 hz1 hz2
 obtain ⟨iE, hi0, hz0, hz1, hz2⟩ := info_parts event_info
 have EI := Lib.hid hi0
 have EZ0 := Lib.hid hz0
 have EZ1 := Lib.hid hz1
 have EZ2 := Lib.hid hz2
 clear hi0 hz0 hz1 hz2
 obtain ⟨⟨sA, mS, kS⟩, ⟨hA, mH, kH⟩, ⟨jA, mJ, kJ⟩, ⟨bA, mB, kB⟩, ⟨eA, mE, kE⟩⟩ := y
 have hf := hn.fit
 have nt := stOk_neat hn.s
 have e1 : c.st.rs.length = mS := hW0.s.1
 have e2 : c.hs.length = mH := hW0.h.1
 have e3 : c.js.length = mJ := hW0.j.len
 have e4 : c.bs.length = mB := hW0.b.1
 have e5 : c.es.length = mE := hW0.e.1
 have h0 : 1 ≤ mS := by have := nt.1; omega
 have hm1 : mS ≤ 1048576 := by have := hf.s; omega
 have hm2 : mH ≤ 1048576 := by have := hf.h; omega
 have hm3 : mJ ≤ 1048576 := by have := hf.j; omega
 have hm4 : mB ≤ 1048576 := by have := hf.b; omega
 have hm5 : mE ≤ 1048576 := by have := hf.e; omega
 have HPS := Lib.hid nt.cp
 have HJ := Lib.hid hf.l
 clear e1 e2 e3 e4 e5 hf nt hn
 obtain ⟨N, hNe⟩ : ∃ N, N = w.heap.size := ⟨_, rfl⟩
 have hN1 : w.heap.size ≤ N := by omega
 have hN2 : N ≤ w.heap.size := by omega
 have HN := Lib.hid hNe
 unfold crV
 dsimp only
 go_enter Tryz.func59, Tryz.ntmps59
 go_upto_region 1 with fail
 rw [← HN.out]
 refine wp_abs (fun W => Below N w W ∧ BoxAt W N #[c.st.rd, c.st.mo, .slice sA mS kS, c.st.fi, c.st.la, .slice hA mH kH, .slice jA mJ kJ, .slice bA mB kB, c.ck, .slice eA mE kE] 68 ∧ BoxAt W (N + 1) #[.int .i64 0, .int .i64 0, .slice none 0 0, .int .i64 0, .int .i64 0, .slice none 0 0, .slice none 0 0, .slice none 0 0, .int .i64 0, .slice none 0 0] 68) ⟨((Below.refl _ _).alloc (by omega) _).alloc (by simp; omega) _, (BoxAt.new' (by omega)).alloc _, BoxAt.new' (by simp; omega)⟩ ?_
 clear hNe
 rintro W ⟨hB, hs, hz⟩
 have hW := hW0.below (hB.mono hN1) hh
 have hhi : hi ≤ W.heap.size := by have := hB.size; omega
 have hM : N + 2 ≤ W.heap.size := by have := hz.lt; omega
 refine wp_region3 (fun w w' => Below w.heap.size w w') (fun _ _ h => h.size) (fun L W' => Below N w W' ∧ BoxAt W' N #[c.st.rd, c.st.mo, .slice sA mS kS, c.st.fi, c.st.la, .slice hA mH kH, .slice jA mJ kJ, .slice bA mB kB, c.ck, .slice eA mE kE] 68 ∧ CrW lo hi W' c (⟨⟨sA, mS, kS⟩, ⟨hA, mH, kH⟩, ⟨jA, mJ, kJ⟩, ⟨bA, mB, kB⟩, ⟨eA, mE, kE⟩⟩ : CrL) ∧ hi ≤ W'.heap.size ∧ N + 2 ≤ W'.heap.size ∧ (∃ x0 x1 x2 x3 x4 x5 x6 x7 x8 x9, BoxAt W' (N + 1) #[x0, x1, x2, x3, x4, x5, x6, x7, x8, x9] 68) ∧ (L 20 = false → BoxAt W' (N + 1) #[.int .i64 0, .int .i64 0, .slice none 0 0, .int .i64 0, .int .i64 0, .slice none 0 0, .slice none 0 0, .slice none 0 0, .int .i64 0, .slice none 0 0] 68)) (ccRR c N mS kS mH kH mJ kJ mB kB mE kE sA hA jA bA eA) ccRK ccRS (by kernel_rfl) (by kernel_rfl) ?_ ?_ ?_
  (.grow rfl ?_ <| .grow rfl ?_ <| .grow rfl ?_ <| .grow rfl ?_ <| .grow rfl ?_ <| .grow rfl ?_ <| .grow rfl ?_ <| .grow rfl ?_ <| .grow rfl ?_ <| .grow rfl ?_ <| .grow rfl ?_ <| .grow rfl ?_ <| .grow rfl ?_ <| .grow rfl ?_ <| .grow rfl ?_ <| .grow rfl ?_ <| .grow rfl ?_ <| .grow rfl ?_ <| .grow rfl ?_ <| .grow rfl ?_ <| .store rfl ?_ <| .nil) ?_
 ·
  intro j ω ω' σ τ w h hω hR
  match j, h, hω, hR with
  | 0, h, hω, hR => exact (h 0 (List.mem_singleton.2 rfl)).symm.trans hR
  | 1, h, hω, hR => exact (h 1 (List.mem_singleton.2 rfl)).symm.trans hR
  | 2, h, hω, hR => obtain ⟨b2, c2, e, hp⟩ := hR; exact ⟨b2, c2, (h 2 (List.mem_singleton.2 rfl)).symm.trans e, hp⟩
  | 3, h, hω, hR => obtain ⟨g3, e, hp⟩ := hR; exact ⟨g3, (h 3 (List.mem_singleton.2 rfl)).symm.trans e, hp⟩
  | 4, h, hω, hR => exact (h 4 (List.mem_singleton.2 rfl)).symm.trans hR
  | 5, h, hω, hR => exact (h 5 (List.mem_singleton.2 rfl)).symm.trans hR
  | 6, h, hω, hR => obtain ⟨A6, c6, e, hp⟩ := hR; exact ⟨A6, c6, (h 6 (List.mem_singleton.2 rfl)).symm.trans e, hp⟩
  | 7, h, hω, hR => exact (h 7 (List.mem_singleton.2 rfl)).symm.trans hR
  | 8, h, hω, hR => exact (h 8 (List.mem_singleton.2 rfl)).symm.trans hR
  | 9, h, hω, hR => obtain ⟨A9, c9, e, hp⟩ := hR; exact ⟨A9, c9, (h 9 (List.mem_singleton.2 rfl)).symm.trans e, by rw [← hω]; exact hp⟩
  | 10, h, hω, hR => exact (h 10 (List.mem_singleton.2 rfl)).symm.trans hR
  | 11, h, hω, hR => exact (h 11 (List.mem_singleton.2 rfl)).symm.trans hR
  | 12, h, hω, hR => obtain ⟨A12, c12, e, hp⟩ := hR; exact ⟨A12, c12, (h 12 (List.mem_singleton.2 rfl)).symm.trans e, by rw [← hω]; exact hp⟩
  | 13, h, hω, hR => exact (h 13 (List.mem_singleton.2 rfl)).symm.trans hR
  | 14, h, hω, hR => exact (h 14 (List.mem_singleton.2 rfl)).symm.trans hR
  | 15, h, hω, hR => obtain ⟨g15, e, hp⟩ := hR; exact ⟨g15, (h 15 (List.mem_singleton.2 rfl)).symm.trans e, hp⟩
  | 16, h, hω, hR => exact (h 16 (List.mem_singleton.2 rfl)).symm.trans hR
  | 17, h, hω, hR => exact (h 17 (List.mem_singleton.2 rfl)).symm.trans hR
  | 18, h, hω, hR => obtain ⟨A18, c18, e, hp⟩ := hR; exact ⟨A18, c18, (h 18 (List.mem_singleton.2 rfl)).symm.trans e, hp⟩
  | 19, h, hω, hR => obtain ⟨y, l9, u9, l12, u12, e, hp⟩ := hR; exact ⟨y, l9, u9, l12, u12, (h 19 (List.mem_singleton.2 rfl)).symm.trans e, hp⟩
  | 20, _, _, hR => exact hR
  | _ + 21, _, _, _ => exact trivial
 ·
  intro j ω σ w w' hb hR
  match j, hR with
  | 0, hR => exact hR
  | 1, hR => exact hR
  | 2, hR => obtain ⟨b2, c2, e, hp⟩ := hR; exact ⟨b2, c2, e, hp.belowN hb⟩
  | 3, hR => obtain ⟨g3, e, hp⟩ := hR; exact ⟨g3, e, hp.belowN hb⟩
  | 4, hR => exact hR
  | 5, hR => exact hR
  | 6, hR => obtain ⟨A6, c6, e, hp⟩ := hR; exact ⟨A6, c6, e, hp.belowN hb⟩
  | 7, hR => exact hR
  | 8, hR => exact hR
  | 9, hR => obtain ⟨A9, c9, e, hp⟩ := hR; exact ⟨A9, c9, e, hp.belowN hb⟩
  | 10, hR => exact hR
  | 11, hR => exact hR
  | 12, hR => obtain ⟨A12, c12, e, hp⟩ := hR; exact ⟨A12, c12, e, hp.belowN hb⟩
  | 13, hR => exact hR
  | 14, hR => exact hR
  | 15, hR => obtain ⟨g15, e, hp⟩ := hR; exact ⟨g15, e, hp.belowN hb⟩
  | 16, hR => exact hR
  | 17, hR => exact hR
  | 18, hR => obtain ⟨A18, c18, e, hp⟩ := hR; exact ⟨A18, c18, e, hp.belowN hb⟩
  | 19, hR => obtain ⟨y, l9, u9, l12, u12, e, hp⟩ := hR; exact ⟨y, l9, u9, l12, u12, e, hp.belowN hb⟩
  | 20, hR => obtain ⟨y, l9, u9, l12, u12, hx, hp⟩ := hR; exact ⟨y, l9, u9, l12, u12, hx.below hb hx.lt, hp.belowN hb⟩
  | _ + 21, _ => exact trivial
 · exact ⟨hB.drew, hs, hW.drew, hhi, hM, ⟨_, _, _, _, _, _, _, _, _, _, hz⟩, fun _ => hz⟩
 ·
  go_light
  intro L ω σ W' hcl hL hC hw hx
  clear hw
  have HC := Lib.hid hC
  clear hC
  clear hcl hL
  exact zcrewE0
 ·
  go_light
  intro L ω σ W' hcl hL hC hw hx
  have e0 : σ 0 = pT N := hw 0 (by kernel_rfl)
  clear hw
  have HC := Lib.hid hC
  obtain ⟨hB, hs, hW, hhi, hM, ⟨_, _, _, _, _, _, _, _, _, _, hz⟩, hz_o⟩ := hC
  have ks := hs.cell
  clear hcl hL
  clear hB hs hW hhi hM hz hz_o
  exact zcrewE0
 ·
  go_light
  intro L ω σ W' hcl hL hC hw hx
  have e1 : σ 1 = _ := hw 1 (by kernel_rfl)
  clear hw
  have HC := Lib.hid hC
  clear hC
  clear hcl hL
  refine OpGoes.go fun K hK => ?_
  go_simp
  obtain ⟨hB, hs, hW, hhi, hM, ⟨_, _, _, _, _, _, _, _, _, _, hz⟩, hz_o⟩ := HC.out
  refine (l3CopyN c.st sA mS kS lo hi _ hW.s hhi h0 hm1 HPS.out).mono ?_
  rintro e w1 ⟨b2, c2, rfl, hO2, hb1⟩
  exact ⟨_, rfl, hK _ _ ⟨⟨bstep hB (Nat.le_trans hN2 hB.size) hb1, hs.below hb1 hs.lt, hW.below hb1 hhi, Nat.le_trans hhi hb1.size, Nat.le_trans hM hb1.size, ⟨_, _, _, _, _, _, _, _, _, _, hz.below hb1 hz.lt⟩, fun h => (hz_o (by simpa [upd] using h)).below hb1 (hz_o (by simpa [upd] using h)).lt⟩, ⟨b2, c2, rfl, RgsW.mono hO2 hM (Nat.le_refl _)⟩, hb1⟩⟩
 ·
  go_light
  intro L ω σ W' hcl hL hC hw hx
  clear hw
  have HC := Lib.hid hC
  clear hC
  clear hcl hL
  refine OpGoes.go fun K hK => ?_
  go_simp
  obtain ⟨hB, hs, hW, hhi, hM, ⟨_, _, _, _, _, _, _, _, _, _, hz⟩, hz_o⟩ := HC.out
  have hb1 : Below W'.heap.size W' (W'.alloc (.cells #[] 106)) := (Below.refl _ _).alloc (Nat.le_refl _) _
  exact zcrewE2
 ·
  go_light
  intro L ω σ W' hcl hL hC hw hx
  clear hw
  have HC := Lib.hid hC
  clear hC
  clear hcl hL
  exact zcrewE0
 ·
  go_light
  intro L ω σ W' hcl hL hC hw hx
  have e4 : σ 4 = .pointer (some ⟨N, 5, none⟩) := hw 4 (by kernel_rfl)
  clear hw
  have HC := Lib.hid hC
  obtain ⟨hB, hs, hW, hhi, hM, ⟨_, _, _, _, _, _, _, _, _, _, hz⟩, hz_o⟩ := hC
  have ks := hs.cell
  clear hcl hL
  clear hB hs hW hhi hM hz hz_o
  exact zcrewE0
 ·
  go_light
  intro L ω σ W' hcl hL hC hw hx
  obtain ⟨g3, e3, hp3⟩ : ∃ (g3 : Nat), σ 3 = .slice (some ⟨g3, 0, none⟩) 0 0 ∧ EmptyAt (N + 2) W' g3 106 := hw 3 (by kernel_rfl)
  have e5 : σ 5 = .slice hA mH kH := hw 5 (by kernel_rfl)
  clear hw
  obtain ⟨hB, hs, hW, hhi, hM, ⟨_, _, _, _, _, _, _, _, _, _, hz⟩, hz_o⟩ := hC
  clear hcl hL
  refine OpGoes.append_zero rfl (.tmp 6) (.tmp 8) _ rfl (N + 2) 106 iH _ 12 96 Tryz.underlying65 HI.out HZ0.out HZ1.out HZ2.out rfl (by omega) g3 (by go_simp) hp3.1 hp3.2 hA mH kH (c.hs.flatMap Hd.cs) (by go_simp) (SlW.src hW.h Hd.cs_len).2.1 (by rw [flat_len _ 12 Hd.cs_len, (SlW.src hW.h Hd.cs_len).1]) (SlW.src hW.h Hd.cs_len).2.2 Hd.cs_one (by unfold maxLen; omega) (by omega) hM ?_
  intro A6 c6 w1 hO hb1
  refine ⟨⟨bstep hB (Nat.le_trans hN2 hB.size) hb1, hs.below hb1 hs.lt, hW.below hb1 hhi, Nat.le_trans hhi hb1.size, Nat.le_trans hM hb1.size, ⟨_, _, _, _, _, _, _, _, _, _, hz.below hb1 hz.lt⟩, fun h => (hz_o (by simpa [upd] using h)).below hb1 (hz_o (by simpa [upd] using h)).lt⟩, ⟨A6, c6, rfl, ?_⟩, hb1⟩
  exact SlW.of_own' (f := Hd.cs) hO (SlW.src hW.h Hd.cs_len).1
 ·
  go_light
  intro L ω σ W' hcl hL hC hw hx
  clear hw
  have HC := Lib.hid hC
  clear hC
  clear hcl hL
  exact zcrewE0
 ·
  go_light
  intro L ω σ W' hcl hL hC hw hx
  have e7 : σ 7 = .pointer (some ⟨N, 6, none⟩) := hw 7 (by kernel_rfl)
  clear hw
  have HC := Lib.hid hC
  obtain ⟨hB, hs, hW, hhi, hM, ⟨_, _, _, _, _, _, _, _, _, _, hz⟩, hz_o⟩ := hC
  have ks := hs.cell
  clear hcl hL
  clear hB hs hW hhi hM hz hz_o
  exact zcrewE0
 ·
  go_light
  intro L ω σ W' hcl hL hC hw hx
  have e8 : σ 8 = .slice jA mJ kJ := hw 8 (by kernel_rfl)
  clear hw
  have HC := Lib.hid hC
  clear hC
  clear hcl hL
  refine OpGoes.go fun K hK => ?_
  go_simp
  obtain ⟨hB, hs, hW, hhi, hM, ⟨_, _, _, _, _, _, _, _, _, _, hz⟩, hz_o⟩ := HC.out
  refine (l10ListsN c.js jA mJ kJ lo hi _ hW.j hhi hm3 HJ.out).mono ?_
  rintro e w1 ⟨A9, c9, rfl, hO9, hb1⟩
  exact ⟨_, rfl, hK _ _ ⟨⟨bstep hB (Nat.le_trans hN2 hB.size) hb1, hs.below hb1 hs.lt, hW.below hb1 hhi, Nat.le_trans hhi hb1.size, Nat.le_trans hM hb1.size, ⟨_, _, _, _, _, _, _, _, _, _, hz.below hb1 hz.lt⟩, fun h => (hz_o (by simpa [upd] using h)).below hb1 (hz_o (by simpa [upd] using h)).lt⟩, ⟨A9, c9, rfl, hO9, Nat.le_refl _, hM⟩, hb1⟩⟩
 ·
  go_light
  intro L ω σ W' hcl hL hC hw hx
  clear hw
  have HC := Lib.hid hC
  clear hC
  clear hcl hL
  exact zcrewE0
 ·
  go_light
  intro L ω σ W' hcl hL hC hw hx
  have e10 : σ 10 = .pointer (some ⟨N, 7, none⟩) := hw 10 (by kernel_rfl)
  clear hw
  have HC := Lib.hid hC
  obtain ⟨hB, hs, hW, hhi, hM, ⟨_, _, _, _, _, _, _, _, _, _, hz⟩, hz_o⟩ := hC
  have ks := hs.cell
  clear hcl hL
  clear hB hs hW hhi hM hz hz_o
  exact zcrewE0
 ·
  go_light
  intro L ω σ W' hcl hL hC hw hx
  have e11 : σ 11 = .slice bA mB kB := hw 11 (by kernel_rfl)
  clear hw
  have HC := Lib.hid hC
  clear hC
  clear hcl hL
  refine OpGoes.go fun K hK => ?_
  go_simp
  obtain ⟨hB, hs, hW, hhi, hM, ⟨_, _, _, _, _, _, _, _, _, _, hz⟩, hz_o⟩ := HC.out
  refine (l1CopyN c.bs bA mB kB _ (SlW.src hW.b ic_len) hm4).mono ?_
  rintro e w1 ⟨A12, c12, rfl, hO12, hb1⟩
  exact ⟨_, rfl, hK _ _ ⟨⟨bstep hB (Nat.le_trans hN2 hB.size) hb1, hs.below hb1 hs.lt, hW.below hb1 hhi, Nat.le_trans hhi hb1.size, Nat.le_trans hM hb1.size, ⟨_, _, _, _, _, _, _, _, _, _, hz.below hb1 hz.lt⟩, fun h => (hz_o (by simpa [upd] using h)).below hb1 (hz_o (by simpa [upd] using h)).lt⟩, ⟨A12, c12, rfl, hO12, Nat.le_refl _, hM⟩, hb1⟩⟩
 ·
  go_light
  intro L ω σ W' hcl hL hC hw hx
  clear hw
  have HC := Lib.hid hC
  clear hC
  clear hcl hL
  exact zcrewE0
 ·
  go_light
  intro L ω σ W' hcl hL hC hw hx
  have e13 : σ 13 = .pointer (some ⟨N, 8, none⟩) := hw 13 (by kernel_rfl)
  clear hw
  have HC := Lib.hid hC
  obtain ⟨hB, hs, hW, hhi, hM, ⟨_, _, _, _, _, _, _, _, _, _, hz⟩, hz_o⟩ := hC
  have ks := hs.cell
  clear hcl hL
  clear hB hs hW hhi hM hz hz_o
  exact zcrewE0
 ·
  go_light
  intro L ω σ W' hcl hL hC hw hx
  clear hw
  have HC := Lib.hid hC
  clear hC
  clear hcl hL
  refine OpGoes.go fun K hK => ?_
  go_simp
  obtain ⟨hB, hs, hW, hhi, hM, ⟨_, _, _, _, _, _, _, _, _, _, hz⟩, hz_o⟩ := HC.out
  have hb1 : Below W'.heap.size W' (W'.alloc (.cells #[] 32)) := (Below.refl _ _).alloc (Nat.le_refl _) _
  exact zcrewE2
 ·
  go_light
  intro L ω σ W' hcl hL hC hw hx
  clear hw
  have HC := Lib.hid hC
  clear hC
  clear hcl hL
  exact zcrewE0
 ·
  go_light
  intro L ω σ W' hcl hL hC hw hx
  have e16 : σ 16 = .pointer (some ⟨N, 9, none⟩) := hw 16 (by kernel_rfl)
  clear hw
  have HC := Lib.hid hC
  obtain ⟨hB, hs, hW, hhi, hM, ⟨_, _, _, _, _, _, _, _, _, _, hz⟩, hz_o⟩ := hC
  have ks := hs.cell
  clear hcl hL
  clear hB hs hW hhi hM hz hz_o
  exact zcrewE0
 ·
  go_light
  intro L ω σ W' hcl hL hC hw hx
  obtain ⟨g15, e15, hp15⟩ : ∃ (g15 : Nat), σ 15 = .slice (some ⟨g15, 0, none⟩) 0 0 ∧ EmptyAt (N + 2) W' g15 32 := hw 15 (by kernel_rfl)
  have e17 : σ 17 = .slice eA mE kE := hw 17 (by kernel_rfl)
  clear hw
  obtain ⟨hB, hs, hW, hhi, hM, ⟨_, _, _, _, _, _, _, _, _, _, hz⟩, hz_o⟩ := hC
  clear hcl hL
  refine OpGoes.append_zero rfl (.tmp 18) (.tmp 20) _ rfl (N + 2) 32 iE _ 6 48 Tryz.underlying24 EI.out EZ0.out EZ1.out EZ2.out rfl (by omega) g15 (by go_simp) hp15.1 hp15.2 eA mE kE (c.es.flatMap Ev.cs) (by go_simp) (SlW.src hW.e Ev.cs_len).2.1 (by rw [flat_len _ 6 Ev.cs_len, (SlW.src hW.e Ev.cs_len).1]) (SlW.src hW.e Ev.cs_len).2.2 Ev.cs_one (by unfold maxLen; omega) (by omega) hM ?_
  intro A18 c18 w1 hO hb1
  refine ⟨⟨bstep hB (Nat.le_trans hN2 hB.size) hb1, hs.below hb1 hs.lt, hW.below hb1 hhi, Nat.le_trans hhi hb1.size, Nat.le_trans hM hb1.size, ⟨_, _, _, _, _, _, _, _, _, _, hz.below hb1 hz.lt⟩, fun h => (hz_o (by simpa [upd] using h)).below hb1 (hz_o (by simpa [upd] using h)).lt⟩, ⟨A18, c18, rfl, ?_⟩, hb1⟩
  exact SlW.of_own' (f := Ev.cs) hO (SlW.src hW.e Ev.cs_len).1
 ·
  go_light
  intro L ω σ W' hcl hL hC hw hx
  obtain ⟨b2, c2, e2, hp2⟩ : ∃ (b2 c2 : Nat), σ 2 = .agg (aS c.st (some ⟨b2, 0, none⟩) mS c2) ∧ RgsN (N + 2) W' (some ⟨b2, 0, none⟩) mS c2 c.st.rs := hw 2 (by kernel_rfl)
  obtain ⟨A6, c6, e6, hp6⟩ : ∃ (A6 : Option Addr) (c6 : Nat), σ 6 = .slice A6 mH c6 ∧ HdsN (N + 2) W' A6 mH c6 c.hs := hw 6 (by kernel_rfl)
  obtain ⟨A9, c9, e9, hp9⟩ : ∃ (A9 : Option Addr) (c9 : Nat), σ 9 = .slice A9 mJ c9 ∧ SpL (N + 2) W' (ω 9).1 (ω 9).2 A9 mJ c9 c.js := hw 9 (by kernel_rfl)
  obtain ⟨A12, c12, e12, hp12⟩ : ∃ (A12 : Option Addr) (c12 : Nat), σ 12 = .slice A12 mB c12 ∧ SpI (N + 2) W' (ω 12).1 (ω 12).2 A12 mB c12 c.bs := hw 12 (by kernel_rfl)
  have e14 : σ 14 = .int .i64 c.ck := hw 14 (by kernel_rfl)
  obtain ⟨A18, c18, e18, hp18⟩ : ∃ (A18 : Option Addr) (c18 : Nat), σ 18 = .slice A18 mE c18 ∧ EvsN (N + 2) W' A18 mE c18 c.es := hw 18 (by kernel_rfl)
  clear hw
  have HC := Lib.hid hC
  clear hC
  clear hcl hL
  refine OpGoes.go fun K hK => ?_
  go_simp
  obtain ⟨hB, hs, hW, hhi, hM, ⟨_, _, _, _, _, _, _, _, _, _, hz⟩, hz_o⟩ := HC.out
  exact hK _ _ ⟨⟨hB, hs, hW, hhi, hM, ⟨_, _, _, _, _, _, _, _, _, _, hz⟩, fun h => hz_o (by simpa [upd] using h)⟩, ⟨⟨⟨some ⟨b2, 0, none⟩, mS, c2⟩, ⟨A6, mH, c6⟩, ⟨A9, mJ, c9⟩, ⟨A12, mB, c12⟩, ⟨A18, mE, c18⟩⟩, (ω 9).1, (ω 9).2, (ω 12).1, (ω 12).2, rfl, ⟨hp2, hp6, hp9, hp12, hp18, hx 9 12 (by kernel_rfl) (by kernel_rfl) (by decide)⟩⟩, Below.refl _ _⟩
 ·
  go_light
  intro L ω σ W' hcl hL hC hw hx hne
  obtain ⟨y, l9, u9, l12, u12, e19, hp19⟩ : ∃ (y : CrL) (l9 u9 l12 u12 : Nat), σ 19 = .agg #[c.st.rd, c.st.mo, .slice y.s.A y.s.n y.s.cap, c.st.fi, c.st.la, .slice y.h.A y.h.n y.h.cap, .slice y.j.A y.j.n y.j.cap, .slice y.b.A y.b.n y.b.cap, c.ck, .slice y.e.A y.e.n y.e.cap] ∧ CopyCr (N + 2) W' c y l9 u9 l12 u12 := hw 19 (by kernel_rfl)
  clear hw hne
  have HC := Lib.hid hC
  obtain ⟨hB, hs, hW, hhi, hM, ⟨_, _, _, _, _, _, _, _, _, _, hz⟩, hz_o⟩ := hC
  clear hcl hL
  have kc_ := hz.cell
  have kf_ := hz.frozen
  clear hB hs hW hhi hM hz hz_o
  refine OpGoes.go fun K hK => ?_
  go_simp
  obtain ⟨hB, hs, hW, hhi, hM, ⟨_, _, _, _, _, _, _, _, _, _, hz⟩, hz_o⟩ := HC.out
  have hset := sets_all (us := [c.st.rd, c.st.mo, .slice y.s.A y.s.n y.s.cap, c.st.fi, c.st.la, .slice y.h.A y.h.n y.h.cap, .slice y.j.A y.j.n y.j.cap, .slice y.b.A y.b.n y.b.cap, c.ck, .slice y.e.A y.e.n y.e.cap]) hz rfl
  refine hK undef (setCells W' (N + 1) 0 [c.st.rd, c.st.mo, .slice y.s.A y.s.n y.s.cap, c.st.fi, c.st.la, .slice y.h.A y.h.n y.h.cap, .slice y.j.A y.j.n y.j.cap, .slice y.b.A y.b.n y.b.cap, c.ck, .slice y.e.A y.e.n y.e.cap]) ⟨⟨(Below.setCells (by omega) [c.st.rd, c.st.mo, .slice y.s.A y.s.n y.s.cap, c.st.fi, c.st.la, .slice y.h.A y.h.n y.h.cap, .slice y.j.A y.j.n y.j.cap, .slice y.b.A y.b.n y.b.cap, c.ck, .slice y.e.A y.e.n y.e.cap] 0 hB), (BoxAt.sets_ne [c.st.rd, c.st.mo, .slice y.s.A y.s.n y.s.cap, c.st.fi, c.st.la, .slice y.h.A y.h.n y.h.cap, .slice y.j.A y.j.n y.j.cap, .slice y.b.A y.b.n y.b.cap, c.ck, .slice y.e.A y.e.n y.e.cap] 0 hs (by omega)), (CrW.sts hW (by omega) [c.st.rd, c.st.mo, .slice y.s.A y.s.n y.s.cap, c.st.fi, c.st.la, .slice y.h.A y.h.n y.h.cap, .slice y.j.A y.j.n y.j.cap, .slice y.b.A y.b.n y.b.cap, c.ck, .slice y.e.A y.e.n y.e.cap] 0), (size_sts hhi [c.st.rd, c.st.mo, .slice y.s.A y.s.n y.s.cap, c.st.fi, c.st.la, .slice y.h.A y.h.n y.h.cap, .slice y.j.A y.j.n y.j.cap, .slice y.b.A y.b.n y.b.cap, c.ck, .slice y.e.A y.e.n y.e.cap] 0), (size_sts hM [c.st.rd, c.st.mo, .slice y.s.A y.s.n y.s.cap, c.st.fi, c.st.la, .slice y.h.A y.h.n y.h.cap, .slice y.j.A y.j.n y.j.cap, .slice y.b.A y.b.n y.b.cap, c.ck, .slice y.e.A y.e.n y.e.cap] 0), ⟨_, _, _, _, _, _, _, _, _, _, hset⟩, fun h => absurd h (by simp [upd])⟩, ⟨y, l9, u9, l12, u12, hset, (hp19.stsN (by omega) [c.st.rd, c.st.mo, .slice y.s.A y.s.n y.s.cap, c.st.fi, c.st.la, .slice y.h.A y.h.n y.h.cap, .slice y.j.A y.j.n y.j.cap, .slice y.b.A y.b.n y.b.cap, c.ck, .slice y.e.A y.e.n y.e.cap] 0)⟩, Nat.le_of_eq (sets_size _ _ _).symm, fun j hj hn hR => ?_⟩
  match j, hj, hn, hR with
  | 0, _, _, hR => exact (show σ 0 = _ from hR)
  | 1, _, _, hR => exact (show σ 1 = _ from hR)
  | 2, _, _, hR => obtain ⟨b2_x, c2_x, e, hp⟩ := hR; exact ⟨b2_x, c2_x, e, (hp.stsN (by omega) [c.st.rd, c.st.mo, .slice y.s.A y.s.n y.s.cap, c.st.fi, c.st.la, .slice y.h.A y.h.n y.h.cap, .slice y.j.A y.j.n y.j.cap, .slice y.b.A y.b.n y.b.cap, c.ck, .slice y.e.A y.e.n y.e.cap] 0)⟩
  | 3, _, _, hR => obtain ⟨g3_x, e, hp⟩ := hR; exact ⟨g3_x, e, (hp.stsN (by omega) [c.st.rd, c.st.mo, .slice y.s.A y.s.n y.s.cap, c.st.fi, c.st.la, .slice y.h.A y.h.n y.h.cap, .slice y.j.A y.j.n y.j.cap, .slice y.b.A y.b.n y.b.cap, c.ck, .slice y.e.A y.e.n y.e.cap] 0)⟩
  | 4, _, _, hR => exact (show σ 4 = _ from hR)
  | 5, _, _, hR => exact (show σ 5 = _ from hR)
  | 6, _, _, hR => obtain ⟨A6_x, c6_x, e, hp⟩ := hR; exact ⟨A6_x, c6_x, e, (hp.stsN (by omega) [c.st.rd, c.st.mo, .slice y.s.A y.s.n y.s.cap, c.st.fi, c.st.la, .slice y.h.A y.h.n y.h.cap, .slice y.j.A y.j.n y.j.cap, .slice y.b.A y.b.n y.b.cap, c.ck, .slice y.e.A y.e.n y.e.cap] 0)⟩
  | 7, _, _, hR => exact (show σ 7 = _ from hR)
  | 8, _, _, hR => exact (show σ 8 = _ from hR)
  | 9, _, _, hR => obtain ⟨A9_x, c9_x, e, hp⟩ := hR; exact ⟨A9_x, c9_x, e, (hp.stsN (by omega) [c.st.rd, c.st.mo, .slice y.s.A y.s.n y.s.cap, c.st.fi, c.st.la, .slice y.h.A y.h.n y.h.cap, .slice y.j.A y.j.n y.j.cap, .slice y.b.A y.b.n y.b.cap, c.ck, .slice y.e.A y.e.n y.e.cap] 0)⟩
  | 10, _, _, hR => exact (show σ 10 = _ from hR)
  | 11, _, _, hR => exact (show σ 11 = _ from hR)
  | 12, _, _, hR => obtain ⟨A12_x, c12_x, e, hp⟩ := hR; exact ⟨A12_x, c12_x, e, (hp.stsN (by omega) [c.st.rd, c.st.mo, .slice y.s.A y.s.n y.s.cap, c.st.fi, c.st.la, .slice y.h.A y.h.n y.h.cap, .slice y.j.A y.j.n y.j.cap, .slice y.b.A y.b.n y.b.cap, c.ck, .slice y.e.A y.e.n y.e.cap] 0)⟩
  | 13, _, _, hR => exact (show σ 13 = _ from hR)
  | 14, _, _, hR => exact (show σ 14 = _ from hR)
  | 15, _, _, hR => obtain ⟨g15_x, e, hp⟩ := hR; exact ⟨g15_x, e, (hp.stsN (by omega) [c.st.rd, c.st.mo, .slice y.s.A y.s.n y.s.cap, c.st.fi, c.st.la, .slice y.h.A y.h.n y.h.cap, .slice y.j.A y.j.n y.j.cap, .slice y.b.A y.b.n y.b.cap, c.ck, .slice y.e.A y.e.n y.e.cap] 0)⟩
  | 16, _, _, hR => exact (show σ 16 = _ from hR)
  | 17, _, _, hR => exact (show σ 17 = _ from hR)
  | 18, _, _, hR => obtain ⟨A18_x, c18_x, e, hp⟩ := hR; exact ⟨A18_x, c18_x, e, (hp.stsN (by omega) [c.st.rd, c.st.mo, .slice y.s.A y.s.n y.s.cap, c.st.fi, c.st.la, .slice y.h.A y.h.n y.h.cap, .slice y.j.A y.j.n y.j.cap, .slice y.b.A y.b.n y.b.cap, c.ck, .slice y.e.A y.e.n y.e.cap] 0)⟩
  | 19, _, _, hR => obtain ⟨y_x, l9_x, u9_x, l12_x, u12_x, e, hp⟩ := hR; exact ⟨y_x, l9_x, u9_x, l12_x, u12_x, e, (hp.stsN (by omega) [c.st.rd, c.st.mo, .slice y.s.A y.s.n y.s.cap, c.st.fi, c.st.la, .slice y.h.A y.h.n y.h.cap, .slice y.j.A y.j.n y.j.cap, .slice y.b.A y.b.n y.b.cap, c.ck, .slice y.e.A y.e.n y.e.cap] 0)⟩
  | 20, hj, _, _ => exact absurd rfl hj
  | _ + 21, _, _, _ => exact trivial
 ·
  intro ω σ L W' hall hC hR hx
  obtain ⟨hB, hs, hW, hhi, hM, ⟨_, _, _, _, _, _, _, _, _, _, hz⟩, hz_o⟩ := hC
  obtain ⟨y, l9, u9, l12, u12, s20, hp20⟩ : ∃ (y : CrL) (l9 u9 l12 u12 : Nat), BoxAt W' (N + 1) #[c.st.rd, c.st.mo, .slice y.s.A y.s.n y.s.cap, c.st.fi, c.st.la, .slice y.h.A y.h.n y.h.cap, .slice y.j.A y.j.n y.j.cap, .slice y.b.A y.b.n y.b.cap, c.ck, .slice y.e.A y.e.n y.e.cap] 68 ∧ CopyCr (N + 2) W' c y l9 u9 l12 u12 := hR 20 (by decide)
  clear hR
  simp only [lexAll]
  go_simp
  go_step
  have kz := s20.cell
  go_wp2
  refine bodyPost_ret (v := crV c y) (by simp [results, Tryz.results59, go_sem, kz, crV]) rfl ⟨y, l9, u9, l12, u12, rfl, ?_, ?_⟩
  · rw [← HN.out]; exact hp20.mono (by omega)
  · rw [← HN.out]; exact hB

end Go.Proofs.YtiiaimjlohpemaaGreat

/-
 A turn, as a plain function on plain data.
-/
namespace Go.Proofs.YtiiaimjlohpemaaGreat
set_option linter.unusedSimpArgs false
set_option linter.unusedVariables false
open Go.RowKit
set_option linter.unusedVariables false

def jobH (h : Hd) (z : Int) : Hd := if 0 < z then (toPut h z).1 else (toTake h).1
def goH (c : Cr) (i : Nat) : Hd := if (c.hs.getD i .zero).at_ = 0 then jobH (c.hs.getD i .zero) ((c.js.getD i []).getD 0 0) else c.hs.getD i .zero
def goC (c : Cr) (i : Nat) : Cr := if (c.hs.getD i .zero).at_ = 0 then { c with ck := c.ck + 1, js := c.js.set i ((c.js.getD i []).drop 1), bs := c.bs.set i (c.ck + 1) } else { c with ck := c.ck + 1 }
def evt (who : Int) (i : Nat) (h y : Hd) (c : Cr) : Ev := ⟨who, putB h.at_, bif putB h.at_ then h.v else y.v, y.re, c.bs.getD i 0, c.ck⟩
def endC (who : Int) (i : Nat) (h : Hd) (q : St × Hd × Bool) (c : Cr) : Cr := { c with st := q.1, hs := c.hs.set i q.2.1, es := if q.2.1.at_ = 0 then c.es ++ [evt who i h q.2.1 c] else c.es }
def newC (c : Cr) (who : Int) (i : Nat) : Cr := endC who i (goH c i) (stepped c.st (goH c i)) (goC c i)
def turnS (c : Cr) (who : Int) : Cr × Bool :=
 if !inB who 0 ((c.hs.length : Int) - 1) || c.ck == 2000 then (c, false)
 else if (c.hs.getD who.toNat .zero).at_ == 0 && (c.js.getD who.toNat []).length == 0 then (c, false)
 else if !(stepped c.st (goH c who.toNat)).2.2 then (c, false)
 else if crOk (newC c who who.toNat) then (newC c who who.toNat, true) else (c, false)

theorem turnS_ok {c : Cr} (h : crOk c = true) (who : Int) : crOk (turnS c who).1 = true := by
 unfold turnS
 split
 · exact h
 ·
  split
  · exact h
  ·
   split
   · exact h
   ·
    split
    · assumption
    · exact h

section
variable {c : Cr} {i : Nat} (h1 : (!inB (i : Int) 0 ((c.hs.length : Int) - 1) || c.ck == 2000) = false)
include h1
theorem turnS_no1 (h2 : ((c.hs.getD i .zero).at_ == 0 && (c.js.getD i []).length == 0) = true) : turnS c i = (c, false) := by
 unfold turnS; rw [h1, Int.toNat_natCast, h2]; rfl
theorem turnS_no2 (h2 : ((c.hs.getD i .zero).at_ == 0 && (c.js.getD i []).length == 0) = false) (h3 : (stepped c.st (goH c i)).2.2 = false) : turnS c i = (c, false) := by
 unfold turnS; rw [h1, Int.toNat_natCast, h2, h3]; rfl
theorem turnS_no3 (h2 : ((c.hs.getD i .zero).at_ == 0 && (c.js.getD i []).length == 0) = false) (h3 : (stepped c.st (goH c i)).2.2 = true) (h4 : crOk (newC c i i) = false) : turnS c i = (c, false) := by
 unfold turnS; rw [h1, Int.toNat_natCast, h2, h3, h4]; rfl
theorem turnS_yes (h2 : ((c.hs.getD i .zero).at_ == 0 && (c.js.getD i []).length == 0) = false) (h3 : (stepped c.st (goH c i)).2.2 = true) (h4 : crOk (newC c i i) = true) : turnS c i = (newC c i i, true) := by
 unfold turnS; rw [h1, Int.toNat_natCast, h2, h3, h4]; rfl
end

theorem goC_hs (c : Cr) (i : Nat) : (goC c i).hs = c.hs := by unfold goC; split <;> rfl
theorem goC_es (c : Cr) (i : Nat) : (goC c i).es = c.es := by unfold goC; split <;> rfl
theorem goC_ck (c : Cr) (i : Nat) : (goC c i).ck = c.ck + 1 := by unfold goC; split <;> rfl
theorem goC_bsl (c : Cr) (i : Nat) : (goC c i).bs.length = c.bs.length := by unfold goC; split <;> simp
theorem goC_jsl (c : Cr) (i : Nat) : (goC c i).js.length = c.js.length := by unfold goC; split <;> simp
theorem goC_jl {c : Cr} (h : CrNeat c) (i : Nat) : ∀ l ∈ (goC c i).js, l.length ≤ 4 := by
 intro l hl
 unfold goC at hl
 split at hl
 ·
  have hl' : l ∈ c.js.set i ((c.js.getD i []).drop 1) := hl
  rcases List.mem_or_eq_of_mem_set hl' with h1 | h1
  · exact h.l l h1
  ·
   rw [h1]
   by_cases hi : i < c.js.length
   ·
    have := h.l _ (List.getElem_mem hi)
    rw [List.getD_eq_getElem?_getD, List.getElem?_eq_getElem hi]
    simp
    omega
   ·
    rw [List.getD_eq_getElem?_getD, List.getElem?_eq_none (by omega)]
    simp
 · exact h.l l hl

/-- What came of a turn is no longer than what is reckoned with. -/
theorem newC_fit {c : Cr} (h : CrNeat c) (who : Int) (i : Nat) (hn : Neat (stepped c.st (goH c i)).1) : CrFit (newC c who i) := by
 have hf := h.fit
 refine ⟨?_, ?_, ?_, ?_, ?_, ?_, ?_⟩
 · have := hn.2.1; show (stepped c.st (goH c i)).1.rs.length ≤ _; omega
 · exact hn.len
 ·
  show ((goC c i).hs.set i _).length ≤ _
  rw [List.length_set, goC_hs]; exact hf.h
 ·
  show (goC c i).js.length ≤ _
  rw [goC_jsl]; exact hf.j
 ·
  intro l hl
  have := goC_jl h i l hl
  omega
 ·
  show (goC c i).bs.length ≤ _
  rw [goC_bsl]; exact hf.b
 ·
  show (if _ then (goC c i).es ++ [_] else (goC c i).es).length ≤ _
  have := h.e
  split
  · rw [List.length_append, goC_es]; simp; omega
  · rw [goC_es]; omega

/-- A copy that a turn works on: its lists, and where they lie. -/
structure OutCr (lo hi : Nat) (w : World) (c : Cr) (y : CrL) (l u l' u' : Nat) : Prop where
 s : RgsW lo hi w y.s.A y.s.n y.s.cap c.st.rs
 h : HdsW lo hi w y.h.A y.h.n y.h.cap c.hs
 j : ListsW l u w y.j.A y.j.n y.j.cap c.js
 b : IntsW l' u' w y.b.A y.b.n y.b.cap c.bs
 e : EvsW lo hi w y.e.A y.e.n y.e.cap c.es
 x : u ≤ l' ∨ u' ≤ l
 jl : lo ≤ l
 ju : u ≤ hi
 bl : lo ≤ l'
 bu : u' ≤ hi
theorem OutCr.keep {lo hi : Nat} {w w' : World} {c : Cr} {y : CrL} {l u l' u' : Nat} (h : OutCr lo hi w c y l u l' u') (hs : SameIn lo hi w w') : OutCr lo hi w' c y l u l' u' :=
 have h1 := h.jl; have h2 := h.ju; have h3 := h.bl; have h4 := h.bu
 ⟨h.s.keep hs, SlW.keep h.h hs, h.j.keep (fun j a b => hs j (by omega) (by omega)), SlW.keep h.b (fun j a b => hs j (by omega) (by omega)), SlW.keep h.e hs, h.x, h.jl, h.ju, h.bl, h.bu⟩
theorem CopyCr.out {N : Nat} {w : World} {c : Cr} {y : CrL} {l u l' u' : Nat} (h : CopyCr N w c y l u l' u') : OutCr N w.heap.size w c y l u l' u' := ⟨h.s, h.h, h.j.1, h.b.1, h.e, h.x, h.j.2.2, h.j.2.1, h.b.2.2, h.b.2.1⟩
theorem OutCr.crw {lo hi : Nat} {w : World} {c : Cr} {y : CrL} {l u l' u' : Nat} (h : OutCr lo hi w c y l u l' u') : CrW lo hi w c y := ⟨h.s, h.h, h.j.mono h.jl h.ju, SlW.mono h.b h.bl h.bu, h.e⟩

/-- Lists of which none lies in block g. -/
def ListsX (g lo hi : Nat) (w : World) (A : Option Addr) (n cap : Nat) (L : List (List Int)) : Prop :=
 ∃ rows : List Jw, SlW Jw.cs 1 42 lo hi w A n cap rows ∧ EachW lo hi w rows L ∧ ∀ (i : Nat) (a : Jw) (b : Addr), rows[i]? = some a → a.A = some b → b.block ≠ g
/-- A copy whose jobs are turned. -/
structure OutX (lo hi : Nat) (w : World) (c : Cr) (js : List (List Int)) (y : CrL) (g : Nat) : Prop where
 s : RgsW lo hi w y.s.A y.s.n y.s.cap c.st.rs
 h : HdsW lo hi w y.h.A y.h.n y.h.cap c.hs
 j : ListsX g lo w.heap.size w y.j.A y.j.n y.j.cap js
 b : Own ic 1 2 lo w g y.b.n y.b.cap c.bs
 ba : y.b.A = some ⟨g, 0, none⟩
 bg : g < hi
 e : EvsW lo hi w y.e.A y.e.n y.e.cap c.es
/-- A copy whose jobs and beginnings are turned. -/
structure OutF (lo hi : Nat) (w : World) (c : Cr) (js : List (List Int)) (bs : List Int) (y : CrL) : Prop where
 s : RgsW lo hi w y.s.A y.s.n y.s.cap c.st.rs
 h : HdsW lo hi w y.h.A y.h.n y.h.cap c.hs
 j : ListsW lo w.heap.size w y.j.A y.j.n y.j.cap js
 b : IntsW lo hi w y.b.A y.b.n y.b.cap bs
 e : EvsW lo hi w y.e.A y.e.n y.e.cap c.es

section
variable {lo hi : Nat} {w w' : World} {c : Cr} {js : List (List Int)} {bs : List Int} {y : CrL} {g l u l' u' : Nat}
theorem OutF.upd (h : OutF lo hi w c js bs y) (hs : SameIn lo hi w w') (k1 : KeepT 2 w w') (k2 : KeepT 42 w w') (hz : w.heap.size ≤ w'.heap.size) : OutF lo hi w' c js bs y :=
 ⟨h.s.keep hs, SlW.keep h.h hs, (h.j.keepT k1 k2).mono (Nat.le_refl _) hz, SlW.keep h.b hs, SlW.keep h.e hs⟩
theorem OutF.below (h : OutF lo hi w c js bs y) (hb : Below w.heap.size w w') (hh : hi ≤ w.heap.size) : OutF lo hi w' c js bs y := h.upd (.below hb hh) (.below hb) (.below hb) hb.size
theorem OutX.below (h : OutX lo hi w c js y g) (hb : Below w.heap.size w w') (hh : hi ≤ w.heap.size) : OutX lo hi w' c js y g := by
 obtain ⟨rows, r1, r2, r3⟩ := h.j
 exact ⟨h.s.below hb hh, SlW.below h.h hb hh, ⟨rows, SlW.mono (SlW.below r1 hb (Nat.le_refl _)) (Nat.le_refl _) hb.size, (r2.keep (.below hb (Nat.le_refl _))).mono (Nat.le_refl _) hb.size, r3⟩, Own.below h.b hb, h.ba, h.bg, SlW.below h.e hb hh⟩
theorem OutCr.f (h : OutCr lo hi w c y l u l' u') (hh : hi ≤ w.heap.size) : OutF lo hi w c c.js c.bs y := ⟨h.s, h.h, h.j.mono h.jl (Nat.le_trans h.ju hh), SlW.mono h.b h.bl h.bu, h.e⟩

theorem OutCr.setJob (h : OutCr lo hi w c y l u l' u') (hh : hi ≤ w.heap.size) {gJ i : Nat} (hg : y.b.A = some ⟨g, 0, none⟩) (hJ : y.j.A = some ⟨gJ, 0, none⟩) (hil : i < y.j.n) {a : Jw} {m : List Int} (ha : IntsW hi w.heap.size w a.A a.n a.cap m) :
  OutX lo hi (w.setCell ⟨gJ, i, none⟩ (.slice a.A a.n a.cap)) c (c.js.set i m) y g := by
 obtain ⟨rows, hr, he⟩ := h.j
 rcases hr.2 with ⟨h0, _⟩ | ⟨b, hb, hbu, ho⟩
 · rw [h0] at hJ; cases hJ
 rw [hb] at hJ
 injection hJ with hJ
 injection hJ with hJ
 subst hJ
 have hrl : rows.length = y.j.n := hr.1
 have hri : rows[i]? = some (rows[i]'(by omega)) := List.getElem?_eq_getElem (by omega)
 have ho2 := Own.set1 ho Jw.cs_len (j := 0) (u := .slice a.A a.n a.cap) (x' := a) hri (by omega) rfl
 rw [Nat.mul_one, Nat.add_zero] at ho2
 obtain ⟨_, _, _, _, cur, hbox, _⟩ := ho
 have hk : ∀ T, 42 ≠ T → KeepT T w (w.setCell ⟨b, i, none⟩ (.slice a.A a.n a.cap)) := fun T hT => KeepT.set hbox hT i _
 have hsz : (w.setCell ⟨b, i, none⟩ (.slice a.A a.n a.cap)).heap.size = w.heap.size := by simp
 have hbb : Own ic 1 2 l' w g y.b.n y.b.cap c.bs ∧ g < u' := by
  rcases h.b.2 with ⟨h0, _⟩ | ⟨b', hb', hbu', ho'⟩
  · rw [h0] at hg; cases hg
  ·
   rw [hb'] at hg
   injection hg with hg
   injection hg with hg
   subst hg
   exact ⟨ho', hbu'⟩
 have q1 := h.jl
 have q2 := h.ju
 have q3 := h.bl
 have q4 := h.bu
 have q5 : l' ≤ g := hbb.1.2.1
 have q6 := hbb.2
 have q7 := h.x
 refine ⟨h.s.keepT (hk _ (by decide)) (hk _ (by decide)), SlW.keepT h.h (hk _ (by decide)), ⟨rows.set i a, ?_, ?_, ?_⟩, Own.keepT (Own.mono hbb.1 h.bl) (hk _ (by decide)), hg, by omega, SlW.keepT h.e (hk _ (by decide))⟩
 · refine ⟨by simpa using hr.1, .inr ⟨b, hb, by rw [hsz]; omega, Own.mono ho2 h.jl⟩⟩
 ·
  refine ⟨by simp [he.1], fun k x m' hx hm => ?_⟩
  rw [hsz]
  by_cases hki : i = k
  ·
   subst hki
   rw [List.getElem?_set_self (by omega)] at hx
   rw [List.getElem?_set_self (by have := he.1; omega)] at hm
   injection hx with hx
   injection hm with hm
   subst hx hm
   exact SlW.mono (SlW.keepT ha (hk _ (by decide))) (by omega) (Nat.le_refl _)
  ·
   rw [List.getElem?_set_ne hki] at hx hm
   exact SlW.mono (SlW.keepT (he.2 k x m' hx hm) (hk _ (by decide))) (by omega) (by omega)
 ·
  intro k x ad hx hA
  by_cases hki : i = k
  ·
   subst hki
   rw [List.getElem?_set_self (by omega)] at hx
   injection hx with hx
   subst hx
   rcases ha.2 with ⟨h0, _⟩ | ⟨b', hb', _, ho'⟩
   · rw [h0] at hA; cases hA
   ·
    rw [hb'] at hA
    injection hA with hA
    subst hA
    have := ho'.2.1
    show b' ≠ g
    omega
  ·
   rw [List.getElem?_set_ne hki] at hx
   have hkl : k < c.js.length := by have := (List.getElem?_eq_some_iff.1 hx).1; have := he.1; omega
   rcases (he.2 k x _ hx (List.getElem?_eq_getElem hkl)).2 with ⟨h0, _⟩ | ⟨b', hb', hbu', ho'⟩
   · rw [h0] at hA; cases hA
   ·
    rw [hb'] at hA
    injection hA with hA
    subst hA
    have := ho'.2.1
    show b' ≠ g
    omega

theorem OutCr.jrow (h : OutCr lo hi w c y l u l' u') {gJ i : Nat} (hJ : y.j.A = some ⟨gJ, 0, none⟩) (hil : i < y.j.n) : (∃ v, w.cell? ⟨gJ, i, none⟩ = some v) ∧ (∀ o, w.frozen? ⟨gJ, o, none⟩ = false) ∧ ∃ cur, BoxAt w gJ cur 42 := by
 obtain ⟨rows, hr, he⟩ := h.j
 rcases hr.2 with ⟨h0, _⟩ | ⟨b, hb, hbu, ho⟩
 · rw [h0] at hJ; cases hJ
 rw [hb] at hJ
 injection hJ with hJ
 injection hJ with hJ
 subst hJ
 have hrl : rows.length = y.j.n := hr.1
 have hri : rows[i]? = some (rows[i]'(by omega)) := List.getElem?_eq_getElem (by omega)
 have hc := Own.cell_ Jw.cs_len ho (j := 0) hri rfl
 rw [Nat.mul_one, Nat.add_zero] at hc
 refine ⟨⟨_, hc⟩, Own.frozen_ ho, ?_⟩
 obtain ⟨_, _, _, _, cur, hbox, _⟩ := ho
 exact ⟨cur, hbox⟩
theorem OutCr.jpos (h : OutCr lo hi w c y l u l' u') {gJ : Nat} (hJ : y.j.A = some ⟨gJ, 0, none⟩) : lo ≤ gJ ∧ gJ < hi := by
 obtain ⟨rows, hr, he⟩ := h.j
 have := h.jl
 have := h.ju
 rcases hr.2 with ⟨h0, _⟩ | ⟨b, hb, hbu, ho⟩
 · rw [h0] at hJ; cases hJ
 rw [hb] at hJ
 injection hJ with hJ
 injection hJ with hJ
 have := ho.2.1
 omega

theorem OutX.setBeg (h : OutX lo hi w c js y g) {i : Nat} (hil : i < y.b.n) (v : Int) : OutF lo hi (w.setCell ⟨g, i, none⟩ (.int .i64 v)) c js (c.bs.set i v) y := by
 have hbl : c.bs.length = y.b.n := h.b.1
 have hbi : c.bs[i]? = some (c.bs[i]'(by omega)) := List.getElem?_eq_getElem (by omega)
 have hb2 := Own.set1 h.b ic_len (j := 0) (u := .int .i64 v) (x' := v) hbi (by omega) rfl
 rw [Nat.mul_one, Nat.add_zero] at hb2
 have hb0 := h.b
 obtain ⟨_, _, _, _, cur, hbox, _⟩ := hb0
 have hk : ∀ T, 2 ≠ T → KeepT T w (w.setCell ⟨g, i, none⟩ (.int .i64 v)) := fun T hT => KeepT.set hbox hT i _
 have hsz : (w.setCell ⟨g, i, none⟩ (.int .i64 v)).heap.size = w.heap.size := by simp
 obtain ⟨rows, r1, r2, r3⟩ := h.j
 refine ⟨h.s.keepT (hk _ (by decide)) (hk _ (by decide)), SlW.keepT h.h (hk _ (by decide)), ⟨rows, ?_, ?_⟩, ⟨by simpa using h.b.1, .inr ⟨g, h.ba, h.bg, hb2⟩⟩, SlW.keepT h.e (hk _ (by decide))⟩
 · rw [hsz]; exact SlW.keepT r1 (hk _ (by decide))
 ·
  rw [hsz]
  refine ⟨r2.1, fun k x m hx hm => ?_⟩
  have hx2 := r2.2 k x m hx hm
  refine ⟨hx2.1, ?_⟩
  rcases hx2.2 with h0 | ⟨b', hb', hbu', ho'⟩
  · exact .inl h0
  ·
   refine .inr ⟨b', hb', hbu', Own.keep ho' (Below.heap_setCell w ⟨g, i, none⟩ _ b' ?_)⟩
   exact r3 k x _ hx hb'

/-- The list without its first one, as it is cut. -/
theorem src_drop {ga n cap : Nat} {jl : List Int} {A : Option Addr} (h : IntsW lo hi w (some ⟨ga, 0, none⟩) n cap jl) (hn : 1 ≤ n) (hA : (cap = 1 ∧ A = some ⟨ga, 0, none⟩) ∨ A = some ⟨ga, 1, none⟩) : SrcW ic w A (n - 1) (cap - 1) (jl.drop 1) := by
 have hs := SlW.src h ic_len
 have hnc : n ≤ cap := by
  rcases h.2 with ⟨h0, _⟩ | ⟨b', hb', _, ho'⟩
  · cases h0
  · exact ho'.2.2.1
 have hl : jl.length = n := h.1
 refine ⟨by simp [hl], fun h0 => ?_, fun ad had j u hu => ?_⟩
 · rcases hA with ⟨_, hA⟩ | hA <;> rw [hA] at h0 <;> cases h0
 ·
  rcases hA with ⟨hc, hA⟩ | hA
  ·
   have : jl.drop 1 = [] := by
    apply List.eq_nil_of_length_eq_zero
    simp [hl]; omega
   rw [this] at hu
   simp at hu
  ·
   rw [hA] at had
   injection had with had
   subst had
   have := hs.2.2 _ rfl (j + 1) u (by
    rw [← hu]
    cases jl with
    | nil => simp at hl; omega
    | cons z jl => simp [ic])
   have e1 : (⟨ga, 0, none⟩ : Addr).add (j + 1) = ⟨ga, j + 1, none⟩ := by simp [Addr.add]
   have e2 : (⟨ga, 1, none⟩ : Addr).add j = ⟨ga, j + 1, none⟩ := by
    by_cases hj : j = 0
    · subst hj; simp [Addr.add]
    · simp [Addr.add, hj]; omega
   rw [e1] at this
   rw [e2]
   exact this
end

theorem Own.box {α : Type} {f : α → List Value} {k : Nat} {e : TypeId} {N : Nat} {w : World} {g n cap : Nat} {l : List α} (h : Own f k e N w g n cap l) : ∃ cur, BoxAt w g cur e := by
 obtain ⟨_, _, _, _, cur, hb, _⟩ := h
 exact ⟨cur, hb⟩
theorem BoxAt.keepT {w w' : World} {k : Nat} {cs : Array Value} {T : TypeId} (h : BoxAt w k cs T) (hk : KeepT T w w') : BoxAt w' k cs T := by
 have := hk k cs h
 unfold BoxAt at *
 rw [this]; exact h
theorem stepped_ok {s : St} {h : Hd} (hb : (stepped s h).2.2 = true) : stOk (stepped s h).1 = true := by
 have key : ∀ (f : St → Hd → St × Hd × Bool) (b : Int → Bool), (stepS f b s h).2.2 = true → stOk (stepS f b s h).1 = true := by
  intro f b hk
  unfold stepS at hk ⊢
  split at hk
  · cases hk
  ·
   split at hk
   · cases hk
   ·
    split at hk
    · cases hk
    ·
     rename_i h1 h2 h3
     rw [if_neg h1, if_neg h2, if_neg h3]
     simp only [Bool.or_eq_true, Bool.not_eq_true', not_or, Bool.not_eq_false] at h3
     exact h3.2
 unfold stepped at hb ⊢
 split
 · rename_i hp; rw [if_pos hp] at hb; exact key _ _ hb
 · rename_i hp; rw [if_neg hp] at hb; exact key _ _ hb

theorem l5PuttingB (z : Int) (w : World) : Calls Tryz.prog 74 #[z] w (RetBelow (.bool (putB z)) w) := by
 refine (l5Putting_any z w).mono ?_
 rintro e w' ⟨rfl, rfl⟩
 exact ⟨rfl, Below.refl _ _⟩

/-- A crew's lists but for its events. -/
structure CrP (lo : Nat) (w : World) (c : Cr) (y : CrL) : Prop where
 s : RgsW lo w.heap.size w y.s.A y.s.n y.s.cap c.st.rs
 h : HdsW lo w.heap.size w y.h.A y.h.n y.h.cap c.hs
 j : ListsW lo w.heap.size w y.j.A y.j.n y.j.cap c.js
 b : IntsW lo w.heap.size w y.b.A y.b.n y.b.cap c.bs
section
variable {lo : Nat} {w w' : World} {c : Cr} {y : CrL}
theorem CrP.keepT (h : CrP lo w c y) (k1 : KeepT 104 w w') (k2 : KeepT 120 w w') (k3 : KeepT 106 w w') (k4 : KeepT 2 w w') (k5 : KeepT 42 w w') (hz : w.heap.size ≤ w'.heap.size) : CrP lo w' c y :=
 ⟨(h.s.keepT k1 k2).mono (Nat.le_refl _) hz, SlW.mono (SlW.keepT h.h k3) (Nat.le_refl _) hz, (h.j.keepT k4 k5).mono (Nat.le_refl _) hz, SlW.mono (SlW.keepT h.b k4) (Nat.le_refl _) hz⟩
theorem CrP.belowS (h : CrP lo w c y) (hb : Below w.heap.size w w') : CrP lo w' c y := h.keepT (.below hb) (.below hb) (.below hb) (.below hb) (.below hb) hb.size
theorem CrP.drew (h : CrP lo w c y) : CrP lo w.drew c y := ⟨h.s, h.h, h.j, h.b⟩
theorem CrP.setsE (h : CrP lo w c y) {b : Nat} {cs : Array Value} (hk : BoxAt w b cs 32) (us : List Value) (o : Nat) : CrP lo (setCells w b o us) c y :=
 h.keepT (.sets hk (by decide) us o) (.sets hk (by decide) us o) (.sets hk (by decide) us o) (.sets hk (by decide) us o) (.sets hk (by decide) us o) (Nat.le_of_eq (sets_size us o w).symm)
theorem CrP.setsC (h : CrP lo w c y) {b : Nat} {cs : Array Value} (hk : BoxAt w b cs 68) (us : List Value) (o : Nat) : CrP lo (setCells w b o us) c y :=
 h.keepT (.sets hk (by decide) us o) (.sets hk (by decide) us o) (.sets hk (by decide) us o) (.sets hk (by decide) us o) (.sets hk (by decide) us o) (Nat.le_of_eq (sets_size us o w).symm)
theorem CrP.crw (h : CrP lo w c y) (he : EvsW lo w.heap.size w y.e.A y.e.n y.e.cap c.es) : CrW lo w.heap.size w c y := ⟨h.s, h.h, h.j, h.b, he⟩
end

end Go.Proofs.YtiiaimjlohpemaaGreat


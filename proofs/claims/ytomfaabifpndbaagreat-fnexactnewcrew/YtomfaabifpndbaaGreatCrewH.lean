/-
  Facts on memory, behind several cells written one behind the other.
-/
import Derived.Test.YtomfaabifpndbaaGreatPrimL
import Derived.Test.YtomfaabifpndbaaGreatGrow2
import Derived.Test.YtomfaabifpndbaaGreatCrewC
import Derived.Test.YtomfaabifpndbaaGreatStoreD
import Derived.Test.YtomfaabifpndbaaGreatHanI
import Derived.Test.YtomfaabifpndbaaGreatStoreN
namespace Go.Proofs.YtomfaabifpndbaaGreat
set_option linter.unusedSimpArgs false
set_option linter.unusedVariables false
open Go.RowKit

theorem RgsW.sts {lo hi : Nat} {w : World} {A : Option Addr} {n cap : Nat} {L : List Rg} (h : RgsW lo hi w A n cap L) {k : Nat} (hk : k < lo ∨ hi ≤ k) (us : List Value) (o : Nat) : RgsW lo hi (setCells w k o us) A n cap L :=
  h.keep fun j h1 h2 => sets_block (by omega) us o w
end Go.Proofs.YtomfaabifpndbaaGreat

/-
  As Grow2, with a span of blocks for each operation (those that it made): no two spans meet.
-/
namespace Go.Proofs.YtomfaabifpndbaaGreat
set_option linter.unusedSimpArgs false
set_option linter.unusedVariables false
open Go.RowKit

/-- What is asked of operation k where it only makes memory. -/
def Grows3 (P : Program) (ops : List Oper) (le : World → World → Prop) (C : (Nat → Bool) → World → Prop) (R : Nat → (Nat → Nat × Nat) → (Nat → Value) → World → Prop) (k : Nat) (o : Oper) (fr : (Nat → Value) → Act) : Prop :=
  ∀ (L : Nat → Bool) (ω : Nat → Nat × Nat) (σ : Nat → Value) (w : World), Closed ops L → L k = false → C L w → (∀ j, waits ops k j = true → R j ω σ w) → (∀ i j, waits ops k i = true → waits ops k j = true → i ≠ j → (ω i).2 ≤ (ω j).1 ∨ (ω j).2 ≤ (ω i).1) → OpGoes P ops.toArray o (fr σ) w fun v w' => C (upd L k true) w' ∧ R k (upd ω k (w.heap.size, w'.heap.size)) (upd σ k v) w' ∧ le w w'

/-- What is asked of operation k where it makes a variable. -/
def Makes3 (P : Program) (ops : List Oper) (le : World → World → Prop) (C : (Nat → Bool) → World → Prop) (R : Nat → (Nat → Nat × Nat) → (Nat → Value) → World → Prop) (k : Nat) (o : Oper) (fr : (Nat → Value) → Act) : Prop :=
  ∀ (L : Nat → Bool) (ω : Nat → Nat × Nat) (σ : Nat → Value) (w : World), Closed ops L → L k = false → C L w → (∀ j, waits ops k j = true → R j ω σ w) → (∀ i j, waits ops k i = true → waits ops k j = true → i ≠ j → (ω i).2 ≤ (ω j).1 ∨ (ω j).2 ≤ (ω i).1) → OpGoes P ops.toArray o (fr σ) w fun v w' => C (upd L k true) w' ∧ R k (upd ω k (w.heap.size, w'.heap.size)) (upd σ k v) w' ∧ le w w' ∧ v = .pointer (some ⟨w.heap.size, 0, none⟩) ∧ w.heap.size < w'.heap.size

/-- What is asked of operation k where it stores. -/
def Stores3 (P : Program) (ops : List Oper) (C : (Nat → Bool) → World → Prop) (R : Nat → (Nat → Nat × Nat) → (Nat → Value) → World → Prop) (kd : Nat → Nat) (k : Nat) (o : Oper) (fr : (Nat → Value) → Act) : Prop :=
  ∀ (L : Nat → Bool) (ω : Nat → Nat × Nat) (σ : Nat → Value) (w : World), Closed ops L → L k = false → C L w → (∀ j, waits ops k j = true → R j ω σ w) → (∀ i j, waits ops k i = true → waits ops k j = true → i ≠ j → (ω i).2 ≤ (ω j).1 ∨ (ω j).2 ≤ (ω i).1) → (∀ i j, kd i = 2 → kd j = 2 → i ≠ j → waits ops k i = true → waits ops k j = true → σ i ≠ σ j) → OpGoes P ops.toArray o (fr σ) w fun v w' => C (upd L k true) w' ∧ R k (upd ω k (w.heap.size, w'.heap.size)) (upd σ k v) w' ∧ w.heap.size ≤ w'.heap.size ∧ ∀ j, j ≠ k → waits ops j k = false → R j ω σ w → R j ω σ w'

/-- What is asked of the operations from number k on, a frame for each choice of the values ahead of them. -/
def AllOps3 (P : Program) (ops : List Oper) (le : World → World → Prop) (C : (Nat → Bool) → World → Prop) (R : Nat → (Nat → Nat × Nat) → (Nat → Value) → World → Prop) (kd : Nat → Nat) : Nat → List Oper → ((Nat → Value) → Act) → Prop
  | _, [], _ => True
  | k, o :: r, fr => (kd k = 0 ∧ Grows3 P ops le C R k o fr ∨ kd k = 1 ∧ Stores3 P ops C R kd k o fr ∨ kd k = 2 ∧ Makes3 P ops le C R k o fr) ∧ AllOps3 P ops le C R kd (k + 1) r fun σ => (fr σ).put o.dst (σ k)

section
variable {P : Program} {l : List Oper} {supp : Nat → List Nat}

theorem AllOps3.nil {le : World → World → Prop} {C : (Nat → Bool) → World → Prop} {R : Nat → (Nat → Nat × Nat) → (Nat → Value) → World → Prop} {kd : Nat → Nat} {k : Nat} {fr : (Nat → Value) → Act} : AllOps3 P l le C R kd k [] fr := trivial
theorem AllOps3.grow {le : World → World → Prop} {C : (Nat → Bool) → World → Prop} {R : Nat → (Nat → Nat × Nat) → (Nat → Value) → World → Prop} {kd : Nat → Nat} {k : Nat} {fr : (Nat → Value) → Act} {o : Oper} {r : List Oper} (hs : kd k = 0) (h : Grows3 P l le C R k o fr)
    (hr : AllOps3 P l le C R kd (k + 1) r fun σ => (fr σ).put o.dst (σ k)) : AllOps3 P l le C R kd k (o :: r) fr := ⟨.inl ⟨hs, h⟩, hr⟩
theorem AllOps3.store {le : World → World → Prop} {C : (Nat → Bool) → World → Prop} {R : Nat → (Nat → Nat × Nat) → (Nat → Value) → World → Prop} {kd : Nat → Nat} {k : Nat} {fr : (Nat → Value) → Act} {o : Oper} {r : List Oper} (hs : kd k = 1) (h : Stores3 P l C R kd k o fr)
    (hr : AllOps3 P l le C R kd (k + 1) r fun σ => (fr σ).put o.dst (σ k)) : AllOps3 P l le C R kd k (o :: r) fr := ⟨.inr (.inl ⟨hs, h⟩), hr⟩
theorem AllOps3.make {le : World → World → Prop} {C : (Nat → Bool) → World → Prop} {R : Nat → (Nat → Nat × Nat) → (Nat → Value) → World → Prop} {kd : Nat → Nat} {k : Nat} {fr : (Nat → Value) → Act} {o : Oper} {r : List Oper} (hs : kd k = 2) (h : Makes3 P l le C R k o fr)
    (hr : AllOps3 P l le C R kd (k + 1) r fun σ => (fr σ).put o.dst (σ k)) : AllOps3 P l le C R kd k (o :: r) fr := ⟨.inr (.inr ⟨hs, h⟩), hr⟩

/-- What the region's invariant gets of operation k. -/
def Goes3 (ops : List Oper) (le : World → World → Prop) (C : (Nat → Bool) → World → Prop) (R : Nat → (Nat → Nat × Nat) → (Nat → Value) → World → Prop) (kd : Nat → Nat) (k : Nat) (L : Nat → Bool) (ω : Nat → Nat × Nat) (σ : Nat → Value) (w : World) (v : Value) (w' : World) : Prop :=
  C (upd L k true) w' ∧ R k (upd ω k (w.heap.size, w'.heap.size)) (upd σ k v) w' ∧ w.heap.size ≤ w'.heap.size ∧ (kd k = 2 → v = .pointer (some ⟨w.heap.size, 0, none⟩) ∧ w.heap.size < w'.heap.size) ∧
    (le w w' ∨ ∀ i, i ≠ k → waits ops i k = false → R i ω σ w → R i ω σ w')

theorem AllOps3.get {le : World → World → Prop} (hle : ∀ w w', le w w' → w.heap.size ≤ w'.heap.size) {C : (Nat → Bool) → World → Prop} {R : Nat → (Nat → Nat × Nat) → (Nat → Value) → World → Prop} {kd : Nat → Nat} {a : Act} : ∀ {r : List Oper} {k : Nat}, (∀ j, r[j]? = l[k + j]?) → AllOps3 P l le C R kd k r (fun σ => fill l σ (fun _ => true) a k) →
    ∀ {j : Nat} {o : Oper}, r[j]? = some o → ∀ (L : Nat → Bool) (ω : Nat → Nat × Nat) (σ : Nat → Value) (w : World), Closed l L → L (k + j) = false → C L w → (∀ i, waits l (k + j) i = true → R i ω σ w) → (∀ i i', waits l (k + j) i = true → waits l (k + j) i' = true → i ≠ i' → (ω i).2 ≤ (ω i').1 ∨ (ω i').2 ≤ (ω i).1) → (∀ i i', kd i = 2 → kd i' = 2 → i ≠ i' → waits l (k + j) i = true → waits l (k + j) i' = true → σ i ≠ σ i') →
      OpGoes P l.toArray o (fill l σ (fun _ => true) a (k + j)) w (Goes3 l le C R kd (k + j) L ω σ w)
  | [], _, _, _, _, _, h => by simp at h
  | o :: r, k, hl, h, j, oj, hj => by
    cases j with
    | zero =>
      simp at hj
      subst hj
      intro L ω σ w hcl hL hC hw hx hne
      rcases h.1 with ⟨hk, h1⟩ | ⟨hk, h1⟩ | ⟨hk, h1⟩
      · exact (h1 L ω σ w hcl hL hC hw hx).mono fun _ _ ⟨x, y, z⟩ => ⟨x, y, hle _ _ z, (fun h => by simp [hk] at h), .inl z⟩
      · exact (h1 L ω σ w hcl hL hC hw hx hne).mono fun _ _ ⟨x, y, y', z⟩ => ⟨x, y, y', (fun h => by simp [hk] at h), .inr z⟩
      · exact (h1 L ω σ w hcl hL hC hw hx).mono fun _ _ ⟨x, y, z, z'⟩ => ⟨x, y, hle _ _ z, (fun _ => z'), .inl z⟩
    | succ j =>
      have hk : l[k]? = some o := by simpa using (hl 0).symm
      have h2 := h.2
      have e : (fun σ => (fill l σ (fun _ => true) a k).put o.dst (σ k)) = fun σ => fill l σ (fun _ => true) a (k + 1) := by
        funext σ
        simp [fill, dstAt, hk]
      rw [e] at h2
      have := AllOps3.get hle (r := r) (k := k + 1) (fun j => by have := hl (j + 1); simpa [Nat.add_assoc, Nat.add_comm 1 j] using this) h2 (j := j) (o := oj) (by simpa using hj)
      rwa [Nat.add_assoc, Nat.add_comm 1 j] at this

theorem wp_region3 {id : Nat} {Q : Exit → Act → World → Prop} {a : Act} {w : World} (le : World → World → Prop) (hle : ∀ w w', le w w' → w.heap.size ≤ w'.heap.size) (C : (Nat → Bool) → World → Prop) (R : Nat → (Nat → Nat × Nat) → (Nat → Value) → World → Prop) (kd : Nat → Nat) (supp : Nat → List Nat)
    (hm : P.follows .mixedOrders = true) (hB : growB l supp = true)
    (hsupp : ∀ j (ω ω' : Nat → Nat × Nat) (σ τ : Nat → Value) w, (∀ k ∈ supp j, σ k = τ k) → ω j = ω' j → R j ω σ w → R j ω' τ w)
    (hgrow : ∀ j ω σ w w', le w w' → R j ω σ w → R j ω σ w')
    (h0 : C (fun _ => false) w.drew) (hops : AllOps3 P l le C R kd 0 l fun _ => a)
    (hend : ∀ (ω : Nat → Nat × Nat) σ L w', (∀ j, j < l.length → L j = true) → C L w' → (∀ j, j < l.length → R j ω σ w') → (∀ i j, i < l.length → j < l.length → i ≠ j → (ω i).2 ≤ (ω j).1 ∨ (ω j).2 ≤ (ω i).1) → Q .normal (lexAll l 0 a σ) w') : (Code.region id l.toArray true).wp P Q a w := by
  have hlex : ∀ σ, lexAll l 0 a σ = fill l σ (fun _ => true) a l.length := fun σ => by
    have := lexAll_eq (l := l) (a := a) (σ := σ) (r := l) (k := 0) (fun j => by simp)
    simpa [fill] using this
  simp only [hlex] at hend
  refine wp_region_any hm ?_
  have key : ∀ (fuel : Nat) (listed : Array Bool) (ω : Nat → Nat × Nat) (σ : Nat → Value) (w : World), listed.size = l.length → listed.toList.countP (· == false) ≤ fuel → C (fun j => listed.getD j false) w →
      (∀ j, listed.getD j false = true → ∀ i, waits l j i = true → listed.getD i false = true) → (∀ j, listed.getD j false = true → R j ω σ w) → (∀ j, listed.getD j false = true → (ω j).2 ≤ w.heap.size) → (∀ i j, listed.getD i false = true → listed.getD j false = true → i ≠ j → (ω i).2 ≤ (ω j).1 ∨ (ω j).2 ≤ (ω i).1) → (∀ j, kd j = 2 → listed.getD j false = true → ∃ g, σ j = .pointer (some ⟨g, 0, none⟩) ∧ g < w.heap.size) →
      (∀ i j, kd i = 2 → kd j = 2 → i ≠ j → listed.getD i false = true → listed.getD j false = true → σ i ≠ σ j) →
      wpAny P .any l.toArray Q fuel listed (fill l σ (fun j => listed.getD j false) a l.length) w := by
    intro fuel
    induction fuel with
    | zero =>
      intro listed ω σ w hsz hcnt hC hcl hR hW hX hA hD
      have hall : ∀ j, j < l.length → listed.getD j false = true := fun j hj => by
        have h0 : listed.toList.countP (· == false) = 0 := by omega
        have := List.countP_eq_zero.1 h0 listed[j] (by simp)
        simp [show j < listed.size by omega] at this ⊢
        exact this
      refine ⟨?_, ?_⟩
      · rw [List.eq_nil_iff_forall_not_mem]
        intro j hj
        obtain ⟨hj1, o, ho, _⟩ := mem_ready.1 hj
        have hlt : j < l.length := by have := (Array.getElem?_eq_some_iff.1 ho).1; simpa using this
        have := hall j hlt
        simp [show j < listed.size by omega] at this hj1
        rw [this] at hj1
        cases hj1
      · rw [fill_all hall]
        exact hend ω σ _ w hall hC (fun j hj => hR j (hall j hj)) fun i j hi hj hij => hX i j (hall i hi) (hall j hj) hij
    | succ fuel ih =>
      intro listed ω σ w hsz hcnt hC hcl hR hW hX hA hD
      refine ⟨fun hr => ?_, fun i hi => ?_⟩
      · have hall : ∀ m j, j < m → j < l.length → listed.getD j false = true := by
          intro m
          induction m with
          | zero => intro j hj; omega
          | succ m ihm =>
            intro j hj hjl
            cases hf : listed.getD j false with
            | true => rfl
            | false =>
              exfalso
              have hjs : j < listed.size := by omega
              have : j ∈ Region.ready .any l.toArray listed := mem_ready.2 ⟨by simp [hjs] at hf ⊢; exact hf, l[j], by simp [hjl], fun e he hb => by
                have := (growB_at hB (i := j) (o := l[j]) (by simp [hjl])).2.2.1 e he hb
                exact ihm e.on (by omega) (by omega)⟩
              rw [hr] at this
              cases this
        rw [fill_all fun j hj => hall (j + 1) j (by omega) hj]
        exact hend ω σ _ w (fun j hj => hall (j + 1) j (by omega) hj) hC (fun j hj => hR j (hall (j + 1) j (by omega) hj)) fun i j hi hj hij => hX i j (hall (i + 1) i (by omega) hi) (hall (j + 1) j (by omega) hj) hij
      · obtain ⟨hi1, o, ho, hdeps⟩ := mem_ready.1 hi
        have hol : l[i]? = some o := by simpa using ho
        have hil : i < l.length := (List.getElem?_eq_some_iff.1 hol).1
        have his : i < listed.size := by omega
        have hLi : listed.getD i false = false := by simp [his] at hi1 ⊢; exact hi1
        obtain ⟨g1, g2, g3, g4, g5⟩ := growB_at hB hol
        have hw : ∀ j, waits l i j = true → listed.getD j false = true := fun j hj => by
          obtain ⟨e, he, hb, rfl⟩ := waits_of hol hj
          exact hdeps e he hb
        have hsame : ∀ d ∈ o.looksAt l.toArray, (fill l σ (fun j => listed.getD j false) a l.length).tmps[d]? = (fill l σ (fun _ => true) a i).tmps[d]? := fun d hd => by
          by_cases hex : ∃ j, dstAt l j = some d
          · obtain ⟨j, hj⟩ := hex
            obtain ⟨j1, j2⟩ := g1 d hd j hj
            have hun : ∀ k, k ≠ j → dstAt l k ≠ some d := fun k hk hkd => by
              have hjl : j < l.length := by omega
              exact (growB_at hB (i := j) (o := l[j]) (by simp [hjl])).2.1 k hk d hj hkd
            rw [fill_one hj (hw j j2) hun (by omega), fill_one hj rfl hun j1]
          · rw [fill_none fun j _ _ h => hex ⟨j, h⟩, fill_none fun j _ _ h => hex ⟨j, h⟩]
        obtain ⟨e1, e2⟩ := execOp_same g4 hsame
        have hgo := AllOps3.get hle (k := 0) (fun j => by simp) hops hol (fun j => listed.getD j false) ω σ w (fun j hj k hk => hcl j hj k hk) (by simpa using hLi) hC (by simpa using fun j hj => hR j (hw j hj)) (by simpa using fun i j h1 h2 h3 => hX i j (hw i h1) (hw j h2) h3) (by simpa using fun i j h1 h2 h3 h4 h5 => hD i j h1 h2 h3 (hw i h4) (hw j h5))
        simp only [Nat.zero_add] at hgo
        have next : ∀ v w', Goes3 l le C R kd i (fun j => listed.getD j false) ω σ w v w' →
            wpAny P .any l.toArray Q fuel (listed.setIfInBounds i true) ((fill l σ (fun j => listed.getD j false) a l.length).put o.dst v) w' := fun v w' ⟨c1, c2, c4, c5, c3⟩ => by
          have hd : dstAt l i = o.dst := by simp [dstAt, hol]
          have hf := fill_upd (l := l) (σ := σ) (L := fun j => listed.getD j false) (a := a) (v := v) hLi g2 (n := l.length)
          simp only [hil, decide_true, cond_true, hd] at hf
          rw [← hf, ← listed_upd his]
          have hgd : ∀ j, (listed.setIfInBounds i true).getD j false = upd (fun j => listed.getD j false) i true j := fun j => congrFun (listed_upd his) j
          refine ih _ (upd ω i (w.heap.size, w'.heap.size)) _ _ (by simp [hsz]) ?_ (by rw [listed_upd his]; exact c1) ?_ ?_ ?_ ?_ ?_ ?_
          · have : listed.toList.countP (· == false) = (listed.setIfInBounds i true).toList.countP (· == false) + 1 := by
              rw [Array.toList_setIfInBounds, List.countP_set (by simpa using his)]
              have hb : listed[i] = false := by simpa [his] using hLi
              have hpos : 0 < listed.toList.countP (· == false) := List.countP_pos_iff.2 ⟨listed[i], by simp, by simp [hb]⟩
              have hb' : (listed.toList[i]'(by simpa using his) == false) = true := by simp [hb]
              rw [if_pos hb', if_neg (by simp)]
              omega
            omega
          · intro j hj k hk
            rw [hgd] at hj ⊢
            by_cases hki : k = i
            · subst hki; rw [upd_same]
            · rw [upd_ne _ _ hki]
              by_cases hji : j = i
              · subst hji; exact hw k hk
              · rw [upd_ne _ _ hji] at hj
                exact hcl j hj k hk
          · intro j hj
            rw [hgd] at hj
            by_cases hji : j = i
            · subst hji; exact c2
            · rw [upd_ne _ _ hji] at hj
              have hRj : R j ω σ w' := by
                rcases c3 with c3 | c3
                · exact hgrow j ω σ w w' c3 (hR j hj)
                · refine c3 j hji ?_ (hR j hj)
                  cases hwt : waits l j i with
                  | false => rfl
                  | true =>
                    have := hcl j hj i hwt
                    rw [hLi] at this
                    cases this
              refine hsupp j ω _ σ _ w' (fun k hk => ?_) (by rw [upd_ne _ _ hji]) hRj
              have hjl : j < l.length := by
                rcases Nat.lt_or_ge j l.length with h | h
                · exact h
                · simp [Array.getElem?_eq_none (show listed.size ≤ j by omega)] at hj
              have hki : k ≠ i := fun e => by
                subst e
                rcases (growB_at hB (i := j) (o := l[j]) (by simp [hjl])).2.2.2.2 k hk with h | h
                · exact hji h.symm
                · have := hcl j hj k h
                  rw [hLi] at this
                  cases this
              rw [upd_ne _ _ hki]
          · intro j hj
            rw [hgd] at hj
            by_cases hji : j = i
            · subst hji; rw [upd_same]; exact Nat.le_refl _
            · rw [upd_ne _ _ hji] at hj ⊢
              exact Nat.le_trans (hW j hj) c4
          · intro x y lx ly hxy
            rw [hgd] at lx ly
            by_cases hxi : x = i
            · subst hxi
              have hyx : y ≠ x := fun e => hxy e.symm
              rw [upd_ne _ _ hyx] at ly
              rw [upd_same, upd_ne _ _ hyx]
              exact .inr (hW y ly)
            · rw [upd_ne _ _ hxi] at lx
              by_cases hyi : y = i
              · subst hyi
                rw [upd_same, upd_ne _ _ hxi]
                exact .inl (hW x lx)
              · rw [upd_ne _ _ hyi] at ly
                rw [upd_ne _ _ hxi, upd_ne _ _ hyi]
                exact hX x y lx ly hxy
          · intro j hk hj
            rw [hgd] at hj
            by_cases hji : j = i
            · subst hji
              obtain ⟨e, hlt⟩ := c5 hk
              rw [upd_same]
              exact ⟨_, e, hlt⟩
            · rw [upd_ne _ _ hji] at hj ⊢
              obtain ⟨g, e, hlt⟩ := hA j hk hj
              exact ⟨g, e, by omega⟩
          · intro x y hx hy hxy lx ly
            rw [hgd] at lx ly
            by_cases hxi : x = i
            · subst hxi
              have hyx : y ≠ x := fun e => hxy e.symm
              rw [upd_ne _ _ hyx] at ly
              obtain ⟨e, _⟩ := c5 hx
              obtain ⟨g, e', hlt⟩ := hA y hy ly
              rw [upd_same, upd_ne _ _ hyx, e, e']
              intro h
              injection h with h
              injection h with h
              injection h with h
              omega
            · rw [upd_ne _ _ hxi] at lx
              by_cases hyi : y = i
              · subst hyi
                obtain ⟨e, _⟩ := c5 hy
                obtain ⟨g, e', hlt⟩ := hA x hx lx
                rw [upd_same, upd_ne _ _ hxi, e, e']
                intro h
                injection h with h
                injection h with h
                injection h with h
                omega
              · rw [upd_ne _ _ hyi] at ly
                rw [upd_ne _ _ hxi, upd_ne _ _ hyi]
                exact hD x y hx hy hxy lx ly
        unfold wpOp
        simp only [ho]
        split
        · rename_i hwant
          refine .inl ?_
          unfold Oper.wp
          have h1 := hgo.1 (by rw [← e2]; exact hwant)
          rw [← e1] at h1
          generalize (execOp (fill l σ (fun j => listed.getD j false) a l.length).eval o).run P w = r at h1
          cases r with
          | ok n w' =>
            cases n <;> simp only [OpUpon] at h1 <;> simp only [Oper.upon]
            case value v => exact next v w' h1
            case skip => exact next undef w' h1
            case enter f args => exact h1.mono fun e w'' ⟨v, he, hk⟩ => by subst he; exact next v w'' hk
          | halt x w' => simp only [OpUpon] at h1
        · rename_i hwant
          exact next undef w (hgo.2 (by rw [← e2]; simpa using hwant))
  have hnone : (fun j => (Array.replicate l.toArray.size false).getD j false) = fun _ => false := by
    funext j
    rcases Nat.lt_or_ge j l.length with h | h
    · simp [h]
    · simp [h]
  have := key l.toArray.size (Array.replicate l.toArray.size false) (fun _ => (0, 0)) (fun _ => undef) w.drew (by simp) (Nat.le_trans List.countP_le_length (by simp)) (by rw [hnone]; exact h0) (fun j hj => by
    rcases Nat.lt_or_ge j l.length with h | h
    · simp [h] at hj
    · simp [h] at hj) (fun j hj => by
    rcases Nat.lt_or_ge j l.length with h | h
    · simp [h] at hj
    · simp [h] at hj) (fun j hj => by
    rcases Nat.lt_or_ge j l.length with h | h
    · simp [h] at hj
    · simp [h] at hj) (fun _ j _ hj => by
    rcases Nat.lt_or_ge j l.length with h | h
    · simp [h] at hj
    · simp [h] at hj) (fun j _ hj => by
    rcases Nat.lt_or_ge j l.length with h | h
    · simp [h] at hj
    · simp [h] at hj) (fun j _ _ _ _ hj => by
    rcases Nat.lt_or_ge j l.length with h | h
    · simp [h] at hj
    · simp [h] at hj)
  have e : fill l (fun _ => undef) (fun j => (Array.replicate l.toArray.size false).getD j false) a l.length = a := by
    have : (fun j => (Array.replicate l.toArray.size false).getD j false) = fun _ => false := by
      funext j
      rcases Nat.lt_or_ge j l.length with h | h
      · simp [h]
      · simp [h]
    rw [this]
    generalize l.length = n
    induction n with
    | zero => rfl
    | succ n ih => simpa [fill] using ih
  rw [e] at this
  exact this
end

end Go.Proofs.YtomfaabifpndbaaGreat

/-
  The walk of the copy of a crew, of the model.
-/
namespace Go.Proofs.YtomfaabifpndbaaGreat
set_option linter.unusedSimpArgs false
set_option linter.unusedVariables false
open Go.RowKit
set_option linter.unusedVariables false
attribute [local go_sem] OpUpon
attribute [local go_sem ↓] Go.wp_at_zero Go.wp_at_succ

/-! ### An append onto an empty row: nothing old is written -/

section
variable {P : Program}
theorem run_append_zero (w : World) (base : Nat) (t ty e : TypeId) (i : TypeInfo) (z : Value) (size bytes : Nat) (ht : P.underlying t = some (.slice e)) (hi : P.info? e = some i) (hz : i.zero = some z)
    (hsize : i.size = size) (hby : i.bytes = bytes) (hzs : z.cells.size = size) (hsz : 0 < size) (g : Nat) (hg : BoxAt w g #[] e) (hbg : base ≤ g)
    (A : Option Addr) (m c : Nat) (news : List Value) (hA : A = none → m = 0 ∧ c = 0) (hl : news.length = m * size) (hnews : ∀ ad, A = some ad → ∀ j u, news[j]? = some u → w.cell? (ad.add j) = some u) (h1 : ∀ u ∈ news, u.oneCell' = true)
    (h63 : m ≤ maxLen) (hbytes : m * bytes ≤ 140737488355328) (hbase : base ≤ w.heap.size) :
    ∃ A' cap' w', (Builtin.append_ #[t, t] ty #[.slice (some ⟨g, 0, none⟩) 0 0, .slice A m c]).run P w = .ok (.slice A' m cap') w' ∧ w'.ownsRow base e size (.slice A' m cap') m news ∧ Below w.heap.size w w' := by
  have hown : w.ownsRow base e size (.slice (some ⟨g, 0, none⟩) 0 0) 0 [] := ⟨by simp, .inr ⟨g, 0, #[], rfl, hbg, hg, Nat.le_refl _, Nat.zero_le _, by simp, by simp⟩⟩
  rcases Nat.eq_zero_or_pos m with h0 | h0
  · subst h0
    have hn : news = [] := List.eq_nil_of_length_eq_zero (by simpa using hl)
    subst hn
    refine ⟨some ⟨g, 0, none⟩, 0, w, ?_, hown, Below.refl _ _⟩
    cases A with
    | none =>
      obtain ⟨_, rfl⟩ := hA rfl
      exact run_append_owned_none (P := P) w base t ty e i size ht hi _ 0 [] hown
    | some ad =>
      simp [Builtin.append_, run_underlying ht, sizeOf, typeInfo, hi, Builtin.lenOf, Builtin.firstCells, loadCells, loadCellsFrom, storeCells]
  · cases A with
    | none => obtain ⟨h2, _⟩ := hA rfl; omega
    | some ad =>
      subst hsize
      subst hby
      have hr := run_append_grow (P := P) w t ty e i z ht hi hz ⟨g, 0, none⟩ 0 0 [] (by simp) (fun j u hu => by simp at hu) ad m c news hl (hnews ad rfl) (by omega) (by simp only [maxLen] at h63; omega) (growslice_fits (by omega) (by simpa using hbytes))
      have hge := grownCap_ge w (0 + m) 0 e
      have hcm : grownCap w (0 + m) 0 e ≤ maxLen := grownCap_le_maxLen w (0 + m) 0 e (by simpa using h63)
      simp only [Nat.zero_add] at hr hge hcm
      refine ⟨_, _, _, hr, ⟨hl, .inr ⟨w.heap.size, _, _, rfl, hbase, heap_alloc_new w.drew _, hge, hcm, ?_, ?_⟩⟩, ?_⟩
      · simp only [Array.size_append, List.size_toArray, size_zeroCells, hzs, List.length_nil, hl, Nat.zero_add, ← Nat.add_mul]
        congr 1
        omega
      · simp only [Array.toList_append, List.append_assoc]
        rw [← hl]
        simp
      · exact (Below.refl _ _).drew.alloc (Nat.le_refl _) _

theorem OpGoes.append_zero {ops : Array Oper} {o : Oper} {a : Act} {w : World} {K : Value → World → Prop} (hgd : o.guard = none) (s x : Operand) (t : TypeId)
    (ho : o.op = .call { callee := .builtin .append, args := #[s, x], argTypes := #[t, t] })
    (base : Nat) (e : TypeId) (i : TypeInfo) (z : Value) (size bytes : Nat) (ht : P.underlying t = some (.slice e)) (hi : P.info? e = some i) (hz : i.zero = some z)
    (hsize : i.size = size) (hby : i.bytes = bytes) (hzs : z.cells.size = size) (hsz : 0 < size) (g : Nat) (hs : a.eval s = .slice (some ⟨g, 0, none⟩) 0 0) (hg : BoxAt w g #[] e) (hbg : base ≤ g)
    (A : Option Addr) (m c : Nat) (news : List Value) (hx : a.eval x = .slice A m c) (hA : A = none → m = 0 ∧ c = 0) (hl : news.length = m * size) (hnews : ∀ ad, A = some ad → ∀ j u, news[j]? = some u → w.cell? (ad.add j) = some u) (h1 : ∀ u ∈ news, u.oneCell' = true)
    (h63 : m ≤ maxLen) (hbytes : m * bytes ≤ 140737488355328) (hbase : base ≤ w.heap.size)
    (h : ∀ A' cap' w', w'.ownsRow base e size (.slice A' m cap') m news → Below w.heap.size w w' → K (.slice A' m cap') w') : OpGoes P ops o a w K := by
  obtain ⟨A', cap', w', hr, h2, h3⟩ := run_append_zero (P := P) w base t o.type e i z size bytes ht hi hz hsize hby hzs hsz g hg hbg A m c news hA hl hnews h1 h63 hbytes hbase
  refine ⟨fun _ => ?_, fun hw => ?_⟩
  · unfold execOp
    simp only [ho, resolve, invoke, builtin, Sem.run_bind, Sem.run_pure, Result.andThen_ok, List.map_toArray, List.map_cons, List.map_nil, hs, hx, hr]
    exact h A' cap' w' h2 h3
  · simp [Region.wanted, hgd] at hw
end

theorem SlW.of_own' {α : Type} {f : α → List Value} {k : Nat} {e : TypeId} {lo : Nat} {w : World} {A : Option Addr} {n cap : Nat} {l : List α} (h : w.ownsRow lo e k (.slice A n cap) n (l.flatMap f)) (hl : l.length = n) : SlW f k e lo w.heap.size w A n cap l := by
  obtain ⟨A', cap', e1, h1⟩ := SlW.of_own h hl
  injection e1 with e1 _ e2
  subst e1 e2
  exact h1
theorem Hd.cs_one {l : List Hd} : ∀ u ∈ l.flatMap Hd.cs, u.oneCell' = true := by
  intro u hu
  obtain ⟨p, _, hp⟩ := List.mem_flatMap.1 hu
  simp [Hd.cs] at hp
  rcases hp with rfl | rfl | rfl | rfl | rfl | rfl | rfl | rfl | rfl | rfl | rfl | rfl <;> rfl
theorem Ev.cs_one {l : List Ev} : ∀ u ∈ l.flatMap Ev.cs, u.oneCell' = true := by
  intro u hu
  obtain ⟨p, _, hp⟩ := List.mem_flatMap.1 hu
  simp [Ev.cs] at hp
  rcases hp with rfl | rfl | rfl | rfl | rfl | rfl <;> rfl
theorem hand_info : (Tryz.prog.info? 58).map (fun i => (i.zero, i.size, i.bytes)) = some (some (.agg #[.int .i64 0, .int .i64 0, .int .i64 0, .int .i64 0, .bool false, .int .i64 0, .bool false, .int .i64 0, .int .i64 0, .int .i64 0, .bool false, .int .i64 0]), 12, 96) := by kernel_rfl

/-! ### The parts of a copy, all from block N on -/

def EmptyAt (N : Nat) (w : World) (g : Nat) (T : TypeId) : Prop := BoxAt w g #[] T ∧ N ≤ g
def RgsN (N : Nat) (w : World) (A : Option Addr) (n cap : Nat) (L : List Rg) : Prop := RgsW N w.heap.size w A n cap L
def HdsN (N : Nat) (w : World) (A : Option Addr) (n cap : Nat) (L : List Hd) : Prop := HdsW N w.heap.size w A n cap L
def EvsN (N : Nat) (w : World) (A : Option Addr) (n cap : Nat) (L : List Ev) : Prop := EvsW N w.heap.size w A n cap L
def SpL (N : Nat) (w : World) (l u : Nat) (A : Option Addr) (n cap : Nat) (L : List (List Int)) : Prop := ListsW l u w A n cap L ∧ u ≤ w.heap.size ∧ N ≤ l
def SpI (N : Nat) (w : World) (l u : Nat) (A : Option Addr) (n cap : Nat) (L : List Int) : Prop := IntsW l u w A n cap L ∧ u ≤ w.heap.size ∧ N ≤ l
/-- A copy of a crew: the numbers' list lies apart from the lists'. -/
structure CopyCr (N : Nat) (w : World) (c : Cr) (y : CrL) (l u l' u' : Nat) : Prop where
  s : RgsN N w y.s.A y.s.n y.s.cap c.st.rs
  h : HdsN N w y.h.A y.h.n y.h.cap c.hs
  j : SpL N w l u y.j.A y.j.n y.j.cap c.js
  b : SpI N w l' u' y.b.A y.b.n y.b.cap c.bs
  e : EvsN N w y.e.A y.e.n y.e.cap c.es
  x : u ≤ l' ∨ u' ≤ l

section
variable {N M : Nat} {w w' : World} {A : Option Addr} {n cap l u l' u' : Nat}
theorem EmptyAt.belowN {g : Nat} {T : TypeId} (h : EmptyAt N w g T) (hb : Below w.heap.size w w') : EmptyAt N w' g T := ⟨h.1.below hb h.1.lt, h.2⟩
theorem EmptyAt.stsN {g : Nat} {T : TypeId} (h : EmptyAt N w g T) {b : Nat} (hb : b < N) (us : List Value) (o : Nat) : EmptyAt N (setCells w b o us) g T := ⟨BoxAt.sets_ne us o h.1 (by have := h.2; omega), h.2⟩
theorem RgsN.belowN {L : List Rg} (h : RgsN N w A n cap L) (hb : Below w.heap.size w w') : RgsN N w' A n cap L := RgsW.mono (RgsW.below h hb (Nat.le_refl _)) (Nat.le_refl _) hb.size
theorem RgsN.stsN {L : List Rg} (h : RgsN N w A n cap L) {b : Nat} (hb : b < N) (us : List Value) (o : Nat) : RgsN N (setCells w b o us) A n cap L := RgsW.mono (RgsW.sts h (.inl hb) us o) (Nat.le_refl _) (Nat.le_of_eq (sets_size _ _ _).symm)
theorem HdsN.belowN {L : List Hd} (h : HdsN N w A n cap L) (hb : Below w.heap.size w w') : HdsN N w' A n cap L := SlW.mono (SlW.below h hb (Nat.le_refl _)) (Nat.le_refl _) hb.size
theorem HdsN.stsN {L : List Hd} (h : HdsN N w A n cap L) {b : Nat} (hb : b < N) (us : List Value) (o : Nat) : HdsN N (setCells w b o us) A n cap L := SlW.mono (SlW.sts h (.inl hb) us o) (Nat.le_refl _) (Nat.le_of_eq (sets_size _ _ _).symm)
theorem EvsN.belowN {L : List Ev} (h : EvsN N w A n cap L) (hb : Below w.heap.size w w') : EvsN N w' A n cap L := SlW.mono (SlW.below h hb (Nat.le_refl _)) (Nat.le_refl _) hb.size
theorem EvsN.stsN {L : List Ev} (h : EvsN N w A n cap L) {b : Nat} (hb : b < N) (us : List Value) (o : Nat) : EvsN N (setCells w b o us) A n cap L := SlW.mono (SlW.sts h (.inl hb) us o) (Nat.le_refl _) (Nat.le_of_eq (sets_size _ _ _).symm)
theorem SpL.belowN {L : List (List Int)} (h : SpL N w l u A n cap L) (hb : Below w.heap.size w w') : SpL N w' l u A n cap L := ⟨h.1.below hb h.2.1, Nat.le_trans h.2.1 hb.size, h.2.2⟩
theorem SpL.stsN {L : List (List Int)} (h : SpL N w l u A n cap L) {b : Nat} (hb : b < N) (us : List Value) (o : Nat) : SpL N (setCells w b o us) l u A n cap L := ⟨h.1.keep fun j h1 h2 => sets_block (by have := h.2.2; omega) us o w, by rw [sets_size]; exact h.2.1, h.2.2⟩
theorem SpI.belowN {L : List Int} (h : SpI N w l u A n cap L) (hb : Below w.heap.size w w') : SpI N w' l u A n cap L := ⟨SlW.below h.1 hb h.2.1, Nat.le_trans h.2.1 hb.size, h.2.2⟩
theorem SpI.stsN {L : List Int} (h : SpI N w l u A n cap L) {b : Nat} (hb : b < N) (us : List Value) (o : Nat) : SpI N (setCells w b o us) l u A n cap L := ⟨SlW.keep h.1 fun j h1 h2 => sets_block (by have := h.2.2; omega) us o w, by rw [sets_size]; exact h.2.1, h.2.2⟩
theorem CopyCr.belowN {c : Cr} {y : CrL} (h : CopyCr N w c y l u l' u') (hb : Below w.heap.size w w') : CopyCr N w' c y l u l' u' := ⟨h.s.belowN hb, h.h.belowN hb, h.j.belowN hb, h.b.belowN hb, h.e.belowN hb, h.x⟩
theorem CopyCr.stsN {c : Cr} {y : CrL} (h : CopyCr N w c y l u l' u') {b : Nat} (hb : b < N) (us : List Value) (o : Nat) : CopyCr N (setCells w b o us) c y l u l' u' := ⟨h.s.stsN hb us o, h.h.stsN hb us o, h.j.stsN hb us o, h.b.stsN hb us o, h.e.stsN hb us o, h.x⟩
theorem CopyCr.mono {c : Cr} {y : CrL} (h : CopyCr N w c y l u l' u') (hM : M ≤ N) : CopyCr M w c y l u l' u' := ⟨RgsW.mono h.s hM (Nat.le_refl _), SlW.mono h.h hM (Nat.le_refl _), ⟨h.j.1, h.j.2.1, Nat.le_trans hM h.j.2.2⟩, ⟨h.b.1, h.b.2.1, Nat.le_trans hM h.b.2.2⟩, SlW.mono h.e hM (Nat.le_refl _), h.x⟩
theorem CopyCr.crw {c : Cr} {y : CrL} (h : CopyCr N w c y l u l' u') : CrW N w.heap.size w c y := ⟨h.s, h.h, h.j.1.mono h.j.2.2 h.j.2.1, SlW.mono h.b.1 h.b.2.2 h.b.2.1, h.e⟩
end

theorem l10ListsN (L : List (List Int)) (A : Option Addr) (n cap lo hi : Nat) (w : World) (h : ListsW lo hi w A n cap L) (hh : hi ≤ w.heap.size) (hm : n ≤ 1048576) (hml : ∀ l ∈ L, l.length ≤ 1048576) :
    Calls Tryz.prog 23 #[.slice A n cap] w (fun e w' => ∃ A' c, e = .returned (.slice A' n c) ∧ ListsW w.heap.size w'.heap.size w' A' n c L ∧ Below w.heap.size w w') := by
  have hl := h.len
  refine (l10Lists_any L A n cap lo hi w h hh hm hml).mono ?_
  rintro e w' ⟨A', c, rfl, h1, hb⟩
  rw [hl] at h1 ⊢
  exact ⟨A', c, rfl, h1, hb⟩
/-- What a right crew is. -/
structure CrNeat (c : Cr) : Prop where
  s : stOk c.st = true
  h : 1 ≤ c.hs.length ∧ c.hs.length ≤ 4
  j : c.js.length = c.hs.length
  b : c.bs.length = c.hs.length
  e : c.es.length ≤ 16
  l : ∀ l ∈ c.js, l.length ≤ 4
  k : 0 ≤ c.ck ∧ c.ck ≤ 2000
theorem crOk_neat {c : Cr} (h : crOk c = true) : CrNeat c := by
  simp only [crOk, crHead, Bool.and_eq_true, beq_iff_eq, List.all_eq_true, List.mem_range] at h
  obtain ⟨⟨⟨⟨⟨⟨h1, h2⟩, h3⟩, h4⟩, h5⟩, h6⟩, h7⟩ := h
  simp only [inB, Bool.and_eq_true, decide_eq_true_eq] at h2 h5
  simp only [storyOk, Bool.and_eq_true, decide_eq_true_eq] at h6
  refine ⟨h1, by omega, h3, h4, h6.2, fun l hl => ?_, h5⟩
  obtain ⟨i, hi⟩ := List.mem_iff_getElem?.1 hl
  have hil : i < c.hs.length := by have := (List.getElem?_eq_some_iff.1 hi).1; omega
  have := h7 i hil
  simp only [crAt, Bool.and_eq_true, jobsOk, decide_eq_true_eq] at this
  have h8 := this.1.2.2
  rwa [getD_some hi] at h8
theorem CrNeat.fit {c : Cr} (h : CrNeat c) : CrFit c :=
  ⟨by have := (stOk_neat h.s).2.1; omega, (stOk_neat h.s).len, by have := h.h; omega, by have := h.h; have := h.j; omega, fun l hl => by have := h.l l hl; omega, by have := h.h; have := h.b; omega, by have := h.e; omega⟩

/-- A copy of a crew is returned. -/
def RetCopyCr (c : Cr) (w : World) (e : Ending) (w' : World) : Prop := ∃ y l u l' u', e = .returned (crV c y) ∧ CopyCr w.heap.size w' c y l u l' u' ∧ Below w.heap.size w w'

end Go.Proofs.YtomfaabifpndbaaGreat

/-
  The walk of a new crew, of the model.
-/
namespace Go.Proofs.YtomfaabifpndbaaGreat
set_option linter.unusedSimpArgs false
set_option linter.unusedVariables false
open Go.RowKit
set_option linter.unusedVariables false
attribute [local go_sem] OpUpon
attribute [local go_sem ↓] Go.wp_at_zero Go.wp_at_succ

theorem box_neM {w : World} {g k : Nat} {cs ds : Array Value} {t u : TypeId} (h : BoxAt w g cs t) (h' : BoxAt w k ds u) (ht : t ≠ u) : g ≠ k := by
  rintro rfl
  unfold BoxAt at h h'
  rw [h] at h'
  injection h' with h'
  injection h' with _ h'
  exact ht h'
theorem own_ne {α : Type} {f : α → List Value} {k : Nat} {e t : TypeId} {N : Nat} {w : World} {g n cap b : Nat} {cs : Array Value} {l : List α} (h : Own f k e N w g n cap l) (hb : BoxAt w b cs t) (ht : t ≠ e) : g ≠ b := by
  obtain ⟨_, _, _, _, cur, hg, _⟩ := h
  exact box_neM hg hb (Ne.symm ht)
theorem RgsW.setsT {lo hi : Nat} {w : World} {A : Option Addr} {n cap : Nat} {L : List Rg} (h : RgsW lo hi w A n cap L) {k : Nat} {cs : Array Value} {t : TypeId} (hk : BoxAt w k cs t) (h1 : t ≠ 81) (h2 : t ≠ 56) (us : List Value) (o : Nat) : RgsW lo hi (setCells w k o us) A n cap L :=
  ⟨h.1, fun hn => by
    obtain ⟨b, rows, e, hb, ho, hi⟩ := h.2 hn
    refine ⟨b, rows, e, hb, Own.sets_ne ho (own_ne ho hk h1) us o, fun i a ha => ?_⟩
    obtain ⟨r, hr, x1, x2, x3, x4, hp⟩ := hi i a ha
    refine ⟨r, hr, x1, x2, x3, x4, hp.1, fun hn => ?_⟩
    obtain ⟨b2, e2, hb2, ho2⟩ := hp.2 hn
    exact ⟨b2, e2, hb2, Own.sets_ne ho2 (own_ne ho2 hk h2) us o⟩⟩

theorem BoxAt.keepT {w w' : World} {k : Nat} {cs : Array Value} {T : TypeId} (h : BoxAt w k cs T) (hk : KeepT T w w') : BoxAt w' k cs T := by
  have := hk k cs h
  unfold BoxAt at *
  rw [this]; exact h

def newC0 (rd mo : Int) (js : List (List Int)) : Cr := ⟨(newStore rd mo).1, List.replicate js.length resting, js, List.replicate js.length 0, 0, []⟩
def newCrew (rd mo : Int) (js : List (List Int)) : Cr × Bool := if !(newStore rd mo).2 || !crOk (newC0 rd mo js) then (.zero, false) else (newC0 rd mo js, true)

def LstN (lo : Nat) (w : World) (A : Option Addr) (n cap : Nat) (L : List (List Int)) : Prop := ListsW lo w.heap.size w A n cap L
def IntN (lo : Nat) (w : World) (A : Option Addr) (n cap : Nat) (L : List Int) : Prop := IntsW lo w.heap.size w A n cap L
theorem newStore_neat (rd mo : Int) : Neat (newStore rd mo).1 ∨ (newStore rd mo).1 = .zero := by
  unfold newStore
  split
  · rename_i h
    left
    simp only [Bool.and_eq_true, roundB, decide_eq_true_eq] at h
    refine ⟨by simp, by simp, fun r hr => ?_⟩
    simp at hr
    subst hr
    have : (Rg.fresh rd.toNat).ps.length = rd.toNat := by simp [Rg.fresh, fresh]
    omega
  · exact .inr rfl

section
variable {lo : Nat} {w w' : World} {A : Option Addr} {n cap : Nat} {L : List (List Int)} {m : List Int}
theorem LstN.keepT (h : LstN lo w A n cap L) (k1 : KeepT 2 w w') (k2 : KeepT 28 w w') (hz : w.heap.size ≤ w'.heap.size) : LstN lo w' A n cap L := (ListsW.keepT h k1 k2).mono (Nat.le_refl _) hz
theorem IntN.keepT (h : IntN lo w A n cap m) (k1 : KeepT 2 w w') (hz : w.heap.size ≤ w'.heap.size) : IntN lo w' A n cap m := SlW.mono (SlW.keepT h k1) (Nat.le_refl _) hz
theorem LstN.belowN (h : LstN lo w A n cap L) (hb : Below w.heap.size w w') : LstN lo w' A n cap L := h.keepT (.below hb) (.below hb) hb.size
theorem IntN.belowN (h : IntN lo w A n cap m) (hb : Below w.heap.size w w') : IntN lo w' A n cap m := h.keepT (.below hb) hb.size
theorem LstN.setsC (h : LstN lo w A n cap L) {b : Nat} {cs : Array Value} (hk : BoxAt w b cs 31) (us : List Value) (o : Nat) : LstN lo (setCells w b o us) A n cap L := h.keepT (.sets hk (by decide) us o) (.sets hk (by decide) us o) (Nat.le_of_eq (sets_size us o w).symm)
theorem IntN.setsC (h : IntN lo w A n cap m) {b : Nat} {cs : Array Value} (hk : BoxAt w b cs 31) (us : List Value) (o : Nat) : IntN lo (setCells w b o us) A n cap m := h.keepT (.sets hk (by decide) us o) (Nat.le_of_eq (sets_size us o w).symm)
def TwoN (lo : Nat) (w : World) (A : Option Addr) (n cap : Nat) (L : List (List Int)) (g : Nat) : Prop := LstN lo w A n cap L ∧ IntN lo w (some ⟨g, 0, none⟩) n n (List.replicate n 0)
theorem TwoN.belowN {g : Nat} (h : TwoN lo w A n cap L g) (hb : Below w.heap.size w w') : TwoN lo w' A n cap L g := ⟨h.1.belowN hb, h.2.belowN hb⟩
theorem TwoN.setsC {g : Nat} (h : TwoN lo w A n cap L g) {b : Nat} {cs : Array Value} (hk : BoxAt w b cs 31) (us : List Value) (o : Nat) : TwoN lo (setCells w b o us) A n cap L g := ⟨h.1.setsC hk us o, h.2.setsC hk us o⟩
end

def ncAV (q : St × Bool) (A A1 : Option Addr) (n cap n1 c1 S1 M : Nat) (js : List (List Int)) : List Sl := [.v (.agg #[.int .i64 q.1.rd, .int .i64 q.1.mo, .slice A1 n1 c1, .int .i64 q.1.fi, .int .i64 q.1.la]),
  .v (.slice A n cap),
  .e fun σ w => ∃ (A2 : Option Addr) (c2 : Nat), σ 2 = .slice A2 n c2 ∧ LstN M w A2 n c2 js,
  .v (.slice A n cap),
  .v (.int .i64 ((n : Int))),
  .e fun σ w => ∃ (g5 : Nat), σ 5 = .slice (some ⟨g5, 0, none⟩) n n ∧ IntN M w (some ⟨g5, 0, none⟩) n n (List.replicate n 0),
  .e fun σ w => ∃ (A2 : Option Addr) (c2 g5 : Nat), σ 6 = .agg #[.int .i64 q.1.rd, .int .i64 q.1.mo, .slice A1 n1 c1, .int .i64 q.1.fi, .int .i64 q.1.la, .slice none 0 0, .slice A2 n c2, .slice (some ⟨g5, 0, none⟩) n n, .int .i64 0, .slice none 0 0] ∧ TwoN M w A2 n c2 js g5,
  .e fun σ w => ∃ g7, σ 7 = .pointer (some ⟨g7, 0, none⟩) ∧ M ≤ g7 ∧ ∃ x0 x1 x2 x3 x4 x5 x6 x7 x8 x9, BoxAt w g7 #[x0, x1, x2, x3, x4, x5, x6, x7, x8, x9] 31,
  .e fun σ w => ∃ (g7 : Nat) (A2 : Option Addr) (c2 g5 : Nat), σ 7 = .pointer (some ⟨g7, 0, none⟩) ∧ M ≤ g7 ∧ BoxAt w g7 #[.int .i64 q.1.rd, .int .i64 q.1.mo, .slice A1 n1 c1, .int .i64 q.1.fi, .int .i64 q.1.la, .slice none 0 0, .slice A2 n c2, .slice (some ⟨g5, 0, none⟩) n n, .int .i64 0, .slice none 0 0] 31 ∧ TwoN M w A2 n c2 js g5]

def ncBV (q : St × Bool) (A1 A2 B : Option Addr) (n n1 c1 c2 g5 i c C7 M : Nat) : List Sl := [.v (.pointer (some ⟨C7, 5, none⟩)),
  .v (.slice B i c),
  .v (.agg #[.int .i64 resting.at_, .int .i64 resting.v, .int .i64 resting.r, .int .i64 resting.t, .bool resting.seen.s, .int .i64 resting.seen.n, .bool resting.seen.f, .int .i64 resting.seen.v, .int .i64 resting.tr, .int .i64 resting.sp, .bool resting.ag, .int .i64 resting.re]),
  .e fun σ w => ∃ (g3 : Nat), σ 3 = .slice (some ⟨g3, 0, none⟩) 1 1 ∧ BoxAt w g3 #[.int .i64 resting.at_, .int .i64 resting.v, .int .i64 resting.r, .int .i64 resting.t, .bool resting.seen.s, .int .i64 resting.seen.n, .bool resting.seen.f, .int .i64 resting.seen.v, .int .i64 resting.tr, .int .i64 resting.sp, .bool resting.ag, .int .i64 resting.re] 58 ∧ M ≤ g3,
  .e fun σ w => ∃ (B2 : Option Addr) (cc : Nat), σ 4 = .slice B2 (i + 1) cc ∧ w.ownsRow (C7 + 1) 58 12 (.slice B2 (i + 1) cc) (i + 1) ((List.replicate (i + 1) resting).flatMap Hd.cs),
  .v (.pointer (some ⟨C7, 5, none⟩)),
  .e fun σ w => ∃ (B2 : Option Addr) (cc : Nat), BoxAt w C7 #[.int .i64 q.1.rd, .int .i64 q.1.mo, .slice A1 n1 c1, .int .i64 q.1.fi, .int .i64 q.1.la, .slice B2 (i + 1) cc, .slice A2 n c2, .slice (some ⟨g5, 0, none⟩) n n, .int .i64 0, .slice none 0 0] 31 ∧ w.ownsRow (C7 + 1) 58 12 (.slice B2 (i + 1) cc) (i + 1) ((List.replicate (i + 1) resting).flatMap Hd.cs)]

set_option maxRecDepth 100000 in
set_option maxHeartbeats 4000000 in
theorem snewCrew_any (rd mo : Int) (js : List (List Int)) (A : Option Addr) (n cap lo hi : Nat) (w : World) (hl : ListsW lo hi w A n cap js) (hh : hi ≤ w.heap.size) (hn : n ≤ 1048576) (hml : ∀ l ∈ js, l.length ≤ 1048576) :
    Calls Tryz.prog 6 #[.int .i64 rd, .int .i64 mo, .slice A n cap] w (RetCrB (newCrew rd mo js) w) := by
  obtain ⟨iH, hi0, hz0, hz1, hz2⟩ := info_parts hand_info
  have HI := Lib.hid hi0
  have HZ0 := Lib.hid hz0
  have HZ1 := Lib.hid hz1
  have HZ2 := Lib.hid hz2
  clear hi0 hz0 hz1 hz2
  obtain ⟨i0, hi0, hz0, hz1, hz2⟩ := info_parts int_info
  have hmk : ∀ W : World, (Instr.makeSlice 28 (.int .i64 (n : Int)) (.int .i64 (n : Int))).run Tryz.prog W = .ok (.slice (some ⟨W.heap.size, 0, none⟩) n n) (W.alloc (.cells (madeCells #[.int .i64 0] n) 2)) := by
    intro W
    have := run_make (P := Tryz.prog) W 28 2 i0 _ Tryz.underlying28 hi0 hz0 .i64 .i64 n n (by omega) (by omega) (by rw [hz2]; omega) (by omega)
    rw [hz1] at this
    simpa [Value.cells] using this
  clear hi0 hz0 hz1 hz2
  have HML := Lib.hid hml; clear hml
  have HLL := Lib.hid hl.len
  go_enter Tryz.func6, Tryz.ntmps6
  go_wp2_with fail
  refine calls_abs (fun W => Below w.heap.size w W ∧ BoxAt W w.heap.size #[.int .i64 0, .int .i64 0, .slice none 0 0, .int .i64 0, .int .i64 0, .slice none 0 0, .slice none 0 0, .slice none 0 0, .int .i64 0, .slice none 0 0] 31) ⟨(Below.refl _ _).alloc (Nat.le_refl _) _, BoxAt.new _ _ _⟩ ?_
  rintro W0 ⟨hB, hz⟩
  refine (snewStore_any rd mo _).mono ?_
  rintro e w1 ⟨A1, n1, c1, rfl, hG, hb1⟩
  have hs0 := hB.size
  have hs1 := hb1.size
  have lz0 := hz.lt
  replace hz := hz.below hb1 hz.lt
  replace hB := bstep hB hB.size hb1
  clear hb1
  generalize hqe : newStore rd mo = q at *
  have HQ := Lib.hid hqe; clear hqe
  unfold stV
  go_upto_region 2 with fail
  refine wp_abs (fun W => Below w.heap.size w W ∧ BoxAt W w.heap.size #[.int .i64 0, .int .i64 0, .slice none 0 0, .int .i64 0, .int .i64 0, .slice none 0 0, .slice none 0 0, .slice none 0 0, .int .i64 0, .slice none 0 0] 31 ∧ BoxAt W w1.heap.size #[.int .i64 q.1.rd, .int .i64 q.1.mo, .slice A1 n1 c1, .int .i64 q.1.fi, .int .i64 q.1.la] 26 ∧ RgsW w.heap.size w1.heap.size W A1 n1 c1 q.1.rs) ⟨hB.alloc hB.size _, hz.alloc _, BoxAt.new _ _ _, (hG.mono hs0 (Nat.le_refl _)).al (Nat.le_refl _) _⟩ ?_
  clear hB hz hG
  rintro W1 ⟨hB, hz, hs, hG⟩
  generalize w1.heap.size = S1 at *
  have lS := hs.lt
  replace hl := hl.below hB hh
  have hhi : hi ≤ W1.heap.size := Nat.le_trans hh hB.size
  obtain ⟨M, hMe⟩ : ∃ M, M = W1.heap.size := ⟨_, rfl⟩
  have hM : M ≤ W1.heap.size := by omega
  have hSM : S1 ≤ M := by omega
  have hSM2 : S1 < M := by omega
  have hNM : w.heap.size < M := by omega
  clear hMe
  refine wp_region2v (fun w w' => Below w.heap.size w w') (fun _ _ h => h.size) (fun _ => Below.refl _ _) (fun L W' => Below w.heap.size w W' ∧ BoxAt W' w.heap.size #[.int .i64 0, .int .i64 0, .slice none 0 0, .int .i64 0, .int .i64 0, .slice none 0 0, .slice none 0 0, .slice none 0 0, .int .i64 0, .slice none 0 0] 31 ∧ BoxAt W' S1 #[.int .i64 q.1.rd, .int .i64 q.1.mo, .slice A1 n1 c1, .int .i64 q.1.fi, .int .i64 q.1.la] 26 ∧ RgsW w.heap.size S1 W' A1 n1 c1 q.1.rs ∧ ListsW lo hi W' A n cap js ∧ hi ≤ W'.heap.size ∧ M ≤ W'.heap.size) (ncAV q A A1 n cap n1 c1 S1 M js) (fun j => [0, 0, 0, 0, 0, 0, 0, 2, 1].getD j 0) [(8, 7)] (by kernel_rfl) (by kernel_rfl) ?_ ?_ ?_
    (.still rfl ?a0 <| .still rfl ?a1 <| .grow rfl ?a2 <| .still rfl ?a3 <| .still rfl ?a4 <| .grow rfl ?a5 <| .grow rfl ?a6 <| .make rfl ?a7 <| .store rfl ?a8 <| .nil) ?_ ?_
  · exact ⟨fun _ _ _ h ⟨A2, c2, e, hp⟩ => ⟨A2, c2, (h 2 (List.mem_singleton.2 rfl)).symm.trans e, hp⟩, fun _ _ _ h ⟨g5, e, hp⟩ => ⟨g5, (h 5 (List.mem_singleton.2 rfl)).symm.trans e, hp⟩, fun _ _ _ h ⟨A2, c2, g5, e, hp⟩ => ⟨A2, c2, g5, (h 6 (List.mem_singleton.2 rfl)).symm.trans e, hp⟩, fun _ _ _ h ⟨g, e, hp⟩ => ⟨g, (h 7 (List.mem_singleton.2 rfl)).symm.trans e, hp⟩, fun _ _ _ h ⟨g, A2, c2, g5, e, hp⟩ => ⟨g, A2, c2, g5, (h 7 (List.mem_singleton.2 rfl)).symm.trans e, hp⟩, trivial⟩
  · exact ⟨fun σ w w' hb ⟨A2, c2, e, hp⟩ => ⟨A2, c2, e, hp.belowN hb⟩, fun σ w w' hb ⟨g5, e, hp⟩ => ⟨g5, e, hp.belowN hb⟩, fun σ w w' hb ⟨A2, c2, g5, e, hp⟩ => ⟨A2, c2, g5, e, hp.belowN hb⟩, fun σ w w' hb ⟨g, e, hg, x0, x1, x2, x3, x4, x5, x6, x7, x8, x9, hx⟩ => ⟨g, e, hg, x0, x1, x2, x3, x4, x5, x6, x7, x8, x9, hx.below hb hx.lt⟩, fun σ w w' hb ⟨g, A2, c2, g5, e, hg, hx, hp⟩ => ⟨g, A2, c2, g5, e, hg, hx.below hb hx.lt, hp.belowN hb⟩, trivial⟩
  · exact ⟨hB.drew, hz, hs, hG, hl, hhi, hM⟩
  case a0 =>
    go_light
    intro L σ W' hcl hL hC hw
    have ks := hC.2.2.1.cell
    clear hw hcl hL hC
    refine OpGoes.step fun K hK => ?_
    unfold OpGoes
    go_simp
    exact hK _ _ ⟨rfl, rfl⟩
  case a1 | a3 | a4 =>
    go_light
    intro L σ W' hcl hL hC hw
    try have e3 := wT hw 3 rfl
    clear hw hcl hL hC
    refine OpGoes.step fun K hK => ?_
    unfold OpGoes
    go_simp
    exact hK _ _ ⟨rfl, rfl⟩
  case a2 =>
    go_light
    intro L σ W' hcl hL hC hw
    have e1 := wV hw 1 rfl
    clear hw
    have HC := Lib.hid hC
    clear hC
    clear hcl hL
    refine OpGoes.step fun K hK => ?_
    unfold OpGoes
    go_simp
    obtain ⟨hB, hz, hs, hG, hl, hhi, hM⟩ := HC.out
    refine (l10ListsN js A n cap lo hi _ hl hhi hn HML.out).mono ?_
    rintro e w1 ⟨A2, c2, rfl, hO2, hb1⟩
    exact ⟨_, rfl, hK _ _ ⟨⟨bstep hB hB.size hb1, hz.below hb1 hz.lt, hs.below hb1 hs.lt, hG.below hb1 (Nat.le_trans hSM hM), hl.below hb1 hhi, Nat.le_trans hhi hb1.size, Nat.le_trans hM hb1.size⟩, ⟨A2, c2, rfl, ListsW.mono hO2 hM (Nat.le_refl _)⟩, hb1⟩⟩
  case a5 =>
    go_light
    intro L σ W' hcl hL hC hw
    have e4 := wV hw 4 rfl
    clear hw
    have HC := Lib.hid hC
    clear hC
    clear hcl hL
    refine OpGoes.step fun K hK => ?_
    unfold OpGoes
    go_simp
    obtain ⟨hB, hz, hs, hG, hl, hhi, hM⟩ := HC.out
    have hb1 : Below W'.heap.size W' (W'.alloc (.cells (madeCells #[.int .i64 0] n) 2)) := (Below.refl _ _).alloc (Nat.le_refl _) _
    refine hK _ _ ⟨⟨bstep hB hB.size hb1, hz.below hb1 hz.lt, hs.below hb1 hs.lt, hG.below hb1 (Nat.le_trans hSM hM), hl.below hb1 hhi, Nat.le_trans hhi hb1.size, Nat.le_trans hM hb1.size⟩, ⟨W'.heap.size, rfl, ?_⟩, hb1⟩
    exact ⟨by simp, .inr ⟨W'.heap.size, rfl, by simp, Own.mono (by have := Own.made (e := 2) ic_len (by omega) (0 : Int) #[.int .i64 0] rfl (Nat.le_refl W'.heap.size) n (by unfold maxLen; omega); rwa [Nat.mul_one] at this) hM⟩⟩
  case a6 =>
    go_light
    intro L σ W' hcl hL hC hw
    have e0 := wV hw 0 rfl
    obtain ⟨A2, c2, e2, hp2⟩ := wE hw 2 rfl
    obtain ⟨g5, e5, hp5⟩ := wE hw 5 rfl
    clear hw
    have HC := Lib.hid hC
    clear hC
    clear hcl hL
    refine OpGoes.step fun K hK => ?_
    unfold OpGoes
    go_simp
    obtain ⟨hB, hz, hs, hG, hl, hhi, hM⟩ := HC.out
    exact hK _ _ ⟨⟨hB, hz, hs, hG, hl, hhi, hM⟩, ⟨A2, c2, g5, rfl, hp2, hp5⟩, Below.refl _ _⟩
  case a7 =>
    go_light
    intro L σ W' hcl hL hC hw
    clear hw
    have HC := Lib.hid hC
    clear hC
    clear hcl hL
    refine OpGoes.step fun K hK => ?_
    unfold OpGoes
    go_simp
    obtain ⟨hB, hz, hs, hG, hl, hhi, hM⟩ := HC.out
    have hb1 : Below W'.heap.size W' (W'.alloc (.cells #[.int .i64 0, .int .i64 0, .slice none 0 0, .int .i64 0, .int .i64 0, .slice none 0 0, .slice none 0 0, .slice none 0 0, .int .i64 0, .slice none 0 0] 31)) := (Below.refl _ _).alloc (Nat.le_refl _) _
    exact hK _ _ ⟨⟨bstep hB hB.size hb1, hz.below hb1 hz.lt, hs.below hb1 hs.lt, hG.below hb1 (Nat.le_trans hSM hM), hl.below hb1 hhi, Nat.le_trans hhi hb1.size, Nat.le_trans hM hb1.size⟩, ⟨_, rfl, hM, _, _, _, _, _, _, _, _, _, _, BoxAt.new _ _ _⟩, hb1, rfl, by simp⟩
  case a8 =>
    go_light
    intro L σ W' hcl hL hC hw hne
    obtain ⟨A2, c2, g5, e6, hp6⟩ := wE hw 6 rfl
    obtain ⟨g7, e7, hg7, x0, x1, x2, x3, x4, x5, x6, x7, x8, x9, hbox7⟩ := wE hw 7 rfl
    clear hw hne
    have HC := Lib.hid hC
    clear hC
    clear hcl hL
    have kc_ := hbox7.cell
    have kf_ := hbox7.frozen
    refine OpGoes.step fun K hK => ?_
    unfold OpGoes
    go_simp
    obtain ⟨hB, hz, hs, hG, hl, hhi, hM⟩ := HC.out
    have hset := sets_all (us := [.int .i64 q.1.rd, .int .i64 q.1.mo, .slice A1 n1 c1, .int .i64 q.1.fi, .int .i64 q.1.la, .slice none 0 0, .slice A2 n c2, .slice (some ⟨g5, 0, none⟩) n n, .int .i64 0, .slice none 0 0]) hbox7 rfl
    refine hK undef (setCells W' g7 0 [.int .i64 q.1.rd, .int .i64 q.1.mo, .slice A1 n1 c1, .int .i64 q.1.fi, .int .i64 q.1.la, .slice none 0 0, .slice A2 n c2, .slice (some ⟨g5, 0, none⟩) n n, .int .i64 0, .slice none 0 0]) ⟨⟨(Below.setCells (by omega) _ 0 hB), (BoxAt.sets_ne _ 0 hz (by omega)), (BoxAt.sets_ne _ 0 hs (by omega)), ((RgsW.setsT hG hbox7 (by decide) (by decide) _ 0)), (ListsW.setsT hl hbox7 (by decide) (by decide) _ 0), (size_sts hhi _ 0), (size_sts hM _ 0)⟩, ⟨g7, A2, c2, g5, e7, hg7, hset, (TwoN.setsC hp6 hbox7 _ 0)⟩, Nat.le_of_eq (sets_size _ _ _).symm, keepV ?_⟩
    exact ⟨fun _ _ ⟨A2_x, c2_x, e, hp⟩ => ⟨A2_x, c2_x, e, (LstN.setsC hp hbox7 _ 0)⟩, fun _ _ ⟨g5_x, e, hp⟩ => ⟨g5_x, e, (IntN.setsC hp hbox7 _ 0)⟩, fun _ _ ⟨A2_x, c2_x, g5_x, e, hp⟩ => ⟨A2_x, c2_x, g5_x, e, (TwoN.setsC hp hbox7 _ 0)⟩, fun _ _ _ => ⟨g7, e7, hg7, _, _, _, _, _, _, _, _, _, _, hset⟩, fun h => absurd rfl h, trivial⟩
  · intro L L' W' hLL hC
    obtain ⟨hB, hz, hs, hG, hl, hhi, hM⟩ := hC
    exact ⟨hB, hz, hs, hG, hl, hhi, hM⟩
  · intro σ L W' hall hC hRR
    obtain ⟨hB, hz, hs, hG, hl, hhi, hM⟩ := hC
    obtain ⟨g7, A2, c2, g5, e7, hg8, s8, hp8⟩ := dE hRR 8 rfl
    clear hRR hs hl hhi hmk
    simp only [lexAll]
    go_simp
    go_step
    go_wp2
    generalize hC7 : g7 = C7 at *
    have hNC : w.heap.size < C7 := by omega
    have hJ : LstN w.heap.size W' A2 n c2 js := ListsW.mono hp8.1 (by omega) (Nat.le_refl _)
    have hI : IntN w.heap.size W' (some ⟨g5, 0, none⟩) n n (List.replicate n 0) := SlW.mono hp8.2 (by omega) (Nat.le_refl _)
    go_loopw [11] (fun s11 W => ∃ (i : Nat) (B : Option Addr) (c : Nat), i ≤ n ∧ s11 = .int .i64 i ∧ Below w.heap.size w W ∧ BoxAt W w.heap.size #[.int .i64 0, .int .i64 0, .slice none 0 0, .int .i64 0, .int .i64 0, .slice none 0 0, .slice none 0 0, .slice none 0 0, .int .i64 0, .slice none 0 0] 31 ∧ RgsW w.heap.size S1 W A1 n1 c1 q.1.rs ∧ LstN w.heap.size W A2 n c2 js ∧ IntN w.heap.size W (some ⟨g5, 0, none⟩) n n (List.replicate n 0) ∧ BoxAt W C7 #[.int .i64 q.1.rd, .int .i64 q.1.mo, .slice A1 n1 c1, .int .i64 q.1.fi, .int .i64 q.1.la, .slice B i c, .slice A2 n c2, .slice (some ⟨g5, 0, none⟩) n n, .int .i64 0, .slice none 0 0] 31 ∧ W.ownsRow (C7 + 1) 58 12 (.slice B i c) i ((List.replicate i resting).flatMap Hd.cs)) (fun s11 _ => n - (intOf s11).toNat)
    case atStart =>
      exact ⟨0, none, 0, Nat.zero_le _, rfl, hB, hz, hG, hJ, hI, s8, World.ownsRow_nil _ _ _ _⟩
    case round =>
      clear hB hz hG hJ hI s8 hM hp8
      obtain ⟨i, B, c, hin, rfl, hB, hz, hG, hJ, hI, hc, hO⟩ := hrel
      have lC := hc.lt
      by_cases hlt : i < n
      · have g1 : (i : Int) < (n : Int) := by omega
        have g2 : (0 : Int) ≤ (i : Int) := by omega
        obtain ⟨M, hMe⟩ : ∃ M, M = wr.heap.size := ⟨_, rfl⟩
        have hM : M ≤ wr.heap.size := by omega
        have hSM : S1 ≤ M := by omega
        have hCM : C7 < M := by omega
        have hNM2 : w.heap.size < M := by omega
        have hRB : ∀ k, (Value.slice B i c).ownBlock = some k → k < M := fun k hk => by have := (hO.lt k hk).2; omega
        clear hMe
        go_upto_region 6 with fail
        refine wp_region2v (fun w w' => Below w.heap.size w w') (fun _ _ h => h.size) (fun _ => Below.refl _ _) (fun L W' => Below w.heap.size w W' ∧ BoxAt W' w.heap.size #[.int .i64 0, .int .i64 0, .slice none 0 0, .int .i64 0, .int .i64 0, .slice none 0 0, .slice none 0 0, .slice none 0 0, .int .i64 0, .slice none 0 0] 31 ∧ RgsW w.heap.size S1 W' A1 n1 c1 q.1.rs ∧ LstN w.heap.size W' A2 n c2 js ∧ IntN w.heap.size W' (some ⟨g5, 0, none⟩) n n (List.replicate n 0) ∧ M ≤ W'.heap.size ∧ (L 4 = false → W'.ownsRow (C7 + 1) 58 12 (.slice B i c) i ((List.replicate i resting).flatMap Hd.cs)) ∧ (∃ x0, BoxAt W' C7 #[.int .i64 q.1.rd, .int .i64 q.1.mo, .slice A1 n1 c1, .int .i64 q.1.fi, .int .i64 q.1.la, x0, .slice A2 n c2, .slice (some ⟨g5, 0, none⟩) n n, .int .i64 0, .slice none 0 0] 31) ∧ (L 6 = false → BoxAt W' C7 #[.int .i64 q.1.rd, .int .i64 q.1.mo, .slice A1 n1 c1, .int .i64 q.1.fi, .int .i64 q.1.la, .slice B i c, .slice A2 n c2, .slice (some ⟨g5, 0, none⟩) n n, .int .i64 0, .slice none 0 0] 31)) (ncBV q A1 A2 B n n1 c1 c2 g5 i c C7 M) (fun j => [0, 0, 0, 0, 1, 0, 1].getD j 0) [] (by kernel_rfl) (by kernel_rfl) ?_ ?_ ?_
          (.still rfl ?a0 <| .still rfl ?a1 <| .grow rfl ?a2 <| .grow rfl ?a3 <| .store rfl ?a4 <| .still rfl ?a5 <| .store rfl ?a6 <| .nil) ?_ ?_
        · exact ⟨fun _ _ _ h ⟨g3, e, hp⟩ => ⟨g3, (h 3 (List.mem_singleton.2 rfl)).symm.trans e, hp⟩, fun _ _ _ h ⟨B2, cc, e, hp⟩ => ⟨B2, cc, (h 4 (List.mem_singleton.2 rfl)).symm.trans e, hp⟩, fun _ _ _ _ h => h, trivial⟩
        · exact ⟨fun σ w w' hb ⟨g3, e, hp⟩ => ⟨g3, e, ⟨hp.1.below hb hp.1.lt, hp.2⟩⟩, fun σ w w' hb ⟨B2, cc, e, hp⟩ => ⟨B2, cc, e, own_keep hp hb⟩, fun σ w w' hb ⟨B2, cc, hx, hp⟩ => ⟨B2, cc, hx.below hb hx.lt, own_keep hp hb⟩, trivial⟩
        · exact ⟨hB.drew, hz, hG, hJ, hI, hM, fun _ => hO, ⟨_, hc⟩, fun _ => hc⟩
        case a0 | a5 =>
          go_light
          intro L σ W' hcl hL hC hw
          clear hw hcl hL hC
          refine OpGoes.step fun K hK => ?_
          unfold OpGoes
          go_simp
          exact hK _ _ ⟨rfl, rfl⟩
        case a1 =>
          go_light
          intro L σ W' hcl hL hC hw
          have e0 := wV hw 0 rfl
          have kc := (hC.2.2.2.2.2.2.2.2 (hcl.not (j := 6) (k := 4) (by kernel_rfl) (hcl.not (j := 4) (k := 1) (by kernel_rfl) hL))).cell
          clear hw hcl hL hC
          refine OpGoes.step fun K hK => ?_
          unfold OpGoes
          go_simp
          exact hK _ _ ⟨rfl, rfl⟩
        case a2 =>
          go_light
          intro L σ W' hcl hL hC hw
          clear hw
          have HC := Lib.hid hC
          clear hC
          clear hcl hL
          refine OpGoes.step fun K hK => ?_
          unfold OpGoes
          go_simp
          obtain ⟨hB, hz, hG, hJ, hI, hM, hO, ⟨_, hc⟩, hc_o⟩ := HC.out
          refine (sresting_any _).mono ?_
          rintro e w1 ⟨rfl, hb1⟩
          exact ⟨_, rfl, hK _ _ ⟨⟨bstep hB hB.size hb1, hz.below hb1 hz.lt, hG.below hb1 (Nat.le_trans hSM hM), hJ.belowN hb1, hI.belowN hb1, Nat.le_trans hM hb1.size, fun h => own_keep (hO (by simpa [upd] using h)) hb1, ⟨_, hc.below hb1 hc.lt⟩, fun h => (hc_o (by simpa [upd] using h)).below hb1 (hc_o (by simpa [upd] using h)).lt⟩, rfl, hb1⟩⟩
        case a3 =>
          go_light
          intro L σ W' hcl hL hC hw
          have e2 := wV hw 2 rfl
          clear hw
          have HC := Lib.hid hC
          clear hC
          clear hcl hL
          refine OpGoes.step fun K hK => ?_
          unfold OpGoes
          go_simp
          obtain ⟨hB, hz, hG, hJ, hI, hM, hO, ⟨_, hc⟩, hc_o⟩ := HC.out
          have hb1 : Below W'.heap.size W' (W'.alloc (.cells #[.int .i64 resting.at_, .int .i64 resting.v, .int .i64 resting.r, .int .i64 resting.t, .bool resting.seen.s, .int .i64 resting.seen.n, .bool resting.seen.f, .int .i64 resting.seen.v, .int .i64 resting.tr, .int .i64 resting.sp, .bool resting.ag, .int .i64 resting.re] 58)) := (Below.refl _ _).alloc (Nat.le_refl _) _
          exact hK _ _ ⟨⟨bstep hB hB.size hb1, hz.below hb1 hz.lt, hG.below hb1 (Nat.le_trans hSM hM), hJ.belowN hb1, hI.belowN hb1, Nat.le_trans hM hb1.size, fun h => own_keep (hO (by simpa [upd] using h)) hb1, ⟨_, hc.below hb1 hc.lt⟩, fun h => (hc_o (by simpa [upd] using h)).below hb1 (hc_o (by simpa [upd] using h)).lt⟩, ⟨W'.heap.size, rfl, BoxAt.new _ _ _, hM⟩, hb1⟩
        case a4 =>
          go_light
          intro L σ W' hcl hL hC hw hne
          have e1 := wV hw 1 rfl
          obtain ⟨g3, e3, hp3⟩ := wE hw 3 rfl
          clear hw hne
          obtain ⟨hB, hz, hG, hJ, hI, hM, hO, ⟨_, hc⟩, hc_o⟩ := hC
          have hO4 := (hO hL)
          clear hcl hL
          refine OpGoes.append_own rfl (.tmp 32) (.tmp 34) _ rfl (C7 + 1) 58 iH _ 12 96 Tryz.underlying27 HI.out HZ0.out HZ1.out HZ2.out rfl (by omega) (.slice B i c) i _ (by go_simp) hO4 ⟨g3, 0, none⟩ 1 1 [.int .i64 resting.at_, .int .i64 resting.v, .int .i64 resting.r, .int .i64 resting.t, .bool resting.seen.s, .int .i64 resting.seen.n, .bool resting.seen.f, .int .i64 resting.seen.v, .int .i64 resting.tr, .int .i64 resting.sp, .bool resting.ag, .int .i64 resting.re] (by go_simp) rfl (news_box hp3.1) (by intro u hu; simp at hu; rcases hu with rfl | rfl | rfl | rfl | rfl | rfl | rfl | rfl | rfl | rfl | rfl | rfl <;> rfl) (by unfold maxLen; omega) (by omega) (by omega) ?_
          intro v' w' hO' hg hat
          have kT : ∀ T, 58 ≠ T → KeepT T W' w' := fun T hT => KeepT.grown hO4 hg hT
          obtain ⟨B2, cc, rfl, hP'⟩ := SlW.of_own (f := Hd.cs) (l := List.replicate i resting ++ [resting]) (n := i + 1) (by rw [List.flatMap_append]; exact hO') (by simp)
          have hP2 : SlW Hd.cs 12 58 (C7 + 1) w'.heap.size w' B2 (i + 1) cc (List.replicate (i + 1) resting) := by rw [List.replicate_succ']; exact hP'
          refine ⟨⟨Below.grown hB hg (Nat.le_trans (by omega) hM) (fun k hk => by have := (hO4.lt k hk).1; omega), hz.keepT (kT _ (by decide)), hG.keepT (kT _ (by decide)) (kT _ (by decide)), hJ.keepT (kT _ (by decide)) (kT _ (by decide)) hg.size, hI.keepT (kT _ (by decide)) hg.size, Nat.le_trans hM hg.size, fun h => absurd h (by simp [upd]), ⟨_, hc.keepT (kT _ (by decide))⟩, fun h => (hc_o (by simpa [upd] using h)).keepT (kT _ (by decide))⟩, ⟨B2, cc, rfl, SlW.own hP2 Hd.cs_len⟩, hg.size, fun j hj hn hR => ?_⟩
          refine keepV ?_ j hj hn hR
          exact ⟨fun _ _ ⟨g3, e, hp⟩ => ⟨g3, e, ⟨hp.1.grown2 hg (fun e => by have := hRB _ e; have := hp.2; omega), hp.2⟩⟩, fun h => absurd rfl h, fun _ h => absurd (h.symm.trans (show waits _ _ _ = true by kernel_rfl)) (by decide), trivial⟩
        case a6 =>
          go_light
          intro L σ W' hcl hL hC hw hne
          obtain ⟨B2, cc, e4, hp4⟩ := wE hw 4 rfl
          have e5 := wV hw 5 rfl
          clear hw hne
          have HC := Lib.hid hC
          obtain ⟨hB, hz, hG, hJ, hI, hM, hO, ⟨_, hc⟩, hc_o⟩ := hC
          clear hcl hL
          have kc_ := hc.cell
          have kf_ := hc.frozen
          clear hB hz hG hJ hI hM hO hc hc_o
          refine OpGoes.step fun K hK => ?_
          unfold OpGoes
          go_simp
          obtain ⟨hB, hz, hG, hJ, hI, hM, hO, ⟨_, hc⟩, hc_o⟩ := HC.out
          have hset := (hc.set 5 (.slice B2 (i + 1) cc))
          simp only [List.setIfInBounds_toArray, List.set_cons_zero, List.set_cons_succ] at hset
          refine hK _ _ ⟨⟨(hB.setCell (by dsimp only; omega) _), (hz.set_ne (by omega) _ _), (hG.keepT (.set hc (by decide) _ _) (.set hc (by decide) _ _)), (LstN.setsC hJ hc [_] _), (IntN.setsC hI hc [_] _), (size_st hM), fun h => (ownsRow_setCell_below (hO (by simpa [upd] using h)) (by dsimp only; omega) _), ⟨_, hset⟩, fun h => absurd h (by simp [upd])⟩, ⟨B2, cc, hset, (ownsRow_setCell_below hp4 (by dsimp only; omega) _)⟩, by simp, keepV ?_⟩
          exact ⟨fun _ _ ⟨g3_x, e, hp⟩ => ⟨g3_x, e, (⟨hp.1.set_ne (by have := hp.2; omega) _ _, hp.2⟩)⟩, fun _ _ ⟨B2_x, cc_x, e, hp⟩ => ⟨B2_x, cc_x, e, (ownsRow_setCell_below hp (by dsimp only; omega) _)⟩, fun h => absurd rfl h, trivial⟩
        · intro L L' W' hLL hC
          obtain ⟨hB, hz, hG, hJ, hI, hM, hO, ⟨_, hc⟩, hc_o⟩ := hC
          exact ⟨hB, hz, hG, hJ, hI, hM, fun h => hO (hLL _ h), ⟨_, hc⟩, fun h => hc_o (hLL _ h)⟩
        · intro σ L W' hall hC hRR
          obtain ⟨hB, hz, hG, hJ, hI, hM, hO, ⟨_, hc⟩, hc_o⟩ := hC
          obtain ⟨B2, cc, s6, hp6⟩ := dE hRR 6 rfl
          clear hRR
          simp only [lexAll]
          go_simp
          go_step
          go_wp2
          go_roundw
          case rel =>
            go_light
            exact ⟨i + 1, B2, cc, by omega, by go_num, hB, hz, hG, hJ, hI, s6, hp6⟩
          case measure => simp [intOf]; omega
      · have g1 : ¬ (i : Int) < (n : Int) := by omega
        obtain rfl : n = i := by omega
        have hH := SlW.of_own' (f := Hd.cs) hO (by simp)
        have HCW := Lib.hid (show CrW w.heap.size wr.heap.size wr (newC0 rd mo js) (⟨⟨A1, n1, c1⟩, ⟨B, n, c⟩, ⟨A2, n, c2⟩, ⟨some ⟨g5, 0, none⟩, n, n⟩, ⟨none, 0, 0⟩⟩ : CrL) by
          refine ⟨?_, ?_, ?_, ?_, SlW.nil⟩
          · show RgsW _ _ _ _ _ _ (newStore rd mo).1.rs
            rw [HQ.out]; exact hG.mono (Nat.le_refl _) (by omega)
          · show HdsW _ _ _ _ _ _ (List.replicate js.length resting)
            rw [HLL.out]; exact SlW.mono hH (by omega) (Nat.le_refl _)
          · exact hJ
          · show IntsW _ _ _ _ _ _ (List.replicate js.length 0)
            rw [HLL.out]; exact hI)
        cases hq2 : q.2
        · have HV := Lib.hid (show newCrew rd mo js = (.zero, false) by unfold newCrew; rw [HQ.out, hq2]; rfl)
          have kz := hz.cell
          have fz := hz.frozen
          go_wp2
          refine bodyPost_ret (v := .tuple #[crV .zero (⟨⟨none, 0, 0⟩, ⟨none, 0, 0⟩, ⟨none, 0, 0⟩, ⟨none, 0, 0⟩, ⟨none, 0, 0⟩⟩ : CrL), .bool false]) (by simp [results, Tryz.results6, go_sem, kz, crV, Cr.zero, St.zero]) rfl ⟨(⟨⟨none, 0, 0⟩, ⟨none, 0, 0⟩, ⟨none, 0, 0⟩, ⟨none, 0, 0⟩, ⟨none, 0, 0⟩⟩ : CrL), by rw [HV.out], ?_, ?_⟩
          · rw [HV.out]
            exact ⟨RgsW.nil, SlW.nil, ListsW.nil, SlW.nil, SlW.nil⟩
          · exact Below.setCells (by omega) (crCs .zero (⟨⟨none, 0, 0⟩, ⟨none, 0, 0⟩, ⟨none, 0, 0⟩, ⟨none, 0, 0⟩, ⟨none, 0, 0⟩⟩ : CrL)) 0 hB
        have HFIT := Lib.hid (show CrFit (newC0 rd mo js) from by
          have hns : Neat (newStore rd mo).1 ∨ (newStore rd mo).1 = .zero := newStore_neat rd mo
          refine ⟨?_, ?_, ?_, ?_, HML.out, ?_, by show (0 : Nat) ≤ _; omega⟩
          · show (newStore rd mo).1.rs.length ≤ _
            rcases hns with h | h
            · have := h.2.1; omega
            · rw [h]; decide
          · show ∀ r ∈ (newStore rd mo).1.rs, r.ps.length ≤ _
            rcases hns with h | h
            · exact h.len
            · rw [h]; intro r hr; cases hr
          · show (List.replicate js.length resting).length ≤ _
            rw [List.length_replicate, HLL.out]; exact hn
          · show js.length ≤ _
            rw [HLL.out]; exact hn
          · show (List.replicate js.length (0 : Int)).length ≤ _
            rw [List.length_replicate, HLL.out]; exact hn)
        have HCA := Lib.hid (show (newC0 rd mo js).st = q.1 by show (newStore rd mo).1 = q.1; rw [HQ.out])
        have hcon := screwOk_any (newC0 rd mo js) (⟨⟨A1, n1, c1⟩, ⟨B, n, c⟩, ⟨A2, n, c2⟩, ⟨some ⟨g5, 0, none⟩, n, n⟩, ⟨none, 0, 0⟩⟩ : CrL) w.heap.size wr.heap.size wr HCW.out (Nat.le_refl _) HFIT.out
        unfold crV at hcon
        rw [HCA.out] at hcon
        have HCO := Lib.hid hcon; clear hcon
        have kc := hc.cell
        go_wp2_with fail
        clear kc
        refine (HCO.out).mono ?_
        rintro e w8 ⟨rfl, hb8⟩
        have h78 := hb8.size
        have hC8 := HCW.out.below hb8 (Nat.le_refl _)
        replace hz := hz.below hb8 hz.lt
        replace hc := hc.below hb8 hc.lt
        replace hB := bstep hB hB.size hb8
        clear hb8 hG hJ hI hO hH
        have kc := hc.cell
        have kz := hz.cell
        have fz := hz.frozen
        cases hcr : crOk (newC0 rd mo js)
        · have HV := Lib.hid (show newCrew rd mo js = (.zero, false) by unfold newCrew; rw [hcr]; simp)
          go_wp2
          refine bodyPost_ret (v := .tuple #[crV .zero (⟨⟨none, 0, 0⟩, ⟨none, 0, 0⟩, ⟨none, 0, 0⟩, ⟨none, 0, 0⟩, ⟨none, 0, 0⟩⟩ : CrL), .bool false]) (by simp [results, Tryz.results6, go_sem, kz, crV, Cr.zero, St.zero]) rfl ⟨(⟨⟨none, 0, 0⟩, ⟨none, 0, 0⟩, ⟨none, 0, 0⟩, ⟨none, 0, 0⟩, ⟨none, 0, 0⟩⟩ : CrL), by rw [HV.out], ?_, ?_⟩
          · rw [HV.out]
            exact ⟨RgsW.nil, SlW.nil, ListsW.nil, SlW.nil, SlW.nil⟩
          · exact Below.setCells (by omega) (crCs .zero (⟨⟨none, 0, 0⟩, ⟨none, 0, 0⟩, ⟨none, 0, 0⟩, ⟨none, 0, 0⟩, ⟨none, 0, 0⟩⟩ : CrL)) 0 hB
        · have HV := Lib.hid (show newCrew rd mo js = (newC0 rd mo js, true) by unfold newCrew; rw [HQ.out, hq2, hcr]; rfl)
          go_wp2
          refine bodyPost_ret (v := .tuple #[crV (newC0 rd mo js) (⟨⟨A1, n1, c1⟩, ⟨B, n, c⟩, ⟨A2, n, c2⟩, ⟨some ⟨g5, 0, none⟩, n, n⟩, ⟨none, 0, 0⟩⟩ : CrL), .bool true]) (by unfold crV; rw [HCA.out]; simp [results, Tryz.results6, go_sem, kz, newC0]) rfl ⟨(⟨⟨A1, n1, c1⟩, ⟨B, n, c⟩, ⟨A2, n, c2⟩, ⟨some ⟨g5, 0, none⟩, n, n⟩, ⟨none, 0, 0⟩⟩ : CrL), by rw [HV.out], ?_, ?_⟩
          · rw [HV.out]
            exact (CrW.setsC hC8 hz [.int .i64 q.1.rd, .int .i64 q.1.mo, .slice A1 n1 c1, .int .i64 q.1.fi, .int .i64 q.1.la, .slice B n c, .slice A2 n c2, .slice (some ⟨g5, 0, none⟩) n n, .int .i64 0, .slice none 0 0] 0).mono (Nat.le_refl _) (by simp; omega)
          · exact Below.setCells (by omega) [.int .i64 q.1.rd, .int .i64 q.1.mo, .slice A1 n1 c1, .int .i64 q.1.fi, .int .i64 q.1.la, .slice B n c, .slice A2 n c2, .slice (some ⟨g5, 0, none⟩) n n, .int .i64 0, .slice none 0 0] 0 hB
end Go.Proofs.YtomfaabifpndbaaGreat


/-
  A turn, as a plain function on plain data.
-/
import Derived.Test.YtbdgkmamieagfaaCrewD
namespace Go.Proofs.Ytbdgkmamieagfaa
set_option linter.unusedSimpArgs false
set_option linter.unusedVariables false
open Go.RowKit
set_option linter.unusedVariables false

def jobH (h : Hd) (z : Int) : Hd := if 0 < z then (toPut h z).1 else (toTake h).1
def goH (c : Cr) (i : Nat) : Hd := if (c.hs.getD i .zero).at_ = 0 then jobH (c.hs.getD i .zero) ((c.js.getD i []).getD 0 0) else c.hs.getD i .zero
def goC (c : Cr) (i : Nat) : Cr := if (c.hs.getD i .zero).at_ = 0 then { c with ck := c.ck + 1, js := c.js.set i ((c.js.getD i []).drop 1), bs := c.bs.set i (c.ck + 1) } else { c with ck := c.ck + 1 }
def evt (who : Int) (i : Nat) (h y : Hd) (c : Cr) : Ev := ⟨who, putB h.at_, bif putB h.at_ then h.v else y.v, y.re, c.bs.getD i 0, c.ck⟩
def endC (who : Int) (i : Nat) (h : Hd) (q : St × Hd × Bool) (c : Cr) : Cr := { c with st := q.1, hs := c.hs.set i q.2.1, es := if q.2.1.at_ = 0 then c.es ++ [evt who i h q.2.1 c] else c.es }
def newC (c : Cr) (who : Int) (i : Nat) : Cr := endC who i (goH c i) (stepped c.st (goH c i)) (goC c i)
def turnS (c : Cr) (who : Int) : Cr × Bool :=
  if !inB who 0 ((c.hs.length : Int) - 1) || c.ck == 2000 then (c, false)
  else if (c.hs.getD who.toNat .zero).at_ == 0 && (c.js.getD who.toNat []).length == 0 then (c, false)
  else if !(stepped c.st (goH c who.toNat)).2.2 then (c, false)
  else if crOk (newC c who who.toNat) then (newC c who who.toNat, true) else (c, false)

theorem turnS_ok {c : Cr} (h : crOk c = true) (who : Int) : crOk (turnS c who).1 = true := by
  unfold turnS
  split
  · exact h
  · split
    · exact h
    · split
      · exact h
      · split
        · assumption
        · exact h

section
variable {c : Cr} {i : Nat} (h1 : (!inB (i : Int) 0 ((c.hs.length : Int) - 1) || c.ck == 2000) = false)
include h1
theorem turnS_no1 (h2 : ((c.hs.getD i .zero).at_ == 0 && (c.js.getD i []).length == 0) = true) : turnS c i = (c, false) := by
  unfold turnS; rw [h1, Int.toNat_natCast, h2]; rfl
theorem turnS_no2 (h2 : ((c.hs.getD i .zero).at_ == 0 && (c.js.getD i []).length == 0) = false) (h3 : (stepped c.st (goH c i)).2.2 = false) : turnS c i = (c, false) := by
  unfold turnS; rw [h1, Int.toNat_natCast, h2, h3]; rfl
theorem turnS_no3 (h2 : ((c.hs.getD i .zero).at_ == 0 && (c.js.getD i []).length == 0) = false) (h3 : (stepped c.st (goH c i)).2.2 = true) (h4 : crOk (newC c i i) = false) : turnS c i = (c, false) := by
  unfold turnS; rw [h1, Int.toNat_natCast, h2, h3, h4]; rfl
theorem turnS_yes (h2 : ((c.hs.getD i .zero).at_ == 0 && (c.js.getD i []).length == 0) = false) (h3 : (stepped c.st (goH c i)).2.2 = true) (h4 : crOk (newC c i i) = true) : turnS c i = (newC c i i, true) := by
  unfold turnS; rw [h1, Int.toNat_natCast, h2, h3, h4]; rfl
end

theorem goC_st (c : Cr) (i : Nat) : (goC c i).st = c.st := by unfold goC; split <;> rfl
theorem goC_hs (c : Cr) (i : Nat) : (goC c i).hs = c.hs := by unfold goC; split <;> rfl
theorem goC_es (c : Cr) (i : Nat) : (goC c i).es = c.es := by unfold goC; split <;> rfl
theorem goC_ck (c : Cr) (i : Nat) : (goC c i).ck = c.ck + 1 := by unfold goC; split <;> rfl
theorem goC_bsl (c : Cr) (i : Nat) : (goC c i).bs.length = c.bs.length := by unfold goC; split <;> simp
theorem goC_jsl (c : Cr) (i : Nat) : (goC c i).js.length = c.js.length := by unfold goC; split <;> simp
theorem goC_jl {c : Cr} (h : CrNeat c) (i : Nat) : ∀ l ∈ (goC c i).js, l.length ≤ 4 := by
  intro l hl
  unfold goC at hl
  split at hl
  · have hl' : l ∈ c.js.set i ((c.js.getD i []).drop 1) := hl
    rcases List.mem_or_eq_of_mem_set hl' with h1 | h1
    · exact h.l l h1
    · rw [h1]
      by_cases hi : i < c.js.length
      · have := h.l _ (List.getElem_mem hi)
        rw [List.getD_eq_getElem?_getD, List.getElem?_eq_getElem hi]
        simp
        omega
      · rw [List.getD_eq_getElem?_getD, List.getElem?_eq_none (by omega)]
        simp
  · exact h.l l hl

/-- What came of a turn is no longer than what is reckoned with. -/
theorem newC_fit {c : Cr} (h : CrNeat c) (who : Int) (i : Nat) (hn : Neat (stepped c.st (goH c i)).1) : CrFit (newC c who i) := by
  have hf := h.fit
  refine ⟨?_, ?_, ?_, ?_, ?_, ?_, ?_⟩
  · have := hn.2.1; show (stepped c.st (goH c i)).1.rs.length ≤ _; omega
  · exact hn.len
  · show ((goC c i).hs.set i _).length ≤ _
    rw [List.length_set, goC_hs]; exact hf.h
  · show (goC c i).js.length ≤ _
    rw [goC_jsl]; exact hf.j
  · intro l hl
    have := goC_jl h i l hl
    omega
  · show (goC c i).bs.length ≤ _
    rw [goC_bsl]; exact hf.b
  · show (if _ then (goC c i).es ++ [_] else (goC c i).es).length ≤ _
    have := h.e
    split
    · rw [List.length_append, goC_es]; simp; omega
    · rw [goC_es]; omega

/-- A copy that a turn works on: its lists, and where they lie. -/
structure OutCr (lo hi : Nat) (w : World) (c : Cr) (y : CrL) (l u l' u' : Nat) : Prop where
  s : RgsW lo hi w y.s.A y.s.n y.s.cap c.st.rs
  h : HdsW lo hi w y.h.A y.h.n y.h.cap c.hs
  j : ListsW l u w y.j.A y.j.n y.j.cap c.js
  b : IntsW l' u' w y.b.A y.b.n y.b.cap c.bs
  e : EvsW lo hi w y.e.A y.e.n y.e.cap c.es
  x : u ≤ l' ∨ u' ≤ l
  jl : lo ≤ l
  ju : u ≤ hi
  bl : lo ≤ l'
  bu : u' ≤ hi
theorem OutCr.keep {lo hi : Nat} {w w' : World} {c : Cr} {y : CrL} {l u l' u' : Nat} (h : OutCr lo hi w c y l u l' u') (hs : SameIn lo hi w w') : OutCr lo hi w' c y l u l' u' :=
  have h1 := h.jl; have h2 := h.ju; have h3 := h.bl; have h4 := h.bu
  ⟨h.s.keep hs, SlW.keep h.h hs, h.j.keep (fun j a b => hs j (by omega) (by omega)), SlW.keep h.b (fun j a b => hs j (by omega) (by omega)), SlW.keep h.e hs, h.x, h.jl, h.ju, h.bl, h.bu⟩
theorem CopyCr.out {N : Nat} {w : World} {c : Cr} {y : CrL} {l u l' u' : Nat} (h : CopyCr N w c y l u l' u') : OutCr N w.heap.size w c y l u l' u' := ⟨h.s, h.h, h.j.1, h.b.1, h.e, h.x, h.j.2.2, h.j.2.1, h.b.2.2, h.b.2.1⟩
theorem OutCr.crw {lo hi : Nat} {w : World} {c : Cr} {y : CrL} {l u l' u' : Nat} (h : OutCr lo hi w c y l u l' u') : CrW lo hi w c y := ⟨h.s, h.h, h.j.mono h.jl h.ju, SlW.mono h.b h.bl h.bu, h.e⟩

/-- Lists of which none lies in block g. -/
def ListsX (g lo hi : Nat) (w : World) (A : Option Addr) (n cap : Nat) (L : List (List Int)) : Prop :=
  ∃ rows : List Jw, SlW Jw.cs 1 59 lo hi w A n cap rows ∧ EachW lo hi w rows L ∧ ∀ (i : Nat) (a : Jw) (b : Addr), rows[i]? = some a → a.A = some b → b.block ≠ g
/-- A copy whose jobs are turned. -/
structure OutX (lo hi : Nat) (w : World) (c : Cr) (js : List (List Int)) (y : CrL) (g : Nat) : Prop where
  s : RgsW lo hi w y.s.A y.s.n y.s.cap c.st.rs
  h : HdsW lo hi w y.h.A y.h.n y.h.cap c.hs
  j : ListsX g lo w.heap.size w y.j.A y.j.n y.j.cap js
  b : Own ic 1 2 lo w g y.b.n y.b.cap c.bs
  ba : y.b.A = some ⟨g, 0, none⟩
  bg : g < hi
  e : EvsW lo hi w y.e.A y.e.n y.e.cap c.es
/-- A copy whose jobs and beginnings are turned. -/
structure OutF (lo hi : Nat) (w : World) (c : Cr) (js : List (List Int)) (bs : List Int) (y : CrL) : Prop where
  s : RgsW lo hi w y.s.A y.s.n y.s.cap c.st.rs
  h : HdsW lo hi w y.h.A y.h.n y.h.cap c.hs
  j : ListsW lo w.heap.size w y.j.A y.j.n y.j.cap js
  b : IntsW lo hi w y.b.A y.b.n y.b.cap bs
  e : EvsW lo hi w y.e.A y.e.n y.e.cap c.es

section
variable {lo hi : Nat} {w w' : World} {c : Cr} {js : List (List Int)} {bs : List Int} {y : CrL} {g l u l' u' : Nat}
theorem OutF.upd (h : OutF lo hi w c js bs y) (hs : SameIn lo hi w w') (k1 : KeepT 2 w w') (k2 : KeepT 59 w w') (hz : w.heap.size ≤ w'.heap.size) : OutF lo hi w' c js bs y :=
  ⟨h.s.keep hs, SlW.keep h.h hs, (h.j.keepT k1 k2).mono (Nat.le_refl _) hz, SlW.keep h.b hs, SlW.keep h.e hs⟩
theorem OutF.below (h : OutF lo hi w c js bs y) (hb : Below w.heap.size w w') (hh : hi ≤ w.heap.size) : OutF lo hi w' c js bs y := h.upd (.below hb hh) (.below hb) (.below hb) hb.size
theorem OutX.below (h : OutX lo hi w c js y g) (hb : Below w.heap.size w w') (hh : hi ≤ w.heap.size) : OutX lo hi w' c js y g := by
  obtain ⟨rows, r1, r2, r3⟩ := h.j
  exact ⟨h.s.below hb hh, SlW.below h.h hb hh, ⟨rows, SlW.mono (SlW.below r1 hb (Nat.le_refl _)) (Nat.le_refl _) hb.size, (r2.keep (.below hb (Nat.le_refl _))).mono (Nat.le_refl _) hb.size, r3⟩, Own.below h.b hb, h.ba, h.bg, SlW.below h.e hb hh⟩
theorem OutCr.f (h : OutCr lo hi w c y l u l' u') (hh : hi ≤ w.heap.size) : OutF lo hi w c c.js c.bs y := ⟨h.s, h.h, h.j.mono h.jl (Nat.le_trans h.ju hh), SlW.mono h.b h.bl h.bu, h.e⟩

theorem OutCr.setJob (h : OutCr lo hi w c y l u l' u') (hh : hi ≤ w.heap.size) {gJ i : Nat} (hg : y.b.A = some ⟨g, 0, none⟩) (hJ : y.j.A = some ⟨gJ, 0, none⟩) (hil : i < y.j.n) {a : Jw} {m : List Int} (ha : IntsW hi w.heap.size w a.A a.n a.cap m) :
    OutX lo hi (w.setCell ⟨gJ, i, none⟩ (.slice a.A a.n a.cap)) c (c.js.set i m) y g := by
  obtain ⟨rows, hr, he⟩ := h.j
  rcases hr.2 with ⟨h0, _⟩ | ⟨b, hb, hbu, ho⟩
  · rw [h0] at hJ; cases hJ
  rw [hb] at hJ
  injection hJ with hJ
  injection hJ with hJ
  subst hJ
  have hrl : rows.length = y.j.n := hr.1
  have hri : rows[i]? = some (rows[i]'(by omega)) := List.getElem?_eq_getElem (by omega)
  have ho2 := Own.set1 ho Jw.cs_len (j := 0) (u := .slice a.A a.n a.cap) (x' := a) hri (by omega) rfl
  rw [Nat.mul_one, Nat.add_zero] at ho2
  obtain ⟨_, _, _, _, cur, hbox, _⟩ := ho
  have hk : ∀ T, 59 ≠ T → KeepT T w (w.setCell ⟨b, i, none⟩ (.slice a.A a.n a.cap)) := fun T hT => KeepT.set hbox hT i _
  have hsz : (w.setCell ⟨b, i, none⟩ (.slice a.A a.n a.cap)).heap.size = w.heap.size := by simp
  have hbb : Own ic 1 2 l' w g y.b.n y.b.cap c.bs ∧ g < u' := by
    rcases h.b.2 with ⟨h0, _⟩ | ⟨b', hb', hbu', ho'⟩
    · rw [h0] at hg; cases hg
    · rw [hb'] at hg
      injection hg with hg
      injection hg with hg
      subst hg
      exact ⟨ho', hbu'⟩
  have q1 := h.jl
  have q2 := h.ju
  have q3 := h.bl
  have q4 := h.bu
  have q5 : l' ≤ g := hbb.1.2.1
  have q6 := hbb.2
  have q7 := h.x
  refine ⟨h.s.keepT (hk _ (by decide)) (hk _ (by decide)), SlW.keepT h.h (hk _ (by decide)), ⟨rows.set i a, ?_, ?_, ?_⟩, Own.keepT (Own.mono hbb.1 h.bl) (hk _ (by decide)), hg, by omega, SlW.keepT h.e (hk _ (by decide))⟩
  · refine ⟨by simpa using hr.1, .inr ⟨b, hb, by rw [hsz]; omega, Own.mono ho2 h.jl⟩⟩
  · refine ⟨by simp [he.1], fun k x m' hx hm => ?_⟩
    rw [hsz]
    by_cases hki : i = k
    · subst hki
      rw [List.getElem?_set_self (by omega)] at hx
      rw [List.getElem?_set_self (by have := he.1; omega)] at hm
      injection hx with hx
      injection hm with hm
      subst hx hm
      exact SlW.mono (SlW.keepT ha (hk _ (by decide))) (by omega) (Nat.le_refl _)
    · rw [List.getElem?_set_ne hki] at hx hm
      exact SlW.mono (SlW.keepT (he.2 k x m' hx hm) (hk _ (by decide))) (by omega) (by omega)
  · intro k x ad hx hA
    by_cases hki : i = k
    · subst hki
      rw [List.getElem?_set_self (by omega)] at hx
      injection hx with hx
      subst hx
      rcases ha.2 with ⟨h0, _⟩ | ⟨b', hb', _, ho'⟩
      · rw [h0] at hA; cases hA
      · rw [hb'] at hA
        injection hA with hA
        subst hA
        have := ho'.2.1
        show b' ≠ g
        omega
    · rw [List.getElem?_set_ne hki] at hx
      have hkl : k < c.js.length := by have := (List.getElem?_eq_some_iff.1 hx).1; have := he.1; omega
      rcases (he.2 k x _ hx (List.getElem?_eq_getElem hkl)).2 with ⟨h0, _⟩ | ⟨b', hb', hbu', ho'⟩
      · rw [h0] at hA; cases hA
      · rw [hb'] at hA
        injection hA with hA
        subst hA
        have := ho'.2.1
        show b' ≠ g
        omega

theorem OutCr.jrow (h : OutCr lo hi w c y l u l' u') {gJ i : Nat} (hJ : y.j.A = some ⟨gJ, 0, none⟩) (hil : i < y.j.n) : (∃ v, w.cell? ⟨gJ, i, none⟩ = some v) ∧ (∀ o, w.frozen? ⟨gJ, o, none⟩ = false) ∧ ∃ cur, BoxAt w gJ cur 59 := by
  obtain ⟨rows, hr, he⟩ := h.j
  rcases hr.2 with ⟨h0, _⟩ | ⟨b, hb, hbu, ho⟩
  · rw [h0] at hJ; cases hJ
  rw [hb] at hJ
  injection hJ with hJ
  injection hJ with hJ
  subst hJ
  have hrl : rows.length = y.j.n := hr.1
  have hri : rows[i]? = some (rows[i]'(by omega)) := List.getElem?_eq_getElem (by omega)
  have hc := Own.cell_ Jw.cs_len ho (j := 0) hri rfl
  rw [Nat.mul_one, Nat.add_zero] at hc
  refine ⟨⟨_, hc⟩, Own.frozen_ ho, ?_⟩
  obtain ⟨_, _, _, _, cur, hbox, _⟩ := ho
  exact ⟨cur, hbox⟩
theorem OutCr.jpos (h : OutCr lo hi w c y l u l' u') {gJ : Nat} (hJ : y.j.A = some ⟨gJ, 0, none⟩) : lo ≤ gJ ∧ gJ < hi := by
  obtain ⟨rows, hr, he⟩ := h.j
  have := h.jl
  have := h.ju
  rcases hr.2 with ⟨h0, _⟩ | ⟨b, hb, hbu, ho⟩
  · rw [h0] at hJ; cases hJ
  rw [hb] at hJ
  injection hJ with hJ
  injection hJ with hJ
  have := ho.2.1
  omega
theorem IntsW.belowS {M n cap : Nat} {A : Option Addr} {m : List Int} (h : IntsW M w.heap.size w A n cap m) (hb : Below w.heap.size w w') : IntsW M w'.heap.size w' A n cap m := SlW.mono (SlW.below h hb (Nat.le_refl _)) (Nat.le_refl _) hb.size

theorem OutX.setBeg (h : OutX lo hi w c js y g) {i : Nat} (hil : i < y.b.n) (v : Int) : OutF lo hi (w.setCell ⟨g, i, none⟩ (.int .i64 v)) c js (c.bs.set i v) y := by
  have hbl : c.bs.length = y.b.n := h.b.1
  have hbi : c.bs[i]? = some (c.bs[i]'(by omega)) := List.getElem?_eq_getElem (by omega)
  have hb2 := Own.set1 h.b ic_len (j := 0) (u := .int .i64 v) (x' := v) hbi (by omega) rfl
  rw [Nat.mul_one, Nat.add_zero] at hb2
  have hb0 := h.b
  obtain ⟨_, _, _, _, cur, hbox, _⟩ := hb0
  have hk : ∀ T, 2 ≠ T → KeepT T w (w.setCell ⟨g, i, none⟩ (.int .i64 v)) := fun T hT => KeepT.set hbox hT i _
  have hsz : (w.setCell ⟨g, i, none⟩ (.int .i64 v)).heap.size = w.heap.size := by simp
  obtain ⟨rows, r1, r2, r3⟩ := h.j
  refine ⟨h.s.keepT (hk _ (by decide)) (hk _ (by decide)), SlW.keepT h.h (hk _ (by decide)), ⟨rows, ?_, ?_⟩, ⟨by simpa using h.b.1, .inr ⟨g, h.ba, h.bg, hb2⟩⟩, SlW.keepT h.e (hk _ (by decide))⟩
  · rw [hsz]; exact SlW.keepT r1 (hk _ (by decide))
  · rw [hsz]
    refine ⟨r2.1, fun k x m hx hm => ?_⟩
    have hx2 := r2.2 k x m hx hm
    refine ⟨hx2.1, ?_⟩
    rcases hx2.2 with h0 | ⟨b', hb', hbu', ho'⟩
    · exact .inl h0
    · refine .inr ⟨b', hb', hbu', Own.keep ho' (Below.heap_setCell w ⟨g, i, none⟩ _ b' ?_)⟩
      exact r3 k x _ hx hb'

/-- The list without its first one, as it is cut. -/
theorem src_drop {ga n cap : Nat} {jl : List Int} {A : Option Addr} (h : IntsW lo hi w (some ⟨ga, 0, none⟩) n cap jl) (hn : 1 ≤ n) (hA : (cap = 1 ∧ A = some ⟨ga, 0, none⟩) ∨ A = some ⟨ga, 1, none⟩) : SrcW ic w A (n - 1) (cap - 1) (jl.drop 1) := by
  have hs := SlW.src h ic_len
  have hnc : n ≤ cap := by
    rcases h.2 with ⟨h0, _⟩ | ⟨b', hb', _, ho'⟩
    · cases h0
    · exact ho'.2.2.1
  have hl : jl.length = n := h.1
  refine ⟨by simp [hl], fun h0 => ?_, fun ad had j u hu => ?_⟩
  · rcases hA with ⟨_, hA⟩ | hA <;> rw [hA] at h0 <;> cases h0
  · rcases hA with ⟨hc, hA⟩ | hA
    · have : jl.drop 1 = [] := by
        apply List.eq_nil_of_length_eq_zero
        simp [hl]; omega
      rw [this] at hu
      simp at hu
    · rw [hA] at had
      injection had with had
      subst had
      have := hs.2.2 _ rfl (j + 1) u (by
        rw [← hu]
        cases jl with
        | nil => simp at hl; omega
        | cons z jl => simp [ic])
      have e1 : (⟨ga, 0, none⟩ : Addr).add (j + 1) = ⟨ga, j + 1, none⟩ := by simp [Addr.add]
      have e2 : (⟨ga, 1, none⟩ : Addr).add j = ⟨ga, j + 1, none⟩ := by
        by_cases hj : j = 0
        · subst hj; simp [Addr.add]
        · simp [Addr.add, hj]; omega
      rw [e1] at this
      rw [e2]
      exact this
end

theorem Own.box {α : Type} {f : α → List Value} {k : Nat} {e : TypeId} {N : Nat} {w : World} {g n cap : Nat} {l : List α} (h : Own f k e N w g n cap l) : ∃ cur, BoxAt w g cur e := by
  obtain ⟨_, _, _, _, cur, hb, _⟩ := h
  exact ⟨cur, hb⟩
theorem BoxAt.keepT {w w' : World} {k : Nat} {cs : Array Value} {T : TypeId} (h : BoxAt w k cs T) (hk : KeepT T w w') : BoxAt w' k cs T := by
  have := hk k cs h
  unfold BoxAt at *
  rw [this]; exact h
theorem stepped_ok {s : St} {h : Hd} (hb : (stepped s h).2.2 = true) : stOk (stepped s h).1 = true := by
  have key : ∀ (f : St → Hd → St × Hd × Bool) (b : Int → Bool), (stepS f b s h).2.2 = true → stOk (stepS f b s h).1 = true := by
    intro f b hk
    unfold stepS at hk ⊢
    split at hk
    · cases hk
    · split at hk
      · cases hk
      · split at hk
        · cases hk
        · rename_i h1 h2 h3
          rw [if_neg h1, if_neg h2, if_neg h3]
          simp only [Bool.or_eq_true, Bool.not_eq_true', not_or, Bool.not_eq_false] at h3
          exact h3.2
  unfold stepped at hb ⊢
  split
  · rename_i hp; rw [if_pos hp] at hb; exact key _ _ hb
  · rename_i hp; rw [if_neg hp] at hb; exact key _ _ hb

theorem l5PuttingB (z : Int) (w : World) : Calls Try.prog 57 #[.int .i64 z] w (RetBelow (.bool (putB z)) w) := by
  refine (l5Putting_any z w).mono ?_
  rintro e w' ⟨rfl, rfl⟩
  exact ⟨rfl, Below.refl _ _⟩

/-- A crew's lists but for its events. -/
structure CrP (lo : Nat) (w : World) (c : Cr) (y : CrL) : Prop where
  s : RgsW lo w.heap.size w y.s.A y.s.n y.s.cap c.st.rs
  h : HdsW lo w.heap.size w y.h.A y.h.n y.h.cap c.hs
  j : ListsW lo w.heap.size w y.j.A y.j.n y.j.cap c.js
  b : IntsW lo w.heap.size w y.b.A y.b.n y.b.cap c.bs
section
variable {lo : Nat} {w w' : World} {c : Cr} {y : CrL}
theorem CrP.keepT (h : CrP lo w c y) (k1 : KeepT 39 w w') (k2 : KeepT 27 w w') (k3 : KeepT 41 w w') (k4 : KeepT 2 w w') (k5 : KeepT 59 w w') (hz : w.heap.size ≤ w'.heap.size) : CrP lo w' c y :=
  ⟨(h.s.keepT k1 k2).mono (Nat.le_refl _) hz, SlW.mono (SlW.keepT h.h k3) (Nat.le_refl _) hz, (h.j.keepT k4 k5).mono (Nat.le_refl _) hz, SlW.mono (SlW.keepT h.b k4) (Nat.le_refl _) hz⟩
theorem CrP.belowS (h : CrP lo w c y) (hb : Below w.heap.size w w') : CrP lo w' c y := h.keepT (.below hb) (.below hb) (.below hb) (.below hb) (.below hb) hb.size
theorem CrP.drew (h : CrP lo w c y) : CrP lo w.drew c y := ⟨h.s, h.h, h.j, h.b⟩
theorem CrP.setsE (h : CrP lo w c y) {b : Nat} {cs : Array Value} (hk : BoxAt w b cs 110) (us : List Value) (o : Nat) : CrP lo (setCells w b o us) c y :=
  h.keepT (.sets hk (by decide) us o) (.sets hk (by decide) us o) (.sets hk (by decide) us o) (.sets hk (by decide) us o) (.sets hk (by decide) us o) (Nat.le_of_eq (sets_size us o w).symm)
theorem CrP.setsC (h : CrP lo w c y) {b : Nat} {cs : Array Value} (hk : BoxAt w b cs 88) (us : List Value) (o : Nat) : CrP lo (setCells w b o us) c y :=
  h.keepT (.sets hk (by decide) us o) (.sets hk (by decide) us o) (.sets hk (by decide) us o) (.sets hk (by decide) us o) (.sets hk (by decide) us o) (Nat.le_of_eq (sets_size us o w).symm)
theorem CrP.crw (h : CrP lo w c y) (he : EvsW lo w.heap.size w y.e.A y.e.n y.e.cap c.es) : CrW lo w.heap.size w c y := ⟨h.s, h.h, h.j, h.b, he⟩
end

end Go.Proofs.Ytbdgkmamieagfaa

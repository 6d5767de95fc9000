/-
 A turn, as a plain function on plain data.
-/
import Derived.Test.YtibmbanbaopeiaaGreatCrewD
import Derived.Test.YtibmbanbaopeiaaGreatCurB
namespace Go.Proofs.YtibmbanbaopeiaaGreat
set_option linter.unusedSimpArgs false
set_option linter.unusedVariables false
open Go.RowKit
set_option linter.unusedVariables false

def jobH (h : Hd) (z : Int) : Hd := if 0 < z then (toPut h z).1 else (toTake h).1
def goH (c : Cr) (i : Nat) : Hd := if (c.hs.getD i .zero).at_ = 0 then jobH (c.hs.getD i .zero) ((c.js.getD i []).getD 0 0) else c.hs.getD i .zero
def goC (c : Cr) (i : Nat) : Cr := if (c.hs.getD i .zero).at_ = 0 then { c with ck := c.ck + 1, js := c.js.set i ((c.js.getD i []).drop 1), bs := c.bs.set i (c.ck + 1) } else { c with ck := c.ck + 1 }
def evt (who : Int) (i : Nat) (h y : Hd) (c : Cr) : Ev := ⟨who, putB h.at_, bif putB h.at_ then h.v else y.v, y.re, c.bs.getD i 0, c.ck⟩
def endC (who : Int) (i : Nat) (h : Hd) (q : St × Hd × Bool) (c : Cr) : Cr := { c with st := q.1, hs := c.hs.set i q.2.1, es := if q.2.1.at_ = 0 then c.es ++ [evt who i h q.2.1 c] else c.es }
def newC (c : Cr) (who : Int) (i : Nat) : Cr := endC who i (goH c i) (stepped c.st (goH c i)) (goC c i)
def turnS (c : Cr) (who : Int) : Cr × Bool :=
 if !inB who 0 ((c.hs.length : Int) - 1) || c.ck == 2000 then (c, false)
 else if (c.hs.getD who.toNat .zero).at_ == 0 && (c.js.getD who.toNat []).length == 0 then (c, false)
 else if !(stepped c.st (goH c who.toNat)).2.2 then (c, false)
 else if crOk (newC c who who.toNat) then (newC c who who.toNat, true) else (c, false)

theorem turnS_ok {c : Cr} (h : crOk c = true) (who : Int) : crOk (turnS c who).1 = true := by
 unfold turnS
 split
 · exact h
 ·
  split
  · exact h
  ·
   split
   · exact h
   ·
    split
    · assumption
    · exact h

section
variable {c : Cr} {i : Nat} (h1 : (!inB (i : Int) 0 ((c.hs.length : Int) - 1) || c.ck == 2000) = false)
include h1
theorem turnS_no1 (h2 : ((c.hs.getD i .zero).at_ == 0 && (c.js.getD i []).length == 0) = true) : turnS c i = (c, false) := by
 unfold turnS; rw [h1, Int.toNat_natCast, h2]; rfl
theorem turnS_no2 (h2 : ((c.hs.getD i .zero).at_ == 0 && (c.js.getD i []).length == 0) = false) (h3 : (stepped c.st (goH c i)).2.2 = false) : turnS c i = (c, false) := by
 unfold turnS; rw [h1, Int.toNat_natCast, h2, h3]; rfl
theorem turnS_no3 (h2 : ((c.hs.getD i .zero).at_ == 0 && (c.js.getD i []).length == 0) = false) (h3 : (stepped c.st (goH c i)).2.2 = true) (h4 : crOk (newC c i i) = false) : turnS c i = (c, false) := by
 unfold turnS; rw [h1, Int.toNat_natCast, h2, h3, h4]; rfl
theorem turnS_yes (h2 : ((c.hs.getD i .zero).at_ == 0 && (c.js.getD i []).length == 0) = false) (h3 : (stepped c.st (goH c i)).2.2 = true) (h4 : crOk (newC c i i) = true) : turnS c i = (newC c i i, true) := by
 unfold turnS; rw [h1, Int.toNat_natCast, h2, h3, h4]; rfl
end

theorem goC_st (c : Cr) (i : Nat) : (goC c i).st = c.st := by unfold goC; split <;> rfl
theorem goC_hs (c : Cr) (i : Nat) : (goC c i).hs = c.hs := by unfold goC; split <;> rfl
theorem goC_es (c : Cr) (i : Nat) : (goC c i).es = c.es := by unfold goC; split <;> rfl
theorem goC_ck (c : Cr) (i : Nat) : (goC c i).ck = c.ck + 1 := by unfold goC; split <;> rfl
theorem goC_bsl (c : Cr) (i : Nat) : (goC c i).bs.length = c.bs.length := by unfold goC; split <;> simp
theorem goC_jsl (c : Cr) (i : Nat) : (goC c i).js.length = c.js.length := by unfold goC; split <;> simp
theorem goC_jl {c : Cr} (h : CrNeat c) (i : Nat) : ∀ l ∈ (goC c i).js, l.length ≤ 4 := by
 intro l hl
 unfold goC at hl
 split at hl
 ·
  have hl' : l ∈ c.js.set i ((c.js.getD i []).drop 1) := hl
  rcases List.mem_or_eq_of_mem_set hl' with h1 | h1
  · exact h.l l h1
  ·
   rw [h1]
   by_cases hi : i < c.js.length
   ·
    have := h.l _ (List.getElem_mem hi)
    rw [List.getD_eq_getElem?_getD, List.getElem?_eq_getElem hi]
    simp
    omega
   ·
    rw [List.getD_eq_getElem?_getD, List.getElem?_eq_none (by omega)]
    simp
 · exact h.l l hl

/-- What came of a turn is no longer than what is reckoned with. -/
theorem newC_fit {c : Cr} (h : CrNeat c) (who : Int) (i : Nat) (hn : Neat (stepped c.st (goH c i)).1) : CrFit (newC c who i) := by
 have hf := h.fit
 refine ⟨?_, ?_, ?_, ?_, ?_, ?_, ?_⟩
 · have := hn.2.1; show (stepped c.st (goH c i)).1.rs.length ≤ _; omega
 · exact hn.len
 ·
  show ((goC c i).hs.set i _).length ≤ _
  rw [List.length_set, goC_hs]; exact hf.h
 ·
  show (goC c i).js.length ≤ _
  rw [goC_jsl]; exact hf.j
 ·
  intro l hl
  have := goC_jl h i l hl
  omega
 ·
  show (goC c i).bs.length ≤ _
  rw [goC_bsl]; exact hf.b
 ·
  show (if _ then (goC c i).es ++ [_] else (goC c i).es).length ≤ _
  have := h.e
  split
  · rw [List.length_append, goC_es]; simp; omega
  · rw [goC_es]; omega

/-- A copy that a turn works on: its lists, and where they lie. -/
structure OutCr (lo hi : Nat) (w : World) (c : Cr) (y : CrL) (l u l' u' : Nat) : Prop where
 s : RgsW lo hi w y.s.A y.s.n y.s.cap c.st.rs
 h : HdsW lo hi w y.h.A y.h.n y.h.cap c.hs
 j : ListsW l u w y.j.A y.j.n y.j.cap c.js
 b : IntsW l' u' w y.b.A y.b.n y.b.cap c.bs
 e : EvsW lo hi w y.e.A y.e.n y.e.cap c.es
 x : u ≤ l' ∨ u' ≤ l
 jl : lo ≤ l
 ju : u ≤ hi
 bl : lo ≤ l'
 bu : u' ≤ hi
theorem OutCr.keep {lo hi : Nat} {w w' : World} {c : Cr} {y : CrL} {l u l' u' : Nat} (h : OutCr lo hi w c y l u l' u') (hs : SameIn lo hi w w') : OutCr lo hi w' c y l u l' u' :=
 have h1 := h.jl; have h2 := h.ju; have h3 := h.bl; have h4 := h.bu
 ⟨h.s.keep hs, SlW.keep h.h hs, h.j.keep (fun j a b => hs j (by omega) (by omega)), SlW.keep h.b (fun j a b => hs j (by omega) (by omega)), SlW.keep h.e hs, h.x, h.jl, h.ju, h.bl, h.bu⟩
theorem CopyCr.out {N : Nat} {w : World} {c : Cr} {y : CrL} {l u l' u' : Nat} (h : CopyCr N w c y l u l' u') : OutCr N w.heap.size w c y l u l' u' := ⟨h.s, h.h, h.j.1, h.b.1, h.e, h.x, h.j.2.2, h.j.2.1, h.b.2.2, h.b.2.1⟩
theorem OutCr.crw {lo hi : Nat} {w : World} {c : Cr} {y : CrL} {l u l' u' : Nat} (h : OutCr lo hi w c y l u l' u') : CrW lo hi w c y := ⟨h.s, h.h, h.j.mono h.jl h.ju, SlW.mono h.b h.bl h.bu, h.e⟩

/-- Lists of which none lies in block g. -/
def ListsX (g lo hi : Nat) (w : World) (A : Option Addr) (n cap : Nat) (L : List (List Int)) : Prop :=
 ∃ rows : List Jw, SlW Jw.cs 1 32 lo hi w A n cap rows ∧ EachW lo hi w rows L ∧ ∀ (i : Nat) (a : Jw) (b : Addr), rows[i]? = some a → a.A = some b → b.block ≠ g
/-- A copy whose jobs are turned. -/
structure OutX (lo hi : Nat) (w : World) (c : Cr) (js : List (List Int)) (y : CrL) (g : Nat) : Prop where
 s : RgsW lo hi w y.s.A y.s.n y.s.cap c.st.rs
 h : HdsW lo hi w y.h.A y.h.n y.h.cap c.hs
 j : ListsX g lo w.heap.size w y.j.A y.j.n y.j.cap js
 b : Own ic 1 2 lo w g y.b.n y.b.cap c.bs
 ba : y.b.A = some ⟨g, 0, none⟩
 bg : g < hi
 e : EvsW lo hi w y.e.A y.e.n y.e.cap c.es
/-- A copy whose jobs and beginnings are turned. -/
structure OutF (lo hi : Nat) (w : World) (c : Cr) (js : List (List Int)) (bs : List Int) (y : CrL) : Prop where
 s : RgsW lo hi w y.s.A y.s.n y.s.cap c.st.rs
 h : HdsW lo hi w y.h.A y.h.n y.h.cap c.hs
 j : ListsW lo w.heap.size w y.j.A y.j.n y.j.cap js
 b : IntsW lo hi w y.b.A y.b.n y.b.cap bs
 e : EvsW lo hi w y.e.A y.e.n y.e.cap c.es

section
variable {lo hi : Nat} {w w' : World} {c : Cr} {js : List (List Int)} {bs : List Int} {y : CrL} {g l u l' u' : Nat}
theorem OutF.upd (h : OutF lo hi w c js bs y) (hs : SameIn lo hi w w') (k1 : KeepT 2 w w') (k2 : KeepT 32 w w') (hz : w.heap.size ≤ w'.heap.size) : OutF lo hi w' c js bs y :=
 ⟨h.s.keep hs, SlW.keep h.h hs, (h.j.keepT k1 k2).mono (Nat.le_refl _) hz, SlW.keep h.b hs, SlW.keep h.e hs⟩
theorem OutF.below (h : OutF lo hi w c js bs y) (hb : Below w.heap.size w w') (hh : hi ≤ w.heap.size) : OutF lo hi w' c js bs y := h.upd (.below hb hh) (.below hb) (.below hb) hb.size
theorem OutX.below (h : OutX lo hi w c js y g) (hb : Below w.heap.size w w') (hh : hi ≤ w.heap.size) : OutX lo hi w' c js y g := by
 obtain ⟨rows, r1, r2, r3⟩ := h.j
 exact ⟨h.s.below hb hh, SlW.below h.h hb hh, ⟨rows, SlW.mono (SlW.below r1 hb (Nat.le_refl _)) (Nat.le_refl _) hb.size, (r2.keep (.below hb (Nat.le_refl _))).mono (Nat.le_refl _) hb.size, r3⟩, Own.below h.b hb, h.ba, h.bg, SlW.below h.e hb hh⟩
theorem OutCr.f (h : OutCr lo hi w c y l u l' u') (hh : hi ≤ w.heap.size) : OutF lo hi w c c.js c.bs y := ⟨h.s, h.h, h.j.mono h.jl (Nat.le_trans h.ju hh), SlW.mono h.b h.bl h.bu, h.e⟩

theorem OutCr.setJob (h : OutCr lo hi w c y l u l' u') (hh : hi ≤ w.heap.size) {gJ i : Nat} (hg : y.b.A = some ⟨g, 0, none⟩) (hJ : y.j.A = some ⟨gJ, 0, none⟩) (hil : i < y.j.n) {a : Jw} {m : List Int} (ha : IntsW hi w.heap.size w a.A a.n a.cap m) :
  OutX lo hi (w.setCell ⟨gJ, i, none⟩ (.slice a.A a.n a.cap)) c (c.js.set i m) y g := by
 obtain ⟨rows, hr, he⟩ := h.j
 rcases hr.2 with ⟨h0, _⟩ | ⟨b, hb, hbu, ho⟩
 · rw [h0] at hJ; cases hJ
 rw [hb] at hJ
 injection hJ with hJ
 injection hJ with hJ
 subst hJ
 have hrl : rows.length = y.j.n := hr.1
 have hri : rows[i]? = some (rows[i]'(by omega)) := List.getElem?_eq_getElem (by omega)
 have ho2 := Own.set1 ho Jw.cs_len (j := 0) (u := .slice a.A a.n a.cap) (x' := a) hri (by omega) rfl
 rw [Nat.mul_one, Nat.add_zero] at ho2
 obtain ⟨_, _, _, _, cur, hbox, _⟩ := ho
 have hk : ∀ T, 32 ≠ T → KeepT T w (w.setCell ⟨b, i, none⟩ (.slice a.A a.n a.cap)) := fun T hT => KeepT.set hbox hT i _
 have hsz : (w.setCell ⟨b, i, none⟩ (.slice a.A a.n a.cap)).heap.size = w.heap.size := by simp
 have hbb : Own ic 1 2 l' w g y.b.n y.b.cap c.bs ∧ g < u' := by
  rcases h.b.2 with ⟨h0, _⟩ | ⟨b', hb', hbu', ho'⟩
  · rw [h0] at hg; cases hg
  ·
   rw [hb'] at hg
   injection hg with hg
   injection hg with hg
   subst hg
   exact ⟨ho', hbu'⟩
 have q1 := h.jl
 have q2 := h.ju
 have q3 := h.bl
 have q4 := h.bu
 have q5 : l' ≤ g := hbb.1.2.1
 have q6 := hbb.2
 have q7 := h.x
 refine ⟨h.s.keepT (hk _ (by decide)) (hk _ (by decide)), SlW.keepT h.h (hk _ (by decide)), ⟨rows.set i a, ?_, ?_, ?_⟩, Own.keepT (Own.mono hbb.1 h.bl) (hk _ (by decide)), hg, by omega, SlW.keepT h.e (hk _ (by decide))⟩
 · refine ⟨by simpa using hr.1, .inr ⟨b, hb, by rw [hsz]; omega, Own.mono ho2 h.jl⟩⟩
 ·
  refine ⟨by simp [he.1], fun k x m' hx hm => ?_⟩
  rw [hsz]
  by_cases hki : i = k
  ·
   subst hki
   rw [List.getElem?_set_self (by omega)] at hx
   rw [List.getElem?_set_self (by have := he.1; omega)] at hm
   injection hx with hx
   injection hm with hm
   subst hx hm
   exact SlW.mono (SlW.keepT ha (hk _ (by decide))) (by omega) (Nat.le_refl _)
  ·
   rw [List.getElem?_set_ne hki] at hx hm
   exact SlW.mono (SlW.keepT (he.2 k x m' hx hm) (hk _ (by decide))) (by omega) (by omega)
 ·
  intro k x ad hx hA
  by_cases hki : i = k
  ·
   subst hki
   rw [List.getElem?_set_self (by omega)] at hx
   injection hx with hx
   subst hx
   rcases ha.2 with ⟨h0, _⟩ | ⟨b', hb', _, ho'⟩
   · rw [h0] at hA; cases hA
   ·
    rw [hb'] at hA
    injection hA with hA
    subst hA
    have := ho'.2.1
    show b' ≠ g
    omega
  ·
   rw [List.getElem?_set_ne hki] at hx
   have hkl : k < c.js.length := by have := (List.getElem?_eq_some_iff.1 hx).1; have := he.1; omega
   rcases (he.2 k x _ hx (List.getElem?_eq_getElem hkl)).2 with ⟨h0, _⟩ | ⟨b', hb', hbu', ho'⟩
   · rw [h0] at hA; cases hA
   ·
    rw [hb'] at hA
    injection hA with hA
    subst hA
    have := ho'.2.1
    show b' ≠ g
    omega

theorem OutCr.jrow (h : OutCr lo hi w c y l u l' u') {gJ i : Nat} (hJ : y.j.A = some ⟨gJ, 0, none⟩) (hil : i < y.j.n) : (∃ v, w.cell? ⟨gJ, i, none⟩ = some v) ∧ (∀ o, w.frozen? ⟨gJ, o, none⟩ = false) ∧ ∃ cur, BoxAt w gJ cur 32 := by
 obtain ⟨rows, hr, he⟩ := h.j
 rcases hr.2 with ⟨h0, _⟩ | ⟨b, hb, hbu, ho⟩
 · rw [h0] at hJ; cases hJ
 rw [hb] at hJ
 injection hJ with hJ
 injection hJ with hJ
 subst hJ
 have hrl : rows.length = y.j.n := hr.1
 have hri : rows[i]? = some (rows[i]'(by omega)) := List.getElem?_eq_getElem (by omega)
 have hc := Own.cell_ Jw.cs_len ho (j := 0) hri rfl
 rw [Nat.mul_one, Nat.add_zero] at hc
 refine ⟨⟨_, hc⟩, Own.frozen_ ho, ?_⟩
 obtain ⟨_, _, _, _, cur, hbox, _⟩ := ho
 exact ⟨cur, hbox⟩
theorem OutCr.jpos (h : OutCr lo hi w c y l u l' u') {gJ : Nat} (hJ : y.j.A = some ⟨gJ, 0, none⟩) : lo ≤ gJ ∧ gJ < hi := by
 obtain ⟨rows, hr, he⟩ := h.j
 have := h.jl
 have := h.ju
 rcases hr.2 with ⟨h0, _⟩ | ⟨b, hb, hbu, ho⟩
 · rw [h0] at hJ; cases hJ
 rw [hb] at hJ
 injection hJ with hJ
 injection hJ with hJ
 have := ho.2.1
 omega
theorem IntsW.belowS {M n cap : Nat} {A : Option Addr} {m : List Int} (h : IntsW M w.heap.size w A n cap m) (hb : Below w.heap.size w w') : IntsW M w'.heap.size w' A n cap m := SlW.mono (SlW.below h hb (Nat.le_refl _)) (Nat.le_refl _) hb.size

theorem OutX.setBeg (h : OutX lo hi w c js y g) {i : Nat} (hil : i < y.b.n) (v : Int) : OutF lo hi (w.setCell ⟨g, i, none⟩ (.int .i64 v)) c js (c.bs.set i v) y := by
 have hbl : c.bs.length = y.b.n := h.b.1
 have hbi : c.bs[i]? = some (c.bs[i]'(by omega)) := List.getElem?_eq_getElem (by omega)
 have hb2 := Own.set1 h.b ic_len (j := 0) (u := .int .i64 v) (x' := v) hbi (by omega) rfl
 rw [Nat.mul_one, Nat.add_zero] at hb2
 have hb0 := h.b
 obtain ⟨_, _, _, _, cur, hbox, _⟩ := hb0
 have hk : ∀ T, 2 ≠ T → KeepT T w (w.setCell ⟨g, i, none⟩ (.int .i64 v)) := fun T hT => KeepT.set hbox hT i _
 have hsz : (w.setCell ⟨g, i, none⟩ (.int .i64 v)).heap.size = w.heap.size := by simp
 obtain ⟨rows, r1, r2, r3⟩ := h.j
 refine ⟨h.s.keepT (hk _ (by decide)) (hk _ (by decide)), SlW.keepT h.h (hk _ (by decide)), ⟨rows, ?_, ?_⟩, ⟨by simpa using h.b.1, .inr ⟨g, h.ba, h.bg, hb2⟩⟩, SlW.keepT h.e (hk _ (by decide))⟩
 · rw [hsz]; exact SlW.keepT r1 (hk _ (by decide))
 ·
  rw [hsz]
  refine ⟨r2.1, fun k x m hx hm => ?_⟩
  have hx2 := r2.2 k x m hx hm
  refine ⟨hx2.1, ?_⟩
  rcases hx2.2 with h0 | ⟨b', hb', hbu', ho'⟩
  · exact .inl h0
  ·
   refine .inr ⟨b', hb', hbu', Own.keep ho' (Below.heap_setCell w ⟨g, i, none⟩ _ b' ?_)⟩
   exact r3 k x _ hx hb'

/-- The list without its first one, as it is cut. -/
theorem src_drop {ga n cap : Nat} {jl : List Int} {A : Option Addr} (h : IntsW lo hi w (some ⟨ga, 0, none⟩) n cap jl) (hn : 1 ≤ n) (hA : (cap = 1 ∧ A = some ⟨ga, 0, none⟩) ∨ A = some ⟨ga, 1, none⟩) : SrcW ic w A (n - 1) (cap - 1) (jl.drop 1) := by
 have hs := SlW.src h ic_len
 have hnc : n ≤ cap := by
  rcases h.2 with ⟨h0, _⟩ | ⟨b', hb', _, ho'⟩
  · cases h0
  · exact ho'.2.2.1
 have hl : jl.length = n := h.1
 refine ⟨by simp [hl], fun h0 => ?_, fun ad had j u hu => ?_⟩
 · rcases hA with ⟨_, hA⟩ | hA <;> rw [hA] at h0 <;> cases h0
 ·
  rcases hA with ⟨hc, hA⟩ | hA
  ·
   have : jl.drop 1 = [] := by
    apply List.eq_nil_of_length_eq_zero
    simp [hl]; omega
   rw [this] at hu
   simp at hu
  ·
   rw [hA] at had
   injection had with had
   subst had
   have := hs.2.2 _ rfl (j + 1) u (by
    rw [← hu]
    cases jl with
    | nil => simp at hl; omega
    | cons z jl => simp [ic])
   have e1 : (⟨ga, 0, none⟩ : Addr).add (j + 1) = ⟨ga, j + 1, none⟩ := by simp [Addr.add]
   have e2 : (⟨ga, 1, none⟩ : Addr).add j = ⟨ga, j + 1, none⟩ := by
    by_cases hj : j = 0
    · subst hj; simp [Addr.add]
    · simp [Addr.add, hj]; omega
   rw [e1] at this
   rw [e2]
   exact this
end

theorem Own.box {α : Type} {f : α → List Value} {k : Nat} {e : TypeId} {N : Nat} {w : World} {g n cap : Nat} {l : List α} (h : Own f k e N w g n cap l) : ∃ cur, BoxAt w g cur e := by
 obtain ⟨_, _, _, _, cur, hb, _⟩ := h
 exact ⟨cur, hb⟩
theorem BoxAt.keepT {w w' : World} {k : Nat} {cs : Array Value} {T : TypeId} (h : BoxAt w k cs T) (hk : KeepT T w w') : BoxAt w' k cs T := by
 have := hk k cs h
 unfold BoxAt at *
 rw [this]; exact h
theorem stepped_ok {s : St} {h : Hd} (hb : (stepped s h).2.2 = true) : stOk (stepped s h).1 = true := by
 have key : ∀ (f : St → Hd → St × Hd × Bool) (b : Int → Bool), (stepS f b s h).2.2 = true → stOk (stepS f b s h).1 = true := by
  intro f b hk
  unfold stepS at hk ⊢
  split at hk
  · cases hk
  ·
   split at hk
   · cases hk
   ·
    split at hk
    · cases hk
    ·
     rename_i h1 h2 h3
     rw [if_neg h1, if_neg h2, if_neg h3]
     simp only [Bool.or_eq_true, Bool.not_eq_true', not_or, Bool.not_eq_false] at h3
     exact h3.2
 unfold stepped at hb ⊢
 split
 · rename_i hp; rw [if_pos hp] at hb; exact key _ _ hb
 · rename_i hp; rw [if_neg hp] at hb; exact key _ _ hb

theorem l5PuttingB (z : Int) (w : World) : Calls Tryz.prog 101 #[.int .i64 z] w (RetBelow (.bool (putB z)) w) := by
 refine (l5Putting_any z w).mono ?_
 rintro e w' ⟨rfl, rfl⟩
 exact ⟨rfl, Below.refl _ _⟩

/-- A crew's lists but for its events. -/
structure CrP (lo : Nat) (w : World) (c : Cr) (y : CrL) : Prop where
 s : RgsW lo w.heap.size w y.s.A y.s.n y.s.cap c.st.rs
 h : HdsW lo w.heap.size w y.h.A y.h.n y.h.cap c.hs
 j : ListsW lo w.heap.size w y.j.A y.j.n y.j.cap c.js
 b : IntsW lo w.heap.size w y.b.A y.b.n y.b.cap c.bs
section
variable {lo : Nat} {w w' : World} {c : Cr} {y : CrL}
theorem CrP.keepT (h : CrP lo w c y) (k1 : KeepT 58 w w') (k2 : KeepT 42 w w') (k3 : KeepT 116 w w') (k4 : KeepT 2 w w') (k5 : KeepT 32 w w') (hz : w.heap.size ≤ w'.heap.size) : CrP lo w' c y :=
 ⟨(h.s.keepT k1 k2).mono (Nat.le_refl _) hz, SlW.mono (SlW.keepT h.h k3) (Nat.le_refl _) hz, (h.j.keepT k4 k5).mono (Nat.le_refl _) hz, SlW.mono (SlW.keepT h.b k4) (Nat.le_refl _) hz⟩
theorem CrP.belowS (h : CrP lo w c y) (hb : Below w.heap.size w w') : CrP lo w' c y := h.keepT (.below hb) (.below hb) (.below hb) (.below hb) (.below hb) hb.size
theorem CrP.drew (h : CrP lo w c y) : CrP lo w.drew c y := ⟨h.s, h.h, h.j, h.b⟩
theorem CrP.setsE (h : CrP lo w c y) {b : Nat} {cs : Array Value} (hk : BoxAt w b cs 135) (us : List Value) (o : Nat) : CrP lo (setCells w b o us) c y :=
 h.keepT (.sets hk (by decide) us o) (.sets hk (by decide) us o) (.sets hk (by decide) us o) (.sets hk (by decide) us o) (.sets hk (by decide) us o) (Nat.le_of_eq (sets_size us o w).symm)
theorem CrP.setsC (h : CrP lo w c y) {b : Nat} {cs : Array Value} (hk : BoxAt w b cs 84) (us : List Value) (o : Nat) : CrP lo (setCells w b o us) c y :=
 h.keepT (.sets hk (by decide) us o) (.sets hk (by decide) us o) (.sets hk (by decide) us o) (.sets hk (by decide) us o) (.sets hk (by decide) us o) (Nat.le_of_eq (sets_size us o w).symm)
theorem CrP.crw (h : CrP lo w c y) (he : EvsW lo w.heap.size w y.e.A y.e.n y.e.cap c.es) : CrW lo w.heap.size w c y := ⟨h.s, h.h, h.j, h.b, he⟩
end

end Go.Proofs.YtibmbanbaopeiaaGreat

/-
 The walk of a turn, of the model.
-/
namespace Go.Proofs.YtibmbanbaopeiaaGreat
set_option linter.unusedSimpArgs false
set_option linter.unusedVariables false
open Go.RowKit
set_option linter.unusedVariables false
attribute [local go_sem] OpUpon
attribute [local go_sem ↓] Go.wp_at_zero Go.wp_at_succ

def tuJV (c : Cr) (N O Q M i n mS mE kS kH kJ kB kE cS cH cJ cB cE gh gj gJ gB ga n' cap' : Nat) (sA bA eA oS oH oE : Option Addr) (h0 : Hd) (jl : List Int) : List Sl := [.v (.pointer (some ⟨O, 6, none⟩)),
 .v (.slice (some ⟨gJ, 0, none⟩) n cJ),
 .v (.int .i64 ((i : Int))),
 .v (.pointer (some ⟨N, 6, none⟩)),
 .v (.slice (some ⟨gj, 0, none⟩) n kJ),
 .v (.int .i64 ((i : Int))),
 .v (.pointer (some ⟨gj, i, none⟩)),
 .v (.slice (some ⟨ga, 0, none⟩) n' cap'),
 .e fun σ w => ∃ (A8 : Option Addr), σ 8 = .slice A8 (n' - 1) (cap' - 1) ∧ ((cap' = 1 ∧ A8 = some ⟨ga, 0, none⟩) ∨ A8 = some ⟨ga, 1, none⟩),
 .e fun σ w => ∃ (A9 : Option Addr) (c9 : Nat), σ 9 = .slice A9 (n' - 1) c9 ∧ IntsW M w.heap.size w A9 (n' - 1) c9 (jl.drop 1),
 .v (.pointer (some ⟨gJ, i, none⟩)),
 .e fun σ w => ∃ (A9 : Option Addr), σ 11 = undef ∧ O ≤ w.heap.size ∧ OutX Q O w c (c.js.set i (jl.drop 1)) (⟨⟨oS, mS, cS⟩, ⟨oH, n, cH⟩, ⟨some ⟨gJ, 0, none⟩, n, cJ⟩, ⟨some ⟨gB, 0, none⟩, n, cB⟩, ⟨oE, mE, cE⟩⟩ : CrL) gB]

def tuEV (c : Cr) (M O X Y i n n5 c5 cH cJ cB mE cE gH gB : Nat) (A5 oJ oE : Option Addr) (h : Hd) (q : St × Hd × Bool) (bz : Int) : List Sl := [.v (.int .i64 ((i : Int))),
 .v (.pointer (some ⟨X, 0, none⟩)),
 .v (.int .i64 h.at_),
 .v (.bool (putB h.at_)),
 .v (.pointer (some ⟨Y, 1, none⟩)),
 .v (.int .i64 q.2.1.v),
 .v (.pointer (some ⟨Y, 11, none⟩)),
 .v (.int .i64 q.2.1.re),
 .v (.pointer (some ⟨O, 7, none⟩)),
 .v (.slice (some ⟨gB, 0, none⟩) n cB),
 .v (.int .i64 ((i : Int))),
 .v (.pointer (some ⟨gB, i, none⟩)),
 .v (.int .i64 bz),
 .v (.pointer (some ⟨O, 8, none⟩)),
 .v (.int .i64 ((newC c i i).ck)),
 .v (.agg #[.int .i64 ((i : Int)), .bool (putB h.at_), .int .i64 q.2.1.v, .int .i64 q.2.1.re, .int .i64 bz, .int .i64 ((newC c i i).ck)]),
 .e fun σ w => ∃ g16, σ 16 = .pointer (some ⟨g16, 0, none⟩) ∧ M ≤ g16 ∧ ∃ x0 x1 x2 x3 x4 x5, BoxAt w g16 #[x0, x1, x2, x3, x4, x5] 135,
 .e fun σ w => ∃ g16, σ 16 = .pointer (some ⟨g16, 0, none⟩) ∧ M ≤ g16 ∧ BoxAt w g16 #[.int .i64 ((i : Int)), .bool (putB h.at_), .int .i64 q.2.1.v, .int .i64 q.2.1.re, .int .i64 bz, .int .i64 ((newC c i i).ck)] 135]

set_option maxRecDepth 100000 in
set_option maxHeartbeats 8000000 in
theorem l10Turn_any (c : Cr) (y : CrL) (lo hi : Nat) (who : Int) (w : World) (hW0 : CrW lo hi w c y) (hh : hi ≤ w.heap.size) (hok : crOk c = true) :
  Calls Tryz.prog 91 #[crV c y, .int .i64 who] w (RetCrB (turnS c who) w) := by
 obtain ⟨iE, ei0, ez0, ez1, ez2⟩ := info_parts event_info
 have EI := Lib.hid ei0
 have EZ0 := Lib.hid ez0
 have EZ1 := Lib.hid ez1
 have EZ2 := Lib.hid ez2
 clear ei0 ez0 ez1 ez2
 have hnt := crOk_neat hok
 have HNT := Lib.hid hnt
 have HOK := Lib.hid hok
 obtain ⟨⟨sA, mS, kS⟩, ⟨hA, n, kH⟩, ⟨jA, mJ, kJ⟩, ⟨bA, mB, kB⟩, ⟨eA, mE, kE⟩⟩ := y
 have e1 : c.st.rs.length = mS := hW0.s.1
 have e2 : c.hs.length = n := hW0.h.1
 have e3 : c.js.length = mJ := hW0.j.len
 have e4 : c.bs.length = mB := hW0.b.1
 have e5 : c.es.length = mE := hW0.e.1
 obtain rfl : n = mJ := by have := hnt.j; omega
 obtain rfl : n = mB := by have := hnt.b; omega
 have E1 := Lib.hid e1
 have E2 := Lib.hid e2
 have E3 := Lib.hid e3
 have E4 := Lib.hid e4
 have E5 := Lib.hid e5
 have hn1 : 1 ≤ n := by have := hnt.h; omega
 have hn4 : n ≤ 4 := by have := hnt.h; omega
 have hS16 : mS ≤ 16 := by have := (stOk_neat hnt.s).2.1; omega
 have hE16 : mE ≤ 16 := by have := hnt.e; omega
 have hk0 : 0 ≤ c.ck := hnt.k.1
 have hk1 : c.ck ≤ 2000 := hnt.k.2
 clear e1 e2 e3 e4 e5 hnt hok
 unfold crV
 dsimp only
 go_enter Tryz.func91, Tryz.ntmps91
 go_wp2_with fail
 refine calls_abs (fun W => Below w.heap.size w W ∧ BoxAt W w.heap.size #[.int .i64 c.st.rd, .int .i64 c.st.mo, .slice sA mS kS, .int .i64 c.st.fi, .int .i64 c.st.la, .slice hA n kH, .slice jA n kJ, .slice bA n kB, .int .i64 c.ck, .slice eA mE kE] 84 ∧ BoxAt W (w.heap.size + 1) #[.int .i64 0, .int .i64 0, .slice none 0 0, .int .i64 0, .int .i64 0, .slice none 0 0, .slice none 0 0, .slice none 0 0, .int .i64 0, .slice none 0 0] 84) ⟨((Below.refl _ _).alloc (Nat.le_refl _) _).alloc (by simp) _, (BoxAt.new _ _ _).alloc _, BoxAt.new' (by simp)⟩ ?_
 rintro W0 ⟨hB, hx, hz⟩
 refine (l10Copy_any c (⟨⟨sA, mS, kS⟩, ⟨hA, n, kH⟩, ⟨jA, n, kJ⟩, ⟨bA, n, kB⟩, ⟨eA, mE, kE⟩⟩ : CrL) lo hi _ (hW0.below hB hh) (Nat.le_trans hh hB.size) HNT.out).mono ?_
 rintro e w1 ⟨y1, l, u, l', u', rfl, hC1, hb1⟩
 have hQ : w.heap.size + 2 ≤ W0.heap.size := by have := hz.lt; omega
 have hO := hC1.out
 replace hx := hx.below hb1 hx.lt
 replace hz := hz.below hb1 hz.lt
 replace hB := bstep hB hB.size hb1
 have hQ1 := hb1.size
 clear hb1 hC1
 obtain ⟨⟨oS, mS1, cS⟩, ⟨oH, n1, cH⟩, ⟨oJ, n2, cJ⟩, ⟨oB, n3, cB⟩, ⟨oE, mE1, cE⟩⟩ := y1
 obtain rfl : mS = mS1 := by have q : c.st.rs.length = mS1 := hO.s.1; have := E1.out; omega
 obtain rfl : n = n1 := by have q : c.hs.length = n1 := hO.h.1; have := E2.out; omega
 obtain rfl : n = n2 := by have q : c.js.length = n2 := hO.j.len; have := E3.out; omega
 obtain rfl : n = n3 := by have q : c.bs.length = n3 := hO.b.1; have := E4.out; omega
 obtain rfl : mE = mE1 := by have q : c.es.length = mE1 := hO.e.1; have := E5.out; omega
 unfold crV
 dsimp only
 go_upto_region 2 with fail
 refine wp_abs (fun W => Below w.heap.size w W ∧ BoxAt W w.heap.size #[.int .i64 c.st.rd, .int .i64 c.st.mo, .slice sA mS kS, .int .i64 c.st.fi, .int .i64 c.st.la, .slice hA n kH, .slice jA n kJ, .slice bA n kB, .int .i64 c.ck, .slice eA mE kE] 84 ∧ BoxAt W (w.heap.size + 1) #[.int .i64 0, .int .i64 0, .slice none 0 0, .int .i64 0, .int .i64 0, .slice none 0 0, .slice none 0 0, .slice none 0 0, .int .i64 0, .slice none 0 0] 84 ∧ BoxAt W w1.heap.size #[.int .i64 c.st.rd, .int .i64 c.st.mo, .slice oS mS cS, .int .i64 c.st.fi, .int .i64 c.st.la, .slice oH n cH, .slice oJ n cJ, .slice oB n cB, .int .i64 c.ck, .slice oE mE cE] 84 ∧ OutCr W0.heap.size w1.heap.size W c (⟨⟨oS, mS, cS⟩, ⟨oH, n, cH⟩, ⟨oJ, n, cJ⟩, ⟨oB, n, cB⟩, ⟨oE, mE, cE⟩⟩ : CrL) l u l' u') ⟨hB.alloc hB.size _, hx.alloc _, hz.alloc _, BoxAt.new _ _ _, hO.keep (.alloc (Nat.le_refl _) _)⟩ ?_
 clear hB hx hz hO
 generalize W0.heap.size = Q at *
 generalize w1.heap.size = O at *
 rintro W1 ⟨hB, hx, hz, ho, hO⟩
 have hO1 := ho.lt
 have kx := hx.cell
 go_wp2_with fail
 clear kx
 refine (l1In_any _ _ _ _).mono ?_
 rintro e w' ⟨rfl, rfl⟩
 cases hin : inB who 0 ((n : Int) - 1)
 ·
  have HV := Lib.hid (show turnS c who = (c, false) by unfold turnS; rw [E2.out, hin]; rfl)
  have ko := ho.cell
  have kz := hz.cell
  have fz := hz.frozen
  go_wp2
  refine bodyPost_ret (v := .tuple #[crV c (⟨⟨oS, mS, cS⟩, ⟨oH, n, cH⟩, ⟨oJ, n, cJ⟩, ⟨oB, n, cB⟩, ⟨oE, mE, cE⟩⟩ : CrL), .bool false]) (by simp [results, Tryz.results91, go_sem, kz, crV]) rfl ⟨(⟨⟨oS, mS, cS⟩, ⟨oH, n, cH⟩, ⟨oJ, n, cJ⟩, ⟨oB, n, cB⟩, ⟨oE, mE, cE⟩⟩ : CrL), by rw [HV.out], ?_, ?_⟩
  ·
   rw [HV.out]
   exact (CrW.sts hO.crw (.inl (by omega)) (crCs c (⟨⟨oS, mS, cS⟩, ⟨oH, n, cH⟩, ⟨oJ, n, cJ⟩, ⟨oB, n, cB⟩, ⟨oE, mE, cE⟩⟩ : CrL)) 0).mono (by omega) (by simp; omega)
  · exact Below.setCells (by omega) (crCs c (⟨⟨oS, mS, cS⟩, ⟨oH, n, cH⟩, ⟨oJ, n, cJ⟩, ⟨oB, n, cB⟩, ⟨oE, mE, cE⟩⟩ : CrL)) 0 hB
 cases hckb : (c.ck == 2000)
 case true =>
  have HV := Lib.hid (show turnS c who = (c, false) by unfold turnS; rw [hckb]; simp)
  have kx := hx.cell
  have ko := ho.cell
  have kz := hz.cell
  have fz := hz.frozen
  go_wp2
  refine bodyPost_ret (v := .tuple #[crV c (⟨⟨oS, mS, cS⟩, ⟨oH, n, cH⟩, ⟨oJ, n, cJ⟩, ⟨oB, n, cB⟩, ⟨oE, mE, cE⟩⟩ : CrL), .bool false]) (by simp [results, Tryz.results91, go_sem, kz, crV]) rfl ⟨(⟨⟨oS, mS, cS⟩, ⟨oH, n, cH⟩, ⟨oJ, n, cJ⟩, ⟨oB, n, cB⟩, ⟨oE, mE, cE⟩⟩ : CrL), by rw [HV.out], ?_, ?_⟩
  ·
   rw [HV.out]
   exact (CrW.sts hO.crw (.inl (by omega)) (crCs c (⟨⟨oS, mS, cS⟩, ⟨oH, n, cH⟩, ⟨oJ, n, cJ⟩, ⟨oB, n, cB⟩, ⟨oE, mE, cE⟩⟩ : CrL)) 0).mono (by omega) (by simp; omega)
  · exact Below.setCells (by omega) (crCs c (⟨⟨oS, mS, cS⟩, ⟨oH, n, cH⟩, ⟨oJ, n, cJ⟩, ⟨oB, n, cB⟩, ⟨oE, mE, cE⟩⟩ : CrL)) 0 hB
 have hck : c.ck ≠ 2000 := by simpa using hckb
 obtain ⟨i, rfl, hil⟩ : ∃ i : Nat, who = i ∧ i < n := by
  simp [inB] at hin
  exact ⟨who.toNat, by omega, by omega⟩
 have HIN := Lib.hid (show (!inB (i : Int) 0 ((c.hs.length : Int) - 1) || c.ck == 2000) = false by rw [E2.out, hin, hckb]; rfl)
 clear hin
 have hW1 := hW0.below hB hh
 obtain ⟨gh, h0, hA', hgl, hgh, hh0, hhc⟩ := SlW.at_ hW1.h Hd.cs_len (i := i) hil
 dsimp only at hA'
 subst hA'
 have HH0 := Lib.hid (getD_some (d := Hd.zero) hh0)
 clear hh0
 have d0 := hhc 0 _ rfl
 have d1 := hhc 1 _ rfl
 have d2 := hhc 2 _ rfl
 have d3 := hhc 3 _ rfl
 have d4 := hhc 4 _ rfl
 have d5 := hhc 5 _ rfl
 have d6 := hhc 6 _ rfl
 have d7 := hhc 7 _ rfl
 have d8 := hhc 8 _ rfl
 have d9 := hhc 9 _ rfl
 have d10 := hhc 10 _ rfl
 have d11 := hhc 11 _ rfl
 rw [Nat.add_zero] at d0
 have kx := hx.cell
 have ko := ho.cell
 have fo := ho.frozen
 have g1 : (i : Int) < (n : Int) := by omega
 have g2 : (0 : Int) ≤ (i : Int) := by omega
 have gO : gh < O := by have := hB.size; omega
 go_upto_region 6 with fail
 refine wp_abs (fun W => Below w.heap.size w W ∧ BoxAt W w.heap.size #[.int .i64 c.st.rd, .int .i64 c.st.mo, .slice sA mS kS, .int .i64 c.st.fi, .int .i64 c.st.la, .slice (some ⟨gh, 0, none⟩) n kH, .slice jA n kJ, .slice bA n kB, .int .i64 c.ck, .slice eA mE kE] 84 ∧ BoxAt W (w.heap.size + 1) #[.int .i64 0, .int .i64 0, .slice none 0 0, .int .i64 0, .int .i64 0, .slice none 0 0, .slice none 0 0, .slice none 0 0, .int .i64 0, .slice none 0 0] 84 ∧ BoxAt W O #[.int .i64 c.st.rd, .int .i64 c.st.mo, .slice oS mS cS, .int .i64 c.st.fi, .int .i64 c.st.la, .slice oH n cH, .slice oJ n cJ, .slice oB n cB, .int .i64 (c.ck + 1), .slice oE mE cE] 84 ∧ BoxAt W W1.heap.size #[.int .i64 h0.at_, .int .i64 h0.v, .int .i64 h0.r, .int .i64 h0.t, .bool h0.seen.s, .int .i64 h0.seen.n, .bool h0.seen.f, .int .i64 h0.seen.v, .int .i64 h0.tr, .int .i64 h0.sp, .bool h0.ag, .int .i64 h0.re] 116 ∧ OutCr Q O W c (⟨⟨oS, mS, cS⟩, ⟨oH, n, cH⟩, ⟨oJ, n, cJ⟩, ⟨oB, n, cB⟩, ⟨oE, mE, cE⟩⟩ : CrL) l u l' u') ⟨(sc hB).alloc (by simp; omega) _, (hx.sn).alloc _, (hz.sn).alloc _, BoxAt.alloc (by simpa using ho.set 8 (.int .i64 (c.ck + 1))) _, BoxAt.new' (by simp), hO.keep ((SameIn.set (.inr (Nat.le_refl _)) _ _).trans (.alloc (by simp; omega) _))⟩ ?_
 clear hB hx hz ho hO kx ko fo d0 d1 d2 d3 d4 d5 d6 d7 d8 d9 d10 d11 hhc hW1
 generalize W1.heap.size = X at *
 rintro W2 ⟨hB, hx, hz, ho, hq, hO⟩
 have hX2 := hq.lt
 have kq := hq.cell
 go_upto_if 39 with fail
 go_cut [8] (fun u8 W' => Below w.heap.size w W' ∧ BoxAt W' w.heap.size #[.int .i64 c.st.rd, .int .i64 c.st.mo, .slice sA mS kS, .int .i64 c.st.fi, .int .i64 c.st.la, .slice (some ⟨gh, 0, none⟩) n kH, .slice jA n kJ, .slice bA n kB, .int .i64 c.ck, .slice eA mE kE] 84 ∧ BoxAt W' (w.heap.size + 1) #[.int .i64 0, .int .i64 0, .slice none 0 0, .int .i64 0, .int .i64 0, .slice none 0 0, .slice none 0 0, .slice none 0 0, .int .i64 0, .slice none 0 0] 84 ∧ BoxAt W' O #[.int .i64 c.st.rd, .int .i64 c.st.mo, .slice oS mS cS, .int .i64 c.st.fi, .int .i64 c.st.la, .slice oH n cH, .slice oJ n cJ, .slice oB n cB, .int .i64 (c.ck + 1), .slice oE mE cE] 84 ∧ BoxAt W' X #[.int .i64 (goH c i).at_, .int .i64 (goH c i).v, .int .i64 (goH c i).r, .int .i64 (goH c i).t, .bool (goH c i).seen.s, .int .i64 (goH c i).seen.n, .bool (goH c i).seen.f, .int .i64 (goH c i).seen.v, .int .i64 (goH c i).tr, .int .i64 (goH c i).sp, .bool (goH c i).ag, .int .i64 (goH c i).re] 116 ∧ OutF Q O W' c (goC c i).js (goC c i).bs (⟨⟨oS, mS, cS⟩, ⟨oH, n, cH⟩, ⟨oJ, n, cJ⟩, ⟨oB, n, cB⟩, ⟨oE, mE, cE⟩⟩ : CrL) ∧ ((c.hs.getD i .zero).at_ == 0 && (c.js.getD i []).length == 0) = false)
 case first =>
  cases hat : (h0.at_ == 0)
  ·
   have HAT := Lib.hid (show ¬ h0.at_ = 0 by simpa using hat)
   go_wp2
   go_meet
   refine ⟨hB, hx, hz, ho, ?_, ?_, ?_⟩
   ·
    have : goH c i = h0 := by unfold goH; rw [HH0.out, if_neg HAT.out]
    rw [this]; exact hq
   ·
    have e1 : (goC c i).js = c.js := by unfold goC; rw [HH0.out, if_neg HAT.out]
    have e2 : (goC c i).bs = c.bs := by unfold goC; rw [HH0.out, if_neg HAT.out]
    rw [e1, e2]; exact hO.f (by omega)
   · rw [HH0.out, hat]; rfl
  ·
   have HAT := Lib.hid (show h0.at_ = 0 by simpa using hat)
   have HATB := Lib.hid hat; clear hat
   have hW2 := hW0.below hB hh
   obtain ⟨gj, jl, A', n', cap', jA', hjl, hjh, hj1, hjc0, hI⟩ := hW2.j.at_ (i := i) hil
   dsimp only at jA'
   subst jA'
   have HJL := Lib.hid (getD_some (d := ([] : List Int)) hj1)
   have HNL := Lib.hid hI.1
   have hn4' : n' ≤ 4 := by have := HNT.out.l jl (List.mem_of_getElem? hj1); have := hI.1; omega
   clear hj1
   have kx := hx.cell
   cases hjb : (n' == 0)
   ·
    have hjb' : ((n' : Int) == 0) = false := by simp at hjb ⊢; omega
    have hn0 : 1 ≤ n' := by simp at hjb; omega
    clear hjb
    obtain ⟨ga, z, A'', -, -, hz0, hzc⟩ := SlW.at_ hI ic_len (i := 0) (by omega)
    subst A''
    have dz := hzc 0 _ rfl
    simp only [Nat.zero_mul, Nat.zero_add] at dz
    have HZ := Lib.hid (getD_some (d := (0 : Int)) hz0)
    clear hzc hz0
    have hgn : (0 : Int) < (n' : Int) := by omega
    have hgn1 : (1 : Int) ≤ (n' : Int) := by omega
    go_upto_region 10 with fail
    clear kx kq dz hjb'
    obtain ⟨gJ, -, -, -, -, oJ', -, -, -, -, -⟩ := hO.j.at_ (i := i) hil
    dsimp only at oJ'
    subst oJ'
    obtain ⟨gB, -, oB', -, -, -, -⟩ := SlW.at_ hO.b ic_len (i := i) hil
    dsimp only at oB'
    subst oB'
    have hjc : CellsAt W2 gj i [.slice (some ⟨ga, 0, none⟩) n' cap'] := fun j u hu => by
     obtain rfl : j = 0 := by have := (List.getElem?_eq_some_iff.1 hu).1; simp at this; exact this
     simp at hu; subst hu; exact hjc0
    clear hjc0 hW2
    obtain ⟨M, hMe⟩ : ∃ M, M = W2.heap.size := ⟨_, rfl⟩
    have hM : M ≤ W2.heap.size := by omega
    have hOM : O ≤ M := by omega
    have hhi : hi ≤ W2.heap.size := Nat.le_trans hh hB.size
    have hgj : gj < w.heap.size := by omega
    clear hMe
    refine wp_region2v (fun w w' => Below w.heap.size w w') (fun _ _ h => h.size) (fun _ => Below.refl _ _) (fun L W' => Below w.heap.size w W' ∧ BoxAt W' w.heap.size #[.int .i64 c.st.rd, .int .i64 c.st.mo, .slice sA mS kS, .int .i64 c.st.fi, .int .i64 c.st.la, .slice (some ⟨gh, 0, none⟩) n kH, .slice (some ⟨gj, 0, none⟩) n kJ, .slice bA n kB, .int .i64 c.ck, .slice eA mE kE] 84 ∧ BoxAt W' (w.heap.size + 1) #[.int .i64 0, .int .i64 0, .slice none 0 0, .int .i64 0, .int .i64 0, .slice none 0 0, .slice none 0 0, .slice none 0 0, .int .i64 0, .slice none 0 0] 84 ∧ BoxAt W' O #[.int .i64 c.st.rd, .int .i64 c.st.mo, .slice oS mS cS, .int .i64 c.st.fi, .int .i64 c.st.la, .slice oH n cH, .slice (some ⟨gJ, 0, none⟩) n cJ, .slice (some ⟨gB, 0, none⟩) n cB, .int .i64 (c.ck + 1), .slice oE mE cE] 84 ∧ BoxAt W' X #[.int .i64 h0.at_, .int .i64 h0.v, .int .i64 h0.r, .int .i64 h0.t, .bool h0.seen.s, .int .i64 h0.seen.n, .bool h0.seen.f, .int .i64 h0.seen.v, .int .i64 h0.tr, .int .i64 h0.sp, .bool h0.ag, .int .i64 h0.re] 116 ∧ M ≤ W'.heap.size ∧ hi ≤ W'.heap.size ∧ CellsAt W' gj i [.slice (some ⟨ga, 0, none⟩) n' cap'] ∧ IntsW lo hi W' (some ⟨ga, 0, none⟩) n' cap' jl ∧ (L 11 = false → OutCr Q O W' c (⟨⟨oS, mS, cS⟩, ⟨oH, n, cH⟩, ⟨some ⟨gJ, 0, none⟩, n, cJ⟩, ⟨some ⟨gB, 0, none⟩, n, cB⟩, ⟨oE, mE, cE⟩⟩ : CrL) l u l' u')) (tuJV c w.heap.size O Q M i n mS mE kS kH kJ kB kE cS cH cJ cB cE gh gj gJ gB ga n' cap' sA bA eA oS oH oE h0 jl) (fun j => [0, 0, 0, 0, 0, 0, 0, 0, 0, 0, 0, 1].getD j 0) [] (by kernel_rfl) (by kernel_rfl) ?_ ?_ ?_
     (.still rfl ?a0 <| .still rfl ?a1 <| .still rfl ?a2 <| .still rfl ?a3 <| .still rfl ?a4 <| .still rfl ?a5 <| .still rfl ?a6 <| .still rfl ?a7 <| .grow rfl ?a8 <| .grow rfl ?a9 <| .still rfl ?a10 <| .store rfl ?a11 <| .nil) ?_ ?_
    · exact ⟨fun _ _ _ h ⟨A8, e, hp⟩ => ⟨A8, (h 8 (List.mem_singleton.2 rfl)).symm.trans e, hp⟩, fun _ _ _ h ⟨A9, c9, e, hp⟩ => ⟨A9, c9, (h 9 (List.mem_singleton.2 rfl)).symm.trans e, hp⟩, fun _ _ _ h ⟨A9, e, hp⟩ => ⟨A9, (h 11 (List.mem_singleton.2 rfl)).symm.trans e, hp⟩, trivial⟩
    · exact ⟨fun σ w w' hb ⟨A8, e, hp⟩ => ⟨A8, e, hp⟩, fun σ w w' hb ⟨A9, c9, e, hp⟩ => ⟨A9, c9, e, hp.belowS hb⟩, fun σ w w' hb ⟨A9, e, hp⟩ => ⟨A9, e, ⟨Nat.le_trans hp.1 hb.size, hp.2.below hb hp.1⟩⟩, trivial⟩
    · exact ⟨hB.drew, hx, hz, ho, hq, hM, hhi, hjc, hI, fun _ => hO.keep (.refl _ _ _)⟩
    case a0 | a2 | a3 | a5 | a6 | a10 =>
     go_light
     intro L σ W' hcl hL hC hw
     try have e1 := wT hw 1 rfl
     try have e2 := wT hw 2 rfl
     try have e4 := wT hw 4 rfl
     try have e5 := wT hw 5 rfl
     clear hw hcl hL hC
     refine OpGoes.go fun K hK => ?_
     go_simp
     exact hK _ _ ⟨rfl, rfl⟩
    case a1 =>
     go_light
     intro L σ W' hcl hL hC hw
     have e0 := wV hw 0 rfl
     have ko := hC.2.2.2.1.cell
     clear hw hcl hL hC
     refine OpGoes.go fun K hK => ?_
     go_simp
     exact hK _ _ ⟨rfl, rfl⟩
    case a4 =>
     go_light
     intro L σ W' hcl hL hC hw
     have e3 := wV hw 3 rfl
     have kx := hC.2.1.cell
     clear hw hcl hL hC
     refine OpGoes.go fun K hK => ?_
     go_simp
     exact hK _ _ ⟨rfl, rfl⟩
    case a7 =>
     go_light
     intro L σ W' hcl hL hC hw
     have e6 := wV hw 6 rfl
     have dj := hC.2.2.2.2.2.2.2.1 0 _ rfl
     rw [Nat.add_zero] at dj
     clear hw hcl hL hC
     refine OpGoes.go fun K hK => ?_
     go_simp
     exact hK _ _ ⟨rfl, rfl⟩
    case a8 =>
     go_light
     intro L σ W' hcl hL hC hw
     have e7 := wV hw 7 rfl
     clear hw
     have HC := Lib.hid hC
     clear hC
     clear hcl hL
     refine OpGoes.go fun K hK => ?_
     go_simp
     obtain ⟨hB, hx, hz, ho, hq, hM, hhi, hjc, hI, hO⟩ := HC.out
     refine hK _ _ ⟨⟨hB, hx, hz, ho, hq, hM, hhi, hjc, hI, fun h => (hO (by simpa [upd] using h))⟩, ⟨_, rfl, ?_⟩, Below.refl _ _⟩
     by_cases hcp : cap' = 1
     · exact .inl ⟨hcp, by simp [hcp]⟩
     · exact .inr (by simp [hcp, Addr.add])
    case a9 =>
     go_light
     intro L σ W' hcl hL hC hw
     obtain ⟨A8, e8, hp8⟩ := wE hw 8 rfl
     clear hw
     have HC := Lib.hid hC
     clear hC
     clear hcl hL
     refine OpGoes.go fun K hK => ?_
     go_simp
     obtain ⟨hB, hx, hz, ho, hq, hM, hhi, hjc, hI, hO⟩ := HC.out
     refine (l1CopyN (jl.drop 1) A8 (n' - 1) (cap' - 1) _ (src_drop hI hn0 hp8) (by omega)).mono ?_
     rintro e w1 ⟨A9, c9, rfl, hO9, hb1⟩
     exact ⟨_, rfl, hK _ _ ⟨⟨bstep hB hB.size hb1, hx.below hb1 hx.lt, hz.below hb1 hz.lt, ho.below hb1 ho.lt, hq.below hb1 hq.lt, Nat.le_trans hM hb1.size, Nat.le_trans hhi hb1.size, hjc.below hb1, SlW.below hI hb1 hhi, fun h => (hO (by simpa [upd] using h)).keep (.below hb1 (Nat.le_trans hOM hM))⟩, ⟨A9, c9, rfl, SlW.mono hO9 hM (Nat.le_refl _)⟩, hb1⟩⟩
    case a11 =>
     go_light
     intro L σ W' hcl hL hC hw hne
     obtain ⟨A9, c9, e9, hp9⟩ := wE hw 9 rfl
     have e10 := wV hw 10 rfl
     clear hw hne
     obtain ⟨hB, hx, hz, ho, hq, hM, hhi, hjc, hI, hO⟩ := hC
     have hO11 := (hO hL)
     obtain ⟨⟨vj, kj⟩, fj, curJ, hJb⟩ := hO11.jrow (gJ := gJ) (i := i) rfl hil
     have hgJ : Q ≤ gJ ∧ gJ < O := hO11.jpos rfl
     clear hcl hL
     refine OpGoes.go fun K hK => ?_
     go_simp
     have hX11 := hO11.setJob (g := gB) (gJ := gJ) (i := i) (a := ⟨A9, n' - 1, c9⟩) (Nat.le_trans hOM hM) rfl rfl hil (SlW.mono hp9 hOM (Nat.le_refl _))
     refine hK _ _ ⟨⟨sc hB, hx.sn, hz.sn, ho.sn, hq.sn, size_st hM, size_st hhi, hjc.same (Below.heap_setCell _ ⟨gJ, i, none⟩ _ gj (by show gj ≠ gJ; omega)), SlW.keepT hI (KeepT.set hJb (by decide) i _), fun h => absurd h (by simp [upd])⟩, ⟨A9, rfl, size_st (Nat.le_trans hOM hM), hX11⟩, by simp, fun j hj hn hR => ?_⟩
     refine keepV ?_ j hj hn hR
     exact ⟨fun _ _ ⟨A8, e, hp⟩ => ⟨A8, e, hp⟩, fun _ _ ⟨A9, c9, e, hp⟩ => ⟨A9, c9, e, SlW.mono (SlW.keepT hp (KeepT.set hJb (by decide) i _)) (Nat.le_refl _) (by simp)⟩, fun h => absurd rfl h, trivial⟩
    ·
     intro L L' W' hLL hC
     obtain ⟨hB, hx, hz, ho, hq, hM, hhi, hjc, hI, hO⟩ := hC
     exact ⟨hB, hx, hz, ho, hq, hM, hhi, hjc, hI, fun h => hO (hLL _ h)⟩
    ·
     intro σ L W' hall hC hRR
     obtain ⟨hB, hx, hz, ho, hq, hM, hhi, hjc, hI, hO⟩ := hC
     obtain ⟨A9, e11, hp11⟩ := dE hRR 11 rfl
     clear hRR hO hI hjc
     simp only [lexAll]
     go_simp
     go_step
     have hOX := hp11.2
     have hOM' := hp11.1
     clear hp11 e11
     have hbi : c.bs[i]? = some (c.bs[i]'(by rw [E4.out]; exact hil)) := List.getElem?_eq_getElem (by rw [E4.out]; exact hil)
     have kb := Own.cell_ ic_len hOX.b (j := 0) hbi rfl
     rw [Nat.mul_one, Nat.add_zero] at kb
     have fb := Own.frozen_ hOX.b
     have ko := ho.cell
     have pB1 : Q ≤ gB := hOX.b.2.1
     have pB2 : gB < O := hOX.bg
     go_upto_region 12 with fail
     refine wp_abs (fun W => Below w.heap.size w W ∧ BoxAt W w.heap.size #[.int .i64 c.st.rd, .int .i64 c.st.mo, .slice sA mS kS, .int .i64 c.st.fi, .int .i64 c.st.la, .slice (some ⟨gh, 0, none⟩) n kH, .slice (some ⟨gj, 0, none⟩) n kJ, .slice bA n kB, .int .i64 c.ck, .slice eA mE kE] 84 ∧ BoxAt W (w.heap.size + 1) #[.int .i64 0, .int .i64 0, .slice none 0 0, .int .i64 0, .int .i64 0, .slice none 0 0, .slice none 0 0, .slice none 0 0, .int .i64 0, .slice none 0 0] 84 ∧ BoxAt W O #[.int .i64 c.st.rd, .int .i64 c.st.mo, .slice oS mS cS, .int .i64 c.st.fi, .int .i64 c.st.la, .slice oH n cH, .slice (some ⟨gJ, 0, none⟩) n cJ, .slice (some ⟨gB, 0, none⟩) n cB, .int .i64 (c.ck + 1), .slice oE mE cE] 84 ∧ BoxAt W X #[.int .i64 h0.at_, .int .i64 h0.v, .int .i64 h0.r, .int .i64 h0.t, .bool h0.seen.s, .int .i64 h0.seen.n, .bool h0.seen.f, .int .i64 h0.seen.v, .int .i64 h0.tr, .int .i64 h0.sp, .bool h0.ag, .int .i64 h0.re] 116 ∧ OutF Q O W c (c.js.set i (jl.drop 1)) (c.bs.set i (c.ck + 1)) (⟨⟨oS, mS, cS⟩, ⟨oH, n, cH⟩, ⟨some ⟨gJ, 0, none⟩, n, cJ⟩, ⟨some ⟨gB, 0, none⟩, n, cB⟩, ⟨oE, mE, cE⟩⟩ : CrL) ∧ O ≤ W.heap.size) ⟨sc hB, hx.sn, hz.sn, ho.sn, hq.sn, hOX.setBeg hil (c.ck + 1), by simpa using hOM'⟩ ?_
     clear hB hx hz ho hq hOX kb fb ko hbi hM hhi hOM'
     rintro W4 ⟨hB, hx, hz, ho, hq, hF, hOM'⟩
     have HJS := Lib.hid (show (goC c i).js = c.js.set i (jl.drop 1) by unfold goC; rw [HH0.out, if_pos HAT.out, HJL.out])
     have HBS := Lib.hid (show (goC c i).bs = c.bs.set i (c.ck + 1) by unfold goC; rw [HH0.out, if_pos HAT.out])
     have HRS := Lib.hid (show ((c.hs.getD i .zero).at_ == 0 && (c.js.getD i []).length == 0) = false by rw [HJL.out, HNL.out]; simp; omega)
     have kq := hq.cell
     cases hzp : decide (0 < z)
     ·
      have HG := Lib.hid (show goH c i = (toTake h0).1 by unfold goH jobH; rw [HH0.out, if_pos HAT.out, HJL.out, HZ.out]; exact if_neg (by simpa using hzp))
      go_wp2_with fail
      clear kq
      refine (stoTake_any h0 _).mono ?_
      rintro e w5 ⟨rfl, hb5⟩
      have h45 := hb5.size
      replace hF := hF.below hb5 hOM'
      replace hx := hx.below hb5 hx.lt
      replace hz := hz.below hb5 hz.lt
      replace ho := ho.below hb5 ho.lt
      replace hq := hq.below hb5 hq.lt
      replace hB := bstep hB hB.size hb5
      clear hb5
      generalize hq5 : toTake h0 = q5 at *
      clear hq5
      unfold hdV
      have kq := hq.cell
      have fq := hq.frozen
      go_wp2
      go_meet
      refine ⟨?_, ?_, ?_, ?_, ?_, ?_, HRS.out⟩
      · exact Below.setCells (by omega) [.int .i64 q5.1.at_, .int .i64 q5.1.v, .int .i64 q5.1.r, .int .i64 q5.1.t, .bool q5.1.seen.s, .int .i64 q5.1.seen.n, .bool q5.1.seen.f, .int .i64 q5.1.seen.v, .int .i64 q5.1.tr, .int .i64 q5.1.sp, .bool q5.1.ag, .int .i64 q5.1.re] 0 hB
      · exact BoxAt.sets_ne [.int .i64 q5.1.at_, .int .i64 q5.1.v, .int .i64 q5.1.r, .int .i64 q5.1.t, .bool q5.1.seen.s, .int .i64 q5.1.seen.n, .bool q5.1.seen.f, .int .i64 q5.1.seen.v, .int .i64 q5.1.tr, .int .i64 q5.1.sp, .bool q5.1.ag, .int .i64 q5.1.re] 0 hx (by omega)
      · exact BoxAt.sets_ne [.int .i64 q5.1.at_, .int .i64 q5.1.v, .int .i64 q5.1.r, .int .i64 q5.1.t, .bool q5.1.seen.s, .int .i64 q5.1.seen.n, .bool q5.1.seen.f, .int .i64 q5.1.seen.v, .int .i64 q5.1.tr, .int .i64 q5.1.sp, .bool q5.1.ag, .int .i64 q5.1.re] 0 hz (by omega)
      · exact BoxAt.sets_ne [.int .i64 q5.1.at_, .int .i64 q5.1.v, .int .i64 q5.1.r, .int .i64 q5.1.t, .bool q5.1.seen.s, .int .i64 q5.1.seen.n, .bool q5.1.seen.f, .int .i64 q5.1.seen.v, .int .i64 q5.1.tr, .int .i64 q5.1.sp, .bool q5.1.ag, .int .i64 q5.1.re] 0 ho (by omega)
      ·
       rw [HG.out]
       exact sets_all (us := [.int .i64 q5.1.at_, .int .i64 q5.1.v, .int .i64 q5.1.r, .int .i64 q5.1.t, .bool q5.1.seen.s, .int .i64 q5.1.seen.n, .bool q5.1.seen.f, .int .i64 q5.1.seen.v, .int .i64 q5.1.tr, .int .i64 q5.1.sp, .bool q5.1.ag, .int .i64 q5.1.re]) hq rfl
      ·
       have key : OutF Q O (setCells w5 X 0 [.int .i64 q5.1.at_, .int .i64 q5.1.v, .int .i64 q5.1.r, .int .i64 q5.1.t, .bool q5.1.seen.s, .int .i64 q5.1.seen.n, .bool q5.1.seen.f, .int .i64 q5.1.seen.v, .int .i64 q5.1.tr, .int .i64 q5.1.sp, .bool q5.1.ag, .int .i64 q5.1.re]) c (c.js.set i (jl.drop 1)) (c.bs.set i (c.ck + 1)) (⟨⟨oS, mS, cS⟩, ⟨oH, n, cH⟩, ⟨some ⟨gJ, 0, none⟩, n, cJ⟩, ⟨some ⟨gB, 0, none⟩, n, cB⟩, ⟨oE, mE, cE⟩⟩ : CrL) := hF.upd (fun j h1 h2 => sets_block (by omega) [.int .i64 q5.1.at_, .int .i64 q5.1.v, .int .i64 q5.1.r, .int .i64 q5.1.t, .bool q5.1.seen.s, .int .i64 q5.1.seen.n, .bool q5.1.seen.f, .int .i64 q5.1.seen.v, .int .i64 q5.1.tr, .int .i64 q5.1.sp, .bool q5.1.ag, .int .i64 q5.1.re] 0 w5) (.sets hq (by decide) [.int .i64 q5.1.at_, .int .i64 q5.1.v, .int .i64 q5.1.r, .int .i64 q5.1.t, .bool q5.1.seen.s, .int .i64 q5.1.seen.n, .bool q5.1.seen.f, .int .i64 q5.1.seen.v, .int .i64 q5.1.tr, .int .i64 q5.1.sp, .bool q5.1.ag, .int .i64 q5.1.re] 0) (.sets hq (by decide) [.int .i64 q5.1.at_, .int .i64 q5.1.v, .int .i64 q5.1.r, .int .i64 q5.1.t, .bool q5.1.seen.s, .int .i64 q5.1.seen.n, .bool q5.1.seen.f, .int .i64 q5.1.seen.v, .int .i64 q5.1.tr, .int .i64 q5.1.sp, .bool q5.1.ag, .int .i64 q5.1.re] 0) (Nat.le_of_eq (sets_size [.int .i64 q5.1.at_, .int .i64 q5.1.v, .int .i64 q5.1.r, .int .i64 q5.1.t, .bool q5.1.seen.s, .int .i64 q5.1.seen.n, .bool q5.1.seen.f, .int .i64 q5.1.seen.v, .int .i64 q5.1.tr, .int .i64 q5.1.sp, .bool q5.1.ag, .int .i64 q5.1.re] 0 _).symm)
       rw [HJS.out, HBS.out]
       exact key
     ·
      have HG := Lib.hid (show goH c i = (toPut h0 z).1 by unfold goH jobH; rw [HH0.out, if_pos HAT.out, HJL.out, HZ.out]; exact if_pos (by simpa using hzp))
      go_wp2_with fail
      clear kq
      refine (stoPut_any h0 z _).mono ?_
      rintro e w5 ⟨rfl, hb5⟩
      have h45 := hb5.size
      replace hF := hF.below hb5 hOM'
      replace hx := hx.below hb5 hx.lt
      replace hz := hz.below hb5 hz.lt
      replace ho := ho.below hb5 ho.lt
      replace hq := hq.below hb5 hq.lt
      replace hB := bstep hB hB.size hb5
      clear hb5
      generalize hq5 : toPut h0 z = q5 at *
      clear hq5
      unfold hdV
      have kq := hq.cell
      have fq := hq.frozen
      go_wp2
      go_meet
      refine ⟨?_, ?_, ?_, ?_, ?_, ?_, HRS.out⟩
      · exact Below.setCells (by omega) [.int .i64 q5.1.at_, .int .i64 q5.1.v, .int .i64 q5.1.r, .int .i64 q5.1.t, .bool q5.1.seen.s, .int .i64 q5.1.seen.n, .bool q5.1.seen.f, .int .i64 q5.1.seen.v, .int .i64 q5.1.tr, .int .i64 q5.1.sp, .bool q5.1.ag, .int .i64 q5.1.re] 0 hB
      · exact BoxAt.sets_ne [.int .i64 q5.1.at_, .int .i64 q5.1.v, .int .i64 q5.1.r, .int .i64 q5.1.t, .bool q5.1.seen.s, .int .i64 q5.1.seen.n, .bool q5.1.seen.f, .int .i64 q5.1.seen.v, .int .i64 q5.1.tr, .int .i64 q5.1.sp, .bool q5.1.ag, .int .i64 q5.1.re] 0 hx (by omega)
      · exact BoxAt.sets_ne [.int .i64 q5.1.at_, .int .i64 q5.1.v, .int .i64 q5.1.r, .int .i64 q5.1.t, .bool q5.1.seen.s, .int .i64 q5.1.seen.n, .bool q5.1.seen.f, .int .i64 q5.1.seen.v, .int .i64 q5.1.tr, .int .i64 q5.1.sp, .bool q5.1.ag, .int .i64 q5.1.re] 0 hz (by omega)
      · exact BoxAt.sets_ne [.int .i64 q5.1.at_, .int .i64 q5.1.v, .int .i64 q5.1.r, .int .i64 q5.1.t, .bool q5.1.seen.s, .int .i64 q5.1.seen.n, .bool q5.1.seen.f, .int .i64 q5.1.seen.v, .int .i64 q5.1.tr, .int .i64 q5.1.sp, .bool q5.1.ag, .int .i64 q5.1.re] 0 ho (by omega)
      ·
       rw [HG.out]
       exact sets_all (us := [.int .i64 q5.1.at_, .int .i64 q5.1.v, .int .i64 q5.1.r, .int .i64 q5.1.t, .bool q5.1.seen.s, .int .i64 q5.1.seen.n, .bool q5.1.seen.f, .int .i64 q5.1.seen.v, .int .i64 q5.1.tr, .int .i64 q5.1.sp, .bool q5.1.ag, .int .i64 q5.1.re]) hq rfl
      ·
       have key : OutF Q O (setCells w5 X 0 [.int .i64 q5.1.at_, .int .i64 q5.1.v, .int .i64 q5.1.r, .int .i64 q5.1.t, .bool q5.1.seen.s, .int .i64 q5.1.seen.n, .bool q5.1.seen.f, .int .i64 q5.1.seen.v, .int .i64 q5.1.tr, .int .i64 q5.1.sp, .bool q5.1.ag, .int .i64 q5.1.re]) c (c.js.set i (jl.drop 1)) (c.bs.set i (c.ck + 1)) (⟨⟨oS, mS, cS⟩, ⟨oH, n, cH⟩, ⟨some ⟨gJ, 0, none⟩, n, cJ⟩, ⟨some ⟨gB, 0, none⟩, n, cB⟩, ⟨oE, mE, cE⟩⟩ : CrL) := hF.upd (fun j h1 h2 => sets_block (by omega) [.int .i64 q5.1.at_, .int .i64 q5.1.v, .int .i64 q5.1.r, .int .i64 q5.1.t, .bool q5.1.seen.s, .int .i64 q5.1.seen.n, .bool q5.1.seen.f, .int .i64 q5.1.seen.v, .int .i64 q5.1.tr, .int .i64 q5.1.sp, .bool q5.1.ag, .int .i64 q5.1.re] 0 w5) (.sets hq (by decide) [.int .i64 q5.1.at_, .int .i64 q5.1.v, .int .i64 q5.1.r, .int .i64 q5.1.t, .bool q5.1.seen.s, .int .i64 q5.1.seen.n, .bool q5.1.seen.f, .int .i64 q5.1.seen.v, .int .i64 q5.1.tr, .int .i64 q5.1.sp, .bool q5.1.ag, .int .i64 q5.1.re] 0) (.sets hq (by decide) [.int .i64 q5.1.at_, .int .i64 q5.1.v, .int .i64 q5.1.r, .int .i64 q5.1.t, .bool q5.1.seen.s, .int .i64 q5.1.seen.n, .bool q5.1.seen.f, .int .i64 q5.1.seen.v, .int .i64 q5.1.tr, .int .i64 q5.1.sp, .bool q5.1.ag, .int .i64 q5.1.re] 0) (Nat.le_of_eq (sets_size [.int .i64 q5.1.at_, .int .i64 q5.1.v, .int .i64 q5.1.r, .int .i64 q5.1.t, .bool q5.1.seen.s, .int .i64 q5.1.seen.n, .bool q5.1.seen.f, .int .i64 q5.1.seen.v, .int .i64 q5.1.tr, .int .i64 q5.1.sp, .bool q5.1.ag, .int .i64 q5.1.re] 0 _).symm)
       rw [HJS.out, HBS.out]
       exact key
   ·
    have hjb' : ((n' : Int) == 0) = true := by simp at hjb ⊢; omega
    have HJ0 := Lib.hid (show (c.js.getD i []).length = 0 by rw [HJL.out, HNL.out]; simpa using hjb)
    clear hjb
    have HV := Lib.hid (show turnS c (i : Int) = (c, false) by exact turnS_no1 HIN.out (by rw [HH0.out, HATB.out, HJ0.out]; rfl))
    have kx := hx.cell
    go_wp2_with fail
    clear kx
    refine (l10Copy_any c (⟨⟨sA, mS, kS⟩, ⟨some ⟨gh, 0, none⟩, n, kH⟩, ⟨some ⟨gj, 0, none⟩, n, kJ⟩, ⟨bA, n, kB⟩, ⟨eA, mE, kE⟩⟩ : CrL) lo hi _ (hW0.below hB hh) (Nat.le_trans hh hB.size) HNT.out).mono ?_
    rintro e w9 ⟨y9, l9, u9, l9', u9', rfl, hC9, hb9⟩
    have hsB := hB.size
    have hz9 := hz.below hb9 hz.lt
    have hB9 := bstep hB hB.size hb9
    have lz := hz.lt
    clear hb9 hz hB
    unfold crV
    have kz := hz9.cell
    have fz := hz9.frozen
    go_wp2
    refine bodyPost_ret (v := .tuple #[crV c y9, .bool false]) (by simp [results, Tryz.results91, go_sem, kz, crV]) rfl ⟨y9, by rw [HV.out], ?_, ?_⟩
    ·
     rw [HV.out]
     exact (CrW.sts hC9.crw (.inl (by omega)) (crCs c y9) 0).mono (by omega) (by simp)
    · exact Below.setCells (by omega) (crCs c y9) 0 hB9
 case rest =>
  clear hB hx hz ho hq hO kq hX2
  obtain ⟨hB, hx, hz, ho, hq, hF, hrs⟩ := hcut
  have HRS := Lib.hid hrs; clear hrs
  obtain ⟨h, hgh⟩ : ∃ h, h = goH c i := ⟨_, rfl⟩
  rw [← hgh] at hq
  have HGH := Lib.hid hgh; clear hgh
  have hX3 := hq.lt
  have ko := ho.cell
  have kq := hq.cell
  have HNE := Lib.hid (stOk_neat HNT.out.s)
  go_wp2_with fail
  clear ko kq
  refine (sstepped_any c.st oS mS cS Q O h _ hF.s (by omega) (by omega) HNE.out.len).mono ?_
  rintro e w5 ⟨A5, n5, c5, rfl, hG, hb5⟩
  have h45 := hb5.size
  replace hF := hF.below hb5 (by omega)
  replace hx := hx.below hb5 hx.lt
  replace hz := hz.below hb5 hz.lt
  replace ho := ho.below hb5 ho.lt
  replace hq := hq.below hb5 hq.lt
  replace hB := bstep hB hB.size hb5
  clear hb5
  generalize hq5 : stepped c.st h = q at *
  have HQ5 := Lib.hid hq5; clear hq5
  unfold stV hdV
  go_upto_region 16 with fail
  refine wp_abs (fun W => Below w.heap.size w W ∧ BoxAt W w.heap.size #[.int .i64 c.st.rd, .int .i64 c.st.mo, .slice sA mS kS, .int .i64 c.st.fi, .int .i64 c.st.la, .slice (some ⟨gh, 0, none⟩) n kH, .slice jA n kJ, .slice bA n kB, .int .i64 c.ck, .slice eA mE kE] 84 ∧ BoxAt W (w.heap.size + 1) #[.int .i64 0, .int .i64 0, .slice none 0 0, .int .i64 0, .int .i64 0, .slice none 0 0, .slice none 0 0, .slice none 0 0, .int .i64 0, .slice none 0 0] 84 ∧ BoxAt W O #[.int .i64 c.st.rd, .int .i64 c.st.mo, .slice oS mS cS, .int .i64 c.st.fi, .int .i64 c.st.la, .slice oH n cH, .slice oJ n cJ, .slice oB n cB, .int .i64 (c.ck + 1), .slice oE mE cE] 84 ∧ BoxAt W X #[.int .i64 h.at_, .int .i64 h.v, .int .i64 h.r, .int .i64 h.t, .bool h.seen.s, .int .i64 h.seen.n, .bool h.seen.f, .int .i64 h.seen.v, .int .i64 h.tr, .int .i64 h.sp, .bool h.ag, .int .i64 h.re] 116 ∧ BoxAt W w5.heap.size #[.int .i64 q.1.rd, .int .i64 q.1.mo, .slice A5 n5 c5, .int .i64 q.1.fi, .int .i64 q.1.la] 28 ∧ BoxAt W (w5.heap.size + 1) #[.int .i64 q.2.1.at_, .int .i64 q.2.1.v, .int .i64 q.2.1.r, .int .i64 q.2.1.t, .bool q.2.1.seen.s, .int .i64 q.2.1.seen.n, .bool q.2.1.seen.f, .int .i64 q.2.1.seen.v, .int .i64 q.2.1.tr, .int .i64 q.2.1.sp, .bool q.2.1.ag, .int .i64 q.2.1.re] 116 ∧ RgsW wc.heap.size w5.heap.size W A5 n5 c5 q.1.rs ∧ OutF Q O W c (goC c i).js (goC c i).bs (⟨⟨oS, mS, cS⟩, ⟨oH, n, cH⟩, ⟨oJ, n, cJ⟩, ⟨oB, n, cB⟩, ⟨oE, mE, cE⟩⟩ : CrL)) ⟨(hB.alloc hB.size _).alloc (by have := hB.size; simp; omega) _, (hx.alloc _).alloc _, (hz.alloc _).alloc _, (ho.alloc _).alloc _, (hq.alloc _).alloc _, (BoxAt.new _ _ _).alloc _, BoxAt.new' (by simp), (hG.al (Nat.le_refl _) _).al (by simp) _, (hF.below ((Below.refl _ _).alloc (Nat.le_refl _) _) (by omega)).below ((Below.refl _ _).alloc (Nat.le_refl _) _) (by simp; omega)⟩ ?_
  clear hB hx hz ho hq hG hF
  generalize wc.heap.size = P5 at *
  generalize w5.heap.size = S5 at *
  rintro W6 ⟨hB, hx, hz, ho, hq, hs5, hy, hG, hF⟩
  have hY6 := hy.lt
  cases hqb : q.2.2
  ·
   have HV := Lib.hid (show turnS c (i : Int) = (c, false) by exact turnS_no2 HIN.out HRS.out (by rw [← HGH.out, HQ5.out]; exact hqb))
   have kx := hx.cell
   go_wp2_with fail
   clear kx
   refine (l10Copy_any c (⟨⟨sA, mS, kS⟩, ⟨some ⟨gh, 0, none⟩, n, kH⟩, ⟨jA, n, kJ⟩, ⟨bA, n, kB⟩, ⟨eA, mE, kE⟩⟩ : CrL) lo hi _ (hW0.below hB hh) (Nat.le_trans hh hB.size) HNT.out).mono ?_
   rintro e w9 ⟨y9, l9, u9, l9', u9', rfl, hC9, hb9⟩
   have hsB := hB.size
   have hz9 := hz.below hb9 hz.lt
   have hB9 := bstep hB hB.size hb9
   have lz := hz.lt
   clear hb9 hz hB
   unfold crV
   have kz := hz9.cell
   have fz := hz9.frozen
   go_wp2
   refine bodyPost_ret (v := .tuple #[crV c y9, .bool false]) (by simp [results, Tryz.results91, go_sem, kz, crV]) rfl ⟨y9, by rw [HV.out], ?_, ?_⟩
   ·
    rw [HV.out]
    exact (CrW.sts hC9.crw (.inl (by omega)) (crCs c y9) 0).mono (by omega) (by simp)
   · exact Below.setCells (by omega) (crCs c y9) 0 hB9
  have HQB := Lib.hid hqb; clear hqb
  have hHS := hF.h
  obtain ⟨gH, oH', hgO, hHo⟩ : ∃ gH, oH = some ⟨gH, 0, none⟩ ∧ gH < O ∧ Own Hd.cs 12 116 Q W6 gH n cH c.hs := by
   rcases hHS.2 with ⟨_, h1, _⟩ | ⟨b, e1, e2, e3⟩
   ·
    have h1' : n = 0 := h1
    omega
   · exact ⟨b, e1, e2, e3⟩
  subst oH'
  clear hHS
  have hQH : Q ≤ gH := hHo.2.1
  have hhi0 : c.hs[i]? = some (c.hs[i]'(by rw [E2.out]; exact hil)) := List.getElem?_eq_getElem (by rw [E2.out]; exact hil)
  have d0 := Own.cell_ Hd.cs_len hHo (j := 0) hhi0 rfl
  have d1 := Own.cell_ Hd.cs_len hHo (j := 1) hhi0 rfl
  have d2 := Own.cell_ Hd.cs_len hHo (j := 2) hhi0 rfl
  have d3 := Own.cell_ Hd.cs_len hHo (j := 3) hhi0 rfl
  have d4 := Own.cell_ Hd.cs_len hHo (j := 4) hhi0 rfl
  have d5 := Own.cell_ Hd.cs_len hHo (j := 5) hhi0 rfl
  have d6 := Own.cell_ Hd.cs_len hHo (j := 6) hhi0 rfl
  have d7 := Own.cell_ Hd.cs_len hHo (j := 7) hhi0 rfl
  have d8 := Own.cell_ Hd.cs_len hHo (j := 8) hhi0 rfl
  have d9 := Own.cell_ Hd.cs_len hHo (j := 9) hhi0 rfl
  have d10 := Own.cell_ Hd.cs_len hHo (j := 10) hhi0 rfl
  have d11 := Own.cell_ Hd.cs_len hHo (j := 11) hhi0 rfl
  rw [Nat.add_zero] at d0
  have fH := Own.frozen_ hHo
  clear hhi0
  have ks5 := hs5.cell
  have ky := hy.cell
  have ko := ho.cell
  have fo := ho.frozen
  have gHO : ¬ gH = O := by omega
  have gOH : ¬ O = gH := by omega
  go_upto_region 20 with fail
  clear d0 d1 d2 d3 d4 d5 d6 d7 d8 d9 d10 d11 fH ks5 ky ko fo
  have HST := Lib.hid (show (newC c i i).st = q.1 by unfold newC endC; rw [← HGH.out, HQ5.out])
  have HCK := Lib.hid (show (newC c i i).ck = c.ck + 1 from goC_ck c i)
  have HHS := Lib.hid (show (newC c i i).hs = c.hs.set i q.2.1 by unfold newC endC; rw [← HGH.out, HQ5.out, goC_hs])
  have j1 : KeepT 58 W6 (setCells (setCells W6 O 0 [.int .i64 q.1.rd, .int .i64 q.1.mo, .slice A5 n5 c5, .int .i64 q.1.fi, .int .i64 q.1.la]) gH (i * 12) [.int .i64 q.2.1.at_, .int .i64 q.2.1.v, .int .i64 q.2.1.r, .int .i64 q.2.1.t, .bool q.2.1.seen.s, .int .i64 q.2.1.seen.n, .bool q.2.1.seen.f, .int .i64 q.2.1.seen.v, .int .i64 q.2.1.tr, .int .i64 q.2.1.sp, .bool q.2.1.ag, .int .i64 q.2.1.re]) := (KeepT.sets ho (by decide) [.int .i64 q.1.rd, .int .i64 q.1.mo, .slice A5 n5 c5, .int .i64 q.1.fi, .int .i64 q.1.la] 0).trans (KeepT.sets ((show BoxAt (setCells W6 O 0 [.int .i64 q.1.rd, .int .i64 q.1.mo, .slice A5 n5 c5, .int .i64 q.1.fi, .int .i64 q.1.la]) gH _ _ from (Own.box (Own.sets_ne hHo (by omega) [.int .i64 q.1.rd, .int .i64 q.1.mo, .slice A5 n5 c5, .int .i64 q.1.fi, .int .i64 q.1.la] 0)).choose_spec)) (by decide) [.int .i64 q.2.1.at_, .int .i64 q.2.1.v, .int .i64 q.2.1.r, .int .i64 q.2.1.t, .bool q.2.1.seen.s, .int .i64 q.2.1.seen.n, .bool q.2.1.seen.f, .int .i64 q.2.1.seen.v, .int .i64 q.2.1.tr, .int .i64 q.2.1.sp, .bool q.2.1.ag, .int .i64 q.2.1.re] (i * 12))
  have j2 : KeepT 42 W6 (setCells (setCells W6 O 0 [.int .i64 q.1.rd, .int .i64 q.1.mo, .slice A5 n5 c5, .int .i64 q.1.fi, .int .i64 q.1.la]) gH (i * 12) [.int .i64 q.2.1.at_, .int .i64 q.2.1.v, .int .i64 q.2.1.r, .int .i64 q.2.1.t, .bool q.2.1.seen.s, .int .i64 q.2.1.seen.n, .bool q.2.1.seen.f, .int .i64 q.2.1.seen.v, .int .i64 q.2.1.tr, .int .i64 q.2.1.sp, .bool q.2.1.ag, .int .i64 q.2.1.re]) := (KeepT.sets ho (by decide) [.int .i64 q.1.rd, .int .i64 q.1.mo, .slice A5 n5 c5, .int .i64 q.1.fi, .int .i64 q.1.la] 0).trans (KeepT.sets ((show BoxAt (setCells W6 O 0 [.int .i64 q.1.rd, .int .i64 q.1.mo, .slice A5 n5 c5, .int .i64 q.1.fi, .int .i64 q.1.la]) gH _ _ from (Own.box (Own.sets_ne hHo (by omega) [.int .i64 q.1.rd, .int .i64 q.1.mo, .slice A5 n5 c5, .int .i64 q.1.fi, .int .i64 q.1.la] 0)).choose_spec)) (by decide) [.int .i64 q.2.1.at_, .int .i64 q.2.1.v, .int .i64 q.2.1.r, .int .i64 q.2.1.t, .bool q.2.1.seen.s, .int .i64 q.2.1.seen.n, .bool q.2.1.seen.f, .int .i64 q.2.1.seen.v, .int .i64 q.2.1.tr, .int .i64 q.2.1.sp, .bool q.2.1.ag, .int .i64 q.2.1.re] (i * 12))
  have j4 : KeepT 2 W6 (setCells (setCells W6 O 0 [.int .i64 q.1.rd, .int .i64 q.1.mo, .slice A5 n5 c5, .int .i64 q.1.fi, .int .i64 q.1.la]) gH (i * 12) [.int .i64 q.2.1.at_, .int .i64 q.2.1.v, .int .i64 q.2.1.r, .int .i64 q.2.1.t, .bool q.2.1.seen.s, .int .i64 q.2.1.seen.n, .bool q.2.1.seen.f, .int .i64 q.2.1.seen.v, .int .i64 q.2.1.tr, .int .i64 q.2.1.sp, .bool q.2.1.ag, .int .i64 q.2.1.re]) := (KeepT.sets ho (by decide) [.int .i64 q.1.rd, .int .i64 q.1.mo, .slice A5 n5 c5, .int .i64 q.1.fi, .int .i64 q.1.la] 0).trans (KeepT.sets ((show BoxAt (setCells W6 O 0 [.int .i64 q.1.rd, .int .i64 q.1.mo, .slice A5 n5 c5, .int .i64 q.1.fi, .int .i64 q.1.la]) gH _ _ from (Own.box (Own.sets_ne hHo (by omega) [.int .i64 q.1.rd, .int .i64 q.1.mo, .slice A5 n5 c5, .int .i64 q.1.fi, .int .i64 q.1.la] 0)).choose_spec)) (by decide) [.int .i64 q.2.1.at_, .int .i64 q.2.1.v, .int .i64 q.2.1.r, .int .i64 q.2.1.t, .bool q.2.1.seen.s, .int .i64 q.2.1.seen.n, .bool q.2.1.seen.f, .int .i64 q.2.1.seen.v, .int .i64 q.2.1.tr, .int .i64 q.2.1.sp, .bool q.2.1.ag, .int .i64 q.2.1.re] (i * 12))
  have j5 : KeepT 32 W6 (setCells (setCells W6 O 0 [.int .i64 q.1.rd, .int .i64 q.1.mo, .slice A5 n5 c5, .int .i64 q.1.fi, .int .i64 q.1.la]) gH (i * 12) [.int .i64 q.2.1.at_, .int .i64 q.2.1.v, .int .i64 q.2.1.r, .int .i64 q.2.1.t, .bool q.2.1.seen.s, .int .i64 q.2.1.seen.n, .bool q.2.1.seen.f, .int .i64 q.2.1.seen.v, .int .i64 q.2.1.tr, .int .i64 q.2.1.sp, .bool q.2.1.ag, .int .i64 q.2.1.re]) := (KeepT.sets ho (by decide) [.int .i64 q.1.rd, .int .i64 q.1.mo, .slice A5 n5 c5, .int .i64 q.1.fi, .int .i64 q.1.la] 0).trans (KeepT.sets ((show BoxAt (setCells W6 O 0 [.int .i64 q.1.rd, .int .i64 q.1.mo, .slice A5 n5 c5, .int .i64 q.1.fi, .int .i64 q.1.la]) gH _ _ from (Own.box (Own.sets_ne hHo (by omega) [.int .i64 q.1.rd, .int .i64 q.1.mo, .slice A5 n5 c5, .int .i64 q.1.fi, .int .i64 q.1.la] 0)).choose_spec)) (by decide) [.int .i64 q.2.1.at_, .int .i64 q.2.1.v, .int .i64 q.2.1.r, .int .i64 q.2.1.t, .bool q.2.1.seen.s, .int .i64 q.2.1.seen.n, .bool q.2.1.seen.f, .int .i64 q.2.1.seen.v, .int .i64 q.2.1.tr, .int .i64 q.2.1.sp, .bool q.2.1.ag, .int .i64 q.2.1.re] (i * 12))
  have j6 : KeepT 135 W6 (setCells (setCells W6 O 0 [.int .i64 q.1.rd, .int .i64 q.1.mo, .slice A5 n5 c5, .int .i64 q.1.fi, .int .i64 q.1.la]) gH (i * 12) [.int .i64 q.2.1.at_, .int .i64 q.2.1.v, .int .i64 q.2.1.r, .int .i64 q.2.1.t, .bool q.2.1.seen.s, .int .i64 q.2.1.seen.n, .bool q.2.1.seen.f, .int .i64 q.2.1.seen.v, .int .i64 q.2.1.tr, .int .i64 q.2.1.sp, .bool q.2.1.ag, .int .i64 q.2.1.re]) := (KeepT.sets ho (by decide) [.int .i64 q.1.rd, .int .i64 q.1.mo, .slice A5 n5 c5, .int .i64 q.1.fi, .int .i64 q.1.la] 0).trans (KeepT.sets ((show BoxAt (setCells W6 O 0 [.int .i64 q.1.rd, .int .i64 q.1.mo, .slice A5 n5 c5, .int .i64 q.1.fi, .int .i64 q.1.la]) gH _ _ from (Own.box (Own.sets_ne hHo (by omega) [.int .i64 q.1.rd, .int .i64 q.1.mo, .slice A5 n5 c5, .int .i64 q.1.fi, .int .i64 q.1.la] 0)).choose_spec)) (by decide) [.int .i64 q.2.1.at_, .int .i64 q.2.1.v, .int .i64 q.2.1.r, .int .i64 q.2.1.t, .bool q.2.1.seen.s, .int .i64 q.2.1.seen.n, .bool q.2.1.seen.f, .int .i64 q.2.1.seen.v, .int .i64 q.2.1.tr, .int .i64 q.2.1.sp, .bool q.2.1.ag, .int .i64 q.2.1.re] (i * 12))
  have jz : W6.heap.size = (setCells (setCells W6 O 0 [.int .i64 q.1.rd, .int .i64 q.1.mo, .slice A5 n5 c5, .int .i64 q.1.fi, .int .i64 q.1.la]) gH (i * 12) [.int .i64 q.2.1.at_, .int .i64 q.2.1.v, .int .i64 q.2.1.r, .int .i64 q.2.1.t, .bool q.2.1.seen.s, .int .i64 q.2.1.seen.n, .bool q.2.1.seen.f, .int .i64 q.2.1.seen.v, .int .i64 q.2.1.tr, .int .i64 q.2.1.sp, .bool q.2.1.ag, .int .i64 q.2.1.re]).heap.size := by rw [sets_size, sets_size]
  have p1 : Below w.heap.size w (setCells (setCells W6 O 0 [.int .i64 q.1.rd, .int .i64 q.1.mo, .slice A5 n5 c5, .int .i64 q.1.fi, .int .i64 q.1.la]) gH (i * 12) [.int .i64 q.2.1.at_, .int .i64 q.2.1.v, .int .i64 q.2.1.r, .int .i64 q.2.1.t, .bool q.2.1.seen.s, .int .i64 q.2.1.seen.n, .bool q.2.1.seen.f, .int .i64 q.2.1.seen.v, .int .i64 q.2.1.tr, .int .i64 q.2.1.sp, .bool q.2.1.ag, .int .i64 q.2.1.re]) := Below.setCells (by omega) [.int .i64 q.2.1.at_, .int .i64 q.2.1.v, .int .i64 q.2.1.r, .int .i64 q.2.1.t, .bool q.2.1.seen.s, .int .i64 q.2.1.seen.n, .bool q.2.1.seen.f, .int .i64 q.2.1.seen.v, .int .i64 q.2.1.tr, .int .i64 q.2.1.sp, .bool q.2.1.ag, .int .i64 q.2.1.re] (i * 12) (Below.setCells (by omega) [.int .i64 q.1.rd, .int .i64 q.1.mo, .slice A5 n5 c5, .int .i64 q.1.fi, .int .i64 q.1.la] 0 hB)
  have p2 : BoxAt (setCells (setCells W6 O 0 [.int .i64 q.1.rd, .int .i64 q.1.mo, .slice A5 n5 c5, .int .i64 q.1.fi, .int .i64 q.1.la]) gH (i * 12) [.int .i64 q.2.1.at_, .int .i64 q.2.1.v, .int .i64 q.2.1.r, .int .i64 q.2.1.t, .bool q.2.1.seen.s, .int .i64 q.2.1.seen.n, .bool q.2.1.seen.f, .int .i64 q.2.1.seen.v, .int .i64 q.2.1.tr, .int .i64 q.2.1.sp, .bool q.2.1.ag, .int .i64 q.2.1.re]) w.heap.size #[.int .i64 c.st.rd, .int .i64 c.st.mo, .slice sA mS kS, .int .i64 c.st.fi, .int .i64 c.st.la, .slice (some ⟨gh, 0, none⟩) n kH, .slice jA n kJ, .slice bA n kB, .int .i64 c.ck, .slice eA mE kE] 84 := BoxAt.sets_ne [.int .i64 q.2.1.at_, .int .i64 q.2.1.v, .int .i64 q.2.1.r, .int .i64 q.2.1.t, .bool q.2.1.seen.s, .int .i64 q.2.1.seen.n, .bool q.2.1.seen.f, .int .i64 q.2.1.seen.v, .int .i64 q.2.1.tr, .int .i64 q.2.1.sp, .bool q.2.1.ag, .int .i64 q.2.1.re] (i * 12) (BoxAt.sets_ne [.int .i64 q.1.rd, .int .i64 q.1.mo, .slice A5 n5 c5, .int .i64 q.1.fi, .int .i64 q.1.la] 0 hx (by omega)) (by omega)
  have p3 : BoxAt (setCells (setCells W6 O 0 [.int .i64 q.1.rd, .int .i64 q.1.mo, .slice A5 n5 c5, .int .i64 q.1.fi, .int .i64 q.1.la]) gH (i * 12) [.int .i64 q.2.1.at_, .int .i64 q.2.1.v, .int .i64 q.2.1.r, .int .i64 q.2.1.t, .bool q.2.1.seen.s, .int .i64 q.2.1.seen.n, .bool q.2.1.seen.f, .int .i64 q.2.1.seen.v, .int .i64 q.2.1.tr, .int .i64 q.2.1.sp, .bool q.2.1.ag, .int .i64 q.2.1.re]) (w.heap.size + 1) #[.int .i64 0, .int .i64 0, .slice none 0 0, .int .i64 0, .int .i64 0, .slice none 0 0, .slice none 0 0, .slice none 0 0, .int .i64 0, .slice none 0 0] 84 := BoxAt.sets_ne [.int .i64 q.2.1.at_, .int .i64 q.2.1.v, .int .i64 q.2.1.r, .int .i64 q.2.1.t, .bool q.2.1.seen.s, .int .i64 q.2.1.seen.n, .bool q.2.1.seen.f, .int .i64 q.2.1.seen.v, .int .i64 q.2.1.tr, .int .i64 q.2.1.sp, .bool q.2.1.ag, .int .i64 q.2.1.re] (i * 12) (BoxAt.sets_ne [.int .i64 q.1.rd, .int .i64 q.1.mo, .slice A5 n5 c5, .int .i64 q.1.fi, .int .i64 q.1.la] 0 hz (by omega)) (by omega)
  have p4 : BoxAt (setCells (setCells W6 O 0 [.int .i64 q.1.rd, .int .i64 q.1.mo, .slice A5 n5 c5, .int .i64 q.1.fi, .int .i64 q.1.la]) gH (i * 12) [.int .i64 q.2.1.at_, .int .i64 q.2.1.v, .int .i64 q.2.1.r, .int .i64 q.2.1.t, .bool q.2.1.seen.s, .int .i64 q.2.1.seen.n, .bool q.2.1.seen.f, .int .i64 q.2.1.seen.v, .int .i64 q.2.1.tr, .int .i64 q.2.1.sp, .bool q.2.1.ag, .int .i64 q.2.1.re]) O #[.int .i64 (newC c i i).st.rd, .int .i64 (newC c i i).st.mo, .slice A5 n5 c5, .int .i64 (newC c i i).st.fi, .int .i64 (newC c i i).st.la, .slice (some ⟨gH, 0, none⟩) n cH, .slice oJ n cJ, .slice oB n cB, .int .i64 ((newC c i i).ck), .slice oE mE cE] 84 := by
   rw [HST.out, HCK.out]
   exact BoxAt.sets_ne [.int .i64 q.2.1.at_, .int .i64 q.2.1.v, .int .i64 q.2.1.r, .int .i64 q.2.1.t, .bool q.2.1.seen.s, .int .i64 q.2.1.seen.n, .bool q.2.1.seen.f, .int .i64 q.2.1.seen.v, .int .i64 q.2.1.tr, .int .i64 q.2.1.sp, .bool q.2.1.ag, .int .i64 q.2.1.re] (i * 12) (show BoxAt (setCells W6 O 0 [.int .i64 q.1.rd, .int .i64 q.1.mo, .slice A5 n5 c5, .int .i64 q.1.fi, .int .i64 q.1.la]) O #[.int .i64 q.1.rd, .int .i64 q.1.mo, .slice A5 n5 c5, .int .i64 q.1.fi, .int .i64 q.1.la, .slice (some ⟨gH, 0, none⟩) n cH, .slice oJ n cJ, .slice oB n cB, .int .i64 (c.ck + 1), .slice oE mE cE] 84 from ((((ho.set 0 _).set 1 _).set 2 _).set 3 _).set 4 _) (by omega)
  have p5 : BoxAt (setCells (setCells W6 O 0 [.int .i64 q.1.rd, .int .i64 q.1.mo, .slice A5 n5 c5, .int .i64 q.1.fi, .int .i64 q.1.la]) gH (i * 12) [.int .i64 q.2.1.at_, .int .i64 q.2.1.v, .int .i64 q.2.1.r, .int .i64 q.2.1.t, .bool q.2.1.seen.s, .int .i64 q.2.1.seen.n, .bool q.2.1.seen.f, .int .i64 q.2.1.seen.v, .int .i64 q.2.1.tr, .int .i64 q.2.1.sp, .bool q.2.1.ag, .int .i64 q.2.1.re]) X #[.int .i64 h.at_, .int .i64 h.v, .int .i64 h.r, .int .i64 h.t, .bool h.seen.s, .int .i64 h.seen.n, .bool h.seen.f, .int .i64 h.seen.v, .int .i64 h.tr, .int .i64 h.sp, .bool h.ag, .int .i64 h.re] 116 := BoxAt.sets_ne [.int .i64 q.2.1.at_, .int .i64 q.2.1.v, .int .i64 q.2.1.r, .int .i64 q.2.1.t, .bool q.2.1.seen.s, .int .i64 q.2.1.seen.n, .bool q.2.1.seen.f, .int .i64 q.2.1.seen.v, .int .i64 q.2.1.tr, .int .i64 q.2.1.sp, .bool q.2.1.ag, .int .i64 q.2.1.re] (i * 12) (BoxAt.sets_ne [.int .i64 q.1.rd, .int .i64 q.1.mo, .slice A5 n5 c5, .int .i64 q.1.fi, .int .i64 q.1.la] 0 hq (by omega)) (by omega)
  have p6 : BoxAt (setCells (setCells W6 O 0 [.int .i64 q.1.rd, .int .i64 q.1.mo, .slice A5 n5 c5, .int .i64 q.1.fi, .int .i64 q.1.la]) gH (i * 12) [.int .i64 q.2.1.at_, .int .i64 q.2.1.v, .int .i64 q.2.1.r, .int .i64 q.2.1.t, .bool q.2.1.seen.s, .int .i64 q.2.1.seen.n, .bool q.2.1.seen.f, .int .i64 q.2.1.seen.v, .int .i64 q.2.1.tr, .int .i64 q.2.1.sp, .bool q.2.1.ag, .int .i64 q.2.1.re]) (S5 + 1) #[.int .i64 q.2.1.at_, .int .i64 q.2.1.v, .int .i64 q.2.1.r, .int .i64 q.2.1.t, .bool q.2.1.seen.s, .int .i64 q.2.1.seen.n, .bool q.2.1.seen.f, .int .i64 q.2.1.seen.v, .int .i64 q.2.1.tr, .int .i64 q.2.1.sp, .bool q.2.1.ag, .int .i64 q.2.1.re] 116 := BoxAt.sets_ne [.int .i64 q.2.1.at_, .int .i64 q.2.1.v, .int .i64 q.2.1.r, .int .i64 q.2.1.t, .bool q.2.1.seen.s, .int .i64 q.2.1.seen.n, .bool q.2.1.seen.f, .int .i64 q.2.1.seen.v, .int .i64 q.2.1.tr, .int .i64 q.2.1.sp, .bool q.2.1.ag, .int .i64 q.2.1.re] (i * 12) (BoxAt.sets_ne [.int .i64 q.1.rd, .int .i64 q.1.mo, .slice A5 n5 c5, .int .i64 q.1.fi, .int .i64 q.1.la] 0 hy (by omega)) (by omega)
  have p7 : CrP Q (setCells (setCells W6 O 0 [.int .i64 q.1.rd, .int .i64 q.1.mo, .slice A5 n5 c5, .int .i64 q.1.fi, .int .i64 q.1.la]) gH (i * 12) [.int .i64 q.2.1.at_, .int .i64 q.2.1.v, .int .i64 q.2.1.r, .int .i64 q.2.1.t, .bool q.2.1.seen.s, .int .i64 q.2.1.seen.n, .bool q.2.1.seen.f, .int .i64 q.2.1.seen.v, .int .i64 q.2.1.tr, .int .i64 q.2.1.sp, .bool q.2.1.ag, .int .i64 q.2.1.re]) (newC c i i) (⟨⟨A5, n5, c5⟩, ⟨some ⟨gH, 0, none⟩, n, cH⟩, ⟨oJ, n, cJ⟩, ⟨oB, n, cB⟩, ⟨oE, mE, cE⟩⟩ : CrL) := by
   refine ⟨?_, ?_, ?_, ?_⟩
   ·
    rw [HST.out, ← jz]
    exact (hG.keepT j1 j2).mono (by omega) (by omega)
   ·
    rw [HHS.out]
    refine ⟨by rw [List.length_set]; exact E2.out, .inr ⟨gH, rfl, by rw [← jz]; omega, ?_⟩⟩
    exact Own.setEl (Own.sets_ne hHo (by omega) [.int .i64 q.1.rd, .int .i64 q.1.mo, .slice A5 n5 c5, .int .i64 q.1.fi, .int .i64 q.1.la] 0) Hd.cs_len (by omega) hil q.2.1
   ·
    rw [← jz]
    exact hF.j.keepT j4 j5
   ·
    rw [← jz]
    exact SlW.mono (SlW.keepT hF.b j4) (Nat.le_refl _) (by omega)
  have p8 : EvsW Q O (setCells (setCells W6 O 0 [.int .i64 q.1.rd, .int .i64 q.1.mo, .slice A5 n5 c5, .int .i64 q.1.fi, .int .i64 q.1.la]) gH (i * 12) [.int .i64 q.2.1.at_, .int .i64 q.2.1.v, .int .i64 q.2.1.r, .int .i64 q.2.1.t, .bool q.2.1.seen.s, .int .i64 q.2.1.seen.n, .bool q.2.1.seen.f, .int .i64 q.2.1.seen.v, .int .i64 q.2.1.tr, .int .i64 q.2.1.sp, .bool q.2.1.ag, .int .i64 q.2.1.re]) oE mE cE c.es := SlW.keepT hF.e j6
  refine wp_abs (fun W => Below w.heap.size w W ∧ BoxAt W w.heap.size #[.int .i64 c.st.rd, .int .i64 c.st.mo, .slice sA mS kS, .int .i64 c.st.fi, .int .i64 c.st.la, .slice (some ⟨gh, 0, none⟩) n kH, .slice jA n kJ, .slice bA n kB, .int .i64 c.ck, .slice eA mE kE] 84 ∧ BoxAt W (w.heap.size + 1) #[.int .i64 0, .int .i64 0, .slice none 0 0, .int .i64 0, .int .i64 0, .slice none 0 0, .slice none 0 0, .slice none 0 0, .int .i64 0, .slice none 0 0] 84 ∧ BoxAt W O #[.int .i64 (newC c i i).st.rd, .int .i64 (newC c i i).st.mo, .slice A5 n5 c5, .int .i64 (newC c i i).st.fi, .int .i64 (newC c i i).st.la, .slice (some ⟨gH, 0, none⟩) n cH, .slice oJ n cJ, .slice oB n cB, .int .i64 ((newC c i i).ck), .slice oE mE cE] 84 ∧ BoxAt W X #[.int .i64 h.at_, .int .i64 h.v, .int .i64 h.r, .int .i64 h.t, .bool h.seen.s, .int .i64 h.seen.n, .bool h.seen.f, .int .i64 h.seen.v, .int .i64 h.tr, .int .i64 h.sp, .bool h.ag, .int .i64 h.re] 116 ∧ BoxAt W (S5 + 1) #[.int .i64 q.2.1.at_, .int .i64 q.2.1.v, .int .i64 q.2.1.r, .int .i64 q.2.1.t, .bool q.2.1.seen.s, .int .i64 q.2.1.seen.n, .bool q.2.1.seen.f, .int .i64 q.2.1.seen.v, .int .i64 q.2.1.tr, .int .i64 q.2.1.sp, .bool q.2.1.ag, .int .i64 q.2.1.re] 116 ∧ CrP Q W (newC c i i) (⟨⟨A5, n5, c5⟩, ⟨some ⟨gH, 0, none⟩, n, cH⟩, ⟨oJ, n, cJ⟩, ⟨oB, n, cB⟩, ⟨oE, mE, cE⟩⟩ : CrL) ∧ EvsW Q O W oE mE cE c.es) ⟨p1, p2, p3, p4, p5, p6, p7, p8⟩ ?_
  clear hB hx hz ho hq hs5 hy hG hF hHo j1 j2 j4 j5 j6 jz p1 p2 p3 p4 p5 p6 p7 p8
  rintro W7 ⟨hB, hx, hz, ho, hq, hy, hP, hE⟩
  have ky := hy.cell
  go_upto_if 107 with fail
  have hO7 := ho.lt
  go_cut [12] (fun u12 W' => ∃ (A8 : Option Addr) (n8 c8 : Nat), Below w.heap.size w W' ∧ BoxAt W' w.heap.size #[.int .i64 c.st.rd, .int .i64 c.st.mo, .slice sA mS kS, .int .i64 c.st.fi, .int .i64 c.st.la, .slice (some ⟨gh, 0, none⟩) n kH, .slice jA n kJ, .slice bA n kB, .int .i64 c.ck, .slice eA mE kE] 84 ∧ BoxAt W' (w.heap.size + 1) #[.int .i64 0, .int .i64 0, .slice none 0 0, .int .i64 0, .int .i64 0, .slice none 0 0, .slice none 0 0, .slice none 0 0, .int .i64 0, .slice none 0 0] 84 ∧ BoxAt W' O #[.int .i64 (newC c i i).st.rd, .int .i64 (newC c i i).st.mo, .slice A5 n5 c5, .int .i64 (newC c i i).st.fi, .int .i64 (newC c i i).st.la, .slice (some ⟨gH, 0, none⟩) n cH, .slice oJ n cJ, .slice oB n cB, .int .i64 ((newC c i i).ck), .slice A8 n8 c8] 84 ∧ CrW Q W'.heap.size W' (newC c i i) (⟨⟨A5, n5, c5⟩, ⟨some ⟨gH, 0, none⟩, n, cH⟩, ⟨oJ, n, cJ⟩, ⟨oB, n, cB⟩, ⟨A8, n8, c8⟩⟩ : CrL))
  case first =>
   cases hyt : (q.2.1.at_ == 0)
   ·
    have HES := Lib.hid (show (newC c i i).es = c.es by unfold newC endC; rw [← HGH.out, HQ5.out]; dsimp only; rw [if_neg (by simpa using hyt), goC_es])
    go_wp2
    go_meet
    exact ⟨oE, mE, cE, hB, hx, hz, ho, hP.crw (by rw [HES.out]; exact SlW.mono hE (Nat.le_refl _) (by omega))⟩
   ·
    have HES := Lib.hid (show (newC c i i).es = c.es ++ [evt (i : Int) i h q.2.1 (goC c i)] by unfold newC endC; rw [← HGH.out, HQ5.out]; dsimp only; rw [if_pos (by simpa using hyt), goC_es])
    clear hyt
    obtain ⟨gB, bz, oB', -, lB, hbz, hbc0⟩ := SlW.at_ hP.b ic_len (i := i) hil
    dsimp only at oB'
    subst oB'
    have HBZ := Lib.hid (show (goC c i).bs.getD i 0 = bz from getD_some hbz)
    have hbc : CellsAt W7 gB i [.int .i64 bz] := fun j u hu => by
     have := hbc0 j u hu
     rwa [Nat.mul_one] at this
    clear hbc0 hbz
    go_upto_region 21 with fail
    clear ky
    obtain ⟨M, hMe⟩ : ∃ M, M = W7.heap.size := ⟨_, rfl⟩
    have hM : M ≤ W7.heap.size := by omega
    have mN : w.heap.size + 1 < M := by have := hz.lt; omega
    have mO : O < M := by omega
    have mX : X < M := by have := hq.lt; omega
    have mY : S5 + 1 < M := by have := hy.lt; omega
    have mB : gB < M := by omega
    clear hMe lB
    refine wp_region2v (fun w w' => Below w.heap.size w w') (fun _ _ h => h.size) (fun _ => Below.refl _ _) (fun L W' => Below w.heap.size w W' ∧ BoxAt W' w.heap.size #[.int .i64 c.st.rd, .int .i64 c.st.mo, .slice sA mS kS, .int .i64 c.st.fi, .int .i64 c.st.la, .slice (some ⟨gh, 0, none⟩) n kH, .slice jA n kJ, .slice bA n kB, .int .i64 c.ck, .slice eA mE kE] 84 ∧ BoxAt W' (w.heap.size + 1) #[.int .i64 0, .int .i64 0, .slice none 0 0, .int .i64 0, .int .i64 0, .slice none 0 0, .slice none 0 0, .slice none 0 0, .int .i64 0, .slice none 0 0] 84 ∧ BoxAt W' O #[.int .i64 ((newC c i i).st.rd), .int .i64 ((newC c i i).st.mo), .slice A5 n5 c5, .int .i64 ((newC c i i).st.fi), .int .i64 ((newC c i i).st.la), .slice (some ⟨gH, 0, none⟩) n cH, .slice oJ n cJ, .slice (some ⟨gB, 0, none⟩) n cB, .int .i64 ((newC c i i).ck), .slice oE mE cE] 84 ∧ BoxAt W' X #[.int .i64 h.at_, .int .i64 h.v, .int .i64 h.r, .int .i64 h.t, .bool h.seen.s, .int .i64 h.seen.n, .bool h.seen.f, .int .i64 h.seen.v, .int .i64 h.tr, .int .i64 h.sp, .bool h.ag, .int .i64 h.re] 116 ∧ BoxAt W' (S5 + 1) #[.int .i64 q.2.1.at_, .int .i64 q.2.1.v, .int .i64 q.2.1.r, .int .i64 q.2.1.t, .bool q.2.1.seen.s, .int .i64 q.2.1.seen.n, .bool q.2.1.seen.f, .int .i64 q.2.1.seen.v, .int .i64 q.2.1.tr, .int .i64 q.2.1.sp, .bool q.2.1.ag, .int .i64 q.2.1.re] 116 ∧ M ≤ W'.heap.size ∧ CellsAt W' gB i [.int .i64 bz] ∧ CrP Q W' (newC c i i) (⟨⟨A5, n5, c5⟩, ⟨some ⟨gH, 0, none⟩, n, cH⟩, ⟨oJ, n, cJ⟩, ⟨some ⟨gB, 0, none⟩, n, cB⟩, ⟨oE, mE, cE⟩⟩ : CrL) ∧ EvsW Q O W' oE mE cE c.es) (tuEV c M O X (S5 + 1) i n n5 c5 cH cJ cB mE cE gH gB A5 oJ oE h q bz) (fun j => [0, 0, 0, 0, 0, 0, 0, 0, 0, 0, 0, 0, 0, 0, 0, 0, 2, 1].getD j 0) [(17, 16)] (by kernel_rfl) (by kernel_rfl) ?_ ?_ ?_
     (.still rfl ?a0 <| .still rfl ?a1 <| .still rfl ?a2 <| .grow rfl ?a3 <| .still rfl ?a4 <| .still rfl ?a5 <| .still rfl ?a6 <| .still rfl ?a7 <| .still rfl ?a8 <| .still rfl ?a9 <| .still rfl ?a10 <| .still rfl ?a11 <| .still rfl ?a12 <| .still rfl ?a13 <| .still rfl ?a14 <| .still rfl ?a15 <| .make rfl ?a16 <| .store rfl ?a17 <| .nil) ?_ ?_
    · exact ⟨fun _ _ _ h ⟨g, e, hp⟩ => ⟨g, (h 16 (List.mem_singleton.2 rfl)).symm.trans e, hp⟩, fun _ _ _ h ⟨g, e, hp⟩ => ⟨g, (h 16 (List.mem_singleton.2 rfl)).symm.trans e, hp⟩, trivial⟩
    · exact ⟨fun σ w w' hb ⟨g, e, hg, x0, x1, x2, x3, x4, x5, hx⟩ => ⟨g, e, hg, x0, x1, x2, x3, x4, x5, hx.below hb hx.lt⟩, fun σ w w' hb ⟨g, e, hg, hx⟩ => ⟨g, e, hg, hx.below hb hx.lt⟩, trivial⟩
    · exact ⟨hB.drew, hx, hz, ho, hq, hy, hM, hbc, hP.drew, hE⟩
    case a0 | a1 | a4 | a6 | a8 | a10 | a11 | a13 | a15 =>
     go_light
     intro L σ W' hcl hL hC hw
     try have e0 := wT hw 0 rfl
     try have e3 := wT hw 3 rfl
     try have e5 := wT hw 5 rfl
     try have e7 := wT hw 7 rfl
     try have e9 := wT hw 9 rfl
     try have e10 := wT hw 10 rfl
     try have e12 := wT hw 12 rfl
     try have e14 := wT hw 14 rfl
     clear hw hcl hL hC
     refine OpGoes.go fun K hK => ?_
     go_simp
     exact hK _ _ ⟨rfl, rfl⟩
    case a2 =>
     go_light
     intro L σ W' hcl hL hC hw
     have e1 := wV hw 1 rfl
     have kq := hC.2.2.2.2.1.cell
     clear hw hcl hL hC
     refine OpGoes.go fun K hK => ?_
     go_simp
     exact hK _ _ ⟨rfl, rfl⟩
    case a5 | a7 =>
     go_light
     intro L σ W' hcl hL hC hw
     try have e4 := wT hw 4 rfl
     try have e6 := wT hw 6 rfl
     have ky := hC.2.2.2.2.2.1.cell
     clear hw hcl hL hC
     refine OpGoes.go fun K hK => ?_
     go_simp
     exact hK _ _ ⟨rfl, rfl⟩
    case a9 | a14 =>
     go_light
     intro L σ W' hcl hL hC hw
     try have e8 := wT hw 8 rfl
     try have e13 := wT hw 13 rfl
     have ko := hC.2.2.2.1.cell
     clear hw hcl hL hC
     refine OpGoes.go fun K hK => ?_
     go_simp
     exact hK _ _ ⟨rfl, rfl⟩
    case a12 =>
     go_light
     intro L σ W' hcl hL hC hw
     have e11 := wV hw 11 rfl
     have db := hC.2.2.2.2.2.2.2.1 0 _ rfl
     rw [Nat.add_zero] at db
     clear hw hcl hL hC
     refine OpGoes.go fun K hK => ?_
     go_simp
     exact hK _ _ ⟨rfl, rfl⟩
    case a3 =>
     go_light
     intro L σ W' hcl hL hC hw
     have e2 := wV hw 2 rfl
     clear hw
     have HC := Lib.hid hC
     clear hC
     clear hcl hL
     refine OpGoes.go fun K hK => ?_
     go_simp
     obtain ⟨hB, hx, hz, ho, hq, hy, hM, hbc, hP, hE⟩ := HC.out
     refine (l5PuttingB h.at_ _).mono ?_
     rintro e w1 ⟨rfl, hb1⟩
     exact ⟨_, rfl, hK _ _ ⟨⟨bstep hB hB.size hb1, hx.below hb1 hx.lt, hz.below hb1 hz.lt, ho.below hb1 ho.lt, hq.below hb1 hq.lt, hy.below hb1 hy.lt, Nat.le_trans hM hb1.size, hbc.below hb1, hP.belowS hb1, SlW.below hE hb1 (by omega)⟩, rfl, hb1⟩⟩
    case a16 =>
     go_light
     intro L σ W' hcl hL hC hw
     clear hw
     have HC := Lib.hid hC
     clear hC
     clear hcl hL
     refine OpGoes.go fun K hK => ?_
     go_simp
     obtain ⟨hB, hx, hz, ho, hq, hy, hM, hbc, hP, hE⟩ := HC.out
     have hb1 : Below W'.heap.size W' (W'.alloc (.cells #[.int .i64 0, .bool false, .int .i64 0, .int .i64 0, .int .i64 0, .int .i64 0] 135)) := (Below.refl _ _).alloc (Nat.le_refl _) _
     exact hK _ _ ⟨⟨bstep hB hB.size hb1, hx.below hb1 hx.lt, hz.below hb1 hz.lt, ho.below hb1 ho.lt, hq.below hb1 hq.lt, hy.below hb1 hy.lt, Nat.le_trans hM hb1.size, hbc.below hb1, hP.belowS hb1, SlW.below hE hb1 (by omega)⟩, ⟨_, rfl, hM, _, _, _, _, _, _, BoxAt.new _ _ _⟩, hb1, rfl, by simp⟩
    case a17 =>
     go_light
     intro L σ W' hcl hL hC hw hne
     have e15 := wV hw 15 rfl
     obtain ⟨g16, e16, hg16, x0, x1, x2, x3, x4, x5, hbox16⟩ := wE hw 16 rfl
     clear hw hne
     have HC := Lib.hid hC
     clear hC
     clear hcl hL
     have kc_ := hbox16.cell
     have kf_ := hbox16.frozen
     refine OpGoes.go fun K hK => ?_
     go_simp
     obtain ⟨hB, hx, hz, ho, hq, hy, hM, hbc, hP, hE⟩ := HC.out
     have hset := sets_all (us := [.int .i64 ((i : Int)), .bool (putB h.at_), .int .i64 q.2.1.v, .int .i64 q.2.1.re, .int .i64 bz, .int .i64 ((newC c i i).ck)]) hbox16 rfl
     refine hK undef (setCells W' g16 0 [.int .i64 ((i : Int)), .bool (putB h.at_), .int .i64 q.2.1.v, .int .i64 q.2.1.re, .int .i64 bz, .int .i64 ((newC c i i).ck)]) ⟨⟨(Below.setCells (by omega) _ 0 hB), (BoxAt.sets_ne _ 0 hx (by omega)), (BoxAt.sets_ne _ 0 hz (by omega)), (BoxAt.sets_ne _ 0 ho (by omega)), (BoxAt.sets_ne _ 0 hq (by omega)), (BoxAt.sets_ne _ 0 hy (by omega)), (size_sts hM _ 0), (CellsAt.same hbc (sets_block (by omega) _ 0 _)), (CrP.setsE hP hbox16 _ 0), (SlW.sts hE (by omega) _ 0)⟩, ⟨g16, e16, hg16, hset⟩, Nat.le_of_eq (sets_size _ _ _).symm, keepV ?_⟩
     exact ⟨fun _ _ _ => ⟨g16, e16, hg16, _, _, _, _, _, _, hset⟩, fun h => absurd rfl h, trivial⟩
    ·
     intro L L' W' hLL hC
     obtain ⟨hB, hx, hz, ho, hq, hy, hM, hbc, hP, hE⟩ := hC
     exact ⟨hB, hx, hz, ho, hq, hy, hM, hbc, hP, hE⟩
    ·
     intro σ L W' hall hC hRR
     obtain ⟨hB, hx, hz, ho, hq, hy, hM, hbc, hP, hE⟩ := hC
     obtain ⟨g16, e16, hg17, s17⟩ := dE hRR 17 rfl
     clear hRR hbc
     simp only [lexAll]
     go_simp
     go_step
     cases hpt : putB h.at_
     ·
      have s17b : BoxAt W' g16 #[.int .i64 (i : Int), .bool false, .int .i64 q.2.1.v, .int .i64 q.2.1.re, .int .i64 bz, .int .i64 (newC c i i).ck] 135 := by rw [← hpt]; exact s17
      have HEV := Lib.hid (show (evt (i : Int) i h q.2.1 (goC c i)).cs = [.int .i64 (i : Int), .bool false, .int .i64 q.2.1.v, .int .i64 q.2.1.re, .int .i64 bz, .int .i64 (newC c i i).ck] by unfold evt Ev.cs; rw [hpt, HBZ.out]; rfl)
      have kv := s17b.cell
      have fv := s17b.frozen
      have kq := hq.cell
      go_upto_region 24 with fail
      clear kv fv kq hpt s17
      refine wp_abs (fun W => Below w.heap.size w W ∧ BoxAt W w.heap.size #[.int .i64 c.st.rd, .int .i64 c.st.mo, .slice sA mS kS, .int .i64 c.st.fi, .int .i64 c.st.la, .slice (some ⟨gh, 0, none⟩) n kH, .slice jA n kJ, .slice bA n kB, .int .i64 c.ck, .slice eA mE kE] 84 ∧ BoxAt W (w.heap.size + 1) #[.int .i64 0, .int .i64 0, .slice none 0 0, .int .i64 0, .int .i64 0, .slice none 0 0, .slice none 0 0, .slice none 0 0, .int .i64 0, .slice none 0 0] 84 ∧ BoxAt W O #[.int .i64 ((newC c i i).st.rd), .int .i64 ((newC c i i).st.mo), .slice A5 n5 c5, .int .i64 ((newC c i i).st.fi), .int .i64 ((newC c i i).st.la), .slice (some ⟨gH, 0, none⟩) n cH, .slice oJ n cJ, .slice (some ⟨gB, 0, none⟩) n cB, .int .i64 ((newC c i i).ck), .slice oE mE cE] 84 ∧ BoxAt W g16 #[.int .i64 (i : Int), .bool false, .int .i64 q.2.1.v, .int .i64 q.2.1.re, .int .i64 bz, .int .i64 (newC c i i).ck] 135 ∧ CrP Q W (newC c i i) (⟨⟨A5, n5, c5⟩, ⟨some ⟨gH, 0, none⟩, n, cH⟩, ⟨oJ, n, cJ⟩, ⟨some ⟨gB, 0, none⟩, n, cB⟩, ⟨oE, mE, cE⟩⟩ : CrL) ∧ EvsW Q O W oE mE cE c.es ∧ M ≤ W.heap.size) ⟨hB, hx, hz, ho, s17b, hP, hE, hM⟩ ?_
      clear hB hx hz ho hq hy hP hE hM s17b
      rintro W8 ⟨hB, hx, hz, ho, hev, hP, hE, hM⟩
      have ko := ho.cell
      have fo := ho.frozen
      have kv := hev.cell
      have hEo := SlW.own hE Ev.cs_len
      have hBs := hB.size
      go_wp2_with (at_builtin; go_must (refine wpList_append_own_at _ rfl (.tmp 130) (.tmp 132) _ rfl Q 135 iE _ 6 48 Tryz.underlying82 EI.out EZ0.out EZ1.out EZ2.out rfl (by omega) (.slice oE mE cE) mE _ rfl (hEo.alloc _) ⟨W8.heap.size, 0, none⟩ 1 1 [.int .i64 (i : Int), .bool false, .int .i64 q.2.1.v, .int .i64 q.2.1.re, .int .i64 bz, .int .i64 (newC c i i).ck] rfl rfl (news_alloc _ _ _) (by intro u hu; simp at hu; rcases hu with rfl | rfl | rfl | rfl | rfl | rfl <;> rfl) (by unfold maxLen; omega) (by omega) (by simp; omega) ?_; intro v' w' hO' hg' hz' hat'; clear hz' hat' ko fo kv; obtain ⟨g', cap', rfl, hP'⟩ := Own.of_row (f := Ev.cs) (l := c.es ++ [evt (i : Int) i h q.2.1 (goC c i)]) (n := mE + 1) (by rw [List.flatMap_append]; simp only [List.flatMap_cons, List.flatMap_nil, List.append_nil, HEV.out]; exact hO') (by simp [E5.out]) (by omega); have hB' := Below.grown (hB.alloc (by omega) _) hg' (by simp; omega) (fun k hk => by have := (hEo.lt k hk).1; omega); have kT : ∀ T, 135 ≠ T → KeepT T W8 w' := fun T hT => (KeepT.alloc W8 _).trans (KeepT.grown (hEo.alloc _) hg' hT); have hz8 : W8.heap.size ≤ w'.heap.size := (by have := hg'.size; simp at this; omega); have ho' := ho.keepT (kT _ (by decide)); have hx' := hx.keepT (kT _ (by decide)); have hz' := hz.keepT (kT _ (by decide)); have ko := ho'.cell; have fo := ho'.frozen))
      have hPf := CrP.setsC (hP.keepT (kT _ (by decide)) (kT _ (by decide)) (kT _ (by decide)) (kT _ (by decide)) (kT _ (by decide)) hz8) ho' [.slice (some ⟨g', 0, none⟩) (mE + 1) cap'] 9
      have hEf : EvsW Q (setCells w' O 9 [.slice (some ⟨g', 0, none⟩) (mE + 1) cap']).heap.size (setCells w' O 9 [.slice (some ⟨g', 0, none⟩) (mE + 1) cap']) (some ⟨g', 0, none⟩) (mE + 1) cap' (newC c i i).es := by
       rw [HES.out]
       refine ⟨by simp [E5.out], .inr ⟨g', rfl, by rw [sets_size]; exact Own.lt hP', Own.keepT hP' (KeepT.sets ho' (by decide) _ 9)⟩⟩
      have hof : BoxAt (setCells w' O 9 [.slice (some ⟨g', 0, none⟩) (mE + 1) cap']) O #[.int .i64 ((newC c i i).st.rd), .int .i64 ((newC c i i).st.mo), .slice A5 n5 c5, .int .i64 ((newC c i i).st.fi), .int .i64 ((newC c i i).st.la), .slice (some ⟨gH, 0, none⟩) n cH, .slice oJ n cJ, .slice (some ⟨gB, 0, none⟩) n cB, .int .i64 ((newC c i i).ck), .slice (some ⟨g', 0, none⟩) (mE + 1) cap'] 84 := ho'.set 9 _
      go_meet
      exact ⟨some ⟨g', 0, none⟩, mE + 1, cap', sc hB', hx'.sn, hz'.sn, hof, CrW.mk hPf.s hPf.h hPf.j hPf.b hEf⟩
     ·
      have s17b : BoxAt W' g16 #[.int .i64 (i : Int), .bool true, .int .i64 q.2.1.v, .int .i64 q.2.1.re, .int .i64 bz, .int .i64 (newC c i i).ck] 135 := by rw [← hpt]; exact s17
      have HEV := Lib.hid (show (evt (i : Int) i h q.2.1 (goC c i)).cs = [.int .i64 (i : Int), .bool true, .int .i64 h.v, .int .i64 q.2.1.re, .int .i64 bz, .int .i64 (newC c i i).ck] by unfold evt Ev.cs; rw [hpt, HBZ.out]; rfl)
      have kv := s17b.cell
      have fv := s17b.frozen
      have kq := hq.cell
      go_upto_region 24 with fail
      clear kv fv kq hpt s17
      refine wp_abs (fun W => Below w.heap.size w W ∧ BoxAt W w.heap.size #[.int .i64 c.st.rd, .int .i64 c.st.mo, .slice sA mS kS, .int .i64 c.st.fi, .int .i64 c.st.la, .slice (some ⟨gh, 0, none⟩) n kH, .slice jA n kJ, .slice bA n kB, .int .i64 c.ck, .slice eA mE kE] 84 ∧ BoxAt W (w.heap.size + 1) #[.int .i64 0, .int .i64 0, .slice none 0 0, .int .i64 0, .int .i64 0, .slice none 0 0, .slice none 0 0, .slice none 0 0, .int .i64 0, .slice none 0 0] 84 ∧ BoxAt W O #[.int .i64 ((newC c i i).st.rd), .int .i64 ((newC c i i).st.mo), .slice A5 n5 c5, .int .i64 ((newC c i i).st.fi), .int .i64 ((newC c i i).st.la), .slice (some ⟨gH, 0, none⟩) n cH, .slice oJ n cJ, .slice (some ⟨gB, 0, none⟩) n cB, .int .i64 ((newC c i i).ck), .slice oE mE cE] 84 ∧ BoxAt W g16 #[.int .i64 (i : Int), .bool true, .int .i64 h.v, .int .i64 q.2.1.re, .int .i64 bz, .int .i64 (newC c i i).ck] 135 ∧ CrP Q W (newC c i i) (⟨⟨A5, n5, c5⟩, ⟨some ⟨gH, 0, none⟩, n, cH⟩, ⟨oJ, n, cJ⟩, ⟨some ⟨gB, 0, none⟩, n, cB⟩, ⟨oE, mE, cE⟩⟩ : CrL) ∧ EvsW Q O W oE mE cE c.es ∧ M ≤ W.heap.size) ⟨sc hB, hx.sn, hz.sn, ho.sn, by simpa using s17b.set 2 (.int .i64 h.v), CrP.setsE hP s17b [.int .i64 h.v] 2, SlW.st hE (.inr (by omega)) 2 _, by simpa using hM⟩ ?_
      clear hB hx hz ho hq hy hP hE hM s17b
      rintro W8 ⟨hB, hx, hz, ho, hev, hP, hE, hM⟩
      have ko := ho.cell
      have fo := ho.frozen
      have kv := hev.cell
      have hEo := SlW.own hE Ev.cs_len
      have hBs := hB.size
      go_wp2_with (at_builtin; go_must (refine wpList_append_own_at _ rfl (.tmp 130) (.tmp 132) _ rfl Q 135 iE _ 6 48 Tryz.underlying82 EI.out EZ0.out EZ1.out EZ2.out rfl (by omega) (.slice oE mE cE) mE _ rfl (hEo.alloc _) ⟨W8.heap.size, 0, none⟩ 1 1 [.int .i64 (i : Int), .bool true, .int .i64 h.v, .int .i64 q.2.1.re, .int .i64 bz, .int .i64 (newC c i i).ck] rfl rfl (news_alloc _ _ _) (by intro u hu; simp at hu; rcases hu with rfl | rfl | rfl | rfl | rfl | rfl <;> rfl) (by unfold maxLen; omega) (by omega) (by simp; omega) ?_; intro v' w' hO' hg' hz' hat'; clear hz' hat' ko fo kv; obtain ⟨g', cap', rfl, hP'⟩ := Own.of_row (f := Ev.cs) (l := c.es ++ [evt (i : Int) i h q.2.1 (goC c i)]) (n := mE + 1) (by rw [List.flatMap_append]; simp only [List.flatMap_cons, List.flatMap_nil, List.append_nil, HEV.out]; exact hO') (by simp [E5.out]) (by omega); have hB' := Below.grown (hB.alloc (by omega) _) hg' (by simp; omega) (fun k hk => by have := (hEo.lt k hk).1; omega); have kT : ∀ T, 135 ≠ T → KeepT T W8 w' := fun T hT => (KeepT.alloc W8 _).trans (KeepT.grown (hEo.alloc _) hg' hT); have hz8 : W8.heap.size ≤ w'.heap.size := (by have := hg'.size; simp at this; omega); have ho' := ho.keepT (kT _ (by decide)); have hx' := hx.keepT (kT _ (by decide)); have hz' := hz.keepT (kT _ (by decide)); have ko := ho'.cell; have fo := ho'.frozen))
      have hPf := CrP.setsC (hP.keepT (kT _ (by decide)) (kT _ (by decide)) (kT _ (by decide)) (kT _ (by decide)) (kT _ (by decide)) hz8) ho' [.slice (some ⟨g', 0, none⟩) (mE + 1) cap'] 9
      have hEf : EvsW Q (setCells w' O 9 [.slice (some ⟨g', 0, none⟩) (mE + 1) cap']).heap.size (setCells w' O 9 [.slice (some ⟨g', 0, none⟩) (mE + 1) cap']) (some ⟨g', 0, none⟩) (mE + 1) cap' (newC c i i).es := by
       rw [HES.out]
       refine ⟨by simp [E5.out], .inr ⟨g', rfl, by rw [sets_size]; exact Own.lt hP', Own.keepT hP' (KeepT.sets ho' (by decide) _ 9)⟩⟩
      have hof : BoxAt (setCells w' O 9 [.slice (some ⟨g', 0, none⟩) (mE + 1) cap']) O #[.int .i64 ((newC c i i).st.rd), .int .i64 ((newC c i i).st.mo), .slice A5 n5 c5, .int .i64 ((newC c i i).st.fi), .int .i64 ((newC c i i).st.la), .slice (some ⟨gH, 0, none⟩) n cH, .slice oJ n cJ, .slice (some ⟨gB, 0, none⟩) n cB, .int .i64 ((newC c i i).ck), .slice (some ⟨g', 0, none⟩) (mE + 1) cap'] 84 := ho'.set 9 _
      go_meet
      exact ⟨some ⟨g', 0, none⟩, mE + 1, cap', sc hB', hx'.sn, hz'.sn, hof, CrW.mk hPf.s hPf.h hPf.j hPf.b hEf⟩
  case rest =>
   clear hB hx hz ho hq hy hP hE ky hO7
   obtain ⟨A8, n8, c8, hB, hx, hz, ho, hC⟩ := hcut
   have HFIT := Lib.hid (newC_fit HNT.out (i : Int) i (by rw [← HGH.out]; exact stOk_neat (stepped_ok (by rw [HQ5.out]; exact HQB.out))))
   have ko := ho.cell
   have hO8 := ho.lt
   go_wp2_with fail
   clear ko
   refine (screwOk_any (newC c i i) (⟨⟨A5, n5, c5⟩, ⟨some ⟨gH, 0, none⟩, n, cH⟩, ⟨oJ, n, cJ⟩, ⟨oB, n, cB⟩, ⟨A8, n8, c8⟩⟩ : CrL) Q _ _ hC (Nat.le_refl _) HFIT.out).mono ?_
   rintro e w8 ⟨rfl, hb8⟩
   have h78 := hb8.size
   replace hC := hC.below hb8 (Nat.le_refl _)
   replace hx := hx.below hb8 hx.lt
   replace hz := hz.below hb8 hz.lt
   replace ho := ho.below hb8 ho.lt
   replace hB := bstep hB hB.size hb8
   clear hb8
   cases hcr : crOk (newC c i i)
   ·
    have HV := Lib.hid (show turnS c (i : Int) = (c, false) by exact turnS_no3 HIN.out HRS.out (by rw [← HGH.out, HQ5.out]; exact HQB.out) hcr)
    have kx := hx.cell
    go_wp2_with fail
    clear kx
    refine (l10Copy_any c (⟨⟨sA, mS, kS⟩, ⟨some ⟨gh, 0, none⟩, n, kH⟩, ⟨jA, n, kJ⟩, ⟨bA, n, kB⟩, ⟨eA, mE, kE⟩⟩ : CrL) lo hi _ (hW0.below hB hh) (Nat.le_trans hh hB.size) HNT.out).mono ?_
    rintro e w9 ⟨y9, l9, u9, l9', u9', rfl, hC9, hb9⟩
    have hsB := hB.size
    have hz9 := hz.below hb9 hz.lt
    have hB9 := bstep hB hB.size hb9
    have lz := hz.lt
    clear hb9 hz hB
    unfold crV
    have kz := hz9.cell
    have fz := hz9.frozen
    go_wp2
    refine bodyPost_ret (v := .tuple #[crV c y9, .bool false]) (by simp [results, Tryz.results91, go_sem, kz, crV]) rfl ⟨y9, by rw [HV.out], ?_, ?_⟩
    ·
     rw [HV.out]
     exact (CrW.sts hC9.crw (.inl (by omega)) (crCs c y9) 0).mono (by omega) (by simp)
    · exact Below.setCells (by omega) (crCs c y9) 0 hB9
   ·
    have HV := Lib.hid (show turnS c (i : Int) = (newC c i i, true) from turnS_yes HIN.out HRS.out (by rw [← HGH.out, HQ5.out]; exact HQB.out) hcr)
    clear hcr
    have ko := ho.cell
    have kz := hz.cell
    have fz := hz.frozen
    go_wp2
    refine bodyPost_ret (v := .tuple #[crV (newC c i i) (⟨⟨A5, n5, c5⟩, ⟨some ⟨gH, 0, none⟩, n, cH⟩, ⟨oJ, n, cJ⟩, ⟨oB, n, cB⟩, ⟨A8, n8, c8⟩⟩ : CrL), .bool true]) (by simp [results, Tryz.results91, go_sem, kz, crV]) rfl ⟨(⟨⟨A5, n5, c5⟩, ⟨some ⟨gH, 0, none⟩, n, cH⟩, ⟨oJ, n, cJ⟩, ⟨oB, n, cB⟩, ⟨A8, n8, c8⟩⟩ : CrL), by rw [HV.out], ?_, ?_⟩
    ·
     rw [HV.out]
     exact (CrW.sts hC (.inl (by omega)) (crCs (newC c i i) (⟨⟨A5, n5, c5⟩, ⟨some ⟨gH, 0, none⟩, n, cH⟩, ⟨oJ, n, cJ⟩, ⟨oB, n, cB⟩, ⟨A8, n8, c8⟩⟩ : CrL)) 0).mono (by omega) (by simp; omega)
    · exact Below.setCells (by omega) (crCs (newC c i i) (⟨⟨A5, n5, c5⟩, ⟨some ⟨gH, 0, none⟩, n, cH⟩, ⟨oJ, n, cJ⟩, ⟨oB, n, cB⟩, ⟨A8, n8, c8⟩⟩ : CrL)) 0 hB

end Go.Proofs.YtibmbanbaopeiaaGreat

/-
 The walk of turns, of the model.
-/
namespace Go.Proofs.YtibmbanbaopeiaaGreat
set_option linter.unusedSimpArgs false
set_option linter.unusedVariables false
open Go.RowKit
set_option linter.unusedVariables false
attribute [local go_sem] OpUpon
attribute [local go_sem ↓] Go.wp_at_zero Go.wp_at_succ

def turnsS (c : Cr) (l : List Int) : Cr := l.foldl (fun c z => (turnS c z).1) c
def turnsC (c : Cr) (l : List Int) : Cr := if crOk c && decide (l.length ≤ 400) then turnsS c l else .zero
theorem turnsS_ok {c : Cr} (h : crOk c = true) (l : List Int) : crOk (turnsS c l) = true := by
 unfold turnsS
 induction l generalizing c with
 | nil => exact h
 | cons z l ih => exact ih (turnS_ok h z)
theorem turnsS_take {c : Cr} {l : List Int} {i : Nat} {z : Int} (h : l[i]? = some z) : (turnS (turnsS c (l.take i)) z).1 = turnsS c (l.take (i + 1)) := by
 unfold turnsS
 rw [List.take_add_one, h, List.foldl_append]
 rfl
/-- A crew's lists, anywhere from lo on. -/
def CrN (lo : Nat) (w : World) (c : Cr) (y : CrL) : Prop := CrW lo w.heap.size w c y
theorem CrN.belowN {lo : Nat} {w w' : World} {c : Cr} {y : CrL} (h : CrN lo w c y) (hb : Below w.heap.size w w') : CrN lo w' c y := CrW.mono (CrW.below h hb (Nat.le_refl _)) (Nat.le_refl _) hb.size
theorem CrN.setsC {lo : Nat} {w : World} {c : Cr} {y : CrL} (h : CrN lo w c y) {b : Nat} {cs : Array Value} (hk : BoxAt w b cs 84) (us : List Value) (o : Nat) : CrN lo (setCells w b o us) c y :=
 CrW.mono (CrW.setsC h hk us o) (Nat.le_refl _) (Nat.le_of_eq (sets_size us o w).symm)
theorem CrN.drew {lo : Nat} {w : World} {c : Cr} {y : CrL} (h : CrN lo w c y) : CrN lo w.drew c y := CrW.drew h

def tsRV (c d : Cr) (y y1 : CrL) (N O b n cap i : Nat) (z : Int) : List Sl := [.v (.agg #[.int .i64 d.st.rd, .int .i64 d.st.mo, .slice y1.s.A y1.s.n y1.s.cap, .int .i64 d.st.fi, .int .i64 d.st.la, .slice y1.h.A y1.h.n y1.h.cap, .slice y1.j.A y1.j.n y1.j.cap, .slice y1.b.A y1.b.n y1.b.cap, .int .i64 d.ck, .slice y1.e.A y1.e.n y1.e.cap]),
 .v (.slice (some ⟨b, 0, none⟩) n cap),
 .v (.int .i64 ((i : Int))),
 .v (.pointer (some ⟨b, i, none⟩)),
 .v (.int .i64 z),
 .e fun σ w => ∃ (y2 : CrL), σ 5 = .tuple #[.agg #[.int .i64 ((turnS d z).1.st.rd), .int .i64 ((turnS d z).1.st.mo), .slice y2.s.A y2.s.n y2.s.cap, .int .i64 ((turnS d z).1.st.fi), .int .i64 ((turnS d z).1.st.la), .slice y2.h.A y2.h.n y2.h.cap, .slice y2.j.A y2.j.n y2.j.cap, .slice y2.b.A y2.b.n y2.b.cap, .int .i64 ((turnS d z).1.ck), .slice y2.e.A y2.e.n y2.e.cap], .bool ((turnS d z).2)] ∧ CrN (N + 2) w (turnS d z).1 y2,
 .e fun σ w => ∃ (y2 : CrL), σ 6 = .tuple #[.agg #[.int .i64 ((turnS d z).1.st.rd), .int .i64 ((turnS d z).1.st.mo), .slice y2.s.A y2.s.n y2.s.cap, .int .i64 ((turnS d z).1.st.fi), .int .i64 ((turnS d z).1.st.la), .slice y2.h.A y2.h.n y2.h.cap, .slice y2.j.A y2.j.n y2.j.cap, .slice y2.b.A y2.b.n y2.b.cap, .int .i64 ((turnS d z).1.ck), .slice y2.e.A y2.e.n y2.e.cap], .bool ((turnS d z).2)] ∧ CrN (N + 2) w (turnS d z).1 y2,
 .e fun σ w => ∃ (y2 : CrL), σ 7 = .agg #[.int .i64 ((turnS d z).1.st.rd), .int .i64 ((turnS d z).1.st.mo), .slice y2.s.A y2.s.n y2.s.cap, .int .i64 ((turnS d z).1.st.fi), .int .i64 ((turnS d z).1.st.la), .slice y2.h.A y2.h.n y2.h.cap, .slice y2.j.A y2.j.n y2.j.cap, .slice y2.b.A y2.b.n y2.b.cap, .int .i64 ((turnS d z).1.ck), .slice y2.e.A y2.e.n y2.e.cap] ∧ CrN (N + 2) w (turnS d z).1 y2,
 .v (.bool ((turnS d z).2)),
 .e fun σ w => ∃ (y2 : CrL), BoxAt w O #[.int .i64 ((turnS d z).1.st.rd), .int .i64 ((turnS d z).1.st.mo), .slice y2.s.A y2.s.n y2.s.cap, .int .i64 ((turnS d z).1.st.fi), .int .i64 ((turnS d z).1.st.la), .slice y2.h.A y2.h.n y2.h.cap, .slice y2.j.A y2.j.n y2.j.cap, .slice y2.b.A y2.b.n y2.b.cap, .int .i64 ((turnS d z).1.ck), .slice y2.e.A y2.e.n y2.e.cap] 84 ∧ CrN (N + 2) w (turnS d z).1 y2]

set_option maxRecDepth 100000 in
set_option maxHeartbeats 4000000 in
theorem sturns_any (c : Cr) (y : CrL) (lo hi : Nat) (l : List Int) (A : Option Addr) (n cap lo2 hi2 : Nat) (w : World) (hW0 : CrW lo hi w c y) (hh : hi ≤ w.heap.size) (hf : CrFit c) (hl : IntsW lo2 hi2 w A n cap l) (hh2 : hi2 ≤ w.heap.size) (hn : n ≤ 1048576) :
  Calls Tryz.prog 78 #[crV c y, .slice A n cap] w (RetCr (turnsC c l) w) := by
 have HF := Lib.hid hf; clear hf
 have HLL := Lib.hid hl.1
 unfold crV
 go_enter Tryz.func78, Tryz.ntmps78
 go_wp2_with fail
 refine calls_abs (fun W => Below w.heap.size w W ∧ BoxAt W w.heap.size #[.int .i64 c.st.rd, .int .i64 c.st.mo, .slice y.s.A y.s.n y.s.cap, .int .i64 c.st.fi, .int .i64 c.st.la, .slice y.h.A y.h.n y.h.cap, .slice y.j.A y.j.n y.j.cap, .slice y.b.A y.b.n y.b.cap, .int .i64 c.ck, .slice y.e.A y.e.n y.e.cap] 84 ∧ BoxAt W (w.heap.size + 1) #[.int .i64 0, .int .i64 0, .slice none 0 0, .int .i64 0, .int .i64 0, .slice none 0 0, .slice none 0 0, .slice none 0 0, .int .i64 0, .slice none 0 0] 84) ⟨((Below.refl _ _).alloc (Nat.le_refl _) _).alloc (by simp) _, (BoxAt.new _ _ _).alloc _, BoxAt.new' (by simp)⟩ ?_
 rintro W0 ⟨hB, hx, hz⟩
 refine (screwOk_any c y lo hi _ (hW0.below hB hh) (Nat.le_trans hh hB.size) HF.out).mono ?_
 rintro e w1 ⟨rfl, hb1⟩
 replace hx := hx.below hb1 hx.lt
 replace hz := hz.below hb1 hz.lt
 replace hB := bstep hB hB.size hb1
 clear hb1
 have kx := hx.cell
 have kz := hz.cell
 have fz := hz.frozen
 cases hok : crOk c
 ·
  have HV := Lib.hid (show turnsC c l = .zero by unfold turnsC; rw [hok]; rfl)
  go_wp2
  refine bodyPost_ret (v := crV .zero ⟨⟨none, 0, 0⟩, ⟨none, 0, 0⟩, ⟨none, 0, 0⟩, ⟨none, 0, 0⟩, ⟨none, 0, 0⟩⟩) (by simp [results, Tryz.results78, go_sem, kz, crV, Cr.zero, St.zero]) rfl ⟨⟨⟨none, 0, 0⟩, ⟨none, 0, 0⟩, ⟨none, 0, 0⟩, ⟨none, 0, 0⟩, ⟨none, 0, 0⟩⟩, by rw [HV.out], ?_, ?_⟩
  ·
   rw [HV.out]
   exact ⟨RgsW.nil, SlW.nil, ListsW.nil, SlW.nil, SlW.nil⟩
  · exact Below.setCells (by omega) (crCs .zero ⟨⟨none, 0, 0⟩, ⟨none, 0, 0⟩, ⟨none, 0, 0⟩, ⟨none, 0, 0⟩, ⟨none, 0, 0⟩⟩) 0 hB
 by_cases h4 : n ≤ 400
 case neg =>
  have HV := Lib.hid (show turnsC c l = .zero by unfold turnsC; rw [HLL.out, decide_eq_false h4, Bool.and_false]; rfl)
  have h4' : (400 : Int) < (n : Int) := by omega
  have h4b : decide ((400 : Int) < (n : Int)) = true := decide_eq_true h4'
  go_wp2
  refine bodyPost_ret (v := crV .zero ⟨⟨none, 0, 0⟩, ⟨none, 0, 0⟩, ⟨none, 0, 0⟩, ⟨none, 0, 0⟩, ⟨none, 0, 0⟩⟩) (by simp [results, Tryz.results78, go_sem, kz, crV, Cr.zero, St.zero]) rfl ⟨⟨⟨none, 0, 0⟩, ⟨none, 0, 0⟩, ⟨none, 0, 0⟩, ⟨none, 0, 0⟩, ⟨none, 0, 0⟩⟩, by rw [HV.out], ?_, ?_⟩
  ·
   rw [HV.out]
   exact ⟨RgsW.nil, SlW.nil, ListsW.nil, SlW.nil, SlW.nil⟩
  · exact Below.setCells (by omega) (crCs .zero ⟨⟨none, 0, 0⟩, ⟨none, 0, 0⟩, ⟨none, 0, 0⟩, ⟨none, 0, 0⟩, ⟨none, 0, 0⟩⟩) 0 hB
 have HV := Lib.hid (show turnsC c l = turnsS c l by unfold turnsC; rw [hok, HLL.out, decide_eq_true h4]; rfl)
 have HOK := Lib.hid hok
 have h4' : ¬ (400 : Int) < (n : Int) := by omega
 have h4b : decide ((400 : Int) < (n : Int)) = false := decide_eq_false h4'
 go_wp2_with fail
 clear kx kz fz
 refine (l10Copy_any c y lo hi _ (hW0.below hB hh) (Nat.le_trans hh hB.size) (crOk_neat HOK.out)).mono ?_
 rintro e w2 ⟨y1, l1, u1, l2, u2, rfl, hC1, hb2⟩
 have hQ : w.heap.size + 2 ≤ w1.heap.size := by have := hz.lt; omega
 have hC : CrN (w.heap.size + 2) w2 c y1 := CrW.mono hC1.crw hQ (Nat.le_refl _)
 replace hx := hx.below hb2 hx.lt
 replace hz := hz.below hb2 hz.lt
 replace hB := bstep hB hB.size hb2
 have hQ2 := hb2.size
 clear hb2 hC1 hok
 unfold crV
 go_wp2
 generalize hOe : w2.heap.size = O at *
 go_loopw [6] (fun s6 W => ∃ (i : Nat) (d : Cr) (y1 : CrL), i ≤ n ∧ s6 = .int .i64 i ∧ Below w.heap.size w W ∧ BoxAt W w.heap.size #[.int .i64 c.st.rd, .int .i64 c.st.mo, .slice y.s.A y.s.n y.s.cap, .int .i64 c.st.fi, .int .i64 c.st.la, .slice y.h.A y.h.n y.h.cap, .slice y.j.A y.j.n y.j.cap, .slice y.b.A y.b.n y.b.cap, .int .i64 c.ck, .slice y.e.A y.e.n y.e.cap] 84 ∧ BoxAt W (w.heap.size + 1) #[.int .i64 0, .int .i64 0, .slice none 0 0, .int .i64 0, .int .i64 0, .slice none 0 0, .slice none 0 0, .slice none 0 0, .int .i64 0, .slice none 0 0] 84 ∧ BoxAt W O #[.int .i64 d.st.rd, .int .i64 d.st.mo, .slice y1.s.A y1.s.n y1.s.cap, .int .i64 d.st.fi, .int .i64 d.st.la, .slice y1.h.A y1.h.n y1.h.cap, .slice y1.j.A y1.j.n y1.j.cap, .slice y1.b.A y1.b.n y1.b.cap, .int .i64 d.ck, .slice y1.e.A y1.e.n y1.e.cap] 84 ∧ CrN (w.heap.size + 2) W d y1 ∧ crOk d = true ∧ d = turnsS c (l.take i)) (fun s6 _ => n - (intOf s6).toNat)
 case atStart =>
  refine ⟨0, c, y1, Nat.zero_le _, rfl, hB.alloc (by omega) _, hx.alloc _, hz.alloc _, BoxAt.new' hOe.symm, hC.belowN ((Below.refl _ _).alloc (Nat.le_refl _) _), HOK.out, by simp [turnsS]⟩
 case round =>
  clear hB hx hz hC
  obtain ⟨i, d, y1, hin, rfl, hB, hx, hz, ho, hC, hdk, hde⟩ := hrel
  have HDK := Lib.hid hdk
  have HDE := Lib.hid hde
  clear hdk hde
  have hO1 := ho.lt
  have hM : w.heap.size + 2 ≤ wr.heap.size := by have := hB.size; omega
  by_cases hlt : i < n
  ·
   obtain ⟨b, z, A', hbl, hbh, hli, hlc0⟩ := SlW.at_ (SlW.below hl hB hh2) ic_len hlt
   subst A'
   have HLI := Lib.hid hli; clear hli
   have hlc : CellsAt wr b i [.int .i64 z] := fun j u hu => by
    have := hlc0 j u hu
    rwa [Nat.mul_one] at this
   clear hlc0
   have g1 : (i : Int) < (n : Int) := by omega
   have g2 : (0 : Int) ≤ (i : Int) := by omega
   have hbw : b < w.heap.size := by omega
   go_upto_region 7 with fail
   refine wp_region2v (fun w w' => Below w.heap.size w w') (fun _ _ h => h.size) (fun _ => Below.refl _ _) (fun L W' => Below w.heap.size w W' ∧ BoxAt W' w.heap.size #[.int .i64 c.st.rd, .int .i64 c.st.mo, .slice y.s.A y.s.n y.s.cap, .int .i64 c.st.fi, .int .i64 c.st.la, .slice y.h.A y.h.n y.h.cap, .slice y.j.A y.j.n y.j.cap, .slice y.b.A y.b.n y.b.cap, .int .i64 c.ck, .slice y.e.A y.e.n y.e.cap] 84 ∧ BoxAt W' (w.heap.size + 1) #[.int .i64 0, .int .i64 0, .slice none 0 0, .int .i64 0, .int .i64 0, .slice none 0 0, .slice none 0 0, .slice none 0 0, .int .i64 0, .slice none 0 0] 84 ∧ CrN (w.heap.size + 2) W' d y1 ∧ CellsAt W' b i [.int .i64 z] ∧ w.heap.size + 2 ≤ W'.heap.size ∧ (∃ x0 x1 x2 x3 x4 x5 x6 x7 x8 x9, BoxAt W' O #[x0, x1, x2, x3, x4, x5, x6, x7, x8, x9] 84) ∧ (L 9 = false → BoxAt W' O #[.int .i64 d.st.rd, .int .i64 d.st.mo, .slice y1.s.A y1.s.n y1.s.cap, .int .i64 d.st.fi, .int .i64 d.st.la, .slice y1.h.A y1.h.n y1.h.cap, .slice y1.j.A y1.j.n y1.j.cap, .slice y1.b.A y1.b.n y1.b.cap, .int .i64 d.ck, .slice y1.e.A y1.e.n y1.e.cap] 84)) (tsRV c d y y1 w.heap.size O b n cap i z) (fun j => [0, 0, 0, 0, 0, 0, 0, 0, 0, 1].getD j 0) [] (by kernel_rfl) (by kernel_rfl) ?_ ?_ ?_
    (.still rfl ?a0 <| .still rfl ?a1 <| .still rfl ?a2 <| .still rfl ?a3 <| .still rfl ?a4 <| .grow rfl ?a5 <| .still rfl ?a6 <| .still rfl ?a7 <| .still rfl ?a8 <| .store rfl ?a9 <| .nil) ?_ ?_
   · exact ⟨fun _ _ _ h ⟨y2, e, hp⟩ => ⟨y2, (h 5 (List.mem_singleton.2 rfl)).symm.trans e, hp⟩, fun _ _ _ h ⟨y2, e, hp⟩ => ⟨y2, (h 6 (List.mem_singleton.2 rfl)).symm.trans e, hp⟩, fun _ _ _ h ⟨y2, e, hp⟩ => ⟨y2, (h 7 (List.mem_singleton.2 rfl)).symm.trans e, hp⟩, fun _ _ _ _ h => h, trivial⟩
   · exact ⟨fun σ w w' hb ⟨y2, e, hp⟩ => ⟨y2, e, hp.belowN hb⟩, fun σ w w' hb ⟨y2, e, hp⟩ => ⟨y2, e, hp.belowN hb⟩, fun σ w w' hb ⟨y2, e, hp⟩ => ⟨y2, e, hp.belowN hb⟩, fun σ w w' hb ⟨y2, hx, hp⟩ => ⟨y2, hx.below hb hx.lt, hp.belowN hb⟩, trivial⟩
   · exact ⟨hB.drew, hx, hz, hC.drew, hlc, hM, ⟨_, _, _, _, _, _, _, _, _, _, ho⟩, fun _ => ho⟩
   case a1 | a2 | a3 =>
    go_light
    intro L σ W' hcl hL hC hw
    try have e1 := wT hw 1 rfl
    try have e2 := wT hw 2 rfl
    clear hw hcl hL hC
    refine OpGoes.go fun K hK => ?_
    go_simp
    exact hK _ _ ⟨rfl, rfl⟩
   case a4 =>
    go_light
    intro L σ W' hcl hL hC hw
    have e3 := wV hw 3 rfl
    have dz := hC.2.2.2.2.1 0 _ rfl
    rw [Nat.add_zero] at dz
    clear hw hcl hL hC
    refine OpGoes.go fun K hK => ?_
    go_simp
    exact hK _ _ ⟨rfl, rfl⟩
   case a0 =>
    go_light
    intro L σ W' hcl hL hC hw
    have ko := (hC.2.2.2.2.2.2.2 (hcl.not (j := 9) (k := 7) (by kernel_rfl) (hcl.not (j := 7) (k := 6) (by kernel_rfl) (hcl.not (j := 6) (k := 5) (by kernel_rfl) (hcl.not (j := 5) (k := 0) (by kernel_rfl) hL))))).cell
    clear hw hcl hL hC
    refine OpGoes.go fun K hK => ?_
    go_simp
    exact hK _ _ ⟨rfl, rfl⟩
   case a5 =>
    go_light
    intro L σ W' hcl hL hC hw
    have e0 := wV hw 0 rfl
    have e4 := wV hw 4 rfl
    clear hw
    have HC := Lib.hid hC
    clear hC
    clear hcl hL
    refine OpGoes.go fun K hK => ?_
    go_simp
    obtain ⟨hB, hx, hz, hC, hlc, hM, ⟨_, _, _, _, _, _, _, _, _, _, ho⟩, ho_o⟩ := HC.out
    refine (l10Turn_any d y1 (w.heap.size + 2) _ z _ hC (Nat.le_refl _) HDK.out).mono ?_
    rintro e w1 ⟨y2, rfl, hC2, hb1⟩
    exact ⟨_, rfl, hK _ _ ⟨⟨bstep hB hB.size hb1, hx.below hb1 hx.lt, hz.below hb1 hz.lt, hC.belowN hb1, hlc.below hb1, Nat.le_trans hM hb1.size, ⟨_, _, _, _, _, _, _, _, _, _, ho.below hb1 ho.lt⟩, fun h => (ho_o (by simpa [upd] using h)).below hb1 (ho_o (by simpa [upd] using h)).lt⟩, ⟨y2, rfl, CrW.mono hC2 hM (Nat.le_refl _)⟩, hb1⟩⟩
   case a6 =>
    go_light
    intro L σ W' hcl hL hC hw
    obtain ⟨y2, e5, hp5⟩ := wE hw 5 rfl
    clear hw hcl hL hC
    refine OpGoes.go fun K hK => ?_
    go_simp
    exact hK _ _ ⟨rfl, ⟨y2, rfl, hp5⟩⟩
   case a7 =>
    go_light
    intro L σ W' hcl hL hC hw
    obtain ⟨y2, e6, hp6⟩ := wE hw 6 rfl
    clear hw hcl hL hC
    refine OpGoes.go fun K hK => ?_
    go_simp
    exact hK _ _ ⟨rfl, ⟨y2, rfl, hp6⟩⟩
   case a8 =>
    go_light
    intro L σ W' hcl hL hC hw
    obtain ⟨y2, e6, hp6⟩ := wE hw 6 rfl
    clear hw hcl hL hC
    refine OpGoes.go fun K hK => ?_
    go_simp
    exact hK _ _ ⟨rfl, rfl⟩
   case a9 =>
    go_light
    intro L σ W' hcl hL hC hw hne
    obtain ⟨y2, e7, hp7⟩ := wE hw 7 rfl
    clear hw hne
    have HC := Lib.hid hC
    obtain ⟨hB, hx, hz, hC, hlc, hM, ⟨_, _, _, _, _, _, _, _, _, _, ho⟩, ho_o⟩ := hC
    clear hcl hL
    have kc_ := ho.cell
    have kf_ := ho.frozen
    clear hB hx hz hC hlc hM ho ho_o
    refine OpGoes.go fun K hK => ?_
    go_simp
    obtain ⟨hB, hx, hz, hC, hlc, hM, ⟨_, _, _, _, _, _, _, _, _, _, ho⟩, ho_o⟩ := HC.out
    have hset := sets_all (us := [.int .i64 ((turnS d z).1.st.rd), .int .i64 ((turnS d z).1.st.mo), .slice y2.s.A y2.s.n y2.s.cap, .int .i64 ((turnS d z).1.st.fi), .int .i64 ((turnS d z).1.st.la), .slice y2.h.A y2.h.n y2.h.cap, .slice y2.j.A y2.j.n y2.j.cap, .slice y2.b.A y2.b.n y2.b.cap, .int .i64 ((turnS d z).1.ck), .slice y2.e.A y2.e.n y2.e.cap]) ho rfl
    refine hK undef (setCells W' O 0 [.int .i64 ((turnS d z).1.st.rd), .int .i64 ((turnS d z).1.st.mo), .slice y2.s.A y2.s.n y2.s.cap, .int .i64 ((turnS d z).1.st.fi), .int .i64 ((turnS d z).1.st.la), .slice y2.h.A y2.h.n y2.h.cap, .slice y2.j.A y2.j.n y2.j.cap, .slice y2.b.A y2.b.n y2.b.cap, .int .i64 ((turnS d z).1.ck), .slice y2.e.A y2.e.n y2.e.cap]) ⟨⟨(Below.setCells (by omega) _ 0 hB), (BoxAt.sets_ne _ 0 hx (by omega)), (BoxAt.sets_ne _ 0 hz (by omega)), (CrN.setsC hC ho _ 0), (CellsAt.same hlc (sets_block (by omega) _ 0 _)), (size_sts hM _ 0), ⟨_, _, _, _, _, _, _, _, _, _, hset⟩, fun h => absurd h (by simp [upd])⟩, ⟨y2, hset, (CrN.setsC hp7 ho _ 0)⟩, Nat.le_of_eq (sets_size _ _ _).symm, keepV ?_⟩
    exact ⟨fun _ _ ⟨y2_x, e, hp⟩ => ⟨y2_x, e, (CrN.setsC hp ho _ 0)⟩, fun _ _ ⟨y2_x, e, hp⟩ => ⟨y2_x, e, (CrN.setsC hp ho _ 0)⟩, fun _ _ ⟨y2_x, e, hp⟩ => ⟨y2_x, e, (CrN.setsC hp ho _ 0)⟩, fun h => absurd rfl h, trivial⟩
   ·
    intro L L' W' hLL hC
    obtain ⟨hB, hx, hz, hC, hlc, hM, ⟨_, _, _, _, _, _, _, _, _, _, ho⟩, ho_o⟩ := hC
    exact ⟨hB, hx, hz, hC, hlc, hM, ⟨_, _, _, _, _, _, _, _, _, _, ho⟩, fun h => ho_o (hLL _ h)⟩
   ·
    intro σ L W' hall hC hRR
    obtain ⟨hB, hx, hz, hC, hlc, hM, ⟨_, _, _, _, _, _, _, _, _, _, ho⟩, ho_o⟩ := hC
    obtain ⟨y2, s9, hp9⟩ := dE hRR 9 rfl
    clear hRR
    simp only [lexAll]
    go_simp
    go_step
    go_wp2
    go_roundw
    case rel =>
     go_light
     refine ⟨i + 1, (turnS d z).1, y2, by omega, by go_num, hB, hx, hz, s9, hp9, turnS_ok HDK.out z, ?_⟩
     rw [HDE.out, turnsS_take HLI.out]
    case measure => simp [intOf]; omega
  ·
   have g1 : ¬ (i : Int) < (n : Int) := by omega
   obtain rfl : n = i := by omega
   have HD := Lib.hid (show turnsS c l = d by rw [HDE.out, List.take_of_length_le (by rw [HLL.out]; exact Nat.le_refl _)])
   have ko := ho.cell
   have kz := hz.cell
   have fz := hz.frozen
   have lz := hz.lt
   go_wp2
   refine bodyPost_ret (v := crV d y1) (by simp [results, Tryz.results78, go_sem, kz, crV]) rfl ⟨y1, by rw [HV.out, HD.out], ?_, ?_⟩
   ·
    rw [HV.out, HD.out]
    exact (CrW.sts hC (.inl (by omega)) (crCs d y1) 0).mono (by omega) (by simp)
   · exact Below.setCells (by omega) (crCs d y1) 0 hB

end Go.Proofs.YtibmbanbaopeiaaGreat

/-
 The walk of a new crew, of the model.
-/
namespace Go.Proofs.YtibmbanbaopeiaaGreat
set_option linter.unusedSimpArgs false
set_option linter.unusedVariables false
open Go.RowKit
set_option linter.unusedVariables false
attribute [local go_sem] OpUpon
attribute [local go_sem ↓] Go.wp_at_zero Go.wp_at_succ

def newC0 (rd mo : Int) (js : List (List Int)) : Cr := ⟨(newStore rd mo).1, List.replicate js.length resting, js, List.replicate js.length 0, 0, []⟩
def newCrew (rd mo : Int) (js : List (List Int)) : Cr × Bool := if !(newStore rd mo).2 || !crOk (newC0 rd mo js) then (.zero, false) else (newC0 rd mo js, true)

def LstN (lo : Nat) (w : World) (A : Option Addr) (n cap : Nat) (L : List (List Int)) : Prop := ListsW lo w.heap.size w A n cap L
def IntN (lo : Nat) (w : World) (A : Option Addr) (n cap : Nat) (L : List Int) : Prop := IntsW lo w.heap.size w A n cap L
theorem newStore_neat (rd mo : Int) : Neat (newStore rd mo).1 ∨ (newStore rd mo).1 = .zero := by
 unfold newStore
 split
 ·
  rename_i h
  left
  simp only [Bool.and_eq_true, roundB, decide_eq_true_eq] at h
  refine ⟨by simp, by simp, fun r hr => ?_⟩
  simp at hr
  subst hr
  have : (Rg.fresh rd.toNat).ps.length = rd.toNat := by simp [Rg.fresh, fresh]
  omega
 · exact .inr rfl

section
variable {lo : Nat} {w w' : World} {A : Option Addr} {n cap : Nat} {L : List (List Int)} {m : List Int}
theorem LstN.keepT (h : LstN lo w A n cap L) (k1 : KeepT 2 w w') (k2 : KeepT 32 w w') (hz : w.heap.size ≤ w'.heap.size) : LstN lo w' A n cap L := (ListsW.keepT h k1 k2).mono (Nat.le_refl _) hz
theorem IntN.keepT (h : IntN lo w A n cap m) (k1 : KeepT 2 w w') (hz : w.heap.size ≤ w'.heap.size) : IntN lo w' A n cap m := SlW.mono (SlW.keepT h k1) (Nat.le_refl _) hz
theorem LstN.belowN (h : LstN lo w A n cap L) (hb : Below w.heap.size w w') : LstN lo w' A n cap L := h.keepT (.below hb) (.below hb) hb.size
theorem IntN.belowN (h : IntN lo w A n cap m) (hb : Below w.heap.size w w') : IntN lo w' A n cap m := h.keepT (.below hb) hb.size
theorem LstN.setsC (h : LstN lo w A n cap L) {b : Nat} {cs : Array Value} (hk : BoxAt w b cs 84) (us : List Value) (o : Nat) : LstN lo (setCells w b o us) A n cap L := h.keepT (.sets hk (by decide) us o) (.sets hk (by decide) us o) (Nat.le_of_eq (sets_size us o w).symm)
theorem IntN.setsC (h : IntN lo w A n cap m) {b : Nat} {cs : Array Value} (hk : BoxAt w b cs 84) (us : List Value) (o : Nat) : IntN lo (setCells w b o us) A n cap m := h.keepT (.sets hk (by decide) us o) (Nat.le_of_eq (sets_size us o w).symm)
def TwoN (lo : Nat) (w : World) (A : Option Addr) (n cap : Nat) (L : List (List Int)) (g : Nat) : Prop := LstN lo w A n cap L ∧ IntN lo w (some ⟨g, 0, none⟩) n n (List.replicate n 0)
theorem TwoN.belowN {g : Nat} (h : TwoN lo w A n cap L g) (hb : Below w.heap.size w w') : TwoN lo w' A n cap L g := ⟨h.1.belowN hb, h.2.belowN hb⟩
theorem TwoN.setsC {g : Nat} (h : TwoN lo w A n cap L g) {b : Nat} {cs : Array Value} (hk : BoxAt w b cs 84) (us : List Value) (o : Nat) : TwoN lo (setCells w b o us) A n cap L g := ⟨h.1.setsC hk us o, h.2.setsC hk us o⟩
end

def ncAV (q : St × Bool) (A A1 : Option Addr) (n cap n1 c1 S1 M : Nat) (js : List (List Int)) : List Sl := [.v (.agg #[.int .i64 q.1.rd, .int .i64 q.1.mo, .slice A1 n1 c1, .int .i64 q.1.fi, .int .i64 q.1.la]),
 .v (.slice A n cap),
 .e fun σ w => ∃ (A2 : Option Addr) (c2 : Nat), σ 2 = .slice A2 n c2 ∧ LstN M w A2 n c2 js,
 .v (.slice A n cap),
 .v (.int .i64 ((n : Int))),
 .e fun σ w => ∃ (g5 : Nat), σ 5 = .slice (some ⟨g5, 0, none⟩) n n ∧ IntN M w (some ⟨g5, 0, none⟩) n n (List.replicate n 0),
 .e fun σ w => ∃ (A2 : Option Addr) (c2 g5 : Nat), σ 6 = .agg #[.int .i64 q.1.rd, .int .i64 q.1.mo, .slice A1 n1 c1, .int .i64 q.1.fi, .int .i64 q.1.la, .slice none 0 0, .slice A2 n c2, .slice (some ⟨g5, 0, none⟩) n n, .int .i64 0, .slice none 0 0] ∧ TwoN M w A2 n c2 js g5,
 .e fun σ w => ∃ g7, σ 7 = .pointer (some ⟨g7, 0, none⟩) ∧ M ≤ g7 ∧ ∃ x0 x1 x2 x3 x4 x5 x6 x7 x8 x9, BoxAt w g7 #[x0, x1, x2, x3, x4, x5, x6, x7, x8, x9] 84,
 .e fun σ w => ∃ (g7 : Nat) (A2 : Option Addr) (c2 g5 : Nat), σ 7 = .pointer (some ⟨g7, 0, none⟩) ∧ M ≤ g7 ∧ BoxAt w g7 #[.int .i64 q.1.rd, .int .i64 q.1.mo, .slice A1 n1 c1, .int .i64 q.1.fi, .int .i64 q.1.la, .slice none 0 0, .slice A2 n c2, .slice (some ⟨g5, 0, none⟩) n n, .int .i64 0, .slice none 0 0] 84 ∧ TwoN M w A2 n c2 js g5]

def ncBV (q : St × Bool) (A1 A2 B : Option Addr) (n n1 c1 c2 g5 i c C7 M : Nat) : List Sl := [.v (.pointer (some ⟨C7, 5, none⟩)),
 .v (.slice B i c),
 .v (.agg #[.int .i64 resting.at_, .int .i64 resting.v, .int .i64 resting.r, .int .i64 resting.t, .bool resting.seen.s, .int .i64 resting.seen.n, .bool resting.seen.f, .int .i64 resting.seen.v, .int .i64 resting.tr, .int .i64 resting.sp, .bool resting.ag, .int .i64 resting.re]),
 .e fun σ w => ∃ (g3 : Nat), σ 3 = .slice (some ⟨g3, 0, none⟩) 1 1 ∧ BoxAt w g3 #[.int .i64 resting.at_, .int .i64 resting.v, .int .i64 resting.r, .int .i64 resting.t, .bool resting.seen.s, .int .i64 resting.seen.n, .bool resting.seen.f, .int .i64 resting.seen.v, .int .i64 resting.tr, .int .i64 resting.sp, .bool resting.ag, .int .i64 resting.re] 116 ∧ M ≤ g3,
 .e fun σ w => ∃ (B2 : Option Addr) (cc : Nat), σ 4 = .slice B2 (i + 1) cc ∧ w.ownsRow (C7 + 1) 116 12 (.slice B2 (i + 1) cc) (i + 1) ((List.replicate (i + 1) resting).flatMap Hd.cs),
 .v (.pointer (some ⟨C7, 5, none⟩)),
 .e fun σ w => ∃ (B2 : Option Addr) (cc : Nat), BoxAt w C7 #[.int .i64 q.1.rd, .int .i64 q.1.mo, .slice A1 n1 c1, .int .i64 q.1.fi, .int .i64 q.1.la, .slice B2 (i + 1) cc, .slice A2 n c2, .slice (some ⟨g5, 0, none⟩) n n, .int .i64 0, .slice none 0 0] 84 ∧ w.ownsRow (C7 + 1) 116 12 (.slice B2 (i + 1) cc) (i + 1) ((List.replicate (i + 1) resting).flatMap Hd.cs)]

set_option maxRecDepth 100000 in
set_option maxHeartbeats 4000000 in
theorem snewCrew_any (rd mo : Int) (js : List (List Int)) (A : Option Addr) (n cap lo hi : Nat) (w : World) (hl : ListsW lo hi w A n cap js) (hh : hi ≤ w.heap.size) (hn : n ≤ 1048576) (hml : ∀ l ∈ js, l.length ≤ 1048576) :
  Calls Tryz.prog 76 #[.int .i64 rd, .int .i64 mo, .slice A n cap] w (RetCrB (newCrew rd mo js) w) := by
 obtain ⟨iH, hi0, hz0, hz1, hz2⟩ := info_parts hand_info
 have HI := Lib.hid hi0
 have HZ0 := Lib.hid hz0
 have HZ1 := Lib.hid hz1
 have HZ2 := Lib.hid hz2
 clear hi0 hz0 hz1 hz2
 obtain ⟨i0, hi0, hz0, hz1, hz2⟩ := info_parts int_info
 have hmk : ∀ W : World, (Instr.makeSlice 32 (.int .i64 (n : Int)) (.int .i64 (n : Int))).run Tryz.prog W = .ok (.slice (some ⟨W.heap.size, 0, none⟩) n n) (W.alloc (.cells (madeCells #[.int .i64 0] n) 2)) := by
  intro W
  have := run_make (P := Tryz.prog) W 32 2 i0 _ Tryz.underlying32 hi0 hz0 .i64 .i64 n n (by omega) (by omega) (by rw [hz2]; omega) (by omega)
  rw [hz1] at this
  simpa [Value.cells] using this
 clear hi0 hz0 hz1 hz2
 have HML := Lib.hid hml; clear hml
 have HLL := Lib.hid hl.len
 go_enter Tryz.func76, Tryz.ntmps76
 go_wp2_with fail
 refine calls_abs (fun W => Below w.heap.size w W ∧ BoxAt W w.heap.size #[.int .i64 0, .int .i64 0, .slice none 0 0, .int .i64 0, .int .i64 0, .slice none 0 0, .slice none 0 0, .slice none 0 0, .int .i64 0, .slice none 0 0] 84) ⟨(Below.refl _ _).alloc (Nat.le_refl _) _, BoxAt.new _ _ _⟩ ?_
 rintro W0 ⟨hB, hz⟩
 refine (snewStore_any rd mo _).mono ?_
 rintro e w1 ⟨A1, n1, c1, rfl, hG, hb1⟩
 have hs0 := hB.size
 have hs1 := hb1.size
 have lz0 := hz.lt
 replace hz := hz.below hb1 hz.lt
 replace hB := bstep hB hB.size hb1
 clear hb1
 generalize hqe : newStore rd mo = q at *
 have HQ := Lib.hid hqe; clear hqe
 unfold stV
 go_upto_region 2 with fail
 refine wp_abs (fun W => Below w.heap.size w W ∧ BoxAt W w.heap.size #[.int .i64 0, .int .i64 0, .slice none 0 0, .int .i64 0, .int .i64 0, .slice none 0 0, .slice none 0 0, .slice none 0 0, .int .i64 0, .slice none 0 0] 84 ∧ BoxAt W w1.heap.size #[.int .i64 q.1.rd, .int .i64 q.1.mo, .slice A1 n1 c1, .int .i64 q.1.fi, .int .i64 q.1.la] 28 ∧ RgsW w.heap.size w1.heap.size W A1 n1 c1 q.1.rs) ⟨hB.alloc hB.size _, hz.alloc _, BoxAt.new _ _ _, (hG.mono hs0 (Nat.le_refl _)).al (Nat.le_refl _) _⟩ ?_
 clear hB hz hG
 rintro W1 ⟨hB, hz, hs, hG⟩
 generalize w1.heap.size = S1 at *
 have lS := hs.lt
 replace hl := hl.below hB hh
 have hhi : hi ≤ W1.heap.size := Nat.le_trans hh hB.size
 obtain ⟨M, hMe⟩ : ∃ M, M = W1.heap.size := ⟨_, rfl⟩
 have hM : M ≤ W1.heap.size := by omega
 have hSM : S1 ≤ M := by omega
 have hSM2 : S1 < M := by omega
 have hNM : w.heap.size < M := by omega
 clear hMe
 refine wp_region2v (fun w w' => Below w.heap.size w w') (fun _ _ h => h.size) (fun _ => Below.refl _ _) (fun L W' => Below w.heap.size w W' ∧ BoxAt W' w.heap.size #[.int .i64 0, .int .i64 0, .slice none 0 0, .int .i64 0, .int .i64 0, .slice none 0 0, .slice none 0 0, .slice none 0 0, .int .i64 0, .slice none 0 0] 84 ∧ BoxAt W' S1 #[.int .i64 q.1.rd, .int .i64 q.1.mo, .slice A1 n1 c1, .int .i64 q.1.fi, .int .i64 q.1.la] 28 ∧ RgsW w.heap.size S1 W' A1 n1 c1 q.1.rs ∧ ListsW lo hi W' A n cap js ∧ hi ≤ W'.heap.size ∧ M ≤ W'.heap.size) (ncAV q A A1 n cap n1 c1 S1 M js) (fun j => [0, 0, 0, 0, 0, 0, 0, 2, 1].getD j 0) [(8, 7)] (by kernel_rfl) (by kernel_rfl) ?_ ?_ ?_
  (.still rfl ?a0 <| .still rfl ?a1 <| .grow rfl ?a2 <| .still rfl ?a3 <| .still rfl ?a4 <| .grow rfl ?a5 <| .grow rfl ?a6 <| .make rfl ?a7 <| .store rfl ?a8 <| .nil) ?_ ?_
 · exact ⟨fun _ _ _ h ⟨A2, c2, e, hp⟩ => ⟨A2, c2, (h 2 (List.mem_singleton.2 rfl)).symm.trans e, hp⟩, fun _ _ _ h ⟨g5, e, hp⟩ => ⟨g5, (h 5 (List.mem_singleton.2 rfl)).symm.trans e, hp⟩, fun _ _ _ h ⟨A2, c2, g5, e, hp⟩ => ⟨A2, c2, g5, (h 6 (List.mem_singleton.2 rfl)).symm.trans e, hp⟩, fun _ _ _ h ⟨g, e, hp⟩ => ⟨g, (h 7 (List.mem_singleton.2 rfl)).symm.trans e, hp⟩, fun _ _ _ h ⟨g, A2, c2, g5, e, hp⟩ => ⟨g, A2, c2, g5, (h 7 (List.mem_singleton.2 rfl)).symm.trans e, hp⟩, trivial⟩
 · exact ⟨fun σ w w' hb ⟨A2, c2, e, hp⟩ => ⟨A2, c2, e, hp.belowN hb⟩, fun σ w w' hb ⟨g5, e, hp⟩ => ⟨g5, e, hp.belowN hb⟩, fun σ w w' hb ⟨A2, c2, g5, e, hp⟩ => ⟨A2, c2, g5, e, hp.belowN hb⟩, fun σ w w' hb ⟨g, e, hg, x0, x1, x2, x3, x4, x5, x6, x7, x8, x9, hx⟩ => ⟨g, e, hg, x0, x1, x2, x3, x4, x5, x6, x7, x8, x9, hx.below hb hx.lt⟩, fun σ w w' hb ⟨g, A2, c2, g5, e, hg, hx, hp⟩ => ⟨g, A2, c2, g5, e, hg, hx.below hb hx.lt, hp.belowN hb⟩, trivial⟩
 · exact ⟨hB.drew, hz, hs, hG, hl, hhi, hM⟩
 case a0 =>
  go_light
  intro L σ W' hcl hL hC hw
  have ks := hC.2.2.1.cell
  clear hw hcl hL hC
  refine OpGoes.go fun K hK => ?_
  go_simp
  exact hK _ _ ⟨rfl, rfl⟩
 case a1 | a3 | a4 =>
  go_light
  intro L σ W' hcl hL hC hw
  try have e3 := wT hw 3 rfl
  clear hw hcl hL hC
  refine OpGoes.go fun K hK => ?_
  go_simp
  exact hK _ _ ⟨rfl, rfl⟩
 case a2 =>
  go_light
  intro L σ W' hcl hL hC hw
  have e1 := wV hw 1 rfl
  clear hw
  have HC := Lib.hid hC
  clear hC
  clear hcl hL
  refine OpGoes.go fun K hK => ?_
  go_simp
  obtain ⟨hB, hz, hs, hG, hl, hhi, hM⟩ := HC.out
  refine (l10ListsN js A n cap lo hi _ hl hhi hn HML.out).mono ?_
  rintro e w1 ⟨A2, c2, rfl, hO2, hb1⟩
  exact ⟨_, rfl, hK _ _ ⟨⟨bstep hB hB.size hb1, hz.below hb1 hz.lt, hs.below hb1 hs.lt, hG.below hb1 (Nat.le_trans hSM hM), hl.below hb1 hhi, Nat.le_trans hhi hb1.size, Nat.le_trans hM hb1.size⟩, ⟨A2, c2, rfl, ListsW.mono hO2 hM (Nat.le_refl _)⟩, hb1⟩⟩
 case a5 =>
  go_light
  intro L σ W' hcl hL hC hw
  have e4 := wV hw 4 rfl
  clear hw
  have HC := Lib.hid hC
  clear hC
  clear hcl hL
  refine OpGoes.go fun K hK => ?_
  go_simp
  obtain ⟨hB, hz, hs, hG, hl, hhi, hM⟩ := HC.out
  have hb1 : Below W'.heap.size W' (W'.alloc (.cells (madeCells #[.int .i64 0] n) 2)) := (Below.refl _ _).alloc (Nat.le_refl _) _
  refine hK _ _ ⟨⟨bstep hB hB.size hb1, hz.below hb1 hz.lt, hs.below hb1 hs.lt, hG.below hb1 (Nat.le_trans hSM hM), hl.below hb1 hhi, Nat.le_trans hhi hb1.size, Nat.le_trans hM hb1.size⟩, ⟨W'.heap.size, rfl, ?_⟩, hb1⟩
  exact ⟨by simp, .inr ⟨W'.heap.size, rfl, by simp, Own.mono (by have := Own.made (e := 2) ic_len (by omega) (0 : Int) #[.int .i64 0] rfl (Nat.le_refl W'.heap.size) n (by unfold maxLen; omega); rwa [Nat.mul_one] at this) hM⟩⟩
 case a6 =>
  go_light
  intro L σ W' hcl hL hC hw
  have e0 := wV hw 0 rfl
  obtain ⟨A2, c2, e2, hp2⟩ := wE hw 2 rfl
  obtain ⟨g5, e5, hp5⟩ := wE hw 5 rfl
  clear hw
  have HC := Lib.hid hC
  clear hC
  clear hcl hL
  refine OpGoes.go fun K hK => ?_
  go_simp
  obtain ⟨hB, hz, hs, hG, hl, hhi, hM⟩ := HC.out
  exact hK _ _ ⟨⟨hB, hz, hs, hG, hl, hhi, hM⟩, ⟨A2, c2, g5, rfl, hp2, hp5⟩, Below.refl _ _⟩
 case a7 =>
  go_light
  intro L σ W' hcl hL hC hw
  clear hw
  have HC := Lib.hid hC
  clear hC
  clear hcl hL
  refine OpGoes.go fun K hK => ?_
  go_simp
  obtain ⟨hB, hz, hs, hG, hl, hhi, hM⟩ := HC.out
  have hb1 : Below W'.heap.size W' (W'.alloc (.cells #[.int .i64 0, .int .i64 0, .slice none 0 0, .int .i64 0, .int .i64 0, .slice none 0 0, .slice none 0 0, .slice none 0 0, .int .i64 0, .slice none 0 0] 84)) := (Below.refl _ _).alloc (Nat.le_refl _) _
  exact hK _ _ ⟨⟨bstep hB hB.size hb1, hz.below hb1 hz.lt, hs.below hb1 hs.lt, hG.below hb1 (Nat.le_trans hSM hM), hl.below hb1 hhi, Nat.le_trans hhi hb1.size, Nat.le_trans hM hb1.size⟩, ⟨_, rfl, hM, _, _, _, _, _, _, _, _, _, _, BoxAt.new _ _ _⟩, hb1, rfl, by simp⟩
 case a8 =>
  go_light
  intro L σ W' hcl hL hC hw hne
  obtain ⟨A2, c2, g5, e6, hp6⟩ := wE hw 6 rfl
  obtain ⟨g7, e7, hg7, x0, x1, x2, x3, x4, x5, x6, x7, x8, x9, hbox7⟩ := wE hw 7 rfl
  clear hw hne
  have HC := Lib.hid hC
  clear hC
  clear hcl hL
  have kc_ := hbox7.cell
  have kf_ := hbox7.frozen
  refine OpGoes.go fun K hK => ?_
  go_simp
  obtain ⟨hB, hz, hs, hG, hl, hhi, hM⟩ := HC.out
  have hset := sets_all (us := [.int .i64 q.1.rd, .int .i64 q.1.mo, .slice A1 n1 c1, .int .i64 q.1.fi, .int .i64 q.1.la, .slice none 0 0, .slice A2 n c2, .slice (some ⟨g5, 0, none⟩) n n, .int .i64 0, .slice none 0 0]) hbox7 rfl
  refine hK undef (setCells W' g7 0 [.int .i64 q.1.rd, .int .i64 q.1.mo, .slice A1 n1 c1, .int .i64 q.1.fi, .int .i64 q.1.la, .slice none 0 0, .slice A2 n c2, .slice (some ⟨g5, 0, none⟩) n n, .int .i64 0, .slice none 0 0]) ⟨⟨(Below.setCells (by omega) _ 0 hB), (BoxAt.sets_ne _ 0 hz (by omega)), (BoxAt.sets_ne _ 0 hs (by omega)), ((RgsW.setsT hG hbox7 (by decide) (by decide) _ 0)), (ListsW.setsT hl hbox7 (by decide) (by decide) _ 0), (size_sts hhi _ 0), (size_sts hM _ 0)⟩, ⟨g7, A2, c2, g5, e7, hg7, hset, (TwoN.setsC hp6 hbox7 _ 0)⟩, Nat.le_of_eq (sets_size _ _ _).symm, keepV ?_⟩
  exact ⟨fun _ _ ⟨A2_x, c2_x, e, hp⟩ => ⟨A2_x, c2_x, e, (LstN.setsC hp hbox7 _ 0)⟩, fun _ _ ⟨g5_x, e, hp⟩ => ⟨g5_x, e, (IntN.setsC hp hbox7 _ 0)⟩, fun _ _ ⟨A2_x, c2_x, g5_x, e, hp⟩ => ⟨A2_x, c2_x, g5_x, e, (TwoN.setsC hp hbox7 _ 0)⟩, fun _ _ _ => ⟨g7, e7, hg7, _, _, _, _, _, _, _, _, _, _, hset⟩, fun h => absurd rfl h, trivial⟩
 ·
  intro L L' W' hLL hC
  obtain ⟨hB, hz, hs, hG, hl, hhi, hM⟩ := hC
  exact ⟨hB, hz, hs, hG, hl, hhi, hM⟩
 ·
  intro σ L W' hall hC hRR
  obtain ⟨hB, hz, hs, hG, hl, hhi, hM⟩ := hC
  obtain ⟨g7, A2, c2, g5, e7, hg8, s8, hp8⟩ := dE hRR 8 rfl
  clear hRR hs hl hhi hmk
  simp only [lexAll]
  go_simp
  go_step
  go_wp2
  generalize hC7 : g7 = C7 at *
  have hNC : w.heap.size < C7 := by omega
  have hJ : LstN w.heap.size W' A2 n c2 js := ListsW.mono hp8.1 (by omega) (Nat.le_refl _)
  have hI : IntN w.heap.size W' (some ⟨g5, 0, none⟩) n n (List.replicate n 0) := SlW.mono hp8.2 (by omega) (Nat.le_refl _)
  go_loopw [11] (fun s11 W => ∃ (i : Nat) (B : Option Addr) (c : Nat), i ≤ n ∧ s11 = .int .i64 i ∧ Below w.heap.size w W ∧ BoxAt W w.heap.size #[.int .i64 0, .int .i64 0, .slice none 0 0, .int .i64 0, .int .i64 0, .slice none 0 0, .slice none 0 0, .slice none 0 0, .int .i64 0, .slice none 0 0] 84 ∧ RgsW w.heap.size S1 W A1 n1 c1 q.1.rs ∧ LstN w.heap.size W A2 n c2 js ∧ IntN w.heap.size W (some ⟨g5, 0, none⟩) n n (List.replicate n 0) ∧ BoxAt W C7 #[.int .i64 q.1.rd, .int .i64 q.1.mo, .slice A1 n1 c1, .int .i64 q.1.fi, .int .i64 q.1.la, .slice B i c, .slice A2 n c2, .slice (some ⟨g5, 0, none⟩) n n, .int .i64 0, .slice none 0 0] 84 ∧ W.ownsRow (C7 + 1) 116 12 (.slice B i c) i ((List.replicate i resting).flatMap Hd.cs)) (fun s11 _ => n - (intOf s11).toNat)
  case atStart =>
   exact ⟨0, none, 0, Nat.zero_le _, rfl, hB, hz, hG, hJ, hI, s8, World.ownsRow_nil _ _ _ _⟩
  case round =>
   clear hB hz hG hJ hI s8 hM hp8
   obtain ⟨i, B, c, hin, rfl, hB, hz, hG, hJ, hI, hc, hO⟩ := hrel
   have lC := hc.lt
   by_cases hlt : i < n
   ·
    have g1 : (i : Int) < (n : Int) := by omega
    have g2 : (0 : Int) ≤ (i : Int) := by omega
    obtain ⟨M, hMe⟩ : ∃ M, M = wr.heap.size := ⟨_, rfl⟩
    have hM : M ≤ wr.heap.size := by omega
    have hSM : S1 ≤ M := by omega
    have hCM : C7 < M := by omega
    have hNM2 : w.heap.size < M := by omega
    have hRB : ∀ k, (Value.slice B i c).ownBlock = some k → k < M := fun k hk => by have := (hO.lt k hk).2; omega
    clear hMe
    go_upto_region 6 with fail
    refine wp_region2v (fun w w' => Below w.heap.size w w') (fun _ _ h => h.size) (fun _ => Below.refl _ _) (fun L W' => Below w.heap.size w W' ∧ BoxAt W' w.heap.size #[.int .i64 0, .int .i64 0, .slice none 0 0, .int .i64 0, .int .i64 0, .slice none 0 0, .slice none 0 0, .slice none 0 0, .int .i64 0, .slice none 0 0] 84 ∧ RgsW w.heap.size S1 W' A1 n1 c1 q.1.rs ∧ LstN w.heap.size W' A2 n c2 js ∧ IntN w.heap.size W' (some ⟨g5, 0, none⟩) n n (List.replicate n 0) ∧ M ≤ W'.heap.size ∧ (L 4 = false → W'.ownsRow (C7 + 1) 116 12 (.slice B i c) i ((List.replicate i resting).flatMap Hd.cs)) ∧ (∃ x0, BoxAt W' C7 #[.int .i64 q.1.rd, .int .i64 q.1.mo, .slice A1 n1 c1, .int .i64 q.1.fi, .int .i64 q.1.la, x0, .slice A2 n c2, .slice (some ⟨g5, 0, none⟩) n n, .int .i64 0, .slice none 0 0] 84) ∧ (L 6 = false → BoxAt W' C7 #[.int .i64 q.1.rd, .int .i64 q.1.mo, .slice A1 n1 c1, .int .i64 q.1.fi, .int .i64 q.1.la, .slice B i c, .slice A2 n c2, .slice (some ⟨g5, 0, none⟩) n n, .int .i64 0, .slice none 0 0] 84)) (ncBV q A1 A2 B n n1 c1 c2 g5 i c C7 M) (fun j => [0, 0, 0, 0, 1, 0, 1].getD j 0) [] (by kernel_rfl) (by kernel_rfl) ?_ ?_ ?_
     (.still rfl ?a0 <| .still rfl ?a1 <| .grow rfl ?a2 <| .grow rfl ?a3 <| .store rfl ?a4 <| .still rfl ?a5 <| .store rfl ?a6 <| .nil) ?_ ?_
    · exact ⟨fun _ _ _ h ⟨g3, e, hp⟩ => ⟨g3, (h 3 (List.mem_singleton.2 rfl)).symm.trans e, hp⟩, fun _ _ _ h ⟨B2, cc, e, hp⟩ => ⟨B2, cc, (h 4 (List.mem_singleton.2 rfl)).symm.trans e, hp⟩, fun _ _ _ _ h => h, trivial⟩
    · exact ⟨fun σ w w' hb ⟨g3, e, hp⟩ => ⟨g3, e, ⟨hp.1.below hb hp.1.lt, hp.2⟩⟩, fun σ w w' hb ⟨B2, cc, e, hp⟩ => ⟨B2, cc, e, own_keep hp hb⟩, fun σ w w' hb ⟨B2, cc, hx, hp⟩ => ⟨B2, cc, hx.below hb hx.lt, own_keep hp hb⟩, trivial⟩
    · exact ⟨hB.drew, hz, hG, hJ, hI, hM, fun _ => hO, ⟨_, hc⟩, fun _ => hc⟩
    case a0 | a5 =>
     go_light
     intro L σ W' hcl hL hC hw
     clear hw hcl hL hC
     refine OpGoes.go fun K hK => ?_
     go_simp
     exact hK _ _ ⟨rfl, rfl⟩
    case a1 =>
     go_light
     intro L σ W' hcl hL hC hw
     have e0 := wV hw 0 rfl
     have kc := (hC.2.2.2.2.2.2.2.2 (hcl.not (j := 6) (k := 4) (by kernel_rfl) (hcl.not (j := 4) (k := 1) (by kernel_rfl) hL))).cell
     clear hw hcl hL hC
     refine OpGoes.go fun K hK => ?_
     go_simp
     exact hK _ _ ⟨rfl, rfl⟩
    case a2 =>
     go_light
     intro L σ W' hcl hL hC hw
     clear hw
     have HC := Lib.hid hC
     clear hC
     clear hcl hL
     refine OpGoes.go fun K hK => ?_
     go_simp
     obtain ⟨hB, hz, hG, hJ, hI, hM, hO, ⟨_, hc⟩, hc_o⟩ := HC.out
     refine (sresting_any _).mono ?_
     rintro e w1 ⟨rfl, hb1⟩
     exact ⟨_, rfl, hK _ _ ⟨⟨bstep hB hB.size hb1, hz.below hb1 hz.lt, hG.below hb1 (Nat.le_trans hSM hM), hJ.belowN hb1, hI.belowN hb1, Nat.le_trans hM hb1.size, fun h => own_keep (hO (by simpa [upd] using h)) hb1, ⟨_, hc.below hb1 hc.lt⟩, fun h => (hc_o (by simpa [upd] using h)).below hb1 (hc_o (by simpa [upd] using h)).lt⟩, rfl, hb1⟩⟩
    case a3 =>
     go_light
     intro L σ W' hcl hL hC hw
     have e2 := wV hw 2 rfl
     clear hw
     have HC := Lib.hid hC
     clear hC
     clear hcl hL
     refine OpGoes.go fun K hK => ?_
     go_simp
     obtain ⟨hB, hz, hG, hJ, hI, hM, hO, ⟨_, hc⟩, hc_o⟩ := HC.out
     have hb1 : Below W'.heap.size W' (W'.alloc (.cells #[.int .i64 resting.at_, .int .i64 resting.v, .int .i64 resting.r, .int .i64 resting.t, .bool resting.seen.s, .int .i64 resting.seen.n, .bool resting.seen.f, .int .i64 resting.seen.v, .int .i64 resting.tr, .int .i64 resting.sp, .bool resting.ag, .int .i64 resting.re] 116)) := (Below.refl _ _).alloc (Nat.le_refl _) _
     exact hK _ _ ⟨⟨bstep hB hB.size hb1, hz.below hb1 hz.lt, hG.below hb1 (Nat.le_trans hSM hM), hJ.belowN hb1, hI.belowN hb1, Nat.le_trans hM hb1.size, fun h => own_keep (hO (by simpa [upd] using h)) hb1, ⟨_, hc.below hb1 hc.lt⟩, fun h => (hc_o (by simpa [upd] using h)).below hb1 (hc_o (by simpa [upd] using h)).lt⟩, ⟨W'.heap.size, rfl, BoxAt.new _ _ _, hM⟩, hb1⟩
    case a4 =>
     go_light
     intro L σ W' hcl hL hC hw hne
     have e1 := wV hw 1 rfl
     obtain ⟨g3, e3, hp3⟩ := wE hw 3 rfl
     clear hw hne
     obtain ⟨hB, hz, hG, hJ, hI, hM, hO, ⟨_, hc⟩, hc_o⟩ := hC
     have hO4 := (hO hL)
     clear hcl hL
     refine OpGoes.append_own rfl (.tmp 32) (.tmp 34) _ rfl (C7 + 1) 116 iH _ 12 96 Tryz.underlying80 HI.out HZ0.out HZ1.out HZ2.out rfl (by omega) (.slice B i c) i _ (by go_simp) hO4 ⟨g3, 0, none⟩ 1 1 [.int .i64 resting.at_, .int .i64 resting.v, .int .i64 resting.r, .int .i64 resting.t, .bool resting.seen.s, .int .i64 resting.seen.n, .bool resting.seen.f, .int .i64 resting.seen.v, .int .i64 resting.tr, .int .i64 resting.sp, .bool resting.ag, .int .i64 resting.re] (by go_simp) rfl (news_box hp3.1) (by intro u hu; simp at hu; rcases hu with rfl | rfl | rfl | rfl | rfl | rfl | rfl | rfl | rfl | rfl | rfl | rfl <;> rfl) (by unfold maxLen; omega) (by omega) (by omega) ?_
     intro v' w' hO' hg hat
     have kT : ∀ T, 116 ≠ T → KeepT T W' w' := fun T hT => KeepT.grown hO4 hg hT
     obtain ⟨B2, cc, rfl, hP'⟩ := SlW.of_own (f := Hd.cs) (l := List.replicate i resting ++ [resting]) (n := i + 1) (by rw [List.flatMap_append]; exact hO') (by simp)
     have hP2 : SlW Hd.cs 12 116 (C7 + 1) w'.heap.size w' B2 (i + 1) cc (List.replicate (i + 1) resting) := by rw [List.replicate_succ']; exact hP'
     refine ⟨⟨Below.grown hB hg (Nat.le_trans (by omega) hM) (fun k hk => by have := (hO4.lt k hk).1; omega), hz.keepT (kT _ (by decide)), hG.keepT (kT _ (by decide)) (kT _ (by decide)), hJ.keepT (kT _ (by decide)) (kT _ (by decide)) hg.size, hI.keepT (kT _ (by decide)) hg.size, Nat.le_trans hM hg.size, fun h => absurd h (by simp [upd]), ⟨_, hc.keepT (kT _ (by decide))⟩, fun h => (hc_o (by simpa [upd] using h)).keepT (kT _ (by decide))⟩, ⟨B2, cc, rfl, SlW.own hP2 Hd.cs_len⟩, hg.size, fun j hj hn hR => ?_⟩
     refine keepV ?_ j hj hn hR
     exact ⟨fun _ _ ⟨g3, e, hp⟩ => ⟨g3, e, ⟨hp.1.grown2 hg (fun e => by have := hRB _ e; have := hp.2; omega), hp.2⟩⟩, fun h => absurd rfl h, fun _ h => absurd (h.symm.trans (show waits _ _ _ = true by kernel_rfl)) (by decide), trivial⟩
    case a6 =>
     go_light
     intro L σ W' hcl hL hC hw hne
     obtain ⟨B2, cc, e4, hp4⟩ := wE hw 4 rfl
     have e5 := wV hw 5 rfl
     clear hw hne
     have HC := Lib.hid hC
     obtain ⟨hB, hz, hG, hJ, hI, hM, hO, ⟨_, hc⟩, hc_o⟩ := hC
     clear hcl hL
     have kc_ := hc.cell
     have kf_ := hc.frozen
     clear hB hz hG hJ hI hM hO hc hc_o
     refine OpGoes.go fun K hK => ?_
     go_simp
     obtain ⟨hB, hz, hG, hJ, hI, hM, hO, ⟨_, hc⟩, hc_o⟩ := HC.out
     have hset := (hc.set 5 (.slice B2 (i + 1) cc))
     simp only [List.setIfInBounds_toArray, List.set_cons_zero, List.set_cons_succ] at hset
     refine hK _ _ ⟨⟨(sc hB), (hz.sn), (hG.keepT (.set hc (by decide) _ _) (.set hc (by decide) _ _)), (LstN.setsC hJ hc [_] _), (IntN.setsC hI hc [_] _), (size_st hM), fun h => (ownsRow_setCell_below (hO (by simpa [upd] using h)) (by dsimp only; omega) _), ⟨_, hset⟩, fun h => absurd h (by simp [upd])⟩, ⟨B2, cc, hset, (ownsRow_setCell_below hp4 (by dsimp only; omega) _)⟩, by simp, keepV ?_⟩
     exact ⟨fun _ _ ⟨g3_x, e, hp⟩ => ⟨g3_x, e, (⟨hp.1.set_ne (by have := hp.2; omega) _ _, hp.2⟩)⟩, fun _ _ ⟨B2_x, cc_x, e, hp⟩ => ⟨B2_x, cc_x, e, (ownsRow_setCell_below hp (by dsimp only; omega) _)⟩, fun h => absurd rfl h, trivial⟩
    ·
     intro L L' W' hLL hC
     obtain ⟨hB, hz, hG, hJ, hI, hM, hO, ⟨_, hc⟩, hc_o⟩ := hC
     exact ⟨hB, hz, hG, hJ, hI, hM, fun h => hO (hLL _ h), ⟨_, hc⟩, fun h => hc_o (hLL _ h)⟩
    ·
     intro σ L W' hall hC hRR
     obtain ⟨hB, hz, hG, hJ, hI, hM, hO, ⟨_, hc⟩, hc_o⟩ := hC
     obtain ⟨B2, cc, s6, hp6⟩ := dE hRR 6 rfl
     clear hRR
     simp only [lexAll]
     go_simp
     go_step
     go_wp2
     go_roundw
     case rel =>
      go_light
      exact ⟨i + 1, B2, cc, by omega, by go_num, hB, hz, hG, hJ, hI, s6, hp6⟩
     case measure => simp [intOf]; omega
   ·
    have g1 : ¬ (i : Int) < (n : Int) := by omega
    obtain rfl : n = i := by omega
    have hH := SlW.of_own' (f := Hd.cs) hO (by simp)
    have HCW := Lib.hid (show CrW w.heap.size wr.heap.size wr (newC0 rd mo js) (⟨⟨A1, n1, c1⟩, ⟨B, n, c⟩, ⟨A2, n, c2⟩, ⟨some ⟨g5, 0, none⟩, n, n⟩, ⟨none, 0, 0⟩⟩ : CrL) by
     refine ⟨?_, ?_, ?_, ?_, SlW.nil⟩
     ·
      show RgsW _ _ _ _ _ _ (newStore rd mo).1.rs
      rw [HQ.out]; exact hG.mono (Nat.le_refl _) (by omega)
     ·
      show HdsW _ _ _ _ _ _ (List.replicate js.length resting)
      rw [HLL.out]; exact SlW.mono hH (by omega) (Nat.le_refl _)
     · exact hJ
     ·
      show IntsW _ _ _ _ _ _ (List.replicate js.length 0)
      rw [HLL.out]; exact hI)
    cases hq2 : q.2
    ·
     have HV := Lib.hid (show newCrew rd mo js = (.zero, false) by unfold newCrew; rw [HQ.out, hq2]; rfl)
     have kz := hz.cell
     have fz := hz.frozen
     go_wp2
     refine bodyPost_ret (v := .tuple #[crV .zero (⟨⟨none, 0, 0⟩, ⟨none, 0, 0⟩, ⟨none, 0, 0⟩, ⟨none, 0, 0⟩, ⟨none, 0, 0⟩⟩ : CrL), .bool false]) (by simp [results, Tryz.results76, go_sem, kz, crV, Cr.zero, St.zero]) rfl ⟨(⟨⟨none, 0, 0⟩, ⟨none, 0, 0⟩, ⟨none, 0, 0⟩, ⟨none, 0, 0⟩, ⟨none, 0, 0⟩⟩ : CrL), by rw [HV.out], ?_, ?_⟩
     ·
      rw [HV.out]
      exact ⟨RgsW.nil, SlW.nil, ListsW.nil, SlW.nil, SlW.nil⟩
     · exact Below.setCells (by omega) (crCs .zero (⟨⟨none, 0, 0⟩, ⟨none, 0, 0⟩, ⟨none, 0, 0⟩, ⟨none, 0, 0⟩, ⟨none, 0, 0⟩⟩ : CrL)) 0 hB
    have HFIT := Lib.hid (show CrFit (newC0 rd mo js) from by
     have hns : Neat (newStore rd mo).1 ∨ (newStore rd mo).1 = .zero := newStore_neat rd mo
     refine ⟨?_, ?_, ?_, ?_, HML.out, ?_, by show (0 : Nat) ≤ _; omega⟩
     ·
      show (newStore rd mo).1.rs.length ≤ _
      rcases hns with h | h
      · have := h.2.1; omega
      · rw [h]; decide
     ·
      show ∀ r ∈ (newStore rd mo).1.rs, r.ps.length ≤ _
      rcases hns with h | h
      · exact h.len
      · rw [h]; intro r hr; cases hr
     ·
      show (List.replicate js.length resting).length ≤ _
      rw [List.length_replicate, HLL.out]; exact hn
     ·
      show js.length ≤ _
      rw [HLL.out]; exact hn
     ·
      show (List.replicate js.length (0 : Int)).length ≤ _
      rw [List.length_replicate, HLL.out]; exact hn)
    have HCA := Lib.hid (show (newC0 rd mo js).st = q.1 by show (newStore rd mo).1 = q.1; rw [HQ.out])
    have hcon := screwOk_any (newC0 rd mo js) (⟨⟨A1, n1, c1⟩, ⟨B, n, c⟩, ⟨A2, n, c2⟩, ⟨some ⟨g5, 0, none⟩, n, n⟩, ⟨none, 0, 0⟩⟩ : CrL) w.heap.size wr.heap.size wr HCW.out (Nat.le_refl _) HFIT.out
    unfold crV at hcon
    rw [HCA.out] at hcon
    have HCO := Lib.hid hcon; clear hcon
    have kc := hc.cell
    go_wp2_with fail
    clear kc
    refine (HCO.out).mono ?_
    rintro e w8 ⟨rfl, hb8⟩
    have h78 := hb8.size
    have hC8 := HCW.out.below hb8 (Nat.le_refl _)
    replace hz := hz.below hb8 hz.lt
    replace hc := hc.below hb8 hc.lt
    replace hB := bstep hB hB.size hb8
    clear hb8 hG hJ hI hO hH
    have kc := hc.cell
    have kz := hz.cell
    have fz := hz.frozen
    cases hcr : crOk (newC0 rd mo js)
    ·
     have HV := Lib.hid (show newCrew rd mo js = (.zero, false) by unfold newCrew; rw [hcr]; simp)
     go_wp2
     refine bodyPost_ret (v := .tuple #[crV .zero (⟨⟨none, 0, 0⟩, ⟨none, 0, 0⟩, ⟨none, 0, 0⟩, ⟨none, 0, 0⟩, ⟨none, 0, 0⟩⟩ : CrL), .bool false]) (by simp [results, Tryz.results76, go_sem, kz, crV, Cr.zero, St.zero]) rfl ⟨(⟨⟨none, 0, 0⟩, ⟨none, 0, 0⟩, ⟨none, 0, 0⟩, ⟨none, 0, 0⟩, ⟨none, 0, 0⟩⟩ : CrL), by rw [HV.out], ?_, ?_⟩
     ·
      rw [HV.out]
      exact ⟨RgsW.nil, SlW.nil, ListsW.nil, SlW.nil, SlW.nil⟩
     · exact Below.setCells (by omega) (crCs .zero (⟨⟨none, 0, 0⟩, ⟨none, 0, 0⟩, ⟨none, 0, 0⟩, ⟨none, 0, 0⟩, ⟨none, 0, 0⟩⟩ : CrL)) 0 hB
    ·
     have HV := Lib.hid (show newCrew rd mo js = (newC0 rd mo js, true) by unfold newCrew; rw [HQ.out, hq2, hcr]; rfl)
     go_wp2
     refine bodyPost_ret (v := .tuple #[crV (newC0 rd mo js) (⟨⟨A1, n1, c1⟩, ⟨B, n, c⟩, ⟨A2, n, c2⟩, ⟨some ⟨g5, 0, none⟩, n, n⟩, ⟨none, 0, 0⟩⟩ : CrL), .bool true]) (by unfold crV; rw [HCA.out]; simp [results, Tryz.results76, go_sem, kz, newC0]) rfl ⟨(⟨⟨A1, n1, c1⟩, ⟨B, n, c⟩, ⟨A2, n, c2⟩, ⟨some ⟨g5, 0, none⟩, n, n⟩, ⟨none, 0, 0⟩⟩ : CrL), by rw [HV.out], ?_, ?_⟩
     ·
      rw [HV.out]
      exact (CrW.setsC hC8 hz [.int .i64 q.1.rd, .int .i64 q.1.mo, .slice A1 n1 c1, .int .i64 q.1.fi, .int .i64 q.1.la, .slice B n c, .slice A2 n c2, .slice (some ⟨g5, 0, none⟩) n n, .int .i64 0, .slice none 0 0] 0).mono (Nat.le_refl _) (by simp; omega)
     · exact Below.setCells (by omega) [.int .i64 q.1.rd, .int .i64 q.1.mo, .slice A1 n1 c1, .int .i64 q.1.fi, .int .i64 q.1.la, .slice B n c, .slice A2 n c2, .slice (some ⟨g5, 0, none⟩) n n, .int .i64 0, .slice none 0 0] 0 hB
end Go.Proofs.YtibmbanbaopeiaaGreat

/-
 The draws of turns and of jobs.
-/
namespace Go.Proofs.YtibmbanbaopeiaaGreat
set_option linter.unusedSimpArgs false
set_option linter.unusedVariables false
open Go.RowKit
set_option linter.unusedVariables false
attribute [local go_sem ↓] Go.wp_at_zero Go.wp_at_succ

theorem But.grown {k : Nat} {a b c : World} {row : Option Nat} (h : But k a b) (hg : b.grownBy c row) (hr : ∀ g, row = some g → a.heap.size ≤ g) : But k a c :=
 ⟨hg.os.trans h.os, hg.tape.trans h.tape, hg.output.trans h.output, Nat.le_trans h.size hg.size, fun j hj hk => (hg.block j (Nat.lt_of_lt_of_le hj h.size) (fun e => by have := hr j e.symm; omega)).trans (h.block j hj hk)⟩
theorem CurAt.grown {k : Nat} {w w' : World} {a0 : Option Addr} {len cap : Nat} {row : Option Nat} (h : CurAt w k a0 len cap) (hg : w.grownBy w' row) (hr : row ≠ some k) : CurAt w' k a0 len cap := by
 obtain ⟨i, x, hi, hb⟩ := h
 exact ⟨i, x, hi, hb.grown2 hg hr⟩
theorem own_but {k N : Nat} {e : TypeId} {s : Nat} {v : Value} {n : Nat} {xs : List Value} {w w' : World} (h : w.ownsRow N e s v n xs) (hb : But k w w') (hk : k < N) : w'.ownsRow N e s v n xs := by
 refine ⟨h.1, ?_⟩
 rcases h.2 with h' | ⟨g, cap, cur, hv, hg, hh, hr⟩
 · exact .inl h'
 · exact .inr ⟨g, cap, cur, hv, hg, (hb.block g (Array.getElem?_eq_some_iff.1 hh).1 (by omega)).trans hh, hr⟩
theorem KeepT.but {T : TypeId} {k : Nat} {w w' : World} {cs : Array Value} {t : TypeId} (hb : But k w w') (hk : BoxAt w k cs t) (ht : t ≠ T) : KeepT T w w' := fun g cs' hg => hb.block g hg.lt (by
 rintro rfl
 unfold BoxAt at hg hk
 rw [hg] at hk
 injection hk with hk
 injection hk with _ hk
 exact ht hk.symm)
theorem CurAt.box {k : Nat} {w : World} {a0 : Option Addr} {len cap : Nat} (h : CurAt w k a0 len cap) : ∃ cs, BoxAt w k cs 60 := by
 obtain ⟨i, x, hi, hb⟩ := h
 exact ⟨_, hb⟩

/-- Numbers are drawn: a list of them, of the call's own. -/
def DrawsL (m : Nat) (k : Nat) (a0 : Option Addr) (len cap : Nat) (w : World) (e : Ending) (w' : World) : Prop :=
 ∃ (l : List Int) (A : Option Addr) (c : Nat), e = .returned (.slice A l.length c) ∧ l.length ≤ m ∧ IntsW w.heap.size w'.heap.size w' A l.length c l ∧ But k w w' ∧ CurAt w' k a0 len cap

set_option maxRecDepth 100000 in
set_option maxHeartbeats 2000000 in
theorem l10DrawTurns_any (N k : Nat) (a0 : Option Addr) (len cap : Nat) (n : Int) (most : Nat) (w : World) (hc : CodeOk N w a0 len) (hk : N ≤ k) (hN : N ≤ w.heap.size) (hcur : CurAt w k a0 len cap) (hn : 0 < n) (hm0 : 0 < most) (hm1 : most ≤ 256) :
  Calls Tryz.prog 79 #[.pointer (some ⟨k, 0, none⟩), .int .i64 n, .int .i64 most] w (DrawsL most k a0 len cap w) := by
 obtain ⟨i0, hi0, hz0, hz1, hz2⟩ := info_parts int_info
 have HI := Lib.hid hi0
 have HZ0 := Lib.hid hz0
 have HZ1 := Lib.hid hz1
 have HZ2 := Lib.hid hz2
 clear hi0 hz0 hz1 hz2
 have lk := hcur.lt
 go_enter Tryz.func79, Tryz.ntmps79
 go_wp2_with fail
 refine calls_abs (fun W => But k w W ∧ CurAt W k a0 len cap ∧ W.ownsRow w.heap.size 2 1 (.slice (some ⟨w.heap.size, 0, none⟩) 0 0) 0 (([] : List Int).flatMap ic)) ⟨(But.refl _ _).alloc _, hcur.alloc _, own_made rfl (Nat.le_refl _)⟩ ?_
 rintro W0 ⟨hB, hcur0, hO⟩
 refine (l1Below_any N k a0 len cap _ _ (hc.below (hB.below hk hN)) hk (Nat.le_trans hN hB.size) hcur0 (by omega)).mono ?_
 rintro e w1 ⟨x, ⟨x0, x1⟩, rfl, hB1, hcur1⟩
 replace hO := own_but hO hB1 lk
 replace hB := hB.trans hB1
 clear hB1 hcur0
 go_wp2
 go_loopw [7, 8] (fun s7 s8 W => ∃ (l : List Int) (z : Int) (A : Option Addr) (c : Nat), s7 = .slice A l.length c ∧ s8 = .int .i64 z ∧ -1 ≤ z ∧ (l.length : Int) + z ≤ (most : Int) - 1 ∧ But k w W ∧ CurAt W k a0 len cap ∧ W.ownsRow w.heap.size 2 1 (.slice A l.length c) l.length (l.flatMap ic)) (fun _ s8 _ => (intOf s8).toNat)
 case atStart => exact ⟨[], x, some ⟨w.heap.size, 0, none⟩, 0, rfl, rfl, by omega, by simp; omega, hB, hcur1, hO⟩
 case round =>
  clear hB hcur1 hO
  obtain ⟨l, z, A, c, rfl, rfl, hz1, hz2, hB, hcur1, hO⟩ := hrel
  by_cases hzp : 0 < z
  ·
   have hll : l.length < 256 := by omega
   go_wp2_with fail
   refine (l1Below_any N k a0 len cap _ _ (hc.below (hB.below hk hN)) hk (Nat.le_trans hN hB.size) hcur1 hn).mono ?_
   rintro e w2 ⟨v, ⟨v0, v1⟩, rfl, hB2, hcur2⟩
   replace hO := own_but hO hB2 lk
   replace hB := hB.trans hB2
   clear hB2 hcur1
   have hws := hB.size
   go_wp2_with (at_builtin; go_must (refine wpList_append_own_at _ rfl (.tmp 17) (.tmp 21) _ rfl w.heap.size 2 i0 _ 1 8 Tryz.underlying32 HI.out HZ0.out HZ1.out HZ2.out rfl (by omega) (.slice A l.length c) l.length _ rfl (hO.alloc _) ⟨w2.heap.size, 0, none⟩ 1 1 [.int .i64 v] rfl rfl (news_alloc _ _ _) (by intro u hu; simp at hu; subst hu; rfl) (by unfold maxLen; omega) (by omega) (by simp; omega) ?_; intro v' w' hO' hg' hz' hat'; clear hz' hat'; obtain ⟨g', cap'', rfl, hP'⟩ := Own.of_row (f := ic) (l := l ++ [v]) (by rw [List.flatMap_append]; exact hO') (by simp) (by omega); have hB' := But.grown (hB.alloc _) hg' (fun g hg => (hO.lt g hg).1); have hcur' := CurAt.grown (hcur2.alloc _) hg' (fun e => by have := (hO.lt k e).1; omega)))
   go_loopw [7, 8] (fun s7 s8 W => ∃ (l' : List Int) (z' : Int) (A : Option Addr) (c : Nat), s7 = .slice A l'.length c ∧ s8 = .int .i64 z' ∧ 0 ≤ z' ∧ z' ≤ z ∧ 1 ≤ l'.length ∧ (l'.length : Int) + z' ≤ (most : Int) ∧ But k w W ∧ CurAt W k a0 len cap ∧ W.ownsRow w.heap.size 2 1 (.slice A l'.length c) l'.length (l'.flatMap ic)) (fun _ s8 _ => (intOf s8).toNat)
   case atStart => exact ⟨l ++ [v], z, some ⟨g', 0, none⟩, cap'', by simp, rfl, by omega, by omega, by simp, by simp; omega, hB', hcur', by have := hP'.own ic_len; simpa using this⟩
   case round =>
    clear hB hcur2 hO hB' hcur' hP' hg' hO'
    obtain ⟨l', z', A', c', rfl, rfl, hy0, hy1, hy2, hy3, hB, hcur1, hO⟩ := hrel
    go_wp2_with fail
    refine (l1Once_any N k a0 len cap _ _ (hc.below (hB.below hk hN)) hk (Nat.le_trans hN hB.size) hcur1 (by omega)).mono ?_
    rintro e w3 ⟨b, rfl, hB3, hcur3⟩
    replace hO := own_but hO hB3 lk
    replace hB := hB.trans hB3
    clear hB3 hcur1
    have hws := hB.size
    cases b
    ·
     go_wp2
     go_roundw
     case rel => exact ⟨l', z' - 1, A', c', rfl, rfl, by omega, by omega, hB, hcur3, hO⟩
     case measure => simp [intOf]; omega
    ·
     by_cases hyp : 0 < z'
     ·
      have hyd : decide (0 < z') = true := decide_eq_true hyp
      obtain ⟨g2, cap2, e2, hP2⟩ := Own.of_row (f := ic) hO rfl (by omega)
      injection e2 with e2 _ e3
      subst e2 e3
      have hl1 : l'.length - 1 < l'.length := by omega
      have hle : l'[l'.length - 1]? = some (l'[l'.length - 1]'hl1) := List.getElem?_eq_getElem hl1
      have kl := Own.cell_ ic_len hP2 (j := 0) hle rfl
      rw [Nat.mul_one, Nat.add_zero] at kl
      generalize l'[l'.length - 1]'hl1 = vv at *
      clear hle
      have hg1 : (0 : Int) ≤ (l'.length : Int) - 1 := by omega
      have hg2 : (l'.length : Int) - 1 < (l'.length : Int) := by omega
      have hnt : ((l'.length : Int) - 1).toNat = l'.length - 1 := by omega
      have hnn : (1 : Int) ≤ (l'.length : Int) := by omega
      go_wp2_with (at_builtin; go_must (refine wpList_append_own_at _ rfl (.tmp 29) (.tmp 36) _ rfl w.heap.size 2 i0 _ 1 8 Tryz.underlying32 HI.out HZ0.out HZ1.out HZ2.out rfl (by omega) (.slice (some ⟨g2, 0, none⟩) l'.length c') l'.length _ rfl (hO.alloc _) ⟨w3.heap.size, 0, none⟩ 1 1 [.int .i64 vv] rfl rfl (news_alloc _ _ _) (by intro u hu; simp at hu; subst hu; rfl) (by unfold maxLen; omega) (by omega) (by simp; omega) ?_; intro v' w' hO' hg' hz' hat'; clear hz' hat'; obtain ⟨g', cap'', rfl, hP'⟩ := Own.of_row (f := ic) (l := l' ++ [vv]) (by rw [List.flatMap_append]; exact hO') (by simp) (by omega); have hB' := But.grown (hB.alloc _) hg' (fun g hg => (hO.lt g hg).1); have hcur' := CurAt.grown (hcur3.alloc _) hg' (fun e => by have := (hO.lt k e).1; omega)))
      go_roundw
      case rel => exact ⟨l' ++ [vv], z' - 1, some ⟨g', 0, none⟩, cap'', by simp, rfl, by omega, by omega, by simp, by simp; omega, hB', hcur', by have := hP'.own ic_len; simpa using this⟩
      case measure => simp [intOf]; omega
     ·
      have hyd : decide (0 < z') = false := decide_eq_false hyp
      go_wp2
      go_roundw
      case rel => exact ⟨l', z' - 1, A', c', rfl, rfl, by omega, by omega, hB, hcur3, hO⟩
      case measure => simp [intOf]; omega
  ·
   have HO := Lib.hid hO; clear hO
   go_wp2
   go_ret
   exact ⟨l, A, c, rfl, by omega, SlW.of_own' (f := ic) HO.out rfl, hB, hcur1⟩

end Go.Proofs.YtibmbanbaopeiaaGreat

/-
 The draw of jobs.
-/
namespace Go.Proofs.YtibmbanbaopeiaaGreat
set_option linter.unusedSimpArgs false
set_option linter.unusedVariables false
open Go.RowKit
set_option linter.unusedVariables false
attribute [local go_sem ↓] Go.wp_at_zero Go.wp_at_succ

theorem SameIn.grown {lo M : Nat} {w w' : World} {row : Option Nat} (hg : w.grownBy w' row) (hr : ∀ g, row = some g → M ≤ g) (hM : M ≤ w.heap.size) : SameIn lo M w w' := fun j _ h2 => hg.block j (by omega) (fun e => by have := hr j e.symm; omega)
theorem own_keepT {N : Nat} {e : TypeId} {s : Nat} {v : Value} {n : Nat} {xs : List Value} {w w' : World} (h : w.ownsRow N e s v n xs) (hk : KeepT e w w') : w'.ownsRow N e s v n xs := by
 refine ⟨h.1, ?_⟩
 rcases h.2 with h' | ⟨g, cap, cur, hv, hg, hh, hr⟩
 · exact .inl h'
 · exact .inr ⟨g, cap, cur, hv, hg, (hk g cur hh).trans hh, hr⟩
theorem EachW.push {lo hi : Nat} {w : World} {rows : List Jw} {L : List (List Int)} {l : List Int} {a : Jw} (h : EachW lo hi w rows L) (ha : IntsW lo hi w a.A a.n a.cap l) : EachW lo hi w (rows ++ [a]) (L ++ [l]) := by
 refine ⟨by simp [h.1], fun j b m hb hm => ?_⟩
 by_cases hj : j < rows.length
 ·
  rw [List.getElem?_append_left hj] at hb
  rw [List.getElem?_append_left (by have := h.1; omega)] at hm
  exact h.2 j b m hb hm
 ·
  obtain rfl : j = rows.length := by
   have := (List.getElem?_eq_some_iff.1 hb).1
   simp at this; omega
  rw [List.getElem?_append_right (Nat.le_refl _)] at hb
  rw [List.getElem?_append_right (by have := h.1; omega)] at hm
  simp [h.1] at hb hm
  subst hb hm
  exact ha

/-- Jobs are drawn. -/
def DrawsJ (k : Nat) (a0 : Option Addr) (len cap : Nat) (w : World) (e : Ending) (w' : World) : Prop :=
 ∃ (js : List (List Int)) (A : Option Addr) (c : Nat), e = .returned (.slice A js.length c) ∧ 1 ≤ js.length ∧ js.length ≤ 3 ∧ (∀ l ∈ js, jobsOk l = true) ∧ ListsW w.heap.size w'.heap.size w' A js.length c js ∧ But k w w' ∧ CurAt w' k a0 len cap

set_option maxRecDepth 100000 in
set_option maxHeartbeats 2000000 in
theorem l10DrawJobs_any (N k : Nat) (a0 : Option Addr) (len cap : Nat) (w : World) (hc : CodeOk N w a0 len) (hk : N ≤ k) (hN : N ≤ w.heap.size) (hcur : CurAt w k a0 len cap) :
  Calls Tryz.prog 77 #[.pointer (some ⟨k, 0, none⟩)] w (DrawsJ k a0 len cap w) := by
 obtain ⟨i0, hi0, hz0, hz1, hz2⟩ := info_parts int_info
 have HI := Lib.hid hi0
 have HZ0 := Lib.hid hz0
 have HZ1 := Lib.hid hz1
 have HZ2 := Lib.hid hz2
 clear hi0 hz0 hz1 hz2
 obtain ⟨i1, hi0, hz0, hz1, hz2⟩ := info_parts list_info
 have LI := Lib.hid hi0
 have LZ0 := Lib.hid hz0
 have LZ1 := Lib.hid hz1
 have LZ2 := Lib.hid hz2
 clear hi0 hz0 hz1 hz2
 have lk := hcur.lt
 go_enter Tryz.func77, Tryz.ntmps77
 go_wp2_with fail
 refine calls_abs (fun W => But k w W ∧ CurAt W k a0 len cap ∧ W.ownsRow w.heap.size 32 1 (.slice (some ⟨w.heap.size, 0, none⟩) 0 0) 0 (([] : List Jw).flatMap Jw.cs)) ⟨(But.refl _ _).alloc _, hcur.alloc _, own_made rfl (Nat.le_refl _)⟩ ?_
 rintro W0 ⟨hB, hcur0, hO⟩
 refine (l1Below_any N k a0 len cap _ _ (hc.below (hB.below hk hN)) hk (Nat.le_trans hN hB.size) hcur0 (by omega)).mono ?_
 rintro e w1 ⟨x, ⟨x0, x1⟩, rfl, hB1, hcur1⟩
 replace hO := own_but hO hB1 lk
 replace hB := hB.trans hB1
 clear hB1 hcur0
 go_wp2
 go_loopw [3, 4, 5] (fun s3 s4 s5 W => ∃ (js : List (List Int)) (rows : List Jw) (z v : Int) (A : Option Addr) (c : Nat), s3 = .slice A js.length c ∧ s4 = .int .i64 v ∧ s5 = .int .i64 z ∧ 0 ≤ z ∧ (js.length : Int) + z ≤ 3 ∧ 1 ≤ (js.length : Int) + z ∧ 1 ≤ v ∧ v ≤ 1 + 3 * (js.length : Int) ∧ (∀ l ∈ js, jobsOk l = true) ∧ But k w W ∧ CurAt W k a0 len cap ∧ W.ownsRow w.heap.size 32 1 (.slice A js.length c) js.length (rows.flatMap Jw.cs) ∧ EachW w.heap.size W.heap.size W rows js) (fun _ _ s5 _ => (intOf s5).toNat)
 case atStart => exact ⟨[], [], 1 + x, 1, some ⟨w.heap.size, 0, none⟩, 0, rfl, rfl, rfl, by omega, by simp; omega, by simp; omega, by omega, by simp, by simp, hB, hcur1, hO, rfl, fun i a l h => by simp at h⟩
 case round =>
  clear hB hcur1 hO
  obtain ⟨js, rows, z, v, A, c, rfl, rfl, rfl, hz1, hz2, hz3, hv1, hv2, hjs, hB, hcur1, hO, hE⟩ := hrel
  have HJS := Lib.hid hjs; clear hjs
  by_cases hzp : 0 < z
  ·
   have hws := hB.size
   have lk1 := hcur1.lt
   obtain ⟨M, hM⟩ : ∃ M, M = wr.heap.size := ⟨_, rfl⟩
   rw [← hM] at hE
   have hwM : w.heap.size ≤ M := by omega
   go_wp2_with fail
   refine calls_abs (fun W => But k w W ∧ CurAt W k a0 len cap ∧ W.ownsRow w.heap.size 32 1 (.slice A js.length c) js.length (rows.flatMap Jw.cs) ∧ EachW w.heap.size M W rows js ∧ W.ownsRow M 2 1 (.slice (some ⟨M, 0, none⟩) 0 0) 0 (([] : List Int).flatMap ic)) ⟨hB.alloc _, hcur1.alloc _, hO.alloc _, hE.keep (.alloc (by omega) _), own_made hM (by omega)⟩ ?_
   rw [← hM]
   clear hB hcur1 hO hE
   rintro W1 ⟨hB, hcur1, hO, hE, hL⟩
   have hM1 : M ≤ W1.heap.size := by have := (hL.lt M rfl).2; omega
   refine (l1Below_any N k a0 len cap _ _ (hc.below (hB.below hk hN)) hk (Nat.le_trans hN hB.size) hcur1 (by omega)).mono ?_
   rintro e w2 ⟨y, ⟨y0, y1⟩, rfl, hB2, hcur2⟩
   replace hO := own_but hO hB2 lk
   replace hL := own_but hL hB2 (by omega)
   replace hE := hE.keep (.but hB2 (.inl lk) hM1)
   have hM2 : M ≤ w2.heap.size := Nat.le_trans hM1 hB2.size
   replace hB := hB.trans hB2
   clear hB2 hcur1 hM1
   go_wp2
   go_loopw [4, 6, 7] (fun s4 s6 s7 W => ∃ (l : List Int) (y v' : Int) (B : Option Addr) (d : Nat), s6 = .slice B l.length d ∧ s4 = .int .i64 v' ∧ s7 = .int .i64 y ∧ 0 ≤ y ∧ (l.length : Int) + y ≤ 3 ∧ 1 ≤ v' ∧ v' ≤ 1 + 3 * (js.length : Int) + l.length ∧ l.all jobB = true ∧ But k w W ∧ CurAt W k a0 len cap ∧ W.ownsRow w.heap.size 32 1 (.slice A js.length c) js.length (rows.flatMap Jw.cs) ∧ EachW w.heap.size M W rows js ∧ W.ownsRow M 2 1 (.slice B l.length d) l.length (l.flatMap ic) ∧ M ≤ W.heap.size) (fun _ _ s7 _ => (intOf s7).toNat)
   case atStart => exact ⟨[], 1 + y, v, some ⟨M, 0, none⟩, 0, by rw [hM]; rfl, rfl, rfl, by omega, by simp; omega, hv1, by simp; omega, rfl, hB, hcur2, hO, hE, hL, hM2⟩
   case round =>
    clear hB hcur2 hO hE hL hM2
    obtain ⟨l, y, v', B, d, rfl, rfl, rfl, hy1, hy2, hv3, hv4, hal, hB, hcur2, hO, hE, hL, hM2⟩ := hrel
    have HAL := Lib.hid hal; clear hal
    by_cases hyp : 0 < y
    ·
     go_wp2_with fail
     refine (l1Once_any N k a0 len cap _ _ (hc.below (hB.below hk hN)) hk (Nat.le_trans hN hB.size) hcur2 (by omega)).mono ?_
     rintro e w3 ⟨b, rfl, hB3, hcur3⟩
     replace hO := own_but hO hB3 lk
     replace hL := own_but hL hB3 (by omega)
     replace hE := hE.keep (.but hB3 (.inl lk) hM2)
     replace hM2 := Nat.le_trans hM2 hB3.size
     replace hB := hB.trans hB3
     clear hB3 hcur2
     cases b
     ·
      have hws2 := hB.size
      have HJB := Lib.hid (show jobB (v') = true from by have := hv4; unfold jobB inB; simp; omega)
      go_wp2_with (at_builtin; go_must (refine wpList_append_own_at _ rfl (.tmp 29) (.tmp 31) _ rfl M 2 i0 _ 1 8 Tryz.underlying32 HI.out HZ0.out HZ1.out HZ2.out rfl (by omega) (.slice B l.length d) l.length _ rfl (hL.alloc _) ⟨w3.heap.size, 0, none⟩ 1 1 [.int .i64 (v')] rfl rfl (news_alloc _ _ _) (by intro u hu; simp at hu; subst hu; rfl) (by unfold maxLen; omega) (by omega) (by simp; omega) ?_; intro u' w' hL' hg' hz' hat'; clear hz' hat'; obtain ⟨g', cap'', rfl, hP'⟩ := Own.of_row (f := ic) (l := l ++ [v']) (by rw [List.flatMap_append]; exact hL') (by simp) (by omega); have hB' := But.grown (hB.alloc _) hg' (fun g hg => by have := (hL.lt g hg).1; omega); have hcur' := CurAt.grown (hcur3.alloc _) hg' (fun e => by have := (hL.lt k e).1; omega)))
      have hkk : KeepT 32 w3 w' := (KeepT.alloc w3 _).trans (KeepT.grown (hL.alloc _) hg' (by decide))
      have hsm : SameIn w.heap.size M w3 w' := (SameIn.alloc hM2 _).trans (SameIn.grown hg' (fun g hg => (hL.lt g hg).1) (by simp; omega))
      have hsz : w3.heap.size ≤ w'.heap.size := by have := hg'.size; simp at this; omega
      go_roundw
      case rel =>
       refine ⟨l ++ [v'], y - 1, v' + 1, some ⟨g', 0, none⟩, cap'', by simp, rfl, rfl, by omega, by simp; omega, by omega, by simp; omega, ?_, hB', hcur', own_keepT hO hkk, hE.keep hsm, by have := hP'.own ic_len; simpa using this, by omega⟩
       rw [List.all_append, HAL.out]
       simp [HJB.out]
      case measure => simp [intOf]; omega
     ·
      have hws2 := hB.size
      have HJB := Lib.hid (show jobB (0) = true from by decide)
      go_wp2_with (at_builtin; go_must (refine wpList_append_own_at _ rfl (.tmp 26) (.tmp 27) _ rfl M 2 i0 _ 1 8 Tryz.underlying32 HI.out HZ0.out HZ1.out HZ2.out rfl (by omega) (.slice B l.length d) l.length _ rfl (hL.alloc _) ⟨w3.heap.size, 0, none⟩ 1 1 [.int .i64 (0)] rfl rfl (news_alloc _ _ _) (by intro u hu; simp at hu; subst hu; rfl) (by unfold maxLen; omega) (by omega) (by simp; omega) ?_; intro u' w' hL' hg' hz' hat'; clear hz' hat'; obtain ⟨g', cap'', rfl, hP'⟩ := Own.of_row (f := ic) (l := l ++ [0]) (by rw [List.flatMap_append]; exact hL') (by simp) (by omega); have hB' := But.grown (hB.alloc _) hg' (fun g hg => by have := (hL.lt g hg).1; omega); have hcur' := CurAt.grown (hcur3.alloc _) hg' (fun e => by have := (hL.lt k e).1; omega)))
      have hkk : KeepT 32 w3 w' := (KeepT.alloc w3 _).trans (KeepT.grown (hL.alloc _) hg' (by decide))
      have hsm : SameIn w.heap.size M w3 w' := (SameIn.alloc hM2 _).trans (SameIn.grown hg' (fun g hg => (hL.lt g hg).1) (by simp; omega))
      have hsz : w3.heap.size ≤ w'.heap.size := by have := hg'.size; simp at this; omega
      go_roundw
      case rel =>
       refine ⟨l ++ [0], y - 1, v', some ⟨g', 0, none⟩, cap'', by simp, rfl, rfl, by omega, by simp; omega, by omega, by simp; omega, ?_, hB', hcur', own_keepT hO hkk, hE.keep hsm, by have := hP'.own ic_len; simpa using this, by omega⟩
       rw [List.all_append, HAL.out]
       simp [HJB.out]
      case measure => simp [intOf]; omega
    ·
     have HL := Lib.hid hL
     have hws2 := hB.size
     go_wp2_with (at_builtin; go_must (refine wpList_append_own_at _ rfl (.tmp 35) (.tmp 37) _ rfl w.heap.size 32 i1 _ 1 24 Tryz.underlying81 LI.out LZ0.out LZ1.out LZ2.out rfl (by omega) (.slice A js.length c) js.length _ rfl (hO.alloc _) ⟨wr.heap.size, 0, none⟩ 1 1 [.slice B l.length d] rfl rfl (news_alloc _ _ _) (by intro u hu; simp at hu; subst hu; rfl) (by unfold maxLen; omega) (by omega) (by simp; omega) ?_; intro u' w' hO' hg' hz' hat'; clear hz' hat'; obtain ⟨g', cap'', rfl, hP'⟩ := Own.of_row (f := Jw.cs) (l := rows ++ [(⟨B, l.length, d⟩ : Jw)]) (n := js.length + 1) (by rw [List.flatMap_append]; exact hO') (by simp [hE.1]) (by omega); have hB' := But.grown (hB.alloc _) hg' (fun g hg => (hO.lt g hg).1); have hcur' := CurAt.grown (hcur2.alloc _) hg' (fun e => by have := (hO.lt k e).1; omega)))
     have hkk : KeepT 2 wr w' := (KeepT.alloc wr _).trans (KeepT.grown (hO.alloc _) hg' (by decide))
     have hsz : wr.heap.size ≤ w'.heap.size := by have := hg'.size; simp at this; omega
     go_roundw
     case rel =>
      refine ⟨js ++ [l], rows ++ [⟨B, l.length, d⟩], z - 1, v', some ⟨g', 0, none⟩, cap'', by simp, rfl, rfl, by omega, by simp; omega, by simp; omega, hv3, by simp; omega, fun m hm => ?_, hB', hcur', by have := hP'.own Jw.cs_len; simpa using this, ?_⟩
      ·
       rcases List.mem_append.1 hm with h1 | h1
       · exact HJS.out m h1
       ·
        simp at h1
        subst h1
        unfold jobsOk
        rw [HAL.out, decide_eq_true (by omega)]; rfl
      · exact EachW.push ((hE.keepT hkk).mono (Nat.le_refl _) (by omega)) (SlW.mono (SlW.keepT (SlW.of_own' (f := ic) HL.out rfl) hkk) (by omega) hsz)
     case measure => simp [intOf]; omega
  ·
   have HO := Lib.hid hO
   have HE := Lib.hid hE
   clear hO hE
   go_wp2
   go_ret
   refine ⟨js, A, c, rfl, by omega, by omega, HJS.out, ⟨rows, SlW.of_own' (f := Jw.cs) HO.out HE.out.1, HE.out⟩, hB, hcur1⟩

end Go.Proofs.YtibmbanbaopeiaaGreat

/-
 The draw of a crew.
-/
namespace Go.Proofs.YtibmbanbaopeiaaGreat
set_option linter.unusedSimpArgs false
set_option linter.unusedVariables false
open Go.RowKit
set_option linter.unusedVariables false
attribute [local go_sem] OpUpon
attribute [local go_sem ↓] Go.wp_at_zero Go.wp_at_succ

theorem But.setsNew {k g : Nat} {a : World} : ∀ {b : World}, But k a b → a.heap.size ≤ g → ∀ (us : List Value) (o : Nat), But k a (Go.Proofs.YtibmbanbaopeiaaGreat.setCells b g o us)
 | _, h, _, [], _ => h
 | _, h, hg, u :: us, o => But.setsNew (h.setNew hg o u) hg us (o + 1)
theorem But.drew {k : Nat} {a b : World} (h : But k a b) : But k a b.drew := ⟨h.os, h.tape, h.output, h.size, h.block⟩
theorem CurAt.sets {k g : Nat} {w : World} {a0 : Option Addr} {len cap : Nat} (h : CurAt w k a0 len cap) (hne : k ≠ g) (us : List Value) (o : Nat) : CurAt (setCells w g o us) k a0 len cap := by
 obtain ⟨j, x, hi, hb⟩ := h
 exact ⟨j, x, hi, BoxAt.sets_ne us o hb hne⟩
theorem CurAt.belowC {k : Nat} {w w' : World} {a0 : Option Addr} {len cap : Nat} (h : CurAt w k a0 len cap) (hb : Below w.heap.size w w') : CurAt w' k a0 len cap := by
 obtain ⟨j, x, hi, hx⟩ := h
 exact ⟨j, x, hi, hx.below hb hx.lt⟩
theorem CrN.butN {lo k : Nat} {w w' : World} {c : Cr} {y : CrL} (h : CrN lo w c y) (hb : But k w w') (hk : k < lo) : CrN lo w' c y := CrW.mono (CrW.keep h (.but hb (.inl hk) (Nat.le_refl _))) (Nat.le_refl _) hb.size
theorem IntN.butN {lo k : Nat} {w w' : World} {A : Option Addr} {n cap : Nat} {m : List Int} (h : IntN lo w A n cap m) (hb : But k w w') (hk : k < lo) : IntN lo w' A n cap m := SlW.mono (SlW.keep h (.but hb (.inl hk) (Nat.le_refl _))) (Nat.le_refl _) hb.size
theorem turnsB (k : Nat) (c : Cr) (y : CrL) (lo hi : Nat) (l : List Int) (A : Option Addr) (n cap lo2 hi2 : Nat) (w : World) (hW0 : CrW lo hi w c y) (hh : hi ≤ w.heap.size) (hf : CrFit c) (hl : IntsW lo2 hi2 w A n cap l) (hh2 : hi2 ≤ w.heap.size) (hn : n ≤ 1048576) :
  Calls Tryz.prog 78 #[crV c y, .slice A n cap] w (fun e w' => ∃ y', e = .returned (crV (turnsC c l) y') ∧ CrW w.heap.size w'.heap.size w' (turnsC c l) y' ∧ Below w.heap.size w w' ∧ But k w w') := by
 refine (sturns_any c y lo hi l A n cap lo2 hi2 w hW0 hh hf hl hh2 hn).mono ?_
 rintro e w' ⟨y', rfl, h1, hb⟩
 exact ⟨y', rfl, h1, hb, .of_below hb⟩

theorem freshStore_ok {rd mo : Int} (h1 : rd = 2 ∨ rd = 3) (m1 : 1 ≤ mo) (m2 : mo ≤ 4) : newStore rd mo = (⟨rd, mo, [Rg.fresh rd.toNat], 0, 0⟩, true) ∧ stOk ⟨rd, mo, [Rg.fresh rd.toNat], 0, 0⟩ = true := by
 have hmo : inB mo 1 16 = true := by unfold inB; simp; omega
 have hmo2 : inB 1 1 mo = true := by unfold inB; simp; omega
 rcases h1 with rfl | rfl
 ·
  refine ⟨by unfold newStore; rw [hmo]; rfl, ?_⟩
  have hch : chain [Rg.fresh 2] 1 0 = some [0] := by rw [chain_succ (r := Rg.fresh 2) (by omega) rfl, chain_neg (by decide)]; rfl
  unfold stOk stHead
  have e1 : inSt 2 1 (Rg.fresh 2) = true := by decide
  simp [hmo, hmo2, hch, e1, roundB]
  decide
 ·
  refine ⟨by unfold newStore; rw [hmo]; rfl, ?_⟩
  have hch : chain [Rg.fresh 3] 1 0 = some [0] := by rw [chain_succ (r := Rg.fresh 3) (by omega) rfl, chain_neg (by decide)]; rfl
  unfold stOk stHead
  have e1 : inSt 3 1 (Rg.fresh 3) = true := by decide
  simp [hmo, hmo2, hch, e1, roundB]
  decide

theorem newC0_ok {rd mo : Int} {js : List (List Int)} (h1 : rd = 2 ∨ rd = 3) (m1 : 1 ≤ mo) (m2 : mo ≤ 4) (hj1 : 1 ≤ js.length) (hj3 : js.length ≤ 3) (hjs : ∀ l ∈ js, jobsOk l = true) : newCrew rd mo js = (newC0 rd mo js, true) ∧ crOk (newC0 rd mo js) = true := by
 obtain ⟨e1, e2⟩ := freshStore_ok h1 m1 m2
 have hst : stOk (newC0 rd mo js).st = true := by show stOk (newStore rd mo).1 = true; rw [e1]; exact e2
 have hok : crOk (newC0 rd mo js) = true := by
  unfold crOk crHead
  rw [hst]
  have l1 : (newC0 rd mo js).hs.length = js.length := by simp [newC0]
  have l2 : (newC0 rd mo js).js.length = js.length := rfl
  have l3 : (newC0 rd mo js).bs.length = js.length := by simp [newC0]
  rw [l1, l2, l3]
  have hb : inB (js.length : Int) 1 4 = true := by unfold inB; simp; omega
  rw [hb]
  have hes : storyOk (newC0 rd mo js).es = true := rfl
  have hck : inB (newC0 rd mo js).ck 0 2000 = true := by show inB 0 0 2000 = true; decide
  rw [hes, hck]
  simp only [beq_self_eq_true, Bool.and_self, Bool.true_and, List.all_eq_true, List.mem_range]
  intro i hi
  unfold crAt
  have g1 : (newC0 rd mo js).hs.getD i .zero = resting := by
   show (List.replicate js.length resting).getD i .zero = resting
   rw [List.getD_eq_getElem?_getD, List.getElem?_replicate, if_pos hi]; rfl
  have g2 : (newC0 rd mo js).bs.getD i 0 = 0 := by
   show (List.replicate js.length (0 : Int)).getD i 0 = 0
   rw [List.getD_eq_getElem?_getD, List.getElem?_replicate, if_pos hi]; rfl
  have g3 : jobsOk ((newC0 rd mo js).js.getD i []) = true := by
   show jobsOk (js.getD i []) = true
   rw [List.getD_eq_getElem?_getD, List.getElem?_eq_getElem hi]
   exact hjs _ (List.getElem_mem hi)
  rw [g1, g2, g3]
  have g4 : fits (newC0 rd mo js).st resting = true := by
   unfold fits
   rw [hst]
   have : resting.ok = true := by decide
   rw [this]; rfl
  rw [g4]
  show (true && true && inB 0 0 0) = true
  decide
 refine ⟨?_, hok⟩
 unfold newCrew
 rw [hok, e1]
 rfl

/-- A crew is drawn. -/
def DrawsC (k : Nat) (a0 : Option Addr) (len cap : Nat) (w : World) (e : Ending) (w' : World) : Prop :=
 ∃ (c : Cr) (y : CrL), e = .returned (crV c y) ∧ crOk c = true ∧ CrN w.heap.size w' c y ∧ But k w w' ∧ CurAt w' k a0 len cap

def ldRV (d : Cr) (y1 : CrL) (N X k : Nat) : List Sl := [.v (.agg #[.int .i64 d.st.rd, .int .i64 d.st.mo, .slice y1.s.A y1.s.n y1.s.cap, .int .i64 d.st.fi, .int .i64 d.st.la, .slice y1.h.A y1.h.n y1.h.cap, .slice y1.j.A y1.j.n y1.j.cap, .slice y1.b.A y1.b.n y1.b.cap, .int .i64 d.ck, .slice y1.e.A y1.e.n y1.e.cap]),
 .v (.pointer (some ⟨k, 0, none⟩)),
 .v (.pointer (some ⟨X, 5, none⟩)),
 .v (.slice y1.h.A y1.h.n y1.h.cap),
 .v (.int .i64 ((y1.h.n : Int))),
 .e fun σ w => ∃ (l5 : List Int) (A5 : Option Addr) (c5 : Nat), σ 5 = .slice A5 l5.length c5 ∧ IntN N w A5 l5.length c5 l5 ∧ l5.length ≤ 60,
 .e fun σ w => ∃ (l5 : List Int) (y6 : CrL), σ 6 = .agg #[.int .i64 ((turnsC d l5).st.rd), .int .i64 ((turnsC d l5).st.mo), .slice y6.s.A y6.s.n y6.s.cap, .int .i64 ((turnsC d l5).st.fi), .int .i64 ((turnsC d l5).st.la), .slice y6.h.A y6.h.n y6.h.cap, .slice y6.j.A y6.j.n y6.j.cap, .slice y6.b.A y6.b.n y6.b.cap, .int .i64 ((turnsC d l5).ck), .slice y6.e.A y6.e.n y6.e.cap] ∧ CrN N w (turnsC d l5) y6 ∧ l5.length ≤ 60,
 .e fun σ w => ∃ (l5 : List Int) (y6 : CrL), BoxAt w N #[.int .i64 ((turnsC d l5).st.rd), .int .i64 ((turnsC d l5).st.mo), .slice y6.s.A y6.s.n y6.s.cap, .int .i64 ((turnsC d l5).st.fi), .int .i64 ((turnsC d l5).st.la), .slice y6.h.A y6.h.n y6.h.cap, .slice y6.j.A y6.j.n y6.j.cap, .slice y6.b.A y6.b.n y6.b.cap, .int .i64 ((turnsC d l5).ck), .slice y6.e.A y6.e.n y6.e.cap] 84 ∧ CrN N w (turnsC d l5) y6 ∧ l5.length ≤ 60]

set_option maxRecDepth 100000 in
set_option maxHeartbeats 2000000 in
theorem l10Draw_any (K0 k : Nat) (a0 : Option Addr) (len cap : Nat) (w : World) (hc : CodeOk K0 w a0 len) (hkk : K0 ≤ k) (hN0 : K0 ≤ w.heap.size) (hcur : CurAt w k a0 len cap) :
  Calls Tryz.prog 57 #[.pointer (some ⟨k, 0, none⟩)] w (DrawsC k a0 len cap w) := by
 have hkN := hcur.lt
 go_enter Tryz.func57, Tryz.ntmps57
 go_wp2_with fail
 refine calls_abs (fun W => But k w W ∧ CurAt W k a0 len cap ∧ BoxAt W w.heap.size #[.int .i64 0, .int .i64 0, .slice none 0 0, .int .i64 0, .int .i64 0, .slice none 0 0, .slice none 0 0, .slice none 0 0, .int .i64 0, .slice none 0 0] 84) ⟨(But.refl _ _).alloc _, hcur.alloc _, BoxAt.new _ _ _⟩ ?_
 clear hcur
 rintro W0 ⟨hB, hcur, hz⟩
 refine (l1Below_any K0 k a0 len cap _ _ (hc.below (hB.below hkk hN0)) hkk (Nat.le_trans hN0 hB.size) hcur (by omega)).mono ?_
 rintro e w1 ⟨x, ⟨x0, x1⟩, rfl, hb1, hcur1⟩
 replace hz := hb1.box hz (by omega)
 replace hB := hB.trans hb1
 clear hb1 hcur
 go_wp2_with fail
 refine (l1Below_any K0 k a0 len cap _ _ (hc.below (hB.below hkk hN0)) hkk (Nat.le_trans hN0 hB.size) hcur1 (by omega)).mono ?_
 rintro e w2 ⟨y, ⟨y0, y1⟩, rfl, hb1, hcur⟩
 replace hz := hb1.box hz (by omega)
 replace hB := hB.trans hb1
 clear hb1 hcur1
 go_wp2_with fail
 refine (l10DrawJobs_any K0 k a0 len cap _ (hc.below (hB.below hkk hN0)) hkk (Nat.le_trans hN0 hB.size) hcur).mono ?_
 rintro e w3 ⟨js, A, c, rfl, hj1, hj3, hjs, hL, hb1, hcur1⟩
 obtain ⟨hnew, hnok⟩ := newC0_ok (rd := 2 + x) (mo := 1 + y) (js := js) (by omega) (by omega) (by omega) hj1 hj3 hjs
 have hml : ∀ l ∈ js, l.length ≤ 1048576 := fun l hl => by
  have := hjs l hl
  simp only [jobsOk, Bool.and_eq_true, decide_eq_true_eq] at this
  omega
 replace hz := hb1.box hz (by omega)
 have hws := hB.size
 replace hB := hB.trans hb1
 clear hb1 hcur
 have HNEW := Lib.hid hnew
 have HDK0 := Lib.hid hnok
 clear hnew hnok hjs
 go_wp2_with fail
 refine (snewCrew_any (2 + x) (1 + y) js A js.length c _ _ _ hL (Nat.le_refl _) (by omega) hml).mono ?_
 rintro e w4 ⟨y1_, rfl, hC, hb1⟩
 rw [HNEW.out] at hC ⊢
 replace hcur1 := hcur1.belowC hb1
 replace hz := hz.below hb1 hz.lt
 have hws3 := hB.size
 replace hB := hB.trans (.of_below hb1)
 have lz := hz.lt
 clear hb1 hL hml
 obtain ⟨d, hd⟩ : ∃ d, d = newC0 (2 + x) (1 + y) js := ⟨_, rfl⟩
 rw [← hd] at hC ⊢
 have HHL := Lib.hid (show 1 ≤ y1_.h.n by have q : d.hs.length = y1_.h.n := hC.h.1; rw [← q, hd]; simp [newC0]; omega)
 have HDK := Lib.hid (show crOk d = true by rw [hd]; exact HDK0.out)
 have HFIT := Lib.hid ((crOk_neat HDK.out).fit)
 clear HNEW HDK0 hd
 unfold crV
 dsimp only
 go_upto_region 2 with fail
 refine wp_abs (fun W => But k w W ∧ CurAt W k a0 len cap ∧ BoxAt W w.heap.size #[.int .i64 0, .int .i64 0, .slice none 0 0, .int .i64 0, .int .i64 0, .slice none 0 0, .slice none 0 0, .slice none 0 0, .int .i64 0, .slice none 0 0] 84 ∧ BoxAt W w4.heap.size #[.int .i64 d.st.rd, .int .i64 d.st.mo, .slice y1_.s.A y1_.s.n y1_.s.cap, .int .i64 d.st.fi, .int .i64 d.st.la, .slice y1_.h.A y1_.h.n y1_.h.cap, .slice y1_.j.A y1_.j.n y1_.j.cap, .slice y1_.b.A y1_.b.n y1_.b.cap, .int .i64 d.ck, .slice y1_.e.A y1_.e.n y1_.e.cap] 84 ∧ CrN w.heap.size W d y1_ ∧ w4.heap.size < W.heap.size) ⟨hB.alloc _, hcur1.alloc _, hz.alloc _, BoxAt.new _ _ _, CrN.belowN (CrW.mono hC (by omega) (Nat.le_refl _)) ((Below.refl _ _).alloc (Nat.le_refl _) _), by simp⟩ ?_
 clear hB hcur1 hz hC
 rintro W5 ⟨hB, hcur, hz, hx, hC, hM⟩
 generalize w4.heap.size = X at *
 refine wp_region2v (fun w w' => But k w w') (fun _ _ h => h.size) (fun _ => But.refl _ _) (fun L W' => But k w W' ∧ CurAt W' k a0 len cap ∧ BoxAt W' X #[.int .i64 d.st.rd, .int .i64 d.st.mo, .slice y1_.s.A y1_.s.n y1_.s.cap, .int .i64 d.st.fi, .int .i64 d.st.la, .slice y1_.h.A y1_.h.n y1_.h.cap, .slice y1_.j.A y1_.j.n y1_.j.cap, .slice y1_.b.A y1_.b.n y1_.b.cap, .int .i64 d.ck, .slice y1_.e.A y1_.e.n y1_.e.cap] 84 ∧ CrN w.heap.size W' d y1_ ∧ X < W'.heap.size ∧ (∃ x0 x1 x2 x3 x4 x5 x6 x7 x8 x9, BoxAt W' w.heap.size #[x0, x1, x2, x3, x4, x5, x6, x7, x8, x9] 84) ∧ (L 7 = false → BoxAt W' w.heap.size #[.int .i64 0, .int .i64 0, .slice none 0 0, .int .i64 0, .int .i64 0, .slice none 0 0, .slice none 0 0, .slice none 0 0, .int .i64 0, .slice none 0 0] 84)) (ldRV d y1_ w.heap.size X k) (fun j => [0, 0, 0, 0, 0, 0, 0, 1].getD j 0) [] (by kernel_rfl) (by kernel_rfl) ?_ ?_ ?_
  (.still rfl ?a0 <| .still rfl ?a1 <| .still rfl ?a2 <| .still rfl ?a3 <| .still rfl ?a4 <| .grow rfl ?a5 <| .grow rfl ?a6 <| .store rfl ?a7 <| .nil) ?_ ?_
 · exact ⟨fun _ _ _ h ⟨l5, A5, c5, e, hp⟩ => ⟨l5, A5, c5, (h 5 (List.mem_singleton.2 rfl)).symm.trans e, hp⟩, fun _ _ _ h ⟨l5, y6, e, hp⟩ => ⟨l5, y6, (h 6 (List.mem_singleton.2 rfl)).symm.trans e, hp⟩, fun _ _ _ _ h => h, trivial⟩
 · exact ⟨fun σ w w' hb ⟨l5, A5, c5, e, hp⟩ => ⟨l5, A5, c5, e, ⟨hp.1.butN hb hkN, hp.2⟩⟩, fun σ w w' hb ⟨l5, y6, e, hp⟩ => ⟨l5, y6, e, ⟨hp.1.butN hb hkN, hp.2⟩⟩, fun σ w w' hb ⟨l5, y6, hx, hp⟩ => ⟨l5, y6, hb.box hx (by omega), ⟨hp.1.butN hb hkN, hp.2⟩⟩, trivial⟩
 · exact ⟨hB.drew, hcur, hx, hC.drew, hM, ⟨_, _, _, _, _, _, _, _, _, _, hz⟩, fun _ => hz⟩
 case a0 | a3 =>
  go_light
  intro L σ W' hcl hL hC hw
  try have e2 := wT hw 2 rfl
  have kx := hC.2.2.1.cell
  clear hw hcl hL hC
  refine OpGoes.go fun K hK => ?_
  go_simp
  exact hK _ _ ⟨rfl, rfl⟩
 case a1 | a2 | a4 =>
  go_light
  intro L σ W' hcl hL hC hw
  try have e3 := wT hw 3 rfl
  clear hw hcl hL hC
  refine OpGoes.go fun K hK => ?_
  go_simp
  exact hK _ _ ⟨rfl, rfl⟩
 case a5 =>
  go_light
  intro L σ W' hcl hL hC hw
  have e1 := wV hw 1 rfl
  have e4 := wV hw 4 rfl
  clear hw
  have HC := Lib.hid hC
  clear hC
  clear hcl hL
  refine OpGoes.go fun K hK => ?_
  go_simp
  obtain ⟨hB, hcur, hx, hC, hM, ⟨_, _, _, _, _, _, _, _, _, _, hz⟩, hz_o⟩ := HC.out
  refine (l10DrawTurns_any K0 k a0 len cap _ 60 _ (hc.below (hB.below hkk hN0)) hkk (Nat.le_trans hN0 hB.size) hcur (by have := HHL.out; omega) (by omega) (by omega)).mono ?_
  rintro e w1 ⟨l5, A5, c5, rfl, hl5, hI5, hb1, hcur1⟩
  exact ⟨_, rfl, hK _ _ ⟨⟨hB.trans hb1, hcur1, hb1.box hx (by omega), hC.butN hb1 hkN, Nat.lt_of_lt_of_le hM hb1.size, ⟨_, _, _, _, _, _, _, _, _, _, hb1.box hz (by omega)⟩, fun h => hb1.box (hz_o (by simpa [upd] using h)) (by omega)⟩, ⟨l5, A5, c5, rfl, SlW.mono hI5 (by omega) (Nat.le_refl _), hl5⟩, hb1⟩⟩
 case a6 =>
  go_light
  intro L σ W' hcl hL hC hw
  have e0 := wV hw 0 rfl
  obtain ⟨l5, A5, c5, e5, hp5⟩ := wE hw 5 rfl
  clear hw
  have HC := Lib.hid hC
  clear hC
  clear hcl hL
  refine OpGoes.go fun K hK => ?_
  go_simp
  obtain ⟨hB, hcur, hx, hC, hM, ⟨_, _, _, _, _, _, _, _, _, _, hz⟩, hz_o⟩ := HC.out
  refine (turnsB k d y1_ w.heap.size _ l5 A5 l5.length c5 w.heap.size _ _ hC (Nat.le_refl _) HFIT.out hp5.1 (Nat.le_refl _) (by have := hp5.2; omega)).mono ?_
  rintro e w1 ⟨y6, rfl, hC6, hbel, hb1⟩
  exact ⟨_, rfl, hK _ _ ⟨⟨hB.trans hb1, hcur.belowC hbel, hb1.box hx (by omega), hC.butN hb1 hkN, Nat.lt_of_lt_of_le hM hb1.size, ⟨_, _, _, _, _, _, _, _, _, _, hz.below hbel hz.lt⟩, fun h => (hz_o (by simpa [upd] using h)).below hbel (hz_o (by simpa [upd] using h)).lt⟩, ⟨l5, y6, rfl, CrW.mono hC6 (by omega) (Nat.le_refl _), hp5.2⟩, hb1⟩⟩
 case a7 =>
  go_light
  intro L σ W' hcl hL hC hw hne
  obtain ⟨l5, y6, e6, hp6⟩ := wE hw 6 rfl
  clear hw hne
  have HC := Lib.hid hC
  obtain ⟨hB, hcur, hx, hC, hM, ⟨_, _, _, _, _, _, _, _, _, _, hz⟩, hz_o⟩ := hC
  clear hcl hL
  have kc_ := hz.cell
  have kf_ := hz.frozen
  clear hB hcur hx hC hM hz hz_o
  refine OpGoes.go fun K hK => ?_
  go_simp
  obtain ⟨hB, hcur, hx, hC, hM, ⟨_, _, _, _, _, _, _, _, _, _, hz⟩, hz_o⟩ := HC.out
  have hset := sets_all (us := [.int .i64 ((turnsC d l5).st.rd), .int .i64 ((turnsC d l5).st.mo), .slice y6.s.A y6.s.n y6.s.cap, .int .i64 ((turnsC d l5).st.fi), .int .i64 ((turnsC d l5).st.la), .slice y6.h.A y6.h.n y6.h.cap, .slice y6.j.A y6.j.n y6.j.cap, .slice y6.b.A y6.b.n y6.b.cap, .int .i64 ((turnsC d l5).ck), .slice y6.e.A y6.e.n y6.e.cap]) hz rfl
  refine hK undef (setCells W' w.heap.size 0 [.int .i64 ((turnsC d l5).st.rd), .int .i64 ((turnsC d l5).st.mo), .slice y6.s.A y6.s.n y6.s.cap, .int .i64 ((turnsC d l5).st.fi), .int .i64 ((turnsC d l5).st.la), .slice y6.h.A y6.h.n y6.h.cap, .slice y6.j.A y6.j.n y6.j.cap, .slice y6.b.A y6.b.n y6.b.cap, .int .i64 ((turnsC d l5).ck), .slice y6.e.A y6.e.n y6.e.cap]) ⟨⟨(But.setsNew hB (by omega) _ 0), (CurAt.sets hcur (by omega) _ 0), (BoxAt.sets_ne _ 0 hx (by omega)), (CrN.setsC hC hz _ 0), (size_sts hM _ 0), ⟨_, _, _, _, _, _, _, _, _, _, hset⟩, fun h => absurd h (by simp [upd])⟩, ⟨l5, y6, hset, ⟨CrN.setsC hp6.1 hz _ 0, hp6.2⟩⟩, Nat.le_of_eq (sets_size _ _ _).symm, keepV ?_⟩
  exact ⟨fun _ _ ⟨l5_x, A5_x, c5_x, e, hp⟩ => ⟨l5_x, A5_x, c5_x, e, ⟨IntN.setsC hp.1 hz _ 0, hp.2⟩⟩, fun _ _ ⟨l5_x, y6_x, e, hp⟩ => ⟨l5_x, y6_x, e, ⟨CrN.setsC hp.1 hz _ 0, hp.2⟩⟩, fun h => absurd rfl h, trivial⟩
 ·
  intro L L' W' hLL hC
  obtain ⟨hB, hcur, hx, hC, hM, ⟨_, _, _, _, _, _, _, _, _, _, hz⟩, hz_o⟩ := hC
  exact ⟨hB, hcur, hx, hC, hM, ⟨_, _, _, _, _, _, _, _, _, _, hz⟩, fun h => hz_o (hLL _ h)⟩
 ·
  intro σ L W' hall hC hRR
  obtain ⟨hB, hcur, hx, hC, hM, ⟨_, _, _, _, _, _, _, _, _, _, hz⟩, hz_o⟩ := hC
  obtain ⟨l5, y6, s7, hp7⟩ := dE hRR 7 rfl
  clear hRR
  simp only [lexAll]
  go_simp
  go_step
  have kz := s7.cell
  go_wp2
  refine bodyPost_ret (v := crV (turnsC d l5) y6) (by simp [results, Tryz.results57, go_sem, kz, crV]) rfl ⟨turnsC d l5, y6, rfl, ?_, hp7.1, hB, hcur⟩
  unfold turnsC
  rw [HDK.out, decide_eq_true (by have := hp7.2; omega)]
  exact turnsS_ok HDK.out l5
end Go.Proofs.YtibmbanbaopeiaaGreat

/-
 The draws of a store, of a number of places, and of a ring with one parcel.
-/
namespace Go.Proofs.YtibmbanbaopeiaaGreat
set_option linter.unusedSimpArgs false
set_option linter.unusedVariables false
open Go.RowKit
set_option linter.unusedVariables false
attribute [local go_sem ↓] Go.wp_at_zero Go.wp_at_succ

/-- A right store is drawn. -/
def DrawsS (k : Nat) (a0 : Option Addr) (len cap : Nat) (w : World) (e : Ending) (w' : World) : Prop :=
 ∃ (s : St) (A : Option Addr) (n c : Nat), e = .returned (stV s A n c) ∧ stOk s = true ∧ RgsW w.heap.size w'.heap.size w' A n c s.rs ∧ But k w w' ∧ CurAt w' k a0 len cap

set_option maxRecDepth 100000 in
set_option maxHeartbeats 2000000 in
theorem l3Draw_any (K0 k : Nat) (a0 : Option Addr) (len cap : Nat) (w : World) (hc : CodeOk K0 w a0 len) (hkk : K0 ≤ k) (hN0 : K0 ≤ w.heap.size) (hcur : CurAt w k a0 len cap) :
  Calls Tryz.prog 46 #[.pointer (some ⟨k, 0, none⟩)] w (DrawsS k a0 len cap w) := by
 have hkN := hcur.lt
 go_enter Tryz.func46, Tryz.ntmps46
 go_wp2_with fail
 refine calls_abs (fun W => But k w W ∧ CurAt W k a0 len cap ∧ BoxAt W w.heap.size #[.int .i64 0, .int .i64 0, .slice none 0 0, .int .i64 0, .int .i64 0] 28) ⟨(But.refl _ _).alloc _, hcur.alloc _, BoxAt.new _ _ _⟩ ?_
 clear hcur
 rintro W0 ⟨hB, hcur, hz⟩
 refine (l10Draw_any K0 k a0 len cap _ (hc.below (hB.below hkk hN0)) hkk (Nat.le_trans hN0 hB.size) hcur).mono ?_
 rintro e w1 ⟨d, y, rfl, hdk, hC, hb1, hcur1⟩
 have lz := hz.lt
 have HDK := Lib.hid hdk; clear hdk
 replace hz := hb1.box hz (by omega)
 have hs1 := hb1.size
 replace hB := hB.trans hb1
 clear hb1 hcur
 replace hC : CrN (w.heap.size + 1) w1 d y := CrW.mono hC (by omega) (Nat.le_refl _)
 obtain ⟨⟨sA, mS, kS⟩, hS, jS, bS, eS⟩ := y
 unfold crV
 dsimp only
 go_upto_region 2 with fail
 refine wp_abs (fun W => But k w W ∧ CurAt W k a0 len cap ∧ BoxAt W w.heap.size #[.int .i64 0, .int .i64 0, .slice none 0 0, .int .i64 0, .int .i64 0] 28 ∧ BoxAt W w1.heap.size #[.int .i64 d.st.rd, .int .i64 d.st.mo, .slice sA mS kS, .int .i64 d.st.fi, .int .i64 d.st.la, .slice hS.A hS.n hS.cap, .slice jS.A jS.n jS.cap, .slice bS.A bS.n bS.cap, .int .i64 d.ck, .slice eS.A eS.n eS.cap] 84 ∧ CrN (w.heap.size + 1) W d (⟨⟨sA, mS, kS⟩, hS, jS, bS, eS⟩ : CrL)) ⟨hB.alloc _, hcur1.alloc _, hz.alloc _, BoxAt.new _ _ _, hC.belowN ((Below.refl _ _).alloc (Nat.le_refl _) _)⟩ ?_
 clear hB hcur1 hz hC
 rintro W5 ⟨hB, hcur, hz, hx, hC⟩
 have kz := hz.cell
 have fz := hz.frozen
 have kx := hx.cell
 go_wp2
 refine bodyPost_ret (v := stV d.st sA mS kS) (by simp [results, Tryz.results46, go_sem, kz, stV]) rfl ⟨d.st, sA, mS, kS, rfl, (crOk_neat HDK.out).s, ?_, ?_, ?_⟩
 rotate_left
 · exact But.setsNew hB (by omega) [.int .i64 d.st.rd, .int .i64 d.st.mo, .slice sA mS kS, .int .i64 d.st.fi, .int .i64 d.st.la] 0
 · exact CurAt.sets hcur (by omega) [.int .i64 d.st.rd, .int .i64 d.st.mo, .slice sA mS kS, .int .i64 d.st.fi, .int .i64 d.st.la] 0
 have hG : RgsW (w.heap.size + 1) W5.heap.size W5 sA mS kS d.st.rs := hC.s
 exact (RgsW.sts hG (.inl (by omega)) [.int .i64 d.st.rd, .int .i64 d.st.mo, .slice sA mS kS, .int .i64 d.st.fi, .int .i64 d.st.la] 0).cut.mono (by omega) (Nat.le_refl _)

def DrawnI (lo hi : Int) (w : World) (e : Ending) (w' : World) : Prop := ∃ v : Int, e = .returned (.int .i64 v) ∧ (lo ≤ v ∧ v ≤ hi) ∧ Below w.heap.size w w'
def DrawnII (w : World) (e : Ending) (w' : World) : Prop := ∃ n v : Int, e = .returned (.tuple #[.int .i64 n, .int .i64 v]) ∧ (1 ≤ n ∧ n ≤ 9) ∧ (0 ≤ v ∧ v ≤ 1000001) ∧ Below w.heap.size w w'

end Go.Proofs.YtibmbanbaopeiaaGreat

/-
 The draw of any ring.
-/
namespace Go.Proofs.YtibmbanbaopeiaaGreat
set_option linter.unusedSimpArgs false
set_option linter.unusedVariables false
open Go.RowKit
set_option linter.unusedVariables false
attribute [local go_sem] OpUpon
attribute [local go_sem ↓] Go.wp_at_zero Go.wp_at_succ

/-- Rings, their rows laid open. -/
def RgsL (lo hi : Nat) (w : World) (b n c : Nat) (rows : List Rw) (L : List Rg) : Prop := RwsO lo w b n c rows ∧ AllIs lo hi w rows L ∧ b < hi
theorem RgsL.keep {lo hi : Nat} {w w' : World} {b n c : Nat} {rows : List Rw} {L : List Rg} (h : RgsL lo hi w b n c rows L) (hs : SameIn lo hi w w') : RgsL lo hi w' b n c rows L :=
 ⟨Own.keep h.1 (hs b h.1.2.1 h.2.2), fun i a ha => by obtain ⟨r, hr, his⟩ := h.2.1 i a ha; exact ⟨r, hr, his.keep hs⟩, h.2.2⟩
theorem RgsL.sts {lo hi : Nat} {w : World} {b n c : Nat} {rows : List Rw} {L : List Rg} (h : RgsL lo hi w b n c rows L) {k : Nat} (hk : k < lo ∨ hi ≤ k) : ∀ (us : List Value) (o : Nat), RgsL lo hi (setCells w k o us) b n c rows L
 | [], _ => h
 | u :: us, o => RgsL.sts (h.keep (.set hk o u)) hk us (o + 1)

/-- A ring is drawn, and its places. -/
def DrawsR (k : Nat) (a0 : Option Addr) (len cap : Nat) (w : World) (e : Ending) (w' : World) : Prop :=
 ∃ (h t : Int) (c : Bool) (x : Int) (pb n cp : Nat) (l : List Pl), e = .returned (rgV h t c x (some ⟨pb, 0, none⟩) n cp) ∧ PlsO w.heap.size w' pb n cp l ∧ n ≤ 8 ∧ But k w w' ∧ CurAt w' k a0 len cap

theorem PlsO.one {N : Nat} {w : World} {g n cap : Nat} {l : List Pl} (h : PlsO N w g n cap l) (hn : 1 ≤ n) : PlsO N w g 1 cap (l.take 1) := by
 obtain ⟨a, b, c, d, cur, hb, hs, ht⟩ := h
 cases l with
 | nil => simp at a; omega
 | cons x r =>
  refine ⟨by simp, b, by omega, d, cur, hb, hs, ?_⟩
  have e : cur.toList.take (1 * 4) = (cur.toList.take (n * 4)).take 4 := by rw [List.take_take]; congr 1; omega
  rw [e, ht]
  simp [Pl.cs]

def drRV (s : St) (N X M2 k b n c : Nat) (rows : List Rw) : List Sl := [.v (.pointer (some ⟨X, 2, none⟩)),
 .v (.slice (some ⟨b, 0, none⟩) n c),
 .v (.pointer (some ⟨k, 0, none⟩)),
 .v (.pointer (some ⟨X, 2, none⟩)),
 .v (.slice (some ⟨b, 0, none⟩) n c),
 .v (.int .i64 ((n : Int))),
 .e fun σ w => ∃ (x6 : Int), σ 6 = .int .i64 x6 ∧ (0 ≤ x6 ∧ x6 < (n : Int)),
 .e fun σ w => ∃ (x6 : Int), σ 7 = .pointer (some ⟨b, x6.toNat * 5, none⟩) ∧ (0 ≤ x6 ∧ x6 < (n : Int)),
 .e fun σ w => ∃ (a8 : Rw), σ 8 = .agg #[.int .i64 a8.h, .int .i64 a8.t, .bool a8.c, .int .i64 a8.x, .slice a8.A a8.n a8.cap] ∧ a8 ∈ rows,
 .e fun σ w => ∃ g9, σ 9 = .pointer (some ⟨g9, 0, none⟩) ∧ M2 ≤ g9 ∧ ∃ x0 x1 x2 x3 x4, BoxAt w g9 #[x0, x1, x2, x3, x4] 42,
 .e fun σ w => ∃ (g9 : Nat) (a8 : Rw), σ 9 = .pointer (some ⟨g9, 0, none⟩) ∧ M2 ≤ g9 ∧ BoxAt w g9 #[.int .i64 a8.h, .int .i64 a8.t, .bool a8.c, .int .i64 a8.x, .slice a8.A a8.n a8.cap] 42 ∧ a8 ∈ rows]

def drPV (N k g4 pb rn rcap : Nat) (rh rt : Int) (rc : Bool) (rx : Int) (ps : List Pl) : List Sl := [.v (.pointer (some ⟨g4, 4, none⟩)),
 .v (.slice (some ⟨pb, 0, none⟩) rn rcap),
 .v (.pointer (some ⟨k, 0, none⟩)),
 .e fun σ w => ∃ (p3 : Pl), σ 3 = .agg #[.bool p3.s, .int .i64 p3.n, .bool p3.f, .int .i64 p3.v] ∧ True,
 .v (.pointer (some ⟨pb, 0, none⟩)),
 .e fun σ w => ∃ (p3 : Pl), PlsO (N + 1) w pb rn rcap (ps.set 0 p3)]

set_option maxRecDepth 100000 in
set_option maxHeartbeats 1000000 in
theorem l2DrawAny_any (K0 k : Nat) (a0 : Option Addr) (len cap : Nat) (w : World) (hc : CodeOk K0 w a0 len) (hkk : K0 ≤ k) (hN0 : K0 ≤ w.heap.size) (hcur : CurAt w k a0 len cap) :
  Calls Tryz.prog 48 #[.pointer (some ⟨k, 0, none⟩)] w (DrawsR k a0 len cap w) := by
 have hkN := hcur.lt
 go_enter Tryz.func48, Tryz.ntmps48
 go_wp2_with fail
 refine calls_abs (fun W => But k w W ∧ CurAt W k a0 len cap ∧ BoxAt W w.heap.size #[.int .i64 0, .int .i64 0, .bool false, .int .i64 0, .slice none 0 0] 42) ⟨(But.refl _ _).alloc _, hcur.alloc _, BoxAt.new _ _ _⟩ ?_
 clear hcur
 rintro W0 ⟨hB, hcur, hz⟩
 refine (l3Draw_any K0 k a0 len cap _ (hc.below (hB.below hkk hN0)) hkk (Nat.le_trans hN0 hB.size) hcur).mono ?_
 rintro e w1 ⟨s, A, n, c, rfl, hok, hG, hb1, hcur1⟩
 have lz := hz.lt
 replace hz := hb1.box hz (by omega)
 have hs1 := hb1.size
 replace hB := hB.trans hb1
 clear hb1 hcur
 have HOK := Lib.hid hok
 have hne := (stOk_neat hok).1
 clear hok
 obtain ⟨b, rows, rfl, hbh, hro, hal⟩ := hG.2 (by have := hG.1; omega)
 have hn1 : 1 ≤ n := by have := hG.1; omega
 have hR : RgsL (w.heap.size + 1) w1.heap.size w1 b n c rows s.rs := ⟨Own.mono hro (by omega), fun i a ha => by obtain ⟨r, hr, his⟩ := hal i a ha; exact ⟨r, hr, his.mono (by omega) (Nat.le_refl _)⟩, hbh⟩
 have hn8 : n ≤ 1048576 := by have := (stOk_neat HOK.out).2.1; have := hG.1; omega
 clear hG hro hal
 unfold stV
 go_upto_region 2 with fail
 refine wp_abs (fun W => But k w W ∧ CurAt W k a0 len cap ∧ BoxAt W w.heap.size #[.int .i64 0, .int .i64 0, .bool false, .int .i64 0, .slice none 0 0] 42 ∧ BoxAt W w1.heap.size #[.int .i64 s.rd, .int .i64 s.mo, .slice (some ⟨b, 0, none⟩) n c, .int .i64 s.fi, .int .i64 s.la] 28 ∧ RgsL (w.heap.size + 1) w1.heap.size W b n c rows s.rs ∧ w1.heap.size < W.heap.size) ⟨hB.alloc _, hcur1.alloc _, hz.alloc _, BoxAt.new _ _ _, hR.keep (.alloc (Nat.le_refl _) _), by simp⟩ ?_
 clear hB hcur1 hz hR
 have hX1 : w.heap.size + 1 ≤ w1.heap.size := by omega
 generalize w1.heap.size = X at *
 rintro W2 ⟨hB, hcur, hz, hx, hR, hXW⟩
 obtain ⟨M2, hMe⟩ : ∃ M2, M2 = W2.heap.size := ⟨_, rfl⟩
 have hM2 : M2 ≤ W2.heap.size := by omega
 have hXM : X < M2 := by omega
 clear hMe hXW
 go_cut [4] (fun u W' => But k w W' ∧ CurAt W' k a0 len cap ∧ BoxAt W' w.heap.size #[.int .i64 0, .int .i64 0, .bool false, .int .i64 0, .slice none 0 0] 42 ∧ BoxAt W' X #[.int .i64 s.rd, .int .i64 s.mo, .slice (some ⟨b, 0, none⟩) n c, .int .i64 s.fi, .int .i64 s.la] 28 ∧ RgsL (w.heap.size + 1) X W' b n c rows s.rs ∧ ∃ (g4 : Nat) (a8 : Rw), M2 ≤ g4 ∧ BoxAt W' g4 #[.int .i64 a8.h, .int .i64 a8.t, .bool a8.c, .int .i64 a8.x, .slice a8.A a8.n a8.cap] 42 ∧ a8 ∈ rows ∧ u = .pointer (some ⟨g4, 0, none⟩))
 case first =>
  refine wp_region2v (fun w w' => But k w w') (fun _ _ h => h.size) (fun _ => But.refl _ _) (fun L W' => But k w W' ∧ CurAt W' k a0 len cap ∧ BoxAt W' w.heap.size #[.int .i64 0, .int .i64 0, .bool false, .int .i64 0, .slice none 0 0] 42 ∧ BoxAt W' X #[.int .i64 s.rd, .int .i64 s.mo, .slice (some ⟨b, 0, none⟩) n c, .int .i64 s.fi, .int .i64 s.la] 28 ∧ RgsL (w.heap.size + 1) X W' b n c rows s.rs ∧ M2 ≤ W'.heap.size) (drRV s w.heap.size X M2 k b n c rows) (fun j => [0, 0, 0, 0, 0, 0, 0, 0, 0, 2, 1].getD j 0) [(10, 9)] (by kernel_rfl) (by kernel_rfl) ?_ ?_ ?_
   (.still rfl ?a0 <| .still rfl ?a1 <| .still rfl ?a2 <| .still rfl ?a3 <| .still rfl ?a4 <| .still rfl ?a5 <| .grow rfl ?a6 <| .still rfl ?a7 <| .grow rfl ?a8 <| .make rfl ?a9 <| .store rfl ?a10 <| .nil) ?_ ?_
  · exact ⟨fun _ _ _ h ⟨x6, e, hp⟩ => ⟨x6, (h 6 (List.mem_singleton.2 rfl)).symm.trans e, hp⟩, fun _ _ _ h ⟨x6, e, hp⟩ => ⟨x6, (h 7 (List.mem_singleton.2 rfl)).symm.trans e, hp⟩, fun _ _ _ h ⟨a8, e, hp⟩ => ⟨a8, (h 8 (List.mem_singleton.2 rfl)).symm.trans e, hp⟩, fun _ _ _ h ⟨g, e, hp⟩ => ⟨g, (h 9 (List.mem_singleton.2 rfl)).symm.trans e, hp⟩, fun _ _ _ h ⟨g, a8, e, hp⟩ => ⟨g, a8, (h 9 (List.mem_singleton.2 rfl)).symm.trans e, hp⟩, trivial⟩
  · exact ⟨fun σ w w' hb ⟨x6, e, hp⟩ => ⟨x6, e, hp⟩, fun σ w w' hb ⟨x6, e, hp⟩ => ⟨x6, e, hp⟩, fun σ w w' hb ⟨a8, e, hp⟩ => ⟨a8, e, hp⟩, fun σ w w' hb ⟨g, e, hg, x0, x1, x2, x3, x4, hx⟩ => ⟨g, e, hg, x0, x1, x2, x3, x4, hb.box hx (by omega)⟩, fun σ w w' hb ⟨g, a8, e, hg, hx, hp⟩ => ⟨g, a8, e, hg, hb.box hx (by omega), hp⟩, trivial⟩
  · exact ⟨hB.drew, hcur, hz, hx, hR, hM2⟩
  case a0 | a2 | a3 | a5 =>
   go_light
   intro L σ W' hcl hL hC hw
   try have e4 := wT hw 4 rfl
   clear hw hcl hL hC
   refine OpGoes.go fun K hK => ?_
   go_simp
   exact hK _ _ ⟨rfl, rfl⟩
  case a1 | a4 =>
   go_light
   intro L σ W' hcl hL hC hw
   try have e0 := wT hw 0 rfl
   try have e3 := wT hw 3 rfl
   have kx := hC.2.2.2.1.cell
   clear hw hcl hL hC
   refine OpGoes.go fun K hK => ?_
   go_simp
   exact hK _ _ ⟨rfl, rfl⟩
  case a6 =>
   go_light
   intro L σ W' hcl hL hC hw
   have e2 := wV hw 2 rfl
   have e5 := wV hw 5 rfl
   clear hw
   have HC := Lib.hid hC
   clear hC
   clear hcl hL
   refine OpGoes.go fun K hK => ?_
   go_simp
   obtain ⟨hB, hcur, hz, hx, hR, hM2⟩ := HC.out
   refine (l1Below_any K0 k a0 len cap _ _ (hc.below (hB.below hkk hN0)) hkk (Nat.le_trans hN0 hB.size) hcur (by omega)).mono ?_
   rintro e w1 ⟨x6, hx6, rfl, hb1, hcur1⟩
   exact ⟨_, rfl, hK _ _ ⟨⟨hB.trans hb1, hcur1, hb1.box hz (by omega), hb1.box hx (by omega), hR.keep (.but hb1 (.inl (by omega)) (by omega)), Nat.le_trans hM2 hb1.size⟩, ⟨x6, rfl, hx6⟩, hb1⟩⟩
  case a7 =>
   go_light
   intro L σ W' hcl hL hC hw
   have e1 := wV hw 1 rfl
   obtain ⟨x6, e6, hp6⟩ := wE hw 6 rfl
   have q1 := hp6.1
   have q2 := hp6.2
   clear hw hcl hL hC
   refine OpGoes.go fun K hK => ?_
   go_simp
   exact hK _ _ ⟨rfl, ⟨x6, rfl, hp6⟩⟩
  case a8 =>
   go_light
   intro L σ W' hcl hL hC hw
   obtain ⟨x6, e7, hp7⟩ := wE hw 7 rfl
   clear hw
   obtain ⟨hB, hcur, hz, hx, hR, hM2⟩ := hC
   obtain ⟨q1, q2⟩ := hp7
   obtain ⟨a8, ha8⟩ : ∃ a8, rows[x6.toNat]? = some a8 := ⟨_, List.getElem?_eq_getElem (by have := hR.1.1; omega)⟩
   have d0 := Own.cell_ Rw.cs_len hR.1 (j := 0) ha8 rfl
   have d1 := Own.cell_ Rw.cs_len hR.1 (j := 1) ha8 rfl
   have d2 := Own.cell_ Rw.cs_len hR.1 (j := 2) ha8 rfl
   have d3 := Own.cell_ Rw.cs_len hR.1 (j := 3) ha8 rfl
   have d4 := Own.cell_ Rw.cs_len hR.1 (j := 4) ha8 rfl
   rw [Nat.add_zero] at d0
   have hm8 := List.mem_of_getElem? ha8
   clear ha8
   clear hcl hL
   refine OpGoes.go fun K hK => ?_
   go_simp
   exact hK _ _ ⟨⟨hB, hcur, hz, hx, hR, hM2⟩, ⟨a8, rfl, hm8⟩, But.refl _ _⟩
  case a9 =>
   go_light
   intro L σ W' hcl hL hC hw
   clear hw
   have HC := Lib.hid hC
   clear hC
   clear hcl hL
   refine OpGoes.go fun K hK => ?_
   go_simp
   obtain ⟨hB, hcur, hz, hx, hR, hM2⟩ := HC.out
   have hb1 : Below W'.heap.size W' (W'.alloc (.cells #[.int .i64 0, .int .i64 0, .bool false, .int .i64 0, .slice none 0 0] 42)) := (Below.refl _ _).alloc (Nat.le_refl _) _
   exact hK _ _ ⟨⟨hB.trans (But.of_below hb1), hcur.belowC hb1, hz.below hb1 hz.lt, hx.below hb1 hx.lt, hR.keep (.below hb1 (by omega)), Nat.le_trans hM2 hb1.size⟩, ⟨_, rfl, hM2, _, _, _, _, _, BoxAt.new _ _ _⟩, But.of_below hb1, rfl, by simp⟩
  case a10 =>
   go_light
   intro L σ W' hcl hL hC hw hne
   obtain ⟨a8, e8, hp8⟩ := wE hw 8 rfl
   obtain ⟨g9, e9, hg9, x0, x1, x2, x3, x4, hbox9⟩ := wE hw 9 rfl
   clear hw hne
   have HC := Lib.hid hC
   clear hC
   clear hcl hL
   have kc_ := hbox9.cell
   have kf_ := hbox9.frozen
   refine OpGoes.go fun K hK => ?_
   go_simp
   obtain ⟨hB, hcur, hz, hx, hR, hM2⟩ := HC.out
   have hset := sets_all (us := [.int .i64 a8.h, .int .i64 a8.t, .bool a8.c, .int .i64 a8.x, .slice a8.A a8.n a8.cap]) hbox9 rfl
   refine hK undef (setCells W' g9 0 [.int .i64 a8.h, .int .i64 a8.t, .bool a8.c, .int .i64 a8.x, .slice a8.A a8.n a8.cap]) ⟨⟨(But.setsNew hB (by omega) _ 0), (CurAt.sets hcur (by omega) _ 0), (BoxAt.sets_ne _ 0 hz (by omega)), (BoxAt.sets_ne _ 0 hx (by omega)), (RgsL.sts hR (by omega) _ 0), (size_sts hM2 _ 0)⟩, ⟨g9, a8, e9, hg9, hset, (((((hp8)))))⟩, Nat.le_of_eq (sets_size _ _ _).symm, keepV ?_⟩
   exact ⟨fun _ _ ⟨x6_x, e, hp⟩ => ⟨x6_x, e, (((((hp)))))⟩, fun _ _ ⟨x6_x, e, hp⟩ => ⟨x6_x, e, (((((hp)))))⟩, fun _ _ ⟨a8_x, e, hp⟩ => ⟨a8_x, e, (((((hp)))))⟩, fun _ _ _ => ⟨g9, e9, hg9, _, _, _, _, _, hset⟩, fun h => absurd rfl h, trivial⟩
  ·
   intro L L' W' hLL hC
   obtain ⟨hB, hcur, hz, hx, hR, hM2⟩ := hC
   exact ⟨hB, hcur, hz, hx, hR, hM2⟩
  ·
   intro σ L W' hall hC hRR
   obtain ⟨hB, hcur, hz, hx, hR, hM2⟩ := hC
   obtain ⟨g9, a8, e9, hg10, s10, hp10⟩ := dE hRR 10 rfl
   clear hRR
   simp only [lexAll]
   go_simp
   go_step
   go_meet
   exact ⟨hB, hcur, hz, hx, hR, g9, a8, hg10, s10, hp10, rfl⟩
 case rest =>
  clear hB hcur hz hx hR hM2
  obtain ⟨hB, hcur, hz, hx, hR, g4, a8, hg4, h4, hm8, rfl⟩ := hcut
  obtain ⟨i, hi⟩ := List.mem_iff_getElem?.1 hm8
  obtain ⟨r, hr, -, -, -, -, hpw⟩ := hR.2.1 i a8 hi
  have hrl := stOk_places HOK.out r (List.mem_of_getElem? hr)
  have hrd := stOk_rd HOK.out
  obtain ⟨rh, rt, rc, rx, rA, rn, rcap⟩ := a8
  dsimp only at hpw h4 ⊢
  have hnr := hpw.1
  obtain ⟨pb, rfl, hpbX, hpo⟩ := hpw.2 (by omega)
  have hpN : w.heap.size + 1 ≤ pb := hpo.2.1
  clear hm8 hi hpw hR hx hr
  go_wp2_with fail
  refine (l1Once_any K0 k a0 len cap _ _ (hc.below (hB.below hkk hN0)) hkk (Nat.le_trans hN0 hB.size) hcur (by omega)).mono ?_
  rintro e w3 ⟨bb, rfl, hb1, hcur1⟩
  replace hz := hb1.box hz (by omega)
  replace h4 := hb1.box h4 (by omega)
  replace hpo := Own.keep hpo (hb1.block pb (Own.lt hpo) (by omega))
  replace hB := hB.trans hb1
  clear hb1 hcur
  have hcur := hcur1
  clear hcur1
  go_upto_if 17 with fail
  go_cut [19] (fun _ W' => ∃ (h t : Int) (c : Bool) (x : Int) (n2 : Nat) (l : List Pl), But k w W' ∧ CurAt W' k a0 len cap ∧ BoxAt W' w.heap.size #[.int .i64 0, .int .i64 0, .bool false, .int .i64 0, .slice none 0 0] 42 ∧ BoxAt W' g4 #[.int .i64 h, .int .i64 t, .bool c, .int .i64 x, .slice (some ⟨pb, 0, none⟩) n2 rcap] 42 ∧ PlsO (w.heap.size + 1) W' pb n2 rcap l ∧ n2 ≤ 8)
  case first =>
   cases bb
   ·
    go_wp2
    go_meet
    exact ⟨rh, rt, rc, rx, rn, _, hB, hcur, hz, h4, hpo, by omega⟩
   ·
    go_wp2_with fail
    refine (l1Below_any K0 k a0 len cap _ _ (hc.below (hB.below hkk hN0)) hkk (Nat.le_trans hN0 hB.size) hcur (by omega)).mono ?_
    rintro e w4 ⟨u, ⟨u0, u1⟩, rfl, hb1, hcur1⟩
    replace hz := hb1.box hz (by omega)
    replace h4 := hb1.box h4 (by omega)
    replace hpo := Own.keep hpo (hb1.block pb (Own.lt hpo) (by omega))
    replace hB := hB.trans hb1
    clear hb1 hcur
    have hcur := hcur1
    clear hcur1
    have k4 := h4.cell
    have f4 := h4.frozen
    have hu : u = 0 ∨ u = 1 ∨ u = 2 ∨ u = 3 ∨ u = 4 := by omega
    rcases hu with rfl | rfl | rfl | rfl | rfl
    ·
     go_wp2_with fail
     have l4 := h4.lt
     have lp := Own.lt hpo
     have lk := hcur.lt
     refine calls_abs (fun W => But k w W ∧ CurAt W k a0 len cap ∧ BoxAt W w.heap.size #[.int .i64 0, .int .i64 0, .bool false, .int .i64 0, .slice none 0 0] 42 ∧ BoxAt W g4 #[.int .i64 rh, .int .i64 rt, .bool rc, .int .i64 rx, .slice (some ⟨pb, 0, none⟩) rn rcap] 42 ∧ PlsO (w.heap.size + 1) W pb rn rcap r.ps ∧ BoxAt W w4.heap.size #[.int .i64 (-1), .int .i64 (1000000), .int .i64 (1000001)] 2) ⟨hB.alloc _, hcur.alloc _, hz.alloc _, h4.alloc _, Own.keep hpo (Below.heap_alloc _ _ _ lp), BoxAt.new _ _ _⟩ ?_
     clear hB hcur hz h4 hpo k4 f4
     rintro W5 ⟨hB, hcur, hz, h4, hpo, hlit⟩
     refine (l1Below_any K0 k a0 len cap _ _ (hc.below (hB.below hkk hN0)) hkk (Nat.le_trans hN0 hB.size) hcur (by omega)).mono ?_
     rintro e w6 ⟨y, ⟨y0, y1⟩, rfl, hb1, hcur1⟩
     replace hlit := hb1.box hlit (by omega)
     replace hz := hb1.box hz (by omega)
     replace h4 := hb1.box h4 (by omega)
     replace hpo := Own.keep hpo (hb1.block pb (Own.lt hpo) (by omega))
     replace hB := hB.trans hb1
     clear hb1 hcur
     have hcur := hcur1
     clear hcur1
     have k4 := h4.cell
     have f4 := h4.frozen
     have kl := hlit.cell
     have hy : y = 0 ∨ y = 1 ∨ y = 2 := by omega
     rcases hy with rfl | rfl | rfl
     ·
      go_wp2
      go_meet
      exact ⟨(-1), rt, rc, rx, rn, _, hB.setNew (by omega) _ _, hcur.sn, hz.sn, by simpa using h4.set 0 (.int .i64 ((-1))), Own.set_ne hpo (by omega) _ _, by omega⟩
     ·
      go_wp2
      go_meet
      exact ⟨1000000, rt, rc, rx, rn, _, hB.setNew (by omega) _ _, hcur.sn, hz.sn, by simpa using h4.set 0 (.int .i64 (1000000)), Own.set_ne hpo (by omega) _ _, by omega⟩
     ·
      go_wp2
      go_meet
      exact ⟨1000001, rt, rc, rx, rn, _, hB.setNew (by omega) _ _, hcur.sn, hz.sn, by simpa using h4.set 0 (.int .i64 (1000001)), Own.set_ne hpo (by omega) _ _, by omega⟩
    ·
     go_wp2_with fail
     have l4 := h4.lt
     have lp := Own.lt hpo
     have lk := hcur.lt
     refine calls_abs (fun W => But k w W ∧ CurAt W k a0 len cap ∧ BoxAt W w.heap.size #[.int .i64 0, .int .i64 0, .bool false, .int .i64 0, .slice none 0 0] 42 ∧ BoxAt W g4 #[.int .i64 rh, .int .i64 rt, .bool rc, .int .i64 rx, .slice (some ⟨pb, 0, none⟩) rn rcap] 42 ∧ PlsO (w.heap.size + 1) W pb rn rcap r.ps ∧ BoxAt W w4.heap.size #[.int .i64 (-1), .int .i64 (7)] 2) ⟨hB.alloc _, hcur.alloc _, hz.alloc _, h4.alloc _, Own.keep hpo (Below.heap_alloc _ _ _ lp), BoxAt.new _ _ _⟩ ?_
     clear hB hcur hz h4 hpo k4 f4
     rintro W5 ⟨hB, hcur, hz, h4, hpo, hlit⟩
     refine (l1Below_any K0 k a0 len cap _ _ (hc.below (hB.below hkk hN0)) hkk (Nat.le_trans hN0 hB.size) hcur (by omega)).mono ?_
     rintro e w6 ⟨y, ⟨y0, y1⟩, rfl, hb1, hcur1⟩
     replace hlit := hb1.box hlit (by omega)
     replace hz := hb1.box hz (by omega)
     replace h4 := hb1.box h4 (by omega)
     replace hpo := Own.keep hpo (hb1.block pb (Own.lt hpo) (by omega))
     replace hB := hB.trans hb1
     clear hb1 hcur
     have hcur := hcur1
     clear hcur1
     have k4 := h4.cell
     have f4 := h4.frozen
     have kl := hlit.cell
     have hy : y = 0 ∨ y = 1 := by omega
     rcases hy with rfl | rfl
     ·
      go_wp2
      go_meet
      exact ⟨rh, (-1), rc, rx, rn, _, hB.setNew (by omega) _ _, hcur.sn, hz.sn, by simpa using h4.set 1 (.int .i64 ((-1))), Own.set_ne hpo (by omega) _ _, by omega⟩
     ·
      go_wp2
      go_meet
      exact ⟨rh, 7, rc, rx, rn, _, hB.setNew (by omega) _ _, hcur.sn, hz.sn, by simpa using h4.set 1 (.int .i64 (7)), Own.set_ne hpo (by omega) _ _, by omega⟩
    ·
     go_wp2_with fail
     refine (l1From_any K0 k a0 len cap _ _ _ (hc.below (hB.below hkk hN0)) hkk (Nat.le_trans hN0 hB.size) hcur (by omega) (by omega) (by omega)).mono ?_
     rintro e w5 ⟨v, hv, rfl, hb1, hcur1⟩
     clear k4 f4
     replace hz := hb1.box hz (by omega)
     replace h4 := hb1.box h4 (by omega)
     replace hpo := Own.keep hpo (hb1.block pb (Own.lt hpo) (by omega))
     replace hB := hB.trans hb1
     clear hb1 hcur
     have hcur := hcur1
     clear hcur1
     have k4 := h4.cell
     have f4 := h4.frozen
     go_wp2
     go_meet
     exact ⟨rh, rt, rc, v, rn, _, hB.setNew (by omega) _ _, hcur.sn, hz.sn, by simpa using h4.set 3 (.int .i64 (v)), Own.set_ne hpo (by omega) _ _, by omega⟩
    ·
     go_upto_region 12 with fail
     clear k4 f4
     refine wp_region2v (fun w w' => But k w w') (fun _ _ h => h.size) (fun _ => But.refl _ _) (fun L W' => But k w W' ∧ CurAt W' k a0 len cap ∧ BoxAt W' w.heap.size #[.int .i64 0, .int .i64 0, .bool false, .int .i64 0, .slice none 0 0] 42 ∧ BoxAt W' g4 #[.int .i64 rh, .int .i64 rt, .bool rc, .int .i64 rx, .slice (some ⟨pb, 0, none⟩) rn rcap] 42 ∧ (L 5 = false → PlsO (w.heap.size + 1) W' pb rn rcap r.ps)) (drPV w.heap.size k g4 pb rn rcap rh rt rc rx r.ps) (fun j => [0, 0, 0, 0, 0, 1].getD j 0) [] (by kernel_rfl) (by kernel_rfl) ?_ ?_ ?_
      (.still rfl ?a0 <| .still rfl ?a1 <| .still rfl ?a2 <| .grow rfl ?a3 <| .still rfl ?a4 <| .store rfl ?a5 <| .nil) ?_ ?_
     · exact ⟨fun _ _ _ h ⟨p3, e, hp⟩ => ⟨p3, (h 3 (List.mem_singleton.2 rfl)).symm.trans e, hp⟩, fun _ _ _ _ h => h, trivial⟩
     · exact ⟨fun σ w w' hb ⟨p3, e, hp⟩ => ⟨p3, e, hp⟩, fun σ w w' hb ⟨p3, hp⟩ => ⟨p3, Own.keep hp (hb.block pb (Own.lt hp) (by omega))⟩, trivial⟩
     · exact ⟨hB.drew, hcur, hz, h4, fun _ => hpo⟩
     case a0 | a2 =>
      go_light
      intro L σ W' hcl hL hC hw
      clear hw hcl hL hC
      refine OpGoes.go fun K hK => ?_
      go_simp
      exact hK _ _ ⟨rfl, rfl⟩
     case a1 =>
      go_light
      intro L σ W' hcl hL hC hw
      have e0 := wV hw 0 rfl
      have k4 := hC.2.2.2.1.cell
      clear hw hcl hL hC
      refine OpGoes.go fun K hK => ?_
      go_simp
      exact hK _ _ ⟨rfl, rfl⟩
     case a3 =>
      go_light
      intro L σ W' hcl hL hC hw
      have e2 := wV hw 2 rfl
      clear hw
      have HC := Lib.hid hC
      clear hC
      clear hcl hL
      refine OpGoes.go fun K hK => ?_
      go_simp
      obtain ⟨hB, hcur, hz, h4, hpo⟩ := HC.out
      refine (l1DrawAny_any K0 k a0 len cap _ (hc.below (hB.below hkk hN0)) hkk (Nat.le_trans hN0 hB.size) hcur).mono ?_
      rintro e w1 ⟨pa, pc, pe, pd, rfl, hb1, hcur1⟩
      exact ⟨_, rfl, hK _ _ ⟨⟨hB.trans hb1, hcur1, hb1.box hz (by omega), hb1.box h4 (by omega), fun h => Own.keep (hpo (by simpa [upd] using h)) (hb1.block pb (Own.lt (hpo (by simpa [upd] using h))) (by omega))⟩, ⟨⟨pa, pe, pc, pd⟩, rfl, trivial⟩, hb1⟩⟩
     case a4 =>
      go_light
      intro L σ W' hcl hL hC hw
      have e1 := wV hw 1 rfl
      have q1 : 0 < rn := by omega
      clear hw hcl hL hC
      refine OpGoes.go fun K hK => ?_
      go_simp
      exact hK _ _ ⟨rfl, rfl⟩
     case a5 =>
      go_light
      intro L σ W' hcl hL hC hw hne
      obtain ⟨p3, e3, hp3⟩ := wE hw 3 rfl
      have e4 := wV hw 4 rfl
      clear hw hne
      obtain ⟨hB, hcur, hz, h4, hpo⟩ := hC
      have hq := (hpo hL)
      obtain ⟨p0, hp0⟩ : ∃ p0, r.ps[0]? = some p0 := ⟨_, List.getElem?_eq_getElem (by have := hq.1; omega)⟩
      have d0 := Own.cell_ Pl.cs_len hq (j := 0) hp0 rfl
      have d1 := Own.cell_ Pl.cs_len hq (j := 1) hp0 rfl
      have d2 := Own.cell_ Pl.cs_len hq (j := 2) hp0 rfl
      have d3 := Own.cell_ Pl.cs_len hq (j := 3) hp0 rfl
      rw [Nat.zero_mul, Nat.zero_add] at d0 d1 d2 d3
      have df := Own.frozen_ hq
      have HB_ := Lib.hid hB
      have HC_ := Lib.hid hcur
      have HZ_ := Lib.hid hz
      have H4_ := Lib.hid h4
      have HQ_ := Lib.hid hq
      clear hB hcur hz h4 hpo hq hp0
      clear hcl hL
      refine OpGoes.go fun K hK => ?_
      go_simp
      have hset := Own.setEl HQ_.out Pl.cs_len (by omega) (i := 0) (by omega) p3
      have hn4 : g4 ≠ pb := by omega
      refine hK _ _ ⟨⟨((((HB_.out).setNew (by omega) _ _).setNew (by omega) _ _).setNew (by omega) _ _).setNew (by omega) _ _, ((((HC_.out).sn).sn).sn).sn, ((((HZ_.out).sn).sn).sn).sn, ((((H4_.out).sn).sn).sn).sn, fun h => absurd h (by simp [upd])⟩, ⟨p3, hset⟩, by simp, fun j hj hn hR => ?_⟩
      refine keepV ?_ j hj hn hR
      exact ⟨fun _ _ ⟨p3, e, hp⟩ => ⟨p3, e, trivial⟩, fun h => absurd rfl h, trivial⟩
     ·
      intro L L' W' hLL hC
      obtain ⟨hB, hcur, hz, h4, hpo⟩ := hC
      exact ⟨hB, hcur, hz, h4, fun h => hpo (hLL _ h)⟩
     ·
      intro σ L W' hall hC hRR
      obtain ⟨hB, hcur, hz, h4, hpo⟩ := hC
      obtain ⟨p3, hset⟩ := dE hRR 5 rfl
      clear hRR
      simp only [lexAll]
      go_simp
      go_step
      go_meet
      exact ⟨rh, rt, rc, rx, rn, _, hB, hcur, hz, h4, hset, by omega⟩
    ·
     have hcp : (1 : Int) ≤ (rcap : Int) := by have := hpo.2.2.1; omega
     have hcp2 : 1 ≤ rcap := by omega
     go_wp2
     go_meet
     exact ⟨rh, rt, rc, rx, 1, _, hB.setNew (by omega) _ _, hcur.sn, hz.sn, by simpa using h4.set 4 (.slice (some ⟨pb, 0, none⟩) 1 rcap), Own.set_ne (PlsO.one hpo (by omega)) (by omega) _ _, by omega⟩
  case rest =>
   clear hB hcur hz h4 hpo
   obtain ⟨h, t, c, x, n2, l, hB, hcur, hz, h4, hpo, hn2⟩ := hcut
   have kz := hz.cell
   have fz := hz.frozen
   have k4 := h4.cell
   go_wp2
   refine bodyPost_ret (v := rgV h t c x (some ⟨pb, 0, none⟩) n2 rcap) (by simp [results, Tryz.results48, go_sem, kz, rgV]) rfl ⟨h, t, c, x, pb, n2, rcap, l, rfl, ?_, hn2, ?_, ?_⟩
   rotate_left
   · exact But.setsNew hB (by omega) [.int .i64 h, .int .i64 t, .bool c, .int .i64 x, .slice (some ⟨pb, 0, none⟩) n2 rcap] 0
   · exact CurAt.sets hcur (by omega) [.int .i64 h, .int .i64 t, .bool c, .int .i64 x, .slice (some ⟨pb, 0, none⟩) n2 rcap] 0
   have hq : PlsO (w.heap.size + 1) (setCells wc w.heap.size 0 [.int .i64 h, .int .i64 t, .bool c, .int .i64 x, .slice (some ⟨pb, 0, none⟩) n2 rcap]) pb n2 rcap l := Own.sets_ne hpo (by omega) [.int .i64 h, .int .i64 t, .bool c, .int .i64 x, .slice (some ⟨pb, 0, none⟩) n2 rcap] 0
   exact Own.mono hq (by omega)

/-- A ring and a number are drawn. -/
def DrawnRI (w : World) (e : Ending) (w' : World) : Prop := ∃ (h t : Int) (c : Bool) (x : Int) (pb n cp : Nat) (l : List Pl) (z : Int), e = .returned (.tuple #[rgV h t c x (some ⟨pb, 0, none⟩) n cp, .int .i64 z]) ∧ PlsR 0 w' (some ⟨pb, 0, none⟩) n l ∧ n ≤ 8 ∧ (-1 ≤ z ∧ z ≤ 1000001) ∧ Below w.heap.size w w'

end Go.Proofs.YtibmbanbaopeiaaGreat

/-
 The draw of any store.
-/
namespace Go.Proofs.YtibmbanbaopeiaaGreat
set_option linter.unusedSimpArgs false
set_option linter.unusedVariables false
open Go.RowKit
set_option linter.unusedVariables false
attribute [local go_sem] OpUpon
attribute [local go_sem ↓] Go.wp_at_zero Go.wp_at_succ

theorem CodeOk.le {N M : Nat} {w : World} {a0 : Option Addr} {len : Nat} (h : CodeOk N w a0 len) (hM : N ≤ M) : CodeOk M w a0 len := by
 refine ⟨h.1, fun hl => ?_⟩
 obtain ⟨b, off, e, hn, hs, hc⟩ := h.2 hl
 exact ⟨b, off, e, by omega, hs, hc⟩

/-- Any store is drawn; its rings lie in new memory. -/
def DrawsA (k : Nat) (a0 : Option Addr) (len cap : Nat) (w : World) (e : Ending) (w' : World) : Prop :=
 ∃ (s : St) (A : Option Addr) (n c : Nat), e = .returned (stV s A n c) ∧ RgsW w.heap.size w'.heap.size w' A n c s.rs ∧ (1 ≤ n ∧ n ≤ 17) ∧ (∀ r ∈ s.rs, r.ps.length ≤ 8) ∧ But k w w' ∧ CurAt w' k a0 len cap

theorem RgsL.w {lo hi : Nat} {w : World} {b n c : Nat} {rows : List Rw} {L : List Rg} (h : RgsL lo hi w b n c rows L) (hl : L.length = n) : RgsW lo hi w (some ⟨b, 0, none⟩) n c L := ⟨hl, fun _ => ⟨b, rows, rfl, h.2.2, h.1, h.2.1⟩⟩
theorem AllIs.keepP {lo hi : Nat} {w w' : World} {rows : List Rw} {L : List Rg} (h : AllIs lo hi w rows L) (hs : ∀ g cs, BoxAt w g cs 58 → w'.heap[g]? = w.heap[g]?) : AllIs lo hi w' rows L := fun i a ha => by
 obtain ⟨r, hr, h1, h2, h3, h4, hp⟩ := h i a ha
 refine ⟨r, hr, h1, h2, h3, h4, hp.1, fun hn => ?_⟩
 obtain ⟨b, e, hb, ho⟩ := hp.2 hn
 exact ⟨b, e, hb, Own.keep ho (by obtain ⟨_, _, _, _, cur, hg, _⟩ := ho; exact hs _ _ hg)⟩
theorem AllIs.keepS {lo hi : Nat} {w w' : World} {rows : List Rw} {L : List Rg} (h : AllIs lo hi w rows L) (hs : SameIn lo hi w w') : AllIs lo hi w' rows L := fun i a ha => by
 obtain ⟨r, hr, his⟩ := h i a ha
 exact ⟨r, hr, his.keep hs⟩
theorem AllIs.grown {lo hi : Nat} {w w' : World} {rows : List Rw} {L : List Rg} (h : AllIs lo hi w rows L) {b n c m N : Nat} {xs : List Value} (ho : w.ownsRow N 42 m (.slice (some ⟨b, 0, none⟩) n c) n xs) (hg : w.grownBy w' (some b)) : AllIs lo hi w' rows L :=
 h.keepP fun g cs hgb => hg.block g hgb.lt (by
  intro e
  injection e with e
  subst e
  rcases ho.2 with ⟨h1, _⟩ | ⟨g', cap', cur, hv, _, hb, _⟩
  · cases h1
  ·
   injection hv with h1
   injection h1 with h1
   injection h1 with h1
   subst h1
   unfold BoxAt at hgb
   rw [hb] at hgb
   injection hgb with hgb
   injection hgb with _ hgb
   exact absurd hgb (by decide))
/-- One ring more behind the others. -/
theorem snoc_rgs {lo hi M2 : Nat} {w : World} {bb n cc : Nat} {rows : List Rw} {L : List Rg} {q3 : Rg} {p3 n3 c3 : Nat} (hr : RwsO lo w bb (n + 1) cc (rows ++ [(⟨q3.h, q3.t, q3.c, q3.x, some ⟨p3, 0, none⟩, n3, c3⟩ : Rw)])) (hal : AllIs lo hi w rows L) (hl : L.length = n) (hrl : rows.length = n) (hp : PlsO M2 w p3 n3 c3 q3.ps) (hlo : lo ≤ M2) :
  RgsW lo w.heap.size w (some ⟨bb, 0, none⟩) (n + 1) cc (L ++ [q3]) := by
 refine ⟨by simp [hl], fun _ => ⟨bb, _, rfl, Own.lt hr, hr, ?_⟩⟩
 intro i a ha
 by_cases hi0 : i < n
 ·
  rw [List.getElem?_append_left (by omega)] at ha
  obtain ⟨r, hr', his⟩ := hal i a ha
  exact ⟨r, by rw [List.getElem?_append_left (by omega)]; exact hr', his.cut⟩
 ·
  have hin : i = n := by
   have := (List.getElem?_eq_some_iff.1 ha).1
   simp [hrl] at this
   omega
  subst hin
  rw [List.getElem?_append_right (by omega), hrl, Nat.sub_self] at ha
  injection ha with ha
  subst ha
  refine ⟨q3, by rw [List.getElem?_append_right (by omega), hl, Nat.sub_self]; rfl, rfl, rfl, rfl, rfl, hp.1, fun hn => ⟨p3, rfl, Own.lt hp, Own.mono hp hlo⟩⟩
/-- Another ring in the first one's place. -/
theorem put_first {lo hi M2 : Nat} {w : World} {b n c : Nat} {rows : List Rw} {L : List Rg} {q3 : Rg} {p3 n3 c3 : Nat} (h : RgsL lo hi w b n c rows L) (hp : PlsO M2 w p3 n3 c3 q3.ps) (hl : L.length = n) (hlo : lo ≤ M2 ∧ hi ≤ M2 ∧ 0 < n) :
  RgsW lo (setCells w b 0 (⟨q3.h, q3.t, q3.c, q3.x, some ⟨p3, 0, none⟩, n3, c3⟩ : Rw).cs).heap.size (setCells w b 0 (⟨q3.h, q3.t, q3.c, q3.x, some ⟨p3, 0, none⟩, n3, c3⟩ : Rw).cs) (some ⟨b, 0, none⟩) n c (L.set 0 q3) := by
 obtain ⟨hr, hal, hbh⟩ := h
 obtain ⟨csb, hbb⟩ : ∃ cs, BoxAt w b cs 42 := by obtain ⟨_, _, _, _, cur, hb, _⟩ := hr; exact ⟨cur, hb⟩
 have hb1 := hbb.lt
 have hset := Own.setEl hr Rw.cs_len (by omega) (i := 0) (by omega) (⟨q3.h, q3.t, q3.c, q3.x, some ⟨p3, 0, none⟩, n3, c3⟩ : Rw)
 rw [Nat.zero_mul] at hset
 have hpl := Own.lt hp
 have hpg := hp.2.1
 refine ⟨by simpa using hl, fun _ => ⟨b, _, rfl, by rw [sets_size]; exact hb1, hset, ?_⟩⟩
 have hal2 : AllIs lo hi (setCells w b 0 (⟨q3.h, q3.t, q3.c, q3.x, some ⟨p3, 0, none⟩, n3, c3⟩ : Rw).cs) rows L := hal.keepP fun g cs hg => sets_block (box_neM hg hbb (by decide)) _ 0 w
 intro i a ha
 by_cases hi0 : i = 0
 ·
  subst hi0
  rw [List.getElem?_set_self (by have := hr.1; omega)] at ha
  injection ha with ha
  subst ha
  refine ⟨q3, List.getElem?_set_self (by omega), rfl, rfl, rfl, rfl, hp.1, fun hn => ⟨p3, rfl, by rw [sets_size]; exact hpl, ?_⟩⟩
  exact Own.mono (Own.sets_ne hp (by omega) (⟨q3.h, q3.t, q3.c, q3.x, some ⟨p3, 0, none⟩, n3, c3⟩ : Rw).cs 0) (by omega)
 ·
  rw [List.getElem?_set_ne (Ne.symm hi0)] at ha
  obtain ⟨r, hr', his⟩ := hal2 i a ha
  exact ⟨r, by rw [List.getElem?_set_ne (Ne.symm hi0)]; exact hr', his.cut⟩

def dsAV (s : St) (N X M2 k b n c : Nat) (rows : List Rw) : List Sl := [.v (.pointer (some ⟨X, 2, none⟩)),
 .v (.slice (some ⟨b, 0, none⟩) n c),
 .v (.pointer (some ⟨k, 0, none⟩)),
 .e fun σ w => ∃ (q3 : Rg) (p3 n3 c3 : Nat), σ 3 = .agg #[.int .i64 q3.h, .int .i64 q3.t, .bool q3.c, .int .i64 q3.x, .slice (some ⟨p3, 0, none⟩) n3 c3] ∧ (PlsO M2 w p3 n3 c3 q3.ps ∧ n3 ≤ 8),
 .v (.pointer (some ⟨b, 0, none⟩)),
 .e fun σ w => ∃ (q3 : Rg) (p3 n3 c3 : Nat), (RgsW (N + 1) w.heap.size w (some ⟨b, 0, none⟩) n c (s.rs.set 0 q3) ∧ q3.ps.length ≤ 8)]

def dsBV (s : St) (N X M2 k b n c : Nat) (rows : List Rw) : List Sl := [.v (.pointer (some ⟨X, 2, none⟩)),
 .v (.slice (some ⟨b, 0, none⟩) n c),
 .v (.pointer (some ⟨k, 0, none⟩)),
 .e fun σ w => ∃ (q3 : Rg) (p3 n3 c3 : Nat), σ 3 = .agg #[.int .i64 q3.h, .int .i64 q3.t, .bool q3.c, .int .i64 q3.x, .slice (some ⟨p3, 0, none⟩) n3 c3] ∧ (PlsO M2 w p3 n3 c3 q3.ps ∧ n3 ≤ 8),
 .e fun σ w => ∃ (q3 : Rg) (p3 n3 c3 g2 : Nat), σ 4 = .slice (some ⟨g2, 0, none⟩) 1 1 ∧ (BoxAt w g2 #[.int .i64 q3.h, .int .i64 q3.t, .bool q3.c, .int .i64 q3.x, .slice (some ⟨p3, 0, none⟩) n3 c3] 42 ∧ M2 ≤ g2 ∧ PlsO M2 w p3 n3 c3 q3.ps ∧ n3 ≤ 8),
 .e fun σ w => ∃ (bb cc : Nat) (q3 : Rg) (p3 n3 c3 : Nat), σ 5 = .slice (some ⟨bb, 0, none⟩) (n + 1) cc ∧ (w.ownsRow (N + 1) 42 5 (.slice (some ⟨bb, 0, none⟩) (n + 1) cc) (n + 1) ((rows ++ [(⟨q3.h, q3.t, q3.c, q3.x, some ⟨p3, 0, none⟩, n3, c3⟩ : Rw)]).flatMap Rw.cs) ∧ PlsO M2 w p3 n3 c3 q3.ps ∧ (bb = b ∨ M2 ≤ bb) ∧ n3 ≤ 8),
 .v (.pointer (some ⟨X, 2, none⟩)),
 .e fun σ w => ∃ (bb cc : Nat) (q3 : Rg) (p3 n3 c3 : Nat), BoxAt w X #[.int .i64 s.rd, .int .i64 s.mo, .slice (some ⟨bb, 0, none⟩) (n + 1) cc, .int .i64 s.fi, .int .i64 s.la] 28 ∧ (w.ownsRow (N + 1) 42 5 (.slice (some ⟨bb, 0, none⟩) (n + 1) cc) (n + 1) ((rows ++ [(⟨q3.h, q3.t, q3.c, q3.x, some ⟨p3, 0, none⟩, n3, c3⟩ : Rw)]).flatMap Rw.cs) ∧ PlsO M2 w p3 n3 c3 q3.ps ∧ (bb = b ∨ M2 ≤ bb) ∧ n3 ≤ 8)]

set_option maxRecDepth 100000 in
set_option maxHeartbeats 2000000 in
theorem l3DrawAny_any (K0 k : Nat) (a0 : Option Addr) (len cap : Nat) (w : World) (hc : CodeOk K0 w a0 len) (hkk : K0 ≤ k) (hN0 : K0 ≤ w.heap.size) (hcur : CurAt w k a0 len cap) :
  Calls Tryz.prog 35 #[.pointer (some ⟨k, 0, none⟩)] w (DrawsA k a0 len cap w) := by
 have hkN := hcur.lt
 obtain ⟨i0, hi0, hz0, hz1, hz2⟩ := info_parts ring_info
 have HI := Lib.hid hi0
 have HZ0 := Lib.hid hz0
 have HZ1 := Lib.hid hz1
 have HZ2 := Lib.hid hz2
 clear hi0 hz0 hz1 hz2
 go_enter Tryz.func35, Tryz.ntmps35
 go_wp2_with fail
 refine calls_abs (fun W => But k w W ∧ CurAt W k a0 len cap ∧ BoxAt W w.heap.size #[.int .i64 0, .int .i64 0, .slice none 0 0, .int .i64 0, .int .i64 0] 28) ⟨(But.refl _ _).alloc _, hcur.alloc _, BoxAt.new _ _ _⟩ ?_
 clear hcur
 rintro W0 ⟨hB, hcur, hz⟩
 refine (l3Draw_any K0 k a0 len cap _ (hc.below (hB.below hkk hN0)) hkk (Nat.le_trans hN0 hB.size) hcur).mono ?_
 rintro e w1 ⟨s, A, n, c, rfl, hok, hG, hb1, hcur1⟩
 have lz := hz.lt
 replace hz := hb1.box hz (by omega)
 have hs1 := hb1.size
 replace hB := hB.trans hb1
 clear hb1 hcur
 have hne := (stOk_neat hok).1
 have hn8 := (stOk_neat hok).2.1
 have HP8 := Lib.hid (show ∀ r ∈ s.rs, r.ps.length ≤ 8 from fun r hr => by have := stOk_places hok r hr; have := stOk_rd hok; omega)
 have HL := Lib.hid hG.1
 clear hok
 obtain ⟨b, rows, rfl, hbh, hro, hal⟩ := hG.2 (by have := HL.out; omega)
 have hn1 : 1 ≤ n := by have := HL.out; omega
 have hn16 : n ≤ 16 := by have := HL.out; omega
 have hR : RgsL (w.heap.size + 1) w1.heap.size w1 b n c rows s.rs := ⟨Own.mono hro (by omega), fun i a ha => by obtain ⟨r, hr, his⟩ := hal i a ha; exact ⟨r, hr, his.mono (by omega) (Nat.le_refl _)⟩, hbh⟩
 clear hG hro hal hne hn8
 unfold stV
 go_upto_region 2 with fail
 refine wp_abs (fun W => But k w W ∧ CurAt W k a0 len cap ∧ BoxAt W w.heap.size #[.int .i64 0, .int .i64 0, .slice none 0 0, .int .i64 0, .int .i64 0] 28 ∧ BoxAt W w1.heap.size #[.int .i64 s.rd, .int .i64 s.mo, .slice (some ⟨b, 0, none⟩) n c, .int .i64 s.fi, .int .i64 s.la] 28 ∧ RgsL (w.heap.size + 1) w1.heap.size W b n c rows s.rs ∧ w1.heap.size < W.heap.size) ⟨hB.alloc _, hcur1.alloc _, hz.alloc _, BoxAt.new _ _ _, hR.keep (.alloc (Nat.le_refl _) _), by simp⟩ ?_
 clear hB hcur1 hz hR
 have hX1 : w.heap.size + 1 ≤ w1.heap.size := by omega
 have hbX : b < w1.heap.size := hbh
 clear hbh
 generalize w1.heap.size = X at *
 rintro W2 ⟨hB, hcur, hz, hx, hR, hXW⟩
 go_wp2_with fail
 refine (l1Once_any K0 k a0 len cap _ _ (hc.below (hB.below hkk hN0)) hkk (Nat.le_trans hN0 hB.size) hcur (by omega)).mono ?_
 rintro e w3 ⟨bb, rfl, hb1, hcur1⟩
 replace hz := hb1.box hz (by omega)
 replace hx := hb1.box hx (by omega)
 replace hR := hR.keep (.but hb1 (.inl (by omega)) (by omega))
 replace hB := hB.trans hb1
 have hs_ := hb1.size
 clear hb1 hcur
 have hcur := hcur1
 clear hcur1
 go_upto_if 7 with fail
 go_cut [9] (fun _ W' => ∃ (s2 : St) (A2 : Option Addr) (n2 c2 : Nat), But k w W' ∧ CurAt W' k a0 len cap ∧ BoxAt W' w.heap.size #[.int .i64 0, .int .i64 0, .slice none 0 0, .int .i64 0, .int .i64 0] 28 ∧ BoxAt W' X #[.int .i64 s2.rd, .int .i64 s2.mo, .slice A2 n2 c2, .int .i64 s2.fi, .int .i64 s2.la] 28 ∧ RgsW (w.heap.size + 1) W'.heap.size W' A2 n2 c2 s2.rs ∧ (1 ≤ n2 ∧ n2 ≤ 17) ∧ ∀ r ∈ s2.rs, r.ps.length ≤ 8)
 case first =>
  cases bb
  ·
   go_wp2
   go_meet
   exact ⟨s, some ⟨b, 0, none⟩, n, c, hB, hcur, hz, hx, (hR.w HL.out).cut, ⟨by omega, by omega⟩, HP8.out⟩
  ·
   go_wp2_with fail
   refine (l1Below_any K0 k a0 len cap _ _ (hc.below (hB.below hkk hN0)) hkk (Nat.le_trans hN0 hB.size) hcur (by omega)).mono ?_
   rintro e w4 ⟨u, ⟨u0, u1⟩, rfl, hb1, hcur1⟩
   replace hz := hb1.box hz (by omega)
   replace hx := hb1.box hx (by omega)
   replace hR := hR.keep (.but hb1 (.inl (by omega)) (by omega))
   replace hB := hB.trans hb1
   have hs_ := hb1.size
   clear hb1 hcur
   have hcur := hcur1
   clear hcur1
   have k4 := hx.cell
   have f4 := hx.frozen
   have hu : u = 0 ∨ u = 1 ∨ u = 2 ∨ u = 3 ∨ u = 4 ∨ u = 5 := by omega
   rcases hu with rfl | rfl | rfl | rfl | rfl | rfl
   ·
    go_wp2_with fail
    refine (l1From_any K0 k a0 len cap _ _ _ (hc.below (hB.below hkk hN0)) hkk (Nat.le_trans hN0 hB.size) hcur (by omega) (by omega) (by omega)).mono ?_
    rintro e w5 ⟨v, hv, rfl, hb1, hcur1⟩
    clear k4 f4
    replace hz := hb1.box hz (by omega)
    replace hx := hb1.box hx (by omega)
    replace hR := hR.keep (.but hb1 (.inl (by omega)) (by omega))
    replace hB := hB.trans hb1
    have hs_ := hb1.size
    clear hb1 hcur
    have hcur := hcur1
    clear hcur1
    have k4 := hx.cell
    have f4 := hx.frozen
    go_wp2
    go_meet
    exact ⟨{ s with rd := v }, some ⟨b, 0, none⟩, n, c, hB.setNew (by omega) _ _, hcur.sn, hz.sn, by simpa using hx.set 0 (.int .i64 v), ((hR.w HL.out).st (.inr (Nat.le_refl _)) _ _).cut, ⟨by omega, by omega⟩, HP8.out⟩
   ·
    go_wp2_with fail
    refine (l1From_any K0 k a0 len cap _ _ _ (hc.below (hB.below hkk hN0)) hkk (Nat.le_trans hN0 hB.size) hcur (by omega) (by omega) (by omega)).mono ?_
    rintro e w5 ⟨v, hv, rfl, hb1, hcur1⟩
    clear k4 f4
    replace hz := hb1.box hz (by omega)
    replace hx := hb1.box hx (by omega)
    replace hR := hR.keep (.but hb1 (.inl (by omega)) (by omega))
    replace hB := hB.trans hb1
    have hs_ := hb1.size
    clear hb1 hcur
    have hcur := hcur1
    clear hcur1
    have k4 := hx.cell
    have f4 := hx.frozen
    go_wp2
    go_meet
    exact ⟨{ s with mo := v }, some ⟨b, 0, none⟩, n, c, hB.setNew (by omega) _ _, hcur.sn, hz.sn, by simpa using hx.set 1 (.int .i64 v), ((hR.w HL.out).st (.inr (Nat.le_refl _)) _ _).cut, ⟨by omega, by omega⟩, HP8.out⟩
   ·
    go_wp2_with fail
    refine (l1From_any K0 k a0 len cap _ _ _ (hc.below (hB.below hkk hN0)) hkk (Nat.le_trans hN0 hB.size) hcur (by omega) (by omega) (by omega)).mono ?_
    rintro e w5 ⟨v, hv, rfl, hb1, hcur1⟩
    clear k4 f4
    replace hz := hb1.box hz (by omega)
    replace hx := hb1.box hx (by omega)
    replace hR := hR.keep (.but hb1 (.inl (by omega)) (by omega))
    replace hB := hB.trans hb1
    have hs_ := hb1.size
    clear hb1 hcur
    have hcur := hcur1
    clear hcur1
    have k4 := hx.cell
    have f4 := hx.frozen
    go_wp2
    go_meet
    exact ⟨{ s with fi := v }, some ⟨b, 0, none⟩, n, c, hB.setNew (by omega) _ _, hcur.sn, hz.sn, by simpa using hx.set 3 (.int .i64 v), ((hR.w HL.out).st (.inr (Nat.le_refl _)) _ _).cut, ⟨by omega, by omega⟩, HP8.out⟩
   ·
    go_wp2_with fail
    refine (l1From_any K0 k a0 len cap _ _ _ (hc.below (hB.below hkk hN0)) hkk (Nat.le_trans hN0 hB.size) hcur (by omega) (by omega) (by omega)).mono ?_
    rintro e w5 ⟨v, hv, rfl, hb1, hcur1⟩
    clear k4 f4
    replace hz := hb1.box hz (by omega)
    replace hx := hb1.box hx (by omega)
    replace hR := hR.keep (.but hb1 (.inl (by omega)) (by omega))
    replace hB := hB.trans hb1
    have hs_ := hb1.size
    clear hb1 hcur
    have hcur := hcur1
    clear hcur1
    have k4 := hx.cell
    have f4 := hx.frozen
    go_wp2
    go_meet
    exact ⟨{ s with la := v }, some ⟨b, 0, none⟩, n, c, hB.setNew (by omega) _ _, hcur.sn, hz.sn, by simpa using hx.set 4 (.int .i64 v), ((hR.w HL.out).st (.inr (Nat.le_refl _)) _ _).cut, ⟨by omega, by omega⟩, HP8.out⟩
   ·
    go_upto_region 13 with fail
    clear k4 f4
    obtain ⟨M2, hMe⟩ : ∃ M2, M2 = w4.heap.size := ⟨_, rfl⟩
    have hM2 : M2 ≤ w4.heap.size := by omega
    have hXM : X < M2 := by have := hx.lt; omega
    clear hMe
    refine wp_region2v (fun w w' => But k w w') (fun _ _ h => h.size) (fun _ => But.refl _ _) (fun L W' => But k w W' ∧ CurAt W' k a0 len cap ∧ BoxAt W' w.heap.size #[.int .i64 0, .int .i64 0, .slice none 0 0, .int .i64 0, .int .i64 0] 28 ∧ BoxAt W' X #[.int .i64 s.rd, .int .i64 s.mo, .slice (some ⟨b, 0, none⟩) n c, .int .i64 s.fi, .int .i64 s.la] 28 ∧ M2 ≤ W'.heap.size ∧ (L 5 = false → RgsL (w.heap.size + 1) X W' b n c rows s.rs)) (dsAV s w.heap.size X M2 k b n c rows) (fun j => [0, 0, 0, 0, 0, 1].getD j 0) [] (by kernel_rfl) (by kernel_rfl) ?_ ?_ ?_
     (.still rfl ?a0 <| .still rfl ?a1 <| .still rfl ?a2 <| .grow rfl ?a3 <| .still rfl ?a4 <| .store rfl ?a5 <| .nil) ?_ ?_
    · exact ⟨fun _ _ _ h ⟨q3, p3, n3, c3, e, hp⟩ => ⟨q3, p3, n3, c3, (h 3 (List.mem_singleton.2 rfl)).symm.trans e, hp⟩, fun _ _ _ _ h => h, trivial⟩
    · exact ⟨fun σ w w' hb ⟨q3, p3, n3, c3, e, hp⟩ => ⟨q3, p3, n3, c3, e, ⟨Own.keep hp.1 (hb.block p3 (Own.lt hp.1) (by have := hp.1.2.1; omega)), hp.2⟩⟩, fun σ w w' hb ⟨q3, p3, n3, c3, hp⟩ => ⟨q3, p3, n3, c3, (hp.1.keep (.but hb (.inl (by omega)) (Nat.le_refl _))).mono (Nat.le_refl _) hb.size, hp.2⟩, trivial⟩
    · exact ⟨hB.drew, hcur, hz, hx, hM2, fun _ => hR⟩
    case a0 | a2 =>
     go_light
     intro L σ W' hcl hL hC hw
     clear hw hcl hL hC
     refine OpGoes.go fun K hK => ?_
     go_simp
     exact hK _ _ ⟨rfl, rfl⟩
    case a1 =>
     go_light
     intro L σ W' hcl hL hC hw
     have e0 := wV hw 0 rfl
     have kx := hC.2.2.2.1.cell
     clear hw hcl hL hC
     refine OpGoes.go fun K hK => ?_
     go_simp
     exact hK _ _ ⟨rfl, rfl⟩
    case a3 =>
     go_light
     intro L σ W' hcl hL hC hw
     have e2 := wV hw 2 rfl
     clear hw
     have HC := Lib.hid hC
     clear hC
     clear hcl hL
     refine OpGoes.go fun K hK => ?_
     go_simp
     obtain ⟨hB, hcur, hz, hx, hM2, hR⟩ := HC.out
     refine (l2DrawAny_any K0 k a0 len cap _ (hc.below (hB.below hkk hN0)) hkk (Nat.le_trans hN0 hB.size) hcur).mono ?_
     rintro e w1 ⟨h_, t_, c_, x_, pb, n3, c3, l_, rfl, hpo, hn8, hb1, hcur1⟩
     exact ⟨_, rfl, hK _ _ ⟨⟨hB.trans hb1, hcur1, hb1.box hz (by omega), hb1.box hx (by omega), Nat.le_trans hM2 hb1.size, fun h => (hR (by simpa [upd] using h)).keep (.but hb1 (.inl (by omega)) (by omega))⟩, ⟨⟨h_, t_, c_, x_, l_⟩, pb, n3, c3, rfl, Own.mono hpo hM2, hn8⟩, hb1⟩⟩
    case a4 =>
     go_light
     intro L σ W' hcl hL hC hw
     have e1 := wV hw 1 rfl
     have q1 : 0 < n := by omega
     clear hw hcl hL hC
     refine OpGoes.go fun K hK => ?_
     go_simp
     exact hK _ _ ⟨rfl, rfl⟩
    case a5 =>
     go_light
     intro L σ W' hcl hL hC hw hne
     obtain ⟨q3, p3, n3, c3, e3, hp3⟩ := wE hw 3 rfl
     have e4 := wV hw 4 rfl
     clear hw hne
     obtain ⟨hB, hcur, hz, hx, hM2, hR⟩ := hC
     have hq := (hR hL)
     obtain ⟨r0, hr0⟩ : ∃ r0, rows[0]? = some r0 := ⟨_, List.getElem?_eq_getElem (by have := hq.1.1; omega)⟩
     have d0 := Own.cell_ Rw.cs_len hq.1 (j := 0) hr0 rfl
     have d1 := Own.cell_ Rw.cs_len hq.1 (j := 1) hr0 rfl
     have d2 := Own.cell_ Rw.cs_len hq.1 (j := 2) hr0 rfl
     have d3 := Own.cell_ Rw.cs_len hq.1 (j := 3) hr0 rfl
     have d4 := Own.cell_ Rw.cs_len hq.1 (j := 4) hr0 rfl
     rw [Nat.zero_mul, Nat.zero_add] at d0 d1 d2 d3 d4
     have df := Own.frozen_ hq.1
     have HB_ := Lib.hid hB
     have HC_ := Lib.hid hcur
     have HZ_ := Lib.hid hz
     have HX_ := Lib.hid hx
     have HQ_ := Lib.hid hq
     have HP_ := Lib.hid hp3
     have HM_ := Lib.hid hM2
     have hbl := hq.1.2.1
     have hbx := hq.2.2
     clear hB hcur hz hx hR hq hr0 hp3 hM2
     clear hcl hL
     refine OpGoes.go fun K hK => ?_
     go_simp
     have hset := put_first HQ_.out HP_.out.1 HL.out (by have := HM_.out; omega)
     have hql : q3.ps.length ≤ 8 := by have := HP_.out.1.1; have := HP_.out.2; omega
     refine hK _ _ ⟨⟨(((((HB_.out.setNew (by omega) _ _).setNew (by omega) _ _).setNew (by omega) _ _).setNew (by omega) _ _).setNew (by omega) _ _), (((((HC_.out.sn).sn).sn).sn).sn), (((((HZ_.out.sn).sn).sn).sn).sn), (((((HX_.out.sn).sn).sn).sn).sn), by simpa using HM_.out, fun h => absurd h (by simp [upd])⟩, ⟨q3, p3, n3, c3, hset, hql⟩, by simp, fun j hj hn hR => ?_⟩
     refine keepV ?_ j hj hn hR
     exact ⟨fun _ _ ⟨q3, p3, n3, c3, e, hp⟩ => ⟨q3, p3, n3, c3, e, ⟨(((((hp.1.set_ne (by have := hp.1.2.1; omega) _ _).set_ne (by have := hp.1.2.1; omega) _ _).set_ne (by have := hp.1.2.1; omega) _ _).set_ne (by have := hp.1.2.1; omega) _ _).set_ne (by have := hp.1.2.1; omega) _ _), hp.2⟩⟩, fun h => absurd rfl h, trivial⟩
    ·
     intro L L' W' hLL hC
     obtain ⟨hB, hcur, hz, hx, hM2, hR⟩ := hC
     exact ⟨hB, hcur, hz, hx, hM2, fun h => hR (hLL _ h)⟩
    ·
     intro σ L W' hall hC hRR
     obtain ⟨hB, hcur, hz, hx, hM2, hR⟩ := hC
     obtain ⟨q3, p3, n3, c3, hset, hql⟩ := dE hRR 5 rfl
     clear hRR
     simp only [lexAll]
     go_simp
     go_step
     go_meet
     exact ⟨{ s with rs := s.rs.set 0 q3 }, some ⟨b, 0, none⟩, n, c, hB, hcur, hz, hx, hset, ⟨by omega, by omega⟩, fun r hr => by rcases List.mem_or_eq_of_mem_set hr with h | rfl; exact HP8.out r h; exact hql⟩
   ·
    go_upto_region 15 with fail
    clear k4 f4
    obtain ⟨M2, hMe⟩ : ∃ M2, M2 = w4.heap.size := ⟨_, rfl⟩
    have hM2 : M2 ≤ w4.heap.size := by omega
    have hXM : X < M2 := by have := hx.lt; omega
    have hrl := hR.1.1
    have hA := hR.2.1
    have hO := hR.1.own Rw.cs_len
    have hbl := hR.1.2.1
    clear hMe hR
    refine wp_region2v (fun w w' => But k w w') (fun _ _ h => h.size) (fun _ => But.refl _ _) (fun L W' => But k w W' ∧ CurAt W' k a0 len cap ∧ BoxAt W' w.heap.size #[.int .i64 0, .int .i64 0, .slice none 0 0, .int .i64 0, .int .i64 0] 28 ∧ M2 ≤ W'.heap.size ∧ AllIs (w.heap.size + 1) X W' rows s.rs ∧ (L 5 = false → W'.ownsRow (w.heap.size + 1) 42 5 (.slice (some ⟨b, 0, none⟩) n c) n (rows.flatMap Rw.cs)) ∧ (∃ x0, BoxAt W' X #[.int .i64 s.rd, .int .i64 s.mo, x0, .int .i64 s.fi, .int .i64 s.la] 28) ∧ (L 7 = false → BoxAt W' X #[.int .i64 s.rd, .int .i64 s.mo, .slice (some ⟨b, 0, none⟩) n c, .int .i64 s.fi, .int .i64 s.la] 28)) (dsBV s w.heap.size X M2 k b n c rows) (fun j => [0, 0, 0, 0, 0, 1, 0, 1].getD j 0) [] (by kernel_rfl) (by kernel_rfl) ?_ ?_ ?_
     (.still rfl ?a0 <| .still rfl ?a1 <| .still rfl ?a2 <| .grow rfl ?a3 <| .grow rfl ?a4 <| .store rfl ?a5 <| .still rfl ?a6 <| .store rfl ?a7 <| .nil) ?_ ?_
    · exact ⟨fun _ _ _ h ⟨q3, p3, n3, c3, e, hp⟩ => ⟨q3, p3, n3, c3, (h 3 (List.mem_singleton.2 rfl)).symm.trans e, hp⟩, fun _ _ _ h ⟨q3, p3, n3, c3, g2, e, hp⟩ => ⟨q3, p3, n3, c3, g2, (h 4 (List.mem_singleton.2 rfl)).symm.trans e, hp⟩, fun _ _ _ h ⟨bb, cc, q3, p3, n3, c3, e, hp⟩ => ⟨bb, cc, q3, p3, n3, c3, (h 5 (List.mem_singleton.2 rfl)).symm.trans e, hp⟩, fun _ _ _ _ h => h, trivial⟩
    · exact ⟨fun σ w w' hb ⟨q3, p3, n3, c3, e, hp⟩ => ⟨q3, p3, n3, c3, e, ⟨Own.keep hp.1 (hb.block p3 (Own.lt hp.1) (by have := hp.1.2.1; omega)), hp.2⟩⟩, fun σ w w' hb ⟨q3, p3, n3, c3, g2, e, hp⟩ => ⟨q3, p3, n3, c3, g2, e, ⟨hb.box hp.1 (by have := hp.2.1; omega), hp.2.1, Own.keep hp.2.2.1 (hb.block p3 (Own.lt hp.2.2.1) (by have := hp.2.2.1.2.1; omega)), hp.2.2.2⟩⟩, fun σ w w' hb ⟨bb, cc, q3, p3, n3, c3, e, hp⟩ => ⟨bb, cc, q3, p3, n3, c3, e, ⟨own_but hp.1 hb (by omega), Own.keep hp.2.1 (hb.block p3 (Own.lt hp.2.1) (by have := hp.2.1.2.1; omega)), hp.2.2⟩⟩, fun σ w w' hb ⟨bb, cc, q3, p3, n3, c3, hx, hp⟩ => ⟨bb, cc, q3, p3, n3, c3, hb.box hx (by omega), ⟨own_but hp.1 hb (by omega), Own.keep hp.2.1 (hb.block p3 (Own.lt hp.2.1) (by have := hp.2.1.2.1; omega)), hp.2.2⟩⟩, trivial⟩
    · exact ⟨hB.drew, hcur, hz, hM2, hA, fun _ => hO, ⟨_, hx⟩, fun _ => hx⟩
    case a0 | a2 | a6 =>
     go_light
     intro L σ W' hcl hL hC hw
     clear hw hcl hL hC
     refine OpGoes.go fun K hK => ?_
     go_simp
     exact hK _ _ ⟨rfl, rfl⟩
    case a1 =>
     go_light
     intro L σ W' hcl hL hC hw
     have e0 := wV hw 0 rfl
     have kx := (hC.2.2.2.2.2.2.2 (hcl.not (j := 7) (k := 5) (by kernel_rfl) (hcl.not (j := 5) (k := 1) (by kernel_rfl) hL))).cell
     clear hw hcl hL hC
     refine OpGoes.go fun K hK => ?_
     go_simp
     exact hK _ _ ⟨rfl, rfl⟩
    case a3 =>
     go_light
     intro L σ W' hcl hL hC hw
     have e2 := wV hw 2 rfl
     clear hw
     have HC := Lib.hid hC
     clear hC
     clear hcl hL
     refine OpGoes.go fun K hK => ?_
     go_simp
     obtain ⟨hB, hcur, hz, hM2, hA, hO, ⟨_, hx⟩, hx_o⟩ := HC.out
     refine (l2DrawAny_any K0 k a0 len cap _ (hc.below (hB.below hkk hN0)) hkk (Nat.le_trans hN0 hB.size) hcur).mono ?_
     rintro e w1 ⟨h_, t_, c_, x_, pb, n3, c3, l_, rfl, hpo, hn8, hb1, hcur1⟩
     exact ⟨_, rfl, hK _ _ ⟨⟨hB.trans hb1, hcur1, hb1.box hz (by omega), Nat.le_trans hM2 hb1.size, AllIs.keepS hA (.but hb1 (.inl (by omega)) (by omega)), fun h => own_but (hO (by simpa [upd] using h)) hb1 (by omega), ⟨_, hb1.box hx (by omega)⟩, fun h => hb1.box (hx_o (by simpa [upd] using h)) (by omega)⟩, ⟨⟨h_, t_, c_, x_, l_⟩, pb, n3, c3, rfl, Own.mono hpo hM2, hn8⟩, hb1⟩⟩
    case a4 =>
     go_light
     intro L σ W' hcl hL hC hw
     obtain ⟨q3, p3, n3, c3, e3, hp3⟩ := wE hw 3 rfl
     clear hw
     have HC := Lib.hid hC
     clear hC
     clear hcl hL
     refine OpGoes.go fun K hK => ?_
     go_simp
     obtain ⟨hB, hcur, hz, hM2, hA, hO, ⟨_, hx⟩, hx_o⟩ := HC.out
     have hb1 : Below W'.heap.size W' (W'.alloc (.cells #[.int .i64 q3.h, .int .i64 q3.t, .bool q3.c, .int .i64 q3.x, .slice (some ⟨p3, 0, none⟩) n3 c3] 42)) := (Below.refl _ _).alloc (Nat.le_refl _) _
     exact hK _ _ ⟨⟨hB.trans (But.of_below hb1), hcur.belowC hb1, hz.below hb1 hz.lt, Nat.le_trans hM2 hb1.size, AllIs.keepS hA (.below hb1 (by omega)), fun h => own_keep (hO (by simpa [upd] using h)) hb1, ⟨_, hx.below hb1 hx.lt⟩, fun h => (hx_o (by simpa [upd] using h)).below hb1 (hx_o (by simpa [upd] using h)).lt⟩, ⟨q3, p3, n3, c3, W'.heap.size, rfl, BoxAt.new _ _ _, hM2, hp3.1.al _, hp3.2⟩, But.of_below hb1⟩
    case a5 =>
     go_light
     intro L σ W' hcl hL hC hw hne
     have e1 := wV hw 1 rfl
     obtain ⟨q3, p3, n3, c3, g2, e4, hp4⟩ := wE hw 4 rfl
     clear hw hne
     obtain ⟨hB, hcur, hz, hM2, hA, hO, ⟨_, hx⟩, hx_o⟩ := hC
     have hO9 := (hO hL)
     have ll := hO9.lt b rfl
     clear hcl hL
     refine OpGoes.append_own rfl (.tmp 40) (.tmp 43) _ rfl (w.heap.size + 1) 42 i0 _ 5 56 Tryz.underlying26 HI.out HZ0.out HZ1.out HZ2.out rfl (by omega) (.slice (some ⟨b, 0, none⟩) n c) n _ (by go_simp) hO9 ⟨g2, 0, none⟩ 1 1 [.int .i64 q3.h, .int .i64 q3.t, .bool q3.c, .int .i64 q3.x, .slice (some ⟨p3, 0, none⟩) n3 c3] (by go_simp) rfl (news_box hp4.1) (by intro u hu; simp at hu; rcases hu with rfl | rfl | rfl | rfl | rfl <;> rfl) (by unfold maxLen; omega) (by omega) (by omega) ?_
     intro v' w' hO' hg hat
     obtain ⟨bb, cc, rfl, hP'⟩ := Own.of_row (f := Rw.cs) (l := rows ++ [(⟨q3.h, q3.t, q3.c, q3.x, some ⟨p3, 0, none⟩, n3, c3⟩ : Rw)]) (n := n + 1) (by rw [List.flatMap_append]; exact hO') (by simp [hrl]) (by omega)
     have hbb : bb = b ∨ M2 ≤ bb := by
      rcases hat with e | e
      · have := own_blk (e.symm.trans rfl : (Value.slice (some ⟨b, 0, none⟩) n c).ownBlock = some bb); omega
      · have := own_blk (n := n + 1) (c := cc) e; omega
     refine ⟨⟨hB.grown hg (fun k hk => by have := own_blk hk; omega), hcur.grown hg (fun e => by have := own_blk e; omega), hz.grown hg (fun k hk => by have := own_blk hk; omega), Nat.le_trans hM2 hg.size, AllIs.grown hA hO9 hg, fun h => absurd h (by simp [upd]), ⟨_, hx.grown2 hg (fun e => by have := own_blk e; omega)⟩, fun h => (hx_o (by simpa [upd] using h)).grown2 hg (fun e => by have := own_blk e; omega)⟩, ⟨bb, cc, q3, p3, n3, c3, rfl, hP'.own Rw.cs_len, hp4.2.2.1.grown hg (by intro e; have := own_blk e.symm; have := hp4.2.2.1.2.1; omega), hbb, hp4.2.2.2⟩, hg.size, fun j hj hn hR => ?_⟩
     refine keepV ?_ j hj hn hR
     exact ⟨fun _ _ ⟨q3, p3, n3, c3, e, hp⟩ => ⟨q3, p3, n3, c3, e, ⟨hp.1.grown hg (by intro e; have := own_blk e.symm; have := hp.1.2.1; omega), hp.2⟩⟩, fun _ _ ⟨q3, p3, n3, c3, g2, e, hp⟩ => ⟨q3, p3, n3, c3, g2, e, ⟨hp.1.grown2 hg (fun e => by have := own_blk e; have := hp.2.1; omega), hp.2.1, hp.2.2.1.grown hg (by intro e; have := own_blk e.symm; have := hp.2.2.1.2.1; omega), hp.2.2.2⟩⟩, fun h => absurd rfl h, fun _ h => absurd (h.symm.trans (show waits _ _ _ = true by kernel_rfl)) (by decide), trivial⟩
    case a7 =>
     go_light
     intro L σ W' hcl hL hC hw hne
     obtain ⟨bb, cc, q3, p3, n3, c3, e5, hp5⟩ := wE hw 5 rfl
     have e6 := wV hw 6 rfl
     clear hw hne
     have HC := Lib.hid hC
     obtain ⟨hB, hcur, hz, hM2, hA, hO, ⟨_, hx⟩, hx_o⟩ := hC
     clear hcl hL
     have kc_ := hx.cell
     have kf_ := hx.frozen
     clear hB hcur hz hM2 hA hO hx hx_o
     refine OpGoes.go fun K hK => ?_
     go_simp
     obtain ⟨hB, hcur, hz, hM2, hA, hO, ⟨_, hx⟩, hx_o⟩ := HC.out
     have hset := (hx.set 2 (.slice (some ⟨bb, 0, none⟩) (n + 1) cc))
     simp only [List.setIfInBounds_toArray, List.set_cons_zero, List.set_cons_succ] at hset
     refine hK _ _ ⟨⟨(hB.setNew (by omega) _ _), (hcur.sn), (hz.sn), (size_st hM2), (AllIs.keepS hA (.set (.inr (Nat.le_refl _)) _ _)), fun h => (own_st (hO (by simpa [upd] using h)) (by omega) _ _), ⟨_, hset⟩, fun h => absurd h (by simp [upd])⟩, ⟨bb, cc, q3, p3, n3, c3, hset, (⟨own_st hp5.1 (by have := hp5.2.2.1; omega) _ _, hp5.2.1.set_ne (by have := hp5.2.1.2.1; omega) _ _, hp5.2.2⟩)⟩, by simp, keepV ?_⟩
     exact ⟨fun _ _ ⟨q3_x, p3_x, n3_x, c3_x, e, hp⟩ => ⟨q3_x, p3_x, n3_x, c3_x, e, (⟨hp.1.set_ne (by have := hp.1.2.1; omega) _ _, hp.2⟩)⟩, fun _ _ ⟨q3_x, p3_x, n3_x, c3_x, g2_x, e, hp⟩ => ⟨q3_x, p3_x, n3_x, c3_x, g2_x, e, (⟨hp.1.set_ne (by have := hp.2.1; omega) _ _, hp.2.1, hp.2.2.1.set_ne (by have := hp.2.2.1.2.1; omega) _ _, hp.2.2.2⟩)⟩, fun _ _ ⟨bb_x, cc_x, q3_x, p3_x, n3_x, c3_x, e, hp⟩ => ⟨bb_x, cc_x, q3_x, p3_x, n3_x, c3_x, e, (⟨own_st hp.1 (by have := hp.2.2.1; omega) _ _, hp.2.1.set_ne (by have := hp.2.1.2.1; omega) _ _, hp.2.2⟩)⟩, fun h => absurd rfl h, trivial⟩
    ·
     intro L L' W' hLL hC
     obtain ⟨hB, hcur, hz, hM2, hA, hO, ⟨_, hx⟩, hx_o⟩ := hC
     exact ⟨hB, hcur, hz, hM2, hA, fun h => hO (hLL _ h), ⟨_, hx⟩, fun h => hx_o (hLL _ h)⟩
    ·
     intro σ L W' hall hC hRR
     obtain ⟨hB, hcur, hz, hM2, hA, hO, ⟨_, hx⟩, hx_o⟩ := hC
     obtain ⟨bb, cc, q3, p3, n3, c3, s7, hp7⟩ := dE hRR 7 rfl
     clear hRR
     simp only [lexAll]
     go_simp
     go_step
     go_meet
     exact ⟨{ s with rs := s.rs ++ [q3] }, some ⟨bb, 0, none⟩, n + 1, cc, hB, hcur, hz, s7, snoc_rgs (Own.of_own hp7.1 (by simp [hrl])) hA HL.out hrl hp7.2.1 (by omega), ⟨by omega, by omega⟩, fun r hr => by
      rcases List.mem_append.1 hr with h | h
      · exact HP8.out r h
      ·
       simp only [List.mem_singleton] at h
       subst h
       have := hp7.2.1.1
       omega⟩
 case rest =>
  clear hB hcur hz hx hR
  obtain ⟨s2, A2, n2, c2, hB, hcur, hz, hx, hR, hn2, hp8⟩ := hcut
  have kz := hz.cell
  have fz := hz.frozen
  have k4 := hx.cell
  have HP := Lib.hid hp8; clear hp8
  go_wp2
  refine bodyPost_ret (v := stV s2 A2 n2 c2) (by simp [results, Tryz.results35, go_sem, kz, stV]) rfl ⟨s2, A2, n2, c2, rfl, ?_, hn2, HP.out, ?_, ?_⟩
  rotate_left
  · exact But.setsNew hB (by omega) [.int .i64 s2.rd, .int .i64 s2.mo, .slice A2 n2 c2, .int .i64 s2.fi, .int .i64 s2.la] 0
  · exact CurAt.sets hcur (by omega) [.int .i64 s2.rd, .int .i64 s2.mo, .slice A2 n2 c2, .int .i64 s2.fi, .int .i64 s2.la] 0
  exact (RgsW.sts hR (.inl (by omega)) [.int .i64 s2.rd, .int .i64 s2.mo, .slice A2 n2 c2, .int .i64 s2.fi, .int .i64 s2.la] 0).mono (by omega) (by simp)


/-- A store is drawn; old memory is as it was. -/
def DrawnS (w : World) (e : Ending) (w' : World) : Prop := ∃ (s : St) (A : Option Addr) (n c : Nat), e = .returned (stV s A n c) ∧ RgsW w.heap.size w'.heap.size w' A n c s.rs ∧ (1 ≤ n ∧ n ≤ 17) ∧ (∀ r ∈ s.rs, r.ps.length ≤ 8) ∧ Below w.heap.size w w'
def DrawnNM (w : World) (e : Ending) (w' : World) : Prop := ∃ n m : Int, e = .returned (.tuple #[.int .i64 n, .int .i64 m]) ∧ Below w.heap.size w w'

set_option maxRecDepth 100000 in
set_option maxHeartbeats 1000000 in
theorem drawNewStore_any (a0 : Option Addr) (len cap : Nat) (w : World) (hc : CodeOk w.heap.size w a0 len) :
  Calls Tryz.prog 5 #[.slice a0 len cap] w (DrawnNM w) := by
 go_enter Tryz.func5, Tryz.ntmps5
 go_wp2_with fail
 refine (l1New_any w.heap.size a0 len cap _ hc).mono ?_
 rintro e w1 ⟨h0, rfl, rfl⟩
 go_wp2_with fail
 refine calls_abs (fun W => Below w.heap.size w W ∧ CurAt W w.heap.size a0 len cap) ⟨(Below.refl _ _).alloc (Nat.le_refl _) _, 0, h0, Nat.zero_le _, BoxAt.new _ _ _⟩ ?_
 rintro W1 ⟨hB, hcur⟩
 refine (l1From_any w.heap.size w.heap.size a0 len cap _ _ _ (hc.below hB) (Nat.le_refl _) hB.size hcur (by omega) (by omega) (by omega)).mono ?_
 rintro e w2 ⟨n, hn, rfl, hb1, hcur1⟩
 replace hB := hB.trans (hb1.below (Nat.le_refl _) hB.size)
 clear hb1 hcur
 go_wp2_with fail
 refine (l1From_any w.heap.size w.heap.size a0 len cap _ _ _ (hc.below hB) (Nat.le_refl _) hB.size hcur1 (by omega) (by omega) (by omega)).mono ?_
 rintro e w3 ⟨m, hm, rfl, hb1, hcur⟩
 replace hB := hB.trans (hb1.below (Nat.le_refl _) hB.size)
 clear hb1 hcur1
 go_wp2
 exact bodyPost_ret (v := .tuple #[.int .i64 n, .int .i64 m]) (by simp [results, Tryz.results5, go_sem]) rfl ⟨n, m, rfl, hB⟩

set_option maxRecDepth 100000 in
set_option maxHeartbeats 1000000 in
theorem drawStoreOk_any (a0 : Option Addr) (len cap : Nat) (w : World) (hc : CodeOk w.heap.size w a0 len) :
  Calls Tryz.prog 21 #[.slice a0 len cap] w (DrawnS w) := by
 go_enter Tryz.func21, Tryz.ntmps21
 go_wp2_with fail
 refine calls_abs (fun W => Below w.heap.size w W ∧ BoxAt W w.heap.size #[.int .i64 0, .int .i64 0, .slice none 0 0, .int .i64 0, .int .i64 0] 28) ⟨(Below.refl _ _).alloc (Nat.le_refl _) _, BoxAt.new _ _ _⟩ ?_
 rintro W0 ⟨hB, hz⟩
 have lz := hz.lt
 refine (l1New_any w.heap.size a0 len cap _ (hc.below hB)).mono ?_
 rintro e w1 ⟨h0, rfl, rfl⟩
 go_wp2_with fail
 generalize hk : W0.heap.size = k at *
 refine calls_abs (fun W => Below w.heap.size w W ∧ BoxAt W w.heap.size #[.int .i64 0, .int .i64 0, .slice none 0 0, .int .i64 0, .int .i64 0] 28 ∧ CurAt W k a0 len cap) ⟨hB.alloc hB.size _, hz.alloc _, 0, h0, Nat.zero_le _, by rw [← hk]; exact BoxAt.new _ _ _⟩ ?_
 clear hB hz
 rintro W1 ⟨hB, hz, hcur⟩
 have lk := hcur.lt
 refine (l3DrawAny_any w.heap.size k a0 len cap _ (hc.below hB) (by omega) hB.size hcur).mono ?_
 rintro e w2 ⟨s, A, n, c, rfl, hR, hn, hp8, hb1, hcur1⟩
 have HP := Lib.hid hp8; clear hp8
 have l2 := hb1.size
 replace hz := hb1.box hz (by omega)
 replace hB := hB.trans (hb1.below (by omega) hB.size)
 clear hb1 hcur hcur1
 unfold stV
 have kz := hz.cell
 have fz := hz.frozen
 go_wp2
 refine bodyPost_ret (v := stV s A n c) (by simp [results, Tryz.results21, go_sem, kz, stV]) rfl ⟨s, A, n, c, rfl, ?_, hn, HP.out, ?_⟩
 · exact (RgsW.sts hR (.inl (by omega)) [.int .i64 s.rd, .int .i64 s.mo, .slice A n c, .int .i64 s.fi, .int .i64 s.la] 0).mono (by omega) (by simp)
 · exact Below.setCells (by omega) [.int .i64 s.rd, .int .i64 s.mo, .slice A n c, .int .i64 s.fi, .int .i64 s.la] 0 hB

set_option maxRecDepth 100000 in
set_option maxHeartbeats 1000000 in
theorem drawChainOf_any (a0 : Option Addr) (len cap : Nat) (w : World) (hc : CodeOk w.heap.size w a0 len) :
  Calls Tryz.prog 7 #[.slice a0 len cap] w (DrawnS w) := by
 go_enter Tryz.func7, Tryz.ntmps7
 go_wp2_with fail
 refine calls_abs (fun W => Below w.heap.size w W ∧ BoxAt W w.heap.size #[.int .i64 0, .int .i64 0, .slice none 0 0, .int .i64 0, .int .i64 0] 28) ⟨(Below.refl _ _).alloc (Nat.le_refl _) _, BoxAt.new _ _ _⟩ ?_
 rintro W0 ⟨hB, hz⟩
 have lz := hz.lt
 refine (drawStoreOk_any a0 len cap _ ((hc.below hB).le hB.size)).mono ?_
 rintro e w2 ⟨s, A, n, c, rfl, hR, hn, hp8, hb1⟩
 have HP := Lib.hid hp8; clear hp8
 replace hz := hz.below hb1 hz.lt
 have l2 := hb1.size
 replace hB := bstep hB hB.size hb1
 clear hb1
 unfold stV
 have kz := hz.cell
 have fz := hz.frozen
 go_wp2
 refine bodyPost_ret (v := stV s A n c) (by simp [results, Tryz.results7, go_sem, kz, stV]) rfl ⟨s, A, n, c, rfl, ?_, hn, HP.out, ?_⟩
 · exact (RgsW.sts hR (.inl (by omega)) [.int .i64 s.rd, .int .i64 s.mo, .slice A n c, .int .i64 s.fi, .int .i64 s.la] 0).mono (by omega) (by simp)
 · exact Below.setCells (by omega) [.int .i64 s.rd, .int .i64 s.mo, .slice A n c, .int .i64 s.fi, .int .i64 s.la] 0 hB

end Go.Proofs.YtibmbanbaopeiaaGreat


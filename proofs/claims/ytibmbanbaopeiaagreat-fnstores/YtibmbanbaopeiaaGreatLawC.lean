/-
 Stores as the laws read, measure and compare them.
-/
import Derived.Test.YtibmbanbaopeiaaGreatStoreA
namespace Go.Proofs.YtibmbanbaopeiaaGreat
set_option linter.unusedSimpArgs false
set_option linter.unusedVariables false
open Go.RowKit
attribute [local go_sem ↓] Go.wp_at_zero Go.wp_at_succ

/-- A ring's five cells, from an offset on, to be read. -/
def RgE (N : Nat) (w : World) (b o : Nat) (r : Rg) : Prop :=
 ∃ A n cap, w.cell? ⟨b, o, none⟩ = some (.int .i64 r.h) ∧ w.cell? ⟨b, o + 1, none⟩ = some (.int .i64 r.t) ∧ w.cell? ⟨b, o + 2, none⟩ = some (.bool r.c) ∧ w.cell? ⟨b, o + 3, none⟩ = some (.int .i64 r.x) ∧
  w.cell? ⟨b, o + 4, none⟩ = some (.slice A n cap) ∧ n ≤ maxLen ∧ PlsR N w A n r.ps
theorem RgE.kept : Kept RgE := fun _ _ _ _ _ _ hb hs ⟨A, n, cap, h0, h1, h2, h3, h4, hm, hp⟩ =>
 ⟨A, n, cap, hs.cell hb h0, hs.cell hb h1, hs.cell hb h2, hs.cell hb h3, hs.cell hb h4, hm, SlE.keep PlE.kept hp hs⟩

/-- Rings in a slice, to be read. -/
def RgsR (N : Nat) (w : World) (A : Option Addr) (n : Nat) (L : List Rg) : Prop := SlE RgE 5 N w A n L
theorem RgsR.below {N : Nat} {w w' : World} {A : Option Addr} {n : Nat} {L : List Rg} (h : RgsR N w A n L) (hb : Below w.heap.size w w') : RgsR N w' A n L := SlE.below RgE.kept h hb

theorem PlsW.le {lo hi : Nat} {w : World} {A : Option Addr} {n cap : Nat} {l : List Pl} (h : PlsW lo hi w A n cap l) : n ≤ maxLen := by
 rcases Nat.eq_zero_or_pos n with h0 | h0
 · omega
 ·
  obtain ⟨b, _, _, ho⟩ := h.2 h0
  exact Nat.le_trans ho.2.2.1 ho.2.2.2.1

theorem RgsW.r {lo hi : Nat} {w : World} {A : Option Addr} {n cap : Nat} {L : List Rg} (h : RgsW lo hi w A n cap L) : RgsR 0 w A n L :=
 ⟨h.1, fun hn => by
  obtain ⟨b, _, e, _⟩ := h.2 hn
  refine ⟨b, 0, e, Nat.zero_le _, fun i x hx => ?_⟩
  have hi : i < n := by have := (List.getElem?_eq_some_iff.1 hx).1; have := h.1; omega
  obtain ⟨b', r, A', n', cap', e', _, _, hr, d0, d1, d2, d3, d4, hp⟩ := h.at_ hi
  rw [e] at e'
  injection e' with e'
  injection e' with e'
  subst e'
  obtain rfl : r = x := by rw [hr] at hx; injection hx
  rw [Nat.zero_add]
  exact ⟨A', n', cap', d0, d1, d2, d3, d4, hp.le, hp.r⟩⟩
theorem RgsW.le {lo hi : Nat} {w : World} {A : Option Addr} {n cap : Nat} {L : List Rg} (h : RgsW lo hi w A n cap L) : n ≤ maxLen := by
 rcases Nat.eq_zero_or_pos n with h0 | h0
 · omega
 ·
  obtain ⟨b, _, _, _, ho, _⟩ := h.2 h0
  exact Nat.le_trans ho.2.2.1 ho.2.2.2.1

/-! ### How much a store holds -/

def sumPs : List Rg → Nat
 | [] => 0
 | r :: L => r.ps.length + sumPs L
def szRs (left : Int) : List Rg → Int
 | [] => left
 | r :: L => if (r.ps.length : Int) ≤ left then szRs (left - r.ps.length) L else -1
def szL (left : Int) (L : List Rg) : Int := if (L.length : Int) ≤ left then szRs (left - L.length) L else -1
theorem szRs_or : ∀ (L : List Rg) (left : Int), 0 ≤ left → szRs left L = -1 ∨ (0 ≤ szRs left L ∧ szRs left L ≤ left ∧ (sumPs L : Int) ≤ left)
 | [], left, h => .inr ⟨h, Int.le_refl _, by simpa [sumPs] using h⟩
 | r :: L, left, h => by
  unfold szRs
  split
  ·
   rcases szRs_or L (left - r.ps.length) (by omega) with h1 | ⟨h1, h2, h3⟩
   · exact .inl h1
   · exact .inr ⟨h1, by omega, by simp only [sumPs]; omega⟩
  · exact .inl rfl
theorem szL_or {left : Int} (L : List Rg) (h : 0 ≤ left) : szL left L = -1 ∨ (0 ≤ szL left L ∧ szL left L ≤ left ∧ (sumPs L : Int) + L.length ≤ left) := by
 unfold szL
 split
 ·
  rcases szRs_or L (left - L.length) (by omega) with h1 | ⟨h1, h2, h3⟩
  · exact .inl h1
  · exact .inr ⟨h1, by omega, by omega⟩
 · exact .inl rfl
theorem sumPs_mem : ∀ {L : List Rg} {r : Rg}, r ∈ L → r.ps.length ≤ sumPs L
 | r' :: L, r, h => by
  rcases List.mem_cons.1 h with rfl | h
  · simp [sumPs]
  ·
   have := sumPs_mem h
   simp only [sumPs]; omega
theorem szRs_drop {L : List Rg} {i : Nat} {r : Rg} (h : L[i]? = some r) (left : Int) : szRs left (L.drop i) = if (r.ps.length : Int) ≤ left then szRs (left - r.ps.length) (L.drop (i + 1)) else -1 := by
 obtain ⟨hi, e⟩ := List.getElem?_eq_some_iff.1 h
 rw [List.drop_eq_getElem_cons hi, e]
 rfl

/-! ### Two that hold the same -/

end Go.Proofs.YtibmbanbaopeiaaGreat

/-
 Stores as the laws copy and mark them: rings of the call's own, no two of which share their places.
-/
namespace Go.Proofs.YtibmbanbaopeiaaGreat
set_option linter.unusedSimpArgs false
set_option linter.unusedVariables false
open Go.RowKit
attribute [local go_sem ↓] Go.wp_at_zero Go.wp_at_succ

/-- A ring's cells, its places in a block of their own. -/
def RwD (lo hi : Nat) (w : World) (a : Rw) (r : Rg) : Prop := a.h = r.h ∧ a.t = r.t ∧ a.c = r.c ∧ a.x = r.x ∧ ∃ g, a.A = some ⟨g, 0, none⟩ ∧ g < hi ∧ PlsO lo w g a.n a.cap r.ps
/-- The cells of rings; no two share their places. -/
def DOf (lo hi : Nat) (w : World) (rows : List Rw) (L : List Rg) : Prop :=
 (∀ (j : Nat) (a : Rw), rows[j]? = some a → ∃ r, L[j]? = some r ∧ RwD lo hi w a r) ∧ (∀ (j k : Nat) (a b : Rw), j ≠ k → rows[j]? = some a → rows[k]? = some b → a.A ≠ b.A)

theorem RwD.keep {lo hi : Nat} {w w' : World} {a : Rw} {r : Rg} (h : RwD lo hi w a r) (hs : ∀ g, a.A = some ⟨g, 0, none⟩ → lo ≤ g → g < hi → g < w.heap.size → w'.heap[g]? = w.heap[g]?) : RwD lo hi w' a r := by
 obtain ⟨h1, h2, h3, h4, g, hg, hh, ho⟩ := h
 exact ⟨h1, h2, h3, h4, g, hg, hh, Own.keep ho (hs g hg ho.ge hh (Own.lt ho))⟩
theorem RwD.mono {lo hi lo' hi' : Nat} {w : World} {a : Rw} {r : Rg} (h : RwD lo hi w a r) (h1 : lo' ≤ lo) (h2 : hi ≤ hi') : RwD lo' hi' w a r := by
 obtain ⟨e1, e2, e3, e4, g, hg, hh, ho⟩ := h
 exact ⟨e1, e2, e3, e4, g, hg, by omega, ho.mono h1⟩
theorem DOf.keep {lo hi : Nat} {w w' : World} {rows : List Rw} {L : List Rg} (h : DOf lo hi w rows L) (hs : ∀ g cs, lo ≤ g → g < hi → BoxAt w g cs 58 → w'.heap[g]? = w.heap[g]?) : DOf lo hi w' rows L :=
 ⟨fun j a ha => by
  obtain ⟨r, hr, h1, h2, h3, h4, g, hg, hh, ho⟩ := h.1 j a ha
  have ho' := ho
  obtain ⟨_, _, _, _, cur, hb, _⟩ := ho'
  exact ⟨r, hr, h1, h2, h3, h4, g, hg, hh, Own.keep ho (hs g cur ho.ge hh hb)⟩, h.2⟩
theorem DOf.mono {lo hi lo' hi' : Nat} {w : World} {rows : List Rw} {L : List Rg} (h : DOf lo hi w rows L) (h1 : lo' ≤ lo) (h2 : hi ≤ hi') : DOf lo' hi' w rows L :=
 ⟨fun j a ha => by obtain ⟨r, hr, hd⟩ := h.1 j a ha; exact ⟨r, hr, hd.mono h1 h2⟩, h.2⟩
/-- Two blocks of different types are two. -/
theorem box_ne {w : World} {g k : Nat} {cs ds : Array Value} {t u : TypeId} (h : BoxAt w g cs t) (h' : BoxAt w k ds u) (ht : t ≠ u) : g ≠ k := by
 rintro rfl
 unfold BoxAt at h h'
 rw [h] at h'
 injection h' with h'
 injection h' with _ h'
 exact ht h'
theorem own_box {α : Type} {f : α → List Value} {k : Nat} {e : TypeId} {N : Nat} {w : World} {g n cap : Nat} {l : List α} (h : Own f k e N w g n cap l) : ∃ cs, BoxAt w g cs e := by
 obtain ⟨_, _, _, _, cur, hb, _⟩ := h
 exact ⟨cur, hb⟩

theorem DOf.snoc {lo hi M : Nat} {w : World} {rows : List Rw} {L : List Rg} (h : DOf lo M w rows L) {a : Rw} {r : Rg} (hr : L[rows.length]? = some r) (ha : RwD M hi w a r) (hlo : lo ≤ M) (hM : M ≤ hi) : DOf lo hi w (rows ++ [a]) L := by
 have lt : ∀ (i : Nat) z, (rows ++ [a])[i]? = some z → i < rows.length ∧ rows[i]? = some z ∨ i = rows.length ∧ z = a := fun i z hz => by
  by_cases hi : i < rows.length
  ·
   rw [List.getElem?_append_left hi] at hz
   exact .inl ⟨hi, hz⟩
  ·
   have : i = rows.length := by
    have := (List.getElem?_eq_some_iff.1 hz).1
    simp at this; omega
   subst this
   rw [List.getElem?_append_right (Nat.le_refl _)] at hz
   simp at hz
   exact .inr ⟨rfl, hz.symm⟩
 have old : ∀ (i : Nat) z, rows[i]? = some z → ∃ g, z.A = some ⟨g, 0, none⟩ ∧ g < M := fun i z hz => by
  obtain ⟨_, _, _, _, _, _, g, hg, hh, _⟩ := h.1 i z hz
  exact ⟨g, hg, hh⟩
 obtain ⟨ga, hga, hgM⟩ : ∃ g, a.A = some ⟨g, 0, none⟩ ∧ M ≤ g := by
  obtain ⟨_, _, _, _, g, hg, _, ho⟩ := ha
  exact ⟨g, hg, ho.ge⟩
 have apart : ∀ (i : Nat) z, rows[i]? = some z → z.A ≠ a.A := fun i z hz e => by
  obtain ⟨g, hg, hl⟩ := old i z hz
  rw [hg, hga] at e
  injection e with e
  injection e with e
  omega
 refine ⟨fun j b hb => ?_, fun j k x y hjk hx hy => ?_⟩
 ·
  rcases lt j b hb with ⟨_, hb⟩ | ⟨rfl, rfl⟩
  ·
   obtain ⟨r', hr', hd⟩ := h.1 j b hb
   exact ⟨r', hr', hd.mono (Nat.le_refl _) hM⟩
  · exact ⟨r, hr, ha.mono hlo (Nat.le_refl _)⟩
 ·
  rcases lt j x hx with ⟨_, hx'⟩ | ⟨ej, ex⟩
  ·
   rcases lt k y hy with ⟨_, hy'⟩ | ⟨ek, ey⟩
   · exact h.2 j k x y hjk hx' hy'
   · rw [ey]; exact apart j x hx'
  ·
   rcases lt k y hy with ⟨_, hy'⟩ | ⟨ek, ey⟩
   · rw [ex]; exact fun e => apart k y hy' e.symm
   · exact absurd (ej.trans ek.symm) hjk

/-- Ring number i turned, its places with it. -/
theorem DOf.turn {lo hi : Nat} {w w' : World} {rows : List Rw} {L : List Rg} (h : DOf lo hi w rows L) {i g : Nat} {a : Rw} {r : Rg} (ha : rows[i]? = some a) (hr : L[i]? = some r) (hg : a.A = some ⟨g, 0, none⟩)
  (hs : ∀ k cs, BoxAt w k cs 58 → k ≠ g → w'.heap[k]? = w.heap[k]?) {h' t' x' : Int} {c' : Bool} {ps' : List Pl} (hp : PlsO lo w' g a.n a.cap ps') :
  DOf lo hi w' (rows.set i ⟨h', t', c', x', a.A, a.n, a.cap⟩) (L.set i ⟨h', t', c', x', ps'⟩) := by
 have hi : i < rows.length := (List.getElem?_eq_some_iff.1 ha).1
 have hiL : i < L.length := (List.getElem?_eq_some_iff.1 hr).1
 have key : ∀ (j : Nat) b, (rows.set i ⟨h', t', c', x', a.A, a.n, a.cap⟩)[j]? = some b → ∃ b', rows[j]? = some b' ∧ b.A = b'.A := fun j b hb => by
  by_cases hj : i = j
  ·
   subst hj
   rw [List.getElem?_set_self hi] at hb
   injection hb with hb
   subst hb
   exact ⟨a, ha, rfl⟩
  ·
   rw [List.getElem?_set_ne hj] at hb
   exact ⟨b, hb, rfl⟩
 refine ⟨fun j b hb => ?_, fun j k x y hjk hx hy => ?_⟩
 ·
  by_cases hj : i = j
  ·
   subst hj
   rw [List.getElem?_set_self hi] at hb
   injection hb with hb
   subst hb
   obtain ⟨r0, hr0, _, _, _, _, g0, hg0, hh, _⟩ := h.1 i a ha
   obtain rfl : g = g0 := by
    rw [hg] at hg0
    injection hg0 with hg0
    injection hg0
   exact ⟨_, List.getElem?_set_self hiL, rfl, rfl, rfl, rfl, g, hg, hh, hp⟩
  ·
   rw [List.getElem?_set_ne hj] at hb ⊢
   obtain ⟨r0, hr0, h1, h2, h3, h4, g0, hg0, hh, ho⟩ := h.1 j b hb
   have hne : g0 ≠ g := by
    rintro rfl
    exact h.2 i j a b hj ha hb (by rw [hg, hg0])
   obtain ⟨cs, hb0⟩ := own_box ho
   exact ⟨r0, hr0, h1, h2, h3, h4, g0, hg0, hh, Own.keep ho (hs g0 cs hb0 hne)⟩
 ·
  obtain ⟨x0, hx0, ex⟩ := key j x hx
  obtain ⟨y0, hy0, ey⟩ := key k y hy
  rw [ex, ey]
  exact h.2 j k x0 y0 hjk hx0 hy0

/-- Rings in a slice of a block of its own, no two of which share their places. -/
def RgsD (lo hi : Nat) (w : World) (A : Option Addr) (n cap : Nat) (L : List Rg) : Prop :=
 L.length = n ∧ (0 < n → ∃ b rows, A = some ⟨b, 0, none⟩ ∧ b < hi ∧ RwsO lo w b n cap rows ∧ DOf lo hi w rows L)

section
variable {lo hi lo' hi' : Nat} {w w' : World} {A : Option Addr} {n cap : Nat} {L : List Rg}
theorem RgsD.toW (h : RgsD lo hi w A n cap L) : RgsW lo hi w A n cap L :=
 ⟨h.1, fun hn => by
  obtain ⟨b, rows, e, hb, ho, hd⟩ := h.2 hn
  refine ⟨b, rows, e, hb, ho, fun i a ha => ?_⟩
  obtain ⟨r, hr, h1, h2, h3, h4, g, hg, hh, hp⟩ := hd.1 i a ha
  exact ⟨r, hr, h1, h2, h3, h4, by rw [hg]; exact hp.w hh⟩⟩
theorem RgsD.keep (h : RgsD lo hi w A n cap L) (hs : SameIn lo hi w w') : RgsD lo hi w' A n cap L :=
 ⟨h.1, fun hn => by
  obtain ⟨b, rows, e, hb, ho, hd⟩ := h.2 hn
  exact ⟨b, rows, e, hb, Own.keep ho (hs b ho.2.1 hb), hd.keep fun g _ h1 h2 _ => hs g h1 h2⟩⟩
theorem RgsD.below (h : RgsD lo hi w A n cap L) (hb : Below w.heap.size w w') (hh : hi ≤ w.heap.size) : RgsD lo hi w' A n cap L := h.keep (.below hb hh)
theorem RgsD.mono (h : RgsD lo hi w A n cap L) (h1 : lo' ≤ lo) (h2 : hi ≤ hi') : RgsD lo' hi' w A n cap L :=
 ⟨h.1, fun hn => by
  obtain ⟨b, rows, e, hb, ho, hd⟩ := h.2 hn
  exact ⟨b, rows, e, by omega, Own.mono ho h1, hd.mono h1 h2⟩⟩
theorem RgsD.nil : RgsD lo hi w none 0 0 [] := ⟨rfl, fun h => absurd h (by omega)⟩
theorem RgsD.r (h : RgsD lo hi w A n cap L) : RgsR 0 w A n L := h.toW.r
end

/-! ### The copies that the laws make -/

theorem ring_info : (Tryz.prog.info? 42).map (fun i => (i.zero, i.size, i.bytes)) = some (some (.agg #[.int .i64 0, .int .i64 0, .bool false, .int .i64 0, .slice none 0 0]), 5, 56) := by kernel_rfl
def Rw.zero : Rw := ⟨0, 0, false, 0, none, 0, 0⟩

/-- What toRingS yields. -/
def ToRgs (n : Nat) (L : List Rg) (w : World) (e : Ending) (w' : World) : Prop :=
 ∃ g, e = .returned (.slice (some ⟨g, 0, none⟩) n n) ∧ RgsD w.heap.size w'.heap.size w' (some ⟨g, 0, none⟩) n n L ∧ Below w.heap.size w w'

/-- A store of the call's own is returned. -/
def RetSt (s : St) (w : World) (e : Ending) (w' : World) : Prop :=
 ∃ A n cap, e = .returned (stV s A n cap) ∧ RgsD w.heap.size w'.heap.size w' A n cap s.rs ∧ Below w.heap.size w w'

end Go.Proofs.YtibmbanbaopeiaaGreat

/-
 Stores as the laws mark them and look at the marks.
-/
namespace Go.Proofs.YtibmbanbaopeiaaGreat
set_option linter.unusedSimpArgs false
set_option linter.unusedVariables false
open Go.RowKit
attribute [local go_sem ↓] Go.wp_at_zero Go.wp_at_succ

/-- All is as it was but from block lo on and below hi. -/
structure ButIn (lo hi : Nat) (w w' : World) : Prop where
 os : w'.os = w.os
 tape : w'.tape = w.tape
 output : w'.output = w.output
 size : w.heap.size ≤ w'.heap.size
 block : ∀ j, j < w.heap.size → (j < lo ∨ hi ≤ j) → w'.heap[j]? = w.heap[j]?
theorem ButIn.refl (lo hi : Nat) (w : World) : ButIn lo hi w w := ⟨rfl, rfl, rfl, Nat.le_refl _, fun _ _ _ => rfl⟩
theorem ButIn.trans {lo hi : Nat} {a b c : World} (h : ButIn lo hi a b) (h' : ButIn lo hi b c) : ButIn lo hi a c :=
 ⟨h'.os.trans h.os, h'.tape.trans h.tape, h'.output.trans h.output, Nat.le_trans h.size h'.size, fun j hj hk => (h'.block j (Nat.lt_of_lt_of_le hj h.size) hk).trans (h.block j hj hk)⟩
theorem ButIn.of_but {lo hi k : Nat} {a b : World} (h : But k a b) (h1 : lo ≤ k) (h2 : k < hi) : ButIn lo hi a b := ⟨h.os, h.tape, h.output, h.size, fun j hj hk => h.block j hj (by omega)⟩
theorem ButIn.of_below {lo hi : Nat} {a b : World} (h : Below a.heap.size a b) : ButIn lo hi a b := ⟨h.os, h.tape, h.output, h.size, fun j hj _ => h.block j hj⟩
theorem ButIn.below {lo hi B : Nat} {a b : World} (h : ButIn lo hi a b) (hB : B ≤ lo) (hs : B ≤ a.heap.size) : Below B a b := ⟨h.os, h.tape, h.output, h.size, fun j hj => h.block j (by omega) (.inl (by omega))⟩
theorem ButIn.box {lo hi : Nat} {a b : World} (h : ButIn lo hi a b) {j : Nat} {cs : Array Value} {t : TypeId} (hb : BoxAt a j cs t) (hj : j < lo ∨ hi ≤ j) : BoxAt b j cs t := by
 have := hb.lt
 unfold BoxAt at *
 rw [h.block j this hj]; exact hb
theorem ButIn.same {lo hi lo' hi' : Nat} {a b : World} (h : ButIn lo hi a b) (hj : hi' ≤ lo ∨ hi ≤ lo') (hs : hi' ≤ a.heap.size) : SameIn lo' hi' a b := fun j h1 h2 => h.block j (by omega) (by omega)

/-- What the laws write into a ring, and into rings one behind the other. -/
def markRg (k : Int) (r : Rg) : Rg := ⟨k, k + 1, (k + 1 + 1) % 3 == 0, k + 1 + 1 + 1, marks (k + 1 + 1 + 1 + 1) r.ps.length⟩
def markAt (k : Int) (L : List Rg) (i : Nat) : Int := k + 4 * i + 4 * sumPs (L.take i)
def markRgs (k : Int) (L : List Rg) : List Rg := (List.range L.length).map fun i => markRg (markAt k L i) (L.getD i ⟨0, 0, false, 0, []⟩)
theorem markRgs_len (k : Int) (L : List Rg) : (markRgs k L).length = L.length := by simp [markRgs]
theorem markRgs_at (k : Int) {L : List Rg} {i : Nat} {r : Rg} (h : L[i]? = some r) : (markRgs k L)[i]? = some (markRg (markAt k L i) r) := by
 obtain ⟨hi, e⟩ := List.getElem?_eq_some_iff.1 h
 simp [markRgs, hi, e]
theorem sumPs_append : ∀ (L M : List Rg), sumPs (L ++ M) = sumPs L + sumPs M
 | [], M => by simp [sumPs]
 | r :: L, M => by simp only [List.cons_append, sumPs, sumPs_append L M]; omega
theorem sumPs_take {L : List Rg} {i : Nat} {r : Rg} (h : L[i]? = some r) : sumPs (L.take (i + 1)) = sumPs (L.take i) + r.ps.length := by
 rw [List.take_add_one, h, sumPs_append]
 simp [sumPs]
theorem sumPs_take_le (L : List Rg) (i : Nat) : sumPs (L.take i) ≤ sumPs L := by
 conv => rhs; rw [← List.take_append_drop i L]
 rw [sumPs_append]; omega
theorem markAt_succ {k : Int} {L : List Rg} {i : Nat} {r : Rg} (h : L[i]? = some r) : markAt k L (i + 1) = markAt k L i + 1 + 1 + 1 + 1 + 4 * r.ps.length := by
 unfold markAt; rw [sumPs_take h]; omega
theorem markAt_le {k : Int} {L : List Rg} {i : Nat} (h : i ≤ L.length) : k ≤ markAt k L i ∧ markAt k L i ≤ k + 4 * L.length + 4 * sumPs L := by
 have := sumPs_take_le L i
 unfold markAt; omega
def markEnd (k : Int) (L : List Rg) : Int := k + 4 * L.length + 4 * sumPs L
theorem markAt_end {k : Int} {L : List Rg} : markAt k L L.length = markEnd k L := by simp [markAt, markEnd]

/-- What markRingS does. -/
def MarkedS (k : Int) (L : List Rg) (lo hi : Nat) (A : Option Addr) (n cap : Nat) (w : World) (e : Ending) (w' : World) : Prop :=
 e = .returned (.int .i64 (markEnd k L)) ∧ ButIn lo hi w w' ∧ RgsD lo hi w' A n cap (markRgs k L)

theorem set4 {lo : Nat} {w : World} {b n cap i : Nat} {rows : List Rw} {a : Rw} (h : RwsO lo w b n cap rows) (ha : rows[i]? = some a) (x0 x1 : Int) (x2 : Bool) (x3 : Int) :
  RwsO lo ((((w.setCell ⟨b, i * 5, none⟩ (.int .i64 x0)).setCell ⟨b, i * 5 + 1, none⟩ (.int .i64 x1)).setCell ⟨b, i * 5 + 2, none⟩ (.bool x2)).setCell ⟨b, i * 5 + 3, none⟩ (.int .i64 x3)) b n cap (rows.set i ⟨x0, x1, x2, x3, a.A, a.n, a.cap⟩) := by
 have hi : i < rows.length := (List.getElem?_eq_some_iff.1 ha).1
 have g : ∀ (l : List Rw) (x : Rw), i < l.length → (l.set i x)[i]? = some x := fun l x hl => List.getElem?_set_self hl
 have s0 := Own.set1 h Rw.cs_len (j := 0) (x' := ⟨x0, a.t, a.c, a.x, a.A, a.n, a.cap⟩) (u := .int .i64 x0) ha (by omega) rfl
 have s1 := Own.set1 s0 Rw.cs_len (j := 1) (x' := ⟨x0, x1, a.c, a.x, a.A, a.n, a.cap⟩) (u := .int .i64 x1) (g _ _ hi) (by omega) rfl
 rw [List.set_set] at s1
 have s2 := Own.set1 s1 Rw.cs_len (j := 2) (x' := ⟨x0, x1, x2, a.x, a.A, a.n, a.cap⟩) (u := .bool x2) (g _ _ hi) (by omega) rfl
 rw [List.set_set] at s2
 have s3 := Own.set1 s2 Rw.cs_len (j := 3) (x' := ⟨x0, x1, x2, x3, a.A, a.n, a.cap⟩) (u := .int .i64 x3) (g _ _ hi) (by omega) rfl
 rw [List.set_set] at s3
 exact s3

end Go.Proofs.YtibmbanbaopeiaaGreat

/-
 Lists of numbers as the laws compare and mark them.
-/
namespace Go.Proofs.YtibmbanbaopeiaaGreat
set_option linter.unusedSimpArgs false
set_option linter.unusedVariables false
open Go.RowKit
attribute [local go_sem ↓] Go.wp_at_zero Go.wp_at_succ

def IE (_N : Nat) (w : World) (b o : Nat) (z : Int) : Prop := w.cell? ⟨b, o, none⟩ = some (.int .i64 z)
theorem IE.kept : Kept IE := fun _ _ _ _ _ _ hb hs h => hs.cell hb h
/-- Numbers in a slice, to be read. -/
def IntsR (w : World) (A : Option Addr) (n : Nat) (l : List Int) : Prop := SlE IE 1 0 w A n l
theorem IntsR.below {w w' : World} {A : Option Addr} {n : Nat} {l : List Int} (h : IntsR w A n l) (hb : Below w.heap.size w w') : IntsR w' A n l := SlE.below IE.kept h hb
/-- Numbers in a slice of the call's own, from block N on. -/
def IntsO (N : Nat) (w : World) (v : Value) (l : List Int) : Prop := w.ownsRow N 2 1 v l.length (l.flatMap ic)

theorem IntsO.r {N : Nat} {w : World} {v : Value} {l : List Int} (h : IntsO N w v l) : ∃ A cap, v = .slice A l.length cap ∧ IntsR w A l.length l := by
 rcases Nat.eq_zero_or_pos l.length with h0 | h0
 ·
  obtain rfl : l = [] := List.length_eq_zero_iff.1 h0
  rcases h.2 with ⟨h1, _⟩ | ⟨g, cap, cur, hv, _⟩
  · exact ⟨none, 0, h1, rfl, fun h => absurd h (by simp)⟩
  · exact ⟨_, cap, hv, rfl, fun h => absurd h (by simp)⟩
 ·
  obtain ⟨g, cap, hv, ho⟩ := Own.of_row (f := ic) h rfl h0
  exact ⟨_, cap, hv, (Own.sl ho ic_len (E := IE) fun b o x hc => by show w.cell? _ = _; simpa using hc 0 _ rfl).1, fun hn => by
   obtain ⟨b, o, e, _, hx⟩ := (Own.sl ho ic_len (E := IE) fun b o x hc => by show w.cell? _ = _; simpa using hc 0 _ rfl).2 hn
   exact ⟨b, o, e, Nat.zero_le _, hx⟩⟩
theorem IntsO.below {N : Nat} {w w' : World} {v : Value} {l : List Int} (h : IntsO N w v l) (hb : Below w.heap.size w w') : IntsO N w' v l := by
 refine ⟨h.1, ?_⟩
 rcases h.2 with h' | ⟨g, cap, cur, hv, hg, hbx, hr⟩
 · exact .inl h'
 · exact .inr ⟨g, cap, cur, hv, hg, (hb.block g (Array.getElem?_eq_some_iff.1 hbx).1).trans hbx, hr⟩
theorem IntsO.keep {N hi : Nat} {w w' : World} {v : Value} {l : List Int} (h : IntsO N w v l) (hs : ∀ j, N ≤ j → j < w.heap.size → w'.heap[j]? = w.heap[j]?) : IntsO N w' v l := by
 refine ⟨h.1, ?_⟩
 rcases h.2 with h' | ⟨g, cap, cur, hv, hg, hbx, hr⟩
 · exact .inl h'
 · exact .inr ⟨g, cap, cur, hv, hg, (hs g hg (Array.getElem?_eq_some_iff.1 hbx).1).trans hbx, hr⟩
/-- Where it lies below hi, too. -/
theorem IntsO.keep2 {N hi : Nat} {w0 w w' : World} {v : Value} {l : List Int} (h0 : IntsO N w0 v l) (hh : w0.heap.size ≤ hi) (h : IntsO N w v l) (hs : ∀ j, N ≤ j → j < hi → w'.heap[j]? = w.heap[j]?) : IntsO N w' v l := by
 refine ⟨h.1, ?_⟩
 rcases h.2 with h' | ⟨g, cap, cur, hv, hg, hbx, hr⟩
 · exact .inl h'
 ·
  rcases h0.2 with ⟨h1, _⟩ | ⟨g', cap', cur', hv', _, hbx', _⟩
  · rw [h1] at hv; cases hv
  ·
   rw [hv'] at hv
   injection hv with e1 e2 e3
   injection e1 with e1
   injection e1 with e1
   subst e1
   have := (Array.getElem?_eq_some_iff.1 hbx').1
   exact .inr ⟨g', cap, cur, by rw [hv', e3], hg, (hs g' hg (by omega)).trans hbx, hr⟩
theorem IntsO.mono {N M : Nat} {w : World} {v : Value} {l : List Int} (h : IntsO N w v l) (hM : M ≤ N) : IntsO M w v l := own_mono h hM

/-- The numbers from k on. -/
def imarks (k : Int) (n : Nat) : List Int := (List.range n).map fun (i : Nat) => k + (i : Int)
theorem imarks_len (k : Int) (n : Nat) : (imarks k n).length = n := by simp [imarks]
theorem imarks_at (k : Int) {n i : Nat} (h : i < n) : (imarks k n)[i]? = some (k + i) := by simp [imarks, h]

/-- What markInt64S does. -/
def MarkedI (k : Int) (N : Nat) (v : Value) (n : Nat) (w : World) (e : Ending) (w' : World) : Prop :=
 e = .returned (.int .i64 (k + n)) ∧ (∃ g, N ≤ g ∧ But g w w') ∧ IntsO N w' v (imarks k n)

end Go.Proofs.YtibmbanbaopeiaaGreat


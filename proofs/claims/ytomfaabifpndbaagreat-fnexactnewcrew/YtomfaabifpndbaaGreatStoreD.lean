/-
  The walk of the copy of a store, of the model.
-/
import Derived.Test.YtomfaabifpndbaaGreatStoreC
import Derived.Test.YtomfaabifpndbaaGreatGrowA
import Derived.Test.YtomfaabifpndbaaGreatStoreB
namespace Go.Proofs.YtomfaabifpndbaaGreat
set_option linter.unusedSimpArgs false
set_option linter.unusedVariables false
open Go.RowKit
set_option linter.unusedVariables false
attribute [local go_sem] OpUpon
attribute [local go_sem ↓] Go.wp_at_zero Go.wp_at_succ

/-- A ring's cells, its places in a block of their own. -/
def RwO (lo : Nat) (w : World) (a : Rw) (r : Rg) : Prop := a.h = r.h ∧ a.t = r.t ∧ a.c = r.c ∧ a.x = r.x ∧ 0 < a.n ∧ ∃ g, a.A = some ⟨g, 0, none⟩ ∧ PlsO lo w g a.n a.cap r.ps
/-- The cells of rings of the call's own; no two share their places. -/
def CopyOf (lo : Nat) (w : World) (rows : List Rw) (L : List Rg) : Prop :=
  (∀ (j : Nat) (a : Rw), rows[j]? = some a → ∃ r, L[j]? = some r ∧ RwO lo w a r) ∧ (∀ (j k : Nat) (a b : Rw), j ≠ k → rows[j]? = some a → rows[k]? = some b → a.A ≠ b.A)

theorem CopyOf.keep {lo : Nat} {w w' : World} {rows : List Rw} {L : List Rg} (h : CopyOf lo w rows L) (hs : ∀ g cs, BoxAt w g cs 56 → w'.heap[g]? = w.heap[g]?) : CopyOf lo w' rows L :=
  ⟨fun j a ha => by
    obtain ⟨r, hr, h1, h2, h3, h4, h5, g, hg, ho⟩ := h.1 j a ha
    have ho' := ho
    obtain ⟨_, _, _, _, cur, hb, _⟩ := ho'
    exact ⟨r, hr, h1, h2, h3, h4, h5, g, hg, Own.keep ho (hs g cur hb)⟩, h.2⟩
theorem CopyOf.below {lo : Nat} {w w' : World} {rows : List Rw} {L : List Rg} (h : CopyOf lo w rows L) (hb : Below w.heap.size w w') : CopyOf lo w' rows L := h.keep fun g _ hg => hb.block g hg.lt
theorem CopyOf.set {lo : Nat} {w : World} {rows : List Rw} {L : List Rg} (h : CopyOf lo w rows L) {k : Nat} {cs : Array Value} {t : TypeId} (hk : BoxAt w k cs t) (ht : t ≠ 56) (i : Nat) (u : Value) : CopyOf lo (w.setCell ⟨k, i, none⟩ u) rows L :=
  h.keep fun g _ hg => Below.heap_setCell w ⟨k, i, none⟩ u g (by
    rintro rfl
    unfold BoxAt at hg hk
    rw [hg] at hk
    injection hk with hk
    injection hk with _ hk
    exact ht hk.symm)
theorem CopyOf.mono {lo lo' : Nat} {w : World} {rows : List Rw} {L : List Rg} (h : CopyOf lo w rows L) (hl : lo' ≤ lo) : CopyOf lo' w rows L :=
  ⟨fun j a ha => by obtain ⟨r, hr, h1, h2, h3, h4, h5, g, hg, ho⟩ := h.1 j a ha; exact ⟨r, hr, h1, h2, h3, h4, h5, g, hg, ho.mono hl⟩, h.2⟩
theorem CopyOf.setCells {lo : Nat} {rows : List Rw} {L : List Rg} {k : Nat} {t : TypeId} : ∀ (us : List Value) (o : Nat) {w : World} {cs : Array Value}, BoxAt w k cs t → t ≠ 56 → CopyOf lo w rows L → CopyOf lo (setCells w k o us) rows L
  | [], _, _, _, _, _, h => h
  | u :: us, o, _, _, hk, ht, h => CopyOf.setCells us (o + 1) (hk.set o u) ht (h.set hk ht o u)
theorem CopyOf.grown {lo : Nat} {w w' : World} {rows : List Rw} {L : List Rg} (h : CopyOf lo w rows L) {b n c m N : Nat} {xs : List Value} (ho : w.ownsRow N 81 m (.slice (some ⟨b, 0, none⟩) n c) n xs) (hg : w.grownBy w' (some b)) : CopyOf lo w' rows L :=
  h.keep fun g cs hgb => hg.block g hgb.lt (by
    intro e
    injection e with e
    subst e
    rcases ho.2 with ⟨h1, _⟩ | ⟨g', cap', cur, hv, _, hb, _⟩
    · cases h1
    · injection hv with h1
      injection h1 with h1
      injection h1 with h1
      subst h1
      unfold BoxAt at hgb
      rw [hgb] at hb
      injection hb with hb
      injection hb with _ hb
      cases hb)
theorem CopyOf.snoc {lo M : Nat} {w : World} {rows : List Rw} {L : List Rg} (h : CopyOf lo w rows L) (hM : ∀ (j : Nat) a, rows[j]? = some a → ∃ g, a.A = some ⟨g, 0, none⟩ ∧ g < M) {a : Rw} {r : Rg} (hr : L[rows.length]? = some r) (ha : RwO M w a r) (hlo : lo ≤ M) : CopyOf lo w (rows ++ [a]) L := by
  have hgM : ∃ g, a.A = some ⟨g, 0, none⟩ ∧ M ≤ g := by
    obtain ⟨_, _, _, _, _, g, hg, ho⟩ := ha
    exact ⟨g, hg, ho.ge⟩
  refine ⟨fun j b hb => ?_, fun j k x y hjk hx hy => ?_⟩
  · by_cases hj : j < rows.length
    · rw [List.getElem?_append_left hj] at hb
      exact h.1 j b hb
    · obtain rfl : j = rows.length := by
        have := (List.getElem?_eq_some_iff.1 hb).1
        simp at this; omega
      rw [List.getElem?_append_right (Nat.le_refl _)] at hb
      simp at hb
      subst hb
      obtain ⟨h1, h2, h3, h4, h5, g, hg, ho⟩ := ha
      exact ⟨r, hr, h1, h2, h3, h4, h5, g, hg, ho.mono hlo⟩
  · have lt : ∀ (i : Nat) z, (rows ++ [a])[i]? = some z → i < rows.length ∧ rows[i]? = some z ∨ i = rows.length ∧ z = a := fun i z hz => by
      by_cases hi : i < rows.length
      · rw [List.getElem?_append_left hi] at hz
        exact .inl ⟨hi, hz⟩
      · have : i = rows.length := by
          have := (List.getElem?_eq_some_iff.1 hz).1
          simp at this; omega
        subst this
        rw [List.getElem?_append_right (Nat.le_refl _)] at hz
        simp at hz
        exact .inr ⟨rfl, hz.symm⟩
    obtain ⟨g, hg, hgM⟩ := hgM
    rcases lt j x hx with ⟨_, hx⟩ | ⟨e1, rfl⟩ <;> rcases lt k y hy with ⟨_, hy⟩ | ⟨e2, rfl⟩
    · exact h.2 j k x y hjk hx hy
    · obtain ⟨g', hg', hl⟩ := hM j x (by assumption)
      rw [hg, hg']; intro e; injection e with e; injection e with e; omega
    · obtain ⟨g', hg', hl⟩ := hM k y (by assumption)
      rw [hg, hg']; intro e; injection e with e; injection e with e; omega
    · omega
theorem CopyOf.lt {lo : Nat} {w : World} {rows : List Rw} {L : List Rg} (h : CopyOf lo w rows L) : ∀ (j : Nat) a, rows[j]? = some a → ∃ g, a.A = some ⟨g, 0, none⟩ ∧ g < w.heap.size := fun j a ha => by
  obtain ⟨r, _, _, _, _, _, _, g, hg, ho⟩ := h.1 j a ha
  exact ⟨g, hg, Own.lt ho⟩
theorem CopyOf.all {lo : Nat} {w : World} {rows : List Rw} {L : List Rg} (h : CopyOf lo w rows L) : AllIs lo w.heap.size w rows L := fun i a ha => by
  obtain ⟨r, hr, h1, h2, h3, h4, h5, g, hg, ho⟩ := h.1 i a ha
  exact ⟨r, hr, h1, h2, h3, h4, ho.1, fun _ => ⟨g, hg, Own.lt ho, ho⟩⟩
theorem PlsO.grown {N : Nat} {w w' : World} {g n cap : Nat} {l : List Pl} {row : Option Nat} (h : PlsO N w g n cap l) (hg : w.grownBy w' row) (hne : some g ≠ row) : PlsO N w' g n cap l := Own.keep h (hg.block g (Own.lt h) hne)
theorem rw_one {l : List Rw} : ∀ u ∈ l.flatMap Rw.cs, u.oneCell' = true := by
  intro u hu
  obtain ⟨p, _, hp⟩ := List.mem_flatMap.1 hu
  simp [Rw.cs] at hp
  rcases hp with rfl | rfl | rfl | rfl | rfl <;> rfl
theorem ring_info : (Tryz.prog.info? 81).map (fun i => (i.zero, i.size, i.bytes)) = some (some (.agg #[.int .i64 0, .int .i64 0, .bool false, .int .i64 0, .slice none 0 0]), 5, 56) := by kernel_rfl

theorem RgC.set_ne {w : World} {b i : Nat} {r : Rg} {A : Option Addr} {n cap : Nat} (h : RgC w b i r A n cap) {k : Nat} (hk : b ≠ k) (o : Nat) (u : Value) : RgC (w.setCell ⟨k, o, none⟩ u) b i r A n cap :=
  have q : ∀ (o' : Nat), (w.setCell ⟨k, o, none⟩ u).cell? ⟨b, o', none⟩ = w.cell? ⟨b, o', none⟩ := fun o' => World.cell?_of_block (Below.heap_setCell w ⟨k, o, none⟩ u b hk)
  ⟨(q _).trans h.1, (q _).trans h.2.1, (q _).trans h.2.2.1, (q _).trans h.2.2.2.1, (q _).trans h.2.2.2.2⟩
theorem RgC.grown {w w' : World} {b i : Nat} {r : Rg} {A : Option Addr} {n cap b0 x y : Nat} (h : RgC w b i r A n cap) (hg : w.grownBy w' (Value.slice (some ⟨b0, 0, none⟩) x y).ownBlock) (hk : b ≠ b0) : RgC w' b i r A n cap :=
  have q : ∀ (o' : Nat), w'.cell? ⟨b, o', none⟩ = w.cell? ⟨b, o', none⟩ := fun o' => World.cell?_of_block (hg.block b (World.block_lt_of_cell? w _ h.1) (fun e => hk (by have := own_blk e.symm; exact this)))
  ⟨(q _).trans h.1, (q _).trans h.2.1, (q _).trans h.2.2.1, (q _).trans h.2.2.2.1, (q _).trans h.2.2.2.2⟩
theorem RgC.sn {w : World} {b i : Nat} {r : Rg} {A : Option Addr} {n cap : Nat} (h : RgC w b i r A n cap) {k : Nat} {o : Nat} {u : Value} (hk : b ≠ k := by omega) : RgC (w.setCell ⟨k, o, none⟩ u) b i r A n cap := h.set_ne hk o u

/-- A copy of a store. -/
def RetCopy (s : St) (n : Nat) (w : World) (e : Ending) (w' : World) : Prop :=
  ∃ b cap rows, e = .returned (stV s (some ⟨b, 0, none⟩) n cap) ∧ RwsO w.heap.size w' b n cap rows ∧ CopyOf w.heap.size w' rows s.rs ∧ Below w.heap.size w w'

end Go.Proofs.YtomfaabifpndbaaGreat

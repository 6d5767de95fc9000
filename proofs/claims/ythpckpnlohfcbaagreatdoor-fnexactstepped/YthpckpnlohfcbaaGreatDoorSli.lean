/-
 Slices in words of this project's own: rows of their own between two blocks, what can be copied out of a slice, what is kept by type, appends.
-/
import Derived.Test.YthpckpnlohfcbaaGreatDoorMem
import Derived.Test.YthpckpnlohfcbaaGreatDoorGrow2
namespace Go.Proofs.YthpckpnlohfcbaaGreatDoor
set_option linter.unusedSimpArgs false
set_option linter.unusedVariables false
open Go.RowKit
set_option linter.unusedVariables false
def SameIn (lo hi : Nat) (w w' : World) : Prop := ∀ j, lo ≤ j → j < hi → w'.heap[j]? = w.heap[j]?
theorem SameIn.below {lo hi : Nat} {w w' : World} (h : Below w.heap.size w w') (hh : hi ≤ w.heap.size) : SameIn lo hi w w' := fun j _ hj => h.block j (by omega)
theorem SameIn.alloc {lo hi : Nat} {w : World} (hh : hi ≤ w.heap.size) (o : Obj) : SameIn lo hi w (w.alloc o) := fun j _ hj => Below.heap_alloc w o j (by omega)
theorem SameIn.set {lo hi : Nat} {w : World} {b : Nat} (h : b < lo ∨ hi ≤ b) (i : Nat) (u : Value) : SameIn lo hi w (w.setCell ⟨b, i, none⟩ u) := fun j h1 h2 => Below.heap_setCell w ⟨b, i, none⟩ u j (by show j ≠ b; omega)
theorem SameIn.but {lo hi k : Nat} {w w' : World} (h : But k w w') (hk : k < lo ∨ hi ≤ k) (hh : hi ≤ w.heap.size) : SameIn lo hi w w' := fun j h1 h2 => h.block j (by omega) (by omega)
theorem SameIn.trans {lo hi : Nat} {a b c : World} (h : SameIn lo hi a b) (h' : SameIn lo hi b c) : SameIn lo hi a c := fun j h1 h2 => (h' j h1 h2).trans (h j h1 h2)
theorem SameIn.refl (lo hi : Nat) (w : World) : SameIn lo hi w w := fun _ _ _ => rfl
theorem BoxAt.sets_ne {g k : Nat} {cs : Array Value} {t : TypeId} : ∀ (us : List Value) (o : Nat) {w : World}, BoxAt w k cs t → k ≠ g → BoxAt (Go.Proofs.YthpckpnlohfcbaaGreatDoor.setCells w g o us) k cs t
 | [], _, _, h, _ => h
 | u :: us, o, _, h, hne => BoxAt.sets_ne us (o + 1) (h.set_ne hne o u) hne
theorem sets_block {g k : Nat} (hne : k ≠ g) : ∀ (us : List Value) (o : Nat) (w : World), (setCells w g o us).heap[k]? = w.heap[k]?
 | [], _, _ => rfl
 | u :: us, o, w => (sets_block hne us (o + 1) _).trans (Below.heap_setCell w ⟨g, o, none⟩ u k hne)
theorem sets_size {g : Nat} : ∀ (us : List Value) (o : Nat) (w : World), (setCells w g o us).heap.size = w.heap.size
 | [], _, _ => rfl
 | u :: us, o, w => (sets_size us (o + 1) _).trans (by simp)
theorem size_sts {M g : Nat} {w : World} (h : M ≤ w.heap.size) (us : List Value) (o : Nat) : M ≤ (setCells w g o us).heap.size := by rw [sets_size]; exact h
theorem sets_all {g : Nat} {t : TypeId} {us : List Value} {w : World} {cs : Array Value} (h : BoxAt w g cs t) (hs : cs.size = us.length) : BoxAt (setCells w g 0 us) g us.toArray t := by
 obtain ⟨cur, h1, h2, h3⟩ := h.setCells us w 0
 have : cur = us.toArray := by
  apply Array.toList_inj.1
  rw [h3]
  apply List.ext_getElem?
  intro j
  rw [setAll_get us _ 0 j (by simp; omega)]
  by_cases hj : j < us.length
  · simp [hj]
  · simp [hj]; omega
 rw [← this]; exact h1
theorem Own.sets_ne {α : Type} {f : α → List Value} {k : Nat} {e : TypeId} {N : Nat} {w : World} {g n cap : Nat} {l : List α} (h : Own f k e N w g n cap l) {b : Nat} (hb : g ≠ b) (us : List Value) (o : Nat) : Own f k e N (setCells w b o us) g n cap l :=
 h.keep (sets_block hb us o w)
def SlW {α : Type} (f : α → List Value) (k : Nat) (e : TypeId) (lo hi : Nat) (w : World) (A : Option Addr) (n cap : Nat) (l : List α) : Prop :=
 l.length = n ∧ ((A = none ∧ n = 0 ∧ cap = 0) ∨ ∃ b, A = some ⟨b, 0, none⟩ ∧ b < hi ∧ Own f k e lo w b n cap l)
def SrcW {α : Type} (f : α → List Value) (w : World) (A : Option Addr) (n cap : Nat) (l : List α) : Prop :=
 l.length = n ∧ (A = none → n = 0 ∧ cap = 0) ∧ ∀ ad, A = some ad → ∀ j u, (l.flatMap f)[j]? = some u → w.cell? (ad.add j) = some u
section
variable {α : Type} {f : α → List Value} {k : Nat} {e : TypeId} {lo hi lo' hi' : Nat} {w w' : World} {A : Option Addr} {n cap : Nat} {l : List α}
theorem SlW.keep (h : SlW f k e lo hi w A n cap l) (hs : SameIn lo hi w w') : SlW f k e lo hi w' A n cap l :=
 ⟨h.1, by
  rcases h.2 with h2 | ⟨b, e, hb, ho⟩
  · exact .inl h2
  · exact .inr ⟨b, e, hb, Own.keep ho (hs b ho.2.1 hb)⟩⟩
theorem SlW.mono (h : SlW f k e lo hi w A n cap l) (h1 : lo' ≤ lo) (h2 : hi ≤ hi') : SlW f k e lo' hi' w A n cap l :=
 ⟨h.1, by
  rcases h.2 with h2 | ⟨b, e, hb, ho⟩
  · exact .inl h2
  · exact .inr ⟨b, e, by omega, ho.mono h1⟩⟩
theorem SlW.cut (h : SlW f k e lo hi w A n cap l) : SlW f k e lo w.heap.size w A n cap l :=
 ⟨h.1, by
  rcases h.2 with h2 | ⟨b, e, hb, ho⟩
  · exact .inl h2
  · exact .inr ⟨b, e, Own.lt ho, ho⟩⟩
theorem SlW.below (h : SlW f k e lo hi w A n cap l) (hb : Below w.heap.size w w') (hh : hi ≤ w.heap.size) : SlW f k e lo hi w' A n cap l := h.keep (.below hb hh)
theorem SlW.st (h : SlW f k e lo hi w A n cap l) {b : Nat} (hk : b < lo ∨ hi ≤ b) (i : Nat) (u : Value) : SlW f k e lo hi (w.setCell ⟨b, i, none⟩ u) A n cap l := h.keep (.set hk i u)
theorem SlW.sts (h : SlW f k e lo hi w A n cap l) {b : Nat} (hk : b < lo ∨ hi ≤ b) (us : List Value) (o : Nat) : SlW f k e lo hi (setCells w b o us) A n cap l :=
 h.keep fun j h1 h2 => sets_block (by omega) us o w
theorem SlW.al (h : SlW f k e lo hi w A n cap l) (hh : hi ≤ w.heap.size) (o : Obj) : SlW f k e lo hi (w.alloc o) A n cap l := h.keep (.alloc hh o)
theorem SlW.setsT (h : SlW f k e lo hi w A n cap l) {b : Nat} {cs : Array Value} {t : TypeId} (hk : BoxAt w b cs t) (ht : t ≠ e) (us : List Value) (o : Nat) : SlW f k e lo hi (setCells w b o us) A n cap l :=
 ⟨h.1, by
  rcases h.2 with h2 | ⟨g, eq, hb, ho⟩
  · exact .inl h2
  ·
   refine .inr ⟨g, eq, hb, Own.keep ho (sets_block ?_ us o w)⟩
   rintro rfl
   obtain ⟨_, _, _, _, cur, hc, _⟩ := ho
   unfold BoxAt at hc hk
   rw [hk] at hc
   injection hc with hc
   injection hc with _ hc
   exact ht hc⟩
theorem SlW.of_own {v : Value} (h : w.ownsRow lo e k v n (l.flatMap f)) (hl : l.length = n) : ∃ A cap, v = .slice A n cap ∧ SlW f k e lo w.heap.size w A n cap l := by
 rcases h.2 with ⟨hv, h1⟩ | ⟨g, cap, cur, hv, hg, hb, hc, hm, hs, ht⟩
 · exact ⟨none, 0, by rw [hv, h1], hl, .inl ⟨rfl, h1, rfl⟩⟩
 · exact ⟨some ⟨g, 0, none⟩, cap, hv, hl, .inr ⟨g, rfl, (Array.getElem?_eq_some_iff.1 hb).1, hl, hg, hc, hm, cur, hb, hs, ht⟩⟩
theorem SlW.own (h : SlW f k e lo hi w A n cap l) (hf : ∀ x, (f x).length = k) : w.ownsRow lo e k (.slice A n cap) n (l.flatMap f) := by
 rcases h.2 with ⟨rfl, rfl, rfl⟩ | ⟨g, rfl, _, ho⟩
 ·
  have : l = [] := List.eq_nil_of_length_eq_zero h.1
  subst this
  exact World.ownsRow_nil w lo e k
 · exact Own.own ho hf
theorem SlW.nil : SlW f k e lo hi w none 0 0 [] := ⟨rfl, .inl ⟨rfl, rfl, rfl⟩⟩
theorem SlW.src (h : SlW f k e lo hi w A n cap l) (hf : ∀ x, (f x).length = k) : SrcW f w A n cap l := by
 refine ⟨h.1, fun hA => ?_, fun ad had => ?_⟩
 ·
  rcases h.2 with ⟨_, h2, h3⟩ | ⟨g, hg, _⟩
  · exact ⟨h2, h3⟩
  · rw [hg] at hA; cases hA
 ·
  rcases h.2 with ⟨h1, _⟩ | ⟨g, hg, _, ho⟩
  · rw [h1] at had; cases had
  ·
   rw [hg] at had
   injection had with had
   subst had
   exact (Own.own ho hf).cells rfl
theorem SlW.at_ (h : SlW f k e lo hi w A n cap l) (hf : ∀ x, (f x).length = k) {i : Nat} (hin : i < n) : ∃ (b : Nat) (x : α), A = some ⟨b, 0, none⟩ ∧ lo ≤ b ∧ b < hi ∧ l[i]? = some x ∧ ∀ j u, (f x)[j]? = some u → w.cell? ⟨b, i * k + j, none⟩ = some u := by
 rcases h.2 with ⟨_, h1, _⟩ | ⟨g, hg, hb, ho⟩
 · omega
 ·
  have hl : i < l.length := by have := h.1; omega
  exact ⟨g, l[i], hg, ho.2.1, hb, List.getElem?_eq_getElem hl, fun j u hu => Own.cell_ hf ho (List.getElem?_eq_getElem hl) hu⟩
end
def ic (z : Int) : List Value := [z]
theorem ic_len (z : Int) : (ic z).length = 1 := rfl
structure ButIn (lo hi : Nat) (w w' : World) : Prop where
 os : w'.os = w.os
 tape : w'.tape = w.tape
 output : w'.output = w.output
 size : w.heap.size ≤ w'.heap.size
 block : ∀ j, j < w.heap.size → (j < lo ∨ hi ≤ j) → w'.heap[j]? = w.heap[j]?
theorem ButIn.refl (lo hi : Nat) (w : World) : ButIn lo hi w w := ⟨rfl, rfl, rfl, Nat.le_refl _, fun _ _ _ => rfl⟩
theorem ButIn.trans {lo hi : Nat} {a b c : World} (h : ButIn lo hi a b) (h' : ButIn lo hi b c) : ButIn lo hi a c :=
 ⟨h'.os.trans h.os, h'.tape.trans h.tape, h'.output.trans h.output, Nat.le_trans h.size h'.size, fun j hj hk => (h'.block j (Nat.lt_of_lt_of_le hj h.size) hk).trans (h.block j hj hk)⟩
theorem ButIn.of_but {lo hi k : Nat} {a b : World} (h : But k a b) (h1 : lo ≤ k) (h2 : k < hi) : ButIn lo hi a b := ⟨h.os, h.tape, h.output, h.size, fun j hj hk => h.block j hj (by omega)⟩
theorem ButIn.of_below {lo hi : Nat} {a b : World} (h : Below a.heap.size a b) : ButIn lo hi a b := ⟨h.os, h.tape, h.output, h.size, fun j hj _ => h.block j hj⟩
theorem ButIn.below {lo hi B : Nat} {a b : World} (h : ButIn lo hi a b) (hB : B ≤ lo) (hs : B ≤ a.heap.size) : Below B a b := ⟨h.os, h.tape, h.output, h.size, fun j hj => h.block j (by omega) (.inl (by omega))⟩
theorem ButIn.box {lo hi : Nat} {a b : World} (h : ButIn lo hi a b) {j : Nat} {cs : Array Value} {t : TypeId} (hb : BoxAt a j cs t) (hj : j < lo ∨ hi ≤ j) : BoxAt b j cs t := by
 have := hb.lt
 unfold BoxAt at *
 rw [h.block j this hj]; exact hb
theorem ButIn.same {lo hi lo' hi' : Nat} {a b : World} (h : ButIn lo hi a b) (hj : hi' ≤ lo ∨ hi ≤ lo') (hs : hi' ≤ a.heap.size) : SameIn lo' hi' a b := fun j h1 h2 => h.block j (by omega) (by omega)
theorem own_blk {g o n c k : Nat} {sp : Option _} (h : (Value.slice (some ⟨g, o, sp⟩) n c).ownBlock = some k) : k = g := by
 simp [Value.ownBlock] at h; exact h.symm
theorem own_made {w : World} {k base : Nat} {e : TypeId} {size : Nat} (h : k = w.heap.size) (hb : base ≤ w.heap.size) : (w.alloc (.cells #[] e)).ownsRow base e size (.slice (some ⟨k, 0, none⟩) 0 0) 0 [] := by
 subst h; exact World.ownsRow_made w #[] 0 hb (Nat.zero_le _) (by simp)
theorem BoxAt.grown2 {W W' : World} {k : Nat} {cs : Array Value} {t : TypeId} {row : Option Nat} (h : BoxAt W k cs t) (hg : W.grownBy W' row) (hr : row ≠ some k) : BoxAt W' k cs t := by
 unfold BoxAt at *
 rw [hg.block k (Array.getElem?_eq_some_iff.1 h).1 (fun e => hr e.symm)]
 exact h
theorem news_box {w : World} {g : Nat} {cs : List Value} {t : TypeId} (h : BoxAt w g cs.toArray t) : ∀ j u, cs[j]? = some u → w.cell? ((⟨g, 0, none⟩ : Addr).add j) = some u := by
 intro j u hu
 have e : (⟨g, 0, none⟩ : Addr).add j = ⟨g, j, none⟩ := by
  by_cases h : j = 0
  · subst h; simp [Addr.add]
  · simp [Addr.add, h]
 rw [e, h.cell]
 simpa using hu
def KeepT (T : TypeId) (w w' : World) : Prop := ∀ g cs, BoxAt w g cs T → w'.heap[g]? = w.heap[g]?
theorem KeepT.refl (T : TypeId) (w : World) : KeepT T w w := fun _ _ _ => rfl
theorem KeepT.trans {T : TypeId} {a b c : World} (h : KeepT T a b) (h' : KeepT T b c) : KeepT T a c := fun g cs hg => (h' g cs (by unfold BoxAt at *; rw [h g cs hg]; exact hg)).trans (h g cs hg)
theorem KeepT.below {T : TypeId} {w w' : World} (h : Below w.heap.size w w') : KeepT T w w' := fun g _ hg => h.block g hg.lt
theorem KeepT.alloc {T : TypeId} (w : World) (o : Obj) : KeepT T w (w.alloc o) := .below ((Below.refl _ _).alloc (Nat.le_refl _) _)
theorem KeepT.sets {T : TypeId} {w : World} {b : Nat} {cs : Array Value} {t : TypeId} (hk : BoxAt w b cs t) (ht : t ≠ T) (us : List Value) (o : Nat) : KeepT T w (setCells w b o us) := fun g cs' hg => sets_block (by
 rintro rfl
 unfold BoxAt at hg hk
 rw [hg] at hk
 injection hk with hk
 injection hk with _ hk
 exact ht hk.symm) us o w
theorem KeepT.set {T : TypeId} {w : World} {b : Nat} {cs : Array Value} {t : TypeId} (hk : BoxAt w b cs t) (ht : t ≠ T) (i : Nat) (u : Value) : KeepT T w (w.setCell ⟨b, i, none⟩ u) := KeepT.sets hk ht [u] i
theorem KeepT.grown {T : TypeId} {w w' : World} {N : Nat} {e : TypeId} {k n : Nat} {v : Value} {xs : List Value} (ho : w.ownsRow N e k v n xs) (hg : w.grownBy w' v.ownBlock) (ht : e ≠ T) : KeepT T w w' := fun g cs hb => hg.block g hb.lt (by
 intro h
 rcases ho.2 with ⟨rfl, _⟩ | ⟨g', cap', cur, rfl, _, hc, _⟩
 · simp [Value.ownBlock] at h
 ·
  have := own_blk h.symm
  subst this
  unfold BoxAt at hb
  rw [hb] at hc
  injection hc with hc
  injection hc with _ hc
  exact ht hc.symm)
section
variable {lo hi : Nat} {w w' : World} {A : Option Addr} {n cap : Nat}
end
def CellsAt (w : World) (b o : Nat) (us : List Value) : Prop := ∀ j u, us[j]? = some u → w.cell? ⟨b, o + j, none⟩ = some u
theorem CellsAt.below {w w' : World} {b o : Nat} {us : List Value} (h : CellsAt w b o us) (hb : Below w.heap.size w w') : CellsAt w' b o us := fun j u hu => by
 have := h j u hu
 exact (hb.cell (p := ⟨b, o + j, none⟩) (World.block_lt_of_cell? w _ this)).trans this
theorem CellsAt.same {w w' : World} {b o : Nat} {us : List Value} (h : CellsAt w b o us) (hb : w'.heap[b]? = w.heap[b]?) : CellsAt w' b o us := fun j u hu => (World.cell?_of_block hb).trans (h j u hu)
section
variable {P : Program}
end
theorem SrcW.al {α : Type} {f : α → List Value} {w : World} {A : Option Addr} {n cap : Nat} {l : List α} (h : SrcW f w A n cap l) (o : Obj) : SrcW f (w.alloc o) A n cap l :=
 ⟨h.1, h.2.1, fun ad had j u hu => by
  have := h.2.2 ad had j u hu
  exact (((Below.refl _ _).alloc (Nat.le_refl _) o).cell (World.block_lt_of_cell? w _ this)).trans this⟩
theorem SrcW.below {α : Type} {f : α → List Value} {w w' : World} {A : Option Addr} {n cap : Nat} {l : List α} (h : SrcW f w A n cap l) (hb : Below w.heap.size w w') : SrcW f w' A n cap l :=
 ⟨h.1, h.2.1, fun ad had j u hu => by
  have := h.2.2 ad had j u hu
  exact (hb.cell (World.block_lt_of_cell? w _ this)).trans this⟩
theorem SlW.r {α : Type} {f : α → List Value} {k : Nat} {e : TypeId} {lo hi : Nat} {w : World} {A : Option Addr} {n cap : Nat} {l : List α} {E : Nat → World → Nat → Nat → α → Prop} (hf : ∀ x, (f x).length = k)
  (hE : ∀ b o x, (∀ j u, (f x)[j]? = some u → w.cell? ⟨b, o + j, none⟩ = some u) → E 0 w b o x) (h : SlW f k e lo hi w A n cap l) : SlE E k 0 w A n l := by
 rcases h.2 with ⟨rfl, rfl, rfl⟩ | ⟨g, rfl, _, ho⟩
 · exact ⟨h.1, fun h => absurd h (by omega)⟩
 · exact (Own.sl (ho.mono (Nat.zero_le _)) hf hE)
theorem SlW.at0 {α : Type} {f : α → List Value} {k : Nat} {e : TypeId} {lo hi : Nat} {w : World} {A : Option Addr} {n cap : Nat} {l : List α} (h : SlW f k e lo hi w A n cap l) (hn : 0 < n) : ∃ g, A = some ⟨g, 0, none⟩ ∧ lo ≤ g ∧ g < hi ∧ Own f k e lo w g n cap l := by
 rcases h.2 with ⟨_, h1, _⟩ | ⟨g, hg, hb, ho⟩
 · omega
 · exact ⟨g, hg, ho.2.1, hb, ho⟩
end Go.Proofs.YthpckpnlohfcbaaGreatDoor

/-
 A range over a function whose rounds go through another function's rounds: what an iterator that itself ranges over an iterator promises, and the statement's law for it.
-/
import Derived.Test.YtghgfbncijfocaaSli
import Derived.RangeFuncNested
import Derived.RangeFuncBound
import Derived.RangeFuncCalls
import Derived.RangeFuncLeaves
import Derived.Shelf.Abstract
import Derived.Shelf.RegionOpen
import Derived.WalkKit
import Derived.OwnWalkIn
import Derived.TacticsInMore
import Derived.LoopNIn
import Derived.LoopIn
namespace Go.Proofs.Ytghgfbncijfocaa
set_option linter.unusedSimpArgs false
set_option linter.unusedVariables false
open Go.RowKit Go.Shelf
set_option linter.unusedVariables false
attribute [local go_sem] Oper.semAt_some

/-- What lies between two rounds keeps: all cells but those of block X, and whatever lies from B on. -/
structure KpO (X B : Nat) (W W' : World) : Prop where
 size : W.heap.size ≤ W'.heap.size
 same : ∀ (j : Nat) (o : Obj), W.heap[j]? = some o → (o.isCells = true ∧ j ≠ X) ∨ B ≤ j → W'.heap[j]? = some o
theorem KpO.refl (X B : Nat) (W : World) : KpO X B W W := ⟨Nat.le_refl _, fun _ _ h _ => h⟩
theorem KpO.trans {X B : Nat} {a b c : World} (h : KpO X B a b) (k : KpO X B b c) : KpO X B a c := ⟨Nat.le_trans h.size k.size, fun j o ho hc => k.same j o (h.same j o ho hc) hc⟩
theorem KpO.mono {X B B' : Nat} {a b : World} (h : KpO X B a b) (hB : B ≤ B') : KpO X B' a b := ⟨h.size, fun j o ho hc => h.same j o ho (by rcases hc with hc | hc; exact .inl hc; exact .inr (by omega))⟩
theorem lt_of_some {w : World} {j : Nat} {o : Obj} (h : w.heap[j]? = some o) : j < w.heap.size := (Array.getElem?_eq_some_iff.1 h).1
theorem KpO.below {X B : Nat} {w w' : World} (h : Below w.heap.size w w') : KpO X B w w' := ⟨h.size, fun j o ho _ => (h.block j (lt_of_some ho)).trans ho⟩
theorem KpO.put {X B l : Nat} {w : World} {o : Obj} (o' : Obj) (h : w.heap[l]? = some o) (hc : o.isCells = false) (hl : l < B) : KpO X B w (w.putObj l o') := ⟨by simp, fun j p hp hk => by
 by_cases e : j = l
 ·
  subst e
  rw [h] at hp; injection hp with hp; subst hp
  rcases hk with hk | hk
  · rw [hc] at hk; cases hk.1
  · omega
 · exact (World.putObj_heap_other e).trans hp⟩
theorem KpO.set {X B i : Nat} {w : World} (u : Value) (hX : X < B) : KpO X B w (w.setCell ⟨X, i, none⟩ u) := ⟨by simp, fun j o ho hk => by
 have e : j ≠ X := by rcases hk with hk | hk <;> omega
 exact (Below.heap_setCell w ⟨X, i, none⟩ u j e).trans ho⟩
theorem KpO.grown {X B : Nat} {w w' : World} {row : Option Nat} (h : w.grownBy w' row) (hr : ∀ r, row = some r → ∃ o : Obj, w.heap[r]? = some o ∧ o.isCells = false) (hB : w.heap.size ≤ B) : KpO X B w w' := ⟨h.size, fun j o ho hk => by
 have hj := lt_of_some ho
 rcases hk with hk | hk
 ·
  refine (h.block j hj (fun e => ?_)).trans ho
  obtain ⟨p, hp, hc⟩ := hr j e.symm
  rw [ho] at hp; injection hp with hp; subst hp
  rw [hk.1] at hc; cases hc
 · omega⟩
theorem KpO.box {X B j : Nat} {w w' : World} {cs : Array Value} {t : TypeId} (h : KpO X B w w') (hb : BoxAt w j cs t) (hj : j ≠ X) : BoxAt w' j cs t := h.same j _ hb (.inl ⟨rfl, hj⟩)
theorem KpO.own {α : Type} {f : α → List Value} {k : Nat} {e : TypeId} {N g n cap X B : Nat} {w w' : World} {l : List α} (h : KpO X B w w') (ho : Own f k e N w g n cap l) (hg : g ≠ X) : Own f k e N w' g n cap l := by
 obtain ⟨h1, h2, h3, h4, cur, hb, h5⟩ := ho
 exact ⟨h1, h2, h3, h4, cur, h.box hb hg, h5⟩
theorem KpO.sl {α : Type} {f : α → List Value} {k : Nat} {e : TypeId} {lo hi n cap X B : Nat} {A : Option Addr} {w w' : World} {l : List α} (h : KpO X B w w') (hs : SlW f k e lo hi w A n cap l) (hX : X < lo ∨ hi ≤ X) : SlW f k e lo hi w' A n cap l :=
 ⟨hs.1, by
  rcases hs.2 with h2 | ⟨b, e, hb, ho⟩
  · exact .inl h2
  ·
   have := ho.2.1
   exact .inr ⟨b, e, hb, h.own ho (by omega)⟩⟩
theorem OwnFrom.up {β : Type} {B B' : Nat} {I : β → World → Prop} (h : OwnFrom B I) (hB : B ≤ B') : OwnFrom B' I := fun s W W' row hs hg hr => h s W W' row hs hg (fun r e => ⟨Nat.le_trans hB (hr r e).1, (hr r e).2⟩)
theorem OwnFrom.below_ {β : Type} {B : Nat} {I : β → World → Prop} (hI : OwnFrom B I) {s : β} {w w' : World} (h : I s w) (hb : Below w.heap.size w w') : I s w' := hI s w w' none h ⟨hb.os, hb.tape, hb.output, hb.size, fun k hk _ => hb.block k hk⟩ (fun r e => by cases e)

theorem KpO.own_ {β : Type} {X B C : Nat} {w : World} (hC : w.heap.size ≤ C) : OwnFrom C (fun (_ : β) W => KpO X B w W) := fun _ W W' row h hg hr =>
 ⟨Nat.le_trans h.size hg.size, fun j o ho hk => by
  have h1 := h.same j o ho hk
  exact (hg.block j (lt_of_some h1) (fun e => by have := (hr j e.symm).1; have := lt_of_some ho; omega)).trans h1⟩ -- kpo_own
theorem KpO.putD {X B D : Nat} {w W : World} {o' : Obj} (h : KpO X B w W) (hD : w.heap.size ≤ D) : KpO X B w (W.putObj D o') :=
 ⟨by have := h.size; simp; omega, fun j o ho hc => (World.putObj_heap_other (by have := lt_of_some ho; omega)).trans (h.same j o ho hc)⟩
theorem marks_own {β : Type} {C : Nat} {Ds : List Nat} (hC : ∀ D ∈ Ds, D < C) : OwnFrom C (fun (_ : β) W => ∀ D ∈ Ds, W.heap[D]? = some (.deferred (some []))) := fun _ W W' row h hg hr D hD =>
 (hg.block D (lt_of_some (h D hD)) (fun e => by have := (hr D e.symm).1; have := hC D hD; omega)).trans (h D hD)
theorem box_own {β : Type} {C Y : Nat} {cs : Array Value} {t : TypeId} : OwnFrom C (fun (_ : β) W => BoxAt W Y cs t) := fun _ W W' row h hg hr =>
 (hg.block Y h.lt (fun e => by obtain ⟨_, o, ho, hc⟩ := hr Y e.symm; unfold BoxAt at h; rw [h] at ho; cases ho; cases hc)).trans h
theorem size_own {β : Type} {C N : Nat} : OwnFrom C (fun (_ : β) W => N ≤ W.heap.size) := fun _ _ _ _ h hg _ => Nat.le_trans h hg.size

theorem RoundIn.wideN {n m : Nat} {P : Program} {l : Nat} {f : FuncId} {tmps : Array Value} {assign body : Code} {w : World} {R : Ending → World → Prop} (l' : Nat)
  (h : RoundIn Fence.wide n P l f tmps assign body w R) : RoundIn (Fence.wide.inRound l') m P l f tmps assign body w R := ⟨h.1, fun c cs _ => h.2 c cs (room_wide _)⟩
theorem RoundIn.wide0 {n m : Nat} {P : Program} {l : Nat} {f : FuncId} {tmps : Array Value} {assign body : Code} {w : World} {R : Ending → World → Prop}
  (h : RoundIn Fence.wide n P l f tmps assign body w R) : RoundIn Fence.wide m P l f tmps assign body w R := ⟨h.1, fun c cs _ => h.2 c cs (room_wide _)⟩

/-- The promise: N values come, whatever they are; the rounds are another loop's, and may be walked through by loops in between. -/
def OrdSeq (P : Program) (X N : Nat) (g : Nat) (lb : Array Value) (w : World) : Prop :=
 ∀ (l : Nat) (J Jx : List Value → World → Prop) (W : World), Below w.heap.size w W → OwnFrom W.heap.size J → OwnFrom W.heap.size Jx →
  (∀ pre x W1, J pre W1 → pre.length < N → YieldAt Fence.wide 0 P l #[x] W1 fun e W' =>
   (e = .returned (.bool true) ∧ J (pre ++ [x]) W' ∧ KpO X W.heap.size W1 W') ∨ (e = .returned (.bool false) ∧ Jx (pre ++ [x]) W' ∧ KpO X W.heap.size W1 W')) →
  J [] W →
  CallsIn Fence.wide 0 P g (#[.func (.yield l) #[] #[]] ++ lb) W fun e W' => (∃ v, e = .returned v) ∧ KpO X W.heap.size W W' ∧ ((∃ xs, xs.length = N ∧ J xs W') ∨ (∃ pre, pre.length ≤ N ∧ Jx pre W'))

/-- How a round may be left. -/
def ordPost (X B : Nat) (I Ix : List Value → World → Prop) (xs : List Value) (W : World) : Exit → Act → World → Prop
 | .normal, _, W' => KpO X B W W' ∧ I xs W'
 | .ret, _, W' => KpO X B W W' ∧ Ix xs W'
 | _, _, _ => False

theorem callsIn_wideN {n m : Nat} {P : Program} {f : FuncId} {args : Array Value} {w : World} {R : Ending → World → Prop} (h : CallsIn Fence.wide n P f args w R) : CallsIn Fence.wide m P f args w R := callsIn_wide.2 (callsIn_wide.1 h)

theorem wpIn_ord {n X N : Nat} {P : Program} {g : Operand} {t : Tmp} {assign body : Code} {Q : Exit → Act → World → Prop} {a : Act} {w : World}
  {gf : Nat} {lb : Array Value} (hg : a.eval g = .func (.func gf) #[] lb) (eg : ∀ args w, (callFunc gf args).run P w = .ok (.enter gf args) w)
  (hseq : OrdSeq P X N gf lb w) (I Ix : List Value → World → Prop) (hI : OwnFrom w.heap.size I) (hIx : OwnFrom w.heap.size Ix) (h0 : I [] w) (a₁ : Value → Act)
  (hassign : ∀ (l : Nat) (x : Value) (W : World) (K : Act → World → Prop), K (a₁ x) W →
   assign.wpIn (Fence.wide.inRound l) 0 P (Exit.then K (fun _ _ _ => False)) { tmps := ((#[t] : Array Tmp).zip #[x]).foldl (fun t (p, v) => t.setIfInBounds p v) a.tmps, defers := [] } W)
  (hbody : ∀ (l : Nat) (pre : List Value) (x : Value) (W : World), w.heap.size ≤ W.heap.size → I pre W → pre.length < N → body.wpIn (Fence.wide.inRound l) 0 P (ordPost X w.heap.size I Ix (pre ++ [x]) W) (a₁ x) W)
  (hdone : ∀ (xs : List Value) (W : World), KpO X w.heap.size w W → xs.length = N → I xs W → W.heap[w.heap.size]? = some (.deferred (some [])) → Q .normal { a with defers := { target := .collected w.heap.size, args := #[] } :: a.defers } W)
  (hstop : ∀ (pre : List Value) (W : World), KpO X w.heap.size w W → pre.length ≤ N → Ix pre W → W.heap[w.heap.size]? = some (.deferred (some [])) → Code.ret.wpIn Fence.wide n P Q { a with defers := { target := .collected w.heap.size, args := #[] } :: a.defers } W) :
  (Code.rangeFunc g #[t] assign body).wpIn Fence.wide n P Q a w := by
 refine wpIn_rangeFunc ?_
 intro fn hfn
 obtain ⟨D, hD⟩ : ∃ D, w.heap.size = D := ⟨_, rfl⟩
 obtain ⟨rec, hrec⟩ : ∃ rec : LoopState → Option Code → Loop, rec = fun st pe => { state := st, pending := pe, fn, tmps := a.tmps, params := #[t], assign, body, defers := D } := ⟨_, rfl⟩
 obtain ⟨W1, hW1⟩ : ∃ W1, (w.alloc (.deferred (some []))).alloc (.loop (rec .ready none)) = W1 := ⟨_, rfl⟩
 have hs1 : W1.heap.size = D + 2 := by rw [← hW1]; simp; omega
 have hL1 : W1.heap[D + 1]? = some (.loop (rec .ready none)) := by
  rw [← hW1]
  have := World.alloc_heap_new (w.alloc (.deferred (some []))) (.loop (rec .ready none))
  rwa [World.size_alloc, hD] at this
 have hK1 : W1.heap[D]? = some (.deferred (some [])) := by
  rw [← hW1, ← hD]
  exact (Below.heap_alloc _ _ _ (by simp)).trans (World.alloc_heap_new w _)
 have hb1 : Below w.heap.size w W1 := by rw [← hW1]; exact ((Below.refl _ w).alloc (Nat.le_refl _) _).alloc (by simp) _
 have hI1 : I [] W1 := OwnFrom.below_ hI h0 hb1
 refine ⟨D + 1, [{ target := .collected D, args := #[] }], W1, { target := .fn (.func gf) lb, args := #[.func (.yield (D + 1)) #[] #[]] }, W1, gf, #[.func (.yield (D + 1)) #[] #[]] ++ lb, W1, ?_, ?_, fun _ _ => trivial, ?_, fun h => (by cases h), ?_⟩
 · rw [← hW1, hrec, ← hD]; exact run_enterLoop_outer _ _ _ _ _
 ·
  simp only [resolve, hg]
  simp [go_sem]
 · simp [invoke, go_sem, eg]
 have lay : ∀ {st : LoopState} {pe : Option Code} (st' : LoopState) (pe' : Option Code) {B : Nat} {Z : World}, Z.heap[D + 1]? = some (.loop (rec st pe)) → D + 2 ≤ B → KpO X B Z (Z.putObj (D + 1) (.loop (rec st' pe'))) := fun st' pe' _ _ h hB => .put _ h rfl (by omega)
 refine callsIn_wideN ((hseq (D + 1)
  (fun pre W => (I pre W ∧ KpO X D w W) ∧ W.heap[D + 1]? = some (.loop (rec .ready none)) ∧ W.heap[D]? = some (.deferred (some [])))
  (fun pre W => (Ix pre W ∧ KpO X D w W) ∧ W.heap[D + 1]? = some (.loop (rec .done (some .ret))) ∧ W.heap[D]? = some (.deferred (some [])))
  W1 hb1 ?_ ?_ ?_ ⟨⟨hI1, .below hb1⟩, hL1, hK1⟩).mono ?_)
 case refine_1 =>
  rintro s A B row ⟨⟨h1, h2⟩, h3, h4⟩ hgr hr
  have hr' : ∀ r, row = some r → w.heap.size ≤ r ∧ ∃ o : Obj, A.heap[r]? = some o ∧ o.isCells = false := fun r e => ⟨by have := (hr r e).1; omega, (hr r e).2⟩
  have hne : ∀ k, k < D + 2 → some k ≠ row := fun k hk e => by have := (hr k e.symm).1; omega
  refine ⟨⟨hI s A B row h1 hgr hr', ⟨Nat.le_trans h2.size hgr.size, fun j o ho hk => ?_⟩⟩, (hgr.block _ (lt_of_some h3) (hne _ (by omega))).trans h3, (hgr.block _ (lt_of_some h4) (hne _ (by omega))).trans h4⟩
  have hA := h2.same j o ho hk
  exact (hgr.block j (lt_of_some hA) (hne j (by have := lt_of_some ho; omega))).trans hA
 case refine_2 =>
  rintro s A B row ⟨⟨h1, h2⟩, h3, h4⟩ hgr hr
  have hr' : ∀ r, row = some r → w.heap.size ≤ r ∧ ∃ o : Obj, A.heap[r]? = some o ∧ o.isCells = false := fun r e => ⟨by have := (hr r e).1; omega, (hr r e).2⟩
  have hne : ∀ k, k < D + 2 → some k ≠ row := fun k hk e => by have := (hr k e.symm).1; omega
  refine ⟨⟨hIx s A B row h1 hgr hr', ⟨Nat.le_trans h2.size hgr.size, fun j o ho hk => ?_⟩⟩, (hgr.block _ (lt_of_some h3) (hne _ (by omega))).trans h3, (hgr.block _ (lt_of_some h4) (hne _ (by omega))).trans h4⟩
  have hA := h2.same j o ho hk
  exact (hgr.block j (lt_of_some hA) (hne j (by have := lt_of_some ho; omega))).trans hA
 case refine_3 =>
  rintro pre x W ⟨⟨hi, hkw⟩, hl, hk⟩ hlen
  have hy := run_yield (P := P) (args := #[x]) hl (by rw [hrec]; rfl)
  refine ⟨_, _, _, _, hy, ?_⟩
  rw [hrec]
  refine roundIn_of_wpIn hfn (hassign _ x W _ ?_)
  have hsz : D + 2 ≤ W.heap.size := by have := lt_of_some hl; omega
  refine ⟨_, run_beginRound hl (by rw [hrec]), ?_⟩
  have e2 : ({ rec .ready none with state := .busy } : Loop) = rec .busy none := by rw [hrec]
  rw [e2]
  obtain ⟨W2, hW2⟩ : ∃ W2, W.putObj (D + 1) (.loop (rec .busy none)) = W2 := ⟨_, rfl⟩
  have hl2 : W2.heap[D + 1]? = some (.loop (rec .busy none)) := by rw [← hW2]; exact World.putObj_heap_same (by omega)
  have hk2 : W2.heap[D]? = some (.deferred (some [])) := by rw [← hW2]; exact (World.putObj_heap_other (by omega)).trans hk
  have hw2 : KpO X (D + 2) W W2 := by rw [← hW2]; exact lay _ _ hl (Nat.le_refl _)
  have hi2 : I pre W2 := by rw [← hW2]; exact hI.putObj _ hi (by omega) hl rfl
  rw [hW2]
  refine wpIn_mono (hbody _ pre x W2 (by have := hw2.size; omega) hi2 hlen) ?_
  have fin : ∀ (st : LoopState) (pe : Option Code) (W3 : World), KpO X D W2 W3 → W3.heap[D + 1]? = some (.loop (rec .busy none)) ∧
    (W3.putObj (D + 1) (.loop (rec st pe))).heap[D + 1]? = some (.loop (rec st pe)) ∧ (W3.putObj (D + 1) (.loop (rec st pe))).heap[D]? = some (.deferred (some [])) ∧
    KpO X (D + 2) W (W3.putObj (D + 1) (.loop (rec st pe))) ∧ KpO X D w (W3.putObj (D + 1) (.loop (rec st pe))) := fun st pe W3 h => by
   have h3 := h.same _ _ hl2 (.inr (by omega))
   have hk3 := h.same _ _ hk2 (.inr (by omega))
   refine ⟨h3, World.putObj_heap_same (lt_of_some h3), (World.putObj_heap_other (by omega)).trans hk3, (hw2.trans (h.mono (by omega))).trans (lay _ _ h3 (Nat.le_refl _)), ?_⟩
   refine ⟨by have := hkw.size; have := hw2.size; have := h.size; simp; omega, fun j o ho hc => ?_⟩
   have hj := lt_of_some ho
   have h4 := hkw.same j o ho hc
   have h5 : W2.heap[j]? = some o := by rw [← hW2]; exact (World.putObj_heap_other (by omega)).trans h4
   exact (World.putObj_heap_other (by omega)).trans (h.same j o h5 hc)
  rintro e a3 W3 hp
  cases e with
  | normal =>
   obtain ⟨hk3, hi3⟩ := hp
   rw [hD] at hk3
   obtain ⟨h3, h4, h5, h6, h7⟩ := fin .ready none W3 hk3
   refine ⟨_, _, run_endRound none h3, .inl ⟨rfl, ?_⟩⟩
   have e3 : ({ rec .busy none with state := if (none : Option Code).isNone then .ready else .done, pending := none } : Loop) = rec .ready none := by rw [hrec]; rfl
   rw [e3, hs1]
   have h8 := hI.putObj (.loop (rec .ready none)) hi3 (by omega) h3 rfl
   rw [hrec] at h4 h5 h6 h7 h8 ⊢
   exact ⟨⟨⟨h8, h7⟩, h4, h5⟩, h6⟩
  | ret =>
   obtain ⟨hk3, hi3⟩ := hp
   rw [hD] at hk3
   obtain ⟨h3, h4, h5, h6, h7⟩ := fin .done (some .ret) W3 hk3
   refine ⟨_, _, run_endRound (some .ret) h3, .inr ⟨rfl, ?_⟩⟩
   have e3 : ({ rec .busy none with state := if (some Code.ret).isNone then .ready else .done, pending := some .ret } : Loop) = rec .done (some .ret) := by rw [hrec]; rfl
   rw [e3, hs1]
   have h8 := hIx.putObj (.loop (rec .done (some .ret))) hi3 (by omega) h3 rfl
   rw [hrec] at h4 h5 h6 h7 h8 ⊢
   exact ⟨⟨⟨h8, h7⟩, h4, h5⟩, h6⟩
  | exit id => exact hp.elim
  | goto t => exact hp.elim
  | panic ch => exact hp.elim
  | outgrown => exact hp.elim
 case refine_4 =>
  have keep : ∀ (st : LoopState) (pe : Option Code) (W2 : World), KpO X D w W2 → KpO X D w (W2.putObj (D + 1) (.loop (rec st pe))) := fun st pe W2 h =>
   ⟨by have := h.size; simp; omega, fun j o ho hc => (World.putObj_heap_other (by have := lt_of_some ho; omega)).trans (h.same j o ho hc)⟩
  rintro e W2 ⟨⟨v, rfl⟩, hkk, (⟨xs, hS, ⟨hi, hkw⟩, hl, hk⟩ | ⟨pre, hS, ⟨hi, hkw⟩, hl, hk⟩)⟩
  ·
   have he := run_endLoop (P := P) hl (by rw [hrec]; simp)
   have e3 : ({ rec .ready none with state := .exhausted } : Loop) = rec .exhausted none := by rw [hrec]
   rw [e3] at he
   have hp : (rec .ready none).pending = none := by rw [hrec]
   rw [hp] at he
   refine ⟨none, _, he, ?_⟩
   subst hD
   exact hdone xs _ (keep _ _ _ hkw) hS (hI.putObj _ hi (by omega) hl rfl) ((World.putObj_heap_other (by omega)).trans hk)
  ·
   have he := run_endLoop (P := P) hl (by rw [hrec]; simp)
   have e3 : ({ rec .done (some .ret) with state := .exhausted } : Loop) = rec .exhausted (some .ret) := by rw [hrec]
   rw [e3] at he
   have hp : (rec .done (some .ret)).pending = some .ret := by rw [hrec]
   rw [hp] at he
   refine ⟨some .ret, _, he, ?_⟩
   subst hD
   exact hstop pre _ (keep _ _ _ hkw) hS (hIx.putObj _ hi (by omega) hl rfl) ((World.putObj_heap_other (by omega)).trans hk)

end Go.Proofs.Ytghgfbncijfocaa

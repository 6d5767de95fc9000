/-
 What walks that keep their own marks share.
-/
import Derived.RangeFuncNested
import Derived.RangeFuncBound
import Derived.RangeFuncCalls
import Derived.RangeFuncLeaves
import Derived.Shelf.Abstract
import Derived.Shelf.RegionOpen
import Derived.WalkKit
import Derived.OwnWalkIn
import Derived.TacticsInMore
import Derived.LoopNIn
import Derived.LoopIn
import Derived.Maps.OwnSet
import Derived.Test.YtiiaimjlohpemaaGreatSli
import Derived.Test.YtiiaimjlohpemaaGreatEvI
namespace Go.Proofs.YtiiaimjlohpemaaGreat
set_option linter.unusedSimpArgs false
set_option linter.unusedVariables false
open Go.RowKit Go.Shelf
set_option linter.unusedVariables false
attribute [local go_sem] Oper.semAt_some

theorem lt_of_some {w : World} {j : Nat} {o : Obj} (h : w.heap[j]? = some o) : j < w.heap.size := (Array.getElem?_eq_some_iff.1 h).1
theorem marks_own {β : Type} {C : Nat} {Ds : List Nat} (hC : ∀ D ∈ Ds, D < C) : OwnFrom C (fun (_ : β) W => ∀ D ∈ Ds, W.heap[D]? = some (.deferred (some []))) := fun _ W W' row h hg hr D hD =>
 (hg.block D (lt_of_some (h D hD)) (fun e => by have := (hr D e.symm).1; have := hC D hD; omega)).trans (h D hD)
theorem box_own {β : Type} {C Y : Nat} {cs : Array Value} {t : TypeId} : OwnFrom C (fun (_ : β) W => BoxAt W Y cs t) := fun _ W W' row h hg hr =>
 (hg.block Y h.lt (fun e => by obtain ⟨_, o, ho, hc⟩ := hr Y e.symm; unfold BoxAt at h; rw [h] at ho; cases ho; cases hc)).trans h

end Go.Proofs.YtiiaimjlohpemaaGreat

/-
 The facts of a story, on plain data: what both sides answer.
-/
namespace Go.Proofs.YtiiaimjlohpemaaGreat
set_option linter.unusedSimpArgs false
set_option linter.unusedVariables false
open Go.RowKit
set_option linter.unusedVariables false

/-! ### The facts -/

def times (l : List Ev) (v : Int) (put : Bool) : Nat := (l.filter fun x => x.put == put && x.v == v && (x.re == 1 || x.re == 4)).length
def nothingTwice (l : List Ev) : Bool := (l.all fun x => !(x.re == 4) || (decide (times l x.v false ≤ times l x.v true) && l.any fun y => y.re == 1 && y.v == x.v && !decide (x.e < y.b))) && storyOk l
def twiceB (l : List Ev) : Bool := l.any fun x => !(x.re == 2) && decide (0 < x.v) && decide (1 < times l x.v x.put)
/-- Was v got by a take that one is not ahead of? -/
def gotB (l : List Ev) (v : Int) (o : Ev) : Bool := match l.find? fun x => x.re == 4 && x.v == v with
 | some x => !decide (o.e < x.b)
 | none => false
def inOrder (l : List Ev) : Bool := storyOk l && (twiceB l || l.all fun x => l.all fun y => !(x.re == 1 && y.re == 1 && decide (x.e < y.b)) || l.all fun z => !(z.re == 4 && z.v == y.v) || gotB l x.v z)
def emptyHeld (l : List Ev) : Bool := storyOk l && (twiceB l || l.all fun x => l.all fun y => !(x.re == 3 && y.re == 1 && decide (y.e < x.b)) || gotB l y.v x)

/-- How many are under way at a time. -/
def busyN (l : List Ev) (c : Int) : Nat := (l.filter fun x => decide (x.b ≤ c) && decide (c ≤ x.e)).length
def busyTo (l : List Ev) : Nat → Nat
 | 0 => 0
 | i + 1 => max (busyTo l i) (match l[i]? with
  | some x => busyN l x.b
  | none => 0)
def busyZ (l : List Ev) : Int := bif storyOk l then (busyTo l l.length : Int) else -1

/-! ### A list, up to a place -/

theorem take_next {l : List Ev} {i : Nat} {x : Ev} (h : l[i]? = some x) : l.take (i + 1) = l.take i ++ [x] := by
 rw [List.take_add_one, h]; rfl
theorem all_to {p : Ev → Bool} {l : List Ev} {i : Nat} {x : Ev} (h : l[i]? = some x) (ha : (l.take i).all p = true) (hx : p x = true) : (l.take (i + 1)).all p = true := by
 rw [take_next h, List.all_append, ha]; simp [hx]
theorem all_no {p : Ev → Bool} {l : List Ev} {i : Nat} {x : Ev} (h : l[i]? = some x) (hx : p x = false) : l.all p = false := by
 rw [List.all_eq_false]; exact ⟨x, List.mem_of_getElem? h, by simp [hx]⟩
theorem all_end {p : Ev → Bool} {l : List Ev} (h : (l.take l.length).all p = true) : l.all p = true := by rwa [List.take_length] at h
theorem any_to {p : Ev → Bool} {l : List Ev} {i : Nat} {x : Ev} (h : l[i]? = some x) : (l.take (i + 1)).any p = ((l.take i).any p || p x) := by
 rw [take_next h, List.any_append]; simp
theorem any_yes {p : Ev → Bool} {l : List Ev} {i : Nat} {x : Ev} (h : l[i]? = some x) (hx : p x = true) : l.any p = true := by
 rw [List.any_eq_true]; exact ⟨x, List.mem_of_getElem? h, hx⟩
theorem cnt_to {p : Ev → Bool} {l : List Ev} {i : Nat} {x : Ev} (h : l[i]? = some x) : ((l.take (i + 1)).filter p).length = ((l.take i).filter p).length + (bif p x then 1 else 0) := by
 rw [take_next h, List.filter_append, List.length_append]
 cases hp : p x <;> simp [hp]
theorem cnt_le {p : Ev → Bool} {l : List Ev} {i : Nat} : ((l.take i).filter p).length ≤ i := Nat.le_trans (List.length_filter_le _ _) (List.length_take_le _ _)
theorem busyN_le (l : List Ev) (c : Int) : busyN l c ≤ l.length := List.length_filter_le _ _
theorem busyTo_le (l : List Ev) : ∀ i, busyTo l i ≤ l.length
 | 0 => Nat.zero_le _
 | i + 1 => by
  have := busyTo_le l i
  rw [busyTo]
  cases l[i]? with
  | none => simp; exact this
  | some x => have := busyN_le l x.b; simp; omega
theorem busyTo_next {l : List Ev} {i : Nat} {x : Ev} (h : l[i]? = some x) : busyTo l (i + 1) = max (busyTo l i) (busyN l x.b) := by rw [busyTo, h]

end Go.Proofs.YtiiaimjlohpemaaGreat

/-
 Maps keyed by numbers, and the program's walk over the events that have one reply.
-/
namespace Go.Proofs.YtiiaimjlohpemaaGreat
set_option linter.unusedSimpArgs false
set_option linter.unusedVariables false
open Go.RowKit Go.Shelf Go.Maps
set_option linter.unusedVariables false
attribute [local go_sem] Oper.semAt_some
attribute [local go_sem ↓] Go.wp_at_zero Go.wp_at_succ

/-! ### A map, as a function -/

def tokV (v : Value) : Option (DataW Value × List MemPlace) := some (.held v, [])
/-- Block B is a map of at most n entries, which holds what f says. -/
def MapIs (w : World) (B n : Nat) (f : Int → Option Value) : Prop :=
 ∃ D : DataW Value, w.ownsMap Tryz.prog 2 tokV B n D ∧ ∀ k, (Lit.int .i64 k).wf = true → ∀ z, D.atKey (.int .i64 k) z = match f k with
  | some v => .held v
  | none => z
theorem key_law : Keyed Tryz.prog 2 := int_keyed Tryz.underlying2
theorem key_of {k : Int} (h : (Lit.int .i64 k).wf = true) : keyOf Tryz.prog 2 (.int .i64 k) = some (.int .i64 k) := keyOf_int_mk Tryz.underlying2 h
theorem key_wf {k : Int} (h0 : 0 ≤ k) (h1 : k ≤ 1000000) : (Lit.int .i64 k).wf = true := WalkArith.wf_i64 (by omega)
theorem MapIs.lt {w : World} {B n : Nat} {f : Int → Option Value} (h : MapIs w B n f) : B < w.heap.size := by obtain ⟨D, h, _⟩ := h; exact h.lt
theorem MapIs.made (w : World) : MapIs (w.alloc (.map #[] 0)) w.heap.size 0 (fun _ => none) :=
 ⟨_, World.ownsMap_made w _ _ _, fun k _ z => rfl⟩
theorem MapIs.kept {w w' : World} {B n : Nat} {f : Int → Option Value} {row : Option Nat} (h : MapIs w B n f) (hg : w.grownBy w' row) (hne : some B ≠ row) : MapIs w' B n f := by
 obtain ⟨D, h1, h2⟩ := h
 exact ⟨D, h1.kept hg hne, h2⟩
theorem grown_b {w w' : World} (h : Below w.heap.size w w') : w.grownBy w' none := ⟨h.os, h.tape, h.output, h.size, fun k hk _ => h.block k hk⟩
theorem MapIs.below {w w' : World} {B n : Nat} {f : Int → Option Value} (h : MapIs w B n f) (hb : Below w.heap.size w w') : MapIs w' B n f := h.kept (grown_b hb) (by simp)
theorem grown_but {w w' : World} {k : Nat} (h : But k w w') : w.grownBy w' (some k) := ⟨h.os, h.tape, h.output, h.size, fun j hj hn => h.block j hj (fun e => hn (by rw [e]))⟩
theorem but_grown {w w' : World} {k : Nat} (h : w.grownBy w' (some k)) : But k w w' := ⟨h.os, h.tape, h.output, h.size, fun j hj hn => h.block j hj (fun e => hn (by injection e))⟩
theorem MapIs.but {w w' : World} {B n k : Nat} {f : Int → Option Value} (h : MapIs w B n f) (hb : But k w w') (hk : B ≠ k) : MapIs w' B n f := h.kept (grown_but hb) (fun e => hk (by injection e))
theorem MapIs.mono {w : World} {B n m : Nat} {f : Int → Option Value} (h : MapIs w B n f) (hm : n ≤ m) : MapIs w B m f := by
 obtain ⟨D, h1, h2⟩ := h
 exact ⟨D, h1.mono hm, h2⟩
theorem mapIs_own {β : Type} {C B n : Nat} {f : Int → Option Value} (hB : B < C) : OwnFrom C (fun (_ : β) W => MapIs W B n f) := fun _ W W' row h hg hr =>
 h.kept hg (fun e => by have := (hr B e.symm).1; omega)

section
variable {w : World} {B n : Nat} {f : Int → Option Value} {t e : TypeId} {z : Value}
theorem MapIs.look (h : MapIs w B n f) (ht : Tryz.prog.underlying t = some (.map 2 e)) (hz : (zeroValue e).run Tryz.prog w = .ok z w) {k : Int} (hk : (Lit.int .i64 k).wf = true) :
  (Instr.lookup t (.map (some B)) (.int .i64 k) false).run Tryz.prog w = .ok ((f k).getD z) w := by
 obtain ⟨D, h1, h2⟩ := h
 obtain ⟨v, ps, hrun, hv⟩ := h1.lookup key_law ht hz (zd := .held z) (zp := []) rfl (key_of hk)
 rw [h2 k hk] at hv
 rw [hrun]
 cases hf : f k with
 | none => rw [hf] at hv; simp [tokV] at hv; simp [hv.1]
 | some u => rw [hf] at hv; simp [tokV] at hv; simp [hv.1]
theorem MapIs.lookOk (h : MapIs w B n f) (ht : Tryz.prog.underlying t = some (.map 2 e)) (hz : (zeroValue e).run Tryz.prog w = .ok z w) {k : Int} (hk : (Lit.int .i64 k).wf = true) :
  (Instr.lookup t (.map (some B)) (.int .i64 k) true).run Tryz.prog w = .ok (.tuple #[(f k).getD z, .bool (f k).isSome]) w := by
 obtain ⟨D, h1, h2⟩ := h
 obtain ⟨v, ps, hrun, hv⟩ := h1.look_ok key_law ht hz (zd := .held z) (zp := []) rfl (key_of hk)
 have h3 := h2 k hk
 rw [h3] at hv
 rw [hrun]
 cases hf : f k with
 | none =>
  rw [hf] at hv h3; simp [tokV] at hv
  rw [Maps.has_false_of_atKey (fun z => h3 z)]
  simp [hv.1]
 | some u =>
  rw [hf] at hv h3; simp [tokV] at hv
  rw [Maps.has_true_of_atKey (fun z => h3 z)]
  simp [hv.1]
theorem MapIs.upd (h : MapIs w B n f) (ht : Tryz.prog.underlying t = some (.map 2 e)) (hn : n < maxLen) {k : Int} (hk : (Lit.int .i64 k).wf = true) (v : Value) :
  ∃ w', (Instr.mapUpdate t (.map (some B)) (.int .i64 k) v).run Tryz.prog w = .ok () w' ∧ MapIs w' B (n + 1) (fun j => if j = k then some v else f j) ∧ But B w w' := by
 obtain ⟨D, h1, h2⟩ := h
 obtain ⟨w', hrun, h3, hg⟩ := h1.update key_law ht hn (key_of hk) (d := .held v) (ps := []) rfl
 refine ⟨w', hrun, ⟨_, h3, fun j hj z => ?_⟩, but_grown hg⟩
 by_cases e : j = k
 ·
  subst e
  rw [Maps.atKey_put_same h1.isMap (key_law.key (key_of hj))]
  simp
 ·
  rw [Maps.atKey_put_other (fun h => e (by injection h)), h2 j hj]
  simp [e]
theorem MapIs.clear (h : MapIs w B n f) (ht : Tryz.prog.underlying t = some (.map 2 e)) :
  ∃ w', (∀ ty, (Builtin.clear_ #[t] ty #[.map (some B)]).run Tryz.prog w = .ok (.tuple #[]) w') ∧ MapIs w' B 0 (fun _ => none) ∧ But B w w' := by
 obtain ⟨D, ⟨es, clock, hb, F, _, _⟩, h2⟩ := h
 refine ⟨Go.ChangeMaps.setBlock w B (.map #[] clock), fun ty => ?_, ⟨.map [], ⟨#[], clock, Go.ChangeMaps.heap_setBlock_same hb _, ⟨by simp, Go.MapKept.stamped_empty clock, by simp⟩, Nat.le_refl _, rfl⟩, fun k _ z => rfl⟩, ?_⟩
 · simp [Builtin.clear_, Go.run_underlying ht, Go.MapKept.run_getObj_map hb, Go.MapKept.run_setObj_map _ hb, Result.andThen, Go.ChangeMaps.setBlock]
 · exact ⟨rfl, rfl, rfl, by simp [Go.ChangeMaps.setBlock], fun i _ hi => Go.ChangeMaps.heap_setBlock_other hb _ hi⟩
end
theorem zero_i (w : World) : (zeroValue 2).run Tryz.prog w = .ok (.int .i64 0) w := by kernel_rfl

end Go.Proofs.YtiiaimjlohpemaaGreat

/-
 The program's walk over the events that have one reply: what it hands on, and the law for a loop over it.
-/
namespace Go.Proofs.YtiiaimjlohpemaaGreat
set_option linter.unusedSimpArgs false
set_option linter.unusedVariables false
open Go.RowKit Go.Shelf Go.Maps
set_option linter.unusedVariables false
attribute [local go_sem] Oper.semAt_some
attribute [local go_sem ↓] Go.wp_at_zero Go.wp_at_succ

/-- An event of the list that has the reply. -/
abbrev EvR (l : List Ev) (r : Int) := { x : Ev // x ∈ l ∧ (x.re == r) = true }
def evC (x : Ev) : Array Value := #[x.who, x.put, x.v, x.re, x.b, x.e]
/-- Blocks below N₀ are kept, and P₀ and the next. -/
def KpR (N₀ P₀ : Nat) (W W' : World) : Prop := Below N₀ W W' ∧ SameIn P₀ (P₀ + 2) W W'
theorem kpR_t {N₀ P₀ : Nat} {A B C : World} (h : KpR N₀ P₀ A B) (k : KpR N₀ P₀ B C) : KpR N₀ P₀ A C := ⟨h.1.trans k.1, h.2.trans k.2⟩
theorem kpR_b {N₀ P₀ : Nat} {w : World} (hn : N₀ ≤ w.heap.size) (hb : P₀ + 2 ≤ w.heap.size) (W : World) (l : Nat) (o o' : Obj) (hl : w.heap.size ≤ l) (h : W.heap[l]? = some o) (h1 : o.isCells = false) (h2 : o.isWalk = false) : KpR N₀ P₀ W (W.putObj l o') :=
 ⟨belowK_b hn W l o o' hl h h1 h2, fun j _ hj => World.putObj_heap_other (by omega)⟩

set_option maxHeartbeats 400000 in
theorem replied_any (A : Option Addr) (n cap : Nat) (r : Int) (w : World) :
  Calls Tryz.prog 19 #[.slice A n cap, r] w (fun e w' => e = .returned (.func (.func 35) #[] #[pT w.heap.size, pT (w.heap.size + 1)]) ∧ w' = (w.alloc (.cells #[.slice A n cap] 24)).alloc (.cells #[r] 2)) := by
 go_enter Tryz.func19, Tryz.ntmps19
 go_wp2
 go_ret
 exact ⟨by simp, rfl⟩

def StopsR {l : List Ev} {r : Int} (J Jx : List (EvR l r) → World → Prop) (e : Ending) (W' : World) : Prop :=
 (∃ v, e = .returned v) ∧ ((∃ ys : List (EvR l r), ys.map (fun y => y.1) = l.filter (fun x => x.re == r) ∧ J ys W') ∨ (∃ pre : List (EvR l r), pre.map (fun y => y.1) <+: l.filter (fun x => x.re == r) ∧ Jx pre W'))

theorem abidesB {β : Type} {B : Nat} {J : β → World → Prop} (hJ : AbidesFrom B J) {s : β} {w w' : World} (h : J s w) (hb : Below w.heap.size w w') : J s w' := hJ s w w' none h (grown_b hb) (fun r e => by cases e)

set_option maxRecDepth 100000 in
set_option maxHeartbeats 2000000 in
theorem rep1_in (m lp N₀ P₀ n cap : Nat) (A : Option Addr) (l : List Ev) (r : Int) (hm : 1 ≤ m) (hn2 : n ≤ 1048576) (J Jx : List (EvR l r) → World → Prop)
  (hY : ∀ pre x W, J pre W → pre.length < n → YieldAt Fence.wide (m - 1) Tryz.prog lp #[.agg (evC x.1)] W fun e W' => (e = .returned (.bool true) ∧ J (pre ++ [x]) W' ∧ KpR N₀ P₀ W W') ∨ (e = .returned (.bool false) ∧ Jx (pre ++ [x]) W'))
  (W : World) (hJ : AbidesFrom W.heap.size J) (hl : BoxAt W P₀ #[.slice A n cap] 24) (hr : BoxAt W (P₀ + 1) #[r] 2) (hL : ∀ Z, Below N₀ W Z → EvsR Z A n l) (hN : N₀ ≤ W.heap.size) (h0 : J [] W) :
  CallsIn Fence.wide m Tryz.prog 35 #[.func (.yield lp) #[] #[], pT P₀, pT (P₀ + 1)] W (StopsR J Jx) := by
 have HL := Lib.hid (hL W (Below.refl _ _)).1
 refine callsIn_of_wp Tryz.func35 rfl trivial ?_ rfl
 simp only [Tryz.ntmps35, List.size_toArray, List.length_cons, List.length_nil, Nat.reduceAdd, Nat.reduceSub, Array.replicate_succ, Array.replicate_zero, List.push_toArray, List.append_toArray, List.nil_append, List.cons_append]
 have kl := hl.cell
 gi_wp2
 clear kl
 gi_loopw [8] (fun s8 wr => ∃ (i : Nat) (pre : List (EvR l r)), i ≤ n ∧ s8 = .int .i64 i ∧ pre.map (fun y => y.1) = (l.take i).filter (fun x => x.re == r) ∧ J pre wr ∧ BoxAt wr (P₀ + 1) #[r] 2 ∧ Below N₀ W wr) (fun s8 _ => n - (intOf s8).toNat)
 case atStart => exact ⟨0, [], Nat.zero_le _, rfl, rfl, h0, hr, Below.refl _ _⟩
 case round =>
  clear hl hr h0
  obtain ⟨i, pre, hi, rfl, hp, hj, hr, hb⟩ := hrel
  have HP := Lib.hid hp; clear hp
  have hlv := hL wr hb
  by_cases hlt : i < n
  ·
   obtain ⟨b, o, x, rfl, _, hx, c0, c1, c2, c3, c4, c5⟩ := SlE.at_ hlv hlt
   have HX := Lib.hid hx; clear hx
   have g1 : (i : Int) < (n : Int) := by omega
   have g2 : (0 : Int) ≤ (i : Int) := by omega
   have hba : Below wr.heap.size wr (wr.alloc (.cells #[x.who, x.put, x.v, x.re, x.b, x.e] 32)) := (Below.refl _ _).alloc (Nat.le_refl _) _
   have hj1 := abidesB hJ hj hba
   have hr1 := hr.below hba hr.lt
   have hb1 : Below N₀ W (wr.alloc (.cells #[x.who, x.put, x.v, x.re, x.b, x.e] 32)) := hb.alloc (Nat.le_trans hN hb.size) _
   have kr := hr1.cell
   clear hba hlv
   have hlen : pre.length ≤ i := by
    have h1 : (pre.map fun y => y.1).length ≤ i := by rw [HP.out]; exact cnt_le
    simpa using h1
   cases hq : (x.re == r)
   ·
    have HN := Lib.hid (show pre.map (fun y => y.1) = (l.take (i + 1)).filter (fun x => x.re == r) by rw [HP.out, take_next HX.out, List.filter_append]; simp [hq])
    gi_wp2
    refine ⟨fun _ h => (by cases h), ?_⟩
    gi_wp2
    go_roundw
    case rel => exact ⟨i + 1, pre, by omega, by go_num, HN.out, hj1, hr1, hb1⟩
    case measure => simp [intOf]; omega
   ·
    have hmem : x ∈ l := List.mem_of_getElem? HX.out
    have HN := Lib.hid (show ((pre ++ [⟨x, hmem, hq⟩] : List (EvR l r)).map fun y => y.1) = (l.take (i + 1)).filter (fun x => x.re == r) by rw [List.map_append, HP.out, take_next HX.out, List.filter_append]; simp [hq])
    obtain ⟨fn, tmps, assign, body, hy, hR⟩ := hY pre ⟨x, hmem, hq⟩ _ hj1 (by omega)
    have HPF := Lib.hid (show ((pre ++ [⟨x, hmem, hq⟩] : List (EvR l r)).map fun y => y.1) <+: l.filter (fun x => x.re == r) by
     rw [HN.out]
     refine ⟨(l.drop (i + 1)).filter (fun x => x.re == r), ?_⟩
     rw [← List.filter_append, List.take_append_drop])
    unfold evC at hy
    dsimp only at hy
    gi_wp2
    refine hR.mono ?_
    rintro e W3 (⟨rfl, hJ3, hk3⟩ | ⟨rfl, hJx3⟩)
    ·
     clear c0 c1 c2 c3 c4 c5 kr hy
     have hr3 : BoxAt W3 (P₀ + 1) #[r] 2 := by
      unfold BoxAt at hr1 ⊢
      rw [hk3.2 (P₀ + 1) (by omega) (by omega)]; exact hr1
     have hb3 := hb1.trans hk3.1
     gi_wp2
     go_roundw
     case rel => exact ⟨i + 1, _, by omega, by go_num, HN.out, hJ3, hr3, hb3⟩
     case measure => simp [intOf]; omega
    ·
     gi_wp2
     refine bodyPost_ret (results_none rfl _ _ _) rfl ?_
     exact ⟨⟨_, rfl⟩, .inr ⟨_, HPF.out, hJx3⟩⟩
  ·
   have g1 : ¬ (i : Int) < (n : Int) := by omega
   obtain rfl : n = i := by omega
   have HF := Lib.hid (show pre.map (fun y => y.1) = l.filter (fun x => x.re == r) by have := HP.out; rw [← HL.out, List.take_length] at this; exact this)
   gi_wp2
   go_end0
   exact ⟨⟨_, rfl⟩, .inl ⟨_, HF.out, hj⟩⟩

theorem rep_stops (m N₀ P₀ n cap : Nat) (A : Option Addr) (l : List Ev) (r : Int) (hm : 1 ≤ m) (hn2 : n ≤ 1048576) (w : World) (hl : BoxAt w P₀ #[.slice A n cap] 24) (hr : BoxAt w (P₀ + 1) #[r] 2) (hL : ∀ Z, Below N₀ w Z → EvsR Z A n l) (hN : N₀ ≤ w.heap.size) :
  SeqStopsK Fence.wide m Tryz.prog 35 #[pT P₀, pT (P₀ + 1)] (fun x : EvR l r => #[.agg (evC x.1)]) (KpR N₀ P₀) (fun ys => ys.map (fun y => y.1) = l.filter (fun x => x.re == r)) (fun pre => pre.map (fun y => y.1) <+: l.filter (fun x => x.re == r)) n w := fun lp J Jx W hW hJ _ hY h0 =>
 rep1_in m lp N₀ P₀ n cap A l r hm hn2 J Jx hY W hJ (hl.below hW hl.lt) (hr.below hW hr.lt) (fun Z hZ => hL Z ((hW.mono hN).trans hZ)) (Nat.le_trans hN hW.size) h0

/-- How a round of such a loop may be left: one block was written that is older than the walk. -/
def repPost (N₀ P₀ : Nat) (I Ix : List Ev → World → Prop) (xs : List Ev) (W : World) : Exit → Act → World → Prop
 | .normal, _, W' => (∃ k, N₀ ≤ k ∧ k < P₀ ∧ But k W W') ∧ I xs W'
 | .ret, _, W' => (∃ k, N₀ ≤ k ∧ k < P₀ ∧ But k W W') ∧ Ix xs W'
 | _, _, _ => False

theorem ownFrom_sz {β : Type} {B N : Nat} : OwnFrom B (fun (_ : β) W => N ≤ W.heap.size) := fun _ _ _ _ h hg _ => Nat.le_trans h hg.size
theorem belowS_own {β : Type} {N C : Nat} {w0 : World} (hN : N ≤ w0.heap.size) (hC : w0.heap.size ≤ C) : OwnFrom C (fun (_ : β) W => Below N w0 W) := fun _ W W' row h hg hr =>
 h.grown hg (Nat.le_trans hN h.size) (fun k e => by have := (hr k e).1; omega)

theorem wpIn_rep {l : List Ev} {r : Int} {A : Option Addr} {nn cap : Nat} {g : Operand} {t : Tmp} {assign body : Code} {Q : Exit → Act → World → Prop} {a : Act} {w : World} (w0 : World) {P₀ : Nat}
  (hg : a.eval g = .func (.func 35) #[] #[pT P₀, pT (P₀ + 1)])
  (h0 : EvsR w0 A nn l) (hn : nn ≤ 1048576) (hB : Below w0.heap.size w0 w) (hP : w0.heap.size ≤ P₀) (hPw : P₀ + 2 ≤ w.heap.size) (hl : BoxAt w P₀ #[.slice A nn cap] 24) (hr : BoxAt w (P₀ + 1) #[r] 2)
  (I Ix : List Ev → World → Prop) (hI : OwnFrom w.heap.size I) (hIx : OwnFrom w.heap.size Ix) (hI0 : I [] w) (a₁ : Ev → Nat → Act)
  (hassign : ∀ (lp : Nat) (x : Ev) (W : World) (K : Act → World → Prop), K (a₁ x W.heap.size) (W.alloc (.cells (evC x) 32)) →
   assign.wpIn (Fence.wide.inRound lp) 1 Tryz.prog (Exit.then K (fun _ _ _ => False)) { tmps := ((#[t] : Array Tmp).zip #[Value.agg (evC x)]).foldl (fun t (p, v) => t.setIfInBounds p v) a.tmps, defers := [] } W)
  (hbody : ∀ (lp : Nat) (pre : List Ev) (x : Ev) (E : Nat) (W : World), w.heap.size ≤ E → x ∈ l → (x.re == r) = true → Below w0.heap.size w0 W → w.heap.size ≤ W.heap.size → BoxAt W E (evC x) 32 → I pre W → pre.length < nn →
   body.wpIn (Fence.wide.inRound lp) 1 Tryz.prog (repPost w0.heap.size P₀ I Ix (pre ++ [x]) W) (a₁ x E) W)
  (hdone : ∀ (D : Nat) (W : World), w.heap.size ≤ D → Below w0.heap.size w0 W → w.heap.size ≤ W.heap.size → I (l.filter fun x => x.re == r) W → W.heap[D]? = some (.deferred (some [])) → Q .normal { a with defers := { target := .collected D, args := #[] } :: a.defers } W)
  (hstop : ∀ (D : Nat) (pre : List Ev) (W : World), w.heap.size ≤ D → Below w0.heap.size w0 W → w.heap.size ≤ W.heap.size → pre <+: (l.filter fun x => x.re == r) → Ix pre W → W.heap[D]? = some (.deferred (some [])) → Code.ret.wpIn Fence.wide 3 Tryz.prog Q { a with defers := { target := .collected D, args := #[] } :: a.defers } W) :
  (Code.rangeFunc g #[t] assign body).wpIn Fence.wide 3 Tryz.prog Q a w := by
 have keep : ∀ {W W' : World} {k : Nat}, w.heap.size ≤ W.heap.size → w0.heap.size ≤ k → k < P₀ → But k W W' → KeepsFrom w.heap.size W W' ∧ KpR w0.heap.size P₀ W W' := fun {W W' k} hs hk hkP hb =>
  ⟨⟨hb.size, fun j o hj ho _ => (hb.block j (lt_of_some ho) (by omega)).trans ho⟩, hb.below hk (by have := hB.size; omega), fun j h1 h2 => hb.block j (by omega) (by omega)⟩
 refine wpIn_rangeFunc_ownH rfl (by omega) (gf := 35) (lb := #[pT P₀, pT (P₀ + 1)]) hg trivial (enters_of Tryz.func35 (by kernel_rfl) rfl)
  (rep_stops 2 w0.heap.size P₀ nn cap A l r (by omega) hn w hl hr (fun Z hZ => SlE.keep EvE.kept h0 (fun j _ hj => (hB.trans hZ).block j hj)) hB.size) kpR_t (kpR_b hB.size hPw) (Below.refl _ _) (fun _ => rfl)
  (fun pre W' => I (pre.map fun y => y.1) W' ∧ w.heap.size ≤ W'.heap.size ∧ Below w0.heap.size w0 W')
  (fun c pre W' => c = .ret ∧ Ix (pre.map fun y => y.1) W' ∧ w.heap.size ≤ W'.heap.size ∧ Below w0.heap.size w0 W')
  (OwnFrom.and (fun s => hI _) (OwnFrom.and ownFrom_sz (belowS_own (Nat.le_refl _) hB.size)))
  (fun c => OwnFrom.and (ownFrom_pure _ (fun _ => c = .ret)) (OwnFrom.and (fun s => hIx _) (OwnFrom.and ownFrom_sz (belowS_own (Nat.le_refl _) hB.size))))
  ⟨hI0, Nat.le_refl _, hB⟩
  (fun x a' W' => ∃ E, w.heap.size ≤ E ∧ BoxAt W' E (evC x.1) 32 ∧ a' = a₁ x.1 E)
  (fun x a' _ X Y row hs hg hr => by obtain ⟨E, h1, h2, h3⟩ := hs; exact ⟨E, h1, box_own (β := Unit) (C := w.heap.size) () X Y row h2 hg hr, h3⟩)
  ?assign ?body ?done ?stop
 case assign =>
  rintro lp pre x W K ⟨hi, hs, hb⟩ hK
  refine hassign lp x.1 W K (hK _ _ ((KeepsOthers.alloc _ _).from _) ⟨(Below.refl _ W).alloc (by have := hB.size; omega) _, fun j _ hj => Below.heap_alloc _ _ _ (by omega)⟩ ⟨hI.alloc _ hi, by simp; omega, hb.alloc hb.size _⟩ ⟨_, hs, BoxAt.new _ _ _, rfl⟩)
 case body =>
  rintro lp pre x a' W _ _ ⟨hi, hs, hb⟩ ⟨E, hE, hx, rfl⟩ hlen
  refine wpIn_mono (hbody lp _ x.1 E W hE x.2.1 x.2.2 hb hs hx hi (by simpa using hlen)) ?_
  rintro e a3 W3 hp
  cases e with
  | normal =>
   obtain ⟨⟨k, h1, h2, h3⟩, h4⟩ := hp
   exact ⟨(keep hs h1 h2 h3).1, (keep hs h1 h2 h3).2, by rw [List.map_append]; exact h4, by have := h3.size; omega, hb.trans (keep hs h1 h2 h3).2.1⟩
  | ret =>
   obtain ⟨⟨k, h1, h2, h3⟩, h4⟩ := hp
   exact ⟨(keep hs h1 h2 h3).1, rfl, by rw [List.map_append]; exact h4, by have := h3.size; omega, hb.trans (keep hs h1 h2 h3).2.1⟩
  | exit id => exact hp.elim
  | goto t => exact hp.elim
  | panic ch => exact hp.elim
  | outgrown => exact hp.elim
 case done =>
  rintro D ys W hD hS ⟨hi, hs, hb⟩ hd
  exact hdone D W hD hb hs (by rw [← hS]; exact hi) hd
 case stop =>
  rintro D c pre W hD hS ⟨rfl, hi, hs, hb⟩ hd
  exact hstop D _ W hD hb hs hS hi hd

/-- A function leaves past its marks. -/
theorem leavesR {n : Nat} {P : Program} {fn : Func} {tmps : Array Value} {R : Ending → World → Prop} {M : Nat} (G : World → Prop) (hr : ∀ W, G W → ∃ v, (results fn tmps).run P W = .ok v W ∧ R (.returned v) W)
  (hp : ∀ W D, M ≤ D → G W → W.heap[D]? = some (.deferred (some [])) → G (W.putObj D (.deferred none))) :
  ∀ (Ds : List Nat) (W : World), Ds.Nodup → (∀ D ∈ Ds, M ≤ D ∧ W.heap[D]? = some (.deferred (some []))) → G W →
   LeavesInM Fence.wide n P fn tmps R (Ds.map fun D => { target := .collected D, args := #[] }) .returning W
 | [], W, _, _, h => hr W h
 | D :: Ds, W, hd, hD, h => by
  have h1 := hD D List.mem_cons_self
  refine ⟨by simp, .inl ⟨D, _, rfl, run_takeDeferred h1.2, ?_⟩⟩
  refine leavesR G hr hp Ds _ (List.nodup_cons.1 hd).2 (fun E hE => ?_) (hp W D h1.1 h h1.2)
  have h2 := hD E (List.mem_cons_of_mem _ hE)
  exact ⟨h2.1, (World.putObj_heap_other (fun e => (List.nodup_cons.1 hd).1 (by rw [← e]; exact hE))).trans h2.2⟩

end Go.Proofs.YtiiaimjlohpemaaGreat


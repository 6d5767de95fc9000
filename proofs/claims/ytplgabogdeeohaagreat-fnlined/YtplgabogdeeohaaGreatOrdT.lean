/-
 What was put and what was got in a story, of both sides.
-/
import Derived.ArgAppend
import Derived.Laws.CopyOwn
import Derived.Deep.Light
import Derived.RangeFuncNested
import Derived.RangeFuncBound
import Derived.RangeFuncCalls
import Derived.RangeFuncLeaves
import Derived.Shelf.Abstract
import Derived.Shelf.RegionOpen
import Derived.WalkKit
import Derived.OwnWalkIn
import Derived.TacticsInMore
import Derived.LoopNIn
import Derived.LoopIn
import Derived.Lib.AppendZeros
import Derived.Deep.RegionWith
import Derived.Sort.CutIn
import Derived.Laws.BitsLemmas
import Derived.Test.YtplgabogdeeohaaGreatEvI
import Derived.Test.YtplgabogdeeohaaGreatGrowV
import Derived.Test.YtplgabogdeeohaaGreatSli
namespace Go.Proofs.YtplgabogdeeohaaGreat
set_option linter.unusedSimpArgs false
set_option linter.unusedVariables false
open Go.RowKit
set_option linter.unusedVariables false
attribute [local go_sem ↓] Go.wp_at_zero Go.wp_at_succ

def movesB (put : Bool) (x : Ev) : Bool := (x.put == put) && (x.re == 1 || x.re == 4)
def mvs (put : Bool) (l : List Ev) : List Int := (l.filter (movesB put)).map Ev.v
def valsOf (put : Bool) (l : List Ev) : List Int := if storyOk l then mvs put l else []
theorem mvs_len (put : Bool) (l : List Ev) : (mvs put l).length ≤ l.length := by
 unfold mvs; rw [List.length_map]; exact List.length_filter_le _ _
theorem mvs_snoc {put : Bool} {l : List Ev} {i : Nat} {x : Ev} (hx : l[i]? = some x) : mvs put (l.take (i + 1)) = mvs put (l.take i) ++ (if movesB put x then [x.v] else []) := by
 unfold mvs
 rw [List.take_add_one, hx]
 simp only [Option.toList_some, List.filter_append, List.map_append]
 cases h : movesB put x <;> simp [h]
theorem mvs_yes {put : Bool} {l : List Ev} {i : Nat} {x : Ev} (hx : l[i]? = some x) (h : movesB put x = true) : mvs put (l.take (i + 1)) = mvs put (l.take i) ++ [x.v] := by rw [mvs_snoc hx, h]; rfl
theorem mvs_no {put : Bool} {l : List Ev} {i : Nat} {x : Ev} (hx : l[i]? = some x) (h : movesB put x = false) : mvs put (l.take (i + 1)) = mvs put (l.take i) := by rw [mvs_snoc hx, h]; simp
theorem vals_small (put : Bool) {l : List Ev} {n : Nat} (h : l.length = n) (hn : n ≤ 1048576) : (valsOf put l).length ≤ 1048576 := by
 unfold valsOf
 split
 · have := mvs_len put l; omega
 · simp
theorem storyOk_at {l : List Ev} (h : storyOk l = true) {i : Nat} {x : Ev} (hx : l[i]? = some x) : evOk x = true := by
 simp only [storyOk, Bool.and_eq_true] at h
 exact List.all_eq_true.1 h.1 x (List.mem_of_getElem? hx)
theorem story_len {l : List Ev} (h : storyOk l = true) : l.length ≤ 16 := by simp [storyOk] at h; exact h.2

theorem int1 (z : Int) : ∀ u ∈ [Value.int .i64 z], u.oneCell' = true := by intro u hu; simp at hu; subst hu; rfl
theorem ints_ge {N : Nat} {w : World} {v : Value} {l : List Int} (h : IntsO N w v l) : ∀ g, v.ownBlock = some g → N ≤ g := fun g hg => by
 rcases h.2 with ⟨h1, _⟩ | ⟨g', cap, cur, hv, hg', _⟩
 · rw [h1] at hg; cases hg
 ·
  rw [hv] at hg
  have : g' = g := by simpa [Value.ownBlock] using hg
  omega
/-- Behind an append of one number to a list of the call's own. -/
theorem ints_snoc {N : Nat} {w' : World} {v' : Value} {o : List Int} {z : Int} (h : w'.ownsRow N 2 1 v' (o.length + 1) (o.flatMap ic ++ [Value.int .i64 z])) : ∃ B c, v' = .slice B (o ++ [z]).length c ∧ IntsO N w' (.slice B (o ++ [z]).length c) (o ++ [z]) := by
 obtain ⟨g', c', rfl, hP⟩ := Own.of_row (f := ic) (l := o ++ [z]) (n := o.length + 1) (by rw [List.flatMap_append]; exact h) (by simp) (by omega)
 exact ⟨some ⟨g', 0, none⟩, c', by simp, by unfold IntsO; have := hP.own ic_len; simpa using this⟩

/-- Two lists of the call's own are returned, one behind the other. -/
def RetInts2 (l m : List Int) (w : World) (e : Ending) (w' : World) : Prop := ∃ A c B d, e = .returned (.tuple #[.slice A l.length c, .slice B m.length d]) ∧ IntsW w.heap.size w'.heap.size w' A l.length c l ∧ IntsW w.heap.size w'.heap.size w' B m.length d m ∧ Below w.heap.size w w'

/-- They lie in two blocks. -/
def BlkNe (v u : Value) : Prop := ∀ k, v.ownBlock = some k → u.ownBlock ≠ some k
theorem BlkNe.symm {v u : Value} (h : BlkNe v u) : BlkNe u v := fun k h1 h2 => h k h2 h1
theorem ints_keep {N : Nat} {w w' : World} {v u : Value} {l : List Int} (h : IntsO N w v l) (hg : w.grownBy w' u.ownBlock) (hne : BlkNe u v) : IntsO N w' v l := by
 refine ⟨h.1, ?_⟩
 rcases h.2 with h' | ⟨g, cap, cur, hv, hgN, hbx, hr⟩
 · exact .inl h'
 · exact .inr ⟨g, cap, cur, hv, hgN, BoxAt.grown2 hbx hg (fun e => hne g e (by rw [hv]; simp [Value.ownBlock])), hr⟩
theorem ints_lt {N : Nat} {w : World} {v : Value} {l : List Int} (h : IntsO N w v l) : ∀ k, v.ownBlock = some k → k < w.heap.size := fun k hk => by
 rcases h.2 with ⟨h1, _⟩ | ⟨g, cap, cur, hv, hgN, hbx, hr⟩
 · rw [h1] at hk; cases hk
 ·
  rw [hv] at hk
  have : g = k := by simpa [Value.ownBlock] using hk
  subst this
  exact (Array.getElem?_eq_some_iff.1 hbx).1
theorem BlkNe.grown {N : Nat} {w w0 : World} {v v' u : Value} {l : List Int} (h : BlkNe v u) (hu : IntsO N w0 u l) (hs : w0.heap.size ≤ w.heap.size) (h' : v'.ownBlock = v.ownBlock ∨ v'.ownBlock = some w.heap.size) : BlkNe v' u := fun k hk hu' => by
 rcases h' with h' | h'
 · exact h k (h'.symm.trans hk) hu'
 ·
  rw [h'] at hk
  injection hk with hk
  have := ints_lt hu k hu'
  omega
theorem ints_w {N : Nat} {w : World} {A : Option Addr} {c : Nat} {l : List Int} (h : IntsO N w (.slice A l.length c) l) : IntsW N w.heap.size w A l.length c l := by
 obtain ⟨A', c', e1, hW⟩ := SlW.of_own (f := ic) (l := l) h rfl
 injection e1 with e1 _ e3
 subst e1 e3
 exact hW

theorem news_at {W : World} {cs : List Value} {t : TypeId} {k : Nat} (h : k = W.heap.size) : ∀ j u, cs[j]? = some u → (W.alloc (.cells cs.toArray t)).cell? ((⟨k, 0, none⟩ : Addr).add j) = some u := by subst h; exact news_alloc W cs t
theorem ta_putDone_putDone (v : Int) (W : World) : (Instr.typeAssert (.iface 86 (.agg #[v])) 80 86 true).run Tryz.prog W = .ok (.tuple #[.agg #[v], .bool true]) W := by kernel_rfl
theorem ta_putDone_gotOne (v : Int) (W : World) : (Instr.typeAssert (.iface 86 (.agg #[v])) 80 88 true).run Tryz.prog W = .ok (.tuple #[.agg #[.int .i64 0], .bool false]) W := by kernel_rfl
theorem ta_putFull_putDone (v : Int) (W : World) : (Instr.typeAssert (.iface 87 (.agg #[v])) 80 86 true).run Tryz.prog W = .ok (.tuple #[.agg #[.int .i64 0], .bool false]) W := by kernel_rfl
theorem ta_putFull_gotOne (v : Int) (W : World) : (Instr.typeAssert (.iface 87 (.agg #[v])) 80 88 true).run Tryz.prog W = .ok (.tuple #[.agg #[.int .i64 0], .bool false]) W := by kernel_rfl
theorem ta_gotOne_putDone (v : Int) (W : World) : (Instr.typeAssert (.iface 88 (.agg #[v])) 80 86 true).run Tryz.prog W = .ok (.tuple #[.agg #[.int .i64 0], .bool false]) W := by kernel_rfl
theorem ta_gotOne_gotOne (v : Int) (W : World) : (Instr.typeAssert (.iface 88 (.agg #[v])) 80 88 true).run Tryz.prog W = .ok (.tuple #[.agg #[v], .bool true]) W := by kernel_rfl
theorem ta_gotNone_putDone (v : Int) (W : World) : (Instr.typeAssert (.iface 89 (.agg #[v])) 80 86 true).run Tryz.prog W = .ok (.tuple #[.agg #[.int .i64 0], .bool false]) W := by kernel_rfl
theorem ta_gotNone_gotOne (v : Int) (W : World) : (Instr.typeAssert (.iface 89 (.agg #[v])) 80 88 true).run Tryz.prog W = .ok (.tuple #[.agg #[.int .i64 0], .bool false]) W := by kernel_rfl

end Go.Proofs.YtplgabogdeeohaaGreat

/-
 Lines: lists of numbers that are read, tested and copied, on both sides.
-/
namespace Go.Proofs.YtplgabogdeeohaaGreat
set_option linter.unusedSimpArgs false
set_option linter.unusedVariables false
open Go.RowKit
set_option linter.unusedVariables false
attribute [local go_sem ↓] Go.wp_at_zero Go.wp_at_succ

/-- A list of numbers that can be read, appended to (into new memory) and cut. -/
def LnR (w : World) (A : Option Addr) (n cap : Nat) (l : List Int) : Prop := IntsR w A n l ∧ (A = none → n = 0 ∧ cap = 0) ∧ n ≤ cap
theorem LnR.below {w w' : World} {A : Option Addr} {n cap : Nat} {l : List Int} (h : LnR w A n cap l) (hb : Below w.heap.size w w') : LnR w' A n cap l := ⟨h.1.below hb, h.2⟩
theorem IntsW.ln {lo hi : Nat} {w : World} {A : Option Addr} {n cap : Nat} {l : List Int} (h : IntsW lo hi w A n cap l) : LnR w A n cap l := by
 refine ⟨h.r, ?_, ?_⟩
 ·
  rintro rfl
  rcases h.2 with ⟨_, h2, h3⟩ | ⟨b, hb, _⟩
  · exact ⟨h2, h3⟩
  · cases hb
 ·
  rcases h.2 with ⟨_, h2, h3⟩ | ⟨b, _, _, ho⟩
  · omega
  · exact ho.2.2.1
theorem flat_at {l : List Int} {j : Nat} {u : Value} (h : (l.flatMap ic)[j]? = some u) : ∃ x, l[j]? = some x ∧ u = .int .i64 x := by
 have e : ∀ l : List Int, l.flatMap ic = l.map (fun z => Value.int .i64 z) := by
  intro l
  induction l with
  | nil => rfl
  | cons x l ih => rw [List.flatMap_cons, ih]; rfl
 rw [e, List.getElem?_map] at h
 cases hx : l[j]? with
 | none => rw [hx] at h; cases h
 | some x => rw [hx] at h; exact ⟨x, rfl, by injection h with h; exact h.symm⟩
theorem IntsR.cells {w : World} {A : Option Addr} {n : Nat} {l : List Int} (h : IntsR w A n l) (ad : Addr) (hA : A = some ad) : ∀ j u, (l.flatMap ic)[j]? = some u → w.cell? (ad.add j) = some u := by
 intro j u hu
 obtain ⟨x, hx, rfl⟩ := flat_at hu
 have hj : j < n := by have := (List.getElem?_eq_some_iff.1 hx).1; have := h.1; omega
 obtain ⟨b, o, x', e, _, hx', c⟩ := SlE.at_ h hj
 rw [hA] at e
 injection e with e
 subst e
 rw [hx] at hx'
 injection hx' with hx'
 subst hx'
 have e2 : (⟨b, o, none⟩ : Addr).add j = ⟨b, o + j * 1, none⟩ := by
  by_cases h : j = 0
  · subst h; simp [Addr.add]
  · simp [Addr.add, h]
 rw [e2]
 exact c
theorem LnR.src {w : World} {A : Option Addr} {n cap : Nat} {l : List Int} (h : LnR w A n cap l) : SrcW ic w A n cap l := ⟨h.1.1, h.2.1, fun ad hA => h.1.cells ad hA⟩
theorem IntsR.drop {w : World} {A B : Option Addr} {n k : Nat} {l : List Int} (h : IntsR w A n l) (hB : ∀ b o, A = some ⟨b, o, none⟩ → k < n → B = some ⟨b, o + k, none⟩) : IntsR w B (n - k) (l.drop k) := by
 have hl := h.1
 refine ⟨by simp [hl], fun hn => ?_⟩
 obtain ⟨b, o, e, h0, hx⟩ := h.2 (by omega)
 refine ⟨b, o + k, hB b o e (by omega), Nat.zero_le _, fun i x hi => ?_⟩
 rw [List.getElem?_drop] at hi
 have := hx (k + i) x hi
 rw [show o + k + i * 1 = o + (k + i) * 1 by omega]
 exact this

theorem IntsO.rd {N : Nat} {w : World} {A : Option Addr} {n cap : Nat} {l : List Int} (h : IntsO N w (.slice A n cap) l) (hn : n = l.length) : IntsR w A n l := by
 obtain ⟨A', c', e, h'⟩ := h.r
 injection e with e1 e2 e3
 subst e1 hn
 exact h'

theorem ints_snoc2 {N : Nat} {w' : World} {v' : Value} {o : List Int} {z : Int} (h : w'.ownsRow N 2 1 v' (o.length + 1) (o.flatMap ic ++ [Value.int .i64 z])) : ∃ B c, v' = .slice B (o.length + 1) c ∧ IntsO N w' (.slice B (o.length + 1) c) (o ++ [z]) := by
 obtain ⟨B, c, e, h'⟩ := ints_snoc h
 rw [show (o ++ [z]).length = o.length + 1 by simp] at e h'
 exact ⟨B, c, e, h'⟩
theorem LnR.tail {lo hi b n cap : Nat} {w : World} {A : Option Addr} {l : List Int} (h : IntsW lo hi w (some ⟨b, 0, none⟩) n cap l) (hn : 1 ≤ n) (hA : (cap = 1 ∧ A = some ⟨b, 0, none⟩) ∨ A = some ⟨b, 1, none⟩) : LnR w A (n - 1) (cap - 1) (l.drop 1) := by
 have hc := h.ln.2.2
 refine ⟨h.r.drop fun b' o e hk => ?_, fun e => ?_, by omega⟩
 ·
  injection e with e
  injection e with e1 e2
  subst e1 e2
  rcases hA with ⟨h1, _⟩ | hA
  · omega
  · exact hA
 · rcases hA with ⟨_, hA⟩ | hA <;> rw [hA] at e <;> cases e

def lineOk (l : List Int) : Bool := l.all valB && decide (l.length ≤ 40)
/-- What LinePut answers. -/
def linePut (l : List Int) (v : Int) : List Int × Bool := bif lineOk l then (bif valB v && !decide (l.length = 40) then (l ++ [v], true) else (l, false)) else ([], false)
/-- What LineTake answers. -/
def lineTake (l : List Int) : List Int × Int × Bool := bif lineOk l then (match l with | [] => ([], 0, false) | x :: t => (t, x, true)) else ([], 0, false)
/-- What Explains answers. -/
def explains (l : List Int) (x : Ev) : List Int × Bool :=
 bif lineOk l then (bif evOk x then (bif x.put then (bif x.re == 1 then linePut l x.v else (l, true)) else (bif x.re == 4 then (bif (lineTake l).2.2 && (lineTake l).2.1 == x.v then ((lineTake l).1, true) else (l, false)) else (l, decide (l.length = 0)))) else (l, false)) else ([], false)

/-- A list of numbers of the call's own, and a bool, are returned. -/
def RetIntB (q : List Int × Bool) (w : World) (e : Ending) (w' : World) : Prop := ∃ A cap, e = .returned (.tuple #[.slice A q.1.length cap, q.2]) ∧ IntsW w.heap.size w'.heap.size w' A q.1.length cap q.1 ∧ Below w.heap.size w w'
/-- A list of numbers of the call's own, a number and a bool are returned. -/
def RetIntVB (q : List Int × Int × Bool) (w : World) (e : Ending) (w' : World) : Prop := ∃ A cap, e = .returned (.tuple #[.slice A q.1.length cap, q.2.1, q.2.2]) ∧ IntsW w.heap.size w'.heap.size w' A q.1.length cap q.1 ∧ Below w.heap.size w w'
theorem ints_none {w w' : World} (h : Below w.heap.size w w') : IntsW w.heap.size (w'.alloc (.cells #[] 2)).heap.size (w'.alloc (.cells #[] 2)) (some ⟨w'.heap.size, 0, none⟩) 0 0 [] := by
 obtain ⟨A', c', e, hW⟩ := SlW.of_own (f := ic) (l := []) (ints_made (N := w.heap.size) rfl h.size) rfl
 injection e with e1 _ e3
 subst e1 e3
 exact hW

/-- A list with one more is returned, and true. -/
theorem RetIntB.snoc {l : List Int} {v : Int} {B : Option Addr} {c N : Nat} {w w' : World} (h : IntsO N w' (.slice B (l.length + 1) c) (l ++ [v])) (hN : w.heap.size ≤ N) (hb : Below w.heap.size w w') : RetIntB (l ++ [v], true) w (.returned (.tuple #[.slice B (l.length + 1) c, .bool true])) w' := by
 have e : (l ++ [v]).length = l.length + 1 := by simp
 rw [← e] at h ⊢
 exact ⟨B, c, rfl, SlW.mono (ints_w h) hN (Nat.le_refl _), hb⟩
theorem RetIntB.mk {l : List Int} {b : Bool} {B : Option Addr} {n c N : Nat} {w w' : World} (h : IntsW N w'.heap.size w' B n c l) (hN : w.heap.size ≤ N) (hb : Below w.heap.size w w') : RetIntB (l, b) w (.returned (.tuple #[.slice B n c, b])) w' := by
 obtain rfl := h.1
 exact ⟨B, c, rfl, SlW.mono h hN (Nat.le_refl _), hb⟩
theorem RetIntB.none {b : Bool} {w w' : World} (hb : Below w.heap.size w w') {k : Nat} (hk : k = w'.heap.size) : RetIntB ([], b) w (.returned (.tuple #[.slice (some ⟨k, 0, none⟩) 0 0, b])) (w'.alloc (.cells #[] 2)) := by
 subst hk
 exact ⟨_, _, rfl, ints_none hb, hb.alloc hb.size _⟩

theorem RetIntVB.mk {l : List Int} {z : Int} {b : Bool} {B : Option Addr} {n c N : Nat} {w w' : World} (h : IntsW N w'.heap.size w' B n c l) (hN : w.heap.size ≤ N) (hb : Below w.heap.size w w') : RetIntVB (l, z, b) w (.returned (.tuple #[.slice B n c, z, b])) w' := by
 obtain rfl := h.1
 exact ⟨B, c, rfl, SlW.mono h hN (Nat.le_refl _), hb⟩
theorem RetIntVB.none {z : Int} {b : Bool} {w w' : World} (hb : Below w.heap.size w w') {k : Nat} (hk : k = w'.heap.size) : RetIntVB ([], z, b) w (.returned (.tuple #[.slice (some ⟨k, 0, none⟩) 0 0, z, b])) (w'.alloc (.cells #[] 2)) := by
 subst hk
 exact ⟨_, _, rfl, ints_none hb, hb.alloc hb.size _⟩
theorem lineOk_no {l : List Int} {i : Nat} {x : Int} (hx : l[i]? = some x) (h : valB x = false) : lineOk l = false := by
 have : l.all valB = false := by rw [List.all_eq_false]; exact ⟨x, List.mem_of_getElem? hx, by simp [h]⟩
 simp [lineOk, this]
theorem allv_yes {l : List Int} (h : ∀ (j : Nat) x, j < l.length → l[j]? = some x → valB x = true) : l.all valB = true := by
 rw [List.all_eq_true]
 intro x hx
 obtain ⟨j, hj⟩ := List.mem_iff_getElem?.1 hx
 exact h j x (List.getElem?_eq_some_iff.1 hj).1 hj
theorem allv_no {l : List Int} {i : Nat} {x : Int} (hx : l[i]? = some x) (h : valB x = false) : l.all valB = false := by
 rw [List.all_eq_false]; exact ⟨x, List.mem_of_getElem? hx, by simp [h]⟩
theorem allv_next {l : List Int} {i : Nat} {x : Int} (h : ∀ (j : Nat) y, j < i → l[j]? = some y → valB y = true) (hx : l[i]? = some x) (hk : valB x = true) : ∀ (j : Nat) y, j < i + 1 → l[j]? = some y → valB y = true := fun j y hj hy => by
 by_cases hji : j < i
 · exact h j y hji hy
 ·
  obtain rfl : j = i := by omega
  rw [hx] at hy
  injection hy with hy
  subst hy
  exact hk
theorem lineOk_snoc {l : List Int} {v : Int} (h : lineOk l = true) : lineOk (l ++ [v]) = (valB v && !decide (l.length = 40)) := by
 have hl := h
 simp [lineOk] at hl
 simp only [lineOk, List.all_append, List.length_append, List.all_cons, List.all_nil, List.length_cons, List.length_nil]
 rw [show l.all valB = true by simpa [List.all_eq_true] using hl.1]
 have : decide (l.length ≤ 39) = !decide (l.length = 40) := by
  by_cases h4 : l.length = 40
  · simp [h4]
  · simp [h4]; omega
 simp [this]
theorem lineOk_len {l : List Int} (h : lineOk l = true) : l.length ≤ 40 := by
 simp [lineOk] at h; exact h.2

set_option maxHeartbeats 400000 in
theorem isNoValue_any (z : Int) (w : World) : Calls Tryz.prog 74 #[z] w (Quiet1 (.bool (!valB z)) w) := by
 go_enter Tryz.func74, Tryz.ntmps74
 go_wp2_with fail
 refine (isValue_any _ _).mono ?_
 rintro e w' ⟨rfl, rfl⟩
 go_wp2
 go_ret
 exact ⟨rfl, rfl⟩

set_option maxHeartbeats 1000000 in
theorem indexNo_any (l : List Int) (A : Option Addr) (n cap : Nat) (w : World) (h : IntsR w A n l) (hn : n ≤ 1073741824) :
  Calls Tryz.prog 87 #[.slice A n cap, .func (.func 74) #[] #[]] w (fun e w' => ∃ z : Int, e = .returned (.int .i64 z) ∧ l.all valB = !decide (0 ≤ z) ∧ Below w.heap.size w w') := by
 have HL := Lib.hid h.1
 go_enter Tryz.func87, Tryz.ntmps87
 go_wp2
 go_loopw [8] (fun s8 W => ∃ i : Nat, i ≤ n ∧ s8 = .int .i64 i ∧ Below w.heap.size w W ∧ ∀ (j : Nat) x, j < i → l[j]? = some x → valB x = true) (fun s8 _ => n - (intOf s8).toNat)
 case atStart => exact ⟨0, Nat.zero_le _, rfl, Below.refl _ _, fun j x h => absurd h (by omega)⟩
 case round =>
  obtain ⟨i, hin, rfl, hB, hal⟩ := hrel
  have HAL := Lib.hid hal; clear hal
  by_cases hlt : i < n
  ·
   obtain ⟨b, o, x, rfl, _, hx, c0⟩ := SlE.at_ (SlE.keep IE.kept h (fun j _ hj => hB.block j hj)) hlt
   unfold IE at c0
   rw [Nat.mul_one] at c0
   have HX := Lib.hid hx; clear hx
   have g1 : (i : Int) < (n : Int) := by omega
   have g2 : (0 : Int) ≤ (i : Int) := by omega
   go_wp2_with fail
   refine (isNoValue_any x _).mono ?_
   rintro e w1 ⟨rfl, rfl⟩
   clear c0
   cases hok : valB x
   ·
    go_wp2
    go_ret
    exact ⟨_, rfl, by rw [allv_no HX.out hok]; simp, hB⟩
   ·
    have HOK := Lib.hid hok; clear hok
    go_wp2
    go_roundw
    case rel => exact ⟨i + 1, by omega, by go_num, hB, allv_next HAL.out HX.out HOK.out⟩
    case measure => simp [intOf]; omega
  ·
   have g1 : ¬ (i : Int) < (n : Int) := by omega
   obtain rfl : n = i := by omega
   go_wp2
   go_ret
   exact ⟨_, rfl, by rw [allv_yes (by rw [HL.out]; exact HAL.out)]; decide, hB⟩

set_option maxHeartbeats 400000 in
theorem ilineOk_any (l : List Int) (A : Option Addr) (n cap : Nat) (w : World) (h : IntsR w A n l) (hn : n ≤ 1073741824) :
  Calls Tryz.prog 54 #[.slice A n cap] w (RetBelow (.bool (lineOk l)) w) := by
 have HL := Lib.hid h.1
 go_enter Tryz.func54, Tryz.ntmps54
 by_cases hgt : (n : Int) ≤ 40
 ·
  go_wp2_with fail
  go_enter Tryz.func73, Tryz.ntmps73
  go_wp2_with fail
  refine (indexNo_any l A n cap _ h hn).mono ?_
  rintro e w1 ⟨z, rfl, hz, hb⟩
  have HV := Lib.hid (show lineOk l = !decide (0 ≤ z) by
   have h1 : decide (l.length ≤ 40) = true := by have := HL.out; simp; omega
   rw [lineOk, h1, Bool.and_true]; exact hz)
  clear hz
  by_cases hz : z ≥ 0
  ·
   go_wp2
   go_ret
   exact .mk (by rw [HV.out]; simp <;> omega) hb
  ·
   go_wp2
   go_ret
   exact .mk (by rw [HV.out]; simp <;> omega) hb
 ·
  go_wp2
  go_ret
  exact .mk (by have := HL.out; simp [lineOk]; omega) (Below.refl _ _)

set_option maxHeartbeats 1000000 in
theorem slineOk_any (l : List Int) (A : Option Addr) (n cap : Nat) (w : World) (h : IntsR w A n l) (hn : n ≤ 1073741824) :
  Calls Tryz.prog 19 #[.slice A n cap] w (RetBelow (.bool (lineOk l)) w) := by
 have HL := Lib.hid h.1
 go_enter Tryz.func19, Tryz.ntmps19
 go_wp2
 go_loopw [3] (fun s3 W => ∃ i : Nat, i ≤ n ∧ s3 = .int .i64 i ∧ Below w.heap.size w W ∧ ∀ (j : Nat) x, j < i → l[j]? = some x → valB x = true) (fun s3 _ => n - (intOf s3).toNat)
 case atStart => exact ⟨0, Nat.zero_le _, rfl, Below.refl _ _, fun j x h => absurd h (by omega)⟩
 case round =>
  obtain ⟨i, hin, rfl, hB, hal⟩ := hrel
  have HAL := Lib.hid hal; clear hal
  by_cases hlt : i < n
  ·
   obtain ⟨b, o, x, rfl, _, hx, c0⟩ := SlE.at_ (SlE.keep IE.kept h (fun j _ hj => hB.block j hj)) hlt
   unfold IE at c0
   rw [Nat.mul_one] at c0
   have HX := Lib.hid hx; clear hx
   have g1 : (i : Int) < (n : Int) := by omega
   have g2 : (0 : Int) ≤ (i : Int) := by omega
   go_wp2_with fail
   refine (l1Value_any x _).mono ?_
   rintro e w1 ⟨rfl, rfl⟩
   clear c0
   cases hok : valB x
   ·
    go_wp2
    go_ret
    exact .mk (by rw [lineOk_no HX.out hok]; rfl) hB
   ·
    have HOK := Lib.hid hok; clear hok
    go_wp2
    go_roundw
    case rel => exact ⟨i + 1, by omega, by go_num, hB, allv_next HAL.out HX.out HOK.out⟩
    case measure => simp [intOf]; omega
  ·
   have g1 : ¬ (i : Int) < (n : Int) := by omega
   obtain rfl : n = i := by omega
   have HV := Lib.hid (show lineOk l = decide ((n : Int) ≤ 40) by
    rw [lineOk, allv_yes (by rw [HL.out]; exact HAL.out), HL.out, Bool.true_and]
    exact decide_eq_decide.2 (by omega))
   go_wp2
   go_ret
   exact .mk (congrArg Value.bool HV.out.symm) hB

set_option maxHeartbeats 1000000 in
theorem cutFrom_any (l : List Int) (A : Option Addr) (n cap k : Nat) (z : Int) (w : World) (h : LnR w A n cap l) (hn : n ≤ 1073741824) (hk : k ≤ n) (hz : z = (k : Int)) :
  Calls Tryz.prog 75 #[.slice A n cap, z] w (fun e w' => ∃ A', e = .returned (.slice A' (n - k) (n - k)) ∧ LnR w' A' (n - k) (n - k) (l.drop k) ∧ Below w.heap.size w w') := by
 subst hz
 obtain ⟨hr, hA, hc⟩ := h
 go_enter Tryz.func75, Tryz.ntmps75
 cases A with
 | none =>
  obtain ⟨rfl, rfl⟩ := hA rfl
  obtain rfl : k = 0 := by omega
  go_wp2
  go_ret
  exact ⟨none, rfl, ⟨hr, fun _ => ⟨rfl, rfl⟩, Nat.le_refl _⟩, Below.refl _ _⟩
 | some ad =>
  have g1 : (0 : Int) ≤ (k : Int) := by omega
  have g2 : (k : Int) ≤ (n : Int) := by omega
  have g3 : (n : Int) ≤ (cap : Int) := by omega
  go_wp2
  ·
   go_ret
   exact ⟨_, rfl, ⟨by
    have := hr.drop (k := k) (B := some ad) fun _ _ _ h => absurd h (by omega)
    rw [show n - k = 0 by omega] at this
    exact this, fun h => ⟨rfl, rfl⟩, Nat.le_refl _⟩, Below.refl _ _⟩
  ·
   go_ret
   exact ⟨_, rfl, ⟨hr.drop fun b o e _ => by injection e with e; subst e; simp [Addr.add], fun h => (by cases h), Nat.le_refl _⟩, Below.refl _ _⟩

set_option maxRecDepth 100000 in
set_option maxHeartbeats 1000000 in
theorem copyOfLine_any (l : List Int) (A : Option Addr) (n cap : Nat) (w : World) (h : IntsR w A n l) (hn : n ≤ 1048576) :
  Calls Tryz.prog 55 #[.slice A n cap] w (RetInts l w) := by
 obtain ⟨i0, hi0, hz0, hz1, hz2⟩ := info_parts int_info
 have hmk : ∀ W : World, (Instr.makeSlice 28 (.int .i64 (n : Int)) (.int .i64 (n : Int))).run Tryz.prog W = .ok (.slice (some ⟨W.heap.size, 0, none⟩) n n) (W.alloc (.cells (madeCells #[.int .i64 0] (n * 1)) 2)) := by
  intro W
  have := run_make (P := Tryz.prog) W 28 2 i0 _ Tryz.underlying28 hi0 hz0 .i64 .i64 n n (by omega) (by omega) (by rw [hz2]; omega) (by omega)
  rw [hz1] at this
  simpa [Value.cells] using this
 have HH := Lib.hid h
 have hsz : (Tryz.prog.info? 2).map (·.size) = some 1 := by rw [hi0]; simp [hz1]
 have HSZ := Lib.hid hsz
 have hmd := Own.made (w := w) (e := 2) ic_len (by omega) (0 : Int) #[.int .i64 0] rfl (Nat.le_refl _) n (by unfold maxLen; omega)
 obtain ⟨_, _, _, _, cur, hcur, hcs, hct⟩ := hmd
 obtain ⟨cl, rfl⟩ : ∃ cl : List Value, cur = cl.toArray := ⟨cur.toList, rfl⟩
 have hcl : cl.length = n := by simpa using hcs
 have HCL := Lib.hid hcl
 rw [Nat.mul_one] at hcur
 have HCUR := Lib.hid hcur
 have HFL := Lib.hid (show (l.flatMap ic).length = n by rw [flat_len _ 1 ic_len, h.1]; omega)
 have HMN := Lib.hid (show (l.flatMap ic).length = Nat.min n n by rw [HFL.out]; exact (Nat.min_self n).symm)
 have HFT := Lib.hid (show 0 + (l.flatMap ic).length ≤ cl.length by rw [HFL.out, HCL.out]; omega)
 clear h hsz hcur hcs hct hcl hz1 hz2 hz0 hi0
 go_enter Tryz.func55, Tryz.ntmps55
 go_wp2_with ((refine wpList_copy_splice rfl (.tmp 7) (.tmp 8) _ _ rfl 2 Tryz.underlying28 HSZ.out (some ⟨w.heap.size, 0, none⟩) A n n n cap rfl rfl w.heap.size 0 cl 2 HCUR.out (l.flatMap ic) HMN.out (fun hp => ⟨rfl, by obtain ⟨b, o, e, _⟩ := HH.out.2 (by rw [HFL.out] at hp; exact hp); exact ⟨_, e, fun j v hv => by have := HH.out.cells _ e j v hv; exact (((Below.refl w.heap.size w).alloc (Nat.le_refl _) _).cell (World.block_lt_of_cell? w _ this)).trans this⟩⟩) HFT.out ic_one w.heap.size w ((Below.refl _ _).alloc (Nat.le_refl _) _) (Nat.le_refl _) ?_; intro w2 hG2 hB2))
 go_ret
 have HS := show splice cl 0 (l.flatMap ic) = l.flatMap ic by
  have hd : cl.drop (0 + (l.flatMap ic).length) = [] := List.drop_eq_nil_of_le (by rw [HFL.out, HCL.out]; omega)
  rw [splice, hd]; simp
 have hG3 := hG2.out
 rw [HS] at hG3
 have hl := HH.out.1
 refine ⟨some ⟨w.heap.size, 0, none⟩, n, by rw [hl]; rfl, ⟨rfl, .inr ⟨_, rfl, (Array.getElem?_eq_some_iff.1 hG3).1, rfl, Nat.le_refl _, Nat.le_of_eq hl, by unfold maxLen; omega, _, hG3, ?_, ?_⟩⟩, hB2⟩
 ·
  simp only [List.size_toArray]
  rw [HFL.out]; omega
 ·
  rw [hl]
  exact List.take_of_length_le (by simp only [List.toList_toArray]; rw [HFL.out]; omega)

theorem copyOfLineN (l : List Int) (A : Option Addr) (n cap : Nat) (w : World) (h : IntsR w A n l) (hn : n ≤ 1048576) :
  Calls Tryz.prog 55 #[.slice A n cap] w (fun e w' => ∃ A' c, e = .returned (.slice A' n c) ∧ IntsW w.heap.size w'.heap.size w' A' n c l ∧ Below w.heap.size w w') := by
 obtain rfl := h.1
 refine (copyOfLine_any l A _ cap w h hn).mono ?_
 rintro e w' ⟨A', c, rfl, hW, hb⟩
 exact ⟨A', c, rfl, hW, hb⟩

end Go.Proofs.YtplgabogdeeohaaGreat

/-
 What a line does: put, taken, and what an event makes of it, on both sides.
-/
namespace Go.Proofs.YtplgabogdeeohaaGreat
set_option linter.unusedSimpArgs false
set_option linter.unusedVariables false
open Go.RowKit
set_option linter.unusedVariables false
attribute [local go_sem ↓] Go.wp_at_zero Go.wp_at_succ

set_option maxRecDepth 100000 in
set_option maxHeartbeats 2000000 in
theorem ilinePut_any (l : List Int) (v : Int) (A : Option Addr) (n cap : Nat) (w : World) (h : LnR w A n cap l) (hn : n ≤ 1048576) :
  Calls Tryz.prog 56 #[.slice A n cap, v] w (RetIntB (linePut l v) w) := by
 obtain ⟨i0, hi0, hz0, hz1, hz2⟩ := info_parts int_info
 have HI := Lib.hid hi0
 have HZ0 := Lib.hid hz0
 have HZ1 := Lib.hid hz1
 have HZ2 := Lib.hid hz2
 clear hi0 hz0 hz1 hz2
 have HL := Lib.hid h.1.1
 go_enter Tryz.func56, Tryz.ntmps56
 go_wp2_with fail
 refine (ilineOk_any l A n cap _ h.1 (by omega)).mono ?_
 rintro e w1 ⟨rfl, hb1⟩
 have hB := hb1
 replace h := h.below hb1
 clear hb1
 cases hok : lineOk l
 ·
  have HQ := Lib.hid (show linePut l v = ([], false) by simp [linePut, hok])
  clear hok
  go_wp2
  go_ret2
  rw [HQ.out]
  exact .none hB rfl
 have HOK := Lib.hid hok
 have hn4 : n ≤ 40 := by rw [← HL.out]; exact lineOk_len hok
 clear hok
 go_wp2_with fail
 refine (cutFrom_any l A n cap 0 _ _ h (by omega) (by omega) rfl).mono ?_
 rintro e w2 ⟨A2, rfl, hL2, hb2⟩
 rw [Nat.sub_zero, List.drop_zero] at hL2
 rw [Nat.sub_zero]
 replace h := h.below hb2
 replace hB := bstep hB hB.size hb2
 clear hb2
 have HL2 := Lib.hid hL2
 go_wp2_with (refine wpList_append_grows _ rfl (.tmp 12) (.tmp 14) _ rfl 2 i0 _ 1 8 Tryz.underlying28 HI.out HZ0.out HZ1.out HZ2.out rfl (by omega) A2 n n (l.flatMap ic) rfl HL2.out.2.1 (by rw [flat_len _ 1 ic_len, HL.out]) (fun b hb j u hu => by have := HL2.out.1.cells b hb j u hu; exact (((Below.refl w2.heap.size w2).alloc (Nat.le_refl _) _).cell (World.block_lt_of_cell? _ _ this)).trans this) ⟨w2.heap.size, 0, none⟩ 1 1 [v] rfl rfl (news_alloc _ _ _) (int1 _) (by omega) (by unfold maxLen; omega) (by omega) ?_; intro v' w3 hO' hg3; obtain ⟨B3, c3, rfl, hP3⟩ := ints_snoc2 (by rw [HL.out]; exact hO'))
 have hb3 : Below w2.heap.size w2 w3 := Below.grown ((Below.refl _ _).alloc (Nat.le_refl _) _) hg3 (by simp) (fun k hk => by cases hk)
 replace h := h.below hb3
 replace hP3 := IntsO.mono hP3 (M := w.heap.size) (by simp; have := hB.size; omega)
 replace hB := bstep hB hB.size hb3
 clear hO' hg3 hb3 hL2 HL2
 refine (ilineOk_any (l ++ [v]) B3 (l.length + 1) c3 _ (hP3.rd (by simp)) (by have := HL.out; omega)).mono ?_
 rintro e w4 ⟨rfl, hb4⟩
 replace h := h.below hb4
 replace hP3 := hP3.below hb4
 replace hB := bstep hB hB.size hb4
 clear hb4
 have HQ0 := Lib.hid (show linePut l v = bif lineOk (l ++ [v]) then (l ++ [v], true) else (l, false) by rw [linePut, HOK.out, lineOk_snoc HOK.out]; rfl)
 cases hok : lineOk (l ++ [v])
 ·
  have HQ := Lib.hid (show linePut l v = (l, false) by rw [HQ0.out, hok]; rfl)
  clear hok HQ0
  go_wp2_with fail
  refine (copyOfLine_any l A n cap _ h.1 hn).mono ?_
  rintro e w5 ⟨A5, c5, rfl, hW5, hb5⟩
  have hs := hB.size
  replace hB := bstep hB hB.size hb5
  go_wp2
  go_ret2
  rw [HQ.out]
  exact .mk hW5 hs hB
 ·
  have HQ := Lib.hid (show linePut l v = (l ++ [v], true) by rw [HQ0.out, hok]; rfl)
  clear hok HQ0
  go_wp2
  go_ret2
  rw [HQ.out]
  exact .snoc hP3 (Nat.le_refl _) hB

set_option maxRecDepth 100000 in
set_option maxHeartbeats 2000000 in
theorem slinePut_any (l : List Int) (v : Int) (A : Option Addr) (n cap : Nat) (w : World) (h : LnR w A n cap l) (hn : n ≤ 1048576) :
  Calls Tryz.prog 21 #[.slice A n cap, v] w (RetIntB (linePut l v) w) := by
 obtain ⟨i0, hi0, hz0, hz1, hz2⟩ := info_parts int_info
 have HI := Lib.hid hi0
 have HZ0 := Lib.hid hz0
 have HZ1 := Lib.hid hz1
 have HZ2 := Lib.hid hz2
 clear hi0 hz0 hz1 hz2
 have HL := Lib.hid h.1.1
 go_enter Tryz.func21, Tryz.ntmps21
 go_wp2_with fail
 refine (slineOk_any l A n cap _ h.1 (by omega)).mono ?_
 rintro e w1 ⟨rfl, hb1⟩
 have hB := hb1
 replace h := h.below hb1
 clear hb1
 cases hok : lineOk l
 ·
  have HQ := Lib.hid (show linePut l v = ([], false) by simp [linePut, hok])
  clear hok
  go_wp2
  go_ret2
  rw [HQ.out]
  exact .none hB rfl
 have HOK := Lib.hid hok
 have hn4 : n ≤ 40 := by rw [← HL.out]; exact lineOk_len hok
 clear hok
 go_wp2_with fail
 refine (l1Value_any v _).mono ?_
 rintro e w2 ⟨rfl, rfl⟩
 have HQ0 := Lib.hid (show linePut l v = bif valB v && !decide (n = 40) then (l ++ [v], true) else (l, false) by rw [linePut, HOK.out, HL.out]; rfl)
 cases hv : valB v
 ·
  have HQ := Lib.hid (show linePut l v = (l, false) by rw [HQ0.out, hv]; rfl)
  clear hv HQ0
  go_wp2_with fail
  refine (l1Copy_any l A n cap _ h.src hn).mono ?_
  rintro e w5 ⟨A5, c5, rfl, hW5, hb5⟩
  go_wp2
  go_ret2
  rw [HQ.out]
  exact .mk hW5 hB.size (bstep hB hB.size hb5)
 by_cases h40 : n = 40
 ·
  have HQ := Lib.hid (show linePut l v = (l, false) by rw [HQ0.out, hv, h40]; rfl)
  subst h40
  clear hv HQ0
  go_wp2_with fail
  refine (l1Copy_any l A _ cap _ h.src hn).mono ?_
  rintro e w5 ⟨A5, c5, rfl, hW5, hb5⟩
  go_wp2
  go_ret2
  rw [HQ.out]
  exact .mk hW5 hB.size (bstep hB hB.size hb5)
 ·
  have HQ := Lib.hid (show linePut l v = (l ++ [v], true) by rw [HQ0.out, hv]; simp [h40])
  clear hv HQ0
  have g1 : ¬ (n : Int) = 40 := by omega
  go_wp2_with fail
  refine (l1Copy_any l A n cap _ h.src hn).mono ?_
  rintro e w5 ⟨A5, c5, rfl, hW5, hb5⟩
  have hO5 := IntsW.o hW5
  clear hW5
  go_wp2_with (at_builtin; go_must (refine wpList_append_own_at _ rfl (.tmp 21) (.tmp 23) _ rfl w1.heap.size 2 i0 _ 1 8 Tryz.underlying28 HI.out HZ0.out HZ1.out HZ2.out rfl (by omega) (.slice A5 l.length c5) l.length _ rfl (hO5.below ((Below.refl _ _).alloc (Nat.le_refl _) _)) ⟨w5.heap.size, 0, none⟩ 1 1 [v] rfl rfl (news_at rfl) (int1 _) (by have := HL.out; unfold maxLen; omega) (by have := HL.out; omega) (by simp; have := hb5.size; omega) ?_; intro v' w6 hO' hg' hz' hat'; obtain ⟨B6, c6, rfl, hP6⟩ := ints_snoc2 hO'; have hB6 := Below.grown ((bstep hB hB.size hb5).alloc (Nat.le_trans hB.size hb5.size) _) hg' (by simp; have := hB.size; have := hb5.size; omega) (fun k hk => Nat.le_trans hB.size (ints_ge hO5 k hk))))
  go_ret2
  rw [HQ.out]
  exact .snoc hP6 hB.size hB6

def ltIV (M b n cap : Nat) (l : List Int) (x : Int) : List Sl := [.v (.slice (some ⟨b, 0, none⟩) n cap),
 .e fun σ w => ∃ (A1 : Option Addr) (k1 : Nat), σ 1 = .slice A1 (n - 1) k1 ∧ LnR w A1 (n - 1) k1 (l.drop 1),
 .e fun σ w => ∃ (A2 : Option Addr) (c2 : Nat), σ 2 = .slice A2 (n - 1) c2 ∧ IntsW M w.heap.size w A2 (n - 1) c2 (l.drop 1),
 .v (.slice (some ⟨b, 0, none⟩) n cap),
 .v (pT b),
 .v x,
 .e fun σ w => ∃ (A2 : Option Addr) (c2 : Nat), σ 6 = .slice A2 (n - 1) c2 ∧ IntsW M w.heap.size w A2 (n - 1) c2 (l.drop 1),
 .v x,
 .v (.bool true)]

set_option maxRecDepth 100000 in
set_option maxHeartbeats 2000000 in
theorem ilineTake_any (l : List Int) (A : Option Addr) (n cap lo hi : Nat) (w : World) (h : IntsW lo hi w A n cap l) (hh : hi ≤ w.heap.size) (hn : n ≤ 1048576) :
  Calls Tryz.prog 57 #[.slice A n cap] w (RetIntVB (lineTake l) w) := by
 have HL := Lib.hid h.1
 go_enter Tryz.func57, Tryz.ntmps57
 go_wp2_with fail
 refine (ilineOk_any l A n cap _ h.r (by omega)).mono ?_
 rintro e w1 ⟨rfl, hb1⟩
 have hB := hb1
 replace h := SlW.below h hb1 hh
 replace hh := Nat.le_trans hh hb1.size
 clear hb1
 cases hok : lineOk l
 ·
  have HQ := Lib.hid (show lineTake l = ([], 0, false) by simp [lineTake, hok])
  clear hok
  go_wp2
  go_ret3
  rw [HQ.out]
  exact .none hB rfl
 have HOK := Lib.hid hok
 have hn4 : n ≤ 40 := by rw [← HL.out]; exact lineOk_len hok
 clear hok
 by_cases h0 : n = 0
 ·
  have HQ := Lib.hid (show lineTake l = ([], 0, false) by
   have := List.eq_nil_of_length_eq_zero (HL.out.trans h0)
   subst this
   simp [lineTake])
  subst h0
  go_wp2
  go_ret3
  rw [HQ.out]
  exact .none hB rfl
 obtain ⟨b, x, rfl, _, _, hx, hcx⟩ := SlW.at_ h ic_len (i := 0) (by omega)
 have hxc : CellsAt w1 b 0 [x] := fun j u hu => by have := hcx j u hu; rw [Nat.zero_mul] at this; exact this
 have HQ := Lib.hid (show lineTake l = (l.drop 1, x, true) by
  cases l with
  | nil => simp at hx
  | cons y t => simp at hx; subst hx; simp [lineTake, HOK.out])
 have hn1 : 1 ≤ n := by omega
 have hnc : n ≤ cap := (IntsW.ln h).2.2
 have hI := h
 have hhi := hh
 obtain ⟨M, hMe⟩ : ∃ M, M = w1.heap.size := ⟨_, rfl⟩
 have hM : M ≤ w1.heap.size := by omega
 have hW0 : w.heap.size ≤ M := by have := hB.size; omega
 clear hMe
 clear hx hcx h hh
 have g1 : ¬ (n : Int) = 0 := by omega
 have hn0 : 0 < n := hn1
 have hn2 : (1 : Int) ≤ (n : Int) := by omega
 go_upto_region 3 with fail
 refine wp_region2v (fun w w' => Below w.heap.size w w') (fun _ _ h => h.size) (fun _ => Below.refl _ _) (fun L W' => Below w.heap.size w W' ∧ M ≤ W'.heap.size ∧ hi ≤ W'.heap.size ∧ IntsW lo hi W' (some ⟨b, 0, none⟩) n cap l ∧ CellsAt W' b 0 [x]) (ltIV M b n cap l x) (fun _ => 0) [] (by kernel_rfl) (by kernel_rfl) ?_ ?_ ?_
  (.still rfl ?a0 <| .grow rfl ?a1 <| .grow rfl ?a2 <| .still rfl ?a3 <| .still rfl ?a4 <| .still rfl ?a5 <| .still rfl ?a6 <| .still rfl ?a7 <| .still rfl ?a8 <| .nil) ?_ ?_
 · exact ⟨fun _ _ _ h ⟨A1, k1, e, hp⟩ => ⟨A1, k1, (h 1 (List.mem_singleton.2 rfl)).symm.trans e, hp⟩, fun _ _ _ h ⟨A2, c2, e, hp⟩ => ⟨A2, c2, (h 2 (List.mem_singleton.2 rfl)).symm.trans e, hp⟩, fun _ _ _ h ⟨A2, c2, e, hp⟩ => ⟨A2, c2, (h 6 (List.mem_singleton.2 rfl)).symm.trans e, hp⟩, trivial⟩
 · exact ⟨fun σ w w' hb ⟨A1, k1, e, hp⟩ => ⟨A1, k1, e, hp.below hb⟩, fun σ w w' hb ⟨A2, c2, e, hp⟩ => ⟨A2, c2, e, hp.belowS hb⟩, fun σ w w' hb ⟨A2, c2, e, hp⟩ => ⟨A2, c2, e, hp.belowS hb⟩, trivial⟩
 · exact ⟨hB.drew, hM, hhi, hI, hxc⟩
 case a0 | a3 | a4 | a7 | a8 =>
  go_light
  intro L σ W' hcl hL hC hw
  try have e3 := wT hw 3 rfl
  try have e5 := wT hw 5 rfl
  clear hw hcl hL hC
  refine OpGoes.go fun K hK => ?_
  go_simp
  exact hK _ _ ⟨rfl, rfl⟩
 case a5 =>
  go_light
  intro L σ W' hcl hL hC hw
  have e4 := wV hw 4 rfl
  have dj := hC.2.2.2.2 0 _ rfl
  clear hw hcl hL hC
  refine OpGoes.go fun K hK => ?_
  go_simp
  exact hK _ _ ⟨rfl, rfl⟩
 case a1 =>
  go_light
  intro L σ W' hcl hL hC hw
  have e0 := wV hw 0 rfl
  clear hw
  have HC := Lib.hid hC
  clear hC
  clear hcl hL
  refine OpGoes.go fun K hK => ?_
  go_simp
  obtain ⟨hB, hM, hhi, hI, hxc⟩ := HC.out
  refine (cutFrom_any l (some ⟨b, 0, none⟩) n cap 1 _ _ (IntsW.ln hI) (by omega) hn1 rfl).mono ?_
  rintro e w1 ⟨A1, rfl, hL1, hb1⟩
  exact ⟨_, rfl, hK _ _ ⟨⟨bstep hB hB.size hb1, Nat.le_trans hM hb1.size, Nat.le_trans hhi hb1.size, SlW.below hI hb1 hhi, hxc.below hb1⟩, ⟨A1, n - 1, rfl, hL1⟩, hb1⟩⟩
 case a2 =>
  go_light
  intro L σ W' hcl hL hC hw
  obtain ⟨A1, k1, e1, hp1⟩ := wE hw 1 rfl
  clear hw
  have HC := Lib.hid hC
  clear hC
  clear hcl hL
  refine OpGoes.go fun K hK => ?_
  go_simp
  obtain ⟨hB, hM, hhi, hI, hxc⟩ := HC.out
  refine (copyOfLineN (l.drop 1) A1 (n - 1) k1 _ hp1.1 (by omega)).mono ?_
  rintro e w1 ⟨A2, c2, rfl, hW2, hb1⟩
  exact ⟨_, rfl, hK _ _ ⟨⟨bstep hB hB.size hb1, Nat.le_trans hM hb1.size, Nat.le_trans hhi hb1.size, SlW.below hI hb1 hhi, hxc.below hb1⟩, ⟨A2, c2, rfl, SlW.mono hW2 hM (Nat.le_refl _)⟩, hb1⟩⟩
 case a6 =>
  go_light
  intro L σ W' hcl hL hC hw
  obtain ⟨A2, c2, e2, hp2⟩ := wE hw 2 rfl
  clear hw hcl hL hC
  refine OpGoes.go fun K hK => ?_
  go_simp
  exact hK _ _ ⟨rfl, ⟨A2, c2, rfl, hp2⟩⟩
 ·
  intro L L' W' hLL hC
  obtain ⟨hB, hM, hhi, hI, hxc⟩ := hC
  exact ⟨hB, hM, hhi, hI, hxc⟩
 ·
  intro σ L W' hall hC hRR
  obtain ⟨hB, hM, hhi, hI, hxc⟩ := hC
  obtain ⟨A2, c2, e6, hp6⟩ := dE hRR 6 rfl
  have e7 := dV hRR 7 rfl
  have e8 := dV hRR 8 rfl
  clear hRR
  simp only [lexAll]
  go_simp
  go_wp2
  go_ret3
  rw [HQ.out]
  exact .mk hp6 hW0 hB

def ltSV (M b n cap : Nat) (l : List Int) (x : Int) : List Sl := [.v (.slice (some ⟨b, 0, none⟩) n cap),
 .e fun σ w => ∃ (A1 : Option Addr) (k1 : Nat), σ 1 = .slice A1 (n - 1) k1 ∧ LnR w A1 (n - 1) k1 (l.drop 1),
 .e fun σ w => ∃ (A2 : Option Addr) (c2 : Nat), σ 2 = .slice A2 (n - 1) c2 ∧ IntsW M w.heap.size w A2 (n - 1) c2 (l.drop 1),
 .v (.slice (some ⟨b, 0, none⟩) n cap),
 .v (pT b),
 .v x,
 .e fun σ w => ∃ (A2 : Option Addr) (c2 : Nat), σ 6 = .slice A2 (n - 1) c2 ∧ IntsW M w.heap.size w A2 (n - 1) c2 (l.drop 1),
 .v x,
 .v (.bool true)]

set_option maxRecDepth 100000 in
set_option maxHeartbeats 2000000 in
theorem slineTake_any (l : List Int) (A : Option Addr) (n cap lo hi : Nat) (w : World) (h : IntsW lo hi w A n cap l) (hh : hi ≤ w.heap.size) (hn : n ≤ 1048576) :
  Calls Tryz.prog 22 #[.slice A n cap] w (RetIntVB (lineTake l) w) := by
 have HL := Lib.hid h.1
 go_enter Tryz.func22, Tryz.ntmps22
 go_wp2_with fail
 refine (slineOk_any l A n cap _ h.r (by omega)).mono ?_
 rintro e w1 ⟨rfl, hb1⟩
 have hB := hb1
 replace h := SlW.below h hb1 hh
 replace hh := Nat.le_trans hh hb1.size
 clear hb1
 cases hok : lineOk l
 ·
  have HQ := Lib.hid (show lineTake l = ([], 0, false) by simp [lineTake, hok])
  clear hok
  go_wp2
  go_ret3
  rw [HQ.out]
  exact .none hB rfl
 have HOK := Lib.hid hok
 have hn4 : n ≤ 40 := by rw [← HL.out]; exact lineOk_len hok
 clear hok
 by_cases h0 : n = 0
 ·
  have HQ := Lib.hid (show lineTake l = ([], 0, false) by
   have := List.eq_nil_of_length_eq_zero (HL.out.trans h0)
   subst this
   simp [lineTake])
  subst h0
  go_wp2
  go_ret3
  rw [HQ.out]
  exact .none hB rfl
 obtain ⟨b, x, rfl, _, _, hx, hcx⟩ := SlW.at_ h ic_len (i := 0) (by omega)
 have hxc : CellsAt w1 b 0 [x] := fun j u hu => by have := hcx j u hu; rw [Nat.zero_mul] at this; exact this
 have HQ := Lib.hid (show lineTake l = (l.drop 1, x, true) by
  cases l with
  | nil => simp at hx
  | cons y t => simp at hx; subst hx; simp [lineTake, HOK.out])
 have hn1 : 1 ≤ n := by omega
 have hnc : n ≤ cap := (IntsW.ln h).2.2
 have hI := h
 have hhi := hh
 obtain ⟨M, hMe⟩ : ∃ M, M = w1.heap.size := ⟨_, rfl⟩
 have hM : M ≤ w1.heap.size := by omega
 have hW0 : w.heap.size ≤ M := by have := hB.size; omega
 clear hMe
 clear hx hcx h hh
 have g1 : ¬ (n : Int) = 0 := by omega
 have hn0 : 0 < n := hn1
 have hn2 : (1 : Int) ≤ (n : Int) := by omega
 go_upto_region 5 with fail
 refine wp_region2v (fun w w' => Below w.heap.size w w') (fun _ _ h => h.size) (fun _ => Below.refl _ _) (fun L W' => Below w.heap.size w W' ∧ M ≤ W'.heap.size ∧ hi ≤ W'.heap.size ∧ IntsW lo hi W' (some ⟨b, 0, none⟩) n cap l ∧ CellsAt W' b 0 [x]) (ltSV M b n cap l x) (fun _ => 0) [] (by kernel_rfl) (by kernel_rfl) ?_ ?_ ?_
  (.still rfl ?a0 <| .grow rfl ?a1 <| .grow rfl ?a2 <| .still rfl ?a3 <| .still rfl ?a4 <| .still rfl ?a5 <| .still rfl ?a6 <| .still rfl ?a7 <| .still rfl ?a8 <| .nil) ?_ ?_
 · exact ⟨fun _ _ _ h ⟨A1, k1, e, hp⟩ => ⟨A1, k1, (h 1 (List.mem_singleton.2 rfl)).symm.trans e, hp⟩, fun _ _ _ h ⟨A2, c2, e, hp⟩ => ⟨A2, c2, (h 2 (List.mem_singleton.2 rfl)).symm.trans e, hp⟩, fun _ _ _ h ⟨A2, c2, e, hp⟩ => ⟨A2, c2, (h 6 (List.mem_singleton.2 rfl)).symm.trans e, hp⟩, trivial⟩
 · exact ⟨fun σ w w' hb ⟨A1, k1, e, hp⟩ => ⟨A1, k1, e, hp.below hb⟩, fun σ w w' hb ⟨A2, c2, e, hp⟩ => ⟨A2, c2, e, hp.belowS hb⟩, fun σ w w' hb ⟨A2, c2, e, hp⟩ => ⟨A2, c2, e, hp.belowS hb⟩, trivial⟩
 · exact ⟨hB.drew, hM, hhi, hI, hxc⟩
 case a0 | a3 | a4 | a7 | a8 =>
  go_light
  intro L σ W' hcl hL hC hw
  try have e3 := wT hw 3 rfl
  try have e5 := wT hw 5 rfl
  clear hw hcl hL hC
  refine OpGoes.go fun K hK => ?_
  go_simp
  exact hK _ _ ⟨rfl, rfl⟩
 case a5 =>
  go_light
  intro L σ W' hcl hL hC hw
  have e4 := wV hw 4 rfl
  have dj := hC.2.2.2.2 0 _ rfl
  clear hw hcl hL hC
  refine OpGoes.go fun K hK => ?_
  go_simp
  exact hK _ _ ⟨rfl, rfl⟩
 case a1 =>
  go_light
  intro L σ W' hcl hL hC hw
  have e0 := wV hw 0 rfl
  clear hw
  obtain ⟨hB, hM, hhi, hI, hxc⟩ := hC
  have hncg := hnc
  have g1 : (0 : Int) ≤ 1 := by omega
  clear hcl hL
  refine OpGoes.go fun K hK => ?_
  go_simp
  refine hK _ _ ⟨⟨hB, hM, hhi, hI, hxc⟩, ⟨_, _, rfl, ?_⟩, Below.refl _ _⟩
  by_cases hcp : cap = 1
  · exact .tail hI hn1 (.inl ⟨hcp, by simp [hcp]⟩)
  · exact .tail hI hn1 (.inr (by simp [hcp, Addr.add]))
 case a2 =>
  go_light
  intro L σ W' hcl hL hC hw
  obtain ⟨A1, k1, e1, hp1⟩ := wE hw 1 rfl
  clear hw
  have HC := Lib.hid hC
  clear hC
  clear hcl hL
  refine OpGoes.go fun K hK => ?_
  go_simp
  obtain ⟨hB, hM, hhi, hI, hxc⟩ := HC.out
  refine (l1CopyN (l.drop 1) A1 (n - 1) k1 _ hp1.src (by omega)).mono ?_
  rintro e w1 ⟨A2, c2, rfl, hW2, hb1⟩
  exact ⟨_, rfl, hK _ _ ⟨⟨bstep hB hB.size hb1, Nat.le_trans hM hb1.size, Nat.le_trans hhi hb1.size, SlW.below hI hb1 hhi, hxc.below hb1⟩, ⟨A2, c2, rfl, SlW.mono hW2 hM (Nat.le_refl _)⟩, hb1⟩⟩
 case a6 =>
  go_light
  intro L σ W' hcl hL hC hw
  obtain ⟨A2, c2, e2, hp2⟩ := wE hw 2 rfl
  clear hw hcl hL hC
  refine OpGoes.go fun K hK => ?_
  go_simp
  exact hK _ _ ⟨rfl, ⟨A2, c2, rfl, hp2⟩⟩
 ·
  intro L L' W' hLL hC
  obtain ⟨hB, hM, hhi, hI, hxc⟩ := hC
  exact ⟨hB, hM, hhi, hI, hxc⟩
 ·
  intro σ L W' hall hC hRR
  obtain ⟨hB, hM, hhi, hI, hxc⟩ := hC
  obtain ⟨A2, c2, e6, hp6⟩ := dE hRR 6 rfl
  have e7 := dV hRR 7 rfl
  have e8 := dV hRR 8 rfl
  clear hRR
  simp only [lexAll]
  go_simp
  go_wp2
  go_ret3
  rw [HQ.out]
  exact .mk hp6 hW0 hB

end Go.Proofs.YtplgabogdeeohaaGreat

/-
 What an event makes of a line, on both sides.
-/
namespace Go.Proofs.YtplgabogdeeohaaGreat
set_option linter.unusedSimpArgs false
set_option linter.unusedVariables false
open Go.RowKit
set_option linter.unusedVariables false
attribute [local go_sem ↓] Go.wp_at_zero Go.wp_at_succ

theorem ta_putFull_putFull (v : Int) (W : World) : (Instr.typeAssert (.iface 87 (.agg #[v])) 80 87 true).run Tryz.prog W = .ok (.tuple #[.agg #[v], .bool true]) W := by kernel_rfl
theorem ta_gotOne_putFull (v : Int) (W : World) : (Instr.typeAssert (.iface 88 (.agg #[v])) 80 87 true).run Tryz.prog W = .ok (.tuple #[.agg #[.int .i64 0], .bool false]) W := by kernel_rfl
theorem ta_gotNone_putFull (v : Int) (W : World) : (Instr.typeAssert (.iface 89 (.agg #[v])) 80 87 true).run Tryz.prog W = .ok (.tuple #[.agg #[.int .i64 0], .bool false]) W := by kernel_rfl
theorem ta_gotNone_gotNone (v : Int) (W : World) : (Instr.typeAssert (.iface 89 (.agg #[v])) 80 89 true).run Tryz.prog W = .ok (.tuple #[.agg #[v], .bool true]) W := by kernel_rfl
theorem ev_shape {x : Ev} (h : evOk x = true) : (x.put = true ∧ (x.re = 1 ∨ x.re = 2)) ∨ (x.put = false ∧ (x.re = 4 ∨ x.re = 3)) := by
 cases hp : x.put
 ·
  refine .inr ⟨rfl, ?_⟩
  by_cases h4 : x.re = 4
  · exact .inl h4
  ·
   by_cases h3 : x.re = 3
   · exact .inr h3
   · simp [evOk, hp, h3, h4] at h
 ·
  refine .inl ⟨rfl, ?_⟩
  by_cases h1 : x.re = 1
  · exact .inl h1
  ·
   by_cases h2 : x.re = 2
   · exact .inr h2
   · simp [evOk, hp, h1, h2] at h
theorem ex_no {l : List Int} {x : Ev} (h : lineOk l = false) : explains l x = ([], false) := by simp [explains, h]
theorem ex_ev {l : List Int} {x : Ev} (h : lineOk l = true) (he : evOk x = false) : explains l x = (l, false) := by simp [explains, h, he]
theorem ex1 {l : List Int} {x : Ev} (h : lineOk l = true) (he : evOk x = true) (hp : x.put = true) (hr : x.re = 1) : explains l x = linePut l x.v := by simp [explains, h, he, hp, hr]
theorem ex2 {l : List Int} {x : Ev} (h : lineOk l = true) (he : evOk x = true) (hp : x.put = true) (hr : x.re = 2) : explains l x = (l, true) := by simp [explains, h, he, hp, hr]
theorem ex4 {l : List Int} {x : Ev} (h : lineOk l = true) (he : evOk x = true) (hp : x.put = false) (hr : x.re = 4) : explains l x = bif (lineTake l).2.2 && (lineTake l).2.1 == x.v then ((lineTake l).1, true) else (l, false) := by simp [explains, h, he, hp, hr]
theorem ex3 {l : List Int} {x : Ev} (h : lineOk l = true) (he : evOk x = true) (hp : x.put = false) (hr : x.re = 3) : explains l x = (l, decide (l.length = 0)) := by simp [explains, h, he, hp, hr]
theorem RetIntB.up {q : List Int × Bool} {w w1 w' : World} {e : Ending} (h : RetIntB q w1 e w') (hb : Below w.heap.size w w1) : RetIntB q w e w' := by
 obtain ⟨A, c, he, hW, hb'⟩ := h
 exact ⟨A, c, he, SlW.mono hW hb.size (Nat.le_refl _), bstep hb hb.size hb'⟩

set_option maxRecDepth 100000 in
set_option maxHeartbeats 2000000 in
theorem iexplains_any (l : List Int) (x : Ev) (A : Option Addr) (n cap lo hi : Nat) (w : World) (h : IntsW lo hi w A n cap l) (hh : hi ≤ w.heap.size) (hn : n ≤ 1048576) :
  Calls Tryz.prog 40 #[.slice A n cap, .agg #[x.who, x.put, x.v, x.re, x.b, x.e]] w (RetIntB (explains l x) w) := by
 have HL := Lib.hid h.1
 go_enter Tryz.func40, Tryz.ntmps40
 go_wp2_with fail
 refine calls_abs (fun W => Below w.heap.size w W ∧ BoxAt W w.heap.size #[x.who, x.put, x.v, x.re, x.b, x.e] 31 ∧ IntsW lo hi W A n cap l) ⟨(Below.refl _ _).alloc (Nat.le_refl _) _, BoxAt.new _ _ _, SlW.al h hh _⟩ ?_
 clear h
 rintro W ⟨hB, hx, h⟩
 replace hh := Nat.le_trans hh hB.size
 refine (ilineOk_any l A n cap _ h.r (by omega)).mono ?_
 rintro e w1 ⟨rfl, hb1⟩
 replace h : IntsW lo hi _ A n cap l := SlW.below h hb1 hh
 replace hh := Nat.le_trans hh hb1.size
 replace hx := hx.below hb1 hx.lt
 replace hB := bstep hB hB.size hb1
 clear hb1
 cases hok : lineOk l
 ·
  have HQ := Lib.hid (ex_no (x := x) hok)
  clear hok
  go_wp2
  go_ret2
  rw [HQ.out]
  exact .none hB rfl
 have HOK := Lib.hid hok
 clear hok
 have kx := hx.cell
 go_wp2_with fail
 refine (copyOfLineN l A n cap _ h.r (by omega)).mono ?_
 rintro e w2 ⟨S, cS, rfl, hS, hb2⟩
 replace hS : IntsW w.heap.size w2.heap.size w2 S n cS l := SlW.mono hS hB.size (Nat.le_refl _)
 replace h : IntsW lo hi _ A n cap l := SlW.below h hb2 hh
 replace hh := Nat.le_trans hh hb2.size
 replace hx := hx.below hb2 hx.lt
 replace hB := bstep hB hB.size hb2
 clear hb2 kx
 have kx := hx.cell
 go_wp2_with fail
 refine (eventOk_any x _).mono ?_
 rintro e w3 ⟨rfl, hb2⟩
 replace hS := hS.belowS hb2
 replace h : IntsW lo hi _ A n cap l := SlW.below h hb2 hh
 replace hh := Nat.le_trans hh hb2.size
 replace hx := hx.below hb2 hx.lt
 replace hB := bstep hB hB.size hb2
 clear hb2 kx
 have kx := hx.cell
 cases hev : evOk x
 ·
  have HQ := Lib.hid (ex_ev HOK.out hev)
  clear hev
  go_wp2
  go_ret2
  rw [HQ.out]
  exact .mk hS (Nat.le_refl _) hB
 have HEV := Lib.hid hev
 have HSH := Lib.hid (ev_shape hev)
 clear hev
 go_wp2_with fail
 refine (shapeOf_any x _).mono ?_
 rintro e w4 ⟨rfl, hb2⟩
 replace hS := hS.belowS hb2
 replace h : IntsW lo hi _ A n cap l := SlW.below h hb2 hh
 replace hh := Nat.le_trans hh hb2.size
 replace hx := hx.below hb2 hx.lt
 replace hB := bstep hB hB.size hb2
 clear hb2 kx
 have kx := hx.cell
 rcases HSH.out with ⟨hp, hr | hr⟩ | ⟨hp, hr | hr⟩
 ·
  have HQ := Lib.hid (ex1 HOK.out HEV.out hp hr)
  rw [show shV x.put x.re x.v = .iface 86 (.agg #[x.v]) by simp [shV, hp, hr]]
  clear hp hr HSH
  have ta1 := ta_putDone_putDone
  go_wp2_with fail
  refine calls_abs (fun W => Below w.heap.size w W ∧ IntsW lo hi W A n cap l) ⟨hB.alloc hB.size _, SlW.al h hh _⟩ ?_
  clear h hh hB hx kx hS
  rintro W ⟨hB, h⟩
  refine (ilinePut_any l x.v A n cap _ h.ln (by omega)).mono ?_
  rintro e w5 ⟨A5, c5, rfl, hW5, hb5⟩
  go_wp2
  go_ret2
  rw [HQ.out]
  exact .up ⟨A5, c5, rfl, hW5, hb5⟩ hB
 ·
  have HQ := Lib.hid (ex2 HOK.out HEV.out hp hr)
  rw [show shV x.put x.re x.v = .iface 87 (.agg #[x.v]) by simp [shV, hp, hr]]
  clear hp hr HSH
  have ta1 := ta_putFull_putDone
  have ta2 := ta_putFull_putFull
  go_wp2
  go_ret2
  rw [HQ.out]
  exact .mk (hS.belowS ((Below.refl _ _).alloc (Nat.le_refl _) _)) (Nat.le_refl _) (hB.alloc hB.size _)
 ·
  have HQ0 := Lib.hid (ex4 HOK.out HEV.out hp hr)
  rw [show shV x.put x.re x.v = .iface 88 (.agg #[x.v]) by simp [shV, hp, hr]]
  clear hp hr HSH
  have ta1 := ta_gotOne_putDone
  have ta2 := ta_gotOne_putFull
  have ta3 := ta_gotOne_gotOne
  go_wp2_with fail
  refine calls_abs (fun W => Below w.heap.size w W ∧ IntsW lo hi W A n cap l ∧ hi ≤ W.heap.size ∧ IntsW w.heap.size W.heap.size W S n cS l ∧ BoxAt W w4.heap.size #[x.v] 88) ⟨hB.alloc hB.size _, SlW.al h hh _, by simp; omega, hS.belowS ((Below.refl _ _).alloc (Nat.le_refl _) _), BoxAt.new _ _ _⟩ ?_
  clear h hh hB hx kx hS
  rintro W ⟨hB, h, hh, hS, hg⟩
  refine (ilineTake_any l A n cap lo hi _ h hh (by omega)).mono ?_
  rintro e w5 ⟨A5, c5, rfl, hW5, hb5⟩
  have hs5 := hB.size
  replace hS := hS.belowS hb5
  replace hg := hg.below hb5 hg.lt
  replace hB := bstep hB hB.size hb5
  have kg := hg.cell
  clear h hh hb5
  generalize lineTake l = q at *
  obtain ⟨q1, q2, q3⟩ := q
  cases q3
  ·
   have HQ := Lib.hid (show explains l x = (l, false) from HQ0.out)
   clear HQ0
   go_wp2
   go_ret2
   rw [HQ.out]
   exact .mk hS (Nat.le_refl _) hB
  ·
   cases hv : q2 == x.v
   ·
    have HQ := Lib.hid (show explains l x = (l, false) by rw [HQ0.out]; simp [hv])
    clear HQ0
    go_wp2
    go_ret2
    rw [HQ.out]
    exact .mk hS (Nat.le_refl _) hB
   ·
    have HQ := Lib.hid (show explains l x = (q1, true) by rw [HQ0.out]; simp [hv])
    clear HQ0
    go_wp2
    go_ret2
    rw [HQ.out]
    exact .mk hW5 hs5 hB
 ·
  have HQ := Lib.hid (ex3 HOK.out HEV.out hp hr)
  rw [show shV x.put x.re x.v = .iface 89 (.agg #[x.v]) by simp [shV, hp, hr]]
  clear hp hr HSH
  have ta1 := ta_gotNone_putDone
  have ta2 := ta_gotNone_putFull
  have ta3 := ta_gotNone_gotOne
  have ta4 := ta_gotNone_gotNone
  have HD := Lib.hid (show ((n : Int) == 0) = decide (l.length = 0) by rw [HL.out]; by_cases h0 : n = 0 <;> simp [h0])
  go_wp2
  go_ret2
  rw [HQ.out, ← HD.out]
  exact .mk (hS.belowS ((Below.refl _ _).alloc (Nat.le_refl _) _)) (Nat.le_refl _) (hB.alloc hB.size _)

set_option maxRecDepth 100000 in
set_option maxHeartbeats 2000000 in
theorem sexplains_any (l : List Int) (x : Ev) (A : Option Addr) (n cap lo hi : Nat) (w : World) (h : IntsW lo hi w A n cap l) (hh : hi ≤ w.heap.size) (hn : n ≤ 1048576) :
  Calls Tryz.prog 13 #[.slice A n cap, .agg #[x.who, x.put, x.v, x.re, x.b, x.e]] w (RetIntB (explains l x) w) := by
 have HL := Lib.hid h.1
 go_enter Tryz.func13, Tryz.ntmps13
 go_wp2_with fail
 refine calls_abs (fun W => Below w.heap.size w W ∧ BoxAt W w.heap.size #[x.who, x.put, x.v, x.re, x.b, x.e] 31 ∧ IntsW lo hi W A n cap l) ⟨(Below.refl _ _).alloc (Nat.le_refl _) _, BoxAt.new _ _ _, SlW.al h hh _⟩ ?_
 clear h
 rintro W ⟨hB, hx, h⟩
 replace hh := Nat.le_trans hh hB.size
 refine (slineOk_any l A n cap _ h.r (by omega)).mono ?_
 rintro e w1 ⟨rfl, hb1⟩
 replace h : IntsW lo hi _ A n cap l := SlW.below h hb1 hh
 replace hh := Nat.le_trans hh hb1.size
 replace hx := hx.below hb1 hx.lt
 replace hB := bstep hB hB.size hb1
 clear hb1
 cases hok : lineOk l
 ·
  have HQ := Lib.hid (ex_no (x := x) hok)
  clear hok
  go_wp2
  go_ret2
  rw [HQ.out]
  exact .none hB rfl
 have HOK := Lib.hid hok
 clear hok
 have kx := hx.cell
 go_wp2_with fail
 refine (l10Event_any x _).mono ?_
 rintro e w3 ⟨rfl, hb2⟩
 replace h : IntsW lo hi _ A n cap l := SlW.below h hb2 hh
 replace hh := Nat.le_trans hh hb2.size
 replace hx := hx.below hb2 hx.lt
 replace hB := bstep hB hB.size hb2
 clear hb2 kx
 have kx := hx.cell
 cases hev : evOk x
 ·
  have HQ := Lib.hid (ex_ev HOK.out hev)
  clear hev
  go_wp2_with fail
  refine (l1CopyN l A n cap _ h.ln.src (by omega)).mono ?_
  rintro e w5 ⟨S, cS, rfl, hS, hb5⟩
  have hs5 := hB.size
  replace hB := bstep hB hB.size hb5
  go_wp2
  go_ret2
  rw [HQ.out]
  exact .mk hS hs5 hB
 have HEV := Lib.hid hev
 have HSH := Lib.hid (ev_shape hev)
 clear hev
 rcases HSH.out with ⟨hp, hr | hr⟩ | ⟨hp, hr | hr⟩
 ·
  have HQ := Lib.hid (ex1 HOK.out HEV.out hp hr)
  rw [hr] at kx
  clear hp hr HSH
  go_wp2_with fail
  refine (slinePut_any l x.v A n cap _ h.ln (by omega)).mono ?_
  rintro e w5 ⟨A5, c5, rfl, hW5, hb5⟩
  go_wp2
  go_ret2
  rw [HQ.out]
  exact .up ⟨A5, c5, rfl, hW5, hb5⟩ hB
 ·
  have HQ := Lib.hid (ex2 HOK.out HEV.out hp hr)
  rw [hr] at kx
  clear hp hr HSH
  go_wp2_with fail
  refine (l1CopyN l A n cap _ h.ln.src (by omega)).mono ?_
  rintro e w5 ⟨S, cS, rfl, hS, hb5⟩
  have hs5 := hB.size
  replace hB := bstep hB hB.size hb5
  go_wp2
  go_ret2
  rw [HQ.out]
  exact .mk hS hs5 hB
 ·
  have HQ0 := Lib.hid (ex4 HOK.out HEV.out hp hr)
  rw [hr] at kx hx
  clear hp hr HSH
  go_wp2_with fail
  refine (slineTake_any l A n cap lo hi _ h hh (by omega)).mono ?_
  rintro e w5 ⟨A5, c5, rfl, hW5, hb2⟩
  have hs4 := hB.size
  replace hW5 := SlW.mono hW5 hs4 (Nat.le_refl _)
  replace h : IntsW lo hi _ A n cap l := SlW.below h hb2 hh
  replace hh := Nat.le_trans hh hb2.size
  replace hx := hx.below hb2 hx.lt
  replace hB := bstep hB hB.size hb2
  clear hb2 kx
  have kx := hx.cell
  generalize lineTake l = q at *
  obtain ⟨q1, q2, q3⟩ := q
  cases q3
  ·
   have HQ := Lib.hid (show explains l x = (l, false) from HQ0.out)
   clear HQ0 hW5
   go_wp2_with fail
   refine (l1CopyN l A n cap _ h.ln.src (by omega)).mono ?_
   rintro e w6 ⟨S, cS, rfl, hS, hb5⟩
   have hs5 := hB.size
   replace hB := bstep hB hB.size hb5
   go_wp2
   go_ret2
   rw [HQ.out]
   exact .mk hS hs5 hB
  ·
   cases hv : q2 == x.v
   ·
    have HQ := Lib.hid (show explains l x = (l, false) by rw [HQ0.out]; simp [hv])
    clear HQ0 hW5
    have hne : (q2 != x.v) = true := by rw [bne, hv]; rfl
    go_wp2_with fail
    refine (l1CopyN l A n cap _ h.ln.src (by omega)).mono ?_
    rintro e w6 ⟨S, cS, rfl, hS, hb5⟩
    have hs5 := hB.size
    replace hB := bstep hB hB.size hb5
    go_wp2
    go_ret2
    rw [HQ.out]
    exact .mk hS hs5 hB
   ·
    have HQ := Lib.hid (show explains l x = (q1, true) by rw [HQ0.out]; simp [hv])
    clear HQ0
    have hne : (q2 != x.v) = false := by rw [bne, hv]; rfl
    go_wp2
    go_ret2
    rw [HQ.out]
    exact .mk hW5 (Nat.le_refl _) hB
 ·
  have HQ := Lib.hid (ex3 HOK.out HEV.out hp hr)
  rw [hr] at kx
  clear hp hr HSH
  have HD := Lib.hid (show ((n : Int) == 0) = decide (l.length = 0) by rw [HL.out]; by_cases h0 : n = 0 <;> simp [h0])
  go_wp2_with fail
  refine (l1CopyN l A n cap _ h.ln.src (by omega)).mono ?_
  rintro e w5 ⟨S, cS, rfl, hS, hb5⟩
  have hs5 := hB.size
  replace hB := bstep hB hB.size hb5
  go_wp2
  go_ret2
  rw [HQ.out, ← HD.out]
  exact .mk hS hs5 hB

end Go.Proofs.YtplgabogdeeohaaGreat

/-
 A range over a function whose rounds go through another function's rounds: what an iterator that itself ranges over an iterator promises, and the statement's law for it.
-/
namespace Go.Proofs.YtplgabogdeeohaaGreat
set_option linter.unusedSimpArgs false
set_option linter.unusedVariables false
open Go.RowKit Go.Shelf
set_option linter.unusedVariables false
attribute [local go_sem] Oper.semAt_some

/-- What lies between two rounds keeps: all cells but those of block X, and whatever lies from B on. -/
structure KpO (X B : Nat) (W W' : World) : Prop where
 size : W.heap.size ≤ W'.heap.size
 same : ∀ (j : Nat) (o : Obj), W.heap[j]? = some o → (o.isCells = true ∧ j ≠ X) ∨ B ≤ j → W'.heap[j]? = some o
theorem KpO.refl (X B : Nat) (W : World) : KpO X B W W := ⟨Nat.le_refl _, fun _ _ h _ => h⟩
theorem KpO.trans {X B : Nat} {a b c : World} (h : KpO X B a b) (k : KpO X B b c) : KpO X B a c := ⟨Nat.le_trans h.size k.size, fun j o ho hc => k.same j o (h.same j o ho hc) hc⟩
theorem KpO.mono {X B B' : Nat} {a b : World} (h : KpO X B a b) (hB : B ≤ B') : KpO X B' a b := ⟨h.size, fun j o ho hc => h.same j o ho (by rcases hc with hc | hc; exact .inl hc; exact .inr (by omega))⟩
theorem lt_of_some {w : World} {j : Nat} {o : Obj} (h : w.heap[j]? = some o) : j < w.heap.size := (Array.getElem?_eq_some_iff.1 h).1
theorem KpO.below {X B : Nat} {w w' : World} (h : Below w.heap.size w w') : KpO X B w w' := ⟨h.size, fun j o ho _ => (h.block j (lt_of_some ho)).trans ho⟩
theorem KpO.put {X B l : Nat} {w : World} {o : Obj} (o' : Obj) (h : w.heap[l]? = some o) (hc : o.isCells = false) (hl : l < B) : KpO X B w (w.putObj l o') := ⟨by simp, fun j p hp hk => by
 by_cases e : j = l
 ·
  subst e
  rw [h] at hp; injection hp with hp; subst hp
  rcases hk with hk | hk
  · rw [hc] at hk; cases hk.1
  · omega
 · exact (World.putObj_heap_other e).trans hp⟩
theorem KpO.set {X B i : Nat} {w : World} (u : Value) (hX : X < B) : KpO X B w (w.setCell ⟨X, i, none⟩ u) := ⟨by simp, fun j o ho hk => by
 have e : j ≠ X := by rcases hk with hk | hk <;> omega
 exact (Below.heap_setCell w ⟨X, i, none⟩ u j e).trans ho⟩
theorem KpO.grown {X B : Nat} {w w' : World} {row : Option Nat} (h : w.grownBy w' row) (hr : ∀ r, row = some r → ∃ o : Obj, w.heap[r]? = some o ∧ o.isCells = false) (hB : w.heap.size ≤ B) : KpO X B w w' := ⟨h.size, fun j o ho hk => by
 have hj := lt_of_some ho
 rcases hk with hk | hk
 ·
  refine (h.block j hj (fun e => ?_)).trans ho
  obtain ⟨p, hp, hc⟩ := hr j e.symm
  rw [ho] at hp; injection hp with hp; subst hp
  rw [hk.1] at hc; cases hc
 · omega⟩
theorem KpO.box {X B j : Nat} {w w' : World} {cs : Array Value} {t : TypeId} (h : KpO X B w w') (hb : BoxAt w j cs t) (hj : j ≠ X) : BoxAt w' j cs t := h.same j _ hb (.inl ⟨rfl, hj⟩)
theorem KpO.own {α : Type} {f : α → List Value} {k : Nat} {e : TypeId} {N g n cap X B : Nat} {w w' : World} {l : List α} (h : KpO X B w w') (ho : Own f k e N w g n cap l) (hg : g ≠ X) : Own f k e N w' g n cap l := by
 obtain ⟨h1, h2, h3, h4, cur, hb, h5⟩ := ho
 exact ⟨h1, h2, h3, h4, cur, h.box hb hg, h5⟩
theorem KpO.sl {α : Type} {f : α → List Value} {k : Nat} {e : TypeId} {lo hi n cap X B : Nat} {A : Option Addr} {w w' : World} {l : List α} (h : KpO X B w w') (hs : SlW f k e lo hi w A n cap l) (hX : X < lo ∨ hi ≤ X) : SlW f k e lo hi w' A n cap l :=
 ⟨hs.1, by
  rcases hs.2 with h2 | ⟨b, e, hb, ho⟩
  · exact .inl h2
  ·
   have := ho.2.1
   exact .inr ⟨b, e, hb, h.own ho (by omega)⟩⟩
theorem OwnFrom.up {β : Type} {B B' : Nat} {I : β → World → Prop} (h : OwnFrom B I) (hB : B ≤ B') : OwnFrom B' I := fun s W W' row hs hg hr => h s W W' row hs hg (fun r e => ⟨Nat.le_trans hB (hr r e).1, (hr r e).2⟩)
theorem OwnFrom.below_ {β : Type} {B : Nat} {I : β → World → Prop} (hI : OwnFrom B I) {s : β} {w w' : World} (h : I s w) (hb : Below w.heap.size w w') : I s w' := hI s w w' none h ⟨hb.os, hb.tape, hb.output, hb.size, fun k hk _ => hb.block k hk⟩ (fun r e => by cases e)

theorem KpO.own_ {β : Type} {X B C : Nat} {w : World} (hC : w.heap.size ≤ C) : OwnFrom C (fun (_ : β) W => KpO X B w W) := fun _ W W' row h hg hr =>
 ⟨Nat.le_trans h.size hg.size, fun j o ho hk => by
  have h1 := h.same j o ho hk
  exact (hg.block j (lt_of_some h1) (fun e => by have := (hr j e.symm).1; have := lt_of_some ho; omega)).trans h1⟩ -- kpo_own
theorem KpO.putD {X B D : Nat} {w W : World} {o' : Obj} (h : KpO X B w W) (hD : w.heap.size ≤ D) : KpO X B w (W.putObj D o') :=
 ⟨by have := h.size; simp; omega, fun j o ho hc => (World.putObj_heap_other (by have := lt_of_some ho; omega)).trans (h.same j o ho hc)⟩
theorem marks_own {β : Type} {C : Nat} {Ds : List Nat} (hC : ∀ D ∈ Ds, D < C) : OwnFrom C (fun (_ : β) W => ∀ D ∈ Ds, W.heap[D]? = some (.deferred (some []))) := fun _ W W' row h hg hr D hD =>
 (hg.block D (lt_of_some (h D hD)) (fun e => by have := (hr D e.symm).1; have := hC D hD; omega)).trans (h D hD)
theorem box_own {β : Type} {C Y : Nat} {cs : Array Value} {t : TypeId} : OwnFrom C (fun (_ : β) W => BoxAt W Y cs t) := fun _ W W' row h hg hr =>
 (hg.block Y h.lt (fun e => by obtain ⟨_, o, ho, hc⟩ := hr Y e.symm; unfold BoxAt at h; rw [h] at ho; cases ho; cases hc)).trans h
theorem size_own {β : Type} {C N : Nat} : OwnFrom C (fun (_ : β) W => N ≤ W.heap.size) := fun _ _ _ _ h hg _ => Nat.le_trans h hg.size

theorem RoundIn.wideN {n m : Nat} {P : Program} {l : Nat} {f : FuncId} {tmps : Array Value} {assign body : Code} {w : World} {R : Ending → World → Prop} (l' : Nat)
  (h : RoundIn Fence.wide n P l f tmps assign body w R) : RoundIn (Fence.wide.inRound l') m P l f tmps assign body w R := ⟨h.1, fun c cs _ => h.2 c cs (room_wide _)⟩
theorem RoundIn.wide0 {n m : Nat} {P : Program} {l : Nat} {f : FuncId} {tmps : Array Value} {assign body : Code} {w : World} {R : Ending → World → Prop}
  (h : RoundIn Fence.wide n P l f tmps assign body w R) : RoundIn Fence.wide m P l f tmps assign body w R := ⟨h.1, fun c cs _ => h.2 c cs (room_wide _)⟩

/-- The promise: N values come, whatever they are; the rounds are another loop's, and may be walked through by loops in between. -/
def OrdSeq (P : Program) (X N : Nat) (g : Nat) (lb : Array Value) (w : World) : Prop :=
 ∀ (l : Nat) (J Jx : List Value → World → Prop) (W : World), Below w.heap.size w W → OwnFrom W.heap.size J → OwnFrom W.heap.size Jx →
  (∀ pre x W1, J pre W1 → pre.length < N → YieldAt Fence.wide 0 P l #[x] W1 fun e W' =>
   (e = .returned (.bool true) ∧ J (pre ++ [x]) W' ∧ KpO X W.heap.size W1 W') ∨ (e = .returned (.bool false) ∧ Jx (pre ++ [x]) W' ∧ KpO X W.heap.size W1 W')) →
  J [] W →
  CallsIn Fence.wide 0 P g (#[.func (.yield l) #[] #[]] ++ lb) W fun e W' => (∃ v, e = .returned v) ∧ KpO X W.heap.size W W' ∧ ((∃ xs, xs.length = N ∧ J xs W') ∨ (∃ pre, pre.length ≤ N ∧ Jx pre W'))

/-- How a round may be left. -/
def ordPost (X B : Nat) (I Ix : List Value → World → Prop) (xs : List Value) (W : World) : Exit → Act → World → Prop
 | .normal, _, W' => KpO X B W W' ∧ I xs W'
 | .ret, _, W' => KpO X B W W' ∧ Ix xs W'
 | _, _, _ => False

theorem callsIn_wideN {n m : Nat} {P : Program} {f : FuncId} {args : Array Value} {w : World} {R : Ending → World → Prop} (h : CallsIn Fence.wide n P f args w R) : CallsIn Fence.wide m P f args w R := callsIn_wide.2 (callsIn_wide.1 h)

theorem wpIn_ord {n X N : Nat} {P : Program} {g : Operand} {t : Tmp} {assign body : Code} {Q : Exit → Act → World → Prop} {a : Act} {w : World}
  {gf : Nat} {lb : Array Value} (hg : a.eval g = .func (.func gf) #[] lb) (eg : ∀ args w, (callFunc gf args).run P w = .ok (.enter gf args) w)
  (hseq : OrdSeq P X N gf lb w) (I Ix : List Value → World → Prop) (hI : OwnFrom w.heap.size I) (hIx : OwnFrom w.heap.size Ix) (h0 : I [] w) (a₁ : Value → Act)
  (hassign : ∀ (l : Nat) (x : Value) (W : World) (K : Act → World → Prop), K (a₁ x) W →
   assign.wpIn (Fence.wide.inRound l) 0 P (Exit.then K (fun _ _ _ => False)) { tmps := ((#[t] : Array Tmp).zip #[x]).foldl (fun t (p, v) => t.setIfInBounds p v) a.tmps, defers := [] } W)
  (hbody : ∀ (l : Nat) (pre : List Value) (x : Value) (W : World), w.heap.size ≤ W.heap.size → I pre W → pre.length < N → body.wpIn (Fence.wide.inRound l) 0 P (ordPost X w.heap.size I Ix (pre ++ [x]) W) (a₁ x) W)
  (hdone : ∀ (xs : List Value) (W : World), KpO X w.heap.size w W → xs.length = N → I xs W → W.heap[w.heap.size]? = some (.deferred (some [])) → Q .normal { a with defers := { target := .collected w.heap.size, args := #[] } :: a.defers } W)
  (hstop : ∀ (pre : List Value) (W : World), KpO X w.heap.size w W → pre.length ≤ N → Ix pre W → W.heap[w.heap.size]? = some (.deferred (some [])) → Code.ret.wpIn Fence.wide n P Q { a with defers := { target := .collected w.heap.size, args := #[] } :: a.defers } W) :
  (Code.rangeFunc g #[t] assign body).wpIn Fence.wide n P Q a w := by
 refine wpIn_rangeFunc ?_
 intro fn hfn
 obtain ⟨D, hD⟩ : ∃ D, w.heap.size = D := ⟨_, rfl⟩
 obtain ⟨rec, hrec⟩ : ∃ rec : LoopState → Option Code → Loop, rec = fun st pe => { state := st, pending := pe, fn, tmps := a.tmps, params := #[t], assign, body, defers := D } := ⟨_, rfl⟩
 obtain ⟨W1, hW1⟩ : ∃ W1, (w.alloc (.deferred (some []))).alloc (.loop (rec .ready none)) = W1 := ⟨_, rfl⟩
 have hs1 : W1.heap.size = D + 2 := by rw [← hW1]; simp; omega
 have hL1 : W1.heap[D + 1]? = some (.loop (rec .ready none)) := by
  rw [← hW1]
  have := World.alloc_heap_new (w.alloc (.deferred (some []))) (.loop (rec .ready none))
  rwa [World.size_alloc, hD] at this
 have hK1 : W1.heap[D]? = some (.deferred (some [])) := by
  rw [← hW1, ← hD]
  exact (Below.heap_alloc _ _ _ (by simp)).trans (World.alloc_heap_new w _)
 have hb1 : Below w.heap.size w W1 := by rw [← hW1]; exact ((Below.refl _ w).alloc (Nat.le_refl _) _).alloc (by simp) _
 have hI1 : I [] W1 := OwnFrom.below_ hI h0 hb1
 refine ⟨D + 1, [{ target := .collected D, args := #[] }], W1, { target := .fn (.func gf) lb, args := #[.func (.yield (D + 1)) #[] #[]] }, W1, gf, #[.func (.yield (D + 1)) #[] #[]] ++ lb, W1, ?_, ?_, fun _ _ => trivial, ?_, fun h => (by cases h), ?_⟩
 · rw [← hW1, hrec, ← hD]; exact run_enterLoop_outer _ _ _ _ _
 ·
  simp only [resolve, hg]
  simp [go_sem]
 · simp [invoke, go_sem, eg]
 have lay : ∀ {st : LoopState} {pe : Option Code} (st' : LoopState) (pe' : Option Code) {B : Nat} {Z : World}, Z.heap[D + 1]? = some (.loop (rec st pe)) → D + 2 ≤ B → KpO X B Z (Z.putObj (D + 1) (.loop (rec st' pe'))) := fun st' pe' _ _ h hB => .put _ h rfl (by omega)
 refine callsIn_wideN ((hseq (D + 1)
  (fun pre W => (I pre W ∧ KpO X D w W) ∧ W.heap[D + 1]? = some (.loop (rec .ready none)) ∧ W.heap[D]? = some (.deferred (some [])))
  (fun pre W => (Ix pre W ∧ KpO X D w W) ∧ W.heap[D + 1]? = some (.loop (rec .done (some .ret))) ∧ W.heap[D]? = some (.deferred (some [])))
  W1 hb1 ?_ ?_ ?_ ⟨⟨hI1, .below hb1⟩, hL1, hK1⟩).mono ?_)
 case refine_1 =>
  rintro s A B row ⟨⟨h1, h2⟩, h3, h4⟩ hgr hr
  have hr' : ∀ r, row = some r → w.heap.size ≤ r ∧ ∃ o : Obj, A.heap[r]? = some o ∧ o.isCells = false := fun r e => ⟨by have := (hr r e).1; omega, (hr r e).2⟩
  have hne : ∀ k, k < D + 2 → some k ≠ row := fun k hk e => by have := (hr k e.symm).1; omega
  refine ⟨⟨hI s A B row h1 hgr hr', ⟨Nat.le_trans h2.size hgr.size, fun j o ho hk => ?_⟩⟩, (hgr.block _ (lt_of_some h3) (hne _ (by omega))).trans h3, (hgr.block _ (lt_of_some h4) (hne _ (by omega))).trans h4⟩
  have hA := h2.same j o ho hk
  exact (hgr.block j (lt_of_some hA) (hne j (by have := lt_of_some ho; omega))).trans hA
 case refine_2 =>
  rintro s A B row ⟨⟨h1, h2⟩, h3, h4⟩ hgr hr
  have hr' : ∀ r, row = some r → w.heap.size ≤ r ∧ ∃ o : Obj, A.heap[r]? = some o ∧ o.isCells = false := fun r e => ⟨by have := (hr r e).1; omega, (hr r e).2⟩
  have hne : ∀ k, k < D + 2 → some k ≠ row := fun k hk e => by have := (hr k e.symm).1; omega
  refine ⟨⟨hIx s A B row h1 hgr hr', ⟨Nat.le_trans h2.size hgr.size, fun j o ho hk => ?_⟩⟩, (hgr.block _ (lt_of_some h3) (hne _ (by omega))).trans h3, (hgr.block _ (lt_of_some h4) (hne _ (by omega))).trans h4⟩
  have hA := h2.same j o ho hk
  exact (hgr.block j (lt_of_some hA) (hne j (by have := lt_of_some ho; omega))).trans hA
 case refine_3 =>
  rintro pre x W ⟨⟨hi, hkw⟩, hl, hk⟩ hlen
  have hy := run_yield (P := P) (args := #[x]) hl (by rw [hrec]; rfl)
  refine ⟨_, _, _, _, hy, ?_⟩
  rw [hrec]
  refine roundIn_of_wpIn hfn (hassign _ x W _ ?_)
  have hsz : D + 2 ≤ W.heap.size := by have := lt_of_some hl; omega
  refine ⟨_, run_beginRound hl (by rw [hrec]), ?_⟩
  have e2 : ({ rec .ready none with state := .busy } : Loop) = rec .busy none := by rw [hrec]
  rw [e2]
  obtain ⟨W2, hW2⟩ : ∃ W2, W.putObj (D + 1) (.loop (rec .busy none)) = W2 := ⟨_, rfl⟩
  have hl2 : W2.heap[D + 1]? = some (.loop (rec .busy none)) := by rw [← hW2]; exact World.putObj_heap_same (by omega)
  have hk2 : W2.heap[D]? = some (.deferred (some [])) := by rw [← hW2]; exact (World.putObj_heap_other (by omega)).trans hk
  have hw2 : KpO X (D + 2) W W2 := by rw [← hW2]; exact lay _ _ hl (Nat.le_refl _)
  have hi2 : I pre W2 := by rw [← hW2]; exact hI.putObj _ hi (by omega) hl rfl
  rw [hW2]
  refine wpIn_mono (hbody _ pre x W2 (by have := hw2.size; omega) hi2 hlen) ?_
  have fin : ∀ (st : LoopState) (pe : Option Code) (W3 : World), KpO X D W2 W3 → W3.heap[D + 1]? = some (.loop (rec .busy none)) ∧
    (W3.putObj (D + 1) (.loop (rec st pe))).heap[D + 1]? = some (.loop (rec st pe)) ∧ (W3.putObj (D + 1) (.loop (rec st pe))).heap[D]? = some (.deferred (some [])) ∧
    KpO X (D + 2) W (W3.putObj (D + 1) (.loop (rec st pe))) ∧ KpO X D w (W3.putObj (D + 1) (.loop (rec st pe))) := fun st pe W3 h => by
   have h3 := h.same _ _ hl2 (.inr (by omega))
   have hk3 := h.same _ _ hk2 (.inr (by omega))
   refine ⟨h3, World.putObj_heap_same (lt_of_some h3), (World.putObj_heap_other (by omega)).trans hk3, (hw2.trans (h.mono (by omega))).trans (lay _ _ h3 (Nat.le_refl _)), ?_⟩
   refine ⟨by have := hkw.size; have := hw2.size; have := h.size; simp; omega, fun j o ho hc => ?_⟩
   have hj := lt_of_some ho
   have h4 := hkw.same j o ho hc
   have h5 : W2.heap[j]? = some o := by rw [← hW2]; exact (World.putObj_heap_other (by omega)).trans h4
   exact (World.putObj_heap_other (by omega)).trans (h.same j o h5 hc)
  rintro e a3 W3 hp
  cases e with
  | normal =>
   obtain ⟨hk3, hi3⟩ := hp
   rw [hD] at hk3
   obtain ⟨h3, h4, h5, h6, h7⟩ := fin .ready none W3 hk3
   refine ⟨_, _, run_endRound none h3, .inl ⟨rfl, ?_⟩⟩
   have e3 : ({ rec .busy none with state := if (none : Option Code).isNone then .ready else .done, pending := none } : Loop) = rec .ready none := by rw [hrec]; rfl
   rw [e3, hs1]
   have h8 := hI.putObj (.loop (rec .ready none)) hi3 (by omega) h3 rfl
   rw [hrec] at h4 h5 h6 h7 h8 ⊢
   exact ⟨⟨⟨h8, h7⟩, h4, h5⟩, h6⟩
  | ret =>
   obtain ⟨hk3, hi3⟩ := hp
   rw [hD] at hk3
   obtain ⟨h3, h4, h5, h6, h7⟩ := fin .done (some .ret) W3 hk3
   refine ⟨_, _, run_endRound (some .ret) h3, .inr ⟨rfl, ?_⟩⟩
   have e3 : ({ rec .busy none with state := if (some Code.ret).isNone then .ready else .done, pending := some .ret } : Loop) = rec .done (some .ret) := by rw [hrec]; rfl
   rw [e3, hs1]
   have h8 := hIx.putObj (.loop (rec .done (some .ret))) hi3 (by omega) h3 rfl
   rw [hrec] at h4 h5 h6 h7 h8 ⊢
   exact ⟨⟨⟨h8, h7⟩, h4, h5⟩, h6⟩
  | exit id => exact hp.elim
  | goto t => exact hp.elim
  | panic ch => exact hp.elim
  | outgrown => exact hp.elim
 case refine_4 =>
  have keep : ∀ (st : LoopState) (pe : Option Code) (W2 : World), KpO X D w W2 → KpO X D w (W2.putObj (D + 1) (.loop (rec st pe))) := fun st pe W2 h =>
   ⟨by have := h.size; simp; omega, fun j o ho hc => (World.putObj_heap_other (by have := lt_of_some ho; omega)).trans (h.same j o ho hc)⟩
  rintro e W2 ⟨⟨v, rfl⟩, hkk, (⟨xs, hS, ⟨hi, hkw⟩, hl, hk⟩ | ⟨pre, hS, ⟨hi, hkw⟩, hl, hk⟩)⟩
  ·
   have he := run_endLoop (P := P) hl (by rw [hrec]; simp)
   have e3 : ({ rec .ready none with state := .exhausted } : Loop) = rec .exhausted none := by rw [hrec]
   rw [e3] at he
   have hp : (rec .ready none).pending = none := by rw [hrec]
   rw [hp] at he
   refine ⟨none, _, he, ?_⟩
   subst hD
   exact hdone xs _ (keep _ _ _ hkw) hS (hI.putObj _ hi (by omega) hl rfl) ((World.putObj_heap_other (by omega)).trans hk)
  ·
   have he := run_endLoop (P := P) hl (by rw [hrec]; simp)
   have e3 : ({ rec .done (some .ret) with state := .exhausted } : Loop) = rec .exhausted (some .ret) := by rw [hrec]
   rw [e3] at he
   have hp : (rec .done (some .ret)).pending = some .ret := by rw [hrec]
   rw [hp] at he
   refine ⟨some .ret, _, he, ?_⟩
   subst hD
   exact hstop pre _ (keep _ _ _ hkw) hS (hIx.putObj _ hi (by omega) hl rfl) ((World.putObj_heap_other (by omega)).trans hk)

end Go.Proofs.YtplgabogdeeohaaGreat

/-
 In how many orders the events of a list, each one explained by the line before it, may stand one after the other.
-/
namespace Go.Proofs.YtplgabogdeeohaaGreat
set_option linter.unusedSimpArgs false
set_option linter.unusedVariables false
open Go.RowKit
set_option linter.unusedVariables false

def sumN (f : Nat → Nat) : Nat → Nat
 | 0 => 0
 | i + 1 => sumN f i + f i
/-- Nothing that is left ends before x begins. -/
def nextE (left : List Ev) (x : Ev) : Bool := left.all fun o => !decide (o.e < x.b)
/-- What event i of those left leads to, if it goes on from the line. -/
def stepN (c : List Ev → List Int → Nat) (left : List Ev) (line : List Int) (i : Nat) : Nat := match left[i]? with
 | some x => bif (explains line x).2 && nextE left x then c (left.eraseIdx i) (explains line x).1 else 0
 | none => 0
/-- The number of orders of k events. -/
def cntO : Nat → List Ev → List Int → Nat
 | 0, _, _ => 1
 | k + 1, left, line => sumN (stepN (cntO k) left line) left.length

theorem stepN_at {c : List Ev → List Int → Nat} {left : List Ev} {line : List Int} {i : Nat} {x : Ev} (h : left[i]? = some x) : stepN c left line i = bif (explains line x).2 && nextE left x then c (left.eraseIdx i) (explains line x).1 else 0 := by
 unfold stepN; rw [h]
theorem sumN_mono {f : Nat → Nat} {i j : Nat} (h : i ≤ j) : sumN f i ≤ sumN f j := by
 induction j with
 | zero =>
  obtain rfl : i = 0 := by omega
  exact Nat.le_refl _
 | succ j ih =>
  by_cases e : i = j + 1
  · subst e; exact Nat.le_refl _
  ·
   have := ih (by omega)
   simp only [sumN]; omega
theorem sumN_le {f : Nat → Nat} {n b : Nat} (h : ∀ i, i < n → f i ≤ b) : sumN f n ≤ n * b := by
 induction n with
 | zero => simp [sumN]
 | succ n ih =>
  have h1 := ih fun i hi => h i (by omega)
  have h2 := h n (by omega)
  simp only [sumN]
  rw [Nat.succ_mul]; omega
def facN : Nat → Nat
 | 0 => 1
 | k + 1 => (k + 1) * facN k
theorem cntO_le : ∀ (k : Nat) (left : List Ev) (line : List Int), left.length = k → cntO k left line ≤ facN k
 | 0, _, _, _ => Nat.le_refl _
 | k + 1, left, line, h => by
  unfold cntO
  rw [h, facN]
  refine sumN_le fun i hi => ?_
  unfold stepN
  cases hx : left[i]? with
  | none => simp
  | some x =>
   simp only
   cases hb : ((explains line x).2 && nextE left x)
   · simp
   ·
    simp only [cond_true]
    exact cntO_le k _ _ (by rw [List.length_eraseIdx]; simp [h, hi])

theorem nextE_no {left : List Ev} {x o : Ev} {i : Nat} (h : left[i]? = some o) (hb : o.e < x.b) : nextE left x = false := by
 rw [nextE, List.all_eq_false]
 exact ⟨o, List.mem_of_getElem? h, by simp [hb]⟩
theorem nextE_yes {left : List Ev} {x : Ev} (h : ∀ (j : Nat) o, j < left.length → left[j]? = some o → ¬ o.e < x.b) : nextE left x = true := by
 rw [nextE, List.all_eq_true]
 intro o ho
 obtain ⟨j, hj⟩ := List.mem_iff_getElem?.1 ho
 have := h j o (List.getElem?_eq_some_iff.1 hj).1 hj
 simp; omega

/-! ### Sets of places as numbers -/

def pick : List Ev → Nat → List Ev
 | [], _ => []
 | x :: t, m => if m % 2 = 1 then x :: pick t (m / 2) else pick t (m / 2)
def rank (m : Nat) : Nat → Nat
 | 0 => 0
 | i + 1 => rank m i + (m / 2 ^ i) % 2

theorem rank_cons (m : Nat) : ∀ i, rank m (i + 1) = m % 2 + rank (m / 2) i
 | 0 => by simp [rank]
 | i + 1 => by
  rw [rank, rank_cons m i, rank, Nat.div_div_eq_div_mul, ← Nat.pow_succ', Nat.add_assoc]
theorem pick_len : ∀ (l : List Ev) (m : Nat), (pick l m).length = rank m l.length
 | [], m => rfl
 | x :: t, m => by
  rw [List.length_cons, rank_cons, pick]
  have := pick_len t (m / 2)
  split
  · rename_i h; rw [List.length_cons, this, h]; omega
  · rename_i h; rw [this]; omega
theorem pick_at : ∀ (l : List Ev) (m i : Nat), m / 2 ^ i % 2 = 1 → i < l.length → (pick l m)[rank m i]? = l[i]?
 | [], m, i, _, h => absurd h (by simp)
 | x :: t, m, 0, hb, h => by
  have hb' : m % 2 = 1 := by simpa using hb
  rw [pick, if_pos hb']; rfl
 | x :: t, m, i + 1, hb, h => by
  have hb' : m / 2 / 2 ^ i % 2 = 1 := by rw [Nat.div_div_eq_div_mul, ← Nat.pow_succ']; exact hb
  have ih := pick_at t (m / 2) i hb' (by simpa using h)
  rw [pick, rank_cons]
  split
  ·
   rename_i h1
   rw [h1, Nat.add_comm, List.getElem?_cons_succ, List.getElem?_cons_succ, ih]
  ·
   rename_i h1
   rw [show m % 2 = 0 by omega, Nat.zero_add, List.getElem?_cons_succ, ih]
theorem pick_del : ∀ (l : List Ev) (m i : Nat), m / 2 ^ i % 2 = 1 → i < l.length → pick l (m - 2 ^ i) = (pick l m).eraseIdx (rank m i)
 | [], m, i, _, h => absurd h (by simp)
 | x :: t, m, 0, hb, h => by
  have hb' : m % 2 = 1 := by simpa using hb
  have h1 : ¬ (m - 2 ^ 0) % 2 = 1 := by simp; omega
  have h2 : (m - 2 ^ 0) / 2 = m / 2 := by simp; omega
  rw [pick, if_neg h1, pick, if_pos hb', h2]; rfl
 | x :: t, m, i + 1, hb, h => by
  have hb' : m / 2 / 2 ^ i % 2 = 1 := by rw [Nat.div_div_eq_div_mul, ← Nat.pow_succ']; exact hb
  have ih := pick_del t (m / 2) i hb' (by simpa using h)
  have hp : 2 ^ (i + 1) = 2 * 2 ^ i := by rw [Nat.pow_succ']
  have hge : 2 ^ i ≤ m / 2 := by
   by_cases hlt : m / 2 < 2 ^ i
   · rw [Nat.div_eq_of_lt hlt] at hb'; simp at hb'
   · omega
  have h1 : (m - 2 ^ (i + 1)) % 2 = m % 2 := by omega
  have h2 : (m - 2 ^ (i + 1)) / 2 = m / 2 - 2 ^ i := by omega
  rw [pick, pick, rank_cons, h1, h2, ih]
  split
  ·
   rename_i h3
   rw [h3, Nat.add_comm 1, List.eraseIdx_cons_succ]
  ·
   rename_i h3
   rw [show m % 2 = 0 by omega, Nat.zero_add]
theorem pick_sub {l : List Ev} {m i : Nat} (hb : m / 2 ^ i % 2 = 1) : 2 ^ i ≤ m := by
 by_cases hlt : m < 2 ^ i
 · rw [Nat.div_eq_of_lt hlt] at hb; simp at hb
 · omega
theorem pick_all : ∀ (l : List Ev), pick l (2 ^ l.length - 1) = l
 | [] => rfl
 | x :: t => by
  have hp : 2 ^ (t.length + 1) = 2 * 2 ^ t.length := by rw [Nat.pow_succ']
  have h0 : 0 < 2 ^ t.length := Nat.pow_pos (by omega)
  have h1 : (2 ^ (t.length + 1) - 1) % 2 = 1 := by omega
  have h2 : (2 ^ (t.length + 1) - 1) / 2 = 2 ^ t.length - 1 := by omega
  rw [List.length_cons, pick, if_pos h1, h2, pick_all t]
theorem pick_nil {l : List Ev} {m : Nat} (hm : m < 2 ^ l.length) (h : pick l m = []) : m = 0 := by
 induction l generalizing m with
 | nil => simp at hm; exact hm
 | cons x t ih =>
  rw [pick] at h
  split at h
  · cases h
  ·
   have hp : 2 ^ (t.length + 1) = 2 * 2 ^ t.length := by rw [Nat.pow_succ']
   rw [List.length_cons] at hm
   have := ih (m := m / 2) (by omega) h
   omega
theorem pick_zero (l : List Ev) : pick l 0 = [] := by
 induction l with
 | nil => rfl
 | cons x t ih => rw [pick]; simpa using ih
theorem pick_mem {l : List Ev} {m i : Nat} {x : Ev} (h : (pick l m)[i]? = some x) : x ∈ l := by
 induction l generalizing m i with
 | nil => simp [pick] at h
 | cons y t ih =>
  rw [pick] at h
  split at h
  ·
   cases i with
   | zero => simp at h; subst h; exact List.mem_cons_self
   | succ i => rw [List.getElem?_cons_succ] at h; exact List.mem_cons_of_mem _ (ih h)
  · exact List.mem_cons_of_mem _ (ih h)
/-- Whoever is picked stands at a place that is marked. -/
theorem pick_from : ∀ (l : List Ev) (m j : Nat) (x : Ev), (pick l m)[j]? = some x → ∃ i, i < l.length ∧ m / 2 ^ i % 2 = 1 ∧ l[i]? = some x ∧ rank m i = j
 | [], m, j, x, h => by simp [pick] at h
 | y :: t, m, j, x, h => by
  rw [pick] at h
  split at h
  ·
   rename_i h1
   cases j with
   | zero => exact ⟨0, by simp, by simpa using h1, by simpa using h, rfl⟩
   | succ j =>
    rw [List.getElem?_cons_succ] at h
    obtain ⟨i, hi, hb, hx, hr⟩ := pick_from t (m / 2) j x h
    refine ⟨i + 1, by simpa using hi, ?_, by simpa using hx, by rw [rank_cons, hr, h1]; omega⟩
    rw [Nat.pow_succ', ← Nat.div_div_eq_div_mul]; exact hb
  ·
   rename_i h1
   obtain ⟨i, hi, hb, hx, hr⟩ := pick_from t (m / 2) j x h
   refine ⟨i + 1, by simpa using hi, ?_, by simpa using hx, by rw [rank_cons, hr]; omega⟩
   rw [Nat.pow_succ', ← Nat.div_div_eq_div_mul]; exact hb

theorem ex_small {l : List Int} {x : Ev} (h : (explains l x).2 = true) : (explains l x).1.length ≤ 41 := by
 cases hok : lineOk l
 · rw [ex_no hok] at h; cases h
 ·
  have h40 := lineOk_len hok
  cases hev : evOk x
  · rw [ex_ev hok hev] at h; cases h
  ·
   rcases ev_shape hev with ⟨hp, hr | hr⟩ | ⟨hp, hr | hr⟩
   ·
    rw [ex1 hok hev hp hr, linePut, hok]
    cases valB x.v && !decide (l.length = 40)
    · simp; omega
    · simp; omega
   · rw [ex2 hok hev hp hr]; simp only; omega
   ·
    rw [ex4 hok hev hp hr] at h ⊢
    cases hb : ((lineTake l).2.2 && (lineTake l).2.1 == x.v)
    · simp; omega
    ·
     cases l with
     | nil => simp [lineTake, hok]
     | cons y t => simp [lineTake, hok] at h40 ⊢; omega
   · rw [ex3 hok hev hp hr]; simp only; omega

end Go.Proofs.YtplgabogdeeohaaGreat

/-
 The program's smaller functions of this chapter: whether an event may be the next one, the list without it, what is a story of so many, the makers of the orders.
-/
namespace Go.Proofs.YtplgabogdeeohaaGreat
set_option linter.unusedSimpArgs false
set_option linter.unusedVariables false
open Go.RowKit
set_option linter.unusedVariables false
attribute [local go_sem ↓] Go.wp_at_zero Go.wp_at_succ

set_option maxHeartbeats 400000 in
theorem iahead_any (x y : Ev) (w : World) : Calls Tryz.prog 60 #[.agg #[x.who, x.put, x.v, x.re, x.b, x.e], .agg #[y.who, y.put, y.v, y.re, y.b, y.e]] w (RetBelow (.bool (decide (x.e < y.b))) w) := by
 by_cases h : x.e < y.b
 all_goals
  go_enter Tryz.func60, Tryz.ntmps60
  go_wp2
  go_ret
  exact .mk (by simp [h]) (((Below.refl _ _).alloc (Nat.le_refl _) _).alloc (by simp) _)

set_option maxHeartbeats 400000 in
theorem mayBe1_any (x y : Ev) (b : Nat) (w : World) (hb : BoxAt w b #[y.who, y.put, y.v, y.re, y.b, y.e] 31) :
  Calls Tryz.prog 59 #[.agg #[x.who, x.put, x.v, x.re, x.b, x.e], pT b] w (RetBelow (.bool (decide (x.e < y.b))) w) := by
 go_enter Tryz.func59, Tryz.ntmps59
 go_upto_region 1 with fail
 refine wp_abs (fun W => Below w.heap.size w W ∧ BoxAt W b #[y.who, y.put, y.v, y.re, y.b, y.e] 31 ∧ BoxAt W w.heap.size #[x.who, x.put, x.v, x.re, x.b, x.e] 31) ⟨(Below.refl _ _).alloc (Nat.le_refl _) _, hb.alloc _, BoxAt.new _ _ _⟩ ?_
 clear hb
 rintro W ⟨hB, hb, hx⟩
 have kb := hb.cell
 have kx := hx.cell
 go_wp2_with fail
 refine (iahead_any x y _).mono ?_
 rintro e w1 ⟨rfl, hb1⟩
 go_wp2
 go_ret
 exact .mk rfl (bstep hB hB.size hb1)

set_option maxHeartbeats 1000000 in
theorem indexEv_any (l : List Ev) (y : Ev) (b : Nat) (A : Option Addr) (n cap : Nat) (w : World) (h : EvsR w A n l) (hn : n ≤ 1048576) (hb : BoxAt w b #[y.who, y.put, y.v, y.re, y.b, y.e] 31) :
  Calls Tryz.prog 76 #[.slice A n cap, .func (.func 59) #[] #[pT b]] w (fun e w' => ∃ z : Int, e = .returned (.int .i64 z) ∧ nextE l y = !decide (0 ≤ z) ∧ Below w.heap.size w w') := by
 have HL := Lib.hid h.1
 go_enter Tryz.func76, Tryz.ntmps76
 go_wp2
 go_loopw [8] (fun s8 W => ∃ i : Nat, i ≤ n ∧ s8 = .int .i64 i ∧ Below w.heap.size w W ∧ ∀ (j : Nat) o, j < i → l[j]? = some o → y.b ≤ o.e) (fun s8 _ => n - (intOf s8).toNat)
 case atStart => exact ⟨0, Nat.zero_le _, rfl, Below.refl _ _, fun j x h => absurd h (by omega)⟩
 case round =>
  obtain ⟨i, hin, rfl, hB, hal⟩ := hrel
  have HAL := Lib.hid hal; clear hal
  by_cases hlt : i < n
  ·
   obtain ⟨g, o, x, rfl, _, hx, c0, c1, c2, c3, c4, c5⟩ := SlE.at_ (SlE.keep EvE.kept h (fun j _ hj => hB.block j hj)) hlt
   have HX := Lib.hid hx; clear hx
   have g1 : (i : Int) < (n : Int) := by omega
   have g2 : (0 : Int) ≤ (i : Int) := by omega
   go_wp2_with fail
   refine (mayBe1_any x y b _ (hb.below hB hb.lt)).mono ?_
   rintro e w1 ⟨rfl, hb1⟩
   clear c0 c1 c2 c3 c4 c5
   replace hB := bstep hB hB.size hb1
   clear hb1
   by_cases hok : x.e < y.b
   ·
    have hd : decide (x.e < y.b) = true := by simp [hok]
    rw [hd]
    go_wp2
    go_ret
    exact ⟨_, rfl, by rw [nextE_no HX.out hok]; simp, hB⟩
   ·
    have hd : decide (x.e < y.b) = false := by simp [hok]
    rw [hd]
    have HOK := Lib.hid hok; clear hok hd
    go_wp2
    go_roundw
    case rel =>
     refine ⟨i + 1, by omega, by go_num, hB, fun j o hj ho => ?_⟩
     by_cases e : j = i
     ·
      subst e
      have := HX.out
      rw [this] at ho; injection ho with ho; subst ho; have := HOK.out; omega
     · exact (HAL.out j o (by omega) ho)
    case measure => simp [intOf]; omega
  ·
   have g1 : ¬ (i : Int) < (n : Int) := by omega
   obtain rfl : n = i := by omega
   go_wp2
   go_ret
   exact ⟨_, rfl, by rw [nextE_yes (fun j o hj ho => by have := HAL.out j o (by rw [← HL.out]; exact hj) ho; omega)]; decide, hB⟩

set_option maxHeartbeats 400000 in
theorem mayBeNext_any (l : List Ev) (y : Ev) (A : Option Addr) (n cap : Nat) (w : World) (h : EvsR w A n l) (hn : n ≤ 1048576) :
  Calls Tryz.prog 41 #[.slice A n cap, .agg #[y.who, y.put, y.v, y.re, y.b, y.e]] w (RetBelow (.bool (nextE l y)) w) := by
 go_enter Tryz.func41, Tryz.ntmps41
 go_wp2_with fail
 refine calls_abs (fun W => Below w.heap.size w W ∧ BoxAt W w.heap.size #[y.who, y.put, y.v, y.re, y.b, y.e] 31) ⟨(Below.refl _ _).alloc (Nat.le_refl _) _, BoxAt.new _ _ _⟩ ?_
 rintro W ⟨hB, hx⟩
 go_enter Tryz.func58, Tryz.ntmps58
 go_wp2_with fail
 refine (indexEv_any l y _ A n cap _ (h.below hB) hn hx).mono ?_
 rintro e w1 ⟨z, rfl, hz, hb1⟩
 have HZ := Lib.hid hz; clear hz
 by_cases h0 : z ≥ 0
 all_goals
  go_wp2
  go_ret
  exact .mk (by rw [HZ.out]; simp <;> omega) (bstep hB hB.size hb1)

/-! ### The list without one of them -/

theorem ev_one {l : List Ev} : ∀ u ∈ l.flatMap Ev.cs, u.oneCell' = true := by
 intro u hu
 obtain ⟨p, _, hp⟩ := List.mem_flatMap.1 hu
 simp [Ev.cs] at hp
 rcases hp with rfl | rfl | rfl | rfl | rfl | rfl <;> rfl

set_option maxRecDepth 100000 in
set_option maxHeartbeats 1000000 in
theorem growEv_any (n : Nat) (w : World) (hn : n ≤ 1048576) :
  Calls Tryz.prog 77 #[.slice none 0 0, n] w (fun e w' => ∃ v, e = .returned v ∧ w'.ownsRow w.heap.size 31 6 v 0 [] ∧ Below w.heap.size w w') := by
 by_cases h0 : n = 0
 ·
  subst h0
  go_enter Tryz.func77, Tryz.ntmps77
  go_wp2
  go_ret
  exact ⟨_, rfl, World.ownsRow_nil _ _ _ _, Below.refl _ _⟩
 ·
  obtain ⟨i0, hi0, hz0, hz1, hz2⟩ := info_parts event_info
  have h1 : (n : Int) > 0 := by omega
  have h2 : ¬ (n : Int) < 0 := by omega
  have hrun := Lib.run_append_nil_zeros (P := Tryz.prog) w 24 3 24 31 i0 _ .i64 .i64 Tryz.underlying24 Tryz.underlying3 hi0 hz0 n (by omega) (by rw [hz1]; omega) (by omega) (by rw [hz2]; omega)
  have HR := Lib.hid hrun
  clear hrun
  go_enter Tryz.func77, Tryz.ntmps77
  go_wp2_with (at_builtin; go_must (refine Lib.wpList_append_run _ rfl (.tmp 20) (.tmp 21) _ _ rfl _ _ rfl rfl _ _ HR.out ?_))
  go_ret
  refine ⟨_, rfl, ?_, ?_⟩
  ·
   have hg := grownCap_ge w n 0 31
   refine World.ownsRow_made w.drew _ _ (Nat.le_refl _) (grownCap_le_maxLen _ _ _ _ (by unfold maxLen; omega)) ?_
   rw [Array.size_append, size_zeroCells, size_zeroCells, ← Nat.add_mul, Nat.add_sub_cancel' hg]; rfl
  · exact (Below.refl w.heap.size w).drew.alloc (Nat.le_refl _) _

end Go.Proofs.YtplgabogdeeohaaGreat

/-
 The program's list without one of its events: two lists, one behind the other.
-/
namespace Go.Proofs.YtplgabogdeeohaaGreat
set_option linter.unusedSimpArgs false
set_option linter.unusedVariables false
open Go.RowKit
set_option linter.unusedVariables false
attribute [local go_sem ↓] Go.wp_at_zero Go.wp_at_succ

set_option maxRecDepth 100000 in
set_option maxHeartbeats 2000000 in
theorem concatEv_any (l1 l2 : List Ev) (A1 A2 : Option Addr) (n1 c1 n2 c2 b : Nat) (w : World) (h1 : SrcW Ev.cs w A1 n1 c1 l1) (h2 : SrcW Ev.cs w A2 n2 c2 l2) (hn1 : n1 ≤ 4096) (hn2 : n2 ≤ 4096)
  (hb : BoxAt w b #[.slice A1 n1 c1, .slice A2 n2 c2] 24) :
  Calls Tryz.prog 61 #[.slice (some ⟨b, 0, none⟩) 2 2] w (fun e w' => ∃ A cap, e = .returned (.slice A (n1 + n2) cap) ∧ EvsW w.heap.size w'.heap.size w' A (n1 + n2) cap (l1 ++ l2) ∧ Below w.heap.size w w') := by
 obtain ⟨i0, hi0, hz0, hz1, hz2⟩ := info_parts event_info
 have HI := Lib.hid hi0
 have HZ0 := Lib.hid hz0
 have HZ1 := Lib.hid hz1
 have HZ2 := Lib.hid hz2
 clear hi0 hz0 hz1 hz2
 have k0 : w.cell? ⟨b, 0, none⟩ = some (.slice A1 n1 c1) := by rw [hb.cell]; rfl
 have k1 : w.cell? ⟨b, 1, none⟩ = some (.slice A2 n2 c2) := by rw [hb.cell]; rfl
 go_enter Tryz.func61, Tryz.ntmps61
 go_wp2
 go_loopw [3, 11] (fun s3 s11 W => ∃ i : Nat, i ≤ 2 ∧ s11 = .int .i64 i ∧ s3 = .int .i64 (if i = 0 then 0 else if i = 1 then (n1 : Int) else (n1 : Int) + n2) ∧ w = W) (fun _ s11 _ => 2 - (intOf s11).toNat)
 case atStart => exact ⟨0, by omega, rfl, rfl, rfl⟩
 case round =>
  obtain ⟨i, hin, rfl, rfl, rfl⟩ := hrel
  have hc : i = 0 ∨ i = 1 ∨ i = 2 := by omega
  rcases hc with rfl | rfl | rfl
  ·
   go_wp2
   go_roundw
   case rel => exact ⟨1, by omega, rfl, rfl, trivial⟩
   case measure => simp [intOf]
  ·
   go_wp2
   go_roundw
   case rel => exact ⟨2, by omega, rfl, rfl, trivial⟩
   case measure => simp [intOf]
  ·
   clear k0 k1
   have hs := Lib.hid (show ((n1 : Int) + n2) = ((n1 + n2 : Nat) : Int) by omega)
   go_wp2_with fail
   rw [hs.out]
   refine (growEv_any (n1 + n2) _ (by omega)).mono ?_
   rintro e w1 ⟨v, rfl, hv, hb1⟩
   have hx1 := hb.below hb1 hb.lt
   have q1 := h1.below hb1
   have q2 := h2.below hb1
   have hsz := hb1.size
   clear hs
   go_wp2
   go_loopw [6, 27] (fun s6 s27 W => ∃ i : Nat, i ≤ 2 ∧ s27 = .int .i64 i ∧ Below w.heap.size w W ∧ (i = 0 ∧ W.ownsRow w.heap.size 31 6 s6 0 [] ∨ i = 1 ∧ W.ownsRow w.heap.size 31 6 s6 n1 (l1.flatMap Ev.cs) ∨ i = 2 ∧ W.ownsRow w.heap.size 31 6 s6 (n1 + n2) (l1.flatMap Ev.cs ++ l2.flatMap Ev.cs))) (fun _ s27 _ => 2 - (intOf s27).toNat)
   case atStart => exact ⟨0, by omega, rfl, hb1, .inl ⟨rfl, hv⟩⟩
   case round =>
    clear hb1 hv hx1 q1 q2 hsz
    obtain ⟨i, hin, rfl, hB, hc⟩ := hrel
    have hx := hb.below hB hb.lt
    have q1 := h1.below hB
    have q2 := h2.below hB
    have hsz := hB.size
    have k0 : wr.cell? ⟨b, 0, none⟩ = some (.slice A1 n1 c1) := by rw [hx.cell]; rfl
    have k1 : wr.cell? ⟨b, 1, none⟩ = some (.slice A2 n2 c2) := by rw [hx.cell]; rfl
    rcases hc with ⟨rfl, hO⟩ | ⟨rfl, hO⟩ | ⟨rfl, hO⟩
    ·
     go_wp2_with (at_builtin; go_must (refine wpList_append_any rfl (.tmp 31) (.tmp 32) _ rfl w.heap.size 31 i0 _ 6 48 Tryz.underlying24 HI.out HZ0.out HZ1.out HZ2.out rfl (by omega) _ 0 [] rfl hO A1 n1 c1 (l1.flatMap Ev.cs) rfl q1.2.1 (by rw [flat_len _ 6 Ev.cs_len, q1.1]) q1.2.2 ev_one (by unfold maxLen; omega) (by omega) hsz ?_; intro v' w' hO' hg'; have hB' : Below w.heap.size w w' := hB.grown hg' hsz (fun k hk => (hO.lt k hk).1)))
     go_roundw
     case rel => exact ⟨1, by omega, by go_num, hB', .inr (.inl ⟨rfl, by simpa using hO'⟩)⟩
     case measure => simp [intOf]
    ·
     go_wp2_with (at_builtin; go_must (refine wpList_append_any rfl (.tmp 31) (.tmp 32) _ rfl w.heap.size 31 i0 _ 6 48 Tryz.underlying24 HI.out HZ0.out HZ1.out HZ2.out rfl (by omega) _ n1 (l1.flatMap Ev.cs) rfl hO A2 n2 c2 (l2.flatMap Ev.cs) rfl q2.2.1 (by rw [flat_len _ 6 Ev.cs_len, q2.1]) q2.2.2 ev_one (by unfold maxLen; omega) (by omega) hsz ?_; intro v' w' hO' hg'; have hB' : Below w.heap.size w w' := hB.grown hg' hsz (fun k hk => (hO.lt k hk).1)))
     go_roundw
     case rel => exact ⟨2, by omega, by go_num, hB', .inr (.inr ⟨rfl, hO'⟩)⟩
     case measure => simp [intOf]
    ·
     go_wp2
     go_ret
     obtain ⟨A, c, rfl, hW⟩ := SlW.of_own (f := Ev.cs) (l := l1 ++ l2) (by rw [List.flatMap_append]; exact hO) (by rw [List.length_append, h1.1, h2.1])
     exact ⟨A, c, rfl, hW, hB⟩

end Go.Proofs.YtplgabogdeeohaaGreat

/-
 The program's list without one of its events; what is a story of so many; the makers of the orders.
-/
namespace Go.Proofs.YtplgabogdeeohaaGreat
set_option linter.unusedSimpArgs false
set_option linter.unusedVariables false
open Go.RowKit
set_option linter.unusedVariables false
attribute [local go_sem] OpUpon
attribute [local go_sem ↓] Go.wp_at_zero Go.wp_at_succ

theorem SrcW.take {α : Type} {f : α → List Value} {w : World} {A : Option Addr} {n cap k : Nat} {l : List α} (h : SrcW f w A n cap l) (hk : k ≤ n) (hA : A ≠ none) : SrcW f w A k cap (l.take k) :=
 ⟨by rw [List.length_take, h.1]; exact Nat.min_eq_left hk, fun e => absurd e hA, fun ad e j u hu => h.2.2 ad e j u (by
  have e : l.flatMap f = (l.take k).flatMap f ++ (l.drop k).flatMap f := by rw [← List.flatMap_append, List.take_append_drop]
  rw [e, List.getElem?_append_left (List.getElem?_eq_some_iff.1 hu).1]; exact hu)⟩
theorem SrcW.drop {α : Type} {f : α → List Value} {m : Nat} {w : World} {b o n cap k : Nat} {B : Option Addr} {l : List α} (hf : ∀ x, (f x).length = m) (h : SrcW f w (some ⟨b, o, none⟩) n cap l) (hk : k ≤ n) (hB : B ≠ none) (hB2 : k < n → B = some ⟨b, o + k * m, none⟩) : SrcW f w B (n - k) (cap - k) (l.drop k) :=
 ⟨by rw [List.length_drop, h.1], fun e => absurd e hB, fun ad e j u hu => by
  by_cases hlt : k < n
  ·
   rw [hB2 hlt] at e
   injection e with e
   subst e
   have e : l.flatMap f = (l.take k).flatMap f ++ (l.drop k).flatMap f := by rw [← List.flatMap_append, List.take_append_drop]
   have hl : ((l.take k).flatMap f).length = k * m := by rw [flat_len _ m hf, List.length_take, h.1, Nat.min_eq_left hk]
   have := h.2.2 _ rfl (k * m + j) u (by rw [e, List.getElem?_append_right (by omega), hl, Nat.add_sub_cancel_left]; exact hu)
   have ea : (⟨b, o + k * m, none⟩ : Addr).add j = (⟨b, o, none⟩ : Addr).add (k * m + j) := by
    unfold Addr.add
    by_cases hj : j = 0
    ·
     subst hj
     by_cases hk0 : k * m = 0 <;> simp [hk0]
    · simp [hj, Nat.add_assoc]
   rw [ea]
   exact this
  ·
   rw [List.drop_eq_nil_of_le (by rw [h.1]; omega)] at hu
   simp at hu⟩
theorem erase_at {α : Type} {l : List α} {i : Nat} : l.eraseIdx i = l.take i ++ l.drop (i + 1) := List.eraseIdx_eq_take_drop_succ l i

def woRV (l : List Ev) (b n cap i lo hi M : Nat) : List Sl := [.v (.slice (some ⟨b, 0, none⟩) n cap),
 .v (.int .i64 ((i : Int))),
 .v (.slice (some ⟨b, 0, none⟩) i cap),
 .v (.slice (some ⟨b, 0, none⟩) n cap),
 .v (.int .i64 ((i : Int))),
 .v (.int .i64 (((i : Int) + 1))),
 .e fun σ w => ∃ (A6 : Option Addr) (c6 : Nat), σ 6 = .slice A6 (n - (i + 1)) c6 ∧ SrcW Ev.cs w A6 (n - (i + 1)) c6 (l.drop (i + 1)),
 .e fun σ w => ∃ (A6 : Option Addr) (c6 g7 : Nat), σ 7 = .slice (some ⟨g7, 0, none⟩) 2 2 ∧ SrcW Ev.cs w A6 (n - (i + 1)) c6 (l.drop (i + 1)) ∧ BoxAt w g7 #[.slice (some ⟨b, 0, none⟩) i cap, .slice A6 (n - (i + 1)) c6] 24,
 .e fun σ w => ∃ (A8 : Option Addr) (c8 : Nat), σ 8 = .slice A8 (i + (n - (i + 1))) c8 ∧ EvsW M w.heap.size w A8 (i + (n - (i + 1))) c8 (l.take i ++ l.drop (i + 1)),
 .e fun σ w => ∃ (A8 : Option Addr) (c8 : Nat), σ 9 = .slice A8 (i + (n - (i + 1))) c8 ∧ EvsW M w.heap.size w A8 (i + (n - (i + 1))) c8 (l.take i ++ l.drop (i + 1))]

set_option maxRecDepth 100000 in
set_option maxHeartbeats 2000000 in
theorem without_any (l : List Ev) (A : Option Addr) (n cap i : Nat) (lo hi : Nat) (w : World) (h : EvsW lo hi w A n cap l) (hhi : hi ≤ w.heap.size) (hi_ : i < n) (hn : n ≤ 4096) :
  Calls Tryz.prog 42 #[.slice A n cap, i] w (fun e w' => ∃ A' c, e = .returned (.slice A' (n - 1) c) ∧ EvsW w.heap.size w'.heap.size w' A' (n - 1) c (l.eraseIdx i) ∧ Below w.heap.size w w') := by
 obtain ⟨b, rfl, _, hbh, hO⟩ := SlW.at0 h (by omega)
 have hcap : n ≤ cap := hO.2.2.1
 have hcm : cap ≤ maxLen := hO.2.2.2.1
 have h1 : (0 : Int) ≤ (i : Int) := by omega
 have h2 : (i : Int) ≤ (cap : Int) := by omega
 have h3 : (0 : Int) ≤ (i : Int) + 1 := by omega
 have h4 : (i : Int) + 1 ≤ (n : Int) := by omega
 have h5 : (n : Int) ≤ (cap : Int) := by omega
 have w1 : IntKind.wrap .i64 ((i : Int) + 1) = (i : Int) + 1 := Go.IntWalk.i64_in _ (by omega)
 have hnn : i + (n - (i + 1)) = n - 1 := by omega
 have HN := Lib.hid hnn
 have hI := h
 clear h hO hnn
 have hB := Below.refl w.heap.size w
 obtain ⟨M, hMe⟩ : ∃ M, M = w.heap.size := ⟨_, rfl⟩
 have hM : M ≤ w.heap.size := by omega
 have HM := Lib.hid hMe
 clear hMe
 go_enter Tryz.func42, Tryz.ntmps42
 go_wp2_with fail
 refine wp_region2v (fun w w' => Below w.heap.size w w') (fun _ _ h => h.size) (fun _ => Below.refl _ _) (fun L W' => Below w.heap.size w W' ∧ M ≤ W'.heap.size ∧ hi ≤ W'.heap.size ∧ EvsW lo hi W' (some ⟨b, 0, none⟩) n cap l) (woRV l b n cap i lo hi M) (fun _ => 0) [] (by kernel_rfl) (by kernel_rfl) ?_ ?_ ?_
  (.still rfl ?a0 <| .still rfl ?a1 <| .still rfl ?a2 <| .still rfl ?a3 <| .still rfl ?a4 <| .still rfl ?a5 <| .grow rfl ?a6 <| .grow rfl ?a7 <| .grow rfl ?a8 <| .still rfl ?a9 <| .nil) ?_ ?_
 · exact ⟨fun _ _ _ h ⟨A6, c6, e, hp⟩ => ⟨A6, c6, (h 6 (List.mem_singleton.2 rfl)).symm.trans e, hp⟩, fun _ _ _ h ⟨A6, c6, g7, e, hp⟩ => ⟨A6, c6, g7, (h 7 (List.mem_singleton.2 rfl)).symm.trans e, hp⟩, fun _ _ _ h ⟨A8, c8, e, hp⟩ => ⟨A8, c8, (h 8 (List.mem_singleton.2 rfl)).symm.trans e, hp⟩, fun _ _ _ h ⟨A8, c8, e, hp⟩ => ⟨A8, c8, (h 9 (List.mem_singleton.2 rfl)).symm.trans e, hp⟩, trivial⟩
 · exact ⟨fun σ w w' hb ⟨A6, c6, e, hp⟩ => ⟨A6, c6, e, hp.below hb⟩, fun σ w w' hb ⟨A6, c6, g7, e, hp⟩ => ⟨A6, c6, g7, e, ⟨hp.1.below hb, hp.2.below hb hp.2.lt⟩⟩, fun σ w w' hb ⟨A8, c8, e, hp⟩ => ⟨A8, c8, e, SlW.mono (SlW.below hp hb (Nat.le_refl _)) (Nat.le_refl _) hb.size⟩, fun σ w w' hb ⟨A8, c8, e, hp⟩ => ⟨A8, c8, e, SlW.mono (SlW.below hp hb (Nat.le_refl _)) (Nat.le_refl _) hb.size⟩, trivial⟩
 · exact ⟨hB.drew, hM, hhi, hI⟩
 case a0 | a1 | a3 | a4 =>
  go_light
  intro L σ W' hcl hL hC hw
  clear hw hcl hL hC
  refine OpGoes.go fun K hK => ?_
  go_simp
  exact hK _ _ ⟨rfl, rfl⟩
 case a2 =>
  go_light
  intro L σ W' hcl hL hC hw
  have e0 := wV hw 0 rfl
  have e1 := wV hw 1 rfl
  have g1 := h1
  have g2 := h2
  clear hw hcl hL hC
  refine OpGoes.go fun K hK => ?_
  go_simp
  exact hK _ _ ⟨rfl, rfl⟩
 case a5 =>
  go_light
  intro L σ W' hcl hL hC hw
  have e4 := wV hw 4 rfl
  have gw := w1
  clear hw hcl hL hC
  refine OpGoes.go fun K hK => ?_
  go_simp
  exact hK _ _ ⟨rfl, rfl⟩
 case a6 =>
  go_light
  intro L σ W' hcl hL hC hw
  have e3 := wV hw 3 rfl
  have e5 := wV hw 5 rfl
  clear hw
  obtain ⟨hB, hM, hhi, hI⟩ := hC
  have g3 := h3
  have g4 := h4
  have g5 := h5
  clear hcl hL
  refine OpGoes.go fun K hK => ?_
  go_simp
  refine hK _ _ ⟨⟨hB, hM, hhi, hI⟩, ⟨_, _, rfl, ?_⟩, Below.refl _ _⟩
  by_cases hcp : cap = i + 1
  · refine .drop Ev.cs_len (SlW.src hI Ev.cs_len) (by omega) (by simp [hcp]) (fun hlt => by omega)
  · refine .drop Ev.cs_len (SlW.src hI Ev.cs_len) (by omega) (by simp [hcp]) (fun hlt => by simp [hcp, Addr.add] <;> omega)
 case a7 =>
  go_light
  intro L σ W' hcl hL hC hw
  have e2 := wV hw 2 rfl
  obtain ⟨A6, c6, e6, hp6⟩ := wE hw 6 rfl
  clear hw
  have HC := Lib.hid hC
  clear hC
  clear hcl hL
  refine OpGoes.go fun K hK => ?_
  go_simp
  obtain ⟨hB, hM, hhi, hI⟩ := HC.out
  have hb1 : Below W'.heap.size W' (W'.alloc (.cells #[.slice (some ⟨b, 0, none⟩) i cap, .slice A6 (n - (i + 1)) c6] 24)) := (Below.refl _ _).alloc (Nat.le_refl _) _
  exact hK _ _ ⟨⟨bstep hB hB.size hb1, Nat.le_trans hM hb1.size, Nat.le_trans hhi hb1.size, SlW.below hI hb1 hhi⟩, ⟨A6, c6, W'.heap.size, rfl, hp6.below hb1, BoxAt.new _ _ _⟩, hb1⟩
 case a8 =>
  go_light
  intro L σ W' hcl hL hC hw
  obtain ⟨A6, c6, g7, e7, hp7⟩ := wE hw 7 rfl
  clear hw
  have HC := Lib.hid hC
  clear hC
  clear hcl hL
  refine OpGoes.go fun K hK => ?_
  go_simp
  obtain ⟨hB, hM, hhi, hI⟩ := HC.out
  refine (concatEv_any (l.take i) (l.drop (i + 1)) (some ⟨b, 0, none⟩) A6 i cap (n - (i + 1)) c6 g7 _ (SrcW.take (SlW.src hI Ev.cs_len) (by omega) (by simp)) hp7.1 (by omega) (by omega) hp7.2).mono ?_
  rintro e w1 ⟨A8, c8, rfl, hX8, hb1⟩
  exact ⟨_, rfl, hK _ _ ⟨⟨bstep hB hB.size hb1, Nat.le_trans hM hb1.size, Nat.le_trans hhi hb1.size, SlW.below hI hb1 hhi⟩, ⟨A8, c8, rfl, SlW.mono hX8 hM (Nat.le_refl _)⟩, hb1⟩⟩
 case a9 =>
  go_light
  intro L σ W' hcl hL hC hw
  obtain ⟨A8, c8, e8, hp8⟩ := wE hw 8 rfl
  clear hw hcl hL hC
  refine OpGoes.go fun K hK => ?_
  go_simp
  exact hK _ _ ⟨rfl, ⟨A8, c8, rfl, hp8⟩⟩
 ·
  intro L L' W' hLL hC
  obtain ⟨hB, hM, hhi, hI⟩ := hC
  exact ⟨hB, hM, hhi, hI⟩
 ·
  intro σ L W' hall hC hRR
  obtain ⟨hB, hM, hhi, hI⟩ := hC
  obtain ⟨A8, c8, e9, hp9⟩ := dE hRR 9 rfl
  clear hRR
  simp only [lexAll]
  go_simp
  go_step
  go_wp2
  go_ret
  rw [HN.out, ← erase_at] at hp9
  rw [HN.out]
  rw [HM.out] at hp9
  exact ⟨A8, c8, rfl, hp9, hB⟩

end Go.Proofs.YtplgabogdeeohaaGreat

/-
 What is a story of so many; the makers of the orders.
-/
namespace Go.Proofs.YtplgabogdeeohaaGreat
set_option linter.unusedSimpArgs false
set_option linter.unusedVariables false
open Go.RowKit
set_option linter.unusedVariables false
attribute [local go_sem ↓] Go.wp_at_zero Go.wp_at_succ

set_option maxHeartbeats 400000 in
theorem isStoryUpTo_any (l : List Ev) (A : Option Addr) (n cap m : Nat) (w : World) (h : EvsR w A n l) (hn : n ≤ 1048576) (hm : m ≤ 1000) :
  Calls Tryz.prog 15 #[.slice A n cap, m] w (RetBelow (.bool (decide (n ≤ m) && storyOk l)) w) := by
 by_cases hle : n ≤ m
 ·
  have g1 : (n : Int) ≤ (m : Int) := by omega
  have HD := Lib.hid (show decide (n ≤ m) = true by simp [hle])
  go_enter Tryz.func15, Tryz.ntmps15
  go_wp2_with fail
  refine (istory_any l A n cap _ h hn).mono ?_
  rintro e w1 ⟨rfl, hb1⟩
  go_wp2
  go_ret
  exact .mk (by rw [HD.out]; rfl) hb1
 ·
  have g1 : ¬ (n : Int) ≤ (m : Int) := by omega
  have HD := Lib.hid (show decide (n ≤ m) = false by simp [hle])
  go_enter Tryz.func15, Tryz.ntmps15
  go_wp2
  go_ret
  exact .mk rfl (Below.refl _ _)

set_option maxHeartbeats 400000 in
theorem ordersFrom_any (A B : Option Addr) (n cap m c : Nat) (w : World) :
  Calls Tryz.prog 26 #[.slice B m c, .slice A n cap] w (fun e w' => e = .returned (.func (.func 39) #[] #[pT (w.heap.size + 1), pT w.heap.size]) ∧ w' = (w.alloc (.cells #[.slice B m c] 28)).alloc (.cells #[.slice A n cap] 24)) := by
 go_enter Tryz.func26, Tryz.ntmps26
 go_wp2
 go_ret
 exact ⟨by simp, rfl⟩

set_option maxHeartbeats 400000 in
theorem ordersOf_any (A : Option Addr) (n cap : Nat) (w : World) :
  Calls Tryz.prog 16 #[.slice A n cap] w (fun e w' => e = .returned (.func (.func 39) #[] #[pT (w.heap.size + 1), pT w.heap.size]) ∧ w' = (w.alloc (.cells #[.slice none 0 0] 28)).alloc (.cells #[.slice A n cap] 24)) := by
 go_enter Tryz.func16, Tryz.ntmps16
 go_wp2_with fail
 refine (ordersFrom_any A none n cap 0 0 w).mono ?_
 rintro e w1 ⟨rfl, rfl⟩
 go_wp2
 go_ret
 exact ⟨rfl, rfl⟩

end Go.Proofs.YtplgabogdeeohaaGreat

/-
 The program's orders: as many values come as there are orders.
-/
namespace Go.Proofs.YtplgabogdeeohaaGreat
set_option linter.unusedSimpArgs false
set_option linter.unusedVariables false
open Go.RowKit Go.Shelf
set_option linter.unusedVariables false
attribute [local go_sem] Oper.semAt_some
attribute [local go_sem ↓] Go.wp_at_zero Go.wp_at_succ

def OrdPost (X N : Nat) (J Jx : List Value → World → Prop) (W : World) (e : Ending) (W' : World) : Prop :=
 (∃ v, e = .returned v) ∧ KpO X W.heap.size W W' ∧ ((∃ xs, xs.length = N ∧ J xs W') ∨ (∃ pre, pre.length ≤ N ∧ Jx pre W'))

/-- What is there when the closure is called: the two captured variables, and what they hold. -/
structure OrdAt (X Bl Br : Nat) (left : List Ev) (A : Option Addr) (n cap lo hi : Nat) (line : List Int) (A' : Option Addr) (m c lo' hi' : Nat) (W : World) : Prop where
 l : BoxAt W Bl #[.slice A n cap] 24
 r : BoxAt W Br #[.slice A' m c] 28
 L : EvsW lo hi W A n cap left
 R : IntsW lo' hi' W A' m c line
 lX : Bl ≠ X
 rX : Br ≠ X
 LX : X < lo ∨ hi ≤ X
 RX : X < lo' ∨ hi' ≤ X
 hL : hi ≤ W.heap.size
 hR : hi' ≤ W.heap.size
theorem OrdAt.kp {X Bl Br : Nat} {left : List Ev} {A : Option Addr} {n cap lo hi : Nat} {line : List Int} {A' : Option Addr} {m c lo' hi' B : Nat} {W W' : World} (h : OrdAt X Bl Br left A n cap lo hi line A' m c lo' hi' W) (k : KpO X B W W') : OrdAt X Bl Br left A n cap lo hi line A' m c lo' hi' W' :=
 ⟨k.box h.l h.lX, k.box h.r h.rX, k.sl h.L h.LX, k.sl h.R h.RX, h.lX, h.rX, h.LX, h.RX, Nat.le_trans h.hL k.size, Nat.le_trans h.hR k.size⟩
theorem OrdAt.own {X Bl Br : Nat} {left : List Ev} {A : Option Addr} {n cap lo hi : Nat} {line : List Int} {A' : Option Addr} {m c lo' hi' B : Nat} {β : Type} : OwnFrom B (fun (_ : β) W => OrdAt X Bl Br left A n cap lo hi line A' m c lo' hi' W) := fun _ W W' row h hg hr => h.kp (.grown hg (fun r e => (hr r e).2) (Nat.le_refl _))

/-- A function leaves past its marks. -/
theorem leavesM {n : Nat} {P : Program} {fn : Func} {tmps : Array Value} {R : Ending → World → Prop} {M : Nat} (G : World → Prop) (hr : ∀ W, G W → ∃ v, (results fn tmps).run P W = .ok v W ∧ R (.returned v) W)
  (hp : ∀ W D, M ≤ D → G W → W.heap[D]? = some (.deferred (some [])) → G (W.putObj D (.deferred none))) :
  ∀ (Ds : List Nat) (W : World), Ds.Nodup → (∀ D ∈ Ds, M ≤ D ∧ W.heap[D]? = some (.deferred (some []))) → G W →
   LeavesInM Fence.wide n P fn tmps R (Ds.map fun D => { target := .collected D, args := #[] }) .returning W
 | [], W, _, _, h => hr W h
 | D :: Ds, W, hd, hD, h => by
  have h1 := hD D List.mem_cons_self
  refine ⟨by simp, .inl ⟨D, _, rfl, run_takeDeferred h1.2, ?_⟩⟩
  refine leavesM G hr hp Ds _ (List.nodup_cons.1 hd).2 (fun E hE => ?_) (hp W D h1.1 h h1.2)
  have h2 := hD E (List.mem_cons_of_mem _ hE)
  exact ⟨h2.1, (World.putObj_heap_other (fun e => (List.nodup_cons.1 hd).1 (by rw [← e]; exact hE))).trans h2.2⟩

theorem ords_nil {left : List Ev} (h : left.length = 0) : left = [] := List.eq_nil_of_length_eq_zero h

set_option maxRecDepth 100000 in
set_option maxHeartbeats 4000000 in
theorem ords_in : ∀ (k : Nat) (left : List Ev) (line : List Int) (X l Bl Br : Nat) (A : Option Addr) (n cap lo hi : Nat) (A' : Option Addr) (m c lo' hi' : Nat) (J Jx : List Value → World → Prop) (W : World),
  left.length = k → n ≤ 4096 → m ≤ 4096 → X < W.heap.size → OwnFrom W.heap.size J → OwnFrom W.heap.size Jx → OrdAt X Bl Br left A n cap lo hi line A' m c lo' hi' W →
  (∀ pre x W1, J pre W1 → pre.length < cntO k left line → YieldAt Fence.wide 0 Tryz.prog l #[x] W1 fun e W' =>
   (e = .returned (.bool true) ∧ J (pre ++ [x]) W' ∧ KpO X W.heap.size W1 W') ∨ (e = .returned (.bool false) ∧ Jx (pre ++ [x]) W' ∧ KpO X W.heap.size W1 W')) →
  J [] W → CallsIn Fence.wide 0 Tryz.prog 39 #[.func (.yield l) #[] #[], .pointer (some ⟨Bl, 0, none⟩), .pointer (some ⟨Br, 0, none⟩)] W (OrdPost X (cntO k left line) J Jx W) := by
 intro k
 induction k with
 | zero =>
  intro left line X l Bl Br A n cap lo hi A' m c lo' hi' J Jx W hlen hn hm hX hJ hJx hat hY h0
  have hn0 : n = 0 := by have := hat.L.1; omega
  subst hn0
  refine callsIn_of_wp_marks Tryz.func39 rfl trivial ?_ rfl
  simp only [Tryz.ntmps39, List.size_toArray, List.length_cons, List.length_nil, Nat.reduceAdd, Nat.reduceSub, Array.replicate_succ, Array.replicate_zero, List.push_toArray, List.append_toArray, List.nil_append, List.cons_append]
  have kk : KpO X W.heap.size W (W.alloc (.cells #[.func (.yield l) #[] #[]] 41)) := .below ((Below.refl _ _).alloc (Nat.le_refl _) _)
  have ha := hat.kp kk
  have k1 := ha.l.cell
  have k2 := ha.r.cell
  have hj := OwnFrom.below_ hJ h0 ((Below.refl W.heap.size W).alloc (Nat.le_refl _) (.cells #[.func (.yield l) #[] #[]] 41))
  obtain ⟨fn, tmps, assign, body, hy, hRd⟩ := hY [] (.slice A' m c) _ hj (by simp [cntO])
  replace hRd := RoundIn.wide0 (m := 0) hRd
  gi_wp2
  refine ⟨rfl, hRd.mono ?_⟩
  rintro e W3 (⟨rfl, hJ3, hk3⟩ | ⟨rfl, hJx3, hk3⟩)
  ·
   gi_wp2
   refine ⟨_, results_none rfl _ _ _, ⟨_, rfl⟩, kk.trans hk3, .inl ⟨_, rfl, hJ3⟩⟩
  ·
   gi_wp2
   refine ⟨_, results_none rfl _ _ _, ⟨_, rfl⟩, kk.trans hk3, .inr ⟨_, Nat.le_refl _, hJx3⟩⟩
 | succ k ih =>
  intro left line X l Bl Br A n cap lo hi A' m c lo' hi' J Jx W hlen hn hm hX hJ hJx hat hY h0
  have hn1 : left.length = n := hat.L.1
  have hpos : 0 < n := by omega
  refine callsIn_of_wp_marks Tryz.func39 rfl trivial ?_ rfl
  simp only [Tryz.ntmps39, List.size_toArray, List.length_cons, List.length_nil, Nat.reduceAdd, Nat.reduceSub, Array.replicate_succ, Array.replicate_zero, List.push_toArray, List.append_toArray, List.nil_append, List.cons_append]
  gi_upto_region 1 with fail
  have kk : KpO X W.heap.size W (W.alloc (.cells #[.func (.yield l) #[] #[]] 41)) := .below ((Below.refl _ _).alloc (Nat.le_refl _) _)
  have hat1 := hat.kp kk
  have hj1 := OwnFrom.below_ hJ h0 ((Below.refl W.heap.size W).alloc (Nat.le_refl _) (.cells #[.func (.yield l) #[] #[]] 41))
  have hy1 : BoxAt (W.alloc (.cells #[.func (.yield l) #[] #[]] 41)) W.heap.size #[.func (.yield l) #[] #[]] 41 := .new _ _ _
  clear h0 hat
  obtain ⟨W1, hW1⟩ : ∃ W1, W.alloc (.cells #[.func (.yield l) #[] #[]] 41) = W1 := ⟨_, rfl⟩
  rw [hW1] at kk hat1 hj1 hy1 ⊢
  clear hW1
  have k1 := hat1.l.cell
  have g0 : ¬ (n : Int) = 0 := by omega
  gi_wp2
  obtain ⟨b11, hb11⟩ : ∃ b11, Value.bool ((n : Int) == 0) = b11 := ⟨_, rfl⟩
  rw [hb11]
  clear hb11 k1
  refine wpIn_loop (fun a wr => ∃ (i : Nat) (pre : List Value) (Ds : List Nat) (s4 s5 s6 s7 s8 s18 s19 s20 s21 s22 s23 s24 s25 s26 s27 s28 s29 s30 s31 s32 s33 s34 s35 s36 s37 s38 s39 s40 s41 s42 s43 s44 s45 s46 : Value), a = { tmps := #[.func (.yield l) #[] #[], .pointer (some ⟨Bl, 0, none⟩), .pointer (some ⟨Br, 0, none⟩), .pointer (some ⟨W.heap.size, 0, none⟩), s4, s5, s6, s7, s8, .slice A n cap, .int .i64 (n : Int), b11, undef, undef, undef, .slice A n cap, .int .i64 (n : Int), .int .i64 (i : Int), s18, s19, s20, s21, s22, s23, s24, s25, s26, s27, s28, s29, s30, s31, s32, s33, s34, s35, s36, s37, s38, s39, s40, s41, s42, s43, s44, s45, s46], defers := Ds.map fun D => { target := .collected D, args := #[] } } ∧ i ≤ n ∧ pre.length = sumN (stepN (cntO k) left line) i ∧ J pre wr ∧ KpO X W.heap.size W wr ∧ OrdAt X Bl Br left A n cap lo hi line A' m c lo' hi' wr ∧ BoxAt wr W.heap.size #[.func (.yield l) #[] #[]] 41 ∧ Ds.Nodup ∧ ∀ D ∈ Ds, W.heap.size ≤ D ∧ wr.heap[D]? = some (.deferred (some []))) (fun a _ => n - (intOf (a.tmps.getD 17 undef)).toNat) ?_ ?_
  · exact ⟨0, [], [], _, _, _, _, _, _, _, _, _, _, _, _, _, _, _, _, _, _, _, _, _, _, _, _, _, _, _, _, _, _, _, _, _, _, rfl, Nat.zero_le _, rfl, hj1, kk, hat1, hy1, List.nodup_nil, fun D h => by simp at h⟩
  clear hj1 kk hat1 hy1
  rintro a wr ⟨i, pre, Ds, s4, s5, s6, s7, s8, s18, s19, s20, s21, s22, s23, s24, s25, s26, s27, s28, s29, s30, s31, s32, s33, s34, s35, s36, s37, s38, s39, s40, s41, s42, s43, s44, s45, s46, rfl, hi_, hpl, hj, kk, hat, hy, hnd, hDs⟩
  by_cases hlt : i < n
  ·
   have g1 : (i : Int) < (n : Int) := by omega
   have g2 : (0 : Int) ≤ (i : Int) := by omega
   obtain ⟨b, x, rfl, hlb, hbh, hx, hc⟩ := SlW.at_ hat.L Ev.cs_len hlt
   have c0 := hc 0 _ rfl
   have c1 := hc 1 _ rfl
   have c2 := hc 2 _ rfl
   have c3 := hc 3 _ rfl
   have c4 := hc 4 _ rfl
   have c5 := hc 5 _ rfl
   simp only [Nat.add_zero] at c0
   gi_upto_region 6 with fail
   clear c0 c1 c2 c3 c4 c5 hc
   have ke : KpO X W.heap.size wr (wr.alloc (.cells #[.int .i64 x.who, .bool x.put, .int .i64 x.v, .int .i64 x.re, .int .i64 x.b, .int .i64 x.e] 31)) := .below ((Below.refl _ _).alloc (Nat.le_refl _) _)
   have hbe := (Below.refl wr.heap.size wr).alloc (Nat.le_refl _) (.cells #[.int .i64 x.who, .bool x.put, .int .i64 x.v, .int .i64 x.re, .int .i64 x.b, .int .i64 x.e] 31)
   have hx0 : BoxAt (wr.alloc (.cells #[.int .i64 x.who, .bool x.put, .int .i64 x.v, .int .i64 x.re, .int .i64 x.b, .int .i64 x.e] 31)) wr.heap.size #[.int .i64 x.who, .bool x.put, .int .i64 x.v, .int .i64 x.re, .int .i64 x.b, .int .i64 x.e] 31 := .new _ _ _
   replace hj := OwnFrom.below_ (OwnFrom.up hJ (B' := wr.heap.size) kk.size) hj hbe
   replace hDs : ∀ D ∈ Ds, W.heap.size ≤ D ∧ (wr.alloc (.cells #[.int .i64 x.who, .bool x.put, .int .i64 x.v, .int .i64 x.re, .int .i64 x.b, .int .i64 x.e] 31)).heap[D]? = some (.deferred (some [])) := fun D hD => ⟨(hDs D hD).1, (hbe.block D (lt_of_some (hDs D hD).2)).trans (hDs D hD).2⟩
   replace hat := hat.kp ke
   replace hy := hy.below hbe hy.lt
   have hWr := kk.size
   replace kk := kk.trans ke
   obtain ⟨E, hE⟩ : ∃ E, wr.heap.size = E := ⟨_, rfl⟩
   obtain ⟨w1, hw1⟩ : ∃ w1, wr.alloc (.cells #[.int .i64 x.who, .bool x.put, .int .i64 x.v, .int .i64 x.re, .int .i64 x.b, .int .i64 x.e] 31) = w1 := ⟨_, rfl⟩
   rw [hw1] at ke hbe hx0 hj hDs hat hy kk ⊢
   rw [hE] at hx0 hWr ⊢
   clear hw1 ke hbe hE
   have HX := Lib.hid hx
   clear hx
   have kr := hat.r.cell
   have kx := hx0.cell
   have hm1 : m ≤ 1048576 := by omega
   gi_wp2_with fail
   refine ⟨trivial, rfl, (callsIn_wide.2 (iexplains_any line x A' m c lo' hi' w1 hat.R hat.hR hm1)).mono ?_⟩
   obtain ⟨th, is, hq⟩ : ∃ th is, explains line x = (th, is) := ⟨_, _, rfl⟩
   have HQ := Lib.hid hq
   rw [hq]
   clear hq kr kx
   rintro e w2 ⟨A1, c1, rfl, hT, hb2⟩
   simp only at hT
   have keep : ∀ {u v : World}, Below u.heap.size u v → W.heap.size ≤ u.heap.size → J pre u → (∀ D ∈ Ds, W.heap.size ≤ D ∧ u.heap[D]? = some (.deferred (some []))) → J pre v ∧ ∀ D ∈ Ds, W.heap.size ≤ D ∧ v.heap[D]? = some (.deferred (some [])) := fun hb hs hj hd =>
    ⟨OwnFrom.below_ (OwnFrom.up hJ hs) hj hb, fun D hD => ⟨(hd D hD).1, (hb.block D (lt_of_some (hd D hD).2)).trans (hd D hD).2⟩⟩
   obtain ⟨hj2, hD2⟩ := keep hb2 kk.size hj hDs
   have hat2 := hat.kp (.below (B := W.heap.size) hb2)
   have hy2 := hy.below hb2 hy.lt
   have hx2 := hx0.below hb2 hx0.lt
   have kk2 := kk.trans (.below hb2)
   have hXT : X < w1.heap.size := by have := kk.size; omega
   have hs12 := hb2.size
   clear hj hDs hat hy hx0 kk hb2
   have goes : ∀ (w' : World) (s4 s5 s6 s7 s8 s18 s19 s20 s21 s22 s23 s24 s25 s26 s27 s28 s29 s30 s31 s32 s33 s34 s35 s36 s37 s38 s39 s40 s41 s42 s43 s44 s45 s46 : Value), J pre w' → (∀ D ∈ Ds, W.heap.size ≤ D ∧ w'.heap[D]? = some (.deferred (some []))) → KpO X W.heap.size W w' → OrdAt X Bl Br left (some ⟨b, 0, none⟩) n cap lo hi line A' m c lo' hi' w' → BoxAt w' W.heap.size #[.func (.yield l) #[] #[]] 41 → stepN (cntO k) left line i = 0 → True := fun _ _ _ _ _ _ _ _ _ _ _ _ _ _ _ _ _ _ _ _ _ _ _ _ _ _ _ _ _ _ _ _ _ _ _ _ _ _ _ _ _ => trivial
   clear goes
   cases is
   ·
    have hs0 : stepN (cntO k) left line i = 0 := by rw [stepN_at HX.out, HQ.out]; rfl
    have HS := Lib.hid hs0; clear hs0
    gi_wp2
    refine ⟨trivial, ?_⟩
    gi_wp2
    refine ⟨⟨i + 1, pre, Ds, _, _, _, _, _, _, _, _, _, _, _, _, _, _, _, _, _, _, _, _, _, _, _, _, _, _, _, _, _, _, _, _, _, _, rfl, by omega, (by rw [hpl]; show _ = sumN _ i + _; rw [HS.out]; rfl), hj2, kk2, hat2, hy2, hnd, hD2⟩, ?_⟩
    simp [intOf]
    omega
   ·
    have kl := hat2.l.cell
    have kx := hx2.cell
    have hn2 : n ≤ 1048576 := by omega
    gi_wp2_with fail
    refine ⟨trivial, rfl, (callsIn_wide.2 (mayBeNext_any left x _ n cap w2 (EvsW.r hat2.L) hn2)).mono ?_⟩
    clear kl kx
    rintro e w3 ⟨rfl, hb3⟩
    replace hT := SlW.below hT hb3 (Nat.le_refl _)
    have hs23 := hb3.size
    obtain ⟨hj3, hD3⟩ := keep hb3 kk2.size hj2 hD2
    have hat3 := hat2.kp (.below (B := W.heap.size) hb3)
    have hy3 := hy2.below hb3 hy2.lt
    have hx3 := hx2.below hb3 hx2.lt
    have kk3 := kk2.trans (.below hb3)
    clear hj2 hD2 hat2 hy2 hx2 kk2
    clear hb3
    cases hnx : nextE left x
    ·
     have hs0 : stepN (cntO k) left line i = 0 := by rw [stepN_at HX.out, HQ.out, hnx]; rfl
     have HS := Lib.hid hs0; clear hs0 hnx
     gi_wp2
     refine ⟨⟨i + 1, pre, Ds, _, _, _, _, _, _, _, _, _, _, _, _, _, _, _, _, _, _, _, _, _, _, _, _, _, _, _, _, _, _, _, _, _, _, rfl, by omega, (by rw [hpl]; show _ = sumN _ i + _; rw [HS.out]; rfl), hj3, kk3, hat3, hy3, hnd, hD3⟩, ?_⟩
     simp [intOf]
     omega
    ·
     have hs0 : stepN (cntO k) left line i = cntO k (left.eraseIdx i) th := by rw [stepN_at HX.out, HQ.out, hnx]; rfl
     have HS := Lib.hid hs0; clear hs0 hnx
     have hth : th.length ≤ 41 := by have := ex_small (l := line) (x := x) (by rw [HQ.out]); rw [HQ.out] at this; exact this
     have kl := hat3.l.cell
     gi_wp2_with fail
     refine ⟨trivial, rfl, (callsIn_wide.2 (without_any left _ n cap i lo hi w3 hat3.L hat3.hL hlt hn)).mono ?_⟩
     clear kl
     rintro e w4 ⟨A2, c2, rfl, hE2, hb4⟩
     replace hT := SlW.below hT hb4 hs23
     have hs34 := hb4.size
     obtain ⟨hj4, hD4⟩ := keep hb4 kk3.size hj3 hD3
     have hat4 := hat3.kp (.below (B := W.heap.size) hb4)
     have hy4 := hy3.below hb4 hy3.lt
     have hx4 := hx3.below hb4 hx3.lt
     have kk4 := kk3.trans (.below hb4)
     clear hj3 hD3 hat3 hy3 hx3 kk3
     clear hb4
     gi_wp2_with fail
     refine ⟨trivial, rfl, (callsIn_wide.2 (ordersFrom_any A2 A1 (n - 1) c2 th.length c1 w4)).mono ?_⟩
     rintro e w5 ⟨rfl, hw5⟩
     have hb5 : Below w4.heap.size w4 w5 := by rw [hw5]; exact ((Below.refl _ _).alloc (Nat.le_refl _) _).alloc (by simp) _
     have hs5 : w5.heap.size = w4.heap.size + 2 := by rw [hw5]; simp
     have hat6 : OrdAt X (w4.heap.size + 1) w4.heap.size (left.eraseIdx i) A2 (n - 1) c2 w3.heap.size w4.heap.size th A1 th.length c1 w1.heap.size w2.heap.size w5 := by
      have h1 : BoxAt w5 (w4.heap.size + 1) #[.slice A2 (n - 1) c2] 24 := by rw [hw5]; exact BoxAt.new' (by simp)
      have h2 : BoxAt w5 w4.heap.size #[.slice A1 th.length c1] 28 := by rw [hw5]; exact (BoxAt.new _ _ _).alloc _
      exact ⟨h1, h2, hE2.below hb5 (Nat.le_refl _), SlW.below hT hb5 (by omega), by omega, by omega, .inl (by omega), .inl (by omega), by omega, by omega⟩
     obtain ⟨hj5, hD5⟩ := keep hb5 kk4.size hj4 hD4
     have hat5 := hat4.kp (.below (B := W.heap.size) hb5)
     have hy5 := hy4.below hb5 hy4.lt
     have hx5 := hx4.below hb5 hx4.lt
     have kk5 := kk4.trans (.below hb5)
     clear hj4 hD4 hat4 hy4 hx4 kk4
     clear hb5 hE2 hT hw5
     obtain ⟨P, hP⟩ : ∃ P, w4.heap.size = P := ⟨_, rfl⟩
     rw [hP] at hat6 hs5 hs34 ⊢
     clear hP hs34
     gi_wp2_with fail
     have hDlt : ∀ D ∈ Ds, D < w5.heap.size := fun D hD => lt_of_some (hD5 D hD).2
     have hkl : (left.eraseIdx i).length = k := by rw [List.length_eraseIdx]; simp [hlen]; omega
     have hX5 : X < w5.heap.size := by have := kk5.size; omega
     have hsum : sumN (stepN (cntO k) left line) i + cntO k (left.eraseIdx i) th ≤ cntO (k + 1) left line := by
      have h1 := sumN_mono (f := stepN (cntO k) left line) (show i + 1 ≤ left.length by omega)
      have h2 : sumN (stepN (cntO k) left line) (i + 1) = sumN (stepN (cntO k) left line) i + stepN (cntO k) left line i := rfl
      rw [h2, HS.out] at h1
      exact h1
     have hseq : OrdSeq Tryz.prog X (cntO k (left.eraseIdx i) th) 39 #[.pointer (some ⟨P + 1, 0, none⟩), .pointer (some ⟨P, 0, none⟩)] w5 := fun l' J' Jx' W' hW' hJ' hJx' hY' h0' =>
      ih (left.eraseIdx i) th X l' _ _ A2 (n - 1) c2 _ _ A1 th.length c1 _ _ J' Jx' W' hkl (by omega) (by omega) (Nat.lt_of_lt_of_le hX5 hW'.size) hJ' hJx' (hat6.kp (.below (B := 0) hW')) hY' h0'
     refine wpIn_ord rfl (enters_of Tryz.func39 (by kernel_rfl) rfl) hseq
      (fun ys Wy => (J (pre ++ ys) Wy ∧ KpO X W.heap.size W Wy) ∧ OrdAt X Bl Br left (some ⟨b, 0, none⟩) n cap lo hi line A' m c lo' hi' Wy ∧ BoxAt Wy W.heap.size #[.func (.yield l) #[] #[]] 41 ∧ ∀ D ∈ Ds, Wy.heap[D]? = some (.deferred (some [])))
      (fun ys Wy => (Jx (pre ++ ys) Wy ∧ KpO X W.heap.size W Wy) ∧ ∀ D ∈ Ds, Wy.heap[D]? = some (.deferred (some [])))
      (OwnFrom.and (OwnFrom.and (fun s A B row h hg hr => OwnFrom.up hJ kk5.size (pre ++ s) A B row h hg hr) (KpO.own_ kk5.size)) (OwnFrom.and OrdAt.own (OwnFrom.and box_own (marks_own hDlt))))
      (OwnFrom.and (OwnFrom.and (fun s A B row h hg hr => OwnFrom.up hJx kk5.size (pre ++ s) A B row h hg hr) (KpO.own_ kk5.size)) (marks_own hDlt))
      ⟨⟨by rw [List.append_nil]; exact hj5, kk5⟩, hat5, hy5, fun D hD => (hD5 D hD).2⟩ (fun y => { tmps := #[.func (.yield l) #[] #[], .pointer (some ⟨Bl, 0, none⟩), .pointer (some ⟨Br, 0, none⟩), .pointer (some ⟨W.heap.size, 0, none⟩), .int .i64 (i : Int), .pointer (some ⟨E, 0, none⟩), .slice A1 th.length c1, .bool true, y, .slice (some ⟨b, 0, none⟩) n cap, .int .i64 (n : Int), b11, undef, undef, undef, .slice (some ⟨b, 0, none⟩) n cap, .int .i64 (n : Int), .int .i64 (i : Int), .bool true, .int .i64 (i : Int), .pointer (some ⟨b, i * 6, none⟩), .agg #[.int .i64 x.who, .bool x.put, .int .i64 x.v, .int .i64 x.re, .int .i64 x.b, .int .i64 x.e], .tuple #[.slice A1 th.length c1, .bool true], .slice A' m c, .agg #[.int .i64 x.who, .bool x.put, .int .i64 x.v, .int .i64 x.re, .int .i64 x.b, .int .i64 x.e], .tuple #[.slice A1 th.length c1, .bool true], .slice A1 th.length c1, .bool true, .bool true, .bool false, .bool false, .slice (some ⟨b, 0, none⟩) n cap, .agg #[.int .i64 x.who, .bool x.put, .int .i64 x.v, .int .i64 x.re, .int .i64 x.b, .int .i64 x.e], .bool true, .bool false, .bool false, .slice A1 th.length c1, .slice (some ⟨b, 0, none⟩) n cap, .int .i64 (i : Int), .slice A2 (n - 1) c2, .func (.func 39) #[] #[.pointer (some ⟨P + 1, 0, none⟩), .pointer (some ⟨P, 0, none⟩)], y, s42, s43, s44, s45, s46], defers := [] }) ?assign ?body ?done ?stop
     case assign =>
      intro l' y Wy K hK
      gi_wp2
      exact hK
     case body =>
      rintro l' ys y Wy hsz ⟨⟨hjy, hky⟩, haty, hyy, hdy⟩ hlt2
      have kyc := hyy.cell
      obtain ⟨fn, tmps, assign, body, hrun, hRd⟩ := hY (pre ++ ys) y Wy hjy (by rw [List.length_append, hpl]; omega)
      replace hRd := RoundIn.wideN (m := 0) l' hRd
      gi_wp2
      refine ⟨rfl, hRd.mono ?_⟩
      rintro e W3 (⟨rfl, hJ3, hk3⟩ | ⟨rfl, hJx3, hk3⟩)
      ·
       gi_wp2
       rw [List.append_assoc] at hJ3
       exact ⟨hk3.mono kk5.size, ⟨hJ3, hky.trans hk3⟩, haty.kp hk3, hk3.box hyy (by omega), fun D hD => hk3.same D _ (hdy D hD) (.inr (hD5 D hD).1)⟩
      ·
       gi_wp2
       rw [List.append_assoc] at hJx3
       exact ⟨hk3.mono kk5.size, ⟨hJx3, hky.trans hk3⟩, fun D hD => hk3.same D _ (hdy D hD) (.inr (hD5 D hD).1)⟩
     case done =>
      rintro xs Wd hkd hxl ⟨⟨hjd, hkd2⟩, hatd, hyd, hdd⟩ hdef
      have hnd2 : (w5.heap.size :: Ds).Nodup := List.nodup_cons.2 ⟨fun h => absurd (hDlt _ h) (by omega), hnd⟩
      have hD6 : ∀ D ∈ w5.heap.size :: Ds, W.heap.size ≤ D ∧ Wd.heap[D]? = some (.deferred (some [])) := fun D hD => by
       rcases List.mem_cons.1 hD with rfl | hD
       · exact ⟨kk5.size, hdef⟩
       · exact ⟨(hD5 D hD).1, hdd D hD⟩
      gi_wp2
      refine ⟨⟨i + 1, pre ++ xs, w5.heap.size :: Ds, _, _, _, _, _, _, _, _, _, _, _, _, _, _, _, _, _, _, _, _, _, _, _, _, _, _, _, _, _, _, _, _, _, _, rfl, by omega, (by rw [List.length_append, hpl, hxl, ← HS.out]; rfl), hjd, hkd2, hatd, hyd, hnd2, hD6⟩, ?_⟩
      simp [intOf]
      omega
     case stop =>
      rintro ps Ws hks hpl2 ⟨⟨hjs, hks2⟩, hds⟩ hdef
      have hnd2 : (w5.heap.size :: Ds).Nodup := List.nodup_cons.2 ⟨fun h => absurd (hDlt _ h) (by omega), hnd⟩
      have hD6 : ∀ D ∈ w5.heap.size :: Ds, W.heap.size ≤ D ∧ Ws.heap[D]? = some (.deferred (some [])) := fun D hD => by
       rcases List.mem_cons.1 hD with rfl | hD
       · exact ⟨kk5.size, hdef⟩
       · exact ⟨(hD5 D hD).1, hds D hD⟩
      gi_wp2
      exact leavesM (M := W.heap.size) (fun Wg => KpO X W.heap.size W Wg ∧ Jx (pre ++ ps) Wg) (fun Wg hG => ⟨_, results_none rfl _ _ _, ⟨_, rfl⟩, hG.1, .inr ⟨pre ++ ps, (by rw [List.length_append, hpl]; omega), hG.2⟩⟩) (fun Wg D hD hG hs => ⟨hG.1.putD hD, hJx.putObj _ hG.2 hD hs rfl⟩) (w5.heap.size :: Ds) Ws hnd2 hD6 ⟨hks2, hjs⟩
  ·
   have g1 : ¬ (i : Int) < (n : Int) := by omega
   obtain rfl : i = n := by omega
   gi_wp2
   exact leavesM (M := W.heap.size) (fun Wg => KpO X W.heap.size W Wg ∧ J pre Wg) (fun Wg hG => ⟨_, results_none rfl _ _ _, ⟨_, rfl⟩, hG.1, .inl ⟨pre, (by rw [hpl]; show _ = sumN _ left.length; rw [hn1]), hG.2⟩⟩) (fun Wg D hD hG hs => ⟨hG.1.putD hD, hJ.putObj _ hG.2 hD hs rfl⟩) Ds wr hnd hDs ⟨kk, hj⟩

end Go.Proofs.YtplgabogdeeohaaGreat

/-
 The program's Lined and Orders.
-/
namespace Go.Proofs.YtplgabogdeeohaaGreat
set_option linter.unusedSimpArgs false
set_option linter.unusedVariables false
open Go.RowKit Go.Shelf
set_option linter.unusedVariables false
attribute [local go_sem] Oper.semAt_some
attribute [local go_sem ↓] Go.wp_at_zero Go.wp_at_succ

def linedB (l : List Ev) : Bool := decide (l.length ≤ 8) && storyOk l && decide (0 < cntO l.length l [])
def ordersZ (l : List Ev) : Int := bif decide (l.length ≤ 6) && storyOk l then (cntO l.length l [] : Int) else -1

/-- What the makers leave. -/
theorem ords_seq {X : Nat} {l : List Ev} {A : Option Addr} {n cap lo hi : Nat} {w w5 : World} (h : EvsW lo hi w A n cap l) (hh : hi ≤ w.heap.size) (hX : X < w.heap.size) (hXl : X < lo ∨ hi ≤ X) (hn : n ≤ 4096)
  (hw5 : w5 = (w.alloc (.cells #[.slice none 0 0] 28)).alloc (.cells #[.slice A n cap] 24)) :
  OrdSeq Tryz.prog X (cntO l.length l []) 39 #[pT (w.heap.size + 1), pT w.heap.size] w5 := by
 have hb5 : Below w.heap.size w w5 := by rw [hw5]; exact ((Below.refl _ _).alloc (Nat.le_refl _) _).alloc (by simp) _
 have hs5 : w5.heap.size = w.heap.size + 2 := by rw [hw5]; simp
 have hat : OrdAt X (w.heap.size + 1) w.heap.size l A n cap lo hi [] none 0 0 w.heap.size w.heap.size w5 := by
  have h1 : BoxAt w5 (w.heap.size + 1) #[.slice A n cap] 24 := by rw [hw5]; exact BoxAt.new' (by simp)
  have h2 : BoxAt w5 w.heap.size #[.slice none 0 0] 28 := by rw [hw5]; exact (BoxAt.new _ _ _).alloc _
  exact ⟨h1, h2, SlW.below h hb5 hh, SlW.nil, by omega, by omega, hXl, .inl hX, by omega, by omega⟩
 exact fun l' J' Jx' W' hW' hJ' hJx' hY' h0' =>
  ords_in l.length l [] X l' _ _ A n cap _ _ none 0 0 _ _ J' Jx' W' rfl hn (by omega) (by have := hW'.size; omega) hJ' hJx' (hat.kp (.below (B := 0) hW')) hY' h0'

set_option maxRecDepth 100000 in
set_option maxHeartbeats 2000000 in
theorem ilined_any (l : List Ev) (A : Option Addr) (n cap lo hi : Nat) (w : World) (h : EvsW lo hi w A n cap l) (hh : hi ≤ w.heap.size) (hn : n ≤ 1048576) :
  Calls Tryz.prog 6 #[.slice A n cap] w (RetBelow (.bool (linedB l)) w) := by
 have HL := Lib.hid h.1
 refine (callsIn_wide (n := 0)).1 ?_
 refine callsIn_of_wp_marks Tryz.func6 rfl trivial ?_ rfl
 simp only [Tryz.ntmps6, List.size_toArray, List.length_cons, List.length_nil, Nat.reduceAdd, Nat.reduceSub, Array.replicate_succ, Array.replicate_zero, List.push_toArray, List.append_toArray, List.nil_append, List.cons_append]
 gi_upto_region 1 with fail
 have hB0 := (Below.refl w.heap.size w).alloc (Nat.le_refl _) (.cells #[.bool false] 4)
 have hx0 : BoxAt (w.alloc (.cells #[.bool false] 4)) w.heap.size #[.bool false] 4 := .new _ _ _
 obtain ⟨W, hW⟩ : ∃ W, w.alloc (.cells #[.bool false] 4) = W := ⟨_, rfl⟩
 rw [hW] at hB0 hx0 ⊢
 clear hW
 have hW := SlW.below h hB0 hh
 gi_wp2_with fail
 refine ⟨trivial, rfl, (callsIn_wide.2 (isStoryUpTo_any l A n cap 8 W (EvsW.r hW) hn (by omega))).mono ?_⟩
 rintro e w1 ⟨rfl, hb1⟩
 replace hx0 := hx0.below hb1 hx0.lt
 replace hB0 := bstep hB0 hB0.size hb1
 replace h := SlW.below h hB0 hh
 clear hb1 hW
 have kx := hx0.cell
 have fx := hx0.frozen
 cases hok : (decide (n ≤ 8) && storyOk l)
 ·
  have HQ := Lib.hid (show linedB l = false by unfold linedB; rw [HL.out, hok]; rfl)
  clear hok
  gi_wp2
  refine ⟨.bool false, ?_, .mk (by rw [HQ.out]) (hB0.setCell (by simp) _)⟩
  have kx3 := (hx0.set 0 (.bool false)).cell
  simp [results, Tryz.results6, go_sem, kx3]
 ·
  have HQ := Lib.hid (show linedB l = decide (0 < cntO l.length l []) by unfold linedB; rw [HL.out, hok]; rfl)
  have hn8 : n ≤ 8 := by simp only [Bool.and_eq_true, decide_eq_true_eq] at hok; exact hok.1
  clear hok
  gi_wp2_with fail
  refine ⟨trivial, rfl, (callsIn_wide.2 (ordersOf_any A n cap w1)).mono ?_⟩
  rintro e w5 ⟨rfl, hw5⟩
  have hseq := ords_seq (X := w.heap.size) h (Nat.le_trans hh hB0.size) hx0.lt (.inr hh) (by omega) hw5
  have hb5 : Below w1.heap.size w1 w5 := by rw [hw5]; exact ((Below.refl _ _).alloc (Nat.le_refl _) _).alloc (by simp) _
  replace hx0 := hx0.below hb5 hx0.lt
  replace hB0 := bstep hB0 hB0.size hb5
  obtain ⟨P, hP⟩ : ∃ P, w1.heap.size = P := ⟨_, rfl⟩
  rw [hP] at hseq ⊢
  clear hb5 hw5 kx fx hP h
  gi_wp2_with fail
  refine wpIn_ord rfl (enters_of Tryz.func39 (by kernel_rfl) rfl) hseq
   (fun ys Wy => (ys = [] ∧ BoxAt Wy w.heap.size #[.bool false] 4) ∧ Below w.heap.size w Wy)
   (fun ys Wy => (ys ≠ [] ∧ BoxAt Wy w.heap.size #[.bool true] 4) ∧ Below w.heap.size w Wy)
   (OwnFrom.and (OwnFrom.and (ownFrom_pure _ _) box_own) (ownFrom_below (Nat.le_refl _) hB0.size))
   (OwnFrom.and (OwnFrom.and (ownFrom_pure _ (fun ys => ys ≠ [])) box_own) (ownFrom_below (Nat.le_refl _) hB0.size))
   ⟨⟨rfl, hx0⟩, hB0⟩ (fun y => { tmps := #[.slice A n cap, undef, pT w.heap.size, .slice A n cap, .bool true, .bool false, .slice A n cap, .func (.func 39) #[] #[pT (P + 1), pT P], y], defers := [] }) ?assign ?body ?done ?stop
  case assign =>
   intro l' y Wy K hK
   gi_wp2
   simpa using hK
  case body =>
   rintro l' ys y Wy hsz ⟨⟨hy, hx⟩, hB⟩ _
   have kx := hx.cell
   have fx := hx.frozen
   gi_wp2
   exact ⟨.set _ hx0.lt, ⟨by simp, hx.set 0 _⟩, hB.setCell (by simp) _⟩
  case done =>
   rintro xs Wd hkd hxl ⟨⟨rfl, hx⟩, hB⟩ hdef
   have hR := Lib.hid (show linedB l = false by rw [HQ.out, ← hxl]; rfl)
   have hdf := Lib.hid hdef
   have kx := hx.cell
   have fx := hx.frozen
   clear hxl hkd hdef hseq
   gi_wp2
   have hdef := hdf.out
   have hK' := (KeepsOthers.setCell Wd ⟨w.heap.size, 0, none⟩ (.bool false)).same w5.heap.size _ hdef rfl
   refine ⟨by simp, .inl ⟨_, _, rfl, run_takeDeferred hK', ?_⟩⟩
   have hx3 := Go.Proofs.YtplgabogdeeohaaGreat.box_own (β := Unit) (C := 0) () _ _ (some w5.heap.size) (hx.set 0 (.bool false)) (grownBy_putObj' _ w5.heap.size (.deferred none)) (fun r e => by cases e; exact ⟨Nat.zero_le _, _, hK', rfl⟩)
   have kx3 := hx3.cell
   refine ⟨.bool false, ?_, .mk (by rw [hR.out]) ?_⟩
   · simp [results, Tryz.results6, go_sem, kx3]
   · exact (hB.setCell (p := ⟨w.heap.size, 0, none⟩) (by simp) _).trans (belowK_b (w := w) (Nat.le_refl _) _ w5.heap.size _ _ hB0.size hK' rfl rfl)
  case stop =>
   rintro ps Ws hks hpl2 ⟨⟨hne, hx⟩, hB⟩ hdef
   have hR := Lib.hid (show linedB l = true by
    rw [HQ.out]
    have : 0 < ps.length := List.length_pos_iff.2 hne
    simp; omega)
   gi_wp2
   refine ⟨by simp, .inl ⟨_, _, rfl, run_takeDeferred hdef, ?_⟩⟩
   have hx3 := Go.Proofs.YtplgabogdeeohaaGreat.box_own (β := Unit) (C := 0) () _ _ (some w5.heap.size) hx (grownBy_putObj' _ w5.heap.size (.deferred none)) (fun r e => by cases e; exact ⟨Nat.zero_le _, _, hdef, rfl⟩)
   have kx3 := hx3.cell
   refine ⟨.bool true, ?_, .mk (by rw [hR.out]) ?_⟩
   · simp [results, Tryz.results6, go_sem, kx3]
   · exact hB.trans (belowK_b (w := w) (Nat.le_refl _) _ w5.heap.size _ _ hB0.size hdef rfl rfl)

set_option maxRecDepth 100000 in
set_option maxHeartbeats 2000000 in
theorem iorders_any (l : List Ev) (A : Option Addr) (n cap lo hi : Nat) (w : World) (h : EvsW lo hi w A n cap l) (hh : hi ≤ w.heap.size) (hn : n ≤ 1048576) :
  Calls Tryz.prog 8 #[.slice A n cap] w (RetBelow (.int .i64 (ordersZ l)) w) := by
 have HL := Lib.hid h.1
 refine (callsIn_wide (n := 0)).1 ?_
 refine callsIn_of_wp_marks Tryz.func8 rfl trivial ?_ rfl
 simp only [Tryz.ntmps8, List.size_toArray, List.length_cons, List.length_nil, Nat.reduceAdd, Nat.reduceSub, Array.replicate_succ, Array.replicate_zero, List.push_toArray, List.append_toArray, List.nil_append, List.cons_append]
 gi_wp2_with fail
 refine ⟨trivial, rfl, (callsIn_wide.2 (isStoryUpTo_any l A n cap 6 w (EvsW.r h) hn (by omega))).mono ?_⟩
 rintro e w1 ⟨rfl, hb1⟩
 cases hok : (decide (n ≤ 6) && storyOk l)
 ·
  have HQ := Lib.hid (show ordersZ l = -1 by unfold ordersZ; rw [HL.out, hok]; rfl)
  clear hok
  gi_wp2
  exact ⟨_, results_tmp rfl _ _ _, .mk (by rw [HQ.out]; rfl) hb1⟩
 ·
  have HQ := Lib.hid (show ordersZ l = (cntO l.length l [] : Int) by unfold ordersZ; rw [HL.out, hok]; rfl)
  have hn6 : n ≤ 6 := by simp only [Bool.and_eq_true, decide_eq_true_eq] at hok; exact hok.1
  have HN := Lib.hid (show cntO l.length l [] ≤ 720 by
   refine Nat.le_trans (cntO_le _ _ _ rfl) ?_
   have h6 : l.length ≤ 6 := by rw [HL.out]; exact hn6
   have : l.length = 0 ∨ l.length = 1 ∨ l.length = 2 ∨ l.length = 3 ∨ l.length = 4 ∨ l.length = 5 ∨ l.length = 6 := by omega
   rcases this with e | e | e | e | e | e | e <;> rw [e] <;> decide)
  clear hok
  gi_upto_region 4 with fail
  have hB0 := hb1.alloc hb1.size (.cells #[.int .i64 0] 2)
  have hx0 : BoxAt (w1.alloc (.cells #[.int .i64 0] 2)) w1.heap.size #[.int .i64 0] 2 := .new _ _ _
  have hs0 := hb1.size
  obtain ⟨X, hX⟩ : ∃ X, w1.heap.size = X := ⟨_, rfl⟩
  obtain ⟨W, hW⟩ : ∃ W, w1.alloc (.cells #[.int .i64 0] 2) = W := ⟨_, rfl⟩
  rw [hW] at hB0 hx0 ⊢
  rw [hX] at hx0 hs0 ⊢
  clear hW hX hb1
  gi_wp2_with fail
  refine ⟨trivial, rfl, (callsIn_wide.2 (ordersOf_any A n cap W)).mono ?_⟩
  rintro e w5 ⟨rfl, hw5⟩
  have hseq := ords_seq (X := X) (SlW.below h hB0 hh) (Nat.le_trans hh hB0.size) hx0.lt (.inr (Nat.le_trans hh hs0)) (by omega) hw5
  have hb5 : Below W.heap.size W w5 := by rw [hw5]; exact ((Below.refl _ _).alloc (Nat.le_refl _) _).alloc (by simp) _
  replace hx0 := hx0.below hb5 hx0.lt
  replace hB0 := bstep hB0 hB0.size hb5
  obtain ⟨P, hP⟩ : ∃ P, W.heap.size = P := ⟨_, rfl⟩
  rw [hP] at hseq ⊢
  clear hb5 hw5 hP h
  gi_wp2_with fail
  refine wpIn_ord rfl (enters_of Tryz.func39 (by kernel_rfl) rfl) hseq
   (fun ys Wy => BoxAt Wy X #[.int .i64 (ys.length : Int)] 2 ∧ Below w.heap.size w Wy) (fun _ _ => False)
   (OwnFrom.and (fun ys A B row h hg hr => Go.Proofs.YtplgabogdeeohaaGreat.box_own (β := Unit) (C := w5.heap.size) () A B row h hg hr) (ownFrom_below (Nat.le_refl _) hB0.size))
   (fun _ _ _ _ h _ _ => h)
   ⟨hx0, hB0⟩ (fun y => { tmps := #[.slice A n cap, undef, .int .i64 0, pT X, .slice A n cap, .bool true, .bool false, .slice A n cap, .func (.func 39) #[] #[pT (P + 1), pT P], y, undef, undef, undef], defers := [] }) ?assign ?body ?done ?stop
  case assign =>
   intro l' y Wy K hK
   gi_wp2
   simpa using hK
  case body =>
   rintro l' ys y Wy hsz ⟨hx, hB⟩ hlt
   have hys : ys.length < 720 := Nat.lt_of_lt_of_le hlt HN.out
   clear hlt
   have kx := hx.cell
   have fx := hx.frozen
   have wq : IntKind.wrap .i64 ((ys.length : Int) + 1) = (ys.length : Int) + 1 := Go.IntWalk.i64_in _ (by omega)
   gi_wp2
   refine ⟨.set _ hx0.lt, ?_, hB.setCell hs0 _⟩
   have := hx.set 0 (.int .i64 ((ys.length : Int) + 1))
   simpa using this
  case done =>
   rintro xs Wd hkd hxl ⟨hx, hB⟩ hdef
   rw [hxl] at hx
   have hdf := Lib.hid hdef
   have kx := hx.cell
   clear hxl hkd hdef hseq
   gi_wp2
   have hdef := hdf.out
   refine ⟨by simp, .inl ⟨_, _, rfl, run_takeDeferred hdef, ?_⟩⟩
   refine ⟨_, results_tmp rfl _ _ _, .mk (by rw [HQ.out]; rfl) ?_⟩
   exact hB.trans (belowK_b (w := w) (Nat.le_refl _) _ w5.heap.size _ _ hB0.size hdef rfl rfl)
  case stop =>
   rintro ps Ws _ _ h _
   exact h.elim

end Go.Proofs.YtplgabogdeeohaaGreat

/-
 The model's count of orders: whether one may be the next of a set.
-/
namespace Go.Proofs.YtplgabogdeeohaaGreat
set_option linter.unusedSimpArgs false
set_option linter.unusedVariables false
open Go.RowKit
set_option linter.unusedVariables false
attribute [local go_sem] OpUpon
attribute [local go_sem ↓] Go.wp_at_zero Go.wp_at_succ

theorem bit_val (m k : Nat) (hm : m < 65536) : bits BinOp.and IntKind.i64 ((m : Int) / 2 ^ k) 1 = ((m / 2 ^ k % 2 : Nat) : Int) := by
 have e : ((m : Int) / 2 ^ k) = ((m / 2 ^ k : Nat) : Int) := by push_cast; rfl
 have hle : m / 2 ^ k ≤ m := Nat.div_le_self _ _
 rw [e]
 generalize m / 2 ^ k = q at hle
 have h := bits_mask .i64 31 (by decide) (fun n h0 h1 => by rw [IntKind.wrap_i64]; omega) 1 (by decide) (q : Int) (by omega) (by omega)
 have e1 : ((2 : Int) ^ 1 - 1) = 1 := by decide
 rw [e1] at h
 rw [h]
 omega
theorem bit_yes {m k : Nat} (hm : m < 65536) (h : m / 2 ^ k % 2 = 1) : (bits BinOp.and IntKind.i64 ((m : Int) / 2 ^ k) 1 == 1) = true := by rw [bit_val m k hm, h]; rfl
theorem bit_no {m k : Nat} (hm : m < 65536) (h : ¬ m / 2 ^ k % 2 = 1) : (bits BinOp.and IntKind.i64 ((m : Int) / 2 ^ k) 1 == 1) = false := by rw [bit_val m k hm, show m / 2 ^ k % 2 = 0 by omega]; rfl

set_option maxHeartbeats 400000 in
theorem sahead_any (x y : Ev) (w : World) : Calls Tryz.prog 12 #[.agg #[x.who, x.put, x.v, x.re, x.b, x.e], .agg #[y.who, y.put, y.v, y.re, y.b, y.e]] w (RetBelow (.bool (decide (x.e < y.b))) w) := by
 by_cases h : x.e < y.b
 all_goals
  go_enter Tryz.func12, Tryz.ntmps12
  go_wp2
  go_ret
  exact .mk (by simp [h]) (((Below.refl _ _).alloc (Nat.le_refl _) _).alloc (by simp) _)

theorem ev_cells {w : World} {b o n i : Nat} {l : List Ev} {y : Ev} (h : EvsR w (some ⟨b, o, none⟩) n l) (hi : i < n) (hy : l[i]? = some y) : EvE 0 w b (o + i * 6) y := by
 obtain ⟨b', o', y', e, _, hy', hE⟩ := SlE.at_ h hi
 injection e with e
 injection e with e1 e2
 rw [hy] at hy'
 injection hy' with hy'
 rw [hy', e1, e2]
 exact hE

/-- Whether one at k may be the next of the set m. -/
def maskNext (l : List Ev) (m k : Nat) (x : Ev) : Bool := decide (m / 2 ^ k % 2 = 1) && nextE (pick l m) x
theorem maskNext_no {l : List Ev} {m k i : Nat} {x o : Ev} (hb : m / 2 ^ i % 2 = 1) (hi : i < l.length) (ho : l[i]? = some o) (ha : o.e < x.b) : maskNext l m k x = false := by
 unfold maskNext
 rw [nextE_no (o := o) (i := rank m i) (by rw [pick_at l m i hb hi]; exact ho) ha, Bool.and_false]
theorem maskNext_end {l : List Ev} {m k : Nat} {x : Ev} (hx : l[k]? = some x) (hs : x.b ≤ x.e) (h : ∀ (j : Nat) o, j < l.length → l[j]? = some o → m / 2 ^ j % 2 = 1 → j ≠ k → x.b ≤ o.e) : maskNext l m k x = decide (m / 2 ^ k % 2 = 1) := by
 unfold maskNext
 rw [nextE_yes (fun j o hj ho => ?_), Bool.and_true]
 obtain ⟨i, hi, hb, hox, _⟩ := pick_from l m j o ho
 by_cases e : i = k
 ·
  subst e
  rw [hx] at hox; injection hox with hox; subst hox; omega
 · have := h i o hi hox hb e; omega

def nxAV (l : List Ev) (x y : Ev) (b o n cap m k i : Nat) : List Sl := [.v (.int .i64 ((m : Int))),
 .v (.int .i64 ((i : Int))),
 .v (.int .u64 (i : Int)),
 .v (.int .i64 (((m : Int) / 2 ^ i))),
 .v (.int .i64 ((bits BinOp.and IntKind.i64 ((m : Int) / 2 ^ i) 1))),
 .v (.bool false),
 .v (.bool false),
 .v undef,
 .v undef,
 .v undef,
 .v (.bool false),
 .v (.bool false),
 .v undef,
 .v undef,
 .v undef,
 .v undef,
 .v undef,
 .v undef,
 .v undef,
 .v undef,
 .v undef,
 .v (.bool false)]

def nxBV (l : List Ev) (x y : Ev) (b o n cap m k i : Nat) : List Sl := [.v (.int .i64 ((m : Int))),
 .v (.int .i64 ((i : Int))),
 .v (.int .u64 (i : Int)),
 .v (.int .i64 (((m : Int) / 2 ^ i))),
 .v (.int .i64 ((bits BinOp.and IntKind.i64 ((m : Int) / 2 ^ i) 1))),
 .v (.bool true),
 .v (.bool true),
 .v (.int .i64 ((i : Int))),
 .v (.int .i64 ((k : Int))),
 .v (.bool false),
 .v (.bool false),
 .v (.bool false),
 .v undef,
 .v undef,
 .v undef,
 .v undef,
 .v undef,
 .v undef,
 .v undef,
 .v undef,
 .v undef,
 .v (.bool false)]

def nxCV (l : List Ev) (x y : Ev) (b o n cap m k i : Nat) : List Sl := [.v (.int .i64 ((m : Int))),
 .v (.int .i64 ((i : Int))),
 .v (.int .u64 (i : Int)),
 .v (.int .i64 (((m : Int) / 2 ^ i))),
 .v (.int .i64 ((bits BinOp.and IntKind.i64 ((m : Int) / 2 ^ i) 1))),
 .v (.bool true),
 .v (.bool true),
 .v (.int .i64 ((i : Int))),
 .v (.int .i64 ((k : Int))),
 .v (.bool true),
 .v (.bool true),
 .v (.bool true),
 .v (.slice (some ⟨b, o, none⟩) n cap),
 .v (.int .i64 ((i : Int))),
 .v (.pointer (some ⟨b, o + i * 6, none⟩)),
 .v (.agg #[y.who, y.put, y.v, y.re, y.b, y.e]),
 .v (.slice (some ⟨b, o, none⟩) n cap),
 .v (.int .i64 ((k : Int))),
 .v (.pointer (some ⟨b, o + k * 6, none⟩)),
 .v (.agg #[x.who, x.put, x.v, x.re, x.b, x.e]),
 .v (.bool ((decide (y.e < x.b)))),
 .v (.bool ((decide (y.e < x.b))))]

set_option maxRecDepth 100000 in
set_option maxHeartbeats 2000000 in
theorem snext_any (l : List Ev) (x : Ev) (b o n cap m k : Nat) (w : World) (hl : EvsR w (some ⟨b, o, none⟩) n l) (hn : n ≤ 16) (hm : m < 65536) (hk : k < n) (hx : l[k]? = some x) (hs : x.b ≤ x.e) :
  Calls Tryz.prog 27 #[.slice (some ⟨b, o, none⟩) n cap, .int .i64 (m : Int), .int .i64 (k : Int)] w (RetBelow (.bool (maskNext l m k x)) w) := by
 have HL := Lib.hid hl.1
 have HX := Lib.hid hx
 have HSX := Lib.hid hs
 clear hx hs
 have hl0 := hl
 go_enter Tryz.func27, Tryz.ntmps27
 go_wp2
 go_loopw [7] (fun s7 W => ∃ i : Nat, i ≤ n ∧ s7 = .int .i64 i ∧ Below w.heap.size w W ∧ ∀ (j : Nat) o, j < i → l[j]? = some o → m / 2 ^ j % 2 = 1 → j ≠ k → x.b ≤ o.e) (fun s7 _ => n - (intOf s7).toNat)
 case atStart => exact ⟨0, Nat.zero_le _, rfl, Below.refl _ _, fun j o h => absurd h (by omega)⟩
 case round =>
  obtain ⟨i, hin, rfl, hB, hal⟩ := hrel
  have HAL := Lib.hid hal; clear hal
  by_cases hiN : i < n
  ·
   have hl := hl0.below hB
   have hkN := hk
   obtain ⟨y, hy⟩ : ∃ y, l[i]? = some y := ⟨_, List.getElem?_eq_getElem (by rw [HL.out]; exact hiN)⟩
   have HY := Lib.hid hy
   clear hy
   have hwu : IntKind.u64.wrap (i : Int) = (i : Int) := by rw [IntKind.wrap_u64]; omega
   have h1 : (0 : Int) ≤ (i : Int) := by omega
   have h2 : (i : Int) < (n : Int) := by omega
   have h3 : (0 : Int) ≤ (k : Int) := by omega
   have h4 : (k : Int) < (n : Int) := by omega
   by_cases hbi : m / 2 ^ i % 2 = 1
   ·
    have HB := Lib.hid hbi
    have hbit := bit_yes hm hbi
    clear hbi
    by_cases hik : i = k
    ·
     have HE := Lib.hid hik
     have hne : ((i : Int) != (k : Int)) = false := by simp [hik]
     clear hik
     go_wp2_with fail
     refine wp_region2v (fun w w' => Below w.heap.size w w') (fun _ _ h => h.size) (fun _ => Below.refl _ _) (fun L W' => Below w.heap.size w W' ∧ EvsR W' (some ⟨b, o, none⟩) n l) (nxBV l x y b o n cap m k i) (fun _ => 0) [] (by kernel_rfl) (by kernel_rfl) ?_ ?_ ?_
      (.still rfl ?a0 <| .still rfl ?a1 <| .still rfl ?a2 <| .still rfl ?a3 <| .still rfl ?a4 <| .still rfl ?a5 <| .still rfl ?a6 <| .still rfl ?a7 <| .still rfl ?a8 <| .still rfl ?a9 <| .still rfl ?a10 <| .still rfl ?a11 <| .still rfl ?a12 <| .still rfl ?a13 <| .still rfl ?a14 <| .still rfl ?a15 <| .still rfl ?a16 <| .still rfl ?a17 <| .still rfl ?a18 <| .still rfl ?a19 <| .still rfl ?a20 <| .still rfl ?a21 <| .nil) ?_ ?_
     · exact trivial
     · exact trivial
     · exact ⟨hB.drew, hl⟩
     case a0 | a1 | a3 | a4 | a6 | a7 | a8 | a10 | a11 | a12 | a13 | a14 | a15 | a16 | a17 | a18 | a19 | a20 | a21 =>
      go_light
      intro L σ W' hcl hL hC hw
      try have e0 := wT hw 0 rfl
      try have e2 := wT hw 2 rfl
      try have e3 := wT hw 3 rfl
      try have e5 := wT hw 5 rfl
      try have e6 := wT hw 6 rfl
      try have e9 := wT hw 9 rfl
      try have e10 := wT hw 10 rfl
      try have e11 := wT hw 11 rfl
      try have e12 := wT hw 12 rfl
      try have e13 := wT hw 13 rfl
      try have e14 := wT hw 14 rfl
      try have e15 := wT hw 15 rfl
      try have e16 := wT hw 16 rfl
      try have e17 := wT hw 17 rfl
      try have e18 := wT hw 18 rfl
      try have e19 := wT hw 19 rfl
      try have e20 := wT hw 20 rfl
      clear hw hcl hL hC
      refine OpGoes.go fun K hK => ?_
      go_simp
      exact hK _ _ ⟨rfl, rfl⟩
     case a2 =>
      go_light
      intro L σ W' hcl hL hC hw
      have e1 := wV hw 1 rfl
      have qw := hwu
      clear hw hcl hL hC
      refine OpGoes.go fun K hK => ?_
      go_simp
      exact hK _ _ ⟨rfl, rfl⟩
     case a5 =>
      go_light
      intro L σ W' hcl hL hC hw
      have e4 := wV hw 4 rfl
      have qb := hbit
      clear hw hcl hL hC
      refine OpGoes.go fun K hK => ?_
      go_simp
      exact hK _ _ ⟨rfl, rfl⟩
     case a9 =>
      go_light
      intro L σ W' hcl hL hC hw
      have e6 := wV hw 6 rfl
      have e7 := wV hw 7 rfl
      have e8 := wV hw 8 rfl
      have qn := hne
      clear hw hcl hL hC
      refine OpGoes.go fun K hK => ?_
      go_simp
      exact hK _ _ ⟨rfl, rfl⟩
     ·
      intro L L' W' hLL hC
      obtain ⟨hB, hl⟩ := hC
      exact ⟨hB, hl⟩
     ·
      intro σ L W' hall hC hRR
      obtain ⟨hB, hl⟩ := hC
      have e21 := dV hRR 21 rfl
      clear hRR
      simp only [lexAll]
      go_simp
      go_step
      go_wp2
      go_roundw
      case rel =>
       refine ⟨i + 1, by omega, by go_num, hB, fun j o hj ho hb hn' => ?_⟩
       by_cases e : j = i
       ·
        subst e
        exact absurd HE.out hn'
       · exact HAL.out j o (by omega) ho hb hn'
      case measure => simp [intOf]; omega
    ·
     have hne : ((i : Int) != (k : Int)) = true := by simp; omega
     clear hik
     go_wp2_with fail
     refine wp_region2v (fun w w' => Below w.heap.size w w') (fun _ _ h => h.size) (fun _ => Below.refl _ _) (fun L W' => Below w.heap.size w W' ∧ EvsR W' (some ⟨b, o, none⟩) n l) (nxCV l x y b o n cap m k i) (fun _ => 0) [] (by kernel_rfl) (by kernel_rfl) ?_ ?_ ?_
      (.still rfl ?a0 <| .still rfl ?a1 <| .still rfl ?a2 <| .still rfl ?a3 <| .still rfl ?a4 <| .still rfl ?a5 <| .still rfl ?a6 <| .still rfl ?a7 <| .still rfl ?a8 <| .still rfl ?a9 <| .still rfl ?a10 <| .still rfl ?a11 <| .still rfl ?a12 <| .still rfl ?a13 <| .still rfl ?a14 <| .still rfl ?a15 <| .still rfl ?a16 <| .still rfl ?a17 <| .still rfl ?a18 <| .still rfl ?a19 <| .grow rfl ?a20 <| .still rfl ?a21 <| .nil) ?_ ?_
     · exact trivial
     · exact trivial
     · exact ⟨hB.drew, hl⟩
     case a0 | a1 | a3 | a4 | a6 | a7 | a8 | a10 | a11 | a12 | a13 | a16 | a17 | a21 =>
      go_light
      intro L σ W' hcl hL hC hw
      try have e0 := wT hw 0 rfl
      try have e2 := wT hw 2 rfl
      try have e3 := wT hw 3 rfl
      try have e5 := wT hw 5 rfl
      try have e6 := wT hw 6 rfl
      try have e9 := wT hw 9 rfl
      try have e10 := wT hw 10 rfl
      try have e11 := wT hw 11 rfl
      try have e20 := wT hw 20 rfl
      clear hw hcl hL hC
      refine OpGoes.go fun K hK => ?_
      go_simp
      exact hK _ _ ⟨rfl, rfl⟩
     case a15 =>
      go_light
      intro L σ W' hcl hL hC hw
      have e11 := wV hw 11 rfl
      have e14 := wV hw 14 rfl
      obtain ⟨d0, d1, d2, d3, d4, d5⟩ := ev_cells hC.2 hiN HY.out
      clear hw hcl hL hC
      refine OpGoes.go fun K hK => ?_
      go_simp
      exact hK _ _ ⟨rfl, rfl⟩
     case a19 =>
      go_light
      intro L σ W' hcl hL hC hw
      have e11 := wV hw 11 rfl
      have e18 := wV hw 18 rfl
      obtain ⟨d0, d1, d2, d3, d4, d5⟩ := ev_cells hC.2 hkN HX.out
      clear hw hcl hL hC
      refine OpGoes.go fun K hK => ?_
      go_simp
      exact hK _ _ ⟨rfl, rfl⟩
     case a2 =>
      go_light
      intro L σ W' hcl hL hC hw
      have e1 := wV hw 1 rfl
      have qw := hwu
      clear hw hcl hL hC
      refine OpGoes.go fun K hK => ?_
      go_simp
      exact hK _ _ ⟨rfl, rfl⟩
     case a5 =>
      go_light
      intro L σ W' hcl hL hC hw
      have e4 := wV hw 4 rfl
      have qb := hbit
      clear hw hcl hL hC
      refine OpGoes.go fun K hK => ?_
      go_simp
      exact hK _ _ ⟨rfl, rfl⟩
     case a9 =>
      go_light
      intro L σ W' hcl hL hC hw
      have e6 := wV hw 6 rfl
      have e7 := wV hw 7 rfl
      have e8 := wV hw 8 rfl
      have qn := hne
      clear hw hcl hL hC
      refine OpGoes.go fun K hK => ?_
      go_simp
      exact hK _ _ ⟨rfl, rfl⟩
     case a14 =>
      go_light
      intro L σ W' hcl hL hC hw
      have e11 := wV hw 11 rfl
      have e12 := wV hw 12 rfl
      have e13 := wV hw 13 rfl
      have g1 := h1
      have g2 := h2
      clear hw hcl hL hC
      refine OpGoes.go fun K hK => ?_
      go_simp
      exact hK _ _ ⟨rfl, rfl⟩
     case a18 =>
      go_light
      intro L σ W' hcl hL hC hw
      have e11 := wV hw 11 rfl
      have e16 := wV hw 16 rfl
      have e17 := wV hw 17 rfl
      have g1 := h3
      have g2 := h4
      clear hw hcl hL hC
      refine OpGoes.go fun K hK => ?_
      go_simp
      exact hK _ _ ⟨rfl, rfl⟩
     case a20 =>
      go_light
      intro L σ W' hcl hL hC hw
      have e11 := wV hw 11 rfl
      have e15 := wV hw 15 rfl
      have e19 := wV hw 19 rfl
      clear hw
      have HC := Lib.hid hC
      clear hC
      clear hcl hL
      refine OpGoes.go fun K hK => ?_
      go_simp
      obtain ⟨hB, hl⟩ := HC.out
      refine (sahead_any y x _).mono ?_
      rintro e w1 ⟨rfl, hb1⟩
      exact ⟨_, rfl, hK _ _ ⟨⟨bstep hB hB.size hb1, hl.below hb1⟩, rfl, hb1⟩⟩
     ·
      intro L L' W' hLL hC
      obtain ⟨hB, hl⟩ := hC
      exact ⟨hB, hl⟩
     ·
      intro σ L W' hall hC hRR
      obtain ⟨hB, hl⟩ := hC
      have e21 := dV hRR 21 rfl
      clear hRR
      simp only [lexAll]
      go_simp
      go_step
      by_cases hok : y.e < x.b
      ·
       have hd : decide (y.e < x.b) = true := by simp [hok]
       rw [hd]
       have HR := Lib.hid (maskNext_no (k := k) HB.out (by rw [HL.out]; exact hiN) HY.out hok)
       clear hok hd
       go_wp2
       go_ret
       exact .mk (by rw [HR.out]; rfl) hB
      ·
       have hd : decide (y.e < x.b) = false := by simp [hok]
       rw [hd]
       have HOK := Lib.hid (show x.b ≤ y.e by omega)
       clear hok hd
       go_wp2
       go_roundw
       case rel =>
        refine ⟨i + 1, by omega, by go_num, hB, fun j o hj ho hb hn' => ?_⟩
        by_cases e : j = i
        ·
         subst e
         rw [HY.out] at ho; injection ho with ho; subst ho; exact HOK.out
        · exact HAL.out j o (by omega) ho hb hn'
       case measure => simp [intOf]; omega
   ·
    have HB := Lib.hid hbi
    have hbit := bit_no hm hbi
    clear hbi
    go_wp2_with fail
    refine wp_region2v (fun w w' => Below w.heap.size w w') (fun _ _ h => h.size) (fun _ => Below.refl _ _) (fun L W' => Below w.heap.size w W' ∧ EvsR W' (some ⟨b, o, none⟩) n l) (nxAV l x y b o n cap m k i) (fun _ => 0) [] (by kernel_rfl) (by kernel_rfl) ?_ ?_ ?_
     (.still rfl ?a0 <| .still rfl ?a1 <| .still rfl ?a2 <| .still rfl ?a3 <| .still rfl ?a4 <| .still rfl ?a5 <| .still rfl ?a6 <| .still rfl ?a7 <| .still rfl ?a8 <| .still rfl ?a9 <| .still rfl ?a10 <| .still rfl ?a11 <| .still rfl ?a12 <| .still rfl ?a13 <| .still rfl ?a14 <| .still rfl ?a15 <| .still rfl ?a16 <| .still rfl ?a17 <| .still rfl ?a18 <| .still rfl ?a19 <| .still rfl ?a20 <| .still rfl ?a21 <| .nil) ?_ ?_
    · exact trivial
    · exact trivial
    · exact ⟨hB.drew, hl⟩
    case a0 | a1 | a3 | a4 | a6 | a7 | a8 | a9 | a10 | a11 | a12 | a13 | a14 | a15 | a16 | a17 | a18 | a19 | a20 | a21 =>
     go_light
     intro L σ W' hcl hL hC hw
     try have e0 := wT hw 0 rfl
     try have e2 := wT hw 2 rfl
     try have e3 := wT hw 3 rfl
     try have e5 := wT hw 5 rfl
     try have e6 := wT hw 6 rfl
     try have e7 := wT hw 7 rfl
     try have e8 := wT hw 8 rfl
     try have e9 := wT hw 9 rfl
     try have e10 := wT hw 10 rfl
     try have e11 := wT hw 11 rfl
     try have e12 := wT hw 12 rfl
     try have e13 := wT hw 13 rfl
     try have e14 := wT hw 14 rfl
     try have e15 := wT hw 15 rfl
     try have e16 := wT hw 16 rfl
     try have e17 := wT hw 17 rfl
     try have e18 := wT hw 18 rfl
     try have e19 := wT hw 19 rfl
     try have e20 := wT hw 20 rfl
     clear hw hcl hL hC
     refine OpGoes.go fun K hK => ?_
     go_simp
     exact hK _ _ ⟨rfl, rfl⟩
    case a2 =>
     go_light
     intro L σ W' hcl hL hC hw
     have e1 := wV hw 1 rfl
     have qw := hwu
     clear hw hcl hL hC
     refine OpGoes.go fun K hK => ?_
     go_simp
     exact hK _ _ ⟨rfl, rfl⟩
    case a5 =>
     go_light
     intro L σ W' hcl hL hC hw
     have e4 := wV hw 4 rfl
     have qb := hbit
     clear hw hcl hL hC
     refine OpGoes.go fun K hK => ?_
     go_simp
     exact hK _ _ ⟨rfl, rfl⟩
    ·
     intro L L' W' hLL hC
     obtain ⟨hB, hl⟩ := hC
     exact ⟨hB, hl⟩
    ·
     intro σ L W' hall hC hRR
     obtain ⟨hB, hl⟩ := hC
     have e21 := dV hRR 21 rfl
     clear hRR
     simp only [lexAll]
     go_simp
     go_step
     go_wp2
     go_roundw
     case rel =>
      refine ⟨i + 1, by omega, by go_num, hB, fun j o hj ho hb hn' => ?_⟩
      by_cases e : j = i
      ·
       subst e
       exact absurd hb HB.out
      · exact HAL.out j o (by omega) ho hb hn'
     case measure => simp [intOf]; omega
  ·
   have g1 : ¬ (i : Int) < (n : Int) := by omega
   obtain rfl : n = i := by omega
   have HR := Lib.hid (maskNext_end HX.out HSX.out (by rw [HL.out]; exact HAL.out))
   by_cases hbk : m / 2 ^ k % 2 = 1
   ·
    have HB := Lib.hid hbk
    have hbit := bit_yes hm hbk
    clear hbk
    go_wp2
    go_ret
    exact .mk (by rw [HR.out]; simp [HB.out]) hB
   ·
    have HB := Lib.hid hbk
    have hbit := bit_no hm hbk
    clear hbk
    go_wp2
    go_ret
    exact .mk (by rw [HR.out]; simp [HB.out]) hB

end Go.Proofs.YtplgabogdeeohaaGreat

/-
 The model's count of orders, and its Lined and Orders.
-/
namespace Go.Proofs.YtplgabogdeeohaaGreat
set_option linter.unusedSimpArgs false
set_option linter.unusedVariables false
open Go.RowKit
set_option linter.unusedVariables false
attribute [local go_sem ↓] Go.wp_at_zero Go.wp_at_succ

theorem rank_succ (m i : Nat) : rank m (i + 1) = rank m i + m / 2 ^ i % 2 := rfl
theorem rank_mono {m i j : Nat} (h : i ≤ j) : rank m i ≤ rank m j := by
 induction j with
 | zero =>
  obtain rfl : i = 0 := by omega
  exact Nat.le_refl _
 | succ j ih =>
  by_cases e : i = j + 1
  · subst e; exact Nat.le_refl _
  ·
   have := ih (by omega)
   rw [rank_succ]; omega
/-- What the count is after i places. -/
def upTo (k : Nat) (l : List Ev) (m : Nat) (line : List Int) (i : Nat) : Nat := sumN (stepN (cntO k) (pick l m) line) (rank m i)
theorem upTo_all {k : Nat} {l : List Ev} {m : Nat} {line : List Int} : upTo k l m line l.length = cntO (k + 1) (pick l m) line := by
 unfold upTo; rw [← pick_len]; rfl
theorem upTo_le {k : Nat} {l : List Ev} {m : Nat} {line : List Int} {i j : Nat} (h : i ≤ j) : upTo k l m line i ≤ upTo k l m line j := sumN_mono (rank_mono h)
theorem upTo_none {k : Nat} {l : List Ev} {m : Nat} {line : List Int} {i : Nat} {x : Ev} (hx : l[i]? = some x) (h : ((explains line x).2 && maskNext l m i x) = false) : upTo k l m line (i + 1) = upTo k l m line i := by
 unfold upTo
 rw [rank_succ]
 by_cases hb : m / 2 ^ i % 2 = 1
 ·
  rw [hb, sumN, stepN_at (x := x) (by rw [pick_at l m i hb (List.getElem?_eq_some_iff.1 hx).1]; exact hx)]
  have : ((explains line x).2 && nextE (pick l m) x) = false := by
   unfold maskNext at h
   simpa [hb] using h
  rw [this]; rfl
 · rw [show m / 2 ^ i % 2 = 0 by omega]; rfl
theorem upTo_some {k : Nat} {l : List Ev} {m : Nat} {line : List Int} {i : Nat} {x : Ev} (hx : l[i]? = some x) (h1 : (explains line x).2 = true) (h2 : maskNext l m i x = true) :
  upTo k l m line (i + 1) = upTo k l m line i + cntO k (pick l (m - 2 ^ i)) (explains line x).1 := by
 have hi := (List.getElem?_eq_some_iff.1 hx).1
 unfold maskNext at h2
 simp only [Bool.and_eq_true, decide_eq_true_eq] at h2
 unfold upTo
 rw [rank_succ, h2.1, sumN, stepN_at (x := x) (by rw [pick_at l m i h2.1 hi]; exact hx), h1, h2.2, pick_del l m i h2.1 hi]
 rfl
theorem del_len {k : Nat} {l : List Ev} {m i : Nat} {x : Ev} (hx : l[i]? = some x) (h2 : maskNext l m i x = true) (hk : (pick l m).length = k + 1) : (pick l (m - 2 ^ i)).length = k := by
 have hi := (List.getElem?_eq_some_iff.1 hx).1
 unfold maskNext at h2
 simp only [Bool.and_eq_true, decide_eq_true_eq] at h2
 have h3 := (List.getElem?_eq_some_iff.1 ((pick_at l m i h2.1 hi).trans hx)).1
 rw [pick_del l m i h2.1 hi, List.length_eraseIdx]
 simp [h3]; omega
theorem mask_bit {l : List Ev} {m i : Nat} {x : Ev} (h2 : maskNext l m i x = true) : 2 ^ i ≤ m := by
 unfold maskNext at h2
 simp only [Bool.and_eq_true, decide_eq_true_eq] at h2
 exact pick_sub (l := l) h2.1
theorem mask_wrap {m i : Nat} (h : 2 ^ i ≤ m) (hm : m < 65536) : ((m - 2 ^ i : Nat) : Int) = wrap64 ((m : Int) - wrap64 (2 ^ i)) := by
 have hpc : ((2 : Int) ^ i) = ((2 ^ i : Nat) : Int) := by push_cast; rfl
 rw [hpc]
 generalize 2 ^ i = q at *
 unfold wrap64; omega
theorem pow_le16 {i : Nat} (h : i ≤ 16) : 2 ^ i ≤ 65536 := Nat.pow_le_pow_right (n := 2) (by omega) h

set_option maxRecDepth 100000 in
set_option maxHeartbeats 2000000 in
theorem scount_any : ∀ (k : Nat) (l : List Ev) (m : Nat) (line : List Int) (A : Option Addr) (n cap : Nat) (B : Option Addr) (nb cb lo hi most : Nat) (w : World),
  EvsR w A n l → n ≤ 15 → (∀ x ∈ l, x.b ≤ x.e) → m < 2 ^ n → (pick l m).length = k → IntsW lo hi w B nb cb line → hi ≤ w.heap.size → nb ≤ 4096 → 1 ≤ most → most ≤ 1000 →
  Calls Tryz.prog 17 #[.slice A n cap, .int .i64 (m : Int), .slice B nb cb, .int .i64 (most : Int)] w (RetBelow (.int .i64 ((min (cntO k (pick l m) line) most : Nat) : Int)) w) := by
 intro k
 induction k with
 | zero =>
  intro l m line A n cap B nb cb lo hi most w hl hn hst hm hk hL hh hnb h1 h2
  have hm0 : m = 0 := pick_nil (l := l) (by rw [hl.1]; exact hm) (List.eq_nil_of_length_eq_zero hk)
  subst hm0
  have HR := Lib.hid (show min (cntO 0 (pick l 0) line) most = 1 by show min 1 most = 1; omega)
  go_enter Tryz.func17, Tryz.ntmps17
  go_wp2
  go_ret
  exact .mk (by rw [HR.out]; rfl) (Below.refl _ _)
 | succ k ih =>
  intro l m line A n cap B nb cb lo hi most w hl hn hst hm hk hL hh hnb h1 h2
  have hm0 : ¬ (m : Int) = 0 := by
   intro e
   have : m = 0 := by omega
   subst this
   rw [pick_zero] at hk; simp at hk
  have HL := Lib.hid hl.1
  have HK := Lib.hid hk
  have hm16 : m < 65536 := Nat.lt_of_lt_of_le hm (pow_le16 (by omega))
  have HM := Lib.hid hm
  have HST := Lib.hid hst
  clear hk hm hst
  have hl0 := hl
  have hL0 := hL
  go_enter Tryz.func17, Tryz.ntmps17
  go_wp2
  obtain ⟨b14, hb14⟩ : ∃ b14, Value.bool ((m : Int) == 0) = b14 := ⟨_, rfl⟩
  rw [hb14]
  clear hb14 hm0
  go_loopw [9, 10] (fun s9 s10 W => ∃ i : Nat, i ≤ n ∧ s10 = .int .i64 i ∧ s9 = .int .i64 ((min (upTo k l m line i) most : Nat) : Int) ∧ Below w.heap.size w W) (fun _ s10 _ => n - (intOf s10).toNat)
  case atStart => exact ⟨0, Nat.zero_le _, rfl, by show _ = Value.int .i64 ((min 0 most : Nat) : Int); simp, Below.refl _ _⟩
  case round =>
   obtain ⟨i, hin, rfl, rfl, hB⟩ := hrel
   by_cases hlt : i < n
   ·
    have g1 : (i : Int) < (n : Int) := by omega
    have g2 : (0 : Int) ≤ (i : Int) := by omega
    by_cases hmo : upTo k l m line i < most
    ·
     have hc : min (upTo k l m line i) most = upTo k l m line i := Nat.min_eq_left (by omega)
     rw [hc]
     have g3 : ((upTo k l m line i : Nat) : Int) < (most : Int) := by omega
     obtain ⟨b, o, x, rfl, _, hx, hE⟩ := SlE.at_ (hl0.below hB) hlt
     have HX := Lib.hid hx
     have hsx : x.b ≤ x.e := HST.out x (List.mem_of_getElem? hx)
     go_wp2_with fail
     refine (snext_any l x b o n cap m i wr (hl0.below hB) (by omega) hm16 hlt hx hsx).mono ?_
     clear hx hsx hE
     rintro e w1 ⟨rfl, hb1⟩
     replace hB := bstep hB hB.size hb1
     clear hb1
     cases hmk : maskNext l m i x
     ·
      have HU := Lib.hid (upTo_none (k := k) (line := line) HX.out (by rw [hmk, Bool.and_false]))
      clear hmk
      go_wp2
      go_roundw
      case rel => exact ⟨i + 1, by omega, by go_num, by rw [HU.out, hc], hB⟩
      case measure => simp [intOf]; omega
     ·
      have HMK := Lib.hid hmk
      clear hmk
      obtain ⟨c0, c1, c2, c3, c4, c5⟩ := ev_cells (hl0.below hB) hlt HX.out
      go_wp2_with fail
      refine (sexplains_any line x B nb cb lo hi w1 (SlW.below hL0 hB hh) (Nat.le_trans hh hB.size) (by omega)).mono ?_
      clear c0 c1 c2 c3 c4 c5
      obtain ⟨th, is, hq⟩ : ∃ th is, explains line x = (th, is) := ⟨_, _, rfl⟩
      have HQ := Lib.hid hq
      rw [hq]
      clear hq
      rintro e w2 ⟨C, cc, rfl, hT, hb2⟩
      simp only at hT
      have hs2 := hb2.size
      replace hB := bstep hB hB.size hb2
      clear hb2
      cases is
      ·
       have HU := Lib.hid (upTo_none (k := k) (m := m) HX.out (by rw [HQ.out]; rfl))
       go_wp2
       go_roundw
       case rel => exact ⟨i + 1, by omega, by go_num, by rw [HU.out, hc], hB⟩
       case measure => simp [intOf]; omega
      ·
       have hth : th.length ≤ 41 := by have := ex_small (l := line) (x := x) (by rw [HQ.out]); rw [HQ.out] at this; exact this
       have HU := Lib.hid (upTo_some (k := k) HX.out (by rw [HQ.out]) HMK.out)
       have hbit := mask_bit HMK.out
       have hp := pow_le16 (i := i) (by omega)
       have hwu : IntKind.u64.wrap (i : Int) = (i : Int) := by rw [IntKind.wrap_u64]; omega
       have hm' : m - 2 ^ i < 2 ^ n := Nat.lt_of_le_of_lt (Nat.sub_le _ _) HM.out
       have hmost : 1 ≤ most - upTo k l m line i := by omega
       have hIH := ih l (m - 2 ^ i) th (some ⟨b, o, none⟩) n cap C th.length cc _ _ (most - upTo k l m line i) w2 (hl0.below hB) hn HST.out hm' (del_len HX.out HMK.out HK.out) hT (Nat.le_refl _) (by omega) hmost (by omega)
       have e1 := mask_wrap hbit hm16
       have e2 : ((most - upTo k l m line i : Nat) : Int) = (most : Int) - (upTo k l m line i : Nat) := by omega
       rw [e1, e2] at hIH
       have HC := Lib.hid hIH
       have HS := Lib.hid (show (upTo k l m line i : Int) + ((min (cntO k (pick l (m - 2 ^ i)) th) (most - upTo k l m line i) : Nat) : Int) = ((min (upTo k l m line (i + 1)) most : Nat) : Int) by rw [HU.out, HQ.out]; simp only; omega)
       have hcx : min (cntO k (pick l (m - 2 ^ i)) th) (most - upTo k l m line i) ≤ 1000 := by omega
       have hux : upTo k l m line i ≤ 1000 := by omega
       clear hIH e1 e2 hp hbit
       go_wp2_with fail
       refine (HC.out).mono ?_
       rintro e w3 ⟨rfl, hb3⟩
       replace hB := bstep hB hB.size hb3
       clear hb3
       obtain ⟨cx, hcg⟩ : ∃ cx, min (cntO k (pick l (m - 2 ^ i)) th) (most - upTo k l m line i) = cx := ⟨_, rfl⟩
       rw [hcg] at hcx HS ⊢
       clear hcg
       go_wp2
       go_roundw
       case rel => exact ⟨i + 1, by omega, by go_num, by rw [← HS.out], hB⟩
       case measure => simp [intOf]; omega
    ·
     have hc : min (upTo k l m line i) most = most := Nat.min_eq_right (by omega)
     have HR := Lib.hid (show min (cntO (k + 1) (pick l m) line) most = most by
      rw [← upTo_all, HL.out]
      have := upTo_le (k := k) (l := l) (m := m) (line := line) (show i ≤ n by omega)
      omega)
     rw [hc]
     go_wp2
     go_ret
     exact .mk (by rw [HR.out]; rfl) hB
   ·
    have g1 : ¬ (i : Int) < (n : Int) := by omega
    obtain rfl : n = i := by omega
    have HR := Lib.hid (show cntO (k + 1) (pick l m) line = upTo k l m line n by rw [← upTo_all, HL.out])
    go_wp2
    go_ret
    exact .mk (by rw [HR.out]; rfl) hB

theorem mask_full {n : Nat} (h : n ≤ 15) : wrap64 (wrap64 (2 ^ n) - 1) = ((2 ^ n - 1 : Nat) : Int) := by
 have hpc : ((2 : Int) ^ n) = ((2 ^ n : Nat) : Int) := by push_cast; rfl
 have h1 := pow_le16 (i := n) (by omega)
 have h0 : 0 < 2 ^ n := Nat.pow_pos (by omega)
 rw [hpc]
 generalize 2 ^ n = q at *
 unfold wrap64; omega

theorem story_be {l : List Ev} (h : storyOk l = true) : ∀ x ∈ l, x.b ≤ x.e := fun x hx => by
 simp only [storyOk, Bool.and_eq_true, List.all_eq_true] at h
 have h2 := h.1 x hx
 simp only [evOk, inB, Bool.and_eq_true, decide_eq_true_eq] at h2
 omega

set_option maxRecDepth 100000 in
set_option maxHeartbeats 2000000 in
theorem slined_any (l : List Ev) (A : Option Addr) (n cap : Nat) (w : World) (h : EvsR w A n l) (hn : n ≤ 1048576) :
  Calls Tryz.prog 9 #[.slice A n cap] w (RetBelow (.bool (linedB l)) w) := by
 have HL := Lib.hid h.1
 go_enter Tryz.func9, Tryz.ntmps9
 go_wp2_with fail
 refine (sstory_any l A n cap _ h hn).mono ?_
 rintro e w1 ⟨rfl, hb1⟩
 cases hok : storyOk l
 ·
  have HQ := Lib.hid (show linedB l = false by unfold linedB; rw [hok, Bool.and_false]; rfl)
  clear hok
  go_wp2
  go_ret
  exact .mk (by rw [HQ.out]; rfl) hb1
 ·
  have HOK := Lib.hid hok
  clear hok
  by_cases h8 : (n : Int) > 8
  ·
   have HQ := Lib.hid (show linedB l = false by unfold linedB; rw [HL.out]; simp; omega)
   go_wp2
   go_ret
   exact .mk (by rw [HQ.out]; rfl) hb1
  ·
   have HQ := Lib.hid (show linedB l = decide (0 < cntO l.length l []) by unfold linedB; rw [HOK.out, HL.out]; simp; omega)
   have hwu : IntKind.u64.wrap (n : Int) = (n : Int) := by rw [IntKind.wrap_u64]; omega
   have hl1 := h.below hb1
   have hi0 := ints_none (w := w1) (Below.refl w1.heap.size w1)
   have hC := scount_any n l (2 ^ n - 1) [] A n cap (some ⟨w1.heap.size, 0, none⟩) 0 0 _ _ 1 (w1.alloc (.cells #[] 2)) (hl1.below ((Below.refl _ _).alloc (Nat.le_refl _) _)) (by omega) (story_be HOK.out) (by have := Nat.pow_pos (n := n) (show 0 < 2 by omega); omega) (by have := HL.out; rw [← this, pick_all]) hi0 (Nat.le_refl _) (by omega) (by omega) (by omega)
   rw [← mask_full (n := n) (by omega)] at hC
   have HC := Lib.hid hC
   have HP := Lib.hid (show pick l (2 ^ n - 1) = l by rw [← HL.out, pick_all])
   clear hC hi0
   go_wp2_with fail
   refine (HC.out).mono ?_
   rintro e w2 ⟨rfl, hb2⟩
   rw [HP.out]
   have hB := bstep hb1 hb1.size (bstep ((Below.refl _ _).alloc (Nat.le_refl _) _) (by simp) hb2)
   have HLl := HL.out
   by_cases hc : 0 < cntO n l []
   ·
    have hm : min (cntO n l []) 1 = 1 := by omega
    rw [hm]
    go_wp2
    go_ret
    exact .mk (by rw [HQ.out, HLl]; simp; omega) hB
   ·
    have hm : min (cntO n l []) 1 = 0 := by omega
    rw [hm]
    go_wp2
    go_ret
    exact .mk (by rw [HQ.out, HLl]; simp; omega) hB

set_option maxRecDepth 100000 in
set_option maxHeartbeats 2000000 in
theorem sorders_any (l : List Ev) (A : Option Addr) (n cap : Nat) (w : World) (h : EvsR w A n l) (hn : n ≤ 1048576) :
  Calls Tryz.prog 10 #[.slice A n cap] w (RetBelow (.int .i64 (ordersZ l)) w) := by
 have HL := Lib.hid h.1
 go_enter Tryz.func10, Tryz.ntmps10
 go_wp2_with fail
 refine (sstory_any l A n cap _ h hn).mono ?_
 rintro e w1 ⟨rfl, hb1⟩
 cases hok : storyOk l
 ·
  have HQ := Lib.hid (show ordersZ l = -1 by unfold ordersZ; rw [hok, Bool.and_false]; rfl)
  clear hok
  go_wp2
  go_ret
  exact .mk (by rw [HQ.out]; rfl) hb1
 ·
  have HOK := Lib.hid hok
  clear hok
  by_cases h8 : (n : Int) > 6
  ·
   have HQ := Lib.hid (show ordersZ l = -1 by unfold ordersZ; rw [HL.out, show decide (n ≤ 6) = false by simp; omega]; rfl)
   go_wp2
   go_ret
   exact .mk (by rw [HQ.out]; rfl) hb1
  ·
   have HQ := Lib.hid (show ordersZ l = (cntO l.length l [] : Int) by unfold ordersZ; rw [HOK.out, HL.out, show decide (n ≤ 6) = true by simp; omega]; rfl)
   have hwu : IntKind.u64.wrap (n : Int) = (n : Int) := by rw [IntKind.wrap_u64]; omega
   have hl1 := h.below hb1
   have hi0 := ints_none (w := w1) (Below.refl w1.heap.size w1)
   have hC := scount_any n l (2 ^ n - 1) [] A n cap (some ⟨w1.heap.size, 0, none⟩) 0 0 _ _ 1000 (w1.alloc (.cells #[] 2)) (hl1.below ((Below.refl _ _).alloc (Nat.le_refl _) _)) (by omega) (story_be HOK.out) (by have := Nat.pow_pos (n := n) (show 0 < 2 by omega); omega) (by have := HL.out; rw [← this, pick_all]) hi0 (Nat.le_refl _) (by omega) (by omega) (by omega)
   rw [← mask_full (n := n) (by omega)] at hC
   have HC := Lib.hid hC
   have HP := Lib.hid (show pick l (2 ^ n - 1) = l by rw [← HL.out, pick_all])
   clear hC hi0
   go_wp2_with fail
   refine (HC.out).mono ?_
   rintro e w2 ⟨rfl, hb2⟩
   rw [HP.out]
   have hB := bstep hb1 hb1.size (bstep ((Below.refl _ _).alloc (Nat.le_refl _) _) (by simp) hb2)
   have HLl := HL.out
   have hm : min (cntO n l []) 1000 = cntO n l [] := Nat.min_eq_left (by
    have h1 := cntO_le n l [] HLl
    have : n = 0 ∨ n = 1 ∨ n = 2 ∨ n = 3 ∨ n = 4 ∨ n = 5 ∨ n = 6 := by omega
    rcases this with e | e | e | e | e | e | e <;> rw [e] at h1 ⊢ <;> exact Nat.le_trans h1 (by decide))
   rw [hm]
   go_wp2
   go_ret
   exact .mk (by rw [HQ.out, HLl]; rfl) hB

end Go.Proofs.YtplgabogdeeohaaGreat

/-
 Events of which each one ends before the next one begins have one order, or none.
-/
namespace Go.Proofs.YtplgabogdeeohaaGreat
set_option linter.unusedSimpArgs false
set_option linter.unusedVariables false
open Go.RowKit
set_option linter.unusedVariables false

/-- Each one explained by the line that those before it have made. -/
def chainB : List Ev → List Int → Bool
 | [], _ => true
 | x :: t, line => (explains line x).2 && chainB t (explains line x).1
def Aheads (l : List Ev) : Prop := ∀ (i : Nat) x y, l[i]? = some x → l[i + 1]? = some y → x.e < y.b
theorem aheads_tail {x : Ev} {t : List Ev} (h : Aheads (x :: t)) : Aheads t := fun i a b ha hb => h (i + 1) a b (by simpa using ha) (by simpa using hb)
theorem aheads_all {x : Ev} : ∀ {t : List Ev}, Aheads (x :: t) → (∀ y ∈ t, y.b ≤ y.e) → ∀ y ∈ t, x.e < y.b
 | [], _, _, y, hy => by simp at hy
 | z :: t, h, hb, y, hy => by
  have h1 := h 0 x z rfl rfl
  rcases List.mem_cons.1 hy with rfl | hy
  · exact h1
  ·
   have h2 := aheads_all (aheads_tail h) (fun y hy => hb y (List.mem_cons_of_mem _ hy)) y hy
   have h3 := hb z List.mem_cons_self
   omega
theorem sumN_one {f : Nat → Nat} (h : ∀ i, 0 < i → f i = 0) : ∀ n, sumN f (n + 1) = f 0
 | 0 => by simp [sumN]
 | n + 1 => by rw [sumN, sumN_one h n, h (n + 1) (by omega), Nat.add_zero]
theorem cntO_ahead : ∀ (l : List Ev) (line : List Int), Aheads l → (∀ y ∈ l, y.b ≤ y.e) → cntO l.length l line = bif chainB l line then 1 else 0
 | [], line, _, _ => rfl
 | x :: t, line, h, hb => by
  have ha := aheads_all h (fun y hy => hb y (List.mem_cons_of_mem _ hy))
  have hx := hb x List.mem_cons_self
  show sumN (stepN (cntO t.length) (x :: t) line) (t.length + 1) = _
  rw [sumN_one (fun i hi => ?_), stepN_at (x := x) rfl]
  ·
   have hn : nextE (x :: t) x = true := by
    rw [nextE, List.all_eq_true]
    intro o ho
    rcases List.mem_cons.1 ho with rfl | ho
    · simp; omega
    ·
     have h1 := ha o ho
     have h2 := hb o (List.mem_cons_of_mem _ ho)
     simp; omega
   rw [hn, Bool.and_true]
   show (bif (explains line x).2 then cntO t.length t (explains line x).1 else 0) = _
   rw [cntO_ahead t _ (aheads_tail h) (fun y hy => hb y (List.mem_cons_of_mem _ hy)), chainB]
   cases (explains line x).2 <;> rfl
  ·
   cases hy : (x :: t)[i]? with
   | none => unfold stepN; rw [hy]
   | some y =>
    rw [stepN_at hy, nextE_no (o := x) (i := 0) rfl (ha y ?_), Bool.and_false]
    · rfl
    ·
     obtain ⟨j, rfl⟩ : ∃ j, i = j + 1 := ⟨i - 1, by omega⟩
     rw [List.getElem?_cons_succ] at hy
     exact List.mem_of_getElem? hy

/-- The law's own walk: whether all of the first i were told, and the line behind them. -/
def told (l : List Ev) : Nat → Bool × List Int
 | 0 => (true, [])
 | i + 1 => match l[i]? with
  | some x => ((told l i).1 && (explains (told l i).2 x).2, (explains (told l i).2 x).1)
  | none => told l i
theorem told_succ {l : List Ev} {i : Nat} {x : Ev} (h : l[i]? = some x) : told l (i + 1) = ((told l i).1 && (explains (told l i).2 x).2, (explains (told l i).2 x).1) := by
 rw [told, h]
theorem told_cons (l : List Ev) : ∀ (t : List Ev) (i : Nat), l.drop i = t → (told l l.length).1 = ((told l i).1 && chainB t (told l i).2)
 | [], i, h => by
  have hi : l.length ≤ i := by
   have := congrArg List.length h
   simp at this; omega
  have hs : ∀ k, told l (l.length + k) = told l l.length := fun k => by
   induction k with
   | zero => rfl
   | succ k ih => rw [← Nat.add_assoc, told, List.getElem?_eq_none (by omega)]; exact ih
  have := hs (i - l.length)
  rw [show l.length + (i - l.length) = i by omega] at this
  rw [this, chainB, Bool.and_true]
 | x :: t, i, h => by
  have hx : l[i]? = some x := by
   have h1 : (l.drop i)[0]? = some x := by rw [h]; rfl
   rw [List.getElem?_drop, Nat.add_zero] at h1
   exact h1
  have ht : l.drop (i + 1) = t := by
   rw [← List.drop_drop, h]; rfl
  rw [told_cons l t (i + 1) ht, told_succ hx, chainB]
  simp [Bool.and_assoc]
theorem told_all (l : List Ev) : (told l l.length).1 = chainB l [] := by
 rw [told_cons l l 0 rfl]; rfl
theorem explains_grow (l : List Int) (x : Ev) : (explains l x).1.length ≤ l.length + 1 := by
 have h1 : (linePut l x.v).1.length ≤ l.length + 1 := by
  unfold linePut
  cases lineOk l
  · simp
  · cases valB x.v && !decide (l.length = 40) <;> simp
 have h2 : (lineTake l).1.length ≤ l.length := by
  unfold lineTake
  cases lineOk l
  · simp
  · cases l <;> simp
 unfold explains
 cases lineOk l
 · simp
 ·
  cases evOk x
  · simp
  ·
   cases x.put
   ·
    cases x.re == 4
    · simp
    ·
     cases (lineTake l).2.2 && (lineTake l).2.1 == x.v
     · simp
     · simp; omega
   ·
    cases x.re == 1
    · simp
    · exact h1
theorem told_len {l : List Ev} : ∀ i, (told l i).2.length ≤ i
 | 0 => Nat.le_refl _
 | i + 1 => by
  have h := told_len (l := l) i
  rw [told]
  cases hx : l[i]? with
  | none => simp only; omega
  | some x =>
   have := explains_grow (told l i).2 x
   simp only; omega

end Go.Proofs.YtplgabogdeeohaaGreat


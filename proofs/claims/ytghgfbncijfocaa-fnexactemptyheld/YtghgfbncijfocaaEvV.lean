/-
 What was put and what was got in a story, of both sides.
-/
import Derived.Test.YtghgfbncijfocaaEvI
namespace Go.Proofs.Ytghgfbncijfocaa
set_option linter.unusedSimpArgs false
set_option linter.unusedVariables false
open Go.RowKit
set_option linter.unusedVariables false
attribute [local go_sem ↓] Go.wp_at_zero Go.wp_at_succ

def movesB (put : Bool) (x : Ev) : Bool := (x.put == put) && (x.re == 1 || x.re == 4)
def mvs (put : Bool) (l : List Ev) : List Int := (l.filter (movesB put)).map Ev.v
def valsOf (put : Bool) (l : List Ev) : List Int := if storyOk l then mvs put l else []
theorem mvs_len (put : Bool) (l : List Ev) : (mvs put l).length ≤ l.length := by
 unfold mvs; rw [List.length_map]; exact List.length_filter_le _ _
theorem mvs_snoc {put : Bool} {l : List Ev} {i : Nat} {x : Ev} (hx : l[i]? = some x) : mvs put (l.take (i + 1)) = mvs put (l.take i) ++ (if movesB put x then [x.v] else []) := by
 unfold mvs
 rw [List.take_add_one, hx]
 simp only [Option.toList_some, List.filter_append, List.map_append]
 cases h : movesB put x <;> simp [h]
theorem mvs_yes {put : Bool} {l : List Ev} {i : Nat} {x : Ev} (hx : l[i]? = some x) (h : movesB put x = true) : mvs put (l.take (i + 1)) = mvs put (l.take i) ++ [x.v] := by rw [mvs_snoc hx, h]; rfl
theorem mvs_no {put : Bool} {l : List Ev} {i : Nat} {x : Ev} (hx : l[i]? = some x) (h : movesB put x = false) : mvs put (l.take (i + 1)) = mvs put (l.take i) := by rw [mvs_snoc hx, h]; simp
theorem vals_small (put : Bool) {l : List Ev} {n : Nat} (h : l.length = n) (hn : n ≤ 1048576) : (valsOf put l).length ≤ 1048576 := by
 unfold valsOf
 split
 · have := mvs_len put l; omega
 · simp
theorem storyOk_at {l : List Ev} (h : storyOk l = true) {i : Nat} {x : Ev} (hx : l[i]? = some x) : evOk x = true := by
 simp only [storyOk, Bool.and_eq_true] at h
 exact List.all_eq_true.1 h.1 x (List.mem_of_getElem? hx)
theorem story_len {l : List Ev} (h : storyOk l = true) : l.length ≤ 16 := by simp [storyOk] at h; exact h.2

theorem int1 (z : Int) : ∀ u ∈ [Value.int .i64 z], u.oneCell' = true := by intro u hu; simp at hu; subst hu; rfl
theorem ints_ge {N : Nat} {w : World} {v : Value} {l : List Int} (h : IntsO N w v l) : ∀ g, v.ownBlock = some g → N ≤ g := fun g hg => by
 rcases h.2 with ⟨h1, _⟩ | ⟨g', cap, cur, hv, hg', _⟩
 · rw [h1] at hg; cases hg
 ·
  rw [hv] at hg
  have : g' = g := by simpa [Value.ownBlock] using hg
  omega
/-- Behind an append of one number to a list of the call's own. -/
theorem ints_snoc {N : Nat} {w' : World} {v' : Value} {o : List Int} {z : Int} (h : w'.ownsRow N 2 1 v' (o.length + 1) (o.flatMap ic ++ [Value.int .i64 z])) : ∃ B c, v' = .slice B (o ++ [z]).length c ∧ IntsO N w' (.slice B (o ++ [z]).length c) (o ++ [z]) := by
 obtain ⟨g', c', rfl, hP⟩ := Own.of_row (f := ic) (l := o ++ [z]) (n := o.length + 1) (by rw [List.flatMap_append]; exact h) (by simp) (by omega)
 exact ⟨some ⟨g', 0, none⟩, c', by simp, by unfold IntsO; have := hP.own ic_len; simpa using this⟩

/-- Two lists of the call's own are returned, one behind the other. -/
def RetInts2 (l m : List Int) (w : World) (e : Ending) (w' : World) : Prop := ∃ A c B d, e = .returned (.tuple #[.slice A l.length c, .slice B m.length d]) ∧ IntsW w.heap.size w'.heap.size w' A l.length c l ∧ IntsW w.heap.size w'.heap.size w' B m.length d m ∧ Below w.heap.size w w'

/-- They lie in two blocks. -/
def BlkNe (v u : Value) : Prop := ∀ k, v.ownBlock = some k → u.ownBlock ≠ some k
theorem BlkNe.symm {v u : Value} (h : BlkNe v u) : BlkNe u v := fun k h1 h2 => h k h2 h1
theorem ints_keep {N : Nat} {w w' : World} {v u : Value} {l : List Int} (h : IntsO N w v l) (hg : w.grownBy w' u.ownBlock) (hne : BlkNe u v) : IntsO N w' v l := by
 refine ⟨h.1, ?_⟩
 rcases h.2 with h' | ⟨g, cap, cur, hv, hgN, hbx, hr⟩
 · exact .inl h'
 · exact .inr ⟨g, cap, cur, hv, hgN, BoxAt.grown2 hbx hg (fun e => hne g e (by rw [hv]; simp [Value.ownBlock])), hr⟩
theorem ints_lt {N : Nat} {w : World} {v : Value} {l : List Int} (h : IntsO N w v l) : ∀ k, v.ownBlock = some k → k < w.heap.size := fun k hk => by
 rcases h.2 with ⟨h1, _⟩ | ⟨g, cap, cur, hv, hgN, hbx, hr⟩
 · rw [h1] at hk; cases hk
 ·
  rw [hv] at hk
  have : g = k := by simpa [Value.ownBlock] using hk
  subst this
  exact (Array.getElem?_eq_some_iff.1 hbx).1
theorem BlkNe.grown {N : Nat} {w w0 : World} {v v' u : Value} {l : List Int} (h : BlkNe v u) (hu : IntsO N w0 u l) (hs : w0.heap.size ≤ w.heap.size) (h' : v'.ownBlock = v.ownBlock ∨ v'.ownBlock = some w.heap.size) : BlkNe v' u := fun k hk hu' => by
 rcases h' with h' | h'
 · exact h k (h'.symm.trans hk) hu'
 ·
  rw [h'] at hk
  injection hk with hk
  have := ints_lt hu k hu'
  omega
theorem ints_w {N : Nat} {w : World} {A : Option Addr} {c : Nat} {l : List Int} (h : IntsO N w (.slice A l.length c) l) : IntsW N w.heap.size w A l.length c l := by
 obtain ⟨A', c', e1, hW⟩ := SlW.of_own (f := ic) (l := l) h rfl
 injection e1 with e1 _ e3
 subst e1 e3
 exact hW

theorem news_at {W : World} {cs : List Value} {t : TypeId} {k : Nat} (h : k = W.heap.size) : ∀ j u, cs[j]? = some u → (W.alloc (.cells cs.toArray t)).cell? ((⟨k, 0, none⟩ : Addr).add j) = some u := by subst h; exact news_alloc W cs t
theorem ta_putDone_putDone (v : Int) (W : World) : (Instr.typeAssert (.iface 62 (.agg #[.int .i64 v])) 55 62 true).run Try.prog W = .ok (.tuple #[.agg #[.int .i64 v], .bool true]) W := by kernel_rfl
theorem ta_putDone_gotOne (v : Int) (W : World) : (Instr.typeAssert (.iface 62 (.agg #[.int .i64 v])) 55 64 true).run Try.prog W = .ok (.tuple #[.agg #[.int .i64 0], .bool false]) W := by kernel_rfl
theorem ta_putFull_putDone (v : Int) (W : World) : (Instr.typeAssert (.iface 63 (.agg #[.int .i64 v])) 55 62 true).run Try.prog W = .ok (.tuple #[.agg #[.int .i64 0], .bool false]) W := by kernel_rfl
theorem ta_putFull_gotOne (v : Int) (W : World) : (Instr.typeAssert (.iface 63 (.agg #[.int .i64 v])) 55 64 true).run Try.prog W = .ok (.tuple #[.agg #[.int .i64 0], .bool false]) W := by kernel_rfl
theorem ta_gotOne_putDone (v : Int) (W : World) : (Instr.typeAssert (.iface 64 (.agg #[.int .i64 v])) 55 62 true).run Try.prog W = .ok (.tuple #[.agg #[.int .i64 0], .bool false]) W := by kernel_rfl
theorem ta_gotOne_gotOne (v : Int) (W : World) : (Instr.typeAssert (.iface 64 (.agg #[.int .i64 v])) 55 64 true).run Try.prog W = .ok (.tuple #[.agg #[.int .i64 v], .bool true]) W := by kernel_rfl
theorem ta_gotNone_putDone (v : Int) (W : World) : (Instr.typeAssert (.iface 65 (.agg #[.int .i64 v])) 55 62 true).run Try.prog W = .ok (.tuple #[.agg #[.int .i64 0], .bool false]) W := by kernel_rfl
theorem ta_gotNone_gotOne (v : Int) (W : World) : (Instr.typeAssert (.iface 65 (.agg #[.int .i64 v])) 55 64 true).run Try.prog W = .ok (.tuple #[.agg #[.int .i64 0], .bool false]) W := by kernel_rfl

end Go.Proofs.Ytghgfbncijfocaa

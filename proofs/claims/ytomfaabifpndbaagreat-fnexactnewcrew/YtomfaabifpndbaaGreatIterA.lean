/-
  The program's iterators over the rings of a store: what each hands on, round by round.
-/
import Derived.Test.YtomfaabifpndbaaGreatLawB
import Derived.RangeFuncNested
import Derived.RangeFuncBound
import Derived.RangeFuncCalls
import Derived.RangeFuncLeaves
import Derived.Shelf.Abstract
import Derived.Shelf.RegionOpen
import Derived.WalkKit
import Derived.OwnWalkIn
import Derived.TacticsInMore
import Derived.LoopNIn
import Derived.LoopIn
namespace Go.Proofs.YtomfaabifpndbaaGreat
set_option linter.unusedSimpArgs false
set_option linter.unusedVariables false
open Go.RowKit Go.Shelf
set_option linter.unusedVariables false
attribute [local go_sem] Oper.semAt_some
attribute [local go_sem ↓] Go.wp_at_zero Go.wp_at_succ

/-! ### What a round keeps -/

/-- Blocks below n₀ are kept, and those from a on and below b. -/
def KpI (n₀ a b : Nat) (W W' : World) : Prop := Below n₀ W W' ∧ SameIn a b W W'
theorem kpI_t {n₀ a b : Nat} {A B C : World} (h : KpI n₀ a b A B) (k : KpI n₀ a b B C) : KpI n₀ a b A C := ⟨h.1.trans k.1, h.2.trans k.2⟩
theorem kpI_b {n₀ a b : Nat} {w : World} (hn : n₀ ≤ w.heap.size) (hb : b ≤ w.heap.size) (W : World) (l : Nat) (o o' : Obj) (hl : w.heap.size ≤ l) (h : W.heap[l]? = some o) (h1 : o.isCells = false) (h2 : o.isWalk = false) : KpI n₀ a b W (W.putObj l o') :=
  ⟨belowK_b hn W l o o' hl h h1 h2, fun j _ hj => World.putObj_heap_other (by omega)⟩
theorem KpI.refl (n₀ a b : Nat) (W : World) : KpI n₀ a b W W := ⟨Below.refl _ _, SameIn.refl _ _ _⟩

theorem boxAt_own {β : Type} (B k : Nat) (cs : β → Array Value) (t : TypeId) : OwnFrom B (fun s W => BoxAt W k (cs s) t) := fun s X Y row hs hg hr =>
  (hg.block k hs.lt (fun e => by
    obtain ⟨_, o, ho, hc⟩ := hr k e.symm
    unfold BoxAt at hs
    rw [hs] at ho
    cases ho
    cases hc)).trans hs

/-! ### Elements: a ring's number and its cells -/

abbrev El (rows : List Rw) := { p : Int × Rw // 0 ≤ p.1 ∧ rows[p.1.toNat]? = some p.2 }
def rwC (a : Rw) : Array Value := #[.int .i64 a.h, .int .i64 a.t, .bool a.c, .int .i64 a.x, .slice a.A a.n a.cap]
def elV {rows : List Rw} (x : El rows) : Array Value := #[.int .i64 x.1.1, .agg (rwC x.1.2)]

/-- What comes from ring z on, k rounds at most. -/
def walkE (rows : List Rw) : Nat → Int → List (El rows)
  | 0, _ => []
  | k + 1, z => if h : 0 ≤ z then match hr : rows[z.toNat]? with
    | some a => ⟨(z, a), h, hr⟩ :: walkE rows k a.x
    | none => []
    else []
theorem walkE_out {rows : List Rw} {k : Nat} {z : Int} (h : z < 0 ∨ (rows.length : Int) ≤ z) : walkE rows k z = [] := by
  cases k with
  | zero => rfl
  | succ k =>
    unfold walkE
    by_cases h0 : 0 ≤ z
    · rw [dif_pos h0]
      have hn : rows[z.toNat]? = none := List.getElem?_eq_none (by omega)
      split
      · rename_i a hr; rw [hn] at hr; cases hr
      · rfl
    · rw [dif_neg h0]
theorem walkE_in {rows : List Rw} {k : Nat} {z : Int} {a : Rw} (h : 0 ≤ z) (hr : rows[z.toNat]? = some a) : walkE rows (k + 1) z = ⟨(z, a), h, hr⟩ :: walkE rows k a.x := by
  conv => lhs; unfold walkE
  rw [dif_pos h]
  split
  · rename_i a' hr'
    obtain rfl : a = a' := by rw [hr] at hr'; injection hr'
    rfl
  · rename_i hr'; rw [hr] at hr'; cases hr'
theorem walkE_len (rows : List Rw) : ∀ (k : Nat) (z : Int), (walkE rows k z).length ≤ k
  | 0, _ => by simp [walkE]
  | k + 1, z => by
    by_cases h : 0 ≤ z ∧ z < rows.length
    · have hl : z.toNat < rows.length := by omega
      rw [walkE_in h.1 (List.getElem?_eq_getElem hl)]
      have := walkE_len rows k rows[z.toNat].x
      simp; omega
    · rw [walkE_out (by omega)]; simp

/-- The first k rings. -/
def firstE (rows : List Rw) : Nat → List (El rows)
  | 0 => []
  | k + 1 => match h : rows[k]? with
    | some a => firstE rows k ++ [⟨((k : Int), a), Int.natCast_nonneg k, by simpa using h⟩]
    | none => firstE rows k
theorem firstE_succ {rows : List Rw} {k : Nat} {a : Rw} (h : rows[k]? = some a) : firstE rows (k + 1) = firstE rows k ++ [⟨((k : Int), a), Int.natCast_nonneg k, by simpa using h⟩] := by
  conv => lhs; unfold firstE
  split
  · rename_i a' h'
    obtain rfl : a = a' := by rw [h] at h'; injection h'
    rfl
  · rename_i h'; rw [h] at h'; cases h'
theorem firstE_mem {rows : List Rw} : ∀ {k i : Nat} {a : Rw}, i < k → (h : rows[i]? = some a) → ∃ x ∈ firstE rows k, x.1 = ((i : Int), a)
  | 0, _, _, hi, _ => absurd hi (by omega)
  | k + 1, i, a, hi, h => by
    by_cases hk : i = k
    · subst hk
      rw [firstE_succ h]
      exact ⟨⟨((i : Int), a), Int.natCast_nonneg i, by simpa using h⟩, by simp, rfl⟩
    · obtain ⟨x, hx, e⟩ := firstE_mem (k := k) (show i < k by omega) h
      refine ⟨x, ?_, e⟩
      unfold firstE
      split
      · simp [hx]
      · exact hx
theorem firstE_len {rows : List Rw} : ∀ {k : Nat}, k ≤ rows.length → (firstE rows k).length = k
  | 0, _ => rfl
  | k + 1, h => by
    rw [firstE_succ (List.getElem?_eq_getElem (show k < rows.length by omega))]
    simp [firstE_len (show k ≤ rows.length by omega)]

/-! ### The walks -/

set_option maxHeartbeats 400000 in
theorem hasRing_any (s : St) (A : Option Addr) (n cap : Nat) (z : Int) (w : World) (hn : s.rs.length = n) (hm : n ≤ 1048576) :
    Calls Tryz.prog 114 #[stV s A n cap, .int .i64 z] w (RetBelow (.bool (ringB s z)) w) := by
  have HN := Lib.hid hn; clear hn
  unfold stV
  go_enter Tryz.func114, Tryz.ntmps114
  go_wp2
  all_goals
    go_ret
    refine .mk ?_ ((Below.refl _ _).alloc (Nat.le_refl _) _)
    simp [ringB, inB, HN.out, *] <;> omega

def sC (s : St) (A : Option Addr) (n cap : Nat) : Array Value := #[.int .i64 s.rd, .int .i64 s.mo, .slice A n cap, .int .i64 s.fi, .int .i64 s.la]

set_option maxHeartbeats 400000 in
theorem ringsOf_any (s : St) (A : Option Addr) (n cap : Nat) (w : World) :
    Calls Tryz.prog 126 #[stV s A n cap] w (fun e w' => e = .returned (.func (.func 129) #[] #[.pointer (some ⟨w.heap.size, 0, none⟩)]) ∧ w' = w.alloc (.cells (sC s A n cap) 26)) := by
  unfold stV
  go_enter Tryz.func126, Tryz.ntmps126
  go_wp2
  go_ret
  exact ⟨rfl, rfl⟩

set_option maxHeartbeats 400000 in
theorem ringsFrom_any (s : St) (A : Option Addr) (n cap : Nat) (z : Int) (w : World) :
    Calls Tryz.prog 132 #[stV s A n cap, .int .i64 z] w (fun e w' => e = .returned (.func (.func 137) #[] #[.pointer (some ⟨w.heap.size + 1, 0, none⟩), .pointer (some ⟨w.heap.size, 0, none⟩)]) ∧ w' = (w.alloc (.cells (sC s A n cap) 26)).alloc (.cells #[.int .i64 z] 2)) := by
  unfold stV
  go_enter Tryz.func132, Tryz.ntmps132
  go_wp2
  go_ret
  exact ⟨by simp, rfl⟩

end Go.Proofs.YtomfaabifpndbaaGreat

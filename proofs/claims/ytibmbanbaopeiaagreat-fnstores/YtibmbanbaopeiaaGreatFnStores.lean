/-
 The law on stores holds: for every code that is drawn from, a new store is right and empty, and the chain of a store has no ring twice. No conditions.
-/
import Derived.BigQuiet
import Derived.Test.YtibmbanbaopeiaaGreatChecked
import Derived.Test.YtibmbanbaopeiaaGreatRows
import Derived.Test.YtibmbanbaopeiaaGreatKit
import Derived.Test.YtibmbanbaopeiaaGreatRingB
import Derived.Test.YtibmbanbaopeiaaGreatCurB
import Derived.Test.YtibmbanbaopeiaaGreatLawC
import Derived.Test.YtibmbanbaopeiaaGreatSpecV
import Derived.Test.YtibmbanbaopeiaaGreatStoreN
import Derived.Test.YtibmbanbaopeiaaGreatDrwC
import Derived.Test.YtibmbanbaopeiaaGreatStoreI
namespace Go.Proofs.YtibmbanbaopeiaaGreat
set_option linter.unusedSimpArgs false
set_option linter.unusedVariables false
open Go.ChangeShapes Go.WideShapes Go.ChangeAt Go.RowKit Go.Joins

theorem own : ownKnob Tryz.prog.godebug = none := by kernel_rfl
theorem laidOut : laidOutB Tryz.prog = true := by kernel_rfl

end Go.Proofs.YtibmbanbaopeiaaGreat

/-
 Two rings that are alike, by the laws' own helper.
-/
namespace Go.Proofs.YtibmbanbaopeiaaGreat
set_option linter.unusedSimpArgs false
set_option linter.unusedVariables false
open Go.RowKit
set_option linter.unusedVariables false
attribute [local go_sem ↓] Go.wp_at_zero Go.wp_at_succ

set_option maxRecDepth 100000 in
set_option maxHeartbeats 1000000 in
theorem likeRing_same (h t : Int) (c : Bool) (x : Int) (A B : Option Addr) (n cp cq : Nat) (l : List Pl) (w : World) (ha : PlsR 0 w A n l) (hb : PlsR 0 w B n l) (hn : n ≤ 1048576) :
  Calls Tryz.prog 26 #[rgV h t c x A n cp, rgV h t c x B n cq] w (RetBelow (.bool true) w) := by
 unfold rgV
 go_enter Tryz.func26, Tryz.ntmps26
 go_upto_region 1 with fail
 refine wp_abs (fun W => Below w.heap.size w W ∧ BoxAt W w.heap.size #[.int .i64 h, .int .i64 t, .bool c, .int .i64 x, .slice A n cp] 42 ∧ BoxAt W (w.heap.size + 1) #[.int .i64 h, .int .i64 t, .bool c, .int .i64 x, .slice B n cq] 42) ⟨((Below.refl _ _).alloc (Nat.le_refl _) _).alloc (by simp) _, (BoxAt.new _ _ _).alloc _, BoxAt.new' (by simp)⟩ ?_
 rintro W0 ⟨hB, h1, h2⟩
 have k1 := h1.cell
 have k2 := h2.cell
 go_wp2
 clear k1 k2
 go_loopw [5] (fun s5 W => ∃ i : Nat, i ≤ n ∧ s5 = .int .i64 i ∧ Below w.heap.size w W ∧ BoxAt W w.heap.size #[.int .i64 h, .int .i64 t, .bool c, .int .i64 x, .slice A n cp] 42 ∧ BoxAt W (w.heap.size + 1) #[.int .i64 h, .int .i64 t, .bool c, .int .i64 x, .slice B n cq] 42) (fun s5 _ => n - (intOf s5).toNat)
 case atStart => exact ⟨0, Nat.zero_le _, rfl, hB, h1, h2⟩
 case round =>
  clear hB h1 h2
  obtain ⟨i, hi, rfl, hB, h1, h2⟩ := hrel
  have k1 := h1.cell
  have k2 := h2.cell
  by_cases hlt : i < n
  ·
   obtain ⟨b, o, p, rfl, _, hp, hc⟩ := SlE.at_ (SlE.keep PlE.kept ha (fun j _ hj => hB.block j hj)) hlt
   obtain ⟨b', o', p', rfl, _, hp', hc'⟩ := SlE.at_ (SlE.keep PlE.kept hb (fun j _ hj => hB.block j hj)) hlt
   obtain rfl : p = p' := by rw [hp] at hp'; injection hp'
   obtain ⟨c0, c1, c2, c3⟩ := hc
   obtain ⟨d0, d1, d2, d3⟩ := hc'
   have q1 : (i : Int) < (n : Int) := by omega
   have q2 : (0 : Int) ≤ (i : Int) := by omega
   clear hp hp'
   go_wp2
   go_quiet (fail)
   go_wp2
   go_roundw
   case rel => exact ⟨i + 1, by omega, by go_num, ⟨hB.os, hB.tape, hB.output, hB.size, hB.block⟩, h1.drewN _, h2.drewN _⟩
   case measure => simp [intOf]; omega
  ·
   have q1 : ¬ (i : Int) < (n : Int) := by omega
   go_wp2
   go_ret
   exact ⟨rfl, hB⟩

end Go.Proofs.YtibmbanbaopeiaaGreat

/-
 Two lists of numbers, and two stores, that are alike, by the laws' own helpers.
-/
namespace Go.Proofs.YtibmbanbaopeiaaGreat
set_option linter.unusedSimpArgs false
set_option linter.unusedVariables false
open Go.RowKit
set_option linter.unusedVariables false
attribute [local go_sem ↓] Go.wp_at_zero Go.wp_at_succ

set_option maxRecDepth 100000 in
set_option maxHeartbeats 1000000 in
theorem likeInts_same (A B : Option Addr) (n c d : Nat) (l : List Int) (w : World) (h : IntsR w A n l) (h' : IntsR w B n l) (hn : n ≤ 1073741824) :
  Calls Tryz.prog 14 #[.slice A n c, .slice B n d] w (RetBelow (.bool true) w) := by
 go_enter Tryz.func14, Tryz.ntmps14
 go_wp2
 go_loopw [5] (fun s5 W => ∃ i : Nat, i ≤ n ∧ s5 = .int .i64 i ∧ Below w.heap.size w W) (fun s5 _ => n - (intOf s5).toNat)
 case atStart => exact ⟨0, Nat.zero_le _, rfl, Below.refl _ _⟩
 case round =>
  obtain ⟨i, hi, rfl, hB⟩ := hrel
  by_cases hlt : i < n
  ·
   obtain ⟨b, o, x, rfl, _, hp, c0⟩ := SlE.at_ (SlE.keep IE.kept h (fun j _ hj => hB.block j hj)) hlt
   obtain ⟨b', o', x', rfl, _, hp', d0⟩ := SlE.at_ (SlE.keep IE.kept h' (fun j _ hj => hB.block j hj)) hlt
   obtain rfl : x = x' := by rw [hp] at hp'; injection hp'
   unfold IE at c0 d0
   rw [Nat.mul_one] at c0 d0
   have h1 : (i : Int) < (n : Int) := by omega
   have h2 : (0 : Int) ≤ (i : Int) := by omega
   clear hp hp'
   go_wp2
   go_still_tail 8, (by kernel_rfl)
   go_wp2
   go_roundw
   case rel => exact ⟨i + 1, by omega, by go_num, by first | exact hB | exact hB.drew | exact hB.drewN _⟩
   case measure => simp [intOf]; omega
  ·
   have h1 : ¬ (i : Int) < (n : Int) := by omega
   go_wp2
   go_ret
   exact ⟨rfl, hB⟩

set_option maxRecDepth 100000 in
set_option maxHeartbeats 2000000 in
theorem likeStore_same (s : St) (A B : Option Addr) (n c d : Nat) (w : World) (h : RgsR 0 w A n s.rs) (h' : RgsR 0 w B n s.rs) (hn : n ≤ 1048576) (hm : ∀ r ∈ s.rs, r.ps.length ≤ 1048576) :
  Calls Tryz.prog 11 #[stV s A n c, stV s B n d] w (RetBelow (.bool true) w) := by
 have HM := Lib.hid hm; clear hm
 unfold stV
 go_enter Tryz.func11, Tryz.ntmps11
 go_upto_region 1 with fail
 refine wp_abs (fun W => Below w.heap.size w W ∧ BoxAt W w.heap.size #[.int .i64 s.rd, .int .i64 s.mo, .slice A n c, .int .i64 s.fi, .int .i64 s.la] 28 ∧ BoxAt W (w.heap.size + 1) #[.int .i64 s.rd, .int .i64 s.mo, .slice B n d, .int .i64 s.fi, .int .i64 s.la] 28) ⟨((Below.refl _ _).alloc (Nat.le_refl _) _).alloc (by simp) _, (BoxAt.new _ _ _).alloc _, BoxAt.new' (by simp)⟩ ?_
 rintro W0 ⟨hB, hx, hy⟩
 have kx := hx.cell
 have ky := hy.cell
 go_wp2
 clear kx ky
 go_loopw [5] (fun s5 W => ∃ i : Nat, i ≤ n ∧ s5 = .int .i64 i ∧ Below w.heap.size w W ∧ BoxAt W w.heap.size #[.int .i64 s.rd, .int .i64 s.mo, .slice A n c, .int .i64 s.fi, .int .i64 s.la] 28 ∧ BoxAt W (w.heap.size + 1) #[.int .i64 s.rd, .int .i64 s.mo, .slice B n d, .int .i64 s.fi, .int .i64 s.la] 28) (fun s5 _ => n - (intOf s5).toNat)
 case atStart => exact ⟨0, Nat.zero_le _, rfl, hB, hx, hy⟩
 case round =>
  clear hB hx hy
  obtain ⟨i, hi, rfl, hB, hx, hy⟩ := hrel
  have kx := hx.cell
  have ky := hy.cell
  by_cases hlt : i < n
  ·
   obtain ⟨b, o, r, e1, _, hp, A1, n1, k1, c0, c1, c2, c3, c4, hm1, hp1⟩ := SlE.at_ (SlE.keep RgE.kept h (fun j _ hj => hB.block j hj)) hlt
   obtain ⟨b', o', r', e2, _, hp', A2, n2, k2, d0, d1, d2, d3, d4, hm2, hp2⟩ := SlE.at_ (SlE.keep RgE.kept h' (fun j _ hj => hB.block j hj)) hlt
   rw [e1] at kx
   rw [e2] at ky
   clear e1 e2
   obtain rfl : r = r' := by rw [hp] at hp'; injection hp'
   obtain rfl : n1 = n2 := hp1.1.symm.trans hp2.1
   have hle : n1 ≤ 1048576 := by have := HM.out r (List.mem_of_getElem? hp); have := hp1.1; omega
   have h1 : (i : Int) < (n : Int) := by omega
   have h2 : (0 : Int) ≤ (i : Int) := by omega
   clear hp hp'
   go_wp2
   go_still_tail 10, (by kernel_rfl)
   go_wp2_with fail
   refine calls_abs (fun W => Below wr.heap.size wr W) ?_ ?_
   · first | exact (Below.refl _ _) | exact (Below.refl _ _).drew | exact (Below.refl _ _).drewN _
   rintro W2 hB2
   refine (likeRing_same r.h r.t r.c r.x A1 A2 n1 k1 k2 r.ps _ (hp1.below hB2) (hp2.below hB2) hle).mono ?_
   rintro e w1 ⟨rfl, hb1⟩
   go_wp2
   go_roundw
   case rel => exact ⟨i + 1, by omega, by go_num, bstep (bstep hB hB.size hB2) (Nat.le_trans hB.size hB2.size) hb1, (hx.below hB2 hx.lt).below hb1 (hx.below hB2 hx.lt).lt, (hy.below hB2 hy.lt).below hb1 (hy.below hB2 hy.lt).lt⟩
   case measure => simp [intOf]; omega
  ·
   have h1 : ¬ (i : Int) < (n : Int) := by omega
   go_wp2
   go_ret
   exact ⟨rfl, hB⟩

end Go.Proofs.YtibmbanbaopeiaaGreat

/-
 A chain has no ring twice; what a new store holds: pure.
-/
namespace Go.Proofs.YtibmbanbaopeiaaGreat
set_option linter.unusedSimpArgs false
set_option linter.unusedVariables false
open Go.RowKit
set_option linter.unusedVariables false

theorem chain_cons {rs : List Rg} {k : Nat} {z : Int} {l : List Int} (hz : ¬ z < 0) (h : chain rs k z = some l) : ∃ k' r m, rs[z.toNat]? = some r ∧ chain rs k' r.x = some m ∧ l = z :: m ∧ k = k' + 1 := by
 cases k with
 | zero => rw [chain_zero hz] at h; cases h
 | succ k =>
  cases hr : rs[z.toNat]? with
  | none =>
   unfold chain at h
   simp [hz, hr] at h
  | some r =>
   rw [chain_succ hz hr] at h
   cases hc : chain rs k r.x with
   | none => rw [hc] at h; cases h
   | some m =>
    rw [hc] at h
    injection h with h
    exact ⟨k, r, m, rfl, hc, h.symm, rfl⟩
theorem chain_uniq {rs : List Rg} : ∀ (k k' : Nat) (z : Int) (l l' : List Int), chain rs k z = some l → chain rs k' z = some l' → l = l'
 | k, k', z, l, l', h, h' => by
  by_cases hz : z < 0
  ·
   rw [chain_neg hz] at h h'
   injection h with h
   injection h' with h'
   rw [← h, ← h']
  ·
   obtain ⟨j, r, m, hr, hm, e, rfl⟩ := chain_cons hz h
   obtain ⟨j', r', m', hr', hm', e', _⟩ := chain_cons hz h'
   rw [hr] at hr'
   injection hr' with hr'
   subst hr'
   rw [e, e', chain_uniq j j' _ _ _ hm hm']
theorem chain_drop {rs : List Rg} : ∀ (i k : Nat) (z : Int) (l : List Int), chain rs k z = some l → ∀ x, l[i]? = some x → ∃ k', chain rs k' x = some (l.drop i)
 | 0, k, z, l, h, x, hx => by
  by_cases hz : z < 0
  ·
   rw [chain_neg hz] at h
   injection h with h
   subst h
   cases hx
  ·
   obtain ⟨j, r, m, hr, hm, e, _⟩ := chain_cons hz h
   subst e
   injection hx with hx
   subst hx
   exact ⟨k, h⟩
 | i + 1, k, z, l, h, x, hx => by
  by_cases hz : z < 0
  ·
   rw [chain_neg hz] at h
   injection h with h
   subst h
   cases hx
  ·
   obtain ⟨j, r, m, hr, hm, e, _⟩ := chain_cons hz h
   subst e
   exact chain_drop i j r.x m hm x hx
theorem chainOf_ne {s : St} {i j : Nat} {x y : Int} (hx : (chainOf s)[i]? = some x) (hy : (chainOf s)[j]? = some y) (hij : j < i) : x ≠ y := by
 rintro rfl
 unfold chainOf at hx hy
 split at hx
 ·
  rename_i hok
  rw [if_pos hok] at hy
  cases hc : chain s.rs s.rs.length s.fi with
  | none => rw [hc] at hx; cases hx
  | some l =>
   rw [hc] at hx hy
   obtain ⟨k1, h1⟩ := chain_drop i _ _ l hc x hx
   obtain ⟨k2, h2⟩ := chain_drop j _ _ l hc x hy
   have h3 := chain_uniq _ _ _ _ _ h1 h2
   have h4 := congrArg List.length h3
   have h5 : i < l.length := (List.getElem?_eq_some_iff.1 hx).1
   simp only [List.length_drop] at h4
   omega
 · cases hx
theorem chainOf_pos (s : St) : stOk s = decide (0 < ((chainOf s).length : Int)) := by
 cases hok : stOk s
 · simp [chainOf, hok]
 ·
  have hf := stOk_fi hok
  have h3 := hok
  simp only [stOk, Bool.and_eq_true, List.all_eq_true, List.mem_range] at h3
  have h4 := h3.2 s.fi.toNat (by omega)
  rw [Int.toNat_of_nonneg hf.1] at h4
  cases hc : chain s.rs s.rs.length s.fi with
  | none => rw [hc] at h4; cases h4
  | some l =>
   obtain ⟨j, r, m, hr, hm, e, _⟩ := chain_cons (by omega) hc
   subst e
   simp [chainOf, hok, hc]

theorem chain_lenS {rs : List Rg} : ∀ (k : Nat) (z : Int) (l : List Int), chain rs k z = some l → l.length ≤ k
 | k, z, l, h => by
  by_cases hz : z < 0
  ·
   rw [chain_neg hz] at h
   injection h with h
   subst h
   exact Nat.zero_le _
  ·
   obtain ⟨j, r, m, hr, hm, e, rfl⟩ := chain_cons hz h
   subst e
   have := chain_lenS j r.x m hm
   simp
   omega
theorem chainOf_lenS (s : St) : (chainOf s).length ≤ s.rs.length := by
 unfold chainOf
 split
 ·
  cases hc : chain s.rs s.rs.length s.fi with
  | none => simp
  | some l => exact chain_lenS _ _ _ hc
 · simp
theorem flat_le {f : Int → List Int} (h : ∀ z, (f z).length ≤ 8) : ∀ l : List Int, (l.flatMap f).length ≤ 8 * l.length
 | [] => by simp
 | z :: l => by
  have h1 := flat_le h l
  have h2 := h z
  rw [List.flatMap_cons, List.length_append, List.length_cons]
  omega
theorem valuesIn_len (s : St) : (valuesIn s).length ≤ 8 * s.rs.length := by
 unfold valuesIn
 split
 ·
  rename_i hok
  have := flat_le (f := valsAt s) (fun z => valsAt_len hok z) (chainOf s)
  have := chainOf_lenS s
  omega
 · simp

theorem mem_sink : ∀ (j : Nat) (l : List Pl) (p : Pl), p ∈ sinkP j l → p ∈ l
 | 0, l, p, h => h
 | j + 1, l, p, h => by
  cases hp : l[j + 1]? with
  | none => unfold sinkP at h; simp [hp] at h; exact h
  | some a =>
   cases hq : l[j]? with
   | none => unfold sinkP at h; simp [hp, hq] at h; exact h
   | some b =>
    by_cases hlt : a.n < b.n
    ·
     rw [sinkP_lt hp hq hlt] at h
     have h1 := mem_sink j _ p h
     rcases List.mem_or_eq_of_mem_set h1 with h2 | rfl
     ·
      rcases List.mem_or_eq_of_mem_set h2 with h3 | rfl
      · exact h3
      · exact List.mem_of_getElem? hq
     · exact List.mem_of_getElem? hp
    ·
     rw [sinkP_ge hp hq hlt] at h
     exact h
theorem mem_sort (l : List Pl) : ∀ (k : Nat) (p : Pl), p ∈ sortTo l k → p ∈ l
 | 0, p, h => by simpa [sortTo] using h
 | 1, p, h => by rw [sortTo_one] at h; exact h
 | k + 2, p, h => by
  rw [sortTo_succ l (by omega)] at h
  exact mem_sort l (k + 1) p (mem_sink _ _ _ h)

theorem fresh_okS {n : Nat} (hn : 2 ≤ n) (h8 : n ≤ 8) : (Rg.fresh n).ok = true := by
 simp only [Rg.fresh, Rg.ok, rgOk, Bool.and_eq_true]
 refine ⟨⟨⟨⟨by decide, by decide⟩, by decide⟩, ?_⟩, ?_⟩
 ·
  rw [fresh_len]
  simp only [roundB, Bool.and_eq_true, decide_eq_true_eq]
  omega
 ·
  simp only [allB, List.all_eq_true, List.mem_range]
  intro i hi
  rw [fresh_len] at hi
  unfold okAt
  rw [fresh_at hi, fresh_len]
  have : (i : Int) % (n : Int) = i := Int.emod_eq_of_lt (by omega) (by omega)
  simp [okB, this]; omega
theorem newStore_yes {rd mo : Int} {x : St} (h : newStore rd mo = (x, true)) : stOk x = true ∧ valuesIn x = [] ∧ chainOf x = [0] := by
 unfold newStore at h
 split at h
 ·
  rename_i hb
  injection h with h
  subst h
  simp only [Bool.and_eq_true, roundB, inB, decide_eq_true_eq] at hb
  have hch : chain [Rg.fresh rd.toNat] 1 0 = some [0] := by
   rw [chain_succ (r := Rg.fresh rd.toNat) (by omega) rfl, chain_neg (by show (-1 : Int) < 0; omega)]
   rfl
  have hl : ((Rg.fresh rd.toNat).ps.length : Int) = rd := by
   have : (Rg.fresh rd.toNat).ps.length = rd.toNat := by simp [Rg.fresh, fresh_len]
   omega
  have hok : stOk ⟨rd, mo, [Rg.fresh rd.toNat], 0, 0⟩ = true := by
   simp only [stOk, stHead, Bool.and_eq_true, List.all_eq_true, List.mem_range, roundB, inB, decide_eq_true_eq, List.length_singleton, List.mem_singleton]
   refine ⟨⟨?_, ?_⟩, ?_⟩
   · omega
   ·
    rintro r rfl
    simp only [inSt, fresh_okS (show 2 ≤ rd.toNat by omega) (by omega), hl, Bool.true_and, beq_self_eq_true, decide_eq_true_eq]
    show (-1 : Int) < _
    omega
   ·
    intro i hi
    obtain rfl : i = 0 := by omega
    show (chain [Rg.fresh rd.toNat] 1 0).isSome = true
    rw [hch]
    rfl
  have hcf : chainOf ⟨rd, mo, [Rg.fresh rd.toNat], 0, 0⟩ = [0] := by
   unfold chainOf
   rw [if_pos hok]
   show (chain [Rg.fresh rd.toNat] 1 0).getD [] = [0]
   rw [hch]
   rfl
  refine ⟨hok, ?_, hcf⟩
  unfold valuesIn
  rw [if_pos hok, hcf]
  simp only [List.flatMap_cons, List.flatMap_nil, List.append_nil]
  unfold valsAt valsP
  rw [List.map_eq_nil_iff, List.filter_eq_nil_iff]
  intro p hp
  have h1 := mem_sort _ _ p hp
  have h2 : p ∈ fresh rd.toNat := h1
  simp only [fresh, List.mem_map, List.mem_range] at h2
  obtain ⟨i, _, rfl⟩ := h2
  simp
 · cases h
theorem newStore_slim (rd mo : Int) : (newStore rd mo).1.rs.length ≤ 1 ∧ ∀ r ∈ (newStore rd mo).1.rs, r.ps.length ≤ 1048576 := by
 unfold newStore
 split
 ·
  rename_i hb
  simp only [Bool.and_eq_true, roundB, inB, decide_eq_true_eq] at hb
  refine ⟨by simp, fun r hr => ?_⟩
  simp only [List.mem_singleton] at hr
  subst hr
  simp [Rg.fresh, fresh_len]
  omega
 · exact ⟨by simp [St.zero], fun r hr => by simp [St.zero] at hr⟩

end Go.Proofs.YtibmbanbaopeiaaGreat

/-
 The walk of the law on stores.
-/
namespace Go.Proofs.YtibmbanbaopeiaaGreat
set_option linter.unusedSimpArgs false
set_option linter.unusedVariables false
open Go.RowKit
set_option linter.unusedVariables false
attribute [local go_sem] OpUpon
attribute [local go_sem ↓] Go.wp_at_zero Go.wp_at_succ

/-- Rings, wherever they lie. -/
def RgX (w : World) (A : Option Addr) (n c : Nat) (L : List Rg) : Prop := ∃ lo hi, hi ≤ w.heap.size ∧ RgsW lo hi w A n c L
theorem RgX.below {w w' : World} {A : Option Addr} {n c : Nat} {L : List Rg} (h : RgX w A n c L) (hb : Below w.heap.size w w') : RgX w' A n c L := by
 obtain ⟨lo, hi, hh, h⟩ := h
 exact ⟨lo, hi, Nat.le_trans hh hb.size, h.below hb hh⟩
theorem RgX.r {w : World} {A : Option Addr} {n c : Nat} {L : List Rg} (h : RgX w A n c L) : RgsR 0 w A n L := by
 obtain ⟨lo, hi, hh, h⟩ := h
 exact h.r
theorem RgX.len {w : World} {A : Option Addr} {n c : Nat} {L : List Rg} (h : RgX w A n c L) : L.length = n := by
 obtain ⟨lo, hi, hh, h⟩ := h
 exact h.1
def RetIR (l : List Int) (w : World) (e : Ending) (w' : World) : Prop := ∃ A c, e = .returned (.slice A l.length c) ∧ IntsR w' A l.length l ∧ Below w.heap.size w w'
theorem RetIR.of {l : List Int} {w : World} {e : Ending} {w' : World} (h : RetIntl l w e w') : RetIR l w e w' := by
 obtain ⟨v, rfl, ho, hb⟩ := h
 obtain ⟨A, c, rfl, hr⟩ := ho.r
 exact ⟨A, c, rfl, hr, hb⟩
theorem istoreOk_x (s : St) (A : Option Addr) (n c : Nat) (w : World) (h : RgX w A n c s.rs) (hn : n ≤ 1048576) (hm : ∀ r ∈ s.rs, r.ps.length ≤ 1048576) : Calls Tryz.prog 12 #[stV s A n c] w (RetBelow (.bool (stOk s)) w) := by
 obtain ⟨lo, hi, hh, h⟩ := h
 exact istoreOk_any s A n c lo hi w h hh hn hm
theorem sstoreOk_x (s : St) (A : Option Addr) (n c : Nat) (w : World) (h : RgX w A n c s.rs) (hn : n ≤ 1048576) (hm : ∀ r ∈ s.rs, r.ps.length ≤ 1048576) : Calls Tryz.prog 13 #[stV s A n c] w (RetBelow (.bool (stOk s)) w) := by
 obtain ⟨lo, hi, hh, h⟩ := h
 exact sstoreOk_any s A n c lo hi w h hh hn hm
theorem ichain_x (s : St) (A : Option Addr) (n c : Nat) (w : World) (h : RgX w A n c s.rs) (hn : n ≤ 1048576) (hm : ∀ r ∈ s.rs, r.ps.length ≤ 1048576) : Calls Tryz.prog 8 #[stV s A n c] w (RetIR (chainOf s) w) := by
 obtain ⟨lo, hi, hh, h⟩ := h
 exact (ichainOf_any s A n c lo hi w h hh hn hm).mono fun _ _ => RetIR.of
theorem schain_x (s : St) (A : Option Addr) (n c : Nat) (w : World) (h : RgX w A n c s.rs) (hn : n ≤ 1048576) (hm : ∀ r ∈ s.rs, r.ps.length ≤ 1048576) : Calls Tryz.prog 15 #[stV s A n c] w (RetIR (chainOf s) w) := by
 obtain ⟨lo, hi, hh, h⟩ := h
 exact (schainOf_any s A n c lo hi w h hh hn hm).mono fun _ _ => RetIR.of
theorem ivalues_x (s : St) (A : Option Addr) (n c : Nat) (w : World) (h : RgX w A n c s.rs) (hn : n ≤ 1048576) (hm : ∀ r ∈ s.rs, r.ps.length ≤ 1048576) : Calls Tryz.prog 9 #[stV s A n c] w (RetIR (valuesIn s) w) := by
 obtain ⟨lo, hi, hh, h⟩ := h
 exact (ivaluesIn_any s A n c lo hi w h hh hn hm).mono fun _ _ => RetIR.of
theorem svalues_x (s : St) (A : Option Addr) (n c : Nat) (w : World) (h : RgX w A n c s.rs) (hn : n ≤ 1048576) (hm : ∀ r ∈ s.rs, r.ps.length ≤ 1048576) : Calls Tryz.prog 16 #[stV s A n c] w (RetIR (valuesIn s) w) := by
 obtain ⟨lo, hi, hh, h⟩ := h
 exact (svaluesIn_any s A n c lo hi w h hh hn hm).mono fun _ _ => RetIR.of

set_option maxHeartbeats 400000 in
theorem big_any (a0 : Option Addr) (len cap : Nat) (w : World) : Calls Tryz.prog 4 #[.slice a0 len cap] w (Quiet1 (.bool (decide (4096 < (len : Int)))) w) := by
 go_enter Tryz.func4, Tryz.ntmps4
 go_wp2
 go_ret
 exact ⟨rfl, rfl⟩

def fsAV (x1 sq : St) (A1 A2 A4 Ac Av : Option Addr) (n1 n2 c1 c2 c4 cc cv : Nat) (lc lv : List Int) (is rk : Bool) (g5 g7 g10 : Nat) : List Sl := [.v (.agg #[.int .i64 x1.rd, .int .i64 x1.mo, .slice A1 n1 c1, .int .i64 x1.fi, .int .i64 x1.la]),
 .v (.agg #[.int .i64 x1.rd, .int .i64 x1.mo, .slice A4 n1 c4, .int .i64 x1.fi, .int .i64 x1.la]),
 .v (.bool true),
 .v (.bool false),
 .v (.bool false),
 .v (.bool is),
 .v (.bool is),
 .v (.bool false),
 .v (.bool false),
 .v (.bool false),
 .v (.agg #[.int .i64 sq.rd, .int .i64 sq.mo, .slice A2 n2 c2, .int .i64 sq.fi, .int .i64 sq.la]),
 .v (.bool rk),
 .v (.agg #[.int .i64 sq.rd, .int .i64 sq.mo, .slice A2 n2 c2, .int .i64 sq.fi, .int .i64 sq.la]),
 .v (.bool rk),
 .v (.bool false),
 .v (.bool false),
 .v (.bool false),
 .v (.slice Ac lc.length cc),
 .v (.agg #[.int .i64 sq.rd, .int .i64 sq.mo, .slice A2 n2 c2, .int .i64 sq.fi, .int .i64 sq.la]),
 .e fun σ w => ∃ (A5 : Option Addr) (c5 : Nat), σ 19 = .slice A5 lc.length c5 ∧ IntsR w A5 lc.length lc,
 .v (.bool true),
 .v (.bool false),
 .v (.bool false),
 .v (.bool false),
 .v (.slice Av lv.length cv),
 .v (.agg #[.int .i64 sq.rd, .int .i64 sq.mo, .slice A2 n2 c2, .int .i64 sq.fi, .int .i64 sq.la]),
 .e fun σ w => ∃ (A6 : Option Addr) (c6 : Nat), σ 26 = .slice A6 lv.length c6 ∧ IntsR w A6 lv.length lv,
 .v (.bool true),
 .v (.bool false),
 .v (.bool false)]

set_option maxRecDepth 100000 in
set_option maxHeartbeats 8000000 in
theorem fnStores_any (a0 : Option Addr) (len cap : Nat) (w : World) (hc : CodeOk w.heap.size w a0 len) :
  Calls Tryz.prog 3 #[.slice a0 len cap] w (RetBelow (.bool true) w) := by
 by_cases hl : 4096 < (len : Int)
 ·
  have hl' : decide (4096 < (len : Int)) = true := decide_eq_true hl
  go_enter Tryz.func3, Tryz.ntmps3
  go_wp2_with fail
  refine (big_any _ _ _ _).mono ?_
  rintro e w' ⟨rfl, rfl⟩
  go_wp2
  go_ret
  exact .mk rfl (Below.refl _ _)
 ·
  have hl' : decide (4096 < (len : Int)) = false := decide_eq_false hl
  go_enter Tryz.func3, Tryz.ntmps3
  go_wp2_with fail
  refine (big_any _ _ _ _).mono ?_
  rintro e w' ⟨rfl, rfl⟩
  go_wp2_with fail
  refine (drawNewStore_any a0 len cap _ hc).mono ?_
  rintro e w1 ⟨rd, mo, rfl, hB⟩
  go_wp2_with fail
  refine (inewStore_any rd mo _).mono ?_
  rintro e w2 ⟨A1, n1, c1, rfl, hD, hb⟩
  replace hB := bstep hB hB.size hb
  clear hb
  have r1 : RgX w2 A1 n1 c1 (newStore rd mo).1.rs := ⟨_, _, Nat.le_refl _, hD.toW⟩
  clear hD
  have HSN := snewStore_any rd mo
  have HSL := Lib.hid (newStore_slim rd mo)
  generalize hP : newStore rd mo = P1 at *
  obtain ⟨x1, is⟩ := P1
  have HP := Lib.hid hP; clear hP
  have hn1 : n1 ≤ 1 := by have := r1.len; have := HSL.out.1; omega
  unfold stV
  go_wp2_with fail
  refine calls_abs (fun W => Below w.heap.size w W ∧ BoxAt W w2.heap.size #[.int .i64 x1.rd, .int .i64 x1.mo, .slice A1 n1 c1, .int .i64 x1.fi, .int .i64 x1.la] 28 ∧ RgX W A1 n1 c1 x1.rs) ⟨hB.alloc hB.size _, BoxAt.new _ _ _, r1.below ((Below.refl _ _).alloc (Nat.le_refl _) _)⟩ ?_
  clear hB r1
  generalize w2.heap.size = g5 at *
  rintro W2 ⟨hB, b5, r1⟩
  refine (drawChainOf_any a0 len cap _ ((hc.below hB).le hB.size)).mono ?_
  rintro e w3 ⟨sq, A2, n2, c2, rfl, hR2, hn2, hp2, hb⟩
  replace b5 := b5.below hb b5.lt
  replace r1 := r1.below hb
  replace hB := bstep hB hB.size hb
  clear hb
  have r2 : RgX w3 A2 n2 c2 sq.rs := ⟨_, _, Nat.le_refl _, hR2⟩
  clear hR2
  have HP2 := Lib.hid (show ∀ r ∈ sq.rs, r.ps.length ≤ 1048576 from fun r hr => by have := hp2 r hr; omega); clear hp2
  unfold stV
  go_wp2_with fail
  refine calls_abs (fun W => Below w.heap.size w W ∧ BoxAt W g5 #[.int .i64 x1.rd, .int .i64 x1.mo, .slice A1 n1 c1, .int .i64 x1.fi, .int .i64 x1.la] 28 ∧ BoxAt W w3.heap.size #[.int .i64 sq.rd, .int .i64 sq.mo, .slice A2 n2 c2, .int .i64 sq.fi, .int .i64 sq.la] 28 ∧ RgX W A1 n1 c1 x1.rs ∧ RgX W A2 n2 c2 sq.rs) ⟨hB.alloc hB.size _, b5.alloc _, BoxAt.new _ _ _, r1.below ((Below.refl _ _).alloc (Nat.le_refl _) _), r2.below ((Below.refl _ _).alloc (Nat.le_refl _) _)⟩ ?_
  clear hB b5 r1 r2
  generalize w3.heap.size = g7 at *
  rintro W3 ⟨hB, b5, b7, r1, r2⟩
  have HIO := istoreOk_x sq A2 n2 c2
  have HSO := sstoreOk_x sq A2 n2 c2
  have HIC := ichain_x sq A2 n2 c2
  have HSC := schain_x sq A2 n2 c2
  have HIV := ivalues_x sq A2 n2 c2
  have HSV := svalues_x sq A2 n2 c2
  have HPO := Lib.hid (chainOf_pos sq)
  have HNE := Lib.hid (fun (i j : Nat) (x y : Int) => chainOf_ne (s := sq) (i := i) (j := j) (x := x) (y := y))
  have hlc : (chainOf sq).length ≤ 1000 := by have := chainOf_lenS sq; have := r2.len; omega
  have hlv : (valuesIn sq).length ≤ 1000 := by have := valuesIn_len sq; have := r2.len; omega
  generalize chainOf sq = lc at *
  generalize valuesIn sq = lv at *
  generalize stOk sq = rk at *
  unfold stV at HIO HSO HIC HSC HIV HSV
  refine (HIC _ r2 (by omega) HP2.out).mono ?_
  rintro e w4 ⟨Ac, cc, rfl, ic_, hb⟩
  replace b5 := b5.below hb b5.lt
  replace b7 := b7.below hb b7.lt
  replace r1 := r1.below hb
  replace r2 := r2.below hb
  replace hB := bstep hB hB.size hb
  clear hb
  have kb5 := b5.cell
  have kb7 := b7.cell
  go_wp2_with fail
  clear kb5 kb7
  refine (HIV _ r2 (by omega) HP2.out).mono ?_
  rintro e w5 ⟨Av, cv, rfl, iv_, hb⟩
  replace b5 := b5.below hb b5.lt
  replace b7 := b7.below hb b7.lt
  replace r1 := r1.below hb
  replace r2 := r2.below hb
  replace ic_ := ic_.below hb
  replace hB := bstep hB hB.size hb
  clear hb
  have kb5 := b5.cell
  have kb7 := b7.cell
  go_wp2_with fail
  clear kb5 kb7
  refine (HSN _).mono ?_
  rintro e w6 ⟨A4, n4, c4, rfl, hG4, hb⟩
  replace b5 := b5.below hb b5.lt
  replace b7 := b7.below hb b7.lt
  replace r1 := r1.below hb
  replace r2 := r2.below hb
  replace ic_ := ic_.below hb
  replace iv_ := iv_.below hb
  replace hB := bstep hB hB.size hb
  clear hb
  obtain rfl : n1 = n4 := r1.len.symm.trans hG4.1
  have r4 : RgX w6 A4 n1 c4 x1.rs := ⟨_, _, Nat.le_refl _, hG4⟩
  clear hG4
  unfold stV
  go_upto_region 9 with fail
  refine wp_abs (fun W => Below w.heap.size w W ∧ BoxAt W g5 #[.int .i64 x1.rd, .int .i64 x1.mo, .slice A1 n1 c1, .int .i64 x1.fi, .int .i64 x1.la] 28 ∧ BoxAt W g7 #[.int .i64 sq.rd, .int .i64 sq.mo, .slice A2 n2 c2, .int .i64 sq.fi, .int .i64 sq.la] 28 ∧ BoxAt W w6.heap.size #[.int .i64 x1.rd, .int .i64 x1.mo, .slice A4 n1 c4, .int .i64 x1.fi, .int .i64 x1.la] 28 ∧ RgX W A1 n1 c1 x1.rs ∧ RgX W A2 n2 c2 sq.rs ∧ IntsR W Ac lc.length lc ∧ IntsR W Av lv.length lv ∧ RgX W A4 n1 c4 x1.rs) ⟨hB.alloc hB.size _, b5.alloc _, b7.alloc _, BoxAt.new _ _ _, r1.below ((Below.refl _ _).alloc (Nat.le_refl _) _), r2.below ((Below.refl _ _).alloc (Nat.le_refl _) _), ic_.below ((Below.refl _ _).alloc (Nat.le_refl _) _), iv_.below ((Below.refl _ _).alloc (Nat.le_refl _) _), r4.below ((Below.refl _ _).alloc (Nat.le_refl _) _)⟩ ?_
  clear hB b5 b7 r1 r2 ic_ iv_ r4
  generalize w6.heap.size = g10 at *
  rintro W6 ⟨hB, b5, b7, b10, r1, r2, ic_, iv_, r4⟩
  go_cut [68] (fun u W' => Below w.heap.size w W' ∧ BoxAt W' g5 #[.int .i64 x1.rd, .int .i64 x1.mo, .slice A1 n1 c1, .int .i64 x1.fi, .int .i64 x1.la] 28 ∧ BoxAt W' g7 #[.int .i64 sq.rd, .int .i64 sq.mo, .slice A2 n2 c2, .int .i64 sq.fi, .int .i64 sq.la] 28 ∧ BoxAt W' g10 #[.int .i64 x1.rd, .int .i64 x1.mo, .slice A4 n1 c4, .int .i64 x1.fi, .int .i64 x1.la] 28 ∧ RgX W' A1 n1 c1 x1.rs ∧ RgX W' A2 n2 c2 sq.rs ∧ IntsR W' Ac lc.length lc ∧ IntsR W' Av lv.length lv ∧ RgX W' A4 n1 c4 x1.rs ∧ u = .bool false)
  case first =>
   refine wp_region2v (fun w w' => Below w.heap.size w w') (fun _ _ h => h.size) (fun _ => Below.refl _ _) (fun L W' => Below w.heap.size w W' ∧ BoxAt W' g5 #[.int .i64 x1.rd, .int .i64 x1.mo, .slice A1 n1 c1, .int .i64 x1.fi, .int .i64 x1.la] 28 ∧ BoxAt W' g7 #[.int .i64 sq.rd, .int .i64 sq.mo, .slice A2 n2 c2, .int .i64 sq.fi, .int .i64 sq.la] 28 ∧ BoxAt W' g10 #[.int .i64 x1.rd, .int .i64 x1.mo, .slice A4 n1 c4, .int .i64 x1.fi, .int .i64 x1.la] 28 ∧ RgX W' A1 n1 c1 x1.rs ∧ RgX W' A2 n2 c2 sq.rs ∧ IntsR W' Ac lc.length lc ∧ IntsR W' Av lv.length lv ∧ RgX W' A4 n1 c4 x1.rs) (fsAV x1 sq A1 A2 A4 Ac Av n1 n2 c1 c2 c4 cc cv lc lv is rk g5 g7 g10) (fun _ => 0) [] (by kernel_rfl) (by kernel_rfl) ?_ ?_ ?_
    (.still rfl ?a0 <| .still rfl ?a1 <| .grow rfl ?a2 <| .still rfl ?a3 <| .still rfl ?a4 <| .still rfl ?a5 <| .still rfl ?a6 <| .still rfl ?a7 <| .still rfl ?a8 <| .still rfl ?a9 <| .still rfl ?a10 <| .grow rfl ?a11 <| .still rfl ?a12 <| .grow rfl ?a13 <| .still rfl ?a14 <| .still rfl ?a15 <| .still rfl ?a16 <| .still rfl ?a17 <| .still rfl ?a18 <| .grow rfl ?a19 <| .grow rfl ?a20 <| .still rfl ?a21 <| .still rfl ?a22 <| .still rfl ?a23 <| .still rfl ?a24 <| .still rfl ?a25 <| .grow rfl ?a26 <| .grow rfl ?a27 <| .still rfl ?a28 <| .still rfl ?a29 <| .nil) ?_ ?_
   · exact ⟨fun _ _ _ h ⟨A5, c5, e, hp⟩ => ⟨A5, c5, (h 19 (List.mem_singleton.2 rfl)).symm.trans e, hp⟩, fun _ _ _ h ⟨A6, c6, e, hp⟩ => ⟨A6, c6, (h 26 (List.mem_singleton.2 rfl)).symm.trans e, hp⟩, trivial⟩
   · exact ⟨fun σ w w' hb ⟨A5, c5, e, hp⟩ => ⟨A5, c5, e, hp.below hb⟩, fun σ w w' hb ⟨A6, c6, e, hp⟩ => ⟨A6, c6, e, hp.below hb⟩, trivial⟩
   · exact ⟨hB.drew, b5, b7, b10, r1, r2, ic_, iv_, r4⟩
   case a0 =>
    go_light
    intro L σ W' hcl hL hC hw
    have kb5 := hC.2.1.cell
    clear hw hcl hL hC
    refine OpGoes.go fun K hK => ?_
    go_simp
    exact hK _ _ ⟨rfl, rfl⟩
   case a1 =>
    go_light
    intro L σ W' hcl hL hC hw
    have kb10 := hC.2.2.2.1.cell
    clear hw hcl hL hC
    refine OpGoes.go fun K hK => ?_
    go_simp
    exact hK _ _ ⟨rfl, rfl⟩
   case a3 | a4 | a5 | a6 | a7 | a8 | a9 | a14 | a15 | a16 | a17 | a21 | a22 | a23 | a24 | a28 | a29 =>
    go_light
    intro L σ W' hcl hL hC hw
    try have e2 := wT hw 2 rfl
    try have e3 := wT hw 3 rfl
    try have e4 := wT hw 4 rfl
    try have e5 := wT hw 5 rfl
    try have e6 := wT hw 6 rfl
    try have e7 := wT hw 7 rfl
    try have e8 := wT hw 8 rfl
    try have e9 := wT hw 9 rfl
    try have e11 := wT hw 11 rfl
    try have e13 := wT hw 13 rfl
    try have e14 := wT hw 14 rfl
    try have e15 := wT hw 15 rfl
    try have e16 := wT hw 16 rfl
    try have e20 := wT hw 20 rfl
    try have e21 := wT hw 21 rfl
    try have e22 := wT hw 22 rfl
    try have e23 := wT hw 23 rfl
    try have e27 := wT hw 27 rfl
    try have e28 := wT hw 28 rfl
    clear hw hcl hL hC
    refine OpGoes.go fun K hK => ?_
    go_simp
    exact hK _ _ ⟨rfl, rfl⟩
   case a10 | a12 | a18 | a25 =>
    go_light
    intro L σ W' hcl hL hC hw
    try have e9 := wT hw 9 rfl
    try have e16 := wT hw 16 rfl
    try have e23 := wT hw 23 rfl
    have kb7 := hC.2.2.1.cell
    clear hw hcl hL hC
    refine OpGoes.go fun K hK => ?_
    go_simp
    exact hK _ _ ⟨rfl, rfl⟩
   case a2 =>
    go_light
    intro L σ W' hcl hL hC hw
    have e0 := wV hw 0 rfl
    have e1 := wV hw 1 rfl
    clear hw
    have HC := Lib.hid hC
    clear hC
    clear hcl hL
    refine OpGoes.go fun K hK => ?_
    go_simp
    obtain ⟨hB, b5, b7, b10, r1, r2, ic_, iv_, r4⟩ := HC.out
    refine (likeStore_same x1 A1 A4 n1 c1 c4 _ r1.r r4.r (by omega) HSL.out.2).mono ?_
    rintro e w1 ⟨rfl, hb1⟩
    exact ⟨_, rfl, hK _ _ ⟨⟨bstep hB hB.size hb1, b5.below hb1 b5.lt, b7.below hb1 b7.lt, b10.below hb1 b10.lt, r1.below hb1, r2.below hb1, ic_.below hb1, iv_.below hb1, r4.below hb1⟩, rfl, hb1⟩⟩
   case a11 =>
    go_light
    intro L σ W' hcl hL hC hw
    have e9 := wV hw 9 rfl
    have e10 := wV hw 10 rfl
    clear hw
    have HC := Lib.hid hC
    clear hC
    clear hcl hL
    refine OpGoes.go fun K hK => ?_
    go_simp
    obtain ⟨hB, b5, b7, b10, r1, r2, ic_, iv_, r4⟩ := HC.out
    refine (HIO _ r2 (by omega) HP2.out).mono ?_
    rintro e w1 ⟨rfl, hb1⟩
    exact ⟨_, rfl, hK _ _ ⟨⟨bstep hB hB.size hb1, b5.below hb1 b5.lt, b7.below hb1 b7.lt, b10.below hb1 b10.lt, r1.below hb1, r2.below hb1, ic_.below hb1, iv_.below hb1, r4.below hb1⟩, rfl, hb1⟩⟩
   case a13 =>
    go_light
    intro L σ W' hcl hL hC hw
    have e9 := wV hw 9 rfl
    have e12 := wV hw 12 rfl
    clear hw
    have HC := Lib.hid hC
    clear hC
    clear hcl hL
    refine OpGoes.go fun K hK => ?_
    go_simp
    obtain ⟨hB, b5, b7, b10, r1, r2, ic_, iv_, r4⟩ := HC.out
    refine (HSO _ r2 (by omega) HP2.out).mono ?_
    rintro e w1 ⟨rfl, hb1⟩
    exact ⟨_, rfl, hK _ _ ⟨⟨bstep hB hB.size hb1, b5.below hb1 b5.lt, b7.below hb1 b7.lt, b10.below hb1 b10.lt, r1.below hb1, r2.below hb1, ic_.below hb1, iv_.below hb1, r4.below hb1⟩, rfl, hb1⟩⟩
   case a19 =>
    go_light
    intro L σ W' hcl hL hC hw
    have e16 := wV hw 16 rfl
    have e18 := wV hw 18 rfl
    clear hw
    have HC := Lib.hid hC
    clear hC
    clear hcl hL
    refine OpGoes.go fun K hK => ?_
    go_simp
    obtain ⟨hB, b5, b7, b10, r1, r2, ic_, iv_, r4⟩ := HC.out
    refine (HSC _ r2 (by omega) HP2.out).mono ?_
    rintro e w1 ⟨A5, c5, rfl, hI5, hb1⟩
    exact ⟨_, rfl, hK _ _ ⟨⟨bstep hB hB.size hb1, b5.below hb1 b5.lt, b7.below hb1 b7.lt, b10.below hb1 b10.lt, r1.below hb1, r2.below hb1, ic_.below hb1, iv_.below hb1, r4.below hb1⟩, ⟨A5, c5, rfl, hI5⟩, hb1⟩⟩
   case a20 =>
    go_light
    intro L σ W' hcl hL hC hw
    have e16 := wV hw 16 rfl
    have e17 := wV hw 17 rfl
    obtain ⟨A5, c5, e19, hp19⟩ := wE hw 19 rfl
    clear hw
    have HC := Lib.hid hC
    clear hC
    clear hcl hL
    refine OpGoes.go fun K hK => ?_
    go_simp
    obtain ⟨hB, b5, b7, b10, r1, r2, ic_, iv_, r4⟩ := HC.out
    refine (likeInts_same Ac A5 lc.length cc c5 lc _ ic_ hp19 (by omega)).mono ?_
    rintro e w1 ⟨rfl, hb1⟩
    exact ⟨_, rfl, hK _ _ ⟨⟨bstep hB hB.size hb1, b5.below hb1 b5.lt, b7.below hb1 b7.lt, b10.below hb1 b10.lt, r1.below hb1, r2.below hb1, ic_.below hb1, iv_.below hb1, r4.below hb1⟩, rfl, hb1⟩⟩
   case a26 =>
    go_light
    intro L σ W' hcl hL hC hw
    have e23 := wV hw 23 rfl
    have e25 := wV hw 25 rfl
    clear hw
    have HC := Lib.hid hC
    clear hC
    clear hcl hL
    refine OpGoes.go fun K hK => ?_
    go_simp
    obtain ⟨hB, b5, b7, b10, r1, r2, ic_, iv_, r4⟩ := HC.out
    refine (HSV _ r2 (by omega) HP2.out).mono ?_
    rintro e w1 ⟨A6, c6, rfl, hI6, hb1⟩
    exact ⟨_, rfl, hK _ _ ⟨⟨bstep hB hB.size hb1, b5.below hb1 b5.lt, b7.below hb1 b7.lt, b10.below hb1 b10.lt, r1.below hb1, r2.below hb1, ic_.below hb1, iv_.below hb1, r4.below hb1⟩, ⟨A6, c6, rfl, hI6⟩, hb1⟩⟩
   case a27 =>
    go_light
    intro L σ W' hcl hL hC hw
    have e23 := wV hw 23 rfl
    have e24 := wV hw 24 rfl
    obtain ⟨A6, c6, e26, hp26⟩ := wE hw 26 rfl
    clear hw
    have HC := Lib.hid hC
    clear hC
    clear hcl hL
    refine OpGoes.go fun K hK => ?_
    go_simp
    obtain ⟨hB, b5, b7, b10, r1, r2, ic_, iv_, r4⟩ := HC.out
    refine (likeInts_same Av A6 lv.length cv c6 lv _ iv_ hp26 (by omega)).mono ?_
    rintro e w1 ⟨rfl, hb1⟩
    exact ⟨_, rfl, hK _ _ ⟨⟨bstep hB hB.size hb1, b5.below hb1 b5.lt, b7.below hb1 b7.lt, b10.below hb1 b10.lt, r1.below hb1, r2.below hb1, ic_.below hb1, iv_.below hb1, r4.below hb1⟩, rfl, hb1⟩⟩
   ·
    intro L L' W' hLL hC
    obtain ⟨hB, b5, b7, b10, r1, r2, ic_, iv_, r4⟩ := hC
    exact ⟨hB, b5, b7, b10, r1, r2, ic_, iv_, r4⟩
   ·
    intro σ L W' hall hC hRR
    obtain ⟨hB, b5, b7, b10, r1, r2, ic_, iv_, r4⟩ := hC
    have e29 := dV hRR 29 rfl
    clear hRR
    simp only [lexAll]
    go_simp
    go_step
    go_meet
    exact ⟨hB, b5, b7, b10, r1, r2, ic_, iv_, r4, rfl⟩
  case rest =>
   clear hB b5 b7 b10 r1 r2 ic_ iv_ r4
   obtain ⟨hB, b5, b7, b10, r1, r2, ic_, iv_, r4, rfl⟩ := hcut
   clear b10 r4 iv_
   go_wp2_with fail
   go_loopw [12] (fun s12 W => ∃ i : Nat, i ≤ lc.length ∧ s12 = .int .i64 i ∧ Below w.heap.size w W ∧ BoxAt W g5 #[.int .i64 x1.rd, .int .i64 x1.mo, .slice A1 n1 c1, .int .i64 x1.fi, .int .i64 x1.la] 28 ∧ BoxAt W g7 #[.int .i64 sq.rd, .int .i64 sq.mo, .slice A2 n2 c2, .int .i64 sq.fi, .int .i64 sq.la] 28 ∧ RgX W A1 n1 c1 x1.rs ∧ RgX W A2 n2 c2 sq.rs ∧ IntsR W Ac lc.length lc) (fun s12 _ => lc.length - (intOf s12).toNat)
   case atStart => exact ⟨0, Nat.zero_le _, rfl, hB, b5, b7, r1, r2, ic_⟩
   case round =>
    clear hB b5 b7 r1 r2 ic_
    obtain ⟨i, hi, rfl, hB, b5, b7, r1, r2, ic_⟩ := hrel
    by_cases hlt : i < lc.length
    ·
     have q1 : (i : Int) < (lc.length : Int) := by omega
     have q2 : (0 : Int) ≤ (i : Int) := by omega
     go_wp2_with fail
     go_loopw [13] (fun s13 W => ∃ j : Nat, j ≤ i ∧ s13 = .int .i64 j ∧ Below w.heap.size w W ∧ BoxAt W g5 #[.int .i64 x1.rd, .int .i64 x1.mo, .slice A1 n1 c1, .int .i64 x1.fi, .int .i64 x1.la] 28 ∧ BoxAt W g7 #[.int .i64 sq.rd, .int .i64 sq.mo, .slice A2 n2 c2, .int .i64 sq.fi, .int .i64 sq.la] 28 ∧ RgX W A1 n1 c1 x1.rs ∧ RgX W A2 n2 c2 sq.rs ∧ IntsR W Ac lc.length lc) (fun s13 _ => i - (intOf s13).toNat)
     case atStart => exact ⟨0, Nat.zero_le _, rfl, hB, b5, b7, r1, r2, ic_⟩
     case round =>
      clear hB b5 b7 r1 r2 ic_
      obtain ⟨j, hj, rfl, hB, b5, b7, r1, r2, ic_⟩ := hrel
      by_cases hjl : j < i
      ·
       obtain ⟨b, o, x, rfl, _, hp, c0⟩ := SlE.at_ ic_ hlt
       obtain ⟨b', o', y, e_, _, hp', d0⟩ := SlE.at_ ic_ (i := j) (by omega)
       injection e_ with e_
       injection e_ with eb eo
       subst eb eo
       have hxy : (x == y) = false := by simpa using HNE.out i j x y hp hp' hjl
       unfold IE at c0 d0
       rw [Nat.mul_one] at c0 d0
       have g1 : (j : Int) < (i : Int) := by omega
       have g2 : (0 : Int) ≤ (j : Int) := by omega
       have g3 : (j : Int) < (lc.length : Int) := by omega
       clear hp hp'
       go_wp2
       go_still_tail 8, (by kernel_rfl)
       go_wp2
       go_roundw
       case rel => exact ⟨j + 1, by omega, by go_num, bstep hB hB.size ⟨rfl, rfl, rfl, Nat.le_refl _, fun _ _ => rfl⟩, b5.below ⟨rfl, rfl, rfl, Nat.le_refl _, fun _ _ => rfl⟩ b5.lt, b7.below ⟨rfl, rfl, rfl, Nat.le_refl _, fun _ _ => rfl⟩ b7.lt, r1.below ⟨rfl, rfl, rfl, Nat.le_refl _, fun _ _ => rfl⟩, r2.below ⟨rfl, rfl, rfl, Nat.le_refl _, fun _ _ => rfl⟩, ic_.below ⟨rfl, rfl, rfl, Nat.le_refl _, fun _ _ => rfl⟩⟩
       case measure => simp [intOf]; omega
      ·
       have g1 : ¬ (j : Int) < (i : Int) := by omega
       go_wp2
       go_roundw
       case rel => exact ⟨i + 1, by omega, by go_num, hB, b5, b7, r1, r2, ic_⟩
       case measure => simp [intOf]; omega
    ·
     have q1 : ¬ (i : Int) < (lc.length : Int) := by omega
     clear HIO HIC HSC HIV HSV HSN HNE
     cases is
     ·
      have kb7 := b7.cell
      go_wp2_with fail
      clear kb7
      refine (HSO _ r2 (by omega) HP2.out).mono ?_
      rintro e w20 ⟨rfl, hb⟩
      replace hB := bstep hB hB.size hb
      clear hb
      by_cases hpos : 0 < lc.length
      ·
       obtain rfl : rk = true := by rw [HPO.out]; exact decide_eq_true (by omega)
       go_wp2
       go_ret
       exact .mk rfl hB
      ·
       obtain rfl : rk = false := by rw [HPO.out]; exact decide_eq_false (by omega)
       go_wp2
       go_ret
       exact .mk rfl hB
     ·
      obtain ⟨y1, y2, y3⟩ := newStore_yes HP.out
      have HO1 := Lib.hid (show ∀ W, RgX W A1 n1 c1 x1.rs → Calls Tryz.prog 12 #[stV x1 A1 n1 c1] W (RetBelow (.bool true) W) from fun W h => by have := istoreOk_x x1 A1 n1 c1 W h (by omega) HSL.out.2; rw [y1] at this; exact this)
      have HV1 := Lib.hid (show ∀ W, RgX W A1 n1 c1 x1.rs → Calls Tryz.prog 9 #[stV x1 A1 n1 c1] W (RetIR [] W) from fun W h => by have := ivalues_x x1 A1 n1 c1 W h (by omega) HSL.out.2; rw [y2] at this; exact this)
      have HC1 := Lib.hid (show ∀ W, RgX W A1 n1 c1 x1.rs → Calls Tryz.prog 8 #[stV x1 A1 n1 c1] W (RetIR [0] W) from fun W h => by have := ichain_x x1 A1 n1 c1 W h (by omega) HSL.out.2; rw [y3] at this; exact this)
      clear y1 y2 y3
      unfold stV at HO1 HV1 HC1
      have kb5 := b5.cell
      go_wp2_with fail
      clear kb5
      refine (HO1.out _ r1).mono ?_
      rintro e w11 ⟨rfl, hb⟩
      replace b5 := b5.below hb b5.lt
      replace b7 := b7.below hb b7.lt
      replace r1 := r1.below hb
      replace r2 := r2.below hb
      replace ic_ := ic_.below hb
      replace hB := bstep hB hB.size hb
      clear hb
      have kb5 := b5.cell
      go_wp2_with fail
      clear kb5
      refine (HV1.out _ r1).mono ?_
      rintro e w12 ⟨A7, c7, rfl, _, hb⟩
      replace b5 := b5.below hb b5.lt
      replace b7 := b7.below hb b7.lt
      replace r1 := r1.below hb
      replace r2 := r2.below hb
      replace ic_ := ic_.below hb
      replace hB := bstep hB hB.size hb
      clear hb
      have kb5 := b5.cell
      go_wp2_with fail
      clear kb5
      refine (HC1.out _ r1).mono ?_
      rintro e w13 ⟨A8, c8, rfl, _, hb⟩
      replace b5 := b5.below hb b5.lt
      replace b7 := b7.below hb b7.lt
      replace r1 := r1.below hb
      replace r2 := r2.below hb
      replace ic_ := ic_.below hb
      replace hB := bstep hB hB.size hb
      clear hb
      have kb7 := b7.cell
      go_wp2_with fail
      clear kb7
      refine (HSO _ r2 (by omega) HP2.out).mono ?_
      rintro e w20 ⟨rfl, hb⟩
      replace hB := bstep hB hB.size hb
      clear hb
      by_cases hpos : 0 < lc.length
      ·
       obtain rfl : rk = true := by rw [HPO.out]; exact decide_eq_true (by omega)
       go_wp2
       go_ret
       exact .mk rfl hB
      ·
       obtain rfl : rk = false := by rw [HPO.out]; exact decide_eq_false (by omega)
       go_wp2
       go_ret
       exact .mk rfl hB

end Go.Proofs.YtibmbanbaopeiaaGreat

namespace Go.Proofs.YtibmbanbaopeiaaGreat
set_option linter.unusedSimpArgs false
set_option linter.unusedVariables false
open Go.RowKit Go.ChangeShapes Go.WideShapes Go.ChangeAt Go.Joins
set_option linter.unusedVariables false

set_option maxRecDepth 100000 in
/-- The bytes of a draw that came in. -/
theorem open_code {H : Type} {enc : TypeId × Value → H} {W : World} {base : Nat} {v : Value} {d : DataW H} {p : List MemPlace}
  (hv : Value.okWide Tryz.prog W .any base 22 v) (h : DataW.Trod enc Tryz.prog W 0 (fun _ => true) true 22 v d p) :
  ∃ (a0 : Option Addr) (len cap : Nat), v = .slice a0 len cap ∧ CodeOk W.heap.size W a0 len := by
 obtain ⟨a0, len, cap, rfl⟩ := okWide_slice Tryz.underlying22 hv
 refine ⟨a0, len, cap, rfl, ?_⟩
 obtain ⟨fuel, hf⟩ := h
 rcases open_ints Tryz.underlying22 Tryz.underlying5 (by kernel_rfl) hf with ⟨hcs, _⟩ | ⟨x, l, c, zs, hcs, _, hl, hm, hz, _, hcell, hwz⟩
 ·
  simp [Value.cells] at hcs
  obtain ⟨rfl, rfl, rfl⟩ := hcs
  exact ⟨Nat.zero_le _, fun h => absurd h (by omega)⟩
 ·
  simp [Value.cells] at hcs
  obtain ⟨rfl, rfl, rfl⟩ := hcs
  have hz' : zs.length = cap := by simpa using hz
  refine ⟨by omega, fun hp => ?_⟩
  obtain ⟨b, off, spot⟩ := x
  have h0 := hcell 0 (by omega)
  have hspot : spot = none := by simpa [Addr.add] using World.cell?_spot h0
  subst hspot
  have hblk := World.block_lt_of_cell? W _ h0
  refine ⟨b, off, rfl, by simpa [Addr.add] using hblk, by simpa [Addr.add] using hblk, fun i hi => ?_⟩
  have hi' := hcell i (by omega)
  have hmem : zs.getD i 0 ∈ zs := by
   have : i < zs.length := by omega
   simp [List.getD_eq_getElem?_getD, this]
  have hw := hwz _ hmem
  have hb := Go.bounds_u8 hw
  have ea : (⟨b, off, none⟩ : Addr).add i = ⟨b, off + i, none⟩ := by
   by_cases e : i = 0
   · subst e; simp [Addr.add]
   · simp [Addr.add, e]
  rw [ea] at hi'
  exact ⟨zs.getD i 0, hb.1, hb.2, hi'⟩

set_option maxRecDepth 100000 in
theorem fnStores_lifted (os : Os) (started : os.Started) (H : Type) (enc : TypeId × Value → H) :
  ReturnsInHanded {} Tryz.checked os 3 .any (Rows.fnStoresSpec.pre6 enc Tryz.prog Tryz.f3 Rows.fnStoresRow.domain false) (Rows.fnStoresSpec.post enc Tryz.prog Tryz.f3 false true false false) := by
 refine law_lifted (C := Tryz.checked) (fn := Tryz.f3) own started (by kernel_rfl) Tryz.func3 laidOut Tryz.underlying4 rfl rfl (by kernel_rfl) (fun ds h => ?_)
  (ChangeSpec.witness6 (enc := enc) (C := Tryz.checked) false ⟨#[], #[.slice none 0 0], []⟩ 8 (by kernel_rfl) (by kernel_rfl) (by kernel_rfl) (by kernel_rfl)) ?_
 · match ds, h with | [_], _ => rfl
 intro W base args ds p hval0 hA0
 have hval : ∀ (j : Nat) t v, Tryz.f3.params[j]? = some t → args[j]? = some v → Value.okWide Tryz.prog W .any base t v := hval0
 have hA : DataW.TrodAll enc Tryz.prog W 0 (fun _ => true) true Tryz.f3.params.toList args.toList ds p := hA0
 rw [Tryz.params3] at hA hval
 obtain ⟨v0, vs0, d0, ds0, p0, q0, hargs, rfl, rfl, h0, r0⟩ := trodAll_cons hA
 obtain ⟨rfl, rfl, rfl⟩ := trodAll_nil r0
 obtain rfl : args = #[v0] := by cases args; simp_all
 obtain ⟨a0, len, cap, rfl, hcode⟩ := open_code (hval 0 22 v0 rfl rfl) h0
 exact fnStores_any a0 len cap W hcode

theorem fnStores_holds : Rows.FnStoresSaid :=
 OpenClaim.holds_of_wide 3 Tryz.f3 rfl rfl rfl rfl rfl rfl rfl ⟨rfl, rfl, rfl, rfl, rfl⟩ rfl rfl rfl rfl rfl (by kernel_rfl) Tryz.func3 (by kernel_rfl)
  (of_decide_eq_true (by kernel_rfl)) (by unfold Func.isWrapper; first | (rw [if_pos (by decide +kernel)]; kernel_rfl) | (rw [if_neg (by decide +kernel)]; exact ⟨rfl, rfl⟩))
  (fun os started H enc _ => fnStores_lifted os started H enc)

end Go.Proofs.YtibmbanbaopeiaaGreat


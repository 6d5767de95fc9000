/-
 Maps keyed by numbers, and the program's walk over the events that have one reply.
-/
import Derived.Test.YtghgfbncijfocaaOrdA
import Derived.Test.YtghgfbncijfocaaFacP
import Derived.Maps.OwnSet
namespace Go.Proofs.Ytghgfbncijfocaa
set_option linter.unusedSimpArgs false
set_option linter.unusedVariables false
open Go.RowKit Go.Shelf Go.Maps
set_option linter.unusedVariables false
attribute [local go_sem] Oper.semAt_some
attribute [local go_sem ↓] Go.wp_at_zero Go.wp_at_succ

/-! ### A map, as a function -/

def tokV (v : Value) : Option (DataW Value × List MemPlace) := some (.held v, [])
/-- Block B is a map of at most n entries, which holds what f says. -/
def MapIs (w : World) (B n : Nat) (f : Int → Option Value) : Prop :=
 ∃ D : DataW Value, w.ownsMap Try.prog 2 tokV B n D ∧ ∀ k, (Lit.int .i64 k).wf = true → ∀ z, D.atKey (.int .i64 k) z = match f k with
  | some v => .held v
  | none => z
theorem key_law : Keyed Try.prog 2 := int_keyed Try.underlying2
theorem key_of {k : Int} (h : (Lit.int .i64 k).wf = true) : keyOf Try.prog 2 (.int .i64 k) = some (.int .i64 k) := keyOf_int_mk Try.underlying2 h
theorem key_wf {k : Int} (h0 : 0 ≤ k) (h1 : k ≤ 1000000) : (Lit.int .i64 k).wf = true := WalkArith.wf_i64 (by omega)
theorem MapIs.lt {w : World} {B n : Nat} {f : Int → Option Value} (h : MapIs w B n f) : B < w.heap.size := by obtain ⟨D, h, _⟩ := h; exact h.lt
theorem MapIs.made (w : World) : MapIs (w.alloc (.map #[] 0)) w.heap.size 0 (fun _ => none) :=
 ⟨_, World.ownsMap_made w _ _ _, fun k _ z => rfl⟩
theorem MapIs.kept {w w' : World} {B n : Nat} {f : Int → Option Value} {row : Option Nat} (h : MapIs w B n f) (hg : w.grownBy w' row) (hne : some B ≠ row) : MapIs w' B n f := by
 obtain ⟨D, h1, h2⟩ := h
 exact ⟨D, h1.kept hg hne, h2⟩
theorem grown_b {w w' : World} (h : Below w.heap.size w w') : w.grownBy w' none := ⟨h.os, h.tape, h.output, h.size, fun k hk _ => h.block k hk⟩
theorem MapIs.below {w w' : World} {B n : Nat} {f : Int → Option Value} (h : MapIs w B n f) (hb : Below w.heap.size w w') : MapIs w' B n f := h.kept (grown_b hb) (by simp)
theorem grown_but {w w' : World} {k : Nat} (h : But k w w') : w.grownBy w' (some k) := ⟨h.os, h.tape, h.output, h.size, fun j hj hn => h.block j hj (fun e => hn (by rw [e]))⟩
theorem but_grown {w w' : World} {k : Nat} (h : w.grownBy w' (some k)) : But k w w' := ⟨h.os, h.tape, h.output, h.size, fun j hj hn => h.block j hj (fun e => hn (by injection e))⟩
theorem MapIs.but {w w' : World} {B n k : Nat} {f : Int → Option Value} (h : MapIs w B n f) (hb : But k w w') (hk : B ≠ k) : MapIs w' B n f := h.kept (grown_but hb) (fun e => hk (by injection e))
theorem MapIs.mono {w : World} {B n m : Nat} {f : Int → Option Value} (h : MapIs w B n f) (hm : n ≤ m) : MapIs w B m f := by
 obtain ⟨D, h1, h2⟩ := h
 exact ⟨D, h1.mono hm, h2⟩
theorem mapIs_own {β : Type} {C B n : Nat} {f : Int → Option Value} (hB : B < C) : OwnFrom C (fun (_ : β) W => MapIs W B n f) := fun _ W W' row h hg hr =>
 h.kept hg (fun e => by have := (hr B e.symm).1; omega)

section
variable {w : World} {B n : Nat} {f : Int → Option Value} {t e : TypeId} {z : Value}
theorem MapIs.look (h : MapIs w B n f) (ht : Try.prog.underlying t = some (.map 2 e)) (hz : (zeroValue e).run Try.prog w = .ok z w) {k : Int} (hk : (Lit.int .i64 k).wf = true) :
  (Instr.lookup t (.map (some B)) (.int .i64 k) false).run Try.prog w = .ok ((f k).getD z) w := by
 obtain ⟨D, h1, h2⟩ := h
 obtain ⟨v, ps, hrun, hv⟩ := h1.lookup key_law ht hz (zd := .held z) (zp := []) rfl (key_of hk)
 rw [h2 k hk] at hv
 rw [hrun]
 cases hf : f k with
 | none => rw [hf] at hv; simp [tokV] at hv; simp [hv.1]
 | some u => rw [hf] at hv; simp [tokV] at hv; simp [hv.1]
theorem MapIs.lookOk (h : MapIs w B n f) (ht : Try.prog.underlying t = some (.map 2 e)) (hz : (zeroValue e).run Try.prog w = .ok z w) {k : Int} (hk : (Lit.int .i64 k).wf = true) :
  (Instr.lookup t (.map (some B)) (.int .i64 k) true).run Try.prog w = .ok (.tuple #[(f k).getD z, .bool (f k).isSome]) w := by
 obtain ⟨D, h1, h2⟩ := h
 obtain ⟨v, ps, hrun, hv⟩ := h1.look_ok key_law ht hz (zd := .held z) (zp := []) rfl (key_of hk)
 have h3 := h2 k hk
 rw [h3] at hv
 rw [hrun]
 cases hf : f k with
 | none =>
  rw [hf] at hv h3; simp [tokV] at hv
  rw [Maps.has_false_of_atKey (fun z => h3 z)]
  simp [hv.1]
 | some u =>
  rw [hf] at hv h3; simp [tokV] at hv
  rw [Maps.has_true_of_atKey (fun z => h3 z)]
  simp [hv.1]
theorem MapIs.upd (h : MapIs w B n f) (ht : Try.prog.underlying t = some (.map 2 e)) (hn : n < maxLen) {k : Int} (hk : (Lit.int .i64 k).wf = true) (v : Value) :
  ∃ w', (Instr.mapUpdate t (.map (some B)) (.int .i64 k) v).run Try.prog w = .ok () w' ∧ MapIs w' B (n + 1) (fun j => if j = k then some v else f j) ∧ But B w w' := by
 obtain ⟨D, h1, h2⟩ := h
 obtain ⟨w', hrun, h3, hg⟩ := h1.update key_law ht hn (key_of hk) (d := .held v) (ps := []) rfl
 refine ⟨w', hrun, ⟨_, h3, fun j hj z => ?_⟩, but_grown hg⟩
 by_cases e : j = k
 ·
  subst e
  rw [Maps.atKey_put_same h1.isMap (key_law.key (key_of hj))]
  simp
 ·
  rw [Maps.atKey_put_other (fun h => e (by injection h)), h2 j hj]
  simp [e]
theorem MapIs.clear (h : MapIs w B n f) (ht : Try.prog.underlying t = some (.map 2 e)) :
  ∃ w', (∀ ty, (Builtin.clear_ #[t] ty #[.map (some B)]).run Try.prog w = .ok (.tuple #[]) w') ∧ MapIs w' B 0 (fun _ => none) ∧ But B w w' := by
 obtain ⟨D, ⟨es, clock, hb, F, _, _⟩, h2⟩ := h
 refine ⟨Go.ChangeMaps.setBlock w B (.map #[] clock), fun ty => ?_, ⟨.map [], ⟨#[], clock, Go.ChangeMaps.heap_setBlock_same hb _, ⟨by simp, Go.MapKept.stamped_empty clock, by simp⟩, Nat.le_refl _, rfl⟩, fun k _ z => rfl⟩, ?_⟩
 · simp [Builtin.clear_, Go.run_underlying ht, Go.MapKept.run_getObj_map hb, Go.MapKept.run_setObj_map _ hb, Result.andThen, Go.ChangeMaps.setBlock]
 · exact ⟨rfl, rfl, rfl, by simp [Go.ChangeMaps.setBlock], fun i _ hi => Go.ChangeMaps.heap_setBlock_other hb _ hi⟩
end
theorem zero_i (w : World) : (zeroValue 2).run Try.prog w = .ok (.int .i64 0) w := by kernel_rfl

end Go.Proofs.Ytghgfbncijfocaa

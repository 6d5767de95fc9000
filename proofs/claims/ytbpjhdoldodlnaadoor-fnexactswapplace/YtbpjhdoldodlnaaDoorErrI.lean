/-
  errors.Is and errors.As by contracts, at the program's own error, which wraps one of errors.New's make.
-/
import Derived.Test.YtbpjhdoldodlnaaDoorRingA
import Derived.WalkKit
import Derived.LaidEql
import Derived.Stop.Asserts
import Derived.RowKitTokens
namespace Go.Proofs.YtbpjhdoldodlnaaDoor
open Go.RowKit Go.Extern.Stop Go.Stop Go.Extern
set_option linter.unusedVariables false

theorem Tryd.eTypeOf (v : Value) (w : World) : (Extern.ReflectliteType.typeOf #[.iface 153 v]).run Tryd.prog w = .ok (.iface 128 (.agg #[.pointer (some ⟨8, 153, none⟩)])) w := by kernel_rfl
def compF : Array Value → Sem Value := Extern.ReflectliteType.method fun t => do Extern.Rtype.noPackHeld "Comparable" t; pure (.bool (← typeInfo t).comparable)
theorem Tryd.eComparable (w : World) : (compF #[.agg #[.pointer (some ⟨8, 153, none⟩)]]).run Tryd.prog w = .ok (.bool true) w := by kernel_rfl
theorem Tryd.eMethodComparable (v : Value) (w : World) : (Go.method 287 128 v "Comparable").run Tryd.prog w = .ok (140, v) w := by kernel_rfl
theorem Tryd.eComp : (Tryd.prog.info? 153).map (·.comparable) = some true := by kernel_rfl
theorem Tryd.eSize : (Tryd.prog.info? 175).map (·.size) = some 1 := by kernel_rfl
theorem Tryd.noIsS (v : Value) (xT : TypeId) (w : World) : (Instr.typeAssert (.iface 153 v) xT 130 true).run Tryd.prog w = .ok (.tuple #[.nilIface, .bool false]) w := run_typeAssert_lacksB Tryd.underlying130 (by kernel_rfl) (by kernel_rfl) v xT w
theorem Tryd.noUnwrapS (v : Value) (xT : TypeId) (w : World) : (Instr.typeAssert (.iface 153 v) xT 133 true).run Tryd.prog w = .ok (.tuple #[.nilIface, .bool false]) w := run_typeAssert_lacksB Tryd.underlying133 (by kernel_rfl) (by kernel_rfl) v xT w
theorem Tryd.noUnwrapsS (v : Value) (xT : TypeId) (w : World) : (Instr.typeAssert (.iface 153 v) xT 135 true).run Tryd.prog w = .ok (.tuple #[.nilIface, .bool false]) w := run_typeAssert_lacksB Tryd.underlying135 (by kernel_rfl) (by kernel_rfl) v xT w
theorem Tryd.noIsR (v : Value) (xT : TypeId) (w : World) : (Instr.typeAssert (.iface 94 v) xT 130 true).run Tryd.prog w = .ok (.tuple #[.nilIface, .bool false]) w := run_typeAssert_lacksB Tryd.underlying130 (by kernel_rfl) (by kernel_rfl) v xT w
theorem Tryd.hasUnwrapR (v : Value) (xT : TypeId) (w : World) : (Instr.typeAssert (.iface 94 v) xT 133 true).run Tryd.prog w = .ok (.tuple #[.iface 94 v, .bool true]) w := run_typeAssert_hasB Tryd.underlying133 (by kernel_rfl) v xT w
theorem Tryd.methodUnwrap (v : Value) (w : World) : (Go.method 287 94 v "Unwrap").run Tryd.prog w = .ok (134, v) w := by kernel_rfl

/-- errors.Is(nil, x). -/
theorem is_nil (b : Addr) (w : World) :
    Calls Tryd.prog 71 #[.nilIface, .iface 153 (.pointer (some b))] w fun e w' => e = .returned (.bool false) ∧ w' = w := by
  have hn := run_eql_iface_nil_left (P := Tryd.prog) w 153 (.pointer (some b)) Tryd.underlying71
  go_enter Tryd.func71, Tryd.ntmps71
  go_wp2
  go_ret
  exact ⟨rfl, rfl⟩

/-- errors.Is(e, x), e one of ours that wraps x itself. -/
theorem is_ours_same (pb : Nat) (b : Addr) (w : World) (h1 : w.cell? ⟨pb, 5, none⟩ = some (.iface 153 (.pointer (some b)))) :
    Calls Tryd.prog 71 #[.iface 94 (.pointer (some ⟨pb, 0, none⟩)), .iface 153 (.pointer (some b))] w fun e w' => e = .returned (.bool true) ∧ w' = w := by
  obtain ⟨i, hi, hcmp⟩ := Option.map_eq_some_iff.1 Tryd.eComp
  obtain ⟨j, hj, hjs⟩ := Option.map_eq_some_iff.1 Tryd.eSize
  have xT := @run_callFunc_extern Tryd.prog 85 _ (Extern.ReflectliteType.typeOf) Tryd.func85 (by kernel_rfl) (by kernel_rfl) (by kernel_rfl) (by kernel_rfl)
  have xC := @run_callFunc_extern Tryd.prog 140 _ (compF) Tryd.func140 (by kernel_rfl) (by kernel_rfl) (by kernel_rfl) (by kernel_rfl)
  have tT := Tryd.eTypeOf
  have cT := Tryd.eComparable
  have mR := Tryd.eMethodComparable
  have nE := Tryd.noIsS
  have uE := Tryd.noUnwrapS
  have vE := Tryd.noUnwrapsS
  have nW := Tryd.noIsR
  have uW := Tryd.hasUnwrapR
  have mU := Tryd.methodUnwrap
  have heq := run_eql_iface_ptr_same (P := Tryd.prog) w b Tryd.underlying71 Tryd.underlying153 hi hcmp hj
  have hty := run_eql_iface_types (P := Tryd.prog) 94 153 (.pointer (some ⟨pb, 0, none⟩)) (.pointer (some b)) Tryd.underlying71 (by decide) w
  go_enter Tryd.func71, Tryd.ntmps71
  go_wp2
  refine wp_loop_rounds 2 ?_
  rw [rounds_succ]
  go_wp2
  rw [rounds_succ]
  go_wp2
  go_ret
  exact ⟨rfl, rfl⟩

/-- errors.Is(e, x), e one of ours that wraps another error of errors.New's make. -/
theorem is_ours_other (pb : Nat) (b a : Addr) (ca cb : Array Value) (ta tb : TypeId) (w : World) (h1 : w.cell? ⟨pb, 5, none⟩ = some (.iface 153 (.pointer (some a)))) (hne : a ≠ b) (ha : w.heap[a.block]? = some (.cells ca ta (0, 0))) (hb : w.heap[b.block]? = some (.cells cb tb (0, 0))) :
    Calls Tryd.prog 71 #[.iface 94 (.pointer (some ⟨pb, 0, none⟩)), .iface 153 (.pointer (some b))] w fun e w' => e = .returned (.bool false) ∧ w' = w := by
  obtain ⟨i, hi, hcmp⟩ := Option.map_eq_some_iff.1 Tryd.eComp
  obtain ⟨j, hj, hjs⟩ := Option.map_eq_some_iff.1 Tryd.eSize
  have xT := @run_callFunc_extern Tryd.prog 85 _ (Extern.ReflectliteType.typeOf) Tryd.func85 (by kernel_rfl) (by kernel_rfl) (by kernel_rfl) (by kernel_rfl)
  have xC := @run_callFunc_extern Tryd.prog 140 _ (compF) Tryd.func140 (by kernel_rfl) (by kernel_rfl) (by kernel_rfl) (by kernel_rfl)
  have tT := Tryd.eTypeOf
  have cT := Tryd.eComparable
  have mR := Tryd.eMethodComparable
  have nE := Tryd.noIsS
  have uE := Tryd.noUnwrapS
  have vE := Tryd.noUnwrapsS
  have nW := Tryd.noIsR
  have uW := Tryd.hasUnwrapR
  have mU := Tryd.methodUnwrap
  have heq := run_eql_iface_ptr_other (P := Tryd.prog) w Tryd.underlying71 Tryd.underlying153 hi hcmp hj (by rw [hjs]; decide) hne ha hb
  have hty := run_eql_iface_types (P := Tryd.prog) 94 153 (.pointer (some ⟨pb, 0, none⟩)) (.pointer (some b)) Tryd.underlying71 (by decide) w
  go_enter Tryd.func71, Tryd.ntmps71
  go_wp2
  refine wp_loop_rounds 2 ?_
  rw [rounds_succ]
  go_wp2
  rw [rounds_succ]
  go_wp2
  go_ret
  exact ⟨rfl, rfl⟩

end Go.Proofs.YtbpjhdoldodlnaaDoor

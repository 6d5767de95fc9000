/-
  Closed facts on the listed variables of this program, and a world in which they are laid.
-/
import Derived.Test.YtbpjhdoldodlnaaDoorRowL
namespace Go.Proofs.YtbpjhdoldodlnaaDoor
open Go.RowKit Go.WideShapes Go.ChangeShapes
set_option linter.unusedVariables false

theorem gl_errClosed : Tryd.prog.globalNamed "loop.example/g00610/impl.errClosed" = some 0 := by kernel_rfl
theorem gt_errClosed : (Tryd.prog.globals[0]?).map (·.type) = some 71 := by kernel_rfl
theorem gl_errNoValue : Tryd.prog.globalNamed "loop.example/g00610/impl.errNoValue" = some 1 := by kernel_rfl
theorem gt_errNoValue : (Tryd.prog.globals[1]?).map (·.type) = some 71 := by kernel_rfl
theorem gl_errNoRing : Tryd.prog.globalNamed "loop.example/g00610/impl.errNoRing" = some 2 := by kernel_rfl
theorem gt_errNoRing : (Tryd.prog.globals[2]?).map (·.type) = some 71 := by kernel_rfl
theorem gl_errNotRight : Tryd.prog.globalNamed "loop.example/g00610/impl.errNotRight" = some 3 := by kernel_rfl
theorem gt_errNotRight : (Tryd.prog.globals[3]?).map (·.type) = some 71 := by kernel_rfl
theorem gl_errNoPlace : Tryd.prog.globalNamed "loop.example/g00610/impl.errNoPlace" = some 4 := by kernel_rfl
theorem gt_errNoPlace : (Tryd.prog.globals[4]?).map (·.type) = some 71 := by kernel_rfl
theorem gl_errNotSeen : Tryd.prog.globalNamed "loop.example/g00610/impl.errNotSeen" = some 5 := by kernel_rfl
theorem gt_errNotSeen : (Tryd.prog.globals[5]?).map (·.type) = some 71 := by kernel_rfl
theorem gl_errNotRightThen : Tryd.prog.globalNamed "loop.example/g00610/impl.errNotRightThen" = some 6 := by kernel_rfl
theorem gt_errNotRightThen : (Tryd.prog.globals[6]?).map (·.type) = some 71 := by kernel_rfl
theorem gl_type : Tryd.prog.globalNamed "errors.errorType" = some 7 := by kernel_rfl
theorem cells_es : Tryd.prog.cellsOf 175 = 1 := by kernel_rfl
theorem cells_str : Tryd.prog.cellsOf 9 = 1 := by kernel_rfl
theorem star_es : "*" ++ "errors.errorString" = "*errors.errorString" := by decide
theorem row_es (u : TypeId) (h : Tryd.prog.typeName? 3 u = some "*errors.errorString") : u = 153 :=
  typeName_ptr_named (nm := "errors.errorString") (by rw [star_es]; kernel_rfl) (by kernel_rfl) (by decide) u (by rw [star_es]; exact h)
theorem rt_row : (Tryd.prog.cutTypes.find? (·.1 == "internal/reflectlite.rtype")).map (·.2) = some 128 := by kernel_rfl
theorem one_row : ((List.range 187).filter fun t => Tryd.prog.rowNamed t [101, 114, 114, 111, 114]) = [71] := by kernel_rfl
theorem types_size : Tryd.prog.types.size = 187 := by kernel_rfl

/-- The variable errors.errorType's one cell. -/
theorem handle_of {W : World} (h : handlesMet Tryd.prog [("errors.errorType", Rows.laid_errors_errorType)] W) : W.cell? ⟨7, 0, none⟩ = some (.iface 128 (.agg #[.pointer (some ⟨8, 71, none⟩)])) := by
  obtain ⟨name, u, ty, e1, e2, e3, e4, e5⟩ := h _ (List.mem_singleton.2 rfl)
  have en : name = [101, 114, 114, 111, 114] := (Option.some.inj e1).symm
  subst en
  obtain rfl := Option.some.inj (rt_row.symm.trans e2)
  have hm : ty ∈ (List.range 187).filter fun t => Tryd.prog.rowNamed t [101, 114, 114, 111, 114] := List.mem_filter.2 ⟨List.mem_range.2 (by rw [← types_size]; exact e3), e4⟩
  rw [one_row] at hm
  obtain rfl := List.mem_singleton.1 hm
  have hh : typeHandle Tryd.prog 71 = .pointer (some ⟨8, 71, none⟩) := by kernel_rfl
  rw [hh] at e5
  simpa using World.var?_cell gl_type e5 0

noncomputable def low : Nat := (World.holding Tryd.prog default ⟨#[], #[], []⟩).heap.size
/-- A variable of one cell laid anew. -/
def layCell (v : Value) : Obj → Obj
  | .cells _ t frozen => .cells #[v] t frozen
  | o => o
/-- A world in which every listed variable holds what it should. -/
noncomputable def laidWorld (os : Os) : World :=
  let w0 := World.holding Tryd.prog os ⟨#[.cells #[.string { data := #[116, 104, 101, 32, 114, 105, 110, 103, 32, 105, 115, 32, 99, 108, 111, 115, 101, 100] }] 175, .cells #[.string { data := #[105, 116, 32, 105, 115, 32, 110, 111, 32, 118, 97, 108, 117, 101] }] 175, .cells #[.string { data := #[116, 104, 101, 114, 101, 32, 105, 115, 32, 110, 111, 32, 115, 117, 99, 104, 32, 114, 105, 110, 103] }] 175, .cells #[.string { data := #[116, 104, 101, 32, 115, 116, 111, 114, 101, 32, 105, 115, 32, 110, 111, 116, 32, 114, 105, 103, 104, 116] }] 175, .cells #[.string { data := #[116, 104, 101, 114, 101, 32, 105, 115, 32, 110, 111, 32, 115, 117, 99, 104, 32, 112, 108, 97, 99, 101] }] 175, .cells #[.string { data := #[105, 116, 32, 105, 115, 32, 110, 111, 116, 32, 119, 104, 97, 116, 32, 119, 97, 115, 32, 115, 101, 101, 110] }] 175, .cells #[.string { data := #[116, 104, 101, 32, 115, 116, 111, 114, 101, 32, 119, 111, 117, 108, 100, 32, 110, 111, 116, 32, 98, 101, 32, 114, 105, 103, 104, 116, 32, 116, 104, 101, 110] }] 175], #[], []⟩
  { w0 with heap := (((((((w0.heap.modify 0 (layCell (.iface 153 (.pointer (some ⟨low + 0, 0, none⟩))))).modify 1 (layCell (.iface 153 (.pointer (some ⟨low + 1, 0, none⟩))))).modify 2 (layCell (.iface 153 (.pointer (some ⟨low + 2, 0, none⟩))))).modify 3 (layCell (.iface 153 (.pointer (some ⟨low + 3, 0, none⟩))))).modify 4 (layCell (.iface 153 (.pointer (some ⟨low + 4, 0, none⟩))))).modify 5 (layCell (.iface 153 (.pointer (some ⟨low + 5, 0, none⟩))))).modify 6 (layCell (.iface 153 (.pointer (some ⟨low + 6, 0, none⟩))))).modify 7 (layCell (.iface 128 (.agg #[.pointer (some ⟨8, 71, none⟩)]))) }

end Go.Proofs.YtbpjhdoldodlnaaDoor

/-
  A hand as an argument, opened.
-/
import Derived.Test.YtomfaabifpndbaaGreatOpenL
import Derived.Test.YtomfaabifpndbaaGreatHand
namespace Go.Proofs.YtomfaabifpndbaaGreat
set_option linter.unusedSimpArgs false
set_option linter.unusedVariables false
open Go.ChangeShapes Go.WideShapes Go.ChangeAt Go.RowKit Go.Joins Go.Deep

section
variable {H : Type} {enc : TypeId × Value → H} {w : World} {base : Nat} {spare : Nat → Bool} {held : Bool} {P : Program}

/-- A struct's fields, of any size. -/
theorem open_fields {t : TypeId} {fs : Array Field} (hs : P.underlying t = some (.struct fs)) {fuel : Nat} {cs : List Value} {x : DataW H × List MemPlace}
    (h : DataW.trod enc P w base spare held fuel t cs = some x) : cs.length = P.cellsOf t ∧ ∃ n, ∀ (j : Nat) (f : Field) (o k : Nat) (us : List Value), fs[j]? = some f → f.offset = o → P.cellsOf f.type = k → (cs.drop o).take k = us → ∃ y, DataW.trod enc P w base spare held n f.type us = some y := by
  obtain ⟨xs, n, _, _, hl, hxl, hf⟩ := DataW.trod_struct hs h
  refine ⟨hl, n, fun j f o k us hj ho hk hu => ?_⟩
  have h1 := hf j f hj
  rw [ho, hk, hu] at h1
  have hjl : j < fs.size := (Array.getElem?_eq_some_iff.1 hj).1
  exact ⟨xs[j]'(by omega), by rw [h1]; exact List.getElem?_eq_getElem (by omega)⟩

theorem trod_hand {fuel : Nat} {cs : List Value} {x : DataW H × List MemPlace} (h : DataW.trod enc Tryz.prog w base spare held fuel 105 cs = some x) : ∃ h : Hd, cs = [.int .i64 h.at_, .int .i64 h.v, .int .i64 h.r, .int .i64 h.t, .bool h.seen.s, .int .i64 h.seen.n, .bool h.seen.f, .int .i64 h.seen.v, .int .i64 h.tr, .int .i64 h.sp, .bool h.ag, .int .i64 h.re] := by
  obtain ⟨hl, n, hf⟩ := open_fields Tryz.underlying105 h
  rw [show Tryz.prog.cellsOf 105 = 12 by kernel_rfl] at hl
  match cs, hl with
  | [c0, c1, c2, c3, c4, c5, c6, c7, c8, c9, c10, c11], _ =>
    obtain ⟨y0, h0⟩ := hf 0 _ 0 1 [c0] rfl rfl (by kernel_rfl) rfl
    obtain ⟨y1, h1⟩ := hf 1 _ 1 1 [c1] rfl rfl (by kernel_rfl) rfl
    obtain ⟨y2, h2⟩ := hf 2 _ 2 1 [c2] rfl rfl (by kernel_rfl) rfl
    obtain ⟨y3, h3⟩ := hf 3 _ 3 1 [c3] rfl rfl (by kernel_rfl) rfl
    obtain ⟨y4, h4⟩ := hf 4 _ 4 4 [c4, c5, c6, c7] rfl rfl (by kernel_rfl) rfl
    obtain ⟨y5, h5⟩ := hf 5 _ 8 1 [c8] rfl rfl (by kernel_rfl) rfl
    obtain ⟨y6, h6⟩ := hf 6 _ 9 1 [c9] rfl rfl (by kernel_rfl) rfl
    obtain ⟨y7, h7⟩ := hf 7 _ 10 1 [c10] rfl rfl (by kernel_rfl) rfl
    obtain ⟨y8, h8⟩ := hf 8 _ 11 1 [c11] rfl rfl (by kernel_rfl) rfl
    obtain ⟨z0, e0, _, _⟩ := DataW.trod_int Tryz.underlying2 h0
    obtain ⟨z1, e1, _, _⟩ := DataW.trod_int Tryz.underlying2 h1
    obtain ⟨z2, e2, _, _⟩ := DataW.trod_int Tryz.underlying2 h2
    obtain ⟨z3, e3, _, _⟩ := DataW.trod_int Tryz.underlying2 h3
    obtain ⟨z4, e4⟩ := trod_place h4
    obtain ⟨z5, e5, _, _⟩ := DataW.trod_int Tryz.underlying2 h5
    obtain ⟨z6, e6, _, _⟩ := DataW.trod_int Tryz.underlying2 h6
    obtain ⟨z7, e7, _⟩ := DataW.trod_bool Tryz.underlying4 h7
    obtain ⟨z8, e8, _, _⟩ := DataW.trod_int Tryz.underlying2 h8
    simp only [List.cons.injEq, and_true, Pl.cs] at e0 e1 e2 e3 e4 e5 e6 e7 e8
    obtain ⟨f0, f1, f2, f3⟩ := e4
    exact ⟨⟨z0, z1, z2, z3, z4, z5, z6, z7, z8⟩, by rw [e0, e1, e2, e3, f0, f1, f2, f3, e5, e6, e7, e8]⟩

set_option maxRecDepth 100000 in
theorem open_hand {b0 : Nat} {v : Value} {d : DataW H} {p : List MemPlace} (hv : Value.okWide Tryz.prog w .any b0 105 v) (h : DataW.Trod enc Tryz.prog w base spare held 105 v d p) :
    ∃ h : Hd, v = hdV h := by
  obtain ⟨cs, rfl, _⟩ := okWide_struct Tryz.underlying105 hv
  obtain ⟨fuel, hf⟩ := h
  obtain ⟨h, hc⟩ := trod_hand hf
  refine ⟨h, ?_⟩
  have : cs = #[.int .i64 h.at_, .int .i64 h.v, .int .i64 h.r, .int .i64 h.t, .bool h.seen.s, .int .i64 h.seen.n, .bool h.seen.f, .int .i64 h.seen.v, .int .i64 h.tr, .int .i64 h.sp, .bool h.ag, .int .i64 h.re] := by
    apply Array.toList_inj.1
    simpa [Value.cells] using hc
  rw [this]; rfl

end

end Go.Proofs.YtomfaabifpndbaaGreat

/-
  A store as an argument, opened.
-/
import Derived.Test.YtomfaabifpndbaaGreatOpenL
import Derived.Test.YtomfaabifpndbaaGreatLawA
namespace Go.Proofs.YtomfaabifpndbaaGreat
set_option linter.unusedSimpArgs false
set_option linter.unusedVariables false
open Go.ChangeShapes Go.WideShapes Go.ChangeAt Go.RowKit Go.Joins Go.Deep

section
variable {H : Type} {enc : TypeId × Value → H} {w : World} {base : Nat} {spare : Nat → Bool} {held : Bool}

theorem trod_rings {fuel : Nat} {cs : List Value} {x : DataW H × List MemPlace} (h : DataW.trod enc Tryz.prog w base spare held fuel 39 cs = some x) :
    ∃ (A : Option Addr) (n cap : Nat) (L : List Rg), cs = [.slice A n cap] ∧ n ≤ maxLen ∧ RgsR 0 w A n L :=
  open_list RgE Tryz.underlying39 (by kernel_rfl) (by omega) (fun fuel cs x b o ht hc => by
    obtain ⟨h, t, c, x, A, n, cap, l, rfl, hn, hp⟩ := trod_ring ht
    exact ⟨⟨h, t, c, x, l⟩, A, n, cap, by simpa using hc 0 _ rfl, hc 1 _ rfl, hc 2 _ rfl, hc 3 _ rfl, hc 4 _ rfl, hn, hp⟩) h

theorem trod_store {fuel : Nat} {cs : List Value} {x : DataW H × List MemPlace} (h : DataW.trod enc Tryz.prog w base spare held fuel 41 cs = some x) :
    ∃ (s : St) (A : Option Addr) (n cap : Nat), cs = [.int .i64 s.rd, .int .i64 s.mo, .slice A n cap, .int .i64 s.fi, .int .i64 s.la] ∧ n ≤ maxLen ∧ RgsR 0 w A n s.rs := by
  obtain ⟨hl, n, hf⟩ := open_cells Tryz.underlying41 (by kernel_rfl) (by kernel_rfl) h
  match cs, hl with
  | [c0, c1, c2, c3, c4], _ =>
    obtain ⟨y0, h0⟩ := hf 0 _ c0 rfl rfl
    obtain ⟨y1, h1⟩ := hf 1 _ c1 rfl rfl
    obtain ⟨y2, h2⟩ := hf 2 _ c2 rfl rfl
    obtain ⟨y3, h3⟩ := hf 3 _ c3 rfl rfl
    obtain ⟨y4, h4⟩ := hf 4 _ c4 rfl rfl
    obtain ⟨a, e0, _, _⟩ := DataW.trod_int Tryz.underlying2 h0
    obtain ⟨b, e1, _, _⟩ := DataW.trod_int Tryz.underlying2 h1
    obtain ⟨A, m, cap, L, e2, hm, hp⟩ := trod_rings h2
    obtain ⟨c, e3, _, _⟩ := DataW.trod_int Tryz.underlying2 h3
    obtain ⟨d, e4, _, _⟩ := DataW.trod_int Tryz.underlying2 h4
    simp at e0 e1 e2 e3 e4
    exact ⟨⟨a, b, L, c, d⟩, A, m, cap, by rw [e0, e1, e2, e3, e4], hm, hp⟩

set_option maxRecDepth 100000 in
theorem open_store {b0 : Nat} {v : Value} {d : DataW H} {p : List MemPlace} (hv : Value.okWide Tryz.prog w .any b0 41 v) (h : DataW.Trod enc Tryz.prog w base spare held 41 v d p) :
    ∃ (s : St) (A : Option Addr) (n cap : Nat), v = stV s A n cap ∧ n ≤ maxLen ∧ RgsR 0 w A n s.rs := by
  obtain ⟨cs, rfl, _⟩ := okWide_struct Tryz.underlying41 hv
  obtain ⟨fuel, hf⟩ := h
  obtain ⟨s, A, n, cap, hc, hn, hp⟩ := trod_store hf
  refine ⟨s, A, n, cap, ?_, hn, hp⟩
  have : cs = #[.int .i64 s.rd, .int .i64 s.mo, .slice A n cap, .int .i64 s.fi, .int .i64 s.la] := by
    apply Array.toList_inj.1
    simpa [Value.cells] using hc
  rw [this]; rfl

end

end Go.Proofs.YtomfaabifpndbaaGreat

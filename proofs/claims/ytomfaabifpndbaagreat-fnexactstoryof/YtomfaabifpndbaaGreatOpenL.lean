/-
  Arguments with depth, opened: a slice of elements of any shape as a list; places and rings.
-/
import Derived.Test.YtomfaabifpndbaaGreatRingB
import Derived.Test.YtomfaabifpndbaaGreatOpenG
namespace Go.Proofs.YtomfaabifpndbaaGreat
set_option linter.unusedSimpArgs false
set_option linter.unusedVariables false
open Go.ChangeShapes Go.WideShapes Go.ChangeAt Go.RowKit Go.Joins Go.Deep

section
variable {H : Type} {enc : TypeId × Value → H} {w : World} {base : Nat} {spare : Nat → Bool} {held : Bool}

theorem trod_place {fuel : Nat} {cs : List Value} {x : DataW H × List MemPlace} (h : DataW.trod enc Tryz.prog w base spare held fuel 103 cs = some x) : ∃ p : Pl, cs = p.cs := by
  obtain ⟨hl, n, hf⟩ := open_cells Tryz.underlying103 (by kernel_rfl) (by kernel_rfl) h
  match cs, hl with
  | [c0, c1, c2, c3], _ =>
    obtain ⟨y0, h0⟩ := hf 0 _ c0 rfl rfl
    obtain ⟨y1, h1⟩ := hf 1 _ c1 rfl rfl
    obtain ⟨y2, h2⟩ := hf 2 _ c2 rfl rfl
    obtain ⟨y3, h3⟩ := hf 3 _ c3 rfl rfl
    obtain ⟨a, e0, _⟩ := DataW.trod_bool Tryz.underlying4 h0
    obtain ⟨b, e1, _, _⟩ := DataW.trod_int Tryz.underlying2 h1
    obtain ⟨c, e2, _⟩ := DataW.trod_bool Tryz.underlying4 h2
    obtain ⟨d, e3, _, _⟩ := DataW.trod_int Tryz.underlying2 h3
    simp at e0 e1 e2 e3
    exact ⟨⟨a, b, c, d⟩, by rw [e0, e1, e2, e3]; rfl⟩

theorem trod_places {fuel : Nat} {cs : List Value} {x : DataW H × List MemPlace} (h : DataW.trod enc Tryz.prog w base spare held fuel 129 cs = some x) :
    ∃ (A : Option Addr) (n cap : Nat) (l : List Pl), cs = [.slice A n cap] ∧ n ≤ maxLen ∧ PlsR 0 w A n l :=
  open_list PlE Tryz.underlying129 (by kernel_rfl) (by omega) (fun fuel cs x b o ht hc => by
    obtain ⟨p, rfl⟩ := trod_place ht
    exact ⟨p, PlE.of_cells hc⟩) h

/-- A ring's cells. -/
theorem trod_ring {fuel : Nat} {cs : List Value} {x : DataW H × List MemPlace} (h : DataW.trod enc Tryz.prog w base spare held fuel 131 cs = some x) :
    ∃ (h t : Int) (c : Bool) (x : Int) (A : Option Addr) (n cap : Nat) (l : List Pl), cs = [.int .i64 h, .int .i64 t, .bool c, .int .i64 x, .slice A n cap] ∧ n ≤ maxLen ∧ PlsR 0 w A n l := by
  obtain ⟨hl, n, hf⟩ := open_cells Tryz.underlying131 (by kernel_rfl) (by kernel_rfl) h
  match cs, hl with
  | [c0, c1, c2, c3, c4], _ =>
    obtain ⟨y0, h0⟩ := hf 0 _ c0 rfl rfl
    obtain ⟨y1, h1⟩ := hf 1 _ c1 rfl rfl
    obtain ⟨y2, h2⟩ := hf 2 _ c2 rfl rfl
    obtain ⟨y3, h3⟩ := hf 3 _ c3 rfl rfl
    obtain ⟨y4, h4⟩ := hf 4 _ c4 rfl rfl
    obtain ⟨a, e0, _, _⟩ := DataW.trod_int Tryz.underlying2 h0
    obtain ⟨b, e1, _, _⟩ := DataW.trod_int Tryz.underlying2 h1
    obtain ⟨c, e2, _⟩ := DataW.trod_bool Tryz.underlying4 h2
    obtain ⟨d, e3, _, _⟩ := DataW.trod_int Tryz.underlying2 h3
    obtain ⟨A, m, cap, l, e4, hm, hp⟩ := trod_places h4
    simp at e0 e1 e2 e3 e4
    exact ⟨a, b, c, d, A, m, cap, l, by rw [e0, e1, e2, e3, e4], hm, hp⟩

set_option maxRecDepth 100000 in
theorem open_ring {b0 : Nat} {v : Value} {d : DataW H} {p : List MemPlace} (hv : Value.okWide Tryz.prog w .any b0 131 v) (h : DataW.Trod enc Tryz.prog w base spare held 131 v d p) :
    ∃ (h t : Int) (c : Bool) (x : Int) (A : Option Addr) (n cap : Nat) (l : List Pl), v = rgV h t c x A n cap ∧ n ≤ maxLen ∧ PlsR 0 w A n l := by
  obtain ⟨cs, rfl, _⟩ := okWide_struct Tryz.underlying131 hv
  obtain ⟨fuel, hf⟩ := h
  obtain ⟨h, t, c, x, A, n, cap, l, hc, hn, hp⟩ := trod_ring hf
  refine ⟨h, t, c, x, A, n, cap, l, ?_, hn, hp⟩
  have : cs = #[.int .i64 h, .int .i64 t, .bool c, .int .i64 x, .slice A n cap] := by
    apply Array.toList_inj.1
    simpa [Value.cells] using hc
  rw [this]; rfl

end

end Go.Proofs.YtomfaabifpndbaaGreat

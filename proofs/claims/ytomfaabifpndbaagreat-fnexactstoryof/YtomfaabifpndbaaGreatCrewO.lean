/-
  A crew as an argument, opened.
-/
import Derived.Test.YtomfaabifpndbaaGreatCrewL
import Derived.Test.YtomfaabifpndbaaGreatOpenS
import Derived.Test.YtomfaabifpndbaaGreatHanO
namespace Go.Proofs.YtomfaabifpndbaaGreat
set_option linter.unusedSimpArgs false
set_option linter.unusedVariables false
open Go.ChangeShapes Go.WideShapes Go.ChangeAt Go.RowKit Go.Joins Go.Deep

section
variable {H : Type} {enc : TypeId × Value → H} {w : World} {base : Nat} {spare : Nat → Bool} {held : Bool}

theorem trod_hands {fuel : Nat} {cs : List Value} {x : DataW H × List MemPlace} (h : DataW.trod enc Tryz.prog w base spare held fuel 42 cs = some x) :
    ∃ (A : Option Addr) (n cap : Nat) (l : List Hd), cs = [.slice A n cap] ∧ n ≤ maxLen ∧ HdsR w A n l :=
  open_list HdE Tryz.underlying42 (by kernel_rfl) (by omega) (fun fuel cs x b o ht hc => by
    obtain ⟨p, rfl⟩ := trod_hand ht
    exact ⟨p, hc⟩) h

theorem trod_lists {fuel : Nat} {cs : List Value} {x : DataW H × List MemPlace} (h : DataW.trod enc Tryz.prog w base spare held fuel 22 cs = some x) :
    ∃ (A : Option Addr) (n cap : Nat) (L : List (List Int)), cs = [.slice A n cap] ∧ n ≤ maxLen ∧ LisR w A n L :=
  open_list LiE Tryz.underlying22 (by kernel_rfl) (by omega) (fun fuel cs x b o ht hc => by
    obtain ⟨A, n, cap, l, rfl, hn, hl⟩ := trod_ints ht
    exact ⟨l, A, n, cap, by simpa using hc 0 _ rfl, hn, hl⟩) h

theorem trod_crew {fuel : Nat} {cs : List Value} {x : DataW H × List MemPlace} (h : DataW.trod enc Tryz.prog w base spare held fuel 45 cs = some x) :
    ∃ (c : Cr) (y : CrL), cs = crCs c y ∧ CrMx y ∧ CrR w c y := by
  obtain ⟨hl, n, hf⟩ := open_fields Tryz.underlying45 h
  rw [show Tryz.prog.cellsOf 45 = 10 by kernel_rfl] at hl
  match cs, hl with
  | [c0, c1, c2, c3, c4, c5, c6, c7, c8, c9], _ =>
    obtain ⟨y0, h0⟩ := hf 0 _ 0 5 [c0, c1, c2, c3, c4] rfl rfl (by kernel_rfl) rfl
    obtain ⟨y1, h1⟩ := hf 1 _ 5 1 [c5] rfl rfl (by kernel_rfl) rfl
    obtain ⟨y2, h2⟩ := hf 2 _ 6 1 [c6] rfl rfl (by kernel_rfl) rfl
    obtain ⟨y3, h3⟩ := hf 3 _ 7 1 [c7] rfl rfl (by kernel_rfl) rfl
    obtain ⟨y4, h4⟩ := hf 4 _ 8 1 [c8] rfl rfl (by kernel_rfl) rfl
    obtain ⟨y5, h5⟩ := hf 5 _ 9 1 [c9] rfl rfl (by kernel_rfl) rfl
    obtain ⟨s, sA, sN, sK, e0, m0, r0⟩ := trod_store h0
    obtain ⟨hA, hN, hK, hs, e1, m1, r1⟩ := trod_hands h1
    obtain ⟨jA, jN, jK, js, e2, m2, r2⟩ := trod_lists h2
    obtain ⟨bA, bN, bK, bs, e3, m3, r3⟩ := trod_ints h3
    obtain ⟨ck, e4, _, _⟩ := DataW.trod_int Tryz.underlying2 h4
    obtain ⟨eA, eN, eK, es, e5, m5, r5⟩ := trod_events h5
    simp only [List.cons.injEq, and_true] at e0 e1 e2 e3 e4 e5
    obtain ⟨f0, f1, f2, f3, f4⟩ := e0
    exact ⟨⟨s, hs, js, bs, ck, es⟩, ⟨⟨sA, sN, sK⟩, ⟨hA, hN, hK⟩, ⟨jA, jN, jK⟩, ⟨bA, bN, bK⟩, ⟨eA, eN, eK⟩⟩, by rw [f0, f1, f2, f3, f4, e1, e2, e3, e4, e5]; rfl, ⟨m0, m1, m2, m3, m5⟩, ⟨r0, r1, r2, r3, r5⟩⟩

set_option maxRecDepth 100000 in
theorem open_crew {b0 : Nat} {v : Value} {d : DataW H} {p : List MemPlace} (hv : Value.okWide Tryz.prog w .any b0 45 v) (h : DataW.Trod enc Tryz.prog w base spare held 45 v d p) :
    ∃ (c : Cr) (y : CrL), v = crV c y ∧ CrMx y ∧ CrR w c y := by
  obtain ⟨cs, rfl, _⟩ := okWide_struct Tryz.underlying45 hv
  obtain ⟨fuel, hf⟩ := h
  obtain ⟨c, y, hc, hm, hr⟩ := trod_crew hf
  refine ⟨c, y, ?_, hm, hr⟩
  have : cs = (crCs c y).toArray := by
    apply Array.toList_inj.1
    simpa [Value.cells] using hc
  rw [this]; rfl

end

end Go.Proofs.YtomfaabifpndbaaGreat

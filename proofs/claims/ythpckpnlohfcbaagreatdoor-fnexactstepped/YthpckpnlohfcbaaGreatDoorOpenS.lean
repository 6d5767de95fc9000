/-
 What every row of this seat wants of the program.
-/
import Derived.Test.YthpckpnlohfcbaaGreatDoorChecked
import Derived.Test.YthpckpnlohfcbaaGreatDoorRows
import Derived.Test.YthpckpnlohfcbaaGreatDoorKit
import Derived.Test.YthpckpnlohfcbaaGreatDoorIntA
import Derived.Test.YthpckpnlohfcbaaGreatDoorRingD
import Derived.Test.YthpckpnlohfcbaaGreatDoorLawC
namespace Go.Proofs.YthpckpnlohfcbaaGreatDoor
set_option linter.unusedSimpArgs false
set_option linter.unusedVariables false
open Go.ChangeShapes Go.WideShapes Go.ChangeAt Go.RowKit Go.Joins
theorem own : ownKnob Tryz.prog.godebug = none := by kernel_rfl
theorem laidOut : laidOutB Tryz.prog = true := by kernel_rfl
end Go.Proofs.YthpckpnlohfcbaaGreatDoor
namespace Go.Proofs.YthpckpnlohfcbaaGreatDoor
set_option linter.unusedSimpArgs false
set_option linter.unusedVariables false
open Go.ChangeShapes Go.WideShapes Go.ChangeAt Go.RowKit Go.Joins Go.Deep
set_option linter.unusedVariables false
theorem exists_list {α : Type} {R : Nat → α → Prop} : ∀ n : Nat, (∀ i, i < n → ∃ x, R i x) → ∃ l : List α, l.length = n ∧ ∀ i x, l[i]? = some x → R i x
 | 0, _ => ⟨[], rfl, fun i x h => by simp at h⟩
 | n + 1, h => by
  obtain ⟨l, hl, hr⟩ := exists_list n fun i hi => h i (by omega)
  obtain ⟨y, hy⟩ := h n (by omega)
  refine ⟨l ++ [y], by simp [hl], fun i x hx => ?_⟩
  by_cases hi : i < n
  ·
   rw [List.getElem?_append_left (by omega)] at hx
   exact hr i x hx
  ·
   have hin : i < n + 1 := by
    have := (List.getElem?_eq_some_iff.1 hx).1
    simp [hl] at this; omega
   obtain rfl : i = n := by omega
   rw [List.getElem?_append_right (by omega), hl] at hx
   simp at hx
   subst hx
   exact hy
theorem add_addr (b o j : Nat) : (⟨b, o, none⟩ : Addr).add j = ⟨b, o + j, none⟩ := by
 by_cases h : j = 0
 · subst h; simp [Addr.add]
 · simp [Addr.add, h]
section
variable {H : Type} {enc : TypeId × Value → H} {P : Program} {w : World} {base : Nat} {spare : Nat → Bool} {held : Bool}
theorem open_list {α : Type} (E : Nat → World → Nat → Nat → α → Prop) {t e : TypeId} {k : Nat} (ht : P.underlying t = some (.slice e)) (hk : P.cellsOf e = k) (hk0 : 0 < k)
  (hE : ∀ fuel cs x b o, DataW.trod enc P w base spare held fuel e cs = some x → (∀ j u, cs[j]? = some u → w.cell? ⟨b, o + j, none⟩ = some u) → ∃ y : α, E 0 w b o y)
  {fuel : Nat} {cs : List Value} {x : DataW H × List MemPlace} (h : DataW.trod enc P w base spare held fuel t cs = some x) :
  ∃ (A : Option Addr) (n cap : Nat) (l : List α), cs = [.slice A n cap] ∧ n ≤ maxLen ∧ SlE E k 0 w A n l := by
 rcases open_slice ht h with ⟨rfl, _⟩ | ⟨a, len, cap, m, n, D, Pl, rfl, _, hl, hm, hmm, _, hi⟩
 · exact ⟨none, 0, 0, [], rfl, Nat.zero_le _, rfl, fun h => absurd h (by omega)⟩
 ·
  have hlm : len ≤ m := by rw [hmm]; split <;> omega
  rcases Nat.eq_zero_or_pos len with h0 | h0
  ·
   subst h0
   exact ⟨some a, 0, cap, [], rfl, Nat.zero_le _, rfl, fun h => absurd h (by omega)⟩
  ·
   obtain ⟨cs0, hc0, _⟩ := hi 0 (by omega)
   obtain ⟨_, hl0, hat0⟩ := World.cells?_some hc0
   obtain ⟨b, o, sp⟩ := a
   have h00 := hat0 0 (by omega)
   have hs0 : cs0[0]? = some (cs0[0]'(by omega)) := List.getElem?_eq_getElem (by omega)
   rw [hs0] at h00
   have hsp : sp = none := by simpa [Addr.add] using World.cell?_spot h00
   subst hsp
   obtain ⟨l, hll, hlr⟩ := exists_list (R := fun i y => E 0 w b (o + i * k) y) len (fun i hil => by
    obtain ⟨cs', hc, htr⟩ := hi i (by omega)
    rw [hk] at hc
    obtain ⟨_, hl', hat⟩ := World.cells?_some hc
    refine hE _ cs' _ b (o + i * k) htr fun j u hu => ?_
    have hj : j < k := by have := (List.getElem?_eq_some_iff.1 hu).1; omega
    have := hat j hj
    rw [hu, add_addr, add_addr] at this
    exact this)
   exact ⟨some ⟨b, o, none⟩, len, cap, l, rfl, by omega, hll, fun _ => ⟨b, o, rfl, Nat.zero_le _, hlr⟩⟩
theorem open_cells {t : TypeId} {fs : Array Field} (hs : P.underlying t = some (.struct fs)) (hone : oneCellFields P fs = true) (hC : P.cellsOf t = fs.size) {fuel : Nat} {cs : List Value} {x : DataW H × List MemPlace}
  (h : DataW.trod enc P w base spare held fuel t cs = some x) : cs.length = fs.size ∧ ∃ n, ∀ (j : Nat) (f : Field) (u : Value), fs[j]? = some f → cs[j]? = some u → ∃ y, DataW.trod enc P w base spare held n f.type [u] = some y := by
 obtain ⟨xs, n, _, _, hl, hxl, hf⟩ := DataW.trod_struct hs h
 rw [hC] at hl
 refine ⟨hl, n, fun j f u hj hu => ?_⟩
 obtain ⟨ho, hk⟩ := hone_of hone j f hj
 have hjl : j < fs.size := (Array.getElem?_eq_some_iff.1 hj).1
 have h1 := hf j f hj
 rw [ho, hk] at h1
 have hd : (cs.drop j).take 1 = [u] := by
  have hcl : j < cs.length := by omega
  rw [List.drop_eq_getElem_cons hcl]
  have : cs[j] = u := by
   have := List.getElem?_eq_getElem hcl
   rw [hu] at this
   injection this with this
   exact this.symm
  simp [this]
 rw [hd] at h1
 exact ⟨xs[j]'(by omega), by rw [h1]; exact List.getElem?_eq_getElem (by omega)⟩
end
section
variable {H : Type} {enc : TypeId × Value → H} {w : World} {base : Nat} {spare : Nat → Bool} {held : Bool}
end
end Go.Proofs.YthpckpnlohfcbaaGreatDoor
namespace Go.Proofs.YthpckpnlohfcbaaGreatDoor
set_option linter.unusedSimpArgs false
set_option linter.unusedVariables false
open Go.ChangeShapes Go.WideShapes Go.ChangeAt Go.RowKit Go.Joins Go.Deep
section
variable {H : Type} {enc : TypeId × Value → H} {w : World} {base : Nat} {spare : Nat → Bool} {held : Bool}
theorem trod_place {fuel : Nat} {cs : List Value} {x : DataW H × List MemPlace} (h : DataW.trod enc Tryz.prog w base spare held fuel 26 cs = some x) : ∃ p : Pl, cs = p.cs := by
 obtain ⟨hl, n, hf⟩ := open_cells Tryz.underlying26 (by kernel_rfl) (by kernel_rfl) h
 match cs, hl with
 | [c0, c1, c2, c3], _ =>
  obtain ⟨y0, h0⟩ := hf 0 _ c0 rfl rfl
  obtain ⟨y1, h1⟩ := hf 1 _ c1 rfl rfl
  obtain ⟨y2, h2⟩ := hf 2 _ c2 rfl rfl
  obtain ⟨y3, h3⟩ := hf 3 _ c3 rfl rfl
  obtain ⟨a, e0, _⟩ := DataW.trod_bool Tryz.underlying4 h0
  obtain ⟨b, e1, _, _⟩ := DataW.trod_int Tryz.underlying2 h1
  obtain ⟨c, e2, _⟩ := DataW.trod_bool Tryz.underlying4 h2
  obtain ⟨d, e3, _, _⟩ := DataW.trod_int Tryz.underlying2 h3
  simp at e0 e1 e2 e3
  exact ⟨⟨a, b, c, d⟩, by rw [e0, e1, e2, e3]; rfl⟩
theorem trod_places {fuel : Nat} {cs : List Value} {x : DataW H × List MemPlace} (h : DataW.trod enc Tryz.prog w base spare held fuel 72 cs = some x) :
  ∃ (A : Option Addr) (n cap : Nat) (l : List Pl), cs = [.slice A n cap] ∧ n ≤ maxLen ∧ PlsR 0 w A n l :=
 open_list PlE Tryz.underlying72 (by kernel_rfl) (by omega) (fun fuel cs x b o ht hc => by
  obtain ⟨p, rfl⟩ := trod_place ht
  exact ⟨p, PlE.of_cells hc⟩) h
theorem trod_ring {fuel : Nat} {cs : List Value} {x : DataW H × List MemPlace} (h : DataW.trod enc Tryz.prog w base spare held fuel 74 cs = some x) :
  ∃ (h t : Int) (c : Bool) (x : Int) (A : Option Addr) (n cap : Nat) (l : List Pl), cs = [.int .i64 h, .int .i64 t, .bool c, .int .i64 x, .slice A n cap] ∧ n ≤ maxLen ∧ PlsR 0 w A n l := by
 obtain ⟨hl, n, hf⟩ := open_cells Tryz.underlying74 (by kernel_rfl) (by kernel_rfl) h
 match cs, hl with
 | [c0, c1, c2, c3, c4], _ =>
  obtain ⟨y0, h0⟩ := hf 0 _ c0 rfl rfl
  obtain ⟨y1, h1⟩ := hf 1 _ c1 rfl rfl
  obtain ⟨y2, h2⟩ := hf 2 _ c2 rfl rfl
  obtain ⟨y3, h3⟩ := hf 3 _ c3 rfl rfl
  obtain ⟨y4, h4⟩ := hf 4 _ c4 rfl rfl
  obtain ⟨a, e0, _, _⟩ := DataW.trod_int Tryz.underlying2 h0
  obtain ⟨b, e1, _, _⟩ := DataW.trod_int Tryz.underlying2 h1
  obtain ⟨c, e2, _⟩ := DataW.trod_bool Tryz.underlying4 h2
  obtain ⟨d, e3, _, _⟩ := DataW.trod_int Tryz.underlying2 h3
  obtain ⟨A, m, cap, l, e4, hm, hp⟩ := trod_places h4
  simp at e0 e1 e2 e3 e4
  exact ⟨a, b, c, d, A, m, cap, l, by rw [e0, e1, e2, e3, e4], hm, hp⟩
end
end Go.Proofs.YthpckpnlohfcbaaGreatDoor
namespace Go.Proofs.YthpckpnlohfcbaaGreatDoor
set_option linter.unusedSimpArgs false
set_option linter.unusedVariables false
open Go.ChangeShapes Go.WideShapes Go.ChangeAt Go.RowKit Go.Joins Go.Deep
section
variable {H : Type} {enc : TypeId × Value → H} {w : World} {base : Nat} {spare : Nat → Bool} {held : Bool}
theorem trod_rings {fuel : Nat} {cs : List Value} {x : DataW H × List MemPlace} (h : DataW.trod enc Tryz.prog w base spare held fuel 22 cs = some x) :
  ∃ (A : Option Addr) (n cap : Nat) (L : List Rg), cs = [.slice A n cap] ∧ n ≤ maxLen ∧ RgsR 0 w A n L :=
 open_list RgE Tryz.underlying22 (by kernel_rfl) (by omega) (fun fuel cs x b o ht hc => by
  obtain ⟨h, t, c, x, A, n, cap, l, rfl, hn, hp⟩ := trod_ring ht
  exact ⟨⟨h, t, c, x, l⟩, A, n, cap, by simpa using hc 0 _ rfl, hc 1 _ rfl, hc 2 _ rfl, hc 3 _ rfl, hc 4 _ rfl, hn, hp⟩) h
theorem trod_store {fuel : Nat} {cs : List Value} {x : DataW H × List MemPlace} (h : DataW.trod enc Tryz.prog w base spare held fuel 24 cs = some x) :
  ∃ (s : St) (A : Option Addr) (n cap : Nat), cs = (aS s A n cap) ∧ n ≤ maxLen ∧ RgsR 0 w A n s.rs := by
 obtain ⟨hl, n, hf⟩ := open_cells Tryz.underlying24 (by kernel_rfl) (by kernel_rfl) h
 match cs, hl with
 | [c0, c1, c2, c3, c4], _ =>
  obtain ⟨y0, h0⟩ := hf 0 _ c0 rfl rfl
  obtain ⟨y1, h1⟩ := hf 1 _ c1 rfl rfl
  obtain ⟨y2, h2⟩ := hf 2 _ c2 rfl rfl
  obtain ⟨y3, h3⟩ := hf 3 _ c3 rfl rfl
  obtain ⟨y4, h4⟩ := hf 4 _ c4 rfl rfl
  obtain ⟨a, e0, _, _⟩ := DataW.trod_int Tryz.underlying2 h0
  obtain ⟨b, e1, _, _⟩ := DataW.trod_int Tryz.underlying2 h1
  obtain ⟨A, m, cap, L, e2, hm, hp⟩ := trod_rings h2
  obtain ⟨c, e3, _, _⟩ := DataW.trod_int Tryz.underlying2 h3
  obtain ⟨d, e4, _, _⟩ := DataW.trod_int Tryz.underlying2 h4
  simp at e0 e1 e2 e3 e4
  exact ⟨⟨a, b, L, c, d⟩, A, m, cap, by rw [e0, e1, e2, e3, e4], hm, hp⟩
set_option maxRecDepth 100000 in
theorem open_store {b0 : Nat} {v : Value} {d : DataW H} {p : List MemPlace} (hv : Value.okWide Tryz.prog w .any b0 24 v) (h : DataW.Trod enc Tryz.prog w base spare held 24 v d p) :
  ∃ (s : St) (A : Option Addr) (n cap : Nat), v = stV s A n cap ∧ n ≤ maxLen ∧ RgsR 0 w A n s.rs := by
 obtain ⟨cs, rfl, _⟩ := okWide_struct Tryz.underlying24 hv
 obtain ⟨fuel, hf⟩ := h
 obtain ⟨s, A, n, cap, hc, hn, hp⟩ := trod_store hf
 refine ⟨s, A, n, cap, ?_, hn, hp⟩
 have : cs = (aS s A n cap) := by
  apply Array.toList_inj.1
  simpa [Value.cells] using hc
 rw [this]; rfl
end
end Go.Proofs.YthpckpnlohfcbaaGreatDoor

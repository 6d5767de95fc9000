/-
 Rings in a slice of the program's own: read, kept, written.
-/
import Derived.Test.YthpckpnlohfcbaaGreatDoorModel
import Derived.Test.YthpckpnlohfcbaaGreatDoorSli
namespace Go.Proofs.YthpckpnlohfcbaaGreatDoor
set_option linter.unusedSimpArgs false
set_option linter.unusedVariables false
open Go.RowKit
def PlsW (lo hi : Nat) (w : World) (A : Option Addr) (n cap : Nat) (l : List Pl) : Prop :=
 l.length = n ∧ (0 < n → ∃ b, A = some ⟨b, 0, none⟩ ∧ b < hi ∧ PlsO lo w b n cap l)
theorem PlsW.keep {lo hi : Nat} {w w' : World} {A : Option Addr} {n cap : Nat} {l : List Pl} (h : PlsW lo hi w A n cap l) (hs : SameIn lo hi w w') : PlsW lo hi w' A n cap l :=
 ⟨h.1, fun hn => by obtain ⟨b, e, hb, ho⟩ := h.2 hn; exact ⟨b, e, hb, Own.keep ho (hs b ho.ge hb)⟩⟩
theorem PlsW.mono {lo hi lo' hi' : Nat} {w : World} {A : Option Addr} {n cap : Nat} {l : List Pl} (h : PlsW lo hi w A n cap l) (h1 : lo' ≤ lo) (h2 : hi ≤ hi') : PlsW lo' hi' w A n cap l :=
 ⟨h.1, fun hn => by obtain ⟨b, e, hb, ho⟩ := h.2 hn; exact ⟨b, e, by omega, ho.mono h1⟩⟩
theorem PlsW.cut {lo hi : Nat} {w : World} {A : Option Addr} {n cap : Nat} {l : List Pl} (h : PlsW lo hi w A n cap l) : PlsW lo w.heap.size w A n cap l :=
 ⟨h.1, fun hn => by obtain ⟨b, e, hb, ho⟩ := h.2 hn; exact ⟨b, e, Own.lt ho, ho⟩⟩
theorem PlsW.r {lo hi : Nat} {w : World} {A : Option Addr} {n cap : Nat} {l : List Pl} (h : PlsW lo hi w A n cap l) : PlsR 0 w A n l :=
 ⟨h.1, fun hn => by obtain ⟨b, rfl, hb, ho⟩ := h.2 hn; exact (ho.r.mono (Nat.zero_le _)).2 hn⟩
theorem PlsO.w {lo hi : Nat} {w : World} {b n cap : Nat} {l : List Pl} (h : PlsO lo w b n cap l) (hb : b < hi) : PlsW lo hi w (some ⟨b, 0, none⟩) n cap l := ⟨h.1, fun _ => ⟨b, rfl, hb, h⟩⟩
structure Rw where
 h : Int
 t : Int
 c : Bool
 x : Int
 A : Option Addr
 n : Nat
 cap : Nat
def Rw.cs (r : Rw) : List Value := [r.h, r.t, r.c, r.x, .slice r.A r.n r.cap]
theorem Rw.cs_len (r : Rw) : r.cs.length = 5 := rfl
def Rw.is (lo hi : Nat) (w : World) (a : Rw) (r : Rg) : Prop := a.h = r.h ∧ a.t = r.t ∧ a.c = r.c ∧ a.x = r.x ∧ PlsW lo hi w a.A a.n a.cap r.ps
theorem Rw.is.keep {lo hi : Nat} {w w' : World} {a : Rw} {r : Rg} (h : a.is lo hi w r) (hs : SameIn lo hi w w') : a.is lo hi w' r := ⟨h.1, h.2.1, h.2.2.1, h.2.2.2.1, h.2.2.2.2.keep hs⟩
theorem Rw.is.mono {lo hi lo' hi' : Nat} {w : World} {a : Rw} {r : Rg} (h : a.is lo hi w r) (h1 : lo' ≤ lo) (h2 : hi ≤ hi') : a.is lo' hi' w r := ⟨h.1, h.2.1, h.2.2.1, h.2.2.2.1, h.2.2.2.2.mono h1 h2⟩
theorem Rw.is.cut {lo hi : Nat} {w : World} {a : Rw} {r : Rg} (h : a.is lo hi w r) : a.is lo w.heap.size w r := ⟨h.1, h.2.1, h.2.2.1, h.2.2.2.1, h.2.2.2.2.cut⟩
def RwsO (lo : Nat) (w : World) (b n cap : Nat) (rows : List Rw) : Prop := Own Rw.cs 5 79 lo w b n cap rows
def AllIs (lo hi : Nat) (w : World) (rows : List Rw) (L : List Rg) : Prop := ∀ (i : Nat) (a : Rw), rows[i]? = some a → ∃ r, L[i]? = some r ∧ a.is lo hi w r
def RgsW (lo hi : Nat) (w : World) (A : Option Addr) (n cap : Nat) (L : List Rg) : Prop :=
 L.length = n ∧ (0 < n → ∃ b rows, A = some ⟨b, 0, none⟩ ∧ b < hi ∧ RwsO lo w b n cap rows ∧ AllIs lo hi w rows L)
section
variable {lo hi lo' hi' : Nat} {w w' : World} {A : Option Addr} {n cap : Nat} {L : List Rg}
theorem RgsW.keep (h : RgsW lo hi w A n cap L) (hs : SameIn lo hi w w') : RgsW lo hi w' A n cap L :=
 ⟨h.1, fun hn => by
  obtain ⟨b, rows, e, hb, ho, hi⟩ := h.2 hn
  exact ⟨b, rows, e, hb, Own.keep ho (hs b ho.2.1 hb), fun i a ha => by obtain ⟨r, hr, his⟩ := hi i a ha; exact ⟨r, hr, his.keep hs⟩⟩⟩
theorem RgsW.below (h : RgsW lo hi w A n cap L) (hb : Below w.heap.size w w') (hh : hi ≤ w.heap.size) : RgsW lo hi w' A n cap L := h.keep (.below hb hh)
theorem RgsW.mono (h : RgsW lo hi w A n cap L) (h1 : lo' ≤ lo) (h2 : hi ≤ hi') : RgsW lo' hi' w A n cap L :=
 ⟨h.1, fun hn => by
  obtain ⟨b, rows, e, hb, ho, hi⟩ := h.2 hn
  exact ⟨b, rows, e, by omega, Own.mono ho h1, fun i a ha => by obtain ⟨r, hr, his⟩ := hi i a ha; exact ⟨r, hr, his.mono h1 h2⟩⟩⟩
theorem RgsW.cut (h : RgsW lo hi w A n cap L) : RgsW lo w.heap.size w A n cap L :=
 ⟨h.1, fun hn => by
  obtain ⟨b, rows, e, hb, ho, hi⟩ := h.2 hn
  exact ⟨b, rows, e, Own.lt ho, ho, fun i a ha => by obtain ⟨r, hr, his⟩ := hi i a ha; exact ⟨r, hr, his.cut⟩⟩⟩
theorem RgsW.nil : RgsW lo hi w none 0 0 [] := ⟨rfl, fun h => absurd h (by omega)⟩
theorem RgsW.at_ (h : RgsW lo hi w A n cap L) {i : Nat} (hin : i < n) : ∃ (b : Nat) (r : Rg) (A' : Option Addr) (n' cap' : Nat), A = some ⟨b, 0, none⟩ ∧ lo ≤ b ∧ b < hi ∧ L[i]? = some r ∧
  w.cell? ⟨b, i * 5, none⟩ = some (.int .i64 r.h) ∧ w.cell? ⟨b, i * 5 + 1, none⟩ = some (.int .i64 r.t) ∧ w.cell? ⟨b, i * 5 + 2, none⟩ = some (.bool r.c) ∧ w.cell? ⟨b, i * 5 + 3, none⟩ = some (.int .i64 r.x) ∧
  w.cell? ⟨b, i * 5 + 4, none⟩ = some (.slice A' n' cap') ∧ PlsW lo hi w A' n' cap' r.ps := by
 obtain ⟨b, rows, e, hb, ho, hi⟩ := h.2 (by omega)
 have hl : i < rows.length := by have := ho.1; omega
 have hx : rows[i]? = some rows[i] := List.getElem?_eq_getElem hl
 obtain ⟨r, hr, e0, e1, e2, e3, hp⟩ := hi i _ hx
 have d0 := Own.cell_ Rw.cs_len ho (j := 0) hx rfl
 have d1 := Own.cell_ Rw.cs_len ho (j := 1) hx rfl
 have d2 := Own.cell_ Rw.cs_len ho (j := 2) hx rfl
 have d3 := Own.cell_ Rw.cs_len ho (j := 3) hx rfl
 have d4 := Own.cell_ Rw.cs_len ho (j := 4) hx rfl
 rw [e0] at d0
 rw [e1] at d1
 rw [e2] at d2
 rw [e3] at d3
 exact ⟨b, r, rows[i].A, rows[i].n, rows[i].cap, e, ho.2.1, hb, hr, d0, d1, d2, d3, d4, hp⟩
end
def stV (s : St) (A : Option Addr) (n cap : Nat) : Value := .agg (aS s A n cap)
end Go.Proofs.YthpckpnlohfcbaaGreatDoor

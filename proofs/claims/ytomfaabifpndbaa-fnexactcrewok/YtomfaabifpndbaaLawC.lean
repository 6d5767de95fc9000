/-
  Stores as the laws mark them and look at the marks.
-/
import Derived.Test.YtomfaabifpndbaaLawB
namespace Go.Proofs.Ytomfaabifpndbaa
set_option linter.unusedSimpArgs false
set_option linter.unusedVariables false
open Go.RowKit
attribute [local go_sem ↓] Go.wp_at_zero Go.wp_at_succ

/-- What the laws write into a ring, and into rings one behind the other. -/
def markRg (k : Int) (r : Rg) : Rg := ⟨k, k + 1, (k + 1 + 1) % 3 == 0, k + 1 + 1 + 1, marks (k + 1 + 1 + 1 + 1) r.ps.length⟩
def markAt (k : Int) (L : List Rg) (i : Nat) : Int := k + 4 * i + 4 * sumPs (L.take i)
def markRgs (k : Int) (L : List Rg) : List Rg := (List.range L.length).map fun i => markRg (markAt k L i) (L.getD i ⟨0, 0, false, 0, []⟩)
theorem markRgs_len (k : Int) (L : List Rg) : (markRgs k L).length = L.length := by simp [markRgs]
theorem markRgs_at (k : Int) {L : List Rg} {i : Nat} {r : Rg} (h : L[i]? = some r) : (markRgs k L)[i]? = some (markRg (markAt k L i) r) := by
  obtain ⟨hi, e⟩ := List.getElem?_eq_some_iff.1 h
  simp [markRgs, hi, e]
theorem sumPs_append : ∀ (L M : List Rg), sumPs (L ++ M) = sumPs L + sumPs M
  | [], M => by simp [sumPs]
  | r :: L, M => by simp only [List.cons_append, sumPs, sumPs_append L M]; omega
theorem sumPs_take {L : List Rg} {i : Nat} {r : Rg} (h : L[i]? = some r) : sumPs (L.take (i + 1)) = sumPs (L.take i) + r.ps.length := by
  rw [List.take_add_one, h, sumPs_append]
  simp [sumPs]
theorem sumPs_take_le (L : List Rg) (i : Nat) : sumPs (L.take i) ≤ sumPs L := by
  conv => rhs; rw [← List.take_append_drop i L]
  rw [sumPs_append]; omega
theorem markAt_succ {k : Int} {L : List Rg} {i : Nat} {r : Rg} (h : L[i]? = some r) : markAt k L (i + 1) = markAt k L i + 1 + 1 + 1 + 1 + 4 * r.ps.length := by
  unfold markAt; rw [sumPs_take h]; omega
theorem markAt_le {k : Int} {L : List Rg} {i : Nat} (h : i ≤ L.length) : k ≤ markAt k L i ∧ markAt k L i ≤ k + 4 * L.length + 4 * sumPs L := by
  have := sumPs_take_le L i
  unfold markAt; omega
def markEnd (k : Int) (L : List Rg) : Int := k + 4 * L.length + 4 * sumPs L
theorem markAt_end {k : Int} {L : List Rg} : markAt k L L.length = markEnd k L := by simp [markAt, markEnd]

/-- What markRingS does. -/
def MarkedS (k : Int) (L : List Rg) (lo hi : Nat) (A : Option Addr) (n cap : Nat) (w : World) (e : Ending) (w' : World) : Prop :=
  e = .returned (.int .i64 (markEnd k L)) ∧ ButIn lo hi w w' ∧ RgsD lo hi w' A n cap (markRgs k L)

theorem set4 {lo : Nat} {w : World} {b n cap i : Nat} {rows : List Rw} {a : Rw} (h : RwsO lo w b n cap rows) (ha : rows[i]? = some a) (x0 x1 : Int) (x2 : Bool) (x3 : Int) :
    RwsO lo ((((w.setCell ⟨b, i * 5, none⟩ (.int .i64 x0)).setCell ⟨b, i * 5 + 1, none⟩ (.int .i64 x1)).setCell ⟨b, i * 5 + 2, none⟩ (.bool x2)).setCell ⟨b, i * 5 + 3, none⟩ (.int .i64 x3)) b n cap (rows.set i ⟨x0, x1, x2, x3, a.A, a.n, a.cap⟩) := by
  have hi : i < rows.length := (List.getElem?_eq_some_iff.1 ha).1
  have g : ∀ (l : List Rw) (x : Rw), i < l.length → (l.set i x)[i]? = some x := fun l x hl => List.getElem?_set_self hl
  have s0 := Own.set1 h Rw.cs_len (j := 0) (x' := ⟨x0, a.t, a.c, a.x, a.A, a.n, a.cap⟩) (u := .int .i64 x0) ha (by omega) rfl
  have s1 := Own.set1 s0 Rw.cs_len (j := 1) (x' := ⟨x0, x1, a.c, a.x, a.A, a.n, a.cap⟩) (u := .int .i64 x1) (g _ _ hi) (by omega) rfl
  rw [List.set_set] at s1
  have s2 := Own.set1 s1 Rw.cs_len (j := 2) (x' := ⟨x0, x1, x2, a.x, a.A, a.n, a.cap⟩) (u := .bool x2) (g _ _ hi) (by omega) rfl
  rw [List.set_set] at s2
  have s3 := Own.set1 s2 Rw.cs_len (j := 3) (x' := ⟨x0, x1, x2, x3, a.A, a.n, a.cap⟩) (u := .int .i64 x3) (g _ _ hi) (by omega) rfl
  rw [List.set_set] at s3
  exact s3

end Go.Proofs.Ytomfaabifpndbaa

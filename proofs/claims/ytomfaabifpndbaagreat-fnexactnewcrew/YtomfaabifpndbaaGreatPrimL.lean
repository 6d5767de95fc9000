/-
  Small things of the model: what a store of the call's own is when one of its rings has been turned; the walk of l4Then.
-/
import Derived.Test.YtomfaabifpndbaaGreatStoreD
namespace Go.Proofs.YtomfaabifpndbaaGreat
set_option linter.unusedSimpArgs false
set_option linter.unusedVariables false
open Go.RowKit
set_option linter.unusedVariables false
attribute [local go_sem ↓] Go.wp_at_zero Go.wp_at_succ

theorem CopyOf.rgs {lo : Nat} {w : World} {b n cap : Nat} {rows : List Rw} {L : List Rg} (h : CopyOf lo w rows L) (ho : RwsO lo w b n cap rows) (hl : L.length = n) : RgsW lo w.heap.size w (some ⟨b, 0, none⟩) n cap L :=
  ⟨hl, fun _ => ⟨b, rows, rfl, Own.lt ho, ho, h.all⟩⟩

theorem CopyOf.turn {lo : Nat} {w : World} {rows : List Rw} {L : List Rg} (h : CopyOf lo w rows L) {i : Nat} {a a' : Rw} {r r' : Rg} (ha : rows[i]? = some a) (hr : L[i]? = some r)
    (hA : a'.A = a.A) (hn : a'.n = a.n) (hc : a'.cap = a.cap) (e1 : a'.h = r'.h) (e2 : a'.t = r'.t) (e3 : a'.c = r'.c) (e4 : a'.x = r'.x) (e5 : r'.ps = r.ps) : CopyOf lo w (rows.set i a') (L.set i r') := by
  have hi : i < rows.length := (List.getElem?_eq_some_iff.1 ha).1
  have hiL : i < L.length := (List.getElem?_eq_some_iff.1 hr).1
  have key : ∀ (j : Nat) b, (rows.set i a')[j]? = some b → ∃ b', rows[j]? = some b' ∧ b.A = b'.A := fun j b hb => by
    by_cases hj : i = j
    · subst hj
      rw [List.getElem?_set_self hi] at hb
      injection hb with hb
      subst hb
      exact ⟨a, ha, hA⟩
    · rw [List.getElem?_set_ne hj] at hb
      exact ⟨b, hb, rfl⟩
  refine ⟨fun j b hb => ?_, fun j k x y hjk hx hy => ?_⟩
  · by_cases hj : i = j
    · subst hj
      rw [List.getElem?_set_self hi] at hb
      injection hb with hb
      subst hb
      obtain ⟨r0, hr0, _, _, _, _, h5, g, hg, ho⟩ := h.1 i a ha
      obtain rfl : r = r0 := by rw [hr] at hr0; injection hr0
      exact ⟨r', List.getElem?_set_self hiL, e1, e2, e3, e4, by rw [hn]; exact h5, g, by rw [hA]; exact hg, by rw [hn, hc, e5]; exact ho⟩
    · rw [List.getElem?_set_ne hj] at hb ⊢
      exact h.1 j b hb
  · obtain ⟨x', hx', ex⟩ := key j x hx
    obtain ⟨y', hy', ey⟩ := key k y hy
    rw [ex, ey]
    exact h.2 j k x' y' hjk hx' hy'

/-- A store and a bool are returned; its memory lies from block lo on. -/
def RetSB (lo : Nat) (q : St × Bool) (w : World) (e : Ending) (w' : World) : Prop :=
  ∃ A n cap, e = .returned (.tuple #[stV q.1 A n cap, .bool q.2]) ∧ RgsW lo w'.heap.size w' A n cap q.1.rs ∧ Below w.heap.size w w'
/-- A store and a number are returned. -/
def RetSI (lo : Nat) (q : St × Int) (w : World) (e : Ending) (w' : World) : Prop :=
  ∃ A n cap, e = .returned (.tuple #[stV q.1 A n cap, .int .i64 q.2]) ∧ RgsW lo w'.heap.size w' A n cap q.1.rs ∧ Below w.heap.size w w'

theorem RgsW.st {lo hi : Nat} {w : World} {A : Option Addr} {n cap : Nat} {L : List Rg} (h : RgsW lo hi w A n cap L) {k : Nat} (hk : k < lo ∨ hi ≤ k) (i : Nat) (u : Value) : RgsW lo hi (w.setCell ⟨k, i, none⟩ u) A n cap L := h.keep (.set hk i u)
theorem RgsW.al {lo hi : Nat} {w : World} {A : Option Addr} {n cap : Nat} {L : List Rg} (h : RgsW lo hi w A n cap L) (hh : hi ≤ w.heap.size) (o : Obj) : RgsW lo hi (w.alloc o) A n cap L := h.keep (.alloc hh o)
theorem Neat.len {s : St} (h : Neat s) : ∀ r ∈ s.rs, r.ps.length ≤ 1048576 := fun r hr => by have := (h.2.2 r hr).2; omega
theorem Neat.cp {s : St} (h : Neat s) : ∀ r ∈ s.rs, 0 < r.ps.length ∧ r.ps.length ≤ 1048576 := fun r hr => by have := h.2.2 r hr; omega
theorem RgsW.sl {lo hi : Nat} {w : World} {A : Option Addr} {n cap : Nat} {L : List Rg} (h : RgsW lo hi w A n cap L) {k : Nat} {i : Nat} {u : Value} (hk : k < lo := by omega) : RgsW lo hi (w.setCell ⟨k, i, none⟩ u) A n cap L := h.st (.inl hk) i u
theorem RgsW.sr {lo hi : Nat} {w : World} {A : Option Addr} {n cap : Nat} {L : List Rg} (h : RgsW lo hi w A n cap L) {k : Nat} {i : Nat} {u : Value} (hk : hi ≤ k := by omega) : RgsW lo hi (w.setCell ⟨k, i, none⟩ u) A n cap L := h.st (.inr hk) i u

end Go.Proofs.YtomfaabifpndbaaGreat

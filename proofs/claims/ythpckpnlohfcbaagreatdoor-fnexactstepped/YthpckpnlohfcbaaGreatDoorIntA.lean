/-
 Lists of numbers: read, compared, marked, copied.
-/
import Derived.Test.YthpckpnlohfcbaaGreatDoorNums
import Derived.Test.YthpckpnlohfcbaaGreatDoorSli
namespace Go.Proofs.YthpckpnlohfcbaaGreatDoor
set_option linter.unusedSimpArgs false
set_option linter.unusedVariables false
open Go.RowKit
set_option linter.unusedVariables false
attribute [local go_sem ↓] Go.wp_at_zero Go.wp_at_succ
theorem int_info : (Tryz.prog.info? 2).map (fun i => (i.zero, i.size, i.bytes)) = some (some (.int .i64 0), 1, 8) := by kernel_rfl
def IE (_N : Nat) (w : World) (b o : Nat) (z : Int) : Prop := w.cell? ⟨b, o, none⟩ = some (.int .i64 z)
theorem IE.kept : Kept IE := fun _ _ _ _ _ _ hb hs h => hs.cell hb h
def IntsR (w : World) (A : Option Addr) (n : Nat) (l : List Int) : Prop := SlE IE 1 0 w A n l
theorem IntsR.below {w w' : World} {A : Option Addr} {n : Nat} {l : List Int} (h : IntsR w A n l) (hb : Below w.heap.size w w') : IntsR w' A n l := SlE.below IE.kept h hb
def IntsO (N : Nat) (w : World) (v : Value) (l : List Int) : Prop := w.ownsRow N 2 1 v l.length (l.flatMap ic)
theorem IntsO.r {N : Nat} {w : World} {v : Value} {l : List Int} (h : IntsO N w v l) : ∃ A cap, v = .slice A l.length cap ∧ IntsR w A l.length l := by
 rcases Nat.eq_zero_or_pos l.length with h0 | h0
 ·
  obtain rfl : l = [] := List.length_eq_zero_iff.1 h0
  rcases h.2 with ⟨h1, _⟩ | ⟨g, cap, cur, hv, _⟩
  · exact ⟨none, 0, h1, rfl, fun h => absurd h (by simp)⟩
  · exact ⟨_, cap, hv, rfl, fun h => absurd h (by simp)⟩
 ·
  obtain ⟨g, cap, hv, ho⟩ := Own.of_row (f := ic) h rfl h0
  exact ⟨_, cap, hv, (Own.sl ho ic_len (E := IE) fun b o x hc => by show w.cell? _ = _; simpa using hc 0 _ rfl).1, fun hn => by
   obtain ⟨b, o, e, _, hx⟩ := (Own.sl ho ic_len (E := IE) fun b o x hc => by show w.cell? _ = _; simpa using hc 0 _ rfl).2 hn
   exact ⟨b, o, e, Nat.zero_le _, hx⟩⟩
theorem IntsO.below {N : Nat} {w w' : World} {v : Value} {l : List Int} (h : IntsO N w v l) (hb : Below w.heap.size w w') : IntsO N w' v l := by
 refine ⟨h.1, ?_⟩
 rcases h.2 with h' | ⟨g, cap, cur, hv, hg, hbx, hr⟩
 · exact .inl h'
 · exact .inr ⟨g, cap, cur, hv, hg, (hb.block g (Array.getElem?_eq_some_iff.1 hbx).1).trans hbx, hr⟩
theorem IntsO.keep {N hi : Nat} {w w' : World} {v : Value} {l : List Int} (h : IntsO N w v l) (hs : ∀ j, N ≤ j → j < w.heap.size → w'.heap[j]? = w.heap[j]?) : IntsO N w' v l := by
 refine ⟨h.1, ?_⟩
 rcases h.2 with h' | ⟨g, cap, cur, hv, hg, hbx, hr⟩
 · exact .inl h'
 · exact .inr ⟨g, cap, cur, hv, hg, (hs g hg (Array.getElem?_eq_some_iff.1 hbx).1).trans hbx, hr⟩
theorem IntsO.mono {N M : Nat} {w : World} {v : Value} {l : List Int} (h : IntsO N w v l) (hM : M ≤ N) : IntsO M w v l := own_mono h hM
def IntsV (lo hi : Nat) (w : World) (v : Value) (l : List Int) : Prop := IntsO lo w v l ∧ ∀ g, v.ownBlock = some g → g < hi
theorem IntsV.of {lo : Nat} {w : World} {v : Value} {l : List Int} (h : IntsO lo w v l) : IntsV lo w.heap.size w v l := by
 refine ⟨h, fun g hg => ?_⟩
 rcases h.2 with ⟨h1, _⟩ | ⟨g', cap, cur, hv, _, hbx, _⟩
 · rw [h1] at hg; cases hg
 ·
  rw [hv] at hg
  have : g' = g := by simpa [Value.ownBlock] using hg
  subst this
  exact (Array.getElem?_eq_some_iff.1 hbx).1
theorem IntsV.keep {lo hi : Nat} {w w' : World} {v : Value} {l : List Int} (h : IntsV lo hi w v l) (hs : SameIn lo hi w w') : IntsV lo hi w' v l := by
 refine ⟨⟨h.1.1, ?_⟩, h.2⟩
 rcases h.1.2 with h' | ⟨g, cap, cur, hv, hg, hbx, hr⟩
 · exact .inl h'
 · exact .inr ⟨g, cap, cur, hv, hg, (hs g hg (h.2 g (by rw [hv]; simp [Value.ownBlock]))).trans hbx, hr⟩
theorem IntsV.below {lo hi : Nat} {w w' : World} {v : Value} {l : List Int} (h : IntsV lo hi w v l) (hb : Below w.heap.size w w') (hh : hi ≤ w.heap.size) : IntsV lo hi w' v l := h.keep (.below hb hh)
theorem IntsV.r {lo hi : Nat} {w : World} {A : Option Addr} {n cap : Nat} {l : List Int} (h : IntsV lo hi w (.slice A n cap) l) (hn : l.length = n) : IntsR w A n l := by
 obtain ⟨A', c', e, h'⟩ := h.1.r
 injection e with e1 e2 e3
 subst e1
 rw [hn] at h'
 exact h'
def IntsW (lo hi : Nat) (w : World) (A : Option Addr) (n cap : Nat) (l : List Int) : Prop := SlW ic 1 2 lo hi w A n cap l
theorem IntsW.r {lo hi : Nat} {w : World} {A : Option Addr} {n cap : Nat} {l : List Int} (h : IntsW lo hi w A n cap l) : IntsR w A n l := SlW.r ic_len (fun b o x hc => by show w.cell? _ = _; simpa using hc 0 _ rfl) h
theorem IntsW.o {lo hi : Nat} {w : World} {A : Option Addr} {cap : Nat} {l : List Int} (h : IntsW lo hi w A l.length cap l) : IntsO lo w (.slice A l.length cap) l := SlW.own h ic_len
end Go.Proofs.YthpckpnlohfcbaaGreatDoor

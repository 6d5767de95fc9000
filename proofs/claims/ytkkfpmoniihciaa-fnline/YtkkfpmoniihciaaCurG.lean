/-
  What a drawing cursor leaves as it is.
-/
import Derived.Test.YtkkfpmoniihciaaCurB
import Derived.Test.YtkkfpmoniihciaaIntA
namespace Go.Proofs.Ytkkfpmoniihciaa
set_option linter.unusedSimpArgs false
set_option linter.unusedVariables false
open Go.RowKit
set_option linter.unusedVariables false

theorem But.grown {k : Nat} {a b c : World} {row : Option Nat} (h : But k a b) (hg : b.grownBy c row) (hr : ∀ g, row = some g → a.heap.size ≤ g) : But k a c :=
  ⟨hg.os.trans h.os, hg.tape.trans h.tape, hg.output.trans h.output, Nat.le_trans h.size hg.size, fun j hj hk => (hg.block j (Nat.lt_of_lt_of_le hj h.size) (fun e => by have := hr j e.symm; omega)).trans (h.block j hj hk)⟩
theorem CurAt.grown {k : Nat} {w w' : World} {a0 : Option Addr} {len cap : Nat} {row : Option Nat} (h : CurAt w k a0 len cap) (hg : w.grownBy w' row) (hr : row ≠ some k) : CurAt w' k a0 len cap := by
  obtain ⟨i, x, hi, hb⟩ := h
  exact ⟨i, x, hi, hb.grown2 hg hr⟩
theorem own_but {k N : Nat} {e : TypeId} {s : Nat} {v : Value} {n : Nat} {xs : List Value} {w w' : World} (h : w.ownsRow N e s v n xs) (hb : But k w w') (hk : k < N) : w'.ownsRow N e s v n xs := by
  refine ⟨h.1, ?_⟩
  rcases h.2 with h' | ⟨g, cap, cur, hv, hg, hh, hr⟩
  · exact .inl h'
  · exact .inr ⟨g, cap, cur, hv, hg, (hb.block g (Array.getElem?_eq_some_iff.1 hh).1 (by omega)).trans hh, hr⟩
theorem KeepT.but {T : TypeId} {k : Nat} {w w' : World} {cs : Array Value} {t : TypeId} (hb : But k w w') (hk : BoxAt w k cs t) (ht : t ≠ T) : KeepT T w w' := fun g cs' hg => hb.block g hg.lt (by
  rintro rfl
  unfold BoxAt at hg hk
  rw [hg] at hk
  injection hk with hk
  injection hk with _ hk
  exact ht hk.symm)
theorem CurAt.box {k : Nat} {w : World} {a0 : Option Addr} {len cap : Nat} (h : CurAt w k a0 len cap) : ∃ cs, BoxAt w k cs 65 := by
  obtain ⟨i, x, hi, hb⟩ := h
  exact ⟨_, hb⟩
theorem But.setsNew {k g : Nat} {a : World} : ∀ {b : World}, But k a b → a.heap.size ≤ g → ∀ (us : List Value) (o : Nat), But k a (Go.Proofs.Ytkkfpmoniihciaa.setCells b g o us)
  | _, h, _, [], _ => h
  | _, h, hg, u :: us, o => But.setsNew (h.setNew hg o u) hg us (o + 1)
theorem But.drew {k : Nat} {a b : World} (h : But k a b) : But k a b.drew := ⟨h.os, h.tape, h.output, h.size, h.block⟩
theorem CurAt.sets {k g : Nat} {w : World} {a0 : Option Addr} {len cap : Nat} (h : CurAt w k a0 len cap) (hne : k ≠ g) (us : List Value) (o : Nat) : CurAt (setCells w g o us) k a0 len cap := by
  obtain ⟨j, x, hi, hb⟩ := h
  exact ⟨j, x, hi, BoxAt.sets_ne us o hb hne⟩
theorem CurAt.belowC {k : Nat} {w w' : World} {a0 : Option Addr} {len cap : Nat} (h : CurAt w k a0 len cap) (hb : Below w.heap.size w w') : CurAt w' k a0 len cap := by
  obtain ⟨j, x, hi, hx⟩ := h
  exact ⟨j, x, hi, hx.below hb hx.lt⟩
theorem SameIn.butc {lo hi k : Nat} {w w' : World} (h : But k w w') (hk : k < lo) (hh : hi ≤ w.heap.size) : SameIn lo hi w w' := fun j h1 h2 => h.block j (by omega) (by omega)
theorem IntsO.butc {N k : Nat} {w w' : World} {v : Value} {l : List Int} (h : IntsO N w v l) (hb : But k w w') (hk : k < N) : IntsO N w' v l := own_but h hb hk

/-- Numbers are drawn: a list of them, of the call's own. -/
def DrawsL (m : Nat) (k : Nat) (a0 : Option Addr) (len cap : Nat) (w : World) (e : Ending) (w' : World) : Prop :=
  ∃ (l : List Int) (A : Option Addr) (c : Nat), e = .returned (.slice A l.length c) ∧ l.length ≤ m ∧ IntsW w.heap.size w'.heap.size w' A l.length c l ∧ But k w w' ∧ CurAt w' k a0 len cap

end Go.Proofs.Ytkkfpmoniihciaa

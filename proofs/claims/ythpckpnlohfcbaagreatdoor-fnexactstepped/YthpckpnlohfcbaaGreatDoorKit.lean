/-
 General lemmas of this project's own, over any program: what a law's row wants once its call is shown to return true and to leave all old memory alone; blocks that are known whole; worlds put behind a letter.
-/
import Derived.WalkKit
import Derived.WalkSpells
import Derived.WalkLawsBesides
import Derived.ProofKit
import Derived.OpenShut
import Derived.Below
import Derived.ChangeSame
import Derived.ChangeOld
import Derived.Carry
import Derived.Lib.Hide
import Derived.Lib.SmallJoins
import Derived.Deep.RegionHeld3
import Derived.Deep.DrawnRows
import Derived.Deep.DeepCutAuto
namespace Go.Proofs.YthpckpnlohfcbaaGreatDoor
set_option linter.unusedSimpArgs false
set_option linter.unusedVariables false
open Go.RowKit Go.WideShapes Go.ChangeShapes
def RetBelow (v : Value) (w : World) (e : Ending) (w' : World) : Prop := e = .returned v ∧ Below w.heap.size w w'
theorem RetBelow.mk {v v' : Value} {w w' : World} (h : v = v') (hb : Below w.heap.size w w') : RetBelow v' w (.returned v) w' := ⟨by rw [h], hb⟩
theorem bstep {B : Nat} {w0 w1 w2 : World} (h : Below B w0 w1) (hB : B ≤ w1.heap.size) (h2 : Below w1.heap.size w1 w2) : Below B w0 w2 := h.trans (h2.mono hB)
def BoxAt (W : World) (k : Nat) (cs : Array Value) (t : TypeId) : Prop := W.heap[k]? = some (.cells cs t)
theorem BoxAt.cell {W : World} {k : Nat} {cs : Array Value} {t : TypeId} (h : BoxAt W k cs t) (o : Nat) : W.cell? ⟨k, o, none⟩ = cs[o]? := by
 unfold BoxAt at h; simp [World.cell?, h]
theorem BoxAt.frozen {W : World} {k : Nat} {cs : Array Value} {t : TypeId} (h : BoxAt W k cs t) (o : Nat) : W.frozen? ⟨k, o, none⟩ = false := by
 unfold BoxAt at h; simp [World.frozen?, h]
theorem BoxAt.lt {W : World} {k : Nat} {cs : Array Value} {t : TypeId} (h : BoxAt W k cs t) : k < W.heap.size := by
 unfold BoxAt at h; exact (Array.getElem?_eq_some_iff.1 h).1
theorem BoxAt.below {B : Nat} {W W' : World} {k : Nat} {cs : Array Value} {t : TypeId} (hb : Below B W W') (hk : k < B) (h : BoxAt W k cs t) : BoxAt W' k cs t := by
 unfold BoxAt at h ⊢; rw [hb.block k hk, h]
theorem BoxAt.alloc {W : World} {k : Nat} {cs : Array Value} {t : TypeId} (h : BoxAt W k cs t) (o : Obj) : BoxAt (W.alloc o) k cs t :=
 h.below ((Below.refl _ _).alloc (Nat.le_refl _) _) h.lt
theorem BoxAt.new (W : World) (cs : Array Value) (t : TypeId) : BoxAt (W.alloc (.cells cs t)) W.heap.size cs t := by
 unfold BoxAt; exact heap_alloc_new W _
theorem BoxAt.set {W : World} {k : Nat} {cs : Array Value} {t : TypeId} (h : BoxAt W k cs t) (i : Nat) (v : Value) : BoxAt (W.setCell ⟨k, i, none⟩ v) k (cs.setIfInBounds i v) t := by
 unfold BoxAt at *
 have hk := (Array.getElem?_eq_some_iff.1 h).1
 simp [World.setCell, Array.getElem?_modify, h]
theorem BoxAt.set_ne {W : World} {k g : Nat} {cs : Array Value} {t : TypeId} (h : BoxAt W k cs t) (hne : k ≠ g) (i : Nat) (v : Value) : BoxAt (W.setCell ⟨g, i, none⟩ v) k cs t := by
 unfold BoxAt at *
 simp [World.setCell, Array.getElem?_modify, h, Ne.symm hne]
theorem BoxAt.sn {W : World} {k g : Nat} {cs : Array Value} {t : TypeId} (h : BoxAt W k cs t) {i : Nat} {v : Value} (hne : k ≠ g := by omega) : BoxAt (W.setCell ⟨g, i, none⟩ v) k cs t := h.set_ne hne i v
theorem sc {B : Nat} {a w : World} (h : Below B a w) {p : Addr} {u : Value} (hp : B ≤ p.block := by dsimp only; omega) : Below B a (w.setCell p u) := h.setCell hp u
instance : Coe Int Value := ⟨fun x => Value.int .i64 x⟩
instance : Coe Nat Value := ⟨fun x => Value.int .i64 (x : Int)⟩
instance : Coe Bool Value := ⟨fun x => Value.bool x⟩
structure PT where
 b : Nat
def pT (b : Nat) : PT := ⟨b⟩
instance (b : Nat) : CoeDep PT (pT b) Value := ⟨Value.pointer (some (Addr.mk b 0 none))⟩
theorem wp_abs {P : Program} {code : Code} {Q : Exit → Act → World → Prop} {a : Act} {W : World} (F : World → Prop) (hF : F W) (h : ∀ W', F W' → Code.wp P code Q a W') : Code.wp P code Q a W := h W hF
theorem calls_abs {P : Program} {f : FuncId} {args : Array Value} {R : Ending → World → Prop} {W : World} (F : World → Prop) (hF : F W) (h : ∀ W', F W' → Calls P f args W' R) : Calls P f args W R := h W hF
section
variable {H : Type} {enc : TypeId × Value → H} {P : Program}
theorem trodAll_len {W : World} : ∀ {ts : List TypeId} {vs : List Value} {ds : List (DataW H)} {ps : List MemPlace}, DataW.TrodAll enc P W 0 (fun _ => true) true ts vs ds ps → ds.length = ts.length
 | [], [], [], _, _ => rfl
 | [], _ :: _, _, _, h => h.elim
 | [], [], _ :: _, _, h => h.elim
 | _ :: _, [], _, _, h => h.elim
 | _ :: _, _ :: _, [], _, h => h.elim
 | _ :: _, _ :: _, _ :: _, _, h => by obtain ⟨_, _, _, h2, _⟩ := h; simp [trodAll_len h2]
theorem trodAll_below (hl : laidOutB P = true) {W W' : World} (hb : Below W.heap.size W W') : ∀ {ts : List TypeId} {vs : List Value} {ds : List (DataW H)} {ps : List MemPlace},
  (∀ t ∈ ts, P.readableRec t = true ∧ t < P.types.size) → DataW.TrodAll enc P W 0 (fun _ => true) true ts vs ds ps → DataW.TrodAll enc P W' 0 (fun b => decide (b < W.heap.size)) true ts vs ds ps
 | [], [], [], _, _, h => h
 | [], _ :: _, _, _, _, h => h.elim
 | [], [], _ :: _, _, _, h => h.elim
 | _ :: _, [], _, _, _, h => h.elim
 | _ :: _, _ :: _, [], _, _, h => h.elim
 | t :: ts, v :: vs, d :: ds, ps, hr, h => by
  obtain ⟨p, q, h1, h2, rfl⟩ := h
  have lt : ∀ x ∈ p, x.block < W.heap.size := by obtain ⟨m, hm⟩ := h1; exact DataW.trod_lt m _ _ _ hm
  exact ⟨p, q, Below.trod hl (hr t (by simp)).1 (hr t (by simp)).2 h1 hb lt, trodAll_below hl hb (fun t ht => hr t (by simp [ht])) h2, rfl⟩
end
end Go.Proofs.YthpckpnlohfcbaaGreatDoor

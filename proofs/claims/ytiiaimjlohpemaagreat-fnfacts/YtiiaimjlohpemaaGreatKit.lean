/-
 General lemmas of this project's own, over any program: what a law's row wants once its call is shown to return true and to leave all old memory alone; blocks that are known whole; worlds put behind a letter.
-/
import Derived.WalkKit
import Derived.WalkSpells
import Derived.WalkLawsBesides
import Derived.ProofKit
import Derived.OpenShut
import Derived.Below
import Derived.ChangeSame
import Derived.ChangeOld
import Derived.Carry
import Derived.Lib.Hide
import Derived.Lib.SmallJoins
import Derived.Deep.RegionHeld3
import Derived.Deep.DrawnRows
import Derived.Deep.DeepCutAuto
namespace Go.Proofs.YtiiaimjlohpemaaGreat
set_option linter.unusedSimpArgs false
set_option linter.unusedVariables false
open Go.RowKit Go.WideShapes Go.ChangeShapes

/-! ### A call that returns v and leaves old memory alone -/

def RetBelow (v : Value) (w : World) (e : Ending) (w' : World) : Prop := e = .returned v ∧ Below w.heap.size w w'

theorem RetBelow.mk {v v' : Value} {w w' : World} (h : v = v') (hb : Below w.heap.size w w') : RetBelow v' w (.returned v) w' := ⟨by rw [h], hb⟩

theorem bstep {B : Nat} {w0 w1 w2 : World} (h : Below B w0 w1) (hB : B ≤ w1.heap.size) (h2 : Below w1.heap.size w1 w2) : Below B w0 w2 := h.trans (h2.mono hB)

theorem bcell {W w1 : World} (hb : Below W.heap.size W w1) : (∀ b o, b < W.heap.size → w1.cell? ⟨b, o, none⟩ = W.cell? ⟨b, o, none⟩) ∧ (∀ b o, b < W.heap.size → w1.frozen? ⟨b, o, none⟩ = W.frozen? ⟨b, o, none⟩) ∧ W.heap.size ≤ w1.heap.size :=
 ⟨fun b o h => hb.cell (p := ⟨b, o, none⟩) h, fun b o h => hb.frozen (p := ⟨b, o, none⟩) h, hb.size⟩

/-! ### Blocks that are known whole -/

def BoxAt (W : World) (k : Nat) (cs : Array Value) (t : TypeId) : Prop := W.heap[k]? = some (.cells cs t)
theorem BoxAt.cell {W : World} {k : Nat} {cs : Array Value} {t : TypeId} (h : BoxAt W k cs t) (o : Nat) : W.cell? ⟨k, o, none⟩ = cs[o]? := by
 unfold BoxAt at h; simp [World.cell?, h]
theorem BoxAt.frozen {W : World} {k : Nat} {cs : Array Value} {t : TypeId} (h : BoxAt W k cs t) (o : Nat) : W.frozen? ⟨k, o, none⟩ = false := by
 unfold BoxAt at h; simp [World.frozen?, h]
theorem BoxAt.lt {W : World} {k : Nat} {cs : Array Value} {t : TypeId} (h : BoxAt W k cs t) : k < W.heap.size := by
 unfold BoxAt at h; exact (Array.getElem?_eq_some_iff.1 h).1
theorem BoxAt.below {B : Nat} {W W' : World} {k : Nat} {cs : Array Value} {t : TypeId} (hb : Below B W W') (hk : k < B) (h : BoxAt W k cs t) : BoxAt W' k cs t := by
 unfold BoxAt at h ⊢; rw [hb.block k hk, h]
theorem BoxAt.alloc {W : World} {k : Nat} {cs : Array Value} {t : TypeId} (h : BoxAt W k cs t) (o : Obj) : BoxAt (W.alloc o) k cs t :=
 h.below ((Below.refl _ _).alloc (Nat.le_refl _) _) h.lt
theorem BoxAt.new (W : World) (cs : Array Value) (t : TypeId) : BoxAt (W.alloc (.cells cs t)) W.heap.size cs t := by
 unfold BoxAt; exact heap_alloc_new W _

theorem BoxAt.set {W : World} {k : Nat} {cs : Array Value} {t : TypeId} (h : BoxAt W k cs t) (i : Nat) (v : Value) : BoxAt (W.setCell ⟨k, i, none⟩ v) k (cs.setIfInBounds i v) t := by
 unfold BoxAt at *
 have hk := (Array.getElem?_eq_some_iff.1 h).1
 simp [World.setCell, Array.getElem?_modify, h]
theorem BoxAt.set_ne {W : World} {k g : Nat} {cs : Array Value} {t : TypeId} (h : BoxAt W k cs t) (hne : k ≠ g) (i : Nat) (v : Value) : BoxAt (W.setCell ⟨g, i, none⟩ v) k cs t := by
 unfold BoxAt at *
 simp [World.setCell, Array.getElem?_modify, h, Ne.symm hne]

theorem BoxAt.sn {W : World} {k g : Nat} {cs : Array Value} {t : TypeId} (h : BoxAt W k cs t) {i : Nat} {v : Value} (hne : k ≠ g := by omega) : BoxAt (W.setCell ⟨g, i, none⟩ v) k cs t := h.set_ne hne i v
theorem sc {B : Nat} {a w : World} (h : Below B a w) {p : Addr} {u : Value} (hp : B ≤ p.block := by dsimp only; omega) : Below B a (w.setCell p u) := h.setCell hp u

/-! ### Short words for cells: each stands for the value itself, which the elaborator writes in its place -/

instance : Coe Int Value := ⟨fun x => Value.int .i64 x⟩
instance : Coe Nat Value := ⟨fun x => Value.int .i64 (x : Int)⟩
instance : Coe Bool Value := ⟨fun x => Value.bool x⟩
structure PT where
 b : Nat
def pT (b : Nat) : PT := ⟨b⟩
instance (b : Nat) : CoeDep PT (pT b) Value := ⟨Value.pointer (some (Addr.mk b 0 none))⟩

/-! ### A world behind a letter -/

theorem wp_abs {P : Program} {code : Code} {Q : Exit → Act → World → Prop} {a : Act} {W : World} (F : World → Prop) (hF : F W) (h : ∀ W', F W' → Code.wp P code Q a W') : Code.wp P code Q a W := h W hF

theorem calls_abs {P : Program} {f : FuncId} {args : Array Value} {R : Ending → World → Prop} {W : World} (F : World → Prop) (hF : F W) (h : ∀ W', F W' → Calls P f args W' R) : Calls P f args W R := h W hF
theorem list_abs {P : Program} {ops : Array Oper} {Q : Exit → Act → World → Prop} {l : List Oper} {a : Act} {W : World} (F : World → Prop) (hF : F W) (h : ∀ W', F W' → wpList P ops Q l a W') : wpList P ops Q l a W := h W hF

/-! ### The row of a law -/

section
variable {H : Type} {enc : TypeId × Value → H} {P : Program}

theorem trodAll_len {W : World} : ∀ {ts : List TypeId} {vs : List Value} {ds : List (DataW H)} {ps : List MemPlace}, DataW.TrodAll enc P W 0 (fun _ => true) true ts vs ds ps → ds.length = ts.length
 | [], [], [], _, _ => rfl
 | [], _ :: _, _, _, h => h.elim
 | [], [], _ :: _, _, h => h.elim
 | _ :: _, [], _, _, h => h.elim
 | _ :: _, _ :: _, [], _, h => h.elim
 | _ :: _, _ :: _, _ :: _, _, h => by obtain ⟨_, _, _, h2, _⟩ := h; simp [trodAll_len h2]

theorem trodAll_below (hl : laidOutB P = true) {W W' : World} (hb : Below W.heap.size W W') : ∀ {ts : List TypeId} {vs : List Value} {ds : List (DataW H)} {ps : List MemPlace},
  (∀ t ∈ ts, P.readableRec t = true ∧ t < P.types.size) → DataW.TrodAll enc P W 0 (fun _ => true) true ts vs ds ps → DataW.TrodAll enc P W' 0 (fun b => decide (b < W.heap.size)) true ts vs ds ps
 | [], [], [], _, _, h => h
 | [], _ :: _, _, _, _, h => h.elim
 | [], [], _ :: _, _, _, h => h.elim
 | _ :: _, [], _, _, _, h => h.elim
 | _ :: _, _ :: _, [], _, _, h => h.elim
 | t :: ts, v :: vs, d :: ds, ps, hr, h => by
  obtain ⟨p, q, h1, h2, rfl⟩ := h
  have lt : ∀ x ∈ p, x.block < W.heap.size := by obtain ⟨m, hm⟩ := h1; exact DataW.trod_lt m _ _ _ hm
  exact ⟨p, q, Below.trod hl (hr t (by simp)).1 (hr t (by simp)).2 h1 hb lt, trodAll_below hl hb (fun t ht => hr t (by simp [ht])) h2, rfl⟩

/-- A law whose call returns true and leaves old memory alone: its row's post. -/
theorem law_post {fn : Func} {s : ChangeSpec} {apart fresh handsOn : Bool} {tb : TypeId} (hl : laidOutB P = true) (hub : P.underlying tb = some .bool) (hres : fn.resultTypes = #[tb]) (hv : s.vars = [])
  (hrd : fn.params.toList.all (fun t => P.readableRec t && decide (t < P.types.size)) = true)
  (hsp : ∀ ds : List (DataW H), ds.length = fn.params.size → s.fn H ds = { results := [.lit (.bool true)], args := ds })
  {W W' : World} {args : Array Value} {ds gs : List (DataW H)} {before : List MemPlace}
  (hW : DataW.Whole enc P fn.params.toList s.vars apart W args.toList ds gs before) (hb : Below W.heap.size W W') :
  s.post enc P fn apart fresh handsOn false W args (.bool true) W' := by
 have hW' := hW
 obtain ⟨p, q, hA, hV, rfl, _, _⟩ := hW
 rw [hv] at hV
 obtain ⟨rfl, rfl⟩ := trodVars_none hV
 have hlen : ds.length = fn.params.size := by have := trodAll_len hA; simpa using this
 have e := hsp (ds ++ []) (by simpa using hlen)
 have hr : ∀ t ∈ fn.params.toList, P.readableRec t = true ∧ t < P.types.size := fun t ht => by
  have := List.all_eq_true.1 hrd t ht
  simpa using this
 refine ⟨ds, [], p ++ [], [], p, [], hW', ?_, ?_, ?_, hb.frame _, fun h => by cases h⟩
 ·
  rw [e, hres]
  exact trodAll_mk1 (shut_bool hub _)
 ·
  rw [e]
  simpa using trodAll_below hl hb hr hA
 ·
  rw [e, hv]
  rfl
end

/-- The lifted form of a law: what is left to be shown is its contract. -/
theorem law_lifted {C : Checked} {os : Os} {f : FuncId} {fn : Func} {s : ChangeSpec} {conds : List PathCond} {apart fresh handsOn : Bool} {tb : TypeId} {H : Type} {enc : TypeId × Value → H}
  (own : ownKnob C.prog.godebug = none) (started : os.Started) (noInit : C.prog.inits.idxOf? f = none) (hfn : C.prog.funcs[f]? = some fn)
  (hl : laidOutB C.prog = true) (hub : C.prog.underlying tb = some .bool) (hres : fn.resultTypes = #[tb]) (hv : s.vars = [])
  (hrd : fn.params.toList.all (fun t => C.prog.readableRec t && decide (t < C.prog.types.size)) = true)
  (hsp : ∀ ds : List (DataW H), ds.length = fn.params.size → s.fn H ds = { results := [.lit (.bool true)], args := ds })
  (witness : ∃ (w : World) (tape : Tape) (i : Input), w.os = os ∧ (w.forCall tape i).Shaped C.prog ∧ i.vars = [] ∧ Input.okWide C.prog (w.forCall tape i) .any w.heap.size f i ∧
   s.pre6 enc C.prog fn conds apart (w.forCall tape i).memory i.args ∧ ({} : Assume).holds C.prog (lone (Frame.enter C.prog f i.args .normal) [] (w.forCall tape i)))
  (contract : ∀ (W : World) (base : Nat) (args : Array Value) (ds : List (DataW H)) (p : List MemPlace),
   (∀ (j : Nat) t v, fn.params[j]? = some t → args[j]? = some v → Value.okWide C.prog W .any base t v) →
   DataW.TrodAll enc C.prog W 0 (fun _ => true) true fn.params.toList args.toList ds p →
   Calls C.prog f args W (RetBelow (.bool true) W)) :
  ReturnsInHanded {} C os f .any (s.pre6 enc C.prog fn conds apart) (s.post enc C.prog fn apart fresh handsOn false) := by
 refine returnsInHanded_of_change (C := C) own started noInit hfn witness ?_
 intro W base args ds gs before hval hW _ _
 have hW' := hW
 obtain ⟨p, q, hA, _, _, _, _⟩ := hW
 refine (contract W base args ds p hval hA).mono ?_
 rintro e W' ⟨rfl, hb⟩
 exact ⟨_, rfl, law_post hl hub hres hv hrd hsp hW' hb⟩

end Go.Proofs.YtiiaimjlohpemaaGreat

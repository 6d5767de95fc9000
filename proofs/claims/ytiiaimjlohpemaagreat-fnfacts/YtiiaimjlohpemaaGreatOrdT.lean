/-
 What was put and what was got in a story, of both sides.
-/
import Derived.ArgAppend
import Derived.Laws.CopyOwn
import Derived.Deep.Light
import Derived.Laws.BitsLemmas
import Derived.Test.YtiiaimjlohpemaaGreatEvI
import Derived.Test.YtiiaimjlohpemaaGreatGrowV
import Derived.Test.YtiiaimjlohpemaaGreatRepB
namespace Go.Proofs.YtiiaimjlohpemaaGreat
set_option linter.unusedSimpArgs false
set_option linter.unusedVariables false
open Go.RowKit
set_option linter.unusedVariables false
attribute [local go_sem ↓] Go.wp_at_zero Go.wp_at_succ

theorem zordT0 {p : Prop} (h : p := by
 clear hw hcl hL hC
 refine OpGoes.go fun K hK => ?_
 go_simp
 exact hK _ _ ⟨rfl, rfl⟩) : p := h -- ee92c020
theorem zordT1 {p : Prop} (h : p := by
 have hs5 := hB.size
 replace hB := bstep hB hB.size hb5
 go_wp2
 go_ret2
 rw [HQ.out]
 exact .mk hS hs5 hB) : p := h -- e7f4735b
theorem zordT2 {p : Prop} (h : p := by
 go_wp2
 go_roundw
 case rel => exact ⟨i + 1, by omega, by go_num, by rw [HU.out, hc], hB⟩
 case measure => simp [intOf]; omega) : p := h -- 4dcccd9a

theorem int1 (z : Int) : ∀ u ∈ [Value.int .i64 z], u.oneCell' = true := by intro u hu; simp at hu; subst hu; rfl
theorem ints_ge {N : Nat} {w : World} {v : Value} {l : List Int} (h : IntsO N w v l) : ∀ g, v.ownBlock = some g → N ≤ g := fun g hg => by
 rcases h.2 with ⟨h1, _⟩ | ⟨g', cap, cur, hv, hg', _⟩
 · rw [h1] at hg; cases hg
 ·
  rw [hv] at hg
  have : g' = g := by simpa [Value.ownBlock] using hg
  omega
/-- Behind an append of one number to a list of the call's own. -/
theorem ints_snoc {N : Nat} {w' : World} {v' : Value} {o : List Int} {z : Int} (h : w'.ownsRow N 2 1 v' (o.length + 1) (o.flatMap ic ++ [Value.int .i64 z])) : ∃ B c, v' = .slice B (o ++ [z]).length c ∧ IntsO N w' (.slice B (o ++ [z]).length c) (o ++ [z]) := by
 obtain ⟨g', c', rfl, hP⟩ := Own.of_row (f := ic) (l := o ++ [z]) (n := o.length + 1) (by rw [List.flatMap_append]; exact h) (by simp) (by omega)
 exact ⟨some ⟨g', 0, none⟩, c', by simp, by unfold IntsO; have := hP.own ic_len; simpa using this⟩

/-- They lie in two blocks. -/
def BlkNe (v u : Value) : Prop := ∀ k, v.ownBlock = some k → u.ownBlock ≠ some k
theorem BlkNe.symm {v u : Value} (h : BlkNe v u) : BlkNe u v := fun k h1 h2 => h k h2 h1
theorem ints_lt {N : Nat} {w : World} {v : Value} {l : List Int} (h : IntsO N w v l) : ∀ k, v.ownBlock = some k → k < w.heap.size := fun k hk => by
 rcases h.2 with ⟨h1, _⟩ | ⟨g, cap, cur, hv, hgN, hbx, hr⟩
 · rw [h1] at hk; cases hk
 ·
  rw [hv] at hk
  have : g = k := by simpa [Value.ownBlock] using hk
  subst this
  exact (Array.getElem?_eq_some_iff.1 hbx).1
theorem BlkNe.grown {N : Nat} {w w0 : World} {v v' u : Value} {l : List Int} (h : BlkNe v u) (hu : IntsO N w0 u l) (hs : w0.heap.size ≤ w.heap.size) (h' : v'.ownBlock = v.ownBlock ∨ v'.ownBlock = some w.heap.size) : BlkNe v' u := fun k hk hu' => by
 rcases h' with h' | h'
 · exact h k (h'.symm.trans hk) hu'
 ·
  rw [h'] at hk
  injection hk with hk
  have := ints_lt hu k hu'
  omega
theorem ints_w {N : Nat} {w : World} {A : Option Addr} {c : Nat} {l : List Int} (h : IntsO N w (.slice A l.length c) l) : IntsW N w.heap.size w A l.length c l := by
 obtain ⟨A', c', e1, hW⟩ := SlW.of_own (f := ic) (l := l) h rfl
 injection e1 with e1 _ e3
 subst e1 e3
 exact hW

theorem news_at {W : World} {cs : List Value} {t : TypeId} {k : Nat} (h : k = W.heap.size) : ∀ j u, cs[j]? = some u → (W.alloc (.cells cs.toArray t)).cell? ((⟨k, 0, none⟩ : Addr).add j) = some u := by subst h; exact news_alloc W cs t
end Go.Proofs.YtiiaimjlohpemaaGreat

/-
 Lines: lists of numbers that are read, tested and copied, on both sides.
-/
namespace Go.Proofs.YtiiaimjlohpemaaGreat
set_option linter.unusedSimpArgs false
set_option linter.unusedVariables false
open Go.RowKit
set_option linter.unusedVariables false
attribute [local go_sem ↓] Go.wp_at_zero Go.wp_at_succ

/-- A list of numbers that can be read, appended to (into new memory) and cut. -/
def LnR (w : World) (A : Option Addr) (n cap : Nat) (l : List Int) : Prop := IntsR w A n l ∧ (A = none → n = 0 ∧ cap = 0) ∧ n ≤ cap
theorem LnR.below {w w' : World} {A : Option Addr} {n cap : Nat} {l : List Int} (h : LnR w A n cap l) (hb : Below w.heap.size w w') : LnR w' A n cap l := ⟨h.1.below hb, h.2⟩
theorem IntsW.ln {lo hi : Nat} {w : World} {A : Option Addr} {n cap : Nat} {l : List Int} (h : IntsW lo hi w A n cap l) : LnR w A n cap l := by
 refine ⟨h.r, ?_, ?_⟩
 ·
  rintro rfl
  rcases h.2 with ⟨_, h2, h3⟩ | ⟨b, hb, _⟩
  · exact ⟨h2, h3⟩
  · cases hb
 ·
  rcases h.2 with ⟨_, h2, h3⟩ | ⟨b, _, _, ho⟩
  · omega
  · exact ho.2.2.1
theorem flat_at {l : List Int} {j : Nat} {u : Value} (h : (l.flatMap ic)[j]? = some u) : ∃ x, l[j]? = some x ∧ u = .int .i64 x := by
 have e : ∀ l : List Int, l.flatMap ic = l.map (fun z => Value.int .i64 z) := by
  intro l
  induction l with
  | nil => rfl
  | cons x l ih => rw [List.flatMap_cons, ih]; rfl
 rw [e, List.getElem?_map] at h
 cases hx : l[j]? with
 | none => rw [hx] at h; cases h
 | some x => rw [hx] at h; exact ⟨x, rfl, by injection h with h; exact h.symm⟩
theorem IntsR.cells {w : World} {A : Option Addr} {n : Nat} {l : List Int} (h : IntsR w A n l) (ad : Addr) (hA : A = some ad) : ∀ j u, (l.flatMap ic)[j]? = some u → w.cell? (ad.add j) = some u := by
 intro j u hu
 obtain ⟨x, hx, rfl⟩ := flat_at hu
 have hj : j < n := by have := (List.getElem?_eq_some_iff.1 hx).1; have := h.1; omega
 obtain ⟨b, o, x', e, _, hx', c⟩ := SlE.at_ h hj
 rw [hA] at e
 injection e with e
 subst e
 rw [hx] at hx'
 injection hx' with hx'
 subst hx'
 have e2 : (⟨b, o, none⟩ : Addr).add j = ⟨b, o + j * 1, none⟩ := by
  by_cases h : j = 0
  · subst h; simp [Addr.add]
  · simp [Addr.add, h]
 rw [e2]
 exact c
theorem LnR.src {w : World} {A : Option Addr} {n cap : Nat} {l : List Int} (h : LnR w A n cap l) : SrcW ic w A n cap l := ⟨h.1.1, h.2.1, fun ad hA => h.1.cells ad hA⟩
theorem IntsR.drop {w : World} {A B : Option Addr} {n k : Nat} {l : List Int} (h : IntsR w A n l) (hB : ∀ b o, A = some ⟨b, o, none⟩ → k < n → B = some ⟨b, o + k, none⟩) : IntsR w B (n - k) (l.drop k) := by
 have hl := h.1
 refine ⟨by simp [hl], fun hn => ?_⟩
 obtain ⟨b, o, e, h0, hx⟩ := h.2 (by omega)
 refine ⟨b, o + k, hB b o e (by omega), Nat.zero_le _, fun i x hi => ?_⟩
 rw [List.getElem?_drop] at hi
 have := hx (k + i) x hi
 rw [show o + k + i * 1 = o + (k + i) * 1 by omega]
 exact this

theorem IntsO.rd {N : Nat} {w : World} {A : Option Addr} {n cap : Nat} {l : List Int} (h : IntsO N w (.slice A n cap) l) (hn : n = l.length) : IntsR w A n l := by
 obtain ⟨A', c', e, h'⟩ := h.r
 injection e with e1 e2 e3
 subst e1 hn
 exact h'

theorem ints_snoc2 {N : Nat} {w' : World} {v' : Value} {o : List Int} {z : Int} (h : w'.ownsRow N 2 1 v' (o.length + 1) (o.flatMap ic ++ [Value.int .i64 z])) : ∃ B c, v' = .slice B (o.length + 1) c ∧ IntsO N w' (.slice B (o.length + 1) c) (o ++ [z]) := by
 obtain ⟨B, c, e, h'⟩ := ints_snoc h
 rw [show (o ++ [z]).length = o.length + 1 by simp] at e h'
 exact ⟨B, c, e, h'⟩
theorem LnR.tail {lo hi b n cap : Nat} {w : World} {A : Option Addr} {l : List Int} (h : IntsW lo hi w (some ⟨b, 0, none⟩) n cap l) (hn : 1 ≤ n) (hA : (cap = 1 ∧ A = some ⟨b, 0, none⟩) ∨ A = some ⟨b, 1, none⟩) : LnR w A (n - 1) (cap - 1) (l.drop 1) := by
 have hc := h.ln.2.2
 refine ⟨h.r.drop fun b' o e hk => ?_, fun e => ?_, by omega⟩
 ·
  injection e with e
  injection e with e1 e2
  subst e1 e2
  rcases hA with ⟨h1, _⟩ | hA
  · omega
  · exact hA
 · rcases hA with ⟨_, hA⟩ | hA <;> rw [hA] at e <;> cases e

def lineOk (l : List Int) : Bool := l.all valB && decide (l.length ≤ 40)
/-- What LinePut answers. -/
def linePut (l : List Int) (v : Int) : List Int × Bool := bif lineOk l then (bif valB v && !decide (l.length = 40) then (l ++ [v], true) else (l, false)) else ([], false)
/-- What LineTake answers. -/
def lineTake (l : List Int) : List Int × Int × Bool := bif lineOk l then (match l with | [] => ([], 0, false) | x :: t => (t, x, true)) else ([], 0, false)
/-- What Explains answers. -/
def explains (l : List Int) (x : Ev) : List Int × Bool :=
 bif lineOk l then (bif evOk x then (bif x.put then (bif x.re == 1 then linePut l x.v else (l, true)) else (bif x.re == 4 then (bif (lineTake l).2.2 && (lineTake l).2.1 == x.v then ((lineTake l).1, true) else (l, false)) else (l, decide (l.length = 0)))) else (l, false)) else ([], false)

/-- A list of numbers of the call's own, and a bool, are returned. -/
def RetIntB (q : List Int × Bool) (w : World) (e : Ending) (w' : World) : Prop := ∃ A cap, e = .returned (.tuple #[.slice A q.1.length cap, q.2]) ∧ IntsW w.heap.size w'.heap.size w' A q.1.length cap q.1 ∧ Below w.heap.size w w'
/-- A list of numbers of the call's own, a number and a bool are returned. -/
def RetIntVB (q : List Int × Int × Bool) (w : World) (e : Ending) (w' : World) : Prop := ∃ A cap, e = .returned (.tuple #[.slice A q.1.length cap, q.2.1, q.2.2]) ∧ IntsW w.heap.size w'.heap.size w' A q.1.length cap q.1 ∧ Below w.heap.size w w'
theorem ints_none {w w' : World} (h : Below w.heap.size w w') : IntsW w.heap.size (w'.alloc (.cells #[] 2)).heap.size (w'.alloc (.cells #[] 2)) (some ⟨w'.heap.size, 0, none⟩) 0 0 [] := by
 obtain ⟨A', c', e, hW⟩ := SlW.of_own (f := ic) (l := []) (ints_made (N := w.heap.size) rfl h.size) rfl
 injection e with e1 _ e3
 subst e1 e3
 exact hW

/-- A list with one more is returned, and true. -/
theorem RetIntB.snoc {l : List Int} {v : Int} {B : Option Addr} {c N : Nat} {w w' : World} (h : IntsO N w' (.slice B (l.length + 1) c) (l ++ [v])) (hN : w.heap.size ≤ N) (hb : Below w.heap.size w w') : RetIntB (l ++ [v], true) w (.returned (.tuple #[.slice B (l.length + 1) c, .bool true])) w' := by
 have e : (l ++ [v]).length = l.length + 1 := by simp
 rw [← e] at h ⊢
 exact ⟨B, c, rfl, SlW.mono (ints_w h) hN (Nat.le_refl _), hb⟩
theorem RetIntB.mk {l : List Int} {b : Bool} {B : Option Addr} {n c N : Nat} {w w' : World} (h : IntsW N w'.heap.size w' B n c l) (hN : w.heap.size ≤ N) (hb : Below w.heap.size w w') : RetIntB (l, b) w (.returned (.tuple #[.slice B n c, b])) w' := by
 obtain rfl := h.1
 exact ⟨B, c, rfl, SlW.mono h hN (Nat.le_refl _), hb⟩
theorem RetIntB.none {b : Bool} {w w' : World} (hb : Below w.heap.size w w') {k : Nat} (hk : k = w'.heap.size) : RetIntB ([], b) w (.returned (.tuple #[.slice (some ⟨k, 0, none⟩) 0 0, b])) (w'.alloc (.cells #[] 2)) := by
 subst hk
 exact ⟨_, _, rfl, ints_none hb, hb.alloc hb.size _⟩

theorem RetIntVB.mk {l : List Int} {z : Int} {b : Bool} {B : Option Addr} {n c N : Nat} {w w' : World} (h : IntsW N w'.heap.size w' B n c l) (hN : w.heap.size ≤ N) (hb : Below w.heap.size w w') : RetIntVB (l, z, b) w (.returned (.tuple #[.slice B n c, z, b])) w' := by
 obtain rfl := h.1
 exact ⟨B, c, rfl, SlW.mono h hN (Nat.le_refl _), hb⟩
theorem RetIntVB.none {z : Int} {b : Bool} {w w' : World} (hb : Below w.heap.size w w') {k : Nat} (hk : k = w'.heap.size) : RetIntVB ([], z, b) w (.returned (.tuple #[.slice (some ⟨k, 0, none⟩) 0 0, z, b])) (w'.alloc (.cells #[] 2)) := by
 subst hk
 exact ⟨_, _, rfl, ints_none hb, hb.alloc hb.size _⟩
theorem lineOk_no {l : List Int} {i : Nat} {x : Int} (hx : l[i]? = some x) (h : valB x = false) : lineOk l = false := by
 have : l.all valB = false := by rw [List.all_eq_false]; exact ⟨x, List.mem_of_getElem? hx, by simp [h]⟩
 simp [lineOk, this]
theorem allv_yes {l : List Int} (h : ∀ (j : Nat) x, j < l.length → l[j]? = some x → valB x = true) : l.all valB = true := by
 rw [List.all_eq_true]
 intro x hx
 obtain ⟨j, hj⟩ := List.mem_iff_getElem?.1 hx
 exact h j x (List.getElem?_eq_some_iff.1 hj).1 hj
theorem allv_next {l : List Int} {i : Nat} {x : Int} (h : ∀ (j : Nat) y, j < i → l[j]? = some y → valB y = true) (hx : l[i]? = some x) (hk : valB x = true) : ∀ (j : Nat) y, j < i + 1 → l[j]? = some y → valB y = true := fun j y hj hy => by
 by_cases hji : j < i
 · exact h j y hji hy
 ·
  obtain rfl : j = i := by omega
  rw [hx] at hy
  injection hy with hy
  subst hy
  exact hk
theorem lineOk_len {l : List Int} (h : lineOk l = true) : l.length ≤ 40 := by
 simp [lineOk] at h; exact h.2

set_option maxHeartbeats 1000000 in
theorem slineOk_any (l : List Int) (A : Option Addr) (n cap : Nat) (w : World) (h : IntsR w A n l) (hn : n ≤ 1073741824) :
  Calls Tryz.prog 53 #[.slice A n cap] w (RetBelow (.bool (lineOk l)) w) := by
 have HL := Lib.hid h.1
 go_enter Tryz.func53, Tryz.ntmps53
 go_wp2
 go_loopw [3] (fun s3 W => ∃ i : Nat, i ≤ n ∧ s3 = .int .i64 i ∧ Below w.heap.size w W ∧ ∀ (j : Nat) x, j < i → l[j]? = some x → valB x = true) (fun s3 _ => n - (intOf s3).toNat)
 case atStart => exact ⟨0, Nat.zero_le _, rfl, Below.refl _ _, fun j x h => absurd h (by omega)⟩
 case round =>
  obtain ⟨i, hin, rfl, hB, hal⟩ := hrel
  have HAL := Lib.hid hal; clear hal
  by_cases hlt : i < n
  ·
   obtain ⟨b, o, x, rfl, _, hx, c0⟩ := SlE.at_ (SlE.keep IE.kept h (fun j _ hj => hB.block j hj)) hlt
   unfold IE at c0
   rw [Nat.mul_one] at c0
   have HX := Lib.hid hx; clear hx
   have g1 : (i : Int) < (n : Int) := by omega
   have g2 : (0 : Int) ≤ (i : Int) := by omega
   go_wp2_with fail
   refine (l1Value_any x _).mono ?_
   rintro e w1 ⟨rfl, rfl⟩
   clear c0
   cases hok : valB x
   ·
    go_wp2
    go_ret
    exact .mk (by rw [lineOk_no HX.out hok]; rfl) hB
   ·
    have HOK := Lib.hid hok; clear hok
    go_wp2
    go_roundw
    case rel => exact ⟨i + 1, by omega, by go_num, hB, allv_next HAL.out HX.out HOK.out⟩
    case measure => simp [intOf]; omega
  ·
   have g1 : ¬ (i : Int) < (n : Int) := by omega
   obtain rfl : n = i := by omega
   have HV := Lib.hid (show lineOk l = decide ((n : Int) ≤ 40) by
    rw [lineOk, allv_yes (by rw [HL.out]; exact HAL.out), HL.out, Bool.true_and]
    exact decide_eq_decide.2 (by omega))
   go_wp2
   go_ret
   exact .mk (congrArg Value.bool HV.out.symm) hB

end Go.Proofs.YtiiaimjlohpemaaGreat

/-
 What a line does: put, taken, and what an event makes of it, on both sides.
-/
namespace Go.Proofs.YtiiaimjlohpemaaGreat
set_option linter.unusedSimpArgs false
set_option linter.unusedVariables false
open Go.RowKit
set_option linter.unusedVariables false
attribute [local go_sem ↓] Go.wp_at_zero Go.wp_at_succ

set_option maxRecDepth 100000 in
set_option maxHeartbeats 2000000 in
theorem slinePut_any (l : List Int) (v : Int) (A : Option Addr) (n cap : Nat) (w : World) (h : LnR w A n cap l) (hn : n ≤ 1048576) :
  Calls Tryz.prog 55 #[.slice A n cap, v] w (RetIntB (linePut l v) w) := by
 obtain ⟨i0, hi0, hz0, hz1, hz2⟩ := info_parts int_info
 have HI := Lib.hid hi0
 have HZ0 := Lib.hid hz0
 have HZ1 := Lib.hid hz1
 have HZ2 := Lib.hid hz2
 clear hi0 hz0 hz1 hz2
 have HL := Lib.hid h.1.1
 go_enter Tryz.func55, Tryz.ntmps55
 go_wp2_with fail
 refine (slineOk_any l A n cap _ h.1 (by omega)).mono ?_
 rintro e w1 ⟨rfl, hb1⟩
 have hB := hb1
 replace h := h.below hb1
 clear hb1
 cases hok : lineOk l
 ·
  have HQ := Lib.hid (show linePut l v = ([], false) by simp [linePut, hok])
  clear hok
  go_wp2
  go_ret2
  rw [HQ.out]
  exact .none hB rfl
 have HOK := Lib.hid hok
 have hn4 : n ≤ 40 := by rw [← HL.out]; exact lineOk_len hok
 clear hok
 go_wp2_with fail
 refine (l1Value_any v _).mono ?_
 rintro e w2 ⟨rfl, rfl⟩
 have HQ0 := Lib.hid (show linePut l v = bif valB v && !decide (n = 40) then (l ++ [v], true) else (l, false) by rw [linePut, HOK.out, HL.out]; rfl)
 cases hv : valB v
 ·
  have HQ := Lib.hid (show linePut l v = (l, false) by rw [HQ0.out, hv]; rfl)
  clear hv HQ0
  go_wp2_with fail
  refine (l1Copy_any l A n cap _ h.src hn).mono ?_
  rintro e w5 ⟨A5, c5, rfl, hW5, hb5⟩
  go_wp2
  go_ret2
  rw [HQ.out]
  exact .mk hW5 hB.size (bstep hB hB.size hb5)
 by_cases h40 : n = 40
 ·
  have HQ := Lib.hid (show linePut l v = (l, false) by rw [HQ0.out, hv, h40]; rfl)
  subst h40
  clear hv HQ0
  go_wp2_with fail
  refine (l1Copy_any l A _ cap _ h.src hn).mono ?_
  rintro e w5 ⟨A5, c5, rfl, hW5, hb5⟩
  go_wp2
  go_ret2
  rw [HQ.out]
  exact .mk hW5 hB.size (bstep hB hB.size hb5)
 ·
  have HQ := Lib.hid (show linePut l v = (l ++ [v], true) by rw [HQ0.out, hv]; simp [h40])
  clear hv HQ0
  have g1 : ¬ (n : Int) = 40 := by omega
  go_wp2_with fail
  refine (l1Copy_any l A n cap _ h.src hn).mono ?_
  rintro e w5 ⟨A5, c5, rfl, hW5, hb5⟩
  have hO5 := IntsW.o hW5
  clear hW5
  go_wp2_with (at_builtin; go_must (refine wpList_append_own_at _ rfl (.tmp 21) (.tmp 23) _ rfl w1.heap.size 2 i0 _ 1 8 Tryz.underlying42 HI.out HZ0.out HZ1.out HZ2.out rfl (by omega) (.slice A5 l.length c5) l.length _ rfl (hO5.below ((Below.refl _ _).alloc (Nat.le_refl _) _)) ⟨w5.heap.size, 0, none⟩ 1 1 [v] rfl rfl (news_at rfl) (int1 _) (by have := HL.out; unfold maxLen; omega) (by have := HL.out; omega) (by simp; have := hb5.size; omega) ?_; intro v' w6 hO' hg' hz' hat'; obtain ⟨B6, c6, rfl, hP6⟩ := ints_snoc2 hO'; have hB6 := Below.grown ((bstep hB hB.size hb5).alloc (Nat.le_trans hB.size hb5.size) _) hg' (by simp; have := hB.size; have := hb5.size; omega) (fun k hk => Nat.le_trans hB.size (ints_ge hO5 k hk))))
  go_ret2
  rw [HQ.out]
  exact .snoc hP6 hB.size hB6

def ltSV (M b n cap : Nat) (l : List Int) (x : Int) : List Sl := [.v (.slice (some ⟨b, 0, none⟩) n cap),
 .e fun σ w => ∃ (A1 : Option Addr) (k1 : Nat), σ 1 = .slice A1 (n - 1) k1 ∧ LnR w A1 (n - 1) k1 (l.drop 1),
 .e fun σ w => ∃ (A2 : Option Addr) (c2 : Nat), σ 2 = .slice A2 (n - 1) c2 ∧ IntsW M w.heap.size w A2 (n - 1) c2 (l.drop 1),
 .v (.slice (some ⟨b, 0, none⟩) n cap),
 .v (pT b),
 .v x,
 .e fun σ w => ∃ (A2 : Option Addr) (c2 : Nat), σ 6 = .slice A2 (n - 1) c2 ∧ IntsW M w.heap.size w A2 (n - 1) c2 (l.drop 1),
 .v x,
 .v (.bool true)]

set_option maxRecDepth 100000 in
set_option maxHeartbeats 2000000 in
theorem slineTake_any (l : List Int) (A : Option Addr) (n cap lo hi : Nat) (w : World) (h : IntsW lo hi w A n cap l) (hh : hi ≤ w.heap.size) (hn : n ≤ 1048576) :
  Calls Tryz.prog 56 #[.slice A n cap] w (RetIntVB (lineTake l) w) := by
 have HL := Lib.hid h.1
 go_enter Tryz.func56, Tryz.ntmps56
 go_wp2_with fail
 refine (slineOk_any l A n cap _ h.r (by omega)).mono ?_
 rintro e w1 ⟨rfl, hb1⟩
 have hB := hb1
 replace h := SlW.below h hb1 hh
 replace hh := Nat.le_trans hh hb1.size
 clear hb1
 cases hok : lineOk l
 ·
  have HQ := Lib.hid (show lineTake l = ([], 0, false) by simp [lineTake, hok])
  clear hok
  go_wp2
  go_ret3
  rw [HQ.out]
  exact .none hB rfl
 have HOK := Lib.hid hok
 have hn4 : n ≤ 40 := by rw [← HL.out]; exact lineOk_len hok
 clear hok
 by_cases h0 : n = 0
 ·
  have HQ := Lib.hid (show lineTake l = ([], 0, false) by
   have := List.eq_nil_of_length_eq_zero (HL.out.trans h0)
   subst this
   simp [lineTake])
  subst h0
  go_wp2
  go_ret3
  rw [HQ.out]
  exact .none hB rfl
 obtain ⟨b, x, rfl, _, _, hx, hcx⟩ := SlW.at_ h ic_len (i := 0) (by omega)
 have hxc : CellsAt w1 b 0 [x] := fun j u hu => by have := hcx j u hu; rw [Nat.zero_mul] at this; exact this
 have HQ := Lib.hid (show lineTake l = (l.drop 1, x, true) by
  cases l with
  | nil => simp at hx
  | cons y t => simp at hx; subst hx; simp [lineTake, HOK.out])
 have hn1 : 1 ≤ n := by omega
 have hnc : n ≤ cap := (IntsW.ln h).2.2
 have hI := h
 have hhi := hh
 obtain ⟨M, hMe⟩ : ∃ M, M = w1.heap.size := ⟨_, rfl⟩
 have hM : M ≤ w1.heap.size := by omega
 have hW0 : w.heap.size ≤ M := by have := hB.size; omega
 clear hMe
 clear hx hcx h hh
 have g1 : ¬ (n : Int) = 0 := by omega
 have hn0 : 0 < n := hn1
 have hn2 : (1 : Int) ≤ (n : Int) := by omega
 go_upto_region 5 with fail
 refine wp_region2v (fun w w' => Below w.heap.size w w') (fun _ _ h => h.size) (fun _ => Below.refl _ _) (fun L W' => Below w.heap.size w W' ∧ M ≤ W'.heap.size ∧ hi ≤ W'.heap.size ∧ IntsW lo hi W' (some ⟨b, 0, none⟩) n cap l ∧ CellsAt W' b 0 [x]) (ltSV M b n cap l x) (fun _ => 0) [] (by kernel_rfl) (by kernel_rfl) ?_ ?_ ?_
  (.still rfl ?a0 <| .grow rfl ?a1 <| .grow rfl ?a2 <| .still rfl ?a3 <| .still rfl ?a4 <| .still rfl ?a5 <| .still rfl ?a6 <| .still rfl ?a7 <| .still rfl ?a8 <| .nil) ?_ ?_
 · exact ⟨fun _ _ _ h ⟨A1, k1, e, hp⟩ => ⟨A1, k1, (h 1 (List.mem_singleton.2 rfl)).symm.trans e, hp⟩, fun _ _ _ h ⟨A2, c2, e, hp⟩ => ⟨A2, c2, (h 2 (List.mem_singleton.2 rfl)).symm.trans e, hp⟩, fun _ _ _ h ⟨A2, c2, e, hp⟩ => ⟨A2, c2, (h 6 (List.mem_singleton.2 rfl)).symm.trans e, hp⟩, trivial⟩
 · exact ⟨fun σ w w' hb ⟨A1, k1, e, hp⟩ => ⟨A1, k1, e, hp.below hb⟩, fun σ w w' hb ⟨A2, c2, e, hp⟩ => ⟨A2, c2, e, hp.belowS hb⟩, fun σ w w' hb ⟨A2, c2, e, hp⟩ => ⟨A2, c2, e, hp.belowS hb⟩, trivial⟩
 · exact ⟨hB.drew, hM, hhi, hI, hxc⟩
 case a0 | a3 | a4 | a7 | a8 =>
  go_light
  intro L σ W' hcl hL hC hw
  try have e3 := wT hw 3 rfl
  try have e5 := wT hw 5 rfl
  exact zordT0
 case a5 =>
  go_light
  intro L σ W' hcl hL hC hw
  have e4 := wV hw 4 rfl
  have dj := hC.2.2.2.2 0 _ rfl
  exact zordT0
 case a1 =>
  go_light
  intro L σ W' hcl hL hC hw
  have e0 := wV hw 0 rfl
  clear hw
  obtain ⟨hB, hM, hhi, hI, hxc⟩ := hC
  have hncg := hnc
  have g1 : (0 : Int) ≤ 1 := by omega
  clear hcl hL
  refine OpGoes.go fun K hK => ?_
  go_simp
  refine hK _ _ ⟨⟨hB, hM, hhi, hI, hxc⟩, ⟨_, _, rfl, ?_⟩, Below.refl _ _⟩
  by_cases hcp : cap = 1
  · exact .tail hI hn1 (.inl ⟨hcp, by simp [hcp]⟩)
  · exact .tail hI hn1 (.inr (by simp [hcp, Addr.add]))
 case a2 =>
  go_light
  intro L σ W' hcl hL hC hw
  obtain ⟨A1, k1, e1, hp1⟩ := wE hw 1 rfl
  clear hw
  have HC := Lib.hid hC
  clear hC
  clear hcl hL
  refine OpGoes.go fun K hK => ?_
  go_simp
  obtain ⟨hB, hM, hhi, hI, hxc⟩ := HC.out
  refine (l1CopyN (l.drop 1) A1 (n - 1) k1 _ hp1.src (by omega)).mono ?_
  rintro e w1 ⟨A2, c2, rfl, hW2, hb1⟩
  exact ⟨_, rfl, hK _ _ ⟨⟨bstep hB hB.size hb1, Nat.le_trans hM hb1.size, Nat.le_trans hhi hb1.size, SlW.below hI hb1 hhi, hxc.below hb1⟩, ⟨A2, c2, rfl, SlW.mono hW2 hM (Nat.le_refl _)⟩, hb1⟩⟩
 case a6 =>
  go_light
  intro L σ W' hcl hL hC hw
  obtain ⟨A2, c2, e2, hp2⟩ := wE hw 2 rfl
  clear hw hcl hL hC
  refine OpGoes.go fun K hK => ?_
  go_simp
  exact hK _ _ ⟨rfl, ⟨A2, c2, rfl, hp2⟩⟩
 ·
  intro L L' W' hLL hC
  obtain ⟨hB, hM, hhi, hI, hxc⟩ := hC
  exact ⟨hB, hM, hhi, hI, hxc⟩
 ·
  intro σ L W' hall hC hRR
  obtain ⟨hB, hM, hhi, hI, hxc⟩ := hC
  obtain ⟨A2, c2, e6, hp6⟩ := dE hRR 6 rfl
  have e7 := dV hRR 7 rfl
  have e8 := dV hRR 8 rfl
  clear hRR
  simp only [lexAll]
  go_simp
  go_wp2
  go_ret3
  rw [HQ.out]
  exact .mk hp6 hW0 hB

end Go.Proofs.YtiiaimjlohpemaaGreat

/-
 What an event makes of a line, on both sides.
-/
namespace Go.Proofs.YtiiaimjlohpemaaGreat
set_option linter.unusedSimpArgs false
set_option linter.unusedVariables false
open Go.RowKit
set_option linter.unusedVariables false
attribute [local go_sem ↓] Go.wp_at_zero Go.wp_at_succ

theorem ev_shape {x : Ev} (h : evOk x = true) : (x.put = true ∧ (x.re = 1 ∨ x.re = 2)) ∨ (x.put = false ∧ (x.re = 4 ∨ x.re = 3)) := by
 cases hp : x.put
 ·
  refine .inr ⟨rfl, ?_⟩
  by_cases h4 : x.re = 4
  · exact .inl h4
  ·
   by_cases h3 : x.re = 3
   · exact .inr h3
   · simp [evOk, hp, h3, h4] at h
 ·
  refine .inl ⟨rfl, ?_⟩
  by_cases h1 : x.re = 1
  · exact .inl h1
  ·
   by_cases h2 : x.re = 2
   · exact .inr h2
   · simp [evOk, hp, h1, h2] at h
theorem ex_no {l : List Int} {x : Ev} (h : lineOk l = false) : explains l x = ([], false) := by simp [explains, h]
theorem ex_ev {l : List Int} {x : Ev} (h : lineOk l = true) (he : evOk x = false) : explains l x = (l, false) := by simp [explains, h, he]
theorem ex1 {l : List Int} {x : Ev} (h : lineOk l = true) (he : evOk x = true) (hp : x.put = true) (hr : x.re = 1) : explains l x = linePut l x.v := by simp [explains, h, he, hp, hr]
theorem ex2 {l : List Int} {x : Ev} (h : lineOk l = true) (he : evOk x = true) (hp : x.put = true) (hr : x.re = 2) : explains l x = (l, true) := by simp [explains, h, he, hp, hr]
theorem ex4 {l : List Int} {x : Ev} (h : lineOk l = true) (he : evOk x = true) (hp : x.put = false) (hr : x.re = 4) : explains l x = bif (lineTake l).2.2 && (lineTake l).2.1 == x.v then ((lineTake l).1, true) else (l, false) := by simp [explains, h, he, hp, hr]
theorem ex3 {l : List Int} {x : Ev} (h : lineOk l = true) (he : evOk x = true) (hp : x.put = false) (hr : x.re = 3) : explains l x = (l, decide (l.length = 0)) := by simp [explains, h, he, hp, hr]
theorem RetIntB.up {q : List Int × Bool} {w w1 w' : World} {e : Ending} (h : RetIntB q w1 e w') (hb : Below w.heap.size w w1) : RetIntB q w e w' := by
 obtain ⟨A, c, he, hW, hb'⟩ := h
 exact ⟨A, c, he, SlW.mono hW hb.size (Nat.le_refl _), bstep hb hb.size hb'⟩

set_option maxRecDepth 100000 in
set_option maxHeartbeats 2000000 in
theorem sexplains_any (l : List Int) (x : Ev) (A : Option Addr) (n cap lo hi : Nat) (w : World) (h : IntsW lo hi w A n cap l) (hh : hi ≤ w.heap.size) (hn : n ≤ 1048576) :
  Calls Tryz.prog 43 #[.slice A n cap, .agg #[x.who, x.put, x.v, x.re, x.b, x.e]] w (RetIntB (explains l x) w) := by
 have HL := Lib.hid h.1
 go_enter Tryz.func43, Tryz.ntmps43
 go_wp2_with fail
 refine calls_abs (fun W => Below w.heap.size w W ∧ BoxAt W w.heap.size #[x.who, x.put, x.v, x.re, x.b, x.e] 32 ∧ IntsW lo hi W A n cap l) ⟨(Below.refl _ _).alloc (Nat.le_refl _) _, BoxAt.new _ _ _, SlW.al h hh _⟩ ?_
 clear h
 rintro W ⟨hB, hx, h⟩
 replace hh := Nat.le_trans hh hB.size
 refine (slineOk_any l A n cap _ h.r (by omega)).mono ?_
 rintro e w1 ⟨rfl, hb1⟩
 replace h : IntsW lo hi _ A n cap l := SlW.below h hb1 hh
 replace hh := Nat.le_trans hh hb1.size
 replace hx := hx.below hb1 hx.lt
 replace hB := bstep hB hB.size hb1
 clear hb1
 cases hok : lineOk l
 ·
  have HQ := Lib.hid (ex_no (x := x) hok)
  clear hok
  go_wp2
  go_ret2
  rw [HQ.out]
  exact .none hB rfl
 have HOK := Lib.hid hok
 clear hok
 have kx := hx.cell
 go_wp2_with fail
 refine (l10Event_any x _).mono ?_
 rintro e w3 ⟨rfl, hb2⟩
 replace h : IntsW lo hi _ A n cap l := SlW.below h hb2 hh
 replace hh := Nat.le_trans hh hb2.size
 replace hx := hx.below hb2 hx.lt
 replace hB := bstep hB hB.size hb2
 clear hb2 kx
 have kx := hx.cell
 cases hev : evOk x
 ·
  have HQ := Lib.hid (ex_ev HOK.out hev)
  clear hev
  go_wp2_with fail
  refine (l1CopyN l A n cap _ h.ln.src (by omega)).mono ?_
  rintro e w5 ⟨S, cS, rfl, hS, hb5⟩
  exact zordT1
 have HEV := Lib.hid hev
 have HSH := Lib.hid (ev_shape hev)
 clear hev
 rcases HSH.out with ⟨hp, hr | hr⟩ | ⟨hp, hr | hr⟩
 ·
  have HQ := Lib.hid (ex1 HOK.out HEV.out hp hr)
  rw [hr] at kx
  clear hp hr HSH
  go_wp2_with fail
  refine (slinePut_any l x.v A n cap _ h.ln (by omega)).mono ?_
  rintro e w5 ⟨A5, c5, rfl, hW5, hb5⟩
  go_wp2
  go_ret2
  rw [HQ.out]
  exact .up ⟨A5, c5, rfl, hW5, hb5⟩ hB
 ·
  have HQ := Lib.hid (ex2 HOK.out HEV.out hp hr)
  rw [hr] at kx
  clear hp hr HSH
  go_wp2_with fail
  refine (l1CopyN l A n cap _ h.ln.src (by omega)).mono ?_
  rintro e w5 ⟨S, cS, rfl, hS, hb5⟩
  exact zordT1
 ·
  have HQ0 := Lib.hid (ex4 HOK.out HEV.out hp hr)
  rw [hr] at kx hx
  clear hp hr HSH
  go_wp2_with fail
  refine (slineTake_any l A n cap lo hi _ h hh (by omega)).mono ?_
  rintro e w5 ⟨A5, c5, rfl, hW5, hb2⟩
  have hs4 := hB.size
  replace hW5 := SlW.mono hW5 hs4 (Nat.le_refl _)
  replace h : IntsW lo hi _ A n cap l := SlW.below h hb2 hh
  replace hh := Nat.le_trans hh hb2.size
  replace hx := hx.below hb2 hx.lt
  replace hB := bstep hB hB.size hb2
  clear hb2 kx
  have kx := hx.cell
  generalize lineTake l = q at *
  obtain ⟨q1, q2, q3⟩ := q
  cases q3
  ·
   have HQ := Lib.hid (show explains l x = (l, false) from HQ0.out)
   clear HQ0 hW5
   go_wp2_with fail
   refine (l1CopyN l A n cap _ h.ln.src (by omega)).mono ?_
   rintro e w6 ⟨S, cS, rfl, hS, hb5⟩
   exact zordT1
  ·
   cases hv : q2 == x.v
   ·
    have HQ := Lib.hid (show explains l x = (l, false) by rw [HQ0.out]; simp [hv])
    clear HQ0 hW5
    have hne : (q2 != x.v) = true := by rw [bne, hv]; rfl
    go_wp2_with fail
    refine (l1CopyN l A n cap _ h.ln.src (by omega)).mono ?_
    rintro e w6 ⟨S, cS, rfl, hS, hb5⟩
    exact zordT1
   ·
    have HQ := Lib.hid (show explains l x = (q1, true) by rw [HQ0.out]; simp [hv])
    clear HQ0
    have hne : (q2 != x.v) = false := by rw [bne, hv]; rfl
    go_wp2
    go_ret2
    rw [HQ.out]
    exact .mk hW5 (Nat.le_refl _) hB
 ·
  have HQ := Lib.hid (ex3 HOK.out HEV.out hp hr)
  rw [hr] at kx
  clear hp hr HSH
  have HD := Lib.hid (show ((n : Int) == 0) = decide (l.length = 0) by rw [HL.out]; by_cases h0 : n = 0 <;> simp [h0])
  go_wp2_with fail
  refine (l1CopyN l A n cap _ h.ln.src (by omega)).mono ?_
  rintro e w5 ⟨S, cS, rfl, hS, hb5⟩
  have hs5 := hB.size
  replace hB := bstep hB hB.size hb5
  go_wp2
  go_ret2
  rw [HQ.out, ← HD.out]
  exact .mk hS hs5 hB

end Go.Proofs.YtiiaimjlohpemaaGreat

/-
 In how many orders the events of a list, each one explained by the line before it, may stand one after the other.
-/
namespace Go.Proofs.YtiiaimjlohpemaaGreat
set_option linter.unusedSimpArgs false
set_option linter.unusedVariables false
open Go.RowKit
set_option linter.unusedVariables false

def sumN (f : Nat → Nat) : Nat → Nat
 | 0 => 0
 | i + 1 => sumN f i + f i
/-- Nothing that is left ends before x begins. -/
def nextE (left : List Ev) (x : Ev) : Bool := left.all fun o => !decide (o.e < x.b)
/-- What event i of those left leads to, if it goes on from the line. -/
def stepN (c : List Ev → List Int → Nat) (left : List Ev) (line : List Int) (i : Nat) : Nat := match left[i]? with
 | some x => bif (explains line x).2 && nextE left x then c (left.eraseIdx i) (explains line x).1 else 0
 | none => 0
/-- The number of orders of k events. -/
def cntO : Nat → List Ev → List Int → Nat
 | 0, _, _ => 1
 | k + 1, left, line => sumN (stepN (cntO k) left line) left.length

theorem stepN_at {c : List Ev → List Int → Nat} {left : List Ev} {line : List Int} {i : Nat} {x : Ev} (h : left[i]? = some x) : stepN c left line i = bif (explains line x).2 && nextE left x then c (left.eraseIdx i) (explains line x).1 else 0 := by
 unfold stepN; rw [h]
theorem sumN_mono {f : Nat → Nat} {i j : Nat} (h : i ≤ j) : sumN f i ≤ sumN f j := by
 induction j with
 | zero =>
  obtain rfl : i = 0 := by omega
  exact Nat.le_refl _
 | succ j ih =>
  by_cases e : i = j + 1
  · subst e; exact Nat.le_refl _
  ·
   have := ih (by omega)
   simp only [sumN]; omega
theorem nextE_no {left : List Ev} {x o : Ev} {i : Nat} (h : left[i]? = some o) (hb : o.e < x.b) : nextE left x = false := by
 rw [nextE, List.all_eq_false]
 exact ⟨o, List.mem_of_getElem? h, by simp [hb]⟩
theorem nextE_yes {left : List Ev} {x : Ev} (h : ∀ (j : Nat) o, j < left.length → left[j]? = some o → ¬ o.e < x.b) : nextE left x = true := by
 rw [nextE, List.all_eq_true]
 intro o ho
 obtain ⟨j, hj⟩ := List.mem_iff_getElem?.1 ho
 have := h j o (List.getElem?_eq_some_iff.1 hj).1 hj
 simp; omega

/-! ### Sets of places as numbers -/

def pick : List Ev → Nat → List Ev
 | [], _ => []
 | x :: t, m => if m % 2 = 1 then x :: pick t (m / 2) else pick t (m / 2)
def rank (m : Nat) : Nat → Nat
 | 0 => 0
 | i + 1 => rank m i + (m / 2 ^ i) % 2

theorem rank_cons (m : Nat) : ∀ i, rank m (i + 1) = m % 2 + rank (m / 2) i
 | 0 => by simp [rank]
 | i + 1 => by
  rw [rank, rank_cons m i, rank, Nat.div_div_eq_div_mul, ← Nat.pow_succ', Nat.add_assoc]
theorem pick_len : ∀ (l : List Ev) (m : Nat), (pick l m).length = rank m l.length
 | [], m => rfl
 | x :: t, m => by
  rw [List.length_cons, rank_cons, pick]
  have := pick_len t (m / 2)
  split
  · rename_i h; rw [List.length_cons, this, h]; omega
  · rename_i h; rw [this]; omega
theorem pick_at : ∀ (l : List Ev) (m i : Nat), m / 2 ^ i % 2 = 1 → i < l.length → (pick l m)[rank m i]? = l[i]?
 | [], m, i, _, h => absurd h (by simp)
 | x :: t, m, 0, hb, h => by
  have hb' : m % 2 = 1 := by simpa using hb
  rw [pick, if_pos hb']; rfl
 | x :: t, m, i + 1, hb, h => by
  have hb' : m / 2 / 2 ^ i % 2 = 1 := by rw [Nat.div_div_eq_div_mul, ← Nat.pow_succ']; exact hb
  have ih := pick_at t (m / 2) i hb' (by simpa using h)
  rw [pick, rank_cons]
  split
  ·
   rename_i h1
   rw [h1, Nat.add_comm, List.getElem?_cons_succ, List.getElem?_cons_succ, ih]
  ·
   rename_i h1
   rw [show m % 2 = 0 by omega, Nat.zero_add, List.getElem?_cons_succ, ih]
theorem pick_del : ∀ (l : List Ev) (m i : Nat), m / 2 ^ i % 2 = 1 → i < l.length → pick l (m - 2 ^ i) = (pick l m).eraseIdx (rank m i)
 | [], m, i, _, h => absurd h (by simp)
 | x :: t, m, 0, hb, h => by
  have hb' : m % 2 = 1 := by simpa using hb
  have h1 : ¬ (m - 2 ^ 0) % 2 = 1 := by simp; omega
  have h2 : (m - 2 ^ 0) / 2 = m / 2 := by simp; omega
  rw [pick, if_neg h1, pick, if_pos hb', h2]; rfl
 | x :: t, m, i + 1, hb, h => by
  have hb' : m / 2 / 2 ^ i % 2 = 1 := by rw [Nat.div_div_eq_div_mul, ← Nat.pow_succ']; exact hb
  have ih := pick_del t (m / 2) i hb' (by simpa using h)
  have hp : 2 ^ (i + 1) = 2 * 2 ^ i := by rw [Nat.pow_succ']
  have hge : 2 ^ i ≤ m / 2 := by
   by_cases hlt : m / 2 < 2 ^ i
   · rw [Nat.div_eq_of_lt hlt] at hb'; simp at hb'
   · omega
  have h1 : (m - 2 ^ (i + 1)) % 2 = m % 2 := by omega
  have h2 : (m - 2 ^ (i + 1)) / 2 = m / 2 - 2 ^ i := by omega
  rw [pick, pick, rank_cons, h1, h2, ih]
  split
  ·
   rename_i h3
   rw [h3, Nat.add_comm 1, List.eraseIdx_cons_succ]
  ·
   rename_i h3
   rw [show m % 2 = 0 by omega, Nat.zero_add]
theorem pick_sub {l : List Ev} {m i : Nat} (hb : m / 2 ^ i % 2 = 1) : 2 ^ i ≤ m := by
 by_cases hlt : m < 2 ^ i
 · rw [Nat.div_eq_of_lt hlt] at hb; simp at hb
 · omega
theorem pick_all : ∀ (l : List Ev), pick l (2 ^ l.length - 1) = l
 | [] => rfl
 | x :: t => by
  have hp : 2 ^ (t.length + 1) = 2 * 2 ^ t.length := by rw [Nat.pow_succ']
  have h0 : 0 < 2 ^ t.length := Nat.pow_pos (by omega)
  have h1 : (2 ^ (t.length + 1) - 1) % 2 = 1 := by omega
  have h2 : (2 ^ (t.length + 1) - 1) / 2 = 2 ^ t.length - 1 := by omega
  rw [List.length_cons, pick, if_pos h1, h2, pick_all t]
theorem pick_nil {l : List Ev} {m : Nat} (hm : m < 2 ^ l.length) (h : pick l m = []) : m = 0 := by
 induction l generalizing m with
 | nil => simp at hm; exact hm
 | cons x t ih =>
  rw [pick] at h
  split at h
  · cases h
  ·
   have hp : 2 ^ (t.length + 1) = 2 * 2 ^ t.length := by rw [Nat.pow_succ']
   rw [List.length_cons] at hm
   have := ih (m := m / 2) (by omega) h
   omega
theorem pick_zero (l : List Ev) : pick l 0 = [] := by
 induction l with
 | nil => rfl
 | cons x t ih => rw [pick]; simpa using ih
/-- Whoever is picked stands at a place that is marked. -/
theorem pick_from : ∀ (l : List Ev) (m j : Nat) (x : Ev), (pick l m)[j]? = some x → ∃ i, i < l.length ∧ m / 2 ^ i % 2 = 1 ∧ l[i]? = some x ∧ rank m i = j
 | [], m, j, x, h => by simp [pick] at h
 | y :: t, m, j, x, h => by
  rw [pick] at h
  split at h
  ·
   rename_i h1
   cases j with
   | zero => exact ⟨0, by simp, by simpa using h1, by simpa using h, rfl⟩
   | succ j =>
    rw [List.getElem?_cons_succ] at h
    obtain ⟨i, hi, hb, hx, hr⟩ := pick_from t (m / 2) j x h
    refine ⟨i + 1, by simpa using hi, ?_, by simpa using hx, by rw [rank_cons, hr, h1]; omega⟩
    rw [Nat.pow_succ', ← Nat.div_div_eq_div_mul]; exact hb
  ·
   rename_i h1
   obtain ⟨i, hi, hb, hx, hr⟩ := pick_from t (m / 2) j x h
   refine ⟨i + 1, by simpa using hi, ?_, by simpa using hx, by rw [rank_cons, hr]; omega⟩
   rw [Nat.pow_succ', ← Nat.div_div_eq_div_mul]; exact hb

theorem ex_small {l : List Int} {x : Ev} (h : (explains l x).2 = true) : (explains l x).1.length ≤ 41 := by
 cases hok : lineOk l
 · rw [ex_no hok] at h; cases h
 ·
  have h40 := lineOk_len hok
  cases hev : evOk x
  · rw [ex_ev hok hev] at h; cases h
  ·
   rcases ev_shape hev with ⟨hp, hr | hr⟩ | ⟨hp, hr | hr⟩
   ·
    rw [ex1 hok hev hp hr, linePut, hok]
    cases valB x.v && !decide (l.length = 40)
    · simp; omega
    · simp; omega
   · rw [ex2 hok hev hp hr]; simp only; omega
   ·
    rw [ex4 hok hev hp hr] at h ⊢
    cases hb : ((lineTake l).2.2 && (lineTake l).2.1 == x.v)
    · simp; omega
    ·
     cases l with
     | nil => simp [lineTake, hok]
     | cons y t => simp [lineTake, hok] at h40 ⊢; omega
   · rw [ex3 hok hev hp hr]; simp only; omega

end Go.Proofs.YtiiaimjlohpemaaGreat

/-
 Events of which each one ends before the next one begins have one order, or none.
-/
namespace Go.Proofs.YtiiaimjlohpemaaGreat
set_option linter.unusedSimpArgs false
set_option linter.unusedVariables false
open Go.RowKit
set_option linter.unusedVariables false

/-- Each one explained by the line that those before it have made. -/
def chainB : List Ev → List Int → Bool
 | [], _ => true
 | x :: t, line => (explains line x).2 && chainB t (explains line x).1
/-- The law's own walk: whether all of the first i were told, and the line behind them. -/
def told (l : List Ev) : Nat → Bool × List Int
 | 0 => (true, [])
 | i + 1 => match l[i]? with
  | some x => ((told l i).1 && (explains (told l i).2 x).2, (explains (told l i).2 x).1)
  | none => told l i
end Go.Proofs.YtiiaimjlohpemaaGreat

/-
 The model's count of orders: whether one may be the next of a set.
-/
namespace Go.Proofs.YtiiaimjlohpemaaGreat
set_option linter.unusedSimpArgs false
set_option linter.unusedVariables false
open Go.RowKit
set_option linter.unusedVariables false
attribute [local go_sem] OpUpon
attribute [local go_sem ↓] Go.wp_at_zero Go.wp_at_succ

theorem bit_val (m k : Nat) (hm : m < 65536) : bits BinOp.and IntKind.i64 ((m : Int) / 2 ^ k) 1 = ((m / 2 ^ k % 2 : Nat) : Int) := by
 have e : ((m : Int) / 2 ^ k) = ((m / 2 ^ k : Nat) : Int) := by push_cast; rfl
 have hle : m / 2 ^ k ≤ m := Nat.div_le_self _ _
 rw [e]
 generalize m / 2 ^ k = q at hle
 have h := bits_mask .i64 31 (by decide) (fun n h0 h1 => by rw [IntKind.wrap_i64]; omega) 1 (by decide) (q : Int) (by omega) (by omega)
 have e1 : ((2 : Int) ^ 1 - 1) = 1 := by decide
 rw [e1] at h
 rw [h]
 omega
theorem bit_yes {m k : Nat} (hm : m < 65536) (h : m / 2 ^ k % 2 = 1) : (bits BinOp.and IntKind.i64 ((m : Int) / 2 ^ k) 1 == 1) = true := by rw [bit_val m k hm, h]; rfl
theorem bit_no {m k : Nat} (hm : m < 65536) (h : ¬ m / 2 ^ k % 2 = 1) : (bits BinOp.and IntKind.i64 ((m : Int) / 2 ^ k) 1 == 1) = false := by rw [bit_val m k hm, show m / 2 ^ k % 2 = 0 by omega]; rfl

set_option maxHeartbeats 400000 in
theorem sahead_any (x y : Ev) (w : World) : Calls Tryz.prog 26 #[.agg #[x.who, x.put, x.v, x.re, x.b, x.e], .agg #[y.who, y.put, y.v, y.re, y.b, y.e]] w (RetBelow (.bool (decide (x.e < y.b))) w) := by
 by_cases h : x.e < y.b
 all_goals
  go_enter Tryz.func26, Tryz.ntmps26
  go_wp2
  go_ret
  exact .mk (by simp [h]) (((Below.refl _ _).alloc (Nat.le_refl _) _).alloc (by simp) _)

theorem ev_cells {w : World} {b o n i : Nat} {l : List Ev} {y : Ev} (h : EvsR w (some ⟨b, o, none⟩) n l) (hi : i < n) (hy : l[i]? = some y) : EvE 0 w b (o + i * 6) y := by
 obtain ⟨b', o', y', e, _, hy', hE⟩ := SlE.at_ h hi
 injection e with e
 injection e with e1 e2
 rw [hy] at hy'
 injection hy' with hy'
 rw [hy', e1, e2]
 exact hE

/-- Whether one at k may be the next of the set m. -/
def maskNext (l : List Ev) (m k : Nat) (x : Ev) : Bool := decide (m / 2 ^ k % 2 = 1) && nextE (pick l m) x
theorem maskNext_no {l : List Ev} {m k i : Nat} {x o : Ev} (hb : m / 2 ^ i % 2 = 1) (hi : i < l.length) (ho : l[i]? = some o) (ha : o.e < x.b) : maskNext l m k x = false := by
 unfold maskNext
 rw [nextE_no (o := o) (i := rank m i) (by rw [pick_at l m i hb hi]; exact ho) ha, Bool.and_false]
theorem maskNext_end {l : List Ev} {m k : Nat} {x : Ev} (hx : l[k]? = some x) (hs : x.b ≤ x.e) (h : ∀ (j : Nat) o, j < l.length → l[j]? = some o → m / 2 ^ j % 2 = 1 → j ≠ k → x.b ≤ o.e) : maskNext l m k x = decide (m / 2 ^ k % 2 = 1) := by
 unfold maskNext
 rw [nextE_yes (fun j o hj ho => ?_), Bool.and_true]
 obtain ⟨i, hi, hb, hox, _⟩ := pick_from l m j o ho
 by_cases e : i = k
 ·
  subst e
  rw [hx] at hox; injection hox with hox; subst hox; omega
 · have := h i o hi hox hb e; omega

def nxAV (l : List Ev) (x y : Ev) (b o n cap m k i : Nat) : List Sl := [.v (.int .i64 ((m : Int))),
 .v (.int .i64 ((i : Int))),
 .v (.int .u64 (i : Int)),
 .v (.int .i64 (((m : Int) / 2 ^ i))),
 .v (.int .i64 ((bits BinOp.and IntKind.i64 ((m : Int) / 2 ^ i) 1))),
 .v (.bool false),
 .v (.bool false),
 .v undef,
 .v undef,
 .v undef,
 .v (.bool false),
 .v (.bool false),
 .v undef,
 .v undef,
 .v undef,
 .v undef,
 .v undef,
 .v undef,
 .v undef,
 .v undef,
 .v undef,
 .v (.bool false)]

def nxBV (l : List Ev) (x y : Ev) (b o n cap m k i : Nat) : List Sl := [.v (.int .i64 ((m : Int))),
 .v (.int .i64 ((i : Int))),
 .v (.int .u64 (i : Int)),
 .v (.int .i64 (((m : Int) / 2 ^ i))),
 .v (.int .i64 ((bits BinOp.and IntKind.i64 ((m : Int) / 2 ^ i) 1))),
 .v (.bool true),
 .v (.bool true),
 .v (.int .i64 ((i : Int))),
 .v (.int .i64 ((k : Int))),
 .v (.bool false),
 .v (.bool false),
 .v (.bool false),
 .v undef,
 .v undef,
 .v undef,
 .v undef,
 .v undef,
 .v undef,
 .v undef,
 .v undef,
 .v undef,
 .v (.bool false)]

def nxCV (l : List Ev) (x y : Ev) (b o n cap m k i : Nat) : List Sl := [.v (.int .i64 ((m : Int))),
 .v (.int .i64 ((i : Int))),
 .v (.int .u64 (i : Int)),
 .v (.int .i64 (((m : Int) / 2 ^ i))),
 .v (.int .i64 ((bits BinOp.and IntKind.i64 ((m : Int) / 2 ^ i) 1))),
 .v (.bool true),
 .v (.bool true),
 .v (.int .i64 ((i : Int))),
 .v (.int .i64 ((k : Int))),
 .v (.bool true),
 .v (.bool true),
 .v (.bool true),
 .v (.slice (some ⟨b, o, none⟩) n cap),
 .v (.int .i64 ((i : Int))),
 .v (.pointer (some ⟨b, o + i * 6, none⟩)),
 .v (.agg #[y.who, y.put, y.v, y.re, y.b, y.e]),
 .v (.slice (some ⟨b, o, none⟩) n cap),
 .v (.int .i64 ((k : Int))),
 .v (.pointer (some ⟨b, o + k * 6, none⟩)),
 .v (.agg #[x.who, x.put, x.v, x.re, x.b, x.e]),
 .v (.bool ((decide (y.e < x.b)))),
 .v (.bool ((decide (y.e < x.b))))]

set_option maxRecDepth 100000 in
set_option maxHeartbeats 2000000 in
theorem snext_any (l : List Ev) (x : Ev) (b o n cap m k : Nat) (w : World) (hl : EvsR w (some ⟨b, o, none⟩) n l) (hn : n ≤ 16) (hm : m < 65536) (hk : k < n) (hx : l[k]? = some x) (hs : x.b ≤ x.e) :
  Calls Tryz.prog 42 #[.slice (some ⟨b, o, none⟩) n cap, .int .i64 (m : Int), .int .i64 (k : Int)] w (RetBelow (.bool (maskNext l m k x)) w) := by
 have HL := Lib.hid hl.1
 have HX := Lib.hid hx
 have HSX := Lib.hid hs
 clear hx hs
 have hl0 := hl
 go_enter Tryz.func42, Tryz.ntmps42
 go_wp2
 go_loopw [7] (fun s7 W => ∃ i : Nat, i ≤ n ∧ s7 = .int .i64 i ∧ Below w.heap.size w W ∧ ∀ (j : Nat) o, j < i → l[j]? = some o → m / 2 ^ j % 2 = 1 → j ≠ k → x.b ≤ o.e) (fun s7 _ => n - (intOf s7).toNat)
 case atStart => exact ⟨0, Nat.zero_le _, rfl, Below.refl _ _, fun j o h => absurd h (by omega)⟩
 case round =>
  obtain ⟨i, hin, rfl, hB, hal⟩ := hrel
  have HAL := Lib.hid hal; clear hal
  by_cases hiN : i < n
  ·
   have hl := hl0.below hB
   have hkN := hk
   obtain ⟨y, hy⟩ : ∃ y, l[i]? = some y := ⟨_, List.getElem?_eq_getElem (by rw [HL.out]; exact hiN)⟩
   have HY := Lib.hid hy
   clear hy
   have hwu : IntKind.u64.wrap (i : Int) = (i : Int) := by rw [IntKind.wrap_u64]; omega
   have h1 : (0 : Int) ≤ (i : Int) := by omega
   have h2 : (i : Int) < (n : Int) := by omega
   have h3 : (0 : Int) ≤ (k : Int) := by omega
   have h4 : (k : Int) < (n : Int) := by omega
   by_cases hbi : m / 2 ^ i % 2 = 1
   ·
    have HB := Lib.hid hbi
    have hbit := bit_yes hm hbi
    clear hbi
    by_cases hik : i = k
    ·
     have HE := Lib.hid hik
     have hne : ((i : Int) != (k : Int)) = false := by simp [hik]
     clear hik
     go_wp2_with fail
     refine wp_region2v (fun w w' => Below w.heap.size w w') (fun _ _ h => h.size) (fun _ => Below.refl _ _) (fun L W' => Below w.heap.size w W' ∧ EvsR W' (some ⟨b, o, none⟩) n l) (nxBV l x y b o n cap m k i) (fun _ => 0) [] (by kernel_rfl) (by kernel_rfl) ?_ ?_ ?_
      (.still rfl ?a0 <| .still rfl ?a1 <| .still rfl ?a2 <| .still rfl ?a3 <| .still rfl ?a4 <| .still rfl ?a5 <| .still rfl ?a6 <| .still rfl ?a7 <| .still rfl ?a8 <| .still rfl ?a9 <| .still rfl ?a10 <| .still rfl ?a11 <| .still rfl ?a12 <| .still rfl ?a13 <| .still rfl ?a14 <| .still rfl ?a15 <| .still rfl ?a16 <| .still rfl ?a17 <| .still rfl ?a18 <| .still rfl ?a19 <| .still rfl ?a20 <| .still rfl ?a21 <| .nil) ?_ ?_
     · exact trivial
     · exact trivial
     · exact ⟨hB.drew, hl⟩
     case a0 | a1 | a3 | a4 | a6 | a7 | a8 | a10 | a11 | a12 | a13 | a14 | a15 | a16 | a17 | a18 | a19 | a20 | a21 =>
      go_light
      intro L σ W' hcl hL hC hw
      try have e0 := wT hw 0 rfl
      try have e2 := wT hw 2 rfl
      try have e3 := wT hw 3 rfl
      try have e5 := wT hw 5 rfl
      try have e6 := wT hw 6 rfl
      try have e9 := wT hw 9 rfl
      try have e10 := wT hw 10 rfl
      try have e11 := wT hw 11 rfl
      try have e12 := wT hw 12 rfl
      try have e13 := wT hw 13 rfl
      try have e14 := wT hw 14 rfl
      try have e15 := wT hw 15 rfl
      try have e16 := wT hw 16 rfl
      try have e17 := wT hw 17 rfl
      try have e18 := wT hw 18 rfl
      try have e19 := wT hw 19 rfl
      try have e20 := wT hw 20 rfl
      exact zordT0
     case a2 =>
      go_light
      intro L σ W' hcl hL hC hw
      have e1 := wV hw 1 rfl
      have qw := hwu
      exact zordT0
     case a5 =>
      go_light
      intro L σ W' hcl hL hC hw
      have e4 := wV hw 4 rfl
      have qb := hbit
      exact zordT0
     case a9 =>
      go_light
      intro L σ W' hcl hL hC hw
      have e6 := wV hw 6 rfl
      have e7 := wV hw 7 rfl
      have e8 := wV hw 8 rfl
      have qn := hne
      exact zordT0
     ·
      intro L L' W' hLL hC
      obtain ⟨hB, hl⟩ := hC
      exact ⟨hB, hl⟩
     ·
      intro σ L W' hall hC hRR
      obtain ⟨hB, hl⟩ := hC
      have e21 := dV hRR 21 rfl
      clear hRR
      simp only [lexAll]
      go_simp
      go_step
      go_wp2
      go_roundw
      case rel =>
       refine ⟨i + 1, by omega, by go_num, hB, fun j o hj ho hb hn' => ?_⟩
       by_cases e : j = i
       ·
        subst e
        exact absurd HE.out hn'
       · exact HAL.out j o (by omega) ho hb hn'
      case measure => simp [intOf]; omega
    ·
     have hne : ((i : Int) != (k : Int)) = true := by simp; omega
     clear hik
     go_wp2_with fail
     refine wp_region2v (fun w w' => Below w.heap.size w w') (fun _ _ h => h.size) (fun _ => Below.refl _ _) (fun L W' => Below w.heap.size w W' ∧ EvsR W' (some ⟨b, o, none⟩) n l) (nxCV l x y b o n cap m k i) (fun _ => 0) [] (by kernel_rfl) (by kernel_rfl) ?_ ?_ ?_
      (.still rfl ?a0 <| .still rfl ?a1 <| .still rfl ?a2 <| .still rfl ?a3 <| .still rfl ?a4 <| .still rfl ?a5 <| .still rfl ?a6 <| .still rfl ?a7 <| .still rfl ?a8 <| .still rfl ?a9 <| .still rfl ?a10 <| .still rfl ?a11 <| .still rfl ?a12 <| .still rfl ?a13 <| .still rfl ?a14 <| .still rfl ?a15 <| .still rfl ?a16 <| .still rfl ?a17 <| .still rfl ?a18 <| .still rfl ?a19 <| .grow rfl ?a20 <| .still rfl ?a21 <| .nil) ?_ ?_
     · exact trivial
     · exact trivial
     · exact ⟨hB.drew, hl⟩
     case a0 | a1 | a3 | a4 | a6 | a7 | a8 | a10 | a11 | a12 | a13 | a16 | a17 | a21 =>
      go_light
      intro L σ W' hcl hL hC hw
      try have e0 := wT hw 0 rfl
      try have e2 := wT hw 2 rfl
      try have e3 := wT hw 3 rfl
      try have e5 := wT hw 5 rfl
      try have e6 := wT hw 6 rfl
      try have e9 := wT hw 9 rfl
      try have e10 := wT hw 10 rfl
      try have e11 := wT hw 11 rfl
      try have e20 := wT hw 20 rfl
      exact zordT0
     case a15 =>
      go_light
      intro L σ W' hcl hL hC hw
      have e11 := wV hw 11 rfl
      have e14 := wV hw 14 rfl
      obtain ⟨d0, d1, d2, d3, d4, d5⟩ := ev_cells hC.2 hiN HY.out
      exact zordT0
     case a19 =>
      go_light
      intro L σ W' hcl hL hC hw
      have e11 := wV hw 11 rfl
      have e18 := wV hw 18 rfl
      obtain ⟨d0, d1, d2, d3, d4, d5⟩ := ev_cells hC.2 hkN HX.out
      exact zordT0
     case a2 =>
      go_light
      intro L σ W' hcl hL hC hw
      have e1 := wV hw 1 rfl
      have qw := hwu
      exact zordT0
     case a5 =>
      go_light
      intro L σ W' hcl hL hC hw
      have e4 := wV hw 4 rfl
      have qb := hbit
      exact zordT0
     case a9 =>
      go_light
      intro L σ W' hcl hL hC hw
      have e6 := wV hw 6 rfl
      have e7 := wV hw 7 rfl
      have e8 := wV hw 8 rfl
      have qn := hne
      exact zordT0
     case a14 =>
      go_light
      intro L σ W' hcl hL hC hw
      have e11 := wV hw 11 rfl
      have e12 := wV hw 12 rfl
      have e13 := wV hw 13 rfl
      have g1 := h1
      have g2 := h2
      exact zordT0
     case a18 =>
      go_light
      intro L σ W' hcl hL hC hw
      have e11 := wV hw 11 rfl
      have e16 := wV hw 16 rfl
      have e17 := wV hw 17 rfl
      have g1 := h3
      have g2 := h4
      exact zordT0
     case a20 =>
      go_light
      intro L σ W' hcl hL hC hw
      have e11 := wV hw 11 rfl
      have e15 := wV hw 15 rfl
      have e19 := wV hw 19 rfl
      clear hw
      have HC := Lib.hid hC
      clear hC
      clear hcl hL
      refine OpGoes.go fun K hK => ?_
      go_simp
      obtain ⟨hB, hl⟩ := HC.out
      refine (sahead_any y x _).mono ?_
      rintro e w1 ⟨rfl, hb1⟩
      exact ⟨_, rfl, hK _ _ ⟨⟨bstep hB hB.size hb1, hl.below hb1⟩, rfl, hb1⟩⟩
     ·
      intro L L' W' hLL hC
      obtain ⟨hB, hl⟩ := hC
      exact ⟨hB, hl⟩
     ·
      intro σ L W' hall hC hRR
      obtain ⟨hB, hl⟩ := hC
      have e21 := dV hRR 21 rfl
      clear hRR
      simp only [lexAll]
      go_simp
      go_step
      by_cases hok : y.e < x.b
      ·
       have hd : decide (y.e < x.b) = true := by simp [hok]
       rw [hd]
       have HR := Lib.hid (maskNext_no (k := k) HB.out (by rw [HL.out]; exact hiN) HY.out hok)
       clear hok hd
       go_wp2
       go_ret
       exact .mk (by rw [HR.out]; rfl) hB
      ·
       have hd : decide (y.e < x.b) = false := by simp [hok]
       rw [hd]
       have HOK := Lib.hid (show x.b ≤ y.e by omega)
       clear hok hd
       go_wp2
       go_roundw
       case rel =>
        refine ⟨i + 1, by omega, by go_num, hB, fun j o hj ho hb hn' => ?_⟩
        by_cases e : j = i
        ·
         subst e
         rw [HY.out] at ho; injection ho with ho; subst ho; exact HOK.out
        · exact HAL.out j o (by omega) ho hb hn'
       case measure => simp [intOf]; omega
   ·
    have HB := Lib.hid hbi
    have hbit := bit_no hm hbi
    clear hbi
    go_wp2_with fail
    refine wp_region2v (fun w w' => Below w.heap.size w w') (fun _ _ h => h.size) (fun _ => Below.refl _ _) (fun L W' => Below w.heap.size w W' ∧ EvsR W' (some ⟨b, o, none⟩) n l) (nxAV l x y b o n cap m k i) (fun _ => 0) [] (by kernel_rfl) (by kernel_rfl) ?_ ?_ ?_
     (.still rfl ?a0 <| .still rfl ?a1 <| .still rfl ?a2 <| .still rfl ?a3 <| .still rfl ?a4 <| .still rfl ?a5 <| .still rfl ?a6 <| .still rfl ?a7 <| .still rfl ?a8 <| .still rfl ?a9 <| .still rfl ?a10 <| .still rfl ?a11 <| .still rfl ?a12 <| .still rfl ?a13 <| .still rfl ?a14 <| .still rfl ?a15 <| .still rfl ?a16 <| .still rfl ?a17 <| .still rfl ?a18 <| .still rfl ?a19 <| .still rfl ?a20 <| .still rfl ?a21 <| .nil) ?_ ?_
    · exact trivial
    · exact trivial
    · exact ⟨hB.drew, hl⟩
    case a0 | a1 | a3 | a4 | a6 | a7 | a8 | a9 | a10 | a11 | a12 | a13 | a14 | a15 | a16 | a17 | a18 | a19 | a20 | a21 =>
     go_light
     intro L σ W' hcl hL hC hw
     try have e0 := wT hw 0 rfl
     try have e2 := wT hw 2 rfl
     try have e3 := wT hw 3 rfl
     try have e5 := wT hw 5 rfl
     try have e6 := wT hw 6 rfl
     try have e7 := wT hw 7 rfl
     try have e8 := wT hw 8 rfl
     try have e9 := wT hw 9 rfl
     try have e10 := wT hw 10 rfl
     try have e11 := wT hw 11 rfl
     try have e12 := wT hw 12 rfl
     try have e13 := wT hw 13 rfl
     try have e14 := wT hw 14 rfl
     try have e15 := wT hw 15 rfl
     try have e16 := wT hw 16 rfl
     try have e17 := wT hw 17 rfl
     try have e18 := wT hw 18 rfl
     try have e19 := wT hw 19 rfl
     try have e20 := wT hw 20 rfl
     exact zordT0
    case a2 =>
     go_light
     intro L σ W' hcl hL hC hw
     have e1 := wV hw 1 rfl
     have qw := hwu
     exact zordT0
    case a5 =>
     go_light
     intro L σ W' hcl hL hC hw
     have e4 := wV hw 4 rfl
     have qb := hbit
     exact zordT0
    ·
     intro L L' W' hLL hC
     obtain ⟨hB, hl⟩ := hC
     exact ⟨hB, hl⟩
    ·
     intro σ L W' hall hC hRR
     obtain ⟨hB, hl⟩ := hC
     have e21 := dV hRR 21 rfl
     clear hRR
     simp only [lexAll]
     go_simp
     go_step
     go_wp2
     go_roundw
     case rel =>
      refine ⟨i + 1, by omega, by go_num, hB, fun j o hj ho hb hn' => ?_⟩
      by_cases e : j = i
      ·
       subst e
       exact absurd hb HB.out
      · exact HAL.out j o (by omega) ho hb hn'
     case measure => simp [intOf]; omega
  ·
   have g1 : ¬ (i : Int) < (n : Int) := by omega
   obtain rfl : n = i := by omega
   have HR := Lib.hid (maskNext_end HX.out HSX.out (by rw [HL.out]; exact HAL.out))
   by_cases hbk : m / 2 ^ k % 2 = 1
   ·
    have HB := Lib.hid hbk
    have hbit := bit_yes hm hbk
    clear hbk
    go_wp2
    go_ret
    exact .mk (by rw [HR.out]; simp [HB.out]) hB
   ·
    have HB := Lib.hid hbk
    have hbit := bit_no hm hbk
    clear hbk
    go_wp2
    go_ret
    exact .mk (by rw [HR.out]; simp [HB.out]) hB

end Go.Proofs.YtiiaimjlohpemaaGreat

/-
 The program's Lined and Orders.
-/
namespace Go.Proofs.YtiiaimjlohpemaaGreat
set_option linter.unusedSimpArgs false
set_option linter.unusedVariables false
open Go.RowKit Go.Shelf
set_option linter.unusedVariables false
attribute [local go_sem] Oper.semAt_some
attribute [local go_sem ↓] Go.wp_at_zero Go.wp_at_succ

def linedB (l : List Ev) : Bool := decide (l.length ≤ 8) && storyOk l && decide (0 < cntO l.length l [])
def ordersZ (l : List Ev) : Int := bif decide (l.length ≤ 6) && storyOk l then (cntO l.length l [] : Int) else -1

end Go.Proofs.YtiiaimjlohpemaaGreat

/-
 The model's count of orders, and its Lined and Orders.
-/
namespace Go.Proofs.YtiiaimjlohpemaaGreat
set_option linter.unusedSimpArgs false
set_option linter.unusedVariables false
open Go.RowKit
set_option linter.unusedVariables false
attribute [local go_sem ↓] Go.wp_at_zero Go.wp_at_succ

theorem rank_succ (m i : Nat) : rank m (i + 1) = rank m i + m / 2 ^ i % 2 := rfl
theorem rank_mono {m i j : Nat} (h : i ≤ j) : rank m i ≤ rank m j := by
 induction j with
 | zero =>
  obtain rfl : i = 0 := by omega
  exact Nat.le_refl _
 | succ j ih =>
  by_cases e : i = j + 1
  · subst e; exact Nat.le_refl _
  ·
   have := ih (by omega)
   rw [rank_succ]; omega
/-- What the count is after i places. -/
def upTo (k : Nat) (l : List Ev) (m : Nat) (line : List Int) (i : Nat) : Nat := sumN (stepN (cntO k) (pick l m) line) (rank m i)
theorem upTo_all {k : Nat} {l : List Ev} {m : Nat} {line : List Int} : upTo k l m line l.length = cntO (k + 1) (pick l m) line := by
 unfold upTo; rw [← pick_len]; rfl
theorem upTo_le {k : Nat} {l : List Ev} {m : Nat} {line : List Int} {i j : Nat} (h : i ≤ j) : upTo k l m line i ≤ upTo k l m line j := sumN_mono (rank_mono h)
theorem upTo_none {k : Nat} {l : List Ev} {m : Nat} {line : List Int} {i : Nat} {x : Ev} (hx : l[i]? = some x) (h : ((explains line x).2 && maskNext l m i x) = false) : upTo k l m line (i + 1) = upTo k l m line i := by
 unfold upTo
 rw [rank_succ]
 by_cases hb : m / 2 ^ i % 2 = 1
 ·
  rw [hb, sumN, stepN_at (x := x) (by rw [pick_at l m i hb (List.getElem?_eq_some_iff.1 hx).1]; exact hx)]
  have : ((explains line x).2 && nextE (pick l m) x) = false := by
   unfold maskNext at h
   simpa [hb] using h
  rw [this]; rfl
 · rw [show m / 2 ^ i % 2 = 0 by omega]; rfl
theorem upTo_some {k : Nat} {l : List Ev} {m : Nat} {line : List Int} {i : Nat} {x : Ev} (hx : l[i]? = some x) (h1 : (explains line x).2 = true) (h2 : maskNext l m i x = true) :
  upTo k l m line (i + 1) = upTo k l m line i + cntO k (pick l (m - 2 ^ i)) (explains line x).1 := by
 have hi := (List.getElem?_eq_some_iff.1 hx).1
 unfold maskNext at h2
 simp only [Bool.and_eq_true, decide_eq_true_eq] at h2
 unfold upTo
 rw [rank_succ, h2.1, sumN, stepN_at (x := x) (by rw [pick_at l m i h2.1 hi]; exact hx), h1, h2.2, pick_del l m i h2.1 hi]
 rfl
theorem del_len {k : Nat} {l : List Ev} {m i : Nat} {x : Ev} (hx : l[i]? = some x) (h2 : maskNext l m i x = true) (hk : (pick l m).length = k + 1) : (pick l (m - 2 ^ i)).length = k := by
 have hi := (List.getElem?_eq_some_iff.1 hx).1
 unfold maskNext at h2
 simp only [Bool.and_eq_true, decide_eq_true_eq] at h2
 have h3 := (List.getElem?_eq_some_iff.1 ((pick_at l m i h2.1 hi).trans hx)).1
 rw [pick_del l m i h2.1 hi, List.length_eraseIdx]
 simp [h3]; omega
theorem mask_bit {l : List Ev} {m i : Nat} {x : Ev} (h2 : maskNext l m i x = true) : 2 ^ i ≤ m := by
 unfold maskNext at h2
 simp only [Bool.and_eq_true, decide_eq_true_eq] at h2
 exact pick_sub (l := l) h2.1
theorem mask_wrap {m i : Nat} (h : 2 ^ i ≤ m) (hm : m < 65536) : ((m - 2 ^ i : Nat) : Int) = wrap64 ((m : Int) - wrap64 (2 ^ i)) := by
 have hpc : ((2 : Int) ^ i) = ((2 ^ i : Nat) : Int) := by push_cast; rfl
 rw [hpc]
 generalize 2 ^ i = q at *
 unfold wrap64; omega
theorem pow_le16 {i : Nat} (h : i ≤ 16) : 2 ^ i ≤ 65536 := Nat.pow_le_pow_right (n := 2) (by omega) h

set_option maxRecDepth 100000 in
set_option maxHeartbeats 2000000 in
theorem scount_any : ∀ (k : Nat) (l : List Ev) (m : Nat) (line : List Int) (A : Option Addr) (n cap : Nat) (B : Option Addr) (nb cb lo hi most : Nat) (w : World),
  EvsR w A n l → n ≤ 15 → (∀ x ∈ l, x.b ≤ x.e) → m < 2 ^ n → (pick l m).length = k → IntsW lo hi w B nb cb line → hi ≤ w.heap.size → nb ≤ 4096 → 1 ≤ most → most ≤ 1000 →
  Calls Tryz.prog 31 #[.slice A n cap, .int .i64 (m : Int), .slice B nb cb, .int .i64 (most : Int)] w (RetBelow (.int .i64 ((min (cntO k (pick l m) line) most : Nat) : Int)) w) := by
 intro k
 induction k with
 | zero =>
  intro l m line A n cap B nb cb lo hi most w hl hn hst hm hk hL hh hnb h1 h2
  have hm0 : m = 0 := pick_nil (l := l) (by rw [hl.1]; exact hm) (List.eq_nil_of_length_eq_zero hk)
  subst hm0
  have HR := Lib.hid (show min (cntO 0 (pick l 0) line) most = 1 by show min 1 most = 1; omega)
  go_enter Tryz.func31, Tryz.ntmps31
  go_wp2
  go_ret
  exact .mk (by rw [HR.out]; rfl) (Below.refl _ _)
 | succ k ih =>
  intro l m line A n cap B nb cb lo hi most w hl hn hst hm hk hL hh hnb h1 h2
  have hm0 : ¬ (m : Int) = 0 := by
   intro e
   have : m = 0 := by omega
   subst this
   rw [pick_zero] at hk; simp at hk
  have HL := Lib.hid hl.1
  have HK := Lib.hid hk
  have hm16 : m < 65536 := Nat.lt_of_lt_of_le hm (pow_le16 (by omega))
  have HM := Lib.hid hm
  have HST := Lib.hid hst
  clear hk hm hst
  have hl0 := hl
  have hL0 := hL
  go_enter Tryz.func31, Tryz.ntmps31
  go_wp2
  obtain ⟨b14, hb14⟩ : ∃ b14, Value.bool ((m : Int) == 0) = b14 := ⟨_, rfl⟩
  rw [hb14]
  clear hb14 hm0
  go_loopw [9, 10] (fun s9 s10 W => ∃ i : Nat, i ≤ n ∧ s10 = .int .i64 i ∧ s9 = .int .i64 ((min (upTo k l m line i) most : Nat) : Int) ∧ Below w.heap.size w W) (fun _ s10 _ => n - (intOf s10).toNat)
  case atStart => exact ⟨0, Nat.zero_le _, rfl, by show _ = Value.int .i64 ((min 0 most : Nat) : Int); simp, Below.refl _ _⟩
  case round =>
   obtain ⟨i, hin, rfl, rfl, hB⟩ := hrel
   by_cases hlt : i < n
   ·
    have g1 : (i : Int) < (n : Int) := by omega
    have g2 : (0 : Int) ≤ (i : Int) := by omega
    by_cases hmo : upTo k l m line i < most
    ·
     have hc : min (upTo k l m line i) most = upTo k l m line i := Nat.min_eq_left (by omega)
     rw [hc]
     have g3 : ((upTo k l m line i : Nat) : Int) < (most : Int) := by omega
     obtain ⟨b, o, x, rfl, _, hx, hE⟩ := SlE.at_ (hl0.below hB) hlt
     have HX := Lib.hid hx
     have hsx : x.b ≤ x.e := HST.out x (List.mem_of_getElem? hx)
     go_wp2_with fail
     refine (snext_any l x b o n cap m i wr (hl0.below hB) (by omega) hm16 hlt hx hsx).mono ?_
     clear hx hsx hE
     rintro e w1 ⟨rfl, hb1⟩
     replace hB := bstep hB hB.size hb1
     clear hb1
     cases hmk : maskNext l m i x
     ·
      have HU := Lib.hid (upTo_none (k := k) (line := line) HX.out (by rw [hmk, Bool.and_false]))
      clear hmk
      exact zordT2
     ·
      have HMK := Lib.hid hmk
      clear hmk
      obtain ⟨c0, c1, c2, c3, c4, c5⟩ := ev_cells (hl0.below hB) hlt HX.out
      go_wp2_with fail
      refine (sexplains_any line x B nb cb lo hi w1 (SlW.below hL0 hB hh) (Nat.le_trans hh hB.size) (by omega)).mono ?_
      clear c0 c1 c2 c3 c4 c5
      obtain ⟨th, is, hq⟩ : ∃ th is, explains line x = (th, is) := ⟨_, _, rfl⟩
      have HQ := Lib.hid hq
      rw [hq]
      clear hq
      rintro e w2 ⟨C, cc, rfl, hT, hb2⟩
      simp only at hT
      have hs2 := hb2.size
      replace hB := bstep hB hB.size hb2
      clear hb2
      cases is
      ·
       have HU := Lib.hid (upTo_none (k := k) (m := m) HX.out (by rw [HQ.out]; rfl))
       exact zordT2
      ·
       have hth : th.length ≤ 41 := by have := ex_small (l := line) (x := x) (by rw [HQ.out]); rw [HQ.out] at this; exact this
       have HU := Lib.hid (upTo_some (k := k) HX.out (by rw [HQ.out]) HMK.out)
       have hbit := mask_bit HMK.out
       have hp := pow_le16 (i := i) (by omega)
       have hwu : IntKind.u64.wrap (i : Int) = (i : Int) := by rw [IntKind.wrap_u64]; omega
       have hm' : m - 2 ^ i < 2 ^ n := Nat.lt_of_le_of_lt (Nat.sub_le _ _) HM.out
       have hmost : 1 ≤ most - upTo k l m line i := by omega
       have hIH := ih l (m - 2 ^ i) th (some ⟨b, o, none⟩) n cap C th.length cc _ _ (most - upTo k l m line i) w2 (hl0.below hB) hn HST.out hm' (del_len HX.out HMK.out HK.out) hT (Nat.le_refl _) (by omega) hmost (by omega)
       have e1 := mask_wrap hbit hm16
       have e2 : ((most - upTo k l m line i : Nat) : Int) = (most : Int) - (upTo k l m line i : Nat) := by omega
       rw [e1, e2] at hIH
       have HC := Lib.hid hIH
       have HS := Lib.hid (show (upTo k l m line i : Int) + ((min (cntO k (pick l (m - 2 ^ i)) th) (most - upTo k l m line i) : Nat) : Int) = ((min (upTo k l m line (i + 1)) most : Nat) : Int) by rw [HU.out, HQ.out]; simp only; omega)
       have hcx : min (cntO k (pick l (m - 2 ^ i)) th) (most - upTo k l m line i) ≤ 1000 := by omega
       have hux : upTo k l m line i ≤ 1000 := by omega
       clear hIH e1 e2 hp hbit
       go_wp2_with fail
       refine (HC.out).mono ?_
       rintro e w3 ⟨rfl, hb3⟩
       replace hB := bstep hB hB.size hb3
       clear hb3
       obtain ⟨cx, hcg⟩ : ∃ cx, min (cntO k (pick l (m - 2 ^ i)) th) (most - upTo k l m line i) = cx := ⟨_, rfl⟩
       rw [hcg] at hcx HS ⊢
       clear hcg
       go_wp2
       go_roundw
       case rel => exact ⟨i + 1, by omega, by go_num, by rw [← HS.out], hB⟩
       case measure => simp [intOf]; omega
    ·
     have hc : min (upTo k l m line i) most = most := Nat.min_eq_right (by omega)
     have HR := Lib.hid (show min (cntO (k + 1) (pick l m) line) most = most by
      rw [← upTo_all, HL.out]
      have := upTo_le (k := k) (l := l) (m := m) (line := line) (show i ≤ n by omega)
      omega)
     rw [hc]
     go_wp2
     go_ret
     exact .mk (by rw [HR.out]; rfl) hB
   ·
    have g1 : ¬ (i : Int) < (n : Int) := by omega
    obtain rfl : n = i := by omega
    have HR := Lib.hid (show cntO (k + 1) (pick l m) line = upTo k l m line n by rw [← upTo_all, HL.out])
    go_wp2
    go_ret
    exact .mk (by rw [HR.out]; rfl) hB

theorem mask_full {n : Nat} (h : n ≤ 15) : wrap64 (wrap64 (2 ^ n) - 1) = ((2 ^ n - 1 : Nat) : Int) := by
 have hpc : ((2 : Int) ^ n) = ((2 ^ n : Nat) : Int) := by push_cast; rfl
 have h1 := pow_le16 (i := n) (by omega)
 have h0 : 0 < 2 ^ n := Nat.pow_pos (by omega)
 rw [hpc]
 generalize 2 ^ n = q at *
 unfold wrap64; omega

theorem story_be {l : List Ev} (h : storyOk l = true) : ∀ x ∈ l, x.b ≤ x.e := fun x hx => by
 simp only [storyOk, Bool.and_eq_true, List.all_eq_true] at h
 have h2 := h.1 x hx
 simp only [evOk, inB, Bool.and_eq_true, decide_eq_true_eq] at h2
 omega

set_option maxRecDepth 100000 in
set_option maxHeartbeats 2000000 in
theorem slined_any (l : List Ev) (A : Option Addr) (n cap : Nat) (w : World) (h : EvsR w A n l) (hn : n ≤ 1048576) :
  Calls Tryz.prog 15 #[.slice A n cap] w (RetBelow (.bool (linedB l)) w) := by
 have HL := Lib.hid h.1
 go_enter Tryz.func15, Tryz.ntmps15
 go_wp2_with fail
 refine (sstory_any l A n cap _ h hn).mono ?_
 rintro e w1 ⟨rfl, hb1⟩
 cases hok : storyOk l
 ·
  have HQ := Lib.hid (show linedB l = false by unfold linedB; rw [hok, Bool.and_false]; rfl)
  clear hok
  go_wp2
  go_ret
  exact .mk (by rw [HQ.out]; rfl) hb1
 ·
  have HOK := Lib.hid hok
  clear hok
  by_cases h8 : (n : Int) > 8
  ·
   have HQ := Lib.hid (show linedB l = false by unfold linedB; rw [HL.out]; simp; omega)
   go_wp2
   go_ret
   exact .mk (by rw [HQ.out]; rfl) hb1
  ·
   have HQ := Lib.hid (show linedB l = decide (0 < cntO l.length l []) by unfold linedB; rw [HOK.out, HL.out]; simp; omega)
   have hwu : IntKind.u64.wrap (n : Int) = (n : Int) := by rw [IntKind.wrap_u64]; omega
   have hl1 := h.below hb1
   have hi0 := ints_none (w := w1) (Below.refl w1.heap.size w1)
   have hC := scount_any n l (2 ^ n - 1) [] A n cap (some ⟨w1.heap.size, 0, none⟩) 0 0 _ _ 1 (w1.alloc (.cells #[] 2)) (hl1.below ((Below.refl _ _).alloc (Nat.le_refl _) _)) (by omega) (story_be HOK.out) (by have := Nat.pow_pos (n := n) (show 0 < 2 by omega); omega) (by have := HL.out; rw [← this, pick_all]) hi0 (Nat.le_refl _) (by omega) (by omega) (by omega)
   rw [← mask_full (n := n) (by omega)] at hC
   have HC := Lib.hid hC
   have HP := Lib.hid (show pick l (2 ^ n - 1) = l by rw [← HL.out, pick_all])
   clear hC hi0
   go_wp2_with fail
   refine (HC.out).mono ?_
   rintro e w2 ⟨rfl, hb2⟩
   rw [HP.out]
   have hB := bstep hb1 hb1.size (bstep ((Below.refl _ _).alloc (Nat.le_refl _) _) (by simp) hb2)
   have HLl := HL.out
   by_cases hc : 0 < cntO n l []
   ·
    have hm : min (cntO n l []) 1 = 1 := by omega
    rw [hm]
    go_wp2
    go_ret
    exact .mk (by rw [HQ.out, HLl]; simp; omega) hB
   ·
    have hm : min (cntO n l []) 1 = 0 := by omega
    rw [hm]
    go_wp2
    go_ret
    exact .mk (by rw [HQ.out, HLl]; simp; omega) hB

end Go.Proofs.YtiiaimjlohpemaaGreat


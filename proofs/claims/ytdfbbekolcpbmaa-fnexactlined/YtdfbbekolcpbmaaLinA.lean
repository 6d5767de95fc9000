/-
  Lines: lists of numbers that are read, tested and copied, on both sides.
-/
import Derived.Test.YtdfbbekolcpbmaaEvI
import Derived.Test.YtdfbbekolcpbmaaEvV
import Derived.ArgAppend
import Derived.Laws.CopyOwn
namespace Go.Proofs.Ytdfbbekolcpbmaa
set_option linter.unusedSimpArgs false
set_option linter.unusedVariables false
open Go.RowKit
set_option linter.unusedVariables false
attribute [local go_sem ↓] Go.wp_at_zero Go.wp_at_succ

/-- A list of numbers that can be read, appended to (into new memory) and cut. -/
def LnR (w : World) (A : Option Addr) (n cap : Nat) (l : List Int) : Prop := IntsR w A n l ∧ (A = none → n = 0 ∧ cap = 0) ∧ n ≤ cap
theorem LnR.below {w w' : World} {A : Option Addr} {n cap : Nat} {l : List Int} (h : LnR w A n cap l) (hb : Below w.heap.size w w') : LnR w' A n cap l := ⟨h.1.below hb, h.2⟩
theorem IntsW.ln {lo hi : Nat} {w : World} {A : Option Addr} {n cap : Nat} {l : List Int} (h : IntsW lo hi w A n cap l) : LnR w A n cap l := by
  refine ⟨h.r, ?_, ?_⟩
  · rintro rfl
    rcases h.2 with ⟨_, h2, h3⟩ | ⟨b, hb, _⟩
    · exact ⟨h2, h3⟩
    · cases hb
  · rcases h.2 with ⟨_, h2, h3⟩ | ⟨b, _, _, ho⟩
    · omega
    · exact ho.2.2.1
theorem flat_at {l : List Int} {j : Nat} {u : Value} (h : (l.flatMap ic)[j]? = some u) : ∃ x, l[j]? = some x ∧ u = .int .i64 x := by
  have e : ∀ l : List Int, l.flatMap ic = l.map (fun z => Value.int .i64 z) := by
    intro l
    induction l with
    | nil => rfl
    | cons x l ih => rw [List.flatMap_cons, ih]; rfl
  rw [e, List.getElem?_map] at h
  cases hx : l[j]? with
  | none => rw [hx] at h; cases h
  | some x => rw [hx] at h; exact ⟨x, rfl, by injection h with h; exact h.symm⟩
theorem IntsR.cells {w : World} {A : Option Addr} {n : Nat} {l : List Int} (h : IntsR w A n l) (ad : Addr) (hA : A = some ad) : ∀ j u, (l.flatMap ic)[j]? = some u → w.cell? (ad.add j) = some u := by
  intro j u hu
  obtain ⟨x, hx, rfl⟩ := flat_at hu
  have hj : j < n := by have := (List.getElem?_eq_some_iff.1 hx).1; have := h.1; omega
  obtain ⟨b, o, x', e, _, hx', c⟩ := SlE.at_ h hj
  rw [hA] at e
  injection e with e
  subst e
  rw [hx] at hx'
  injection hx' with hx'
  subst hx'
  have e2 : (⟨b, o, none⟩ : Addr).add j = ⟨b, o + j * 1, none⟩ := by
    by_cases h : j = 0
    · subst h; simp [Addr.add]
    · simp [Addr.add, h]
  rw [e2]
  exact c
theorem LnR.src {w : World} {A : Option Addr} {n cap : Nat} {l : List Int} (h : LnR w A n cap l) : SrcW ic w A n cap l := ⟨h.1.1, h.2.1, fun ad hA => h.1.cells ad hA⟩
theorem IntsR.drop {w : World} {A B : Option Addr} {n k : Nat} {l : List Int} (h : IntsR w A n l) (hB : ∀ b o, A = some ⟨b, o, none⟩ → k < n → B = some ⟨b, o + k, none⟩) : IntsR w B (n - k) (l.drop k) := by
  have hl := h.1
  refine ⟨by simp [hl], fun hn => ?_⟩
  obtain ⟨b, o, e, h0, hx⟩ := h.2 (by omega)
  refine ⟨b, o + k, hB b o e (by omega), Nat.zero_le _, fun i x hi => ?_⟩
  rw [List.getElem?_drop] at hi
  have := hx (k + i) x hi
  rw [show o + k + i * 1 = o + (k + i) * 1 by omega]
  exact this

theorem IntsO.rd {N : Nat} {w : World} {A : Option Addr} {n cap : Nat} {l : List Int} (h : IntsO N w (.slice A n cap) l) (hn : n = l.length) : IntsR w A n l := by
  obtain ⟨A', c', e, h'⟩ := h.r
  injection e with e1 e2 e3
  subst e1 hn
  exact h'

theorem ints_snoc2 {N : Nat} {w' : World} {v' : Value} {o : List Int} {z : Int} (h : w'.ownsRow N 2 1 v' (o.length + 1) (o.flatMap ic ++ [Value.int .i64 z])) : ∃ B c, v' = .slice B (o.length + 1) c ∧ IntsO N w' (.slice B (o.length + 1) c) (o ++ [z]) := by
  obtain ⟨B, c, e, h'⟩ := ints_snoc h
  rw [show (o ++ [z]).length = o.length + 1 by simp] at e h'
  exact ⟨B, c, e, h'⟩
theorem LnR.tail {lo hi b n cap : Nat} {w : World} {A : Option Addr} {l : List Int} (h : IntsW lo hi w (some ⟨b, 0, none⟩) n cap l) (hn : 1 ≤ n) (hA : (cap = 1 ∧ A = some ⟨b, 0, none⟩) ∨ A = some ⟨b, 1, none⟩) : LnR w A (n - 1) (cap - 1) (l.drop 1) := by
  have hc := h.ln.2.2
  refine ⟨h.r.drop fun b' o e hk => ?_, fun e => ?_, by omega⟩
  · injection e with e
    injection e with e1 e2
    subst e1 e2
    rcases hA with ⟨h1, _⟩ | hA
    · omega
    · exact hA
  · rcases hA with ⟨_, hA⟩ | hA <;> rw [hA] at e <;> cases e

def lineOk (l : List Int) : Bool := l.all valB && decide (l.length ≤ 40)
/-- What LinePut answers. -/
def linePut (l : List Int) (v : Int) : List Int × Bool := bif lineOk l then (bif valB v && !decide (l.length = 40) then (l ++ [v], true) else (l, false)) else ([], false)
/-- What LineTake answers. -/
def lineTake (l : List Int) : List Int × Int × Bool := bif lineOk l then (match l with | [] => ([], 0, false) | x :: t => (t, x, true)) else ([], 0, false)
/-- What Explains answers. -/
def explains (l : List Int) (x : Ev) : List Int × Bool :=
  bif lineOk l then (bif evOk x then (bif x.put then (bif x.re == 1 then linePut l x.v else (l, true)) else (bif x.re == 4 then (bif (lineTake l).2.2 && (lineTake l).2.1 == x.v then ((lineTake l).1, true) else (l, false)) else (l, decide (l.length = 0)))) else (l, false)) else ([], false)

/-- A list of numbers of the call's own, and a bool, are returned. -/
def RetIntB (q : List Int × Bool) (w : World) (e : Ending) (w' : World) : Prop := ∃ A cap, e = .returned (.tuple #[.slice A q.1.length cap, .bool q.2]) ∧ IntsW w.heap.size w'.heap.size w' A q.1.length cap q.1 ∧ Below w.heap.size w w'
/-- A list of numbers of the call's own, a number and a bool are returned. -/
def RetIntVB (q : List Int × Int × Bool) (w : World) (e : Ending) (w' : World) : Prop := ∃ A cap, e = .returned (.tuple #[.slice A q.1.length cap, .int .i64 q.2.1, .bool q.2.2]) ∧ IntsW w.heap.size w'.heap.size w' A q.1.length cap q.1 ∧ Below w.heap.size w w'
theorem ints_none {w w' : World} (h : Below w.heap.size w w') : IntsW w.heap.size (w'.alloc (.cells #[] 2)).heap.size (w'.alloc (.cells #[] 2)) (some ⟨w'.heap.size, 0, none⟩) 0 0 [] := by
  obtain ⟨A', c', e, hW⟩ := SlW.of_own (f := ic) (l := []) (ints_made (N := w.heap.size) rfl h.size) rfl
  injection e with e1 _ e3
  subst e1 e3
  exact hW

/-- A list with one more is returned, and true. -/
theorem RetIntB.snoc {l : List Int} {v : Int} {B : Option Addr} {c N : Nat} {w w' : World} (h : IntsO N w' (.slice B (l.length + 1) c) (l ++ [v])) (hN : w.heap.size ≤ N) (hb : Below w.heap.size w w') : RetIntB (l ++ [v], true) w (.returned (.tuple #[.slice B (l.length + 1) c, .bool true])) w' := by
  have e : (l ++ [v]).length = l.length + 1 := by simp
  rw [← e] at h ⊢
  exact ⟨B, c, rfl, SlW.mono (ints_w h) hN (Nat.le_refl _), hb⟩
theorem RetIntB.mk {l : List Int} {b : Bool} {B : Option Addr} {n c N : Nat} {w w' : World} (h : IntsW N w'.heap.size w' B n c l) (hN : w.heap.size ≤ N) (hb : Below w.heap.size w w') : RetIntB (l, b) w (.returned (.tuple #[.slice B n c, .bool b])) w' := by
  obtain rfl := h.1
  exact ⟨B, c, rfl, SlW.mono h hN (Nat.le_refl _), hb⟩
theorem RetIntB.none {b : Bool} {w w' : World} (hb : Below w.heap.size w w') {k : Nat} (hk : k = w'.heap.size) : RetIntB ([], b) w (.returned (.tuple #[.slice (some ⟨k, 0, none⟩) 0 0, .bool b])) (w'.alloc (.cells #[] 2)) := by
  subst hk
  exact ⟨_, _, rfl, ints_none hb, hb.alloc hb.size _⟩

theorem RetIntVB.mk {l : List Int} {z : Int} {b : Bool} {B : Option Addr} {n c N : Nat} {w w' : World} (h : IntsW N w'.heap.size w' B n c l) (hN : w.heap.size ≤ N) (hb : Below w.heap.size w w') : RetIntVB (l, z, b) w (.returned (.tuple #[.slice B n c, .int .i64 z, .bool b])) w' := by
  obtain rfl := h.1
  exact ⟨B, c, rfl, SlW.mono h hN (Nat.le_refl _), hb⟩
theorem RetIntVB.none {z : Int} {b : Bool} {w w' : World} (hb : Below w.heap.size w w') {k : Nat} (hk : k = w'.heap.size) : RetIntVB ([], z, b) w (.returned (.tuple #[.slice (some ⟨k, 0, none⟩) 0 0, .int .i64 z, .bool b])) (w'.alloc (.cells #[] 2)) := by
  subst hk
  exact ⟨_, _, rfl, ints_none hb, hb.alloc hb.size _⟩
theorem lineOk_no {l : List Int} {i : Nat} {x : Int} (hx : l[i]? = some x) (h : valB x = false) : lineOk l = false := by
  have : l.all valB = false := by rw [List.all_eq_false]; exact ⟨x, List.mem_of_getElem? hx, by simp [h]⟩
  simp [lineOk, this]
theorem allv_yes {l : List Int} (h : ∀ (j : Nat) x, j < l.length → l[j]? = some x → valB x = true) : l.all valB = true := by
  rw [List.all_eq_true]
  intro x hx
  obtain ⟨j, hj⟩ := List.mem_iff_getElem?.1 hx
  exact h j x (List.getElem?_eq_some_iff.1 hj).1 hj
theorem allv_no {l : List Int} {i : Nat} {x : Int} (hx : l[i]? = some x) (h : valB x = false) : l.all valB = false := by
  rw [List.all_eq_false]; exact ⟨x, List.mem_of_getElem? hx, by simp [h]⟩
theorem allv_next {l : List Int} {i : Nat} {x : Int} (h : ∀ (j : Nat) y, j < i → l[j]? = some y → valB y = true) (hx : l[i]? = some x) (hk : valB x = true) : ∀ (j : Nat) y, j < i + 1 → l[j]? = some y → valB y = true := fun j y hj hy => by
  by_cases hji : j < i
  · exact h j y hji hy
  · obtain rfl : j = i := by omega
    rw [hx] at hy
    injection hy with hy
    subst hy
    exact hk
theorem lineOk_snoc {l : List Int} {v : Int} (h : lineOk l = true) : lineOk (l ++ [v]) = (valB v && !decide (l.length = 40)) := by
  have hl := h
  simp [lineOk] at hl
  simp only [lineOk, List.all_append, List.length_append, List.all_cons, List.all_nil, List.length_cons, List.length_nil]
  rw [show l.all valB = true by simpa [List.all_eq_true] using hl.1]
  have : decide (l.length ≤ 39) = !decide (l.length = 40) := by
    by_cases h4 : l.length = 40
    · simp [h4]
    · simp [h4]; omega
  simp [this]
theorem lineOk_len {l : List Int} (h : lineOk l = true) : l.length ≤ 40 := by
  simp [lineOk] at h; exact h.2

set_option maxHeartbeats 400000 in
theorem isNoValue_any (z : Int) (w : World) : Calls Try.prog 46 #[.int .i64 z] w (Quiet1 (.bool (!valB z)) w) := by
  go_enter Try.func46, Try.ntmps46
  go_wp2_with fail
  refine (isValue_any _ _).mono ?_
  rintro e w' ⟨rfl, rfl⟩
  go_wp2
  go_ret
  exact ⟨rfl, rfl⟩

set_option maxHeartbeats 1000000 in
theorem indexNo_any (l : List Int) (A : Option Addr) (n cap : Nat) (w : World) (h : IntsR w A n l) (hn : n ≤ 1073741824) :
    Calls Try.prog 50 #[.slice A n cap, .func (.func 46) #[] #[]] w (fun e w' => ∃ z : Int, e = .returned (.int .i64 z) ∧ l.all valB = !decide (0 ≤ z) ∧ Below w.heap.size w w') := by
  have HL := Lib.hid h.1
  go_enter Try.func50, Try.ntmps50
  go_wp2
  go_loopw [8] (fun s8 W => ∃ i : Nat, i ≤ n ∧ s8 = .int .i64 i ∧ Below w.heap.size w W ∧ ∀ (j : Nat) x, j < i → l[j]? = some x → valB x = true) (fun s8 _ => n - (intOf s8).toNat)
  case atStart => exact ⟨0, Nat.zero_le _, rfl, Below.refl _ _, fun j x h => absurd h (by omega)⟩
  case round =>
    obtain ⟨i, hin, rfl, hB, hal⟩ := hrel
    have HAL := Lib.hid hal; clear hal
    by_cases hlt : i < n
    · obtain ⟨b, o, x, rfl, _, hx, c0⟩ := SlE.at_ (SlE.keep IE.kept h (fun j _ hj => hB.block j hj)) hlt
      unfold IE at c0
      rw [Nat.mul_one] at c0
      have HX := Lib.hid hx; clear hx
      have g1 : (i : Int) < (n : Int) := by omega
      have g2 : (0 : Int) ≤ (i : Int) := by omega
      go_wp2_with fail
      refine (isNoValue_any x _).mono ?_
      rintro e w1 ⟨rfl, rfl⟩
      clear c0
      cases hok : valB x
      · go_wp2
        go_ret
        exact ⟨_, rfl, by rw [allv_no HX.out hok]; simp, hB⟩
      · have HOK := Lib.hid hok; clear hok
        go_wp2
        go_roundw
        case rel => exact ⟨i + 1, by omega, by go_num, hB, allv_next HAL.out HX.out HOK.out⟩
        case measure => simp [intOf]; omega
    · have g1 : ¬ (i : Int) < (n : Int) := by omega
      obtain rfl : n = i := by omega
      go_wp2
      go_ret
      exact ⟨_, rfl, by rw [allv_yes (by rw [HL.out]; exact HAL.out)]; decide, hB⟩

set_option maxHeartbeats 400000 in
theorem ilineOk_any (l : List Int) (A : Option Addr) (n cap : Nat) (w : World) (h : IntsR w A n l) (hn : n ≤ 1073741824) :
    Calls Try.prog 37 #[.slice A n cap] w (RetBelow (.bool (lineOk l)) w) := by
  have HL := Lib.hid h.1
  go_enter Try.func37, Try.ntmps37
  by_cases hgt : (n : Int) ≤ 40
  · go_wp2_with fail
    go_enter Try.func45, Try.ntmps45
    go_wp2_with fail
    refine (indexNo_any l A n cap _ h hn).mono ?_
    rintro e w1 ⟨z, rfl, hz, hb⟩
    have HV := Lib.hid (show lineOk l = !decide (0 ≤ z) by
      have h1 : decide (l.length ≤ 40) = true := by have := HL.out; simp; omega
      rw [lineOk, h1, Bool.and_true]; exact hz)
    clear hz
    by_cases hz : z ≥ 0
    · go_wp2
      go_ret
      exact .mk (by rw [HV.out]; simp <;> omega) hb
    · go_wp2
      go_ret
      exact .mk (by rw [HV.out]; simp <;> omega) hb
  · go_wp2
    go_ret
    exact .mk (by have := HL.out; simp [lineOk]; omega) (Below.refl _ _)

set_option maxHeartbeats 1000000 in
theorem slineOk_any (l : List Int) (A : Option Addr) (n cap : Nat) (w : World) (h : IntsR w A n l) (hn : n ≤ 1073741824) :
    Calls Try.prog 26 #[.slice A n cap] w (RetBelow (.bool (lineOk l)) w) := by
  have HL := Lib.hid h.1
  go_enter Try.func26, Try.ntmps26
  go_wp2
  go_loopw [3] (fun s3 W => ∃ i : Nat, i ≤ n ∧ s3 = .int .i64 i ∧ Below w.heap.size w W ∧ ∀ (j : Nat) x, j < i → l[j]? = some x → valB x = true) (fun s3 _ => n - (intOf s3).toNat)
  case atStart => exact ⟨0, Nat.zero_le _, rfl, Below.refl _ _, fun j x h => absurd h (by omega)⟩
  case round =>
    obtain ⟨i, hin, rfl, hB, hal⟩ := hrel
    have HAL := Lib.hid hal; clear hal
    by_cases hlt : i < n
    · obtain ⟨b, o, x, rfl, _, hx, c0⟩ := SlE.at_ (SlE.keep IE.kept h (fun j _ hj => hB.block j hj)) hlt
      unfold IE at c0
      rw [Nat.mul_one] at c0
      have HX := Lib.hid hx; clear hx
      have g1 : (i : Int) < (n : Int) := by omega
      have g2 : (0 : Int) ≤ (i : Int) := by omega
      go_wp2_with fail
      refine (l1Value_any x _).mono ?_
      rintro e w1 ⟨rfl, rfl⟩
      clear c0
      cases hok : valB x
      · go_wp2
        go_ret
        exact .mk (by rw [lineOk_no HX.out hok]; rfl) hB
      · have HOK := Lib.hid hok; clear hok
        go_wp2
        go_roundw
        case rel => exact ⟨i + 1, by omega, by go_num, hB, allv_next HAL.out HX.out HOK.out⟩
        case measure => simp [intOf]; omega
    · have g1 : ¬ (i : Int) < (n : Int) := by omega
      obtain rfl : n = i := by omega
      have HV := Lib.hid (show lineOk l = decide ((n : Int) ≤ 40) by
        rw [lineOk, allv_yes (by rw [HL.out]; exact HAL.out), HL.out, Bool.true_and]
        exact decide_eq_decide.2 (by omega))
      go_wp2
      go_ret
      exact .mk (congrArg Value.bool HV.out.symm) hB

set_option maxHeartbeats 1000000 in
theorem cutFrom_any (l : List Int) (A : Option Addr) (n cap k : Nat) (z : Int) (w : World) (h : LnR w A n cap l) (hn : n ≤ 1073741824) (hk : k ≤ n) (hz : z = (k : Int)) :
    Calls Try.prog 47 #[.slice A n cap, .int .i64 z] w (fun e w' => ∃ A', e = .returned (.slice A' (n - k) (n - k)) ∧ LnR w' A' (n - k) (n - k) (l.drop k) ∧ Below w.heap.size w w') := by
  subst hz
  obtain ⟨hr, hA, hc⟩ := h
  go_enter Try.func47, Try.ntmps47
  cases A with
  | none =>
    obtain ⟨rfl, rfl⟩ := hA rfl
    obtain rfl : k = 0 := by omega
    go_wp2
    go_ret
    exact ⟨none, rfl, ⟨hr, fun _ => ⟨rfl, rfl⟩, Nat.le_refl _⟩, Below.refl _ _⟩
  | some ad =>
    have g1 : (0 : Int) ≤ (k : Int) := by omega
    have g2 : (k : Int) ≤ (n : Int) := by omega
    have g3 : (n : Int) ≤ (cap : Int) := by omega
    go_wp2
    · go_ret
      exact ⟨_, rfl, ⟨by
        have := hr.drop (k := k) (B := some ad) fun _ _ _ h => absurd h (by omega)
        rw [show n - k = 0 by omega] at this
        exact this, fun h => ⟨rfl, rfl⟩, Nat.le_refl _⟩, Below.refl _ _⟩
    · go_ret
      exact ⟨_, rfl, ⟨hr.drop fun b o e _ => by injection e with e; subst e; simp [Addr.add], fun h => (by cases h), Nat.le_refl _⟩, Below.refl _ _⟩

set_option maxRecDepth 100000 in
set_option maxHeartbeats 1000000 in
theorem copyOfLine_any (l : List Int) (A : Option Addr) (n cap : Nat) (w : World) (h : IntsR w A n l) (hn : n ≤ 1048576) :
    Calls Try.prog 38 #[.slice A n cap] w (RetInts l w) := by
  obtain ⟨i0, hi0, hz0, hz1, hz2⟩ := info_parts int_info
  have hmk : ∀ W : World, (Instr.makeSlice 32 (.int .i64 (n : Int)) (.int .i64 (n : Int))).run Try.prog W = .ok (.slice (some ⟨W.heap.size, 0, none⟩) n n) (W.alloc (.cells (madeCells #[.int .i64 0] (n * 1)) 2)) := by
    intro W
    have := run_make (P := Try.prog) W 32 2 i0 _ Try.underlying32 hi0 hz0 .i64 .i64 n n (by omega) (by omega) (by rw [hz2]; omega) (by omega)
    rw [hz1] at this
    simpa [Value.cells] using this
  have HH := Lib.hid h
  have hsz : (Try.prog.info? 2).map (·.size) = some 1 := by rw [hi0]; simp [hz1]
  have HSZ := Lib.hid hsz
  have hmd := Own.made (w := w) (e := 2) ic_len (by omega) (0 : Int) #[.int .i64 0] rfl (Nat.le_refl _) n (by unfold maxLen; omega)
  obtain ⟨_, _, _, _, cur, hcur, hcs, hct⟩ := hmd
  obtain ⟨cl, rfl⟩ : ∃ cl : List Value, cur = cl.toArray := ⟨cur.toList, rfl⟩
  have hcl : cl.length = n := by simpa using hcs
  have HCL := Lib.hid hcl
  rw [Nat.mul_one] at hcur
  have HCUR := Lib.hid hcur
  have HFL := Lib.hid (show (l.flatMap ic).length = n by rw [flat_len _ 1 ic_len, h.1]; omega)
  have HMN := Lib.hid (show (l.flatMap ic).length = Nat.min n n by rw [HFL.out]; exact (Nat.min_self n).symm)
  have HFT := Lib.hid (show 0 + (l.flatMap ic).length ≤ cl.length by rw [HFL.out, HCL.out]; omega)
  clear h hsz hcur hcs hct hcl hz1 hz2 hz0 hi0
  go_enter Try.func38, Try.ntmps38
  go_wp2_with ((refine wpList_copy_splice rfl (.tmp 7) (.tmp 8) _ _ rfl 2 Try.underlying32 HSZ.out (some ⟨w.heap.size, 0, none⟩) A n n n cap rfl rfl w.heap.size 0 cl 2 HCUR.out (l.flatMap ic) HMN.out (fun hp => ⟨rfl, by obtain ⟨b, o, e, _⟩ := HH.out.2 (by rw [HFL.out] at hp; exact hp); exact ⟨_, e, fun j v hv => by have := HH.out.cells _ e j v hv; exact (((Below.refl w.heap.size w).alloc (Nat.le_refl _) _).cell (World.block_lt_of_cell? w _ this)).trans this⟩⟩) HFT.out ic_one w.heap.size w ((Below.refl _ _).alloc (Nat.le_refl _) _) (Nat.le_refl _) ?_; intro w2 hG2 hB2))
  go_ret
  have HS := show splice cl 0 (l.flatMap ic) = l.flatMap ic by
    have hd : cl.drop (0 + (l.flatMap ic).length) = [] := List.drop_eq_nil_of_le (by rw [HFL.out, HCL.out]; omega)
    rw [splice, hd]; simp
  have hG3 := hG2.out
  rw [HS] at hG3
  have hl := HH.out.1
  refine ⟨some ⟨w.heap.size, 0, none⟩, n, by rw [hl]; rfl, ⟨rfl, .inr ⟨_, rfl, (Array.getElem?_eq_some_iff.1 hG3).1, rfl, Nat.le_refl _, Nat.le_of_eq hl, by unfold maxLen; omega, _, hG3, ?_, ?_⟩⟩, hB2⟩
  · simp only [List.size_toArray]
    rw [HFL.out]; omega
  · rw [hl]
    exact List.take_of_length_le (by simp only [List.toList_toArray]; rw [HFL.out]; omega)

theorem copyOfLineN (l : List Int) (A : Option Addr) (n cap : Nat) (w : World) (h : IntsR w A n l) (hn : n ≤ 1048576) :
    Calls Try.prog 38 #[.slice A n cap] w (fun e w' => ∃ A' c, e = .returned (.slice A' n c) ∧ IntsW w.heap.size w'.heap.size w' A' n c l ∧ Below w.heap.size w w') := by
  obtain rfl := h.1
  refine (copyOfLine_any l A _ cap w h hn).mono ?_
  rintro e w' ⟨A', c, rfl, hW, hb⟩
  exact ⟨A', c, rfl, hW, hb⟩

end Go.Proofs.Ytdfbbekolcpbmaa

/-
  What an event makes of a line, on both sides.
-/
import Derived.Test.YtdfbbekolcpbmaaLinB
namespace Go.Proofs.Ytdfbbekolcpbmaa
set_option linter.unusedSimpArgs false
set_option linter.unusedVariables false
open Go.RowKit
set_option linter.unusedVariables false
attribute [local go_sem ↓] Go.wp_at_zero Go.wp_at_succ

theorem ta_putFull_putFull (v : Int) (W : World) : (Instr.typeAssert (.iface 64 (.agg #[.int .i64 v])) 57 64 true).run Try.prog W = .ok (.tuple #[.agg #[.int .i64 v], .bool true]) W := by kernel_rfl
theorem ta_gotOne_putFull (v : Int) (W : World) : (Instr.typeAssert (.iface 65 (.agg #[.int .i64 v])) 57 64 true).run Try.prog W = .ok (.tuple #[.agg #[.int .i64 0], .bool false]) W := by kernel_rfl
theorem ta_gotNone_putFull (v : Int) (W : World) : (Instr.typeAssert (.iface 66 (.agg #[.int .i64 v])) 57 64 true).run Try.prog W = .ok (.tuple #[.agg #[.int .i64 0], .bool false]) W := by kernel_rfl
theorem ta_gotNone_gotNone (v : Int) (W : World) : (Instr.typeAssert (.iface 66 (.agg #[.int .i64 v])) 57 66 true).run Try.prog W = .ok (.tuple #[.agg #[.int .i64 v], .bool true]) W := by kernel_rfl
theorem ev_shape {x : Ev} (h : evOk x = true) : (x.put = true ∧ (x.re = 1 ∨ x.re = 2)) ∨ (x.put = false ∧ (x.re = 4 ∨ x.re = 3)) := by
  cases hp : x.put
  · refine .inr ⟨rfl, ?_⟩
    by_cases h4 : x.re = 4
    · exact .inl h4
    · by_cases h3 : x.re = 3
      · exact .inr h3
      · simp [evOk, hp, h3, h4] at h
  · refine .inl ⟨rfl, ?_⟩
    by_cases h1 : x.re = 1
    · exact .inl h1
    · by_cases h2 : x.re = 2
      · exact .inr h2
      · simp [evOk, hp, h1, h2] at h
theorem ex_no {l : List Int} {x : Ev} (h : lineOk l = false) : explains l x = ([], false) := by simp [explains, h]
theorem ex_ev {l : List Int} {x : Ev} (h : lineOk l = true) (he : evOk x = false) : explains l x = (l, false) := by simp [explains, h, he]
theorem ex1 {l : List Int} {x : Ev} (h : lineOk l = true) (he : evOk x = true) (hp : x.put = true) (hr : x.re = 1) : explains l x = linePut l x.v := by simp [explains, h, he, hp, hr]
theorem ex2 {l : List Int} {x : Ev} (h : lineOk l = true) (he : evOk x = true) (hp : x.put = true) (hr : x.re = 2) : explains l x = (l, true) := by simp [explains, h, he, hp, hr]
theorem ex4 {l : List Int} {x : Ev} (h : lineOk l = true) (he : evOk x = true) (hp : x.put = false) (hr : x.re = 4) : explains l x = bif (lineTake l).2.2 && (lineTake l).2.1 == x.v then ((lineTake l).1, true) else (l, false) := by simp [explains, h, he, hp, hr]
theorem ex3 {l : List Int} {x : Ev} (h : lineOk l = true) (he : evOk x = true) (hp : x.put = false) (hr : x.re = 3) : explains l x = (l, decide (l.length = 0)) := by simp [explains, h, he, hp, hr]
theorem RetIntB.up {q : List Int × Bool} {w w1 w' : World} {e : Ending} (h : RetIntB q w1 e w') (hb : Below w.heap.size w w1) : RetIntB q w e w' := by
  obtain ⟨A, c, he, hW, hb'⟩ := h
  exact ⟨A, c, he, SlW.mono hW hb.size (Nat.le_refl _), bstep hb hb.size hb'⟩

set_option maxRecDepth 100000 in
set_option maxHeartbeats 2000000 in
theorem iexplains_any (l : List Int) (x : Ev) (A : Option Addr) (n cap lo hi : Nat) (w : World) (h : IntsW lo hi w A n cap l) (hh : hi ≤ w.heap.size) (hn : n ≤ 1048576) :
    Calls Try.prog 32 #[.slice A n cap, .agg #[.int .i64 x.who, .bool x.put, .int .i64 x.v, .int .i64 x.re, .int .i64 x.b, .int .i64 x.e]] w (RetIntB (explains l x) w) := by
  have HL := Lib.hid h.1
  go_enter Try.func32, Try.ntmps32
  go_wp2_with fail
  refine calls_abs (fun W => Below w.heap.size w W ∧ BoxAt W w.heap.size #[.int .i64 x.who, .bool x.put, .int .i64 x.v, .int .i64 x.re, .int .i64 x.b, .int .i64 x.e] 34 ∧ IntsW lo hi W A n cap l) ⟨(Below.refl _ _).alloc (Nat.le_refl _) _, BoxAt.new _ _ _, SlW.al h hh _⟩ ?_
  clear h
  rintro W ⟨hB, hx, h⟩
  replace hh := Nat.le_trans hh hB.size
  refine (ilineOk_any l A n cap _ h.r (by omega)).mono ?_
  rintro e w1 ⟨rfl, hb1⟩
  replace h : IntsW lo hi _ A n cap l := SlW.below h hb1 hh
  replace hh := Nat.le_trans hh hb1.size
  replace hx := hx.below hb1 hx.lt
  replace hB := bstep hB hB.size hb1
  clear hb1
  cases hok : lineOk l
  · have HQ := Lib.hid (ex_no (x := x) hok)
    clear hok
    go_wp2
    go_ret2
    rw [HQ.out]
    exact .none hB rfl
  have HOK := Lib.hid hok
  clear hok
  have kx := hx.cell
  go_wp2_with fail
  refine (copyOfLineN l A n cap _ h.r (by omega)).mono ?_
  rintro e w2 ⟨S, cS, rfl, hS, hb2⟩
  replace hS : IntsW w.heap.size w2.heap.size w2 S n cS l := SlW.mono hS hB.size (Nat.le_refl _)
  replace h : IntsW lo hi _ A n cap l := SlW.below h hb2 hh
  replace hh := Nat.le_trans hh hb2.size
  replace hx := hx.below hb2 hx.lt
  replace hB := bstep hB hB.size hb2
  clear hb2 kx
  have kx := hx.cell
  go_wp2_with fail
  refine (eventOk_any x _).mono ?_
  rintro e w3 ⟨rfl, hb2⟩
  replace hS := hS.belowS hb2
  replace h : IntsW lo hi _ A n cap l := SlW.below h hb2 hh
  replace hh := Nat.le_trans hh hb2.size
  replace hx := hx.below hb2 hx.lt
  replace hB := bstep hB hB.size hb2
  clear hb2 kx
  have kx := hx.cell
  cases hev : evOk x
  · have HQ := Lib.hid (ex_ev HOK.out hev)
    clear hev
    go_wp2
    go_ret2
    rw [HQ.out]
    exact .mk hS (Nat.le_refl _) hB
  have HEV := Lib.hid hev
  have HSH := Lib.hid (ev_shape hev)
  clear hev
  go_wp2_with fail
  refine (shapeOf_any x _).mono ?_
  rintro e w4 ⟨rfl, hb2⟩
  replace hS := hS.belowS hb2
  replace h : IntsW lo hi _ A n cap l := SlW.below h hb2 hh
  replace hh := Nat.le_trans hh hb2.size
  replace hx := hx.below hb2 hx.lt
  replace hB := bstep hB hB.size hb2
  clear hb2 kx
  have kx := hx.cell
  rcases HSH.out with ⟨hp, hr | hr⟩ | ⟨hp, hr | hr⟩
  · have HQ := Lib.hid (ex1 HOK.out HEV.out hp hr)
    rw [show shV x.put x.re x.v = .iface 63 (.agg #[.int .i64 x.v]) by simp [shV, hp, hr]]
    clear hp hr HSH
    have ta1 := ta_putDone_putDone
    go_wp2_with fail
    refine calls_abs (fun W => Below w.heap.size w W ∧ IntsW lo hi W A n cap l) ⟨hB.alloc hB.size _, SlW.al h hh _⟩ ?_
    clear h hh hB hx kx hS
    rintro W ⟨hB, h⟩
    refine (ilinePut_any l x.v A n cap _ h.ln (by omega)).mono ?_
    rintro e w5 ⟨A5, c5, rfl, hW5, hb5⟩
    go_wp2
    go_ret2
    rw [HQ.out]
    exact .up ⟨A5, c5, rfl, hW5, hb5⟩ hB
  · have HQ := Lib.hid (ex2 HOK.out HEV.out hp hr)
    rw [show shV x.put x.re x.v = .iface 64 (.agg #[.int .i64 x.v]) by simp [shV, hp, hr]]
    clear hp hr HSH
    have ta1 := ta_putFull_putDone
    have ta2 := ta_putFull_putFull
    go_wp2
    go_ret2
    rw [HQ.out]
    exact .mk (hS.belowS ((Below.refl _ _).alloc (Nat.le_refl _) _)) (Nat.le_refl _) (hB.alloc hB.size _)
  · have HQ0 := Lib.hid (ex4 HOK.out HEV.out hp hr)
    rw [show shV x.put x.re x.v = .iface 65 (.agg #[.int .i64 x.v]) by simp [shV, hp, hr]]
    clear hp hr HSH
    have ta1 := ta_gotOne_putDone
    have ta2 := ta_gotOne_putFull
    have ta3 := ta_gotOne_gotOne
    go_wp2_with fail
    refine calls_abs (fun W => Below w.heap.size w W ∧ IntsW lo hi W A n cap l ∧ hi ≤ W.heap.size ∧ IntsW w.heap.size W.heap.size W S n cS l ∧ BoxAt W w4.heap.size #[.int .i64 x.v] 65) ⟨hB.alloc hB.size _, SlW.al h hh _, by simp; omega, hS.belowS ((Below.refl _ _).alloc (Nat.le_refl _) _), BoxAt.new _ _ _⟩ ?_
    clear h hh hB hx kx hS
    rintro W ⟨hB, h, hh, hS, hg⟩
    refine (ilineTake_any l A n cap lo hi _ h hh (by omega)).mono ?_
    rintro e w5 ⟨A5, c5, rfl, hW5, hb5⟩
    have hs5 := hB.size
    replace hS := hS.belowS hb5
    replace hg := hg.below hb5 hg.lt
    replace hB := bstep hB hB.size hb5
    have kg := hg.cell
    clear h hh hb5
    generalize lineTake l = q at *
    obtain ⟨q1, q2, q3⟩ := q
    cases q3
    · have HQ := Lib.hid (show explains l x = (l, false) from HQ0.out)
      clear HQ0
      go_wp2
      go_ret2
      rw [HQ.out]
      exact .mk hS (Nat.le_refl _) hB
    · cases hv : q2 == x.v
      · have HQ := Lib.hid (show explains l x = (l, false) by rw [HQ0.out]; simp [hv])
        clear HQ0
        go_wp2
        go_ret2
        rw [HQ.out]
        exact .mk hS (Nat.le_refl _) hB
      · have HQ := Lib.hid (show explains l x = (q1, true) by rw [HQ0.out]; simp [hv])
        clear HQ0
        go_wp2
        go_ret2
        rw [HQ.out]
        exact .mk hW5 hs5 hB
  · have HQ := Lib.hid (ex3 HOK.out HEV.out hp hr)
    rw [show shV x.put x.re x.v = .iface 66 (.agg #[.int .i64 x.v]) by simp [shV, hp, hr]]
    clear hp hr HSH
    have ta1 := ta_gotNone_putDone
    have ta2 := ta_gotNone_putFull
    have ta3 := ta_gotNone_gotOne
    have ta4 := ta_gotNone_gotNone
    have HD := Lib.hid (show ((n : Int) == 0) = decide (l.length = 0) by rw [HL.out]; by_cases h0 : n = 0 <;> simp [h0])
    go_wp2
    go_ret2
    rw [HQ.out, ← HD.out]
    exact .mk (hS.belowS ((Below.refl _ _).alloc (Nat.le_refl _) _)) (Nat.le_refl _) (hB.alloc hB.size _)

set_option maxRecDepth 100000 in
set_option maxHeartbeats 2000000 in
theorem sexplains_any (l : List Int) (x : Ev) (A : Option Addr) (n cap lo hi : Nat) (w : World) (h : IntsW lo hi w A n cap l) (hh : hi ≤ w.heap.size) (hn : n ≤ 1048576) :
    Calls Try.prog 20 #[.slice A n cap, .agg #[.int .i64 x.who, .bool x.put, .int .i64 x.v, .int .i64 x.re, .int .i64 x.b, .int .i64 x.e]] w (RetIntB (explains l x) w) := by
  have HL := Lib.hid h.1
  go_enter Try.func20, Try.ntmps20
  go_wp2_with fail
  refine calls_abs (fun W => Below w.heap.size w W ∧ BoxAt W w.heap.size #[.int .i64 x.who, .bool x.put, .int .i64 x.v, .int .i64 x.re, .int .i64 x.b, .int .i64 x.e] 34 ∧ IntsW lo hi W A n cap l) ⟨(Below.refl _ _).alloc (Nat.le_refl _) _, BoxAt.new _ _ _, SlW.al h hh _⟩ ?_
  clear h
  rintro W ⟨hB, hx, h⟩
  replace hh := Nat.le_trans hh hB.size
  refine (slineOk_any l A n cap _ h.r (by omega)).mono ?_
  rintro e w1 ⟨rfl, hb1⟩
  replace h : IntsW lo hi _ A n cap l := SlW.below h hb1 hh
  replace hh := Nat.le_trans hh hb1.size
  replace hx := hx.below hb1 hx.lt
  replace hB := bstep hB hB.size hb1
  clear hb1
  cases hok : lineOk l
  · have HQ := Lib.hid (ex_no (x := x) hok)
    clear hok
    go_wp2
    go_ret2
    rw [HQ.out]
    exact .none hB rfl
  have HOK := Lib.hid hok
  clear hok
  have kx := hx.cell
  go_wp2_with fail
  refine (l10Event_any x _).mono ?_
  rintro e w3 ⟨rfl, hb2⟩
  replace h : IntsW lo hi _ A n cap l := SlW.below h hb2 hh
  replace hh := Nat.le_trans hh hb2.size
  replace hx := hx.below hb2 hx.lt
  replace hB := bstep hB hB.size hb2
  clear hb2 kx
  have kx := hx.cell
  cases hev : evOk x
  · have HQ := Lib.hid (ex_ev HOK.out hev)
    clear hev
    go_wp2_with fail
    refine (l1CopyN l A n cap _ h.ln.src (by omega)).mono ?_
    rintro e w5 ⟨S, cS, rfl, hS, hb5⟩
    have hs5 := hB.size
    replace hB := bstep hB hB.size hb5
    go_wp2
    go_ret2
    rw [HQ.out]
    exact .mk hS hs5 hB
  have HEV := Lib.hid hev
  have HSH := Lib.hid (ev_shape hev)
  clear hev
  rcases HSH.out with ⟨hp, hr | hr⟩ | ⟨hp, hr | hr⟩
  · have HQ := Lib.hid (ex1 HOK.out HEV.out hp hr)
    rw [hr] at kx
    clear hp hr HSH
    go_wp2_with fail
    refine (slinePut_any l x.v A n cap _ h.ln (by omega)).mono ?_
    rintro e w5 ⟨A5, c5, rfl, hW5, hb5⟩
    go_wp2
    go_ret2
    rw [HQ.out]
    exact .up ⟨A5, c5, rfl, hW5, hb5⟩ hB
  · have HQ := Lib.hid (ex2 HOK.out HEV.out hp hr)
    rw [hr] at kx
    clear hp hr HSH
    go_wp2_with fail
    refine (l1CopyN l A n cap _ h.ln.src (by omega)).mono ?_
    rintro e w5 ⟨S, cS, rfl, hS, hb5⟩
    have hs5 := hB.size
    replace hB := bstep hB hB.size hb5
    go_wp2
    go_ret2
    rw [HQ.out]
    exact .mk hS hs5 hB
  · have HQ0 := Lib.hid (ex4 HOK.out HEV.out hp hr)
    rw [hr] at kx hx
    clear hp hr HSH
    go_wp2_with fail
    refine (slineTake_any l A n cap lo hi _ h hh (by omega)).mono ?_
    rintro e w5 ⟨A5, c5, rfl, hW5, hb2⟩
    have hs4 := hB.size
    replace hW5 := SlW.mono hW5 hs4 (Nat.le_refl _)
    replace h : IntsW lo hi _ A n cap l := SlW.below h hb2 hh
    replace hh := Nat.le_trans hh hb2.size
    replace hx := hx.below hb2 hx.lt
    replace hB := bstep hB hB.size hb2
    clear hb2 kx
    have kx := hx.cell
    generalize lineTake l = q at *
    obtain ⟨q1, q2, q3⟩ := q
    cases q3
    · have HQ := Lib.hid (show explains l x = (l, false) from HQ0.out)
      clear HQ0 hW5
      go_wp2_with fail
      refine (l1CopyN l A n cap _ h.ln.src (by omega)).mono ?_
      rintro e w6 ⟨S, cS, rfl, hS, hb5⟩
      have hs5 := hB.size
      replace hB := bstep hB hB.size hb5
      go_wp2
      go_ret2
      rw [HQ.out]
      exact .mk hS hs5 hB
    · cases hv : q2 == x.v
      · have HQ := Lib.hid (show explains l x = (l, false) by rw [HQ0.out]; simp [hv])
        clear HQ0 hW5
        have hne : (q2 != x.v) = true := by rw [bne, hv]; rfl
        go_wp2_with fail
        refine (l1CopyN l A n cap _ h.ln.src (by omega)).mono ?_
        rintro e w6 ⟨S, cS, rfl, hS, hb5⟩
        have hs5 := hB.size
        replace hB := bstep hB hB.size hb5
        go_wp2
        go_ret2
        rw [HQ.out]
        exact .mk hS hs5 hB
      · have HQ := Lib.hid (show explains l x = (q1, true) by rw [HQ0.out]; simp [hv])
        clear HQ0
        have hne : (q2 != x.v) = false := by rw [bne, hv]; rfl
        go_wp2
        go_ret2
        rw [HQ.out]
        exact .mk hW5 (Nat.le_refl _) hB
  · have HQ := Lib.hid (ex3 HOK.out HEV.out hp hr)
    rw [hr] at kx
    clear hp hr HSH
    have HD := Lib.hid (show ((n : Int) == 0) = decide (l.length = 0) by rw [HL.out]; by_cases h0 : n = 0 <;> simp [h0])
    go_wp2_with fail
    refine (l1CopyN l A n cap _ h.ln.src (by omega)).mono ?_
    rintro e w5 ⟨S, cS, rfl, hS, hb5⟩
    have hs5 := hB.size
    replace hB := bstep hB hB.size hb5
    go_wp2
    go_ret2
    rw [HQ.out, ← HD.out]
    exact .mk hS hs5 hB

end Go.Proofs.Ytdfbbekolcpbmaa

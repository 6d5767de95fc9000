/-
  The law on rings holds: for every code that is drawn from, a new ring is right and open, one with a parcel holds it, and each number has its place. No conditions.
-/
import Derived.Test.YtlpcpaehkgaffaaChecked
import Derived.Test.YtlpcpaehkgaffaaRows
import Derived.Test.YtlpcpaehkgaffaaKit
import Derived.Test.YtlpcpaehkgaffaaDrwH
import Derived.Test.YtlpcpaehkgaffaaRinU
namespace Go.Proofs.Ytlpcpaehkgaffaa
set_option linter.unusedSimpArgs false
set_option linter.unusedVariables false
open Go.ChangeShapes Go.WideShapes Go.ChangeAt Go.RowKit Go.Joins

theorem own : ownKnob Try.prog.godebug = none := by kernel_rfl
theorem laidOut : laidOutB Try.prog = true := by kernel_rfl

end Go.Proofs.Ytlpcpaehkgaffaa

/-
  The walk of the law on rings.
-/
namespace Go.Proofs.Ytlpcpaehkgaffaa
set_option linter.unusedSimpArgs false
set_option linter.unusedVariables false
open Go.RowKit
set_option linter.unusedVariables false
attribute [local go_sem] OpUpon
attribute [local go_sem ↓] Go.wp_at_zero Go.wp_at_succ

theorem CodeOk.le {N M : Nat} {w : World} {a0 : Option Addr} {len : Nat} (h : CodeOk N w a0 len) (hM : N ≤ M) : CodeOk M w a0 len := by
  refine ⟨h.1, fun hl => ?_⟩
  obtain ⟨b, off, e, hn, hs, hc⟩ := h.2 hl
  exact ⟨b, off, e, by omega, hs, hc⟩
theorem iringOk_is (r : Rg) (A : Option Addr) (n cap : Nat) (z : Bool) (w : World) (hl : PlsR 0 w A n r.ps) (hn : n ≤ 1048576) (h : r.ok = z) :
    Calls Try.prog 13 #[.agg #[.int .i64 r.h, .int .i64 r.t, .bool r.c, .int .i64 r.x, .slice A n cap]] w (RetBelow (.bool z) w) := by
  rw [← h]; exact iringOk_any r.h r.t r.c r.x A n cap r.ps w hl hn
theorem seedU_ok {n : Nat} {v : Int} (hn : 2 ≤ n) (h8 : n ≤ 8) (hv : valB v = true) : (Rg.seed n v).ok = true := by
  have hl : ((fresh n).set 0 ⟨true, 0, true, v⟩).length = n := by simp [fresh_len]
  simp only [Rg.seed, Rg.ok, rgOk, Bool.and_eq_true]
  refine ⟨⟨⟨⟨by decide, by decide⟩, by decide⟩, ?_⟩, ?_⟩
  · rw [hl]
    simp only [roundB, Bool.and_eq_true, decide_eq_true_eq]
    omega
  · simp only [allB, List.all_eq_true, List.mem_range]
    intro i hi
    rw [hl] at hi
    simp only [valB, Bool.and_eq_true, decide_eq_true_eq] at hv
    unfold okAt
    by_cases h0 : i = 0
    · subst h0
      rw [List.getElem?_set_self (by rw [fresh_len]; omega)]
      simp [okB, hv]
    · rw [List.getElem?_set_ne (Ne.symm h0), fresh_at hi, List.length_set, fresh_len]
      have : (i : Int) % (n : Int) = i := Int.emod_eq_of_lt (by omega) (by omega)
      simp [okB, this]; omega
theorem freshU_ok {n : Nat} (hn : 2 ≤ n) (h8 : n ≤ 8) : (Rg.fresh n).ok = true := by
  simp only [Rg.fresh, Rg.ok, rgOk, Bool.and_eq_true]
  refine ⟨⟨⟨⟨by decide, by decide⟩, by decide⟩, ?_⟩, ?_⟩
  · rw [fresh_len]
    simp only [roundB, Bool.and_eq_true, decide_eq_true_eq]
    omega
  · simp only [allB, List.all_eq_true, List.mem_range]
    intro i hi
    rw [fresh_len] at hi
    unfold okAt
    rw [fresh_at hi, fresh_len]
    have : (i : Int) % (n : Int) = i := Int.emod_eq_of_lt (by omega) (by omega)
    simp [okB, this]; omega
theorem seedU_yes {m v : Int} {x : Rg} (h : seedU m v = (x, true)) : x.ok = true ∧ x.t = 1 ∧ x.ps[0]? = some ⟨true, 0, true, v⟩ := by
  unfold seedU at h
  split at h
  · rename_i hb
    simp only [Bool.and_eq_true] at hb
    obtain ⟨k, rfl, h2, h8⟩ := round_nat hb.1
    injection h with h
    subst h
    refine ⟨seedU_ok (by simpa using h2) (by simpa using h8) hb.2, rfl, ?_⟩
    simp only [Rg.seed]
    rw [List.getElem?_set_self (by rw [fresh_len]; simp; omega)]
  · cases h
theorem newU_yes {n : Int} {x : Rg} (h : newU n = (x, true)) : x.ok = true ∧ x.c = false ∧ x.x = -1 ∧ (x.ps.length : Int) = n := by
  unfold newU at h
  split at h
  · rename_i hb
    obtain ⟨k, rfl, h2, h8⟩ := round_nat hb
    injection h with h
    subst h
    exact ⟨freshU_ok (by simpa using h2) (by simpa using h8), rfl, rfl, by simp [Rg.fresh, fresh_len]⟩
  · cases h
theorem at_ok (h t : Int) (c : Bool) (x : Int) (l : List Pl) (z : Int) : placeAt h t c x l z = -1 ∨ (0 ≤ placeAt h t c x l z ∧ placeAt h t c x l z < l.length ∧ ∃ p, l[(placeAt h t c x l z).toNat]? = some p ∧ (0 ≤ p.n ∧ p.n ≤ 1000000) ∧ (0 ≤ z ∧ z ≤ 1000000) ∧ (z - p.n).tmod (l.length : Int) = 0) := by
  cases hk : rgOk h t c x l && noB z
  · exact .inl (placeAt_no hk)
  · right
    rw [placeAt_yes hk]
    simp only [Bool.and_eq_true] at hk
    have hl := rgOk_len hk.1
    have hz := hk.2
    simp only [noB, Bool.and_eq_true, decide_eq_true_eq] at hz
    have h0 := Int.emod_nonneg z (show (l.length : Int) ≠ 0 by omega)
    have h1 := Int.emod_lt_of_pos z (show (0 : Int) < (l.length : Int) by omega)
    have hi : (z % (l.length : Int)).toNat < l.length := by omega
    refine ⟨h0, h1, _, List.getElem?_eq_getElem hi, ?_⟩
    have ha := hk.1
    simp only [rgOk, Bool.and_eq_true, allB, List.all_eq_true, List.mem_range] at ha
    have hb := ha.2 _ hi
    rw [okAt_some (List.getElem?_eq_getElem hi)] at hb
    simp only [Bool.and_eq_true, beq_iff_eq] at hb
    refine ⟨okB_no hb.1, hz, ?_⟩
    have h2 := hb.2
    rw [Int.toNat_of_nonneg h0] at h2
    have : (l.length : Int) ∣ z - l[(z % (l.length : Int)).toNat].n := Int.dvd_of_emod_eq_zero (by rw [Int.sub_emod, h2]; simp)
    exact Int.tmod_eq_zero_of_dvd this

set_option maxHeartbeats 400000 in
theorem big_any (a0 : Option Addr) (len cap : Nat) (w : World) : Calls Try.prog 4 #[.slice a0 len cap] w (Quiet1 (.bool (decide (4096 < (len : Int)))) w) := by
  go_enter Try.func4, Try.ntmps4
  go_wp2
  go_ret
  exact ⟨rfl, rfl⟩

def frAV (x1 x2 : Rg) (A1 A2 A4 : Option Addr) (n1 n2 n3 c1 c2 c3 c4 pb : Nat) (qh qt : Int) (qc : Bool) (qx z at_ : Int) (is rk : Bool) (g4 g8 g10 g13 : Nat) : List Sl := [.v (.agg #[.int .i64 x1.h, .int .i64 x1.t, .bool x1.c, .int .i64 x1.x, .slice A1 n1 c1]),
  .v (.agg #[.int .i64 x1.h, .int .i64 x1.t, .bool x1.c, .int .i64 x1.x, .slice A4 n1 c4]),
  .v (.bool true),
  .v (.bool false),
  .v (.bool false),
  .v (.bool is),
  .v (.bool is),
  .v (.bool false),
  .v (.bool false),
  .v (.bool false),
  .v (.agg #[.int .i64 qh, .int .i64 qt, .bool qc, .int .i64 qx, .slice (some ⟨pb, 0, none⟩) n3 c3]),
  .v (.bool rk),
  .v (.agg #[.int .i64 qh, .int .i64 qt, .bool qc, .int .i64 qx, .slice (some ⟨pb, 0, none⟩) n3 c3]),
  .v (.bool rk),
  .v (.bool false),
  .v (.bool false),
  .v (.bool false),
  .v (.int .i64 at_),
  .v (.agg #[.int .i64 qh, .int .i64 qt, .bool qc, .int .i64 qx, .slice (some ⟨pb, 0, none⟩) n3 c3]),
  .v (.int .i64 z),
  .v (.int .i64 at_),
  .v (.bool false),
  .v (.bool false)]

set_option maxRecDepth 100000 in
set_option maxHeartbeats 8000000 in
theorem fnRings_any (a0 : Option Addr) (len cap : Nat) (w : World) (hc : CodeOk w.heap.size w a0 len) :
    Calls Try.prog 3 #[.slice a0 len cap] w (RetBelow (.bool true) w) := by
  by_cases hl : 4096 < (len : Int)
  · have hl' : decide (4096 < (len : Int)) = true := decide_eq_true hl
    go_enter Try.func3, Try.ntmps3
    go_wp2_with fail
    refine (big_any _ _ _ _).mono ?_
    rintro e w' ⟨rfl, rfl⟩
    go_wp2
    go_ret
    exact .mk rfl (Below.refl _ _)
  · have hl' : decide (4096 < (len : Int)) = false := decide_eq_false hl
    go_enter Try.func3, Try.ntmps3
    go_wp2_with fail
    refine (big_any _ _ _ _).mono ?_
    rintro e w' ⟨rfl, rfl⟩
    go_wp2_with fail
    refine (drawNewRing_any a0 len cap _ hc).mono ?_
    rintro e w1 ⟨n, rfl, hnn, hB⟩
    go_wp2_with fail
    refine (inewU_any n _).mono ?_
    rintro e w2 ⟨A1, n1, c1, rfl, p1, hn1, hb⟩
    replace hB := bstep hB hB.size hb
    clear hb
    have HSN := snewU_any n
    generalize hP : newU n = P1 at *
    obtain ⟨x1, is⟩ := P1
    have HP := Lib.hid hP; clear hP
    unfold rgV
    go_wp2_with fail
    refine calls_abs (fun W => Below w.heap.size w W ∧ BoxAt W w2.heap.size #[.int .i64 x1.h, .int .i64 x1.t, .bool x1.c, .int .i64 x1.x, .slice A1 n1 c1] 27 ∧ PlsR 0 W A1 n1 x1.ps) ⟨hB.alloc hB.size _, BoxAt.new _ _ _, PlsR.below p1 ((Below.refl _ _).alloc (Nat.le_refl _) _)⟩ ?_
    clear hB p1
    generalize w2.heap.size = g4 at *
    rintro W2 ⟨hB, b4, p1⟩
    refine (drawSeeded_any a0 len cap _ ((hc.below hB).le hB.size)).mono ?_
    rintro e w3 ⟨m, v, rfl, hmm, hvv, hb⟩
    replace b4 := b4.below hb b4.lt
    replace p1 := PlsR.below p1 hb
    replace hB := bstep hB hB.size hb
    clear hb
    have kb4 := b4.cell
    go_wp2_with fail
    clear kb4
    refine (iseedU_any m v _).mono ?_
    rintro e w4 ⟨A2, n2, c2, rfl, p2, hn2, hb⟩
    replace b4 := b4.below hb b4.lt
    replace p1 := PlsR.below p1 hb
    replace hB := bstep hB hB.size hb
    clear hb
    have HSS := sseedU_any m v
    generalize hP : seedU m v = P2 at *
    obtain ⟨x2, fine⟩ := P2
    have HP2 := Lib.hid hP; clear hP
    unfold rgV
    go_wp2_with fail
    refine calls_abs (fun W => Below w.heap.size w W ∧ BoxAt W g4 #[.int .i64 x1.h, .int .i64 x1.t, .bool x1.c, .int .i64 x1.x, .slice A1 n1 c1] 27 ∧ BoxAt W w4.heap.size #[.int .i64 x2.h, .int .i64 x2.t, .bool x2.c, .int .i64 x2.x, .slice A2 n2 c2] 27 ∧ PlsR 0 W A1 n1 x1.ps ∧ PlsR 0 W A2 n2 x2.ps) ⟨hB.alloc hB.size _, b4.alloc _, BoxAt.new _ _ _, PlsR.below p1 ((Below.refl _ _).alloc (Nat.le_refl _) _), PlsR.below p2 ((Below.refl _ _).alloc (Nat.le_refl _) _)⟩ ?_
    clear hB b4 p1 p2
    generalize w4.heap.size = g8 at *
    rintro W4 ⟨hB, b4, b8, p1, p2⟩
    refine (drawPlaceAt_any a0 len cap _ ((hc.below hB).le hB.size)).mono ?_
    rintro e w5 ⟨qh, qt, qc, qx, pb, n3, c3, l, z, rfl, p3, hn3, hz, hb⟩
    replace b4 := b4.below hb b4.lt
    replace b8 := b8.below hb b8.lt
    replace p1 := PlsR.below p1 hb
    replace p2 := PlsR.below p2 hb
    replace hB := bstep hB hB.size hb
    clear hb
    unfold rgV
    go_wp2_with fail
    refine calls_abs (fun W => Below w.heap.size w W ∧ BoxAt W g4 #[.int .i64 x1.h, .int .i64 x1.t, .bool x1.c, .int .i64 x1.x, .slice A1 n1 c1] 27 ∧ BoxAt W g8 #[.int .i64 x2.h, .int .i64 x2.t, .bool x2.c, .int .i64 x2.x, .slice A2 n2 c2] 27 ∧ BoxAt W w5.heap.size #[.int .i64 qh, .int .i64 qt, .bool qc, .int .i64 qx, .slice (some ⟨pb, 0, none⟩) n3 c3] 27 ∧ PlsR 0 W A1 n1 x1.ps ∧ PlsR 0 W A2 n2 x2.ps ∧ PlsR 0 W (some ⟨pb, 0, none⟩) n3 l) ⟨hB.alloc hB.size _, b4.alloc _, b8.alloc _, BoxAt.new _ _ _, PlsR.below p1 ((Below.refl _ _).alloc (Nat.le_refl _) _), PlsR.below p2 ((Below.refl _ _).alloc (Nat.le_refl _) _), PlsR.below p3 ((Below.refl _ _).alloc (Nat.le_refl _) _)⟩ ?_
    clear hB b4 b8 p1 p2 p3
    generalize w5.heap.size = g10 at *
    rintro W5 ⟨hB, b4, b8, b10, p1, p2, p3⟩
    have HPA := iplaceAt_any qh qt qc qx (some ⟨pb, 0, none⟩) n3 c3 l z
    have HPS := splaceAt_any qh qt qc qx (some ⟨pb, 0, none⟩) n3 c3 l z
    have HRI := iringOk_any qh qt qc qx (some ⟨pb, 0, none⟩) n3 c3 l
    have HRS := sringOk_any qh qt qc qx (some ⟨pb, 0, none⟩) n3 c3 l
    have HAT := at_ok qh qt qc qx l z
    generalize placeAt qh qt qc qx l z = at_ at *
    generalize hrk : rgOk qh qt qc qx l = rk at *
    clear hrk
    unfold rgV at HPA HPS HRI HRS
    refine (HPA _ p3 (by omega)).mono ?_
    rintro e w6 ⟨rfl, hb⟩
    replace b4 := b4.below hb b4.lt
    replace b8 := b8.below hb b8.lt
    replace b10 := b10.below hb b10.lt
    replace p1 := PlsR.below p1 hb
    replace p2 := PlsR.below p2 hb
    replace p3 := PlsR.below p3 hb
    replace hB := bstep hB hB.size hb
    clear hb
    have kb4 := b4.cell
    have kb8 := b8.cell
    have kb10 := b10.cell
    go_wp2_with fail
    clear kb4 kb8 kb10
    refine (HSN _).mono ?_
    rintro e w7 ⟨A4, n4, c4, rfl, p4, hn4, hb⟩
    replace b4 := b4.below hb b4.lt
    replace b8 := b8.below hb b8.lt
    replace b10 := b10.below hb b10.lt
    replace p1 := PlsR.below p1 hb
    replace p2 := PlsR.below p2 hb
    replace p3 := PlsR.below p3 hb
    replace hB := bstep hB hB.size hb
    clear hb
    obtain rfl : n1 = n4 := p1.1.symm.trans p4.1
    unfold rgV
    go_upto_region 10 with fail
    refine wp_abs (fun W => Below w.heap.size w W ∧ BoxAt W g4 #[.int .i64 x1.h, .int .i64 x1.t, .bool x1.c, .int .i64 x1.x, .slice A1 n1 c1] 27 ∧ BoxAt W g8 #[.int .i64 x2.h, .int .i64 x2.t, .bool x2.c, .int .i64 x2.x, .slice A2 n2 c2] 27 ∧ BoxAt W g10 #[.int .i64 qh, .int .i64 qt, .bool qc, .int .i64 qx, .slice (some ⟨pb, 0, none⟩) n3 c3] 27 ∧ BoxAt W w7.heap.size #[.int .i64 x1.h, .int .i64 x1.t, .bool x1.c, .int .i64 x1.x, .slice A4 n1 c4] 27 ∧ PlsR 0 W A1 n1 x1.ps ∧ PlsR 0 W A2 n2 x2.ps ∧ PlsR 0 W (some ⟨pb, 0, none⟩) n3 l ∧ PlsR 0 W A4 n1 x1.ps) ⟨hB.alloc hB.size _, b4.alloc _, b8.alloc _, b10.alloc _, BoxAt.new _ _ _, PlsR.below p1 ((Below.refl _ _).alloc (Nat.le_refl _) _), PlsR.below p2 ((Below.refl _ _).alloc (Nat.le_refl _) _), PlsR.below p3 ((Below.refl _ _).alloc (Nat.le_refl _) _), PlsR.below p4 ((Below.refl _ _).alloc (Nat.le_refl _) _)⟩ ?_
    clear hB b4 b8 b10 p1 p2 p3 p4
    generalize w7.heap.size = g13 at *
    rintro W7 ⟨hB, b4, b8, b10, b13, p1, p2, p3, p4⟩
    go_cut [72] (fun u W' => Below w.heap.size w W' ∧ BoxAt W' g4 #[.int .i64 x1.h, .int .i64 x1.t, .bool x1.c, .int .i64 x1.x, .slice A1 n1 c1] 27 ∧ BoxAt W' g8 #[.int .i64 x2.h, .int .i64 x2.t, .bool x2.c, .int .i64 x2.x, .slice A2 n2 c2] 27 ∧ BoxAt W' g10 #[.int .i64 qh, .int .i64 qt, .bool qc, .int .i64 qx, .slice (some ⟨pb, 0, none⟩) n3 c3] 27 ∧ BoxAt W' g13 #[.int .i64 x1.h, .int .i64 x1.t, .bool x1.c, .int .i64 x1.x, .slice A4 n1 c4] 27 ∧ PlsR 0 W' A1 n1 x1.ps ∧ PlsR 0 W' A2 n2 x2.ps ∧ PlsR 0 W' (some ⟨pb, 0, none⟩) n3 l ∧ PlsR 0 W' A4 n1 x1.ps ∧ u = .bool false)
    case first =>
      refine wp_region2v (fun w w' => Below w.heap.size w w') (fun _ _ h => h.size) (fun _ => Below.refl _ _) (fun L W' => Below w.heap.size w W' ∧ BoxAt W' g4 #[.int .i64 x1.h, .int .i64 x1.t, .bool x1.c, .int .i64 x1.x, .slice A1 n1 c1] 27 ∧ BoxAt W' g8 #[.int .i64 x2.h, .int .i64 x2.t, .bool x2.c, .int .i64 x2.x, .slice A2 n2 c2] 27 ∧ BoxAt W' g10 #[.int .i64 qh, .int .i64 qt, .bool qc, .int .i64 qx, .slice (some ⟨pb, 0, none⟩) n3 c3] 27 ∧ BoxAt W' g13 #[.int .i64 x1.h, .int .i64 x1.t, .bool x1.c, .int .i64 x1.x, .slice A4 n1 c4] 27 ∧ PlsR 0 W' A1 n1 x1.ps ∧ PlsR 0 W' A2 n2 x2.ps ∧ PlsR 0 W' (some ⟨pb, 0, none⟩) n3 l ∧ PlsR 0 W' A4 n1 x1.ps) (frAV x1 x2 A1 A2 A4 n1 n2 n3 c1 c2 c3 c4 pb qh qt qc qx z at_ is rk g4 g8 g10 g13) (fun _ => 0) [] (by kernel_rfl) (by kernel_rfl) ?_ ?_ ?_
        (.still rfl ?a0 <| .still rfl ?a1 <| .grow rfl ?a2 <| .still rfl ?a3 <| .still rfl ?a4 <| .still rfl ?a5 <| .still rfl ?a6 <| .still rfl ?a7 <| .still rfl ?a8 <| .still rfl ?a9 <| .still rfl ?a10 <| .grow rfl ?a11 <| .still rfl ?a12 <| .grow rfl ?a13 <| .still rfl ?a14 <| .still rfl ?a15 <| .still rfl ?a16 <| .still rfl ?a17 <| .still rfl ?a18 <| .still rfl ?a19 <| .grow rfl ?a20 <| .still rfl ?a21 <| .still rfl ?a22 <| .nil) ?_ ?_
      · exact trivial
      · exact trivial
      · exact ⟨hB.drew, b4, b8, b10, b13, p1, p2, p3, p4⟩
      case a0 =>
        go_light
        intro L σ W' hcl hL hC hw
        have kb4 := hC.2.1.cell
        clear hw hcl hL hC
        refine OpGoes.step fun K hK => ?_
        unfold OpGoes
        go_simp
        exact hK _ _ ⟨rfl, rfl⟩
      case a1 =>
        go_light
        intro L σ W' hcl hL hC hw
        have kb13 := hC.2.2.2.2.1.cell
        clear hw hcl hL hC
        refine OpGoes.step fun K hK => ?_
        unfold OpGoes
        go_simp
        exact hK _ _ ⟨rfl, rfl⟩
      case a3 | a4 | a5 | a6 | a7 | a8 | a9 | a14 | a15 | a16 | a17 | a19 | a21 | a22 =>
        go_light
        intro L σ W' hcl hL hC hw
        try have e2 := wT hw 2 rfl
        try have e3 := wT hw 3 rfl
        try have e4 := wT hw 4 rfl
        try have e5 := wT hw 5 rfl
        try have e6 := wT hw 6 rfl
        try have e7 := wT hw 7 rfl
        try have e8 := wT hw 8 rfl
        try have e9 := wT hw 9 rfl
        try have e11 := wT hw 11 rfl
        try have e13 := wT hw 13 rfl
        try have e14 := wT hw 14 rfl
        try have e15 := wT hw 15 rfl
        try have e16 := wT hw 16 rfl
        try have e17 := wT hw 17 rfl
        try have e20 := wT hw 20 rfl
        try have e21 := wT hw 21 rfl
        clear hw hcl hL hC
        refine OpGoes.step fun K hK => ?_
        unfold OpGoes
        go_simp
        exact hK _ _ ⟨rfl, rfl⟩
      case a10 | a12 | a18 =>
        go_light
        intro L σ W' hcl hL hC hw
        try have e9 := wT hw 9 rfl
        try have e16 := wT hw 16 rfl
        have kb10 := hC.2.2.2.1.cell
        clear hw hcl hL hC
        refine OpGoes.step fun K hK => ?_
        unfold OpGoes
        go_simp
        exact hK _ _ ⟨rfl, rfl⟩
      case a2 =>
        go_light
        intro L σ W' hcl hL hC hw
        have e0 := wV hw 0 rfl
        have e1 := wV hw 1 rfl
        clear hw
        have HC := Lib.hid hC
        clear hC
        clear hcl hL
        refine OpGoes.step fun K hK => ?_
        unfold OpGoes
        go_simp
        obtain ⟨hB, b4, b8, b10, b13, p1, p2, p3, p4⟩ := HC.out
        refine (likeRing_same x1.h x1.t x1.c x1.x A1 A4 n1 c1 c4 x1.ps _ p1 p4 (by omega)).mono ?_
        rintro e w1 ⟨rfl, hb1⟩
        exact ⟨_, rfl, hK _ _ ⟨⟨bstep hB hB.size hb1, b4.below hb1 b4.lt, b8.below hb1 b8.lt, b10.below hb1 b10.lt, b13.below hb1 b13.lt, PlsR.below p1 hb1, PlsR.below p2 hb1, PlsR.below p3 hb1, PlsR.below p4 hb1⟩, rfl, hb1⟩⟩
      case a11 =>
        go_light
        intro L σ W' hcl hL hC hw
        have e9 := wV hw 9 rfl
        have e10 := wV hw 10 rfl
        clear hw
        have HC := Lib.hid hC
        clear hC
        clear hcl hL
        refine OpGoes.step fun K hK => ?_
        unfold OpGoes
        go_simp
        obtain ⟨hB, b4, b8, b10, b13, p1, p2, p3, p4⟩ := HC.out
        refine (HRI _ p3 (by omega)).mono ?_
        rintro e w1 ⟨rfl, hb1⟩
        exact ⟨_, rfl, hK _ _ ⟨⟨bstep hB hB.size hb1, b4.below hb1 b4.lt, b8.below hb1 b8.lt, b10.below hb1 b10.lt, b13.below hb1 b13.lt, PlsR.below p1 hb1, PlsR.below p2 hb1, PlsR.below p3 hb1, PlsR.below p4 hb1⟩, rfl, hb1⟩⟩
      case a13 =>
        go_light
        intro L σ W' hcl hL hC hw
        have e9 := wV hw 9 rfl
        have e12 := wV hw 12 rfl
        clear hw
        have HC := Lib.hid hC
        clear hC
        clear hcl hL
        refine OpGoes.step fun K hK => ?_
        unfold OpGoes
        go_simp
        obtain ⟨hB, b4, b8, b10, b13, p1, p2, p3, p4⟩ := HC.out
        refine (HRS _ p3 (by omega)).mono ?_
        rintro e w1 ⟨rfl, hb1⟩
        exact ⟨_, rfl, hK _ _ ⟨⟨bstep hB hB.size hb1, b4.below hb1 b4.lt, b8.below hb1 b8.lt, b10.below hb1 b10.lt, b13.below hb1 b13.lt, PlsR.below p1 hb1, PlsR.below p2 hb1, PlsR.below p3 hb1, PlsR.below p4 hb1⟩, rfl, hb1⟩⟩
      case a20 =>
        go_light
        intro L σ W' hcl hL hC hw
        have e16 := wV hw 16 rfl
        have e18 := wV hw 18 rfl
        have e19 := wV hw 19 rfl
        clear hw
        have HC := Lib.hid hC
        clear hC
        clear hcl hL
        refine OpGoes.step fun K hK => ?_
        unfold OpGoes
        go_simp
        obtain ⟨hB, b4, b8, b10, b13, p1, p2, p3, p4⟩ := HC.out
        refine (HPS _ p3 (by omega)).mono ?_
        rintro e w1 ⟨rfl, hb1⟩
        exact ⟨_, rfl, hK _ _ ⟨⟨bstep hB hB.size hb1, b4.below hb1 b4.lt, b8.below hb1 b8.lt, b10.below hb1 b10.lt, b13.below hb1 b13.lt, PlsR.below p1 hb1, PlsR.below p2 hb1, PlsR.below p3 hb1, PlsR.below p4 hb1⟩, rfl, hb1⟩⟩
      · intro L L' W' hLL hC
        obtain ⟨hB, b4, b8, b10, b13, p1, p2, p3, p4⟩ := hC
        exact ⟨hB, b4, b8, b10, b13, p1, p2, p3, p4⟩
      · intro σ L W' hall hC hRR
        obtain ⟨hB, b4, b8, b10, b13, p1, p2, p3, p4⟩ := hC
        have e22 := dV hRR 22 rfl
        clear hRR
        simp only [lexAll]
        go_simp
        go_step
        go_meet
        exact ⟨hB, b4, b8, b10, b13, p1, p2, p3, p4, rfl⟩
    case rest =>
      clear hB b4 b8 b10 b13 p1 p2 p3 p4
      obtain ⟨hB, b4, b8, b10, b13, p1, p2, p3, p4, rfl⟩ := hcut
      have kb4 := b4.cell
      have kb8 := b8.cell
      have kb10 := b10.cell
      have kb13 := b13.cell
      go_wp2_with fail
      clear kb4 kb8 kb10 kb13
      refine (HSS _).mono ?_
      rintro e w8 ⟨A5, n5, c5, rfl, p5, hn5, hb⟩
      replace b4 := b4.below hb b4.lt
      replace b8 := b8.below hb b8.lt
      replace b10 := b10.below hb b10.lt
      replace b13 := b13.below hb b13.lt
      replace p1 := PlsR.below p1 hb
      replace p2 := PlsR.below p2 hb
      replace p3 := PlsR.below p3 hb
      replace p4 := PlsR.below p4 hb
      replace hB := bstep hB hB.size hb
      clear hb
      obtain rfl : n2 = n5 := p2.1.symm.trans p5.1
      unfold rgV
      go_upto_region 13 with fail
      refine wp_abs (fun W => Below w.heap.size w W ∧ BoxAt W g4 #[.int .i64 x1.h, .int .i64 x1.t, .bool x1.c, .int .i64 x1.x, .slice A1 n1 c1] 27 ∧ BoxAt W g8 #[.int .i64 x2.h, .int .i64 x2.t, .bool x2.c, .int .i64 x2.x, .slice A2 n2 c2] 27 ∧ BoxAt W g10 #[.int .i64 qh, .int .i64 qt, .bool qc, .int .i64 qx, .slice (some ⟨pb, 0, none⟩) n3 c3] 27 ∧ BoxAt W g13 #[.int .i64 x1.h, .int .i64 x1.t, .bool x1.c, .int .i64 x1.x, .slice A4 n1 c4] 27 ∧ BoxAt W w8.heap.size #[.int .i64 x2.h, .int .i64 x2.t, .bool x2.c, .int .i64 x2.x, .slice A5 n2 c5] 27 ∧ PlsR 0 W A1 n1 x1.ps ∧ PlsR 0 W A2 n2 x2.ps ∧ PlsR 0 W (some ⟨pb, 0, none⟩) n3 l ∧ PlsR 0 W A4 n1 x1.ps ∧ PlsR 0 W A5 n2 x2.ps) ⟨hB.alloc hB.size _, b4.alloc _, b8.alloc _, b10.alloc _, b13.alloc _, BoxAt.new _ _ _, PlsR.below p1 ((Below.refl _ _).alloc (Nat.le_refl _) _), PlsR.below p2 ((Below.refl _ _).alloc (Nat.le_refl _) _), PlsR.below p3 ((Below.refl _ _).alloc (Nat.le_refl _) _), PlsR.below p4 ((Below.refl _ _).alloc (Nat.le_refl _) _), PlsR.below p5 ((Below.refl _ _).alloc (Nat.le_refl _) _)⟩ ?_
      clear hB b4 b8 b10 b13 p1 p2 p3 p4 p5
      generalize w8.heap.size = g15 at *
      rintro W8 ⟨hB, b4, b8, b10, b13, b15, p1, p2, p3, p4, p5⟩
      go_cut [109] (fun u W' => Below w.heap.size w W' ∧ BoxAt W' g4 #[.int .i64 x1.h, .int .i64 x1.t, .bool x1.c, .int .i64 x1.x, .slice A1 n1 c1] 27 ∧ BoxAt W' g8 #[.int .i64 x2.h, .int .i64 x2.t, .bool x2.c, .int .i64 x2.x, .slice A2 n2 c2] 27 ∧ BoxAt W' g10 #[.int .i64 qh, .int .i64 qt, .bool qc, .int .i64 qx, .slice (some ⟨pb, 0, none⟩) n3 c3] 27 ∧ BoxAt W' g13 #[.int .i64 x1.h, .int .i64 x1.t, .bool x1.c, .int .i64 x1.x, .slice A4 n1 c4] 27 ∧ BoxAt W' g15 #[.int .i64 x2.h, .int .i64 x2.t, .bool x2.c, .int .i64 x2.x, .slice A5 n2 c5] 27 ∧ PlsR 0 W' A1 n1 x1.ps ∧ PlsR 0 W' A2 n2 x2.ps ∧ PlsR 0 W' (some ⟨pb, 0, none⟩) n3 l ∧ PlsR 0 W' A4 n1 x1.ps ∧ PlsR 0 W' A5 n2 x2.ps ∧ u = .bool false)
      case first =>
        have kb4 := b4.cell
        have kb8 := b8.cell
        have kb10 := b10.cell
        have kb13 := b13.cell
        have kb15 := b15.cell
        go_wp2_with fail
        clear kb4 kb8 kb10 kb13 kb15
        refine (likeRing_same x2.h x2.t x2.c x2.x A2 A5 n2 c2 c5 x2.ps _ p2 p5 (by omega)).mono ?_
        rintro e w9 ⟨rfl, hb⟩
        replace b4 := b4.below hb b4.lt
        replace b8 := b8.below hb b8.lt
        replace b10 := b10.below hb b10.lt
        replace b13 := b13.below hb b13.lt
        replace b15 := b15.below hb b15.lt
        replace p1 := PlsR.below p1 hb
        replace p2 := PlsR.below p2 hb
        replace p3 := PlsR.below p3 hb
        replace p4 := PlsR.below p4 hb
        replace p5 := PlsR.below p5 hb
        replace hB := bstep hB hB.size hb
        clear hb
        cases fine
        · go_wp2
          go_meet
          exact ⟨hB, b4, b8, b10, b13, b15, p1, p2, p3, p4, p5, rfl⟩
        · obtain ⟨y1, y2, y3⟩ := seedU_yes HP2.out
          have Y3 := Lib.hid y3; clear y3
          have Y2 := Lib.hid y2; clear y2
          have kb8 := b8.cell
          go_wp2_with fail
          clear kb8
          refine (iringOk_is x2 A2 n2 c2 true _ p2 (by omega) y1).mono ?_
          rintro e w10 ⟨rfl, hb⟩
          replace b4 := b4.below hb b4.lt
          replace b8 := b8.below hb b8.lt
          replace b10 := b10.below hb b10.lt
          replace b13 := b13.below hb b13.lt
          replace b15 := b15.below hb b15.lt
          replace p1 := PlsR.below p1 hb
          replace p2 := PlsR.below p2 hb
          replace p3 := PlsR.below p3 hb
          replace p4 := PlsR.below p4 hb
          replace p5 := PlsR.below p5 hb
          replace hB := bstep hB hB.size hb
          clear hb
          clear y1
          obtain ⟨b, o, p, e_, _, hp, hpc⟩ := SlE.at_ p2 (i := 0) (by have := p2.1; have := (List.getElem?_eq_some_iff.1 Y3.out).1; omega)
          have q0 : (0 : Int) < (n2 : Int) := by have := p2.1; have := (List.getElem?_eq_some_iff.1 hp).1; omega
          rw [Y3.out] at hp
          injection hp with hp
          subst hp
          obtain ⟨d0, d1, d2, d3⟩ := hpc
          simp only [Nat.zero_mul, Nat.add_zero] at d3
          clear d0 d1 d2
          have kb8 := b8.cell
          rw [Y2.out, e_] at kb8
          go_wp2
          go_meet
          exact ⟨hB, b4, b8, b10, b13, b15, p1, p2, p3, p4, p5, rfl⟩
      case rest =>
        clear hB b4 b8 b10 b13 b15 p1 p2 p3 p4 p5
        obtain ⟨hB, b4, b8, b10, b13, b15, p1, p2, p3, p4, p5, rfl⟩ := hcut
        go_upto_region 15 with fail
        go_cut [133] (fun u W' => Below w.heap.size w W' ∧ BoxAt W' g4 #[.int .i64 x1.h, .int .i64 x1.t, .bool x1.c, .int .i64 x1.x, .slice A1 n1 c1] 27 ∧ BoxAt W' g8 #[.int .i64 x2.h, .int .i64 x2.t, .bool x2.c, .int .i64 x2.x, .slice A2 n2 c2] 27 ∧ BoxAt W' g10 #[.int .i64 qh, .int .i64 qt, .bool qc, .int .i64 qx, .slice (some ⟨pb, 0, none⟩) n3 c3] 27 ∧ BoxAt W' g13 #[.int .i64 x1.h, .int .i64 x1.t, .bool x1.c, .int .i64 x1.x, .slice A4 n1 c4] 27 ∧ BoxAt W' g15 #[.int .i64 x2.h, .int .i64 x2.t, .bool x2.c, .int .i64 x2.x, .slice A5 n2 c5] 27 ∧ PlsR 0 W' A1 n1 x1.ps ∧ PlsR 0 W' A2 n2 x2.ps ∧ PlsR 0 W' (some ⟨pb, 0, none⟩) n3 l ∧ PlsR 0 W' A4 n1 x1.ps ∧ PlsR 0 W' A5 n2 x2.ps ∧ u = .bool false)
        case first =>
          rcases HAT with rfl | ⟨a0_, a1_, p, ha, hpn, hz_, hm_⟩
          · have kb10 := b10.cell
            go_quiet (fail)
            go_wp2
            have hdn : ∀ k, Below wc.heap.size wc (wc.drewN k) := fun k => ⟨rfl, rfl, rfl, Nat.le_refl _, fun _ _ => rfl⟩
            go_meet
            exact ⟨bstep hB hB.size (hdn _), b4.below (hdn _) b4.lt, b8.below (hdn _) b8.lt, b10.below (hdn _) b10.lt, b13.below (hdn _) b13.lt, b15.below (hdn _) b15.lt, PlsR.below p1 (hdn _), PlsR.below p2 (hdn _), PlsR.below p3 (hdn _), PlsR.below p4 (hdn _), PlsR.below p5 (hdn _), rfl⟩
          · have hl3 := p3.1
            obtain ⟨b, o, p', e_, _, hp, hpc⟩ := SlE.at_ p3 (i := at_.toNat) (by omega)
            injection e_ with e_
            injection e_ with eb eo
            subst eb eo
            rw [ha] at hp
            injection hp with hp
            subst hp
            simp only [Nat.zero_add] at hpc
            obtain ⟨d0, d1, d2, d3⟩ := hpc
            clear ha d0 d2 d3
            rw [hl3] at a1_ hm_
            have nz_ : ¬ (n3 : Int) = 0 := by omega
            obtain ⟨pn0, pn1⟩ := hpn
            obtain ⟨z0_, z1_⟩ := hz_
            have ge_ : ¬ (n3 : Int) ≤ at_ := by omega
            have kb10 := b10.cell
            go_quiet (fail)
            go_wp2
            have hdn : ∀ k, Below wc.heap.size wc (wc.drewN k) := fun k => ⟨rfl, rfl, rfl, Nat.le_refl _, fun _ _ => rfl⟩
            go_meet
            exact ⟨bstep hB hB.size (hdn _), b4.below (hdn _) b4.lt, b8.below (hdn _) b8.lt, b10.below (hdn _) b10.lt, b13.below (hdn _) b13.lt, b15.below (hdn _) b15.lt, PlsR.below p1 (hdn _), PlsR.below p2 (hdn _), PlsR.below p3 (hdn _), PlsR.below p4 (hdn _), PlsR.below p5 (hdn _), rfl⟩
        case rest =>
          clear hB b4 b8 b10 b13 b15 p1 p2 p3 p4 p5
          obtain ⟨hB, b4, b8, b10, b13, b15, p1, p2, p3, p4, p5, rfl⟩ := hcut
          cases is
          · go_wp2
            go_ret
            exact .mk rfl hB
          · obtain ⟨y1, y2, y3, y4⟩ := newU_yes HP.out
            have Y2 := Lib.hid y2; clear y2
            have Y3 := Lib.hid y3; clear y3
            have q0 : n = (n1 : Int) := by have := p1.1; omega
            clear y4
            subst q0
            clear HSN HSS HPA HPS HRI HRS
            have kb4 := b4.cell
            go_wp2_with fail
            clear kb4
            refine (iringOk_is x1 A1 n1 c1 true _ p1 (by omega) y1).mono ?_
            rintro e w10 ⟨rfl, hb⟩
            replace b4 := b4.below hb b4.lt
            replace b8 := b8.below hb b8.lt
            replace b10 := b10.below hb b10.lt
            replace b13 := b13.below hb b13.lt
            replace b15 := b15.below hb b15.lt
            replace p1 := PlsR.below p1 hb
            replace p2 := PlsR.below p2 hb
            replace p3 := PlsR.below p3 hb
            replace p4 := PlsR.below p4 hb
            replace p5 := PlsR.below p5 hb
            replace hB := bstep hB hB.size hb
            clear hb
            have kb4 := b4.cell
            clear y1
            rw [Y2.out, Y3.out] at kb4
            go_wp2
            go_ret
            exact .mk rfl hB

end Go.Proofs.Ytlpcpaehkgaffaa

namespace Go.Proofs.Ytlpcpaehkgaffaa
set_option linter.unusedSimpArgs false
set_option linter.unusedVariables false
open Go.RowKit Go.ChangeShapes Go.WideShapes Go.ChangeAt Go.Joins
set_option linter.unusedVariables false

set_option maxRecDepth 100000 in
/-- The bytes of a draw that came in. -/
theorem open_code {H : Type} {enc : TypeId × Value → H} {W : World} {base : Nat} {v : Value} {d : DataW H} {p : List MemPlace}
    (hv : Value.okWide Try.prog W .any base 22 v) (h : DataW.Trod enc Try.prog W 0 (fun _ => true) true 22 v d p) :
    ∃ (a0 : Option Addr) (len cap : Nat), v = .slice a0 len cap ∧ CodeOk W.heap.size W a0 len := by
  obtain ⟨a0, len, cap, rfl⟩ := okWide_slice Try.underlying22 hv
  refine ⟨a0, len, cap, rfl, ?_⟩
  obtain ⟨fuel, hf⟩ := h
  rcases open_ints Try.underlying22 Try.underlying5 (by kernel_rfl) hf with ⟨hcs, _⟩ | ⟨x, l, c, zs, hcs, _, hl, hm, hz, _, hcell, hwz⟩
  · simp [Value.cells] at hcs
    obtain ⟨rfl, rfl, rfl⟩ := hcs
    exact ⟨Nat.zero_le _, fun h => absurd h (by omega)⟩
  · simp [Value.cells] at hcs
    obtain ⟨rfl, rfl, rfl⟩ := hcs
    have hz' : zs.length = cap := by simpa using hz
    refine ⟨by omega, fun hp => ?_⟩
    obtain ⟨b, off, spot⟩ := x
    have h0 := hcell 0 (by omega)
    have hspot : spot = none := by simpa [Addr.add] using World.cell?_spot h0
    subst hspot
    have hblk := World.block_lt_of_cell? W _ h0
    refine ⟨b, off, rfl, by simpa [Addr.add] using hblk, by simpa [Addr.add] using hblk, fun i hi => ?_⟩
    have hi' := hcell i (by omega)
    have hmem : zs.getD i 0 ∈ zs := by
      have : i < zs.length := by omega
      simp [List.getD_eq_getElem?_getD, this]
    have hw := hwz _ hmem
    have hb := Go.bounds_u8 hw
    have ea : (⟨b, off, none⟩ : Addr).add i = ⟨b, off + i, none⟩ := by
      by_cases e : i = 0
      · subst e; simp [Addr.add]
      · simp [Addr.add, e]
    rw [ea] at hi'
    exact ⟨zs.getD i 0, hb.1, hb.2, hi'⟩

set_option maxRecDepth 100000 in
theorem fnRings_lifted (os : Os) (started : os.Started) (H : Type) (enc : TypeId × Value → H) :
    ReturnsInHanded {} Try.checked os 3 .any (Rows.fnRingsSpec.pre6 enc Try.prog Try.f3 Rows.fnRingsRow.domain false) (Rows.fnRingsSpec.post enc Try.prog Try.f3 false true false false) := by
  refine law_lifted (C := Try.checked) (fn := Try.f3) own started (by kernel_rfl) Try.func3 laidOut Try.underlying4 rfl rfl (by kernel_rfl) (fun ds h => ?_)
    (ChangeSpec.witness6 (enc := enc) (C := Try.checked) false ⟨#[], #[.slice none 0 0], []⟩ 8 (by kernel_rfl) (by kernel_rfl) (by kernel_rfl) (by kernel_rfl)) ?_
  · match ds, h with | [_], _ => rfl
  intro W base args ds p hval0 hA0
  have hval : ∀ (j : Nat) t v, Try.f3.params[j]? = some t → args[j]? = some v → Value.okWide Try.prog W .any base t v := hval0
  have hA : DataW.TrodAll enc Try.prog W 0 (fun _ => true) true Try.f3.params.toList args.toList ds p := hA0
  rw [Try.params3] at hA hval
  obtain ⟨v0, vs0, d0, ds0, p0, q0, hargs, rfl, rfl, h0, r0⟩ := trodAll_cons hA
  obtain ⟨rfl, rfl, rfl⟩ := trodAll_nil r0
  obtain rfl : args = #[v0] := by cases args; simp_all
  obtain ⟨a0, len, cap, rfl, hcode⟩ := open_code (hval 0 22 v0 rfl rfl) h0
  exact fnRings_any a0 len cap W hcode

theorem fnRings_holds : Rows.FnRingsSaid :=
  OpenClaim.holds_of_wide 3 Try.f3 rfl rfl rfl rfl rfl rfl rfl ⟨rfl, rfl, rfl, rfl, rfl⟩ rfl rfl rfl rfl rfl (by kernel_rfl) Try.func3 (by kernel_rfl)
    (of_decide_eq_true (by kernel_rfl)) (by unfold Func.isWrapper; first | (rw [if_pos (by decide +kernel)]; kernel_rfl) | (rw [if_neg (by decide +kernel)]; exact ⟨rfl, rfl⟩))
    (fun os started H enc _ => fnRings_lifted os started H enc)

end Go.Proofs.Ytlpcpaehkgaffaa


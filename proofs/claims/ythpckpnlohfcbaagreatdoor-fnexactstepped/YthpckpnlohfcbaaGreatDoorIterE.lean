/-
 The walks of ringsOk and StoreOk of the program.
-/
import Derived.Test.YthpckpnlohfcbaaGreatDoorIterC
import Derived.Test.YthpckpnlohfcbaaGreatDoorStoreI
import Derived.Test.YthpckpnlohfcbaaGreatDoorRingF
namespace Go.Proofs.YthpckpnlohfcbaaGreatDoor
set_option linter.unusedSimpArgs false
set_option linter.unusedVariables false
open Go.RowKit Go.Shelf
set_option linter.unusedVariables false
attribute [local go_sem] Oper.semAt_some
attribute [local go_sem ↓] Go.wp_at_zero Go.wp_at_succ
theorem ziterE0 {p : Prop} (h : p := by
 gi_wp2
 exact ⟨hK2.trans ((KeepsOthers.setCell _ _ _).from _), ⟨⟨rfl, HI.out⟩, hx1.set 0 _⟩, hB1.setCell (p := ⟨w.heap.size + 1, 0, none⟩) (by simp) _⟩) : p := h -- a61aeb04

theorem AllIs.keep {lo hi : Nat} {w w' : World} {rows : List Rw} {L : List Rg} (h : AllIs lo hi w rows L) (hs : SameIn lo hi w w') : AllIs lo hi w' rows L := fun i a ha => by
 obtain ⟨r, hr, his⟩ := h i a ha
 exact ⟨r, hr, his.keep hs⟩
theorem AllIs.below {lo hi n₀ : Nat} {w w' : World} {rows : List Rw} {L : List Rg} (h : AllIs lo hi w rows L) (hb : Below n₀ w w') (hh : hi ≤ n₀) : AllIs lo hi w' rows L := h.keep fun j _ hj => hb.block j (by omega)
def goodE (s : St) {rows : List Rw} (p : El rows) : Prop := ∀ r, s.rs[p.1.1.toNat]? = some r → inIt s p.1.1.toNat r = true
set_option maxRecDepth 100000 in
set_option maxHeartbeats 4000000 in
theorem ringsOk_any (s : St) (b n cap : Nat) (lo hi : Nat) (rows : List Rw) (w : World) (hO : RwsO lo w b n cap rows) (hA : AllIs lo hi w rows s.rs) (hbw : b < w.heap.size) (hh : hi ≤ w.heap.size) (hn : s.rs.length = n) (hn2 : n ≤ 1048576) (hm : ∀ r ∈ s.rs, r.ps.length ≤ 1048576) :
  Calls Tryz.prog 110 #[stV s (some ⟨b, 0, none⟩) n cap] w (RetBelow (.bool (ringsB s)) w) := by
 have HN := Lib.hid hn; clear hn
 have HM := Lib.hid hm; clear hm
 unfold stV
 refine (callsIn_wide (n := 3)).1 ?_
 refine callsIn_of_wp_marks Tryz.func110 rfl trivial ?_ rfl
 simp only [Tryz.ntmps110, List.size_toArray, List.length_cons, List.length_nil, Nat.reduceAdd, Nat.reduceSub, Array.replicate_succ, Array.replicate_zero, List.push_toArray, List.append_toArray, List.nil_append, List.cons_append]
 gi_wp2_with fail
 refine ⟨trivial, ?_⟩
 refine callsIn_abs (fun W => Below w.heap.size w W ∧ W.heap.size = w.heap.size + 2 ∧ BoxAt W w.heap.size (sC s (some ⟨b, 0, none⟩) n cap) 32 ∧ BoxAt W (w.heap.size + 1) #[.bool false] 4) ⟨((Below.refl _ _).alloc (Nat.le_refl _) _).alloc (by simp) _, by simp, (BoxAt.new _ _ _).alloc _, BoxAt.new' (by simp)⟩ ?_
 rintro W ⟨hB, hsz, hs, hx⟩
 refine (callsIn_wide.2 (ringsOf_any s _ n cap _)).mono ?_
 rintro e w' ⟨rfl, rfl⟩
 gi_wp2
 obtain ⟨W0, hW0⟩ : ∃ W0, W.alloc (.cells (sC s (some ⟨b, 0, none⟩) n cap) 32) = W0 := ⟨_, rfl⟩
 have hs0 : W0.heap.size = w.heap.size + 3 := by rw [← hW0]; simp; omega
 have hB0 : Below w.heap.size w W0 := by rw [← hW0]; exact hB.alloc (by omega) _
 have hx0 : BoxAt W0 (w.heap.size + 1) #[.bool false] 4 := by rw [← hW0]; exact hx.alloc _
 have hb0 : BoxAt W0 w.heap.size (sC s (some ⟨b, 0, none⟩) n cap) 32 := by rw [← hW0]; exact hs.alloc _
 have hS0 : BoxAt W0 (w.heap.size + 2) (sC s (some ⟨b, 0, none⟩) n cap) 32 := by rw [← hW0]; exact BoxAt.new' hsz.symm
 have hO0 : RwsO lo W0 b n cap rows := Own.keep hO (hB0.block b hbw)
 rw [hW0]
 clear hW0 hx hB hsz hs
 refine wpIn_rangeFunc_ownH rfl (by omega) (gf := 155) (lb := #[pT (w.heap.size + 2)]) rfl trivial (enters_of Tryz.func155 (by kernel_rfl) rfl)
  (ringsOf_stops 2 (w.heap.size + 2) w.heap.size (w.heap.size + 2) (w.heap.size + 3) lo b n cap s rows (by omega) hn2 W0 hS0 hO0 hbw) kpI_t (kpI_b (by omega) (by omega)) (Below.refl _ _) (fun _ => rfl)
  (fun pre W' => (((∀ p ∈ pre, goodE s p) ∧ BoxAt W' w.heap.size (sC s (some ⟨b, 0, none⟩) n cap) 32) ∧ (BoxAt W' (w.heap.size + 1) #[.bool false] 4 ∧ w.heap.size + 3 ≤ W'.heap.size)) ∧ Below w.heap.size w W')
  (fun c _ W' => ((c = .ret ∧ ringsB s = false) ∧ BoxAt W' (w.heap.size + 1) #[.bool false] 4) ∧ Below w.heap.size w W')
  (OwnFrom.and (OwnFrom.and (OwnFrom.and (ownFrom_pure _ _) (boxAt_own _ _ _ _)) (OwnFrom.and (boxAt_own _ _ (fun _ => #[.bool false]) _) ownFrom_size)) (ownFrom_below (Nat.le_refl _) (by omega)))
  (fun c => OwnFrom.and (OwnFrom.and (ownFrom_pure _ (fun _ => _)) (boxAt_own _ _ (fun _ => #[.bool false]) _)) (ownFrom_below (Nat.le_refl _) (by omega)))
  ⟨⟨⟨fun p hp => by simp at hp, hb0⟩, hx0, by omega⟩, hB0⟩
  (fun x a' W' => ∃ Bx, BoxAt W' Bx (rwC x.1.2) 79 ∧ a' = { tmps := #[.agg (aS s (some ⟨b, 0, none⟩) n cap), pT w.heap.size, pT (w.heap.size + 1), x.1.1, pT Bx, .agg (aS s (some ⟨b, 0, none⟩) n cap), .func (.func 155) #[] #[pT (w.heap.size + 2)], x.1.1, .agg (rwC x.1.2), undef, undef, undef, undef, undef, undef, undef, undef, undef, undef, undef, undef, undef, undef, undef, undef, undef], defers := [] })
  (fun x a' _ X Y row hs hg hr => by obtain ⟨Bx, h1, h2⟩ := hs; exact ⟨Bx, boxAt_own W0.heap.size Bx (fun (_ : Unit) => rwC x.1.2) 79 () X Y row h1 hg hr, h2⟩)
  ?assign ?body ?done ?stop
 case assign =>
  rintro l pre x W1 K ⟨⟨⟨hp1, hb1⟩, hx1, hz1⟩, hB1⟩ hK
  unfold elV rwC
  gi_wp2
  exact hK _ _ ((KeepsOthers.alloc _ _).from _) ⟨(Below.refl _ W1).alloc hB1.size _, .alloc (by omega) _⟩ ⟨⟨⟨hp1, hb1.alloc _⟩, hx1.alloc _, by simp; omega⟩, hB1.alloc hB1.size _⟩ ⟨W1.heap.size, BoxAt.new _ _ _, rfl⟩
 case body =>
  rintro l pre x a' W1 hl ⟨lr, hlr⟩ ⟨⟨⟨hp1, hb1⟩, hx1, hz1⟩, hB1⟩ ⟨Bx, bX, rfl⟩ _
  obtain ⟨⟨z, a⟩, hz0, hra⟩ := x
  dsimp only at hz0 hra bX
  obtain ⟨r, hri, e1, e2, e3, e4, hp⟩ := hA _ _ hra
  have hpr := hp.r.below hB1
  have han : a.n ≤ 1048576 := by have := HM.out r (List.mem_of_getElem? hri); have := hp.1; omega
  have HPL := Lib.hid hp.1
  have HRI := Lib.hid hri
  have hev : rgOk a.h a.t a.c a.x r.ps = r.ok := by unfold Rg.ok; rw [e1, e2, e3, e4]
  have HEV := Lib.hid hev
  have bad : inIt s z.toNat r = false → ringsB s = false := fun h => ringsB_false hri h
  have HBAD := Lib.hid bad
  clear hev hri e1 e2 e3 e4 bad
  have kX := bX.cell
  unfold rwC at kX
  gi_wp2_with fail
  refine ⟨trivial, ?_⟩
  refine (CallsIn.inRound l (callsIn_wide.2 (iringOk_any a.h a.t a.c a.x a.A a.n a.cap r.ps _ hpr han))).mono ?_
  rintro e w2 ⟨rfl, hb2⟩
  rw [HEV.out]
  clear kX
  replace hb1 := hb1.below hb2 hb1.lt
  replace hx1 := hx1.below hb2 hx1.lt
  replace bX := bX.below hb2 bX.lt
  have hK2 : KeepsFrom W0.heap.size W1 w2 := ⟨hb2.size, fun k o _ hk _ => (hb2.block k (Array.getElem?_eq_some_iff.1 hk).1).trans hk⟩
  have hI2 : KpI w.heap.size (w.heap.size + 2) (w.heap.size + 3) W1 w2 := ⟨hb2.mono hB1.size, fun j _ hj => hb2.block j (by omega)⟩
  have hz2 : w.heap.size + 3 ≤ w2.heap.size := Nat.le_trans hz1 hb2.size
  replace hB1 := bstep hB1 hB1.size hb2
  clear hb2 hpr
  have kx := hx1.cell
  have fx := hx1.frozen
  cases hok : r.ok
  ·
   have HI := Lib.hid (show ringsB s = false from HBAD.out (by simp [inIt, hok]))
   gi_wp2
   refine ⟨trivial, ?_⟩
   exact ziterE0
  have HOK := Lib.hid hok; clear hok
  have kX := bX.cell
  unfold rwC at kX
  have kb := hb1.cell
  unfold sC at kb
  by_cases hlen : (a.n : Int) = s.rd
  ·
   have HLEN := Lib.hid hlen
   have hle : ((a.n : Int) == s.rd) = true := by simpa using hlen
   gi_wp2_with fail
   refine ⟨trivial, ?_⟩
   have hbl : b < w2.heap.size := by omega
   refine (CallsIn.inRound l (callsIn_wide.2 (comesToAnEnd_any s b n cap z lo hi rows _ (Own.keep hO (hB1.block b hbw)) (hA.below hB1 hh) hbl HN.out hn2))).mono ?_
   rintro e w3 ⟨rfl, hb3⟩
   clear kX kb kx fx
   replace hb1 := hb1.below hb3 hb1.lt
   replace hx1 := hx1.below hb3 hx1.lt
   replace hK2 := hK2.trans (⟨hb3.size, fun k o _ hk _ => (hb3.block k (Array.getElem?_eq_some_iff.1 hk).1).trans hk⟩ : KeepsFrom W0.heap.size w2 w3)
   replace hI2 := kpI_t hI2 (⟨hb3.mono hB1.size, fun j _ hj => hb3.block j (by omega)⟩ : KpI w.heap.size (w.heap.size + 2) (w.heap.size + 3) w2 w3)
   replace hz2 : w.heap.size + 3 ≤ w3.heap.size := Nat.le_trans hz2 hb3.size
   replace hB1 := bstep hB1 hB1.size hb3
   clear hb3
   have kx := hx1.cell
   have fx := hx1.frozen
   have HE := Lib.hid (show inIt s z.toNat r = (endX (s.rs.map Rg.x) n z == -1) by
    unfold inIt endB
    rw [HOK.out, HPL.out, HN.out, show ((z.toNat : Nat) : Int) = z by omega, HLEN.out]; simp)
   generalize (endX (s.rs.map Rg.x) n z == -1) = q at *
   cases q
   ·
    have HI := Lib.hid (show ringsB s = false from HBAD.out HE.out)
    exact ziterE0
   ·
    gi_wp2
    refine ⟨hK2, hI2, ⟨⟨fun p hp' => ?_, hb1⟩, hx1, hz2⟩, hB1⟩
    rcases List.mem_append.1 hp' with h | h
    · exact hp1 p h
    ·
     simp at h
     subst h
     intro r' hr'
     obtain rfl : r = r' := by have := HRI.out; dsimp only at hr'; rw [this] at hr'; injection hr'
     exact HE.out
  ·
   have HI := Lib.hid (show ringsB s = false from HBAD.out (by unfold inIt; rw [HPL.out]; simp [hlen]))
   have hle : ((a.n : Int) == s.rd) = false := by simpa using hlen
   gi_wp2
   refine ⟨trivial, ?_⟩
   exact ziterE0
 case done =>
  rintro D ys W1 hD rfl ⟨⟨⟨hp1, hb1⟩, hx1, hz1⟩, hB1⟩ hK
  have kx := hx1.cell
  have fx := hx1.frozen
  have HR := Lib.hid (show ringsB s = true from ringsB_iff.2 fun i r hr => by
   have hi : i < rows.length := by have := (List.getElem?_eq_some_iff.1 hr).1; have := hO.1; have := HN.out; omega
   obtain ⟨x, hx, e⟩ := firstE_mem (rows := rows) (k := n) (show i < n by have := hO.1; omega) (List.getElem?_eq_getElem hi)
   have := hp1 x hx r (by rw [e]; simpa using hr)
   rw [e] at this
   simpa using this)
  gi_wp2
  have hK' := (KeepsOthers.setCell W1 ⟨w.heap.size + 1, 0, none⟩ (.bool true)).same D _ hK rfl
  refine ⟨by simp, .inl ⟨_, _, rfl, run_takeDeferred hK', ?_⟩⟩
  have hx2 := hx1.set 0 (.bool true)
  have hx3 := boxAt_own (β := Unit) 0 (w.heap.size + 1) (fun _ => #[Value.bool true]) 4 () _ _ (some D) hx2 (grownBy_putObj' _ D (.deferred none)) (fun r e => by cases e; exact ⟨Nat.zero_le _, _, hK', rfl⟩)
  have kx3 := hx3.cell
  refine ⟨.bool true, ?_, .mk (by rw [HR.out]) ?_⟩
  · simp [results, Tryz.results110, go_sem, kx3]
  · exact (hB1.setCell (p := ⟨w.heap.size + 1, 0, none⟩) (by simp) _).trans (belowK_b (w := w) (Nat.le_refl _) _ D _ _ (by omega) hK' rfl rfl)
 case stop =>
  rintro D c pre W1 hD _ ⟨⟨⟨rfl, hr⟩, hx1⟩, hB1⟩ hK
  have HR := Lib.hid hr; clear hr
  gi_wp2
  refine ⟨by simp, .inl ⟨_, _, rfl, run_takeDeferred hK, ?_⟩⟩
  have hx3 := boxAt_own (β := Unit) 0 (w.heap.size + 1) (fun _ => #[Value.bool false]) 4 () _ _ (some D) hx1 (grownBy_putObj' _ D (.deferred none)) (fun r e => by cases e; exact ⟨Nat.zero_le _, _, hK, rfl⟩)
  have kx3 := hx3.cell
  refine ⟨.bool false, ?_, .mk (by rw [HR.out]) ?_⟩
  · simp [results, Tryz.results110, go_sem, kx3]
  · exact hB1.trans (belowK_b (w := w) (Nat.le_refl _) W1 D _ _ (by omega) hK rfl rfl)
end Go.Proofs.YthpckpnlohfcbaaGreatDoor
namespace Go.Proofs.YthpckpnlohfcbaaGreatDoor
set_option linter.unusedSimpArgs false
set_option linter.unusedVariables false
open Go.RowKit
set_option linter.unusedVariables false
attribute [local go_sem ↓] Go.wp_at_zero Go.wp_at_succ
theorem ringB_pos {s : St} {z : Int} (h : ringB s z = true) : 0 < s.rs.length := by
 simp only [ringB, inB, Bool.and_eq_true, decide_eq_true_eq] at h
 omega
set_option maxRecDepth 100000 in
set_option maxHeartbeats 2000000 in
theorem istoreOk_any (s : St) (A : Option Addr) (n cap : Nat) (lo hi : Nat) (w : World) (hr : RgsW lo hi w A n cap s.rs) (hh : hi ≤ w.heap.size) (hn2 : n ≤ 1048576) (hm : ∀ r ∈ s.rs, r.ps.length ≤ 1048576) :
  Calls Tryz.prog 90 #[stV s A n cap] w (RetBelow (.bool (stOk s)) w) := by
 have HM := Lib.hid hm; clear hm
 have HN := Lib.hid hr.1
 have HV := Lib.hid (stOk_i s)
 unfold stV
 go_enter Tryz.func90, Tryz.ntmps90
 go_wp2_with fail
 refine calls_abs (fun W => Below w.heap.size w W ∧ BoxAt W w.heap.size (aS s A n cap) 32) ⟨(Below.refl _ _).alloc (Nat.le_refl _) _, BoxAt.new _ _ _⟩ ?_
 rintro W ⟨hB, hx⟩
 refine (isRound_any _ _).mono ?_
 rintro e w' ⟨rfl, rfl⟩
 have kx := hx.cell
 cases h1 : roundB s.rd
 ·
  have HF := Lib.hid (show stOk s = false by rw [HV.out]; simp [iHead, h1])
  go_wp2
  go_ret
  exact .mk (by rw [HF.out]; rfl) hB
 go_wp2_with fail
 refine (isMost_any _ _).mono ?_
 rintro e w' ⟨rfl, rfl⟩
 cases h2 : inB s.mo 1 16
 ·
  have HF := Lib.hid (show stOk s = false by rw [HV.out]; simp [iHead, h2])
  go_wp2
  go_ret
  exact .mk (by rw [HF.out]; rfl) hB
 by_cases h3 : (n : Int) ≤ s.mo
 rotate_left
 ·
  have HF := Lib.hid (show stOk s = false by rw [HV.out]; simp [iHead, HN.out, h3])
  have h3' : s.mo < (n : Int) := by omega
  go_wp2
  go_ret
  exact .mk (by rw [HF.out]; rfl) hB
 go_wp2_with fail
 refine (hasRing_any s A n cap s.fi _ HN.out hn2).mono ?_
 rintro e w1 ⟨rfl, hb1⟩
 clear kx
 replace hx := hx.below hb1 hx.lt
 replace hB := bstep hB hB.size hb1
 clear hb1
 have kx := hx.cell
 cases h4 : ringB s s.fi
 ·
  have HF := Lib.hid (show stOk s = false by rw [HV.out]; simp [iHead, h4])
  go_wp2
  go_ret
  exact .mk (by rw [HF.out]; rfl) hB
 have hpos : 0 < n := by have := ringB_pos h4; have := HN.out; omega
 go_wp2_with fail
 refine (hasRing_any s A n cap s.la _ HN.out hn2).mono ?_
 rintro e w1 ⟨rfl, hb1⟩
 clear kx
 replace hx := hx.below hb1 hx.lt
 replace hB := bstep hB hB.size hb1
 clear hb1
 have kx := hx.cell
 cases h5 : ringB s s.la
 ·
  have HF := Lib.hid (show stOk s = false by rw [HV.out]; simp [iHead, h5])
  go_wp2
  go_ret
  exact .mk (by rw [HF.out]; rfl) hB
 have HT := Lib.hid (show stOk s = ringsB s by rw [HV.out]; simp [iHead, h1, h2, h4, h5, HN.out, h3])
 clear h1 h2 h4 h5
 go_wp2_with fail
 obtain ⟨b, rows, rfl, hbh, hO, hA⟩ := hr.2 hpos
 have hS : SameIn lo hi w w1 := fun j _ hj => hB.block j (by omega)
 have hbw : b < w1.heap.size := by have := hB.size; omega
 have hh1 : hi ≤ w1.heap.size := by have := hB.size; omega
 refine (ringsOk_any s b n cap lo hi rows _ (Own.keep hO (hS b hO.2.1 hbh)) (hA.keep hS) hbw hh1 HN.out hn2 HM.out).mono ?_
 rintro e w2 ⟨rfl, hb2⟩
 rw [← HT.out]
 go_wp2
 go_ret
 exact .mk rfl (bstep hB hB.size hb2)
end Go.Proofs.YthpckpnlohfcbaaGreatDoor

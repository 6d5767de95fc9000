/-
 The walks of Close, RaiseTail and Link of the model.
-/
import Derived.Test.YtiiaimjlohpemaaGreatPrim1
namespace Go.Proofs.YtiiaimjlohpemaaGreat
set_option linter.unusedSimpArgs false
set_option linter.unusedVariables false
open Go.RowKit
set_option linter.unusedVariables false
attribute [local go_sem ↓] Go.wp_at_zero Go.wp_at_succ

set_option maxRecDepth 100000 in
set_option maxHeartbeats 1000000 in
theorem sclose_any (s : St) (A : Option Addr) (n cap lo hi : Nat) (z : Int) (w : World) (hs : RgsW lo hi w A n cap s.rs) (hh : hi ≤ w.heap.size) (hm : n ≤ 1048576) (hpn : ∀ r ∈ s.rs, r.ps.length ≤ 1048576) :
  Calls Tryz.prog 95 #[stV s A n cap, z] w (RetSB w.heap.size (closeR s z) w) := by
 have HPN := Lib.hid hpn; clear hpn
 have HLN := Lib.hid hs.1
 unfold stV
 go_enter Tryz.func95, Tryz.ntmps95
 go_wp2_with fail
 refine calls_abs (fun W => Below w.heap.size w W ∧ BoxAt W w.heap.size (aS s A n cap) 64 ∧ BoxAt W (w.heap.size + 1) zS 64) ⟨(((Below.refl _ _).alloc (Nat.le_refl _) _).alloc (by simp) _), ((BoxAt.new _ _ _).alloc _), BoxAt.new' (by simp)⟩ ?_
 rintro W ⟨hB, hx, hz⟩
 refine (sstoreOk_any s A n cap lo hi _ (hs.below hB hh) (Nat.le_trans hh hB.size) hm HPN.out).mono ?_
 rintro e w1 ⟨rfl, hb1⟩
 replace hx := hx.below hb1 hx.lt
 replace hz := hz.below hb1 hz.lt
 replace hB := bstep hB hB.size hb1
 clear hb1
 cases hok : stOk s
 ·
  have HV := Lib.hid (show closeR s z = (.zero, false) by simp [closeR, hok])
  have kz := hz.cell
  have fz := hz.frozen
  go_wp2
  refine bodyPost_ret (v := .tuple #[stV .zero none 0 0, .bool false]) (by simp [results, Tryz.results95, go_sem, kz, stV, St.zero]) rfl ⟨none, 0, 0, by rw [HV.out], ?_, ?_⟩
  · rw [HV.out]; exact RgsW.nil
  · exact (sc (sc (sc (sc (sc hB)))))
 have HOK := Lib.hid hok
 have HNT := Lib.hid (stOk_neat hok)
 have hn : 1 ≤ n ∧ n ≤ 16 := by have := HNT.out.1; have := HNT.out.2.1; have := HLN.out; omega
 have kx := hx.cell
 have lz1 := hz.lt
 go_wp2_with fail
 refine (l3Copy_any s A n cap lo hi _ (hs.below hB hh) (Nat.le_trans hh hB.size) hn.1 (by omega) HNT.out.cp).mono ?_
 rintro e w2 ⟨b1, c1, rows, rfl, hR, hC, hb2⟩
 unfold stV
 replace hx := hx.below hb2 hx.lt
 replace hz := hz.below hb2 hz.lt
 have hQO := hb2.size
 replace hB := bstep hB hB.size hb2
 clear hb2 kx hok
 have lx := hx.lt
 have lz := hz.lt
 have kx := hx.cell
 have hbO := Own.lt hR
 have hQb := hR.2.1
 go_wp2_with fail
 refine calls_abs (fun W' => Below w.heap.size w W' ∧ BoxAt W' w.heap.size (aS s A n cap) 64 ∧ BoxAt W' (w.heap.size + 1) zS 64 ∧ BoxAt W' w2.heap.size (aS s (some ⟨b1, 0, none⟩) n c1) 64 ∧ RwsO w1.heap.size W' b1 n c1 rows ∧ CopyOf w1.heap.size W' rows s.rs) ⟨hB.alloc hB.size _, hx.alloc _, hz.alloc _, BoxAt.new _ _ _, Own.al hR _, hC.below ((Below.refl _ _).alloc (Nat.le_refl _) _)⟩ ?_
 generalize w1.heap.size = Q at *
 generalize w2.heap.size = O at *
 clear kx hx hz hB hR hC
 rintro W2 ⟨hB, hx, hz, ho, hR, hC⟩
 refine (l4Ring_any s A n cap z _ HLN.out (by omega)).mono ?_
 rintro e w3 ⟨rfl, hb3⟩
 replace hx := hx.below hb3 hx.lt
 replace hz := hz.below hb3 hz.lt
 replace ho := ho.below hb3 ho.lt
 replace hR := Own.below hR hb3
 replace hC := hC.below hb3
 replace hB := bstep hB hB.size hb3
 clear hb3
 cases hrb : ringB s z
 ·
  have HV := Lib.hid (show closeR s z = (s, false) by simp [closeR, HOK.out, hrb])
  have kz := hz.cell
  have fz := hz.frozen
  have ko := ho.cell
  have hG := hC.rgs hR HLN.out
  have hBs := hB.size
  go_wp2
  refine bodyPost_ret (v := .tuple #[stV s (some ⟨b1, 0, none⟩) n c1, .bool false]) (by simp [results, Tryz.results95, go_sem, kz, stV]) rfl ⟨some ⟨b1, 0, none⟩, n, c1, by rw [HV.out], ?_, ?_⟩
  ·
   rw [HV.out]
   exact ((((((hG.sl).sl).sl).sl).sl)).mono (by omega) (by simp)
  · exact (sc (sc (sc (sc (sc hB)))))
 obtain ⟨z0, z1, z2⟩ := ringB_at HLN.out hrb
 have HRB := Lib.hid hrb; clear hrb
 obtain ⟨b, r, A', n', cap', rfl, hlb, hbh, hri, c0, c1', c2, c3, c4, _⟩ := (hs.below hB hh).at_ z2
 have HRI := Lib.hid hri; clear hri
 have hrc : RgC w3 b z.toNat r A' n' cap' := ⟨c0, c1', c2, c3, c4⟩
 clear c0 c1' c2 c3 c4
 obtain ⟨a, ha⟩ : ∃ a, rows[z.toNat]? = some a := ⟨_, List.getElem?_eq_getElem (by have := hR.1; omega)⟩
 obtain ⟨r0, hr0, e1, e2, e3, e4, _⟩ := hC.1 _ a ha
 obtain rfl : r = r0 := by have := HRI.out; rw [hr0] at this; injection this with this; exact this.symm
 have HA := Lib.hid ha
 have HE := Lib.hid (And.intro e1 (And.intro e2 (And.intro e3 e4)))
 have d := Own.cell_ Rw.cs_len hR (j := 2) ha rfl
 clear hr0 ha e1 e2 e3 e4
 have df := Own.frozen_ hR
 have HAT := Lib.hid (St.at_some (s := s) HRI.out)
 have kx := hx.cell
 have ko := ho.cell
 have lo_ := ho.lt
 have lb1 := Own.lt hR
 have tne : (b1 : Nat) ≠ w.heap.size ∧ b1 ≠ O := by omega
 have HV := Lib.hid (show closeR s z = (s.turn z (fun r => { r with c := true }), true) by simp [closeR, HOK.out, HRB.out])
 go_upto_region 7 with fail
 refine wp_abs (fun W' => Below w.heap.size w W' ∧ BoxAt W' w.heap.size (aS s (some ⟨b, 0, none⟩) n cap) 64 ∧ BoxAt W' (w.heap.size + 1) zS 64 ∧ BoxAt W' O (aS s (some ⟨b1, 0, none⟩) n c1) 64 ∧ RwsO Q W' b1 n c1 (rows.set z.toNat { a with c := true }) ∧ CopyOf Q W' (rows.set z.toNat { a with c := true }) (s.turn z (fun r => { r with c := true })).rs) ?_ ?_
 ·
  refine ⟨sc hB, hx.sn, hz.sn, ho.sn, ?_, ?_⟩
  · exact Own.set1 hR Rw.cs_len (j := 2) HA.out (by omega) rfl
  ·
   rw [St.turn_some HRI.out]
   refine CopyOf.turn ?_ HA.out HRI.out rfl rfl rfl HE.out.1 HE.out.2.1 rfl HE.out.2.2.2 rfl
   obtain ⟨_, _, _, _, cur, hcur, _⟩ := hR
   exact hC.set hcur (by decide) _ _
 clear kx ko d df hx hz ho hR hC hB
 rintro W4 ⟨hB, hx, hz, ho, hR, hC⟩
 have lo4 := ho.lt
 have hlt : (s.turn z (fun r => { r with c := true })).rs.length = n := by rw [St.turn_some HRI.out]; simpa using HLN.out
 have HG := Lib.hid (hC.rgs hR hlt)
 have hfs : stV (s.turn z (fun r => { r with c := true })) (some ⟨b1, 0, none⟩) n c1 = .agg (aS s (some ⟨b1, 0, none⟩) n c1) := by rw [St.turn_some HRI.out]; rfl
 have HFS := Lib.hid hfs; clear hfs hlt
 have kz := hz.cell
 have fz := hz.frozen
 have ko := ho.cell
 have hBs := hB.size
 go_wp2
 refine bodyPost_ret (v := .tuple #[.agg (aS s (some ⟨b1, 0, none⟩) n c1), .bool true]) (by simp [results, Tryz.results95, go_sem, kz]) rfl ⟨some ⟨b1, 0, none⟩, n, c1, by rw [HV.out, ← HFS.out], ?_, ?_⟩
 ·
  rw [HV.out]
  exact ((((((HG.out.sl).sl).sl).sl).sl)).mono (by omega) (by simp)
 · exact (sc (sc (sc (sc (sc hB)))))

set_option maxRecDepth 100000 in
set_option maxHeartbeats 2000000 in
theorem sraiseTail_any (s : St) (A : Option Addr) (n cap lo hi : Nat) (z seen y : Int) (w : World) (hs : RgsW lo hi w A n cap s.rs) (hh : hi ≤ w.heap.size) (hm : n ≤ 1048576) (hpn : ∀ r ∈ s.rs, r.ps.length ≤ 1048576) :
  Calls Tryz.prog 106 #[stV s A n cap, z, seen, y] w (RetSB w.heap.size (raiseTail s z seen y) w) := by
 have HPN := Lib.hid hpn; clear hpn
 have HLN := Lib.hid hs.1
 unfold stV
 go_enter Tryz.func106, Tryz.ntmps106
 go_wp2_with fail
 refine calls_abs (fun W => Below w.heap.size w W ∧ BoxAt W w.heap.size (aS s A n cap) 64 ∧ BoxAt W (w.heap.size + 1) zS 64) ⟨(((Below.refl _ _).alloc (Nat.le_refl _) _).alloc (by simp) _), ((BoxAt.new _ _ _).alloc _), BoxAt.new' (by simp)⟩ ?_
 rintro W ⟨hB, hx, hz⟩
 refine (sstoreOk_any s A n cap lo hi _ (hs.below hB hh) (Nat.le_trans hh hB.size) hm HPN.out).mono ?_
 rintro e w1 ⟨rfl, hb1⟩
 replace hx := hx.below hb1 hx.lt
 replace hz := hz.below hb1 hz.lt
 replace hB := bstep hB hB.size hb1
 clear hb1
 cases hok : stOk s
 ·
  have HV := Lib.hid (show raiseTail s z seen y = (.zero, false) by simp [raiseTail, hok])
  have kz := hz.cell
  have fz := hz.frozen
  go_wp2
  refine bodyPost_ret (v := .tuple #[stV .zero none 0 0, .bool false]) (by simp [results, Tryz.results106, go_sem, kz, stV, St.zero]) rfl ⟨none, 0, 0, by rw [HV.out], ?_, ?_⟩
  · rw [HV.out]; exact RgsW.nil
  · exact (sc (sc (sc (sc (sc hB)))))
 have HOK := Lib.hid hok
 have HNT := Lib.hid (stOk_neat hok)
 have hn : 1 ≤ n ∧ n ≤ 16 := by have := HNT.out.1; have := HNT.out.2.1; have := HLN.out; omega
 have kx := hx.cell
 have lz1 := hz.lt
 go_wp2_with fail
 refine (l3Copy_any s A n cap lo hi _ (hs.below hB hh) (Nat.le_trans hh hB.size) hn.1 (by omega) HNT.out.cp).mono ?_
 rintro e w2 ⟨b1, c1, rows, rfl, hR, hC, hb2⟩
 unfold stV
 replace hx := hx.below hb2 hx.lt
 replace hz := hz.below hb2 hz.lt
 have hQO := hb2.size
 replace hB := bstep hB hB.size hb2
 clear hb2 kx hok
 have lx := hx.lt
 have lz := hz.lt
 have kx := hx.cell
 have hbO := Own.lt hR
 have hQb := hR.2.1
 go_wp2_with fail
 refine calls_abs (fun W' => Below w.heap.size w W' ∧ BoxAt W' w.heap.size (aS s A n cap) 64 ∧ BoxAt W' (w.heap.size + 1) zS 64 ∧ BoxAt W' w2.heap.size (aS s (some ⟨b1, 0, none⟩) n c1) 64 ∧ RwsO w1.heap.size W' b1 n c1 rows ∧ CopyOf w1.heap.size W' rows s.rs) ⟨hB.alloc hB.size _, hx.alloc _, hz.alloc _, BoxAt.new _ _ _, Own.al hR _, hC.below ((Below.refl _ _).alloc (Nat.le_refl _) _)⟩ ?_
 generalize w1.heap.size = Q at *
 generalize w2.heap.size = O at *
 clear kx hx hz hB hR hC
 rintro W2 ⟨hB, hx, hz, ho, hR, hC⟩
 refine (l4Ring_any s A n cap z _ HLN.out (by omega)).mono ?_
 rintro e w3 ⟨rfl, hb3⟩
 replace hx := hx.below hb3 hx.lt
 replace hz := hz.below hb3 hz.lt
 replace ho := ho.below hb3 ho.lt
 replace hR := Own.below hR hb3
 replace hC := hC.below hb3
 replace hB := bstep hB hB.size hb3
 clear hb3
 cases hrb : ringB s z
 ·
  have HV := Lib.hid (show raiseTail s z seen y = (s, false) by simp [raiseTail, HOK.out, hrb])
  have kz := hz.cell
  have fz := hz.frozen
  have ko := ho.cell
  have hG := hC.rgs hR HLN.out
  have hBs := hB.size
  go_wp2
  refine bodyPost_ret (v := .tuple #[stV s (some ⟨b1, 0, none⟩) n c1, .bool false]) (by simp [results, Tryz.results106, go_sem, kz, stV]) rfl ⟨some ⟨b1, 0, none⟩, n, c1, by rw [HV.out], ?_, ?_⟩
  ·
   rw [HV.out]
   exact ((((((hG.sl).sl).sl).sl).sl)).mono (by omega) (by simp)
  · exact (sc (sc (sc (sc (sc hB)))))
 obtain ⟨z0, z1, z2⟩ := ringB_at HLN.out hrb
 have HRB := Lib.hid hrb; clear hrb
 obtain ⟨b, r, A', n', cap', rfl, hlb, hbh, hri, c0, c1', c2, c3, c4, _⟩ := (hs.below hB hh).at_ z2
 have HRI := Lib.hid hri; clear hri
 have hrc : RgC w3 b z.toNat r A' n' cap' := ⟨c0, c1', c2, c3, c4⟩
 clear c0 c1' c2 c3 c4
 obtain ⟨a, ha⟩ : ∃ a, rows[z.toNat]? = some a := ⟨_, List.getElem?_eq_getElem (by have := hR.1; omega)⟩
 obtain ⟨r0, hr0, e1, e2, e3, e4, _⟩ := hC.1 _ a ha
 obtain rfl : r = r0 := by have := HRI.out; rw [hr0] at this; injection this with this; exact this.symm
 have HA := Lib.hid ha
 have HE := Lib.hid (And.intro e1 (And.intro e2 (And.intro e3 e4)))
 have d := Own.cell_ Rw.cs_len hR (j := 1) ha rfl
 clear hr0 ha e1 e2 e3 e4
 have df := Own.frozen_ hR
 have HAT := Lib.hid (St.at_some (s := s) HRI.out)
 have kx := hx.cell
 have ko := ho.cell
 have lo_ := ho.lt
 have lb1 := Own.lt hR
 have tne : (b1 : Nat) ≠ w.heap.size ∧ b1 ≠ O := by omega
 have hrc0 := hrc
 obtain ⟨c0, c1', c2, c3, c4⟩ := hrc0
 cases hcl : r.c
 ·
  rw [hcl] at c2
  cases hse : (r.t == seen)
  ·
   have hse' : (r.t != seen) = true := by simpa using hse
   have HV := Lib.hid (show raiseTail s z seen y = (s, false) by simp only [raiseTail, HOK.out, HRB.out, HAT.out, hcl, hse']; rfl)
   have kz := hz.cell
   have fz := hz.frozen
   have ko := ho.cell
   have hG := hC.rgs hR HLN.out
   have hBs := hB.size
   go_wp2
   refine bodyPost_ret (v := .tuple #[stV s (some ⟨b1, 0, none⟩) n c1, .bool false]) (by simp [results, Tryz.results106, go_sem, kz, stV]) rfl ⟨some ⟨b1, 0, none⟩, n, c1, by rw [HV.out], ?_, ?_⟩
   ·
    rw [HV.out]
    exact ((((((hG.sl).sl).sl).sl).sl)).mono (by omega) (by simp)
   · exact (sc (sc (sc (sc (sc hB)))))
  have hse' : (r.t != seen) = false := by simpa using hse
  have HV := Lib.hid (show raiseTail s z seen y = thenB s (s.turn z (fun r => { r with t := y })) by simp only [raiseTail, HOK.out, HRB.out, HAT.out, hcl, hse']; rfl)
  go_wp2_with fail
  refine calls_abs (fun W' => Below w.heap.size w W' ∧ BoxAt W' w.heap.size (aS s (some ⟨b, 0, none⟩) n cap) 64 ∧ BoxAt W' (w.heap.size + 1) zS 64 ∧ BoxAt W' O (aS s (some ⟨b1, 0, none⟩) n c1) 64 ∧ RwsO Q W' b1 n c1 (rows.set z.toNat { a with t := y }) ∧ CopyOf Q W' (rows.set z.toNat { a with t := y }) (s.turn z (fun r => { r with t := y })).rs) ?_ ?_
  ·
   refine ⟨sc hB, hx.sn, hz.sn, ho.sn, ?_, ?_⟩
   · exact Own.set1 hR Rw.cs_len (j := 1) HA.out (by omega) rfl
   ·
    rw [St.turn_some HRI.out]
    refine CopyOf.turn ?_ HA.out HRI.out rfl rfl rfl HE.out.1 rfl HE.out.2.2.1 HE.out.2.2.2 rfl
    obtain ⟨_, _, _, _, cur, hcur, _⟩ := hR
    exact hC.set hcur (by decide) _ _
  clear kx ko d df hrc c0 c1' c2 c3 c4 hx hz ho hR hC hB
  rintro W4 ⟨hB, hx, hz, ho, hR, hC⟩
  have lo4 := ho.lt
  have hlt : (s.turn z (fun r => { r with t := y })).rs.length = n := by rw [St.turn_some HRI.out]; simpa using HLN.out
  have HG := Lib.hid (hC.rgs hR hlt)
  have hfs : stV (s.turn z (fun r => { r with t := y })) (some ⟨b1, 0, none⟩) n c1 = .agg (aS s (some ⟨b1, 0, none⟩) n c1) := by rw [St.turn_some HRI.out]; rfl
  have HFS := Lib.hid hfs; clear hfs hlt
  rw [← HFS.out]
  refine (l4Then_any s (s.turn z (fun r => { r with t := y })) (some ⟨b, 0, none⟩) (some ⟨b1, 0, none⟩) n cap n c1 lo hi Q W4.heap.size _ (hs.below hB hh) HG.out (Nat.le_trans hh hB.size) (Nat.le_refl _) (by omega) HNT.out (HNT.out.turn fun r => rfl)).mono ?_
  rintro e w5 ⟨A5, n5, c5, rfl, hG5, hb5⟩
  replace hz := hz.below hb5 hz.lt
  replace hB := bstep hB hB.size hb5
  have h5 := hb5.size
  clear hb5 HG
  rw [← HV.out] at hG5 ⊢
  obtain ⟨q, hq⟩ : ∃ q, q = raiseTail s z seen y := ⟨_, rfl⟩
  rw [← hq] at hG5 ⊢
  have HQ := Lib.hid hq; clear hq
  unfold stV
  have kz := hz.cell
  have fz := hz.frozen
  have lz5 := hz.lt
  go_wp2
  refine bodyPost_ret (v := .tuple #[stV q.1 A5 n5 c5, q.2]) (by simp [results, Tryz.results106, go_sem, kz, lz5, stV]) rfl ⟨A5, n5, c5, by rw [← HQ.out], ?_, ?_⟩
  ·
   rw [← HQ.out]
   exact ((((((hG5.sl).sl).sl).sl).sl)).mono (by omega) (by simp)
  · exact (sc (sc (sc (sc (sc hB)))))
 ·
  rw [hcl] at c2
  have HV := Lib.hid (show raiseTail s z seen y = (s, false) by simp only [raiseTail, HOK.out, HRB.out, HAT.out, hcl]; rfl)
  have kz := hz.cell
  have fz := hz.frozen
  have ko := ho.cell
  have hG := hC.rgs hR HLN.out
  have hBs := hB.size
  go_wp2
  refine bodyPost_ret (v := .tuple #[stV s (some ⟨b1, 0, none⟩) n c1, .bool false]) (by simp [results, Tryz.results106, go_sem, kz, stV]) rfl ⟨some ⟨b1, 0, none⟩, n, c1, by rw [HV.out], ?_, ?_⟩
  ·
   rw [HV.out]
   exact ((((((hG.sl).sl).sl).sl).sl)).mono (by omega) (by simp)
  · exact (sc (sc (sc (sc (sc hB)))))

set_option maxRecDepth 100000 in
set_option maxHeartbeats 2000000 in
theorem slink_any (s : St) (A : Option Addr) (n cap lo hi : Nat) (z y : Int) (w : World) (hs : RgsW lo hi w A n cap s.rs) (hh : hi ≤ w.heap.size) (hm : n ≤ 1048576) (hpn : ∀ r ∈ s.rs, r.ps.length ≤ 1048576) :
  Calls Tryz.prog 105 #[stV s A n cap, z, y] w (RetSB w.heap.size (linkR s z y) w) := by
 have HPN := Lib.hid hpn; clear hpn
 have HLN := Lib.hid hs.1
 unfold stV
 go_enter Tryz.func105, Tryz.ntmps105
 go_wp2_with fail
 refine calls_abs (fun W => Below w.heap.size w W ∧ BoxAt W w.heap.size (aS s A n cap) 64 ∧ BoxAt W (w.heap.size + 1) zS 64) ⟨(((Below.refl _ _).alloc (Nat.le_refl _) _).alloc (by simp) _), ((BoxAt.new _ _ _).alloc _), BoxAt.new' (by simp)⟩ ?_
 rintro W ⟨hB, hx, hz⟩
 refine (sstoreOk_any s A n cap lo hi _ (hs.below hB hh) (Nat.le_trans hh hB.size) hm HPN.out).mono ?_
 rintro e w1 ⟨rfl, hb1⟩
 replace hx := hx.below hb1 hx.lt
 replace hz := hz.below hb1 hz.lt
 replace hB := bstep hB hB.size hb1
 clear hb1
 cases hok : stOk s
 ·
  have HV := Lib.hid (show linkR s z y = (.zero, false) by simp [linkR, hok])
  have kz := hz.cell
  have fz := hz.frozen
  go_wp2
  refine bodyPost_ret (v := .tuple #[stV .zero none 0 0, .bool false]) (by simp [results, Tryz.results105, go_sem, kz, stV, St.zero]) rfl ⟨none, 0, 0, by rw [HV.out], ?_, ?_⟩
  · rw [HV.out]; exact RgsW.nil
  · exact (sc (sc (sc (sc (sc hB)))))
 have HOK := Lib.hid hok
 have HNT := Lib.hid (stOk_neat hok)
 have hn : 1 ≤ n ∧ n ≤ 16 := by have := HNT.out.1; have := HNT.out.2.1; have := HLN.out; omega
 have kx := hx.cell
 have lz1 := hz.lt
 go_wp2_with fail
 refine (l3Copy_any s A n cap lo hi _ (hs.below hB hh) (Nat.le_trans hh hB.size) hn.1 (by omega) HNT.out.cp).mono ?_
 rintro e w2 ⟨b1, c1, rows, rfl, hR, hC, hb2⟩
 unfold stV
 replace hx := hx.below hb2 hx.lt
 replace hz := hz.below hb2 hz.lt
 have hQO := hb2.size
 replace hB := bstep hB hB.size hb2
 clear hb2 kx hok
 have lx := hx.lt
 have lz := hz.lt
 have kx := hx.cell
 have hbO := Own.lt hR
 have hQb := hR.2.1
 go_wp2_with fail
 refine calls_abs (fun W' => Below w.heap.size w W' ∧ BoxAt W' w.heap.size (aS s A n cap) 64 ∧ BoxAt W' (w.heap.size + 1) zS 64 ∧ BoxAt W' w2.heap.size (aS s (some ⟨b1, 0, none⟩) n c1) 64 ∧ RwsO w1.heap.size W' b1 n c1 rows ∧ CopyOf w1.heap.size W' rows s.rs) ⟨hB.alloc hB.size _, hx.alloc _, hz.alloc _, BoxAt.new _ _ _, Own.al hR _, hC.below ((Below.refl _ _).alloc (Nat.le_refl _) _)⟩ ?_
 generalize w1.heap.size = Q at *
 generalize w2.heap.size = O at *
 clear kx hx hz hB hR hC
 rintro W2 ⟨hB, hx, hz, ho, hR, hC⟩
 refine (l4Ring_any s A n cap z _ HLN.out (by omega)).mono ?_
 rintro e w3 ⟨rfl, hb3⟩
 replace hx := hx.below hb3 hx.lt
 replace hz := hz.below hb3 hz.lt
 replace ho := ho.below hb3 ho.lt
 replace hR := Own.below hR hb3
 replace hC := hC.below hb3
 replace hB := bstep hB hB.size hb3
 clear hb3
 cases hrb : ringB s z
 ·
  have HV := Lib.hid (show linkR s z y = (s, false) by simp [linkR, HOK.out, hrb])
  have kz := hz.cell
  have fz := hz.frozen
  have ko := ho.cell
  have hG := hC.rgs hR HLN.out
  have hBs := hB.size
  go_wp2
  refine bodyPost_ret (v := .tuple #[stV s (some ⟨b1, 0, none⟩) n c1, .bool false]) (by simp [results, Tryz.results105, go_sem, kz, stV]) rfl ⟨some ⟨b1, 0, none⟩, n, c1, by rw [HV.out], ?_, ?_⟩
  ·
   rw [HV.out]
   exact ((((((hG.sl).sl).sl).sl).sl)).mono (by omega) (by simp)
  · exact (sc (sc (sc (sc (sc hB)))))
 have kx := hx.cell
 go_wp2_with fail
 refine (l4Ring_any s A n cap y _ HLN.out (by omega)).mono ?_
 rintro e w4 ⟨rfl, hb4⟩
 replace hx := hx.below hb4 hx.lt
 replace hz := hz.below hb4 hz.lt
 replace ho := ho.below hb4 ho.lt
 replace hR := Own.below hR hb4
 replace hC := hC.below hb4
 replace hB := bstep hB hB.size hb4
 clear hb4
 clear kx
 have HRBz := Lib.hid hrb
 cases hrb2 : ringB s y
 ·
  have HV := Lib.hid (show linkR s z y = (s, false) by simp [linkR, HOK.out, hrb, hrb2])
  clear hrb
  have kz := hz.cell
  have fz := hz.frozen
  have ko := ho.cell
  have hG := hC.rgs hR HLN.out
  have hBs := hB.size
  go_wp2
  refine bodyPost_ret (v := .tuple #[stV s (some ⟨b1, 0, none⟩) n c1, .bool false]) (by simp [results, Tryz.results105, go_sem, kz, stV]) rfl ⟨some ⟨b1, 0, none⟩, n, c1, by rw [HV.out], ?_, ?_⟩
  ·
   rw [HV.out]
   exact ((((((hG.sl).sl).sl).sl).sl)).mono (by omega) (by simp)
  · exact (sc (sc (sc (sc (sc hB)))))
 obtain ⟨z0, z1, z2⟩ := ringB_at HLN.out hrb
 have HRB := Lib.hid hrb; clear hrb
 obtain ⟨b, r, A', n', cap', rfl, hlb, hbh, hri, c0, c1', c2, c3, c4, _⟩ := (hs.below hB hh).at_ z2
 have HRI := Lib.hid hri; clear hri
 have hrc : RgC w4 b z.toNat r A' n' cap' := ⟨c0, c1', c2, c3, c4⟩
 clear c0 c1' c2 c3 c4
 have HRB2 := Lib.hid hrb2; clear hrb2
 obtain ⟨a, ha⟩ : ∃ a, rows[z.toNat]? = some a := ⟨_, List.getElem?_eq_getElem (by have := hR.1; omega)⟩
 obtain ⟨r0, hr0, e1, e2, e3, e4, _⟩ := hC.1 _ a ha
 obtain rfl : r = r0 := by have := HRI.out; rw [hr0] at this; injection this with this; exact this.symm
 have HA := Lib.hid ha
 have HE := Lib.hid (And.intro e1 (And.intro e2 (And.intro e3 e4)))
 have d := Own.cell_ Rw.cs_len hR (j := 3) ha rfl
 clear hr0 ha e1 e2 e3 e4
 have df := Own.frozen_ hR
 have HAT := Lib.hid (St.at_some (s := s) HRI.out)
 have kx := hx.cell
 have ko := ho.cell
 have lo_ := ho.lt
 have lb1 := Own.lt hR
 have tne : (b1 : Nat) ≠ w.heap.size ∧ b1 ≠ O := by omega
 have hrc0 := hrc
 obtain ⟨c0, c1', c2, c3, c4⟩ := hrc0
 cases hse : (r.x == -1)
 ·
  have hse' : (r.x != -1) = true := by simpa using hse
  have HV := Lib.hid (show linkR s z y = (s, false) by simp only [linkR, HOK.out, HRB.out, HRB2.out, HAT.out, hse']; rfl)
  have kz := hz.cell
  have fz := hz.frozen
  have ko := ho.cell
  have hG := hC.rgs hR HLN.out
  have hBs := hB.size
  go_wp2
  refine bodyPost_ret (v := .tuple #[stV s (some ⟨b1, 0, none⟩) n c1, .bool false]) (by simp [results, Tryz.results105, go_sem, kz, stV]) rfl ⟨some ⟨b1, 0, none⟩, n, c1, by rw [HV.out], ?_, ?_⟩
  ·
   rw [HV.out]
   exact ((((((hG.sl).sl).sl).sl).sl)).mono (by omega) (by simp)
  · exact (sc (sc (sc (sc (sc hB)))))
 have hse' : (r.x != -1) = false := by simpa using hse
 have HV := Lib.hid (show linkR s z y = thenB s (s.turn z (fun r => { r with x := y })) by simp only [linkR, HOK.out, HRB.out, HRB2.out, HAT.out, hse']; rfl)
 go_wp2_with fail
 refine calls_abs (fun W' => Below w.heap.size w W' ∧ BoxAt W' w.heap.size (aS s (some ⟨b, 0, none⟩) n cap) 64 ∧ BoxAt W' (w.heap.size + 1) zS 64 ∧ BoxAt W' O (aS s (some ⟨b1, 0, none⟩) n c1) 64 ∧ RwsO Q W' b1 n c1 (rows.set z.toNat { a with x := y }) ∧ CopyOf Q W' (rows.set z.toNat { a with x := y }) (s.turn z (fun r => { r with x := y })).rs) ?_ ?_
 ·
  refine ⟨sc hB, hx.sn, hz.sn, ho.sn, ?_, ?_⟩
  · exact Own.set1 hR Rw.cs_len (j := 3) HA.out (by omega) rfl
  ·
   rw [St.turn_some HRI.out]
   refine CopyOf.turn ?_ HA.out HRI.out rfl rfl rfl HE.out.1 HE.out.2.1 HE.out.2.2.1 rfl rfl
   obtain ⟨_, _, _, _, cur, hcur, _⟩ := hR
   exact hC.set hcur (by decide) _ _
 clear kx ko d df hrc c0 c1' c2 c3 c4 hx hz ho hR hC hB
 rintro W4 ⟨hB, hx, hz, ho, hR, hC⟩
 have lo4 := ho.lt
 have hlt : (s.turn z (fun r => { r with x := y })).rs.length = n := by rw [St.turn_some HRI.out]; simpa using HLN.out
 have HG := Lib.hid (hC.rgs hR hlt)
 have hfs : stV (s.turn z (fun r => { r with x := y })) (some ⟨b1, 0, none⟩) n c1 = .agg (aS s (some ⟨b1, 0, none⟩) n c1) := by rw [St.turn_some HRI.out]; rfl
 have HFS := Lib.hid hfs; clear hfs hlt
 rw [← HFS.out]
 refine (l4Then_any s (s.turn z (fun r => { r with x := y })) (some ⟨b, 0, none⟩) (some ⟨b1, 0, none⟩) n cap n c1 lo hi Q W4.heap.size _ (hs.below hB hh) HG.out (Nat.le_trans hh hB.size) (Nat.le_refl _) (by omega) HNT.out (HNT.out.turn fun r => rfl)).mono ?_
 rintro e w5 ⟨A5, n5, c5, rfl, hG5, hb5⟩
 replace hz := hz.below hb5 hz.lt
 replace hB := bstep hB hB.size hb5
 have h5 := hb5.size
 clear hb5 HG
 rw [← HV.out] at hG5 ⊢
 obtain ⟨q, hq⟩ : ∃ q, q = linkR s z y := ⟨_, rfl⟩
 rw [← hq] at hG5 ⊢
 have HQ := Lib.hid hq; clear hq
 unfold stV
 have kz := hz.cell
 have fz := hz.frozen
 have lz5 := hz.lt
 go_wp2
 refine bodyPost_ret (v := .tuple #[stV q.1 A5 n5 c5, q.2]) (by simp [results, Tryz.results105, go_sem, kz, lz5, stV]) rfl ⟨A5, n5, c5, by rw [← HQ.out], ?_, ?_⟩
 ·
  rw [← HQ.out]
  exact ((((((hG5.sl).sl).sl).sl).sl)).mono (by omega) (by simp)
 · exact (sc (sc (sc (sc (sc hB)))))

end Go.Proofs.YtiiaimjlohpemaaGreat

/-
 The walks of Close, RaiseTail and Link of the model.
-/
import Derived.Test.YthpckpnlohfcbaaGreatDoorPrimL
namespace Go.Proofs.YthpckpnlohfcbaaGreatDoor
set_option linter.unusedSimpArgs false
set_option linter.unusedVariables false
open Go.RowKit
set_option linter.unusedVariables false
attribute [local go_sem ↓] Go.wp_at_zero Go.wp_at_succ
theorem zprim30 {p : Prop} (h : p := by
 have kz := hz.cell
 have fz := hz.frozen
 have ko := ho.cell
 have hG := hC.rgs hR HLN.out
 have hBs := hB.size
 go_wp2
 refine bodyPost_ret (v := .tuple #[stV s (some ⟨b1, 0, none⟩) n c1, .bool false]) (by simp [results, Tryz.results70, go_sem, kz, stV]) rfl ⟨some ⟨b1, 0, none⟩, n, c1, by rw [HV.out], ?_, ?_⟩
 ·
  rw [HV.out]
  exact ((((((hG.sl).sl).sl).sl).sl)).mono (by omega) (by simp)
 · exact (sc (sc (sc (sc (sc hB)))))) : p := h -- 9d6fcdce
theorem zprim31 {p : Prop} (h : p := by
 rw [HV.out]
 exact ((((((hG.sl).sl).sl).sl).sl)).mono (by omega) (by simp)) : p := h -- 0959b167
theorem zprim32 {p : Prop} (h : p := by
 have kz := hz.cell
 have fz := hz.frozen
 go_wp2
 refine bodyPost_ret (v := .tuple #[stV .zero none 0 0, .bool false]) (by simp [results, Tryz.results70, go_sem, kz, stV, St.zero]) rfl ⟨none, 0, 0, by rw [HV.out], ?_, ?_⟩
 · rw [HV.out]; exact RgsW.nil
 · exact (sc (sc (sc (sc (sc hB)))))) : p := h -- af2befac
theorem zprim33 {p : Prop} (h : p := by
 clear hw hcl hL hC
 refine OpGoes.go fun K hK => ?_
 go_simp
 exact hK _ _ ⟨rfl, rfl⟩) : p := h -- ee92c020
theorem zprim34 {p : Prop} (h : p := by
 obtain ⟨_, _, _, _, cur, hcur, _⟩ := hR
 exact hC.set hcur (by decide) _ _) : p := h -- 8436e3a9

set_option maxRecDepth 100000 in
set_option maxHeartbeats 1000000 in
theorem sclose_any (s : St) (A : Option Addr) (n cap lo hi : Nat) (z : Int) (w : World) (hs : RgsW lo hi w A n cap s.rs) (hh : hi ≤ w.heap.size) (hm : n ≤ 1048576) (hpn : ∀ r ∈ s.rs, r.ps.length ≤ 1048576) :
  Calls Tryz.prog 75 #[stV s A n cap, z] w (RetSB w.heap.size (closeR s z) w) := by
 have HPN := Lib.hid hpn; clear hpn
 have HLN := Lib.hid hs.1
 unfold stV
 go_enter Tryz.func75, Tryz.ntmps75
 go_wp2_with fail
 refine calls_abs (fun W => Below w.heap.size w W ∧ BoxAt W w.heap.size (aS s A n cap) 32 ∧ BoxAt W (w.heap.size + 1) zS 32) ⟨(((Below.refl _ _).alloc (Nat.le_refl _) _).alloc (by simp) _), ((BoxAt.new _ _ _).alloc _), BoxAt.new' (by simp)⟩ ?_
 rintro W ⟨hB, hx, hz⟩
 refine (sstoreOk_any s A n cap lo hi _ (hs.below hB hh) (Nat.le_trans hh hB.size) hm HPN.out).mono ?_
 rintro e w1 ⟨rfl, hb1⟩
 replace hx := hx.below hb1 hx.lt
 replace hz := hz.below hb1 hz.lt
 replace hB := bstep hB hB.size hb1
 clear hb1
 cases hok : stOk s
 ·
  have HV := Lib.hid (show closeR s z = (.zero, false) by simp [closeR, hok])
  have kz := hz.cell
  have fz := hz.frozen
  go_wp2
  refine bodyPost_ret (v := .tuple #[stV .zero none 0 0, .bool false]) (by simp [results, Tryz.results75, go_sem, kz, stV, St.zero]) rfl ⟨none, 0, 0, by rw [HV.out], ?_, ?_⟩
  · rw [HV.out]; exact RgsW.nil
  · exact (sc (sc (sc (sc (sc hB)))))
 have HOK := Lib.hid hok
 have HNT := Lib.hid (stOk_neat hok)
 have hn : 1 ≤ n ∧ n ≤ 16 := by have := HNT.out.1; have := HNT.out.2.1; have := HLN.out; omega
 have kx := hx.cell
 have lz1 := hz.lt
 go_wp2_with fail
 refine (l3Copy_any s A n cap lo hi _ (hs.below hB hh) (Nat.le_trans hh hB.size) hn.1 (by omega) HNT.out.cp).mono ?_
 rintro e w2 ⟨b1, c1, rows, rfl, hR, hC, hb2⟩
 unfold stV
 replace hx := hx.below hb2 hx.lt
 replace hz := hz.below hb2 hz.lt
 have hQO := hb2.size
 replace hB := bstep hB hB.size hb2
 clear hb2 kx hok
 have lx := hx.lt
 have lz := hz.lt
 have kx := hx.cell
 have hbO := Own.lt hR
 have hQb := hR.2.1
 go_wp2_with fail
 refine calls_abs (fun W' => Below w.heap.size w W' ∧ BoxAt W' w.heap.size (aS s A n cap) 32 ∧ BoxAt W' (w.heap.size + 1) zS 32 ∧ BoxAt W' w2.heap.size (aS s (some ⟨b1, 0, none⟩) n c1) 32 ∧ RwsO w1.heap.size W' b1 n c1 rows ∧ CopyOf w1.heap.size W' rows s.rs) ⟨hB.alloc hB.size _, hx.alloc _, hz.alloc _, BoxAt.new _ _ _, Own.al hR _, hC.below ((Below.refl _ _).alloc (Nat.le_refl _) _)⟩ ?_
 generalize w1.heap.size = Q at *
 generalize w2.heap.size = O at *
 clear kx hx hz hB hR hC
 rintro W2 ⟨hB, hx, hz, ho, hR, hC⟩
 refine (l4Ring_any s A n cap z _ HLN.out (by omega)).mono ?_
 rintro e w3 ⟨rfl, hb3⟩
 replace hx := hx.below hb3 hx.lt
 replace hz := hz.below hb3 hz.lt
 replace ho := ho.below hb3 ho.lt
 replace hR := Own.below hR hb3
 replace hC := hC.below hb3
 replace hB := bstep hB hB.size hb3
 clear hb3
 cases hrb : ringB s z
 ·
  have HV := Lib.hid (show closeR s z = (s, false) by simp [closeR, HOK.out, hrb])
  have kz := hz.cell
  have fz := hz.frozen
  have ko := ho.cell
  have hG := hC.rgs hR HLN.out
  have hBs := hB.size
  go_wp2
  refine bodyPost_ret (v := .tuple #[stV s (some ⟨b1, 0, none⟩) n c1, .bool false]) (by simp [results, Tryz.results75, go_sem, kz, stV]) rfl ⟨some ⟨b1, 0, none⟩, n, c1, by rw [HV.out], ?_, ?_⟩
  ·
   exact zprim31
  · exact (sc (sc (sc (sc (sc hB)))))
 obtain ⟨z0, z1, z2⟩ := ringB_at HLN.out hrb
 have HRB := Lib.hid hrb; clear hrb
 obtain ⟨b, r, A', n', cap', rfl, hlb, hbh, hri, c0, c1', c2, c3, c4, _⟩ := (hs.below hB hh).at_ z2
 have HRI := Lib.hid hri; clear hri
 have hrc : RgC w3 b z.toNat r A' n' cap' := ⟨c0, c1', c2, c3, c4⟩
 clear c0 c1' c2 c3 c4
 obtain ⟨a, ha⟩ : ∃ a, rows[z.toNat]? = some a := ⟨_, List.getElem?_eq_getElem (by have := hR.1; omega)⟩
 obtain ⟨r0, hr0, e1, e2, e3, e4, _⟩ := hC.1 _ a ha
 obtain rfl : r = r0 := by have := HRI.out; rw [hr0] at this; injection this with this; exact this.symm
 have HA := Lib.hid ha
 have HE := Lib.hid (And.intro e1 (And.intro e2 (And.intro e3 e4)))
 have d := Own.cell_ Rw.cs_len hR (j := 2) ha rfl
 clear hr0 ha e1 e2 e3 e4
 have df := Own.frozen_ hR
 have HAT := Lib.hid (St.at_some (s := s) HRI.out)
 have kx := hx.cell
 have ko := ho.cell
 have lo_ := ho.lt
 have lb1 := Own.lt hR
 have tne : (b1 : Nat) ≠ w.heap.size ∧ b1 ≠ O := by omega
 have HV := Lib.hid (show closeR s z = (s.turn z (fun r => { r with c := true }), true) by simp [closeR, HOK.out, HRB.out])
 go_upto_region 7 with fail
 refine wp_abs (fun W' => Below w.heap.size w W' ∧ BoxAt W' w.heap.size (aS s (some ⟨b, 0, none⟩) n cap) 32 ∧ BoxAt W' (w.heap.size + 1) zS 32 ∧ BoxAt W' O (aS s (some ⟨b1, 0, none⟩) n c1) 32 ∧ RwsO Q W' b1 n c1 (rows.set z.toNat { a with c := true }) ∧ CopyOf Q W' (rows.set z.toNat { a with c := true }) (s.turn z (fun r => { r with c := true })).rs) ?_ ?_
 ·
  refine ⟨sc hB, hx.sn, hz.sn, ho.sn, ?_, ?_⟩
  · exact Own.set1 hR Rw.cs_len (j := 2) HA.out (by omega) rfl
  ·
   rw [St.turn_some HRI.out]
   refine CopyOf.turn ?_ HA.out HRI.out rfl rfl rfl HE.out.1 HE.out.2.1 rfl HE.out.2.2.2 rfl
   exact zprim34
 clear kx ko d df hx hz ho hR hC hB
 rintro W4 ⟨hB, hx, hz, ho, hR, hC⟩
 have lo4 := ho.lt
 have hlt : (s.turn z (fun r => { r with c := true })).rs.length = n := by rw [St.turn_some HRI.out]; simpa using HLN.out
 have HG := Lib.hid (hC.rgs hR hlt)
 have hfs : stV (s.turn z (fun r => { r with c := true })) (some ⟨b1, 0, none⟩) n c1 = .agg (aS s (some ⟨b1, 0, none⟩) n c1) := by rw [St.turn_some HRI.out]; rfl
 have HFS := Lib.hid hfs; clear hfs hlt
 have kz := hz.cell
 have fz := hz.frozen
 have ko := ho.cell
 have hBs := hB.size
 go_wp2
 refine bodyPost_ret (v := .tuple #[.agg (aS s (some ⟨b1, 0, none⟩) n c1), .bool true]) (by simp [results, Tryz.results75, go_sem, kz]) rfl ⟨some ⟨b1, 0, none⟩, n, c1, by rw [HV.out, ← HFS.out], ?_, ?_⟩
 ·
  rw [HV.out]
  exact ((((((HG.out.sl).sl).sl).sl).sl)).mono (by omega) (by simp)
 · exact (sc (sc (sc (sc (sc hB)))))
set_option maxRecDepth 100000 in
set_option maxHeartbeats 2000000 in
theorem sraiseTail_any (s : St) (A : Option Addr) (n cap lo hi : Nat) (z seen y : Int) (w : World) (hs : RgsW lo hi w A n cap s.rs) (hh : hi ≤ w.heap.size) (hm : n ≤ 1048576) (hpn : ∀ r ∈ s.rs, r.ps.length ≤ 1048576) :
  Calls Tryz.prog 98 #[stV s A n cap, z, seen, y] w (RetSB w.heap.size (raiseTail s z seen y) w) := by
 have HPN := Lib.hid hpn; clear hpn
 have HLN := Lib.hid hs.1
 unfold stV
 go_enter Tryz.func98, Tryz.ntmps98
 go_wp2_with fail
 refine calls_abs (fun W => Below w.heap.size w W ∧ BoxAt W w.heap.size (aS s A n cap) 32 ∧ BoxAt W (w.heap.size + 1) zS 32) ⟨(((Below.refl _ _).alloc (Nat.le_refl _) _).alloc (by simp) _), ((BoxAt.new _ _ _).alloc _), BoxAt.new' (by simp)⟩ ?_
 rintro W ⟨hB, hx, hz⟩
 refine (sstoreOk_any s A n cap lo hi _ (hs.below hB hh) (Nat.le_trans hh hB.size) hm HPN.out).mono ?_
 rintro e w1 ⟨rfl, hb1⟩
 replace hx := hx.below hb1 hx.lt
 replace hz := hz.below hb1 hz.lt
 replace hB := bstep hB hB.size hb1
 clear hb1
 cases hok : stOk s
 ·
  have HV := Lib.hid (show raiseTail s z seen y = (.zero, false) by simp [raiseTail, hok])
  have kz := hz.cell
  have fz := hz.frozen
  go_wp2
  refine bodyPost_ret (v := .tuple #[stV .zero none 0 0, .bool false]) (by simp [results, Tryz.results98, go_sem, kz, stV, St.zero]) rfl ⟨none, 0, 0, by rw [HV.out], ?_, ?_⟩
  · rw [HV.out]; exact RgsW.nil
  · exact (sc (sc (sc (sc (sc hB)))))
 have HOK := Lib.hid hok
 have HNT := Lib.hid (stOk_neat hok)
 have hn : 1 ≤ n ∧ n ≤ 16 := by have := HNT.out.1; have := HNT.out.2.1; have := HLN.out; omega
 have kx := hx.cell
 have lz1 := hz.lt
 go_wp2_with fail
 refine (l3Copy_any s A n cap lo hi _ (hs.below hB hh) (Nat.le_trans hh hB.size) hn.1 (by omega) HNT.out.cp).mono ?_
 rintro e w2 ⟨b1, c1, rows, rfl, hR, hC, hb2⟩
 unfold stV
 replace hx := hx.below hb2 hx.lt
 replace hz := hz.below hb2 hz.lt
 have hQO := hb2.size
 replace hB := bstep hB hB.size hb2
 clear hb2 kx hok
 have lx := hx.lt
 have lz := hz.lt
 have kx := hx.cell
 have hbO := Own.lt hR
 have hQb := hR.2.1
 go_wp2_with fail
 refine calls_abs (fun W' => Below w.heap.size w W' ∧ BoxAt W' w.heap.size (aS s A n cap) 32 ∧ BoxAt W' (w.heap.size + 1) zS 32 ∧ BoxAt W' w2.heap.size (aS s (some ⟨b1, 0, none⟩) n c1) 32 ∧ RwsO w1.heap.size W' b1 n c1 rows ∧ CopyOf w1.heap.size W' rows s.rs) ⟨hB.alloc hB.size _, hx.alloc _, hz.alloc _, BoxAt.new _ _ _, Own.al hR _, hC.below ((Below.refl _ _).alloc (Nat.le_refl _) _)⟩ ?_
 generalize w1.heap.size = Q at *
 generalize w2.heap.size = O at *
 clear kx hx hz hB hR hC
 rintro W2 ⟨hB, hx, hz, ho, hR, hC⟩
 refine (l4Ring_any s A n cap z _ HLN.out (by omega)).mono ?_
 rintro e w3 ⟨rfl, hb3⟩
 replace hx := hx.below hb3 hx.lt
 replace hz := hz.below hb3 hz.lt
 replace ho := ho.below hb3 ho.lt
 replace hR := Own.below hR hb3
 replace hC := hC.below hb3
 replace hB := bstep hB hB.size hb3
 clear hb3
 cases hrb : ringB s z
 ·
  have HV := Lib.hid (show raiseTail s z seen y = (s, false) by simp [raiseTail, HOK.out, hrb])
  have kz := hz.cell
  have fz := hz.frozen
  have ko := ho.cell
  have hG := hC.rgs hR HLN.out
  have hBs := hB.size
  go_wp2
  refine bodyPost_ret (v := .tuple #[stV s (some ⟨b1, 0, none⟩) n c1, .bool false]) (by simp [results, Tryz.results98, go_sem, kz, stV]) rfl ⟨some ⟨b1, 0, none⟩, n, c1, by rw [HV.out], ?_, ?_⟩
  ·
   exact zprim31
  · exact (sc (sc (sc (sc (sc hB)))))
 obtain ⟨z0, z1, z2⟩ := ringB_at HLN.out hrb
 have HRB := Lib.hid hrb; clear hrb
 obtain ⟨b, r, A', n', cap', rfl, hlb, hbh, hri, c0, c1', c2, c3, c4, _⟩ := (hs.below hB hh).at_ z2
 have HRI := Lib.hid hri; clear hri
 have hrc : RgC w3 b z.toNat r A' n' cap' := ⟨c0, c1', c2, c3, c4⟩
 clear c0 c1' c2 c3 c4
 obtain ⟨a, ha⟩ : ∃ a, rows[z.toNat]? = some a := ⟨_, List.getElem?_eq_getElem (by have := hR.1; omega)⟩
 obtain ⟨r0, hr0, e1, e2, e3, e4, _⟩ := hC.1 _ a ha
 obtain rfl : r = r0 := by have := HRI.out; rw [hr0] at this; injection this with this; exact this.symm
 have HA := Lib.hid ha
 have HE := Lib.hid (And.intro e1 (And.intro e2 (And.intro e3 e4)))
 have d := Own.cell_ Rw.cs_len hR (j := 1) ha rfl
 clear hr0 ha e1 e2 e3 e4
 have df := Own.frozen_ hR
 have HAT := Lib.hid (St.at_some (s := s) HRI.out)
 have kx := hx.cell
 have ko := ho.cell
 have lo_ := ho.lt
 have lb1 := Own.lt hR
 have tne : (b1 : Nat) ≠ w.heap.size ∧ b1 ≠ O := by omega
 have hrc0 := hrc
 obtain ⟨c0, c1', c2, c3, c4⟩ := hrc0
 cases hcl : r.c
 ·
  rw [hcl] at c2
  cases hse : (r.t == seen)
  ·
   have hse' : (r.t != seen) = true := by simpa using hse
   have HV := Lib.hid (show raiseTail s z seen y = (s, false) by simp only [raiseTail, HOK.out, HRB.out, HAT.out, hcl, hse']; rfl)
   have kz := hz.cell
   have fz := hz.frozen
   have ko := ho.cell
   have hG := hC.rgs hR HLN.out
   have hBs := hB.size
   go_wp2
   refine bodyPost_ret (v := .tuple #[stV s (some ⟨b1, 0, none⟩) n c1, .bool false]) (by simp [results, Tryz.results98, go_sem, kz, stV]) rfl ⟨some ⟨b1, 0, none⟩, n, c1, by rw [HV.out], ?_, ?_⟩
   ·
    exact zprim31
   · exact (sc (sc (sc (sc (sc hB)))))
  have hse' : (r.t != seen) = false := by simpa using hse
  have HV := Lib.hid (show raiseTail s z seen y = thenB s (s.turn z (fun r => { r with t := y })) by simp only [raiseTail, HOK.out, HRB.out, HAT.out, hcl, hse']; rfl)
  go_wp2_with fail
  refine calls_abs (fun W' => Below w.heap.size w W' ∧ BoxAt W' w.heap.size (aS s (some ⟨b, 0, none⟩) n cap) 32 ∧ BoxAt W' (w.heap.size + 1) zS 32 ∧ BoxAt W' O (aS s (some ⟨b1, 0, none⟩) n c1) 32 ∧ RwsO Q W' b1 n c1 (rows.set z.toNat { a with t := y }) ∧ CopyOf Q W' (rows.set z.toNat { a with t := y }) (s.turn z (fun r => { r with t := y })).rs) ?_ ?_
  ·
   refine ⟨sc hB, hx.sn, hz.sn, ho.sn, ?_, ?_⟩
   · exact Own.set1 hR Rw.cs_len (j := 1) HA.out (by omega) rfl
   ·
    rw [St.turn_some HRI.out]
    refine CopyOf.turn ?_ HA.out HRI.out rfl rfl rfl HE.out.1 rfl HE.out.2.2.1 HE.out.2.2.2 rfl
    exact zprim34
  clear kx ko d df hrc c0 c1' c2 c3 c4 hx hz ho hR hC hB
  rintro W4 ⟨hB, hx, hz, ho, hR, hC⟩
  have lo4 := ho.lt
  have hlt : (s.turn z (fun r => { r with t := y })).rs.length = n := by rw [St.turn_some HRI.out]; simpa using HLN.out
  have HG := Lib.hid (hC.rgs hR hlt)
  have hfs : stV (s.turn z (fun r => { r with t := y })) (some ⟨b1, 0, none⟩) n c1 = .agg (aS s (some ⟨b1, 0, none⟩) n c1) := by rw [St.turn_some HRI.out]; rfl
  have HFS := Lib.hid hfs; clear hfs hlt
  rw [← HFS.out]
  refine (l4Then_any s (s.turn z (fun r => { r with t := y })) (some ⟨b, 0, none⟩) (some ⟨b1, 0, none⟩) n cap n c1 lo hi Q W4.heap.size _ (hs.below hB hh) HG.out (Nat.le_trans hh hB.size) (Nat.le_refl _) (by omega) HNT.out (HNT.out.turn fun r => rfl)).mono ?_
  rintro e w5 ⟨A5, n5, c5, rfl, hG5, hb5⟩
  replace hz := hz.below hb5 hz.lt
  replace hB := bstep hB hB.size hb5
  have h5 := hb5.size
  clear hb5 HG
  rw [← HV.out] at hG5 ⊢
  obtain ⟨q, hq⟩ : ∃ q, q = raiseTail s z seen y := ⟨_, rfl⟩
  rw [← hq] at hG5 ⊢
  have HQ := Lib.hid hq; clear hq
  unfold stV
  have kz := hz.cell
  have fz := hz.frozen
  have lz5 := hz.lt
  go_wp2
  refine bodyPost_ret (v := .tuple #[stV q.1 A5 n5 c5, q.2]) (by simp [results, Tryz.results98, go_sem, kz, lz5, stV]) rfl ⟨A5, n5, c5, by rw [← HQ.out], ?_, ?_⟩
  ·
   rw [← HQ.out]
   exact ((((((hG5.sl).sl).sl).sl).sl)).mono (by omega) (by simp)
  · exact (sc (sc (sc (sc (sc hB)))))
 ·
  rw [hcl] at c2
  have HV := Lib.hid (show raiseTail s z seen y = (s, false) by simp only [raiseTail, HOK.out, HRB.out, HAT.out, hcl]; rfl)
  have kz := hz.cell
  have fz := hz.frozen
  have ko := ho.cell
  have hG := hC.rgs hR HLN.out
  have hBs := hB.size
  go_wp2
  refine bodyPost_ret (v := .tuple #[stV s (some ⟨b1, 0, none⟩) n c1, .bool false]) (by simp [results, Tryz.results98, go_sem, kz, stV]) rfl ⟨some ⟨b1, 0, none⟩, n, c1, by rw [HV.out], ?_, ?_⟩
  ·
   exact zprim31
  · exact (sc (sc (sc (sc (sc hB)))))
set_option maxRecDepth 100000 in
set_option maxHeartbeats 2000000 in
theorem slink_any (s : St) (A : Option Addr) (n cap lo hi : Nat) (z y : Int) (w : World) (hs : RgsW lo hi w A n cap s.rs) (hh : hi ≤ w.heap.size) (hm : n ≤ 1048576) (hpn : ∀ r ∈ s.rs, r.ps.length ≤ 1048576) :
  Calls Tryz.prog 97 #[stV s A n cap, z, y] w (RetSB w.heap.size (linkR s z y) w) := by
 have HPN := Lib.hid hpn; clear hpn
 have HLN := Lib.hid hs.1
 unfold stV
 go_enter Tryz.func97, Tryz.ntmps97
 go_wp2_with fail
 refine calls_abs (fun W => Below w.heap.size w W ∧ BoxAt W w.heap.size (aS s A n cap) 32 ∧ BoxAt W (w.heap.size + 1) zS 32) ⟨(((Below.refl _ _).alloc (Nat.le_refl _) _).alloc (by simp) _), ((BoxAt.new _ _ _).alloc _), BoxAt.new' (by simp)⟩ ?_
 rintro W ⟨hB, hx, hz⟩
 refine (sstoreOk_any s A n cap lo hi _ (hs.below hB hh) (Nat.le_trans hh hB.size) hm HPN.out).mono ?_
 rintro e w1 ⟨rfl, hb1⟩
 replace hx := hx.below hb1 hx.lt
 replace hz := hz.below hb1 hz.lt
 replace hB := bstep hB hB.size hb1
 clear hb1
 cases hok : stOk s
 ·
  have HV := Lib.hid (show linkR s z y = (.zero, false) by simp [linkR, hok])
  have kz := hz.cell
  have fz := hz.frozen
  go_wp2
  refine bodyPost_ret (v := .tuple #[stV .zero none 0 0, .bool false]) (by simp [results, Tryz.results97, go_sem, kz, stV, St.zero]) rfl ⟨none, 0, 0, by rw [HV.out], ?_, ?_⟩
  · rw [HV.out]; exact RgsW.nil
  · exact (sc (sc (sc (sc (sc hB)))))
 have HOK := Lib.hid hok
 have HNT := Lib.hid (stOk_neat hok)
 have hn : 1 ≤ n ∧ n ≤ 16 := by have := HNT.out.1; have := HNT.out.2.1; have := HLN.out; omega
 have kx := hx.cell
 have lz1 := hz.lt
 go_wp2_with fail
 refine (l3Copy_any s A n cap lo hi _ (hs.below hB hh) (Nat.le_trans hh hB.size) hn.1 (by omega) HNT.out.cp).mono ?_
 rintro e w2 ⟨b1, c1, rows, rfl, hR, hC, hb2⟩
 unfold stV
 replace hx := hx.below hb2 hx.lt
 replace hz := hz.below hb2 hz.lt
 have hQO := hb2.size
 replace hB := bstep hB hB.size hb2
 clear hb2 kx hok
 have lx := hx.lt
 have lz := hz.lt
 have kx := hx.cell
 have hbO := Own.lt hR
 have hQb := hR.2.1
 go_wp2_with fail
 refine calls_abs (fun W' => Below w.heap.size w W' ∧ BoxAt W' w.heap.size (aS s A n cap) 32 ∧ BoxAt W' (w.heap.size + 1) zS 32 ∧ BoxAt W' w2.heap.size (aS s (some ⟨b1, 0, none⟩) n c1) 32 ∧ RwsO w1.heap.size W' b1 n c1 rows ∧ CopyOf w1.heap.size W' rows s.rs) ⟨hB.alloc hB.size _, hx.alloc _, hz.alloc _, BoxAt.new _ _ _, Own.al hR _, hC.below ((Below.refl _ _).alloc (Nat.le_refl _) _)⟩ ?_
 generalize w1.heap.size = Q at *
 generalize w2.heap.size = O at *
 clear kx hx hz hB hR hC
 rintro W2 ⟨hB, hx, hz, ho, hR, hC⟩
 refine (l4Ring_any s A n cap z _ HLN.out (by omega)).mono ?_
 rintro e w3 ⟨rfl, hb3⟩
 replace hx := hx.below hb3 hx.lt
 replace hz := hz.below hb3 hz.lt
 replace ho := ho.below hb3 ho.lt
 replace hR := Own.below hR hb3
 replace hC := hC.below hb3
 replace hB := bstep hB hB.size hb3
 clear hb3
 cases hrb : ringB s z
 ·
  have HV := Lib.hid (show linkR s z y = (s, false) by simp [linkR, HOK.out, hrb])
  have kz := hz.cell
  have fz := hz.frozen
  have ko := ho.cell
  have hG := hC.rgs hR HLN.out
  have hBs := hB.size
  go_wp2
  refine bodyPost_ret (v := .tuple #[stV s (some ⟨b1, 0, none⟩) n c1, .bool false]) (by simp [results, Tryz.results97, go_sem, kz, stV]) rfl ⟨some ⟨b1, 0, none⟩, n, c1, by rw [HV.out], ?_, ?_⟩
  ·
   exact zprim31
  · exact (sc (sc (sc (sc (sc hB)))))
 have kx := hx.cell
 go_wp2_with fail
 refine (l4Ring_any s A n cap y _ HLN.out (by omega)).mono ?_
 rintro e w4 ⟨rfl, hb4⟩
 replace hx := hx.below hb4 hx.lt
 replace hz := hz.below hb4 hz.lt
 replace ho := ho.below hb4 ho.lt
 replace hR := Own.below hR hb4
 replace hC := hC.below hb4
 replace hB := bstep hB hB.size hb4
 clear hb4
 clear kx
 have HRBz := Lib.hid hrb
 cases hrb2 : ringB s y
 ·
  have HV := Lib.hid (show linkR s z y = (s, false) by simp [linkR, HOK.out, hrb, hrb2])
  clear hrb
  have kz := hz.cell
  have fz := hz.frozen
  have ko := ho.cell
  have hG := hC.rgs hR HLN.out
  have hBs := hB.size
  go_wp2
  refine bodyPost_ret (v := .tuple #[stV s (some ⟨b1, 0, none⟩) n c1, .bool false]) (by simp [results, Tryz.results97, go_sem, kz, stV]) rfl ⟨some ⟨b1, 0, none⟩, n, c1, by rw [HV.out], ?_, ?_⟩
  ·
   exact zprim31
  · exact (sc (sc (sc (sc (sc hB)))))
 obtain ⟨z0, z1, z2⟩ := ringB_at HLN.out hrb
 have HRB := Lib.hid hrb; clear hrb
 obtain ⟨b, r, A', n', cap', rfl, hlb, hbh, hri, c0, c1', c2, c3, c4, _⟩ := (hs.below hB hh).at_ z2
 have HRI := Lib.hid hri; clear hri
 have hrc : RgC w4 b z.toNat r A' n' cap' := ⟨c0, c1', c2, c3, c4⟩
 clear c0 c1' c2 c3 c4
 have HRB2 := Lib.hid hrb2; clear hrb2
 obtain ⟨a, ha⟩ : ∃ a, rows[z.toNat]? = some a := ⟨_, List.getElem?_eq_getElem (by have := hR.1; omega)⟩
 obtain ⟨r0, hr0, e1, e2, e3, e4, _⟩ := hC.1 _ a ha
 obtain rfl : r = r0 := by have := HRI.out; rw [hr0] at this; injection this with this; exact this.symm
 have HA := Lib.hid ha
 have HE := Lib.hid (And.intro e1 (And.intro e2 (And.intro e3 e4)))
 have d := Own.cell_ Rw.cs_len hR (j := 3) ha rfl
 clear hr0 ha e1 e2 e3 e4
 have df := Own.frozen_ hR
 have HAT := Lib.hid (St.at_some (s := s) HRI.out)
 have kx := hx.cell
 have ko := ho.cell
 have lo_ := ho.lt
 have lb1 := Own.lt hR
 have tne : (b1 : Nat) ≠ w.heap.size ∧ b1 ≠ O := by omega
 have hrc0 := hrc
 obtain ⟨c0, c1', c2, c3, c4⟩ := hrc0
 cases hse : (r.x == -1)
 ·
  have hse' : (r.x != -1) = true := by simpa using hse
  have HV := Lib.hid (show linkR s z y = (s, false) by simp only [linkR, HOK.out, HRB.out, HRB2.out, HAT.out, hse']; rfl)
  have kz := hz.cell
  have fz := hz.frozen
  have ko := ho.cell
  have hG := hC.rgs hR HLN.out
  have hBs := hB.size
  go_wp2
  refine bodyPost_ret (v := .tuple #[stV s (some ⟨b1, 0, none⟩) n c1, .bool false]) (by simp [results, Tryz.results97, go_sem, kz, stV]) rfl ⟨some ⟨b1, 0, none⟩, n, c1, by rw [HV.out], ?_, ?_⟩
  ·
   exact zprim31
  · exact (sc (sc (sc (sc (sc hB)))))
 have hse' : (r.x != -1) = false := by simpa using hse
 have HV := Lib.hid (show linkR s z y = thenB s (s.turn z (fun r => { r with x := y })) by simp only [linkR, HOK.out, HRB.out, HRB2.out, HAT.out, hse']; rfl)
 go_wp2_with fail
 refine calls_abs (fun W' => Below w.heap.size w W' ∧ BoxAt W' w.heap.size (aS s (some ⟨b, 0, none⟩) n cap) 32 ∧ BoxAt W' (w.heap.size + 1) zS 32 ∧ BoxAt W' O (aS s (some ⟨b1, 0, none⟩) n c1) 32 ∧ RwsO Q W' b1 n c1 (rows.set z.toNat { a with x := y }) ∧ CopyOf Q W' (rows.set z.toNat { a with x := y }) (s.turn z (fun r => { r with x := y })).rs) ?_ ?_
 ·
  refine ⟨sc hB, hx.sn, hz.sn, ho.sn, ?_, ?_⟩
  · exact Own.set1 hR Rw.cs_len (j := 3) HA.out (by omega) rfl
  ·
   rw [St.turn_some HRI.out]
   refine CopyOf.turn ?_ HA.out HRI.out rfl rfl rfl HE.out.1 HE.out.2.1 HE.out.2.2.1 rfl rfl
   exact zprim34
 clear kx ko d df hrc c0 c1' c2 c3 c4 hx hz ho hR hC hB
 rintro W4 ⟨hB, hx, hz, ho, hR, hC⟩
 have lo4 := ho.lt
 have hlt : (s.turn z (fun r => { r with x := y })).rs.length = n := by rw [St.turn_some HRI.out]; simpa using HLN.out
 have HG := Lib.hid (hC.rgs hR hlt)
 have hfs : stV (s.turn z (fun r => { r with x := y })) (some ⟨b1, 0, none⟩) n c1 = .agg (aS s (some ⟨b1, 0, none⟩) n c1) := by rw [St.turn_some HRI.out]; rfl
 have HFS := Lib.hid hfs; clear hfs hlt
 rw [← HFS.out]
 refine (l4Then_any s (s.turn z (fun r => { r with x := y })) (some ⟨b, 0, none⟩) (some ⟨b1, 0, none⟩) n cap n c1 lo hi Q W4.heap.size _ (hs.below hB hh) HG.out (Nat.le_trans hh hB.size) (Nat.le_refl _) (by omega) HNT.out (HNT.out.turn fun r => rfl)).mono ?_
 rintro e w5 ⟨A5, n5, c5, rfl, hG5, hb5⟩
 replace hz := hz.below hb5 hz.lt
 replace hB := bstep hB hB.size hb5
 have h5 := hb5.size
 clear hb5 HG
 rw [← HV.out] at hG5 ⊢
 obtain ⟨q, hq⟩ : ∃ q, q = linkR s z y := ⟨_, rfl⟩
 rw [← hq] at hG5 ⊢
 have HQ := Lib.hid hq; clear hq
 unfold stV
 have kz := hz.cell
 have fz := hz.frozen
 have lz5 := hz.lt
 go_wp2
 refine bodyPost_ret (v := .tuple #[stV q.1 A5 n5 c5, q.2]) (by simp [results, Tryz.results97, go_sem, kz, lz5, stV]) rfl ⟨A5, n5, c5, by rw [← HQ.out], ?_, ?_⟩
 ·
  rw [← HQ.out]
  exact ((((((hG5.sl).sl).sl).sl).sl)).mono (by omega) (by simp)
 · exact (sc (sc (sc (sc (sc hB)))))
end Go.Proofs.YthpckpnlohfcbaaGreatDoor
namespace Go.Proofs.YthpckpnlohfcbaaGreatDoor
set_option linter.unusedSimpArgs false
set_option linter.unusedVariables false
open Go.RowKit
set_option linter.unusedVariables false
attribute [local go_sem] OpUpon
attribute [local go_sem ↓] Go.wp_at_zero Go.wp_at_succ
set_option maxRecDepth 100000 in
set_option maxHeartbeats 1000000 in
theorem sswing_false (s : St) (A : Option Addr) (n cap lo hi : Nat) (seen y : Int) (w : World) (hs : RgsW lo hi w A n cap s.rs) (hh : hi ≤ w.heap.size) (hm : n ≤ 1048576) (hpn : ∀ r ∈ s.rs, r.ps.length ≤ 1048576) :
  Calls Tryz.prog 70 #[stV s A n cap, .bool false, seen, y] w (RetSB w.heap.size (swing s false seen y) w) := by
 have HPN := Lib.hid hpn; clear hpn
 have HLN := Lib.hid hs.1
 unfold stV
 go_enter Tryz.func70, Tryz.ntmps70
 go_wp2_with fail
 refine calls_abs (fun W => Below w.heap.size w W ∧ BoxAt W w.heap.size (aS s A n cap) 32 ∧ BoxAt W (w.heap.size + 1) zS 32) ⟨(((Below.refl _ _).alloc (Nat.le_refl _) _).alloc (by simp) _), ((BoxAt.new _ _ _).alloc _), BoxAt.new' (by simp)⟩ ?_
 rintro W ⟨hB, hx, hz⟩
 refine (sstoreOk_any s A n cap lo hi _ (hs.below hB hh) (Nat.le_trans hh hB.size) hm HPN.out).mono ?_
 rintro e w1 ⟨rfl, hb1⟩
 replace hx := hx.below hb1 hx.lt
 replace hz := hz.below hb1 hz.lt
 replace hB := bstep hB hB.size hb1
 clear hb1
 cases hok : stOk s
 ·
  have HV := Lib.hid (show swing s false seen y = (.zero, false) by simp [swing, hok])
  exact zprim32
 have HOK := Lib.hid hok
 have HNT := Lib.hid (stOk_neat hok)
 have hn : 1 ≤ n ∧ n ≤ 16 := by have := HNT.out.1; have := HNT.out.2.1; have := HLN.out; omega
 have kx := hx.cell
 have lz1 := hz.lt
 go_wp2_with fail
 refine (l3Copy_any s A n cap lo hi _ (hs.below hB hh) (Nat.le_trans hh hB.size) hn.1 (by omega) HNT.out.cp).mono ?_
 rintro e w2 ⟨b1, c1, rows, rfl, hR, hC, hb2⟩
 unfold stV
 replace hx := hx.below hb2 hx.lt
 replace hz := hz.below hb2 hz.lt
 have hQO := hb2.size
 replace hB := bstep hB hB.size hb2
 clear hb2 kx hok
 have lx := hx.lt
 have lz := hz.lt
 have kx := hx.cell
 have hbO := Own.lt hR
 have hQb := hR.2.1
 go_upto_region 4 with fail
 refine wp_abs (fun W' => Below w.heap.size w W' ∧ BoxAt W' w.heap.size (aS s A n cap) 32 ∧ BoxAt W' (w.heap.size + 1) zS 32 ∧ BoxAt W' w2.heap.size (aS s (some ⟨b1, 0, none⟩) n c1) 32 ∧ RwsO w1.heap.size W' b1 n c1 rows ∧ CopyOf w1.heap.size W' rows s.rs) ⟨hB.alloc hB.size _, hx.alloc _, hz.alloc _, BoxAt.new _ _ _, Own.al hR _, hC.below ((Below.refl _ _).alloc (Nat.le_refl _) _)⟩ ?_
 generalize w1.heap.size = Q at *
 generalize w2.heap.size = O at *
 clear kx hx hz hB hR hC
 rintro W2 ⟨hB, hx, hz, ho, hR, hC⟩
 have ko := ho.cell
 have lo_ := ho.lt
 cases hse : (s.fi == seen)
 ·
  have hse' : (s.fi != seen) = true := by simpa using hse
  have HV := Lib.hid (show swing s false seen y = (s, false) by simp [swing, HOK.out, hse'])
  clear ko
  exact zprim30
 have hse' : (s.fi != seen) = false := by simpa using hse
 have kx := hx.cell
 go_wp2_with fail
 clear kx ko
 refine (l4Ring_any s A n cap y _ HLN.out (by omega)).mono ?_
 rintro e w3 ⟨rfl, hb3⟩
 replace hx := hx.below hb3 hx.lt
 replace hz := hz.below hb3 hz.lt
 replace ho := ho.below hb3 ho.lt
 replace hR := Own.below hR hb3
 replace hC := hC.below hb3
 replace hB := bstep hB hB.size hb3
 clear hb3
 cases hrb : ringB s y
 ·
  have HV := Lib.hid (show swing s false seen y = (s, false) by simp [swing, HOK.out, hrb])
  exact zprim30
 have HV := Lib.hid (show swing s false seen y = ({ s with fi := y }, true) by simp [swing, HOK.out, hse', hrb])
 clear hrb hse hse'
 have kz := hz.cell
 have fz := hz.frozen
 have ko := ho.cell
 have fo := ho.frozen
 have lo3 := ho.lt
 have hG := hC.rgs hR HLN.out
 have hBs := hB.size
 have lb1 := Own.lt hR
 have hOb : O ≠ b1 ∧ w.heap.size + 1 ≠ O := by omega
 go_upto_region 10 with fail
 refine wp_abs (fun W' => Below w.heap.size w W' ∧ BoxAt W' (w.heap.size + 1) zS 32 ∧ BoxAt W' O (dS s.rd s.mo (some ⟨b1, 0, none⟩) n c1 y s.la) 32 ∧ RwsO Q W' b1 n c1 rows ∧ CopyOf Q W' rows s.rs) ⟨sc hB, hz.sn, by simpa using ho.set 3 (.int .i64 y), Own.set_ne hR (by omega) _ _, hC.set ho (by decide) _ _⟩ ?_
 clear kz fz ko fo hz ho hR hC hB hx hG
 rintro W5 ⟨hB, hz, ho, hR, hC⟩
 have kz := hz.cell
 have fz := hz.frozen
 have ko := ho.cell
 have hG := hC.rgs hR HLN.out
 go_wp2
 refine bodyPost_ret (v := .tuple #[.agg (dS s.rd s.mo (some ⟨b1, 0, none⟩) n c1 y s.la), .bool true]) (by simp [results, Tryz.results70, go_sem, kz]) rfl ⟨some ⟨b1, 0, none⟩, n, c1, by rw [HV.out]; rfl, ?_, ?_⟩
 ·
  exact zprim31
 · exact (sc (sc (sc (sc (sc hB)))))
set_option maxRecDepth 100000 in
set_option maxHeartbeats 1000000 in
theorem sswing_true (s : St) (A : Option Addr) (n cap lo hi : Nat) (seen y : Int) (w : World) (hs : RgsW lo hi w A n cap s.rs) (hh : hi ≤ w.heap.size) (hm : n ≤ 1048576) (hpn : ∀ r ∈ s.rs, r.ps.length ≤ 1048576) :
  Calls Tryz.prog 70 #[stV s A n cap, .bool true, seen, y] w (RetSB w.heap.size (swing s true seen y) w) := by
 have HPN := Lib.hid hpn; clear hpn
 have HLN := Lib.hid hs.1
 unfold stV
 go_enter Tryz.func70, Tryz.ntmps70
 go_wp2_with fail
 refine calls_abs (fun W => Below w.heap.size w W ∧ BoxAt W w.heap.size (aS s A n cap) 32 ∧ BoxAt W (w.heap.size + 1) zS 32) ⟨(((Below.refl _ _).alloc (Nat.le_refl _) _).alloc (by simp) _), ((BoxAt.new _ _ _).alloc _), BoxAt.new' (by simp)⟩ ?_
 rintro W ⟨hB, hx, hz⟩
 refine (sstoreOk_any s A n cap lo hi _ (hs.below hB hh) (Nat.le_trans hh hB.size) hm HPN.out).mono ?_
 rintro e w1 ⟨rfl, hb1⟩
 replace hx := hx.below hb1 hx.lt
 replace hz := hz.below hb1 hz.lt
 replace hB := bstep hB hB.size hb1
 clear hb1
 cases hok : stOk s
 ·
  have HV := Lib.hid (show swing s true seen y = (.zero, false) by simp [swing, hok])
  exact zprim32
 have HOK := Lib.hid hok
 have HNT := Lib.hid (stOk_neat hok)
 have hn : 1 ≤ n ∧ n ≤ 16 := by have := HNT.out.1; have := HNT.out.2.1; have := HLN.out; omega
 have kx := hx.cell
 have lz1 := hz.lt
 go_wp2_with fail
 refine (l3Copy_any s A n cap lo hi _ (hs.below hB hh) (Nat.le_trans hh hB.size) hn.1 (by omega) HNT.out.cp).mono ?_
 rintro e w2 ⟨b1, c1, rows, rfl, hR, hC, hb2⟩
 unfold stV
 replace hx := hx.below hb2 hx.lt
 replace hz := hz.below hb2 hz.lt
 have hQO := hb2.size
 replace hB := bstep hB hB.size hb2
 clear hb2 kx hok
 have lx := hx.lt
 have lz := hz.lt
 have kx := hx.cell
 have hbO := Own.lt hR
 have hQb := hR.2.1
 go_upto_region 4 with fail
 refine wp_abs (fun W' => Below w.heap.size w W' ∧ BoxAt W' w.heap.size (aS s A n cap) 32 ∧ BoxAt W' (w.heap.size + 1) zS 32 ∧ BoxAt W' w2.heap.size (aS s (some ⟨b1, 0, none⟩) n c1) 32 ∧ RwsO w1.heap.size W' b1 n c1 rows ∧ CopyOf w1.heap.size W' rows s.rs) ⟨hB.alloc hB.size _, hx.alloc _, hz.alloc _, BoxAt.new _ _ _, Own.al hR _, hC.below ((Below.refl _ _).alloc (Nat.le_refl _) _)⟩ ?_
 generalize w1.heap.size = Q at *
 generalize w2.heap.size = O at *
 clear kx hx hz hB hR hC
 rintro W2 ⟨hB, hx, hz, ho, hR, hC⟩
 have ko := ho.cell
 have lo_ := ho.lt
 cases hse : (s.la == seen)
 ·
  have hse' : (s.la != seen) = true := by simpa using hse
  have HV := Lib.hid (show swing s true seen y = (s, false) by simp [swing, HOK.out, hse'])
  clear ko
  exact zprim30
 have hse' : (s.la != seen) = false := by simpa using hse
 have kx := hx.cell
 go_wp2_with fail
 clear kx ko
 refine (l4Ring_any s A n cap y _ HLN.out (by omega)).mono ?_
 rintro e w3 ⟨rfl, hb3⟩
 replace hx := hx.below hb3 hx.lt
 replace hz := hz.below hb3 hz.lt
 replace ho := ho.below hb3 ho.lt
 replace hR := Own.below hR hb3
 replace hC := hC.below hb3
 replace hB := bstep hB hB.size hb3
 clear hb3
 cases hrb : ringB s y
 ·
  have HV := Lib.hid (show swing s true seen y = (s, false) by simp [swing, HOK.out, hrb])
  exact zprim30
 have HV := Lib.hid (show swing s true seen y = ({ s with la := y }, true) by simp [swing, HOK.out, hse', hrb])
 clear hrb hse hse'
 have kz := hz.cell
 have fz := hz.frozen
 have ko := ho.cell
 have fo := ho.frozen
 have lo3 := ho.lt
 have hG := hC.rgs hR HLN.out
 have hBs := hB.size
 have lb1 := Own.lt hR
 have hOb : O ≠ b1 ∧ w.heap.size + 1 ≠ O := by omega
 go_upto_region 10 with fail
 refine wp_abs (fun W' => Below w.heap.size w W' ∧ BoxAt W' (w.heap.size + 1) zS 32 ∧ BoxAt W' O (dS s.rd s.mo (some ⟨b1, 0, none⟩) n c1 s.fi y) 32 ∧ RwsO Q W' b1 n c1 rows ∧ CopyOf Q W' rows s.rs) ⟨sc hB, hz.sn, by simpa using ho.set 4 (.int .i64 y), Own.set_ne hR (by omega) _ _, hC.set ho (by decide) _ _⟩ ?_
 clear kz fz ko fo hz ho hR hC hB hx hG
 rintro W5 ⟨hB, hz, ho, hR, hC⟩
 have kz := hz.cell
 have fz := hz.frozen
 have ko := ho.cell
 have hG := hC.rgs hR HLN.out
 go_wp2
 refine bodyPost_ret (v := .tuple #[.agg (dS s.rd s.mo (some ⟨b1, 0, none⟩) n c1 s.fi y), .bool true]) (by simp [results, Tryz.results70, go_sem, kz]) rfl ⟨some ⟨b1, 0, none⟩, n, c1, by rw [HV.out]; rfl, ?_, ?_⟩
 ·
  exact zprim31
 · exact (sc (sc (sc (sc (sc hB)))))
theorem sswing_any (s : St) (A : Option Addr) (n cap lo hi : Nat) (last : Bool) (seen y : Int) (w : World) (hs : RgsW lo hi w A n cap s.rs) (hh : hi ≤ w.heap.size) (hm : n ≤ 1048576) (hpn : ∀ r ∈ s.rs, r.ps.length ≤ 1048576) :
  Calls Tryz.prog 70 #[stV s A n cap, last, seen, y] w (RetSB w.heap.size (swing s last seen y) w) := by
 cases last
 · exact sswing_false s A n cap lo hi seen y w hs hh hm hpn
 · exact sswing_true s A n cap lo hi seen y w hs hh hm hpn
theorem own_st {W : World} {M : Nat} {e : TypeId} {s : Nat} {bb n c : Nat} {xs : List Value} {k : Nat} (h : W.ownsRow M e s (.slice (some ⟨bb, 0, none⟩) n c) n xs) (hk : bb ≠ k) (i : Nat) (u : Value) : (W.setCell ⟨k, i, none⟩ u).ownsRow M e s (.slice (some ⟨bb, 0, none⟩) n c) n xs := by
 refine ⟨h.1, ?_⟩
 rcases h.2 with h' | ⟨g, cap, cur, hv, hg, hh, hr⟩
 · exact .inl h'
 ·
  refine .inr ⟨g, cap, cur, hv, hg, ?_, hr⟩
  injection hv with h1
  injection h1 with h1
  injection h1 with h1
  subst h1
  rw [Below.heap_setCell W ⟨k, i, none⟩ u bb hk]
  exact hh
def arDV (s : St) (N O b1 n c1 M : Nat) (A : Option Addr) (cap : Nat) (v : Int) (q Q : Nat) (rows : List Rw) : List Sl := [.v (.pointer (some ⟨O, 2, none⟩)),
 .v (.slice (some ⟨b1, 0, none⟩) n c1),
 .v (pT N),
 .v s.rd,
 .v v,
 .e fun σ w => ∃ (g cg : Nat), σ 5 = .agg #[.int .i64 0, .int .i64 1, .bool false, .int .i64 ((-1)), .slice (some ⟨g, 0, none⟩) q cg] ∧ PlsO M w g q cg (seeded q v),
 .e fun σ w => ∃ (g cg g2 : Nat), σ 6 = .slice (some ⟨g2, 0, none⟩) 1 1 ∧ BoxAt w g2 #[.int .i64 0, .int .i64 1, .bool false, .int .i64 (-1), .slice (some ⟨g, 0, none⟩) q cg] 79 ∧ M ≤ g2 ∧ PlsO M w g q cg (seeded q v),
 .e fun σ w => ∃ (bb cc g cg : Nat), σ 7 = .slice (some ⟨bb, 0, none⟩) (n + 1) cc ∧ w.ownsRow Q 79 5 (.slice (some ⟨bb, 0, none⟩) (n + 1) cc) (n + 1) ((rows ++ [(⟨0, 1, false, -1, some ⟨g, 0, none⟩, q, cg⟩ : Rw)]).flatMap Rw.cs) ∧ PlsO M w g q cg (seeded q v) ∧ (bb = b1 ∨ M ≤ bb),
 .v (.pointer (some ⟨O, 2, none⟩)),
 .e fun σ w => ∃ (bb cc g cg : Nat), BoxAt w O (aS s (some ⟨bb, 0, none⟩) (n + 1) cc) 32 ∧ w.ownsRow Q 79 5 (.slice (some ⟨bb, 0, none⟩) (n + 1) cc) (n + 1) ((rows ++ [(⟨0, 1, false, -1, some ⟨g, 0, none⟩, q, cg⟩ : Rw)]).flatMap Rw.cs) ∧ PlsO M w g q cg (seeded q v) ∧ (bb = b1 ∨ M ≤ bb)]
theorem CopyOf.app {lo : Nat} {w : World} {rows : List Rw} {L : List Rg} (h : CopyOf lo w rows L) (L' : List Rg) : CopyOf lo w rows (L ++ L') :=
 ⟨fun j a ha => by
  obtain ⟨r, hr, x⟩ := h.1 j a ha
  exact ⟨r, by rw [List.getElem?_append_left (List.getElem?_eq_some_iff.1 hr).1]; exact hr, x⟩, h.2⟩
theorem CopyOf.snocL {lo M : Nat} {w : World} {rows : List Rw} {L : List Rg} (h : CopyOf lo w rows L) (hM : ∀ (j : Nat) a, rows[j]? = some a → ∃ g, a.A = some ⟨g, 0, none⟩ ∧ g < M) {a : Rw} {r : Rg} (hl : rows.length = L.length) (ha : RwO M w a r) (hlo : lo ≤ M) : CopyOf lo w (rows ++ [a]) (L ++ [r]) :=
 (h.app [r]).snoc hM (by rw [hl, List.getElem?_append_right (Nat.le_refl _)]; simp) ha hlo
set_option maxRecDepth 100000 in
set_option maxHeartbeats 2000000 in
theorem saddRing_any (s : St) (A : Option Addr) (n cap lo hi : Nat) (v : Int) (w : World) (hs : RgsW lo hi w A n cap s.rs) (hh : hi ≤ w.heap.size) (hm : n ≤ 1048576) (hpn : ∀ r ∈ s.rs, r.ps.length ≤ 1048576) :
  Calls Tryz.prog 96 #[stV s A n cap, v] w (RetSI w.heap.size (addRing s v) w) := by
 obtain ⟨i0, hi0, hz0, hz1, hz2⟩ := info_parts ring_info
 have HI := Lib.hid hi0
 have HZ0 := Lib.hid hz0
 have HZ1 := Lib.hid hz1
 have HZ2 := Lib.hid hz2
 clear hi0 hz0 hz1 hz2
 have HPN := Lib.hid hpn; clear hpn
 have HLN := Lib.hid hs.1
 unfold stV
 go_enter Tryz.func96, Tryz.ntmps96
 go_wp2_with fail
 refine calls_abs (fun W => Below w.heap.size w W ∧ BoxAt W w.heap.size (aS s A n cap) 32 ∧ BoxAt W (w.heap.size + 1) zS 32) ⟨(((Below.refl _ _).alloc (Nat.le_refl _) _).alloc (by simp) _), ((BoxAt.new _ _ _).alloc _), BoxAt.new' (by simp)⟩ ?_
 rintro W ⟨hB, hx, hz⟩
 refine (sstoreOk_any s A n cap lo hi _ (hs.below hB hh) (Nat.le_trans hh hB.size) hm HPN.out).mono ?_
 rintro e w1 ⟨rfl, hb1⟩
 replace hx := hx.below hb1 hx.lt
 replace hz := hz.below hb1 hz.lt
 replace hB := bstep hB hB.size hb1
 clear hb1
 cases hok : stOk s
 ·
  have HV := Lib.hid (show addRing s v = (.zero, -1) by simp [addRing, hok])
  have kz := hz.cell
  have fz := hz.frozen
  go_wp2
  refine bodyPost_ret (v := .tuple #[stV .zero none 0 0, .int .i64 (-1)]) (by simp [results, Tryz.results96, go_sem, kz, stV, St.zero]) rfl ⟨none, 0, 0, by rw [HV.out], ?_, ?_⟩
  · rw [HV.out]; exact RgsW.nil
  · exact (sc (sc (sc (sc (sc hB)))))
 have HOK := Lib.hid hok
 have HNT := Lib.hid (stOk_neat hok)
 have hn : 1 ≤ n ∧ n ≤ 16 := by have := HNT.out.1; have := HNT.out.2.1; have := HLN.out; omega
 have kx := hx.cell
 have lz1 := hz.lt
 go_wp2_with fail
 refine (l3Copy_any s A n cap lo hi _ (hs.below hB hh) (Nat.le_trans hh hB.size) hn.1 (by omega) HNT.out.cp).mono ?_
 rintro e w2 ⟨b1, c1, rows, rfl, hR, hC, hb2⟩
 unfold stV
 replace hx := hx.below hb2 hx.lt
 replace hz := hz.below hb2 hz.lt
 have hQO := hb2.size
 replace hB := bstep hB hB.size hb2
 clear hb2 kx hok
 have lx := hx.lt
 have lz := hz.lt
 have kx := hx.cell
 have hbO := Own.lt hR
 have hQb := hR.2.1
 go_upto_region 4 with fail
 refine wp_abs (fun W' => Below w.heap.size w W' ∧ BoxAt W' w.heap.size (aS s A n cap) 32 ∧ BoxAt W' (w.heap.size + 1) zS 32 ∧ BoxAt W' w2.heap.size (aS s (some ⟨b1, 0, none⟩) n c1) 32 ∧ RwsO w1.heap.size W' b1 n c1 rows ∧ CopyOf w1.heap.size W' rows s.rs) ⟨hB.alloc hB.size _, hx.alloc _, hz.alloc _, BoxAt.new _ _ _, Own.al hR _, hC.below ((Below.refl _ _).alloc (Nat.le_refl _) _)⟩ ?_
 generalize w1.heap.size = Q at *
 generalize w2.heap.size = O at *
 clear kx hx hz hB hR hC
 rintro W2 ⟨hB, hx, hz, ho, hR, hC⟩
 have ko := ho.cell
 have kx := hx.cell
 have lo_ := ho.lt
 cases hse : ((n : Int) == s.mo)
 ·
  have kx := hx.cell
  go_wp2_with fail
  clear kx ko
  refine (l1Value_any _ _).mono ?_
  rintro e w3 ⟨rfl, rfl⟩
  cases hv : valB v
  ·
   have HV := Lib.hid (show addRing s v = (s, -1) by simp [addRing, HOK.out, hv])
   have kz := hz.cell
   have fz := hz.frozen
   have ko := ho.cell
   have hG := hC.rgs hR HLN.out
   have hBs := hB.size
   go_wp2
   refine bodyPost_ret (v := .tuple #[stV s (some ⟨b1, 0, none⟩) n c1, .int .i64 (-1)]) (by simp [results, Tryz.results96, go_sem, kz, stV]) rfl ⟨some ⟨b1, 0, none⟩, n, c1, by rw [HV.out], ?_, ?_⟩
   ·
    exact zprim31
   · exact (sc (sc (sc (sc (sc hB)))))
  obtain ⟨q, hq, hq2, hq8⟩ : ∃ q : Nat, s.rd = q ∧ 2 ≤ q ∧ q ≤ 8 := by
   have := stOk_rd HOK.out
   exact ⟨s.rd.toNat, by omega, by omega, by omega⟩
  have HRD := Lib.hid hq.symm
  have HV := Lib.hid (show addRing s v = ({ s with rs := s.rs ++ [Rg.seed q v] }, (n : Int)) by simp only [addRing, HOK.out, HLN.out, hse, hv, hq]; rfl)
  have hrl := hR.1
  have hO := hR.own Rw.cs_len
  have lb1 := Own.lt hR
  have hMx : O < W2.heap.size := lo_
  obtain ⟨M, hMe⟩ : ∃ M, M = W2.heap.size := ⟨_, rfl⟩
  have hM : M ≤ W2.heap.size := by omega
  have hM2 : W2.heap.size ≤ M := by omega
  have hcp0 := Lib.hid hC
  clear hMe hse hv hq hR
  go_upto_region 7 with fail
  go_cut [28] (fun _ W' => ∃ (bb cc g cg : Nat), Below w.heap.size w W' ∧ BoxAt W' (w.heap.size + 1) zS 32 ∧ BoxAt W' O (aS s (some ⟨bb, 0, none⟩) (n + 1) cc) 32 ∧ CopyOf Q W' rows s.rs ∧ W'.ownsRow Q 79 5 (.slice (some ⟨bb, 0, none⟩) (n + 1) cc) (n + 1) ((rows ++ [(⟨0, 1, false, -1, some ⟨g, 0, none⟩, q, cg⟩ : Rw)]).flatMap Rw.cs) ∧ PlsO M W' g q cg (seeded q v) ∧ (bb = b1 ∨ M ≤ bb) ∧ M ≤ W'.heap.size)
  case first =>
   refine wp_region2v (fun w w' => Below w.heap.size w w') (fun _ _ h => h.size) (fun _ => Below.refl _ _) (fun L W' => Below w.heap.size w W' ∧ BoxAt W' w.heap.size (aS s A n cap) 32 ∧ BoxAt W' (w.heap.size + 1) zS 32 ∧ M ≤ W'.heap.size ∧ CopyOf Q W' rows s.rs ∧ (L 7 = false → W'.ownsRow Q 79 5 (.slice (some ⟨b1, 0, none⟩) n c1) n (rows.flatMap Rw.cs)) ∧ (∃ x0, BoxAt W' O #[s.rd, s.mo, x0, s.fi, s.la] 32) ∧ (L 9 = false → BoxAt W' O (aS s (some ⟨b1, 0, none⟩) n c1) 32)) (arDV s w.heap.size O b1 n c1 M A cap v q Q rows) (fun j => [0, 0, 0, 0, 0, 0, 0, 1, 0, 1].getD j 0) [] (by kernel_rfl) (by kernel_rfl) ?_ ?_ ?_
    (.still rfl ?a0 <| .still rfl ?a1 <| .still rfl ?a2 <| .still rfl ?a3 <| .still rfl ?a4 <| .grow rfl ?a5 <| .grow rfl ?a6 <| .store rfl ?a7 <| .still rfl ?a8 <| .store rfl ?a9 <| .nil) ?_ ?_
   · exact ⟨fun _ _ _ h ⟨g, cg, e, hp⟩ => ⟨g, cg, (h 5 (List.mem_singleton.2 rfl)).symm.trans e, hp⟩, fun _ _ _ h ⟨g, cg, g2, e, hp⟩ => ⟨g, cg, g2, (h 6 (List.mem_singleton.2 rfl)).symm.trans e, hp⟩, fun _ _ _ h ⟨bb, cc, g, cg, e, hp⟩ => ⟨bb, cc, g, cg, (h 7 (List.mem_singleton.2 rfl)).symm.trans e, hp⟩, fun _ _ _ _ h => h, trivial⟩
   · exact ⟨fun σ w w' hb ⟨g, cg, e, hp⟩ => ⟨g, cg, e, hp.below hb⟩, fun σ w w' hb ⟨g, cg, g2, e, hp⟩ => ⟨g, cg, g2, e, ⟨hp.1.below hb hp.1.lt, hp.2.1, hp.2.2.below hb⟩⟩, fun σ w w' hb ⟨bb, cc, g, cg, e, hp⟩ => ⟨bb, cc, g, cg, e, ⟨own_keep hp.1 hb, hp.2.1.below hb, hp.2.2⟩⟩, fun σ w w' hb ⟨bb, cc, g, cg, hx, hp⟩ => ⟨bb, cc, g, cg, hx.below hb hx.lt, ⟨own_keep hp.1 hb, hp.2.1.below hb, hp.2.2⟩⟩, trivial⟩
   · exact ⟨hB.drew, hx, hz, hM, hC, fun _ => hO, ⟨_, ho⟩, fun _ => ho⟩
   case a0 | a2 | a4 | a8 =>
    go_light
    intro L σ W' hcl hL hC hw
    exact zprim33
   case a3 =>
    go_light
    intro L σ W' hcl hL hC hw
    have e2 := wV hw 2 rfl
    have ks := hC.2.1.cell
    exact zprim33
   case a1 =>
    go_light
    intro L σ W' hcl hL hC hw
    have e0 := wV hw 0 rfl
    have ko := (hC.2.2.2.2.2.2.2 (hcl.not (j := 9) (k := 7) (by kernel_rfl) (hcl.not (j := 7) (k := 1) (by kernel_rfl) hL))).cell
    exact zprim33
   case a5 =>
    go_light
    intro L σ W' hcl hL hC hw
    have e3 := wV hw 3 rfl
    have e4 := wV hw 4 rfl
    clear hw
    have HC := Lib.hid hC
    clear hC
    clear hcl hL
    refine OpGoes.go fun K hK => ?_
    go_simp
    obtain ⟨hB, hx, hz, hM, hC, hO, ⟨_, ho⟩, ho_o⟩ := HC.out
    refine ((HRD.out ▸ l2Seed_any q v _ (by omega) (by omega) : Calls Tryz.prog 95 #[s.rd, v] _ _)).mono ?_
    rintro e w1 ⟨g, cg, rfl, hO5, hb1⟩
    exact ⟨_, rfl, hK _ _ ⟨⟨bstep hB hB.size hb1, hx.below hb1 hx.lt, hz.below hb1 hz.lt, Nat.le_trans hM hb1.size, hC.below hb1, fun h => own_keep (hO (by simpa [upd] using h)) hb1, ⟨_, ho.below hb1 ho.lt⟩, fun h => (ho_o (by simpa [upd] using h)).below hb1 (ho_o (by simpa [upd] using h)).lt⟩, ⟨g, cg, rfl, hO5.mono hM⟩, hb1⟩⟩
   case a6 =>
    go_light
    intro L σ W' hcl hL hC hw
    obtain ⟨g, cg, e5, hp5⟩ := wE hw 5 rfl
    clear hw
    have HC := Lib.hid hC
    clear hC
    clear hcl hL
    refine OpGoes.go fun K hK => ?_
    go_simp
    obtain ⟨hB, hx, hz, hM, hC, hO, ⟨_, ho⟩, ho_o⟩ := HC.out
    have hb1 : Below W'.heap.size W' (W'.alloc (.cells #[.int .i64 0, .int .i64 1, .bool false, .int .i64 (-1), .slice (some ⟨g, 0, none⟩) q cg] 79)) := (Below.refl _ _).alloc (Nat.le_refl _) _
    exact hK _ _ ⟨⟨bstep hB hB.size hb1, hx.below hb1 hx.lt, hz.below hb1 hz.lt, Nat.le_trans hM hb1.size, hC.below hb1, fun h => own_keep (hO (by simpa [upd] using h)) hb1, ⟨_, ho.below hb1 ho.lt⟩, fun h => (ho_o (by simpa [upd] using h)).below hb1 (ho_o (by simpa [upd] using h)).lt⟩, ⟨g, cg, W'.heap.size, rfl, BoxAt.new _ _ _, hM, hp5.al _⟩, hb1⟩
   case a7 =>
    go_light
    intro L σ W' hcl hL hC hw hne
    have e1 := wV hw 1 rfl
    obtain ⟨g, cg, g2, e6, hp6⟩ := wE hw 6 rfl
    clear hw hne
    obtain ⟨hB, hx, hz, hM, hC, hO, ⟨_, ho⟩, ho_o⟩ := hC
    have hO9 := (hO hL)
    have ll := hO9.lt b1 rfl
    clear hcl hL
    refine OpGoes.append_own rfl (.tmp 28) (.tmp 33) _ rfl Q 79 i0 _ 5 56 Tryz.underlying30 HI.out HZ0.out HZ1.out HZ2.out rfl (by omega) (.slice (some ⟨b1, 0, none⟩) n c1) n _ (by go_simp) hO9 ⟨g2, 0, none⟩ 1 1 [.int .i64 0, .int .i64 1, .bool false, .int .i64 (-1), .slice (some ⟨g, 0, none⟩) q cg] (by go_simp) rfl (news_box hp6.1) (by intro u hu; simp at hu; rcases hu with rfl | rfl | rfl | rfl | rfl <;> rfl) (by unfold maxLen; omega) (by omega) (by omega) ?_
    intro v' w' hO' hg hat
    obtain ⟨bb, cc, rfl, hP'⟩ := Own.of_row (f := Rw.cs) (l := rows ++ [(⟨0, 1, false, -1, some ⟨g, 0, none⟩, q, cg⟩ : Rw)]) (n := n + 1) (by rw [List.flatMap_append]; exact hO') (by simp [hrl]) (by omega)
    have hbb : bb = b1 ∨ M ≤ bb := by
     rcases hat with e | e
     · have := own_blk (e.symm.trans rfl : (Value.slice (some ⟨b1, 0, none⟩) n c1).ownBlock = some bb); omega
     · have := own_blk (n := n + 1) (c := cc) e; omega
    refine ⟨⟨Below.grown hB hg hB.size (fun k hk => by have := own_blk hk; omega), hx.grown hg (fun k hk => by have := own_blk hk; omega), hz.grown hg (fun k hk => by have := own_blk hk; omega), Nat.le_trans hM hg.size, hC.grown hO9 hg, fun h => absurd h (by simp [upd]), ⟨_, ho.grown2 hg (fun e => by have := own_blk e; omega)⟩, fun h => (ho_o (by simpa [upd] using h)).grown2 hg (fun e => by have := own_blk e; omega)⟩, ⟨bb, cc, g, cg, rfl, hP'.own Rw.cs_len, hp6.2.2.grown hg (by intro e; have := own_blk e.symm; have := hp6.2.2.ge; omega), hbb⟩, hg.size, fun j hj hn hR => ?_⟩
    refine keepV ?_ j hj hn hR
    exact ⟨fun _ _ ⟨g, cg, e, hp⟩ => ⟨g, cg, e, hp.grown hg (by intro e; have := own_blk e.symm; have := hp.ge; omega)⟩, fun _ _ ⟨g, cg, g2, e, hp⟩ => ⟨g, cg, g2, e, ⟨hp.1.grown2 hg (fun e => by have := own_blk e; have := hp.2.1; omega), hp.2.1, hp.2.2.grown hg (by intro e; have := own_blk e.symm; have := hp.2.2.ge; omega)⟩⟩, fun h => absurd rfl h, fun _ h => absurd (h.symm.trans (show waits _ _ _ = true by kernel_rfl)) (by decide), trivial⟩
   case a9 =>
    go_light
    intro L σ W' hcl hL hC hw hne
    obtain ⟨bb, cc, g, cg, e7, hp7⟩ := wE hw 7 rfl
    have e8 := wV hw 8 rfl
    clear hw hne
    have HC := Lib.hid hC
    obtain ⟨hB, hx, hz, hM, hC, hO, ⟨_, ho⟩, ho_o⟩ := hC
    clear hcl hL
    have kc_ := ho.cell
    have kf_ := ho.frozen
    clear hB hx hz hM hC hO ho ho_o
    refine OpGoes.go fun K hK => ?_
    go_simp
    obtain ⟨hB, hx, hz, hM, hC, hO, ⟨_, ho⟩, ho_o⟩ := HC.out
    have hset := (ho.set 2 (.slice (some ⟨bb, 0, none⟩) (n + 1) cc))
    simp only [List.setIfInBounds_toArray, List.set_cons_zero, List.set_cons_succ] at hset
    refine hK _ _ ⟨⟨(sc hB), (hx.sn), (hz.sn), (size_st hM), (hC.set ho (by decide) _ _), fun h => (own_st (hO (by simpa [upd] using h)) (by omega) _ _), ⟨_, hset⟩, fun h => absurd h (by simp [upd])⟩, ⟨bb, cc, g, cg, hset, (⟨own_st hp7.1 (by have := hp7.2.2; omega) _ _, hp7.2.1.set_ne (by have := hp7.2.1.ge; omega) _ _, hp7.2.2⟩)⟩, by simp, keepV ?_⟩
    exact ⟨fun _ _ ⟨g_x, cg_x, e, hp⟩ => ⟨g_x, cg_x, e, (hp.set_ne (by have := hp.ge; omega) _ _)⟩, fun _ _ ⟨g_x, cg_x, g2_x, e, hp⟩ => ⟨g_x, cg_x, g2_x, e, (⟨hp.1.set_ne (by have := hp.2.1; omega) _ _, hp.2.1, hp.2.2.set_ne (by have := hp.2.2.ge; omega) _ _⟩)⟩, fun _ _ ⟨bb_x, cc_x, g_x, cg_x, e, hp⟩ => ⟨bb_x, cc_x, g_x, cg_x, e, (⟨own_st hp.1 (by have := hp.2.2; omega) _ _, hp.2.1.set_ne (by have := hp.2.1.ge; omega) _ _, hp.2.2⟩)⟩, fun h => absurd rfl h, trivial⟩
   ·
    intro L L' W' hLL hC
    obtain ⟨hB, hx, hz, hM, hC, hO, ⟨_, ho⟩, ho_o⟩ := hC
    exact ⟨hB, hx, hz, hM, hC, fun h => hO (hLL _ h), ⟨_, ho⟩, fun h => ho_o (hLL _ h)⟩
   ·
    intro σ L W' hall hC hRR
    obtain ⟨hB, hx, hz, hM, hC, hO, ⟨_, ho⟩, ho_o⟩ := hC
    obtain ⟨bb, cc, g, cg, s9, hp9⟩ := dE hRR 9 rfl
    clear hRR
    simp only [lexAll]
    go_simp
    go_step
    go_meet
    exact ⟨bb, cc, g, cg, hB, hz, s9, hC, hp9.1, hp9.2.1, hp9.2.2, hM⟩
  case rest =>
   clear hB hz ho hC hO hM
   obtain ⟨bb, cc, g, cg, hB, hz, ho, hC, hO, hP, hbb, hM⟩ := hcut
   rename_i wc
   have kz := hz.cell
   have fz := hz.frozen
   have ko := ho.cell
   have hR' := Own.of_own hO (by simp [hrl])
   have hC' : CopyOf Q wc (rows ++ [(⟨0, 1, false, -1, some ⟨g, 0, none⟩, q, cg⟩ : Rw)]) (s.rs ++ [Rg.seed q v]) := by
    refine (hC.snocL (M := M) (fun j a ha => by obtain ⟨gg, h1, h2⟩ := hcp0.out.lt j a ha; exact ⟨gg, h1, by omega⟩) (by rw [hrl, HLN.out]) ⟨rfl, rfl, rfl, rfl, by show 0 < q; omega, g, rfl, hP⟩ (by omega))
   have hG := hC'.rgs hR' (by simp [HLN.out])
   have hBs := hB.size
   have hQbb : Q ≤ bb := by omega
   have lbb := Own.lt hR'
   go_wp2
   refine bodyPost_ret (v := .tuple #[.agg (aS s (some ⟨bb, 0, none⟩) (n + 1) cc), n]) (by simp [results, Tryz.results96, go_sem, kz]) rfl ⟨some ⟨bb, 0, none⟩, n + 1, cc, by rw [HV.out]; rfl, ?_, ?_⟩
   ·
    exact zprim31
   · exact (sc (sc (sc (sc (sc hB)))))
 ·
  have HV := Lib.hid (show addRing s v = (s, -1) by simp [addRing, HOK.out, HLN.out, hse])
  clear ko
  have kz := hz.cell
  have fz := hz.frozen
  have ko := ho.cell
  have hG := hC.rgs hR HLN.out
  have hBs := hB.size
  go_wp2
  refine bodyPost_ret (v := .tuple #[stV s (some ⟨b1, 0, none⟩) n c1, .int .i64 (-1)]) (by simp [results, Tryz.results96, go_sem, kz, stV]) rfl ⟨some ⟨b1, 0, none⟩, n, c1, by rw [HV.out], ?_, ?_⟩
  ·
   exact zprim31
  · exact (sc (sc (sc (sc (sc hB)))))
end Go.Proofs.YthpckpnlohfcbaaGreatDoor

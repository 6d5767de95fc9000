/-
 The walks of Swing and AddRing of the model.
-/
import Derived.Test.YtiiaimjlohpemaaGreatPrim2
namespace Go.Proofs.YtiiaimjlohpemaaGreat
set_option linter.unusedSimpArgs false
set_option linter.unusedVariables false
open Go.RowKit
set_option linter.unusedVariables false
attribute [local go_sem] OpUpon
attribute [local go_sem ↓] Go.wp_at_zero Go.wp_at_succ

set_option maxRecDepth 100000 in
set_option maxHeartbeats 1000000 in
theorem sswing_false (s : St) (A : Option Addr) (n cap lo hi : Nat) (seen y : Int) (w : World) (hs : RgsW lo hi w A n cap s.rs) (hh : hi ≤ w.heap.size) (hm : n ≤ 1048576) (hpn : ∀ r ∈ s.rs, r.ps.length ≤ 1048576) :
  Calls Tryz.prog 90 #[stV s A n cap, .bool false, seen, y] w (RetSB w.heap.size (swing s false seen y) w) := by
 have HPN := Lib.hid hpn; clear hpn
 have HLN := Lib.hid hs.1
 unfold stV
 go_enter Tryz.func90, Tryz.ntmps90
 go_wp2_with fail
 refine calls_abs (fun W => Below w.heap.size w W ∧ BoxAt W w.heap.size (aS s A n cap) 64 ∧ BoxAt W (w.heap.size + 1) zS 64) ⟨(((Below.refl _ _).alloc (Nat.le_refl _) _).alloc (by simp) _), ((BoxAt.new _ _ _).alloc _), BoxAt.new' (by simp)⟩ ?_
 rintro W ⟨hB, hx, hz⟩
 refine (sstoreOk_any s A n cap lo hi _ (hs.below hB hh) (Nat.le_trans hh hB.size) hm HPN.out).mono ?_
 rintro e w1 ⟨rfl, hb1⟩
 replace hx := hx.below hb1 hx.lt
 replace hz := hz.below hb1 hz.lt
 replace hB := bstep hB hB.size hb1
 clear hb1
 cases hok : stOk s
 ·
  have HV := Lib.hid (show swing s false seen y = (.zero, false) by simp [swing, hok])
  have kz := hz.cell
  have fz := hz.frozen
  go_wp2
  refine bodyPost_ret (v := .tuple #[stV .zero none 0 0, .bool false]) (by simp [results, Tryz.results90, go_sem, kz, stV, St.zero]) rfl ⟨none, 0, 0, by rw [HV.out], ?_, ?_⟩
  · rw [HV.out]; exact RgsW.nil
  · exact (sc (sc (sc (sc (sc hB)))))
 have HOK := Lib.hid hok
 have HNT := Lib.hid (stOk_neat hok)
 have hn : 1 ≤ n ∧ n ≤ 16 := by have := HNT.out.1; have := HNT.out.2.1; have := HLN.out; omega
 have kx := hx.cell
 have lz1 := hz.lt
 go_wp2_with fail
 refine (l3Copy_any s A n cap lo hi _ (hs.below hB hh) (Nat.le_trans hh hB.size) hn.1 (by omega) HNT.out.cp).mono ?_
 rintro e w2 ⟨b1, c1, rows, rfl, hR, hC, hb2⟩
 unfold stV
 replace hx := hx.below hb2 hx.lt
 replace hz := hz.below hb2 hz.lt
 have hQO := hb2.size
 replace hB := bstep hB hB.size hb2
 clear hb2 kx hok
 have lx := hx.lt
 have lz := hz.lt
 have kx := hx.cell
 have hbO := Own.lt hR
 have hQb := hR.2.1
 go_upto_region 4 with fail
 refine wp_abs (fun W' => Below w.heap.size w W' ∧ BoxAt W' w.heap.size (aS s A n cap) 64 ∧ BoxAt W' (w.heap.size + 1) zS 64 ∧ BoxAt W' w2.heap.size (aS s (some ⟨b1, 0, none⟩) n c1) 64 ∧ RwsO w1.heap.size W' b1 n c1 rows ∧ CopyOf w1.heap.size W' rows s.rs) ⟨hB.alloc hB.size _, hx.alloc _, hz.alloc _, BoxAt.new _ _ _, Own.al hR _, hC.below ((Below.refl _ _).alloc (Nat.le_refl _) _)⟩ ?_
 generalize w1.heap.size = Q at *
 generalize w2.heap.size = O at *
 clear kx hx hz hB hR hC
 rintro W2 ⟨hB, hx, hz, ho, hR, hC⟩
 have ko := ho.cell
 have lo_ := ho.lt
 cases hse : (s.fi == seen)
 ·
  have hse' : (s.fi != seen) = true := by simpa using hse
  have HV := Lib.hid (show swing s false seen y = (s, false) by simp [swing, HOK.out, hse'])
  clear ko
  have kz := hz.cell
  have fz := hz.frozen
  have ko := ho.cell
  have hG := hC.rgs hR HLN.out
  have hBs := hB.size
  go_wp2
  refine bodyPost_ret (v := .tuple #[stV s (some ⟨b1, 0, none⟩) n c1, .bool false]) (by simp [results, Tryz.results90, go_sem, kz, stV]) rfl ⟨some ⟨b1, 0, none⟩, n, c1, by rw [HV.out], ?_, ?_⟩
  ·
   rw [HV.out]
   exact ((((((hG.sl).sl).sl).sl).sl)).mono (by omega) (by simp)
  · exact (sc (sc (sc (sc (sc hB)))))
 have hse' : (s.fi != seen) = false := by simpa using hse
 have kx := hx.cell
 go_wp2_with fail
 clear kx ko
 refine (l4Ring_any s A n cap y _ HLN.out (by omega)).mono ?_
 rintro e w3 ⟨rfl, hb3⟩
 replace hx := hx.below hb3 hx.lt
 replace hz := hz.below hb3 hz.lt
 replace ho := ho.below hb3 ho.lt
 replace hR := Own.below hR hb3
 replace hC := hC.below hb3
 replace hB := bstep hB hB.size hb3
 clear hb3
 cases hrb : ringB s y
 ·
  have HV := Lib.hid (show swing s false seen y = (s, false) by simp [swing, HOK.out, hrb])
  have kz := hz.cell
  have fz := hz.frozen
  have ko := ho.cell
  have hG := hC.rgs hR HLN.out
  have hBs := hB.size
  go_wp2
  refine bodyPost_ret (v := .tuple #[stV s (some ⟨b1, 0, none⟩) n c1, .bool false]) (by simp [results, Tryz.results90, go_sem, kz, stV]) rfl ⟨some ⟨b1, 0, none⟩, n, c1, by rw [HV.out], ?_, ?_⟩
  ·
   rw [HV.out]
   exact ((((((hG.sl).sl).sl).sl).sl)).mono (by omega) (by simp)
  · exact (sc (sc (sc (sc (sc hB)))))
 have HV := Lib.hid (show swing s false seen y = ({ s with fi := y }, true) by simp [swing, HOK.out, hse', hrb])
 clear hrb hse hse'
 have kz := hz.cell
 have fz := hz.frozen
 have ko := ho.cell
 have fo := ho.frozen
 have lo3 := ho.lt
 have hG := hC.rgs hR HLN.out
 have hBs := hB.size
 have lb1 := Own.lt hR
 have hOb : O ≠ b1 ∧ w.heap.size + 1 ≠ O := by omega
 go_upto_region 10 with fail
 refine wp_abs (fun W' => Below w.heap.size w W' ∧ BoxAt W' (w.heap.size + 1) zS 64 ∧ BoxAt W' O (dS s.rd s.mo (some ⟨b1, 0, none⟩) n c1 y s.la) 64 ∧ RwsO Q W' b1 n c1 rows ∧ CopyOf Q W' rows s.rs) ⟨sc hB, hz.sn, by simpa using ho.set 3 (.int .i64 y), Own.set_ne hR (by omega) _ _, hC.set ho (by decide) _ _⟩ ?_
 clear kz fz ko fo hz ho hR hC hB hx hG
 rintro W5 ⟨hB, hz, ho, hR, hC⟩
 have kz := hz.cell
 have fz := hz.frozen
 have ko := ho.cell
 have hG := hC.rgs hR HLN.out
 go_wp2
 refine bodyPost_ret (v := .tuple #[.agg (dS s.rd s.mo (some ⟨b1, 0, none⟩) n c1 y s.la), .bool true]) (by simp [results, Tryz.results90, go_sem, kz]) rfl ⟨some ⟨b1, 0, none⟩, n, c1, by rw [HV.out]; rfl, ?_, ?_⟩
 ·
  rw [HV.out]
  exact ((((((hG.sl).sl).sl).sl).sl)).mono (by omega) (by simp)
 · exact (sc (sc (sc (sc (sc hB)))))

set_option maxRecDepth 100000 in
set_option maxHeartbeats 1000000 in
theorem sswing_true (s : St) (A : Option Addr) (n cap lo hi : Nat) (seen y : Int) (w : World) (hs : RgsW lo hi w A n cap s.rs) (hh : hi ≤ w.heap.size) (hm : n ≤ 1048576) (hpn : ∀ r ∈ s.rs, r.ps.length ≤ 1048576) :
  Calls Tryz.prog 90 #[stV s A n cap, .bool true, seen, y] w (RetSB w.heap.size (swing s true seen y) w) := by
 have HPN := Lib.hid hpn; clear hpn
 have HLN := Lib.hid hs.1
 unfold stV
 go_enter Tryz.func90, Tryz.ntmps90
 go_wp2_with fail
 refine calls_abs (fun W => Below w.heap.size w W ∧ BoxAt W w.heap.size (aS s A n cap) 64 ∧ BoxAt W (w.heap.size + 1) zS 64) ⟨(((Below.refl _ _).alloc (Nat.le_refl _) _).alloc (by simp) _), ((BoxAt.new _ _ _).alloc _), BoxAt.new' (by simp)⟩ ?_
 rintro W ⟨hB, hx, hz⟩
 refine (sstoreOk_any s A n cap lo hi _ (hs.below hB hh) (Nat.le_trans hh hB.size) hm HPN.out).mono ?_
 rintro e w1 ⟨rfl, hb1⟩
 replace hx := hx.below hb1 hx.lt
 replace hz := hz.below hb1 hz.lt
 replace hB := bstep hB hB.size hb1
 clear hb1
 cases hok : stOk s
 ·
  have HV := Lib.hid (show swing s true seen y = (.zero, false) by simp [swing, hok])
  have kz := hz.cell
  have fz := hz.frozen
  go_wp2
  refine bodyPost_ret (v := .tuple #[stV .zero none 0 0, .bool false]) (by simp [results, Tryz.results90, go_sem, kz, stV, St.zero]) rfl ⟨none, 0, 0, by rw [HV.out], ?_, ?_⟩
  · rw [HV.out]; exact RgsW.nil
  · exact (sc (sc (sc (sc (sc hB)))))
 have HOK := Lib.hid hok
 have HNT := Lib.hid (stOk_neat hok)
 have hn : 1 ≤ n ∧ n ≤ 16 := by have := HNT.out.1; have := HNT.out.2.1; have := HLN.out; omega
 have kx := hx.cell
 have lz1 := hz.lt
 go_wp2_with fail
 refine (l3Copy_any s A n cap lo hi _ (hs.below hB hh) (Nat.le_trans hh hB.size) hn.1 (by omega) HNT.out.cp).mono ?_
 rintro e w2 ⟨b1, c1, rows, rfl, hR, hC, hb2⟩
 unfold stV
 replace hx := hx.below hb2 hx.lt
 replace hz := hz.below hb2 hz.lt
 have hQO := hb2.size
 replace hB := bstep hB hB.size hb2
 clear hb2 kx hok
 have lx := hx.lt
 have lz := hz.lt
 have kx := hx.cell
 have hbO := Own.lt hR
 have hQb := hR.2.1
 go_upto_region 4 with fail
 refine wp_abs (fun W' => Below w.heap.size w W' ∧ BoxAt W' w.heap.size (aS s A n cap) 64 ∧ BoxAt W' (w.heap.size + 1) zS 64 ∧ BoxAt W' w2.heap.size (aS s (some ⟨b1, 0, none⟩) n c1) 64 ∧ RwsO w1.heap.size W' b1 n c1 rows ∧ CopyOf w1.heap.size W' rows s.rs) ⟨hB.alloc hB.size _, hx.alloc _, hz.alloc _, BoxAt.new _ _ _, Own.al hR _, hC.below ((Below.refl _ _).alloc (Nat.le_refl _) _)⟩ ?_
 generalize w1.heap.size = Q at *
 generalize w2.heap.size = O at *
 clear kx hx hz hB hR hC
 rintro W2 ⟨hB, hx, hz, ho, hR, hC⟩
 have ko := ho.cell
 have lo_ := ho.lt
 cases hse : (s.la == seen)
 ·
  have hse' : (s.la != seen) = true := by simpa using hse
  have HV := Lib.hid (show swing s true seen y = (s, false) by simp [swing, HOK.out, hse'])
  clear ko
  have kz := hz.cell
  have fz := hz.frozen
  have ko := ho.cell
  have hG := hC.rgs hR HLN.out
  have hBs := hB.size
  go_wp2
  refine bodyPost_ret (v := .tuple #[stV s (some ⟨b1, 0, none⟩) n c1, .bool false]) (by simp [results, Tryz.results90, go_sem, kz, stV]) rfl ⟨some ⟨b1, 0, none⟩, n, c1, by rw [HV.out], ?_, ?_⟩
  ·
   rw [HV.out]
   exact ((((((hG.sl).sl).sl).sl).sl)).mono (by omega) (by simp)
  · exact (sc (sc (sc (sc (sc hB)))))
 have hse' : (s.la != seen) = false := by simpa using hse
 have kx := hx.cell
 go_wp2_with fail
 clear kx ko
 refine (l4Ring_any s A n cap y _ HLN.out (by omega)).mono ?_
 rintro e w3 ⟨rfl, hb3⟩
 replace hx := hx.below hb3 hx.lt
 replace hz := hz.below hb3 hz.lt
 replace ho := ho.below hb3 ho.lt
 replace hR := Own.below hR hb3
 replace hC := hC.below hb3
 replace hB := bstep hB hB.size hb3
 clear hb3
 cases hrb : ringB s y
 ·
  have HV := Lib.hid (show swing s true seen y = (s, false) by simp [swing, HOK.out, hrb])
  have kz := hz.cell
  have fz := hz.frozen
  have ko := ho.cell
  have hG := hC.rgs hR HLN.out
  have hBs := hB.size
  go_wp2
  refine bodyPost_ret (v := .tuple #[stV s (some ⟨b1, 0, none⟩) n c1, .bool false]) (by simp [results, Tryz.results90, go_sem, kz, stV]) rfl ⟨some ⟨b1, 0, none⟩, n, c1, by rw [HV.out], ?_, ?_⟩
  ·
   rw [HV.out]
   exact ((((((hG.sl).sl).sl).sl).sl)).mono (by omega) (by simp)
  · exact (sc (sc (sc (sc (sc hB)))))
 have HV := Lib.hid (show swing s true seen y = ({ s with la := y }, true) by simp [swing, HOK.out, hse', hrb])
 clear hrb hse hse'
 have kz := hz.cell
 have fz := hz.frozen
 have ko := ho.cell
 have fo := ho.frozen
 have lo3 := ho.lt
 have hG := hC.rgs hR HLN.out
 have hBs := hB.size
 have lb1 := Own.lt hR
 have hOb : O ≠ b1 ∧ w.heap.size + 1 ≠ O := by omega
 go_upto_region 10 with fail
 refine wp_abs (fun W' => Below w.heap.size w W' ∧ BoxAt W' (w.heap.size + 1) zS 64 ∧ BoxAt W' O (dS s.rd s.mo (some ⟨b1, 0, none⟩) n c1 s.fi y) 64 ∧ RwsO Q W' b1 n c1 rows ∧ CopyOf Q W' rows s.rs) ⟨sc hB, hz.sn, by simpa using ho.set 4 (.int .i64 y), Own.set_ne hR (by omega) _ _, hC.set ho (by decide) _ _⟩ ?_
 clear kz fz ko fo hz ho hR hC hB hx hG
 rintro W5 ⟨hB, hz, ho, hR, hC⟩
 have kz := hz.cell
 have fz := hz.frozen
 have ko := ho.cell
 have hG := hC.rgs hR HLN.out
 go_wp2
 refine bodyPost_ret (v := .tuple #[.agg (dS s.rd s.mo (some ⟨b1, 0, none⟩) n c1 s.fi y), .bool true]) (by simp [results, Tryz.results90, go_sem, kz]) rfl ⟨some ⟨b1, 0, none⟩, n, c1, by rw [HV.out]; rfl, ?_, ?_⟩
 ·
  rw [HV.out]
  exact ((((((hG.sl).sl).sl).sl).sl)).mono (by omega) (by simp)
 · exact (sc (sc (sc (sc (sc hB)))))

theorem sswing_any (s : St) (A : Option Addr) (n cap lo hi : Nat) (last : Bool) (seen y : Int) (w : World) (hs : RgsW lo hi w A n cap s.rs) (hh : hi ≤ w.heap.size) (hm : n ≤ 1048576) (hpn : ∀ r ∈ s.rs, r.ps.length ≤ 1048576) :
  Calls Tryz.prog 90 #[stV s A n cap, last, seen, y] w (RetSB w.heap.size (swing s last seen y) w) := by
 cases last
 · exact sswing_false s A n cap lo hi seen y w hs hh hm hpn
 · exact sswing_true s A n cap lo hi seen y w hs hh hm hpn

theorem own_st {W : World} {M : Nat} {e : TypeId} {s : Nat} {bb n c : Nat} {xs : List Value} {k : Nat} (h : W.ownsRow M e s (.slice (some ⟨bb, 0, none⟩) n c) n xs) (hk : bb ≠ k) (i : Nat) (u : Value) : (W.setCell ⟨k, i, none⟩ u).ownsRow M e s (.slice (some ⟨bb, 0, none⟩) n c) n xs := by
 refine ⟨h.1, ?_⟩
 rcases h.2 with h' | ⟨g, cap, cur, hv, hg, hh, hr⟩
 · exact .inl h'
 ·
  refine .inr ⟨g, cap, cur, hv, hg, ?_, hr⟩
  injection hv with h1
  injection h1 with h1
  injection h1 with h1
  subst h1
  rw [Below.heap_setCell W ⟨k, i, none⟩ u bb hk]
  exact hh

def arDV (s : St) (N O b1 n c1 M : Nat) (A : Option Addr) (cap : Nat) (v : Int) (q Q : Nat) (rows : List Rw) : List Sl := [.v (.pointer (some ⟨O, 2, none⟩)),
 .v (.slice (some ⟨b1, 0, none⟩) n c1),
 .v (pT N),
 .v s.rd,
 .v v,
 .e fun σ w => ∃ (g cg : Nat), σ 5 = .agg #[.int .i64 0, .int .i64 1, .bool false, .int .i64 ((-1)), .slice (some ⟨g, 0, none⟩) q cg] ∧ PlsO M w g q cg (seeded q v),
 .e fun σ w => ∃ (g cg g2 : Nat), σ 6 = .slice (some ⟨g2, 0, none⟩) 1 1 ∧ BoxAt w g2 #[.int .i64 0, .int .i64 1, .bool false, .int .i64 (-1), .slice (some ⟨g, 0, none⟩) q cg] 120 ∧ M ≤ g2 ∧ PlsO M w g q cg (seeded q v),
 .e fun σ w => ∃ (bb cc g cg : Nat), σ 7 = .slice (some ⟨bb, 0, none⟩) (n + 1) cc ∧ w.ownsRow Q 120 5 (.slice (some ⟨bb, 0, none⟩) (n + 1) cc) (n + 1) ((rows ++ [(⟨0, 1, false, -1, some ⟨g, 0, none⟩, q, cg⟩ : Rw)]).flatMap Rw.cs) ∧ PlsO M w g q cg (seeded q v) ∧ (bb = b1 ∨ M ≤ bb),
 .v (.pointer (some ⟨O, 2, none⟩)),
 .e fun σ w => ∃ (bb cc g cg : Nat), BoxAt w O (aS s (some ⟨bb, 0, none⟩) (n + 1) cc) 64 ∧ w.ownsRow Q 120 5 (.slice (some ⟨bb, 0, none⟩) (n + 1) cc) (n + 1) ((rows ++ [(⟨0, 1, false, -1, some ⟨g, 0, none⟩, q, cg⟩ : Rw)]).flatMap Rw.cs) ∧ PlsO M w g q cg (seeded q v) ∧ (bb = b1 ∨ M ≤ bb)]

theorem CopyOf.app {lo : Nat} {w : World} {rows : List Rw} {L : List Rg} (h : CopyOf lo w rows L) (L' : List Rg) : CopyOf lo w rows (L ++ L') :=
 ⟨fun j a ha => by
  obtain ⟨r, hr, x⟩ := h.1 j a ha
  exact ⟨r, by rw [List.getElem?_append_left (List.getElem?_eq_some_iff.1 hr).1]; exact hr, x⟩, h.2⟩
theorem CopyOf.snocL {lo M : Nat} {w : World} {rows : List Rw} {L : List Rg} (h : CopyOf lo w rows L) (hM : ∀ (j : Nat) a, rows[j]? = some a → ∃ g, a.A = some ⟨g, 0, none⟩ ∧ g < M) {a : Rw} {r : Rg} (hl : rows.length = L.length) (ha : RwO M w a r) (hlo : lo ≤ M) : CopyOf lo w (rows ++ [a]) (L ++ [r]) :=
 (h.app [r]).snoc hM (by rw [hl, List.getElem?_append_right (Nat.le_refl _)]; simp) ha hlo

set_option maxRecDepth 100000 in
set_option maxHeartbeats 2000000 in
theorem saddRing_any (s : St) (A : Option Addr) (n cap lo hi : Nat) (v : Int) (w : World) (hs : RgsW lo hi w A n cap s.rs) (hh : hi ≤ w.heap.size) (hm : n ≤ 1048576) (hpn : ∀ r ∈ s.rs, r.ps.length ≤ 1048576) :
  Calls Tryz.prog 104 #[stV s A n cap, v] w (RetSI w.heap.size (addRing s v) w) := by
 obtain ⟨i0, hi0, hz0, hz1, hz2⟩ := info_parts ring_info
 have HI := Lib.hid hi0
 have HZ0 := Lib.hid hz0
 have HZ1 := Lib.hid hz1
 have HZ2 := Lib.hid hz2
 clear hi0 hz0 hz1 hz2
 have HPN := Lib.hid hpn; clear hpn
 have HLN := Lib.hid hs.1
 unfold stV
 go_enter Tryz.func104, Tryz.ntmps104
 go_wp2_with fail
 refine calls_abs (fun W => Below w.heap.size w W ∧ BoxAt W w.heap.size (aS s A n cap) 64 ∧ BoxAt W (w.heap.size + 1) zS 64) ⟨(((Below.refl _ _).alloc (Nat.le_refl _) _).alloc (by simp) _), ((BoxAt.new _ _ _).alloc _), BoxAt.new' (by simp)⟩ ?_
 rintro W ⟨hB, hx, hz⟩
 refine (sstoreOk_any s A n cap lo hi _ (hs.below hB hh) (Nat.le_trans hh hB.size) hm HPN.out).mono ?_
 rintro e w1 ⟨rfl, hb1⟩
 replace hx := hx.below hb1 hx.lt
 replace hz := hz.below hb1 hz.lt
 replace hB := bstep hB hB.size hb1
 clear hb1
 cases hok : stOk s
 ·
  have HV := Lib.hid (show addRing s v = (.zero, -1) by simp [addRing, hok])
  have kz := hz.cell
  have fz := hz.frozen
  go_wp2
  refine bodyPost_ret (v := .tuple #[stV .zero none 0 0, .int .i64 (-1)]) (by simp [results, Tryz.results104, go_sem, kz, stV, St.zero]) rfl ⟨none, 0, 0, by rw [HV.out], ?_, ?_⟩
  · rw [HV.out]; exact RgsW.nil
  · exact (sc (sc (sc (sc (sc hB)))))
 have HOK := Lib.hid hok
 have HNT := Lib.hid (stOk_neat hok)
 have hn : 1 ≤ n ∧ n ≤ 16 := by have := HNT.out.1; have := HNT.out.2.1; have := HLN.out; omega
 have kx := hx.cell
 have lz1 := hz.lt
 go_wp2_with fail
 refine (l3Copy_any s A n cap lo hi _ (hs.below hB hh) (Nat.le_trans hh hB.size) hn.1 (by omega) HNT.out.cp).mono ?_
 rintro e w2 ⟨b1, c1, rows, rfl, hR, hC, hb2⟩
 unfold stV
 replace hx := hx.below hb2 hx.lt
 replace hz := hz.below hb2 hz.lt
 have hQO := hb2.size
 replace hB := bstep hB hB.size hb2
 clear hb2 kx hok
 have lx := hx.lt
 have lz := hz.lt
 have kx := hx.cell
 have hbO := Own.lt hR
 have hQb := hR.2.1
 go_upto_region 4 with fail
 refine wp_abs (fun W' => Below w.heap.size w W' ∧ BoxAt W' w.heap.size (aS s A n cap) 64 ∧ BoxAt W' (w.heap.size + 1) zS 64 ∧ BoxAt W' w2.heap.size (aS s (some ⟨b1, 0, none⟩) n c1) 64 ∧ RwsO w1.heap.size W' b1 n c1 rows ∧ CopyOf w1.heap.size W' rows s.rs) ⟨hB.alloc hB.size _, hx.alloc _, hz.alloc _, BoxAt.new _ _ _, Own.al hR _, hC.below ((Below.refl _ _).alloc (Nat.le_refl _) _)⟩ ?_
 generalize w1.heap.size = Q at *
 generalize w2.heap.size = O at *
 clear kx hx hz hB hR hC
 rintro W2 ⟨hB, hx, hz, ho, hR, hC⟩
 have ko := ho.cell
 have kx := hx.cell
 have lo_ := ho.lt
 cases hse : ((n : Int) == s.mo)
 ·
  have kx := hx.cell
  go_wp2_with fail
  clear kx ko
  refine (l1Value_any _ _).mono ?_
  rintro e w3 ⟨rfl, rfl⟩
  -- hx := hx.below hb3 hx.lt
  -- hz := hz.below hb3 hz.lt
  -- ho := ho.below hb3 ho.lt
  -- hR := Own.below hR hb3
  -- hC := hC.below hb3
  -- hB := bstep hB hB.size hb3
  cases hv : valB v
  ·
   have HV := Lib.hid (show addRing s v = (s, -1) by simp [addRing, HOK.out, hv])
   have kz := hz.cell
   have fz := hz.frozen
   have ko := ho.cell
   have hG := hC.rgs hR HLN.out
   have hBs := hB.size
   go_wp2
   refine bodyPost_ret (v := .tuple #[stV s (some ⟨b1, 0, none⟩) n c1, .int .i64 (-1)]) (by simp [results, Tryz.results104, go_sem, kz, stV]) rfl ⟨some ⟨b1, 0, none⟩, n, c1, by rw [HV.out], ?_, ?_⟩
   ·
    rw [HV.out]
    exact ((((((hG.sl).sl).sl).sl).sl)).mono (by omega) (by simp)
   · exact (sc (sc (sc (sc (sc hB)))))
  obtain ⟨q, hq, hq2, hq8⟩ : ∃ q : Nat, s.rd = q ∧ 2 ≤ q ∧ q ≤ 8 := by
   have := stOk_rd HOK.out
   exact ⟨s.rd.toNat, by omega, by omega, by omega⟩
  have HRD := Lib.hid hq.symm
  have HV := Lib.hid (show addRing s v = ({ s with rs := s.rs ++ [Rg.seed q v] }, (n : Int)) by simp only [addRing, HOK.out, HLN.out, hse, hv, hq]; rfl)
  have hrl := hR.1
  have hO := hR.own Rw.cs_len
  have lb1 := Own.lt hR
  have hMx : O < W2.heap.size := lo_
  obtain ⟨M, hMe⟩ : ∃ M, M = W2.heap.size := ⟨_, rfl⟩
  have hM : M ≤ W2.heap.size := by omega
  have hM2 : W2.heap.size ≤ M := by omega
  have hcp0 := Lib.hid hC
  clear hMe hse hv hq hR
  go_upto_region 7 with fail
  go_cut [28] (fun _ W' => ∃ (bb cc g cg : Nat), Below w.heap.size w W' ∧ BoxAt W' (w.heap.size + 1) zS 64 ∧ BoxAt W' O (aS s (some ⟨bb, 0, none⟩) (n + 1) cc) 64 ∧ CopyOf Q W' rows s.rs ∧ W'.ownsRow Q 120 5 (.slice (some ⟨bb, 0, none⟩) (n + 1) cc) (n + 1) ((rows ++ [(⟨0, 1, false, -1, some ⟨g, 0, none⟩, q, cg⟩ : Rw)]).flatMap Rw.cs) ∧ PlsO M W' g q cg (seeded q v) ∧ (bb = b1 ∨ M ≤ bb) ∧ M ≤ W'.heap.size)
  case first =>
   refine wp_region2v (fun w w' => Below w.heap.size w w') (fun _ _ h => h.size) (fun _ => Below.refl _ _) (fun L W' => Below w.heap.size w W' ∧ BoxAt W' w.heap.size (aS s A n cap) 64 ∧ BoxAt W' (w.heap.size + 1) zS 64 ∧ M ≤ W'.heap.size ∧ CopyOf Q W' rows s.rs ∧ (L 7 = false → W'.ownsRow Q 120 5 (.slice (some ⟨b1, 0, none⟩) n c1) n (rows.flatMap Rw.cs)) ∧ (∃ x0, BoxAt W' O #[s.rd, s.mo, x0, s.fi, s.la] 64) ∧ (L 9 = false → BoxAt W' O (aS s (some ⟨b1, 0, none⟩) n c1) 64)) (arDV s w.heap.size O b1 n c1 M A cap v q Q rows) (fun j => [0, 0, 0, 0, 0, 0, 0, 1, 0, 1].getD j 0) [] (by kernel_rfl) (by kernel_rfl) ?_ ?_ ?_
    (.still rfl ?a0 <| .still rfl ?a1 <| .still rfl ?a2 <| .still rfl ?a3 <| .still rfl ?a4 <| .grow rfl ?a5 <| .grow rfl ?a6 <| .store rfl ?a7 <| .still rfl ?a8 <| .store rfl ?a9 <| .nil) ?_ ?_
   · exact ⟨fun _ _ _ h ⟨g, cg, e, hp⟩ => ⟨g, cg, (h 5 (List.mem_singleton.2 rfl)).symm.trans e, hp⟩, fun _ _ _ h ⟨g, cg, g2, e, hp⟩ => ⟨g, cg, g2, (h 6 (List.mem_singleton.2 rfl)).symm.trans e, hp⟩, fun _ _ _ h ⟨bb, cc, g, cg, e, hp⟩ => ⟨bb, cc, g, cg, (h 7 (List.mem_singleton.2 rfl)).symm.trans e, hp⟩, fun _ _ _ _ h => h, trivial⟩
   · exact ⟨fun σ w w' hb ⟨g, cg, e, hp⟩ => ⟨g, cg, e, hp.below hb⟩, fun σ w w' hb ⟨g, cg, g2, e, hp⟩ => ⟨g, cg, g2, e, ⟨hp.1.below hb hp.1.lt, hp.2.1, hp.2.2.below hb⟩⟩, fun σ w w' hb ⟨bb, cc, g, cg, e, hp⟩ => ⟨bb, cc, g, cg, e, ⟨own_keep hp.1 hb, hp.2.1.below hb, hp.2.2⟩⟩, fun σ w w' hb ⟨bb, cc, g, cg, hx, hp⟩ => ⟨bb, cc, g, cg, hx.below hb hx.lt, ⟨own_keep hp.1 hb, hp.2.1.below hb, hp.2.2⟩⟩, trivial⟩
   · exact ⟨hB.drew, hx, hz, hM, hC, fun _ => hO, ⟨_, ho⟩, fun _ => ho⟩
   case a0 | a2 | a4 | a8 =>
    go_light
    intro L σ W' hcl hL hC hw
    clear hw hcl hL hC
    refine OpGoes.go fun K hK => ?_
    go_simp
    exact hK _ _ ⟨rfl, rfl⟩
   case a3 =>
    go_light
    intro L σ W' hcl hL hC hw
    have e2 := wV hw 2 rfl
    have ks := hC.2.1.cell
    clear hw hcl hL hC
    refine OpGoes.go fun K hK => ?_
    go_simp
    exact hK _ _ ⟨rfl, rfl⟩
   case a1 =>
    go_light
    intro L σ W' hcl hL hC hw
    have e0 := wV hw 0 rfl
    have ko := (hC.2.2.2.2.2.2.2 (hcl.not (j := 9) (k := 7) (by kernel_rfl) (hcl.not (j := 7) (k := 1) (by kernel_rfl) hL))).cell
    clear hw hcl hL hC
    refine OpGoes.go fun K hK => ?_
    go_simp
    exact hK _ _ ⟨rfl, rfl⟩
   case a5 =>
    go_light
    intro L σ W' hcl hL hC hw
    have e3 := wV hw 3 rfl
    have e4 := wV hw 4 rfl
    clear hw
    have HC := Lib.hid hC
    clear hC
    clear hcl hL
    refine OpGoes.go fun K hK => ?_
    go_simp
    obtain ⟨hB, hx, hz, hM, hC, hO, ⟨_, ho⟩, ho_o⟩ := HC.out
    refine ((HRD.out ▸ l2Seed_any q v _ (by omega) (by omega) : Calls Tryz.prog 103 #[s.rd, v] _ _)).mono ?_
    rintro e w1 ⟨g, cg, rfl, hO5, hb1⟩
    exact ⟨_, rfl, hK _ _ ⟨⟨bstep hB hB.size hb1, hx.below hb1 hx.lt, hz.below hb1 hz.lt, Nat.le_trans hM hb1.size, hC.below hb1, fun h => own_keep (hO (by simpa [upd] using h)) hb1, ⟨_, ho.below hb1 ho.lt⟩, fun h => (ho_o (by simpa [upd] using h)).below hb1 (ho_o (by simpa [upd] using h)).lt⟩, ⟨g, cg, rfl, hO5.mono hM⟩, hb1⟩⟩
   case a6 =>
    go_light
    intro L σ W' hcl hL hC hw
    obtain ⟨g, cg, e5, hp5⟩ := wE hw 5 rfl
    clear hw
    have HC := Lib.hid hC
    clear hC
    clear hcl hL
    refine OpGoes.go fun K hK => ?_
    go_simp
    obtain ⟨hB, hx, hz, hM, hC, hO, ⟨_, ho⟩, ho_o⟩ := HC.out
    have hb1 : Below W'.heap.size W' (W'.alloc (.cells #[.int .i64 0, .int .i64 1, .bool false, .int .i64 (-1), .slice (some ⟨g, 0, none⟩) q cg] 120)) := (Below.refl _ _).alloc (Nat.le_refl _) _
    exact hK _ _ ⟨⟨bstep hB hB.size hb1, hx.below hb1 hx.lt, hz.below hb1 hz.lt, Nat.le_trans hM hb1.size, hC.below hb1, fun h => own_keep (hO (by simpa [upd] using h)) hb1, ⟨_, ho.below hb1 ho.lt⟩, fun h => (ho_o (by simpa [upd] using h)).below hb1 (ho_o (by simpa [upd] using h)).lt⟩, ⟨g, cg, W'.heap.size, rfl, BoxAt.new _ _ _, hM, hp5.al _⟩, hb1⟩
   case a7 =>
    go_light
    intro L σ W' hcl hL hC hw hne
    have e1 := wV hw 1 rfl
    obtain ⟨g, cg, g2, e6, hp6⟩ := wE hw 6 rfl
    clear hw hne
    obtain ⟨hB, hx, hz, hM, hC, hO, ⟨_, ho⟩, ho_o⟩ := hC
    have hO9 := (hO hL)
    have ll := hO9.lt b1 rfl
    clear hcl hL
    refine OpGoes.append_own rfl (.tmp 28) (.tmp 33) _ rfl Q 120 i0 _ 5 56 Tryz.underlying62 HI.out HZ0.out HZ1.out HZ2.out rfl (by omega) (.slice (some ⟨b1, 0, none⟩) n c1) n _ (by go_simp) hO9 ⟨g2, 0, none⟩ 1 1 [.int .i64 0, .int .i64 1, .bool false, .int .i64 (-1), .slice (some ⟨g, 0, none⟩) q cg] (by go_simp) rfl (news_box hp6.1) (by intro u hu; simp at hu; rcases hu with rfl | rfl | rfl | rfl | rfl <;> rfl) (by unfold maxLen; omega) (by omega) (by omega) ?_
    intro v' w' hO' hg hat
    obtain ⟨bb, cc, rfl, hP'⟩ := Own.of_row (f := Rw.cs) (l := rows ++ [(⟨0, 1, false, -1, some ⟨g, 0, none⟩, q, cg⟩ : Rw)]) (n := n + 1) (by rw [List.flatMap_append]; exact hO') (by simp [hrl]) (by omega)
    have hbb : bb = b1 ∨ M ≤ bb := by
     rcases hat with e | e
     · have := own_blk (e.symm.trans rfl : (Value.slice (some ⟨b1, 0, none⟩) n c1).ownBlock = some bb); omega
     · have := own_blk (n := n + 1) (c := cc) e; omega
    refine ⟨⟨Below.grown hB hg hB.size (fun k hk => by have := own_blk hk; omega), hx.grown hg (fun k hk => by have := own_blk hk; omega), hz.grown hg (fun k hk => by have := own_blk hk; omega), Nat.le_trans hM hg.size, hC.grown hO9 hg, fun h => absurd h (by simp [upd]), ⟨_, ho.grown2 hg (fun e => by have := own_blk e; omega)⟩, fun h => (ho_o (by simpa [upd] using h)).grown2 hg (fun e => by have := own_blk e; omega)⟩, ⟨bb, cc, g, cg, rfl, hP'.own Rw.cs_len, hp6.2.2.grown hg (by intro e; have := own_blk e.symm; have := hp6.2.2.ge; omega), hbb⟩, hg.size, fun j hj hn hR => ?_⟩
    refine keepV ?_ j hj hn hR
    exact ⟨fun _ _ ⟨g, cg, e, hp⟩ => ⟨g, cg, e, hp.grown hg (by intro e; have := own_blk e.symm; have := hp.ge; omega)⟩, fun _ _ ⟨g, cg, g2, e, hp⟩ => ⟨g, cg, g2, e, ⟨hp.1.grown2 hg (fun e => by have := own_blk e; have := hp.2.1; omega), hp.2.1, hp.2.2.grown hg (by intro e; have := own_blk e.symm; have := hp.2.2.ge; omega)⟩⟩, fun h => absurd rfl h, fun _ h => absurd (h.symm.trans (show waits _ _ _ = true by kernel_rfl)) (by decide), trivial⟩
   case a9 =>
    go_light
    intro L σ W' hcl hL hC hw hne
    obtain ⟨bb, cc, g, cg, e7, hp7⟩ := wE hw 7 rfl
    have e8 := wV hw 8 rfl
    clear hw hne
    have HC := Lib.hid hC
    obtain ⟨hB, hx, hz, hM, hC, hO, ⟨_, ho⟩, ho_o⟩ := hC
    clear hcl hL
    have kc_ := ho.cell
    have kf_ := ho.frozen
    clear hB hx hz hM hC hO ho ho_o
    refine OpGoes.go fun K hK => ?_
    go_simp
    obtain ⟨hB, hx, hz, hM, hC, hO, ⟨_, ho⟩, ho_o⟩ := HC.out
    have hset := (ho.set 2 (.slice (some ⟨bb, 0, none⟩) (n + 1) cc))
    simp only [List.setIfInBounds_toArray, List.set_cons_zero, List.set_cons_succ] at hset
    refine hK _ _ ⟨⟨(sc hB), (hx.sn), (hz.sn), (size_st hM), (hC.set ho (by decide) _ _), fun h => (own_st (hO (by simpa [upd] using h)) (by omega) _ _), ⟨_, hset⟩, fun h => absurd h (by simp [upd])⟩, ⟨bb, cc, g, cg, hset, (⟨own_st hp7.1 (by have := hp7.2.2; omega) _ _, hp7.2.1.set_ne (by have := hp7.2.1.ge; omega) _ _, hp7.2.2⟩)⟩, by simp, keepV ?_⟩
    exact ⟨fun _ _ ⟨g_x, cg_x, e, hp⟩ => ⟨g_x, cg_x, e, (hp.set_ne (by have := hp.ge; omega) _ _)⟩, fun _ _ ⟨g_x, cg_x, g2_x, e, hp⟩ => ⟨g_x, cg_x, g2_x, e, (⟨hp.1.set_ne (by have := hp.2.1; omega) _ _, hp.2.1, hp.2.2.set_ne (by have := hp.2.2.ge; omega) _ _⟩)⟩, fun _ _ ⟨bb_x, cc_x, g_x, cg_x, e, hp⟩ => ⟨bb_x, cc_x, g_x, cg_x, e, (⟨own_st hp.1 (by have := hp.2.2; omega) _ _, hp.2.1.set_ne (by have := hp.2.1.ge; omega) _ _, hp.2.2⟩)⟩, fun h => absurd rfl h, trivial⟩
   ·
    intro L L' W' hLL hC
    obtain ⟨hB, hx, hz, hM, hC, hO, ⟨_, ho⟩, ho_o⟩ := hC
    exact ⟨hB, hx, hz, hM, hC, fun h => hO (hLL _ h), ⟨_, ho⟩, fun h => ho_o (hLL _ h)⟩
   ·
    intro σ L W' hall hC hRR
    obtain ⟨hB, hx, hz, hM, hC, hO, ⟨_, ho⟩, ho_o⟩ := hC
    obtain ⟨bb, cc, g, cg, s9, hp9⟩ := dE hRR 9 rfl
    clear hRR
    simp only [lexAll]
    go_simp
    go_step
    go_meet
    exact ⟨bb, cc, g, cg, hB, hz, s9, hC, hp9.1, hp9.2.1, hp9.2.2, hM⟩
  case rest =>
   clear hB hz ho hC hO hM
   obtain ⟨bb, cc, g, cg, hB, hz, ho, hC, hO, hP, hbb, hM⟩ := hcut
   rename_i wc
   have kz := hz.cell
   have fz := hz.frozen
   have ko := ho.cell
   have hR' := Own.of_own hO (by simp [hrl])
   have hC' : CopyOf Q wc (rows ++ [(⟨0, 1, false, -1, some ⟨g, 0, none⟩, q, cg⟩ : Rw)]) (s.rs ++ [Rg.seed q v]) := by
    refine (hC.snocL (M := M) (fun j a ha => by obtain ⟨gg, h1, h2⟩ := hcp0.out.lt j a ha; exact ⟨gg, h1, by omega⟩) (by rw [hrl, HLN.out]) ⟨rfl, rfl, rfl, rfl, by show 0 < q; omega, g, rfl, hP⟩ (by omega))
   have hG := hC'.rgs hR' (by simp [HLN.out])
   have hBs := hB.size
   have hQbb : Q ≤ bb := by omega
   have lbb := Own.lt hR'
   go_wp2
   refine bodyPost_ret (v := .tuple #[.agg (aS s (some ⟨bb, 0, none⟩) (n + 1) cc), n]) (by simp [results, Tryz.results104, go_sem, kz]) rfl ⟨some ⟨bb, 0, none⟩, n + 1, cc, by rw [HV.out]; rfl, ?_, ?_⟩
   ·
    rw [HV.out]
    exact ((((((hG.sl).sl).sl).sl).sl)).mono (by omega) (by simp)
   · exact (sc (sc (sc (sc (sc hB)))))
 ·
  have HV := Lib.hid (show addRing s v = (s, -1) by simp [addRing, HOK.out, HLN.out, hse])
  clear ko
  have kz := hz.cell
  have fz := hz.frozen
  have ko := ho.cell
  have hG := hC.rgs hR HLN.out
  have hBs := hB.size
  go_wp2
  refine bodyPost_ret (v := .tuple #[stV s (some ⟨b1, 0, none⟩) n c1, .int .i64 (-1)]) (by simp [results, Tryz.results104, go_sem, kz, stV]) rfl ⟨some ⟨b1, 0, none⟩, n, c1, by rw [HV.out], ?_, ?_⟩
  ·
   rw [HV.out]
   exact ((((((hG.sl).sl).sl).sl).sl)).mono (by omega) (by simp)
  · exact (sc (sc (sc (sc (sc hB)))))

end Go.Proofs.YtiiaimjlohpemaaGreat

/-
 The walk of the program's steps of one who takes, up to what is got at its place.
-/
import Derived.Test.YthpckpnlohfcbaaGreatDoorTkB
import Derived.Test.YthpckpnlohfcbaaGreatDoorTicB
import Derived.Test.YthpckpnlohfcbaaGreatDoorSwpA
import Derived.Test.YthpckpnlohfcbaaGreatDoorChgA
import Derived.Test.YthpckpnlohfcbaaGreatDoorStep
import Derived.Test.YthpckpnlohfcbaaGreatDoorPsG
namespace Go.Proofs.YthpckpnlohfcbaaGreatDoor
set_option linter.unusedSimpArgs false
set_option linter.unusedVariables false
open Go.RowKit
set_option linter.unusedVariables false
attribute [local go_sem] OpUpon
attribute [local go_sem ↓] Go.wp_at_zero Go.wp_at_succ
attribute [local go_sem] fwd_ret fwd_normal fwd_exit
theorem ztkC0 {p : Prop} (h : p := by
 refine ret4 w q.1 W0.heap.size w1.heap.size A5 n5 c5 (⟨15, v, r, t, seen, tr, sp, ag, re⟩ : Hd) w.heap.size (w.heap.size + 1) (by kernel_rfl) (by kernel_rfl) (by kernel_rfl) (by kernel_rfl) (by omega) (by omega) ⟨(sc ((sc (sc (sc (sc (sc hB))))))), ((sets_all (us := (aS q.1 A5 n5 c5)) hx rfl).sn), by simpa using (((((((hy.sn).sn).sn).sn).sn)).set 0 (.int .i64 15)), (((((((hz.sn).sn).sn).sn).sn)).sn), (((((((hw_.sn).sn).sn).sn).sn)).sn), (((((((hG5.sl).sl).sl).sl).sl)).sl), by simp⟩ ?k0 ?k1 ?k2 ?k3 ?hQ
 case k0 | k1 | k2 | k3 =>
  intros
  rename_i k
  have kc_ := k.cell
  have kf_ := k.frozen
  refine OpGoes.go fun K hK => ?_
  go_simp
  first | exact hK _ _ ⟨rfl, rfl⟩ | exact hK _ _ rfl
 case hQ =>
  clear kx fx ky fy hB hx hy hz hw_ hs0 hG5
  generalize hq2 : (⟨15, v, r, t, seen, tr, sp, ag, re⟩ : Hd) = h2 at *
  clear hq2
  intro σ W' _ hB k7 k8 hG _
  replace k7 := k7.cell
  replace k8 := k8.cell
  simp only [lexAll]
  go_simp
  go_step
  go_wp2
  refine bodyPost_ret (v := .tuple #[stV q.1 A5 n5 c5, hdV h2]) (by simp [results, Tryz.results107, go_sem, k7, k8, stV, hdV]) rfl ⟨A5, n5, c5, by rw [HV.out], ?_, hB⟩
  rw [HV.out]
  exact hG.cut.mono (Nat.zero_le _) (Nat.le_refl _)) : p := h -- 06583463
theorem ztkC1 {p : Prop} (h : p := by
 clear hq2
 intro σ W' _ hB k7 k8 hG _
 replace k7 := k7.cell
 replace k8 := k8.cell
 simp only [lexAll]
 go_simp
 go_step
 go_wp2
 refine bodyPost_ret (v := .tuple #[stV q.1 A5 n5 c5, hdV h2]) (by simp [results, Tryz.results107, go_sem, k7, k8, stV, hdV]) rfl ⟨A5, n5, c5, by rw [HV.out], ?_, hB⟩
 rw [HV.out]
 exact hG.cut.mono (Nat.zero_le _) (Nat.le_refl _)) : p := h -- d2e3d707
theorem ztkC2 {p : Prop} (h : p := by
 intros
 rename_i k
 have kc_ := k.cell
 have kf_ := k.frozen
 refine OpGoes.go fun K hK => ?_
 go_simp
 first | exact hK _ _ ⟨rfl, rfl⟩ | exact hK _ _ rfl) : p := h -- e92ca8c3
theorem ztkC3 {p : Prop} (h : p := by
 rintro e w1 ⟨A5, n5, c5, rfl, hG, hb⟩
 replace hz := hz.below hb hz.lt
 replace hw_ := hw_.below hb hw_.lt
 replace hB := bstep hB hB.size hb
 clear hb
 unfold stV hdV
 have kz := hz.cell
 have fz := hz.frozen
 have kw := hw_.cell
 have fw := hw_.frozen
 go_wp2
 refine bodyPost_ret (v := .tuple #[stV q.1 A5 n5 c5, hdV q.2]) (by simp [results, Tryz.results88, go_sem, kz, kw, stV, hdV]) rfl ⟨A5, n5, c5, rfl, ?_, ?_⟩
 · exact (RgsW.setsT (RgsW.setsT hG hz (by decide) (by decide) (aS q.1 A5 n5 c5) 0) (BoxAt.sets_ne (aS q.1 A5 n5 c5) 0 hw_ (by omega)) (by decide) (by decide) (aH q.2) 0).mono (Nat.le_refl _) (by simp)
 · exact Below.setCells (by omega) (aH q.2) 0 (Below.setCells (by omega) (aS q.1 A5 n5 c5) 0 hB)) : p := h -- e749e65a
theorem ztkC4 {p : Prop} (h : p := by
 clear hq2
 intro σ W' _ hB k7 k8 hG _
 replace k7 := k7.cell
 replace k8 := k8.cell
 simp only [lexAll]
 go_simp
 go_step
 go_wp2
 refine bodyPost_ret (v := .tuple #[stV s (some ⟨b, 0, none⟩) n cap, hdV h2]) (by simp [results, Tryz.results107, go_sem, k7, k8, stV, hdV]) rfl ⟨(some ⟨b, 0, none⟩), n, cap, by rw [HV.out], ?_, hB⟩
 rw [HV.out]
 exact hG.cut.mono (Nat.zero_le _) (Nat.le_refl _)) : p := h -- d8cf2ee1
theorem ztkC5 {p : Prop} (h : p := by
 clear hw hcl hL hC
 refine OpGoes.go fun K hK => ?_
 go_simp
 exact hK _ _ ⟨rfl, rfl⟩) : p := h -- ee92c020

theorem ileft_any (p : Pl) (t n : Int) (w : World) (ht : 0 ≤ t ∧ t ≤ 1000000) (hn : 2 ≤ n ∧ n ≤ 8) :
  Calls Tryz.prog 129 #[.agg (cP p), t, n] w (RetBelow (.agg #[p.s, .int .i64 (t + n), .bool false, .int .i64 0]) w) := by
 obtain ⟨t0, t1⟩ := ht
 obtain ⟨n0, n1⟩ := hn
 go_enter Tryz.func129, Tryz.ntmps129
 go_wp2
 refine bodyPost_ret (v := .agg #[p.s, .int .i64 (t + n), .bool false, .int .i64 0]) (by simp [results, Tryz.results129, go_sem]) rfl ⟨rfl, ?_⟩
 exact ((Below.refl _ _).alloc (Nat.le_refl _) _).alloc (by simp) _
theorem inotSafe_any (p : Pl) (w : World) : Calls Tryz.prog 132 #[.agg (cP p)] w (RetBelow (.agg #[.bool false, p.n, p.f, p.v]) w) := by
 go_enter Tryz.func132, Tryz.ntmps132
 go_upto_region 1 with fail
 refine wp_abs (fun W => Below w.heap.size w W ∧ BoxAt W w.heap.size (cP p) 33 ∧ BoxAt W (w.heap.size + 1) #[.bool false, .int .i64 0, .bool false, .int .i64 0] 33) ⟨((Below.refl _ _).alloc (Nat.le_refl _) _).alloc (by simp) _, (BoxAt.new _ _ _).alloc _, BoxAt.new' (by simp)⟩ ?_
 rintro W ⟨hB, hy, hz⟩
 have ky := hy.cell
 have fy := hy.frozen
 have kz := hz.cell
 have fz := hz.frozen
 go_wp2
 refine bodyPost_ret (v := .agg #[.bool false, p.n, p.f, p.v]) (by simp [results, Tryz.results132, go_sem, kz]) rfl ⟨rfl, ?_⟩
 exact Below.setCells (by omega) [.bool false, p.n, p.f, p.v] 0 (sc hB)
def atSeen (p : Pl) (t : Int) : Int := if t < p.n then 19 else if p.f then (if p.n = t then 16 else 17) else 18
set_option maxHeartbeats 1000000 in
theorem iatSeen_any (p : Pl) (t : Int) (w : World) : Calls Tryz.prog 131 #[.agg (cP p), t] w (RetBelow (.int .i64 (atSeen p t)) w) := by
 go_enter Tryz.func131, Tryz.ntmps131
 by_cases h1 : t < p.n
 ·
  go_wp2
  go_ret
  exact .mk (by simp [atSeen, h1]) ((Below.refl _ _).alloc (Nat.le_refl _) _)
 ·
  cases hf : p.f
  ·
   go_wp2
   go_ret
   exact .mk (by simp [atSeen, h1, hf]) ((Below.refl _ _).alloc (Nat.le_refl _) _)
  ·
   by_cases h2 : p.n = t
   ·
    go_wp2
    go_ret
    exact .mk (by simp [atSeen, h1, hf, h2]) ((Below.refl _ _).alloc (Nat.le_refl _) _)
   ·
    go_wp2
    go_ret
    exact .mk (by simp [atSeen, h1, hf, h2]) ((Below.refl _ _).alloc (Nat.le_refl _) _)
set_option maxHeartbeats 1000000 in
theorem igot_any (h : Hd) (w : World) : Calls Tryz.prog 134 #[hdV h] w (RetBelow (hdV { h.rest 4 with v := h.seen.v }) w) := by
 obtain ⟨at_, v, r, t, seen, tr, sp, ag, re⟩ := h
 unfold hdV
 dsimp only
 go_enter Tryz.func134, Tryz.ntmps134
 go_upto_region 1 with fail
 refine wp_abs (fun W => Below w.heap.size w W ∧ BoxAt W w.heap.size (dH at_ v r t seen tr sp ag re) 35 ∧ BoxAt W (w.heap.size + 1) zH 35) ⟨((Below.refl _ _).alloc (Nat.le_refl _) _).alloc (by simp) _, (BoxAt.new _ _ _).alloc _, BoxAt.new' (by simp)⟩ ?_
 rintro W ⟨hB, hy, hz⟩
 have ky := hy.cell
 go_wp2_with fail
 clear ky
 refine (irest_any ⟨at_, v, r, t, seen, tr, sp, ag, re⟩ 4 _).mono ?_
 rintro e w1 ⟨rfl, hb⟩
 replace hy := hy.below hb hy.lt
 replace hz := hz.below hb hz.lt
 replace hB := bstep hB hB.size hb
 clear hb
 unfold hdV
 go_upto_region 2 with fail
 refine wp_abs (fun W => Below w.heap.size w W ∧ BoxAt W w.heap.size (dH at_ v r t seen tr sp ag re) 35 ∧ BoxAt W (w.heap.size + 1) zH 35 ∧ BoxAt W w1.heap.size (eH 0 0 0 0 false 0 false 0 0 sp false 4) 35) ⟨hB.alloc hB.size _, hy.alloc _, hz.alloc _, by simpa [Hd.rest, Hd.zero] using BoxAt.new _ _ _⟩ ?_
 have lz := hz.lt
 generalize w1.heap.size = X at *
 clear hB hy hz
 rintro W2 ⟨hB, hy, hz, hX⟩
 have ky := hy.cell
 have kz := hz.cell
 have fz := hz.frozen
 have kX := hX.cell
 have fX := hX.frozen
 go_wp2
 refine bodyPost_ret (v := hdV { (⟨at_, v, r, t, seen, tr, sp, ag, re⟩ : Hd).rest 4 with v := seen.v }) (by simp [results, Tryz.results134, go_sem, kz, hdV, Hd.rest, Hd.zero]) rfl ⟨rfl, ?_⟩
 exact Below.setCells (by omega) (eH 0 seen.v 0 0 false 0 false 0 0 sp false 4) 0 (sc hB)
def ta1V (s : St) (N b n cap pb : Nat) (rg : Rg) (p : Pl) (at_ v r t : Int) (seen : Pl) (tr sp : Int) (ag : Bool) (re : Int) (n' cap' : Nat) : List Sl := [.v (.pointer (some ⟨N, 2, none⟩)),
 .v (.slice (some ⟨b, 0, none⟩) n cap),
 .v (.pointer (some ⟨(N + 1), 2, none⟩)),
 .v r,
 .v (.pointer (some ⟨b, r.toNat * 5, none⟩)),
 .v (.agg #[rg.h, rg.t, rg.c, rg.x, .slice (some ⟨pb, 0, none⟩) n' cap']),
 .v (.pointer (some ⟨(N + 1), 3, none⟩)),
 .v t,
 .v (.int .i64 (t % s.rd)),
 .v (.int .i64 (t % s.rd)),
 .v (.bool false)]
set_option maxRecDepth 100000 in
set_option maxHeartbeats 8000000 in
theorem igo_any (s : St) (A : Option Addr) (n cap lo hi B : Nat) (a0 a1 a2 a3 a4 a5 : Addr) (at_ v r t : Int) (seen : Pl) (tr sp : Int) (ag : Bool) (re : Int) (w : World) (hs : RgsW lo hi w A n cap s.rs) (hh : hi ≤ w.heap.size) (hok : stOk s = true) (hrb : ringB s r = true) (hE : SntT B a0 a1 a2 a3 a4 a5 w) (ht : 0 ≤ t ∧ t ≤ 1000000) (hat : 13 ≤ at_ ∧ at_ ≤ 18) :
  Calls Tryz.prog 107 #[stV s A n cap, hdV ⟨at_, v, r, t, seen, tr, sp, ag, re⟩] w (RetSH (PH (takeS s ⟨at_, v, r, t, seen, tr, sp, ag, re⟩)) w) := by
 have HOK := Lib.hid hok
 have HRB := Lib.hid hrb
 have HLN := Lib.hid hs.1
 have HNT := Lib.hid (stOk_neat hok)
 have HTA := Lib.hid hat
 obtain ⟨z0, z1, z2⟩ := ringB_at HLN.out hrb
 obtain ⟨t0, t1⟩ := ht
 clear hok hrb hat
 unfold stV hdV
 dsimp only
 go_enter Tryz.func107, Tryz.ntmps107
 go_wp2
 refine wp_scope_let 2 fun cc hcc => ?_
 have HCC := Lib.hid hcc; clear hcc
 go_upto_region 1 with fail
 refine wp_abs (fun W => Below w.heap.size w W ∧ BoxAt W w.heap.size (aS s A n cap) 32 ∧ BoxAt W (w.heap.size + 1) (dH at_ v r t seen tr sp ag re) 35 ∧ BoxAt W (w.heap.size + 1 + 1) zS 32 ∧ BoxAt W (w.heap.size + 1 + 1 + 1) zH 35) ⟨(((((Below.refl _ _).alloc (Nat.le_refl _) _).alloc (by simp) _).alloc (by simp; omega) _).alloc (by simp; omega) _), (((BoxAt.new _ _ _).alloc _).alloc _).alloc _, ((BoxAt.new' (by simp)).alloc _).alloc _, (BoxAt.new' (by simp)).alloc _, BoxAt.new' (by simp)⟩ ?_
 rintro W0 ⟨hB, hx, hy, hz, hw_⟩
 have lw0 := hw_.lt
 have hs0 := hs.below hB hh
 have kx := hx.cell
 have ky := hy.cell
 have fy := hy.frozen
 obtain ⟨b, rg, A', n', cap', rfl, hlb, hbh, hri, c0, c1', c2, c3, c4, hpw⟩ := hs0.at_ z2
 have HAT := Lib.hid (St.at_some (s := s) (z := r) hri)
 have hrd := stOk_rd HOK.out
 have hrp := stOk_places HOK.out rg (List.mem_of_getElem? hri)
 have hn' : n' = rg.ps.length := hpw.1.symm
 obtain ⟨pb, rfl, hpbh, hpo⟩ := hpw.2 (by omega)
 have hm0 := Int.emod_nonneg t (show s.rd ≠ 0 by omega)
 have hm1 := Int.emod_lt_of_pos t (show 0 < s.rd by omega)
 have hkl : (t % s.rd).toNat < rg.ps.length := by omega
 obtain ⟨p, hpx⟩ : ∃ p, rg.ps[(t % s.rd).toNat]? = some p := ⟨_, List.getElem?_eq_getElem hkl⟩
 have he : PlE 0 W0 pb ((t % s.rd).toNat * 4) p := PlE.of_cells fun j u hu => Own.cell_ Pl.cs_len hpo hpx hu
 have hc : RgC W0 b r.toNat rg (some ⟨pb, 0, none⟩) n' cap' := ⟨c0, c1', c2, c3, c4⟩
 have hat0 : t % s.rd < (n' : Int) := by omega
 have hbl2 : b < w.heap.size ∧ pb < w.heap.size := by omega
 have hrok := stOk_rgok HOK.out (List.mem_of_getElem? hri)
 have hPR : ∀ W : World, Below w.heap.size w W → PlsR 0 W (some ⟨pb, 0, none⟩) n' rg.ps := fun W hBW => PlsW.r (lo := lo) (hi := hi) ⟨hpw.1, fun _ => ⟨pb, rfl, hpbh, Own.keep hpo (by rw [hBW.block pb (by omega), hB.block pb (by omega)])⟩⟩
 have HPA := Lib.hid (show ∀ W : World, Below w.heap.size w W → Calls Tryz.prog 128 #[rgV rg.h rg.t rg.c rg.x (some ⟨pb, 0, none⟩) n' cap', .int .i64 t] W (RetBelow (.int .i64 (t % s.rd)) W) from fun W hBW => by
  have := iplaceAt_any rg.h rg.t rg.c rg.x (some ⟨pb, 0, none⟩) n' cap' rg.ps t W (hPR W hBW) (by omega)
  rw [placeAt_yes (by rw [show rgOk rg.h rg.t rg.c rg.x rg.ps = true from hrok, show noB t = true by simp only [noB, Bool.and_eq_true, decide_eq_true_eq]; omega]; rfl), hrp] at this
  exact this)
 unfold rgV at HPA
 have HLK := Lib.hid (show ∀ a, lookAt s ⟨a, v, r, t, seen, tr, sp, ag, re⟩ = p from fun a => by simp [lookAt, HAT.out, hpx])
 clear hpx hpw hpo hs0 hn' hrp hri hrok c0 c1' c2 c3 c4 kx ky fy hPR
 go_cut [6, 7] (fun u u7 W' => Below w.heap.size w W' ∧ BoxAt W' w.heap.size (aS s (some ⟨b, 0, none⟩) n cap) 32 ∧ BoxAt W' (w.heap.size + 1) (dH at_ v r t seen tr sp ag re) 35 ∧ BoxAt W' (w.heap.size + 1 + 1) zS 32 ∧ BoxAt W' (w.heap.size + 1 + 1 + 1) zH 35 ∧ RgC W' b r.toNat rg (some ⟨pb, 0, none⟩) n' cap' ∧ PlE 0 W' pb ((t % s.rd).toNat * 4) p ∧ u = .int .i64 (t % s.rd) ∧ u7 = .bool false)
 case first =>
  refine wp_region2v (fun w w' => Below w.heap.size w w') (fun _ _ h => h.size) (fun _ => Below.refl _ _) (fun L W' => Below w.heap.size w W' ∧ BoxAt W' w.heap.size (aS s (some ⟨b, 0, none⟩) n cap) 32 ∧ BoxAt W' (w.heap.size + 1) (dH at_ v r t seen tr sp ag re) 35 ∧ BoxAt W' (w.heap.size + 1 + 1) zS 32 ∧ BoxAt W' (w.heap.size + 1 + 1 + 1) zH 35 ∧ RgC W' b r.toNat rg (some ⟨pb, 0, none⟩) n' cap' ∧ PlE 0 W' pb ((t % s.rd).toNat * 4) p) (ta1V s w.heap.size b n cap pb rg p at_ v r t seen tr sp ag re n' cap') (fun _ => 0) [] (by kernel_rfl) (by kernel_rfl) ?_ ?_ ?_
   (.still rfl ?a0 <| .still rfl ?a1 <| .still rfl ?a2 <| .still rfl ?a3 <| .still rfl ?a4 <| .still rfl ?a5 <| .still rfl ?a6 <| .still rfl ?a7 <| .grow rfl ?a8 <| .still rfl ?a9 <| .still rfl ?a10 <| .nil) ?_ ?_
  · exact trivial
  · exact trivial
  · exact ⟨hB.drew, hx, hy, hz, hw_, hc, he⟩
  case a0 | a2 | a4 | a6 | a9 | a10 =>
   go_light
   intro L σ W' hcl hL hC hw
   try have e1 := wT hw 1 rfl
   try have e3 := wT hw 3 rfl
   try have e8 := wT hw 8 rfl
   exact ztkC5
  case a1 =>
   go_light
   intro L σ W' hcl hL hC hw
   have e0 := wV hw 0 rfl
   have ks := hC.2.1.cell
   exact ztkC5
  case a3 | a7 =>
   go_light
   intro L σ W' hcl hL hC hw
   try have e2 := wT hw 2 rfl
   try have e6 := wT hw 6 rfl
   have kh := hC.2.2.1.cell
   exact ztkC5
  case a5 =>
   go_light
   intro L σ W' hcl hL hC hw
   have e4 := wV hw 4 rfl
   have hc0 := hC.2.2.2.2.2.1
   obtain ⟨c0, c1_, c2, c3, c4⟩ := hc0
   exact ztkC5
  case a8 =>
   go_light
   intro L σ W' hcl hL hC hw
   have e5 := wV hw 5 rfl
   have e7 := wV hw 7 rfl
   clear hw
   have HC := Lib.hid hC
   clear hC
   clear hcl hL
   refine OpGoes.go fun K hK => ?_
   go_simp
   obtain ⟨hB, hx, hy, hz, hw_, hc, he⟩ := HC.out
   refine (HPA.out _ hB).mono ?_
   rintro e w1 ⟨rfl, hb1⟩
   exact ⟨_, rfl, hK _ _ ⟨⟨bstep hB hB.size hb1, hx.below hb1 hx.lt, hy.below hb1 hy.lt, hz.below hb1 hz.lt, hw_.below hb1 hw_.lt, hc.below hb1, he.below hb1⟩, rfl, hb1⟩⟩
  ·
   intro L L' W' hLL hC
   obtain ⟨hB, hx, hy, hz, hw_, hc, he⟩ := hC
   exact ⟨hB, hx, hy, hz, hw_, hc, he⟩
  ·
   intro σ L W' hall hC hRR
   obtain ⟨hB, hx, hy, hz, hw_, hc, he⟩ := hC
   have e9 := dV hRR 9 rfl
   have e10 := dV hRR 10 rfl
   clear hRR
   simp only [lexAll]
   go_simp
   go_step
   go_meet
   exact ⟨hB, hx, hy, hz, hw_, hc, he, rfl, rfl⟩
 case rest =>
 clear hB hx hy hz hw_ hc he HPA
 obtain ⟨hB, hx, hy, hz, hw_, hc, he, rfl, rfl⟩ := hcut
 have kx := hx.cell
 have ky := hy.cell
 go_wp2_with fail
 clear kx ky
 refine (ileft_any seen t s.rd _ ⟨t0, t1⟩ hrd).mono ?_
 rintro e w1 ⟨rfl, hb⟩
 replace hx := hx.below hb hx.lt
 replace hy := hy.below hb hy.lt
 replace hz := hz.below hb hz.lt
 replace hw_ := hw_.below hb hw_.lt
 replace hc := hc.below hb
 replace he := he.below hb
 replace hB := bstep hB hB.size hb
 have lw3 := hw_.lt
 clear hb lw0
 go_upto_region 3 with fail
 refine wp_abs (fun W' => Below w.heap.size w W' ∧ BoxAt W' w.heap.size (aS s (some ⟨b, 0, none⟩) n cap) 32 ∧ BoxAt W' (w.heap.size + 1) (dH at_ v r t seen tr sp ag re) 35 ∧ BoxAt W' (w.heap.size + 1 + 1) zS 32 ∧ BoxAt W' (w.heap.size + 1 + 1 + 1) zH 35 ∧ RgC W' b r.toNat rg (some ⟨pb, 0, none⟩) n' cap' ∧ PlE 0 W' pb ((t % s.rd).toNat * 4) p ∧ BoxAt W' w1.heap.size #[seen.s, .int .i64 (t + s.rd), .bool false, .int .i64 0] 33) ⟨hB.alloc hB.size _, hx.alloc _, hy.alloc _, hz.alloc _, hw_.alloc _, hc.below ((Below.refl _ _).alloc (Nat.le_refl _) _), he.below ((Below.refl _ _).alloc (Nat.le_refl _) _), BoxAt.new _ _ _⟩ ?_
 generalize hTe : w1.heap.size = T at *
 have lN : w.heap.size + 3 < T := by omega
 clear hTe hB hx hy hz hw_ hc he lw3
 rintro W0 ⟨hB, hx, hy, hz, hw_, hc, he, hT⟩
 have lT := hT.lt
 have lw2 := hw_.lt
 have hs0 := hs.below hB hh
 have kx := hx.cell
 have ky := hy.cell
 have fy := hy.frozen
 have kT := hT.cell
 have hc6 : at_ = 13 ∨ at_ = 14 ∨ at_ = 15 ∨ at_ = 16 ∨ at_ = 17 ∨ at_ = 18 := by have := HTA.out; omega
 clear HTA
 rcases hc6 with rfl | rfl | rfl | rfl | rfl | rfl
 ·
  go_wp2_with fail
  refine wp_goto ?_
  go_simp
  refine fwd_on HCC.out rfl ?_
  go_upto_region 11 with fail
  have HV := Lib.hid (show PH (takeS s ⟨13, v, r, t, seen, tr, sp, ag, re⟩) = (s, (⟨14, v, s.fi, t, seen, tr, sp, ag, re⟩ : Hd)) by rw [show takeS s ⟨13, v, r, t, seen, tr, sp, ag, re⟩ = take13 s ⟨13, v, r, t, seen, tr, sp, ag, re⟩ from rfl]; unfold PH take13 fin; (try simp only []) <;> rfl)
  refine ret4 w s lo hi (some ⟨b, 0, none⟩) n cap (⟨14, v, s.fi, t, seen, tr, sp, ag, re⟩ : Hd) w.heap.size (w.heap.size + 1) (by kernel_rfl) (by kernel_rfl) (by kernel_rfl) (by kernel_rfl) (by omega) (by omega) ⟨(sc (sc hB)), ((hx.sn).sn), by simpa using ((hy.set 2 (.int .i64 s.fi)).set 0 (.int .i64 14)), ((hz.sn).sn), ((hw_.sn).sn), ((hs0.sr).sr), by simp; omega⟩ ?k0 ?k1 ?k2 ?k3 ?hQ
  case k0 | k1 | k2 | k3 =>
   exact ztkC2
  case hQ =>
   clear kx ky fy kT hB hx hy hz hw_ hs0 hT hc he
   generalize hq2 : (⟨14, v, s.fi, t, seen, tr, sp, ag, re⟩ : Hd) = h2 at *
   exact ztkC4
 ·
  go_wp2_with fail
  refine wp_goto ?_
  go_simp
  refine fwd_on HCC.out rfl ?_
  obtain ⟨e0, e1, ⟨e2, n2_⟩, ⟨e3, n3_⟩, ⟨e4, n4_⟩, e5, n5_⟩ := hE.below hB
  go_wp2_with fail
  clear kx ky fy kT hT hc he
  refine (itakeTicket_any s (some ⟨b, 0, none⟩) n cap lo hi B a0 a1 a2 r _ hs0 (Nat.le_trans hh hB.size) e0 e1 e2 n2_ (by have := HNT.out.2.1; have := HLN.out; omega) HNT.out.len).mono ?_
  rintro e w1 ⟨A5, n5, c5, rfl, hG5, hb5⟩
  replace hG5 := hG5.toW
  replace hx := hx.below hb5 hx.lt
  replace hy := hy.below hb5 hy.lt
  replace hz := hz.below hb5 hz.lt
  replace hw_ := hw_.below hb5 hw_.lt
  have h5 := hb5.size
  have l5 : w.heap.size + 4 ≤ W0.heap.size := by omega
  replace hB := bstep hB hB.size hb5
  clear hb5 e0 e1 e2 e3 e4 e5
  generalize hq5 : takeTicket s r = q at *
  have HQ5 := Lib.hid hq5; clear hq5
  unfold stV
  have kx := hx.cell
  have fx := hx.frozen
  have ky := hy.cell
  have fy := hy.frozen
  go_upto_region 14 with fail
  have HV := Lib.hid (show PH (takeS s ⟨14, v, r, t, seen, tr, sp, ag, re⟩) = (q.1, (⟨15, v, r, q.2, seen, tr, sp, ag, re⟩ : Hd)) by rw [show takeS s ⟨14, v, r, t, seen, tr, sp, ag, re⟩ = take14 s ⟨14, v, r, t, seen, tr, sp, ag, re⟩ from rfl]; unfold PH take14 fin; (try simp only [HQ5.out]) <;> rfl)
  refine ret4 w q.1 W0.heap.size w1.heap.size A5 n5 c5 (⟨15, v, r, q.2, seen, tr, sp, ag, re⟩ : Hd) w.heap.size (w.heap.size + 1) (by kernel_rfl) (by kernel_rfl) (by kernel_rfl) (by kernel_rfl) (by omega) (by omega) ⟨(sc (sc ((sc (sc (sc (sc (sc hB)))))))), (((sets_all (us := (aS q.1 A5 n5 c5)) hx rfl).sn).sn), by simpa using ((((((((hy.sn).sn).sn).sn).sn)).set 3 (.int .i64 q.2)).set 0 (.int .i64 15)), ((((((((hz.sn).sn).sn).sn).sn)).sn).sn), ((((((((hw_.sn).sn).sn).sn).sn)).sn).sn), ((((((((hG5.sl).sl).sl).sl).sl)).sl).sl), by simp⟩ ?k0 ?k1 ?k2 ?k3 ?hQ
  case k0 | k1 | k2 | k3 =>
   exact ztkC2
  case hQ =>
   clear kx fx ky fy hB hx hy hz hw_ hs0 hG5
   generalize hq2 : (⟨15, v, r, q.2, seen, tr, sp, ag, re⟩ : Hd) = h2 at *
   exact ztkC1
 ·
  go_wp2_with fail
  refine wp_goto ?_
  go_simp
  refine fwd_on HCC.out rfl ?_
  obtain ⟨c0, c1_, c2, c3, c4⟩ := hc
  obtain ⟨d0, d1, d2, d3⟩ := he
  go_upto_region 16 with fail
  refine wp_abs (fun W => Below w.heap.size w W ∧ BoxAt W w.heap.size (aS s (some ⟨b, 0, none⟩) n cap) 32 ∧ BoxAt W (w.heap.size + 1) (dH 15 v r t p tr sp ag re) 35 ∧ BoxAt W (w.heap.size + 1 + 1) zS 32 ∧ BoxAt W (w.heap.size + 1 + 1 + 1) zH 35) ⟨sc (sc (sc (sc hB))), ((((hx.sn).sn).sn).sn), by simpa using (((hy.set 4 (.bool p.s)).set 5 (.int .i64 p.n)).set 6 (.bool p.f)).set 7 (.int .i64 p.v), ((((hz.sn).sn).sn).sn), ((((hw_.sn).sn).sn).sn)⟩ ?_
  clear kx ky fy kT hB hx hy hz hw_ hs0 hT c0 c1_ c2 c3 c4 d0 d1 d2 d3 lT lw2
  rintro W0 ⟨hB, hx, hy, hz, hw_⟩
  have ky := hy.cell
  go_wp2_with fail
  clear ky
  refine (iatSeen_any p t _).mono ?_
  rintro e w1 ⟨rfl, hb⟩
  replace hx := hx.below hb hx.lt
  replace hy := hy.below hb hy.lt
  replace hz := hz.below hb hz.lt
  replace hw_ := hw_.below hb hw_.lt
  replace hB := bstep hB hB.size hb
  clear hb
  have lw2 := hw_.lt
  have hs0 := hs.below hB hh
  have ky := hy.cell
  have fy := hy.frozen
  go_upto_region 17 with fail
  have HV := Lib.hid (show PH (takeS s ⟨15, v, r, t, seen, tr, sp, ag, re⟩) = (s, (⟨(atSeen p t), v, r, t, p, tr, sp, ag, re⟩ : Hd)) by rw [show takeS s ⟨15, v, r, t, seen, tr, sp, ag, re⟩ = take15 s ⟨15, v, r, t, seen, tr, sp, ag, re⟩ from rfl]; unfold PH take15 fin; (try simp only [HLK.out, atSeen]) <;> rfl)
  refine ret4 w s lo hi (some ⟨b, 0, none⟩) n cap (⟨(atSeen p t), v, r, t, p, tr, sp, ag, re⟩ : Hd) w.heap.size (w.heap.size + 1) (by kernel_rfl) (by kernel_rfl) (by kernel_rfl) (by kernel_rfl) (by omega) (by omega) ⟨(sc hB), (hx.sn), by simpa using (hy.set 0 (.int .i64 (atSeen p t))), (hz.sn), (hw_.sn), (hs0.sr), by simp; omega⟩ ?k0 ?k1 ?k2 ?k3 ?hQ
  case k0 | k1 | k2 | k3 =>
   exact ztkC2
  case hQ =>
   clear ky fy hB hx hy hz hw_ hs0
   generalize hq2 : (⟨(atSeen p t), v, r, t, p, tr, sp, ag, re⟩ : Hd) = h2 at *
   exact ztkC4
 ·
  go_wp2_with fail
  refine wp_goto ?_
  go_simp
  refine fwd_on HCC.out rfl ?_
  obtain ⟨e0, e1, ⟨e2, n2_⟩, ⟨e3, n3_⟩, ⟨e4, n4_⟩, e5, n5_⟩ := hE.below hB
  go_wp2_with fail
  clear kx ky fy kT hT hc he
  refine (iswap_any s (some ⟨b, 0, none⟩) n cap lo hi B a0 a1 a2 a3 a4 r (t % s.rd) seen ⟨seen.s, t + s.rd, false, 0⟩ _ hs0 (Nat.le_trans hh hB.size) e0 e1 e2 n2_ e3 n3_ e4 n4_ (by have := HNT.out.2.1; have := HLN.out; omega) HNT.out.len).mono ?_
  rintro e w1 ⟨A5, n5, c5, rfl, hG5, hb5⟩
  replace hG5 := hG5.toW
  replace hx := hx.below hb5 hx.lt
  replace hy := hy.below hb5 hy.lt
  replace hz := hz.below hb5 hz.lt
  replace hw_ := hw_.below hb5 hw_.lt
  have h5 := hb5.size
  have l5 : w.heap.size + 4 ≤ W0.heap.size := by omega
  replace hB := bstep hB hB.size hb5
  clear hb5 e0 e1 e2 e3 e4 e5
  generalize hq5 : swapPlace s r (t % s.rd) seen ⟨seen.s, t + s.rd, false, 0⟩ = q at *
  have HQ5 := Lib.hid hq5; clear hq5
  unfold stV
  have kx := hx.cell
  have fx := hx.frozen
  have ky := hy.cell
  have fy := hy.frozen
  cases hq2 : q.2
  ·
   have HQ2 := Lib.hid hq2; clear hq2
   go_wp2
   go_step3
   go_upto_region 27 with fail
   have HV := Lib.hid (show PH (takeS s ⟨16, v, r, t, seen, tr, sp, ag, re⟩) = (q.1, (⟨15, v, r, t, seen, tr, sp, ag, re⟩ : Hd)) by rw [show takeS s ⟨16, v, r, t, seen, tr, sp, ag, re⟩ = take16 s ⟨16, v, r, t, seen, tr, sp, ag, re⟩ from rfl]; unfold PH take16 fin; (try simp only [grab, leftP, HQ5.out, HQ2.out, Bool.false_eq_true, if_false]) <;> rfl)
   exact ztkC0
  ·
   have HQ2 := Lib.hid hq2; clear hq2
   go_upto_region 25 with fail
   have HV := Lib.hid (show PH (takeS s ⟨16, v, r, t, seen, tr, sp, ag, re⟩) = (q.1, ({ ((⟨16, v, r, t, seen, tr, sp, ag, re⟩ : Hd)).rest 4 with v := seen.v } : Hd)) by rw [show takeS s ⟨16, v, r, t, seen, tr, sp, ag, re⟩ = take16 s ⟨16, v, r, t, seen, tr, sp, ag, re⟩ from rfl]; unfold PH take16 fin; (try simp only [grab, leftP, HQ5.out, HQ2.out, if_true]) <;> rfl)
   refine ret5g w ({ ((⟨16, v, r, t, seen, tr, sp, ag, re⟩ : Hd)).rest 4 with v := seen.v } : Hd) q.1 W0.heap.size w1.heap.size A5 n5 c5 (⟨16, v, r, t, seen, tr, sp, ag, re⟩ : Hd) w.heap.size (w.heap.size + 1) (by kernel_rfl) (by kernel_rfl) (by kernel_rfl) (by kernel_rfl) (by kernel_rfl) (by omega) (by omega) ⟨((sc (sc (sc (sc (sc hB)))))), (sets_all (us := (aS q.1 A5 n5 c5)) hx rfl), by simpa using ((((((hy.sn).sn).sn).sn).sn)), ((((((hz.sn).sn).sn).sn).sn)), ((((((hw_.sn).sn).sn).sn).sn)), ((((((hG5.sl).sl).sl).sl).sl)), by simp⟩ ?k0 ?k1 ?k2 ?k3 ?k4 ?hQ
   case k0 | k1 | k3 | k4 =>
    exact ztkC2
   case k2 =>
    intros
    refine OpGoes.go fun K hK => ?_
    go_simp
    refine (igot_any (⟨16, v, r, t, seen, tr, sp, ag, re⟩ : Hd) _).mono ?_
    rintro e w1 ⟨rfl, hb1⟩
    exact ⟨_, rfl, hK _ _ ⟨rfl, hb1⟩⟩
   case hQ =>
    clear kx fx ky fy hB hx hy hz hw_ hs0 hG5
    intro σ W' _ hB k7 k8 hG _
    replace k7 := k7.cell
    replace k8 := k8.cell
    simp only [lexAll]
    go_simp
    go_step
    go_wp2
    refine bodyPost_ret (v := .tuple #[stV q.1 A5 n5 c5, hdV ({ ((⟨16, v, r, t, seen, tr, sp, ag, re⟩ : Hd)).rest 4 with v := seen.v } : Hd)]) (by simp [results, Tryz.results107, go_sem, k7, k8, stV, hdV, Hd.rest, Hd.zero]) rfl ⟨A5, n5, c5, by rw [HV.out], ?_, hB⟩
    rw [HV.out]
    exact hG.cut.mono (Nat.zero_le _) (Nat.le_refl _)
 ·
  go_wp2_with fail
  refine wp_goto ?_
  go_simp
  refine fwd_on HCC.out rfl ?_
  go_wp2_with fail
  clear kx ky fy kT
  refine (inotSafe_any seen _).mono ?_
  rintro e w1 ⟨rfl, hb⟩
  replace hx := hx.below hb hx.lt
  replace hy := hy.below hb hy.lt
  replace hz := hz.below hb hz.lt
  replace hw_ := hw_.below hb hw_.lt
  replace hT := hT.below hb hT.lt
  replace hB := bstep hB hB.size hb
  clear hb
  have kT := hT.cell
  have fT := hT.frozen
  go_wp2
  go_step3
  go_upto_region 19 with fail
  refine wp_abs (fun W => Below w.heap.size w W ∧ BoxAt W w.heap.size (aS s (some ⟨b, 0, none⟩) n cap) 32 ∧ BoxAt W (w.heap.size + 1) (dH 17 v r t seen tr sp ag re) 35 ∧ BoxAt W (w.heap.size + 1 + 1) zS 32 ∧ BoxAt W (w.heap.size + 1 + 1 + 1) zH 35 ∧ BoxAt W T #[.bool false, seen.n, seen.f, seen.v] 33) ⟨(sc (sc (sc (sc hB)))), ((((hx.sn).sn).sn).sn), ((((hy.sn).sn).sn).sn), ((((hz.sn).sn).sn).sn), ((((hw_.sn).sn).sn).sn), by simpa using (((hT.set 0 (.bool false)).set 1 (.int .i64 seen.n)).set 2 (.bool seen.f)).set 3 (.int .i64 seen.v)⟩ ?_
  clear kT fT hB hx hy hz hw_ hs0 hT lT lw2
  rintro W0 ⟨hB, hx, hy, hz, hw_, hT⟩
  have lT := hT.lt
  have lw2 := hw_.lt
  have hs0 := hs.below hB hh
  have kx := hx.cell
  have ky := hy.cell
  have fy := hy.frozen
  have kT := hT.cell
  obtain ⟨e0, e1, ⟨e2, n2_⟩, ⟨e3, n3_⟩, ⟨e4, n4_⟩, e5, n5_⟩ := hE.below hB
  go_wp2_with fail
  clear kx ky fy kT hT
  refine (iswap_any s (some ⟨b, 0, none⟩) n cap lo hi B a0 a1 a2 a3 a4 r (t % s.rd) seen ⟨false, seen.n, seen.f, seen.v⟩ _ hs0 (Nat.le_trans hh hB.size) e0 e1 e2 n2_ e3 n3_ e4 n4_ (by have := HNT.out.2.1; have := HLN.out; omega) HNT.out.len).mono ?_
  rintro e w1 ⟨A5, n5, c5, rfl, hG5, hb5⟩
  replace hG5 := hG5.toW
  replace hx := hx.below hb5 hx.lt
  replace hy := hy.below hb5 hy.lt
  replace hz := hz.below hb5 hz.lt
  replace hw_ := hw_.below hb5 hw_.lt
  have h5 := hb5.size
  have l5 : w.heap.size + 4 ≤ W0.heap.size := by omega
  replace hB := bstep hB hB.size hb5
  clear hb5 e0 e1 e2 e3 e4 e5
  generalize hq5 : swapPlace s r (t % s.rd) seen ⟨false, seen.n, seen.f, seen.v⟩ = q at *
  have HQ5 := Lib.hid hq5; clear hq5
  unfold stV
  have kx := hx.cell
  have fx := hx.frozen
  have ky := hy.cell
  have fy := hy.frozen
  cases hq2 : q.2
  ·
   have HQ2 := Lib.hid hq2; clear hq2
   go_wp2_with fail
   refine wp_goto ?_
   go_simp
   refine fwd_on HCC.out rfl ?_
   go_upto_region 27 with fail
   have HV := Lib.hid (show PH (takeS s ⟨17, v, r, t, seen, tr, sp, ag, re⟩) = (q.1, (⟨15, v, r, t, seen, tr, sp, ag, re⟩ : Hd)) by rw [show takeS s ⟨17, v, r, t, seen, tr, sp, ag, re⟩ = take17 s ⟨17, v, r, t, seen, tr, sp, ag, re⟩ from rfl]; unfold PH take17 fin; (try simp only [spoil, leftP, HQ5.out, HQ2.out]) <;> rfl)
   exact ztkC0
  ·
   have HQ2 := Lib.hid hq2; clear hq2
   go_upto_region 22 with fail
   have HV := Lib.hid (show PH (takeS s ⟨17, v, r, t, seen, tr, sp, ag, re⟩) = (q.1, (⟨19, v, r, t, seen, tr, sp, ag, re⟩ : Hd)) by rw [show takeS s ⟨17, v, r, t, seen, tr, sp, ag, re⟩ = take17 s ⟨17, v, r, t, seen, tr, sp, ag, re⟩ from rfl]; unfold PH take17 fin; (try simp only [spoil, leftP, HQ5.out, HQ2.out]) <;> rfl)
   refine ret4 w q.1 W0.heap.size w1.heap.size A5 n5 c5 (⟨19, v, r, t, seen, tr, sp, ag, re⟩ : Hd) w.heap.size (w.heap.size + 1) (by kernel_rfl) (by kernel_rfl) (by kernel_rfl) (by kernel_rfl) (by omega) (by omega) ⟨(sc ((sc (sc (sc (sc (sc hB))))))), ((sets_all (us := (aS q.1 A5 n5 c5)) hx rfl).sn), by simpa using (((((((hy.sn).sn).sn).sn).sn)).set 0 (.int .i64 19)), (((((((hz.sn).sn).sn).sn).sn)).sn), (((((((hw_.sn).sn).sn).sn).sn)).sn), (((((((hG5.sl).sl).sl).sl).sl)).sl), by simp⟩ ?k0 ?k1 ?k2 ?k3 ?hQ
   case k0 | k1 | k2 | k3 =>
    exact ztkC2
   case hQ =>
    clear kx fx ky fy hB hx hy hz hw_ hs0 hG5
    generalize hq2 : (⟨19, v, r, t, seen, tr, sp, ag, re⟩ : Hd) = h2 at *
    exact ztkC1
 ·
  go_wp2_with fail
  refine wp_goto ?_
  go_simp
  refine fwd_on HCC.out rfl ?_
  obtain ⟨e0, e1, ⟨e2, n2_⟩, ⟨e3, n3_⟩, ⟨e4, n4_⟩, e5, n5_⟩ := hE.below hB
  go_wp2_with fail
  clear kx ky fy kT hT hc he
  refine (iswap_any s (some ⟨b, 0, none⟩) n cap lo hi B a0 a1 a2 a3 a4 r (t % s.rd) seen ⟨seen.s, t + s.rd, false, 0⟩ _ hs0 (Nat.le_trans hh hB.size) e0 e1 e2 n2_ e3 n3_ e4 n4_ (by have := HNT.out.2.1; have := HLN.out; omega) HNT.out.len).mono ?_
  rintro e w1 ⟨A5, n5, c5, rfl, hG5, hb5⟩
  replace hG5 := hG5.toW
  replace hx := hx.below hb5 hx.lt
  replace hy := hy.below hb5 hy.lt
  replace hz := hz.below hb5 hz.lt
  replace hw_ := hw_.below hb5 hw_.lt
  have h5 := hb5.size
  have l5 : w.heap.size + 4 ≤ W0.heap.size := by omega
  replace hB := bstep hB hB.size hb5
  clear hb5 e0 e1 e2 e3 e4 e5
  generalize hq5 : swapPlace s r (t % s.rd) seen ⟨seen.s, t + s.rd, false, 0⟩ = q at *
  have HQ5 := Lib.hid hq5; clear hq5
  unfold stV
  have kx := hx.cell
  have fx := hx.frozen
  have ky := hy.cell
  have fy := hy.frozen
  cases hq2 : q.2
  ·
   have HQ2 := Lib.hid hq2; clear hq2
   go_wp2_with fail
   refine wp_goto ?_
   go_simp
   refine fwd_on HCC.out rfl ?_
   go_upto_region 27 with fail
   have HV := Lib.hid (show PH (takeS s ⟨18, v, r, t, seen, tr, sp, ag, re⟩) = (q.1, (⟨15, v, r, t, seen, tr, sp, ag, re⟩ : Hd)) by rw [show takeS s ⟨18, v, r, t, seen, tr, sp, ag, re⟩ = take18 s ⟨18, v, r, t, seen, tr, sp, ag, re⟩ from rfl]; unfold PH take18 fin; (try simp only [grab, leftP, HQ5.out, HQ2.out]) <;> rfl)
   exact ztkC0
  ·
   have HQ2 := Lib.hid hq2; clear hq2
   go_upto_region 22 with fail
   have HV := Lib.hid (show PH (takeS s ⟨18, v, r, t, seen, tr, sp, ag, re⟩) = (q.1, (⟨19, v, r, t, seen, tr, sp, ag, re⟩ : Hd)) by rw [show takeS s ⟨18, v, r, t, seen, tr, sp, ag, re⟩ = take18 s ⟨18, v, r, t, seen, tr, sp, ag, re⟩ from rfl]; unfold PH take18 fin; (try simp only [grab, leftP, HQ5.out, HQ2.out]) <;> rfl)
   refine ret4 w q.1 W0.heap.size w1.heap.size A5 n5 c5 (⟨19, v, r, t, seen, tr, sp, ag, re⟩ : Hd) w.heap.size (w.heap.size + 1) (by kernel_rfl) (by kernel_rfl) (by kernel_rfl) (by kernel_rfl) (by omega) (by omega) ⟨(sc ((sc (sc (sc (sc (sc hB))))))), ((sets_all (us := (aS q.1 A5 n5 c5)) hx rfl).sn), by simpa using (((((((hy.sn).sn).sn).sn).sn)).set 0 (.int .i64 19)), (((((((hz.sn).sn).sn).sn).sn)).sn), (((((((hw_.sn).sn).sn).sn).sn)).sn), (((((((hG5.sl).sl).sl).sl).sl)).sl), by simp⟩ ?k0 ?k1 ?k2 ?k3 ?hQ
   case k0 | k1 | k2 | k3 =>
    exact ztkC2
   case hQ =>
    clear kx fx ky fy hB hx hy hz hw_ hs0 hG5
    generalize hq2 : (⟨19, v, r, t, seen, tr, sp, ag, re⟩ : Hd) = h2 at *
    exact ztkC1
end Go.Proofs.YthpckpnlohfcbaaGreatDoor
namespace Go.Proofs.YthpckpnlohfcbaaGreatDoor
set_option linter.unusedSimpArgs false
set_option linter.unusedVariables false
open Go.RowKit
set_option linter.unusedVariables false
theorem done_okT {c : St → Option St} {s : St} (h : stOk s = true) : stOk (done c s).1 = true := by
 cases hc : c s with
 | none => rw [done_no h hc]; exact h
 | some t =>
  rw [done_then h hc]
  cases ht : stOk t
  · exact h
  · exact ht
theorem restT_ok {h : Hd} (hok : h.ok = true) {re v : Int} (h0 : 0 ≤ re) (h4 : re ≤ 4) (hv : 0 ≤ v ∧ v ≤ 1000000) : ({ h.rest re with v := v } : Hd).ok = true := by
 simp only [Hd.ok, Hd.okA, Hd.okC, Bool.and_eq_true, inB, decide_eq_true_eq] at hok
 have h1 : -1 ≤ h.sp ∧ h.sp ≤ 15 := by omega
 simp [Hd.rest, Hd.zero, Hd.ok, Hd.okA, Hd.okC, inB, noB, putB, okB, h0, h4, h1.1, h1.2, hv.1, hv.2]
theorem seen_val {h : Hd} (hok : h.ok = true) : 0 ≤ h.seen.v ∧ h.seen.v ≤ 1000000 := by
 simp only [Hd.ok, Hd.okA, Bool.and_eq_true, inB, decide_eq_true_eq] at hok
 have := hok.1.2
 revert this
 unfold okB
 cases h.seen.f
 ·
  simp
  omega
 ·
  simp [valB]
  omega
theorem takes_ok {h : Hd} (hok : h.ok = true) {a t tr : Int} {ag : Bool} (ha : 13 ≤ a ∧ a ≤ 24) (ht : 0 ≤ t ∧ t ≤ 1000000) (htr : 0 ≤ tr ∧ tr ≤ 1000000) : ({ h with at_ := a, t := t, tr := tr, ag := ag } : Hd).ok = true := by
 simp only [Hd.ok, Hd.okA, Hd.okC, Bool.and_eq_true, inB, noB, putB, decide_eq_true_eq, Bool.or_eq_true, Bool.not_eq_true', Bool.and_eq_false_iff, decide_eq_false_iff_not] at hok ⊢
 exact ⟨⟨by omega, hok.1.2⟩, by omega⟩
theorem takeS_ok {s : St} (hok : stOk s = true) {h : Hd} (hho : h.ok = true) (hp : takeB h.at_ = true) (hrb : ringB s h.r = true) : stOk (takeS s h).1 = true ∧ (takeS s h).2.2 = (takeS s h).2.1.ok := by
 obtain ⟨ft, ftr⟩ := hd_nums hho
 have fsv := seen_val hho
 have hgr : stOk (grab s h).1 = true := by unfold grab; rw [swap_done]; exact done_okT hok
 have hsp : stOk (spoil s h).1 = true := by unfold spoil; rw [swap_done]; exact done_okT hok
 have hc : h.at_ = 13 ∨ h.at_ = 14 ∨ h.at_ = 15 ∨ h.at_ = 16 ∨ h.at_ = 17 ∨ h.at_ = 18 ∨ h.at_ = 19 ∨ h.at_ = 20 ∨ h.at_ = 21 ∨ h.at_ = 22 ∨ h.at_ = 23 ∨ h.at_ = 24 := by
  simp only [takeB, inB, Bool.and_eq_true, decide_eq_true_eq] at hp
  omega
 rcases hc with e | e | e | e | e | e | e | e | e | e | e | e
 ·
  have : takeS s h = take13 s h := by simp [takeS, e]
  rw [this]; exact ⟨hok, rfl⟩
 ·
  have : takeS s h = take14 s h := by simp [takeS, e]
  rw [this]
  constructor
  ·
   show stOk (takeTicket s h.r).1 = true
   rw [takeTicket_done]; exact done_okT hok
  ·
   simp only [take14, fin]
   cases hk : ({ h with t := (takeTicket s h.r).2, at_ := 15 } : Hd).ok
   · simp
   ·
    have := (hd_nums hk).1.1
    dsimp only at this
    simp [this]
 ·
  have : takeS s h = take15 s h := by simp [takeS, e]
  rw [this]; exact ⟨hok, rfl⟩
 ·
  have : takeS s h = take16 s h := by simp [takeS, e]
  rw [this]
  unfold take16
  split
  · exact ⟨hgr, (restT_ok hho (by omega) (by omega) fsv).symm⟩
  · exact ⟨hgr, rfl⟩
 ·
  have : takeS s h = take17 s h := by simp [takeS, e]
  rw [this]; exact ⟨hsp, rfl⟩
 ·
  have : takeS s h = take18 s h := by simp [takeS, e]
  rw [this]; exact ⟨hgr, rfl⟩
 ·
  have : takeS s h = take19 s h := by simp [takeS, e]
  rw [this]; exact ⟨hok, rfl⟩
 ·
  have : takeS s h = take20 s h := by simp [takeS, e]
  rw [this]; exact ⟨hok, rfl⟩
 ·
  have : takeS s h = take21 s h := by simp [takeS, fixS, e]
  rw [this]
  unfold take21
  split
  · exact ⟨hok, (takes_ok hho (a := 23) (ag := h.ag) (by omega) ft ftr).symm⟩
  ·
   obtain ⟨r, hr, ha, hm⟩ := ringB_some hrb
   have := (stOk_nums hok r hm).2.1
   rw [← ha] at this
   exact ⟨hok, (takes_ok hho (a := 22) (t := (s.at h.r).t) (ag := h.ag) (by omega) this ftr).symm⟩
 ·
  have : takeS s h = take22 s h := by simp [takeS, fixS, e]
  rw [this]
  unfold take22
  refine ⟨?_, ?_⟩
  ·
   show stOk (raiseTail s h.r h.t h.tr).1 = true
   rw [raise_done]; exact done_okT hok
  · exact (takes_ok hho (a := if (raiseTail s h.r h.t h.tr).2 then 23 else 20) (ag := h.ag) (by split <;> omega) ft ftr).symm
 ·
  have : takeS s h = take23 s h := by simp [takeS, fixS, e]
  rw [this]
  unfold take23
  split
  · exact ⟨hok, (takes_ok hho (a := 24) (ag := h.ag) (by omega) ft ftr).symm⟩
  ·
   split
   · exact ⟨hok, (restT_ok hho (re := 3) (v := 0) (by omega) (by omega) (by omega)).symm⟩
   · exact ⟨hok, (takes_ok hho (a := 14) (ag := true) (by omega) ft ftr).symm⟩
 ·
  have : takeS s h = take24 s h := by simp [takeS, fixS, e]
  rw [this]
  unfold take24
  refine ⟨?_, (takes_ok hho (a := 13) (ag := false) (by omega) ft ftr).symm⟩
  show stOk (swing s false h.r (s.at h.r).x).1 = true
  rw [swing_done]; exact done_okT hok
theorem stepS_take {s : St} (hok : stOk s = true) {h : Hd} (hho : h.ok = true) (hp : takeB h.at_ = true) (hrb : ringB s h.r = true) :
  stepS takeS takeB s h = if (takeS s h).2.1.ok then ((takeS s h).1, (takeS s h).2.1, true) else (s, h, false) := by
 obtain ⟨h1, h2⟩ := takeS_ok hok hho hp hrb
 unfold stepS
 rw [hok, hho, hp, hrb, h1, h2]
 simp only [Bool.not_true, Bool.or_false, Bool.false_eq_true, if_false]
 cases (takeS s h).2.1.ok <;> rfl
theorem late_take {h : Hd} (hho : h.ok = true) : lateB h.at_ = takeB h.at_ := by
 have := hd_at hho
 simp only [lateB, takeB, inB]
 by_cases h1 : h.at_ < 13
 ·
  simp [h1]
  omega
 · simp [show 13 ≤ h.at_ by omega, h1, this]
theorem stepS_late (s : St) (h : Hd) : stepS takeS lateB s h = stepS takeS takeB s h := by
 unfold stepS
 cases hho : h.ok
 · simp
 · rw [late_take hho]
end Go.Proofs.YthpckpnlohfcbaaGreatDoor
namespace Go.Proofs.YthpckpnlohfcbaaGreatDoor
set_option linter.unusedSimpArgs false
set_option linter.unusedVariables false
open Go.RowKit
set_option linter.unusedVariables false
attribute [local go_sem] OpUpon
attribute [local go_sem ↓] Go.wp_at_zero Go.wp_at_succ
set_option maxRecDepth 100000 in
set_option maxHeartbeats 4000000 in
theorem itakeOn_any (s : St) (A : Option Addr) (n cap lo hi B : Nat) (a0 a1 a2 a3 a4 a5 : Addr) (h : Hd) (w : World) (hs : RgsW lo hi w A n cap s.rs) (hh : hi ≤ w.heap.size) (hok : stOk s = true) (hrb : ringB s h.r = true) (hE : SntT B a0 a1 a2 a3 a4 a5 w) (hho : h.ok = true) (hp : takeB h.at_ = true) :
  Calls Tryz.prog 88 #[stV s A n cap, hdV h] w (RetSH (PH (takeS s h)) w) := by
 have ht := (hd_nums hho).1
 clear hho
 have hp' : 13 ≤ h.at_ ∧ h.at_ ≤ 24 := by simpa [takeB, inB] using hp
 obtain ⟨at_, v, r, t, seen, tr, sp, ag, re⟩ := h
 dsimp only at hrb ht hp'
 have HON := Lib.hid (fun (h19 : 19 ≤ at_) (W : World) (hBW : Below w.heap.size w W) => ion_any s A n cap lo hi B a0 a1 a2 a3 a4 a5 at_ v r t seen tr sp ag re W (hs.below hBW hh) (Nat.le_trans hh hBW.size) hok hrb (hE.below hBW) ht ⟨h19, hp'.2⟩)
 have HGO := Lib.hid (fun (h19 : ¬ 19 ≤ at_) (W : World) (hBW : Below w.heap.size w W) => igo_any s A n cap lo hi B a0 a1 a2 a3 a4 a5 at_ v r t seen tr sp ag re W (hs.below hBW hh) (Nat.le_trans hh hBW.size) hok hrb (hE.below hBW) ht ⟨hp'.1, by omega⟩)
 generalize PH (takeS s (⟨at_, v, r, t, seen, tr, sp, ag, re⟩ : Hd)) = q at *
 unfold stV hdV at HON HGO
 clear hE hok hrb hp hp'
 unfold stV hdV
 dsimp only at HON HGO ⊢
 go_enter Tryz.func88, Tryz.ntmps88
 go_upto_region 1 with fail
 refine wp_abs (fun W => Below w.heap.size w W ∧ BoxAt W w.heap.size (aS s A n cap) 32 ∧ BoxAt W (w.heap.size + 1) (dH at_ v r t seen tr sp ag re) 35 ∧ BoxAt W (w.heap.size + 1 + 1) zS 32 ∧ BoxAt W (w.heap.size + 1 + 1 + 1) zH 35) ⟨(((((Below.refl _ _).alloc (Nat.le_refl _) _).alloc (by simp) _).alloc (by simp; omega) _).alloc (by simp; omega) _), (((BoxAt.new _ _ _).alloc _).alloc _).alloc _, ((BoxAt.new' (by simp)).alloc _).alloc _, (BoxAt.new' (by simp)).alloc _, BoxAt.new' (by simp)⟩ ?_
 rintro W0 ⟨hB, hx, hy, hz, hw_⟩
 have lw0 := hw_.lt
 have hs0 := hs.below hB hh
 have kx := hx.cell
 have ky := hy.cell
 have fy := hy.frozen
 by_cases h19 : 19 ≤ at_
 ·
  go_wp2_with fail
  clear kx ky fy hs0
  refine (HON.out h19 _ hB).mono ?_
  exact ztkC3
 ·
  go_wp2_with fail
  clear kx ky fy hs0
  refine (HGO.out h19 _ hB).mono ?_
  exact ztkC3
set_option maxRecDepth 100000 in
set_option maxHeartbeats 4000000 in
theorem imayTake_any (s : St) (A : Option Addr) (n cap : Nat) (h : Hd) (w : World) (hn : s.rs.length = n) (hm : n ≤ 1048576) :
  Calls Tryz.prog 87 #[stV s A n cap, hdV h] w (RetBelow (.bool (takeB h.at_ && ringB s h.r)) w) := by
 have HN := Lib.hid hn; clear hn
 obtain ⟨at_, v, r, t, seen, tr, sp, ag, re⟩ := h
 have hkn : (kindN at_ = 3 ∧ takeB at_ = true) ∨ (kindN at_ ≠ 3 ∧ takeB at_ = false) := by
  by_cases h1 : 13 ≤ at_ ∧ at_ ≤ 24
  ·
   left
   refine ⟨?_, by simp [takeB, inB, h1]⟩
   unfold kindN
   rw [if_neg (by omega), if_neg (by omega), if_pos h1]
  ·
   right
   refine ⟨?_, by simp only [takeB, inB, Bool.and_eq_false_iff, decide_eq_false_iff_not]; omega⟩
   unfold kindN
   repeat' split
   all_goals omega
 unfold stV hdV
 dsimp only
 go_enter Tryz.func87, Tryz.ntmps87
 go_upto_region 1 with fail
 refine wp_abs (fun W => Below w.heap.size w W ∧ BoxAt W w.heap.size (aS s A n cap) 32 ∧ BoxAt W (w.heap.size + 1) (dH at_ v r t seen tr sp ag re) 35) ⟨((Below.refl _ _).alloc (Nat.le_refl _) _).alloc (by simp) _, (BoxAt.new _ _ _).alloc _, BoxAt.new' (by simp)⟩ ?_
 rintro W ⟨hB, hx, hy⟩
 have kx := hx.cell
 have ky := hy.cell
 go_wp2_with fail
 refine (kindOf_any _ _).mono ?_
 rintro e w' ⟨rfl, rfl⟩
 generalize kindN at_ = kn at *
 rcases hkn with ⟨rfl, hk⟩ | ⟨hk0, hk⟩
 ·
  have HK := Lib.hid hk; clear hk
  go_wp2_with fail
  clear kx ky
  refine (hasRing_any s A n cap r _ HN.out hm).mono ?_
  rintro e w1 ⟨rfl, hb⟩
  replace hB := bstep hB hB.size hb
  clear hb hx hy
  generalize ringB s r = z at *
  go_wp2
  go_ret
  exact .mk (by rw [HK.out, Bool.true_and]; rfl) hB
 ·
  have HK := Lib.hid hk; clear hk
  go_wp2
  go_ret
  exact .mk (by rw [HK.out, Bool.false_and]; rfl) hB
theorem oneQ_take {s : St} {h : Hd} : oneQ (takeB h.at_ && ringB s h.r) (PH (takeS s h)) s h = stepS takeS lateB s h := by
 rw [stepS_late]
 unfold oneQ
 cases hok : stOk s
 · simp [stepS, hok]
 cases hho : h.ok
 · simp [stepS, hok, hho]
 cases hp : takeB h.at_
 · simp [stepS, hok, hho, hp]
 cases hr : ringB s h.r
 · simp [stepS, hok, hho, hp, hr]
 rw [stepS_take hok hho hp hr]
 rfl
set_option maxRecDepth 100000 in
set_option maxHeartbeats 4000000 in
theorem itakeStep_any (s : St) (A : Option Addr) (n cap lo hi B : Nat) (a0 a1 a2 a3 a4 a5 : Addr) (h : Hd) (w : World) (hs : RgsW lo hi w A n cap s.rs) (hh : hi ≤ w.heap.size) (hm : n ≤ 1048576) (hpn : ∀ r ∈ s.rs, r.ps.length ≤ 1048576) (hE : SntT B a0 a1 a2 a3 a4 a5 w) :
  Calls Tryz.prog 55 #[stV s A n cap, hdV h] w (RetSHBD (stepS takeS lateB s h) w) := by
 have hln := hs.1
 have HQ := Lib.hid (fun (W : World) (hBW : Below w.heap.size w W) => ione_any s A n cap lo hi h 87 88 (takeB h.at_ && ringB s h.r) (PH (takeS s h)) W (hs.below hBW hh) (Nat.le_trans hh hBW.size) hm hpn (enters_of Tryz.func87 (by kernel_rfl) rfl) (enters_of Tryz.func88 (by kernel_rfl) rfl)
  (fun _ _ W' _ => imayTake_any s A n cap h W' hln hm)
  (fun hok hho hmb => by
   simp only [Bool.and_eq_true] at hmb
   exact ⟨(takeS_ok hok hho hmb.1 hmb.2).1, fun W' hB' => itakeOn_any s A n cap lo hi B a0 a1 a2 a3 a4 a5 h W' ((hs.below hBW hh).below hB' (Nat.le_trans hh hBW.size)) (Nat.le_trans hh (Nat.le_trans hBW.size hB'.size)) hok hmb.2 ((hE.below hBW).below hB') hho hmb.1⟩))
 rw [oneQ_take] at HQ
 generalize stepS takeS lateB s h = q at *
 clear hE hpn hln
 obtain ⟨at_, v, r, t, seen, tr, sp, ag, re⟩ := h
 unfold stV hdV at HQ
 unfold stV hdV
 dsimp only at HQ ⊢
 go_enter Tryz.func55, Tryz.ntmps55
 go_upto_region 1 with fail
 refine wp_abs (fun W => Below w.heap.size w W ∧ BoxAt W w.heap.size (aS s A n cap) 32 ∧ BoxAt W (w.heap.size + 1) (dH at_ v r t seen tr sp ag re) 35 ∧ BoxAt W (w.heap.size + 1 + 1) zS 32 ∧ BoxAt W (w.heap.size + 1 + 1 + 1) zH 35) ⟨(((((Below.refl _ _).alloc (Nat.le_refl _) _).alloc (by simp) _).alloc (by simp; omega) _).alloc (by simp; omega) _), (((BoxAt.new _ _ _).alloc _).alloc _).alloc _, ((BoxAt.new' (by simp)).alloc _).alloc _, (BoxAt.new' (by simp)).alloc _, BoxAt.new' (by simp)⟩ ?_
 rintro W0 ⟨hB, hx, hy, hz, hw_⟩
 have lw0 := hw_.lt
 have hs0 := hs.below hB hh
 have kx := hx.cell
 have ky := hy.cell
 have fy := hy.frozen
 go_wp2_with fail
 clear kx ky fy hs0
 refine (HQ.out _ hB).mono ?_
 rintro e w1 ⟨A5, n5, c5, rfl, hG, hb⟩
 replace hz := hz.below hb hz.lt
 replace hw_ := hw_.below hb hw_.lt
 have l1 := hb.size
 have l0 := hB.size
 replace hG := hG.mono (Nat.le_refl _) (Nat.le_refl _)
 replace hB := bstep hB hB.size hb
 clear hb
 unfold stV hdV
 have kz := hz.cell
 have fz := hz.frozen
 have kw := hw_.cell
 have fw := hw_.frozen
 go_wp2
 refine bodyPost_ret (v := .tuple #[stV q.1 A5 n5 c5, hdV q.2.1, q.2.2]) (by simp [results, Tryz.results55, go_sem, kz, kw, stV, hdV]) rfl ⟨A5, n5, c5, rfl, ?_, ?_⟩
 · exact (RgsD.setsT (RgsD.setsT hG hz (by decide) (by decide) (aS q.1 A5 n5 c5) 0) (BoxAt.sets_ne (aS q.1 A5 n5 c5) 0 hw_ (by omega)) (by decide) (by decide) (aH q.2.1) 0).mono l0 (by simp)
 · exact Below.setCells (by omega) (aH q.2.1) 0 (Below.setCells (by omega) (aS q.1 A5 n5 c5) 0 hB)
end Go.Proofs.YthpckpnlohfcbaaGreatDoor

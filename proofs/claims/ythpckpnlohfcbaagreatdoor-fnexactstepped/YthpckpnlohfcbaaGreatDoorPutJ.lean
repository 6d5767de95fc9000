/-
 The walk of a step of one who puts, of the model: a ring of its own is set up anew.
-/
import Derived.Test.YthpckpnlohfcbaaGreatDoorMake
import Derived.Test.YthpckpnlohfcbaaGreatDoorPut6
namespace Go.Proofs.YthpckpnlohfcbaaGreatDoor
set_option linter.unusedSimpArgs false
set_option linter.unusedVariables false
open Go.RowKit
set_option linter.unusedVariables false
attribute [local go_sem] OpUpon
attribute [local go_sem ↓] Go.wp_at_zero Go.wp_at_succ
theorem zputJ0 {p : Prop} (h : p := by
 clear hw hcl hL hC
 refine OpGoes.go fun K hK => ?_
 go_simp
 exact hK _ _ ⟨rfl, rfl⟩) : p := h -- ee92c020
theorem zputJ1 {p : Prop} (h : p := by
 clear hB hx hy hz hw_
 obtain ⟨hB, hx, hy, hz, hw_, rfl⟩ := hcut
 have hs0 := hs.below hB hh
 have lwc := hw_.lt
 have ky := hy.cell
 have fy := hy.frozen
 go_upto_region 50 with fail
 have HV := Lib.hid (show put8 s ⟨8, v, r, t, seen, tr, sp, ag, re⟩ = (s, (⟨9, v, r, t, seen, (tr + 1), sp, ag, re⟩ : Hd), ((⟨9, v, r, t, seen, (tr + 1), sp, ag, re⟩ : Hd)).ok) by simp only [put8, HAT.out, HD8.out, if_true]; rfl)
 refine p6T_wp w s lo hi (some ⟨b, 0, none⟩) n cap (⟨9, v, r, t, seen, (tr + 1), sp, ag, re⟩ : Hd) (by kernel_rfl) (by omega) ⟨(sc hB), (hx.sn), by simpa using (hy.set 0 (.int .i64 9)), (hz.sn), (hw_.sn), (hs0.sr), by simp; omega⟩ ?_
 clear ky fy hB hx hy hz hw_ hs0
 generalize hq2 : (⟨9, v, r, t, seen, (tr + 1), sp, ag, re⟩ : Hd) = h2 at *
 clear hq2
 intro _ _ _ _ _ _ _ W' hB k7 k8 hG _
 replace k7 := k7.cell
 replace k8 := k8.cell
 go_step
 go_wp2
 refine bodyPost_ret (v := .tuple #[stV s (some ⟨b, 0, none⟩) n cap, hdV h2, .bool (h2.ok)]) (by simp [results, Tryz.results50, go_sem, k7, k8, stV, hdV]) rfl ⟨(some ⟨b, 0, none⟩), n, cap, by rw [HV.out], ?_, hB⟩
 rw [HV.out]
 exact hG.cut.mono (by omega) (Nat.le_refl _)) : p := h -- 0769b9a9
theorem zputJ2 {p : Prop} (h : p := by
 clear hq5
 unfold stV hdV
 have kz := hz.cell
 have fz := hz.frozen
 have kw := hw_.cell
 have fw := hw_.frozen
 go_wp2
 refine bodyPost_ret (v := .tuple #[stV q.1 A5 n5 c5, hdV q.2.1, q.2.2]) (by simp [results, Tryz.results50, go_sem, kz, kw, stV, hdV]) rfl ⟨A5, n5, c5, by rw [HV.out], ?_, ?_⟩
 ·
  rw [HV.out]
  exact (RgsW.setsT (RgsW.setsT hG5 hz (by decide) (by decide) (aS q.1 A5 n5 c5) 0) (BoxAt.sets_ne (aS q.1 A5 n5 c5) 0 hw_ (by omega)) (by decide) (by decide) (aH q.2.1) 0).mono (Nat.le_refl _) (by simp)
 · exact Below.setCells (by omega) (aH q.2.1) 0 (Below.setCells (by omega) (aS q.1 A5 n5 c5) 0 hB)) : p := h -- 71f29b2c
theorem zputJ3 {p : Prop} (h : p := by
 intro σ L W' hall hC hRR
 obtain ⟨hB, hx, hy, hz, hw_, hc⟩ := hC
 have e15 := dV hRR 15 rfl
 clear hRR
 simp only [lexAll]
 go_simp
 go_step
 go_meet
 exact ⟨hB, hx, hy, hz, hw_, rfl⟩) : p := h -- 755b0c40
theorem zputJ4 {p : Prop} (h : p := by
 intro L L' W' hLL hC
 obtain ⟨hB, hx, hy, hz, hw_, hc⟩ := hC
 exact ⟨hB, hx, hy, hz, hw_, hc⟩) : p := h -- 6a3a677b
theorem zputJ5 {p : Prop} (h : p := by
 intros
 rename_i k
 have kc_ := k.cell
 have kf_ := k.frozen
 refine OpGoes.go fun K hK => ?_
 go_simp
 first | exact hK _ _ ⟨rfl, rfl⟩ | exact hK _ _ rfl) : p := h -- e92ca8c3

theorem rgs_seed {Q M : Nat} {w : World} {b n c i : Nat} {rows : List Rw} {L : List Rg} {a' : Rw} {r' : Rg} (hR : RwsO Q w b n c (rows.set i a')) (hC : CopyOf Q w rows L) (hl : L.length = n) (hi : i < n)
  (e1 : a'.h = r'.h) (e2 : a'.t = r'.t) (e3 : a'.c = r'.c) (e4 : a'.x = r'.x) {g : Nat} (hg : a'.A = some ⟨g, 0, none⟩) (hp : PlsO M w g a'.n a'.cap r'.ps) (hM : Q ≤ M) : RgsW Q w.heap.size w (some ⟨b, 0, none⟩) n c (L.set i r') := by
 have hrl : rows.length = n := by have := hR.1; simpa using this
 refine ⟨by simpa using hl, fun _ => ⟨b, _, rfl, Own.lt hR, hR, fun j a ha => ?_⟩⟩
 by_cases hj : i = j
 ·
  subst hj
  rw [List.getElem?_set_self (by omega)] at ha
  injection ha with ha
  subst ha
  exact ⟨r', List.getElem?_set_self (by omega), e1, e2, e3, e4, hp.1, fun _ => ⟨g, hg, Own.lt hp, hp.mono hM⟩⟩
 ·
  rw [List.getElem?_set_ne hj] at ha ⊢
  obtain ⟨r, hr, h1, h2, h3, h4, h5, g2, hg2, ho⟩ := hC.1 j a ha
  exact ⟨r, hr, h1, h2, h3, h4, ho.1, fun _ => ⟨g2, hg2, Own.lt ho, ho⟩⟩
def mk8V (s : St) (N Q M b1 n c1 q : Nat) (rows : List Rw) (v r t : Int) (seen : Pl) (tr sp : Int) (ag : Bool) (re : Int) : List Sl := [.v (.pointer (some ⟨N, 2, none⟩)),
 .v (.slice (some ⟨b1, 0, none⟩) n c1),
 .v (.pointer (some ⟨(N + 1), 9, none⟩)),
 .v sp,
 .v (pT N),
 .v s.rd,
 .v (.pointer (some ⟨(N + 1), 1, none⟩)),
 .v v,
 .e fun σ w => ∃ (g cg : Nat), σ 8 = .agg #[.int .i64 0, .int .i64 1, .bool false, .int .i64 ((-1)), .slice (some ⟨g, 0, none⟩) q cg] ∧ PlsO M w g q cg (seeded q v),
 .v (.pointer (some ⟨b1, sp.toNat * 5, none⟩)),
 .e fun σ w => ∃ (g cg : Nat), RwsO Q w b1 n c1 (rows.set sp.toNat (⟨0, 1, false, -1, some ⟨g, 0, none⟩, q, cg⟩ : Rw)) ∧ PlsO M w g q cg (seeded q v)]
set_option maxRecDepth 100000 in
set_option maxHeartbeats 4000000 in
theorem l6Make_10b (s : St) (A : Option Addr) (n cap lo hi : Nat) (v r t : Int) (seen : Pl) (tr sp : Int) (ag : Bool) (re : Int) (w : World) (hs : RgsW lo hi w A n cap s.rs) (hh : hi ≤ w.heap.size) (hlo : lo ≤ w.heap.size) (hok : stOk s = true) (hsp : 0 ≤ sp) :
  Calls Tryz.prog 76 #[stV s A n cap, hdV ⟨10, v, r, t, seen, tr, sp, ag, re⟩] w (RetSHB lo (make10 s ⟨10, v, r, t, seen, tr, sp, ag, re⟩) w) := by
 have HOK := Lib.hid hok
 have HLN := Lib.hid hs.1
 have HNT := Lib.hid (stOk_neat hok)
 clear hok
 have HSP := Lib.hid hsp
 have hrd := stOk_rd HOK.out
 unfold stV hdV
 dsimp only
 go_enter Tryz.func76, Tryz.ntmps76
 go_upto_region 3 with fail
 refine wp_abs (fun W => Below w.heap.size w W ∧ BoxAt W w.heap.size (aS s A n cap) 32 ∧ BoxAt W (w.heap.size + 1) (dH 10 v r t seen tr sp ag re) 35 ∧ BoxAt W (w.heap.size + 1 + 1) zS 32 ∧ BoxAt W (w.heap.size + 1 + 1 + 1) zH 35) ⟨(((((Below.refl _ _).alloc (Nat.le_refl _) _).alloc (by simp) _).alloc (by simp; omega) _).alloc (by simp; omega) _), (((BoxAt.new _ _ _).alloc _).alloc _).alloc _, ((BoxAt.new' (by simp)).alloc _).alloc _, (BoxAt.new' (by simp)).alloc _, BoxAt.new' (by simp)⟩ ?_
 rintro W0 ⟨hB, hx, hy, hz, hw_⟩
 have lw0 := hw_.lt
 have hs0 := hs.below hB hh
 have kx := hx.cell
 have ky := hy.cell
 have fy := hy.frozen
 go_upto_region 5 with fail
 refine wp_abs (fun W => Below w.heap.size w W ∧ BoxAt W w.heap.size (aS s A n cap) 32 ∧ BoxAt W (w.heap.size + 1) (dH 11 v r t seen tr sp ag re) 35 ∧ BoxAt W (w.heap.size + 1 + 1) zS 32 ∧ BoxAt W (w.heap.size + 1 + 1 + 1) zH 35) ⟨sc hB, hx.sn, by simpa using hy.set 0 (.int .i64 11), hz.sn, hw_.sn⟩ ?_
 clear hB hx hy hz hw_ lw0 hs0 kx ky fy
 rintro W0 ⟨hB, hx, hy, hz, hw_⟩
 have lw0 := hw_.lt
 have hs0 := hs.below hB hh
 have kx := hx.cell
 have ky := hy.cell
 have fy := hy.frozen
 go_wp2_with fail
 clear kx ky fy
 refine (l4Ring_any s A n cap sp _ HLN.out (by have := HNT.out.2.1; have := HLN.out; omega)).mono ?_
 rintro e w1 ⟨rfl, hb1⟩
 replace hx := hx.below hb1 hx.lt
 replace hy := hy.below hb1 hy.lt
 replace hz := hz.below hb1 hz.lt
 replace hw_ := hw_.below hb1 hw_.lt
 replace hB := bstep hB hB.size hb1
 clear hb1 hs0 lw0
 have hs0 := hs.below hB hh
 have lw0 := hw_.lt
 have kx := hx.cell
 have fx := hx.frozen
 have ky := hy.cell
 cases hrb : ringB s sp
 ·
  have HRB := Lib.hid hrb; clear hrb
  go_upto_region 6 with fail
  have HV := Lib.hid (show make10 s ⟨10, v, r, t, seen, tr, sp, ag, re⟩ = (s, (⟨11, v, r, t, seen, tr, sp, ag, re⟩ : Hd), false) by unfold make10; dsimp only; rw [if_pos HSP.out, HRB.out]; rfl)
  refine ret4b w false s lo hi A n cap (⟨11, v, r, t, seen, tr, sp, ag, re⟩ : Hd) w.heap.size (w.heap.size + 1) (by kernel_rfl) (by kernel_rfl) (by kernel_rfl) (by kernel_rfl) (by omega) (by omega) ⟨hB, hx, hy, hz, hw_, hs0, by omega⟩ ?k0 ?k1 ?k2 ?k3 ?k4 ?hQ
  case k0 | k1 | k2 | k3 =>
   exact zputJ5
  case k4 =>
   intros
   refine OpGoes.go fun K hK => ?_
   go_simp
   exact hK _ _ ⟨rfl, rfl⟩
  case hQ =>
   clear kx fx ky hB hx hy hz hw_ hs0
   generalize hq2 : (⟨11, v, r, t, seen, tr, sp, ag, re⟩ : Hd) = h2 at *
   clear hq2
   intro σ W' e_ hB k7 k8 hG _
   replace k7 := k7.cell
   replace k8 := k8.cell
   simp only [lexAll]
   go_simp
   go_step
   go_wp2
   refine bodyPost_ret (v := .tuple #[stV s A n cap, hdV h2, .bool false]) (by simp [results, Tryz.results76, go_sem, k7, k8, stV, hdV, Hd.rest, Hd.zero]) rfl ⟨A, n, cap, by rw [HV.out], ?_, hB⟩
   rw [HV.out]
   exact hG.cut.mono (by omega) (Nat.le_refl _)
 ·
  have HRB := Lib.hid hrb
  have hspn : sp < (n : Int) := by
   simp only [ringB, inB, Bool.and_eq_true, decide_eq_true_eq] at hrb
   have := HLN.out
   omega
  clear hrb
  go_wp2_with fail
  clear kx fx ky
  refine (l3Copy_any s A n cap lo hi _ hs0 (Nat.le_trans hh hB.size) (by have := HNT.out.1; have := HLN.out; omega) (by have := HNT.out.2.1; have := HLN.out; omega) HNT.out.cp).mono ?_
  rintro e w2 ⟨b1, c1, rows, rfl, hR, hC, hb2⟩
  unfold stV
  replace hx := hx.below hb2 hx.lt
  replace hy := hy.below hb2 hy.lt
  replace hz := hz.below hb2 hz.lt
  replace hw_ := hw_.below hb2 hw_.lt
  have h2 := hb2.size
  replace hB := bstep hB hB.size hb2
  clear hb2 hs0
  have kx := hx.cell
  have fx := hx.frozen
  have hQ4 : w.heap.size + 4 ≤ w1.heap.size := by omega
  have hb1Q := hR.2.1
  have hb1l := Own.lt hR
  go_upto_region 8 with fail
  refine wp_abs (fun W => Below w.heap.size w W ∧ BoxAt W w.heap.size (aS s (some ⟨b1, 0, none⟩) n c1) 32 ∧ BoxAt W (w.heap.size + 1) (dH 11 v r t seen tr sp ag re) 35 ∧ BoxAt W (w.heap.size + 1 + 1) zS 32 ∧ BoxAt W (w.heap.size + 1 + 1 + 1) zH 35 ∧ RwsO w1.heap.size W b1 n c1 rows ∧ CopyOf w1.heap.size W rows s.rs ∧ w2.heap.size ≤ W.heap.size) ⟨(sc (sc (sc (sc (sc hB))))), sets_all (us := (aS s (some ⟨b1, 0, none⟩) n c1)) hx rfl, (((((hy.sn).sn).sn).sn).sn), (((((hz.sn).sn).sn).sn).sn), (((((hw_.sn).sn).sn).sn).sn), Own.sets_ne hR (show b1 ≠ w.heap.size by omega) (aS s (some ⟨b1, 0, none⟩) n c1) 0, CopyOf.setCells (aS s (some ⟨b1, 0, none⟩) n c1) 0 hx (by decide) hC, by simp⟩ ?_
  clear kx fx hB hx hy hz hw_ hR hC
  obtain ⟨Q, hQe⟩ : ∃ Q, w1.heap.size = Q := ⟨_, rfl⟩
  rw [hQe] at hQ4 hb1Q h2 ⊢
  obtain ⟨M, hMe⟩ : ∃ M, w2.heap.size = M := ⟨_, rfl⟩
  rw [hMe] at h2 hb1l ⊢
  clear hQe hMe
  rintro W2 ⟨hB, hx, hy, hz, hw_, hRw, hC, hM⟩
  obtain ⟨q, hq⟩ : ∃ q : Nat, s.rd = q := ⟨s.rd.toNat, by omega⟩
  have HQR := Lib.hid (show s.rd.toNat = q by omega)
  have HCON := Lib.hid (show ∀ W : World, Calls Tryz.prog 95 #[s.rd, v] W (RetRg 0 1 false (-1) q (seeded q v) W) from fun W => by rw [hq]; exact l2Seed_any q v W (by omega) (by omega))
  unfold RetRg rgV at HCON
  clear hq
  have lw3 := hw_.lt
  go_cut [39] (fun _ W' => Below w.heap.size w W' ∧ BoxAt W' w.heap.size (aS s (some ⟨b1, 0, none⟩) n c1) 32 ∧ BoxAt W' (w.heap.size + 1) (dH 11 v r t seen tr sp ag re) 35 ∧ BoxAt W' (w.heap.size + 1 + 1) zS 32 ∧ BoxAt W' (w.heap.size + 1 + 1 + 1) zH 35 ∧ RgsW Q W'.heap.size W' (some ⟨b1, 0, none⟩) n c1 (s.rs.set sp.toNat ⟨0, 1, false, -1, seeded q v⟩))
  case first =>
   refine wp_region2v (fun w w' => Below w.heap.size w w') (fun _ _ h => h.size) (fun _ => Below.refl _ _) (fun L W' => Below w.heap.size w W' ∧ BoxAt W' w.heap.size (aS s (some ⟨b1, 0, none⟩) n c1) 32 ∧ BoxAt W' (w.heap.size + 1) (dH 11 v r t seen tr sp ag re) 35 ∧ BoxAt W' (w.heap.size + 1 + 1) zS 32 ∧ BoxAt W' (w.heap.size + 1 + 1 + 1) zH 35 ∧ CopyOf Q W' rows s.rs ∧ M ≤ W'.heap.size ∧ (L 10 = false → RwsO Q W' b1 n c1 rows)) (mk8V s w.heap.size Q M b1 n c1 q rows v r t seen tr sp ag re) (fun j => [0, 0, 0, 0, 0, 0, 0, 0, 0, 0, 1].getD j 0) [] (by kernel_rfl) (by kernel_rfl) ?_ ?_ ?_
    (.still rfl ?a0 <| .still rfl ?a1 <| .still rfl ?a2 <| .still rfl ?a3 <| .still rfl ?a4 <| .still rfl ?a5 <| .still rfl ?a6 <| .still rfl ?a7 <| .grow rfl ?a8 <| .still rfl ?a9 <| .store rfl ?a10 <| .nil) ?_ ?_
   · exact ⟨fun _ _ _ h ⟨g, cg, e, hp⟩ => ⟨g, cg, (h 8 (List.mem_singleton.2 rfl)).symm.trans e, hp⟩, fun _ _ _ _ h => h, trivial⟩
   · exact ⟨fun σ w w' hb ⟨g, cg, e, hp⟩ => ⟨g, cg, e, hp.below hb⟩, fun σ w w' hb ⟨g, cg, hp⟩ => ⟨g, cg, Own.below hp.1 hb, hp.2.below hb⟩, trivial⟩
   · exact ⟨hB.drew, hx, hy, hz, hw_, hC, hM, fun _ => hRw⟩
   case a0 | a2 | a4 | a6 =>
    go_light
    intro L σ W' hcl hL hC hw
    exact zputJ0
   case a1 | a5 =>
    go_light
    intro L σ W' hcl hL hC hw
    try have e0 := wT hw 0 rfl
    try have e4 := wT hw 4 rfl
    have ks := hC.2.1.cell
    exact zputJ0
   case a3 | a7 =>
    go_light
    intro L σ W' hcl hL hC hw
    try have e2 := wT hw 2 rfl
    try have e6 := wT hw 6 rfl
    have kh := hC.2.2.1.cell
    exact zputJ0
   case a8 =>
    go_light
    intro L σ W' hcl hL hC hw
    have e5 := wV hw 5 rfl
    have e7 := wV hw 7 rfl
    clear hw
    have HC := Lib.hid hC
    clear hC
    clear hcl hL
    refine OpGoes.go fun K hK => ?_
    go_simp
    obtain ⟨hB, hx, hy, hz, hw_, hC, hM, hRw⟩ := HC.out
    refine (HCON.out _).mono ?_
    rintro e w1 ⟨g, cg, rfl, hO8, hb1⟩
    exact ⟨_, rfl, hK _ _ ⟨⟨bstep hB hB.size hb1, hx.below hb1 hx.lt, hy.below hb1 hy.lt, hz.below hb1 hz.lt, hw_.below hb1 hw_.lt, hC.below hb1, Nat.le_trans hM hb1.size, fun h => Own.below (hRw (by simpa [upd] using h)) hb1⟩, ⟨g, cg, rfl, hO8.mono hM⟩, hb1⟩⟩
   case a9 =>
    go_light
    intro L σ W' hcl hL hC hw
    have e1 := wV hw 1 rfl
    have e3 := wV hw 3 rfl
    have b1_ : (0 : Int) ≤ sp := by omega
    have b2_ : sp < (n : Int) := by omega
    exact zputJ0
   case a10 =>
    go_light
    intro L σ W' hcl hL hC hw hne
    obtain ⟨g, cg, e8, hp8⟩ := wE hw 8 rfl
    have e9 := wV hw 9 rfl
    clear hw hne
    obtain ⟨hB, hx, hy, hz, hw_, hC, hM, hRw⟩ := hC
    have hR10 := (hRw hL)
    obtain ⟨a0, ha0⟩ : ∃ a0, rows[sp.toNat]? = some a0 := ⟨_, List.getElem?_eq_getElem (by have := hR10.1; omega)⟩
    have d0 := Own.cell_ Rw.cs_len hR10 (j := 0) ha0 rfl
    have d1 := Own.cell_ Rw.cs_len hR10 (j := 1) ha0 rfl
    have d2 := Own.cell_ Rw.cs_len hR10 (j := 2) ha0 rfl
    have d3 := Own.cell_ Rw.cs_len hR10 (j := 3) ha0 rfl
    have d4 := Own.cell_ Rw.cs_len hR10 (j := 4) ha0 rfl
    rw [Nat.add_zero] at d0
    have df := Own.frozen_ hR10
    have HB_ := Lib.hid hB
    have HX_ := Lib.hid hx
    have HY_ := Lib.hid hy
    have HZ_ := Lib.hid hz
    have HW_ := Lib.hid hw_
    have HC_ := Lib.hid hC
    have HM_ := Lib.hid hM
    have HR_ := Lib.hid hR10
    have HP_ := Lib.hid hp8
    have hb1w := hR10.2.1
    clear hB hx hy hz hw_ hC hM hRw hR10 ha0 hp8
    clear hcl hL
    refine OpGoes.go fun K hK => ?_
    go_simp
    have hset := Own.setEl HR_.out Rw.cs_len (by omega) (i := sp.toNat) (by omega) (⟨0, 1, false, -1, some ⟨g, 0, none⟩, q, cg⟩ : Rw)
    obtain ⟨csb, hbb⟩ : ∃ cs, BoxAt W' b1 cs 79 := by obtain ⟨_, _, _, _, cur, hb, _⟩ := HR_.out; exact ⟨cur, hb⟩
    refine hK _ _ ⟨⟨(sc (sc (sc (sc (sc HB_.out))))), (((((HX_.out.sn).sn).sn).sn).sn), (((((HY_.out.sn).sn).sn).sn).sn), (((((HZ_.out.sn).sn).sn).sn).sn), (((((HW_.out.sn).sn).sn).sn).sn), CopyOf.setCells (⟨0, 1, false, -1, some ⟨g, 0, none⟩, q, cg⟩ : Rw).cs (sp.toNat * 5) hbb (by decide) HC_.out, by simpa using HM_.out, fun h => absurd h (by simp [upd])⟩, ⟨g, cg, hset, (((((HP_.out.set_ne (by have := HP_.out.ge; omega) _ _).set_ne (by have := HP_.out.ge; omega) _ _).set_ne (by have := HP_.out.ge; omega) _ _).set_ne (by have := HP_.out.ge; omega) _ _).set_ne (by have := HP_.out.ge; omega) _ _)⟩, by simp, fun j hj hn hR => ?_⟩
    refine keepV ?_ j hj hn hR
    exact ⟨fun _ _ ⟨g, cg, e, hp⟩ => ⟨g, cg, e, (((((hp.set_ne (by have := hp.ge; omega) _ _).set_ne (by have := hp.ge; omega) _ _).set_ne (by have := hp.ge; omega) _ _).set_ne (by have := hp.ge; omega) _ _).set_ne (by have := hp.ge; omega) _ _)⟩, fun h => absurd rfl h, trivial⟩
   ·
    intro L L' W' hLL hC
    obtain ⟨hB, hx, hy, hz, hw_, hC, hM, hRw⟩ := hC
    exact ⟨hB, hx, hy, hz, hw_, hC, hM, fun h => hRw (hLL _ h)⟩
   ·
    intro σ L W' hall hC hRR
    obtain ⟨hB, hx, hy, hz, hw_, hC, hM, hRw⟩ := hC
    obtain ⟨g, cg, hset, hp10⟩ : ∃ (g cg : Nat), RwsO Q W' b1 n c1 (rows.set sp.toNat (⟨0, 1, false, -1, some ⟨g, 0, none⟩, q, cg⟩ : Rw)) ∧ PlsO M W' g q cg (seeded q v) := hRR 10 (by decide)
    clear hRR
    simp only [lexAll]
    go_simp
    go_step
    go_meet
    exact ⟨hB, hx, hy, hz, hw_, rgs_seed hset hC HLN.out (by omega) rfl rfl rfl rfl rfl hp10 (by omega)⟩
  case rest =>
   clear hB hx hy hz hw_ hRw hC hM
   obtain ⟨hB, hx, hy, hz, hw_, hG⟩ := hcut
   have hTU : s.turn sp (fun _ => Rg.seed s.rd.toNat v) = { s with rs := s.rs.set sp.toNat ⟨0, 1, false, -1, seeded q v⟩ } := by
    obtain ⟨r0, hr0⟩ : ∃ r0, s.rs[sp.toNat]? = some r0 := ⟨_, List.getElem?_eq_getElem (by have := HLN.out; omega)⟩
    rw [St.turn_some hr0, HQR.out]
    rfl
   have HTU := Lib.hid hTU; clear hTU
   go_upto_region 9 with fail
   have HV := Lib.hid (show make10 s ⟨10, v, r, t, seen, tr, sp, ag, re⟩ = (({ s with rs := s.rs.set sp.toNat ⟨0, 1, false, -1, seeded q v⟩ } : St), (⟨11, v, r, t, seen, tr, sp, ag, re⟩ : Hd), true) by unfold make10; dsimp only; rw [if_pos HSP.out, HRB.out, HTU.out]; rfl)
   refine ret4b w true ({ s with rs := s.rs.set sp.toNat ⟨0, 1, false, -1, seeded q v⟩ } : St) Q wc.heap.size (some ⟨b1, 0, none⟩) n c1 (⟨11, v, r, t, seen, tr, sp, ag, re⟩ : Hd) w.heap.size (w.heap.size + 1) (by kernel_rfl) (by kernel_rfl) (by kernel_rfl) (by kernel_rfl) (by omega) (by omega) ⟨hB, hx, hy, hz, hw_, hG, Nat.le_refl _⟩ ?k0 ?k1 ?k2 ?k3 ?k4 ?hQ
   case k0 | k1 | k2 | k3 =>
    exact zputJ5
   case k4 =>
    intros
    refine OpGoes.go fun K hK => ?_
    go_simp
    exact hK _ _ ⟨rfl, rfl⟩
   case hQ =>
    clear hB hx hy hz hw_ hG
    generalize hq2 : (⟨11, v, r, t, seen, tr, sp, ag, re⟩ : Hd) = h2 at *
    clear hq2
    intro σ W' e_ hB k7 k8 hG _
    replace k7 := k7.cell
    replace k8 := k8.cell
    simp only [lexAll]
    go_simp
    go_step
    go_wp2
    refine bodyPost_ret (v := .tuple #[stV ({ s with rs := s.rs.set sp.toNat ⟨0, 1, false, -1, seeded q v⟩ } : St) (some ⟨b1, 0, none⟩) n c1, hdV h2, .bool true]) (by simp [results, Tryz.results76, go_sem, k7, k8, stV, hdV, Hd.rest, Hd.zero]) rfl ⟨some ⟨b1, 0, none⟩, n, c1, by rw [HV.out], ?_, hB⟩
    rw [HV.out]
    exact hG.cut.mono (by omega) (Nat.le_refl _)
end Go.Proofs.YthpckpnlohfcbaaGreatDoor
namespace Go.Proofs.YthpckpnlohfcbaaGreatDoor
set_option linter.unusedSimpArgs false
set_option linter.unusedVariables false
open Go.RowKit
set_option linter.unusedVariables false
attribute [local go_sem] OpUpon
attribute [local go_sem ↓] Go.wp_at_zero Go.wp_at_succ
def p8AV (s : St) (N b n cap : Nat) (rg : Rg) (v r t : Int) (seen : Pl) (tr sp : Int) (ag : Bool) (re : Int) (A' : Option Addr) (n' cap' : Nat) : List Sl := [.v t,
 .v (.pointer (some ⟨N, 2, none⟩)),
 .v (.slice (some ⟨b, 0, none⟩) n cap),
 .v r,
 .v (.pointer (some ⟨b, r.toNat * 5, none⟩)),
 .v (.pointer (some ⟨b, r.toNat * 5, none⟩)),
 .v rg.h,
 .v (.int .i64 (t - rg.h)),
 .v (pT N),
 .v s.rd,
 .v (.bool true),
 .v (.bool true),
 .v undef,
 .v undef,
 .v undef,
 .v (.bool true)]
def p8BV (s : St) (N b n cap : Nat) (rg : Rg) (v r t : Int) (seen : Pl) (tr sp : Int) (ag : Bool) (re : Int) (A' : Option Addr) (n' cap' : Nat) : List Sl := [.v t,
 .v (.pointer (some ⟨N, 2, none⟩)),
 .v (.slice (some ⟨b, 0, none⟩) n cap),
 .v r,
 .v (.pointer (some ⟨b, r.toNat * 5, none⟩)),
 .v (.pointer (some ⟨b, r.toNat * 5, none⟩)),
 .v rg.h,
 .v (.int .i64 (t - rg.h)),
 .v (pT N),
 .v s.rd,
 .v (.bool false),
 .v (.bool false),
 .v (.pointer (some ⟨(N + 1), 8, none⟩)),
 .v (.int .i64 (tr + 1)),
 .v (.bool true),
 .v (.bool true)]
def p8CV (s : St) (N b n cap : Nat) (rg : Rg) (v r t : Int) (seen : Pl) (tr sp : Int) (ag : Bool) (re : Int) (A' : Option Addr) (n' cap' : Nat) : List Sl := [.v t,
 .v (.pointer (some ⟨N, 2, none⟩)),
 .v (.slice (some ⟨b, 0, none⟩) n cap),
 .v r,
 .v (.pointer (some ⟨b, r.toNat * 5, none⟩)),
 .v (.pointer (some ⟨b, r.toNat * 5, none⟩)),
 .v rg.h,
 .v (.int .i64 (t - rg.h)),
 .v (pT N),
 .v s.rd,
 .v (.bool false),
 .v (.bool false),
 .v (.pointer (some ⟨(N + 1), 8, none⟩)),
 .v (.int .i64 (tr + 1)),
 .v (.bool false),
 .v (.bool false)]
set_option maxRecDepth 100000 in
set_option maxHeartbeats 4000000 in
theorem l6Put_8 (s : St) (A : Option Addr) (n cap lo hi : Nat) (v r t : Int) (seen : Pl) (tr sp : Int) (ag : Bool) (re : Int) (w : World) (hs : RgsW lo hi w A n cap s.rs) (hh : hi ≤ w.heap.size) (hlo : lo ≤ w.heap.size) (hok : stOk s = true) (hrb : ringB s r = true) (ht : 0 ≤ t ∧ t ≤ 1000000) (htr : 0 ≤ tr ∧ tr ≤ 1000000) :
  Calls Tryz.prog 50 #[stV s A n cap, hdV ⟨8, v, r, t, seen, tr, sp, ag, re⟩] w (RetSHB lo (put8 s ⟨8, v, r, t, seen, tr, sp, ag, re⟩) w) := by
 have HOK := Lib.hid hok
 have HRB := Lib.hid hrb
 have HLN := Lib.hid hs.1
 have HNT := Lib.hid (stOk_neat hok)
 obtain ⟨z0, z1, z2⟩ := ringB_at HLN.out hrb
 clear hok hrb
 obtain ⟨t0, t1⟩ := ht
 obtain ⟨tr0, tr1⟩ := htr
 unfold stV hdV
 dsimp only
 go_enter Tryz.func50, Tryz.ntmps50
 go_upto_region 43 with fail
 refine wp_abs (fun W => Below w.heap.size w W ∧ BoxAt W w.heap.size (aS s A n cap) 32 ∧ BoxAt W (w.heap.size + 1) (dH 8 v r t seen tr sp ag re) 35 ∧ BoxAt W (w.heap.size + 1 + 1) zS 32 ∧ BoxAt W (w.heap.size + 1 + 1 + 1) zH 35) ⟨(((((Below.refl _ _).alloc (Nat.le_refl _) _).alloc (by simp) _).alloc (by simp; omega) _).alloc (by simp; omega) _), (((BoxAt.new _ _ _).alloc _).alloc _).alloc _, ((BoxAt.new' (by simp)).alloc _).alloc _, (BoxAt.new' (by simp)).alloc _, BoxAt.new' (by simp)⟩ ?_
 rintro W0 ⟨hB, hx, hy, hz, hw_⟩
 have lw0 := hw_.lt
 have hs0 := hs.below hB hh
 have kx := hx.cell
 have ky := hy.cell
 have fy := hy.frozen
 obtain ⟨b, rg, A', n', cap', rfl, hlb, hbh, hri, c0, c1', c2, c3, c4, hpw⟩ := hs0.at_ z2
 have HAT := Lib.hid (St.at_some (s := s) (z := r) hri)
 have hnum := stOk_nums HOK.out rg (List.mem_of_getElem? hri)
 clear hri
 obtain ⟨⟨nh0, nh1⟩, _⟩ := hnum
 have hrd := stOk_rd HOK.out
 go_upto_region 45 with fail
 refine wp_abs (fun W => Below w.heap.size w W ∧ BoxAt W w.heap.size (aS s (some ⟨b, 0, none⟩) n cap) 32 ∧ BoxAt W (w.heap.size + 1) (dH 4 v r t seen (tr + 1) sp ag re) 35 ∧ BoxAt W (w.heap.size + 1 + 1) zS 32 ∧ BoxAt W (w.heap.size + 1 + 1 + 1) zH 35 ∧ RgC W b r.toNat rg A' n' cap') ⟨sc (sc hB), (hx.sn).sn, by simpa using (hy.set 8 (.int .i64 (tr + 1))).set 0 (.int .i64 4), (hz.sn).sn, (hw_.sn).sn, ((show RgC W0 b r.toNat rg A' n' cap' from ⟨c0, c1', c2, c3, c4⟩).sn).sn⟩ ?_
 clear kx ky fy hB hx hy hz hw_ hs0 c0 c1' c2 c3 c4 hpw
 rintro W1 ⟨hB, hx, hy, hz, hw_, hc⟩
 have lw1 := hw_.lt
 by_cases hge : s.rd ≤ t - rg.h
 ·
  have hged : decide (s.rd ≤ t - rg.h) = true := by simpa using hge
  have HD8 := Lib.hid (show (s.rd ≤ t - rg.h ∨ 4 ≤ tr + 1) = True by simp [hge])
  go_cut [163] (fun u W' => Below w.heap.size w W' ∧ BoxAt W' w.heap.size (aS s (some ⟨b, 0, none⟩) n cap) 32 ∧ BoxAt W' (w.heap.size + 1) (dH 4 v r t seen (tr + 1) sp ag re) 35 ∧ BoxAt W' (w.heap.size + 1 + 1) zS 32 ∧ BoxAt W' (w.heap.size + 1 + 1 + 1) zH 35 ∧ u = .bool true)
  case first =>
   refine wp_region2v (fun w w' => Below w.heap.size w w') (fun _ _ h => h.size) (fun _ => Below.refl _ _) (fun L W' => Below w.heap.size w W' ∧ BoxAt W' w.heap.size (aS s (some ⟨b, 0, none⟩) n cap) 32 ∧ BoxAt W' (w.heap.size + 1) (dH 4 v r t seen (tr + 1) sp ag re) 35 ∧ BoxAt W' (w.heap.size + 1 + 1) zS 32 ∧ BoxAt W' (w.heap.size + 1 + 1 + 1) zH 35 ∧ RgC W' b r.toNat rg A' n' cap') (p8AV s w.heap.size b n cap rg v r t seen tr sp ag re A' n' cap') (fun _ => 0) [] (by kernel_rfl) (by kernel_rfl) ?_ ?_ ?_
    (.still rfl ?a0 <| .still rfl ?a1 <| .still rfl ?a2 <| .still rfl ?a3 <| .still rfl ?a4 <| .still rfl ?a5 <| .still rfl ?a6 <| .still rfl ?a7 <| .still rfl ?a8 <| .still rfl ?a9 <| .still rfl ?a10 <| .still rfl ?a11 <| .still rfl ?a12 <| .still rfl ?a13 <| .still rfl ?a14 <| .still rfl ?a15 <| .nil) ?_ ?_
   · exact trivial
   · exact trivial
   · exact ⟨hB.drew, hx, hy, hz, hw_, hc⟩
   case a0 | a1 | a3 | a4 | a5 | a8 | a10 | a11 | a12 | a13 | a14 | a15 =>
    go_light
    intro L σ W' hcl hL hC hw
    try have e2 := wT hw 2 rfl
    try have e3 := wT hw 3 rfl
    try have e4 := wT hw 4 rfl
    try have e7 := wT hw 7 rfl
    try have e9 := wT hw 9 rfl
    try have e10 := wT hw 10 rfl
    try have e11 := wT hw 11 rfl
    try have e12 := wT hw 12 rfl
    try have e13 := wT hw 13 rfl
    try have e14 := wT hw 14 rfl
    exact zputJ0
   case a2 | a9 =>
    go_light
    intro L σ W' hcl hL hC hw
    try have e1 := wT hw 1 rfl
    try have e8 := wT hw 8 rfl
    have ks := hC.2.1.cell
    exact zputJ0
   case a6 =>
    go_light
    intro L σ W' hcl hL hC hw
    have e5 := wV hw 5 rfl
    have hc0 := hC.2.2.2.2.2
    obtain ⟨c0, c1_, c2, c3, c4⟩ := hc0
    exact zputJ0
   case a7 =>
    go_light
    intro L σ W' hcl hL hC hw
    have e0 := wV hw 0 rfl
    have e6 := wV hw 6 rfl
    have wr_ : IntKind.i64.wrap (t - rg.h) = t - rg.h := by rw [IntKind.wrap_i64]; omega
    exact zputJ0
   ·
    exact zputJ4
   ·
    exact zputJ3
  case rest =>
   exact zputJ1
 ·
  have hged : decide (s.rd ≤ t - rg.h) = false := by simpa using hge
  by_cases htg : 4 ≤ tr + 1
  ·
   have htgd : decide (4 ≤ tr + 1) = true := by simpa using htg
   have HD8 := Lib.hid (show (s.rd ≤ t - rg.h ∨ 4 ≤ tr + 1) = True by simp [htg])
   go_cut [163] (fun u W' => Below w.heap.size w W' ∧ BoxAt W' w.heap.size (aS s (some ⟨b, 0, none⟩) n cap) 32 ∧ BoxAt W' (w.heap.size + 1) (dH 4 v r t seen (tr + 1) sp ag re) 35 ∧ BoxAt W' (w.heap.size + 1 + 1) zS 32 ∧ BoxAt W' (w.heap.size + 1 + 1 + 1) zH 35 ∧ u = .bool true)
   case first =>
    refine wp_region2v (fun w w' => Below w.heap.size w w') (fun _ _ h => h.size) (fun _ => Below.refl _ _) (fun L W' => Below w.heap.size w W' ∧ BoxAt W' w.heap.size (aS s (some ⟨b, 0, none⟩) n cap) 32 ∧ BoxAt W' (w.heap.size + 1) (dH 4 v r t seen (tr + 1) sp ag re) 35 ∧ BoxAt W' (w.heap.size + 1 + 1) zS 32 ∧ BoxAt W' (w.heap.size + 1 + 1 + 1) zH 35 ∧ RgC W' b r.toNat rg A' n' cap') (p8BV s w.heap.size b n cap rg v r t seen tr sp ag re A' n' cap') (fun _ => 0) [] (by kernel_rfl) (by kernel_rfl) ?_ ?_ ?_
     (.still rfl ?a0 <| .still rfl ?a1 <| .still rfl ?a2 <| .still rfl ?a3 <| .still rfl ?a4 <| .still rfl ?a5 <| .still rfl ?a6 <| .still rfl ?a7 <| .still rfl ?a8 <| .still rfl ?a9 <| .still rfl ?a10 <| .still rfl ?a11 <| .still rfl ?a12 <| .still rfl ?a13 <| .still rfl ?a14 <| .still rfl ?a15 <| .nil) ?_ ?_
    · exact trivial
    · exact trivial
    · exact ⟨hB.drew, hx, hy, hz, hw_, hc⟩
    case a0 | a1 | a3 | a4 | a5 | a8 | a10 | a11 | a12 | a14 | a15 =>
     go_light
     intro L σ W' hcl hL hC hw
     try have e2 := wT hw 2 rfl
     try have e3 := wT hw 3 rfl
     try have e4 := wT hw 4 rfl
     try have e7 := wT hw 7 rfl
     try have e9 := wT hw 9 rfl
     try have e10 := wT hw 10 rfl
     try have e11 := wT hw 11 rfl
     try have e13 := wT hw 13 rfl
     try have e14 := wT hw 14 rfl
     exact zputJ0
    case a2 | a9 =>
     go_light
     intro L σ W' hcl hL hC hw
     try have e1 := wT hw 1 rfl
     try have e8 := wT hw 8 rfl
     have ks := hC.2.1.cell
     exact zputJ0
    case a6 =>
     go_light
     intro L σ W' hcl hL hC hw
     have e5 := wV hw 5 rfl
     have hc0 := hC.2.2.2.2.2
     obtain ⟨c0, c1_, c2, c3, c4⟩ := hc0
     exact zputJ0
    case a13 =>
     go_light
     intro L σ W' hcl hL hC hw
     have e11 := wV hw 11 rfl
     have e12 := wV hw 12 rfl
     have kh := hC.2.2.1.cell
     exact zputJ0
    case a7 =>
     go_light
     intro L σ W' hcl hL hC hw
     have e0 := wV hw 0 rfl
     have e6 := wV hw 6 rfl
     have wr_ : IntKind.i64.wrap (t - rg.h) = t - rg.h := by rw [IntKind.wrap_i64]; omega
     exact zputJ0
    ·
     exact zputJ4
    ·
     exact zputJ3
   case rest =>
    exact zputJ1
  ·
   have htgd : decide (4 ≤ tr + 1) = false := by simpa using htg
   have HD8 := Lib.hid (show (s.rd ≤ t - rg.h ∨ 4 ≤ tr + 1) = False by simp [hge, htg])
   go_cut [163] (fun u W' => Below w.heap.size w W' ∧ BoxAt W' w.heap.size (aS s (some ⟨b, 0, none⟩) n cap) 32 ∧ BoxAt W' (w.heap.size + 1) (dH 4 v r t seen (tr + 1) sp ag re) 35 ∧ BoxAt W' (w.heap.size + 1 + 1) zS 32 ∧ BoxAt W' (w.heap.size + 1 + 1 + 1) zH 35 ∧ u = .bool false)
   case first =>
    refine wp_region2v (fun w w' => Below w.heap.size w w') (fun _ _ h => h.size) (fun _ => Below.refl _ _) (fun L W' => Below w.heap.size w W' ∧ BoxAt W' w.heap.size (aS s (some ⟨b, 0, none⟩) n cap) 32 ∧ BoxAt W' (w.heap.size + 1) (dH 4 v r t seen (tr + 1) sp ag re) 35 ∧ BoxAt W' (w.heap.size + 1 + 1) zS 32 ∧ BoxAt W' (w.heap.size + 1 + 1 + 1) zH 35 ∧ RgC W' b r.toNat rg A' n' cap') (p8CV s w.heap.size b n cap rg v r t seen tr sp ag re A' n' cap') (fun _ => 0) [] (by kernel_rfl) (by kernel_rfl) ?_ ?_ ?_
     (.still rfl ?a0 <| .still rfl ?a1 <| .still rfl ?a2 <| .still rfl ?a3 <| .still rfl ?a4 <| .still rfl ?a5 <| .still rfl ?a6 <| .still rfl ?a7 <| .still rfl ?a8 <| .still rfl ?a9 <| .still rfl ?a10 <| .still rfl ?a11 <| .still rfl ?a12 <| .still rfl ?a13 <| .still rfl ?a14 <| .still rfl ?a15 <| .nil) ?_ ?_
    · exact trivial
    · exact trivial
    · exact ⟨hB.drew, hx, hy, hz, hw_, hc⟩
    case a0 | a1 | a3 | a4 | a5 | a8 | a10 | a11 | a12 | a14 | a15 =>
     go_light
     intro L σ W' hcl hL hC hw
     try have e2 := wT hw 2 rfl
     try have e3 := wT hw 3 rfl
     try have e4 := wT hw 4 rfl
     try have e7 := wT hw 7 rfl
     try have e9 := wT hw 9 rfl
     try have e10 := wT hw 10 rfl
     try have e11 := wT hw 11 rfl
     try have e13 := wT hw 13 rfl
     try have e14 := wT hw 14 rfl
     exact zputJ0
    case a2 | a9 =>
     go_light
     intro L σ W' hcl hL hC hw
     try have e1 := wT hw 1 rfl
     try have e8 := wT hw 8 rfl
     have ks := hC.2.1.cell
     exact zputJ0
    case a6 =>
     go_light
     intro L σ W' hcl hL hC hw
     have e5 := wV hw 5 rfl
     have hc0 := hC.2.2.2.2.2
     obtain ⟨c0, c1_, c2, c3, c4⟩ := hc0
     exact zputJ0
    case a13 =>
     go_light
     intro L σ W' hcl hL hC hw
     have e11 := wV hw 11 rfl
     have e12 := wV hw 12 rfl
     have kh := hC.2.2.1.cell
     exact zputJ0
    case a7 =>
     go_light
     intro L σ W' hcl hL hC hw
     have e0 := wV hw 0 rfl
     have e6 := wV hw 6 rfl
     have wr_ : IntKind.i64.wrap (t - rg.h) = t - rg.h := by rw [IntKind.wrap_i64]; omega
     exact zputJ0
    ·
     exact zputJ4
    ·
     exact zputJ3
   case rest =>
    clear hB hx hy hz hw_
    obtain ⟨hB, hx, hy, hz, hw_, rfl⟩ := hcut
    have hs0 := hs.below hB hh
    have lwc := hw_.lt
    have ky := hy.cell
    have fy := hy.frozen
    go_upto_region 50 with fail
    have HV := Lib.hid (show put8 s ⟨8, v, r, t, seen, tr, sp, ag, re⟩ = (s, (⟨4, v, r, t, seen, (tr + 1), sp, ag, re⟩ : Hd), ((⟨4, v, r, t, seen, (tr + 1), sp, ag, re⟩ : Hd)).ok) by simp only [put8, HAT.out, HD8.out, if_false]; rfl)
    refine p6T_wp w s lo hi (some ⟨b, 0, none⟩) n cap (⟨4, v, r, t, seen, (tr + 1), sp, ag, re⟩ : Hd) (by kernel_rfl) (by omega) ⟨hB, hx, hy, hz, hw_, hs0, by omega⟩ ?_
    clear ky fy hB hx hy hz hw_ hs0
    generalize hq2 : (⟨4, v, r, t, seen, (tr + 1), sp, ag, re⟩ : Hd) = h2 at *
    clear hq2
    intro _ _ _ _ _ _ _ W' hB k7 k8 hG _
    replace k7 := k7.cell
    replace k8 := k8.cell
    go_step
    go_wp2
    refine bodyPost_ret (v := .tuple #[stV s (some ⟨b, 0, none⟩) n cap, hdV h2, .bool (h2.ok)]) (by simp [results, Tryz.results50, go_sem, k7, k8, stV, hdV]) rfl ⟨(some ⟨b, 0, none⟩), n, cap, by rw [HV.out], ?_, hB⟩
    rw [HV.out]
    exact hG.cut.mono (by omega) (Nat.le_refl _)
end Go.Proofs.YthpckpnlohfcbaaGreatDoor
namespace Go.Proofs.YthpckpnlohfcbaaGreatDoor
set_option linter.unusedSimpArgs false
set_option linter.unusedVariables false
open Go.RowKit
set_option linter.unusedVariables false
attribute [local go_sem] OpUpon
attribute [local go_sem ↓] Go.wp_at_zero Go.wp_at_succ
def makeS (s : St) (h : Hd) : St × Hd × Bool := if h.at_ = 10 then make10 s h else if h.at_ = 11 then make11 s h else make12 s h
def putS (s : St) (h : Hd) : St × Hd × Bool :=
 if h.at_ = 1 then put1 s h else if h.at_ = 2 then put2 s h else if h.at_ = 3 then put3 s h else if h.at_ = 4 then put4 s h else if h.at_ = 5 then put5 s h else
 if h.at_ = 6 then put6 s h else if h.at_ = 7 then put7 s h else if h.at_ = 8 then put8 s h else if h.at_ = 9 then put9 s h else makeS s h
theorem l6Make_any (s : St) (A : Option Addr) (n cap lo hi : Nat) (h : Hd) (w : World) (hs : RgsW lo hi w A n cap s.rs) (hh : hi ≤ w.heap.size) (hlo : lo ≤ w.heap.size) (hok : stOk s = true) (hat : h.at_ = 10 ∨ h.at_ = 11 ∨ h.at_ = 12) :
  Calls Tryz.prog 76 #[stV s A n cap, hdV h] w (RetSHB lo (makeS s h) w) := by
 obtain ⟨a, v, r, t, seen, tr, sp, ag, re⟩ := h
 dsimp only at hat
 rcases hat with rfl | rfl | rfl
 ·
  by_cases hsp : 0 ≤ sp
  · exact l6Make_10b s A n cap lo hi v r t seen tr sp ag re w hs hh hlo hok hsp
  · exact l6Make_10a s A n cap lo hi v r t seen tr sp ag re w hs hh hlo hok (by omega)
 · exact l6Make_11 s A n cap lo hi v r t seen tr sp ag re w hs hh hlo hok
 · exact l6Make_12 s A n cap lo hi v r t seen tr sp ag re w hs hh hlo hok
set_option maxRecDepth 100000 in
set_option maxHeartbeats 4000000 in
theorem l6Put_10 (s : St) (A : Option Addr) (n cap lo hi : Nat) (v r t : Int) (seen : Pl) (tr sp : Int) (ag : Bool) (re : Int) (w : World) (hs : RgsW lo hi w A n cap s.rs) (hh : hi ≤ w.heap.size) (hlo : lo ≤ w.heap.size) (hok : stOk s = true) (hrb : ringB s r = true) :
  Calls Tryz.prog 50 #[stV s A n cap, hdV ⟨10, v, r, t, seen, tr, sp, ag, re⟩] w (RetSHB lo (putS s ⟨10, v, r, t, seen, tr, sp, ag, re⟩) w) := by
 have HOK := Lib.hid hok
 have HRB := Lib.hid hrb
 have HLN := Lib.hid hs.1
 have HNT := Lib.hid (stOk_neat hok)
 obtain ⟨z0, z1, z2⟩ := ringB_at HLN.out hrb
 clear hok hrb
 unfold stV hdV
 dsimp only
 go_enter Tryz.func50, Tryz.ntmps50
 go_upto_region 5 with fail
 refine wp_abs (fun W => Below w.heap.size w W ∧ BoxAt W w.heap.size (aS s A n cap) 32 ∧ BoxAt W (w.heap.size + 1) (dH 10 v r t seen tr sp ag re) 35 ∧ BoxAt W (w.heap.size + 1 + 1) zS 32 ∧ BoxAt W (w.heap.size + 1 + 1 + 1) zH 35) ⟨(((((Below.refl _ _).alloc (Nat.le_refl _) _).alloc (by simp) _).alloc (by simp; omega) _).alloc (by simp; omega) _), (((BoxAt.new _ _ _).alloc _).alloc _).alloc _, ((BoxAt.new' (by simp)).alloc _).alloc _, (BoxAt.new' (by simp)).alloc _, BoxAt.new' (by simp)⟩ ?_
 rintro W0 ⟨hB, hx, hy, hz, hw_⟩
 have lw0 := hw_.lt
 have hs0 := hs.below hB hh
 have kx := hx.cell
 have ky := hy.cell
 have fy := hy.frozen
 go_wp2_with fail
 clear kx ky fy
 refine (l6Make_any s A n cap lo hi (⟨10, v, r, t, seen, tr, sp, ag, re⟩ : Hd) _ hs0 (Nat.le_trans hh hB.size) (Nat.le_trans hlo hB.size) HOK.out (by simp)).mono ?_
 rintro e w1 ⟨A5, n5, c5, rfl, hG5, hb5⟩
 replace hz := hz.below hb5 hz.lt
 replace hw_ := hw_.below hb5 hw_.lt
 have h5 := hb5.size
 replace hB := bstep hB hB.size hb5
 clear hb5 hx hy hs0
 have HV := Lib.hid (show putS s (⟨10, v, r, t, seen, tr, sp, ag, re⟩ : Hd) = makeS s (⟨10, v, r, t, seen, tr, sp, ag, re⟩ : Hd) from rfl)
 generalize hq5 : makeS s (⟨10, v, r, t, seen, tr, sp, ag, re⟩ : Hd) = q at *
 exact zputJ2
set_option maxRecDepth 100000 in
set_option maxHeartbeats 4000000 in
theorem l6Put_11 (s : St) (A : Option Addr) (n cap lo hi : Nat) (v r t : Int) (seen : Pl) (tr sp : Int) (ag : Bool) (re : Int) (w : World) (hs : RgsW lo hi w A n cap s.rs) (hh : hi ≤ w.heap.size) (hlo : lo ≤ w.heap.size) (hok : stOk s = true) (hrb : ringB s r = true) :
  Calls Tryz.prog 50 #[stV s A n cap, hdV ⟨11, v, r, t, seen, tr, sp, ag, re⟩] w (RetSHB lo (putS s ⟨11, v, r, t, seen, tr, sp, ag, re⟩) w) := by
 have HOK := Lib.hid hok
 have HRB := Lib.hid hrb
 have HLN := Lib.hid hs.1
 have HNT := Lib.hid (stOk_neat hok)
 obtain ⟨z0, z1, z2⟩ := ringB_at HLN.out hrb
 clear hok hrb
 unfold stV hdV
 dsimp only
 go_enter Tryz.func50, Tryz.ntmps50
 go_upto_region 5 with fail
 refine wp_abs (fun W => Below w.heap.size w W ∧ BoxAt W w.heap.size (aS s A n cap) 32 ∧ BoxAt W (w.heap.size + 1) (dH 11 v r t seen tr sp ag re) 35 ∧ BoxAt W (w.heap.size + 1 + 1) zS 32 ∧ BoxAt W (w.heap.size + 1 + 1 + 1) zH 35) ⟨(((((Below.refl _ _).alloc (Nat.le_refl _) _).alloc (by simp) _).alloc (by simp; omega) _).alloc (by simp; omega) _), (((BoxAt.new _ _ _).alloc _).alloc _).alloc _, ((BoxAt.new' (by simp)).alloc _).alloc _, (BoxAt.new' (by simp)).alloc _, BoxAt.new' (by simp)⟩ ?_
 rintro W0 ⟨hB, hx, hy, hz, hw_⟩
 have lw0 := hw_.lt
 have hs0 := hs.below hB hh
 have kx := hx.cell
 have ky := hy.cell
 have fy := hy.frozen
 go_wp2_with fail
 clear kx ky fy
 refine (l6Make_any s A n cap lo hi (⟨11, v, r, t, seen, tr, sp, ag, re⟩ : Hd) _ hs0 (Nat.le_trans hh hB.size) (Nat.le_trans hlo hB.size) HOK.out (by simp)).mono ?_
 rintro e w1 ⟨A5, n5, c5, rfl, hG5, hb5⟩
 replace hz := hz.below hb5 hz.lt
 replace hw_ := hw_.below hb5 hw_.lt
 have h5 := hb5.size
 replace hB := bstep hB hB.size hb5
 clear hb5 hx hy hs0
 have HV := Lib.hid (show putS s (⟨11, v, r, t, seen, tr, sp, ag, re⟩ : Hd) = makeS s (⟨11, v, r, t, seen, tr, sp, ag, re⟩ : Hd) from rfl)
 generalize hq5 : makeS s (⟨11, v, r, t, seen, tr, sp, ag, re⟩ : Hd) = q at *
 exact zputJ2
set_option maxRecDepth 100000 in
set_option maxHeartbeats 4000000 in
theorem l6Put_12 (s : St) (A : Option Addr) (n cap lo hi : Nat) (v r t : Int) (seen : Pl) (tr sp : Int) (ag : Bool) (re : Int) (w : World) (hs : RgsW lo hi w A n cap s.rs) (hh : hi ≤ w.heap.size) (hlo : lo ≤ w.heap.size) (hok : stOk s = true) (hrb : ringB s r = true) :
  Calls Tryz.prog 50 #[stV s A n cap, hdV ⟨12, v, r, t, seen, tr, sp, ag, re⟩] w (RetSHB lo (putS s ⟨12, v, r, t, seen, tr, sp, ag, re⟩) w) := by
 have HOK := Lib.hid hok
 have HRB := Lib.hid hrb
 have HLN := Lib.hid hs.1
 have HNT := Lib.hid (stOk_neat hok)
 obtain ⟨z0, z1, z2⟩ := ringB_at HLN.out hrb
 clear hok hrb
 unfold stV hdV
 dsimp only
 go_enter Tryz.func50, Tryz.ntmps50
 go_upto_region 5 with fail
 refine wp_abs (fun W => Below w.heap.size w W ∧ BoxAt W w.heap.size (aS s A n cap) 32 ∧ BoxAt W (w.heap.size + 1) (dH 12 v r t seen tr sp ag re) 35 ∧ BoxAt W (w.heap.size + 1 + 1) zS 32 ∧ BoxAt W (w.heap.size + 1 + 1 + 1) zH 35) ⟨(((((Below.refl _ _).alloc (Nat.le_refl _) _).alloc (by simp) _).alloc (by simp; omega) _).alloc (by simp; omega) _), (((BoxAt.new _ _ _).alloc _).alloc _).alloc _, ((BoxAt.new' (by simp)).alloc _).alloc _, (BoxAt.new' (by simp)).alloc _, BoxAt.new' (by simp)⟩ ?_
 rintro W0 ⟨hB, hx, hy, hz, hw_⟩
 have lw0 := hw_.lt
 have hs0 := hs.below hB hh
 have kx := hx.cell
 have ky := hy.cell
 have fy := hy.frozen
 go_wp2_with fail
 clear kx ky fy
 refine (l6Make_any s A n cap lo hi (⟨12, v, r, t, seen, tr, sp, ag, re⟩ : Hd) _ hs0 (Nat.le_trans hh hB.size) (Nat.le_trans hlo hB.size) HOK.out (by simp)).mono ?_
 rintro e w1 ⟨A5, n5, c5, rfl, hG5, hb5⟩
 replace hz := hz.below hb5 hz.lt
 replace hw_ := hw_.below hb5 hw_.lt
 have h5 := hb5.size
 replace hB := bstep hB hB.size hb5
 clear hb5 hx hy hs0
 have HV := Lib.hid (show putS s (⟨12, v, r, t, seen, tr, sp, ag, re⟩ : Hd) = makeS s (⟨12, v, r, t, seen, tr, sp, ag, re⟩ : Hd) from rfl)
 generalize hq5 : makeS s (⟨12, v, r, t, seen, tr, sp, ag, re⟩ : Hd) = q at *
 exact zputJ2
theorem l6Put_any (s : St) (A : Option Addr) (n cap lo hi : Nat) (h : Hd) (w : World) (hs : RgsW lo hi w A n cap s.rs) (hh : hi ≤ w.heap.size) (hlo : lo ≤ w.heap.size) (hok : stOk s = true) (hrb : ringB s h.r = true) (hho : h.ok = true) (hp : putB h.at_ = true) :
  Calls Tryz.prog 50 #[stV s A n cap, hdV h] w (RetSHB lo (putS s h) w) := by
 obtain ⟨ht, htr⟩ := hd_nums hho
 obtain ⟨a, v, r, t, seen, tr, sp, ag, re⟩ := h
 dsimp only at hrb hp ht htr
 have hc : a = 1 ∨ a = 2 ∨ a = 3 ∨ a = 4 ∨ a = 5 ∨ a = 6 ∨ a = 7 ∨ a = 8 ∨ a = 9 ∨ a = 10 ∨ a = 11 ∨ a = 12 := by
  simp only [putB, inB, Bool.and_eq_true, decide_eq_true_eq] at hp
  omega
 clear hp hho
 rcases hc with rfl | rfl | rfl | rfl | rfl | rfl | rfl | rfl | rfl | rfl | rfl | rfl
 · exact l6Put_1 s A n cap lo hi v r t seen tr sp ag re w hs hh hlo hok hrb
 · exact l6Put_2 s A n cap lo hi v r t seen tr sp ag re w hs hh hlo hok hrb
 · exact l6Put_3 s A n cap lo hi v r t seen tr sp ag re w hs hh hlo hok hrb
 · exact l6Put_4 s A n cap lo hi v r t seen tr sp ag re w hs hh hlo hok hrb
 · exact l6Put_5 s A n cap lo hi v r t seen tr sp ag re w hs hh hlo hok hrb ht
 · exact l6Put_6 s A n cap lo hi v r t seen tr sp ag re w hs hh hlo hok hrb
 · exact l6Put_7 s A n cap lo hi v r t seen tr sp ag re w hs hh hlo hok hrb ht
 · exact l6Put_8 s A n cap lo hi v r t seen tr sp ag re w hs hh hlo hok hrb ht htr
 · exact l6Put_9 s A n cap lo hi v r t seen tr sp ag re w hs hh hlo hok hrb
 · exact l6Put_10 s A n cap lo hi v r t seen tr sp ag re w hs hh hlo hok hrb
 · exact l6Put_11 s A n cap lo hi v r t seen tr sp ag re w hs hh hlo hok hrb
 · exact l6Put_12 s A n cap lo hi v r t seen tr sp ag re w hs hh hlo hok hrb
end Go.Proofs.YthpckpnlohfcbaaGreatDoor

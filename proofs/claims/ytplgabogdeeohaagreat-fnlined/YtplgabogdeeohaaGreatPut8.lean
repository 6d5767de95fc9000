/-
 The walk of a step of one who puts, of the model: the check.
-/
import Derived.Test.YtplgabogdeeohaaGreatPut7
namespace Go.Proofs.YtplgabogdeeohaaGreat
set_option linter.unusedSimpArgs false
set_option linter.unusedVariables false
open Go.RowKit
set_option linter.unusedVariables false
attribute [local go_sem] OpUpon
attribute [local go_sem ↓] Go.wp_at_zero Go.wp_at_succ

def p8AV (s : St) (N b n cap : Nat) (rg : Rg) (v r t : Int) (seen : Pl) (tr sp : Int) (ag : Bool) (re : Int) (A' : Option Addr) (n' cap' : Nat) : List Sl := [.v t,
 .v (.pointer (some ⟨N, 2, none⟩)),
 .v (.slice (some ⟨b, 0, none⟩) n cap),
 .v r,
 .v (.pointer (some ⟨b, r.toNat * 5, none⟩)),
 .v (.pointer (some ⟨b, r.toNat * 5, none⟩)),
 .v rg.h,
 .v (.int .i64 (t - rg.h)),
 .v (pT N),
 .v s.rd,
 .v (.bool true),
 .v (.bool true),
 .v undef,
 .v undef,
 .v undef,
 .v (.bool true)]

def p8BV (s : St) (N b n cap : Nat) (rg : Rg) (v r t : Int) (seen : Pl) (tr sp : Int) (ag : Bool) (re : Int) (A' : Option Addr) (n' cap' : Nat) : List Sl := [.v t,
 .v (.pointer (some ⟨N, 2, none⟩)),
 .v (.slice (some ⟨b, 0, none⟩) n cap),
 .v r,
 .v (.pointer (some ⟨b, r.toNat * 5, none⟩)),
 .v (.pointer (some ⟨b, r.toNat * 5, none⟩)),
 .v rg.h,
 .v (.int .i64 (t - rg.h)),
 .v (pT N),
 .v s.rd,
 .v (.bool false),
 .v (.bool false),
 .v (.pointer (some ⟨(N + 1), 8, none⟩)),
 .v (.int .i64 (tr + 1)),
 .v (.bool true),
 .v (.bool true)]

def p8CV (s : St) (N b n cap : Nat) (rg : Rg) (v r t : Int) (seen : Pl) (tr sp : Int) (ag : Bool) (re : Int) (A' : Option Addr) (n' cap' : Nat) : List Sl := [.v t,
 .v (.pointer (some ⟨N, 2, none⟩)),
 .v (.slice (some ⟨b, 0, none⟩) n cap),
 .v r,
 .v (.pointer (some ⟨b, r.toNat * 5, none⟩)),
 .v (.pointer (some ⟨b, r.toNat * 5, none⟩)),
 .v rg.h,
 .v (.int .i64 (t - rg.h)),
 .v (pT N),
 .v s.rd,
 .v (.bool false),
 .v (.bool false),
 .v (.pointer (some ⟨(N + 1), 8, none⟩)),
 .v (.int .i64 (tr + 1)),
 .v (.bool false),
 .v (.bool false)]

set_option maxRecDepth 100000 in
set_option maxHeartbeats 4000000 in
theorem l6Put_8 (s : St) (A : Option Addr) (n cap lo hi : Nat) (v r t : Int) (seen : Pl) (tr sp : Int) (ag : Bool) (re : Int) (w : World) (hs : RgsW lo hi w A n cap s.rs) (hh : hi ≤ w.heap.size) (hlo : lo ≤ w.heap.size) (hok : stOk s = true) (hrb : ringB s r = true) (ht : 0 ≤ t ∧ t ≤ 1000000) (htr : 0 ≤ tr ∧ tr ≤ 1000000) :
  Calls Tryz.prog 91 #[stV s A n cap, hdV ⟨8, v, r, t, seen, tr, sp, ag, re⟩] w (RetSHB lo (put8 s ⟨8, v, r, t, seen, tr, sp, ag, re⟩) w) := by
 have HOK := Lib.hid hok
 have HRB := Lib.hid hrb
 have HLN := Lib.hid hs.1
 have HNT := Lib.hid (stOk_neat hok)
 obtain ⟨z0, z1, z2⟩ := ringB_at HLN.out hrb
 clear hok hrb
 obtain ⟨t0, t1⟩ := ht
 obtain ⟨tr0, tr1⟩ := htr
 unfold stV hdV
 dsimp only
 go_enter Tryz.func91, Tryz.ntmps91
 go_upto_region 43 with fail
 refine wp_abs (fun W => Below w.heap.size w W ∧ BoxAt W w.heap.size (aS s A n cap) 58 ∧ BoxAt W (w.heap.size + 1) (dH 8 v r t seen tr sp ag re) 97 ∧ BoxAt W (w.heap.size + 1 + 1) zS 58 ∧ BoxAt W (w.heap.size + 1 + 1 + 1) zH 97) ⟨(((((Below.refl _ _).alloc (Nat.le_refl _) _).alloc (by simp) _).alloc (by simp; omega) _).alloc (by simp; omega) _), (((BoxAt.new _ _ _).alloc _).alloc _).alloc _, ((BoxAt.new' (by simp)).alloc _).alloc _, (BoxAt.new' (by simp)).alloc _, BoxAt.new' (by simp)⟩ ?_
 rintro W0 ⟨hB, hx, hy, hz, hw_⟩
 have lw0 := hw_.lt
 have hs0 := hs.below hB hh
 have kx := hx.cell
 have ky := hy.cell
 have fy := hy.frozen
 obtain ⟨b, rg, A', n', cap', rfl, hlb, hbh, hri, c0, c1', c2, c3, c4, hpw⟩ := hs0.at_ z2
 have HAT := Lib.hid (St.at_some (s := s) (z := r) hri)
 have hnum := stOk_nums HOK.out rg (List.mem_of_getElem? hri)
 clear hri
 obtain ⟨⟨nh0, nh1⟩, _⟩ := hnum
 have hrd := stOk_rd HOK.out
 go_upto_region 45 with fail
 refine wp_abs (fun W => Below w.heap.size w W ∧ BoxAt W w.heap.size (aS s (some ⟨b, 0, none⟩) n cap) 58 ∧ BoxAt W (w.heap.size + 1) (dH 4 v r t seen (tr + 1) sp ag re) 97 ∧ BoxAt W (w.heap.size + 1 + 1) zS 58 ∧ BoxAt W (w.heap.size + 1 + 1 + 1) zH 97 ∧ RgC W b r.toNat rg A' n' cap') ⟨sc (sc hB), (hx.sn).sn, by simpa using (hy.set 8 (.int .i64 (tr + 1))).set 0 (.int .i64 4), (hz.sn).sn, (hw_.sn).sn, ((show RgC W0 b r.toNat rg A' n' cap' from ⟨c0, c1', c2, c3, c4⟩).sn).sn⟩ ?_
 clear kx ky fy hB hx hy hz hw_ hs0 c0 c1' c2 c3 c4 hpw
 rintro W1 ⟨hB, hx, hy, hz, hw_, hc⟩
 have lw1 := hw_.lt
 by_cases hge : s.rd ≤ t - rg.h
 ·
  have hged : decide (s.rd ≤ t - rg.h) = true := by simpa using hge
  have HD8 := Lib.hid (show (s.rd ≤ t - rg.h ∨ 4 ≤ tr + 1) = True by simp [hge])
  go_cut [163] (fun u W' => Below w.heap.size w W' ∧ BoxAt W' w.heap.size (aS s (some ⟨b, 0, none⟩) n cap) 58 ∧ BoxAt W' (w.heap.size + 1) (dH 4 v r t seen (tr + 1) sp ag re) 97 ∧ BoxAt W' (w.heap.size + 1 + 1) zS 58 ∧ BoxAt W' (w.heap.size + 1 + 1 + 1) zH 97 ∧ u = .bool true)
  case first =>
   refine wp_region2v (fun w w' => Below w.heap.size w w') (fun _ _ h => h.size) (fun _ => Below.refl _ _) (fun L W' => Below w.heap.size w W' ∧ BoxAt W' w.heap.size (aS s (some ⟨b, 0, none⟩) n cap) 58 ∧ BoxAt W' (w.heap.size + 1) (dH 4 v r t seen (tr + 1) sp ag re) 97 ∧ BoxAt W' (w.heap.size + 1 + 1) zS 58 ∧ BoxAt W' (w.heap.size + 1 + 1 + 1) zH 97 ∧ RgC W' b r.toNat rg A' n' cap') (p8AV s w.heap.size b n cap rg v r t seen tr sp ag re A' n' cap') (fun _ => 0) [] (by kernel_rfl) (by kernel_rfl) ?_ ?_ ?_
    (.still rfl ?a0 <| .still rfl ?a1 <| .still rfl ?a2 <| .still rfl ?a3 <| .still rfl ?a4 <| .still rfl ?a5 <| .still rfl ?a6 <| .still rfl ?a7 <| .still rfl ?a8 <| .still rfl ?a9 <| .still rfl ?a10 <| .still rfl ?a11 <| .still rfl ?a12 <| .still rfl ?a13 <| .still rfl ?a14 <| .still rfl ?a15 <| .nil) ?_ ?_
   · exact trivial
   · exact trivial
   · exact ⟨hB.drew, hx, hy, hz, hw_, hc⟩
   case a0 | a1 | a3 | a4 | a5 | a8 | a10 | a11 | a12 | a13 | a14 | a15 =>
    go_light
    intro L σ W' hcl hL hC hw
    try have e2 := wT hw 2 rfl
    try have e3 := wT hw 3 rfl
    try have e4 := wT hw 4 rfl
    try have e7 := wT hw 7 rfl
    try have e9 := wT hw 9 rfl
    try have e10 := wT hw 10 rfl
    try have e11 := wT hw 11 rfl
    try have e12 := wT hw 12 rfl
    try have e13 := wT hw 13 rfl
    try have e14 := wT hw 14 rfl
    clear hw hcl hL hC
    refine OpGoes.go fun K hK => ?_
    go_simp
    exact hK _ _ ⟨rfl, rfl⟩
   case a2 | a9 =>
    go_light
    intro L σ W' hcl hL hC hw
    try have e1 := wT hw 1 rfl
    try have e8 := wT hw 8 rfl
    have ks := hC.2.1.cell
    clear hw hcl hL hC
    refine OpGoes.go fun K hK => ?_
    go_simp
    exact hK _ _ ⟨rfl, rfl⟩
   case a6 =>
    go_light
    intro L σ W' hcl hL hC hw
    have e5 := wV hw 5 rfl
    have hc0 := hC.2.2.2.2.2
    obtain ⟨c0, c1_, c2, c3, c4⟩ := hc0
    clear hw hcl hL hC
    refine OpGoes.go fun K hK => ?_
    go_simp
    exact hK _ _ ⟨rfl, rfl⟩
   case a7 =>
    go_light
    intro L σ W' hcl hL hC hw
    have e0 := wV hw 0 rfl
    have e6 := wV hw 6 rfl
    have wr_ : IntKind.i64.wrap (t - rg.h) = t - rg.h := by rw [IntKind.wrap_i64]; omega
    clear hw hcl hL hC
    refine OpGoes.go fun K hK => ?_
    go_simp
    exact hK _ _ ⟨rfl, rfl⟩
   ·
    intro L L' W' hLL hC
    obtain ⟨hB, hx, hy, hz, hw_, hc⟩ := hC
    exact ⟨hB, hx, hy, hz, hw_, hc⟩
   ·
    intro σ L W' hall hC hRR
    obtain ⟨hB, hx, hy, hz, hw_, hc⟩ := hC
    have e15 := dV hRR 15 rfl
    clear hRR
    simp only [lexAll]
    go_simp
    go_step
    go_meet
    exact ⟨hB, hx, hy, hz, hw_, rfl⟩
  case rest =>
   clear hB hx hy hz hw_
   obtain ⟨hB, hx, hy, hz, hw_, rfl⟩ := hcut
   have hs0 := hs.below hB hh
   have lwc := hw_.lt
   have ky := hy.cell
   have fy := hy.frozen
   go_upto_region 50 with fail
   have HV := Lib.hid (show put8 s ⟨8, v, r, t, seen, tr, sp, ag, re⟩ = (s, (⟨9, v, r, t, seen, (tr + 1), sp, ag, re⟩ : Hd), ((⟨9, v, r, t, seen, (tr + 1), sp, ag, re⟩ : Hd)).ok) by simp only [put8, HAT.out, HD8.out, if_true]; rfl)
   refine p6T_wp w s lo hi (some ⟨b, 0, none⟩) n cap (⟨9, v, r, t, seen, (tr + 1), sp, ag, re⟩ : Hd) (by kernel_rfl) (by omega) ⟨(sc hB), (hx.sn), by simpa using (hy.set 0 (.int .i64 9)), (hz.sn), (hw_.sn), (hs0.sr), by simp; omega⟩ ?_
   clear ky fy hB hx hy hz hw_ hs0
   generalize hq2 : (⟨9, v, r, t, seen, (tr + 1), sp, ag, re⟩ : Hd) = h2 at *
   clear hq2
   intro _ _ _ _ _ _ _ W' hB k7 k8 hG _
   replace k7 := k7.cell
   replace k8 := k8.cell
   go_step
   go_wp2
   refine bodyPost_ret (v := .tuple #[stV s (some ⟨b, 0, none⟩) n cap, hdV h2, .bool (h2.ok)]) (by simp [results, Tryz.results91, go_sem, k7, k8, stV, hdV]) rfl ⟨(some ⟨b, 0, none⟩), n, cap, by rw [HV.out], ?_, hB⟩
   rw [HV.out]
   exact hG.cut.mono (by omega) (Nat.le_refl _)
 ·
  have hged : decide (s.rd ≤ t - rg.h) = false := by simpa using hge
  by_cases htg : 4 ≤ tr + 1
  ·
   have htgd : decide (4 ≤ tr + 1) = true := by simpa using htg
   have HD8 := Lib.hid (show (s.rd ≤ t - rg.h ∨ 4 ≤ tr + 1) = True by simp [htg])
   go_cut [163] (fun u W' => Below w.heap.size w W' ∧ BoxAt W' w.heap.size (aS s (some ⟨b, 0, none⟩) n cap) 58 ∧ BoxAt W' (w.heap.size + 1) (dH 4 v r t seen (tr + 1) sp ag re) 97 ∧ BoxAt W' (w.heap.size + 1 + 1) zS 58 ∧ BoxAt W' (w.heap.size + 1 + 1 + 1) zH 97 ∧ u = .bool true)
   case first =>
    refine wp_region2v (fun w w' => Below w.heap.size w w') (fun _ _ h => h.size) (fun _ => Below.refl _ _) (fun L W' => Below w.heap.size w W' ∧ BoxAt W' w.heap.size (aS s (some ⟨b, 0, none⟩) n cap) 58 ∧ BoxAt W' (w.heap.size + 1) (dH 4 v r t seen (tr + 1) sp ag re) 97 ∧ BoxAt W' (w.heap.size + 1 + 1) zS 58 ∧ BoxAt W' (w.heap.size + 1 + 1 + 1) zH 97 ∧ RgC W' b r.toNat rg A' n' cap') (p8BV s w.heap.size b n cap rg v r t seen tr sp ag re A' n' cap') (fun _ => 0) [] (by kernel_rfl) (by kernel_rfl) ?_ ?_ ?_
     (.still rfl ?a0 <| .still rfl ?a1 <| .still rfl ?a2 <| .still rfl ?a3 <| .still rfl ?a4 <| .still rfl ?a5 <| .still rfl ?a6 <| .still rfl ?a7 <| .still rfl ?a8 <| .still rfl ?a9 <| .still rfl ?a10 <| .still rfl ?a11 <| .still rfl ?a12 <| .still rfl ?a13 <| .still rfl ?a14 <| .still rfl ?a15 <| .nil) ?_ ?_
    · exact trivial
    · exact trivial
    · exact ⟨hB.drew, hx, hy, hz, hw_, hc⟩
    case a0 | a1 | a3 | a4 | a5 | a8 | a10 | a11 | a12 | a14 | a15 =>
     go_light
     intro L σ W' hcl hL hC hw
     try have e2 := wT hw 2 rfl
     try have e3 := wT hw 3 rfl
     try have e4 := wT hw 4 rfl
     try have e7 := wT hw 7 rfl
     try have e9 := wT hw 9 rfl
     try have e10 := wT hw 10 rfl
     try have e11 := wT hw 11 rfl
     try have e13 := wT hw 13 rfl
     try have e14 := wT hw 14 rfl
     clear hw hcl hL hC
     refine OpGoes.go fun K hK => ?_
     go_simp
     exact hK _ _ ⟨rfl, rfl⟩
    case a2 | a9 =>
     go_light
     intro L σ W' hcl hL hC hw
     try have e1 := wT hw 1 rfl
     try have e8 := wT hw 8 rfl
     have ks := hC.2.1.cell
     clear hw hcl hL hC
     refine OpGoes.go fun K hK => ?_
     go_simp
     exact hK _ _ ⟨rfl, rfl⟩
    case a6 =>
     go_light
     intro L σ W' hcl hL hC hw
     have e5 := wV hw 5 rfl
     have hc0 := hC.2.2.2.2.2
     obtain ⟨c0, c1_, c2, c3, c4⟩ := hc0
     clear hw hcl hL hC
     refine OpGoes.go fun K hK => ?_
     go_simp
     exact hK _ _ ⟨rfl, rfl⟩
    case a13 =>
     go_light
     intro L σ W' hcl hL hC hw
     have e11 := wV hw 11 rfl
     have e12 := wV hw 12 rfl
     have kh := hC.2.2.1.cell
     clear hw hcl hL hC
     refine OpGoes.go fun K hK => ?_
     go_simp
     exact hK _ _ ⟨rfl, rfl⟩
    case a7 =>
     go_light
     intro L σ W' hcl hL hC hw
     have e0 := wV hw 0 rfl
     have e6 := wV hw 6 rfl
     have wr_ : IntKind.i64.wrap (t - rg.h) = t - rg.h := by rw [IntKind.wrap_i64]; omega
     clear hw hcl hL hC
     refine OpGoes.go fun K hK => ?_
     go_simp
     exact hK _ _ ⟨rfl, rfl⟩
    ·
     intro L L' W' hLL hC
     obtain ⟨hB, hx, hy, hz, hw_, hc⟩ := hC
     exact ⟨hB, hx, hy, hz, hw_, hc⟩
    ·
     intro σ L W' hall hC hRR
     obtain ⟨hB, hx, hy, hz, hw_, hc⟩ := hC
     have e15 := dV hRR 15 rfl
     clear hRR
     simp only [lexAll]
     go_simp
     go_step
     go_meet
     exact ⟨hB, hx, hy, hz, hw_, rfl⟩
   case rest =>
    clear hB hx hy hz hw_
    obtain ⟨hB, hx, hy, hz, hw_, rfl⟩ := hcut
    have hs0 := hs.below hB hh
    have lwc := hw_.lt
    have ky := hy.cell
    have fy := hy.frozen
    go_upto_region 50 with fail
    have HV := Lib.hid (show put8 s ⟨8, v, r, t, seen, tr, sp, ag, re⟩ = (s, (⟨9, v, r, t, seen, (tr + 1), sp, ag, re⟩ : Hd), ((⟨9, v, r, t, seen, (tr + 1), sp, ag, re⟩ : Hd)).ok) by simp only [put8, HAT.out, HD8.out, if_true]; rfl)
    refine p6T_wp w s lo hi (some ⟨b, 0, none⟩) n cap (⟨9, v, r, t, seen, (tr + 1), sp, ag, re⟩ : Hd) (by kernel_rfl) (by omega) ⟨(sc hB), (hx.sn), by simpa using (hy.set 0 (.int .i64 9)), (hz.sn), (hw_.sn), (hs0.sr), by simp; omega⟩ ?_
    clear ky fy hB hx hy hz hw_ hs0
    generalize hq2 : (⟨9, v, r, t, seen, (tr + 1), sp, ag, re⟩ : Hd) = h2 at *
    clear hq2
    intro _ _ _ _ _ _ _ W' hB k7 k8 hG _
    replace k7 := k7.cell
    replace k8 := k8.cell
    go_step
    go_wp2
    refine bodyPost_ret (v := .tuple #[stV s (some ⟨b, 0, none⟩) n cap, hdV h2, .bool (h2.ok)]) (by simp [results, Tryz.results91, go_sem, k7, k8, stV, hdV]) rfl ⟨(some ⟨b, 0, none⟩), n, cap, by rw [HV.out], ?_, hB⟩
    rw [HV.out]
    exact hG.cut.mono (by omega) (Nat.le_refl _)
  ·
   have htgd : decide (4 ≤ tr + 1) = false := by simpa using htg
   have HD8 := Lib.hid (show (s.rd ≤ t - rg.h ∨ 4 ≤ tr + 1) = False by simp [hge, htg])
   go_cut [163] (fun u W' => Below w.heap.size w W' ∧ BoxAt W' w.heap.size (aS s (some ⟨b, 0, none⟩) n cap) 58 ∧ BoxAt W' (w.heap.size + 1) (dH 4 v r t seen (tr + 1) sp ag re) 97 ∧ BoxAt W' (w.heap.size + 1 + 1) zS 58 ∧ BoxAt W' (w.heap.size + 1 + 1 + 1) zH 97 ∧ u = .bool false)
   case first =>
    refine wp_region2v (fun w w' => Below w.heap.size w w') (fun _ _ h => h.size) (fun _ => Below.refl _ _) (fun L W' => Below w.heap.size w W' ∧ BoxAt W' w.heap.size (aS s (some ⟨b, 0, none⟩) n cap) 58 ∧ BoxAt W' (w.heap.size + 1) (dH 4 v r t seen (tr + 1) sp ag re) 97 ∧ BoxAt W' (w.heap.size + 1 + 1) zS 58 ∧ BoxAt W' (w.heap.size + 1 + 1 + 1) zH 97 ∧ RgC W' b r.toNat rg A' n' cap') (p8CV s w.heap.size b n cap rg v r t seen tr sp ag re A' n' cap') (fun _ => 0) [] (by kernel_rfl) (by kernel_rfl) ?_ ?_ ?_
     (.still rfl ?a0 <| .still rfl ?a1 <| .still rfl ?a2 <| .still rfl ?a3 <| .still rfl ?a4 <| .still rfl ?a5 <| .still rfl ?a6 <| .still rfl ?a7 <| .still rfl ?a8 <| .still rfl ?a9 <| .still rfl ?a10 <| .still rfl ?a11 <| .still rfl ?a12 <| .still rfl ?a13 <| .still rfl ?a14 <| .still rfl ?a15 <| .nil) ?_ ?_
    · exact trivial
    · exact trivial
    · exact ⟨hB.drew, hx, hy, hz, hw_, hc⟩
    case a0 | a1 | a3 | a4 | a5 | a8 | a10 | a11 | a12 | a14 | a15 =>
     go_light
     intro L σ W' hcl hL hC hw
     try have e2 := wT hw 2 rfl
     try have e3 := wT hw 3 rfl
     try have e4 := wT hw 4 rfl
     try have e7 := wT hw 7 rfl
     try have e9 := wT hw 9 rfl
     try have e10 := wT hw 10 rfl
     try have e11 := wT hw 11 rfl
     try have e13 := wT hw 13 rfl
     try have e14 := wT hw 14 rfl
     clear hw hcl hL hC
     refine OpGoes.go fun K hK => ?_
     go_simp
     exact hK _ _ ⟨rfl, rfl⟩
    case a2 | a9 =>
     go_light
     intro L σ W' hcl hL hC hw
     try have e1 := wT hw 1 rfl
     try have e8 := wT hw 8 rfl
     have ks := hC.2.1.cell
     clear hw hcl hL hC
     refine OpGoes.go fun K hK => ?_
     go_simp
     exact hK _ _ ⟨rfl, rfl⟩
    case a6 =>
     go_light
     intro L σ W' hcl hL hC hw
     have e5 := wV hw 5 rfl
     have hc0 := hC.2.2.2.2.2
     obtain ⟨c0, c1_, c2, c3, c4⟩ := hc0
     clear hw hcl hL hC
     refine OpGoes.go fun K hK => ?_
     go_simp
     exact hK _ _ ⟨rfl, rfl⟩
    case a13 =>
     go_light
     intro L σ W' hcl hL hC hw
     have e11 := wV hw 11 rfl
     have e12 := wV hw 12 rfl
     have kh := hC.2.2.1.cell
     clear hw hcl hL hC
     refine OpGoes.go fun K hK => ?_
     go_simp
     exact hK _ _ ⟨rfl, rfl⟩
    case a7 =>
     go_light
     intro L σ W' hcl hL hC hw
     have e0 := wV hw 0 rfl
     have e6 := wV hw 6 rfl
     have wr_ : IntKind.i64.wrap (t - rg.h) = t - rg.h := by rw [IntKind.wrap_i64]; omega
     clear hw hcl hL hC
     refine OpGoes.go fun K hK => ?_
     go_simp
     exact hK _ _ ⟨rfl, rfl⟩
    ·
     intro L L' W' hLL hC
     obtain ⟨hB, hx, hy, hz, hw_, hc⟩ := hC
     exact ⟨hB, hx, hy, hz, hw_, hc⟩
    ·
     intro σ L W' hall hC hRR
     obtain ⟨hB, hx, hy, hz, hw_, hc⟩ := hC
     have e15 := dV hRR 15 rfl
     clear hRR
     simp only [lexAll]
     go_simp
     go_step
     go_meet
     exact ⟨hB, hx, hy, hz, hw_, rfl⟩
   case rest =>
    clear hB hx hy hz hw_
    obtain ⟨hB, hx, hy, hz, hw_, rfl⟩ := hcut
    have hs0 := hs.below hB hh
    have lwc := hw_.lt
    have ky := hy.cell
    have fy := hy.frozen
    go_upto_region 50 with fail
    have HV := Lib.hid (show put8 s ⟨8, v, r, t, seen, tr, sp, ag, re⟩ = (s, (⟨4, v, r, t, seen, (tr + 1), sp, ag, re⟩ : Hd), ((⟨4, v, r, t, seen, (tr + 1), sp, ag, re⟩ : Hd)).ok) by simp only [put8, HAT.out, HD8.out, if_false]; rfl)
    refine p6T_wp w s lo hi (some ⟨b, 0, none⟩) n cap (⟨4, v, r, t, seen, (tr + 1), sp, ag, re⟩ : Hd) (by kernel_rfl) (by omega) ⟨hB, hx, hy, hz, hw_, hs0, by omega⟩ ?_
    clear ky fy hB hx hy hz hw_ hs0
    generalize hq2 : (⟨4, v, r, t, seen, (tr + 1), sp, ag, re⟩ : Hd) = h2 at *
    clear hq2
    intro _ _ _ _ _ _ _ W' hB k7 k8 hG _
    replace k7 := k7.cell
    replace k8 := k8.cell
    go_step
    go_wp2
    refine bodyPost_ret (v := .tuple #[stV s (some ⟨b, 0, none⟩) n cap, hdV h2, .bool (h2.ok)]) (by simp [results, Tryz.results91, go_sem, k7, k8, stV, hdV]) rfl ⟨(some ⟨b, 0, none⟩), n, cap, by rw [HV.out], ?_, hB⟩
    rw [HV.out]
    exact hG.cut.mono (by omega) (Nat.le_refl _)

end Go.Proofs.YtplgabogdeeohaaGreat

/-
 What a step leaves is neat: pure.
-/
import Derived.Test.YthpckpnlohfcbaaGreatDoorTakeJ
import Derived.Test.YthpckpnlohfcbaaGreatDoorPutJ
import Derived.Test.YthpckpnlohfcbaaGreatDoorHand
import Derived.Test.YthpckpnlohfcbaaGreatDoorStoreB
import Derived.Test.YthpckpnlohfcbaaGreatDoorStoreA
namespace Go.Proofs.YthpckpnlohfcbaaGreatDoor
set_option linter.unusedSimpArgs false
set_option linter.unusedVariables false
open Go.RowKit
set_option linter.unusedVariables false
theorem zstep0 {p : Prop} (h : p := by
 refine ret6 (fun W A n c => RgsW w.heap.size W.heap.size W A n c s.rs) gWb gWs w false s lo hi A n cap (⟨at_, v, r, t, seen, tr, sp, ag, re⟩ : Hd) w.heap.size (w.heap.size + 1) (by kernel_rfl) (by kernel_rfl) (by kernel_rfl) (by kernel_rfl) (by kernel_rfl) (by omega) ⟨hB, hx, hy, hz, hw_, hs.below hB hh, Nat.le_trans hh hB.size⟩ ?k0 ?k1 ?k2 ?k3 ?k4 ?k5 ?hQ
 case k0 | k2 | k3 | k4 =>
  intros
  rename_i k
  have kc_ := k.cell
  have kf_ := k.frozen
  refine OpGoes.go fun K hK => ?_
  go_simp
  first | exact hK _ _ ⟨rfl, rfl⟩ | exact hK _ _ rfl
 case k5 =>
  intros
  refine OpGoes.go fun K hK => ?_
  go_simp
  exact hK _ _ ⟨rfl, rfl⟩
 case k1 =>
  intro W' hBW hGW hhW
  refine OpGoes.go fun K hK => ?_
  go_simp
  refine (l3Copy_rgs s A n cap lo hi _ hGW hhW HNT.out).mono ?_
  rintro e w9 ⟨A9, n9, c9, rfl, hG9, hb9⟩
  exact ⟨_, rfl, hK _ _ ⟨_, _, _, rfl, hG9.mono hBW.size (Nat.le_refl _), hb9⟩⟩
 case hQ =>
  intro σ W' A9 n9 c9 e5 hB' k7 k8 hG9
  replace k7 := k7.cell
  replace k8 := k8.cell
  simp only [lexAll]
  go_simp
  go_step
  go_wp2
  refine bodyPost_ret (v := .tuple #[stV s A9 n9 c9, hdV (⟨at_, v, r, t, seen, tr, sp, ag, re⟩ : Hd), .bool false]) (by simp [results, Tryz.results25, go_sem, k7, k8, stV, hdV]) rfl ⟨A9, n9, c9, by rw [HV.out], ?_, hB'⟩
  rw [HV.out]
  exact hG9) : p := h -- e952770f
theorem zstep1 {p : Prop} (h : p := by
 refine ret6 (fun W A n c => RgsW w.heap.size W.heap.size W A n c s.rs) gWb gWs w false s lo hi A n cap (⟨at_, v, r, t, seen, tr, sp, ag, re⟩ : Hd) w.heap.size (w.heap.size + 1) (by kernel_rfl) (by kernel_rfl) (by kernel_rfl) (by kernel_rfl) (by kernel_rfl) (by omega) ⟨hB, hx, hy, hz, hw_, hs.below hB hh, Nat.le_trans hh hB.size⟩ ?k0 ?k1 ?k2 ?k3 ?k4 ?k5 ?hQ
 case k0 | k2 | k3 | k4 =>
  intros
  rename_i k
  have kc_ := k.cell
  have kf_ := k.frozen
  refine OpGoes.go fun K hK => ?_
  go_simp
  first | exact hK _ _ ⟨rfl, rfl⟩ | exact hK _ _ rfl
 case k5 =>
  intros
  refine OpGoes.go fun K hK => ?_
  go_simp
  exact hK _ _ ⟨rfl, rfl⟩
 case k1 =>
  intro W' hBW hGW hhW
  refine OpGoes.go fun K hK => ?_
  go_simp
  refine (l3Copy_rgs s A n cap lo hi _ hGW hhW HNT.out).mono ?_
  rintro e w9 ⟨A9, n9, c9, rfl, hG9, hb9⟩
  exact ⟨_, rfl, hK _ _ ⟨_, _, _, rfl, hG9.mono hBW.size (Nat.le_refl _), hb9⟩⟩
 case hQ =>
  intro σ W' A9 n9 c9 e5 hB' k7 k8 hG9
  replace k7 := k7.cell
  replace k8 := k8.cell
  simp only [lexAll]
  go_simp
  go_step
  go_wp2
  refine bodyPost_ret (v := .tuple #[stV s A9 n9 c9, hdV (⟨at_, v, r, t, seen, tr, sp, ag, re⟩ : Hd), .bool false]) (by simp [results, Tryz.results24, go_sem, k7, k8, stV, hdV]) rfl ⟨A9, n9, c9, by rw [HV.out], ?_, hB'⟩
  rw [HV.out]
  exact hG9) : p := h -- 92f599fa
theorem zstep2 {p : Prop} (h : p := by
 go_light
 intro L σ W' hcl hL hC hw hne
 obtain ⟨A5, n5, c5, e5, hp5⟩ := wE hw 5 rfl
 obtain ⟨g8, e8, hg8, x0, x1, x2, x3, x4, hbox8⟩ := wE hw 8 rfl
 clear hw hne
 have HC := Lib.hid hC
 clear hC
 clear hcl hL
 have kc_ := hbox8.cell
 have kf_ := hbox8.frozen
 refine OpGoes.go fun K hK => ?_
 go_simp
 obtain ⟨hB, hx, hy, hM0, hz, hw_⟩ := HC.out
 have hset := sets_all (us := (aS q.1 A5 n5 c5)) hbox8 rfl
 refine hK undef (setCells W' g8 0 (aS q.1 A5 n5 c5)) ⟨⟨(Below.setCells (by omega) _ 0 hB), (BoxAt.sets_ne _ 0 hx (by omega)), (BoxAt.sets_ne _ 0 hy (by omega)), (size_sts hM0 _ 0), (BoxAt.sets_ne _ 0 hz (by omega)), (BoxAt.sets_ne _ 0 hw_ (by omega))⟩, ⟨g8, A5, n5, c5, e8, hg8, hset, ((RgsW.setsT hp5 hbox8 (by decide) (by decide) _ 0).mono (Nat.le_refl _) (Nat.le_of_eq (sets_size _ _ _).symm))⟩, Nat.le_of_eq (sets_size _ _ _).symm, keepV ?_⟩
 exact ⟨fun _ _ ⟨A1_x, n1_x, c1_x, e, hp⟩ => ⟨A1_x, n1_x, c1_x, e, ((RgsW.setsT hp hbox8 (by decide) (by decide) _ 0).mono (Nat.le_refl _) (Nat.le_of_eq (sets_size _ _ _).symm))⟩, fun _ _ ⟨A5_x, n5_x, c5_x, e, hp⟩ => ⟨A5_x, n5_x, c5_x, e, ((RgsW.setsT hp hbox8 (by decide) (by decide) _ 0).mono (Nat.le_refl _) (Nat.le_of_eq (sets_size _ _ _).symm))⟩, fun _ _ ⟨A5_x, n5_x, c5_x, e, hp⟩ => ⟨A5_x, n5_x, c5_x, e, ((RgsW.setsT hp hbox8 (by decide) (by decide) _ 0).mono (Nat.le_refl _) (Nat.le_of_eq (sets_size _ _ _).symm))⟩, fun _ _ ⟨A5_x, n5_x, c5_x, e, hp⟩ => ⟨A5_x, n5_x, c5_x, e, ((RgsW.setsT hp hbox8 (by decide) (by decide) _ 0).mono (Nat.le_refl _) (Nat.le_of_eq (sets_size _ _ _).symm))⟩, fun _ _ _ => ⟨g8, e8, hg8, _, _, _, _, _, hset⟩, fun _ _ ⟨g, e, hg, x0, x1, x2, x3, x4, x5, x6, x7, x8, x9, x10, x11, hx⟩ => ⟨g, e, hg, x0, x1, x2, x3, x4, x5, x6, x7, x8, x9, x10, x11, (BoxAt.sets_ne _ 0 hx (by first | omega | exact box_neM hx hbox8 (by decide)))⟩, fun h => absurd rfl h, fun _ _ ⟨g, e, hg, hx⟩ => ⟨g, e, hg, (BoxAt.sets_ne _ 0 hx (by first | omega | exact box_neM hx hbox8 (by decide)))⟩, trivial⟩) : p := h -- 6f6b5b07
theorem zstep3 {p : Prop} (h : p := by
 go_light
 intro L σ W' hcl hL hC hw hne
 have e6 := wV hw 6 rfl
 obtain ⟨g9, e9, hg9, x0, x1, x2, x3, x4, x5, x6, x7, x8, x9, x10, x11, hbox9⟩ := wE hw 9 rfl
 clear hw hne
 have HC := Lib.hid hC
 clear hC
 clear hcl hL
 have kc_ := hbox9.cell
 have kf_ := hbox9.frozen
 refine OpGoes.go fun K hK => ?_
 go_simp
 obtain ⟨hB, hx, hy, hM0, hz, hw_⟩ := HC.out
 have hset := sets_all (us := (aH q.2.1)) hbox9 rfl
 refine hK undef (setCells W' g9 0 (aH q.2.1)) ⟨⟨(Below.setCells (by omega) _ 0 hB), (BoxAt.sets_ne _ 0 hx (by omega)), (BoxAt.sets_ne _ 0 hy (by omega)), (size_sts hM0 _ 0), (BoxAt.sets_ne _ 0 hz (by omega)), (BoxAt.sets_ne _ 0 hw_ (by omega))⟩, ⟨g9, e9, hg9, hset⟩, Nat.le_of_eq (sets_size _ _ _).symm, keepV ?_⟩
 exact ⟨fun _ _ ⟨A1_x, n1_x, c1_x, e, hp⟩ => ⟨A1_x, n1_x, c1_x, e, ((RgsW.setsT hp hbox9 (by decide) (by decide) _ 0).mono (Nat.le_refl _) (Nat.le_of_eq (sets_size _ _ _).symm))⟩, fun _ _ ⟨A5_x, n5_x, c5_x, e, hp⟩ => ⟨A5_x, n5_x, c5_x, e, ((RgsW.setsT hp hbox9 (by decide) (by decide) _ 0).mono (Nat.le_refl _) (Nat.le_of_eq (sets_size _ _ _).symm))⟩, fun _ _ ⟨A5_x, n5_x, c5_x, e, hp⟩ => ⟨A5_x, n5_x, c5_x, e, ((RgsW.setsT hp hbox9 (by decide) (by decide) _ 0).mono (Nat.le_refl _) (Nat.le_of_eq (sets_size _ _ _).symm))⟩, fun _ _ ⟨A5_x, n5_x, c5_x, e, hp⟩ => ⟨A5_x, n5_x, c5_x, e, ((RgsW.setsT hp hbox9 (by decide) (by decide) _ 0).mono (Nat.le_refl _) (Nat.le_of_eq (sets_size _ _ _).symm))⟩, fun _ _ ⟨g, e, hg, x0, x1, x2, x3, x4, hx⟩ => ⟨g, e, hg, x0, x1, x2, x3, x4, (BoxAt.sets_ne _ 0 hx (by first | omega | exact box_neM hx hbox9 (by decide)))⟩, fun _ _ _ => ⟨g9, e9, hg9, _, _, _, _, _, _, _, _, _, _, _, _, hset⟩, fun _ _ ⟨g, A5, n5, c5, e, hg, hx, hp⟩ => ⟨g, A5, n5, c5, e, hg, (BoxAt.sets_ne _ 0 hx (by first | omega | exact box_neM hx hbox9 (by decide))), ((RgsW.setsT hp hbox9 (by decide) (by decide) _ 0).mono (Nat.le_refl _) (Nat.le_of_eq (sets_size _ _ _).symm))⟩, fun h => absurd rfl h, trivial⟩) : p := h -- dd8ab9d0
theorem zstep4 {p : Prop} (h : p := by
 intros
 rename_i k
 have kc_ := k.cell
 have kf_ := k.frozen
 refine OpGoes.go fun K hK => ?_
 go_simp
 first | exact hK _ _ ⟨rfl, rfl⟩ | exact hK _ _ rfl) : p := h -- e92ca8c3
theorem zstep5 {p : Prop} (h : p := by
 clear hw hcl hL hC
 refine OpGoes.go fun K hK => ?_
 go_simp
 exact hK _ _ ⟨rfl, rfl⟩) : p := h -- ee92c020
theorem zstep6 {p : Prop} (h : p := by
 clear hq5
 unfold stV hdV
 have kz := hz.cell
 have fz := hz.frozen
 have kw := hw_.cell
 have fw := hw_.frozen
 go_wp2
 refine bodyPost_ret (v := .tuple #[stV q.1 A5 n5 c5, hdV q.2.1, q.2.2]) (by simp [results, Tryz.results8, go_sem, kz, kw, stV, hdV]) rfl ⟨A5, n5, c5, by rw [HV.out], ?_, ?_⟩
 ·
  rw [HV.out]
  exact (RgsW.setsT (RgsW.setsT hG5 hz (by decide) (by decide) (aS q.1 A5 n5 c5) 0) (BoxAt.sets_ne (aS q.1 A5 n5 c5) 0 hw_ (by omega)) (by decide) (by decide) (aH q.2.1) 0).mono (by omega) (by simp)
 · exact Below.setCells (by omega) (aH q.2.1) 0 (Below.setCells (by omega) (aS q.1 A5 n5 c5) 0 hB)) : p := h -- 2c8c40a5
theorem zstep7 {p : Prop} (h : p := by
 go_light
 intro L σ W' hcl hL hC hw
 obtain ⟨A1, n1, c1, e1, hp1⟩ := wE hw 1 rfl
 have e2 := wV hw 2 rfl
 clear hw
 have HC := Lib.hid hC
 clear hC
 clear hcl hL
 refine OpGoes.go fun K hK => ?_
 go_simp
 obtain ⟨hB, hx, hy, hM0, hz, hw_⟩ := HC.out
 refine (HTK.out _ _ _ _ hB hM0 hp1).mono ?_
 rintro e w1 ⟨A5, n5, c5, rfl, hG5, hb1⟩
 exact ⟨_, rfl, hK _ _ ⟨⟨bstep hB hB.size hb1, hx.below hb1 hx.lt, hy.below hb1 hy.lt, Nat.le_trans hM0 hb1.size, hz.below hb1 hz.lt, hw_.below hb1 hw_.lt⟩, ⟨A5, n5, c5, rfl, hG5⟩, hb1⟩⟩) : p := h -- 48b33f8f
theorem zstep8 {p : Prop} (h : p := by
 go_light
 intro L σ W' hcl hL hC hw
 clear hw
 have HC := Lib.hid hC
 clear hC
 clear hcl hL
 refine OpGoes.go fun K hK => ?_
 go_simp
 obtain ⟨hB, hx, hy, hM0, hz, hw_⟩ := HC.out
 have hb1 : Below W'.heap.size W' (W'.alloc (.cells zH 35)) := (Below.refl _ _).alloc (Nat.le_refl _) _
 exact hK _ _ ⟨⟨bstep hB hB.size hb1, hx.below hb1 hx.lt, hy.below hb1 hy.lt, Nat.le_trans hM0 hb1.size, hz.below hb1 hz.lt, hw_.below hb1 hw_.lt⟩, ⟨_, rfl, hM0, _, _, _, _, _, _, _, _, _, _, _, _, BoxAt.new _ _ _⟩, hb1, rfl, by simp⟩) : p := h -- 7e9ac9ee
theorem zstep9 {p : Prop} (h : p := by
 go_light
 intro L σ W' hcl hL hC hw
 have e0 := wV hw 0 rfl
 clear hw
 have HC := Lib.hid hC
 clear hC
 clear hcl hL
 refine OpGoes.go fun K hK => ?_
 go_simp
 obtain ⟨hB, hx, hy, hM0, hz, hw_⟩ := HC.out
 refine (HCPY.out _ hB).mono ?_
 rintro e w1 ⟨A1, n1, c1, rfl, hG5, hb1⟩
 exact ⟨_, rfl, hK _ _ ⟨⟨bstep hB hB.size hb1, hx.below hb1 hx.lt, hy.below hb1 hy.lt, Nat.le_trans hM0 hb1.size, hz.below hb1 hz.lt, hw_.below hb1 hw_.lt⟩, ⟨A1, n1, c1, rfl, hG5.mono hM0 (Nat.le_refl _)⟩, hb1⟩⟩) : p := h -- 6d8b3c44
theorem zstep10 {p : Prop} (h : p := by
 go_light
 intro L σ W' hcl hL hC hw
 clear hw
 have HC := Lib.hid hC
 clear hC
 clear hcl hL
 refine OpGoes.go fun K hK => ?_
 go_simp
 obtain ⟨hB, hx, hy, hM0, hz, hw_⟩ := HC.out
 have hb1 : Below W'.heap.size W' (W'.alloc (.cells zS 32)) := (Below.refl _ _).alloc (Nat.le_refl _) _
 exact hK _ _ ⟨⟨bstep hB hB.size hb1, hx.below hb1 hx.lt, hy.below hb1 hy.lt, Nat.le_trans hM0 hb1.size, hz.below hb1 hz.lt, hw_.below hb1 hw_.lt⟩, ⟨_, rfl, hM0, _, _, _, _, _, BoxAt.new _ _ _⟩, hb1, rfl, by simp⟩) : p := h -- 710f0ee0
theorem zstep11 {p : Prop} (h : p := by
 have kz := hz.cell
 have fz := hz.frozen
 have kw := hw_.cell
 have fw := hw_.frozen
 go_wp2
 refine bodyPost_ret (v := .tuple #[stV .zero none 0 0, hdV .zero, .bool false]) (by simp [results, Tryz.results25, go_sem, kz, kw, stV, St.zero, hdV, Hd.zero]) rfl ⟨none, 0, 0, by rw [HV.out], ?_, ?_⟩
 · rw [HV.out]; exact RgsW.nil
 · exact Below.setCells (by omega) zH 0 (Below.setCells (by omega) zS 0 hB)) : p := h -- 51f3dc96
theorem zstep12 {p : Prop} (h : p := by
 have kz := hz.cell
 have fz := hz.frozen
 have kw := hw_.cell
 have fw := hw_.frozen
 go_wp2
 refine bodyPost_ret (v := .tuple #[stV .zero none 0 0, hdV .zero, .bool false]) (by simp [results, Tryz.results24, go_sem, kz, kw, stV, St.zero, hdV, Hd.zero]) rfl ⟨none, 0, 0, by rw [HV.out], ?_, ?_⟩
 · rw [HV.out]; exact RgsW.nil
 · exact Below.setCells (by omega) zH 0 (Below.setCells (by omega) zS 0 hB)) : p := h -- 31b98c76
theorem zstep13 {p : Prop} (h : p := by
 intro σ L W' hall hC hRR
 obtain ⟨hB, hx, hy, hM0, hz, hw_⟩ := hC
 obtain ⟨g8, A5, n5, c5, e8, hg10, s10, hp10⟩ := dE hRR 10 rfl
 obtain ⟨g9, e9, hg11, s11⟩ := dE hRR 11 rfl
 have e12 := dV hRR 12 rfl
 clear hRR
 simp only [lexAll]
 go_simp
 go_step
 go_meet
 exact ⟨hB, hx, hy, hz, hw_, hM0, g8, g9, A5, n5, c5, hg10, hg11, s10, s11, hp10, rfl, rfl, rfl⟩) : p := h -- 855f0b06
theorem zstep14 {p : Prop} (h : p := by
 go_light
 intro L σ W' hcl hL hC hw
 obtain ⟨A5, n5, c5, e3, hp3⟩ := wE hw 3 rfl
 clear hw hcl hL hC
 refine OpGoes.go fun K hK => ?_
 go_simp
 exact hK _ _ ⟨rfl, ⟨A5, n5, c5, rfl, hp3⟩⟩) : p := h -- 8d51af4d
theorem zstep15 {p : Prop} (h : p := by
 go_light
 intro L σ W' hcl hL hC hw
 obtain ⟨A5, n5, c5, e4, hp4⟩ := wE hw 4 rfl
 clear hw hcl hL hC
 refine OpGoes.go fun K hK => ?_
 go_simp
 exact hK _ _ ⟨rfl, ⟨A5, n5, c5, rfl, hp4⟩⟩) : p := h -- af5662db

theorem set_neat {s : St} (h : Neat s) {i : Nat} {q : Rg} (h0 : 0 < q.ps.length) (h8 : q.ps.length ≤ 8) : Neat { s with rs := s.rs.set i q } := by
 refine ⟨by simpa using h.1, by simpa using h.2.1, fun r hr => ?_⟩
 rcases List.mem_or_eq_of_mem_set hr with hr | rfl
 · exact h.2.2 r hr
 · exact ⟨h0, h8⟩
theorem turn_neat {s : St} (h : Neat s) {z : Int} {f : Rg → Rg} (hf : ∀ r, 0 < r.ps.length ∧ r.ps.length ≤ 8 → 0 < (f r).ps.length ∧ (f r).ps.length ≤ 8) : Neat (s.turn z f) := by
 unfold St.turn
 split
 ·
  rename_i r hr
  have := h.2.2 r (List.mem_of_getElem? hr)
  exact set_neat h (hf r this).1 (hf r this).2
 · exact h
theorem then_neat {s out : St} (h : Neat s) : Neat (thenB s out).1 := by
 unfold thenB
 split
 · exact stOk_neat (by assumption)
 · exact h
theorem takeTicket_neat {s : St} (hok : stOk s = true) {z : Int} : Neat (takeTicket s z).1 := by
 have h := stOk_neat hok
 unfold takeTicket
 rw [hok]
 simp only [Bool.not_true, Bool.false_eq_true, if_false]
 split
 · exact h
 · split <;> exact then_neat h
theorem putTicket_neat {s : St} (hok : stOk s = true) {z : Int} : Neat (putTicket s z).1 := by
 have h := stOk_neat hok
 unfold putTicket
 rw [hok]
 simp only [Bool.not_true, Bool.false_eq_true, if_false]
 split
 · exact h
 · split <;> exact then_neat h
theorem closeR_neat {s : St} (hok : stOk s = true) {z : Int} : Neat (closeR s z).1 := by
 have h := stOk_neat hok
 unfold closeR
 rw [hok]
 simp only [Bool.not_true, Bool.false_eq_true, if_false]
 split
 · exact h
 · exact turn_neat h fun _ h => h
theorem raiseTail_neat {s : St} (hok : stOk s = true) {z a b : Int} : Neat (raiseTail s z a b).1 := by
 have h := stOk_neat hok
 unfold raiseTail
 rw [hok]
 simp only [Bool.not_true, Bool.false_eq_true, if_false]
 split
 · exact h
 · exact then_neat h
theorem linkR_neat {s : St} (hok : stOk s = true) {z a : Int} : Neat (linkR s z a).1 := by
 have h := stOk_neat hok
 unfold linkR
 rw [hok]
 simp only [Bool.not_true, Bool.false_eq_true, if_false]
 split
 · exact h
 · exact then_neat h
theorem swing_neat {s : St} (hok : stOk s = true) {l : Bool} {a b : Int} : Neat (swing s l a b).1 := by
 have h := stOk_neat hok
 unfold swing
 rw [hok]
 simp only [Bool.not_true, Bool.false_eq_true, if_false]
 cases l
 all_goals
  simp only [if_true, Bool.false_eq_true, if_false]
  split <;> exact h
theorem swapPlace_neat {s : St} (hok : stOk s = true) {z a : Int} {p q : Pl} : Neat (swapPlace s z a p q).1 := by
 have h := stOk_neat hok
 unfold swapPlace
 rw [hok]
 simp only [Bool.not_true, Bool.false_eq_true, if_false]
 split
 · exact h
 ·
  split
  ·
   split
   · exact then_neat h
   · exact h
  · exact h
theorem seed_len8 {rd : Int} (h : 2 ≤ rd ∧ rd ≤ 8) (v : Int) : 0 < (Rg.seed rd.toNat v).ps.length ∧ (Rg.seed rd.toNat v).ps.length ≤ 8 := by
 have : (Rg.seed rd.toNat v).ps.length = rd.toNat := by simp [Rg.seed, fresh]
 omega
theorem addRing_neat {s : St} (hok : stOk s = true) {v : Int} : Neat (addRing s v).1 := by
 have h := stOk_neat hok
 have hm : (s.rs.length : Int) ≤ s.mo ∧ s.mo ≤ 16 := by
  simp only [stOk, stHead, Bool.and_eq_true, inB, decide_eq_true_eq] at hok
  omega
 unfold addRing
 rw [hok]
 simp only [Bool.not_true, Bool.false_eq_true, if_false]
 split
 · exact h
 ·
  rename_i hn
  simp only [Bool.or_eq_true, beq_iff_eq, not_or] at hn
  refine ⟨by simp, by simp; omega, fun r hr => ?_⟩
  rcases List.mem_append.1 hr with hr | hr
  · exact h.2.2 r hr
  ·
   rw [List.mem_singleton.1 hr]
   exact seed_len8 (stOk_rd hok) v
theorem make10_neat {s : St} (hok : stOk s = true) {h : Hd} : Neat (make10 s h).1 := by
 have hn := stOk_neat hok
 unfold make10
 repeat' split
 all_goals first
  | exact hn
  | exact addRing_neat hok
  | exact turn_neat hn fun _ _ => seed_len8 (stOk_rd hok) _
theorem makeS_neat {s : St} (hok : stOk s = true) {h : Hd} : Neat (makeS s h).1 := by
 unfold makeS
 repeat' split
 · exact make10_neat hok
 · exact linkR_neat hok
 · exact swing_neat hok
theorem putS_neat {s : St} (hok : stOk s = true) {h : Hd} : Neat (putS s h).1 := by
 have hn := stOk_neat hok
 unfold putS
 repeat' split
 · exact hn
 · exact hn
 · exact swing_neat hok
 · exact putTicket_neat hok
 · exact hn
 · exact hn
 ·
  unfold put7
  repeat' split
  all_goals exact swapPlace_neat hok
 · exact hn
 · exact closeR_neat hok
 · exact makeS_neat hok
theorem takeS_neat {s : St} (hok : stOk s = true) {h : Hd} : Neat (takeS s h).1 := by
 have hn := stOk_neat hok
 unfold takeS
 repeat' split
 · exact hn
 · exact takeTicket_neat hok
 · exact hn
 ·
  unfold take16
  split <;> exact swapPlace_neat hok
 · exact swapPlace_neat hok
 · exact swapPlace_neat hok
 · exact hn
 · exact hn
 ·
  unfold fixS
  split
  ·
   unfold take21
   split <;> exact hn
  ·
   split
   · exact raiseTail_neat hok
   ·
    split
    ·
     unfold take23
     repeat' split
     all_goals exact hn
    · exact swing_neat hok
def stepS (f : St → Hd → St × Hd × Bool) (b : Int → Bool) (s : St) (h : Hd) : St × Hd × Bool :=
 if !stOk s || !h.ok then (St.zero, Hd.zero, false) else if !b h.at_ || !ringB s h.r then (s, h, false) else
 if !(f s h).2.2 || !stOk (f s h).1 then (s, h, false) else ((f s h).1, (f s h).2.1, true)
end Go.Proofs.YthpckpnlohfcbaaGreatDoor
namespace Go.Proofs.YthpckpnlohfcbaaGreatDoor
set_option linter.unusedSimpArgs false
set_option linter.unusedVariables false
open Go.RowKit
set_option linter.unusedVariables false
attribute [local go_sem] OpUpon
attribute [local go_sem ↓] Go.wp_at_zero Go.wp_at_succ
def RetS (lo : Nat) (s : St) (w : World) (e : Ending) (w' : World) : Prop :=
 ∃ A n cap, e = .returned (stV s A n cap) ∧ RgsW lo w'.heap.size w' A n cap s.rs ∧ Below w.heap.size w w'
theorem l3Copy_rgs (s : St) (A : Option Addr) (n cap lo hi : Nat) (w : World) (hs : RgsW lo hi w A n cap s.rs) (hh : hi ≤ w.heap.size) (hn : Neat s) :
  Calls Tryz.prog 36 #[stV s A n cap] w (RetS w.heap.size s w) := by
 have hl := hs.1
 refine (l3Copy_any s A n cap lo hi w hs hh (by have := hn.1; omega) (by have := hn.2.1; omega) hn.cp).mono ?_
 rintro e w' ⟨b, c, rows, rfl, hR, hC, hb⟩
 exact ⟨_, _, _, rfl, hC.rgs hR hl, hb⟩
theorem hd_at {h : Hd} (hok : h.ok = true) : h.at_ ≤ 24 := by
 simp only [Hd.ok, Hd.okA, Bool.and_eq_true, inB, decide_eq_true_eq] at hok
 omega
def lateB (z : Int) : Bool := !decide (z < 13)
def ts5V (s : St) (N M0 n cap : Nat) (A : Option Addr) (at_ v r t : Int) (seen : Pl) (tr sp : Int) (ag : Bool) (re : Int) (q : St × Hd × Bool) : List Sl := [.v (.agg (aS s A n cap)),
 .e fun σ w => ∃ (A1 : Option Addr) (n1 c1 : Nat), σ 1 = .agg (aS s A1 n1 c1) ∧ RgsW M0 w.heap.size w A1 n1 c1 s.rs,
 .v (.agg (dH at_ v r t seen tr sp ag re)),
 .e fun σ w => ∃ (A5 : Option Addr) (n5 c5 : Nat), σ 3 = .tuple #[.agg (aS q.1 A5 n5 c5), .agg (aH q.2.1), q.2.2] ∧ RgsW M0 w.heap.size w A5 n5 c5 q.1.rs,
 .e fun σ w => ∃ (A5 : Option Addr) (n5 c5 : Nat), σ 4 = .tuple #[.agg (aS q.1 A5 n5 c5), .agg (aH q.2.1), q.2.2] ∧ RgsW M0 w.heap.size w A5 n5 c5 q.1.rs,
 .e fun σ w => ∃ (A5 : Option Addr) (n5 c5 : Nat), σ 5 = .agg (aS q.1 A5 n5 c5) ∧ RgsW M0 w.heap.size w A5 n5 c5 q.1.rs,
 .v (.agg (aH q.2.1)),
 .v (.bool q.2.2),
 .e fun σ w => ∃ g8, σ 8 = pT g8 ∧ M0 ≤ g8 ∧ ∃ x0 x1 x2 x3 x4, BoxAt w g8 #[x0, x1, x2, x3, x4] 32,
 .e fun σ w => ∃ g9, σ 9 = pT g9 ∧ M0 ≤ g9 ∧ ∃ x0 x1 x2 x3 x4 x5 x6 x7 x8 x9 x10 x11, BoxAt w g9 #[x0, x1, x2, x3, x4, x5, x6, x7, x8, x9, x10, x11] 35,
 .e fun σ w => ∃ (g8 : Nat) (A5 : Option Addr) (n5 c5 : Nat), σ 8 = pT g8 ∧ M0 ≤ g8 ∧ BoxAt w g8 (aS q.1 A5 n5 c5) 32 ∧ RgsW M0 w.heap.size w A5 n5 c5 q.1.rs,
 .e fun σ w => ∃ g9, σ 9 = pT g9 ∧ M0 ≤ g9 ∧ BoxAt w g9 (aH q.2.1) 35,
 .v (.bool q.2.2)]
set_option maxRecDepth 100000 in
set_option maxHeartbeats 4000000 in
theorem stakeStep_any (s : St) (A : Option Addr) (n cap lo hi : Nat) (h : Hd) (w : World) (hs : RgsW lo hi w A n cap s.rs) (hh : hi ≤ w.heap.size) (hm : n ≤ 1048576) (hpn : ∀ r ∈ s.rs, r.ps.length ≤ 1048576) :
  Calls Tryz.prog 25 #[stV s A n cap, hdV h] w (RetSHB w.heap.size (stepS takeS lateB s h) w) := by
 have HPN := Lib.hid hpn; clear hpn
 have HLN := Lib.hid hs.1
 obtain ⟨at_, v, r, t, seen, tr, sp, ag, re⟩ := h
 unfold stV hdV
 dsimp only
 go_enter Tryz.func25, Tryz.ntmps25
 go_upto_region 1 with fail
 refine wp_abs (fun W => Below w.heap.size w W ∧ BoxAt W w.heap.size (aS s A n cap) 32 ∧ BoxAt W (w.heap.size + 1) (dH at_ v r t seen tr sp ag re) 35 ∧ BoxAt W (w.heap.size + 1 + 1) zS 32 ∧ BoxAt W (w.heap.size + 1 + 1 + 1) zH 35) ⟨(((((Below.refl _ _).alloc (Nat.le_refl _) _).alloc (by simp) _).alloc (by simp; omega) _).alloc (by simp; omega) _), (((BoxAt.new _ _ _).alloc _).alloc _).alloc _, ((BoxAt.new' (by simp)).alloc _).alloc _, (BoxAt.new' (by simp)).alloc _, BoxAt.new' (by simp)⟩ ?_
 rintro W0 ⟨hB, hx, hy, hz, hw_⟩
 have lw0 := hw_.lt
 have hs0 := hs.below hB hh
 have kx := hx.cell
 have ky := hy.cell
 have fy := hy.frozen
 go_wp2_with fail
 clear kx ky fy
 refine (sstoreOk_any s A n cap lo hi _ hs0 (Nat.le_trans hh hB.size) hm HPN.out).mono ?_
 rintro e w1 ⟨rfl, hb⟩
 replace hx := hx.below hb hx.lt
 replace hy := hy.below hb hy.lt
 replace hz := hz.below hb hz.lt
 replace hw_ := hw_.below hb hw_.lt
 replace hB := bstep hB hB.size hb
 have h1 := hb.size
 clear hb
 clear hs0
 cases hok : stOk s
 ·
  have HV := Lib.hid (show stepS takeS lateB s (⟨at_, v, r, t, seen, tr, sp, ag, re⟩ : Hd) = (St.zero, Hd.zero, false) by simp [stepS, hok])
  exact zstep11
 have HOK := Lib.hid hok
 have HNT := Lib.hid (stOk_neat hok)
 clear hok
 have ky := hy.cell
 go_wp2_with fail
 clear ky
 refine (shandOk_any (⟨at_, v, r, t, seen, tr, sp, ag, re⟩ : Hd) _).mono ?_
 rintro e w2 ⟨rfl, hb⟩
 replace hx := hx.below hb hx.lt
 replace hy := hy.below hb hy.lt
 replace hz := hz.below hb hz.lt
 replace hw_ := hw_.below hb hw_.lt
 replace hB := bstep hB hB.size hb
 have h2 := hb.size
 clear hb
 cases hho : (⟨at_, v, r, t, seen, tr, sp, ag, re⟩ : Hd).ok
 ·
  have HV := Lib.hid (show stepS takeS lateB s (⟨at_, v, r, t, seen, tr, sp, ag, re⟩ : Hd) = (St.zero, Hd.zero, false) by simp [stepS, HOK.out, hho])
  exact zstep11
 have HHO := Lib.hid hho
 clear hho
 have HCPY := Lib.hid (show ∀ W : World, Below w.heap.size w W → Calls Tryz.prog 36 #[stV s A n cap] W (RetS W.heap.size s W) from fun W hBW => l3Copy_rgs s A n cap lo hi W (hs.below hBW hh) (Nat.le_trans hh hBW.size) HNT.out)
 unfold stV at HCPY
 have kx := hx.cell
 have ky := hy.cell
 by_cases h13 : at_ < 13
 ·
  have HV := Lib.hid (show stepS takeS lateB s (⟨at_, v, r, t, seen, tr, sp, ag, re⟩ : Hd) = (s, (⟨at_, v, r, t, seen, tr, sp, ag, re⟩ : Hd), false) by simp [stepS, HOK.out, HHO.out, lateB, h13])
  go_upto_region 4 with fail
  clear kx ky
  exact zstep0
 go_wp2_with fail
 clear kx ky
 refine (l4Ring_any s A n cap r _ HLN.out hm).mono ?_
 rintro e w3 ⟨rfl, hb⟩
 replace hx := hx.below hb hx.lt
 replace hy := hy.below hb hy.lt
 replace hz := hz.below hb hz.lt
 replace hw_ := hw_.below hb hw_.lt
 replace hB := bstep hB hB.size hb
 have h3 := hb.size
 clear hb
 cases hrb : ringB s r
 ·
  have HV := Lib.hid (show stepS takeS lateB s (⟨at_, v, r, t, seen, tr, sp, ag, re⟩ : Hd) = (s, (⟨at_, v, r, t, seen, tr, sp, ag, re⟩ : Hd), false) by simp [stepS, HOK.out, HHO.out, hrb])
  go_upto_region 4 with fail
  exact zstep0
 have HTB := Lib.hid (show lateB at_ = true by simp [lateB, h13])
 obtain ⟨q, hq⟩ : ∃ q, takeS s (⟨at_, v, r, t, seen, tr, sp, ag, re⟩ : Hd) = q := ⟨_, rfl⟩
 have HQN := Lib.hid (show Neat q.1 by rw [← hq]; exact takeS_neat HOK.out)
 obtain ⟨M0, hMe⟩ : ∃ M0, M0 = w3.heap.size := ⟨_, rfl⟩
 have hM0 : M0 ≤ w3.heap.size := by omega
 have hM4 : w.heap.size + 4 ≤ M0 := by have := hw_.lt; omega
 clear hMe
 have HTK := Lib.hid (show ∀ (W : World) (A1 : Option Addr) (n1 c1 : Nat), Below w.heap.size w W → M0 ≤ W.heap.size → RgsW M0 W.heap.size W A1 n1 c1 s.rs → Calls Tryz.prog 51 #[stV s A1 n1 c1, hdV (⟨at_, v, r, t, seen, tr, sp, ag, re⟩ : Hd)] W (RetSHB M0 q W) from fun W A1 n1 c1 hBW hMW hG => by
  have := l7Take_any s A1 n1 c1 M0 W.heap.size (⟨at_, v, r, t, seen, tr, sp, ag, re⟩ : Hd) W hG (Nat.le_refl _) hMW HOK.out hrb HHO.out (by have := hd_at HHO.out; simp only [takeB, inB, Bool.and_eq_true, decide_eq_true_eq]; dsimp only at this; omega)
  rw [hq] at this
  exact this)
 unfold stV hdV at HTK
 have HRB := Lib.hid hrb
 have HQ := Lib.hid hq
 clear hrb hq
 go_upto_region 5 with fail
 go_cut [7, 8, 9] (fun u7 u8 u9 W' => Below w.heap.size w W' ∧ BoxAt W' w.heap.size (aS s A n cap) 32 ∧ BoxAt W' (w.heap.size + 1) (dH at_ v r t seen tr sp ag re) 35 ∧ BoxAt W' (w.heap.size + 1 + 1) zS 32 ∧ BoxAt W' (w.heap.size + 1 + 1 + 1) zH 35 ∧ M0 ≤ W'.heap.size ∧ ∃ (X Y : Nat) (A5 : Option Addr) (n5 c5 : Nat), M0 ≤ X ∧ M0 ≤ Y ∧ BoxAt W' X (aS q.1 A5 n5 c5) 32 ∧ BoxAt W' Y (aH q.2.1) 35 ∧ RgsW M0 W'.heap.size W' A5 n5 c5 q.1.rs ∧ u7 = pT X ∧ u8 = pT Y ∧ u9 = .bool q.2.2)
 case first =>
  refine wp_region2v (fun w w' => Below w.heap.size w w') (fun _ _ h => h.size) (fun _ => Below.refl _ _) (fun L W' => Below w.heap.size w W' ∧ BoxAt W' w.heap.size (aS s A n cap) 32 ∧ BoxAt W' (w.heap.size + 1) (dH at_ v r t seen tr sp ag re) 35 ∧ M0 ≤ W'.heap.size ∧ BoxAt W' (w.heap.size + 1 + 1) zS 32 ∧ BoxAt W' (w.heap.size + 1 + 1 + 1) zH 35) (ts5V s w.heap.size M0 n cap A at_ v r t seen tr sp ag re q) (fun j => [0, 0, 0, 0, 0, 0, 0, 0, 2, 2, 1, 1, 0].getD j 0) [(10, 8), (11, 9)] (by kernel_rfl) (by kernel_rfl) ?_ ?_ ?_
   (.still rfl ?a0 <| .grow rfl ?a1 <| .still rfl ?a2 <| .grow rfl ?a3 <| .still rfl ?a4 <| .still rfl ?a5 <| .still rfl ?a6 <| .still rfl ?a7 <| .make rfl ?a8 <| .make rfl ?a9 <| .store rfl ?a10 <| .store rfl ?a11 <| .still rfl ?a12 <| .nil) ?_ ?_
  · exact ⟨fun _ _ _ h ⟨A1, n1, c1, e, hp⟩ => ⟨A1, n1, c1, (h 1 (List.mem_singleton.2 rfl)).symm.trans e, hp⟩, fun _ _ _ h ⟨A5, n5, c5, e, hp⟩ => ⟨A5, n5, c5, (h 3 (List.mem_singleton.2 rfl)).symm.trans e, hp⟩, fun _ _ _ h ⟨A5, n5, c5, e, hp⟩ => ⟨A5, n5, c5, (h 4 (List.mem_singleton.2 rfl)).symm.trans e, hp⟩, fun _ _ _ h ⟨A5, n5, c5, e, hp⟩ => ⟨A5, n5, c5, (h 5 (List.mem_singleton.2 rfl)).symm.trans e, hp⟩, fun _ _ _ h ⟨g, e, hp⟩ => ⟨g, (h 8 (List.mem_singleton.2 rfl)).symm.trans e, hp⟩, fun _ _ _ h ⟨g, e, hp⟩ => ⟨g, (h 9 (List.mem_singleton.2 rfl)).symm.trans e, hp⟩, fun _ _ _ h ⟨g, A5, n5, c5, e, hp⟩ => ⟨g, A5, n5, c5, (h 8 (List.mem_singleton.2 rfl)).symm.trans e, hp⟩, fun _ _ _ h ⟨g, e, hp⟩ => ⟨g, (h 9 (List.mem_singleton.2 rfl)).symm.trans e, hp⟩, trivial⟩
  · exact ⟨fun σ w w' hb ⟨A1, n1, c1, e, hp⟩ => ⟨A1, n1, c1, e, (hp.below hb (Nat.le_refl _)).mono (Nat.le_refl _) hb.size⟩, fun σ w w' hb ⟨A5, n5, c5, e, hp⟩ => ⟨A5, n5, c5, e, (hp.below hb (Nat.le_refl _)).mono (Nat.le_refl _) hb.size⟩, fun σ w w' hb ⟨A5, n5, c5, e, hp⟩ => ⟨A5, n5, c5, e, (hp.below hb (Nat.le_refl _)).mono (Nat.le_refl _) hb.size⟩, fun σ w w' hb ⟨A5, n5, c5, e, hp⟩ => ⟨A5, n5, c5, e, (hp.below hb (Nat.le_refl _)).mono (Nat.le_refl _) hb.size⟩, fun σ w w' hb ⟨g, e, hg, x0, x1, x2, x3, x4, hx⟩ => ⟨g, e, hg, x0, x1, x2, x3, x4, hx.below hb hx.lt⟩, fun σ w w' hb ⟨g, e, hg, x0, x1, x2, x3, x4, x5, x6, x7, x8, x9, x10, x11, hx⟩ => ⟨g, e, hg, x0, x1, x2, x3, x4, x5, x6, x7, x8, x9, x10, x11, hx.below hb hx.lt⟩, fun σ w w' hb ⟨g, A5, n5, c5, e, hg, hx, hp⟩ => ⟨g, A5, n5, c5, e, hg, hx.below hb hx.lt, (hp.below hb (Nat.le_refl _)).mono (Nat.le_refl _) hb.size⟩, fun σ w w' hb ⟨g, e, hg, hx⟩ => ⟨g, e, hg, hx.below hb hx.lt⟩, trivial⟩
  · exact ⟨hB.drew, hx, hy, hM0, hz, hw_⟩
  case a0 =>
   go_light
   intro L σ W' hcl hL hC hw
   have ks := hC.2.1.cell
   exact zstep5
  case a2 =>
   go_light
   intro L σ W' hcl hL hC hw
   have kh := hC.2.2.1.cell
   exact zstep5
  case a12 =>
   go_light
   intro L σ W' hcl hL hC hw
   have e7 := wV hw 7 rfl
   exact zstep5
  case a1 =>
   exact zstep9
  case a3 =>
   exact zstep7
  case a4 =>
   exact zstep14
  case a5 =>
   exact zstep15
  case a6 =>
   go_light
   intro L σ W' hcl hL hC hw
   obtain ⟨A5, n5, c5, e4, hp4⟩ := wE hw 4 rfl
   exact zstep5
  case a7 =>
   go_light
   intro L σ W' hcl hL hC hw
   obtain ⟨A5, n5, c5, e4, hp4⟩ := wE hw 4 rfl
   exact zstep5
  case a8 =>
   exact zstep10
  case a9 =>
   exact zstep8
  case a10 =>
   exact zstep2
  case a11 =>
   exact zstep3
  ·
   intro L L' W' hLL hC
   obtain ⟨hB, hx, hy, hM0, hz, hw_⟩ := hC
   exact ⟨hB, hx, hy, hM0, hz, hw_⟩
  ·
   exact zstep13
 case rest =>
  clear hB hx hy hz hw_ hM0
  obtain ⟨hB, hx, hy, hz, hw_, hM0, X, Y, A5, n5, c5, hXM, hYM, hX, hY, hG, rfl, rfl, rfl⟩ := hcut
  cases hq2 : q.2.2
  ·
   have HV := Lib.hid (show stepS takeS lateB s (⟨at_, v, r, t, seen, tr, sp, ag, re⟩ : Hd) = (s, (⟨at_, v, r, t, seen, tr, sp, ag, re⟩ : Hd), false) by simp [stepS, HOK.out, HHO.out, HTB.out, HRB.out, HQ.out, hq2])
   go_upto_region 7 with fail
   exact zstep0
  ·
   have HQ2 := Lib.hid hq2; clear hq2
   have kX := hX.cell
   go_wp2_with fail
   clear kX
   refine (sstoreOk_any q.1 A5 n5 c5 M0 wc.heap.size _ hG (Nat.le_refl _) (by have := hG.1; have := HQN.out.2.1; omega) HQN.out.len).mono ?_
   rintro e w4 ⟨rfl, hb⟩
   replace hX := hX.below hb hX.lt
   replace hY := hY.below hb hY.lt
   replace hG := (hG.below hb (Nat.le_refl _)).mono (Nat.le_refl _) hb.size
   replace hx := hx.below hb hx.lt
   replace hy := hy.below hb hy.lt
   replace hz := hz.below hb hz.lt
   replace hw_ := hw_.below hb hw_.lt
   replace hB := bstep hB hB.size hb
   have h4 := hb.size
   clear hb
   cases hsq : stOk q.1
   ·
    have HV := Lib.hid (show stepS takeS lateB s (⟨at_, v, r, t, seen, tr, sp, ag, re⟩ : Hd) = (s, (⟨at_, v, r, t, seen, tr, sp, ag, re⟩ : Hd), false) by simp [stepS, HOK.out, HHO.out, HTB.out, HRB.out, HQ.out, HQ2.out, hsq])
    go_upto_region 7 with fail
    exact zstep0
   ·
    have HSQ := Lib.hid hsq; clear hsq
    go_upto_region 8 with fail
    clear HCPY HTK
    have HV := Lib.hid (show stepS takeS lateB s (⟨at_, v, r, t, seen, tr, sp, ag, re⟩ : Hd) = (q.1, q.2.1, true) by simp [stepS, HOK.out, HHO.out, HTB.out, HRB.out, HQ.out, HQ2.out, HSQ.out])
    refine ret4b w true q.1 M0 w4.heap.size A5 n5 c5 q.2.1 X Y (by kernel_rfl) (by kernel_rfl) (by kernel_rfl) (by kernel_rfl) (by omega) (by omega) ⟨hB, hX, hY, hz, hw_, hG, Nat.le_refl _⟩ ?k0 ?k1 ?k2 ?k3 ?k4 ?hQ
    case k0 | k1 | k2 | k3 =>
     exact zstep4
    case k4 =>
     intros
     refine OpGoes.go fun K hK => ?_
     go_simp
     exact hK _ _ ⟨rfl, rfl⟩
    case hQ =>
     clear hB hX hY hx hy hz hw_ hG
     generalize hq2 : q.2.1 = h2 at *
     clear hq2
     intro σ W' e_ hB k7 k8 hG _
     replace k7 := k7.cell
     replace k8 := k8.cell
     simp only [lexAll]
     go_simp
     go_step
     go_wp2
     refine bodyPost_ret (v := .tuple #[stV q.1 A5 n5 c5, hdV h2, .bool true]) (by simp [results, Tryz.results25, go_sem, k7, k8, stV, hdV, Hd.rest, Hd.zero]) rfl ⟨A5, n5, c5, by rw [HV.out], ?_, hB⟩
     rw [HV.out]
     exact hG.cut.mono (by omega) (Nat.le_refl _)
def ps5V (s : St) (N M0 n cap : Nat) (A : Option Addr) (at_ v r t : Int) (seen : Pl) (tr sp : Int) (ag : Bool) (re : Int) (q : St × Hd × Bool) : List Sl := [.v (.agg (aS s A n cap)),
 .e fun σ w => ∃ (A1 : Option Addr) (n1 c1 : Nat), σ 1 = .agg (aS s A1 n1 c1) ∧ RgsW M0 w.heap.size w A1 n1 c1 s.rs,
 .v (.agg (dH at_ v r t seen tr sp ag re)),
 .e fun σ w => ∃ (A5 : Option Addr) (n5 c5 : Nat), σ 3 = .tuple #[.agg (aS q.1 A5 n5 c5), .agg (aH q.2.1), q.2.2] ∧ RgsW M0 w.heap.size w A5 n5 c5 q.1.rs,
 .e fun σ w => ∃ (A5 : Option Addr) (n5 c5 : Nat), σ 4 = .tuple #[.agg (aS q.1 A5 n5 c5), .agg (aH q.2.1), q.2.2] ∧ RgsW M0 w.heap.size w A5 n5 c5 q.1.rs,
 .e fun σ w => ∃ (A5 : Option Addr) (n5 c5 : Nat), σ 5 = .agg (aS q.1 A5 n5 c5) ∧ RgsW M0 w.heap.size w A5 n5 c5 q.1.rs,
 .v (.agg (aH q.2.1)),
 .v (.bool q.2.2),
 .e fun σ w => ∃ g8, σ 8 = pT g8 ∧ M0 ≤ g8 ∧ ∃ x0 x1 x2 x3 x4, BoxAt w g8 #[x0, x1, x2, x3, x4] 32,
 .e fun σ w => ∃ g9, σ 9 = pT g9 ∧ M0 ≤ g9 ∧ ∃ x0 x1 x2 x3 x4 x5 x6 x7 x8 x9 x10 x11, BoxAt w g9 #[x0, x1, x2, x3, x4, x5, x6, x7, x8, x9, x10, x11] 35,
 .e fun σ w => ∃ (g8 : Nat) (A5 : Option Addr) (n5 c5 : Nat), σ 8 = pT g8 ∧ M0 ≤ g8 ∧ BoxAt w g8 (aS q.1 A5 n5 c5) 32 ∧ RgsW M0 w.heap.size w A5 n5 c5 q.1.rs,
 .e fun σ w => ∃ g9, σ 9 = pT g9 ∧ M0 ≤ g9 ∧ BoxAt w g9 (aH q.2.1) 35,
 .v (.bool q.2.2)]
set_option maxRecDepth 100000 in
set_option maxHeartbeats 4000000 in
theorem sputStep_any (s : St) (A : Option Addr) (n cap lo hi : Nat) (h : Hd) (w : World) (hs : RgsW lo hi w A n cap s.rs) (hh : hi ≤ w.heap.size) (hm : n ≤ 1048576) (hpn : ∀ r ∈ s.rs, r.ps.length ≤ 1048576) :
  Calls Tryz.prog 24 #[stV s A n cap, hdV h] w (RetSHB w.heap.size (stepS putS putB s h) w) := by
 have HPN := Lib.hid hpn; clear hpn
 have HLN := Lib.hid hs.1
 obtain ⟨at_, v, r, t, seen, tr, sp, ag, re⟩ := h
 unfold stV hdV
 dsimp only
 go_enter Tryz.func24, Tryz.ntmps24
 go_upto_region 1 with fail
 refine wp_abs (fun W => Below w.heap.size w W ∧ BoxAt W w.heap.size (aS s A n cap) 32 ∧ BoxAt W (w.heap.size + 1) (dH at_ v r t seen tr sp ag re) 35 ∧ BoxAt W (w.heap.size + 1 + 1) zS 32 ∧ BoxAt W (w.heap.size + 1 + 1 + 1) zH 35) ⟨(((((Below.refl _ _).alloc (Nat.le_refl _) _).alloc (by simp) _).alloc (by simp; omega) _).alloc (by simp; omega) _), (((BoxAt.new _ _ _).alloc _).alloc _).alloc _, ((BoxAt.new' (by simp)).alloc _).alloc _, (BoxAt.new' (by simp)).alloc _, BoxAt.new' (by simp)⟩ ?_
 rintro W0 ⟨hB, hx, hy, hz, hw_⟩
 have lw0 := hw_.lt
 have hs0 := hs.below hB hh
 have kx := hx.cell
 have ky := hy.cell
 have fy := hy.frozen
 go_wp2_with fail
 clear kx ky fy
 refine (sstoreOk_any s A n cap lo hi _ hs0 (Nat.le_trans hh hB.size) hm HPN.out).mono ?_
 rintro e w1 ⟨rfl, hb⟩
 replace hx := hx.below hb hx.lt
 replace hy := hy.below hb hy.lt
 replace hz := hz.below hb hz.lt
 replace hw_ := hw_.below hb hw_.lt
 replace hB := bstep hB hB.size hb
 have h1 := hb.size
 clear hb
 clear hs0
 cases hok : stOk s
 ·
  have HV := Lib.hid (show stepS putS putB s (⟨at_, v, r, t, seen, tr, sp, ag, re⟩ : Hd) = (St.zero, Hd.zero, false) by simp [stepS, hok])
  exact zstep12
 have HOK := Lib.hid hok
 have HNT := Lib.hid (stOk_neat hok)
 clear hok
 have ky := hy.cell
 go_wp2_with fail
 clear ky
 refine (shandOk_any (⟨at_, v, r, t, seen, tr, sp, ag, re⟩ : Hd) _).mono ?_
 rintro e w2 ⟨rfl, hb⟩
 replace hx := hx.below hb hx.lt
 replace hy := hy.below hb hy.lt
 replace hz := hz.below hb hz.lt
 replace hw_ := hw_.below hb hw_.lt
 replace hB := bstep hB hB.size hb
 have h2 := hb.size
 clear hb
 cases hho : (⟨at_, v, r, t, seen, tr, sp, ag, re⟩ : Hd).ok
 ·
  have HV := Lib.hid (show stepS putS putB s (⟨at_, v, r, t, seen, tr, sp, ag, re⟩ : Hd) = (St.zero, Hd.zero, false) by simp [stepS, HOK.out, hho])
  exact zstep12
 have HHO := Lib.hid hho
 clear hho
 have HCPY := Lib.hid (show ∀ W : World, Below w.heap.size w W → Calls Tryz.prog 36 #[stV s A n cap] W (RetS W.heap.size s W) from fun W hBW => l3Copy_rgs s A n cap lo hi W (hs.below hBW hh) (Nat.le_trans hh hBW.size) HNT.out)
 unfold stV at HCPY
 have kx := hx.cell
 have ky := hy.cell
 go_wp2_with fail
 refine (l5Putting_any at_ _).mono ?_
 rintro e w' ⟨rfl, rfl⟩
 cases hpb : putB at_
 ·
  have HV := Lib.hid (show stepS putS putB s (⟨at_, v, r, t, seen, tr, sp, ag, re⟩ : Hd) = (s, (⟨at_, v, r, t, seen, tr, sp, ag, re⟩ : Hd), false) by simp [stepS, HOK.out, HHO.out, hpb])
  go_upto_region 4 with fail
  clear kx ky
  exact zstep1
 go_wp2_with fail
 clear kx ky
 refine (l4Ring_any s A n cap r _ HLN.out hm).mono ?_
 rintro e w3 ⟨rfl, hb⟩
 replace hx := hx.below hb hx.lt
 replace hy := hy.below hb hy.lt
 replace hz := hz.below hb hz.lt
 replace hw_ := hw_.below hb hw_.lt
 replace hB := bstep hB hB.size hb
 have h3 := hb.size
 clear hb
 cases hrb : ringB s r
 ·
  have HV := Lib.hid (show stepS putS putB s (⟨at_, v, r, t, seen, tr, sp, ag, re⟩ : Hd) = (s, (⟨at_, v, r, t, seen, tr, sp, ag, re⟩ : Hd), false) by simp [stepS, HOK.out, HHO.out, hrb])
  go_upto_region 4 with fail
  exact zstep1
 have HTB := Lib.hid (show putB at_ = true by simp [hpb])
 obtain ⟨q, hq⟩ : ∃ q, putS s (⟨at_, v, r, t, seen, tr, sp, ag, re⟩ : Hd) = q := ⟨_, rfl⟩
 have HQN := Lib.hid (show Neat q.1 by rw [← hq]; exact putS_neat HOK.out)
 obtain ⟨M0, hMe⟩ : ∃ M0, M0 = w3.heap.size := ⟨_, rfl⟩
 have hM0 : M0 ≤ w3.heap.size := by omega
 have hM4 : w.heap.size + 4 ≤ M0 := by have := hw_.lt; omega
 clear hMe
 have HTK := Lib.hid (show ∀ (W : World) (A1 : Option Addr) (n1 c1 : Nat), Below w.heap.size w W → M0 ≤ W.heap.size → RgsW M0 W.heap.size W A1 n1 c1 s.rs → Calls Tryz.prog 50 #[stV s A1 n1 c1, hdV (⟨at_, v, r, t, seen, tr, sp, ag, re⟩ : Hd)] W (RetSHB M0 q W) from fun W A1 n1 c1 hBW hMW hG => by
  have := l6Put_any s A1 n1 c1 M0 W.heap.size (⟨at_, v, r, t, seen, tr, sp, ag, re⟩ : Hd) W hG (Nat.le_refl _) hMW HOK.out hrb HHO.out hpb
  rw [hq] at this
  exact this)
 unfold stV hdV at HTK
 have HRB := Lib.hid hrb
 have HQ := Lib.hid hq
 clear hrb hq
 go_upto_region 5 with fail
 go_cut [7, 8, 9] (fun u7 u8 u9 W' => Below w.heap.size w W' ∧ BoxAt W' w.heap.size (aS s A n cap) 32 ∧ BoxAt W' (w.heap.size + 1) (dH at_ v r t seen tr sp ag re) 35 ∧ BoxAt W' (w.heap.size + 1 + 1) zS 32 ∧ BoxAt W' (w.heap.size + 1 + 1 + 1) zH 35 ∧ M0 ≤ W'.heap.size ∧ ∃ (X Y : Nat) (A5 : Option Addr) (n5 c5 : Nat), M0 ≤ X ∧ M0 ≤ Y ∧ BoxAt W' X (aS q.1 A5 n5 c5) 32 ∧ BoxAt W' Y (aH q.2.1) 35 ∧ RgsW M0 W'.heap.size W' A5 n5 c5 q.1.rs ∧ u7 = pT X ∧ u8 = pT Y ∧ u9 = .bool q.2.2)
 case first =>
  refine wp_region2v (fun w w' => Below w.heap.size w w') (fun _ _ h => h.size) (fun _ => Below.refl _ _) (fun L W' => Below w.heap.size w W' ∧ BoxAt W' w.heap.size (aS s A n cap) 32 ∧ BoxAt W' (w.heap.size + 1) (dH at_ v r t seen tr sp ag re) 35 ∧ M0 ≤ W'.heap.size ∧ BoxAt W' (w.heap.size + 1 + 1) zS 32 ∧ BoxAt W' (w.heap.size + 1 + 1 + 1) zH 35) (ps5V s w.heap.size M0 n cap A at_ v r t seen tr sp ag re q) (fun j => [0, 0, 0, 0, 0, 0, 0, 0, 2, 2, 1, 1, 0].getD j 0) [(10, 8), (11, 9)] (by kernel_rfl) (by kernel_rfl) ?_ ?_ ?_
   (.still rfl ?a0 <| .grow rfl ?a1 <| .still rfl ?a2 <| .grow rfl ?a3 <| .still rfl ?a4 <| .still rfl ?a5 <| .still rfl ?a6 <| .still rfl ?a7 <| .make rfl ?a8 <| .make rfl ?a9 <| .store rfl ?a10 <| .store rfl ?a11 <| .still rfl ?a12 <| .nil) ?_ ?_
  · exact ⟨fun _ _ _ h ⟨A1, n1, c1, e, hp⟩ => ⟨A1, n1, c1, (h 1 (List.mem_singleton.2 rfl)).symm.trans e, hp⟩, fun _ _ _ h ⟨A5, n5, c5, e, hp⟩ => ⟨A5, n5, c5, (h 3 (List.mem_singleton.2 rfl)).symm.trans e, hp⟩, fun _ _ _ h ⟨A5, n5, c5, e, hp⟩ => ⟨A5, n5, c5, (h 4 (List.mem_singleton.2 rfl)).symm.trans e, hp⟩, fun _ _ _ h ⟨A5, n5, c5, e, hp⟩ => ⟨A5, n5, c5, (h 5 (List.mem_singleton.2 rfl)).symm.trans e, hp⟩, fun _ _ _ h ⟨g, e, hp⟩ => ⟨g, (h 8 (List.mem_singleton.2 rfl)).symm.trans e, hp⟩, fun _ _ _ h ⟨g, e, hp⟩ => ⟨g, (h 9 (List.mem_singleton.2 rfl)).symm.trans e, hp⟩, fun _ _ _ h ⟨g, A5, n5, c5, e, hp⟩ => ⟨g, A5, n5, c5, (h 8 (List.mem_singleton.2 rfl)).symm.trans e, hp⟩, fun _ _ _ h ⟨g, e, hp⟩ => ⟨g, (h 9 (List.mem_singleton.2 rfl)).symm.trans e, hp⟩, trivial⟩
  · exact ⟨fun σ w w' hb ⟨A1, n1, c1, e, hp⟩ => ⟨A1, n1, c1, e, (hp.below hb (Nat.le_refl _)).mono (Nat.le_refl _) hb.size⟩, fun σ w w' hb ⟨A5, n5, c5, e, hp⟩ => ⟨A5, n5, c5, e, (hp.below hb (Nat.le_refl _)).mono (Nat.le_refl _) hb.size⟩, fun σ w w' hb ⟨A5, n5, c5, e, hp⟩ => ⟨A5, n5, c5, e, (hp.below hb (Nat.le_refl _)).mono (Nat.le_refl _) hb.size⟩, fun σ w w' hb ⟨A5, n5, c5, e, hp⟩ => ⟨A5, n5, c5, e, (hp.below hb (Nat.le_refl _)).mono (Nat.le_refl _) hb.size⟩, fun σ w w' hb ⟨g, e, hg, x0, x1, x2, x3, x4, hx⟩ => ⟨g, e, hg, x0, x1, x2, x3, x4, hx.below hb hx.lt⟩, fun σ w w' hb ⟨g, e, hg, x0, x1, x2, x3, x4, x5, x6, x7, x8, x9, x10, x11, hx⟩ => ⟨g, e, hg, x0, x1, x2, x3, x4, x5, x6, x7, x8, x9, x10, x11, hx.below hb hx.lt⟩, fun σ w w' hb ⟨g, A5, n5, c5, e, hg, hx, hp⟩ => ⟨g, A5, n5, c5, e, hg, hx.below hb hx.lt, (hp.below hb (Nat.le_refl _)).mono (Nat.le_refl _) hb.size⟩, fun σ w w' hb ⟨g, e, hg, hx⟩ => ⟨g, e, hg, hx.below hb hx.lt⟩, trivial⟩
  · exact ⟨hB.drew, hx, hy, hM0, hz, hw_⟩
  case a0 =>
   go_light
   intro L σ W' hcl hL hC hw
   have ks := hC.2.1.cell
   exact zstep5
  case a2 =>
   go_light
   intro L σ W' hcl hL hC hw
   have kh := hC.2.2.1.cell
   exact zstep5
  case a12 =>
   go_light
   intro L σ W' hcl hL hC hw
   have e7 := wV hw 7 rfl
   exact zstep5
  case a1 =>
   exact zstep9
  case a3 =>
   exact zstep7
  case a4 =>
   exact zstep14
  case a5 =>
   exact zstep15
  case a6 =>
   go_light
   intro L σ W' hcl hL hC hw
   obtain ⟨A5, n5, c5, e4, hp4⟩ := wE hw 4 rfl
   exact zstep5
  case a7 =>
   go_light
   intro L σ W' hcl hL hC hw
   obtain ⟨A5, n5, c5, e4, hp4⟩ := wE hw 4 rfl
   exact zstep5
  case a8 =>
   exact zstep10
  case a9 =>
   exact zstep8
  case a10 =>
   exact zstep2
  case a11 =>
   exact zstep3
  ·
   intro L L' W' hLL hC
   obtain ⟨hB, hx, hy, hM0, hz, hw_⟩ := hC
   exact ⟨hB, hx, hy, hM0, hz, hw_⟩
  ·
   exact zstep13
 case rest =>
  clear hB hx hy hz hw_ hM0
  obtain ⟨hB, hx, hy, hz, hw_, hM0, X, Y, A5, n5, c5, hXM, hYM, hX, hY, hG, rfl, rfl, rfl⟩ := hcut
  cases hq2 : q.2.2
  ·
   have HV := Lib.hid (show stepS putS putB s (⟨at_, v, r, t, seen, tr, sp, ag, re⟩ : Hd) = (s, (⟨at_, v, r, t, seen, tr, sp, ag, re⟩ : Hd), false) by simp [stepS, HOK.out, HHO.out, HTB.out, HRB.out, HQ.out, hq2])
   go_upto_region 7 with fail
   exact zstep1
  ·
   have HQ2 := Lib.hid hq2; clear hq2
   have kX := hX.cell
   go_wp2_with fail
   clear kX
   refine (sstoreOk_any q.1 A5 n5 c5 M0 wc.heap.size _ hG (Nat.le_refl _) (by have := hG.1; have := HQN.out.2.1; omega) HQN.out.len).mono ?_
   rintro e w4 ⟨rfl, hb⟩
   replace hX := hX.below hb hX.lt
   replace hY := hY.below hb hY.lt
   replace hG := (hG.below hb (Nat.le_refl _)).mono (Nat.le_refl _) hb.size
   replace hx := hx.below hb hx.lt
   replace hy := hy.below hb hy.lt
   replace hz := hz.below hb hz.lt
   replace hw_ := hw_.below hb hw_.lt
   replace hB := bstep hB hB.size hb
   have h4 := hb.size
   clear hb
   cases hsq : stOk q.1
   ·
    have HV := Lib.hid (show stepS putS putB s (⟨at_, v, r, t, seen, tr, sp, ag, re⟩ : Hd) = (s, (⟨at_, v, r, t, seen, tr, sp, ag, re⟩ : Hd), false) by simp [stepS, HOK.out, HHO.out, HTB.out, HRB.out, HQ.out, HQ2.out, hsq])
    go_upto_region 7 with fail
    exact zstep1
   ·
    have HSQ := Lib.hid hsq; clear hsq
    go_upto_region 8 with fail
    clear HCPY HTK
    have HV := Lib.hid (show stepS putS putB s (⟨at_, v, r, t, seen, tr, sp, ag, re⟩ : Hd) = (q.1, q.2.1, true) by simp [stepS, HOK.out, HHO.out, HTB.out, HRB.out, HQ.out, HQ2.out, HSQ.out])
    refine ret4b w true q.1 M0 w4.heap.size A5 n5 c5 q.2.1 X Y (by kernel_rfl) (by kernel_rfl) (by kernel_rfl) (by kernel_rfl) (by omega) (by omega) ⟨hB, hX, hY, hz, hw_, hG, Nat.le_refl _⟩ ?k0 ?k1 ?k2 ?k3 ?k4 ?hQ
    case k0 | k1 | k2 | k3 =>
     exact zstep4
    case k4 =>
     intros
     refine OpGoes.go fun K hK => ?_
     go_simp
     exact hK _ _ ⟨rfl, rfl⟩
    case hQ =>
     clear hB hX hY hx hy hz hw_ hG
     generalize hq2 : q.2.1 = h2 at *
     clear hq2
     intro σ W' e_ hB k7 k8 hG _
     replace k7 := k7.cell
     replace k8 := k8.cell
     simp only [lexAll]
     go_simp
     go_step
     go_wp2
     refine bodyPost_ret (v := .tuple #[stV q.1 A5 n5 c5, hdV h2, .bool true]) (by simp [results, Tryz.results24, go_sem, k7, k8, stV, hdV, Hd.rest, Hd.zero]) rfl ⟨A5, n5, c5, by rw [HV.out], ?_, hB⟩
     rw [HV.out]
     exact hG.cut.mono (by omega) (Nat.le_refl _)
end Go.Proofs.YthpckpnlohfcbaaGreatDoor
namespace Go.Proofs.YthpckpnlohfcbaaGreatDoor
set_option linter.unusedSimpArgs false
set_option linter.unusedVariables false
open Go.RowKit
set_option linter.unusedVariables false
attribute [local go_sem] OpUpon
attribute [local go_sem ↓] Go.wp_at_zero Go.wp_at_succ
def fits (s : St) (h : Hd) : Bool := stOk s && h.ok && (decide (h.at_ = 0) || (ringB s h.r && decide (h.sp < s.rs.length)))
end Go.Proofs.YthpckpnlohfcbaaGreatDoor
namespace Go.Proofs.YthpckpnlohfcbaaGreatDoor
set_option linter.unusedSimpArgs false
set_option linter.unusedVariables false
open Go.RowKit
set_option linter.unusedVariables false
attribute [local go_sem] OpUpon
attribute [local go_sem ↓] Go.wp_at_zero Go.wp_at_succ
def stepped (s : St) (h : Hd) : St × Hd × Bool := if isPutting h then stepS putS putB s h else stepS takeS lateB s h
set_option maxRecDepth 100000 in
set_option maxHeartbeats 4000000 in
theorem sstepped_any (s : St) (A : Option Addr) (n cap lo hi : Nat) (h : Hd) (w : World) (hs : RgsW lo hi w A n cap s.rs) (hh : hi ≤ w.heap.size) (hm : n ≤ 1048576) (hpn : ∀ r ∈ s.rs, r.ps.length ≤ 1048576) :
  Calls Tryz.prog 8 #[stV s A n cap, hdV h] w (RetSHB w.heap.size (stepped s h) w) := by
 have HPN := Lib.hid hpn; clear hpn
 have HLN := Lib.hid hs.1
 obtain ⟨at_, v, r, t, seen, tr, sp, ag, re⟩ := h
 unfold stV hdV
 dsimp only
 go_enter Tryz.func8, Tryz.ntmps8
 go_upto_region 1 with fail
 refine wp_abs (fun W => Below w.heap.size w W ∧ BoxAt W w.heap.size (aS s A n cap) 32 ∧ BoxAt W (w.heap.size + 1) (dH at_ v r t seen tr sp ag re) 35 ∧ BoxAt W (w.heap.size + 1 + 1) zS 32 ∧ BoxAt W (w.heap.size + 1 + 1 + 1) zH 35) ⟨(((((Below.refl _ _).alloc (Nat.le_refl _) _).alloc (by simp) _).alloc (by simp; omega) _).alloc (by simp; omega) _), (((BoxAt.new _ _ _).alloc _).alloc _).alloc _, ((BoxAt.new' (by simp)).alloc _).alloc _, (BoxAt.new' (by simp)).alloc _, BoxAt.new' (by simp)⟩ ?_
 rintro W0 ⟨hB, hx, hy, hz, hw_⟩
 have lw0 := hw_.lt
 have hs0 := hs.below hB hh
 have kx := hx.cell
 have ky := hy.cell
 have fy := hy.frozen
 go_wp2_with fail
 clear kx ky fy hs0
 refine (sisPutting_any (⟨at_, v, r, t, seen, tr, sp, ag, re⟩ : Hd) _).mono ?_
 rintro e w1 ⟨rfl, hb⟩
 replace hz := hz.below hb hz.lt
 replace hw_ := hw_.below hb hw_.lt
 replace hx := hx.below hb hx.lt
 replace hy := hy.below hb hy.lt
 replace hB := bstep hB hB.size hb
 have h1 := hb.size
 clear hb
 cases hp : isPutting (⟨at_, v, r, t, seen, tr, sp, ag, re⟩ : Hd)
 ·
  have HV := Lib.hid (show stepped s (⟨at_, v, r, t, seen, tr, sp, ag, re⟩ : Hd) = stepS takeS lateB s (⟨at_, v, r, t, seen, tr, sp, ag, re⟩ : Hd) by simp [stepped, hp])
  clear hp
  have kx := hx.cell
  have ky := hy.cell
  go_wp2_with fail
  clear kx ky
  refine (stakeStep_any s A n cap lo hi (⟨at_, v, r, t, seen, tr, sp, ag, re⟩ : Hd) _ (hs.below hB hh) (Nat.le_trans hh hB.size) hm HPN.out).mono ?_
  rintro e w2 ⟨A5, n5, c5, rfl, hG5, hb5⟩
  replace hz := hz.below hb5 hz.lt
  replace hw_ := hw_.below hb5 hw_.lt
  have h5 := hb5.size
  have h6 := hB.size
  replace hB := bstep hB hB.size hb5
  clear hb5 hx hy
  generalize hq5 : stepS takeS lateB s (⟨at_, v, r, t, seen, tr, sp, ag, re⟩ : Hd) = q at *
  exact zstep6
 ·
  have HV := Lib.hid (show stepped s (⟨at_, v, r, t, seen, tr, sp, ag, re⟩ : Hd) = stepS putS putB s (⟨at_, v, r, t, seen, tr, sp, ag, re⟩ : Hd) by simp [stepped, hp])
  clear hp
  have kx := hx.cell
  have ky := hy.cell
  go_wp2_with fail
  clear kx ky
  refine (sputStep_any s A n cap lo hi (⟨at_, v, r, t, seen, tr, sp, ag, re⟩ : Hd) _ (hs.below hB hh) (Nat.le_trans hh hB.size) hm HPN.out).mono ?_
  rintro e w2 ⟨A5, n5, c5, rfl, hG5, hb5⟩
  replace hz := hz.below hb5 hz.lt
  replace hw_ := hw_.below hb5 hw_.lt
  have h5 := hb5.size
  have h6 := hB.size
  replace hB := bstep hB hB.size hb5
  clear hb5 hx hy
  generalize hq5 : stepS putS putB s (⟨at_, v, r, t, seen, tr, sp, ag, re⟩ : Hd) = q at *
  exact zstep6
end Go.Proofs.YthpckpnlohfcbaaGreatDoor

/-
 What a step of the program leaves: a store and a hand.
-/
import Derived.Test.YthpckpnlohfcbaaGreatDoorTail
import Derived.Test.YthpckpnlohfcbaaGreatDoorHanO
import Derived.Test.YthpckpnlohfcbaaGreatDoorCpyA
import Derived.Test.YthpckpnlohfcbaaGreatDoorRingF
import Derived.Test.YthpckpnlohfcbaaGreatDoorPutJ
import Derived.Test.YthpckpnlohfcbaaGreatDoorAddB
import Derived.Test.YthpckpnlohfcbaaGreatDoorSwpA
import Derived.Test.YthpckpnlohfcbaaGreatDoorCloA
import Derived.Test.YthpckpnlohfcbaaGreatDoorTicB
namespace Go.Proofs.YthpckpnlohfcbaaGreatDoor
set_option linter.unusedSimpArgs false
set_option linter.unusedVariables false
open Go.RowKit
set_option linter.unusedVariables false
attribute [local go_sem] OpUpon
attribute [local go_sem ↓] Go.wp_at_zero Go.wp_at_succ
theorem zpsA0 {p : Prop} (h : p := by
 clear hw hcl hL hC
 refine OpGoes.go fun K hK => ?_
 go_simp
 exact hK _ _ ⟨rfl, rfl⟩) : p := h -- ee92c020
theorem zpsA1 {p : Prop} (h : p := by
 clear hB hx hy hz hw_ hc
 obtain ⟨hB, hx, hy, hz, hw_, rfl⟩ := hcut
 have hs0 := hs.below hB hh
 have lwc := hw_.lt
 have ky := hy.cell
 have fy := hy.frozen
 go_upto_region 5 with fail
 have HV := Lib.hid (show PH (put8 s ⟨8, v, r, t, seen, tr, sp, ag, re⟩) = (s, (⟨9, v, r, t, seen, (tr + 1), sp, ag, re⟩ : Hd)) by simp only [PH, put8, HAT.out, HD8.out, if_true]; rfl)
 refine ret4 w s lo hi (some ⟨b, 0, none⟩) n cap (⟨9, v, r, t, seen, (tr + 1), sp, ag, re⟩ : Hd) w.heap.size (w.heap.size + 1) (by kernel_rfl) (by kernel_rfl) (by kernel_rfl) (by kernel_rfl) (by omega) (by omega) ⟨(sc hB), (hx.sn), by simpa using (hy.set 0 (.int .i64 9)), (hz.sn), (hw_.sn), (hs0.sr), by simp; omega⟩ ?k0 ?k1 ?k2 ?k3 ?hQ
 case k0 | k1 | k2 | k3 =>
  intros
  rename_i k
  have kc_ := k.cell
  have kf_ := k.frozen
  refine OpGoes.go fun K hK => ?_
  go_simp
  first | exact hK _ _ ⟨rfl, rfl⟩ | exact hK _ _ rfl
 case hQ =>
  clear ky fy hB hx hy hz hw_ hs0
  generalize hq2 : (⟨9, v, r, t, seen, (tr + 1), sp, ag, re⟩ : Hd) = h2 at *
  clear hq2
  intro σ W' _ hB k7 k8 hG _
  replace k7 := k7.cell
  replace k8 := k8.cell
  simp only [lexAll]
  go_simp
  go_step
  go_wp2
  refine bodyPost_ret (v := .tuple #[stV s (some ⟨b, 0, none⟩) n cap, hdV h2]) (by simp [results, Tryz.results120, go_sem, k7, k8, stV, hdV]) rfl ⟨(some ⟨b, 0, none⟩), n, cap, by rw [HV.out], ?_, hB⟩
  rw [HV.out]
  exact hG.cut.mono (Nat.zero_le _) (Nat.le_refl _)) : p := h -- 96f6b744
theorem zpsA2 {p : Prop} (h : p := by
 intros
 rename_i k
 have kc_ := k.cell
 have kf_ := k.frozen
 refine OpGoes.go fun K hK => ?_
 go_simp
 first | exact hK _ _ ⟨rfl, rfl⟩ | exact hK _ _ rfl) : p := h -- e92ca8c3
theorem zpsA3 {p : Prop} (h : p := by
 intro σ L W' hall hC hRR
 obtain ⟨hB, hx, hy, hz, hw_, hc⟩ := hC
 have e17 := dV hRR 17 rfl
 clear hRR
 simp only [lexAll]
 go_simp
 go_step
 go_meet
 exact ⟨hB, hx, hy, hz, hw_, rfl⟩) : p := h -- 4fc312ba
theorem zpsA4 {p : Prop} (h : p := by
 clear hq2
 intro σ W' _ hB k7 k8 hG _
 replace k7 := k7.cell
 replace k8 := k8.cell
 simp only [lexAll]
 go_simp
 go_step
 go_wp2
 refine bodyPost_ret (v := .tuple #[stV s (some ⟨b, 0, none⟩) n cap, hdV h2]) (by simp [results, Tryz.results118, go_sem, k7, k8, stV, hdV]) rfl ⟨(some ⟨b, 0, none⟩), n, cap, by rw [HV.out], ?_, hB⟩
 rw [HV.out]
 exact hG.cut.mono (Nat.zero_le _) (Nat.le_refl _)) : p := h -- eee50f08
theorem zpsA5 {p : Prop} (h : p := by
 intro L L' W' hLL hC
 obtain ⟨hB, hx, hy, hz, hw_, hc⟩ := hC
 exact ⟨hB, hx, hy, hz, hw_, hc⟩) : p := h -- 6a3a677b
theorem zpsA6 {p : Prop} (h : p := by
 clear hq2
 intro σ W' _ hB k7 k8 hG _
 replace k7 := k7.cell
 replace k8 := k8.cell
 simp only [lexAll]
 go_simp
 go_step
 go_wp2
 refine bodyPost_ret (v := .tuple #[stV s (some ⟨b, 0, none⟩) n cap, hdV h2]) (by simp [results, Tryz.results114, go_sem, k7, k8, stV, hdV]) rfl ⟨(some ⟨b, 0, none⟩), n, cap, by rw [HV.out], ?_, hB⟩
 rw [HV.out]
 exact hG.cut.mono (Nat.zero_le _) (Nat.le_refl _)) : p := h -- 73f39cf6
theorem zpsA7 {p : Prop} (h : p := by
 intro σ L W' hall hC hRR
 obtain ⟨hB, hx, hy, hz, hw_, hc⟩ := hC
 have e9 := dV hRR 9 rfl
 clear hRR
 simp only [lexAll]
 go_simp
 go_step
 go_meet
 exact ⟨hB, hx, hy, hz, hw_, rfl⟩) : p := h -- 75630a6c

def PH (q : St × Hd × Bool) : St × Hd := (q.1, q.2.1)
def RetSH (q : St × Hd) (w : World) (e : Ending) (w' : World) : Prop :=
 ∃ A n cap, e = .returned (.tuple #[stV q.1 A n cap, hdV q.2]) ∧ RgsW 0 w'.heap.size w' A n cap q.1.rs ∧ Below w.heap.size w w'
set_option maxHeartbeats 400000 in
theorem irest_any (h : Hd) (re : Int) (w : World) : Calls Tryz.prog 140 #[hdV h, re] w (RetBelow (hdV (h.rest re)) w) := by
 unfold hdV
 go_enter Tryz.func140, Tryz.ntmps140
 go_wp2
 refine bodyPost_ret (v := hdV (h.rest re)) (by simp [results, Tryz.results140, go_sem, hdV, Hd.rest, Hd.zero]) rfl ⟨rfl, ?_⟩
 exact ((Below.refl _ _).alloc (Nat.le_refl _) _).alloc (by simp) _
theorem stOk_rgok {s : St} (h : stOk s = true) {r : Rg} (hr : r ∈ s.rs) : r.ok = true := by
 simp only [stOk, Bool.and_eq_true] at h
 have := List.all_eq_true.1 h.1.2 r hr
 simp only [inSt, Bool.and_eq_true] at this
 exact this.1.1
end Go.Proofs.YthpckpnlohfcbaaGreatDoor
namespace Go.Proofs.YthpckpnlohfcbaaGreatDoor
set_option linter.unusedSimpArgs false
set_option linter.unusedVariables false
open Go.RowKit
set_option linter.unusedVariables false
attribute [local go_sem] OpUpon
attribute [local go_sem ↓] Go.wp_at_zero Go.wp_at_succ
def Snt (B : Nat) (a0 a1 a2 a3 a4 a5 : Addr) (w : World) : Prop := B ≤ w.heap.size ∧ Errs B w a0 a1 ∧ (Sent B w 2 a2 ∧ a2 ≠ a0) ∧ (Sent B w 5 a3 ∧ a3 ≠ a0) ∧ (Sent B w 4 a4 ∧ a4 ≠ a0) ∧ (Sent B w 1 a5 ∧ a5 ≠ a0)
theorem Snt.below {B : Nat} {a0 a1 a2 a3 a4 a5 : Addr} {w w' : World} (h : Snt B a0 a1 a2 a3 a4 a5 w) (hb : Below w.heap.size w w') : Snt B a0 a1 a2 a3 a4 a5 w' := by
 obtain ⟨h0, h1, h2, h3, h4, h5⟩ := h
 have k : ∀ j, j < B → w'.heap[j]? = w.heap[j]? := fun j hj => hb.block j (by omega)
 exact ⟨Nat.le_trans h0 hb.size, h1.keep k, ⟨h2.1.keep k, h2.2⟩, ⟨h3.1.keep k, h3.2⟩, ⟨h4.1.keep k, h4.2⟩, ⟨h5.1.keep k, h5.2⟩⟩
theorem imayPut_any (p : Pl) (t : Int) (w : World) : Calls Tryz.prog 139 #[.agg (cP p), t] w (RetBelow (.bool (mayPut p t)) w) := by
 go_enter Tryz.func139, Tryz.ntmps139
 cases hf : p.f
 ·
  go_wp2
  go_ret
  exact .mk (by simp [mayPut, hf]) ((Below.refl _ _).alloc (Nat.le_refl _) _)
 ·
  go_wp2
  go_ret
  exact .mk (by simp [mayPut, hf]) ((Below.refl _ _).alloc (Nat.le_refl _) _)
set_option maxRecDepth 100000 in
set_option maxHeartbeats 4000000 in
theorem ips_1 (s : St) (A : Option Addr) (n cap lo hi B : Nat) (a0 a1 a2 a3 a4 a5 : Addr) (v r t : Int) (seen : Pl) (tr sp : Int) (ag : Bool) (re : Int) (w : World) (hs : RgsW lo hi w A n cap s.rs) (hh : hi ≤ w.heap.size) (hok : stOk s = true) (hrb : ringB s r = true) (hE : Snt B a0 a1 a2 a3 a4 a5 w) :
  Calls Tryz.prog 113 #[stV s A n cap, hdV ⟨1, v, r, t, seen, tr, sp, ag, re⟩] w (RetSH (PH (put1 s ⟨1, v, r, t, seen, tr, sp, ag, re⟩)) w) := by
 have HOK := Lib.hid hok
 have HRB := Lib.hid hrb
 have HLN := Lib.hid hs.1
 have HNT := Lib.hid (stOk_neat hok)
 obtain ⟨z0, z1, z2⟩ := ringB_at HLN.out hrb
 clear hok hrb
 unfold stV hdV
 dsimp only
 go_enter Tryz.func113, Tryz.ntmps113
 go_upto_region 1 with fail
 refine wp_abs (fun W => Below w.heap.size w W ∧ BoxAt W w.heap.size (aS s A n cap) 32 ∧ BoxAt W (w.heap.size + 1) (dH 1 v r t seen tr sp ag re) 35 ∧ BoxAt W (w.heap.size + 1 + 1) zS 32 ∧ BoxAt W (w.heap.size + 1 + 1 + 1) zH 35) ⟨(((((Below.refl _ _).alloc (Nat.le_refl _) _).alloc (by simp) _).alloc (by simp; omega) _).alloc (by simp; omega) _), (((BoxAt.new _ _ _).alloc _).alloc _).alloc _, ((BoxAt.new' (by simp)).alloc _).alloc _, (BoxAt.new' (by simp)).alloc _, BoxAt.new' (by simp)⟩ ?_
 rintro W0 ⟨hB, hx, hy, hz, hw_⟩
 have lw0 := hw_.lt
 have hs0 := hs.below hB hh
 have kx := hx.cell
 have ky := hy.cell
 have fy := hy.frozen
 go_upto_region 2 with fail
 have HV := Lib.hid (show PH (put1 s ⟨1, v, r, t, seen, tr, sp, ag, re⟩) = (s, (⟨2, v, s.la, t, seen, tr, sp, ag, re⟩ : Hd)) by rfl)
 refine ret4 w s lo hi A n cap (⟨2, v, s.la, t, seen, tr, sp, ag, re⟩ : Hd) w.heap.size (w.heap.size + 1) (by kernel_rfl) (by kernel_rfl) (by kernel_rfl) (by kernel_rfl) (by omega) (by omega) ⟨(sc (sc hB)), ((hx.sn).sn), by simpa using ((hy.set 2 (.int .i64 s.la)).set 0 (.int .i64 2)), ((hz.sn).sn), ((hw_.sn).sn), ((hs0.sr).sr), by simp; omega⟩ ?k0 ?k1 ?k2 ?k3 ?hQ
 case k0 | k1 | k2 | k3 =>
  exact zpsA2
 case hQ =>
  clear kx ky fy hB hx hy hz hw_ hs0
  generalize hq2 : (⟨2, v, s.la, t, seen, tr, sp, ag, re⟩ : Hd) = h2 at *
  clear hq2
  intro σ W' _ hB k7 k8 hG _
  replace k7 := k7.cell
  replace k8 := k8.cell
  simp only [lexAll]
  go_simp
  go_step
  go_wp2
  refine bodyPost_ret (v := .tuple #[stV s A n cap, hdV h2]) (by simp [results, Tryz.results113, go_sem, k7, k8, stV, hdV]) rfl ⟨A, n, cap, by rw [HV.out], ?_, hB⟩
  rw [HV.out]
  exact hG.cut.mono (Nat.zero_le _) (Nat.le_refl _)
set_option maxRecDepth 100000 in
set_option maxHeartbeats 4000000 in
theorem ips_2 (s : St) (A : Option Addr) (n cap lo hi B : Nat) (a0 a1 a2 a3 a4 a5 : Addr) (v r t : Int) (seen : Pl) (tr sp : Int) (ag : Bool) (re : Int) (w : World) (hs : RgsW lo hi w A n cap s.rs) (hh : hi ≤ w.heap.size) (hok : stOk s = true) (hrb : ringB s r = true) (hE : Snt B a0 a1 a2 a3 a4 a5 w) :
  Calls Tryz.prog 114 #[stV s A n cap, hdV ⟨2, v, r, t, seen, tr, sp, ag, re⟩] w (RetSH (PH (put2 s ⟨2, v, r, t, seen, tr, sp, ag, re⟩)) w) := by
 have HOK := Lib.hid hok
 have HRB := Lib.hid hrb
 have HLN := Lib.hid hs.1
 have HNT := Lib.hid (stOk_neat hok)
 obtain ⟨z0, z1, z2⟩ := ringB_at HLN.out hrb
 clear hok hrb
 unfold stV hdV
 dsimp only
 go_enter Tryz.func114, Tryz.ntmps114
 go_upto_region 1 with fail
 refine wp_abs (fun W => Below w.heap.size w W ∧ BoxAt W w.heap.size (aS s A n cap) 32 ∧ BoxAt W (w.heap.size + 1) (dH 2 v r t seen tr sp ag re) 35 ∧ BoxAt W (w.heap.size + 1 + 1) zS 32 ∧ BoxAt W (w.heap.size + 1 + 1 + 1) zH 35) ⟨(((((Below.refl _ _).alloc (Nat.le_refl _) _).alloc (by simp) _).alloc (by simp; omega) _).alloc (by simp; omega) _), (((BoxAt.new _ _ _).alloc _).alloc _).alloc _, ((BoxAt.new' (by simp)).alloc _).alloc _, (BoxAt.new' (by simp)).alloc _, BoxAt.new' (by simp)⟩ ?_
 rintro W0 ⟨hB, hx, hy, hz, hw_⟩
 have lw0 := hw_.lt
 have hs0 := hs.below hB hh
 have kx := hx.cell
 have ky := hy.cell
 have fy := hy.frozen
 obtain ⟨b, rg, A', n', cap', rfl, hlb, hbh, hri, c0, c1', c2, c3, c4, hpw⟩ := hs0.at_ z2
 have HAT := Lib.hid (St.at_some (s := s) (z := r) hri)
 have hnum := stOk_nums HOK.out rg (List.mem_of_getElem? hri)
 clear hri
 by_cases hx0 : rg.x = -1
 ·
  have HV0 := Lib.hid (show ¬ 0 ≤ rg.x by omega)
  rw [hx0] at c3
  go_upto_region 4 with fail
  clear c0 c1' c2 c3 c4 hpw hnum
  have HV := Lib.hid (show PH (put2 s ⟨2, v, r, t, seen, tr, sp, ag, re⟩) = (s, (⟨4, v, r, t, seen, tr, sp, ag, re⟩ : Hd)) by simp only [PH, put2, HAT.out, HV0.out, if_false]; rfl)
  refine ret4 w s lo hi (some ⟨b, 0, none⟩) n cap (⟨4, v, r, t, seen, tr, sp, ag, re⟩ : Hd) w.heap.size (w.heap.size + 1) (by kernel_rfl) (by kernel_rfl) (by kernel_rfl) (by kernel_rfl) (by omega) (by omega) ⟨(sc hB), (hx.sn), by simpa using (hy.set 0 (.int .i64 4)), (hz.sn), (hw_.sn), (hs0.sr), by simp; omega⟩ ?k0 ?k1 ?k2 ?k3 ?hQ
  case k0 | k1 | k2 | k3 =>
   exact zpsA2
  case hQ =>
   clear kx ky fy hB hx hy hz hw_ hs0
   generalize hq2 : (⟨4, v, r, t, seen, tr, sp, ag, re⟩ : Hd) = h2 at *
   exact zpsA6
 ·
  have HV0 := Lib.hid (show 0 ≤ rg.x by omega)
  go_upto_region 6 with fail
  clear c0 c1' c2 c3 c4 hpw hnum
  have HV := Lib.hid (show PH (put2 s ⟨2, v, r, t, seen, tr, sp, ag, re⟩) = (s, (⟨3, v, r, rg.x, seen, tr, sp, ag, re⟩ : Hd)) by simp only [PH, put2, HAT.out, HV0.out, if_true]; rfl)
  refine ret4 w s lo hi (some ⟨b, 0, none⟩) n cap (⟨3, v, r, rg.x, seen, tr, sp, ag, re⟩ : Hd) w.heap.size (w.heap.size + 1) (by kernel_rfl) (by kernel_rfl) (by kernel_rfl) (by kernel_rfl) (by omega) (by omega) ⟨(sc (sc hB)), ((hx.sn).sn), by simpa using ((hy.set 3 (.int .i64 rg.x)).set 0 (.int .i64 3)), ((hz.sn).sn), ((hw_.sn).sn), ((hs0.sr).sr), by simp; omega⟩ ?k0 ?k1 ?k2 ?k3 ?hQ
  case k0 | k1 | k2 | k3 =>
   exact zpsA2
  case hQ =>
   clear kx ky fy hB hx hy hz hw_ hs0
   generalize hq2 : (⟨3, v, r, rg.x, seen, tr, sp, ag, re⟩ : Hd) = h2 at *
   exact zpsA6
def ia6tV (s : St) (N b n cap : Nat) (rg : Rg) (v r t : Int) (seen : Pl) (tr sp : Int) (ag : Bool) (re : Int) (A' : Option Addr) (n' cap' : Nat) : List Sl := [.v (.pointer (some ⟨N, 2, none⟩)),
 .v (.slice (some ⟨b, 0, none⟩) n cap),
 .v (.pointer (some ⟨(N + 1), 2, none⟩)),
 .v r,
 .v (.pointer (some ⟨b, r.toNat * 5, none⟩)),
 .v (.pointer (some ⟨b, r.toNat * 5, none⟩)),
 .v rg.h,
 .v (.pointer (some ⟨(N + 1), 3, none⟩)),
 .v t,
 .v (.bool true)]
def ia6fV (s : St) (N b n cap : Nat) (rg : Rg) (v r t : Int) (seen : Pl) (tr sp : Int) (ag : Bool) (re : Int) (A' : Option Addr) (n' cap' : Nat) : List Sl := [.v (.pointer (some ⟨N, 2, none⟩)),
 .v (.slice (some ⟨b, 0, none⟩) n cap),
 .v (.pointer (some ⟨(N + 1), 2, none⟩)),
 .v r,
 .v (.pointer (some ⟨b, r.toNat * 5, none⟩)),
 .v (.pointer (some ⟨b, r.toNat * 5, none⟩)),
 .v rg.h,
 .v (.pointer (some ⟨(N + 1), 3, none⟩)),
 .v t,
 .v (.bool false)]
set_option maxRecDepth 100000 in
set_option maxHeartbeats 4000000 in
theorem ips_6 (s : St) (A : Option Addr) (n cap lo hi B : Nat) (a0 a1 a2 a3 a4 a5 : Addr) (v r t : Int) (seen : Pl) (tr sp : Int) (ag : Bool) (re : Int) (w : World) (hs : RgsW lo hi w A n cap s.rs) (hh : hi ≤ w.heap.size) (hok : stOk s = true) (hrb : ringB s r = true) (hE : Snt B a0 a1 a2 a3 a4 a5 w) :
  Calls Tryz.prog 118 #[stV s A n cap, hdV ⟨6, v, r, t, seen, tr, sp, ag, re⟩] w (RetSH (PH (put6 s ⟨6, v, r, t, seen, tr, sp, ag, re⟩)) w) := by
 have HOK := Lib.hid hok
 have HRB := Lib.hid hrb
 have HLN := Lib.hid hs.1
 have HNT := Lib.hid (stOk_neat hok)
 obtain ⟨z0, z1, z2⟩ := ringB_at HLN.out hrb
 clear hok hrb
 unfold stV hdV
 dsimp only
 go_enter Tryz.func118, Tryz.ntmps118
 go_upto_region 1 with fail
 refine wp_abs (fun W => Below w.heap.size w W ∧ BoxAt W w.heap.size (aS s A n cap) 32 ∧ BoxAt W (w.heap.size + 1) (dH 6 v r t seen tr sp ag re) 35 ∧ BoxAt W (w.heap.size + 1 + 1) zS 32 ∧ BoxAt W (w.heap.size + 1 + 1 + 1) zH 35) ⟨(((((Below.refl _ _).alloc (Nat.le_refl _) _).alloc (by simp) _).alloc (by simp; omega) _).alloc (by simp; omega) _), (((BoxAt.new _ _ _).alloc _).alloc _).alloc _, ((BoxAt.new' (by simp)).alloc _).alloc _, (BoxAt.new' (by simp)).alloc _, BoxAt.new' (by simp)⟩ ?_
 rintro W0 ⟨hB, hx, hy, hz, hw_⟩
 have lw0 := hw_.lt
 have hs0 := hs.below hB hh
 have kx := hx.cell
 have ky := hy.cell
 have fy := hy.frozen
 obtain ⟨b, rg, A', n', cap', rfl, hlb, hbh, hri, c0, c1', c2, c3, c4, hpw⟩ := hs0.at_ z2
 have HAT := Lib.hid (St.at_some (s := s) (z := r) hri)
 have hnum := stOk_nums HOK.out rg (List.mem_of_getElem? hri)
 clear hri
 go_upto_region 2 with fail
 refine wp_abs (fun W' => Below w.heap.size w W' ∧ BoxAt W' w.heap.size (aS s (some ⟨b, 0, none⟩) n cap) 32 ∧ BoxAt W' (w.heap.size + 1) (dH 8 v r t seen tr sp ag re) 35 ∧ BoxAt W' (w.heap.size + 1 + 1) zS 32 ∧ BoxAt W' (w.heap.size + 1 + 1 + 1) zH 35 ∧ RgC W' b r.toNat rg A' n' cap') ⟨(sc hB), (hx.sn), by simpa using (hy.set 0 (.int .i64 8)), (hz.sn), (hw_.sn), ((show RgC W0 b r.toNat rg A' n' cap' from ⟨c0, c1', c2, c3, c4⟩).sn)⟩ ?_
 clear kx ky fy hB hx hy hz hw_ hs0 c0 c1' c2 c3 c4 hpw
 rintro W1 ⟨hB, hx, hy, hz, hw_, hc⟩
 have lw1 := hw_.lt
 clear hnum
 by_cases hx0 : rg.h ≤ t
 ·
  have HV0 := Lib.hid hx0
  have hd0 : decide (rg.h ≤ t) = true := by simpa using hx0
  go_cut [16] (fun u W' => Below w.heap.size w W' ∧ BoxAt W' w.heap.size (aS s (some ⟨b, 0, none⟩) n cap) 32 ∧ BoxAt W' (w.heap.size + 1) (dH 8 v r t seen tr sp ag re) 35 ∧ BoxAt W' (w.heap.size + 1 + 1) zS 32 ∧ BoxAt W' (w.heap.size + 1 + 1 + 1) zH 35 ∧ u = .bool true)
  case first =>
   refine wp_region2v (fun w w' => Below w.heap.size w w') (fun _ _ h => h.size) (fun _ => Below.refl _ _) (fun L W' => Below w.heap.size w W' ∧ BoxAt W' w.heap.size (aS s (some ⟨b, 0, none⟩) n cap) 32 ∧ BoxAt W' (w.heap.size + 1) (dH 8 v r t seen tr sp ag re) 35 ∧ BoxAt W' (w.heap.size + 1 + 1) zS 32 ∧ BoxAt W' (w.heap.size + 1 + 1 + 1) zH 35 ∧ RgC W' b r.toNat rg A' n' cap') (ia6tV s w.heap.size b n cap rg v r t seen tr sp ag re A' n' cap') (fun _ => 0) [] (by kernel_rfl) (by kernel_rfl) ?_ ?_ ?_
    (.still rfl ?a0 <| .still rfl ?a1 <| .still rfl ?a2 <| .still rfl ?a3 <| .still rfl ?a4 <| .still rfl ?a5 <| .still rfl ?a6 <| .still rfl ?a7 <| .still rfl ?a8 <| .still rfl ?a9 <| .nil) ?_ ?_
   · exact trivial
   · exact trivial
   · exact ⟨hB.drew, hx, hy, hz, hw_, hc⟩
   case a0 | a2 | a4 | a5 | a7 | a9 =>
    go_light
    intro L σ W' hcl hL hC hw
    try have e1 := wT hw 1 rfl
    try have e3 := wT hw 3 rfl
    try have e4 := wT hw 4 rfl
    try have e6 := wT hw 6 rfl
    try have e8 := wT hw 8 rfl
    exact zpsA0
   case a1 =>
    go_light
    intro L σ W' hcl hL hC hw
    have e0 := wV hw 0 rfl
    have ks := hC.2.1.cell
    exact zpsA0
   case a3 | a8 =>
    go_light
    intro L σ W' hcl hL hC hw
    try have e2 := wT hw 2 rfl
    try have e7 := wT hw 7 rfl
    have kh := hC.2.2.1.cell
    exact zpsA0
   case a6 =>
    go_light
    intro L σ W' hcl hL hC hw
    have e5 := wV hw 5 rfl
    have hc0 := hC.2.2.2.2.2
    obtain ⟨c0, c1_, c2, c3, c4⟩ := hc0
    exact zpsA0
   ·
    exact zpsA5
   ·
    exact zpsA7
  case rest =>
   clear hB hx hy hz hw_ hc
   obtain ⟨hB, hx, hy, hz, hw_, rfl⟩ := hcut
   have hs0 := hs.below hB hh
   have lwc := hw_.lt
   have ky := hy.cell
   have fy := hy.frozen
   go_upto_region 4 with fail
   have HV := Lib.hid (show PH (put6 s ⟨6, v, r, t, seen, tr, sp, ag, re⟩) = (s, (⟨7, v, r, t, seen, tr, sp, ag, re⟩ : Hd)) by simp only [PH, put6, HAT.out, HV0.out, if_true]; rfl)
   refine ret4 w s lo hi (some ⟨b, 0, none⟩) n cap (⟨7, v, r, t, seen, tr, sp, ag, re⟩ : Hd) w.heap.size (w.heap.size + 1) (by kernel_rfl) (by kernel_rfl) (by kernel_rfl) (by kernel_rfl) (by omega) (by omega) ⟨(sc hB), (hx.sn), by simpa using (hy.set 0 (.int .i64 7)), (hz.sn), (hw_.sn), (hs0.sr), by simp; omega⟩ ?k0 ?k1 ?k2 ?k3 ?hQ
   case k0 | k1 | k2 | k3 =>
    exact zpsA2
   case hQ =>
    clear ky fy hB hx hy hz hw_ hs0
    generalize hq2 : (⟨7, v, r, t, seen, tr, sp, ag, re⟩ : Hd) = h2 at *
    exact zpsA4
 ·
  have HV0 := Lib.hid hx0
  have hd0 : decide (rg.h ≤ t) = false := by simpa using hx0
  go_cut [16] (fun u W' => Below w.heap.size w W' ∧ BoxAt W' w.heap.size (aS s (some ⟨b, 0, none⟩) n cap) 32 ∧ BoxAt W' (w.heap.size + 1) (dH 8 v r t seen tr sp ag re) 35 ∧ BoxAt W' (w.heap.size + 1 + 1) zS 32 ∧ BoxAt W' (w.heap.size + 1 + 1 + 1) zH 35 ∧ u = .bool false)
  case first =>
   refine wp_region2v (fun w w' => Below w.heap.size w w') (fun _ _ h => h.size) (fun _ => Below.refl _ _) (fun L W' => Below w.heap.size w W' ∧ BoxAt W' w.heap.size (aS s (some ⟨b, 0, none⟩) n cap) 32 ∧ BoxAt W' (w.heap.size + 1) (dH 8 v r t seen tr sp ag re) 35 ∧ BoxAt W' (w.heap.size + 1 + 1) zS 32 ∧ BoxAt W' (w.heap.size + 1 + 1 + 1) zH 35 ∧ RgC W' b r.toNat rg A' n' cap') (ia6fV s w.heap.size b n cap rg v r t seen tr sp ag re A' n' cap') (fun _ => 0) [] (by kernel_rfl) (by kernel_rfl) ?_ ?_ ?_
    (.still rfl ?a0 <| .still rfl ?a1 <| .still rfl ?a2 <| .still rfl ?a3 <| .still rfl ?a4 <| .still rfl ?a5 <| .still rfl ?a6 <| .still rfl ?a7 <| .still rfl ?a8 <| .still rfl ?a9 <| .nil) ?_ ?_
   · exact trivial
   · exact trivial
   · exact ⟨hB.drew, hx, hy, hz, hw_, hc⟩
   case a0 | a2 | a4 | a5 | a7 | a9 =>
    go_light
    intro L σ W' hcl hL hC hw
    try have e1 := wT hw 1 rfl
    try have e3 := wT hw 3 rfl
    try have e4 := wT hw 4 rfl
    try have e6 := wT hw 6 rfl
    try have e8 := wT hw 8 rfl
    exact zpsA0
   case a1 =>
    go_light
    intro L σ W' hcl hL hC hw
    have e0 := wV hw 0 rfl
    have ks := hC.2.1.cell
    exact zpsA0
   case a3 | a8 =>
    go_light
    intro L σ W' hcl hL hC hw
    try have e2 := wT hw 2 rfl
    try have e7 := wT hw 7 rfl
    have kh := hC.2.2.1.cell
    exact zpsA0
   case a6 =>
    go_light
    intro L σ W' hcl hL hC hw
    have e5 := wV hw 5 rfl
    have hc0 := hC.2.2.2.2.2
    obtain ⟨c0, c1_, c2, c3, c4⟩ := hc0
    exact zpsA0
   ·
    exact zpsA5
   ·
    exact zpsA7
  case rest =>
   clear hB hx hy hz hw_ hc
   obtain ⟨hB, hx, hy, hz, hw_, rfl⟩ := hcut
   have hs0 := hs.below hB hh
   have lwc := hw_.lt
   have ky := hy.cell
   have fy := hy.frozen
   go_upto_region 4 with fail
   have HV := Lib.hid (show PH (put6 s ⟨6, v, r, t, seen, tr, sp, ag, re⟩) = (s, (⟨8, v, r, t, seen, tr, sp, ag, re⟩ : Hd)) by simp only [PH, put6, HAT.out, HV0.out, if_false]; rfl)
   refine ret4 w s lo hi (some ⟨b, 0, none⟩) n cap (⟨8, v, r, t, seen, tr, sp, ag, re⟩ : Hd) w.heap.size (w.heap.size + 1) (by kernel_rfl) (by kernel_rfl) (by kernel_rfl) (by kernel_rfl) (by omega) (by omega) ⟨hB, hx, hy, hz, hw_, hs0, by omega⟩ ?k0 ?k1 ?k2 ?k3 ?hQ
   case k0 | k1 | k2 | k3 =>
    exact zpsA2
   case hQ =>
    clear ky fy hB hx hy hz hw_ hs0
    generalize hq2 : (⟨8, v, r, t, seen, tr, sp, ag, re⟩ : Hd) = h2 at *
    exact zpsA4
def ia8txV (s : St) (N b n cap : Nat) (rg : Rg) (v r t : Int) (seen : Pl) (tr sp : Int) (ag : Bool) (re : Int) (A' : Option Addr) (n' cap' : Nat) : List Sl := [.v (.pointer (some ⟨(N + 1), 3, none⟩)),
 .v t,
 .v (.pointer (some ⟨N, 2, none⟩)),
 .v (.slice (some ⟨b, 0, none⟩) n cap),
 .v (.pointer (some ⟨(N + 1), 2, none⟩)),
 .v r,
 .v (.pointer (some ⟨b, r.toNat * 5, none⟩)),
 .v (.pointer (some ⟨b, r.toNat * 5, none⟩)),
 .v rg.h,
 .v (.int .i64 (t - rg.h)),
 .v (pT N),
 .v s.rd,
 .v (.bool true),
 .v (.bool true),
 .v undef,
 .v undef,
 .v undef,
 .v (.bool true)]
def ia8ftV (s : St) (N b n cap : Nat) (rg : Rg) (v r t : Int) (seen : Pl) (tr sp : Int) (ag : Bool) (re : Int) (A' : Option Addr) (n' cap' : Nat) : List Sl := [.v (.pointer (some ⟨(N + 1), 3, none⟩)),
 .v t,
 .v (.pointer (some ⟨N, 2, none⟩)),
 .v (.slice (some ⟨b, 0, none⟩) n cap),
 .v (.pointer (some ⟨(N + 1), 2, none⟩)),
 .v r,
 .v (.pointer (some ⟨b, r.toNat * 5, none⟩)),
 .v (.pointer (some ⟨b, r.toNat * 5, none⟩)),
 .v rg.h,
 .v (.int .i64 (t - rg.h)),
 .v (pT N),
 .v s.rd,
 .v (.bool false),
 .v (.bool false),
 .v (.pointer (some ⟨(N + 1), 8, none⟩)),
 .v (.int .i64 (tr + 1)),
 .v (.bool true),
 .v (.bool true)]
def ia8ffV (s : St) (N b n cap : Nat) (rg : Rg) (v r t : Int) (seen : Pl) (tr sp : Int) (ag : Bool) (re : Int) (A' : Option Addr) (n' cap' : Nat) : List Sl := [.v (.pointer (some ⟨(N + 1), 3, none⟩)),
 .v t,
 .v (.pointer (some ⟨N, 2, none⟩)),
 .v (.slice (some ⟨b, 0, none⟩) n cap),
 .v (.pointer (some ⟨(N + 1), 2, none⟩)),
 .v r,
 .v (.pointer (some ⟨b, r.toNat * 5, none⟩)),
 .v (.pointer (some ⟨b, r.toNat * 5, none⟩)),
 .v rg.h,
 .v (.int .i64 (t - rg.h)),
 .v (pT N),
 .v s.rd,
 .v (.bool false),
 .v (.bool false),
 .v (.pointer (some ⟨(N + 1), 8, none⟩)),
 .v (.int .i64 (tr + 1)),
 .v (.bool false),
 .v (.bool false)]
set_option maxRecDepth 100000 in
set_option maxHeartbeats 4000000 in
theorem ips_8 (s : St) (A : Option Addr) (n cap lo hi B : Nat) (a0 a1 a2 a3 a4 a5 : Addr) (v r t : Int) (seen : Pl) (tr sp : Int) (ag : Bool) (re : Int) (w : World) (hs : RgsW lo hi w A n cap s.rs) (hh : hi ≤ w.heap.size) (hok : stOk s = true) (hrb : ringB s r = true) (hE : Snt B a0 a1 a2 a3 a4 a5 w) (ht : 0 ≤ t ∧ t ≤ 1000000) (htr : 0 ≤ tr ∧ tr ≤ 1000000) :
  Calls Tryz.prog 120 #[stV s A n cap, hdV ⟨8, v, r, t, seen, tr, sp, ag, re⟩] w (RetSH (PH (put8 s ⟨8, v, r, t, seen, tr, sp, ag, re⟩)) w) := by
 have HOK := Lib.hid hok
 have HRB := Lib.hid hrb
 have HLN := Lib.hid hs.1
 have HNT := Lib.hid (stOk_neat hok)
 obtain ⟨z0, z1, z2⟩ := ringB_at HLN.out hrb
 clear hok hrb
 obtain ⟨t0, t1⟩ := ht
 obtain ⟨tr0, tr1⟩ := htr
 unfold stV hdV
 dsimp only
 go_enter Tryz.func120, Tryz.ntmps120
 go_upto_region 1 with fail
 refine wp_abs (fun W => Below w.heap.size w W ∧ BoxAt W w.heap.size (aS s A n cap) 32 ∧ BoxAt W (w.heap.size + 1) (dH 8 v r t seen tr sp ag re) 35 ∧ BoxAt W (w.heap.size + 1 + 1) zS 32 ∧ BoxAt W (w.heap.size + 1 + 1 + 1) zH 35) ⟨(((((Below.refl _ _).alloc (Nat.le_refl _) _).alloc (by simp) _).alloc (by simp; omega) _).alloc (by simp; omega) _), (((BoxAt.new _ _ _).alloc _).alloc _).alloc _, ((BoxAt.new' (by simp)).alloc _).alloc _, (BoxAt.new' (by simp)).alloc _, BoxAt.new' (by simp)⟩ ?_
 rintro W0 ⟨hB, hx, hy, hz, hw_⟩
 have lw0 := hw_.lt
 have hs0 := hs.below hB hh
 have kx := hx.cell
 have ky := hy.cell
 have fy := hy.frozen
 obtain ⟨b, rg, A', n', cap', rfl, hlb, hbh, hri, c0, c1', c2, c3, c4, hpw⟩ := hs0.at_ z2
 have HAT := Lib.hid (St.at_some (s := s) (z := r) hri)
 have hnum := stOk_nums HOK.out rg (List.mem_of_getElem? hri)
 clear hri
 obtain ⟨⟨nh0, nh1⟩, _⟩ := hnum
 have hrd := stOk_rd HOK.out
 go_upto_region 3 with fail
 refine wp_abs (fun W' => Below w.heap.size w W' ∧ BoxAt W' w.heap.size (aS s (some ⟨b, 0, none⟩) n cap) 32 ∧ BoxAt W' (w.heap.size + 1) (dH 4 v r t seen (tr + 1) sp ag re) 35 ∧ BoxAt W' (w.heap.size + 1 + 1) zS 32 ∧ BoxAt W' (w.heap.size + 1 + 1 + 1) zH 35 ∧ RgC W' b r.toNat rg A' n' cap') ⟨(sc (sc hB)), ((hx.sn).sn), by simpa using ((hy.set 8 (.int .i64 (tr + 1))).set 0 (.int .i64 4)), ((hz.sn).sn), ((hw_.sn).sn), (((show RgC W0 b r.toNat rg A' n' cap' from ⟨c0, c1', c2, c3, c4⟩).sn).sn)⟩ ?_
 clear kx ky fy hB hx hy hz hw_ hs0 c0 c1' c2 c3 c4 hpw
 rintro W1 ⟨hB, hx, hy, hz, hw_, hc⟩
 have lw1 := hw_.lt
 by_cases hge : s.rd ≤ t - rg.h
 ·
  have hged : decide (s.rd ≤ t - rg.h) = true := by simpa using hge
  have HD8 := Lib.hid (show (s.rd ≤ t - rg.h ∨ 4 ≤ tr + 1) = True by simp [hge])
  go_cut [28] (fun u W' => Below w.heap.size w W' ∧ BoxAt W' w.heap.size (aS s (some ⟨b, 0, none⟩) n cap) 32 ∧ BoxAt W' (w.heap.size + 1) (dH 4 v r t seen (tr + 1) sp ag re) 35 ∧ BoxAt W' (w.heap.size + 1 + 1) zS 32 ∧ BoxAt W' (w.heap.size + 1 + 1 + 1) zH 35 ∧ u = .bool true)
  case first =>
   refine wp_region2v (fun w w' => Below w.heap.size w w') (fun _ _ h => h.size) (fun _ => Below.refl _ _) (fun L W' => Below w.heap.size w W' ∧ BoxAt W' w.heap.size (aS s (some ⟨b, 0, none⟩) n cap) 32 ∧ BoxAt W' (w.heap.size + 1) (dH 4 v r t seen (tr + 1) sp ag re) 35 ∧ BoxAt W' (w.heap.size + 1 + 1) zS 32 ∧ BoxAt W' (w.heap.size + 1 + 1 + 1) zH 35 ∧ RgC W' b r.toNat rg A' n' cap') (ia8txV s w.heap.size b n cap rg v r t seen tr sp ag re A' n' cap') (fun _ => 0) [] (by kernel_rfl) (by kernel_rfl) ?_ ?_ ?_
    (.still rfl ?a0 <| .still rfl ?a1 <| .still rfl ?a2 <| .still rfl ?a3 <| .still rfl ?a4 <| .still rfl ?a5 <| .still rfl ?a6 <| .still rfl ?a7 <| .still rfl ?a8 <| .still rfl ?a9 <| .still rfl ?a10 <| .still rfl ?a11 <| .still rfl ?a12 <| .still rfl ?a13 <| .still rfl ?a14 <| .still rfl ?a15 <| .still rfl ?a16 <| .still rfl ?a17 <| .nil) ?_ ?_
   · exact trivial
   · exact trivial
   · exact ⟨hB.drew, hx, hy, hz, hw_, hc⟩
   case a0 | a2 | a4 | a6 | a7 | a10 | a12 | a13 | a14 | a15 | a16 | a17 =>
    go_light
    intro L σ W' hcl hL hC hw
    try have e3 := wT hw 3 rfl
    try have e5 := wT hw 5 rfl
    try have e6 := wT hw 6 rfl
    try have e9 := wT hw 9 rfl
    try have e11 := wT hw 11 rfl
    try have e12 := wT hw 12 rfl
    try have e13 := wT hw 13 rfl
    try have e14 := wT hw 14 rfl
    try have e15 := wT hw 15 rfl
    try have e16 := wT hw 16 rfl
    exact zpsA0
   case a1 | a5 =>
    go_light
    intro L σ W' hcl hL hC hw
    try have e0 := wT hw 0 rfl
    try have e4 := wT hw 4 rfl
    have kh := hC.2.2.1.cell
    exact zpsA0
   case a3 | a11 =>
    go_light
    intro L σ W' hcl hL hC hw
    try have e2 := wT hw 2 rfl
    try have e10 := wT hw 10 rfl
    have ks := hC.2.1.cell
    exact zpsA0
   case a8 =>
    go_light
    intro L σ W' hcl hL hC hw
    have e7 := wV hw 7 rfl
    have hc0 := hC.2.2.2.2.2
    obtain ⟨c0, c1_, c2, c3, c4⟩ := hc0
    exact zpsA0
   case a9 =>
    go_light
    intro L σ W' hcl hL hC hw
    have e1 := wV hw 1 rfl
    have e8 := wV hw 8 rfl
    have wr_ : IntKind.i64.wrap (t - rg.h) = t - rg.h := by rw [IntKind.wrap_i64]; omega
    exact zpsA0
   ·
    exact zpsA5
   ·
    exact zpsA3
  case rest =>
   exact zpsA1
 ·
  have hged : decide (s.rd ≤ t - rg.h) = false := by simpa using hge
  by_cases htg : 4 ≤ tr + 1
  ·
   have htgd : decide (4 ≤ tr + 1) = true := by simpa using htg
   have HD8 := Lib.hid (show (s.rd ≤ t - rg.h ∨ 4 ≤ tr + 1) = True by simp [htg])
   go_cut [28] (fun u W' => Below w.heap.size w W' ∧ BoxAt W' w.heap.size (aS s (some ⟨b, 0, none⟩) n cap) 32 ∧ BoxAt W' (w.heap.size + 1) (dH 4 v r t seen (tr + 1) sp ag re) 35 ∧ BoxAt W' (w.heap.size + 1 + 1) zS 32 ∧ BoxAt W' (w.heap.size + 1 + 1 + 1) zH 35 ∧ u = .bool true)
   case first =>
    refine wp_region2v (fun w w' => Below w.heap.size w w') (fun _ _ h => h.size) (fun _ => Below.refl _ _) (fun L W' => Below w.heap.size w W' ∧ BoxAt W' w.heap.size (aS s (some ⟨b, 0, none⟩) n cap) 32 ∧ BoxAt W' (w.heap.size + 1) (dH 4 v r t seen (tr + 1) sp ag re) 35 ∧ BoxAt W' (w.heap.size + 1 + 1) zS 32 ∧ BoxAt W' (w.heap.size + 1 + 1 + 1) zH 35 ∧ RgC W' b r.toNat rg A' n' cap') (ia8ftV s w.heap.size b n cap rg v r t seen tr sp ag re A' n' cap') (fun _ => 0) [] (by kernel_rfl) (by kernel_rfl) ?_ ?_ ?_
     (.still rfl ?a0 <| .still rfl ?a1 <| .still rfl ?a2 <| .still rfl ?a3 <| .still rfl ?a4 <| .still rfl ?a5 <| .still rfl ?a6 <| .still rfl ?a7 <| .still rfl ?a8 <| .still rfl ?a9 <| .still rfl ?a10 <| .still rfl ?a11 <| .still rfl ?a12 <| .still rfl ?a13 <| .still rfl ?a14 <| .still rfl ?a15 <| .still rfl ?a16 <| .still rfl ?a17 <| .nil) ?_ ?_
    · exact trivial
    · exact trivial
    · exact ⟨hB.drew, hx, hy, hz, hw_, hc⟩
    case a0 | a2 | a4 | a6 | a7 | a10 | a12 | a13 | a14 | a16 | a17 =>
     go_light
     intro L σ W' hcl hL hC hw
     try have e3 := wT hw 3 rfl
     try have e5 := wT hw 5 rfl
     try have e6 := wT hw 6 rfl
     try have e9 := wT hw 9 rfl
     try have e11 := wT hw 11 rfl
     try have e12 := wT hw 12 rfl
     try have e13 := wT hw 13 rfl
     try have e15 := wT hw 15 rfl
     try have e16 := wT hw 16 rfl
     exact zpsA0
    case a1 | a5 | a15 =>
     go_light
     intro L σ W' hcl hL hC hw
     try have e0 := wT hw 0 rfl
     try have e4 := wT hw 4 rfl
     try have e13 := wT hw 13 rfl
     try have e14 := wT hw 14 rfl
     have kh := hC.2.2.1.cell
     exact zpsA0
    case a3 | a11 =>
     go_light
     intro L σ W' hcl hL hC hw
     try have e2 := wT hw 2 rfl
     try have e10 := wT hw 10 rfl
     have ks := hC.2.1.cell
     exact zpsA0
    case a8 =>
     go_light
     intro L σ W' hcl hL hC hw
     have e7 := wV hw 7 rfl
     have hc0 := hC.2.2.2.2.2
     obtain ⟨c0, c1_, c2, c3, c4⟩ := hc0
     exact zpsA0
    case a9 =>
     go_light
     intro L σ W' hcl hL hC hw
     have e1 := wV hw 1 rfl
     have e8 := wV hw 8 rfl
     have wr_ : IntKind.i64.wrap (t - rg.h) = t - rg.h := by rw [IntKind.wrap_i64]; omega
     exact zpsA0
    ·
     exact zpsA5
    ·
     exact zpsA3
   case rest =>
    exact zpsA1
  ·
   have htgd : decide (4 ≤ tr + 1) = false := by simpa using htg
   have HD8 := Lib.hid (show (s.rd ≤ t - rg.h ∨ 4 ≤ tr + 1) = False by simp [hge, htg])
   go_cut [28] (fun u W' => Below w.heap.size w W' ∧ BoxAt W' w.heap.size (aS s (some ⟨b, 0, none⟩) n cap) 32 ∧ BoxAt W' (w.heap.size + 1) (dH 4 v r t seen (tr + 1) sp ag re) 35 ∧ BoxAt W' (w.heap.size + 1 + 1) zS 32 ∧ BoxAt W' (w.heap.size + 1 + 1 + 1) zH 35 ∧ u = .bool false)
   case first =>
    refine wp_region2v (fun w w' => Below w.heap.size w w') (fun _ _ h => h.size) (fun _ => Below.refl _ _) (fun L W' => Below w.heap.size w W' ∧ BoxAt W' w.heap.size (aS s (some ⟨b, 0, none⟩) n cap) 32 ∧ BoxAt W' (w.heap.size + 1) (dH 4 v r t seen (tr + 1) sp ag re) 35 ∧ BoxAt W' (w.heap.size + 1 + 1) zS 32 ∧ BoxAt W' (w.heap.size + 1 + 1 + 1) zH 35 ∧ RgC W' b r.toNat rg A' n' cap') (ia8ffV s w.heap.size b n cap rg v r t seen tr sp ag re A' n' cap') (fun _ => 0) [] (by kernel_rfl) (by kernel_rfl) ?_ ?_ ?_
     (.still rfl ?a0 <| .still rfl ?a1 <| .still rfl ?a2 <| .still rfl ?a3 <| .still rfl ?a4 <| .still rfl ?a5 <| .still rfl ?a6 <| .still rfl ?a7 <| .still rfl ?a8 <| .still rfl ?a9 <| .still rfl ?a10 <| .still rfl ?a11 <| .still rfl ?a12 <| .still rfl ?a13 <| .still rfl ?a14 <| .still rfl ?a15 <| .still rfl ?a16 <| .still rfl ?a17 <| .nil) ?_ ?_
    · exact trivial
    · exact trivial
    · exact ⟨hB.drew, hx, hy, hz, hw_, hc⟩
    case a0 | a2 | a4 | a6 | a7 | a10 | a12 | a13 | a14 | a16 | a17 =>
     go_light
     intro L σ W' hcl hL hC hw
     try have e3 := wT hw 3 rfl
     try have e5 := wT hw 5 rfl
     try have e6 := wT hw 6 rfl
     try have e9 := wT hw 9 rfl
     try have e11 := wT hw 11 rfl
     try have e12 := wT hw 12 rfl
     try have e13 := wT hw 13 rfl
     try have e15 := wT hw 15 rfl
     try have e16 := wT hw 16 rfl
     exact zpsA0
    case a1 | a5 | a15 =>
     go_light
     intro L σ W' hcl hL hC hw
     try have e0 := wT hw 0 rfl
     try have e4 := wT hw 4 rfl
     try have e13 := wT hw 13 rfl
     try have e14 := wT hw 14 rfl
     have kh := hC.2.2.1.cell
     exact zpsA0
    case a3 | a11 =>
     go_light
     intro L σ W' hcl hL hC hw
     try have e2 := wT hw 2 rfl
     try have e10 := wT hw 10 rfl
     have ks := hC.2.1.cell
     exact zpsA0
    case a8 =>
     go_light
     intro L σ W' hcl hL hC hw
     have e7 := wV hw 7 rfl
     have hc0 := hC.2.2.2.2.2
     obtain ⟨c0, c1_, c2, c3, c4⟩ := hc0
     exact zpsA0
    case a9 =>
     go_light
     intro L σ W' hcl hL hC hw
     have e1 := wV hw 1 rfl
     have e8 := wV hw 8 rfl
     have wr_ : IntKind.i64.wrap (t - rg.h) = t - rg.h := by rw [IntKind.wrap_i64]; omega
     exact zpsA0
    ·
     exact zpsA5
    ·
     exact zpsA3
   case rest =>
    clear hB hx hy hz hw_ hc
    obtain ⟨hB, hx, hy, hz, hw_, rfl⟩ := hcut
    have hs0 := hs.below hB hh
    have lwc := hw_.lt
    have ky := hy.cell
    have fy := hy.frozen
    go_upto_region 5 with fail
    have HV := Lib.hid (show PH (put8 s ⟨8, v, r, t, seen, tr, sp, ag, re⟩) = (s, (⟨4, v, r, t, seen, (tr + 1), sp, ag, re⟩ : Hd)) by simp only [PH, put8, HAT.out, HD8.out, if_false]; rfl)
    refine ret4 w s lo hi (some ⟨b, 0, none⟩) n cap (⟨4, v, r, t, seen, (tr + 1), sp, ag, re⟩ : Hd) w.heap.size (w.heap.size + 1) (by kernel_rfl) (by kernel_rfl) (by kernel_rfl) (by kernel_rfl) (by omega) (by omega) ⟨hB, hx, hy, hz, hw_, hs0, by omega⟩ ?k0 ?k1 ?k2 ?k3 ?hQ
    case k0 | k1 | k2 | k3 =>
     exact zpsA2
    case hQ =>
     clear ky fy hB hx hy hz hw_ hs0
     generalize hq2 : (⟨4, v, r, t, seen, (tr + 1), sp, ag, re⟩ : Hd) = h2 at *
     clear hq2
     intro σ W' _ hB k7 k8 hG _
     replace k7 := k7.cell
     replace k8 := k8.cell
     simp only [lexAll]
     go_simp
     go_step
     go_wp2
     refine bodyPost_ret (v := .tuple #[stV s (some ⟨b, 0, none⟩) n cap, hdV h2]) (by simp [results, Tryz.results120, go_sem, k7, k8, stV, hdV]) rfl ⟨(some ⟨b, 0, none⟩), n, cap, by rw [HV.out], ?_, hB⟩
     rw [HV.out]
     exact hG.cut.mono (Nat.zero_le _) (Nat.le_refl _)
end Go.Proofs.YthpckpnlohfcbaaGreatDoor

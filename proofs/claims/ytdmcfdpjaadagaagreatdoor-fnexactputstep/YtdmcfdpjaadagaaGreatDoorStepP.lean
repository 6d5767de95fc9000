/-
 A step, whole, of the model: PutStep and TakeStep.
-/
import Derived.Test.YtdmcfdpjaadagaaGreatDoorPutJ
import Derived.Test.YtdmcfdpjaadagaaGreatDoorChgA
namespace Go.Proofs.YtdmcfdpjaadagaaGreatDoor
set_option linter.unusedSimpArgs false
set_option linter.unusedVariables false
open Go.RowKit
set_option linter.unusedVariables false
attribute [local go_sem] OpUpon
attribute [local go_sem ↓] Go.wp_at_zero Go.wp_at_succ

theorem set_neat {s : St} (h : Neat s) {i : Nat} {q : Rg} (h0 : 0 < q.ps.length) (h8 : q.ps.length ≤ 8) : Neat { s with rs := s.rs.set i q } := by
 refine ⟨by simpa using h.1, by simpa using h.2.1, fun r hr => ?_⟩
 rcases List.mem_or_eq_of_mem_set hr with hr | rfl
 · exact h.2.2 r hr
 · exact ⟨h0, h8⟩
theorem turn_neat {s : St} (h : Neat s) {z : Int} {f : Rg → Rg} (hf : ∀ r, 0 < r.ps.length ∧ r.ps.length ≤ 8 → 0 < (f r).ps.length ∧ (f r).ps.length ≤ 8) : Neat (s.turn z f) := by
 unfold St.turn
 split
 ·
  rename_i r hr
  have := h.2.2 r (List.mem_of_getElem? hr)
  exact set_neat h (hf r this).1 (hf r this).2
 · exact h
theorem then_neat {s out : St} (h : Neat s) : Neat (thenB s out).1 := by
 unfold thenB
 split
 · exact stOk_neat (by assumption)
 · exact h

theorem takeTicket_neat {s : St} (hok : stOk s = true) {z : Int} : Neat (takeTicket s z).1 := by
 have h := stOk_neat hok
 unfold takeTicket
 rw [hok]
 simp only [Bool.not_true, Bool.false_eq_true, if_false]
 split
 · exact h
 · split <;> exact then_neat h
theorem putTicket_neat {s : St} (hok : stOk s = true) {z : Int} : Neat (putTicket s z).1 := by
 have h := stOk_neat hok
 unfold putTicket
 rw [hok]
 simp only [Bool.not_true, Bool.false_eq_true, if_false]
 split
 · exact h
 · split <;> exact then_neat h
theorem closeR_neat {s : St} (hok : stOk s = true) {z : Int} : Neat (closeR s z).1 := by
 have h := stOk_neat hok
 unfold closeR
 rw [hok]
 simp only [Bool.not_true, Bool.false_eq_true, if_false]
 split
 · exact h
 · exact turn_neat h fun _ h => h
theorem raiseTail_neat {s : St} (hok : stOk s = true) {z a b : Int} : Neat (raiseTail s z a b).1 := by
 have h := stOk_neat hok
 unfold raiseTail
 rw [hok]
 simp only [Bool.not_true, Bool.false_eq_true, if_false]
 split
 · exact h
 · exact then_neat h
theorem linkR_neat {s : St} (hok : stOk s = true) {z a : Int} : Neat (linkR s z a).1 := by
 have h := stOk_neat hok
 unfold linkR
 rw [hok]
 simp only [Bool.not_true, Bool.false_eq_true, if_false]
 split
 · exact h
 · exact then_neat h
theorem swing_neat {s : St} (hok : stOk s = true) {l : Bool} {a b : Int} : Neat (swing s l a b).1 := by
 have h := stOk_neat hok
 unfold swing
 rw [hok]
 simp only [Bool.not_true, Bool.false_eq_true, if_false]
 cases l
 all_goals
  simp only [if_true, Bool.false_eq_true, if_false]
  split <;> exact h
theorem swapPlace_neat {s : St} (hok : stOk s = true) {z a : Int} {p q : Pl} : Neat (swapPlace s z a p q).1 := by
 have h := stOk_neat hok
 unfold swapPlace
 rw [hok]
 simp only [Bool.not_true, Bool.false_eq_true, if_false]
 split
 · exact h
 ·
  split
  ·
   split
   · exact then_neat h
   · exact h
  · exact h
theorem seed_len8 {rd : Int} (h : 2 ≤ rd ∧ rd ≤ 8) (v : Int) : 0 < (Rg.seed rd.toNat v).ps.length ∧ (Rg.seed rd.toNat v).ps.length ≤ 8 := by
 have : (Rg.seed rd.toNat v).ps.length = rd.toNat := by simp [Rg.seed, fresh]
 omega
theorem addRing_neat {s : St} (hok : stOk s = true) {v : Int} : Neat (addRing s v).1 := by
 have h := stOk_neat hok
 have hm : (s.rs.length : Int) ≤ s.mo ∧ s.mo ≤ 16 := by
  simp only [stOk, stHead, Bool.and_eq_true, inB, decide_eq_true_eq] at hok
  omega
 unfold addRing
 rw [hok]
 simp only [Bool.not_true, Bool.false_eq_true, if_false]
 split
 · exact h
 ·
  rename_i hn
  simp only [Bool.or_eq_true, beq_iff_eq, not_or] at hn
  refine ⟨by simp, by simp; omega, fun r hr => ?_⟩
  rcases List.mem_append.1 hr with hr | hr
  · exact h.2.2 r hr
  ·
   rw [List.mem_singleton.1 hr]
   exact seed_len8 (stOk_rd hok) v

theorem make10_neat {s : St} (hok : stOk s = true) {h : Hd} : Neat (make10 s h).1 := by
 have hn := stOk_neat hok
 unfold make10
 repeat' split
 all_goals first
  | exact hn
  | exact addRing_neat hok
  | exact turn_neat hn fun _ _ => seed_len8 (stOk_rd hok) _
theorem makeS_neat {s : St} (hok : stOk s = true) {h : Hd} : Neat (makeS s h).1 := by
 unfold makeS
 repeat' split
 · exact make10_neat hok
 · exact linkR_neat hok
 · exact swing_neat hok
theorem putS_neat {s : St} (hok : stOk s = true) {h : Hd} : Neat (putS s h).1 := by
 have hn := stOk_neat hok
 unfold putS
 repeat' split
 · exact hn
 · exact hn
 · exact swing_neat hok
 · exact putTicket_neat hok
 · exact hn
 · exact hn
 ·
  unfold put7
  repeat' split
  all_goals exact swapPlace_neat hok
 · exact hn
 · exact closeR_neat hok
 · exact makeS_neat hok
/-- A step, whole: f is what is done of right ones, b which of them it is asked of. -/
def stepS (f : St → Hd → St × Hd × Bool) (b : Int → Bool) (s : St) (h : Hd) : St × Hd × Bool :=
 if !stOk s || !h.ok then (St.zero, Hd.zero, false) else if !b h.at_ || !ringB s h.r then (s, h, false) else
 if !(f s h).2.2 || !stOk (f s h).1 then (s, h, false) else ((f s h).1, (f s h).2.1, true)

def RetS (lo : Nat) (s : St) (w : World) (e : Ending) (w' : World) : Prop :=
 ∃ A n cap, e = .returned (stV s A n cap) ∧ RgsW lo w'.heap.size w' A n cap s.rs ∧ Below w.heap.size w w'
theorem l3Copy_rgs (s : St) (A : Option Addr) (n cap lo hi : Nat) (w : World) (hs : RgsW lo hi w A n cap s.rs) (hh : hi ≤ w.heap.size) (hn : Neat s) :
  Calls Tryz.prog 36 #[stV s A n cap] w (RetS w.heap.size s w) := by
 have hl := hs.1
 refine (l3Copy_any s A n cap lo hi w hs hh (by have := hn.1; omega) (by have := hn.2.1; omega) hn.cp).mono ?_
 rintro e w' ⟨b, c, rows, rfl, hR, hC, hb⟩
 exact ⟨_, _, _, rfl, hC.rgs hR hl, hb⟩
theorem hd_at {h : Hd} (hok : h.ok = true) : h.at_ ≤ 24 := by
 simp only [Hd.ok, Hd.okA, Bool.and_eq_true, inB, decide_eq_true_eq] at hok
 omega
def lateB (z : Int) : Bool := !decide (z < 13)

def ps5V (s : St) (N M0 n cap : Nat) (A : Option Addr) (at_ v r t : Int) (seen : Pl) (tr sp : Int) (ag : Bool) (re : Int) (q : St × Hd × Bool) : List Sl := [.v (.agg #[.int .i64 s.rd, .int .i64 s.mo, .slice A n cap, .int .i64 s.fi, .int .i64 s.la]),
 .e fun σ w => ∃ (A1 : Option Addr) (n1 c1 : Nat), σ 1 = .agg #[.int .i64 s.rd, .int .i64 s.mo, .slice A1 n1 c1, .int .i64 s.fi, .int .i64 s.la] ∧ RgsW M0 w.heap.size w A1 n1 c1 s.rs,
 .v (.agg #[.int .i64 at_, .int .i64 v, .int .i64 r, .int .i64 t, .bool seen.s, .int .i64 seen.n, .bool seen.f, .int .i64 seen.v, .int .i64 tr, .int .i64 sp, .bool ag, .int .i64 re]),
 .e fun σ w => ∃ (A5 : Option Addr) (n5 c5 : Nat), σ 3 = .tuple #[.agg #[.int .i64 q.1.rd, .int .i64 q.1.mo, .slice A5 n5 c5, .int .i64 q.1.fi, .int .i64 q.1.la], .agg #[.int .i64 q.2.1.at_, .int .i64 q.2.1.v, .int .i64 q.2.1.r, .int .i64 q.2.1.t, .bool q.2.1.seen.s, .int .i64 q.2.1.seen.n, .bool q.2.1.seen.f, .int .i64 q.2.1.seen.v, .int .i64 q.2.1.tr, .int .i64 q.2.1.sp, .bool q.2.1.ag, .int .i64 q.2.1.re], .bool q.2.2] ∧ RgsW M0 w.heap.size w A5 n5 c5 q.1.rs,
 .e fun σ w => ∃ (A5 : Option Addr) (n5 c5 : Nat), σ 4 = .tuple #[.agg #[.int .i64 q.1.rd, .int .i64 q.1.mo, .slice A5 n5 c5, .int .i64 q.1.fi, .int .i64 q.1.la], .agg #[.int .i64 q.2.1.at_, .int .i64 q.2.1.v, .int .i64 q.2.1.r, .int .i64 q.2.1.t, .bool q.2.1.seen.s, .int .i64 q.2.1.seen.n, .bool q.2.1.seen.f, .int .i64 q.2.1.seen.v, .int .i64 q.2.1.tr, .int .i64 q.2.1.sp, .bool q.2.1.ag, .int .i64 q.2.1.re], .bool q.2.2] ∧ RgsW M0 w.heap.size w A5 n5 c5 q.1.rs,
 .e fun σ w => ∃ (A5 : Option Addr) (n5 c5 : Nat), σ 5 = .agg #[.int .i64 q.1.rd, .int .i64 q.1.mo, .slice A5 n5 c5, .int .i64 q.1.fi, .int .i64 q.1.la] ∧ RgsW M0 w.heap.size w A5 n5 c5 q.1.rs,
 .v (.agg #[.int .i64 q.2.1.at_, .int .i64 q.2.1.v, .int .i64 q.2.1.r, .int .i64 q.2.1.t, .bool q.2.1.seen.s, .int .i64 q.2.1.seen.n, .bool q.2.1.seen.f, .int .i64 q.2.1.seen.v, .int .i64 q.2.1.tr, .int .i64 q.2.1.sp, .bool q.2.1.ag, .int .i64 q.2.1.re]),
 .v (.bool q.2.2),
 .e fun σ w => ∃ g8, σ 8 = .pointer (some ⟨g8, 0, none⟩) ∧ M0 ≤ g8 ∧ ∃ x0 x1 x2 x3 x4, BoxAt w g8 #[x0, x1, x2, x3, x4] 32,
 .e fun σ w => ∃ g9, σ 9 = .pointer (some ⟨g9, 0, none⟩) ∧ M0 ≤ g9 ∧ ∃ x0 x1 x2 x3 x4 x5 x6 x7 x8 x9 x10 x11, BoxAt w g9 #[x0, x1, x2, x3, x4, x5, x6, x7, x8, x9, x10, x11] 35,
 .e fun σ w => ∃ (g8 : Nat) (A5 : Option Addr) (n5 c5 : Nat), σ 8 = .pointer (some ⟨g8, 0, none⟩) ∧ M0 ≤ g8 ∧ BoxAt w g8 #[.int .i64 q.1.rd, .int .i64 q.1.mo, .slice A5 n5 c5, .int .i64 q.1.fi, .int .i64 q.1.la] 32 ∧ RgsW M0 w.heap.size w A5 n5 c5 q.1.rs,
 .e fun σ w => ∃ g9, σ 9 = .pointer (some ⟨g9, 0, none⟩) ∧ M0 ≤ g9 ∧ BoxAt w g9 #[.int .i64 q.2.1.at_, .int .i64 q.2.1.v, .int .i64 q.2.1.r, .int .i64 q.2.1.t, .bool q.2.1.seen.s, .int .i64 q.2.1.seen.n, .bool q.2.1.seen.f, .int .i64 q.2.1.seen.v, .int .i64 q.2.1.tr, .int .i64 q.2.1.sp, .bool q.2.1.ag, .int .i64 q.2.1.re] 35,
 .v (.bool q.2.2)]

set_option maxRecDepth 100000 in
set_option maxHeartbeats 4000000 in
theorem sputStep_any (s : St) (A : Option Addr) (n cap lo hi : Nat) (h : Hd) (w : World) (hs : RgsW lo hi w A n cap s.rs) (hh : hi ≤ w.heap.size) (hm : n ≤ 1048576) (hpn : ∀ r ∈ s.rs, r.ps.length ≤ 1048576) :
  Calls Tryz.prog 10 #[stV s A n cap, hdV h] w (RetSHB w.heap.size (stepS putS putB s h) w) := by
 have HPN := Lib.hid hpn; clear hpn
 have HLN := Lib.hid hs.1
 obtain ⟨at_, v, r, t, seen, tr, sp, ag, re⟩ := h
 unfold stV hdV
 dsimp only
 go_enter Tryz.func10, Tryz.ntmps10
 go_upto_region 1 with fail
 refine wp_abs (fun W => Below w.heap.size w W ∧ BoxAt W w.heap.size #[.int .i64 s.rd, .int .i64 s.mo, .slice A n cap, .int .i64 s.fi, .int .i64 s.la] 32 ∧ BoxAt W (w.heap.size + 1) #[.int .i64 at_, .int .i64 v, .int .i64 r, .int .i64 t, .bool seen.s, .int .i64 seen.n, .bool seen.f, .int .i64 seen.v, .int .i64 tr, .int .i64 sp, .bool ag, .int .i64 re] 35 ∧ BoxAt W (w.heap.size + 1 + 1) #[.int .i64 0, .int .i64 0, .slice none 0 0, .int .i64 0, .int .i64 0] 32 ∧ BoxAt W (w.heap.size + 1 + 1 + 1) #[.int .i64 0, .int .i64 0, .int .i64 0, .int .i64 0, .bool false, .int .i64 0, .bool false, .int .i64 0, .int .i64 0, .int .i64 0, .bool false, .int .i64 0] 35) ⟨(((((Below.refl _ _).alloc (Nat.le_refl _) _).alloc (by simp) _).alloc (by simp; omega) _).alloc (by simp; omega) _), (((BoxAt.new _ _ _).alloc _).alloc _).alloc _, ((BoxAt.new' (by simp)).alloc _).alloc _, (BoxAt.new' (by simp)).alloc _, BoxAt.new' (by simp)⟩ ?_
 rintro W0 ⟨hB, hx, hy, hz, hw_⟩
 have lw0 := hw_.lt
 have hs0 := hs.below hB hh
 have kx := hx.cell
 have ky := hy.cell
 have fy := hy.frozen
 go_wp2_with fail
 clear kx ky fy
 refine (sstoreOk_any s A n cap lo hi _ hs0 (Nat.le_trans hh hB.size) hm HPN.out).mono ?_
 rintro e w1 ⟨rfl, hb⟩
 replace hx := hx.below hb hx.lt
 replace hy := hy.below hb hy.lt
 replace hz := hz.below hb hz.lt
 replace hw_ := hw_.below hb hw_.lt
 replace hB := bstep hB hB.size hb
 have h1 := hb.size
 clear hb
 clear hs0
 cases hok : stOk s
 ·
  have HV := Lib.hid (show stepS putS putB s (⟨at_, v, r, t, seen, tr, sp, ag, re⟩ : Hd) = (St.zero, Hd.zero, false) by simp [stepS, hok])
  have kz := hz.cell
  have fz := hz.frozen
  have kw := hw_.cell
  have fw := hw_.frozen
  go_wp2
  refine bodyPost_ret (v := .tuple #[stV .zero none 0 0, hdV .zero, .bool false]) (by simp [results, Tryz.results10, go_sem, kz, kw, stV, St.zero, hdV, Hd.zero]) rfl ⟨none, 0, 0, by rw [HV.out], ?_, ?_⟩
  · rw [HV.out]; exact RgsW.nil
  · exact Below.setCells (by omega) [.int .i64 0, .int .i64 0, .int .i64 0, .int .i64 0, .bool false, .int .i64 0, .bool false, .int .i64 0, .int .i64 0, .int .i64 0, .bool false, .int .i64 0] 0 (Below.setCells (by omega) [.int .i64 0, .int .i64 0, .slice none 0 0, .int .i64 0, .int .i64 0] 0 hB)
 have HOK := Lib.hid hok
 have HNT := Lib.hid (stOk_neat hok)
 clear hok
 have ky := hy.cell
 go_wp2_with fail
 clear ky
 refine (shandOk_any (⟨at_, v, r, t, seen, tr, sp, ag, re⟩ : Hd) _).mono ?_
 rintro e w2 ⟨rfl, hb⟩
 replace hx := hx.below hb hx.lt
 replace hy := hy.below hb hy.lt
 replace hz := hz.below hb hz.lt
 replace hw_ := hw_.below hb hw_.lt
 replace hB := bstep hB hB.size hb
 have h2 := hb.size
 clear hb
 cases hho : (⟨at_, v, r, t, seen, tr, sp, ag, re⟩ : Hd).ok
 ·
  have HV := Lib.hid (show stepS putS putB s (⟨at_, v, r, t, seen, tr, sp, ag, re⟩ : Hd) = (St.zero, Hd.zero, false) by simp [stepS, HOK.out, hho])
  have kz := hz.cell
  have fz := hz.frozen
  have kw := hw_.cell
  have fw := hw_.frozen
  go_wp2
  refine bodyPost_ret (v := .tuple #[stV .zero none 0 0, hdV .zero, .bool false]) (by simp [results, Tryz.results10, go_sem, kz, kw, stV, St.zero, hdV, Hd.zero]) rfl ⟨none, 0, 0, by rw [HV.out], ?_, ?_⟩
  · rw [HV.out]; exact RgsW.nil
  · exact Below.setCells (by omega) [.int .i64 0, .int .i64 0, .int .i64 0, .int .i64 0, .bool false, .int .i64 0, .bool false, .int .i64 0, .int .i64 0, .int .i64 0, .bool false, .int .i64 0] 0 (Below.setCells (by omega) [.int .i64 0, .int .i64 0, .slice none 0 0, .int .i64 0, .int .i64 0] 0 hB)
 have HHO := Lib.hid hho
 clear hho
 have HCPY := Lib.hid (show ∀ W : World, Below w.heap.size w W → Calls Tryz.prog 36 #[stV s A n cap] W (RetS W.heap.size s W) from fun W hBW => l3Copy_rgs s A n cap lo hi W (hs.below hBW hh) (Nat.le_trans hh hBW.size) HNT.out)
 unfold stV at HCPY
 have kx := hx.cell
 have ky := hy.cell
 go_wp2_with fail
 refine (l5Putting_any at_ _).mono ?_
 rintro e w' ⟨rfl, rfl⟩
 cases hpb : putB at_
 ·
  have HV := Lib.hid (show stepS putS putB s (⟨at_, v, r, t, seen, tr, sp, ag, re⟩ : Hd) = (s, (⟨at_, v, r, t, seen, tr, sp, ag, re⟩ : Hd), false) by simp [stepS, HOK.out, HHO.out, hpb])
  go_upto_region 4 with fail
  clear kx ky
  refine ret6 (fun W A n c => RgsW w.heap.size W.heap.size W A n c s.rs) gWb gWs w false s lo hi A n cap (⟨at_, v, r, t, seen, tr, sp, ag, re⟩ : Hd) w.heap.size (w.heap.size + 1) (by kernel_rfl) (by kernel_rfl) (by kernel_rfl) (by kernel_rfl) (by kernel_rfl) (by omega) ⟨hB, hx, hy, hz, hw_, hs.below hB hh, Nat.le_trans hh hB.size⟩ ?k0 ?k1 ?k2 ?k3 ?k4 ?k5 ?hQ
  case k0 | k2 | k3 | k4 =>
   intros
   rename_i k
   have kc_ := k.cell
   have kf_ := k.frozen
   refine OpGoes.go fun K hK => ?_
   go_simp
   first | exact hK _ _ ⟨rfl, rfl⟩ | exact hK _ _ rfl
  case k5 =>
   intros
   refine OpGoes.go fun K hK => ?_
   go_simp
   exact hK _ _ ⟨rfl, rfl⟩
  case k1 =>
   intro W' hBW hGW hhW
   refine OpGoes.go fun K hK => ?_
   go_simp
   refine (l3Copy_rgs s A n cap lo hi _ hGW hhW HNT.out).mono ?_
   rintro e w9 ⟨A9, n9, c9, rfl, hG9, hb9⟩
   exact ⟨_, rfl, hK _ _ ⟨_, _, _, rfl, hG9.mono hBW.size (Nat.le_refl _), hb9⟩⟩
  case hQ =>
   intro σ W' A9 n9 c9 e5 hB' k7 k8 hG9
   replace k7 := k7.cell
   replace k8 := k8.cell
   simp only [lexAll]
   go_simp
   go_step
   go_wp2
   refine bodyPost_ret (v := .tuple #[stV s A9 n9 c9, hdV (⟨at_, v, r, t, seen, tr, sp, ag, re⟩ : Hd), .bool false]) (by simp [results, Tryz.results10, go_sem, k7, k8, stV, hdV]) rfl ⟨A9, n9, c9, by rw [HV.out], ?_, hB'⟩
   rw [HV.out]
   exact hG9
 go_wp2_with fail
 clear kx ky
 refine (l4Ring_any s A n cap r _ HLN.out hm).mono ?_
 rintro e w3 ⟨rfl, hb⟩
 replace hx := hx.below hb hx.lt
 replace hy := hy.below hb hy.lt
 replace hz := hz.below hb hz.lt
 replace hw_ := hw_.below hb hw_.lt
 replace hB := bstep hB hB.size hb
 have h3 := hb.size
 clear hb
 cases hrb : ringB s r
 ·
  have HV := Lib.hid (show stepS putS putB s (⟨at_, v, r, t, seen, tr, sp, ag, re⟩ : Hd) = (s, (⟨at_, v, r, t, seen, tr, sp, ag, re⟩ : Hd), false) by simp [stepS, HOK.out, HHO.out, hrb])
  go_upto_region 4 with fail
  refine ret6 (fun W A n c => RgsW w.heap.size W.heap.size W A n c s.rs) gWb gWs w false s lo hi A n cap (⟨at_, v, r, t, seen, tr, sp, ag, re⟩ : Hd) w.heap.size (w.heap.size + 1) (by kernel_rfl) (by kernel_rfl) (by kernel_rfl) (by kernel_rfl) (by kernel_rfl) (by omega) ⟨hB, hx, hy, hz, hw_, hs.below hB hh, Nat.le_trans hh hB.size⟩ ?k0 ?k1 ?k2 ?k3 ?k4 ?k5 ?hQ
  case k0 | k2 | k3 | k4 =>
   intros
   rename_i k
   have kc_ := k.cell
   have kf_ := k.frozen
   refine OpGoes.go fun K hK => ?_
   go_simp
   first | exact hK _ _ ⟨rfl, rfl⟩ | exact hK _ _ rfl
  case k5 =>
   intros
   refine OpGoes.go fun K hK => ?_
   go_simp
   exact hK _ _ ⟨rfl, rfl⟩
  case k1 =>
   intro W' hBW hGW hhW
   refine OpGoes.go fun K hK => ?_
   go_simp
   refine (l3Copy_rgs s A n cap lo hi _ hGW hhW HNT.out).mono ?_
   rintro e w9 ⟨A9, n9, c9, rfl, hG9, hb9⟩
   exact ⟨_, rfl, hK _ _ ⟨_, _, _, rfl, hG9.mono hBW.size (Nat.le_refl _), hb9⟩⟩
  case hQ =>
   intro σ W' A9 n9 c9 e5 hB' k7 k8 hG9
   replace k7 := k7.cell
   replace k8 := k8.cell
   simp only [lexAll]
   go_simp
   go_step
   go_wp2
   refine bodyPost_ret (v := .tuple #[stV s A9 n9 c9, hdV (⟨at_, v, r, t, seen, tr, sp, ag, re⟩ : Hd), .bool false]) (by simp [results, Tryz.results10, go_sem, k7, k8, stV, hdV]) rfl ⟨A9, n9, c9, by rw [HV.out], ?_, hB'⟩
   rw [HV.out]
   exact hG9
 have HTB := Lib.hid (show putB at_ = true by simp [hpb])
 obtain ⟨q, hq⟩ : ∃ q, putS s (⟨at_, v, r, t, seen, tr, sp, ag, re⟩ : Hd) = q := ⟨_, rfl⟩
 have HQN := Lib.hid (show Neat q.1 by rw [← hq]; exact putS_neat HOK.out)
 obtain ⟨M0, hMe⟩ : ∃ M0, M0 = w3.heap.size := ⟨_, rfl⟩
 have hM0 : M0 ≤ w3.heap.size := by omega
 have hM4 : w.heap.size + 4 ≤ M0 := by have := hw_.lt; omega
 clear hMe
 have HTK := Lib.hid (show ∀ (W : World) (A1 : Option Addr) (n1 c1 : Nat), Below w.heap.size w W → M0 ≤ W.heap.size → RgsW M0 W.heap.size W A1 n1 c1 s.rs → Calls Tryz.prog 37 #[stV s A1 n1 c1, hdV (⟨at_, v, r, t, seen, tr, sp, ag, re⟩ : Hd)] W (RetSHB M0 q W) from fun W A1 n1 c1 hBW hMW hG => by
  have := l6Put_any s A1 n1 c1 M0 W.heap.size (⟨at_, v, r, t, seen, tr, sp, ag, re⟩ : Hd) W hG (Nat.le_refl _) hMW HOK.out hrb HHO.out hpb
  rw [hq] at this
  exact this)
 unfold stV hdV at HTK
 have HRB := Lib.hid hrb
 have HQ := Lib.hid hq
 clear hrb hq
 go_upto_region 5 with fail
 go_cut [7, 8, 9] (fun u7 u8 u9 W' => Below w.heap.size w W' ∧ BoxAt W' w.heap.size #[.int .i64 s.rd, .int .i64 s.mo, .slice A n cap, .int .i64 s.fi, .int .i64 s.la] 32 ∧ BoxAt W' (w.heap.size + 1) #[.int .i64 at_, .int .i64 v, .int .i64 r, .int .i64 t, .bool seen.s, .int .i64 seen.n, .bool seen.f, .int .i64 seen.v, .int .i64 tr, .int .i64 sp, .bool ag, .int .i64 re] 35 ∧ BoxAt W' (w.heap.size + 1 + 1) #[.int .i64 0, .int .i64 0, .slice none 0 0, .int .i64 0, .int .i64 0] 32 ∧ BoxAt W' (w.heap.size + 1 + 1 + 1) #[.int .i64 0, .int .i64 0, .int .i64 0, .int .i64 0, .bool false, .int .i64 0, .bool false, .int .i64 0, .int .i64 0, .int .i64 0, .bool false, .int .i64 0] 35 ∧ M0 ≤ W'.heap.size ∧ ∃ (X Y : Nat) (A5 : Option Addr) (n5 c5 : Nat), M0 ≤ X ∧ M0 ≤ Y ∧ BoxAt W' X #[.int .i64 q.1.rd, .int .i64 q.1.mo, .slice A5 n5 c5, .int .i64 q.1.fi, .int .i64 q.1.la] 32 ∧ BoxAt W' Y #[.int .i64 q.2.1.at_, .int .i64 q.2.1.v, .int .i64 q.2.1.r, .int .i64 q.2.1.t, .bool q.2.1.seen.s, .int .i64 q.2.1.seen.n, .bool q.2.1.seen.f, .int .i64 q.2.1.seen.v, .int .i64 q.2.1.tr, .int .i64 q.2.1.sp, .bool q.2.1.ag, .int .i64 q.2.1.re] 35 ∧ RgsW M0 W'.heap.size W' A5 n5 c5 q.1.rs ∧ u7 = .pointer (some ⟨X, 0, none⟩) ∧ u8 = .pointer (some ⟨Y, 0, none⟩) ∧ u9 = .bool q.2.2)
 case first =>
  refine wp_region2v (fun w w' => Below w.heap.size w w') (fun _ _ h => h.size) (fun _ => Below.refl _ _) (fun L W' => Below w.heap.size w W' ∧ BoxAt W' w.heap.size #[.int .i64 s.rd, .int .i64 s.mo, .slice A n cap, .int .i64 s.fi, .int .i64 s.la] 32 ∧ BoxAt W' (w.heap.size + 1) #[.int .i64 at_, .int .i64 v, .int .i64 r, .int .i64 t, .bool seen.s, .int .i64 seen.n, .bool seen.f, .int .i64 seen.v, .int .i64 tr, .int .i64 sp, .bool ag, .int .i64 re] 35 ∧ M0 ≤ W'.heap.size ∧ BoxAt W' (w.heap.size + 1 + 1) #[.int .i64 0, .int .i64 0, .slice none 0 0, .int .i64 0, .int .i64 0] 32 ∧ BoxAt W' (w.heap.size + 1 + 1 + 1) #[.int .i64 0, .int .i64 0, .int .i64 0, .int .i64 0, .bool false, .int .i64 0, .bool false, .int .i64 0, .int .i64 0, .int .i64 0, .bool false, .int .i64 0] 35) (ps5V s w.heap.size M0 n cap A at_ v r t seen tr sp ag re q) (fun j => [0, 0, 0, 0, 0, 0, 0, 0, 2, 2, 1, 1, 0].getD j 0) [(10, 8), (11, 9)] (by kernel_rfl) (by kernel_rfl) ?_ ?_ ?_
   (.still rfl ?a0 <| .grow rfl ?a1 <| .still rfl ?a2 <| .grow rfl ?a3 <| .still rfl ?a4 <| .still rfl ?a5 <| .still rfl ?a6 <| .still rfl ?a7 <| .make rfl ?a8 <| .make rfl ?a9 <| .store rfl ?a10 <| .store rfl ?a11 <| .still rfl ?a12 <| .nil) ?_ ?_
  · exact ⟨fun _ _ _ h ⟨A1, n1, c1, e, hp⟩ => ⟨A1, n1, c1, (h 1 (List.mem_singleton.2 rfl)).symm.trans e, hp⟩, fun _ _ _ h ⟨A5, n5, c5, e, hp⟩ => ⟨A5, n5, c5, (h 3 (List.mem_singleton.2 rfl)).symm.trans e, hp⟩, fun _ _ _ h ⟨A5, n5, c5, e, hp⟩ => ⟨A5, n5, c5, (h 4 (List.mem_singleton.2 rfl)).symm.trans e, hp⟩, fun _ _ _ h ⟨A5, n5, c5, e, hp⟩ => ⟨A5, n5, c5, (h 5 (List.mem_singleton.2 rfl)).symm.trans e, hp⟩, fun _ _ _ h ⟨g, e, hp⟩ => ⟨g, (h 8 (List.mem_singleton.2 rfl)).symm.trans e, hp⟩, fun _ _ _ h ⟨g, e, hp⟩ => ⟨g, (h 9 (List.mem_singleton.2 rfl)).symm.trans e, hp⟩, fun _ _ _ h ⟨g, A5, n5, c5, e, hp⟩ => ⟨g, A5, n5, c5, (h 8 (List.mem_singleton.2 rfl)).symm.trans e, hp⟩, fun _ _ _ h ⟨g, e, hp⟩ => ⟨g, (h 9 (List.mem_singleton.2 rfl)).symm.trans e, hp⟩, trivial⟩
  · exact ⟨fun σ w w' hb ⟨A1, n1, c1, e, hp⟩ => ⟨A1, n1, c1, e, (hp.below hb (Nat.le_refl _)).mono (Nat.le_refl _) hb.size⟩, fun σ w w' hb ⟨A5, n5, c5, e, hp⟩ => ⟨A5, n5, c5, e, (hp.below hb (Nat.le_refl _)).mono (Nat.le_refl _) hb.size⟩, fun σ w w' hb ⟨A5, n5, c5, e, hp⟩ => ⟨A5, n5, c5, e, (hp.below hb (Nat.le_refl _)).mono (Nat.le_refl _) hb.size⟩, fun σ w w' hb ⟨A5, n5, c5, e, hp⟩ => ⟨A5, n5, c5, e, (hp.below hb (Nat.le_refl _)).mono (Nat.le_refl _) hb.size⟩, fun σ w w' hb ⟨g, e, hg, x0, x1, x2, x3, x4, hx⟩ => ⟨g, e, hg, x0, x1, x2, x3, x4, hx.below hb hx.lt⟩, fun σ w w' hb ⟨g, e, hg, x0, x1, x2, x3, x4, x5, x6, x7, x8, x9, x10, x11, hx⟩ => ⟨g, e, hg, x0, x1, x2, x3, x4, x5, x6, x7, x8, x9, x10, x11, hx.below hb hx.lt⟩, fun σ w w' hb ⟨g, A5, n5, c5, e, hg, hx, hp⟩ => ⟨g, A5, n5, c5, e, hg, hx.below hb hx.lt, (hp.below hb (Nat.le_refl _)).mono (Nat.le_refl _) hb.size⟩, fun σ w w' hb ⟨g, e, hg, hx⟩ => ⟨g, e, hg, hx.below hb hx.lt⟩, trivial⟩
  · exact ⟨hB.drew, hx, hy, hM0, hz, hw_⟩
  case a0 =>
   go_light
   intro L σ W' hcl hL hC hw
   have ks := hC.2.1.cell
   clear hw hcl hL hC
   refine OpGoes.go fun K hK => ?_
   go_simp
   exact hK _ _ ⟨rfl, rfl⟩
  case a2 =>
   go_light
   intro L σ W' hcl hL hC hw
   have kh := hC.2.2.1.cell
   clear hw hcl hL hC
   refine OpGoes.go fun K hK => ?_
   go_simp
   exact hK _ _ ⟨rfl, rfl⟩
  case a12 =>
   go_light
   intro L σ W' hcl hL hC hw
   have e7 := wV hw 7 rfl
   clear hw hcl hL hC
   refine OpGoes.go fun K hK => ?_
   go_simp
   exact hK _ _ ⟨rfl, rfl⟩
  case a1 =>
   go_light
   intro L σ W' hcl hL hC hw
   have e0 := wV hw 0 rfl
   clear hw
   have HC := Lib.hid hC
   clear hC
   clear hcl hL
   refine OpGoes.go fun K hK => ?_
   go_simp
   obtain ⟨hB, hx, hy, hM0, hz, hw_⟩ := HC.out
   refine (HCPY.out _ hB).mono ?_
   rintro e w1 ⟨A1, n1, c1, rfl, hG5, hb1⟩
   exact ⟨_, rfl, hK _ _ ⟨⟨bstep hB hB.size hb1, hx.below hb1 hx.lt, hy.below hb1 hy.lt, Nat.le_trans hM0 hb1.size, hz.below hb1 hz.lt, hw_.below hb1 hw_.lt⟩, ⟨A1, n1, c1, rfl, hG5.mono hM0 (Nat.le_refl _)⟩, hb1⟩⟩
  case a3 =>
   go_light
   intro L σ W' hcl hL hC hw
   obtain ⟨A1, n1, c1, e1, hp1⟩ := wE hw 1 rfl
   have e2 := wV hw 2 rfl
   clear hw
   have HC := Lib.hid hC
   clear hC
   clear hcl hL
   refine OpGoes.go fun K hK => ?_
   go_simp
   obtain ⟨hB, hx, hy, hM0, hz, hw_⟩ := HC.out
   refine (HTK.out _ _ _ _ hB hM0 hp1).mono ?_
   rintro e w1 ⟨A5, n5, c5, rfl, hG5, hb1⟩
   exact ⟨_, rfl, hK _ _ ⟨⟨bstep hB hB.size hb1, hx.below hb1 hx.lt, hy.below hb1 hy.lt, Nat.le_trans hM0 hb1.size, hz.below hb1 hz.lt, hw_.below hb1 hw_.lt⟩, ⟨A5, n5, c5, rfl, hG5⟩, hb1⟩⟩
  case a4 =>
   go_light
   intro L σ W' hcl hL hC hw
   obtain ⟨A5, n5, c5, e3, hp3⟩ := wE hw 3 rfl
   clear hw hcl hL hC
   refine OpGoes.go fun K hK => ?_
   go_simp
   exact hK _ _ ⟨rfl, ⟨A5, n5, c5, rfl, hp3⟩⟩
  case a5 =>
   go_light
   intro L σ W' hcl hL hC hw
   obtain ⟨A5, n5, c5, e4, hp4⟩ := wE hw 4 rfl
   clear hw hcl hL hC
   refine OpGoes.go fun K hK => ?_
   go_simp
   exact hK _ _ ⟨rfl, ⟨A5, n5, c5, rfl, hp4⟩⟩
  case a6 =>
   go_light
   intro L σ W' hcl hL hC hw
   obtain ⟨A5, n5, c5, e4, hp4⟩ := wE hw 4 rfl
   clear hw hcl hL hC
   refine OpGoes.go fun K hK => ?_
   go_simp
   exact hK _ _ ⟨rfl, rfl⟩
  case a7 =>
   go_light
   intro L σ W' hcl hL hC hw
   obtain ⟨A5, n5, c5, e4, hp4⟩ := wE hw 4 rfl
   clear hw hcl hL hC
   refine OpGoes.go fun K hK => ?_
   go_simp
   exact hK _ _ ⟨rfl, rfl⟩
  case a8 =>
   go_light
   intro L σ W' hcl hL hC hw
   clear hw
   have HC := Lib.hid hC
   clear hC
   clear hcl hL
   refine OpGoes.go fun K hK => ?_
   go_simp
   obtain ⟨hB, hx, hy, hM0, hz, hw_⟩ := HC.out
   have hb1 : Below W'.heap.size W' (W'.alloc (.cells #[.int .i64 0, .int .i64 0, .slice none 0 0, .int .i64 0, .int .i64 0] 32)) := (Below.refl _ _).alloc (Nat.le_refl _) _
   exact hK _ _ ⟨⟨bstep hB hB.size hb1, hx.below hb1 hx.lt, hy.below hb1 hy.lt, Nat.le_trans hM0 hb1.size, hz.below hb1 hz.lt, hw_.below hb1 hw_.lt⟩, ⟨_, rfl, hM0, _, _, _, _, _, BoxAt.new _ _ _⟩, hb1, rfl, by simp⟩
  case a9 =>
   go_light
   intro L σ W' hcl hL hC hw
   clear hw
   have HC := Lib.hid hC
   clear hC
   clear hcl hL
   refine OpGoes.go fun K hK => ?_
   go_simp
   obtain ⟨hB, hx, hy, hM0, hz, hw_⟩ := HC.out
   have hb1 : Below W'.heap.size W' (W'.alloc (.cells #[.int .i64 0, .int .i64 0, .int .i64 0, .int .i64 0, .bool false, .int .i64 0, .bool false, .int .i64 0, .int .i64 0, .int .i64 0, .bool false, .int .i64 0] 35)) := (Below.refl _ _).alloc (Nat.le_refl _) _
   exact hK _ _ ⟨⟨bstep hB hB.size hb1, hx.below hb1 hx.lt, hy.below hb1 hy.lt, Nat.le_trans hM0 hb1.size, hz.below hb1 hz.lt, hw_.below hb1 hw_.lt⟩, ⟨_, rfl, hM0, _, _, _, _, _, _, _, _, _, _, _, _, BoxAt.new _ _ _⟩, hb1, rfl, by simp⟩
  case a10 =>
   go_light
   intro L σ W' hcl hL hC hw hne
   obtain ⟨A5, n5, c5, e5, hp5⟩ := wE hw 5 rfl
   obtain ⟨g8, e8, hg8, x0, x1, x2, x3, x4, hbox8⟩ := wE hw 8 rfl
   clear hw hne
   have HC := Lib.hid hC
   clear hC
   clear hcl hL
   have kc_ := hbox8.cell
   have kf_ := hbox8.frozen
   refine OpGoes.go fun K hK => ?_
   go_simp
   obtain ⟨hB, hx, hy, hM0, hz, hw_⟩ := HC.out
   have hset := sets_all (us := [.int .i64 q.1.rd, .int .i64 q.1.mo, .slice A5 n5 c5, .int .i64 q.1.fi, .int .i64 q.1.la]) hbox8 rfl
   refine hK undef (setCells W' g8 0 [.int .i64 q.1.rd, .int .i64 q.1.mo, .slice A5 n5 c5, .int .i64 q.1.fi, .int .i64 q.1.la]) ⟨⟨(Below.setCells (by omega) _ 0 hB), (BoxAt.sets_ne _ 0 hx (by omega)), (BoxAt.sets_ne _ 0 hy (by omega)), (size_sts hM0 _ 0), (BoxAt.sets_ne _ 0 hz (by omega)), (BoxAt.sets_ne _ 0 hw_ (by omega))⟩, ⟨g8, A5, n5, c5, e8, hg8, hset, ((RgsW.setsT hp5 hbox8 (by decide) (by decide) _ 0).mono (Nat.le_refl _) (Nat.le_of_eq (sets_size _ _ _).symm))⟩, Nat.le_of_eq (sets_size _ _ _).symm, keepV ?_⟩
   exact ⟨fun _ _ ⟨A1_x, n1_x, c1_x, e, hp⟩ => ⟨A1_x, n1_x, c1_x, e, ((RgsW.setsT hp hbox8 (by decide) (by decide) _ 0).mono (Nat.le_refl _) (Nat.le_of_eq (sets_size _ _ _).symm))⟩, fun _ _ ⟨A5_x, n5_x, c5_x, e, hp⟩ => ⟨A5_x, n5_x, c5_x, e, ((RgsW.setsT hp hbox8 (by decide) (by decide) _ 0).mono (Nat.le_refl _) (Nat.le_of_eq (sets_size _ _ _).symm))⟩, fun _ _ ⟨A5_x, n5_x, c5_x, e, hp⟩ => ⟨A5_x, n5_x, c5_x, e, ((RgsW.setsT hp hbox8 (by decide) (by decide) _ 0).mono (Nat.le_refl _) (Nat.le_of_eq (sets_size _ _ _).symm))⟩, fun _ _ ⟨A5_x, n5_x, c5_x, e, hp⟩ => ⟨A5_x, n5_x, c5_x, e, ((RgsW.setsT hp hbox8 (by decide) (by decide) _ 0).mono (Nat.le_refl _) (Nat.le_of_eq (sets_size _ _ _).symm))⟩, fun _ _ _ => ⟨g8, e8, hg8, _, _, _, _, _, hset⟩, fun _ _ ⟨g, e, hg, x0, x1, x2, x3, x4, x5, x6, x7, x8, x9, x10, x11, hx⟩ => ⟨g, e, hg, x0, x1, x2, x3, x4, x5, x6, x7, x8, x9, x10, x11, (BoxAt.sets_ne _ 0 hx (by first | omega | exact box_neM hx hbox8 (by decide)))⟩, fun h => absurd rfl h, fun _ _ ⟨g, e, hg, hx⟩ => ⟨g, e, hg, (BoxAt.sets_ne _ 0 hx (by first | omega | exact box_neM hx hbox8 (by decide)))⟩, trivial⟩
  case a11 =>
   go_light
   intro L σ W' hcl hL hC hw hne
   have e6 := wV hw 6 rfl
   obtain ⟨g9, e9, hg9, x0, x1, x2, x3, x4, x5, x6, x7, x8, x9, x10, x11, hbox9⟩ := wE hw 9 rfl
   clear hw hne
   have HC := Lib.hid hC
   clear hC
   clear hcl hL
   have kc_ := hbox9.cell
   have kf_ := hbox9.frozen
   refine OpGoes.go fun K hK => ?_
   go_simp
   obtain ⟨hB, hx, hy, hM0, hz, hw_⟩ := HC.out
   have hset := sets_all (us := [.int .i64 q.2.1.at_, .int .i64 q.2.1.v, .int .i64 q.2.1.r, .int .i64 q.2.1.t, .bool q.2.1.seen.s, .int .i64 q.2.1.seen.n, .bool q.2.1.seen.f, .int .i64 q.2.1.seen.v, .int .i64 q.2.1.tr, .int .i64 q.2.1.sp, .bool q.2.1.ag, .int .i64 q.2.1.re]) hbox9 rfl
   refine hK undef (setCells W' g9 0 [.int .i64 q.2.1.at_, .int .i64 q.2.1.v, .int .i64 q.2.1.r, .int .i64 q.2.1.t, .bool q.2.1.seen.s, .int .i64 q.2.1.seen.n, .bool q.2.1.seen.f, .int .i64 q.2.1.seen.v, .int .i64 q.2.1.tr, .int .i64 q.2.1.sp, .bool q.2.1.ag, .int .i64 q.2.1.re]) ⟨⟨(Below.setCells (by omega) _ 0 hB), (BoxAt.sets_ne _ 0 hx (by omega)), (BoxAt.sets_ne _ 0 hy (by omega)), (size_sts hM0 _ 0), (BoxAt.sets_ne _ 0 hz (by omega)), (BoxAt.sets_ne _ 0 hw_ (by omega))⟩, ⟨g9, e9, hg9, hset⟩, Nat.le_of_eq (sets_size _ _ _).symm, keepV ?_⟩
   exact ⟨fun _ _ ⟨A1_x, n1_x, c1_x, e, hp⟩ => ⟨A1_x, n1_x, c1_x, e, ((RgsW.setsT hp hbox9 (by decide) (by decide) _ 0).mono (Nat.le_refl _) (Nat.le_of_eq (sets_size _ _ _).symm))⟩, fun _ _ ⟨A5_x, n5_x, c5_x, e, hp⟩ => ⟨A5_x, n5_x, c5_x, e, ((RgsW.setsT hp hbox9 (by decide) (by decide) _ 0).mono (Nat.le_refl _) (Nat.le_of_eq (sets_size _ _ _).symm))⟩, fun _ _ ⟨A5_x, n5_x, c5_x, e, hp⟩ => ⟨A5_x, n5_x, c5_x, e, ((RgsW.setsT hp hbox9 (by decide) (by decide) _ 0).mono (Nat.le_refl _) (Nat.le_of_eq (sets_size _ _ _).symm))⟩, fun _ _ ⟨A5_x, n5_x, c5_x, e, hp⟩ => ⟨A5_x, n5_x, c5_x, e, ((RgsW.setsT hp hbox9 (by decide) (by decide) _ 0).mono (Nat.le_refl _) (Nat.le_of_eq (sets_size _ _ _).symm))⟩, fun _ _ ⟨g, e, hg, x0, x1, x2, x3, x4, hx⟩ => ⟨g, e, hg, x0, x1, x2, x3, x4, (BoxAt.sets_ne _ 0 hx (by first | omega | exact box_neM hx hbox9 (by decide)))⟩, fun _ _ _ => ⟨g9, e9, hg9, _, _, _, _, _, _, _, _, _, _, _, _, hset⟩, fun _ _ ⟨g, A5, n5, c5, e, hg, hx, hp⟩ => ⟨g, A5, n5, c5, e, hg, (BoxAt.sets_ne _ 0 hx (by first | omega | exact box_neM hx hbox9 (by decide))), ((RgsW.setsT hp hbox9 (by decide) (by decide) _ 0).mono (Nat.le_refl _) (Nat.le_of_eq (sets_size _ _ _).symm))⟩, fun h => absurd rfl h, trivial⟩
  ·
   intro L L' W' hLL hC
   obtain ⟨hB, hx, hy, hM0, hz, hw_⟩ := hC
   exact ⟨hB, hx, hy, hM0, hz, hw_⟩
  ·
   intro σ L W' hall hC hRR
   obtain ⟨hB, hx, hy, hM0, hz, hw_⟩ := hC
   obtain ⟨g8, A5, n5, c5, e8, hg10, s10, hp10⟩ := dE hRR 10 rfl
   obtain ⟨g9, e9, hg11, s11⟩ := dE hRR 11 rfl
   have e12 := dV hRR 12 rfl
   clear hRR
   simp only [lexAll]
   go_simp
   go_step
   go_meet
   exact ⟨hB, hx, hy, hz, hw_, hM0, g8, g9, A5, n5, c5, hg10, hg11, s10, s11, hp10, rfl, rfl, rfl⟩
 case rest =>
  clear hB hx hy hz hw_ hM0
  obtain ⟨hB, hx, hy, hz, hw_, hM0, X, Y, A5, n5, c5, hXM, hYM, hX, hY, hG, rfl, rfl, rfl⟩ := hcut
  cases hq2 : q.2.2
  ·
   have HV := Lib.hid (show stepS putS putB s (⟨at_, v, r, t, seen, tr, sp, ag, re⟩ : Hd) = (s, (⟨at_, v, r, t, seen, tr, sp, ag, re⟩ : Hd), false) by simp [stepS, HOK.out, HHO.out, HTB.out, HRB.out, HQ.out, hq2])
   go_upto_region 7 with fail
   refine ret6 (fun W A n c => RgsW w.heap.size W.heap.size W A n c s.rs) gWb gWs w false s lo hi A n cap (⟨at_, v, r, t, seen, tr, sp, ag, re⟩ : Hd) w.heap.size (w.heap.size + 1) (by kernel_rfl) (by kernel_rfl) (by kernel_rfl) (by kernel_rfl) (by kernel_rfl) (by omega) ⟨hB, hx, hy, hz, hw_, hs.below hB hh, Nat.le_trans hh hB.size⟩ ?k0 ?k1 ?k2 ?k3 ?k4 ?k5 ?hQ
   case k0 | k2 | k3 | k4 =>
    intros
    rename_i k
    have kc_ := k.cell
    have kf_ := k.frozen
    refine OpGoes.go fun K hK => ?_
    go_simp
    first | exact hK _ _ ⟨rfl, rfl⟩ | exact hK _ _ rfl
   case k5 =>
    intros
    refine OpGoes.go fun K hK => ?_
    go_simp
    exact hK _ _ ⟨rfl, rfl⟩
   case k1 =>
    intro W' hBW hGW hhW
    refine OpGoes.go fun K hK => ?_
    go_simp
    refine (l3Copy_rgs s A n cap lo hi _ hGW hhW HNT.out).mono ?_
    rintro e w9 ⟨A9, n9, c9, rfl, hG9, hb9⟩
    exact ⟨_, rfl, hK _ _ ⟨_, _, _, rfl, hG9.mono hBW.size (Nat.le_refl _), hb9⟩⟩
   case hQ =>
    intro σ W' A9 n9 c9 e5 hB' k7 k8 hG9
    replace k7 := k7.cell
    replace k8 := k8.cell
    simp only [lexAll]
    go_simp
    go_step
    go_wp2
    refine bodyPost_ret (v := .tuple #[stV s A9 n9 c9, hdV (⟨at_, v, r, t, seen, tr, sp, ag, re⟩ : Hd), .bool false]) (by simp [results, Tryz.results10, go_sem, k7, k8, stV, hdV]) rfl ⟨A9, n9, c9, by rw [HV.out], ?_, hB'⟩
    rw [HV.out]
    exact hG9
  ·
   have HQ2 := Lib.hid hq2; clear hq2
   have kX := hX.cell
   go_wp2_with fail
   clear kX
   refine (sstoreOk_any q.1 A5 n5 c5 M0 wc.heap.size _ hG (Nat.le_refl _) (by have := hG.1; have := HQN.out.2.1; omega) HQN.out.len).mono ?_
   rintro e w4 ⟨rfl, hb⟩
   replace hX := hX.below hb hX.lt
   replace hY := hY.below hb hY.lt
   replace hG := (hG.below hb (Nat.le_refl _)).mono (Nat.le_refl _) hb.size
   replace hx := hx.below hb hx.lt
   replace hy := hy.below hb hy.lt
   replace hz := hz.below hb hz.lt
   replace hw_ := hw_.below hb hw_.lt
   replace hB := bstep hB hB.size hb
   have h4 := hb.size
   clear hb
   cases hsq : stOk q.1
   ·
    have HV := Lib.hid (show stepS putS putB s (⟨at_, v, r, t, seen, tr, sp, ag, re⟩ : Hd) = (s, (⟨at_, v, r, t, seen, tr, sp, ag, re⟩ : Hd), false) by simp [stepS, HOK.out, HHO.out, HTB.out, HRB.out, HQ.out, HQ2.out, hsq])
    go_upto_region 7 with fail
    refine ret6 (fun W A n c => RgsW w.heap.size W.heap.size W A n c s.rs) gWb gWs w false s lo hi A n cap (⟨at_, v, r, t, seen, tr, sp, ag, re⟩ : Hd) w.heap.size (w.heap.size + 1) (by kernel_rfl) (by kernel_rfl) (by kernel_rfl) (by kernel_rfl) (by kernel_rfl) (by omega) ⟨hB, hx, hy, hz, hw_, hs.below hB hh, Nat.le_trans hh hB.size⟩ ?k0 ?k1 ?k2 ?k3 ?k4 ?k5 ?hQ
    case k0 | k2 | k3 | k4 =>
     intros
     rename_i k
     have kc_ := k.cell
     have kf_ := k.frozen
     refine OpGoes.go fun K hK => ?_
     go_simp
     first | exact hK _ _ ⟨rfl, rfl⟩ | exact hK _ _ rfl
    case k5 =>
     intros
     refine OpGoes.go fun K hK => ?_
     go_simp
     exact hK _ _ ⟨rfl, rfl⟩
    case k1 =>
     intro W' hBW hGW hhW
     refine OpGoes.go fun K hK => ?_
     go_simp
     refine (l3Copy_rgs s A n cap lo hi _ hGW hhW HNT.out).mono ?_
     rintro e w9 ⟨A9, n9, c9, rfl, hG9, hb9⟩
     exact ⟨_, rfl, hK _ _ ⟨_, _, _, rfl, hG9.mono hBW.size (Nat.le_refl _), hb9⟩⟩
    case hQ =>
     intro σ W' A9 n9 c9 e5 hB' k7 k8 hG9
     replace k7 := k7.cell
     replace k8 := k8.cell
     simp only [lexAll]
     go_simp
     go_step
     go_wp2
     refine bodyPost_ret (v := .tuple #[stV s A9 n9 c9, hdV (⟨at_, v, r, t, seen, tr, sp, ag, re⟩ : Hd), .bool false]) (by simp [results, Tryz.results10, go_sem, k7, k8, stV, hdV]) rfl ⟨A9, n9, c9, by rw [HV.out], ?_, hB'⟩
     rw [HV.out]
     exact hG9
   ·
    have HSQ := Lib.hid hsq; clear hsq
    go_upto_region 8 with fail
    clear HCPY HTK
    have HV := Lib.hid (show stepS putS putB s (⟨at_, v, r, t, seen, tr, sp, ag, re⟩ : Hd) = (q.1, q.2.1, true) by simp [stepS, HOK.out, HHO.out, HTB.out, HRB.out, HQ.out, HQ2.out, HSQ.out])
    refine ret4b w true q.1 M0 w4.heap.size A5 n5 c5 q.2.1 X Y (by kernel_rfl) (by kernel_rfl) (by kernel_rfl) (by kernel_rfl) (by omega) (by omega) ⟨hB, hX, hY, hz, hw_, hG, Nat.le_refl _⟩ ?k0 ?k1 ?k2 ?k3 ?k4 ?hQ
    case k0 | k1 | k2 | k3 =>
     intros
     rename_i k
     have kc_ := k.cell
     have kf_ := k.frozen
     refine OpGoes.go fun K hK => ?_
     go_simp
     first | exact hK _ _ ⟨rfl, rfl⟩ | exact hK _ _ rfl
    case k4 =>
     intros
     refine OpGoes.go fun K hK => ?_
     go_simp
     exact hK _ _ ⟨rfl, rfl⟩
    case hQ =>
     clear hB hX hY hx hy hz hw_ hG
     generalize hq2 : q.2.1 = h2 at *
     clear hq2
     intro σ W' e_ hB k7 k8 hG _
     replace k7 := k7.cell
     replace k8 := k8.cell
     simp only [lexAll]
     go_simp
     go_step
     go_wp2
     refine bodyPost_ret (v := .tuple #[stV q.1 A5 n5 c5, hdV h2, .bool true]) (by simp [results, Tryz.results10, go_sem, k7, k8, stV, hdV, Hd.rest, Hd.zero]) rfl ⟨A5, n5, c5, by rw [HV.out], ?_, hB⟩
     rw [HV.out]
     exact hG.cut.mono (by omega) (Nat.le_refl _)


end Go.Proofs.YtdmcfdpjaadagaaGreatDoor

/-
 What a step of one who puts leaves is right, and it is said to be done where the hand is right: pure.
-/
namespace Go.Proofs.YtdmcfdpjaadagaaGreatDoor
set_option linter.unusedSimpArgs false
set_option linter.unusedVariables false
open Go.RowKit
set_option linter.unusedVariables false

theorem done_ok {c : St → Option St} {s : St} (h : stOk s = true) : stOk (done c s).1 = true := by
 cases hc : c s with
 | none => rw [done_no h hc]; exact h
 | some t =>
  rw [done_then h hc]
  cases ht : stOk t
  · exact h
  · exact ht

/-- Whoever goes from ring to ring comes to an end, also where one of them is the last one now. -/
theorem chain_cut {rs : List Rg} {i : Nat} {q : Rg} (hq : q.x = -1) : ∀ (k : Nat) (z : Int) (l : List Int), chain rs k z = some l → ∃ l', chain (rs.set i q) k z = some l'
 | k, z, l, h => by
  by_cases hz : z < 0
  · exact ⟨_, chain_neg hz⟩
  cases k with
  | zero => rw [chain_zero hz] at h; cases h
  | succ k =>
   cases hr : rs[z.toNat]? with
   | none =>
    unfold chain at h
    simp [hz, hr] at h
   | some r =>
    rw [chain_succ hz hr] at h
    by_cases hi : i = z.toNat
    ·
     subst hi
     have hl : z.toNat < rs.length := (List.getElem?_eq_some_iff.1 hr).1
     rw [chain_succ hz (List.getElem?_set_self hl), hq, chain_neg (by omega)]
     exact ⟨_, rfl⟩
    ·
     cases hc : chain rs k r.x with
     | none => rw [hc] at h; cases h
     | some m =>
      obtain ⟨m', hm⟩ := chain_cut (i := i) hq k r.x m hc
      rw [chain_succ hz (by rw [List.getElem?_set_ne hi]; exact hr), hm]
      exact ⟨_, rfl⟩

theorem stOk_seed {s : St} (h : stOk s = true) {z v : Int} (hz : ringB s z = true) (hv : valB v = true) : stOk (s.turn z fun _ => Rg.seed s.rd.toNat v) = true := by
 obtain ⟨r, hr, _, _⟩ := ringB_some hz
 rw [St.turn_some hr]
 obtain ⟨h1, h2, h3⟩ := stOk_parts h
 have hrd := stOk_rd h
 refine stOk_of ?_ ?_ ?_
 · simpa [stHead] using h1
 ·
  intro q hq
  rcases List.mem_or_eq_of_mem_set hq with hq | rfl
  · simpa using h2 q hq
  ·
   have h5 := seed_ok (n := s.rd.toNat) (v := v) (by omega) (by omega) hv
   have h6 : ((Rg.seed s.rd.toNat v).ps.length : Int) = s.rd := by
    have : (Rg.seed s.rd.toNat v).ps.length = s.rd.toNat := by simp [Rg.seed, fresh]
    omega
   simp only [inSt, h5, h6, Bool.true_and, beq_self_eq_true, decide_eq_true_eq]
   show (-1 : Int) < _
   omega
 ·
  intro i hi
  obtain ⟨l, hl⟩ := h3 i (by simpa using hi)
  have := chain_cut (i := z.toNat) (q := Rg.seed s.rd.toNat v) rfl _ _ _ hl
  simpa using this

theorem rest_ok {h : Hd} (hok : h.ok = true) {re : Int} (h0 : 0 ≤ re) (h4 : re ≤ 4) : (h.rest re).ok = true := by
 simp only [Hd.ok, Hd.okA, Hd.okC, Bool.and_eq_true, inB, decide_eq_true_eq] at hok
 have h1 : -1 ≤ h.sp ∧ h.sp ≤ 15 := by omega
 simp [Hd.rest, Hd.zero, Hd.ok, Hd.okA, Hd.okC, inB, noB, putB, okB, h0, h4, h1.1, h1.2]
theorem step_ok {h : Hd} (hok : h.ok = true) (hp : putB h.at_ = true) {a tr sp : Int} (ha : 1 ≤ a ∧ a ≤ 12) (htr : 0 ≤ tr ∧ tr ≤ 1000000) (hsp : -1 ≤ sp ∧ sp ≤ 15) : ({ h with at_ := a, tr := tr, sp := sp } : Hd).ok = true := by
 simp only [Hd.ok, Hd.okA, Hd.okC, Bool.and_eq_true, inB, noB, putB, decide_eq_true_eq, Bool.or_eq_true, Bool.not_eq_true', Bool.and_eq_false_iff, decide_eq_false_iff_not] at hok hp ⊢
 exact ⟨⟨by omega, hok.1.2⟩, by omega⟩
theorem hd_facts {h : Hd} (hok : h.ok = true) (hp : putB h.at_ = true) : (0 ≤ h.tr ∧ h.tr ≤ 1000000) ∧ (-1 ≤ h.sp ∧ h.sp ≤ 15) ∧ valB h.v = true := by
 simp only [Hd.ok, Hd.okA, Hd.okC, Bool.and_eq_true, inB, noB, putB, decide_eq_true_eq, Bool.or_eq_true, Bool.not_eq_true', Bool.and_eq_false_iff, decide_eq_false_iff_not] at hok hp
 refine ⟨by omega, by omega, ?_⟩
 simp only [valB, Bool.and_eq_true, decide_eq_true_eq]
 omega

theorem putS_ok {s : St} (hok : stOk s = true) {h : Hd} (hho : h.ok = true) (hp : putB h.at_ = true) (hsp : h.at_ = 10 → h.sp = -1 ∨ ringB s h.sp = true) : stOk (putS s h).1 = true ∧ (putS s h).2.2 = (putS s h).2.1.ok := by
 obtain ⟨ftr, fsp, fv⟩ := hd_facts hho hp
 have hc : h.at_ = 1 ∨ h.at_ = 2 ∨ h.at_ = 3 ∨ h.at_ = 4 ∨ h.at_ = 5 ∨ h.at_ = 6 ∨ h.at_ = 7 ∨ h.at_ = 8 ∨ h.at_ = 9 ∨ h.at_ = 10 ∨ h.at_ = 11 ∨ h.at_ = 12 := by
  simp only [putB, inB, Bool.and_eq_true, decide_eq_true_eq] at hp
  omega
 rcases hc with e | e | e | e | e | e | e | e | e | e | e | e
 ·
  have : putS s h = put1 s h := by simp [putS, e]
  rw [this]; exact ⟨hok, rfl⟩
 ·
  have : putS s h = put2 s h := by simp [putS, e]
  rw [this]; exact ⟨hok, rfl⟩
 ·
  have : putS s h = put3 s h := by simp [putS, e]
  rw [this]
  refine ⟨?_, rfl⟩
  show stOk (swing s true h.r h.t).1 = true
  rw [swing_done]; exact done_ok hok
 ·
  have : putS s h = put4 s h := by simp [putS, e]
  rw [this]
  constructor
  ·
   show stOk (putTicket s h.r).1 = true
   rw [putTicket_done]; exact done_ok hok
  ·
   simp only [put4, fin]
   cases hk : ({ h with t := (putTicket s h.r).2, at_ := if (s.at h.r).c then 10 else 5 } : Hd).ok
   · simp
   ·
    have := (hd_nums hk).1.1
    dsimp only at this
    simp [this]
 ·
  have : putS s h = put5 s h := by simp [putS, e]
  rw [this]; exact ⟨hok, rfl⟩
 ·
  have : putS s h = put6 s h := by simp [putS, e]
  rw [this]; exact ⟨hok, rfl⟩
 ·
  have : putS s h = put7 s h := by simp [putS, e]
  rw [this]
  have h1 : stOk (swapPlace s h.r (h.t % s.rd) h.seen ⟨true, h.t, true, h.v⟩).1 = true := by rw [swap_done]; exact done_ok hok
  unfold put7
  split
  · exact ⟨h1, (rest_ok hho (by omega) (by omega)).symm⟩
  · exact ⟨h1, rfl⟩
 ·
  have : putS s h = put8 s h := by simp [putS, e]
  rw [this]; exact ⟨hok, rfl⟩
 ·
  have : putS s h = put9 s h := by simp [putS, e]
  rw [this]
  refine ⟨?_, rfl⟩
  show stOk (closeR s h.r).1 = true
  rw [close_done]; exact done_ok hok
 ·
  have : putS s h = make10 s h := by simp [putS, makeS, e]
  rw [this]
  unfold make10
  by_cases h0 : 0 ≤ h.sp
  ·
   rw [if_pos h0]
   rcases hsp e with hs | hs
   · omega
   ·
    rw [hs]
    exact ⟨stOk_seed hok hs fv, (step_ok hho hp (a := 11) (tr := h.tr) (sp := h.sp) (by omega) ftr fsp).symm⟩
  ·
   rw [if_neg h0]
   have h1 : stOk (addRing s h.v).1 = true := by rw [add_done]; exact done_ok hok
   split
   · exact ⟨hok, (rest_ok hho (by omega) (by omega)).symm⟩
   ·
    rename_i h2
    refine ⟨h1, (step_ok hho hp (a := 11) (tr := h.tr) (sp := (addRing s h.v).2) (by omega) ftr ⟨by omega, ?_⟩).symm⟩
    have hn := (stOk_neat h1).2.1
    have h4 := add_done s h.v
    have h5 : (addRing s h.v).2 = ((done (addC h.v) s).1.rs.length : Int) - 1 := by
     rw [h4]
     rw [h4] at h2
     dsimp only at h2 ⊢
     split at h2
     ·
      rename_i hd
      rw [if_pos hd]
     · omega
    have h6 : (addRing s h.v).1 = (done (addC h.v) s).1 := by rw [h4]
    rw [h6] at hn
    omega
 ·
  have : putS s h = make11 s h := by simp [putS, makeS, e]
  rw [this]
  unfold make11
  refine ⟨by rw [link_done]; exact done_ok hok, ?_⟩
  dsimp only
  split
  · exact (step_ok hho hp (a := 12) (tr := h.tr) (sp := h.sp) (by omega) ftr fsp).symm
  · exact (step_ok hho hp (a := 1) (tr := 0) (sp := h.sp) (by omega) (by omega) fsp).symm
 ·
  have : putS s h = make12 s h := by simp [putS, makeS, e]
  rw [this]
  unfold make12
  refine ⟨by rw [swing_done]; exact done_ok hok, ?_⟩
  have := rest_ok (h := { h with sp := -1 }) (step_ok hho hp (a := h.at_) (tr := h.tr) (sp := -1) (by simp only [putB, inB, Bool.and_eq_true, decide_eq_true_eq] at hp; omega) ftr (by omega)) (re := 1) (by omega) (by omega)
  exact this.symm

theorem stepS_put {s : St} (hok : stOk s = true) {h : Hd} (hho : h.ok = true) (hp : putB h.at_ = true) (hrb : ringB s h.r = true) (hsp : h.at_ = 10 → h.sp = -1 ∨ ringB s h.sp = true) :
  stepS putS putB s h = if (putS s h).2.1.ok then ((putS s h).1, (putS s h).2.1, true) else (s, h, false) := by
 obtain ⟨h1, h2⟩ := putS_ok hok hho hp hsp
 unfold stepS
 rw [hok, hho, hp, hrb, h1, h2]
 simp only [Bool.not_true, Bool.or_false, Bool.false_eq_true, if_false]
 cases (putS s h).2.1.ok <;> rfl
theorem stepS_none {s : St} (hok : stOk s = true) {h : Hd} (hho : h.ok = true) (hp : putB h.at_ = true) (hrb : ringB s h.r = true) (he : h.at_ = 10) (hs1 : h.sp ≠ -1) (hsp : ringB s h.sp = false) :
  stepS putS putB s h = (s, h, false) := by
 have fsp := (hd_facts hho hp).2.1
 have h2 : (putS s h).2.2 = false := by
  have : putS s h = make10 s h := by simp [putS, makeS, he]
  rw [this]
  unfold make10
  rw [if_pos (by omega), hsp]
  rfl
 unfold stepS
 rw [hok, hho, hp, hrb, h2]
 rfl

end Go.Proofs.YtdmcfdpjaadagaaGreatDoor


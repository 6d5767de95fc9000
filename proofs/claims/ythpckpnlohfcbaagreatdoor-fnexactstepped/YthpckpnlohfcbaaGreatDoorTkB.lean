/-
 A body in which the run jumps on to a label, some times: what is behind the jump is walked from the label.
-/
import Derived.WalkMore
import Derived.ScopeJumps
import Derived.Test.YthpckpnlohfcbaaGreatDoorKit
import Derived.Test.YthpckpnlohfcbaaGreatDoorPsA
import Derived.Test.YthpckpnlohfcbaaGreatDoorTakeJ
import Derived.Test.YthpckpnlohfcbaaGreatDoorCloA
namespace Go.Proofs.YthpckpnlohfcbaaGreatDoor
set_option linter.unusedSimpArgs false
set_option linter.unusedVariables false
open Go.RowKit
set_option linter.unusedVariables false
theorem ztkB0 {p : Prop} (h : p := by
 clear hq2
 intro σ W' _ hB k7 k8 hG _
 replace k7 := k7.cell
 replace k8 := k8.cell
 simp only [lexAll]
 go_simp
 go_step
 go_wp2
 refine bodyPost_ret (v := .tuple #[stV s (some ⟨b, 0, none⟩) n cap, hdV h2]) (by simp [results, Tryz.results106, go_sem, k7, k8, stV, hdV]) rfl ⟨(some ⟨b, 0, none⟩), n, cap, by rw [HV.out], ?_, hB⟩
 rw [HV.out]
 exact hG.cut.mono (Nat.zero_le _) (Nat.le_refl _)) : p := h -- 19943d02
theorem ztkB1 {p : Prop} (h : p := by
 intros
 rename_i k
 have kc_ := k.cell
 have kf_ := k.frozen
 refine OpGoes.go fun K hK => ?_
 go_simp
 first | exact hK _ _ ⟨rfl, rfl⟩ | exact hK _ _ rfl) : p := h -- e92ca8c3
theorem ztkB2 {p : Prop} (h : p := by
 clear hq2
 intro σ W' _ hB k7 k8 hG _
 replace k7 := k7.cell
 replace k8 := k8.cell
 simp only [lexAll]
 go_simp
 go_step
 go_wp2
 refine bodyPost_ret (v := .tuple #[stV q.1 A5 n5 c5, hdV h2]) (by simp [results, Tryz.results106, go_sem, k7, k8, stV, hdV]) rfl ⟨A5, n5, c5, by rw [HV.out], ?_, hB⟩
 rw [HV.out]
 exact hG.cut.mono (Nat.zero_le _) (Nat.le_refl _)) : p := h -- c904b173
theorem ztkB3 {p : Prop} (h : p := by
 clear hw hcl hL hC
 refine OpGoes.go fun K hK => ?_
 go_simp
 exact hK _ _ ⟨rfl, rfl⟩) : p := h -- ee92c020

def fwd (P : Program) (c : Code) (Q : Exit → Act → World → Prop) : Nat → Exit → Act → World → Prop
 | 0 => Exit.noGoto Q
 | n + 1 => fun e a w => match e with
  | .goto l => ∃ rest, findLabel c l = some rest ∧ rest.wp P (fwd P c Q n) a w
  | e => Q e a w
section
variable {P : Program} {c : Code} {Q : Exit → Act → World → Prop} {a : Act} {w : World}
theorem fwd_normal (n : Nat) : fwd P c Q n .normal a w = Q .normal a w := by cases n <;> rfl
theorem fwd_ret (n : Nat) : fwd P c Q n .ret a w = Q .ret a w := by cases n <;> rfl
theorem fwd_exit (n id : Nat) : fwd P c Q n (.exit id) a w = Q (.exit id) a w := by cases n <;> rfl
theorem fwd_runs : ∀ (n : Nat) (d : Code) (a : Act) (w : World), d.wp P (fwd P c Q n) a w → ∀ (b : Frame) (k : List Item) (cs : List Frame), ∃ e a' w', Q e a' w' ∧ Arrives P (lone (b.at a (.code d :: .inScope c :: k)) cs w) b k cs e a' w' := by
 intro n
 induction n with
 | zero =>
  intro d a w h b k cs
  obtain ⟨e, a₁, w₁, hq, harr⟩ := h b (.inScope c :: k) cs
  cases e with
  | normal => exact ⟨.normal, a₁, w₁, hq, Steps.trans harr (.one step_inScope)⟩
  | exit id => exact ⟨.exit id, a₁, w₁, hq, fun k' hk => harr k' (by simp [exitTo, hk])⟩
  | goto l => exact hq.elim
  | ret => exact ⟨_, a₁, w₁, hq, harr⟩
  | panic ch => exact ⟨_, a₁, w₁, hq, harr⟩
  | outgrown => exact ⟨_, a₁, w₁, hq, harr⟩
 | succ n ih =>
  intro d a w h b k cs
  obtain ⟨e, a₁, w₁, hq, harr⟩ := h b (.inScope c :: k) cs
  cases e with
  | normal => exact ⟨.normal, a₁, w₁, hq, Steps.trans harr (.one step_inScope)⟩
  | exit id => exact ⟨.exit id, a₁, w₁, hq, fun k' hk => harr k' (by simp [exitTo, hk])⟩
  | goto l =>
   obtain ⟨rest, hf, hr⟩ := hq
   obtain ⟨e₂, a₂, w₂, hq₂, harr₂⟩ := ih rest a₁ w₁ hr b k cs
   exact ⟨e₂, a₂, w₂, hq₂, .of_steps (harr _ (by simp [gotoIn, hf])) harr₂⟩
  | ret => exact ⟨_, a₁, w₁, hq, harr⟩
  | panic ch => exact ⟨_, a₁, w₁, hq, harr⟩
  | outgrown => exact ⟨_, a₁, w₁, hq, harr⟩
theorem wp_scope_fwd (n : Nat) (h : c.wp P (fwd P c Q n) a w) : (Code.scope c).wp P Q a w := by
 intro b k cs
 obtain ⟨e, a', w', hq, harr⟩ := fwd_runs n c a w h b k cs
 exact ⟨e, a', w', hq, .of_steps (.one step_scope) harr⟩
theorem wp_scope_let (n : Nat) (h : ∀ c', c' = c → c.wp P (fwd P c' Q n) a w) : (Code.scope c).wp P Q a w := wp_scope_fwd n (h c rfl)
theorem fwd_on {c' : Code} {n l : Nat} {rest : Code} (he : c' = c) (hf : findLabel c l = some rest) (h : rest.wp P (fwd P c' Q n) a w) : fwd P c' Q (n + 1) (.goto l) a w := ⟨rest, he ▸ hf, h⟩
end
end Go.Proofs.YthpckpnlohfcbaaGreatDoor
namespace Go.Proofs.YthpckpnlohfcbaaGreatDoor
set_option linter.unusedSimpArgs false
set_option linter.unusedVariables false
open Go.RowKit
set_option linter.unusedVariables false
attribute [local go_sem] OpUpon
attribute [local go_sem ↓] Go.wp_at_zero Go.wp_at_succ
attribute [local go_sem] fwd_ret fwd_normal fwd_exit
def SntT (B : Nat) (a0 a1 a2 a3 a4 a5 : Addr) (w : World) : Prop := B ≤ w.heap.size ∧ Errs B w a0 a1 ∧ (Sent B w 2 a2 ∧ a2 ≠ a0) ∧ (Sent B w 5 a3 ∧ a3 ≠ a0) ∧ (Sent B w 4 a4 ∧ a4 ≠ a0) ∧ (Sent B w 0 a5 ∧ a5 ≠ a0)
theorem SntT.below {B : Nat} {a0 a1 a2 a3 a4 a5 : Addr} {w w' : World} (h : SntT B a0 a1 a2 a3 a4 a5 w) (hb : Below w.heap.size w w') : SntT B a0 a1 a2 a3 a4 a5 w' := by
 obtain ⟨h0, h1, h2, h3, h4, h5⟩ := h
 have k : ∀ j, j < B → w'.heap[j]? = w.heap[j]? := fun j hj => hb.block j (by omega)
 exact ⟨Nat.le_trans h0 hb.size, h1.keep k, ⟨h2.1.keep k, h2.2⟩, ⟨h3.1.keep k, h3.2⟩, ⟨h4.1.keep k, h4.2⟩, ⟨h5.1.keep k, h5.2⟩⟩
def askH (x : Int) (h : Hd) : Hd := if h.ag then { h with at_ := 24 } else if x = -1 then h.rest 3 else { h with ag := true, at_ := 14 }
set_option maxHeartbeats 1000000 in
theorem iasked_any (rh rt : Int) (rc : Bool) (x : Int) (A : Option Addr) (n cap : Nat) (h : Hd) (w : World) : Calls Tryz.prog 126 #[rgV rh rt rc x A n cap, hdV h] w (RetBelow (hdV (askH x h)) w) := by
 obtain ⟨at_, v, r, t, seen, tr, sp, ag, re⟩ := h
 unfold rgV hdV
 dsimp only
 go_enter Tryz.func126, Tryz.ntmps126
 go_upto_region 2 with fail
 refine wp_abs (fun W => Below w.heap.size w W ∧ BoxAt W w.heap.size #[rh, rt, rc, x, .slice A n cap] 79 ∧ BoxAt W (w.heap.size + 1) (dH at_ v r t seen tr sp ag re) 35 ∧ BoxAt W (w.heap.size + 1 + 1) zH 35) ⟨(((Below.refl _ _).alloc (Nat.le_refl _) _).alloc (by simp) _).alloc (by simp; omega) _, ((BoxAt.new _ _ _).alloc _).alloc _, (BoxAt.new' (by simp)).alloc _, BoxAt.new' (by simp)⟩ ?_
 rintro W ⟨hB, hr, hy, hz⟩
 have kr := hr.cell
 have ky := hy.cell
 have fy := hy.frozen
 have kz := hz.cell
 have fz := hz.frozen
 cases ag
 ·
  by_cases hx : x = -1
  ·
   subst hx
   go_wp2_with fail
   clear kr ky fy kz fz hr hy
   refine (irest_any (⟨at_, v, r, t, seen, tr, sp, false, re⟩ : Hd) 3 _).mono ?_
   rintro e w1 ⟨rfl, hb⟩
   replace hz := hz.below hb hz.lt
   replace hB := bstep hB hB.size hb
   clear hb
   have kz := hz.cell
   have fz := hz.frozen
   unfold hdV
   go_wp2
   refine bodyPost_ret (v := hdV (Hd.rest (⟨at_, v, r, t, seen, tr, sp, false, re⟩ : Hd) 3)) (by simp [results, Tryz.results126, go_sem, kz, hdV, Hd.rest, Hd.zero]) rfl ⟨rfl, ?_⟩
   exact Below.setCells (by omega) (eH 0 0 0 0 false 0 false 0 0 sp false 3) 0 hB
  ·
   go_wp2
   refine bodyPost_ret (v := hdV (⟨14, v, r, t, seen, tr, sp, true, re⟩ : Hd)) (by simp [results, Tryz.results126, go_sem, kz, hdV]) rfl ⟨by simp [askH, hx, hdV], ?_⟩
   exact Below.setCells (by omega) (dH 14 v r t seen tr sp true re) 0 (sc (sc hB))
 ·
  go_wp2
  refine bodyPost_ret (v := hdV (⟨24, v, r, t, seen, tr, sp, true, re⟩ : Hd)) (by simp [results, Tryz.results126, go_sem, kz, hdV]) rfl ⟨by simp [askH, hdV], ?_⟩
  exact Below.setCells (by omega) (dH 24 v r t seen tr sp true re) 0 (sc hB)
def tb25V (s : St) (N b n cap Z : Nat) (rg : Rg) (A' : Option Addr) (n' cap' : Nat) (v r t : Int) (seen : Pl) (tr sp : Int) (ag : Bool) (re : Int) (h3 : Hd) : List Sl := [.v (.agg (aS s (some ⟨b, 0, none⟩) n cap)),
 .v (.agg #[rg.h, rg.t, rg.c, rg.x, .slice A' n' cap']),
 .v (.agg (dH 23 v r t seen tr sp ag re)),
 .v (.agg (aH h3)),
 .e fun σ w => BoxAt w (N + 1 + 1) (aS s (some ⟨b, 0, none⟩) n cap) 32,
 .e fun σ w => BoxAt w (N + 1 + 1 + 1) (aH h3) 35]
set_option maxRecDepth 100000 in
set_option maxHeartbeats 8000000 in
theorem ion_any (s : St) (A : Option Addr) (n cap lo hi B : Nat) (a0 a1 a2 a3 a4 a5 : Addr) (at_ v r t : Int) (seen : Pl) (tr sp : Int) (ag : Bool) (re : Int) (w : World) (hs : RgsW lo hi w A n cap s.rs) (hh : hi ≤ w.heap.size) (hok : stOk s = true) (hrb : ringB s r = true) (hE : SntT B a0 a1 a2 a3 a4 a5 w) (ht : 0 ≤ t ∧ t ≤ 1000000) (hat : 19 ≤ at_ ∧ at_ ≤ 24) :
  Calls Tryz.prog 106 #[stV s A n cap, hdV ⟨at_, v, r, t, seen, tr, sp, ag, re⟩] w (RetSH (PH (takeS s ⟨at_, v, r, t, seen, tr, sp, ag, re⟩)) w) := by
 have HOK := Lib.hid hok
 have HRB := Lib.hid hrb
 have HLN := Lib.hid hs.1
 have HNT := Lib.hid (stOk_neat hok)
 have HTA := Lib.hid hat
 obtain ⟨z0, z1, z2⟩ := ringB_at HLN.out hrb
 obtain ⟨t0, t1⟩ := ht
 clear hok hrb hat
 unfold stV hdV
 dsimp only
 go_enter Tryz.func106, Tryz.ntmps106
 go_wp2
 refine wp_scope_let 2 fun cc hcc => ?_
 have HCC := Lib.hid hcc; clear hcc
 go_upto_region 1 with fail
 refine wp_abs (fun W => Below w.heap.size w W ∧ BoxAt W w.heap.size (aS s A n cap) 32 ∧ BoxAt W (w.heap.size + 1) (dH at_ v r t seen tr sp ag re) 35 ∧ BoxAt W (w.heap.size + 1 + 1) zS 32 ∧ BoxAt W (w.heap.size + 1 + 1 + 1) zH 35) ⟨(((((Below.refl _ _).alloc (Nat.le_refl _) _).alloc (by simp) _).alloc (by simp; omega) _).alloc (by simp; omega) _), (((BoxAt.new _ _ _).alloc _).alloc _).alloc _, ((BoxAt.new' (by simp)).alloc _).alloc _, (BoxAt.new' (by simp)).alloc _, BoxAt.new' (by simp)⟩ ?_
 rintro W0 ⟨hB, hx, hy, hz, hw_⟩
 have lw0 := hw_.lt
 have hs0 := hs.below hB hh
 have kx := hx.cell
 have ky := hy.cell
 have fy := hy.frozen
 obtain ⟨b, rg, A', n', cap', rfl, hlb, hbh, hri, c0, c1', c2, c3, c4, hpw⟩ := hs0.at_ z2
 have HAT := Lib.hid (St.at_some (s := s) (z := r) hri)
 have hnum := stOk_nums HOK.out rg (List.mem_of_getElem? hri)
 clear hri
 go_upto_region 2 with fail
 refine wp_abs (fun W => Below w.heap.size w W ∧ BoxAt W w.heap.size (aS s (some ⟨b, 0, none⟩) n cap) 32 ∧ BoxAt W (w.heap.size + 1) (dH at_ v r t seen tr sp ag re) 35 ∧ BoxAt W (w.heap.size + 1 + 1) zS 32 ∧ BoxAt W (w.heap.size + 1 + 1 + 1) zH 35 ∧ BoxAt W W0.heap.size #[rg.h, rg.t, rg.c, rg.x, .slice A' n' cap'] 79) ⟨hB.alloc hB.size _, hx.alloc _, hy.alloc _, hz.alloc _, hw_.alloc _, BoxAt.new _ _ _⟩ ?_
 clear kx ky fy hB hx hy hz hw_ hs0 c0 c1' c2 c3 c4 hpw
 generalize hZe : W0.heap.size = Z at *
 have lN : w.heap.size + 3 < Z := by omega
 clear hZe lw0
 rintro W0 ⟨hB, hx, hy, hz, hw_, hZ⟩
 have lZ := hZ.lt
 have lw2 := hw_.lt
 have hs0 := hs.below hB hh
 have kx := hx.cell
 have ky := hy.cell
 have fy := hy.frozen
 have kZ := hZ.cell
 have hc6 : at_ = 19 ∨ at_ = 20 ∨ at_ = 21 ∨ at_ = 22 ∨ at_ = 23 ∨ at_ = 24 := by have := HTA.out; omega
 clear HTA
 rcases hc6 with rfl | rfl | rfl | rfl | rfl | rfl
 ·
  go_wp2_with fail
  refine wp_goto ?_
  go_simp
  refine fwd_on HCC.out rfl ?_
  by_cases h1 : rg.t ≤ t + 1
  ·
   have HC := Lib.hid h1
   go_upto_region 12 with fail
   have HV := Lib.hid (show PH (takeS s ⟨19, v, r, t, seen, tr, sp, ag, re⟩) = (s, (⟨20, v, r, t, seen, tr, sp, ag, re⟩ : Hd)) by rw [show takeS s ⟨19, v, r, t, seen, tr, sp, ag, re⟩ = take19 s ⟨19, v, r, t, seen, tr, sp, ag, re⟩ from rfl]; unfold PH take19 fin; (try simp only [HAT.out, HC.out, if_true]) <;> rfl)
   refine ret4 w s lo hi (some ⟨b, 0, none⟩) n cap (⟨20, v, r, t, seen, tr, sp, ag, re⟩ : Hd) w.heap.size (w.heap.size + 1) (by kernel_rfl) (by kernel_rfl) (by kernel_rfl) (by kernel_rfl) (by omega) (by omega) ⟨(sc (sc hB)), ((hx.sn).sn), by simpa using ((hy.set 0 (.int .i64 14)).set 0 (.int .i64 20)), ((hz.sn).sn), ((hw_.sn).sn), ((hs0.sr).sr), by simp; omega⟩ ?k0 ?k1 ?k2 ?k3 ?hQ
   case k0 | k1 | k2 | k3 =>
    exact ztkB1
   case hQ =>
    clear kx ky fy kZ hB hx hy hz hw_ hs0 hZ
    generalize hq2 : (⟨20, v, r, t, seen, tr, sp, ag, re⟩ : Hd) = h2 at *
    exact ztkB0
  ·
   have HC := Lib.hid h1
   go_upto_region 12 with fail
   have HV := Lib.hid (show PH (takeS s ⟨19, v, r, t, seen, tr, sp, ag, re⟩) = (s, (⟨14, v, r, t, seen, tr, sp, ag, re⟩ : Hd)) by rw [show takeS s ⟨19, v, r, t, seen, tr, sp, ag, re⟩ = take19 s ⟨19, v, r, t, seen, tr, sp, ag, re⟩ from rfl]; unfold PH take19 fin; (try simp only [HAT.out, HC.out, if_false]) <;> rfl)
   refine ret4 w s lo hi (some ⟨b, 0, none⟩) n cap (⟨14, v, r, t, seen, tr, sp, ag, re⟩ : Hd) w.heap.size (w.heap.size + 1) (by kernel_rfl) (by kernel_rfl) (by kernel_rfl) (by kernel_rfl) (by omega) (by omega) ⟨(sc hB), (hx.sn), by simpa using (hy.set 0 (.int .i64 14)), (hz.sn), (hw_.sn), (hs0.sr), by simp; omega⟩ ?k0 ?k1 ?k2 ?k3 ?hQ
   case k0 | k1 | k2 | k3 =>
    exact ztkB1
   case hQ =>
    clear kx ky fy kZ hB hx hy hz hw_ hs0 hZ
    generalize hq2 : (⟨14, v, r, t, seen, tr, sp, ag, re⟩ : Hd) = h2 at *
    exact ztkB0
 ·
  go_wp2_with fail
  refine wp_goto ?_
  go_simp
  refine fwd_on HCC.out rfl ?_
  go_upto_region 14 with fail
  have HV := Lib.hid (show PH (takeS s ⟨20, v, r, t, seen, tr, sp, ag, re⟩) = (s, (⟨21, v, r, t, seen, rg.h, sp, ag, re⟩ : Hd)) by rw [show takeS s ⟨20, v, r, t, seen, tr, sp, ag, re⟩ = take20 s ⟨20, v, r, t, seen, tr, sp, ag, re⟩ from rfl]; unfold PH take20 fin; (try simp only [HAT.out]) <;> rfl)
  refine ret4 w s lo hi (some ⟨b, 0, none⟩) n cap (⟨21, v, r, t, seen, rg.h, sp, ag, re⟩ : Hd) w.heap.size (w.heap.size + 1) (by kernel_rfl) (by kernel_rfl) (by kernel_rfl) (by kernel_rfl) (by omega) (by omega) ⟨(sc (sc hB)), ((hx.sn).sn), by simpa using ((hy.set 8 (.int .i64 rg.h)).set 0 (.int .i64 21)), ((hz.sn).sn), ((hw_.sn).sn), ((hs0.sr).sr), by simp; omega⟩ ?k0 ?k1 ?k2 ?k3 ?hQ
  case k0 | k1 | k2 | k3 =>
   exact ztkB1
  case hQ =>
   clear kx ky fy kZ hB hx hy hz hw_ hs0 hZ
   generalize hq2 : (⟨21, v, r, t, seen, rg.h, sp, ag, re⟩ : Hd) = h2 at *
   exact ztkB0
 ·
  go_wp2_with fail
  refine wp_goto ?_
  go_simp
  refine fwd_on HCC.out rfl ?_
  cases hc0 : rg.c
  ·
   rw [hc0] at kZ
   by_cases h1 : tr ≤ rg.t
   ·
    have HC := Lib.hid (show (rg.c || decide (tr ≤ rg.t)) = true by simp [h1])
    go_upto_region 17 with fail
    have HV := Lib.hid (show PH (takeS s ⟨21, v, r, t, seen, tr, sp, ag, re⟩) = (s, (⟨23, v, r, t, seen, tr, sp, ag, re⟩ : Hd)) by rw [show takeS s ⟨21, v, r, t, seen, tr, sp, ag, re⟩ = take21 s ⟨21, v, r, t, seen, tr, sp, ag, re⟩ from rfl]; unfold PH take21; (try simp only [HAT.out, HC.out, if_true]) <;> rfl)
    refine ret4 w s lo hi (some ⟨b, 0, none⟩) n cap (⟨23, v, r, t, seen, tr, sp, ag, re⟩ : Hd) w.heap.size (w.heap.size + 1) (by kernel_rfl) (by kernel_rfl) (by kernel_rfl) (by kernel_rfl) (by omega) (by omega) ⟨(sc hB), (hx.sn), by simpa using (hy.set 0 (.int .i64 23)), (hz.sn), (hw_.sn), (hs0.sr), by simp; omega⟩ ?k0 ?k1 ?k2 ?k3 ?hQ
    case k0 | k1 | k2 | k3 =>
     exact ztkB1
    case hQ =>
     clear kx ky fy kZ hB hx hy hz hw_ hs0 hZ
     generalize hq2 : (⟨23, v, r, t, seen, tr, sp, ag, re⟩ : Hd) = h2 at *
     exact ztkB0
   ·
    have HC := Lib.hid (show (rg.c || decide (tr ≤ rg.t)) = false by simp [h1, hc0])
    go_upto_region 19 with fail
    have HV := Lib.hid (show PH (takeS s ⟨21, v, r, t, seen, tr, sp, ag, re⟩) = (s, (⟨22, v, r, rg.t, seen, tr, sp, ag, re⟩ : Hd)) by rw [show takeS s ⟨21, v, r, t, seen, tr, sp, ag, re⟩ = take21 s ⟨21, v, r, t, seen, tr, sp, ag, re⟩ from rfl]; unfold PH take21; (try simp only [HAT.out, HC.out, Bool.false_eq_true, if_false]) <;> rfl)
    refine ret4 w s lo hi (some ⟨b, 0, none⟩) n cap (⟨22, v, r, rg.t, seen, tr, sp, ag, re⟩ : Hd) w.heap.size (w.heap.size + 1) (by kernel_rfl) (by kernel_rfl) (by kernel_rfl) (by kernel_rfl) (by omega) (by omega) ⟨(sc (sc hB)), ((hx.sn).sn), by simpa using ((hy.set 3 (.int .i64 rg.t)).set 0 (.int .i64 22)), ((hz.sn).sn), ((hw_.sn).sn), ((hs0.sr).sr), by simp; omega⟩ ?k0 ?k1 ?k2 ?k3 ?hQ
    case k0 | k1 | k2 | k3 =>
     exact ztkB1
    case hQ =>
     clear kx ky fy kZ hB hx hy hz hw_ hs0 hZ
     generalize hq2 : (⟨22, v, r, rg.t, seen, tr, sp, ag, re⟩ : Hd) = h2 at *
     exact ztkB0
  ·
   rw [hc0] at kZ
   have HC := Lib.hid (show (rg.c || decide (tr ≤ rg.t)) = true by simp [hc0])
   go_upto_region 17 with fail
   have HV := Lib.hid (show PH (takeS s ⟨21, v, r, t, seen, tr, sp, ag, re⟩) = (s, (⟨23, v, r, t, seen, tr, sp, ag, re⟩ : Hd)) by rw [show takeS s ⟨21, v, r, t, seen, tr, sp, ag, re⟩ = take21 s ⟨21, v, r, t, seen, tr, sp, ag, re⟩ from rfl]; unfold PH take21; (try simp only [HAT.out, HC.out, if_true]) <;> rfl)
   refine ret4 w s lo hi (some ⟨b, 0, none⟩) n cap (⟨23, v, r, t, seen, tr, sp, ag, re⟩ : Hd) w.heap.size (w.heap.size + 1) (by kernel_rfl) (by kernel_rfl) (by kernel_rfl) (by kernel_rfl) (by omega) (by omega) ⟨(sc hB), (hx.sn), by simpa using (hy.set 0 (.int .i64 23)), (hz.sn), (hw_.sn), (hs0.sr), by simp; omega⟩ ?k0 ?k1 ?k2 ?k3 ?hQ
   case k0 | k1 | k2 | k3 =>
    exact ztkB1
   case hQ =>
    clear kx ky fy kZ hB hx hy hz hw_ hs0 hZ
    generalize hq2 : (⟨23, v, r, t, seen, tr, sp, ag, re⟩ : Hd) = h2 at *
    exact ztkB0
 ·
  go_wp2_with fail
  refine wp_goto ?_
  go_simp
  refine fwd_on HCC.out rfl ?_
  go_upto_region 21 with fail
  refine wp_abs (fun W => Below w.heap.size w W ∧ BoxAt W w.heap.size (aS s (some ⟨b, 0, none⟩) n cap) 32 ∧ BoxAt W (w.heap.size + 1) (dH 20 v r t seen tr sp ag re) 35 ∧ BoxAt W (w.heap.size + 1 + 1) zS 32 ∧ BoxAt W (w.heap.size + 1 + 1 + 1) zH 35 ∧ BoxAt W Z #[rg.h, rg.t, rg.c, rg.x, .slice A' n' cap'] 79) ⟨sc hB, hx.sn, by simpa using hy.set 0 (.int .i64 20), hz.sn, hw_.sn, hZ.sn⟩ ?_
  clear kx ky fy kZ hB hx hy hz hw_ hs0 hZ lZ lw2
  rintro W0 ⟨hB, hx, hy, hz, hw_, hZ⟩
  have lZ := hZ.lt
  have lw2 := hw_.lt
  have hs0 := hs.below hB hh
  have kx := hx.cell
  have ky := hy.cell
  have fy := hy.frozen
  have kZ := hZ.cell
  obtain ⟨e0, e1, ⟨e2, n2_⟩, ⟨e3, n3_⟩, ⟨e4, n4_⟩, e5, n5_⟩ := hE.below hB
  go_wp2_with fail
  clear kx ky fy kZ hZ
  refine (iraise_any s (some ⟨b, 0, none⟩) n cap lo hi B a0 a1 a2 a5 a4 r t tr _ hs0 (Nat.le_trans hh hB.size) e0 e1 e2 n2_ e5 n5_ e4 n4_ (by have := HNT.out.2.1; have := HLN.out; omega) HNT.out.len).mono ?_
  rintro e w1 ⟨A5, n5, c5, rfl, hG5, hb5⟩
  replace hG5 := hG5.toW
  replace hx := hx.below hb5 hx.lt
  replace hy := hy.below hb5 hy.lt
  replace hz := hz.below hb5 hz.lt
  replace hw_ := hw_.below hb5 hw_.lt
  have h5 := hb5.size
  have l5 : w.heap.size + 4 ≤ W0.heap.size := by omega
  replace hB := bstep hB hB.size hb5
  clear hb5 e0 e1 e2 e3 e4 e5
  generalize hq5 : raiseTail s r t tr = q at *
  have HQ5 := Lib.hid hq5; clear hq5
  unfold stV
  have kx := hx.cell
  have fx := hx.frozen
  have ky := hy.cell
  have fy := hy.frozen
  cases hq2 : q.2
  ·
   have HQ2 := Lib.hid hq2; clear hq2
   go_upto_region 24 with fail
   have HV := Lib.hid (show PH (takeS s ⟨22, v, r, t, seen, tr, sp, ag, re⟩) = (q.1, (⟨20, v, r, t, seen, tr, sp, ag, re⟩ : Hd)) by rw [show takeS s ⟨22, v, r, t, seen, tr, sp, ag, re⟩ = take22 s ⟨22, v, r, t, seen, tr, sp, ag, re⟩ from rfl]; unfold PH take22; (try simp only [HQ5.out, HQ2.out]) <;> rfl)
   refine ret4 w q.1 W0.heap.size w1.heap.size A5 n5 c5 (⟨20, v, r, t, seen, tr, sp, ag, re⟩ : Hd) w.heap.size (w.heap.size + 1) (by kernel_rfl) (by kernel_rfl) (by kernel_rfl) (by kernel_rfl) (by omega) (by omega) ⟨((sc (sc (sc (sc (sc hB)))))), (sets_all (us := (aS q.1 A5 n5 c5)) hx rfl), by simpa using ((((((hy.sn).sn).sn).sn).sn)), ((((((hz.sn).sn).sn).sn).sn)), ((((((hw_.sn).sn).sn).sn).sn)), ((((((hG5.sl).sl).sl).sl).sl)), by simp⟩ ?k0 ?k1 ?k2 ?k3 ?hQ
   case k0 | k1 | k2 | k3 =>
    exact ztkB1
   case hQ =>
    clear kx fx ky fy hB hx hy hz hw_ hs0 hG5
    generalize hq2 : (⟨20, v, r, t, seen, tr, sp, ag, re⟩ : Hd) = h2 at *
    exact ztkB2
  ·
   have HQ2 := Lib.hid hq2; clear hq2
   go_upto_region 24 with fail
   have HV := Lib.hid (show PH (takeS s ⟨22, v, r, t, seen, tr, sp, ag, re⟩) = (q.1, (⟨23, v, r, t, seen, tr, sp, ag, re⟩ : Hd)) by rw [show takeS s ⟨22, v, r, t, seen, tr, sp, ag, re⟩ = take22 s ⟨22, v, r, t, seen, tr, sp, ag, re⟩ from rfl]; unfold PH take22; (try simp only [HQ5.out, HQ2.out]) <;> rfl)
   refine ret4 w q.1 W0.heap.size w1.heap.size A5 n5 c5 (⟨23, v, r, t, seen, tr, sp, ag, re⟩ : Hd) w.heap.size (w.heap.size + 1) (by kernel_rfl) (by kernel_rfl) (by kernel_rfl) (by kernel_rfl) (by omega) (by omega) ⟨(sc ((sc (sc (sc (sc (sc hB))))))), ((sets_all (us := (aS q.1 A5 n5 c5)) hx rfl).sn), by simpa using (((((((hy.sn).sn).sn).sn).sn)).set 0 (.int .i64 23)), (((((((hz.sn).sn).sn).sn).sn)).sn), (((((((hw_.sn).sn).sn).sn).sn)).sn), (((((((hG5.sl).sl).sl).sl).sl)).sl), by simp⟩ ?k0 ?k1 ?k2 ?k3 ?hQ
   case k0 | k1 | k2 | k3 =>
    exact ztkB1
   case hQ =>
    clear kx fx ky fy hB hx hy hz hw_ hs0 hG5
    generalize hq2 : (⟨23, v, r, t, seen, tr, sp, ag, re⟩ : Hd) = h2 at *
    exact ztkB2
 ·
  go_wp2_with fail
  refine wp_goto ?_
  go_simp
  refine fwd_on HCC.out rfl ?_
  have hx1 := hnum.2.2.1
  obtain ⟨h3, hh3⟩ : ∃ h3, askH rg.x ⟨23, v, r, t, seen, tr, sp, ag, re⟩ = h3 := ⟨_, rfl⟩
  have HASK := Lib.hid (show ∀ W : World, Calls Tryz.prog 126 #[rgV rg.h rg.t rg.c rg.x A' n' cap', hdV ⟨23, v, r, t, seen, tr, sp, ag, re⟩] W (RetBelow (hdV h3) W) from fun W => hh3 ▸ iasked_any rg.h rg.t rg.c rg.x A' n' cap' ⟨23, v, r, t, seen, tr, sp, ag, re⟩ W)
  have HV := Lib.hid (show PH (takeS s ⟨23, v, r, t, seen, tr, sp, ag, re⟩) = (s, h3) by
   rw [show takeS s ⟨23, v, r, t, seen, tr, sp, ag, re⟩ = take23 s ⟨23, v, r, t, seen, tr, sp, ag, re⟩ from rfl, ← hh3]
   unfold PH take23 askH
   dsimp only
   rw [HAT.out]
   cases ag
   ·
    by_cases h0 : rg.x = -1
    · rw [if_neg (by decide), if_pos (show rg.x < 0 by omega), if_neg (by decide), if_pos h0]
    · rw [if_neg (by decide), if_neg (show ¬ rg.x < 0 by omega), if_neg (by decide), if_neg h0]
   · rfl)
  clear hh3 kx ky fy kZ
  unfold rgV hdV at HASK
  obtain ⟨M, hMe⟩ : ∃ M, M = W0.heap.size := ⟨_, rfl⟩
  have hM : M ≤ W0.heap.size := by omega
  have hhM : hi ≤ M := by omega
  clear hMe
  go_upto_region 25 with fail
  refine wp_region2v (fun w w' => Below w.heap.size w w') (fun _ _ h => h.size) (fun _ => Below.refl _ _) (fun L W' => Below w.heap.size w W' ∧ BoxAt W' w.heap.size (aS s (some ⟨b, 0, none⟩) n cap) 32 ∧ BoxAt W' (w.heap.size + 1) (dH 23 v r t seen tr sp ag re) 35 ∧ BoxAt W' Z #[rg.h, rg.t, rg.c, rg.x, .slice A' n' cap'] 79 ∧ RgsW lo hi W' (some ⟨b, 0, none⟩) n cap s.rs ∧ M ≤ W'.heap.size ∧ (∃ x0 x1 x2 x3 x4, BoxAt W' (w.heap.size + 1 + 1) #[x0, x1, x2, x3, x4] 32) ∧ (L 4 = false → BoxAt W' (w.heap.size + 1 + 1) zS 32) ∧ (∃ x0 x1 x2 x3 x4 x5 x6 x7 x8 x9 x10 x11, BoxAt W' (w.heap.size + 1 + 1 + 1) #[x0, x1, x2, x3, x4, x5, x6, x7, x8, x9, x10, x11] 35) ∧ (L 5 = false → BoxAt W' (w.heap.size + 1 + 1 + 1) zH 35)) (tb25V s w.heap.size b n cap Z rg A' n' cap' v r t seen tr sp ag re h3) (fun j => [0, 0, 0, 0, 1, 1].getD j 0) [] (by kernel_rfl) (by kernel_rfl) ?_ ?_ ?_
   (.still rfl ?a0 <| .still rfl ?a1 <| .still rfl ?a2 <| .grow rfl ?a3 <| .store rfl ?a4 <| .store rfl ?a5 <| .nil) ?_ ?_
  · exact ⟨fun _ _ _ _ h => h, fun _ _ _ _ h => h, trivial⟩
  · exact ⟨fun σ w w' hb hR => hR.below hb hR.lt, fun σ w w' hb hR => hR.below hb hR.lt, trivial⟩
  · exact ⟨hB.drew, hx, hy, hZ, hs0, hM, ⟨_, _, _, _, _, hz⟩, fun _ => hz, ⟨_, _, _, _, _, _, _, _, _, _, _, _, hw_⟩, fun _ => hw_⟩
  case a0 =>
   go_light
   intro L σ W' hcl hL hC hw
   have ks := hC.2.1.cell
   exact ztkB3
  case a1 =>
   go_light
   intro L σ W' hcl hL hC hw
   have kZ := hC.2.2.2.1.cell
   exact ztkB3
  case a2 =>
   go_light
   intro L σ W' hcl hL hC hw
   have kh := hC.2.2.1.cell
   exact ztkB3
  case a3 =>
   go_light
   intro L σ W' hcl hL hC hw
   have e1 := wV hw 1 rfl
   have e2 := wV hw 2 rfl
   clear hw
   have HC := Lib.hid hC
   clear hC
   clear hcl hL
   refine OpGoes.go fun K hK => ?_
   go_simp
   obtain ⟨hB, hx, hy, hZ, hs0, hM, ⟨_, _, _, _, _, hz⟩, hz_o, ⟨_, _, _, _, _, _, _, _, _, _, _, _, hw_⟩, hw__o⟩ := HC.out
   refine (HASK.out _).mono ?_
   rintro e w1 ⟨rfl, hb1⟩
   exact ⟨_, rfl, hK _ _ ⟨⟨bstep hB hB.size hb1, hx.below hb1 hx.lt, hy.below hb1 hy.lt, hZ.below hb1 hZ.lt, hs0.below hb1 (Nat.le_trans hhM hM), Nat.le_trans hM hb1.size, ⟨_, _, _, _, _, hz.below hb1 hz.lt⟩, fun h => (hz_o (by simpa [upd] using h)).below hb1 (hz_o (by simpa [upd] using h)).lt, ⟨_, _, _, _, _, _, _, _, _, _, _, _, hw_.below hb1 hw_.lt⟩, fun h => (hw__o (by simpa [upd] using h)).below hb1 (hw__o (by simpa [upd] using h)).lt⟩, rfl, hb1⟩⟩
  case a4 =>
   go_light
   intro L σ W' hcl hL hC hw hne
   have e0 := wV hw 0 rfl
   clear hw hne
   have HC := Lib.hid hC
   obtain ⟨hB, hx, hy, hZ, hs0, hM, ⟨_, _, _, _, _, hz⟩, hz_o, ⟨_, _, _, _, _, _, _, _, _, _, _, _, hw_⟩, hw__o⟩ := hC
   clear hcl hL
   have kc_ := hz.cell
   have kf_ := hz.frozen
   clear hB hx hy hZ hs0 hM hz hz_o hw_ hw__o
   refine OpGoes.go fun K hK => ?_
   go_simp
   obtain ⟨hB, hx, hy, hZ, hs0, hM, ⟨_, _, _, _, _, hz⟩, hz_o, ⟨_, _, _, _, _, _, _, _, _, _, _, _, hw_⟩, hw__o⟩ := HC.out
   have hset := sets_all (us := (aS s (some ⟨b, 0, none⟩) n cap)) hz rfl
   refine hK undef (setCells W' (w.heap.size + 1 + 1) 0 (aS s (some ⟨b, 0, none⟩) n cap)) ⟨⟨(Below.setCells (by omega) _ 0 hB), (BoxAt.sets_ne _ 0 hx (by omega)), (BoxAt.sets_ne _ 0 hy (by omega)), (BoxAt.sets_ne _ 0 hZ (by omega)), (RgsW.sts hs0 (by omega) _ 0), (size_sts hM _ 0), ⟨_, _, _, _, _, hset⟩, fun h => absurd h (by simp [upd]), ⟨_, _, _, _, _, _, _, _, _, _, _, _, (BoxAt.sets_ne _ 0 hw_ (by omega))⟩, fun h => (BoxAt.sets_ne _ 0 (hw__o (by simpa [upd] using h)) (by omega))⟩, hset, Nat.le_of_eq (sets_size _ _ _).symm, keepV ?_⟩
   exact ⟨fun h => absurd rfl h, fun _ _ hR => (BoxAt.sets_ne _ 0 hR (by omega)), trivial⟩
  case a5 =>
   go_light
   intro L σ W' hcl hL hC hw hne
   have e3 := wV hw 3 rfl
   clear hw hne
   have HC := Lib.hid hC
   obtain ⟨hB, hx, hy, hZ, hs0, hM, ⟨_, _, _, _, _, hz⟩, hz_o, ⟨_, _, _, _, _, _, _, _, _, _, _, _, hw_⟩, hw__o⟩ := hC
   clear hcl hL
   have kc_ := hw_.cell
   have kf_ := hw_.frozen
   clear hB hx hy hZ hs0 hM hz hz_o hw_ hw__o
   refine OpGoes.go fun K hK => ?_
   go_simp
   obtain ⟨hB, hx, hy, hZ, hs0, hM, ⟨_, _, _, _, _, hz⟩, hz_o, ⟨_, _, _, _, _, _, _, _, _, _, _, _, hw_⟩, hw__o⟩ := HC.out
   have hset := sets_all (us := (aH h3)) hw_ rfl
   refine hK undef (setCells W' (w.heap.size + 1 + 1 + 1) 0 (aH h3)) ⟨⟨(Below.setCells (by omega) _ 0 hB), (BoxAt.sets_ne _ 0 hx (by omega)), (BoxAt.sets_ne _ 0 hy (by omega)), (BoxAt.sets_ne _ 0 hZ (by omega)), (RgsW.sts hs0 (by omega) _ 0), (size_sts hM _ 0), ⟨_, _, _, _, _, (BoxAt.sets_ne _ 0 hz (by omega))⟩, fun h => (BoxAt.sets_ne _ 0 (hz_o (by simpa [upd] using h)) (by omega)), ⟨_, _, _, _, _, _, _, _, _, _, _, _, hset⟩, fun h => absurd h (by simp [upd])⟩, hset, Nat.le_of_eq (sets_size _ _ _).symm, keepV ?_⟩
   exact ⟨fun _ _ hR => (BoxAt.sets_ne _ 0 hR (by omega)), fun h => absurd rfl h, trivial⟩
  ·
   intro L L' W' hLL hC
   obtain ⟨hB, hx, hy, hZ, hs0, hM, ⟨_, _, _, _, _, hz⟩, hz_o, ⟨_, _, _, _, _, _, _, _, _, _, _, _, hw_⟩, hw__o⟩ := hC
   exact ⟨hB, hx, hy, hZ, hs0, hM, ⟨_, _, _, _, _, hz⟩, fun h => hz_o (hLL _ h), ⟨_, _, _, _, _, _, _, _, _, _, _, _, hw_⟩, fun h => hw__o (hLL _ h)⟩
  ·
   intro σ L W' hall hC hRR
   obtain ⟨hB, hx, hy, hZ, hs0, hM, ⟨_, _, _, _, _, hz⟩, hz_o, ⟨_, _, _, _, _, _, _, _, _, _, _, _, hw_⟩, hw__o⟩ := hC
   have s4 := dE hRR 4 rfl
   have s5 := dE hRR 5 rfl
   clear hRR
   simp only [lexAll]
   go_simp
   replace s4 := s4.cell
   replace s5 := s5.cell
   go_step
   go_wp2
   refine bodyPost_ret (v := .tuple #[stV s (some ⟨b, 0, none⟩) n cap, hdV h3]) (by simp [results, Tryz.results106, go_sem, s4, s5, stV, hdV]) rfl ⟨some ⟨b, 0, none⟩, n, cap, by rw [HV.out], ?_, hB⟩
   rw [HV.out]
   exact hs0.cut.mono (Nat.zero_le _) (Nat.le_refl _)
 ·
  go_wp2_with fail
  refine wp_goto ?_
  go_simp
  refine fwd_on HCC.out rfl ?_
  obtain ⟨e0, e1, ⟨e2, n2_⟩, ⟨e3, n3_⟩, ⟨e4, n4_⟩, e5, n5_⟩ := hE.below hB
  go_wp2_with fail
  clear kx ky fy kZ hZ
  refine (iswing_any s (some ⟨b, 0, none⟩) n cap lo hi B a0 a1 a4 false r rg.x _ hs0 (Nat.le_trans hh hB.size) e0 e1 e4 n4_ (by have := HNT.out.2.1; have := HLN.out; omega) HNT.out.len).mono ?_
  rintro e w1 ⟨A5, n5, c5, rfl, hG5, hb5⟩
  replace hG5 := hG5.toW
  replace hx := hx.below hb5 hx.lt
  replace hy := hy.below hb5 hy.lt
  replace hz := hz.below hb5 hz.lt
  replace hw_ := hw_.below hb5 hw_.lt
  have h5 := hb5.size
  have l5 : w.heap.size + 4 ≤ W0.heap.size := by omega
  replace hB := bstep hB hB.size hb5
  clear hb5 e0 e1 e2 e3 e4 e5
  generalize hq5 : swing s false r rg.x = q at *
  have HQ5 := Lib.hid hq5; clear hq5
  unfold stV
  have kx := hx.cell
  have fx := hx.frozen
  have ky := hy.cell
  have fy := hy.frozen
  go_upto_region 28 with fail
  have HV := Lib.hid (show PH (takeS s ⟨24, v, r, t, seen, tr, sp, ag, re⟩) = (q.1, (⟨13, v, r, t, seen, tr, sp, false, re⟩ : Hd)) by rw [show takeS s ⟨24, v, r, t, seen, tr, sp, ag, re⟩ = take24 s ⟨24, v, r, t, seen, tr, sp, ag, re⟩ from rfl]; unfold PH take24; (try simp only [HAT.out, HQ5.out]) <;> rfl)
  refine ret4 w q.1 W0.heap.size w1.heap.size A5 n5 c5 (⟨13, v, r, t, seen, tr, sp, false, re⟩ : Hd) w.heap.size (w.heap.size + 1) (by kernel_rfl) (by kernel_rfl) (by kernel_rfl) (by kernel_rfl) (by omega) (by omega) ⟨(sc (sc ((sc (sc (sc (sc (sc hB)))))))), (((sets_all (us := (aS q.1 A5 n5 c5)) hx rfl).sn).sn), by simpa using ((((((((hy.sn).sn).sn).sn).sn)).set 10 (.bool false)).set 0 (.int .i64 13)), ((((((((hz.sn).sn).sn).sn).sn)).sn).sn), ((((((((hw_.sn).sn).sn).sn).sn)).sn).sn), ((((((((hG5.sl).sl).sl).sl).sl)).sl).sl), by simp⟩ ?k0 ?k1 ?k2 ?k3 ?hQ
  case k0 | k1 | k2 | k3 =>
   exact ztkB1
  case hQ =>
   clear kx fx ky fy hB hx hy hz hw_ hs0 hG5
   generalize hq2 : (⟨13, v, r, t, seen, tr, sp, false, re⟩ : Hd) = h2 at *
   exact ztkB2
end Go.Proofs.YthpckpnlohfcbaaGreatDoor

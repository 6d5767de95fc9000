/-
 TakeTicket and PutTicket of the program.
-/
import Derived.Test.YthpckpnlohfcbaaGreatDoorCloA
namespace Go.Proofs.YthpckpnlohfcbaaGreatDoor
set_option linter.unusedSimpArgs false
set_option linter.unusedVariables false
open Go.RowKit
set_option linter.unusedVariables false
attribute [local go_sem] OpUpon
attribute [local go_sem ↓] Go.wp_at_zero Go.wp_at_succ
theorem zticB0 {p : Prop} (h : p := by
 clear hw hcl hL hC
 refine OpGoes.go fun K hK => ?_
 go_simp
 exact hK _ _ ⟨rfl, rfl⟩) : p := h -- ee92c020
theorem zticB1 {p : Prop} (h : p := by
 rintro e w1 ⟨A', n', c', rfl, hR1, hk1, hbt⟩
 have hbt2 := hbt.size
 refine ⟨_, rfl, hK _ _ ⟨⟨hB.trans (hbt.below (by omega) (by omega)), by omega, hbt.box hx (by omega), hbt.box hF (by omega), hbt.box hz (by omega), fun h => absurd h (by simp [upd])⟩, ⟨A', n', c', rfl, ⟨_, Nat.le_refl _, hR1.mono (by omega) (Nat.le_refl _)⟩, hk1⟩, hbt2, fun j hj hn hR => ?_⟩⟩
 refine keepV ?_ j hj hn hR
 exact ⟨fun _ _ ⟨k, e, hp⟩ => ⟨k, e, hp.but hbt (by omega)⟩, fun h => absurd rfl h, fun _ h => absurd (h.symm.trans (show waits _ _ _ = true by kernel_rfl)) (by decide), fun _ _ ⟨A', n', c', e, hp⟩ => ⟨A', n', c', e, hp.but hbt (by omega) hk1⟩, fun _ _ ⟨g, e, hg, x0, x1, x2, x3, x4, hx⟩ => ⟨g, e, hg, x0, x1, x2, x3, x4, hbt.box hx (by omega)⟩, fun _ _ ⟨g, A'_x, n'_x, c'_x, e, hg, hx, hp⟩ => ⟨g, A'_x, n'_x, c'_x, e, hg, hbt.box hx (by omega), hp.but hbt (by omega) hk1⟩, trivial⟩) : p := h -- a048a3b3
theorem zticB2 {p : Prop} (h : p := by
 go_light
 intro L σ W' hcl hL hC hw
 have e1 := wV hw 1 rfl
 have e2 := wV hw 2 rfl
 clear hw
 have HC := Lib.hid hC
 clear hC
 clear hcl hL
 refine OpGoes.go fun K hK => ?_
 go_simp
 obtain ⟨hB, hsz, hx, hF, hz, hT⟩ := HC.out
 refine (ionRing_any z 169 [pT (N + 1), pT (N + 3)] _).mono ?_
 rintro e w1 ⟨rfl, hk1, hk2, hk3, hb1⟩
 exact ⟨_, rfl, hK _ _ ⟨⟨bstep hB (Nat.le_trans hNw hB.size) hb1, Nat.le_trans hsz hb1.size, hx.below hb1 hx.lt, hF.below hb1 hF.lt, hz.below hb1 hz.lt, fun h => (hT (by simpa [upd] using h)).below hb1 (hT (by simpa [upd] using h)).lt⟩, ⟨_, rfl, hk1, hk2, hsz⟩, hb1⟩⟩) : p := h -- 83fd7494
theorem zticB3 {p : Prop} (h : p := by
 go_light
 intro L σ W' hcl hL hC hw
 clear hw
 have HC := Lib.hid hC
 clear hC
 clear hcl hL
 refine OpGoes.go fun K hK => ?_
 go_simp
 obtain ⟨hB, hsz, hx, hF, hz, hT⟩ := HC.out
 have hb1 : Below W'.heap.size W' (W'.alloc (.cells zS 32)) := (Below.refl _ _).alloc (Nat.le_refl _) _
 exact hK _ _ ⟨⟨bstep hB (Nat.le_trans hNw hB.size) hb1, Nat.le_trans hsz hb1.size, hx.below hb1 hx.lt, hF.below hb1 hF.lt, hz.below hb1 hz.lt, fun h => (hT (by simpa [upd] using h)).below hb1 (hT (by simpa [upd] using h)).lt⟩, ⟨_, rfl, hsz, _, _, _, _, _, BoxAt.new _ _ _⟩, hb1, rfl, by simp⟩) : p := h -- 1b92dd36
theorem zticB4 {p : Prop} (h : p := by
 exact ⟨fun _ _ ⟨k_x, e, hp⟩ => ⟨k_x, e, (OnR.setsT hp hbox8 _ 0)⟩, fun _ _ ⟨A'_x, n'_x, c'_x, e, hp⟩ => ⟨A'_x, n'_x, c'_x, e, (TkF.setsT hp hbox8 (by omega) _ 0)⟩, fun _ _ ⟨A'_x, n'_x, c'_x, e, hp⟩ => ⟨A'_x, n'_x, c'_x, e, (TkF.setsT hp hbox8 (by omega) _ 0)⟩, fun _ _ ⟨A'_x, n'_x, c'_x, e, hp⟩ => ⟨A'_x, n'_x, c'_x, e, (TkF.setsT hp hbox8 (by omega) _ 0)⟩, fun _ _ _ => ⟨g8, e8, hg8, _, _, _, _, _, hset⟩, fun h => absurd rfl h, trivial⟩) : p := h -- cd3da23f
theorem zticB5 {p : Prop} (h : p := by
 obtain ⟨hi', hl', hd'⟩ := hTk.1
 refine ⟨A', n', c', by rw [HV.out, HQ.out]; rfl, ?_, ((sc (sc (sc (sc (sc hB)))))).mono hN1⟩
 rw [HV.out]
 exact ((((((hd'.setD (.inl (by omega)) _ _).setD (.inl (by omega)) _ _).setD (.inl (by omega)) _ _).setD (.inl (by omega)) _ _).setD (.inl (by omega)) _ _)).mono (by omega) (by simpa using hl')) : p := h -- b14f09d2
theorem zticB6 {p : Prop} (h : p := by
 intro σ L W' hall hC hRR
 obtain ⟨hB, hsz, hx, hF, hz, hT⟩ := hC
 obtain ⟨g8, A', n', c', e8, hg9, s9, hp9⟩ := dE hRR 9 rfl
 have e10 := dV hRR 10 rfl
 clear hRR
 simp only [lexAll]
 go_simp
 go_step
 go_meet
 exact ⟨hB, hsz, hz, g8, A', n', c', rfl, hg9, s9, hp9, rfl⟩) : p := h -- 85071a0f
theorem zticB7 {p : Prop} (h : p := by
 go_light
 intro L σ W' hcl hL hC hw
 obtain ⟨A', n', c', e4, hp4⟩ := wE hw 4 rfl
 clear hw hcl hL hC
 refine OpGoes.go fun K hK => ?_
 go_simp
 exact hK _ _ ⟨rfl, ⟨A', n', c', rfl, hp4⟩⟩) : p := h -- 54eaf37b
theorem zticB8 {p : Prop} (h : p := by
 go_light
 intro L σ W' hcl hL hC hw
 obtain ⟨A', n', c', e5, hp5⟩ := wE hw 5 rfl
 clear hw hcl hL hC
 refine OpGoes.go fun K hK => ?_
 go_simp
 exact hK _ _ ⟨rfl, ⟨A', n', c', rfl, hp5⟩⟩) : p := h -- 84e900c5
theorem zticB9 {p : Prop} (h : p := by
 intro L L' W' hLL hC
 obtain ⟨hB, hgb, hTb, hD, ⟨_, _, _, _, _, hz⟩, hz_o⟩ := hC
 exact ⟨hB, hgb, hTb, hD, ⟨_, _, _, _, _, hz⟩, fun h => hz_o (hLL _ h)⟩) : p := h -- 36990fa5
theorem zticB10 {p : Prop} (h : p := by
 obtain ⟨hi', hl', hd'⟩ := hD.1
 refine ⟨A', n', c', by rw [HV.out, HQ.out, HX.out]; rfl, ?_, hB.mono hN1⟩
 rw [HV.out]
 exact hd'.mono (by omega) hl') : p := h -- 01135da0
theorem zticB11 {p : Prop} (h : p := by
 exact ((((((hR.setD (.inl (by omega)) _ _).setD (.inl (by omega)) _ _).setD (.inl (by omega)) _ _).setD (.inl (by omega)) _ _).setD (.inl (by omega)) _ _)).mono (by omega) (by simp)) : p := h -- 9f956efa
theorem zticB12 {p : Prop} (h : p := by
 intro L L' W' hLL hC
 obtain ⟨hB, hsz, hx, hF, hz, hT⟩ := hC
 exact ⟨hB, hsz, hx, hF, hz, fun h => hT (hLL _ h)⟩) : p := h -- 498110ec

theorem RgsD.setT {lo hi : Nat} {w : World} {A : Option Addr} {n cap : Nat} {L : List Rg} (h : RgsD lo hi w A n cap L) {k : Nat} {cs : Array Value} {t : TypeId} (hk : BoxAt w k cs t) (h1 : t ≠ 79) (h2 : t ≠ 33) (i : Nat) (u : Value) : RgsD lo hi (w.setCell ⟨k, i, none⟩ u) A n cap L :=
 ⟨h.1, fun hn => by
  obtain ⟨b, rows, e, hb, ho, hd⟩ := h.2 hn
  obtain ⟨cb, hbx⟩ := own_box ho
  exact ⟨b, rows, e, hb, Own.set_ne ho (box_ne hbx hk (fun e => h1 e.symm)) _ _, hd.keep fun g _ _ _ hg => Below.heap_setCell w ⟨k, i, none⟩ u g (box_ne hg hk (fun e => h2 e.symm))⟩⟩
def TkF (N T : Nat) (x : Int) (q : St × Bool) (w : World) (A : Option Addr) (n c : Nat) : Prop := (∃ hi, hi ≤ w.heap.size ∧ RgsD N hi w A n c q.1.rs) ∧ (q.2 = true → BoxAt w T #[x] 2)
theorem TkF.below {N T : Nat} {x : Int} {q : St × Bool} {w w' : World} {A : Option Addr} {n c : Nat} (h : TkF N T x q w A n c) (hb : Below w.heap.size w w') : TkF N T x q w' A n c := by
 obtain ⟨⟨hi, hl, hd⟩, hk⟩ := h
 exact ⟨⟨hi, Nat.le_trans hl hb.size, hd.below hb hl⟩, fun e => (hk e).below hb (hk e).lt⟩
theorem TkF.setT {N T : Nat} {x : Int} {q : St × Bool} {w : World} {A : Option Addr} {n c : Nat} (h : TkF N T x q w A n c) {k : Nat} {cs : Array Value} (hk : BoxAt w k cs 32) (hne : T ≠ k) (i : Nat) (u : Value) : TkF N T x q (w.setCell ⟨k, i, none⟩ u) A n c := by
 obtain ⟨⟨hi, hl, hd⟩, ht⟩ := h
 exact ⟨⟨hi, by simpa using hl, hd.setT hk (by decide) (by decide) i u⟩, fun e => (ht e).set_ne hne _ _⟩
theorem TkF.setsT {N T : Nat} {x : Int} {q : St × Bool} {A : Option Addr} {n c : Nat} {k : Nat} {w : World} {cs : Array Value} (h : TkF N T x q w A n c) (hk : BoxAt w k cs 32) (hne : T ≠ k) : ∀ (us : List Value) (o : Nat), TkF N T x q (setCells w k o us) A n c
 | [], _ => h
 | u :: us, o => TkF.setsT (h.setT hk hne o u) (hk.set o u) hne us (o + 1)
theorem TkF.but {N T : Nat} {x : Int} {q : St × Bool} {w w' : World} {A : Option Addr} {n c : Nat} (h : TkF N T x q w A n c) (hb : But T w w') (hT : T < N) (hx : q.2 = true → BoxAt w' T #[x] 2) : TkF N T x q w' A n c := by
 obtain ⟨⟨hi, hl, hd⟩, hk⟩ := h
 exact ⟨⟨hi, Nat.le_trans hl hb.size, hd.keep (fun j h1 h2 => hb.block j (by omega) (by omega))⟩, hx⟩
theorem OnR.setsT {N : Nat} {k : Nat} {z : Int} {f : FuncId} {cs : List Value} {g : Nat} {w : World} {ds : Array Value} (h : OnR N w k z f cs) (hk : BoxAt w g ds 32) : ∀ (us : List Value) (o : Nat), OnR N (setCells w g o us) k z f cs
 | [], _ => h
 | u :: us, o => OnR.setsT ⟨h.1.set_ne (box_ne h.1 hk (by decide)) _ _, h.2.1.set_ne (box_ne h.2.1 hk (by decide)) _ _, h.2.2⟩ (hk.set o u) us (o + 1)
def RetSID (q : St × Int) (w : World) (e : Ending) (w' : World) : Prop :=
 ∃ A n cap, e = .returned (.tuple #[stV q.1 A n cap, q.2]) ∧ RgsD w.heap.size w'.heap.size w' A n cap q.1.rs ∧ Below w.heap.size w w'
theorem itakeF (b o : Nat) (w : World) : Calls Tryz.prog 152 #[.pointer (some ⟨b, o, none⟩)] w (fun e w' => e = .returned (.pointer (some ⟨b, o, none⟩)) ∧ w = w') := by
 go_enter Tryz.func152, Tryz.ntmps152
 go_wp2
 go_ret
 exact ⟨rfl, rfl⟩
set_option maxRecDepth 100000 in
set_option maxHeartbeats 4000000 in
theorem itake1 (s : St) (z : Int) (n F T : Nat) (a0 : Addr) (x : Int) (w : World) (hF0 : BoxAt w F #[.func (.func 152) #[] #[]] 143) (hT0 : BoxAt w T #[.int .i64 (-1)] 2) (hx : x = (s.at z).h) (hnum : ∀ r ∈ s.rs, 0 ≤ r.h ∧ r.h ≤ 1000000) :
  RChanges headC s z n a0 T (fun W => BoxAt W T #[x] 2) 169 [pT F, pT T] w := by
 intro W X b m M r hbb hNM hMX hXW hX hRg hrb hri
 obtain ⟨hMb, hbX, ⟨cb, hbx⟩, d0, d1, d2, d3, df, _⟩ := hRg.ring hri
 obtain rfl : x = r.h := by rw [hx, St.at_some hri]
 have hnr := hnum r (List.mem_of_getElem? hri)
 have HRI := Lib.hid hri
 have HRB := Lib.hid hrb
 have hF1 := hF0.below hbb hF0.lt
 have hT1 := hT0.below hbb hT0.lt
 have lT := hT0.lt
 have lF := hF0.lt
 have hFT : F ≠ T := box_ne hF0 hT0 (by decide)
 unfold sC at hX
 clear hF0 hT0 hri hrb hx hnum
 show Calls Tryz.prog 169 #[.pointer (some ⟨b, z.toNat * 5, none⟩), pT F, pT T] W _
 have kF := hF1.cell
 have kT := hT1.cell
 have fT := hT1.frozen
 go_enter Tryz.func169, Tryz.ntmps169
 go_wp2_with fail
 refine (itakeF b (z.toNat * 5) _).mono ?_
 rintro e w1 ⟨rfl, rfl⟩
 go_upto_region 2 with fail
 refine wp_abs (fun W' => Till M T W W' ∧ BoxAt W' F #[.func (.func 152) #[] #[]] 143 ∧ BoxAt W' T #[r.h] 2 ∧ BoxAt W' X (aS s (some ⟨b, 0, none⟩) n m) 32 ∧ RgsD M X W' (some ⟨b, 0, none⟩) n m s.rs ∧ X < W'.heap.size) ⟨(Till.refl _ _ _).set (.inr rfl) _ _, hF1.set_ne hFT _ _, by simpa using hT1.set 0 (.int .i64 r.h), hX.sn, hRg.setD (.inl (by omega)) _ _, by simpa using hXW⟩ ?_
 clear kF kT fT d0 d1 d2 d3 df hF1 hT1 hX hRg hbx
 rintro W2 ⟨hti, hF1, hT1, hX, hRg, hXW2⟩
 obtain ⟨_, _, ⟨cb2, hbx⟩, d0, d1, d2, d3, df, _⟩ := hRg.ring HRI.out
 have kF := hF1.cell
 go_wp2_with fail
 clear kF
 refine (itakeF b (z.toNat * 5) _).mono ?_
 rintro e w1 ⟨rfl, rfl⟩
 obtain ⟨hr0, hr1⟩ := hnr
 go_wp2
 go_ret
 refine .mkYes (t := { s with rs := s.rs.set z.toNat { r with h := r.h + 1 } }) (by rw [onRingC_yes HRB.out HRI.out]; rfl) (hti.set (.inl hMb) _ _) (hT1.sn) (hX.sn) ?_
 exact (hRg.turn1 (r' := { r with h := r.h + 1 }) (j := 0) HRI.out rfl (by omega) (fun a h1 h2 h3 h4 => by simp [Rw.cs, h2, h3, h4])).mono (Nat.le_refl _) (by simp; omega)
theorem iputF (b o : Nat) (w : World) : Calls Tryz.prog 159 #[.pointer (some ⟨b, o, none⟩)] w (fun e w' => e = .returned (.pointer (some ⟨b, o + 1, none⟩)) ∧ w = w') := by
 go_enter Tryz.func159, Tryz.ntmps159
 go_wp2
 go_ret
 exact ⟨rfl, rfl⟩
set_option maxRecDepth 100000 in
set_option maxHeartbeats 4000000 in
theorem iput1 (s : St) (z : Int) (n F T : Nat) (a0 : Addr) (x : Int) (w : World) (hF0 : BoxAt w F #[.func (.func 159) #[] #[]] 143) (hT0 : BoxAt w T #[.int .i64 (-1)] 2) (hx : x = (s.at z).t) (hnum : ∀ r ∈ s.rs, 0 ≤ r.t ∧ r.t ≤ 1000000) :
  RChanges tailC s z n a0 T (fun W => BoxAt W T #[x] 2) 169 [pT F, pT T] w := by
 intro W X b m M r hbb hNM hMX hXW hX hRg hrb hri
 obtain ⟨hMb, hbX, ⟨cb, hbx⟩, d0, d1, d2, d3, df, _⟩ := hRg.ring hri
 obtain rfl : x = r.t := by rw [hx, St.at_some hri]
 have hnr := hnum r (List.mem_of_getElem? hri)
 have HRI := Lib.hid hri
 have HRB := Lib.hid hrb
 have hF1 := hF0.below hbb hF0.lt
 have hT1 := hT0.below hbb hT0.lt
 have lT := hT0.lt
 have lF := hF0.lt
 have hFT : F ≠ T := box_ne hF0 hT0 (by decide)
 unfold sC at hX
 clear hF0 hT0 hri hrb hx hnum
 show Calls Tryz.prog 169 #[.pointer (some ⟨b, z.toNat * 5, none⟩), pT F, pT T] W _
 have kF := hF1.cell
 have kT := hT1.cell
 have fT := hT1.frozen
 go_enter Tryz.func169, Tryz.ntmps169
 go_wp2_with fail
 refine (iputF b (z.toNat * 5) _).mono ?_
 rintro e w1 ⟨rfl, rfl⟩
 go_upto_region 2 with fail
 refine wp_abs (fun W' => Till M T W W' ∧ BoxAt W' F #[.func (.func 159) #[] #[]] 143 ∧ BoxAt W' T #[r.t] 2 ∧ BoxAt W' X (aS s (some ⟨b, 0, none⟩) n m) 32 ∧ RgsD M X W' (some ⟨b, 0, none⟩) n m s.rs ∧ X < W'.heap.size) ⟨(Till.refl _ _ _).set (.inr rfl) _ _, hF1.set_ne hFT _ _, by simpa using hT1.set 0 (.int .i64 r.t), hX.sn, hRg.setD (.inl (by omega)) _ _, by simpa using hXW⟩ ?_
 clear kF kT fT d0 d1 d2 d3 df hF1 hT1 hX hRg hbx
 rintro W2 ⟨hti, hF1, hT1, hX, hRg, hXW2⟩
 obtain ⟨_, _, ⟨cb2, hbx⟩, d0, d1, d2, d3, df, _⟩ := hRg.ring HRI.out
 have kF := hF1.cell
 go_wp2_with fail
 clear kF
 refine (iputF b (z.toNat * 5) _).mono ?_
 rintro e w1 ⟨rfl, rfl⟩
 obtain ⟨hr0, hr1⟩ := hnr
 go_wp2
 go_ret
 refine .mkYes (t := { s with rs := s.rs.set z.toNat { r with t := r.t + 1 } }) (by rw [onRingC_yes HRB.out HRI.out]; rfl) (hti.set (.inl hMb) _ _) (hT1.sn) (hX.sn) ?_
 exact (hRg.turn1 (r' := { r with t := r.t + 1 }) (j := 1) HRI.out rfl (by omega) (fun a h1 h2 h3 h4 => by simp [Rw.cs, h1, h3, h4])).mono (Nat.le_refl _) (by simp; omega)
end Go.Proofs.YthpckpnlohfcbaaGreatDoor
namespace Go.Proofs.YthpckpnlohfcbaaGreatDoor
set_option linter.unusedSimpArgs false
set_option linter.unusedVariables false
open Go.RowKit
set_option linter.unusedVariables false
attribute [local go_sem] OpUpon
attribute [local go_sem ↓] Go.wp_at_zero Go.wp_at_succ
def tk_takeV (s : St) (A : Option Addr) (n cap N : Nat) (z x : Int) : List Sl := [.v (.agg (aS s A n cap)),
 .v z,
 .v (.func (.func 169) #[] #[pT (N + 1), pT (N + 3)]),
 .e fun σ w => ∃ (k : Nat), σ 3 = .func (.func 167) #[] #[pT k, pT (k + 1)] ∧ OnR (N + 4) w k z 169 [pT (N + 1), pT (N + 3)],
 .e fun σ w => ∃ (A' : Option Addr) (n' c' : Nat), σ 4 = .tuple #[.agg (dS ((done (onRingC z headC) s).1.rd) ((done (onRingC z headC) s).1.mo) A' n' c' ((done (onRingC z headC) s).1.fi) ((done (onRingC z headC) s).1.la)), .bool ((done (onRingC z headC) s).2)] ∧ TkF (N + 4) (N + 3) x (done (onRingC z headC) s) w A' n' c',
 .e fun σ w => ∃ (A' : Option Addr) (n' c' : Nat), σ 5 = .tuple #[.agg (dS ((done (onRingC z headC) s).1.rd) ((done (onRingC z headC) s).1.mo) A' n' c' ((done (onRingC z headC) s).1.fi) ((done (onRingC z headC) s).1.la)), .bool ((done (onRingC z headC) s).2)] ∧ TkF (N + 4) (N + 3) x (done (onRingC z headC) s) w A' n' c',
 .e fun σ w => ∃ (A' : Option Addr) (n' c' : Nat), σ 6 = .agg (dS ((done (onRingC z headC) s).1.rd) ((done (onRingC z headC) s).1.mo) A' n' c' ((done (onRingC z headC) s).1.fi) ((done (onRingC z headC) s).1.la)) ∧ TkF (N + 4) (N + 3) x (done (onRingC z headC) s) w A' n' c',
 .v (.bool ((done (onRingC z headC) s).2)),
 .e fun σ w => ∃ g8, σ 8 = pT g8 ∧ (N + 4) ≤ g8 ∧ ∃ x0 x1 x2 x3 x4, BoxAt w g8 #[x0, x1, x2, x3, x4] 32,
 .e fun σ w => ∃ (g8 : Nat) (A' : Option Addr) (n' c' : Nat), σ 8 = pT g8 ∧ (N + 4) ≤ g8 ∧ BoxAt w g8 (dS ((done (onRingC z headC) s).1.rd) ((done (onRingC z headC) s).1.mo) A' n' c' ((done (onRingC z headC) s).1.fi) ((done (onRingC z headC) s).1.la)) 32 ∧ TkF (N + 4) (N + 3) x (done (onRingC z headC) s) w A' n' c',
 .v (.bool ((done (onRingC z headC) s).2))]
def tr_takeV (s : St) (N g : Nat) (z x : Int) (A' : Option Addr) (n' c' : Nat) : List Sl := [.v (.agg (dS ((done (onRingC z headC) s).1.rd) ((done (onRingC z headC) s).1.mo) A' n' c' ((done (onRingC z headC) s).1.fi) ((done (onRingC z headC) s).1.la))),
 .v x,
 .e fun σ w => BoxAt w (N + 2) (dS ((done (onRingC z headC) s).1.rd) ((done (onRingC z headC) s).1.mo) A' n' c' ((done (onRingC z headC) s).1.fi) ((done (onRingC z headC) s).1.la)) 32,
 .v x]
set_option maxRecDepth 100000 in
set_option maxHeartbeats 4000000 in
theorem iticketOf_take (s : St) (A : Option Addr) (n cap lo hi B : Nat) (a0 a1 a2 : Addr) (z : Int) (w : World) (hs : RgsW lo hi w A n cap s.rs) (hh : hi ≤ w.heap.size) (hBw : B ≤ w.heap.size) (he : Errs B w a0 a1) (hS0 : Sent B w 2 a2) (hN0 : a2 ≠ a0) (hm : n ≤ 1048576) (hpn : ∀ r ∈ s.rs, r.ps.length ≤ 1048576) :
  Calls Tryz.prog 151 #[stV s A n cap, z, .func (.func 152) #[] #[]] w (RetSID (takeTicket s z) w) := by
 have HPN := Lib.hid hpn; clear hpn
 have HLN := Lib.hid hs.1
 have HV := Lib.hid (takeTicket_done s z)
 obtain ⟨x, hx_⟩ : ∃ x, x = (s.at z).h := ⟨_, rfl⟩
 have HX := Lib.hid hx_; clear hx_
 obtain ⟨N, hN⟩ : ∃ N, N = w.heap.size := ⟨_, rfl⟩
 have hN1 : w.heap.size ≤ N := by omega
 have hNw : N ≤ w.heap.size := by omega
 have HN := Lib.hid hN
 have hBN : B ≤ N := by omega
 unfold stV
 go_enter Tryz.func151, Tryz.ntmps151
 go_upto_region 2 with fail
 rw [← HN.out]
 refine wp_abs (fun W => Below N w W ∧ N + 4 ≤ W.heap.size ∧ BoxAt W N (aS s A n cap) 32 ∧ BoxAt W (N + 1) #[.func (.func 152) #[] #[]] 143 ∧ BoxAt W (N + 2) zS 32 ∧ BoxAt W (N + 3) #[.int .i64 (-1)] 2) ⟨(((((Below.refl _ _).alloc hNw _).alloc (by simp; omega) _).alloc (by simp; omega) _).alloc (by simp; omega) _), by simp; omega, ((((BoxAt.new' (by omega)).alloc _).alloc _).alloc _), (((BoxAt.new' (by simp; omega)).alloc _).alloc _), ((BoxAt.new' (by simp; omega)).alloc _), (BoxAt.new' (by simp; omega))⟩ ?_
 clear hN
 rintro W0 ⟨hB, hsz, hx, hF, hz, hT⟩
 go_cut [9, 10] (fun s9 s10 W' => Below N w W' ∧ N + 4 ≤ W'.heap.size ∧ BoxAt W' (N + 2) zS 32 ∧ ∃ g A' n' c', s9 = pT g ∧ N + 4 ≤ g ∧ BoxAt W' g (dS ((done (onRingC z headC) s).1.rd) ((done (onRingC z headC) s).1.mo) A' n' c' ((done (onRingC z headC) s).1.fi) ((done (onRingC z headC) s).1.la)) 32 ∧ TkF (N + 4) (N + 3) x (done (onRingC z headC) s) W' A' n' c' ∧ s10 = .bool (done (onRingC z headC) s).2)
 case first =>
  refine wp_region2v (fun w w' => Below w.heap.size w w') (fun _ _ h => h.size) (fun _ => Below.refl _ _) (fun L W' => Below N w W' ∧ N + 4 ≤ W'.heap.size ∧ BoxAt W' N (aS s A n cap) 32 ∧ BoxAt W' (N + 1) #[.func (.func 152) #[] #[]] 143 ∧ BoxAt W' (N + 2) zS 32 ∧ (L 4 = false → BoxAt W' (N + 3) #[.int .i64 (-1)] 2)) (tk_takeV s A n cap N z x) (fun j => [0, 0, 0, 0, 1, 0, 0, 0, 2, 1, 0].getD j 0) [(9, 8)] (by kernel_rfl) (by kernel_rfl) ?_ ?_ ?_
   (.still rfl ?a0 <| .still rfl ?a1 <| .still rfl ?a2 <| .grow rfl ?a3 <| .store rfl ?a4 <| .still rfl ?a5 <| .still rfl ?a6 <| .still rfl ?a7 <| .make rfl ?a8 <| .store rfl ?a9 <| .still rfl ?a10 <| .nil) ?_ ?_
  · exact ⟨fun _ _ _ h ⟨k, e, hp⟩ => ⟨k, (h 3 (List.mem_singleton.2 rfl)).symm.trans e, hp⟩, fun _ _ _ h ⟨A', n', c', e, hp⟩ => ⟨A', n', c', (h 4 (List.mem_singleton.2 rfl)).symm.trans e, hp⟩, fun _ _ _ h ⟨A', n', c', e, hp⟩ => ⟨A', n', c', (h 5 (List.mem_singleton.2 rfl)).symm.trans e, hp⟩, fun _ _ _ h ⟨A', n', c', e, hp⟩ => ⟨A', n', c', (h 6 (List.mem_singleton.2 rfl)).symm.trans e, hp⟩, fun _ _ _ h ⟨g, e, hp⟩ => ⟨g, (h 8 (List.mem_singleton.2 rfl)).symm.trans e, hp⟩, fun _ _ _ h ⟨g, A', n', c', e, hp⟩ => ⟨g, A', n', c', (h 8 (List.mem_singleton.2 rfl)).symm.trans e, hp⟩, trivial⟩
  · exact ⟨fun σ w w' hb ⟨k, e, hp⟩ => ⟨k, e, hp.below hb⟩, fun σ w w' hb ⟨A', n', c', e, hp⟩ => ⟨A', n', c', e, hp.below hb⟩, fun σ w w' hb ⟨A', n', c', e, hp⟩ => ⟨A', n', c', e, hp.below hb⟩, fun σ w w' hb ⟨A', n', c', e, hp⟩ => ⟨A', n', c', e, hp.below hb⟩, fun σ w w' hb ⟨g, e, hg, x0, x1, x2, x3, x4, hx⟩ => ⟨g, e, hg, x0, x1, x2, x3, x4, hx.below hb hx.lt⟩, fun σ w w' hb ⟨g, A', n', c', e, hg, hx, hp⟩ => ⟨g, A', n', c', e, hg, hx.below hb hx.lt, hp.below hb⟩, trivial⟩
  · exact ⟨hB.drew, hsz, hx, hF, hz, fun _ => hT⟩
  case a0 =>
   go_light
   intro L σ W' hcl hL hC hw
   have ks := hC.2.2.1.cell
   exact zticB0
  case a1 | a2 | a10 =>
   go_light
   intro L σ W' hcl hL hC hw
   try have e7 := wT hw 7 rfl
   exact zticB0
  case a3 =>
   exact zticB2
  case a4 =>
   go_light
   intro L σ W' hcl hL hC hw hne
   have e0 := wV hw 0 rfl
   obtain ⟨k, e3, hp3⟩ := wE hw 3 rfl
   clear hw hne
   obtain ⟨hB, hsz, hx, hF, hz, hT⟩ := hC
   have hT4 := (hT hL)
   clear hcl hL
   refine OpGoes.go fun K hK => ?_
   go_simp
   have hs3 := hs.keep (w' := W') (fun j _ hj => hB.block j (by omega))
   have he3 := he.below hB (by omega)
   refine (idoneOrNot_any (onRingC z headC) s A n cap lo hi B (N + 3) a0 a1 (fun W => BoxAt W (N + 3) #[x] 2) 167 [pT k, pT (k + 1)] W' hs3 (by omega) (by omega) (by omega) (by omega) (by omega) he3 hm HPN.out (fun t hok ht => mild_ring (fun r r' h => by injection h with h; subst h; rfl) hok ht) (fun W1 W2 h h' => h.below h' (by omega)) (fun hok => ionRing1_any headC s z n k (k + 1) B a0 a2 (N + 3) (fun W => BoxAt W (N + 3) #[x] 2) 169 [pT (N + 1), pT (N + 3)] W' hp3.1 hp3.2.1 (itake1 s z n (N + 1) (N + 3) a0 x W' hF hT4 HX.out (fun r hr => (stOk_nums hok r hr).1)) (enters_of Tryz.func169 (by kernel_rfl) rfl) (hS0.keep (fun j hj => hB.block j (by omega))) hN0 (by omega) (by omega) hm) (enters_of Tryz.func167 (by kernel_rfl) rfl)).mono ?_
   exact zticB1
  case a5 =>
   exact zticB7
  case a6 =>
   exact zticB8
  case a7 =>
   go_light
   intro L σ W' hcl hL hC hw
   obtain ⟨A', n', c', e5, hp5⟩ := wE hw 5 rfl
   exact zticB0
  case a8 =>
   exact zticB3
  case a9 =>
   go_light
   intro L σ W' hcl hL hC hw hne
   obtain ⟨A', n', c', e6, hp6⟩ := wE hw 6 rfl
   obtain ⟨g8, e8, hg8, x0, x1, x2, x3, x4, hbox8⟩ := wE hw 8 rfl
   clear hw hne
   have HC := Lib.hid hC
   clear hC
   clear hcl hL
   have kc_ := hbox8.cell
   have kf_ := hbox8.frozen
   refine OpGoes.go fun K hK => ?_
   go_simp
   obtain ⟨hB, hsz, hx, hF, hz, hT⟩ := HC.out
   have hset := sets_all (us := (dS ((done (onRingC z headC) s).1.rd) ((done (onRingC z headC) s).1.mo) A' n' c' ((done (onRingC z headC) s).1.fi) ((done (onRingC z headC) s).1.la))) hbox8 rfl
   refine hK undef (setCells W' g8 0 (dS ((done (onRingC z headC) s).1.rd) ((done (onRingC z headC) s).1.mo) A' n' c' ((done (onRingC z headC) s).1.fi) ((done (onRingC z headC) s).1.la))) ⟨⟨(Below.setCells (by omega) _ 0 hB), (size_sts hsz _ 0), (BoxAt.sets_ne _ 0 hx (by omega)), (BoxAt.sets_ne _ 0 hF (by omega)), (BoxAt.sets_ne _ 0 hz (by omega)), fun h => (BoxAt.sets_ne _ 0 (hT (by simpa [upd] using h)) (by omega))⟩, ⟨g8, A', n', c', e8, hg8, hset, (TkF.setsT hp6 hbox8 (by omega) _ 0)⟩, Nat.le_of_eq (sets_size _ _ _).symm, keepV ?_⟩
   exact zticB4
  ·
   exact zticB12
  ·
   exact zticB6
 case rest =>
  clear hB hsz hx hF hz hT
  obtain ⟨hB, hsz, hz, g, A', n', c', rfl, hgN, hgb, hTk, rfl⟩ := hcut
  cases hq : (done (onRingC z headC) s).2
  ·
   have HQ := Lib.hid hq; clear hq
   have kg := hgb.cell
   have kz := hz.cell
   have fz := hz.frozen
   go_wp2
   refine bodyPost_ret (v := .tuple #[stV (done (onRingC z headC) s).1 A' n' c', .int .i64 (-1)]) (by simp [results, Tryz.results151, go_sem, kz, stV]) rfl ?_
   exact zticB5
  ·
   have HQ := Lib.hid hq
   have hTb := hTk.2 hq
   clear hq
   have hD : DnF (N + 4) (fun _ => True) (done (onRingC z headC) s) wc A' n' c' := ⟨hTk.1, fun _ => trivial⟩
   clear hTk
   go_upto_region 5 with fail
   refine wp_region2v (fun w w' => Below w.heap.size w w') (fun _ _ h => h.size) (fun _ => Below.refl _ _) (fun L W' => Below N w W' ∧ BoxAt W' g (dS ((done (onRingC z headC) s).1.rd) ((done (onRingC z headC) s).1.mo) A' n' c' ((done (onRingC z headC) s).1.fi) ((done (onRingC z headC) s).1.la)) 32 ∧ BoxAt W' (N + 3) #[x] 2 ∧ DnF (N + 4) (fun _ => True) (done (onRingC z headC) s) W' A' n' c' ∧ (∃ x0 x1 x2 x3 x4, BoxAt W' (N + 2) #[x0, x1, x2, x3, x4] 32) ∧ (L 2 = false → BoxAt W' (N + 2) zS 32)) (tr_takeV s N g z x A' n' c') (fun j => [0, 0, 1, 0].getD j 0) [] (by kernel_rfl) (by kernel_rfl) ?_ ?_ ?_
    (.still rfl ?a0 <| .still rfl ?a1 <| .store rfl ?a2 <| .still rfl ?a3 <| .nil) ?_ ?_
   · exact ⟨fun _ _ _ _ h => h, trivial⟩
   · exact ⟨fun σ w w' hb hR => hR.below hb hR.lt, trivial⟩
   · exact ⟨hB.drew, hgb, hTb, hD, ⟨_, _, _, _, _, hz⟩, fun _ => hz⟩
   case a0 =>
    go_light
    intro L σ W' hcl hL hC hw
    have kg := hC.2.1.cell
    exact zticB0
   case a1 =>
    go_light
    intro L σ W' hcl hL hC hw
    have kT := hC.2.2.1.cell
    exact zticB0
   case a3 =>
    go_light
    intro L σ W' hcl hL hC hw
    have e1 := wV hw 1 rfl
    exact zticB0
   case a2 =>
    go_light
    intro L σ W' hcl hL hC hw hne
    have e0 := wV hw 0 rfl
    clear hw hne
    have HC := Lib.hid hC
    obtain ⟨hB, hgb, hTb, hD, ⟨_, _, _, _, _, hz⟩, hz_o⟩ := hC
    clear hcl hL
    have kc_ := hz.cell
    have kf_ := hz.frozen
    clear hB hgb hTb hD hz hz_o
    refine OpGoes.go fun K hK => ?_
    go_simp
    obtain ⟨hB, hgb, hTb, hD, ⟨_, _, _, _, _, hz⟩, hz_o⟩ := HC.out
    have hset := sets_all (us := (dS ((done (onRingC z headC) s).1.rd) ((done (onRingC z headC) s).1.mo) A' n' c' ((done (onRingC z headC) s).1.fi) ((done (onRingC z headC) s).1.la))) hz rfl
    refine hK undef (setCells W' (N + 2) 0 (dS ((done (onRingC z headC) s).1.rd) ((done (onRingC z headC) s).1.mo) A' n' c' ((done (onRingC z headC) s).1.fi) ((done (onRingC z headC) s).1.la))) ⟨⟨(Below.setCells (by omega) _ 0 hB), (BoxAt.sets_ne _ 0 hgb (by omega)), (BoxAt.sets_ne _ 0 hTb (by omega)), (DnF.sets (by omega) _ 0 hD), ⟨_, _, _, _, _, hset⟩, fun h => absurd h (by simp [upd])⟩, hset, Nat.le_of_eq (sets_size _ _ _).symm, keepV ?_⟩
    exact ⟨fun h => absurd rfl h, trivial⟩
   ·
    exact zticB9
   ·
    intro σ L W' hall hC hRR
    obtain ⟨hB, hgb, hTb, hD, ⟨_, _, _, _, _, hz⟩, hz_o⟩ := hC
    have s2 := dE hRR 2 rfl
    have e3 := dV hRR 3 rfl
    clear hRR
    simp only [lexAll]
    go_simp
    go_step
    have k6 := s2.cell
    go_wp2
    refine bodyPost_ret (v := .tuple #[stV (done (onRingC z headC) s).1 A' n' c', x]) (by simp [results, Tryz.results151, go_sem, k6, stV]) rfl ?_
    exact zticB10
set_option maxRecDepth 100000 in
set_option maxHeartbeats 4000000 in
theorem itakeTicket_any (s : St) (A : Option Addr) (n cap lo hi B : Nat) (a0 a1 a2 : Addr) (z : Int) (w : World) (hs : RgsW lo hi w A n cap s.rs) (hh : hi ≤ w.heap.size) (hBw : B ≤ w.heap.size) (he : Errs B w a0 a1) (hS0 : Sent B w 2 a2) (hN0 : a2 ≠ a0) (hm : n ≤ 1048576) (hpn : ∀ r ∈ s.rs, r.ps.length ≤ 1048576) :
  Calls Tryz.prog 130 #[stV s A n cap, z] w (RetSID (takeTicket s z) w) := by
 have HPN := Lib.hid hpn; clear hpn
 obtain ⟨N, hN⟩ : ∃ N, N = w.heap.size := ⟨_, rfl⟩
 have hN1 : w.heap.size ≤ N := by omega
 have hNw : N ≤ w.heap.size := by omega
 have HN := Lib.hid hN
 unfold stV
 go_enter Tryz.func130, Tryz.ntmps130
 go_wp2_with fail
 rw [← HN.out]
 refine calls_abs (fun W => Below N w W ∧ BoxAt W (N + 1) zS 32 ∧ N + 2 ≤ W.heap.size) ⟨((Below.refl _ _).alloc hNw _).alloc (by simp; omega) _, BoxAt.new' (by simp; omega), by simp; omega⟩ ?_
 clear hN
 rintro W ⟨hB, hz, hW⟩
 have hBs := hB.size
 refine (iticketOf_take s A n cap lo hi B a0 a1 a2 z W (hs.keep (fun j _ hj => hB.block j (by omega))) (by omega) (by omega) (he.below hB (by omega)) (hS0.keep (fun j hj => hB.block j (by omega))) hN0 hm HPN.out).mono ?_
 rintro e w1 ⟨A', n', c', rfl, hR, hb1⟩
 replace hz := hz.below hb1 hz.lt
 replace hB := bstep hB (Nat.le_trans hNw hB.size) hb1
 have hw1 := hb1.size
 clear hb1
 generalize takeTicket s z = q at *
 unfold stV
 have kz := hz.cell
 have fz := hz.frozen
 go_wp2
 refine bodyPost_ret (v := .tuple #[stV q.1 A' n' c', q.2]) (by simp [results, Tryz.results130, go_sem, kz, stV]) rfl ⟨A', n', c', rfl, ?_, ((sc (sc (sc (sc (sc hB)))))).mono hN1⟩
 exact zticB11
def tk_putV (s : St) (A : Option Addr) (n cap N : Nat) (z x : Int) : List Sl := [.v (.agg (aS s A n cap)),
 .v z,
 .v (.func (.func 169) #[] #[pT (N + 1), pT (N + 3)]),
 .e fun σ w => ∃ (k : Nat), σ 3 = .func (.func 167) #[] #[pT k, pT (k + 1)] ∧ OnR (N + 4) w k z 169 [pT (N + 1), pT (N + 3)],
 .e fun σ w => ∃ (A' : Option Addr) (n' c' : Nat), σ 4 = .tuple #[.agg (dS ((done (onRingC z tailC) s).1.rd) ((done (onRingC z tailC) s).1.mo) A' n' c' ((done (onRingC z tailC) s).1.fi) ((done (onRingC z tailC) s).1.la)), .bool ((done (onRingC z tailC) s).2)] ∧ TkF (N + 4) (N + 3) x (done (onRingC z tailC) s) w A' n' c',
 .e fun σ w => ∃ (A' : Option Addr) (n' c' : Nat), σ 5 = .tuple #[.agg (dS ((done (onRingC z tailC) s).1.rd) ((done (onRingC z tailC) s).1.mo) A' n' c' ((done (onRingC z tailC) s).1.fi) ((done (onRingC z tailC) s).1.la)), .bool ((done (onRingC z tailC) s).2)] ∧ TkF (N + 4) (N + 3) x (done (onRingC z tailC) s) w A' n' c',
 .e fun σ w => ∃ (A' : Option Addr) (n' c' : Nat), σ 6 = .agg (dS ((done (onRingC z tailC) s).1.rd) ((done (onRingC z tailC) s).1.mo) A' n' c' ((done (onRingC z tailC) s).1.fi) ((done (onRingC z tailC) s).1.la)) ∧ TkF (N + 4) (N + 3) x (done (onRingC z tailC) s) w A' n' c',
 .v (.bool ((done (onRingC z tailC) s).2)),
 .e fun σ w => ∃ g8, σ 8 = pT g8 ∧ (N + 4) ≤ g8 ∧ ∃ x0 x1 x2 x3 x4, BoxAt w g8 #[x0, x1, x2, x3, x4] 32,
 .e fun σ w => ∃ (g8 : Nat) (A' : Option Addr) (n' c' : Nat), σ 8 = pT g8 ∧ (N + 4) ≤ g8 ∧ BoxAt w g8 (dS ((done (onRingC z tailC) s).1.rd) ((done (onRingC z tailC) s).1.mo) A' n' c' ((done (onRingC z tailC) s).1.fi) ((done (onRingC z tailC) s).1.la)) 32 ∧ TkF (N + 4) (N + 3) x (done (onRingC z tailC) s) w A' n' c',
 .v (.bool ((done (onRingC z tailC) s).2))]
def tr_putV (s : St) (N g : Nat) (z x : Int) (A' : Option Addr) (n' c' : Nat) : List Sl := [.v (.agg (dS ((done (onRingC z tailC) s).1.rd) ((done (onRingC z tailC) s).1.mo) A' n' c' ((done (onRingC z tailC) s).1.fi) ((done (onRingC z tailC) s).1.la))),
 .v x,
 .e fun σ w => BoxAt w (N + 2) (dS ((done (onRingC z tailC) s).1.rd) ((done (onRingC z tailC) s).1.mo) A' n' c' ((done (onRingC z tailC) s).1.fi) ((done (onRingC z tailC) s).1.la)) 32,
 .v x]
set_option maxRecDepth 100000 in
set_option maxHeartbeats 4000000 in
theorem iticketOf_put (s : St) (A : Option Addr) (n cap lo hi B : Nat) (a0 a1 a2 : Addr) (z : Int) (w : World) (hs : RgsW lo hi w A n cap s.rs) (hh : hi ≤ w.heap.size) (hBw : B ≤ w.heap.size) (he : Errs B w a0 a1) (hS0 : Sent B w 2 a2) (hN0 : a2 ≠ a0) (hm : n ≤ 1048576) (hpn : ∀ r ∈ s.rs, r.ps.length ≤ 1048576) :
  Calls Tryz.prog 151 #[stV s A n cap, z, .func (.func 159) #[] #[]] w (RetSID (putTicket s z) w) := by
 have HPN := Lib.hid hpn; clear hpn
 have HLN := Lib.hid hs.1
 have HV := Lib.hid (putTicket_done s z)
 obtain ⟨x, hx_⟩ : ∃ x, x = (s.at z).t := ⟨_, rfl⟩
 have HX := Lib.hid hx_; clear hx_
 obtain ⟨N, hN⟩ : ∃ N, N = w.heap.size := ⟨_, rfl⟩
 have hN1 : w.heap.size ≤ N := by omega
 have hNw : N ≤ w.heap.size := by omega
 have HN := Lib.hid hN
 have hBN : B ≤ N := by omega
 unfold stV
 go_enter Tryz.func151, Tryz.ntmps151
 go_upto_region 2 with fail
 rw [← HN.out]
 refine wp_abs (fun W => Below N w W ∧ N + 4 ≤ W.heap.size ∧ BoxAt W N (aS s A n cap) 32 ∧ BoxAt W (N + 1) #[.func (.func 159) #[] #[]] 143 ∧ BoxAt W (N + 2) zS 32 ∧ BoxAt W (N + 3) #[.int .i64 (-1)] 2) ⟨(((((Below.refl _ _).alloc hNw _).alloc (by simp; omega) _).alloc (by simp; omega) _).alloc (by simp; omega) _), by simp; omega, ((((BoxAt.new' (by omega)).alloc _).alloc _).alloc _), (((BoxAt.new' (by simp; omega)).alloc _).alloc _), ((BoxAt.new' (by simp; omega)).alloc _), (BoxAt.new' (by simp; omega))⟩ ?_
 clear hN
 rintro W0 ⟨hB, hsz, hx, hF, hz, hT⟩
 go_cut [9, 10] (fun s9 s10 W' => Below N w W' ∧ N + 4 ≤ W'.heap.size ∧ BoxAt W' (N + 2) zS 32 ∧ ∃ g A' n' c', s9 = pT g ∧ N + 4 ≤ g ∧ BoxAt W' g (dS ((done (onRingC z tailC) s).1.rd) ((done (onRingC z tailC) s).1.mo) A' n' c' ((done (onRingC z tailC) s).1.fi) ((done (onRingC z tailC) s).1.la)) 32 ∧ TkF (N + 4) (N + 3) x (done (onRingC z tailC) s) W' A' n' c' ∧ s10 = .bool (done (onRingC z tailC) s).2)
 case first =>
  refine wp_region2v (fun w w' => Below w.heap.size w w') (fun _ _ h => h.size) (fun _ => Below.refl _ _) (fun L W' => Below N w W' ∧ N + 4 ≤ W'.heap.size ∧ BoxAt W' N (aS s A n cap) 32 ∧ BoxAt W' (N + 1) #[.func (.func 159) #[] #[]] 143 ∧ BoxAt W' (N + 2) zS 32 ∧ (L 4 = false → BoxAt W' (N + 3) #[.int .i64 (-1)] 2)) (tk_putV s A n cap N z x) (fun j => [0, 0, 0, 0, 1, 0, 0, 0, 2, 1, 0].getD j 0) [(9, 8)] (by kernel_rfl) (by kernel_rfl) ?_ ?_ ?_
   (.still rfl ?a0 <| .still rfl ?a1 <| .still rfl ?a2 <| .grow rfl ?a3 <| .store rfl ?a4 <| .still rfl ?a5 <| .still rfl ?a6 <| .still rfl ?a7 <| .make rfl ?a8 <| .store rfl ?a9 <| .still rfl ?a10 <| .nil) ?_ ?_
  · exact ⟨fun _ _ _ h ⟨k, e, hp⟩ => ⟨k, (h 3 (List.mem_singleton.2 rfl)).symm.trans e, hp⟩, fun _ _ _ h ⟨A', n', c', e, hp⟩ => ⟨A', n', c', (h 4 (List.mem_singleton.2 rfl)).symm.trans e, hp⟩, fun _ _ _ h ⟨A', n', c', e, hp⟩ => ⟨A', n', c', (h 5 (List.mem_singleton.2 rfl)).symm.trans e, hp⟩, fun _ _ _ h ⟨A', n', c', e, hp⟩ => ⟨A', n', c', (h 6 (List.mem_singleton.2 rfl)).symm.trans e, hp⟩, fun _ _ _ h ⟨g, e, hp⟩ => ⟨g, (h 8 (List.mem_singleton.2 rfl)).symm.trans e, hp⟩, fun _ _ _ h ⟨g, A', n', c', e, hp⟩ => ⟨g, A', n', c', (h 8 (List.mem_singleton.2 rfl)).symm.trans e, hp⟩, trivial⟩
  · exact ⟨fun σ w w' hb ⟨k, e, hp⟩ => ⟨k, e, hp.below hb⟩, fun σ w w' hb ⟨A', n', c', e, hp⟩ => ⟨A', n', c', e, hp.below hb⟩, fun σ w w' hb ⟨A', n', c', e, hp⟩ => ⟨A', n', c', e, hp.below hb⟩, fun σ w w' hb ⟨A', n', c', e, hp⟩ => ⟨A', n', c', e, hp.below hb⟩, fun σ w w' hb ⟨g, e, hg, x0, x1, x2, x3, x4, hx⟩ => ⟨g, e, hg, x0, x1, x2, x3, x4, hx.below hb hx.lt⟩, fun σ w w' hb ⟨g, A', n', c', e, hg, hx, hp⟩ => ⟨g, A', n', c', e, hg, hx.below hb hx.lt, hp.below hb⟩, trivial⟩
  · exact ⟨hB.drew, hsz, hx, hF, hz, fun _ => hT⟩
  case a0 =>
   go_light
   intro L σ W' hcl hL hC hw
   have ks := hC.2.2.1.cell
   exact zticB0
  case a1 | a2 | a10 =>
   go_light
   intro L σ W' hcl hL hC hw
   try have e7 := wT hw 7 rfl
   exact zticB0
  case a3 =>
   exact zticB2
  case a4 =>
   go_light
   intro L σ W' hcl hL hC hw hne
   have e0 := wV hw 0 rfl
   obtain ⟨k, e3, hp3⟩ := wE hw 3 rfl
   clear hw hne
   obtain ⟨hB, hsz, hx, hF, hz, hT⟩ := hC
   have hT4 := (hT hL)
   clear hcl hL
   refine OpGoes.go fun K hK => ?_
   go_simp
   have hs3 := hs.keep (w' := W') (fun j _ hj => hB.block j (by omega))
   have he3 := he.below hB (by omega)
   refine (idoneOrNot_any (onRingC z tailC) s A n cap lo hi B (N + 3) a0 a1 (fun W => BoxAt W (N + 3) #[x] 2) 167 [pT k, pT (k + 1)] W' hs3 (by omega) (by omega) (by omega) (by omega) (by omega) he3 hm HPN.out (fun t hok ht => mild_ring (fun r r' h => by injection h with h; subst h; rfl) hok ht) (fun W1 W2 h h' => h.below h' (by omega)) (fun hok => ionRing1_any tailC s z n k (k + 1) B a0 a2 (N + 3) (fun W => BoxAt W (N + 3) #[x] 2) 169 [pT (N + 1), pT (N + 3)] W' hp3.1 hp3.2.1 (iput1 s z n (N + 1) (N + 3) a0 x W' hF hT4 HX.out (fun r hr => (stOk_nums hok r hr).2.1)) (enters_of Tryz.func169 (by kernel_rfl) rfl) (hS0.keep (fun j hj => hB.block j (by omega))) hN0 (by omega) (by omega) hm) (enters_of Tryz.func167 (by kernel_rfl) rfl)).mono ?_
   exact zticB1
  case a5 =>
   exact zticB7
  case a6 =>
   exact zticB8
  case a7 =>
   go_light
   intro L σ W' hcl hL hC hw
   obtain ⟨A', n', c', e5, hp5⟩ := wE hw 5 rfl
   exact zticB0
  case a8 =>
   exact zticB3
  case a9 =>
   go_light
   intro L σ W' hcl hL hC hw hne
   obtain ⟨A', n', c', e6, hp6⟩ := wE hw 6 rfl
   obtain ⟨g8, e8, hg8, x0, x1, x2, x3, x4, hbox8⟩ := wE hw 8 rfl
   clear hw hne
   have HC := Lib.hid hC
   clear hC
   clear hcl hL
   have kc_ := hbox8.cell
   have kf_ := hbox8.frozen
   refine OpGoes.go fun K hK => ?_
   go_simp
   obtain ⟨hB, hsz, hx, hF, hz, hT⟩ := HC.out
   have hset := sets_all (us := (dS ((done (onRingC z tailC) s).1.rd) ((done (onRingC z tailC) s).1.mo) A' n' c' ((done (onRingC z tailC) s).1.fi) ((done (onRingC z tailC) s).1.la))) hbox8 rfl
   refine hK undef (setCells W' g8 0 (dS ((done (onRingC z tailC) s).1.rd) ((done (onRingC z tailC) s).1.mo) A' n' c' ((done (onRingC z tailC) s).1.fi) ((done (onRingC z tailC) s).1.la))) ⟨⟨(Below.setCells (by omega) _ 0 hB), (size_sts hsz _ 0), (BoxAt.sets_ne _ 0 hx (by omega)), (BoxAt.sets_ne _ 0 hF (by omega)), (BoxAt.sets_ne _ 0 hz (by omega)), fun h => (BoxAt.sets_ne _ 0 (hT (by simpa [upd] using h)) (by omega))⟩, ⟨g8, A', n', c', e8, hg8, hset, (TkF.setsT hp6 hbox8 (by omega) _ 0)⟩, Nat.le_of_eq (sets_size _ _ _).symm, keepV ?_⟩
   exact zticB4
  ·
   exact zticB12
  ·
   exact zticB6
 case rest =>
  clear hB hsz hx hF hz hT
  obtain ⟨hB, hsz, hz, g, A', n', c', rfl, hgN, hgb, hTk, rfl⟩ := hcut
  cases hq : (done (onRingC z tailC) s).2
  ·
   have HQ := Lib.hid hq; clear hq
   have kg := hgb.cell
   have kz := hz.cell
   have fz := hz.frozen
   go_wp2
   refine bodyPost_ret (v := .tuple #[stV (done (onRingC z tailC) s).1 A' n' c', .int .i64 (-1)]) (by simp [results, Tryz.results151, go_sem, kz, stV]) rfl ?_
   exact zticB5
  ·
   have HQ := Lib.hid hq
   have hTb := hTk.2 hq
   clear hq
   have hD : DnF (N + 4) (fun _ => True) (done (onRingC z tailC) s) wc A' n' c' := ⟨hTk.1, fun _ => trivial⟩
   clear hTk
   go_upto_region 5 with fail
   refine wp_region2v (fun w w' => Below w.heap.size w w') (fun _ _ h => h.size) (fun _ => Below.refl _ _) (fun L W' => Below N w W' ∧ BoxAt W' g (dS ((done (onRingC z tailC) s).1.rd) ((done (onRingC z tailC) s).1.mo) A' n' c' ((done (onRingC z tailC) s).1.fi) ((done (onRingC z tailC) s).1.la)) 32 ∧ BoxAt W' (N + 3) #[x] 2 ∧ DnF (N + 4) (fun _ => True) (done (onRingC z tailC) s) W' A' n' c' ∧ (∃ x0 x1 x2 x3 x4, BoxAt W' (N + 2) #[x0, x1, x2, x3, x4] 32) ∧ (L 2 = false → BoxAt W' (N + 2) zS 32)) (tr_putV s N g z x A' n' c') (fun j => [0, 0, 1, 0].getD j 0) [] (by kernel_rfl) (by kernel_rfl) ?_ ?_ ?_
    (.still rfl ?a0 <| .still rfl ?a1 <| .store rfl ?a2 <| .still rfl ?a3 <| .nil) ?_ ?_
   · exact ⟨fun _ _ _ _ h => h, trivial⟩
   · exact ⟨fun σ w w' hb hR => hR.below hb hR.lt, trivial⟩
   · exact ⟨hB.drew, hgb, hTb, hD, ⟨_, _, _, _, _, hz⟩, fun _ => hz⟩
   case a0 =>
    go_light
    intro L σ W' hcl hL hC hw
    have kg := hC.2.1.cell
    exact zticB0
   case a1 =>
    go_light
    intro L σ W' hcl hL hC hw
    have kT := hC.2.2.1.cell
    exact zticB0
   case a3 =>
    go_light
    intro L σ W' hcl hL hC hw
    have e1 := wV hw 1 rfl
    exact zticB0
   case a2 =>
    go_light
    intro L σ W' hcl hL hC hw hne
    have e0 := wV hw 0 rfl
    clear hw hne
    have HC := Lib.hid hC
    obtain ⟨hB, hgb, hTb, hD, ⟨_, _, _, _, _, hz⟩, hz_o⟩ := hC
    clear hcl hL
    have kc_ := hz.cell
    have kf_ := hz.frozen
    clear hB hgb hTb hD hz hz_o
    refine OpGoes.go fun K hK => ?_
    go_simp
    obtain ⟨hB, hgb, hTb, hD, ⟨_, _, _, _, _, hz⟩, hz_o⟩ := HC.out
    have hset := sets_all (us := (dS ((done (onRingC z tailC) s).1.rd) ((done (onRingC z tailC) s).1.mo) A' n' c' ((done (onRingC z tailC) s).1.fi) ((done (onRingC z tailC) s).1.la))) hz rfl
    refine hK undef (setCells W' (N + 2) 0 (dS ((done (onRingC z tailC) s).1.rd) ((done (onRingC z tailC) s).1.mo) A' n' c' ((done (onRingC z tailC) s).1.fi) ((done (onRingC z tailC) s).1.la))) ⟨⟨(Below.setCells (by omega) _ 0 hB), (BoxAt.sets_ne _ 0 hgb (by omega)), (BoxAt.sets_ne _ 0 hTb (by omega)), (DnF.sets (by omega) _ 0 hD), ⟨_, _, _, _, _, hset⟩, fun h => absurd h (by simp [upd])⟩, hset, Nat.le_of_eq (sets_size _ _ _).symm, keepV ?_⟩
    exact ⟨fun h => absurd rfl h, trivial⟩
   ·
    exact zticB9
   ·
    intro σ L W' hall hC hRR
    obtain ⟨hB, hgb, hTb, hD, ⟨_, _, _, _, _, hz⟩, hz_o⟩ := hC
    have s2 := dE hRR 2 rfl
    have e3 := dV hRR 3 rfl
    clear hRR
    simp only [lexAll]
    go_simp
    go_step
    have k6 := s2.cell
    go_wp2
    refine bodyPost_ret (v := .tuple #[stV (done (onRingC z tailC) s).1 A' n' c', x]) (by simp [results, Tryz.results151, go_sem, k6, stV]) rfl ?_
    exact zticB10
set_option maxRecDepth 100000 in
set_option maxHeartbeats 4000000 in
theorem iputTicket_any (s : St) (A : Option Addr) (n cap lo hi B : Nat) (a0 a1 a2 : Addr) (z : Int) (w : World) (hs : RgsW lo hi w A n cap s.rs) (hh : hi ≤ w.heap.size) (hBw : B ≤ w.heap.size) (he : Errs B w a0 a1) (hS0 : Sent B w 2 a2) (hN0 : a2 ≠ a0) (hm : n ≤ 1048576) (hpn : ∀ r ∈ s.rs, r.ps.length ≤ 1048576) :
  Calls Tryz.prog 138 #[stV s A n cap, z] w (RetSID (putTicket s z) w) := by
 have HPN := Lib.hid hpn; clear hpn
 obtain ⟨N, hN⟩ : ∃ N, N = w.heap.size := ⟨_, rfl⟩
 have hN1 : w.heap.size ≤ N := by omega
 have hNw : N ≤ w.heap.size := by omega
 have HN := Lib.hid hN
 unfold stV
 go_enter Tryz.func138, Tryz.ntmps138
 go_wp2_with fail
 rw [← HN.out]
 refine calls_abs (fun W => Below N w W ∧ BoxAt W (N + 1) zS 32 ∧ N + 2 ≤ W.heap.size) ⟨((Below.refl _ _).alloc hNw _).alloc (by simp; omega) _, BoxAt.new' (by simp; omega), by simp; omega⟩ ?_
 clear hN
 rintro W ⟨hB, hz, hW⟩
 have hBs := hB.size
 refine (iticketOf_put s A n cap lo hi B a0 a1 a2 z W (hs.keep (fun j _ hj => hB.block j (by omega))) (by omega) (by omega) (he.below hB (by omega)) (hS0.keep (fun j hj => hB.block j (by omega))) hN0 hm HPN.out).mono ?_
 rintro e w1 ⟨A', n', c', rfl, hR, hb1⟩
 replace hz := hz.below hb1 hz.lt
 replace hB := bstep hB (Nat.le_trans hNw hB.size) hb1
 have hw1 := hb1.size
 clear hb1
 generalize putTicket s z = q at *
 unfold stV
 have kz := hz.cell
 have fz := hz.frozen
 go_wp2
 refine bodyPost_ret (v := .tuple #[stV q.1 A' n' c', q.2]) (by simp [results, Tryz.results138, go_sem, kz, stV]) rfl ⟨A', n', c', rfl, ?_, ((sc (sc (sc (sc (sc hB)))))).mono hN1⟩
 exact zticB11
end Go.Proofs.YthpckpnlohfcbaaGreatDoor

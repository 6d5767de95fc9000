/-
 A return of a store and of a hand, whatever the slots: they are laid into the results' variables.
-/
import Derived.Test.YthpckpnlohfcbaaGreatDoorHand
import Derived.Test.YthpckpnlohfcbaaGreatDoorGrowB
import Derived.Test.YthpckpnlohfcbaaGreatDoorGrowV
namespace Go.Proofs.YthpckpnlohfcbaaGreatDoor
set_option linter.unusedSimpArgs false
set_option linter.unusedVariables false
open Go.RowKit
theorem ztail0 {p : Prop} (h : p := by
 rw [← e0] at k
 refine k.mono fun v w1 h => ?_
 subst h
 have hset := sets_all (us := (aS s2 A2 n2 c2)) hz rfl
 exact ⟨⟨(Below.setCells (by omega) _ 0 hB), (BoxAt.sets_ne _ 0 hx (by omega)), (BoxAt.sets_ne _ 0 hy (by omega)), (RgsW.sts hG (by omega) _ 0), (size_sts hM _ 0), ⟨_, _, _, _, _, hset⟩, ⟨_, _, _, _, _, _, _, _, _, _, _, _, (BoxAt.sets_ne _ 0 hw_ (by omega))⟩⟩, hset, Nat.le_of_eq (sets_size _ _ _).symm, keepV ⟨fun h => absurd rfl h, fun _ _ hR => BoxAt.sets_ne _ 0 hR (by omega), trivial⟩⟩) : p := h -- 0dac1eb7
theorem ztail1 {p : Prop} (h : p := by
 exact ⟨⟨(Below.setCells (by omega) _ 0 hB), (BoxAt.sets_ne _ 0 hx (by omega)), (BoxAt.sets_ne _ 0 hy (by omega)), (RgsW.sts hG (by omega) _ 0), (size_sts hM _ 0), ⟨_, _, _, _, _, (BoxAt.sets_ne _ 0 hz (by omega))⟩, ⟨_, _, _, _, _, _, _, _, _, _, _, _, hset⟩⟩, hset, Nat.le_of_eq (sets_size _ _ _).symm, keepV ⟨fun _ _ hR => BoxAt.sets_ne _ 0 hR (by omega), fun h => absurd rfl h, trivial⟩⟩) : p := h -- b452ca2a
theorem ztail2 {p : Prop} (h : p := by
 go_light
 intro L σ W' hcl hL hC hw hne
 have e1 := wV hw 1 rfl
 clear hw hne
 have HC := Lib.hid hC
 obtain ⟨hB, hx, hy, hG, hM, ⟨_, _, _, _, _, hz⟩, hz_o, ⟨_, _, _, _, _, _, _, _, _, _, _, _, hw_⟩, hw__o⟩ := hC
 clear hcl hL
 have kc_ := hw_.cell
 have kf_ := hw_.frozen
 clear hB hx hy hG hM hz hz_o hw_ hw__o
 refine OpGoes.go fun K hK => ?_
 go_simp
 obtain ⟨hB, hx, hy, hG, hM, ⟨_, _, _, _, _, hz⟩, hz_o, ⟨_, _, _, _, _, _, _, _, _, _, _, _, hw_⟩, hw__o⟩ := HC.out
 have hset := sets_all (us := [.int .i64 h2.at_, .int .i64 h2.v, .int .i64 h2.r, .int .i64 h2.t, .bool h2.seen.s, .int .i64 h2.seen.n, .bool h2.seen.f, .int .i64 h2.seen.v, .int .i64 h2.tr, .int .i64 h2.sp, .bool h2.ag, .int .i64 h2.re]) hw_ rfl
 refine hK undef (setCells W' (w.heap.size + 1 + 1 + 1) 0 [.int .i64 h2.at_, .int .i64 h2.v, .int .i64 h2.r, .int .i64 h2.t, .bool h2.seen.s, .int .i64 h2.seen.n, .bool h2.seen.f, .int .i64 h2.seen.v, .int .i64 h2.tr, .int .i64 h2.sp, .bool h2.ag, .int .i64 h2.re]) ⟨⟨(Below.setCells (by omega) _ 0 hB), (BoxAt.sets_ne _ 0 hx (by omega)), (BoxAt.sets_ne _ 0 hy (by omega)), (RgsW.sts hG (by omega) _ 0), (size_sts hM _ 0), ⟨_, _, _, _, _, (BoxAt.sets_ne _ 0 hz (by omega))⟩, fun h => (BoxAt.sets_ne _ 0 (hz_o (by simpa [upd] using h)) (by omega)), ⟨_, _, _, _, _, _, _, _, _, _, _, _, hset⟩, fun h => absurd h (by simp [upd])⟩, hset, Nat.le_of_eq (sets_size _ _ _).symm, keepV ?_⟩
 exact ⟨fun _ _ hR => (BoxAt.sets_ne _ 0 hR (by omega)), fun h => absurd rfl h, trivial⟩) : p := h -- 4d442997
theorem ztail3 {p : Prop} (h : p := by
 go_light
 intro L σ W' hcl hL hC hw hne
 have e0 := wV hw 0 rfl
 clear hw hne
 have HC := Lib.hid hC
 obtain ⟨hB, hx, hy, hG, hM, ⟨_, _, _, _, _, hz⟩, hz_o, ⟨_, _, _, _, _, _, _, _, _, _, _, _, hw_⟩, hw__o⟩ := hC
 clear hcl hL
 have kc_ := hz.cell
 have kf_ := hz.frozen
 clear hB hx hy hG hM hz hz_o hw_ hw__o
 refine OpGoes.go fun K hK => ?_
 go_simp
 obtain ⟨hB, hx, hy, hG, hM, ⟨_, _, _, _, _, hz⟩, hz_o, ⟨_, _, _, _, _, _, _, _, _, _, _, _, hw_⟩, hw__o⟩ := HC.out
 have hset := sets_all (us := [.int .i64 s2.rd, .int .i64 s2.mo, .slice A2 n2 c2, .int .i64 s2.fi, .int .i64 s2.la]) hz rfl
 refine hK undef (setCells W' (w.heap.size + 1 + 1) 0 [.int .i64 s2.rd, .int .i64 s2.mo, .slice A2 n2 c2, .int .i64 s2.fi, .int .i64 s2.la]) ⟨⟨(Below.setCells (by omega) _ 0 hB), (BoxAt.sets_ne _ 0 hx (by omega)), (BoxAt.sets_ne _ 0 hy (by omega)), (RgsW.sts hG (by omega) _ 0), (size_sts hM _ 0), ⟨_, _, _, _, _, hset⟩, fun h => absurd h (by simp [upd]), ⟨_, _, _, _, _, _, _, _, _, _, _, _, (BoxAt.sets_ne _ 0 hw_ (by omega))⟩, fun h => (BoxAt.sets_ne _ 0 (hw__o (by simpa [upd] using h)) (by omega))⟩, hset, Nat.le_of_eq (sets_size _ _ _).symm, keepV ?_⟩
 exact ⟨fun h => absurd rfl h, fun _ _ hR => (BoxAt.sets_ne _ 0 hR (by omega)), trivial⟩) : p := h -- 484bc327
theorem ztail4 {p : Prop} (h : p := by
 intro L σ W' hcl hL hC hw
 obtain ⟨hB, hx, hy, hG, hM, ⟨x0, x1, x2, x3, x4, hz⟩, ⟨x0, x1, x2, x3, x4, x5, x6, x7, x8, x9, x10, x11, hw_⟩⟩ := hC
 have e1 := wV hw 1 rfl w21
 have k := k2 (σ 0) W'
 rw [← e1] at k
 exact k.mono fun v w1 h => ⟨⟨bstep hB hB.size h.2, hx.below h.2 hx.lt, hy.below h.2 hy.lt, hG.below h.2 (Nat.le_trans hhi2 hM), Nat.le_trans hM h.2.size, ⟨_, _, _, _, _, hz.below h.2 hz.lt⟩, ⟨_, _, _, _, _, _, _, _, _, _, _, _, hw_.below h.2 hw_.lt⟩⟩, h.1, h.2⟩) : p := h -- 090f1861
theorem ztail5 {p : Prop} (h : p := by
 clear hw hcl hL hC
 refine OpGoes.go fun K hK => ?_
 go_simp
 exact hK _ _ ⟨rfl, rfl⟩) : p := h -- ee92c020
theorem ztail6 {p : Prop} (h : p := by
 intro L σ W' hcl hL hC hw
 exact (k0 W' hC.2.1).mono fun v w' h => ⟨h.1, h.2⟩) : p := h -- 8c5544db
theorem ztail7 {p : Prop} (h : p := by
 intro L σ W' hcl hL hC hw
 exact (k1 _ W' hC.2.2.1).mono fun v w' h => ⟨h.1, h.2⟩) : p := h -- dde5bb26
theorem ztail8 {p : Prop} (h : p := by
 intro σ L W' hall hC hRR
 obtain ⟨hB, hx, hy, hG, hM, ⟨_, _, _, _, _, hz⟩, hz_o, ⟨_, _, _, _, _, _, _, _, _, _, _, _, hw_⟩, hw__o⟩ := hC
 have s7 := dE hRR 7 rfl
 have s8 := dE hRR 8 rfl
 have e9 := dV hRR 9 rfl
 clear hRR
 simp only [lexAll]
 go_simp
 exact hQ _ _ _ _ _ _ _ _ hB s7 s8 hG (Nat.le_trans hhi2 hM)) : p := h -- 72a0e512
theorem ztail9 {p : Prop} (h : p := by
 intro L L' W' hLL hC
 obtain ⟨hB, hx, hy, hG, hM, ⟨_, _, _, _, _, hz⟩, hz_o, ⟨_, _, _, _, _, _, _, _, _, _, _, _, hw_⟩, hw__o⟩ := hC
 exact ⟨hB, hx, hy, hG, hM, ⟨_, _, _, _, _, hz⟩, fun h => hz_o (hLL _ h), ⟨_, _, _, _, _, _, _, _, _, _, _, _, hw_⟩, fun h => hw__o (hLL _ h)⟩) : p := h -- 81b9a1d4
theorem ztail10 {p : Prop} (h : p := by
 intro σ L W' hall hC hRR
 obtain ⟨hB, hx, hy, hG, hM, ⟨x0, x1, x2, x3, x4, hz⟩, ⟨x0, x1, x2, x3, x4, x5, x6, x7, x8, x9, x10, x11, hw_⟩⟩ := hC
 exact hQ σ W' (dV hRR 0 rfl (by simp)) hB (dE hRR 3 rfl (by simp)) (dE hRR 4 rfl (by simp)) hG (Nat.le_trans hhi2 hM)) : p := h -- 54dd81c0

def opsAt (f : Func) (id : Nat) : List Oper := (f.body.bind (findR id)).getD []
def RetSHB (lo : Nat) (q : St × Hd × Bool) (w : World) (e : Ending) (w' : World) : Prop :=
 ∃ A n cap, e = .returned (.tuple #[stV q.1 A n cap, hdV q.2.1, q.2.2]) ∧ RgsW lo w'.heap.size w' A n cap q.1.rs ∧ Below w.heap.size w w'
def fin (fine : Bool) (s : St) (h : Hd) : St × Hd × Bool := (s, h, fine && h.ok)
def lookAt (s : St) (h : Hd) : Pl := (s.at h.r).ps.getD (h.t % s.rd).toNat ⟨false, 0, false, 0⟩
theorem hd_nums {h : Hd} (hok : h.ok = true) : (0 ≤ h.t ∧ h.t ≤ 1000000) ∧ (0 ≤ h.tr ∧ h.tr ≤ 1000000) := by
 simp only [Hd.ok, Hd.okA, Bool.and_eq_true, noB, decide_eq_true_eq] at hok
 omega
theorem box_neM {w : World} {g k : Nat} {cs ds : Array Value} {t u : TypeId} (h : BoxAt w g cs t) (h' : BoxAt w k ds u) (ht : t ≠ u) : g ≠ k := by
 rintro rfl
 unfold BoxAt at h h'
 rw [h] at h'
 injection h' with h'
 injection h' with _ h'
 exact ht h'
theorem own_ne {α : Type} {f : α → List Value} {k : Nat} {e t : TypeId} {N : Nat} {w : World} {g n cap b : Nat} {cs : Array Value} {l : List α} (h : Own f k e N w g n cap l) (hb : BoxAt w b cs t) (ht : t ≠ e) : g ≠ b := by
 obtain ⟨_, _, _, _, cur, hg, _⟩ := h
 exact box_neM hg hb (Ne.symm ht)
theorem RgsW.setsT {lo hi : Nat} {w : World} {A : Option Addr} {n cap : Nat} {L : List Rg} (h : RgsW lo hi w A n cap L) {k : Nat} {cs : Array Value} {t : TypeId} (hk : BoxAt w k cs t) (h1 : t ≠ 79) (h2 : t ≠ 33) (us : List Value) (o : Nat) : RgsW lo hi (setCells w k o us) A n cap L :=
 ⟨h.1, fun hn => by
  obtain ⟨b, rows, e, hb, ho, hi⟩ := h.2 hn
  refine ⟨b, rows, e, hb, Own.sets_ne ho (own_ne ho hk h1) us o, fun i a ha => ?_⟩
  obtain ⟨r, hr, x1, x2, x3, x4, hp⟩ := hi i a ha
  refine ⟨r, hr, x1, x2, x3, x4, hp.1, fun hn => ?_⟩
  obtain ⟨b2, e2, hb2, ho2⟩ := hp.2 hn
  exact ⟨b2, e2, hb2, Own.sets_ne ho2 (own_ne ho2 hk h2) us o⟩⟩
theorem gWb {lo : Nat} {L : List Rg} (W W' : World) (A : Option Addr) (n c : Nat) (hb : Below W.heap.size W W') (h : RgsW lo W.heap.size W A n c L) : RgsW lo W'.heap.size W' A n c L := (h.below hb (Nat.le_refl _)).mono (Nat.le_refl _) hb.size
theorem gWs {lo : Nat} {L : List Rg} (W : World) (A : Option Addr) (n c k : Nat) (cs : Array Value) (t : TypeId) (us : List Value) (h : RgsW lo W.heap.size W A n c L) (hk : BoxAt W k cs t) (h1 : t ≠ 79) (h2 : t ≠ 33) : RgsW lo (setCells W k 0 us).heap.size (setCells W k 0 us) A n c L := (h.setsT hk h1 h2 us 0).mono (Nat.le_refl _) (Nat.le_of_eq (sets_size _ _ _).symm)
def ret4V (s2 : St) (N n2 c2 : Nat) (A2 : Option Addr) (h2 : Hd) : List Sl := [.v (.agg (aS s2 A2 n2 c2)), .v (.agg (aH h2)),
 .e fun _ w => BoxAt w (N + 1 + 1) (aS s2 A2 n2 c2) 32, .e fun _ w => BoxAt w (N + 1 + 1 + 1) (aH h2) 35]
theorem ret4 {P : Program} {id : Nat} {Q : Exit → Act → World → Prop} {a : Act} {o0 o1 o2 o3 : Oper} (w : World) (s2 : St) (lo2 hi2 : Nat) (A2 : Option Addr) (n2 c2 : Nat) (h2 : Hd) (X Y : Nat) {W : World}
  (hm : P.follows .mixedOrders = true) (hg : growB [o0, o1, o2, o3] (SV (ret4V s2 w.heap.size n2 c2 A2 h2) []) = true) (w20 : waits [o0, o1, o2, o3] 2 0 = true) (w31 : waits [o0, o1, o2, o3] 3 1 = true)
  (hd : (w.heap.size + 2 < lo2 ∨ hi2 ≤ w.heap.size + 2) ∧ (w.heap.size + 3 < lo2 ∨ hi2 ≤ w.heap.size + 3)) (hXY : X ≠ w.heap.size + 2 ∧ X ≠ w.heap.size + 3 ∧ Y ≠ w.heap.size + 2 ∧ Y ≠ w.heap.size + 3)
  (hI : Below w.heap.size w W ∧ BoxAt W X (aS s2 A2 n2 c2) 32 ∧ BoxAt W Y (aH h2) 35 ∧ BoxAt W (w.heap.size + 1 + 1) zS 32 ∧ BoxAt W (w.heap.size + 1 + 1 + 1) zH 35 ∧ RgsW lo2 hi2 W A2 n2 c2 s2.rs ∧ hi2 ≤ W.heap.size)
  (k0 : ∀ W', BoxAt W' X (aS s2 A2 n2 c2) 32 → OpGoes P (List.toArray [o0, o1, o2, o3]) o0 a W' fun v w' => w' = W' ∧ v = .agg (aS s2 A2 n2 c2))
  (k1 : ∀ u0 W', BoxAt W' Y (aH h2) 35 → OpGoes P (List.toArray [o0, o1, o2, o3]) o1 (a.put o0.dst (u0)) W' fun v w' => w' = W' ∧ v = .agg (aH h2))
  (k2 : ∀ u1 W' x0 x1 x2 x3 x4, BoxAt W' (w.heap.size + 1 + 1) #[x0, x1, x2, x3, x4] 32 → OpGoes P (List.toArray [o0, o1, o2, o3]) o2 ((a.put o0.dst (.agg (aS s2 A2 n2 c2))).put o1.dst (u1)) W' fun _ w' => w' = setCells W' (w.heap.size + 1 + 1) 0 (aS s2 A2 n2 c2))
  (k3 : ∀ u0 u2 W' x0 x1 x2 x3 x4 x5 x6 x7 x8 x9 x10 x11, BoxAt W' (w.heap.size + 1 + 1 + 1) #[x0, x1, x2, x3, x4, x5, x6, x7, x8, x9, x10, x11] 35 → OpGoes P (List.toArray [o0, o1, o2, o3]) o3 (((a.put o0.dst (u0)).put o1.dst (.agg (aH h2))).put o2.dst (u2)) W' fun _ w' => w' = setCells W' (w.heap.size + 1 + 1 + 1) 0 (aH h2))
  (hQ : ∀ (σ : Nat → Value) (W' : World), σ 0 = .agg (aS s2 A2 n2 c2) → Below w.heap.size w W' → BoxAt W' (w.heap.size + 1 + 1) (aS s2 A2 n2 c2) 32 → BoxAt W' (w.heap.size + 1 + 1 + 1) (aH h2) 35 → RgsW lo2 hi2 W' A2 n2 c2 s2.rs → hi2 ≤ W'.heap.size → Q .normal (lexAll [o0, o1, o2, o3] 0 a σ) W') :
  (Code.region id (List.toArray [o0, o1, o2, o3]) true).wp P Q a W := by
 obtain ⟨hB, hx, hy, hz, hw_, hG, hhi⟩ := hI
 have lw := hw_.lt
 obtain ⟨M, hMe⟩ : ∃ M, M = W.heap.size := ⟨_, rfl⟩
 have hM : M ≤ W.heap.size := by omega
 have hhi2 : hi2 ≤ M := by omega
 clear hMe
 refine wp_region2v (fun w w' => Below w.heap.size w w') (fun _ _ h => h.size) (fun _ => Below.refl _ _) (fun L W' => Below w.heap.size w W' ∧ BoxAt W' X (aS s2 A2 n2 c2) 32 ∧ BoxAt W' Y (aH h2) 35 ∧ RgsW lo2 hi2 W' A2 n2 c2 s2.rs ∧ M ≤ W'.heap.size ∧ (∃ x0 x1 x2 x3 x4, BoxAt W' (w.heap.size + 1 + 1) #[x0, x1, x2, x3, x4] 32) ∧ (∃ x0 x1 x2 x3 x4 x5 x6 x7 x8 x9 x10 x11, BoxAt W' (w.heap.size + 1 + 1 + 1) #[x0, x1, x2, x3, x4, x5, x6, x7, x8, x9, x10, x11] 35)) (ret4V s2 w.heap.size n2 c2 A2 h2) (fun j => [0, 0, 1, 1].getD j 0) [] hm hg ⟨fun _ _ _ _ h => h, fun _ _ _ _ h => h, trivial⟩ ⟨fun σ w w' hb hR => hR.below hb hR.lt, fun σ w w' hb hR => hR.below hb hR.lt, trivial⟩ ⟨hB.drew, hx, hy, hG, hM, ⟨_, _, _, _, _, hz⟩, ⟨_, _, _, _, _, _, _, _, _, _, _, _, hw_⟩⟩
  (.still rfl ?_ <| .still rfl ?_ <| .store rfl ?_ <| .store rfl ?_ <| .nil) (fun _ _ _ _ h => h) ?_
 ·
  exact ztail6
 ·
  exact ztail7
 ·
  intro L σ W' hcl hL hC hw hne
  obtain ⟨hB, hx, hy, hG, hM, ⟨x0, x1, x2, x3, x4, hz⟩, ⟨x0, x1, x2, x3, x4, x5, x6, x7, x8, x9, x10, x11, hw_⟩⟩ := hC
  have e0 := wV hw 0 rfl w20
  have k := k2 (σ 1) W' _ _ _ _ _ hz
  exact ztail0
 ·
  intro L σ W' hcl hL hC hw hne
  obtain ⟨hB, hx, hy, hG, hM, ⟨x0, x1, x2, x3, x4, hz⟩, ⟨x0, x1, x2, x3, x4, x5, x6, x7, x8, x9, x10, x11, hw_⟩⟩ := hC
  have e1 := wV hw 1 rfl w31
  have k := k3 (σ 0) (σ 2) W' _ _ _ _ _ _ _ _ _ _ _ _ hw_
  rw [← e1] at k
  refine k.mono fun v w1 h => ?_
  subst h
  have hset := sets_all (us := (aH h2)) hw_ rfl
  exact ztail1
 ·
  intro σ L W' hall hC hRR
  obtain ⟨hB, hx, hy, hG, hM, ⟨x0, x1, x2, x3, x4, hz⟩, ⟨x0, x1, x2, x3, x4, x5, x6, x7, x8, x9, x10, x11, hw_⟩⟩ := hC
  exact hQ σ W' (dV hRR 0 rfl (by simp)) hB (dE hRR 2 rfl (by simp)) (dE hRR 3 rfl (by simp)) hG (Nat.le_trans hhi2 hM)
def ret5V (re : Int) (s2 : St) (N n2 c2 : Nat) (A2 : Option Addr) (h2 : Hd) : List Sl := [.v (.agg (aS s2 A2 n2 c2)), .v (.agg (aH h2)), .v (.agg (eH 0 0 0 0 false 0 false 0 0 h2.sp false re)),
 .e fun _ w => BoxAt w (N + 1 + 1) (aS s2 A2 n2 c2) 32, .e fun _ w => BoxAt w (N + 1 + 1 + 1) (eH 0 0 0 0 false 0 false 0 0 h2.sp false re) 35]
theorem ret5 {P : Program} {id : Nat} {Q : Exit → Act → World → Prop} {a : Act} {o0 o1 o2 o3 o4 : Oper} (w : World) (re : Int) (s2 : St) (lo2 hi2 : Nat) (A2 : Option Addr) (n2 c2 : Nat) (h2 : Hd) (X Y : Nat) {W : World}
  (hm : P.follows .mixedOrders = true) (hg : growB [o0, o1, o2, o3, o4] (SV (ret5V re s2 w.heap.size n2 c2 A2 h2) []) = true) (w30 : waits [o0, o1, o2, o3, o4] 3 0 = true) (w21 : waits [o0, o1, o2, o3, o4] 2 1 = true) (w42 : waits [o0, o1, o2, o3, o4] 4 2 = true)
  (hd : (w.heap.size + 2 < lo2 ∨ hi2 ≤ w.heap.size + 2) ∧ (w.heap.size + 3 < lo2 ∨ hi2 ≤ w.heap.size + 3)) (hXY : X ≠ w.heap.size + 2 ∧ X ≠ w.heap.size + 3 ∧ Y ≠ w.heap.size + 2 ∧ Y ≠ w.heap.size + 3)
  (hI : Below w.heap.size w W ∧ BoxAt W X (aS s2 A2 n2 c2) 32 ∧ BoxAt W Y (aH h2) 35 ∧ BoxAt W (w.heap.size + 1 + 1) zS 32 ∧ BoxAt W (w.heap.size + 1 + 1 + 1) zH 35 ∧ RgsW lo2 hi2 W A2 n2 c2 s2.rs ∧ hi2 ≤ W.heap.size)
  (k0 : ∀ W', BoxAt W' X (aS s2 A2 n2 c2) 32 → OpGoes P (List.toArray [o0, o1, o2, o3, o4]) o0 a W' fun v w' => w' = W' ∧ v = .agg (aS s2 A2 n2 c2))
  (k1 : ∀ u0 W', BoxAt W' Y (aH h2) 35 → OpGoes P (List.toArray [o0, o1, o2, o3, o4]) o1 (a.put o0.dst (u0)) W' fun v w' => w' = W' ∧ v = .agg (aH h2))
  (k2 : ∀ u0 W', OpGoes P (List.toArray [o0, o1, o2, o3, o4]) o2 ((a.put o0.dst (u0)).put o1.dst (.agg (aH h2))) W' fun v w' => v = .agg (eH 0 0 0 0 false 0 false 0 0 h2.sp false re) ∧ Below W'.heap.size W' w')
  (k3 : ∀ u1 u2 W' x0 x1 x2 x3 x4, BoxAt W' (w.heap.size + 1 + 1) #[x0, x1, x2, x3, x4] 32 → OpGoes P (List.toArray [o0, o1, o2, o3, o4]) o3 (((a.put o0.dst (.agg (aS s2 A2 n2 c2))).put o1.dst (u1)).put o2.dst (u2)) W' fun _ w' => w' = setCells W' (w.heap.size + 1 + 1) 0 (aS s2 A2 n2 c2))
  (k4 : ∀ u0 u1 u3 W' x0 x1 x2 x3 x4 x5 x6 x7 x8 x9 x10 x11, BoxAt W' (w.heap.size + 1 + 1 + 1) #[x0, x1, x2, x3, x4, x5, x6, x7, x8, x9, x10, x11] 35 → OpGoes P (List.toArray [o0, o1, o2, o3, o4]) o4 ((((a.put o0.dst (u0)).put o1.dst (u1)).put o2.dst (.agg (eH 0 0 0 0 false 0 false 0 0 h2.sp false re))).put o3.dst (u3)) W' fun _ w' => w' = setCells W' (w.heap.size + 1 + 1 + 1) 0 (eH 0 0 0 0 false 0 false 0 0 h2.sp false re))
  (hQ : ∀ (σ : Nat → Value) (W' : World), σ 0 = .agg (aS s2 A2 n2 c2) → Below w.heap.size w W' → BoxAt W' (w.heap.size + 1 + 1) (aS s2 A2 n2 c2) 32 → BoxAt W' (w.heap.size + 1 + 1 + 1) (eH 0 0 0 0 false 0 false 0 0 h2.sp false re) 35 → RgsW lo2 hi2 W' A2 n2 c2 s2.rs → hi2 ≤ W'.heap.size → Q .normal (lexAll [o0, o1, o2, o3, o4] 0 a σ) W') :
  (Code.region id (List.toArray [o0, o1, o2, o3, o4]) true).wp P Q a W := by
 obtain ⟨hB, hx, hy, hz, hw_, hG, hhi⟩ := hI
 have lw := hw_.lt
 obtain ⟨M, hMe⟩ : ∃ M, M = W.heap.size := ⟨_, rfl⟩
 have hM : M ≤ W.heap.size := by omega
 have hhi2 : hi2 ≤ M := by omega
 clear hMe
 refine wp_region2v (fun w w' => Below w.heap.size w w') (fun _ _ h => h.size) (fun _ => Below.refl _ _) (fun L W' => Below w.heap.size w W' ∧ BoxAt W' X (aS s2 A2 n2 c2) 32 ∧ BoxAt W' Y (aH h2) 35 ∧ RgsW lo2 hi2 W' A2 n2 c2 s2.rs ∧ M ≤ W'.heap.size ∧ (∃ x0 x1 x2 x3 x4, BoxAt W' (w.heap.size + 1 + 1) #[x0, x1, x2, x3, x4] 32) ∧ (∃ x0 x1 x2 x3 x4 x5 x6 x7 x8 x9 x10 x11, BoxAt W' (w.heap.size + 1 + 1 + 1) #[x0, x1, x2, x3, x4, x5, x6, x7, x8, x9, x10, x11] 35)) (ret5V re s2 w.heap.size n2 c2 A2 h2) (fun j => [0, 0, 0, 1, 1].getD j 0) [] hm hg ⟨fun _ _ _ _ h => h, fun _ _ _ _ h => h, trivial⟩ ⟨fun σ w w' hb hR => hR.below hb hR.lt, fun σ w w' hb hR => hR.below hb hR.lt, trivial⟩ ⟨hB.drew, hx, hy, hG, hM, ⟨_, _, _, _, _, hz⟩, ⟨_, _, _, _, _, _, _, _, _, _, _, _, hw_⟩⟩
  (.still rfl ?_ <| .still rfl ?_ <| .grow rfl ?_ <| .store rfl ?_ <| .store rfl ?_ <| .nil) (fun _ _ _ _ h => h) ?_
 ·
  exact ztail6
 ·
  exact ztail7
 ·
  exact ztail4
 ·
  intro L σ W' hcl hL hC hw hne
  obtain ⟨hB, hx, hy, hG, hM, ⟨x0, x1, x2, x3, x4, hz⟩, ⟨x0, x1, x2, x3, x4, x5, x6, x7, x8, x9, x10, x11, hw_⟩⟩ := hC
  have e0 := wV hw 0 rfl w30
  have k := k3 (σ 1) (σ 2) W' _ _ _ _ _ hz
  exact ztail0
 ·
  intro L σ W' hcl hL hC hw hne
  obtain ⟨hB, hx, hy, hG, hM, ⟨x0, x1, x2, x3, x4, hz⟩, ⟨x0, x1, x2, x3, x4, x5, x6, x7, x8, x9, x10, x11, hw_⟩⟩ := hC
  have e1 := wV hw 2 rfl w42
  have k := k4 (σ 0) (σ 1) (σ 3) W' _ _ _ _ _ _ _ _ _ _ _ _ hw_
  rw [← e1] at k
  refine k.mono fun v w1 h => ?_
  subst h
  have hset := sets_all (us := (eH 0 0 0 0 false 0 false 0 0 h2.sp false re)) hw_ rfl
  exact ztail1
 ·
  exact ztail10
def ret5gV (h3 : Hd) (s2 : St) (N n2 c2 : Nat) (A2 : Option Addr) (h2 : Hd) : List Sl := [.v (.agg (aS s2 A2 n2 c2)), .v (.agg (aH h2)), .v (.agg (aH h3)),
 .e fun _ w => BoxAt w (N + 1 + 1) (aS s2 A2 n2 c2) 32, .e fun _ w => BoxAt w (N + 1 + 1 + 1) (aH h3) 35]
theorem ret5g {P : Program} {id : Nat} {Q : Exit → Act → World → Prop} {a : Act} {o0 o1 o2 o3 o4 : Oper} (w : World) (h3 : Hd) (s2 : St) (lo2 hi2 : Nat) (A2 : Option Addr) (n2 c2 : Nat) (h2 : Hd) (X Y : Nat) {W : World}
  (hm : P.follows .mixedOrders = true) (hg : growB [o0, o1, o2, o3, o4] (SV (ret5gV h3 s2 w.heap.size n2 c2 A2 h2) []) = true) (w30 : waits [o0, o1, o2, o3, o4] 3 0 = true) (w21 : waits [o0, o1, o2, o3, o4] 2 1 = true) (w42 : waits [o0, o1, o2, o3, o4] 4 2 = true)
  (hd : (w.heap.size + 2 < lo2 ∨ hi2 ≤ w.heap.size + 2) ∧ (w.heap.size + 3 < lo2 ∨ hi2 ≤ w.heap.size + 3)) (hXY : X ≠ w.heap.size + 2 ∧ X ≠ w.heap.size + 3 ∧ Y ≠ w.heap.size + 2 ∧ Y ≠ w.heap.size + 3)
  (hI : Below w.heap.size w W ∧ BoxAt W X (aS s2 A2 n2 c2) 32 ∧ BoxAt W Y (aH h2) 35 ∧ BoxAt W (w.heap.size + 1 + 1) zS 32 ∧ BoxAt W (w.heap.size + 1 + 1 + 1) zH 35 ∧ RgsW lo2 hi2 W A2 n2 c2 s2.rs ∧ hi2 ≤ W.heap.size)
  (k0 : ∀ W', BoxAt W' X (aS s2 A2 n2 c2) 32 → OpGoes P (List.toArray [o0, o1, o2, o3, o4]) o0 a W' fun v w' => w' = W' ∧ v = .agg (aS s2 A2 n2 c2))
  (k1 : ∀ u0 W', BoxAt W' Y (aH h2) 35 → OpGoes P (List.toArray [o0, o1, o2, o3, o4]) o1 (a.put o0.dst (u0)) W' fun v w' => w' = W' ∧ v = .agg (aH h2))
  (k2 : ∀ u0 W', OpGoes P (List.toArray [o0, o1, o2, o3, o4]) o2 ((a.put o0.dst (u0)).put o1.dst (.agg (aH h2))) W' fun v w' => v = .agg (aH h3) ∧ Below W'.heap.size W' w')
  (k3 : ∀ u1 u2 W' x0 x1 x2 x3 x4, BoxAt W' (w.heap.size + 1 + 1) #[x0, x1, x2, x3, x4] 32 → OpGoes P (List.toArray [o0, o1, o2, o3, o4]) o3 (((a.put o0.dst (.agg (aS s2 A2 n2 c2))).put o1.dst (u1)).put o2.dst (u2)) W' fun _ w' => w' = setCells W' (w.heap.size + 1 + 1) 0 (aS s2 A2 n2 c2))
  (k4 : ∀ u0 u1 u3 W' x0 x1 x2 x3 x4 x5 x6 x7 x8 x9 x10 x11, BoxAt W' (w.heap.size + 1 + 1 + 1) #[x0, x1, x2, x3, x4, x5, x6, x7, x8, x9, x10, x11] 35 → OpGoes P (List.toArray [o0, o1, o2, o3, o4]) o4 ((((a.put o0.dst (u0)).put o1.dst (u1)).put o2.dst (.agg (aH h3))).put o3.dst (u3)) W' fun _ w' => w' = setCells W' (w.heap.size + 1 + 1 + 1) 0 (aH h3))
  (hQ : ∀ (σ : Nat → Value) (W' : World), σ 0 = .agg (aS s2 A2 n2 c2) → Below w.heap.size w W' → BoxAt W' (w.heap.size + 1 + 1) (aS s2 A2 n2 c2) 32 → BoxAt W' (w.heap.size + 1 + 1 + 1) (aH h3) 35 → RgsW lo2 hi2 W' A2 n2 c2 s2.rs → hi2 ≤ W'.heap.size → Q .normal (lexAll [o0, o1, o2, o3, o4] 0 a σ) W') :
  (Code.region id (List.toArray [o0, o1, o2, o3, o4]) true).wp P Q a W := by
 obtain ⟨hB, hx, hy, hz, hw_, hG, hhi⟩ := hI
 have lw := hw_.lt
 obtain ⟨M, hMe⟩ : ∃ M, M = W.heap.size := ⟨_, rfl⟩
 have hM : M ≤ W.heap.size := by omega
 have hhi2 : hi2 ≤ M := by omega
 clear hMe
 refine wp_region2v (fun w w' => Below w.heap.size w w') (fun _ _ h => h.size) (fun _ => Below.refl _ _) (fun L W' => Below w.heap.size w W' ∧ BoxAt W' X (aS s2 A2 n2 c2) 32 ∧ BoxAt W' Y (aH h2) 35 ∧ RgsW lo2 hi2 W' A2 n2 c2 s2.rs ∧ M ≤ W'.heap.size ∧ (∃ x0 x1 x2 x3 x4, BoxAt W' (w.heap.size + 1 + 1) #[x0, x1, x2, x3, x4] 32) ∧ (∃ x0 x1 x2 x3 x4 x5 x6 x7 x8 x9 x10 x11, BoxAt W' (w.heap.size + 1 + 1 + 1) #[x0, x1, x2, x3, x4, x5, x6, x7, x8, x9, x10, x11] 35)) (ret5gV h3 s2 w.heap.size n2 c2 A2 h2) (fun j => [0, 0, 0, 1, 1].getD j 0) [] hm hg ⟨fun _ _ _ _ h => h, fun _ _ _ _ h => h, trivial⟩ ⟨fun σ w w' hb hR => hR.below hb hR.lt, fun σ w w' hb hR => hR.below hb hR.lt, trivial⟩ ⟨hB.drew, hx, hy, hG, hM, ⟨_, _, _, _, _, hz⟩, ⟨_, _, _, _, _, _, _, _, _, _, _, _, hw_⟩⟩
  (.still rfl ?_ <| .still rfl ?_ <| .grow rfl ?_ <| .store rfl ?_ <| .store rfl ?_ <| .nil) (fun _ _ _ _ h => h) ?_
 ·
  exact ztail6
 ·
  exact ztail7
 ·
  exact ztail4
 ·
  intro L σ W' hcl hL hC hw hne
  obtain ⟨hB, hx, hy, hG, hM, ⟨x0, x1, x2, x3, x4, hz⟩, ⟨x0, x1, x2, x3, x4, x5, x6, x7, x8, x9, x10, x11, hw_⟩⟩ := hC
  have e0 := wV hw 0 rfl w30
  have k := k3 (σ 1) (σ 2) W' _ _ _ _ _ hz
  exact ztail0
 ·
  intro L σ W' hcl hL hC hw hne
  obtain ⟨hB, hx, hy, hG, hM, ⟨x0, x1, x2, x3, x4, hz⟩, ⟨x0, x1, x2, x3, x4, x5, x6, x7, x8, x9, x10, x11, hw_⟩⟩ := hC
  have e1 := wV hw 2 rfl w42
  have k := k4 (σ 0) (σ 1) (σ 3) W' _ _ _ _ _ _ _ _ _ _ _ _ hw_
  rw [← e1] at k
  refine k.mono fun v w1 h => ?_
  subst h
  have hset := sets_all (us := (aH h3)) hw_ rfl
  exact ztail1
 ·
  exact ztail10
def ret4bV (bv : Bool) (s2 : St) (N n2 c2 : Nat) (A2 : Option Addr) (h2 : Hd) : List Sl := [.v (.agg (aS s2 A2 n2 c2)), .v (.agg (aH h2)),
 .e fun _ w => BoxAt w (N + 1 + 1) (aS s2 A2 n2 c2) 32, .e fun _ w => BoxAt w (N + 1 + 1 + 1) (aH h2) 35, .v (.bool bv)]
theorem ret4b {P : Program} {id : Nat} {Q : Exit → Act → World → Prop} {a : Act} {o0 o1 o2 o3 o4 : Oper} (w : World) (bv : Bool) (s2 : St) (lo2 hi2 : Nat) (A2 : Option Addr) (n2 c2 : Nat) (h2 : Hd) (X Y : Nat) {W : World}
  (hm : P.follows .mixedOrders = true) (hg : growB [o0, o1, o2, o3, o4] (SV (ret4bV bv s2 w.heap.size n2 c2 A2 h2) []) = true) (w20 : waits [o0, o1, o2, o3, o4] 2 0 = true) (w31 : waits [o0, o1, o2, o3, o4] 3 1 = true)
  (hd : (w.heap.size + 2 < lo2 ∨ hi2 ≤ w.heap.size + 2) ∧ (w.heap.size + 3 < lo2 ∨ hi2 ≤ w.heap.size + 3)) (hXY : X ≠ w.heap.size + 2 ∧ X ≠ w.heap.size + 3 ∧ Y ≠ w.heap.size + 2 ∧ Y ≠ w.heap.size + 3)
  (hI : Below w.heap.size w W ∧ BoxAt W X (aS s2 A2 n2 c2) 32 ∧ BoxAt W Y (aH h2) 35 ∧ BoxAt W (w.heap.size + 1 + 1) zS 32 ∧ BoxAt W (w.heap.size + 1 + 1 + 1) zH 35 ∧ RgsW lo2 hi2 W A2 n2 c2 s2.rs ∧ hi2 ≤ W.heap.size)
  (k0 : ∀ W', BoxAt W' X (aS s2 A2 n2 c2) 32 → OpGoes P (List.toArray [o0, o1, o2, o3, o4]) o0 a W' fun v w' => w' = W' ∧ v = .agg (aS s2 A2 n2 c2))
  (k1 : ∀ u0 W', BoxAt W' Y (aH h2) 35 → OpGoes P (List.toArray [o0, o1, o2, o3, o4]) o1 (a.put o0.dst (u0)) W' fun v w' => w' = W' ∧ v = .agg (aH h2))
  (k2 : ∀ u1 W' x0 x1 x2 x3 x4, BoxAt W' (w.heap.size + 1 + 1) #[x0, x1, x2, x3, x4] 32 → OpGoes P (List.toArray [o0, o1, o2, o3, o4]) o2 ((a.put o0.dst (.agg (aS s2 A2 n2 c2))).put o1.dst (u1)) W' fun _ w' => w' = setCells W' (w.heap.size + 1 + 1) 0 (aS s2 A2 n2 c2))
  (k3 : ∀ u0 u2 W' x0 x1 x2 x3 x4 x5 x6 x7 x8 x9 x10 x11, BoxAt W' (w.heap.size + 1 + 1 + 1) #[x0, x1, x2, x3, x4, x5, x6, x7, x8, x9, x10, x11] 35 → OpGoes P (List.toArray [o0, o1, o2, o3, o4]) o3 (((a.put o0.dst (u0)).put o1.dst (.agg (aH h2))).put o2.dst (u2)) W' fun _ w' => w' = setCells W' (w.heap.size + 1 + 1 + 1) 0 (aH h2))
  (k4 : ∀ u0 u1 u2 u3 W', OpGoes P (List.toArray [o0, o1, o2, o3, o4]) o4 ((((a.put o0.dst (u0)).put o1.dst (u1)).put o2.dst (u2)).put o3.dst (u3)) W' fun v w' => w' = W' ∧ v = .bool bv)
  (hQ : ∀ (σ : Nat → Value) (W' : World), σ 4 = .bool bv → Below w.heap.size w W' → BoxAt W' (w.heap.size + 1 + 1) (aS s2 A2 n2 c2) 32 → BoxAt W' (w.heap.size + 1 + 1 + 1) (aH h2) 35 → RgsW lo2 hi2 W' A2 n2 c2 s2.rs → hi2 ≤ W'.heap.size → Q .normal (lexAll [o0, o1, o2, o3, o4] 0 a σ) W') :
  (Code.region id (List.toArray [o0, o1, o2, o3, o4]) true).wp P Q a W := by
 obtain ⟨hB, hx, hy, hz, hw_, hG, hhi⟩ := hI
 have lw := hw_.lt
 obtain ⟨M, hMe⟩ : ∃ M, M = W.heap.size := ⟨_, rfl⟩
 have hM : M ≤ W.heap.size := by omega
 have hhi2 : hi2 ≤ M := by omega
 clear hMe
 refine wp_region2v (fun w w' => Below w.heap.size w w') (fun _ _ h => h.size) (fun _ => Below.refl _ _) (fun L W' => Below w.heap.size w W' ∧ BoxAt W' X (aS s2 A2 n2 c2) 32 ∧ BoxAt W' Y (aH h2) 35 ∧ RgsW lo2 hi2 W' A2 n2 c2 s2.rs ∧ M ≤ W'.heap.size ∧ (∃ x0 x1 x2 x3 x4, BoxAt W' (w.heap.size + 1 + 1) #[x0, x1, x2, x3, x4] 32) ∧ (∃ x0 x1 x2 x3 x4 x5 x6 x7 x8 x9 x10 x11, BoxAt W' (w.heap.size + 1 + 1 + 1) #[x0, x1, x2, x3, x4, x5, x6, x7, x8, x9, x10, x11] 35)) (ret4bV bv s2 w.heap.size n2 c2 A2 h2) (fun j => [0, 0, 1, 1, 0].getD j 0) [] hm hg ⟨fun _ _ _ _ h => h, fun _ _ _ _ h => h, trivial⟩ ⟨fun σ w w' hb hR => hR.below hb hR.lt, fun σ w w' hb hR => hR.below hb hR.lt, trivial⟩ ⟨hB.drew, hx, hy, hG, hM, ⟨_, _, _, _, _, hz⟩, ⟨_, _, _, _, _, _, _, _, _, _, _, _, hw_⟩⟩
  (.still rfl ?_ <| .still rfl ?_ <| .store rfl ?_ <| .store rfl ?_ <| .still rfl ?_ <| .nil) (fun _ _ _ _ h => h) ?_
 ·
  exact ztail6
 ·
  exact ztail7
 ·
  intro L σ W' hcl hL hC hw hne
  obtain ⟨hB, hx, hy, hG, hM, ⟨x0, x1, x2, x3, x4, hz⟩, ⟨x0, x1, x2, x3, x4, x5, x6, x7, x8, x9, x10, x11, hw_⟩⟩ := hC
  have e0 := wV hw 0 rfl w20
  have k := k2 (σ 1) W' _ _ _ _ _ hz
  exact ztail0
 ·
  intro L σ W' hcl hL hC hw hne
  obtain ⟨hB, hx, hy, hG, hM, ⟨x0, x1, x2, x3, x4, hz⟩, ⟨x0, x1, x2, x3, x4, x5, x6, x7, x8, x9, x10, x11, hw_⟩⟩ := hC
  have e1 := wV hw 1 rfl w31
  have k := k3 (σ 0) (σ 2) W' _ _ _ _ _ _ _ _ _ _ _ _ hw_
  rw [← e1] at k
  refine k.mono fun v w1 h => ?_
  subst h
  have hset := sets_all (us := (aH h2)) hw_ rfl
  exact ztail1
 ·
  intro L σ W' hcl hL hC hw
  exact (k4 _ _ _ _ W').mono fun v w' h => ⟨h.1, h.2⟩
 ·
  intro σ L W' hall hC hRR
  obtain ⟨hB, hx, hy, hG, hM, ⟨x0, x1, x2, x3, x4, hz⟩, ⟨x0, x1, x2, x3, x4, x5, x6, x7, x8, x9, x10, x11, hw_⟩⟩ := hC
  exact hQ σ W' (dV hRR 4 rfl (by simp)) hB (dE hRR 2 rfl (by simp)) (dE hRR 3 rfl (by simp)) hG (Nat.le_trans hhi2 hM)
def ret5bV (bv : Bool) (re : Int) (s2 : St) (N n2 c2 : Nat) (A2 : Option Addr) (h2 : Hd) : List Sl := [.v (.agg (aS s2 A2 n2 c2)), .v (.agg (aH h2)), .v (.agg (eH 0 0 0 0 false 0 false 0 0 h2.sp false re)),
 .e fun _ w => BoxAt w (N + 1 + 1) (aS s2 A2 n2 c2) 32, .e fun _ w => BoxAt w (N + 1 + 1 + 1) (eH 0 0 0 0 false 0 false 0 0 h2.sp false re) 35, .v (.bool bv)]
theorem ret5b {P : Program} {id : Nat} {Q : Exit → Act → World → Prop} {a : Act} {o0 o1 o2 o3 o4 o5 : Oper} (w : World) (bv : Bool) (re : Int) (s2 : St) (lo2 hi2 : Nat) (A2 : Option Addr) (n2 c2 : Nat) (h2 : Hd) (X Y : Nat) {W : World}
  (hm : P.follows .mixedOrders = true) (hg : growB [o0, o1, o2, o3, o4, o5] (SV (ret5bV bv re s2 w.heap.size n2 c2 A2 h2) []) = true) (w30 : waits [o0, o1, o2, o3, o4, o5] 3 0 = true) (w21 : waits [o0, o1, o2, o3, o4, o5] 2 1 = true) (w42 : waits [o0, o1, o2, o3, o4, o5] 4 2 = true)
  (hd : (w.heap.size + 2 < lo2 ∨ hi2 ≤ w.heap.size + 2) ∧ (w.heap.size + 3 < lo2 ∨ hi2 ≤ w.heap.size + 3)) (hXY : X ≠ w.heap.size + 2 ∧ X ≠ w.heap.size + 3 ∧ Y ≠ w.heap.size + 2 ∧ Y ≠ w.heap.size + 3)
  (hI : Below w.heap.size w W ∧ BoxAt W X (aS s2 A2 n2 c2) 32 ∧ BoxAt W Y (aH h2) 35 ∧ BoxAt W (w.heap.size + 1 + 1) zS 32 ∧ BoxAt W (w.heap.size + 1 + 1 + 1) zH 35 ∧ RgsW lo2 hi2 W A2 n2 c2 s2.rs ∧ hi2 ≤ W.heap.size)
  (k0 : ∀ W', BoxAt W' X (aS s2 A2 n2 c2) 32 → OpGoes P (List.toArray [o0, o1, o2, o3, o4, o5]) o0 a W' fun v w' => w' = W' ∧ v = .agg (aS s2 A2 n2 c2))
  (k1 : ∀ u0 W', BoxAt W' Y (aH h2) 35 → OpGoes P (List.toArray [o0, o1, o2, o3, o4, o5]) o1 (a.put o0.dst (u0)) W' fun v w' => w' = W' ∧ v = .agg (aH h2))
  (k2 : ∀ u0 W', OpGoes P (List.toArray [o0, o1, o2, o3, o4, o5]) o2 ((a.put o0.dst (u0)).put o1.dst (.agg (aH h2))) W' fun v w' => v = .agg (eH 0 0 0 0 false 0 false 0 0 h2.sp false re) ∧ Below W'.heap.size W' w')
  (k3 : ∀ u1 u2 W' x0 x1 x2 x3 x4, BoxAt W' (w.heap.size + 1 + 1) #[x0, x1, x2, x3, x4] 32 → OpGoes P (List.toArray [o0, o1, o2, o3, o4, o5]) o3 (((a.put o0.dst (.agg (aS s2 A2 n2 c2))).put o1.dst (u1)).put o2.dst (u2)) W' fun _ w' => w' = setCells W' (w.heap.size + 1 + 1) 0 (aS s2 A2 n2 c2))
  (k4 : ∀ u0 u1 u3 W' x0 x1 x2 x3 x4 x5 x6 x7 x8 x9 x10 x11, BoxAt W' (w.heap.size + 1 + 1 + 1) #[x0, x1, x2, x3, x4, x5, x6, x7, x8, x9, x10, x11] 35 → OpGoes P (List.toArray [o0, o1, o2, o3, o4, o5]) o4 ((((a.put o0.dst (u0)).put o1.dst (u1)).put o2.dst (.agg (eH 0 0 0 0 false 0 false 0 0 h2.sp false re))).put o3.dst (u3)) W' fun _ w' => w' = setCells W' (w.heap.size + 1 + 1 + 1) 0 (eH 0 0 0 0 false 0 false 0 0 h2.sp false re))
  (k5 : ∀ u0 u1 u2 u3 u4 W', OpGoes P (List.toArray [o0, o1, o2, o3, o4, o5]) o5 (((((a.put o0.dst (u0)).put o1.dst (u1)).put o2.dst (u2)).put o3.dst (u3)).put o4.dst (u4)) W' fun v w' => w' = W' ∧ v = .bool bv)
  (hQ : ∀ (σ : Nat → Value) (W' : World), σ 5 = .bool bv → Below w.heap.size w W' → BoxAt W' (w.heap.size + 1 + 1) (aS s2 A2 n2 c2) 32 → BoxAt W' (w.heap.size + 1 + 1 + 1) (eH 0 0 0 0 false 0 false 0 0 h2.sp false re) 35 → RgsW lo2 hi2 W' A2 n2 c2 s2.rs → hi2 ≤ W'.heap.size → Q .normal (lexAll [o0, o1, o2, o3, o4, o5] 0 a σ) W') :
  (Code.region id (List.toArray [o0, o1, o2, o3, o4, o5]) true).wp P Q a W := by
 obtain ⟨hB, hx, hy, hz, hw_, hG, hhi⟩ := hI
 have lw := hw_.lt
 obtain ⟨M, hMe⟩ : ∃ M, M = W.heap.size := ⟨_, rfl⟩
 have hM : M ≤ W.heap.size := by omega
 have hhi2 : hi2 ≤ M := by omega
 clear hMe
 refine wp_region2v (fun w w' => Below w.heap.size w w') (fun _ _ h => h.size) (fun _ => Below.refl _ _) (fun L W' => Below w.heap.size w W' ∧ BoxAt W' X (aS s2 A2 n2 c2) 32 ∧ BoxAt W' Y (aH h2) 35 ∧ RgsW lo2 hi2 W' A2 n2 c2 s2.rs ∧ M ≤ W'.heap.size ∧ (∃ x0 x1 x2 x3 x4, BoxAt W' (w.heap.size + 1 + 1) #[x0, x1, x2, x3, x4] 32) ∧ (∃ x0 x1 x2 x3 x4 x5 x6 x7 x8 x9 x10 x11, BoxAt W' (w.heap.size + 1 + 1 + 1) #[x0, x1, x2, x3, x4, x5, x6, x7, x8, x9, x10, x11] 35)) (ret5bV bv re s2 w.heap.size n2 c2 A2 h2) (fun j => [0, 0, 0, 1, 1, 0].getD j 0) [] hm hg ⟨fun _ _ _ _ h => h, fun _ _ _ _ h => h, trivial⟩ ⟨fun σ w w' hb hR => hR.below hb hR.lt, fun σ w w' hb hR => hR.below hb hR.lt, trivial⟩ ⟨hB.drew, hx, hy, hG, hM, ⟨_, _, _, _, _, hz⟩, ⟨_, _, _, _, _, _, _, _, _, _, _, _, hw_⟩⟩
  (.still rfl ?_ <| .still rfl ?_ <| .grow rfl ?_ <| .store rfl ?_ <| .store rfl ?_ <| .still rfl ?_ <| .nil) (fun _ _ _ _ h => h) ?_
 ·
  exact ztail6
 ·
  exact ztail7
 ·
  exact ztail4
 ·
  intro L σ W' hcl hL hC hw hne
  obtain ⟨hB, hx, hy, hG, hM, ⟨x0, x1, x2, x3, x4, hz⟩, ⟨x0, x1, x2, x3, x4, x5, x6, x7, x8, x9, x10, x11, hw_⟩⟩ := hC
  have e0 := wV hw 0 rfl w30
  have k := k3 (σ 1) (σ 2) W' _ _ _ _ _ hz
  exact ztail0
 ·
  intro L σ W' hcl hL hC hw hne
  obtain ⟨hB, hx, hy, hG, hM, ⟨x0, x1, x2, x3, x4, hz⟩, ⟨x0, x1, x2, x3, x4, x5, x6, x7, x8, x9, x10, x11, hw_⟩⟩ := hC
  have e1 := wV hw 2 rfl w42
  have k := k4 (σ 0) (σ 1) (σ 3) W' _ _ _ _ _ _ _ _ _ _ _ _ hw_
  rw [← e1] at k
  refine k.mono fun v w1 h => ?_
  subst h
  have hset := sets_all (us := (eH 0 0 0 0 false 0 false 0 0 h2.sp false re)) hw_ rfl
  exact ztail1
 ·
  intro L σ W' hcl hL hC hw
  exact (k5 _ _ _ _ _ W').mono fun v w' h => ⟨h.1, h.2⟩
 ·
  intro σ L W' hall hC hRR
  obtain ⟨hB, hx, hy, hG, hM, ⟨x0, x1, x2, x3, x4, hz⟩, ⟨x0, x1, x2, x3, x4, x5, x6, x7, x8, x9, x10, x11, hw_⟩⟩ := hC
  exact hQ σ W' (dV hRR 5 rfl (by simp)) hB (dE hRR 3 rfl (by simp)) (dE hRR 4 rfl (by simp)) hG (Nat.le_trans hhi2 hM)
def ret6V (G : World → Option Addr → Nat → Nat → Prop) (bv : Bool) (s2 : St) (N n2 c2 : Nat) (A2 : Option Addr) (h2 : Hd) : List Sl := [.v (.agg (aS s2 A2 n2 c2)),
 .e fun σ w => ∃ A9 n9 c9, σ 1 = .agg (aS s2 A9 n9 c9) ∧ G w A9 n9 c9, .v (.agg (aH h2)),
 .e fun _ w => ∃ A9 n9 c9, BoxAt w (N + 1 + 1) (aS s2 A9 n9 c9) 32 ∧ G w A9 n9 c9,
 .e fun _ w => BoxAt w (N + 1 + 1 + 1) (aH h2) 35, .v (.bool bv)]
theorem ret6 (G : World → Option Addr → Nat → Nat → Prop) (gb : ∀ W W' A n c, Below W.heap.size W W' → G W A n c → G W' A n c) (gs : ∀ W A n c k cs t us, G W A n c → BoxAt W k cs t → t ≠ 79 → t ≠ 33 → G (setCells W k 0 us) A n c)
  {P : Program} {id : Nat} {Q : Exit → Act → World → Prop} {a : Act} {o0 o1 o2 o3 o4 o5 : Oper} (w : World) (bv : Bool) (s2 : St) (lo2 hi2 : Nat) (A2 : Option Addr) (n2 c2 : Nat) (h2 : Hd) (X Y : Nat) {W : World}
  (hm : P.follows .mixedOrders = true) (hg : growB [o0, o1, o2, o3, o4, o5] (SV (ret6V G bv s2 w.heap.size n2 c2 A2 h2) []) = true) (w10 : waits [o0, o1, o2, o3, o4, o5] 1 0 = true) (w31 : waits [o0, o1, o2, o3, o4, o5] 3 1 = true) (w42 : waits [o0, o1, o2, o3, o4, o5] 4 2 = true)
  (hXY : X ≠ w.heap.size + 2 ∧ X ≠ w.heap.size + 3 ∧ Y ≠ w.heap.size + 2 ∧ Y ≠ w.heap.size + 3)
  (hI : Below w.heap.size w W ∧ BoxAt W X (aS s2 A2 n2 c2) 32 ∧ BoxAt W Y (aH h2) 35 ∧ BoxAt W (w.heap.size + 1 + 1) zS 32 ∧ BoxAt W (w.heap.size + 1 + 1 + 1) zH 35 ∧ RgsW lo2 hi2 W A2 n2 c2 s2.rs ∧ hi2 ≤ W.heap.size)
  (k0 : ∀ W', BoxAt W' X (aS s2 A2 n2 c2) 32 → OpGoes P (List.toArray [o0, o1, o2, o3, o4, o5]) o0 a W' fun v w' => w' = W' ∧ v = .agg (aS s2 A2 n2 c2))
  (k1 : ∀ W', Below w.heap.size w W' → RgsW lo2 hi2 W' A2 n2 c2 s2.rs → hi2 ≤ W'.heap.size → OpGoes P (List.toArray [o0, o1, o2, o3, o4, o5]) o1 (a.put o0.dst (.agg (aS s2 A2 n2 c2))) W' fun v w' => ∃ A9 n9 c9, v = .agg (aS s2 A9 n9 c9) ∧ G w' A9 n9 c9 ∧ Below W'.heap.size W' w')
  (k2 : ∀ u0 u1 W', BoxAt W' Y (aH h2) 35 → OpGoes P (List.toArray [o0, o1, o2, o3, o4, o5]) o2 ((a.put o0.dst (u0)).put o1.dst (u1)) W' fun v w' => w' = W' ∧ v = .agg (aH h2))
  (k3 : ∀ u0 A9 n9 c9 u2 W' x0 x1 x2 x3 x4, BoxAt W' (w.heap.size + 1 + 1) #[x0, x1, x2, x3, x4] 32 → OpGoes P (List.toArray [o0, o1, o2, o3, o4, o5]) o3 (((a.put o0.dst (u0)).put o1.dst (.agg (aS s2 A9 n9 c9))).put o2.dst (u2)) W' fun _ w' => w' = setCells W' (w.heap.size + 1 + 1) 0 (aS s2 A9 n9 c9))
  (k4 : ∀ u0 u1 u3 W' x0 x1 x2 x3 x4 x5 x6 x7 x8 x9 x10 x11, BoxAt W' (w.heap.size + 1 + 1 + 1) #[x0, x1, x2, x3, x4, x5, x6, x7, x8, x9, x10, x11] 35 → OpGoes P (List.toArray [o0, o1, o2, o3, o4, o5]) o4 ((((a.put o0.dst (u0)).put o1.dst (u1)).put o2.dst (.agg (aH h2))).put o3.dst (u3)) W' fun _ w' => w' = setCells W' (w.heap.size + 1 + 1 + 1) 0 (aH h2))
  (k5 : ∀ u0 u1 u2 u3 u4 W', OpGoes P (List.toArray [o0, o1, o2, o3, o4, o5]) o5 (((((a.put o0.dst (u0)).put o1.dst (u1)).put o2.dst (u2)).put o3.dst (u3)).put o4.dst (u4)) W' fun v w' => w' = W' ∧ v = .bool bv)
  (hQ : ∀ (σ : Nat → Value) (W' : World) (A9 : Option Addr) (n9 c9 : Nat), σ 5 = .bool bv → Below w.heap.size w W' → BoxAt W' (w.heap.size + 1 + 1) (aS s2 A9 n9 c9) 32 → BoxAt W' (w.heap.size + 1 + 1 + 1) (aH h2) 35 → G W' A9 n9 c9 → Q .normal (lexAll [o0, o1, o2, o3, o4, o5] 0 a σ) W') :
  (Code.region id (List.toArray [o0, o1, o2, o3, o4, o5]) true).wp P Q a W := by
 obtain ⟨hB, hx, hy, hz, hw_, hG, hhi⟩ := hI
 refine wp_region2v (fun w w' => Below w.heap.size w w') (fun _ _ h => h.size) (fun _ => Below.refl _ _) (fun L W' => Below w.heap.size w W' ∧ BoxAt W' X (aS s2 A2 n2 c2) 32 ∧ BoxAt W' Y (aH h2) 35 ∧ RgsW lo2 hi2 W' A2 n2 c2 s2.rs ∧ hi2 ≤ W'.heap.size ∧ (∃ x0 x1 x2 x3 x4, BoxAt W' (w.heap.size + 1 + 1) #[x0, x1, x2, x3, x4] 32) ∧ (∃ x0 x1 x2 x3 x4 x5 x6 x7 x8 x9 x10 x11, BoxAt W' (w.heap.size + 1 + 1 + 1) #[x0, x1, x2, x3, x4, x5, x6, x7, x8, x9, x10, x11] 35)) (ret6V G bv s2 w.heap.size n2 c2 A2 h2) (fun j => [0, 0, 0, 1, 1, 0].getD j 0) [] hm hg
  ⟨fun _ _ _ h ⟨A, n, c, e, hp⟩ => ⟨A, n, c, (h 1 (List.mem_singleton.2 rfl)).symm.trans e, hp⟩, fun _ _ _ _ h => h, fun _ _ _ _ h => h, trivial⟩
  ⟨fun σ w w' hb ⟨A, n, c, e, hp⟩ => ⟨A, n, c, e, gb _ _ _ _ _ hb hp⟩, fun σ w w' hb ⟨A, n, c, hx, hp⟩ => ⟨A, n, c, hx.below hb hx.lt, gb _ _ _ _ _ hb hp⟩, fun σ w w' hb hR => hR.below hb hR.lt, trivial⟩
  ⟨hB.drew, hx, hy, hG, hhi, ⟨_, _, _, _, _, hz⟩, ⟨_, _, _, _, _, _, _, _, _, _, _, _, hw_⟩⟩
  (.still rfl ?_ <| .grow rfl ?_ <| .still rfl ?_ <| .store rfl ?_ <| .store rfl ?_ <| .still rfl ?_ <| .nil) (fun _ _ _ _ h => h) ?_
 ·
  exact ztail6
 ·
  intro L σ W' hcl hL hC hw
  obtain ⟨hB, hx, hy, hG, hhi, ⟨x0, x1, x2, x3, x4, hz⟩, ⟨x0, x1, x2, x3, x4, x5, x6, x7, x8, x9, x10, x11, hw_⟩⟩ := hC
  have e0 := wV hw 0 rfl w10
  have k := k1 W' hB hG hhi
  rw [← e0] at k
  refine k.mono ?_
  rintro v w1 ⟨A, n, c, e, hD, hb⟩
  exact ⟨⟨bstep hB hB.size hb, hx.below hb hx.lt, hy.below hb hy.lt, hG.below hb hhi, Nat.le_trans hhi hb.size, ⟨_, _, _, _, _, hz.below hb hz.lt⟩, ⟨_, _, _, _, _, _, _, _, _, _, _, _, hw_.below hb hw_.lt⟩⟩, ⟨A, n, c, e, hD⟩, hb⟩
 ·
  intro L σ W' hcl hL hC hw
  exact (k2 _ _ W' hC.2.2.1).mono fun v w' h => ⟨h.1, h.2⟩
 ·
  intro L σ W' hcl hL hC hw hne
  obtain ⟨hB, hx, hy, hG, hhi, ⟨x0, x1, x2, x3, x4, hz⟩, ⟨x0, x1, x2, x3, x4, x5, x6, x7, x8, x9, x10, x11, hw_⟩⟩ := hC
  obtain ⟨A9, n9, c9, e1, hD⟩ := wE hw 1 rfl w31
  have k := k3 (σ 0) A9 n9 c9 (σ 2) W' _ _ _ _ _ hz
  rw [← e1] at k
  refine k.mono fun v w1 h => ?_
  subst h
  have hset := sets_all (us := (aS s2 A9 n9 c9)) hz rfl
  exact ⟨⟨(Below.setCells (by omega) _ 0 hB), (BoxAt.sets_ne _ 0 hx (by omega)), (BoxAt.sets_ne _ 0 hy (by omega)), (RgsW.setsT hG hz (by decide) (by decide) _ 0), Nat.le_trans hhi (Nat.le_of_eq (sets_size _ _ _).symm), ⟨_, _, _, _, _, hset⟩, ⟨_, _, _, _, _, _, _, _, _, _, _, _, (BoxAt.sets_ne _ 0 hw_ (by omega))⟩⟩, ⟨A9, n9, c9, hset, gs _ _ _ _ _ _ _ _ hD hz (by decide) (by decide)⟩, Nat.le_of_eq (sets_size _ _ _).symm, keepV ⟨fun _ _ ⟨A, n, c, e, hp⟩ => ⟨A, n, c, e, gs _ _ _ _ _ _ _ _ hp hz (by decide) (by decide)⟩, fun h => absurd rfl h, fun _ _ hR => BoxAt.sets_ne _ 0 hR (by omega), trivial⟩⟩
 ·
  intro L σ W' hcl hL hC hw hne
  obtain ⟨hB, hx, hy, hG, hhi, ⟨x0, x1, x2, x3, x4, hz⟩, ⟨x0, x1, x2, x3, x4, x5, x6, x7, x8, x9, x10, x11, hw_⟩⟩ := hC
  have e2 := wV hw 2 rfl w42
  have k := k4 (σ 0) (σ 1) (σ 3) W' _ _ _ _ _ _ _ _ _ _ _ _ hw_
  rw [← e2] at k
  refine k.mono fun v w1 h => ?_
  subst h
  have hset := sets_all (us := (aH h2)) hw_ rfl
  exact ⟨⟨(Below.setCells (by omega) _ 0 hB), (BoxAt.sets_ne _ 0 hx (by omega)), (BoxAt.sets_ne _ 0 hy (by omega)), (RgsW.setsT hG hw_ (by decide) (by decide) _ 0), Nat.le_trans hhi (Nat.le_of_eq (sets_size _ _ _).symm), ⟨_, _, _, _, _, (BoxAt.sets_ne _ 0 hz (by omega))⟩, ⟨_, _, _, _, _, _, _, _, _, _, _, _, hset⟩⟩, hset, Nat.le_of_eq (sets_size _ _ _).symm, keepV ⟨fun _ _ ⟨A, n, c, e, hp⟩ => ⟨A, n, c, e, gs _ _ _ _ _ _ _ _ hp hw_ (by decide) (by decide)⟩, fun _ _ ⟨A, n, c, hx, hp⟩ => ⟨A, n, c, BoxAt.sets_ne _ 0 hx (by omega), gs _ _ _ _ _ _ _ _ hp hw_ (by decide) (by decide)⟩, fun h => absurd rfl h, trivial⟩⟩
 ·
  intro L σ W' hcl hL hC hw
  exact (k5 _ _ _ _ _ W').mono fun v w' h => ⟨h.1, h.2⟩
 ·
  intro σ L W' hall hC hRR
  obtain ⟨hB, hx, hy, hG, hhi, ⟨x0, x1, x2, x3, x4, hz⟩, ⟨x0, x1, x2, x3, x4, x5, x6, x7, x8, x9, x10, x11, hw_⟩⟩ := hC
  obtain ⟨A9, n9, c9, hx9, hD⟩ := dE hRR 3 rfl (by simp)
  exact hQ σ W' A9 n9 c9 (dV hRR 5 rfl (by simp)) hB hx9 (dE hRR 4 rfl (by simp)) hD
end Go.Proofs.YthpckpnlohfcbaaGreatDoor
namespace Go.Proofs.YthpckpnlohfcbaaGreatDoor
set_option linter.unusedSimpArgs false
set_option linter.unusedVariables false
open Go.RowKit
attribute [local go_sem] OpUpon
attribute [local go_sem ↓] Go.wp_at_zero Go.wp_at_succ
def p6TV (s2 : St) (N n2 c2 : Nat) (A2 : Option Addr) (h2 : Hd) : List Sl := [.v (.agg #[.int .i64 s2.rd, .int .i64 s2.mo, .slice A2 n2 c2, .int .i64 s2.fi, .int .i64 s2.la]),
 .v (.agg #[.int .i64 h2.at_, .int .i64 h2.v, .int .i64 h2.r, .int .i64 h2.t, .bool h2.seen.s, .int .i64 h2.seen.n, .bool h2.seen.f, .int .i64 h2.seen.v, .int .i64 h2.tr, .int .i64 h2.sp, .bool h2.ag, .int .i64 h2.re]),
 .v (.bool true),
 .v (.bool true),
 .v (.agg #[.int .i64 h2.at_, .int .i64 h2.v, .int .i64 h2.r, .int .i64 h2.t, .bool h2.seen.s, .int .i64 h2.seen.n, .bool h2.seen.f, .int .i64 h2.seen.v, .int .i64 h2.tr, .int .i64 h2.sp, .bool h2.ag, .int .i64 h2.re]),
 .v (.bool h2.ok),
 .v (.bool h2.ok),
 .e fun σ w => BoxAt w (N + 1 + 1) #[.int .i64 s2.rd, .int .i64 s2.mo, .slice A2 n2 c2, .int .i64 s2.fi, .int .i64 s2.la] 32,
 .e fun σ w => BoxAt w (N + 1 + 1 + 1) #[.int .i64 h2.at_, .int .i64 h2.v, .int .i64 h2.r, .int .i64 h2.t, .bool h2.seen.s, .int .i64 h2.seen.n, .bool h2.seen.f, .int .i64 h2.seen.v, .int .i64 h2.tr, .int .i64 h2.sp, .bool h2.ag, .int .i64 h2.re] 35,
 .v (.bool h2.ok)]
set_option maxRecDepth 100000 in
set_option maxHeartbeats 4000000 in
theorem p6T_wp {Q : Exit → Act → World → Prop} {l : List Oper} (w : World) (s2 : St) (lo2 hi2 : Nat) (A2 : Option Addr) (n2 c2 : Nat) (h2 : Hd) {W : World} {x0 x1 x6 x7 x8 x10 x11 x12 x13 x14 x15 x16 x17 x18 x19 x20 x21 x22 x23 x24 x25 x26 x27 x28 x29 x30 x31 x32 x33 x34 x35 x36 x37 x38 x39 x40 x41 x42 x43 x44 x45 x46 x47 x48 x49 x50 x51 x52 x53 x54 x55 x56 x57 x58 x59 x60 x61 x62 x63 x64 x65 x66 x67 x68 x69 x70 x71 x72 x73 x74 x75 x76 x77 x78 x79 x80 x81 x82 x83 x84 x85 x86 x87 x88 x89 x90 x91 x92 x93 x94 x95 x96 x97 x98 x99 x100 x101 x102 x103 x104 x105 x106 x107 x108 x109 x110 x111 x112 x113 x114 x115 x116 x117 x118 x119 x120 x121 x122 x123 x124 x125 x126 x127 x128 x129 x130 x131 x132 x133 x134 x135 x136 x137 x138 x139 x140 x141 x142 x143 x144 x145 x146 x147 x148 x149 x150 x151 x152 x153 x154 x155 x156 x157 x158 x159 x160 x161 x162 x163 x164 x165 x166 x167 x168 x169 x170 x171 x172 x173 x174 x175 x176 x177 x178 x179 x180 : Value} (hl : l = opsAt Tryz.f50 50) (hd : hi2 ≤ w.heap.size ∨ w.heap.size + 4 ≤ lo2)
  (hI : Below w.heap.size w W ∧ BoxAt W w.heap.size #[.int .i64 s2.rd, .int .i64 s2.mo, .slice A2 n2 c2, .int .i64 s2.fi, .int .i64 s2.la] 32 ∧ BoxAt W (w.heap.size + 1) #[.int .i64 h2.at_, .int .i64 h2.v, .int .i64 h2.r, .int .i64 h2.t, .bool h2.seen.s, .int .i64 h2.seen.n, .bool h2.seen.f, .int .i64 h2.seen.v, .int .i64 h2.tr, .int .i64 h2.sp, .bool h2.ag, .int .i64 h2.re] 35 ∧ BoxAt W (w.heap.size + 1 + 1) #[.int .i64 0, .int .i64 0, .slice none 0 0, .int .i64 0, .int .i64 0] 32 ∧ BoxAt W (w.heap.size + 1 + 1 + 1) #[.int .i64 0, .int .i64 0, .int .i64 0, .int .i64 0, .bool false, .int .i64 0, .bool false, .int .i64 0, .int .i64 0, .int .i64 0, .bool false, .int .i64 0] 35 ∧ RgsW lo2 hi2 W A2 n2 c2 s2.rs ∧ hi2 ≤ W.heap.size)
  (hQ : ∀ (y174 y175 y176 y177 y178 y179 y180 : Value) (W' : World), Below w.heap.size w W' → BoxAt W' (w.heap.size + 1 + 1) #[.int .i64 s2.rd, .int .i64 s2.mo, .slice A2 n2 c2, .int .i64 s2.fi, .int .i64 s2.la] 32 → BoxAt W' (w.heap.size + 1 + 1 + 1) #[.int .i64 h2.at_, .int .i64 h2.v, .int .i64 h2.r, .int .i64 h2.t, .bool h2.seen.s, .int .i64 h2.seen.n, .bool h2.seen.f, .int .i64 h2.seen.v, .int .i64 h2.tr, .int .i64 h2.sp, .bool h2.ag, .int .i64 h2.re] 35 → RgsW lo2 hi2 W' A2 n2 c2 s2.rs → hi2 ≤ W'.heap.size → Q .normal ⟨#[x0, x1, .pointer (some ⟨w.heap.size, 0, none⟩), .pointer (some ⟨w.heap.size + 1, 0, none⟩), .pointer (some ⟨w.heap.size + 1 + 1, 0, none⟩), .pointer (some ⟨w.heap.size + 1 + 1 + 1, 0, none⟩), .bool (h2.ok), x7, x8, .bool true, x10, x11, x12, x13, x14, x15, x16, x17, x18, x19, x20, x21, x22, x23, x24, x25, x26, x27, x28, x29, x30, x31, x32, x33, x34, x35, x36, x37, x38, x39, x40, x41, x42, x43, x44, x45, x46, x47, x48, x49, x50, x51, x52, x53, x54, x55, x56, x57, x58, x59, x60, x61, x62, x63, x64, x65, x66, x67, x68, x69, x70, x71, x72, x73, x74, x75, x76, x77, x78, x79, x80, x81, x82, x83, x84, x85, x86, x87, x88, x89, x90, x91, x92, x93, x94, x95, x96, x97, x98, x99, x100, x101, x102, x103, x104, x105, x106, x107, x108, x109, x110, x111, x112, x113, x114, x115, x116, x117, x118, x119, x120, x121, x122, x123, x124, x125, x126, x127, x128, x129, x130, x131, x132, x133, x134, x135, x136, x137, x138, x139, x140, x141, x142, x143, x144, x145, x146, x147, x148, x149, x150, x151, x152, x153, x154, x155, x156, x157, x158, x159, x160, x161, x162, x163, x164, x165, x166, x167, x168, x169, x170, x171, x172, x173, y174, y175, y176, y177, y178, y179, y180], []⟩ W') :
  (Code.region 50 l.toArray true).wp Tryz.prog Q ⟨#[x0, x1, .pointer (some ⟨w.heap.size, 0, none⟩), .pointer (some ⟨w.heap.size + 1, 0, none⟩), .pointer (some ⟨w.heap.size + 1 + 1, 0, none⟩), .pointer (some ⟨w.heap.size + 1 + 1 + 1, 0, none⟩), x6, x7, x8, .bool true, x10, x11, x12, x13, x14, x15, x16, x17, x18, x19, x20, x21, x22, x23, x24, x25, x26, x27, x28, x29, x30, x31, x32, x33, x34, x35, x36, x37, x38, x39, x40, x41, x42, x43, x44, x45, x46, x47, x48, x49, x50, x51, x52, x53, x54, x55, x56, x57, x58, x59, x60, x61, x62, x63, x64, x65, x66, x67, x68, x69, x70, x71, x72, x73, x74, x75, x76, x77, x78, x79, x80, x81, x82, x83, x84, x85, x86, x87, x88, x89, x90, x91, x92, x93, x94, x95, x96, x97, x98, x99, x100, x101, x102, x103, x104, x105, x106, x107, x108, x109, x110, x111, x112, x113, x114, x115, x116, x117, x118, x119, x120, x121, x122, x123, x124, x125, x126, x127, x128, x129, x130, x131, x132, x133, x134, x135, x136, x137, x138, x139, x140, x141, x142, x143, x144, x145, x146, x147, x148, x149, x150, x151, x152, x153, x154, x155, x156, x157, x158, x159, x160, x161, x162, x163, x164, x165, x166, x167, x168, x169, x170, x171, x172, x173, x174, x175, x176, x177, x178, x179, x180], []⟩ W := by
 have hl' : l = [_, _, _, _, _, _, _, _, _, _] := hl
 subst hl'
 clear hl
 obtain ⟨hB, hx, hy, hz, hw_, hG, hhi⟩ := hI
 have lw := hw_.lt
 obtain ⟨M, hMe⟩ : ∃ M, M = W.heap.size := ⟨_, rfl⟩
 have hM : M ≤ W.heap.size := by omega
 have hhi2 : hi2 ≤ M := by omega
 clear hMe
 refine wp_region2v (fun w w' => Below w.heap.size w w') (fun _ _ h => h.size) (fun _ => Below.refl _ _) (fun L W' => Below w.heap.size w W' ∧ BoxAt W' w.heap.size #[.int .i64 s2.rd, .int .i64 s2.mo, .slice A2 n2 c2, .int .i64 s2.fi, .int .i64 s2.la] 32 ∧ BoxAt W' (w.heap.size + 1) #[.int .i64 h2.at_, .int .i64 h2.v, .int .i64 h2.r, .int .i64 h2.t, .bool h2.seen.s, .int .i64 h2.seen.n, .bool h2.seen.f, .int .i64 h2.seen.v, .int .i64 h2.tr, .int .i64 h2.sp, .bool h2.ag, .int .i64 h2.re] 35 ∧ RgsW lo2 hi2 W' A2 n2 c2 s2.rs ∧ M ≤ W'.heap.size ∧ (∃ x0 x1 x2 x3 x4, BoxAt W' (w.heap.size + 1 + 1) #[x0, x1, x2, x3, x4] 32) ∧ (L 7 = false → BoxAt W' (w.heap.size + 1 + 1) #[.int .i64 0, .int .i64 0, .slice none 0 0, .int .i64 0, .int .i64 0] 32) ∧ (∃ x0 x1 x2 x3 x4 x5 x6 x7 x8 x9 x10 x11, BoxAt W' (w.heap.size + 1 + 1 + 1) #[x0, x1, x2, x3, x4, x5, x6, x7, x8, x9, x10, x11] 35) ∧ (L 8 = false → BoxAt W' (w.heap.size + 1 + 1 + 1) #[.int .i64 0, .int .i64 0, .int .i64 0, .int .i64 0, .bool false, .int .i64 0, .bool false, .int .i64 0, .int .i64 0, .int .i64 0, .bool false, .int .i64 0] 35)) (p6TV s2 w.heap.size n2 c2 A2 h2) (fun j => [0, 0, 0, 0, 0, 0, 0, 1, 1, 0].getD j 0) [] (by kernel_rfl) (by kernel_rfl) ?_ ?_ ?_
  (.still rfl ?a0 <| .still rfl ?a1 <| .still rfl ?a2 <| .still rfl ?a3 <| .still rfl ?a4 <| .grow rfl ?a5 <| .still rfl ?a6 <| .store rfl ?a7 <| .store rfl ?a8 <| .still rfl ?a9 <| .nil) ?_ ?_
 · exact ⟨fun _ _ _ _ h => h, fun _ _ _ _ h => h, trivial⟩
 · exact ⟨fun σ w w' hb hR => hR.below hb hR.lt, fun σ w w' hb hR => hR.below hb hR.lt, trivial⟩
 · exact ⟨hB.drew, hx, hy, hG, hM, ⟨_, _, _, _, _, hz⟩, fun _ => hz, ⟨_, _, _, _, _, _, _, _, _, _, _, _, hw_⟩, fun _ => hw_⟩
 case a0 =>
  go_light
  intro L σ W' hcl hL hC hw
  have ks := hC.2.1.cell
  exact ztail5
 case a1 | a4 =>
  go_light
  intro L σ W' hcl hL hC hw
  try have e3 := wT hw 3 rfl
  have kh := hC.2.2.1.cell
  exact ztail5
 case a2 | a3 | a6 | a9 =>
  go_light
  intro L σ W' hcl hL hC hw
  try have e2 := wT hw 2 rfl
  try have e3 := wT hw 3 rfl
  try have e5 := wT hw 5 rfl
  try have e6 := wT hw 6 rfl
  exact ztail5
 case a5 =>
  go_light
  intro L σ W' hcl hL hC hw
  have e3 := wV hw 3 rfl
  have e4 := wV hw 4 rfl
  clear hw
  have HC := Lib.hid hC
  clear hC
  clear hcl hL
  refine OpGoes.go fun K hK => ?_
  go_simp
  obtain ⟨hB, hx, hy, hG, hM, ⟨_, _, _, _, _, hz⟩, hz_o, ⟨_, _, _, _, _, _, _, _, _, _, _, _, hw_⟩, hw__o⟩ := HC.out
  refine (shandOk_any h2 _).mono ?_
  rintro e w1 ⟨rfl, hb1⟩
  exact ⟨_, rfl, hK _ _ ⟨⟨bstep hB hB.size hb1, hx.below hb1 hx.lt, hy.below hb1 hy.lt, hG.below hb1 (Nat.le_trans hhi2 hM), Nat.le_trans hM hb1.size, ⟨_, _, _, _, _, hz.below hb1 hz.lt⟩, fun h => (hz_o (by simpa [upd] using h)).below hb1 (hz_o (by simpa [upd] using h)).lt, ⟨_, _, _, _, _, _, _, _, _, _, _, _, hw_.below hb1 hw_.lt⟩, fun h => (hw__o (by simpa [upd] using h)).below hb1 (hw__o (by simpa [upd] using h)).lt⟩, rfl, hb1⟩⟩
 case a7 =>
  exact ztail3
 case a8 =>
  exact ztail2
 ·
  exact ztail9
 ·
  exact ztail8
def p6FV (s2 : St) (N n2 c2 : Nat) (A2 : Option Addr) (h2 : Hd) : List Sl := [.v (.agg #[.int .i64 s2.rd, .int .i64 s2.mo, .slice A2 n2 c2, .int .i64 s2.fi, .int .i64 s2.la]),
 .v (.agg #[.int .i64 h2.at_, .int .i64 h2.v, .int .i64 h2.r, .int .i64 h2.t, .bool h2.seen.s, .int .i64 h2.seen.n, .bool h2.seen.f, .int .i64 h2.seen.v, .int .i64 h2.tr, .int .i64 h2.sp, .bool h2.ag, .int .i64 h2.re]),
 .v (.bool false),
 .v (.bool false),
 .v undef,
 .v undef,
 .v (.bool false),
 .e fun σ w => BoxAt w (N + 1 + 1) #[.int .i64 s2.rd, .int .i64 s2.mo, .slice A2 n2 c2, .int .i64 s2.fi, .int .i64 s2.la] 32,
 .e fun σ w => BoxAt w (N + 1 + 1 + 1) #[.int .i64 h2.at_, .int .i64 h2.v, .int .i64 h2.r, .int .i64 h2.t, .bool h2.seen.s, .int .i64 h2.seen.n, .bool h2.seen.f, .int .i64 h2.seen.v, .int .i64 h2.tr, .int .i64 h2.sp, .bool h2.ag, .int .i64 h2.re] 35,
 .v (.bool false)]
set_option maxRecDepth 100000 in
set_option maxHeartbeats 4000000 in
theorem p6F_wp {Q : Exit → Act → World → Prop} {l : List Oper} (w : World) (s2 : St) (lo2 hi2 : Nat) (A2 : Option Addr) (n2 c2 : Nat) (h2 : Hd) {W : World} {x0 x1 x6 x7 x8 x10 x11 x12 x13 x14 x15 x16 x17 x18 x19 x20 x21 x22 x23 x24 x25 x26 x27 x28 x29 x30 x31 x32 x33 x34 x35 x36 x37 x38 x39 x40 x41 x42 x43 x44 x45 x46 x47 x48 x49 x50 x51 x52 x53 x54 x55 x56 x57 x58 x59 x60 x61 x62 x63 x64 x65 x66 x67 x68 x69 x70 x71 x72 x73 x74 x75 x76 x77 x78 x79 x80 x81 x82 x83 x84 x85 x86 x87 x88 x89 x90 x91 x92 x93 x94 x95 x96 x97 x98 x99 x100 x101 x102 x103 x104 x105 x106 x107 x108 x109 x110 x111 x112 x113 x114 x115 x116 x117 x118 x119 x120 x121 x122 x123 x124 x125 x126 x127 x128 x129 x130 x131 x132 x133 x134 x135 x136 x137 x138 x139 x140 x141 x142 x143 x144 x145 x146 x147 x148 x149 x150 x151 x152 x153 x154 x155 x156 x157 x158 x159 x160 x161 x162 x163 x164 x165 x166 x167 x168 x169 x170 x171 x172 x173 x174 x175 x176 x177 x178 x179 x180 : Value} (hl : l = opsAt Tryz.f50 50) (hd : hi2 ≤ w.heap.size ∨ w.heap.size + 4 ≤ lo2)
  (hI : Below w.heap.size w W ∧ BoxAt W w.heap.size #[.int .i64 s2.rd, .int .i64 s2.mo, .slice A2 n2 c2, .int .i64 s2.fi, .int .i64 s2.la] 32 ∧ BoxAt W (w.heap.size + 1) #[.int .i64 h2.at_, .int .i64 h2.v, .int .i64 h2.r, .int .i64 h2.t, .bool h2.seen.s, .int .i64 h2.seen.n, .bool h2.seen.f, .int .i64 h2.seen.v, .int .i64 h2.tr, .int .i64 h2.sp, .bool h2.ag, .int .i64 h2.re] 35 ∧ BoxAt W (w.heap.size + 1 + 1) #[.int .i64 0, .int .i64 0, .slice none 0 0, .int .i64 0, .int .i64 0] 32 ∧ BoxAt W (w.heap.size + 1 + 1 + 1) #[.int .i64 0, .int .i64 0, .int .i64 0, .int .i64 0, .bool false, .int .i64 0, .bool false, .int .i64 0, .int .i64 0, .int .i64 0, .bool false, .int .i64 0] 35 ∧ RgsW lo2 hi2 W A2 n2 c2 s2.rs ∧ hi2 ≤ W.heap.size)
  (hQ : ∀ (y174 y175 y176 y177 y178 y179 y180 : Value) (W' : World), Below w.heap.size w W' → BoxAt W' (w.heap.size + 1 + 1) #[.int .i64 s2.rd, .int .i64 s2.mo, .slice A2 n2 c2, .int .i64 s2.fi, .int .i64 s2.la] 32 → BoxAt W' (w.heap.size + 1 + 1 + 1) #[.int .i64 h2.at_, .int .i64 h2.v, .int .i64 h2.r, .int .i64 h2.t, .bool h2.seen.s, .int .i64 h2.seen.n, .bool h2.seen.f, .int .i64 h2.seen.v, .int .i64 h2.tr, .int .i64 h2.sp, .bool h2.ag, .int .i64 h2.re] 35 → RgsW lo2 hi2 W' A2 n2 c2 s2.rs → hi2 ≤ W'.heap.size → Q .normal ⟨#[x0, x1, .pointer (some ⟨w.heap.size, 0, none⟩), .pointer (some ⟨w.heap.size + 1, 0, none⟩), .pointer (some ⟨w.heap.size + 1 + 1, 0, none⟩), .pointer (some ⟨w.heap.size + 1 + 1 + 1, 0, none⟩), .bool false, x7, x8, .bool false, x10, x11, x12, x13, x14, x15, x16, x17, x18, x19, x20, x21, x22, x23, x24, x25, x26, x27, x28, x29, x30, x31, x32, x33, x34, x35, x36, x37, x38, x39, x40, x41, x42, x43, x44, x45, x46, x47, x48, x49, x50, x51, x52, x53, x54, x55, x56, x57, x58, x59, x60, x61, x62, x63, x64, x65, x66, x67, x68, x69, x70, x71, x72, x73, x74, x75, x76, x77, x78, x79, x80, x81, x82, x83, x84, x85, x86, x87, x88, x89, x90, x91, x92, x93, x94, x95, x96, x97, x98, x99, x100, x101, x102, x103, x104, x105, x106, x107, x108, x109, x110, x111, x112, x113, x114, x115, x116, x117, x118, x119, x120, x121, x122, x123, x124, x125, x126, x127, x128, x129, x130, x131, x132, x133, x134, x135, x136, x137, x138, x139, x140, x141, x142, x143, x144, x145, x146, x147, x148, x149, x150, x151, x152, x153, x154, x155, x156, x157, x158, x159, x160, x161, x162, x163, x164, x165, x166, x167, x168, x169, x170, x171, x172, x173, y174, y175, y176, y177, y178, y179, y180], []⟩ W') :
  (Code.region 50 l.toArray true).wp Tryz.prog Q ⟨#[x0, x1, .pointer (some ⟨w.heap.size, 0, none⟩), .pointer (some ⟨w.heap.size + 1, 0, none⟩), .pointer (some ⟨w.heap.size + 1 + 1, 0, none⟩), .pointer (some ⟨w.heap.size + 1 + 1 + 1, 0, none⟩), x6, x7, x8, .bool false, x10, x11, x12, x13, x14, x15, x16, x17, x18, x19, x20, x21, x22, x23, x24, x25, x26, x27, x28, x29, x30, x31, x32, x33, x34, x35, x36, x37, x38, x39, x40, x41, x42, x43, x44, x45, x46, x47, x48, x49, x50, x51, x52, x53, x54, x55, x56, x57, x58, x59, x60, x61, x62, x63, x64, x65, x66, x67, x68, x69, x70, x71, x72, x73, x74, x75, x76, x77, x78, x79, x80, x81, x82, x83, x84, x85, x86, x87, x88, x89, x90, x91, x92, x93, x94, x95, x96, x97, x98, x99, x100, x101, x102, x103, x104, x105, x106, x107, x108, x109, x110, x111, x112, x113, x114, x115, x116, x117, x118, x119, x120, x121, x122, x123, x124, x125, x126, x127, x128, x129, x130, x131, x132, x133, x134, x135, x136, x137, x138, x139, x140, x141, x142, x143, x144, x145, x146, x147, x148, x149, x150, x151, x152, x153, x154, x155, x156, x157, x158, x159, x160, x161, x162, x163, x164, x165, x166, x167, x168, x169, x170, x171, x172, x173, x174, x175, x176, x177, x178, x179, x180], []⟩ W := by
 have hl' : l = [_, _, _, _, _, _, _, _, _, _] := hl
 subst hl'
 clear hl
 obtain ⟨hB, hx, hy, hz, hw_, hG, hhi⟩ := hI
 have lw := hw_.lt
 obtain ⟨M, hMe⟩ : ∃ M, M = W.heap.size := ⟨_, rfl⟩
 have hM : M ≤ W.heap.size := by omega
 have hhi2 : hi2 ≤ M := by omega
 clear hMe
 refine wp_region2v (fun w w' => Below w.heap.size w w') (fun _ _ h => h.size) (fun _ => Below.refl _ _) (fun L W' => Below w.heap.size w W' ∧ BoxAt W' w.heap.size #[.int .i64 s2.rd, .int .i64 s2.mo, .slice A2 n2 c2, .int .i64 s2.fi, .int .i64 s2.la] 32 ∧ BoxAt W' (w.heap.size + 1) #[.int .i64 h2.at_, .int .i64 h2.v, .int .i64 h2.r, .int .i64 h2.t, .bool h2.seen.s, .int .i64 h2.seen.n, .bool h2.seen.f, .int .i64 h2.seen.v, .int .i64 h2.tr, .int .i64 h2.sp, .bool h2.ag, .int .i64 h2.re] 35 ∧ RgsW lo2 hi2 W' A2 n2 c2 s2.rs ∧ M ≤ W'.heap.size ∧ (∃ x0 x1 x2 x3 x4, BoxAt W' (w.heap.size + 1 + 1) #[x0, x1, x2, x3, x4] 32) ∧ (L 7 = false → BoxAt W' (w.heap.size + 1 + 1) #[.int .i64 0, .int .i64 0, .slice none 0 0, .int .i64 0, .int .i64 0] 32) ∧ (∃ x0 x1 x2 x3 x4 x5 x6 x7 x8 x9 x10 x11, BoxAt W' (w.heap.size + 1 + 1 + 1) #[x0, x1, x2, x3, x4, x5, x6, x7, x8, x9, x10, x11] 35) ∧ (L 8 = false → BoxAt W' (w.heap.size + 1 + 1 + 1) #[.int .i64 0, .int .i64 0, .int .i64 0, .int .i64 0, .bool false, .int .i64 0, .bool false, .int .i64 0, .int .i64 0, .int .i64 0, .bool false, .int .i64 0] 35)) (p6FV s2 w.heap.size n2 c2 A2 h2) (fun j => [0, 0, 0, 0, 0, 0, 0, 1, 1, 0].getD j 0) [] (by kernel_rfl) (by kernel_rfl) ?_ ?_ ?_
  (.still rfl ?a0 <| .still rfl ?a1 <| .still rfl ?a2 <| .still rfl ?a3 <| .still rfl ?a4 <| .still rfl ?a5 <| .still rfl ?a6 <| .store rfl ?a7 <| .store rfl ?a8 <| .still rfl ?a9 <| .nil) ?_ ?_
 · exact ⟨fun _ _ _ _ h => h, fun _ _ _ _ h => h, trivial⟩
 · exact ⟨fun σ w w' hb hR => hR.below hb hR.lt, fun σ w w' hb hR => hR.below hb hR.lt, trivial⟩
 · exact ⟨hB.drew, hx, hy, hG, hM, ⟨_, _, _, _, _, hz⟩, fun _ => hz, ⟨_, _, _, _, _, _, _, _, _, _, _, _, hw_⟩, fun _ => hw_⟩
 case a0 =>
  go_light
  intro L σ W' hcl hL hC hw
  have ks := hC.2.1.cell
  exact ztail5
 case a1 =>
  go_light
  intro L σ W' hcl hL hC hw
  have kh := hC.2.2.1.cell
  exact ztail5
 case a2 | a3 | a4 | a5 | a6 | a9 =>
  go_light
  intro L σ W' hcl hL hC hw
  try have e2 := wT hw 2 rfl
  try have e3 := wT hw 3 rfl
  try have e4 := wT hw 4 rfl
  try have e5 := wT hw 5 rfl
  try have e6 := wT hw 6 rfl
  exact ztail5
 case a7 =>
  exact ztail3
 case a8 =>
  exact ztail2
 ·
  exact ztail9
 ·
  exact ztail8
end Go.Proofs.YthpckpnlohfcbaaGreatDoor

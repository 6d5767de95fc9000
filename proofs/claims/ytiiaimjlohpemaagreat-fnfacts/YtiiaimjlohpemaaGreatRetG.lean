/-
 A return of a store and of a hand, whatever the slots: they are laid into the results' variables.
-/
import Derived.Test.YtiiaimjlohpemaaGreatHand
import Derived.Test.YtiiaimjlohpemaaGreatGrowB
import Derived.Test.YtiiaimjlohpemaaGreatGrowV
namespace Go.Proofs.YtiiaimjlohpemaaGreat
set_option linter.unusedSimpArgs false
set_option linter.unusedVariables false
open Go.RowKit

theorem zretG0 {p : Prop} (h : p := by
 rw [← e0] at k
 refine k.mono fun v w1 h => ?_
 subst h
 have hset := sets_all (us := (aS s2 A2 n2 c2)) hz rfl
 exact ⟨⟨(Below.setCells (by omega) _ 0 hB), (BoxAt.sets_ne _ 0 hx (by omega)), (BoxAt.sets_ne _ 0 hy (by omega)), (RgsW.sts hG (by omega) _ 0), (size_sts hM _ 0), ⟨_, _, _, _, _, hset⟩, ⟨_, _, _, _, _, _, _, _, _, _, _, _, (BoxAt.sets_ne _ 0 hw_ (by omega))⟩⟩, hset, Nat.le_of_eq (sets_size _ _ _).symm, keepV ⟨fun h => absurd rfl h, fun _ _ hR => BoxAt.sets_ne _ 0 hR (by omega), trivial⟩⟩) : p := h -- 0dac1eb7
theorem zretG1 {p : Prop} (h : p := by
 exact ⟨⟨(Below.setCells (by omega) _ 0 hB), (BoxAt.sets_ne _ 0 hx (by omega)), (BoxAt.sets_ne _ 0 hy (by omega)), (RgsW.sts hG (by omega) _ 0), (size_sts hM _ 0), ⟨_, _, _, _, _, (BoxAt.sets_ne _ 0 hz (by omega))⟩, ⟨_, _, _, _, _, _, _, _, _, _, _, _, hset⟩⟩, hset, Nat.le_of_eq (sets_size _ _ _).symm, keepV ⟨fun _ _ hR => BoxAt.sets_ne _ 0 hR (by omega), fun h => absurd rfl h, trivial⟩⟩) : p := h -- b452ca2a
theorem zretG2 {p : Prop} (h : p := by
 intro L σ W' hcl hL hC hw
 exact (k0 W' hC.2.1).mono fun v w' h => ⟨h.1, h.2⟩) : p := h -- 8c5544db

/-- The operations of a function's region. -/
def opsAt (f : Func) (id : Nat) : List Oper := (f.body.bind (findR id)).getD []
/-- A store, a hand and a bool are returned; the store's memory lies from block lo on. -/
def RetSHB (lo : Nat) (q : St × Hd × Bool) (w : World) (e : Ending) (w' : World) : Prop :=
 ∃ A n cap, e = .returned (.tuple #[stV q.1 A n cap, hdV q.2.1, q.2.2]) ∧ RgsW lo w'.heap.size w' A n cap q.1.rs ∧ Below w.heap.size w w'
/-- What a step yields that leaves this store and this hand. -/
def fin (fine : Bool) (s : St) (h : Hd) : St × Hd × Bool := (s, h, fine && h.ok)
def lookAt (s : St) (h : Hd) : Pl := (s.at h.r).ps.getD (h.t % s.rd).toNat ⟨false, 0, false, 0⟩
theorem hd_nums {h : Hd} (hok : h.ok = true) : (0 ≤ h.t ∧ h.t ≤ 1000000) ∧ (0 ≤ h.tr ∧ h.tr ≤ 1000000) := by
 simp only [Hd.ok, Hd.okA, Bool.and_eq_true, noB, decide_eq_true_eq] at hok
 omega

theorem box_neM {w : World} {g k : Nat} {cs ds : Array Value} {t u : TypeId} (h : BoxAt w g cs t) (h' : BoxAt w k ds u) (ht : t ≠ u) : g ≠ k := by
 rintro rfl
 unfold BoxAt at h h'
 rw [h] at h'
 injection h' with h'
 injection h' with _ h'
 exact ht h'
theorem own_ne {α : Type} {f : α → List Value} {k : Nat} {e t : TypeId} {N : Nat} {w : World} {g n cap b : Nat} {cs : Array Value} {l : List α} (h : Own f k e N w g n cap l) (hb : BoxAt w b cs t) (ht : t ≠ e) : g ≠ b := by
 obtain ⟨_, _, _, _, cur, hg, _⟩ := h
 exact box_neM hg hb (Ne.symm ht)
theorem RgsW.setsT {lo hi : Nat} {w : World} {A : Option Addr} {n cap : Nat} {L : List Rg} (h : RgsW lo hi w A n cap L) {k : Nat} {cs : Array Value} {t : TypeId} (hk : BoxAt w k cs t) (h1 : t ≠ 120) (h2 : t ≠ 104) (us : List Value) (o : Nat) : RgsW lo hi (setCells w k o us) A n cap L :=
 ⟨h.1, fun hn => by
  obtain ⟨b, rows, e, hb, ho, hi⟩ := h.2 hn
  refine ⟨b, rows, e, hb, Own.sets_ne ho (own_ne ho hk h1) us o, fun i a ha => ?_⟩
  obtain ⟨r, hr, x1, x2, x3, x4, hp⟩ := hi i a ha
  refine ⟨r, hr, x1, x2, x3, x4, hp.1, fun hn => ?_⟩
  obtain ⟨b2, e2, hb2, ho2⟩ := hp.2 hn
  exact ⟨b2, e2, hb2, Own.sets_ne ho2 (own_ne ho2 hk h2) us o⟩⟩

theorem gWb {lo : Nat} {L : List Rg} (W W' : World) (A : Option Addr) (n c : Nat) (hb : Below W.heap.size W W') (h : RgsW lo W.heap.size W A n c L) : RgsW lo W'.heap.size W' A n c L := (h.below hb (Nat.le_refl _)).mono (Nat.le_refl _) hb.size
theorem gWs {lo : Nat} {L : List Rg} (W : World) (A : Option Addr) (n c k : Nat) (cs : Array Value) (t : TypeId) (us : List Value) (h : RgsW lo W.heap.size W A n c L) (hk : BoxAt W k cs t) (h1 : t ≠ 120) (h2 : t ≠ 104) : RgsW lo (setCells W k 0 us).heap.size (setCells W k 0 us) A n c L := (h.setsT hk h1 h2 us 0).mono (Nat.le_refl _) (Nat.le_of_eq (sets_size _ _ _).symm)

def ret4bV (bv : Bool) (s2 : St) (N n2 c2 : Nat) (A2 : Option Addr) (h2 : Hd) : List Sl := [.v (.agg (aS s2 A2 n2 c2)), .v (.agg (aH h2)),
 .e fun _ w => BoxAt w (N + 1 + 1) (aS s2 A2 n2 c2) 64, .e fun _ w => BoxAt w (N + 1 + 1 + 1) (aH h2) 106, .v (.bool bv)]

/-- A return of a store and of a hand: they are laid into the results' variables, in whichever order. -/
theorem ret4b {P : Program} {id : Nat} {Q : Exit → Act → World → Prop} {a : Act} {o0 o1 o2 o3 o4 : Oper} (w : World) (bv : Bool) (s2 : St) (lo2 hi2 : Nat) (A2 : Option Addr) (n2 c2 : Nat) (h2 : Hd) (X Y : Nat) {W : World}
  (hm : P.follows .mixedOrders = true) (hg : growB [o0, o1, o2, o3, o4] (SV (ret4bV bv s2 w.heap.size n2 c2 A2 h2) []) = true) (w20 : waits [o0, o1, o2, o3, o4] 2 0 = true) (w31 : waits [o0, o1, o2, o3, o4] 3 1 = true)
  (hd : (w.heap.size + 2 < lo2 ∨ hi2 ≤ w.heap.size + 2) ∧ (w.heap.size + 3 < lo2 ∨ hi2 ≤ w.heap.size + 3)) (hXY : X ≠ w.heap.size + 2 ∧ X ≠ w.heap.size + 3 ∧ Y ≠ w.heap.size + 2 ∧ Y ≠ w.heap.size + 3)
  (hI : Below w.heap.size w W ∧ BoxAt W X (aS s2 A2 n2 c2) 64 ∧ BoxAt W Y (aH h2) 106 ∧ BoxAt W (w.heap.size + 1 + 1) zS 64 ∧ BoxAt W (w.heap.size + 1 + 1 + 1) zH 106 ∧ RgsW lo2 hi2 W A2 n2 c2 s2.rs ∧ hi2 ≤ W.heap.size)
  (k0 : ∀ W', BoxAt W' X (aS s2 A2 n2 c2) 64 → OpGoes P (List.toArray [o0, o1, o2, o3, o4]) o0 a W' fun v w' => w' = W' ∧ v = .agg (aS s2 A2 n2 c2))
  (k1 : ∀ u0 W', BoxAt W' Y (aH h2) 106 → OpGoes P (List.toArray [o0, o1, o2, o3, o4]) o1 (a.put o0.dst (u0)) W' fun v w' => w' = W' ∧ v = .agg (aH h2))
  (k2 : ∀ u1 W' x0 x1 x2 x3 x4, BoxAt W' (w.heap.size + 1 + 1) #[x0, x1, x2, x3, x4] 64 → OpGoes P (List.toArray [o0, o1, o2, o3, o4]) o2 ((a.put o0.dst (.agg (aS s2 A2 n2 c2))).put o1.dst (u1)) W' fun _ w' => w' = setCells W' (w.heap.size + 1 + 1) 0 (aS s2 A2 n2 c2))
  (k3 : ∀ u0 u2 W' x0 x1 x2 x3 x4 x5 x6 x7 x8 x9 x10 x11, BoxAt W' (w.heap.size + 1 + 1 + 1) #[x0, x1, x2, x3, x4, x5, x6, x7, x8, x9, x10, x11] 106 → OpGoes P (List.toArray [o0, o1, o2, o3, o4]) o3 (((a.put o0.dst (u0)).put o1.dst (.agg (aH h2))).put o2.dst (u2)) W' fun _ w' => w' = setCells W' (w.heap.size + 1 + 1 + 1) 0 (aH h2))
  (k4 : ∀ u0 u1 u2 u3 W', OpGoes P (List.toArray [o0, o1, o2, o3, o4]) o4 ((((a.put o0.dst (u0)).put o1.dst (u1)).put o2.dst (u2)).put o3.dst (u3)) W' fun v w' => w' = W' ∧ v = .bool bv)
  (hQ : ∀ (σ : Nat → Value) (W' : World), σ 4 = .bool bv → Below w.heap.size w W' → BoxAt W' (w.heap.size + 1 + 1) (aS s2 A2 n2 c2) 64 → BoxAt W' (w.heap.size + 1 + 1 + 1) (aH h2) 106 → RgsW lo2 hi2 W' A2 n2 c2 s2.rs → hi2 ≤ W'.heap.size → Q .normal (lexAll [o0, o1, o2, o3, o4] 0 a σ) W') :
  (Code.region id (List.toArray [o0, o1, o2, o3, o4]) true).wp P Q a W := by
 obtain ⟨hB, hx, hy, hz, hw_, hG, hhi⟩ := hI
 have lw := hw_.lt
 obtain ⟨M, hMe⟩ : ∃ M, M = W.heap.size := ⟨_, rfl⟩
 have hM : M ≤ W.heap.size := by omega
 have hhi2 : hi2 ≤ M := by omega
 clear hMe
 refine wp_region2v (fun w w' => Below w.heap.size w w') (fun _ _ h => h.size) (fun _ => Below.refl _ _) (fun L W' => Below w.heap.size w W' ∧ BoxAt W' X (aS s2 A2 n2 c2) 64 ∧ BoxAt W' Y (aH h2) 106 ∧ RgsW lo2 hi2 W' A2 n2 c2 s2.rs ∧ M ≤ W'.heap.size ∧ (∃ x0 x1 x2 x3 x4, BoxAt W' (w.heap.size + 1 + 1) #[x0, x1, x2, x3, x4] 64) ∧ (∃ x0 x1 x2 x3 x4 x5 x6 x7 x8 x9 x10 x11, BoxAt W' (w.heap.size + 1 + 1 + 1) #[x0, x1, x2, x3, x4, x5, x6, x7, x8, x9, x10, x11] 106)) (ret4bV bv s2 w.heap.size n2 c2 A2 h2) (fun j => [0, 0, 1, 1, 0].getD j 0) [] hm hg ⟨fun _ _ _ _ h => h, fun _ _ _ _ h => h, trivial⟩ ⟨fun σ w w' hb hR => hR.below hb hR.lt, fun σ w w' hb hR => hR.below hb hR.lt, trivial⟩ ⟨hB.drew, hx, hy, hG, hM, ⟨_, _, _, _, _, hz⟩, ⟨_, _, _, _, _, _, _, _, _, _, _, _, hw_⟩⟩
  (.still rfl ?_ <| .still rfl ?_ <| .store rfl ?_ <| .store rfl ?_ <| .still rfl ?_ <| .nil) (fun _ _ _ _ h => h) ?_
 ·
  exact zretG2
 ·
  intro L σ W' hcl hL hC hw
  exact (k1 _ W' hC.2.2.1).mono fun v w' h => ⟨h.1, h.2⟩
 ·
  intro L σ W' hcl hL hC hw hne
  obtain ⟨hB, hx, hy, hG, hM, ⟨x0, x1, x2, x3, x4, hz⟩, ⟨x0, x1, x2, x3, x4, x5, x6, x7, x8, x9, x10, x11, hw_⟩⟩ := hC
  have e0 := wV hw 0 rfl w20
  have k := k2 (σ 1) W' _ _ _ _ _ hz
  exact zretG0
 ·
  intro L σ W' hcl hL hC hw hne
  obtain ⟨hB, hx, hy, hG, hM, ⟨x0, x1, x2, x3, x4, hz⟩, ⟨x0, x1, x2, x3, x4, x5, x6, x7, x8, x9, x10, x11, hw_⟩⟩ := hC
  have e1 := wV hw 1 rfl w31
  have k := k3 (σ 0) (σ 2) W' _ _ _ _ _ _ _ _ _ _ _ _ hw_
  rw [← e1] at k
  refine k.mono fun v w1 h => ?_
  subst h
  have hset := sets_all (us := (aH h2)) hw_ rfl
  exact zretG1
 ·
  intro L σ W' hcl hL hC hw
  exact (k4 _ _ _ _ W').mono fun v w' h => ⟨h.1, h.2⟩
 ·
  intro σ L W' hall hC hRR
  obtain ⟨hB, hx, hy, hG, hM, ⟨x0, x1, x2, x3, x4, hz⟩, ⟨x0, x1, x2, x3, x4, x5, x6, x7, x8, x9, x10, x11, hw_⟩⟩ := hC
  exact hQ σ W' (dV hRR 4 rfl (by simp)) hB (dE hRR 2 rfl (by simp)) (dE hRR 3 rfl (by simp)) hG (Nat.le_trans hhi2 hM)

def ret5bV (bv : Bool) (re : Int) (s2 : St) (N n2 c2 : Nat) (A2 : Option Addr) (h2 : Hd) : List Sl := [.v (.agg (aS s2 A2 n2 c2)), .v (.agg (aH h2)), .v (.agg (eH 0 0 0 0 false 0 false 0 0 h2.sp false re)),
 .e fun _ w => BoxAt w (N + 1 + 1) (aS s2 A2 n2 c2) 64, .e fun _ w => BoxAt w (N + 1 + 1 + 1) (eH 0 0 0 0 false 0 false 0 0 h2.sp false re) 106, .v (.bool bv)]

/-- A return of a store and of a hand: they are laid into the results' variables, in whichever order. -/
theorem ret5b {P : Program} {id : Nat} {Q : Exit → Act → World → Prop} {a : Act} {o0 o1 o2 o3 o4 o5 : Oper} (w : World) (bv : Bool) (re : Int) (s2 : St) (lo2 hi2 : Nat) (A2 : Option Addr) (n2 c2 : Nat) (h2 : Hd) (X Y : Nat) {W : World}
  (hm : P.follows .mixedOrders = true) (hg : growB [o0, o1, o2, o3, o4, o5] (SV (ret5bV bv re s2 w.heap.size n2 c2 A2 h2) []) = true) (w30 : waits [o0, o1, o2, o3, o4, o5] 3 0 = true) (w21 : waits [o0, o1, o2, o3, o4, o5] 2 1 = true) (w42 : waits [o0, o1, o2, o3, o4, o5] 4 2 = true)
  (hd : (w.heap.size + 2 < lo2 ∨ hi2 ≤ w.heap.size + 2) ∧ (w.heap.size + 3 < lo2 ∨ hi2 ≤ w.heap.size + 3)) (hXY : X ≠ w.heap.size + 2 ∧ X ≠ w.heap.size + 3 ∧ Y ≠ w.heap.size + 2 ∧ Y ≠ w.heap.size + 3)
  (hI : Below w.heap.size w W ∧ BoxAt W X (aS s2 A2 n2 c2) 64 ∧ BoxAt W Y (aH h2) 106 ∧ BoxAt W (w.heap.size + 1 + 1) zS 64 ∧ BoxAt W (w.heap.size + 1 + 1 + 1) zH 106 ∧ RgsW lo2 hi2 W A2 n2 c2 s2.rs ∧ hi2 ≤ W.heap.size)
  (k0 : ∀ W', BoxAt W' X (aS s2 A2 n2 c2) 64 → OpGoes P (List.toArray [o0, o1, o2, o3, o4, o5]) o0 a W' fun v w' => w' = W' ∧ v = .agg (aS s2 A2 n2 c2))
  (k1 : ∀ u0 W', BoxAt W' Y (aH h2) 106 → OpGoes P (List.toArray [o0, o1, o2, o3, o4, o5]) o1 (a.put o0.dst (u0)) W' fun v w' => w' = W' ∧ v = .agg (aH h2))
  (k2 : ∀ u0 W', OpGoes P (List.toArray [o0, o1, o2, o3, o4, o5]) o2 ((a.put o0.dst (u0)).put o1.dst (.agg (aH h2))) W' fun v w' => v = .agg (eH 0 0 0 0 false 0 false 0 0 h2.sp false re) ∧ Below W'.heap.size W' w')
  (k3 : ∀ u1 u2 W' x0 x1 x2 x3 x4, BoxAt W' (w.heap.size + 1 + 1) #[x0, x1, x2, x3, x4] 64 → OpGoes P (List.toArray [o0, o1, o2, o3, o4, o5]) o3 (((a.put o0.dst (.agg (aS s2 A2 n2 c2))).put o1.dst (u1)).put o2.dst (u2)) W' fun _ w' => w' = setCells W' (w.heap.size + 1 + 1) 0 (aS s2 A2 n2 c2))
  (k4 : ∀ u0 u1 u3 W' x0 x1 x2 x3 x4 x5 x6 x7 x8 x9 x10 x11, BoxAt W' (w.heap.size + 1 + 1 + 1) #[x0, x1, x2, x3, x4, x5, x6, x7, x8, x9, x10, x11] 106 → OpGoes P (List.toArray [o0, o1, o2, o3, o4, o5]) o4 ((((a.put o0.dst (u0)).put o1.dst (u1)).put o2.dst (.agg (eH 0 0 0 0 false 0 false 0 0 h2.sp false re))).put o3.dst (u3)) W' fun _ w' => w' = setCells W' (w.heap.size + 1 + 1 + 1) 0 (eH 0 0 0 0 false 0 false 0 0 h2.sp false re))
  (k5 : ∀ u0 u1 u2 u3 u4 W', OpGoes P (List.toArray [o0, o1, o2, o3, o4, o5]) o5 (((((a.put o0.dst (u0)).put o1.dst (u1)).put o2.dst (u2)).put o3.dst (u3)).put o4.dst (u4)) W' fun v w' => w' = W' ∧ v = .bool bv)
  (hQ : ∀ (σ : Nat → Value) (W' : World), σ 5 = .bool bv → Below w.heap.size w W' → BoxAt W' (w.heap.size + 1 + 1) (aS s2 A2 n2 c2) 64 → BoxAt W' (w.heap.size + 1 + 1 + 1) (eH 0 0 0 0 false 0 false 0 0 h2.sp false re) 106 → RgsW lo2 hi2 W' A2 n2 c2 s2.rs → hi2 ≤ W'.heap.size → Q .normal (lexAll [o0, o1, o2, o3, o4, o5] 0 a σ) W') :
  (Code.region id (List.toArray [o0, o1, o2, o3, o4, o5]) true).wp P Q a W := by
 obtain ⟨hB, hx, hy, hz, hw_, hG, hhi⟩ := hI
 have lw := hw_.lt
 obtain ⟨M, hMe⟩ : ∃ M, M = W.heap.size := ⟨_, rfl⟩
 have hM : M ≤ W.heap.size := by omega
 have hhi2 : hi2 ≤ M := by omega
 clear hMe
 refine wp_region2v (fun w w' => Below w.heap.size w w') (fun _ _ h => h.size) (fun _ => Below.refl _ _) (fun L W' => Below w.heap.size w W' ∧ BoxAt W' X (aS s2 A2 n2 c2) 64 ∧ BoxAt W' Y (aH h2) 106 ∧ RgsW lo2 hi2 W' A2 n2 c2 s2.rs ∧ M ≤ W'.heap.size ∧ (∃ x0 x1 x2 x3 x4, BoxAt W' (w.heap.size + 1 + 1) #[x0, x1, x2, x3, x4] 64) ∧ (∃ x0 x1 x2 x3 x4 x5 x6 x7 x8 x9 x10 x11, BoxAt W' (w.heap.size + 1 + 1 + 1) #[x0, x1, x2, x3, x4, x5, x6, x7, x8, x9, x10, x11] 106)) (ret5bV bv re s2 w.heap.size n2 c2 A2 h2) (fun j => [0, 0, 0, 1, 1, 0].getD j 0) [] hm hg ⟨fun _ _ _ _ h => h, fun _ _ _ _ h => h, trivial⟩ ⟨fun σ w w' hb hR => hR.below hb hR.lt, fun σ w w' hb hR => hR.below hb hR.lt, trivial⟩ ⟨hB.drew, hx, hy, hG, hM, ⟨_, _, _, _, _, hz⟩, ⟨_, _, _, _, _, _, _, _, _, _, _, _, hw_⟩⟩
  (.still rfl ?_ <| .still rfl ?_ <| .grow rfl ?_ <| .store rfl ?_ <| .store rfl ?_ <| .still rfl ?_ <| .nil) (fun _ _ _ _ h => h) ?_
 ·
  exact zretG2
 ·
  intro L σ W' hcl hL hC hw
  exact (k1 _ W' hC.2.2.1).mono fun v w' h => ⟨h.1, h.2⟩
 ·
  intro L σ W' hcl hL hC hw
  obtain ⟨hB, hx, hy, hG, hM, ⟨x0, x1, x2, x3, x4, hz⟩, ⟨x0, x1, x2, x3, x4, x5, x6, x7, x8, x9, x10, x11, hw_⟩⟩ := hC
  have e1 := wV hw 1 rfl w21
  have k := k2 (σ 0) W'
  rw [← e1] at k
  exact k.mono fun v w1 h => ⟨⟨bstep hB hB.size h.2, hx.below h.2 hx.lt, hy.below h.2 hy.lt, hG.below h.2 (Nat.le_trans hhi2 hM), Nat.le_trans hM h.2.size, ⟨_, _, _, _, _, hz.below h.2 hz.lt⟩, ⟨_, _, _, _, _, _, _, _, _, _, _, _, hw_.below h.2 hw_.lt⟩⟩, h.1, h.2⟩
 ·
  intro L σ W' hcl hL hC hw hne
  obtain ⟨hB, hx, hy, hG, hM, ⟨x0, x1, x2, x3, x4, hz⟩, ⟨x0, x1, x2, x3, x4, x5, x6, x7, x8, x9, x10, x11, hw_⟩⟩ := hC
  have e0 := wV hw 0 rfl w30
  have k := k3 (σ 1) (σ 2) W' _ _ _ _ _ hz
  exact zretG0
 ·
  intro L σ W' hcl hL hC hw hne
  obtain ⟨hB, hx, hy, hG, hM, ⟨x0, x1, x2, x3, x4, hz⟩, ⟨x0, x1, x2, x3, x4, x5, x6, x7, x8, x9, x10, x11, hw_⟩⟩ := hC
  have e1 := wV hw 2 rfl w42
  have k := k4 (σ 0) (σ 1) (σ 3) W' _ _ _ _ _ _ _ _ _ _ _ _ hw_
  rw [← e1] at k
  refine k.mono fun v w1 h => ?_
  subst h
  have hset := sets_all (us := (eH 0 0 0 0 false 0 false 0 0 h2.sp false re)) hw_ rfl
  exact zretG1
 ·
  intro L σ W' hcl hL hC hw
  exact (k5 _ _ _ _ _ W').mono fun v w' h => ⟨h.1, h.2⟩
 ·
  intro σ L W' hall hC hRR
  obtain ⟨hB, hx, hy, hG, hM, ⟨x0, x1, x2, x3, x4, hz⟩, ⟨x0, x1, x2, x3, x4, x5, x6, x7, x8, x9, x10, x11, hw_⟩⟩ := hC
  exact hQ σ W' (dV hRR 5 rfl (by simp)) hB (dE hRR 3 rfl (by simp)) (dE hRR 4 rfl (by simp)) hG (Nat.le_trans hhi2 hM)

def ret6V (G : World → Option Addr → Nat → Nat → Prop) (bv : Bool) (s2 : St) (N n2 c2 : Nat) (A2 : Option Addr) (h2 : Hd) : List Sl := [.v (.agg (aS s2 A2 n2 c2)),
 .e fun σ w => ∃ A9 n9 c9, σ 1 = .agg (aS s2 A9 n9 c9) ∧ G w A9 n9 c9, .v (.agg (aH h2)),
 .e fun _ w => ∃ A9 n9 c9, BoxAt w (N + 1 + 1) (aS s2 A9 n9 c9) 64 ∧ G w A9 n9 c9,
 .e fun _ w => BoxAt w (N + 1 + 1 + 1) (aH h2) 106, .v (.bool bv)]

/-- A return of a copy of a store, of a hand and of a bool: they are laid into the results' variables, in whichever order. -/
theorem ret6 (G : World → Option Addr → Nat → Nat → Prop) (gb : ∀ W W' A n c, Below W.heap.size W W' → G W A n c → G W' A n c) (gs : ∀ W A n c k cs t us, G W A n c → BoxAt W k cs t → t ≠ 120 → t ≠ 104 → G (setCells W k 0 us) A n c)
  {P : Program} {id : Nat} {Q : Exit → Act → World → Prop} {a : Act} {o0 o1 o2 o3 o4 o5 : Oper} (w : World) (bv : Bool) (s2 : St) (lo2 hi2 : Nat) (A2 : Option Addr) (n2 c2 : Nat) (h2 : Hd) (X Y : Nat) {W : World}
  (hm : P.follows .mixedOrders = true) (hg : growB [o0, o1, o2, o3, o4, o5] (SV (ret6V G bv s2 w.heap.size n2 c2 A2 h2) []) = true) (w10 : waits [o0, o1, o2, o3, o4, o5] 1 0 = true) (w31 : waits [o0, o1, o2, o3, o4, o5] 3 1 = true) (w42 : waits [o0, o1, o2, o3, o4, o5] 4 2 = true)
  (hXY : X ≠ w.heap.size + 2 ∧ X ≠ w.heap.size + 3 ∧ Y ≠ w.heap.size + 2 ∧ Y ≠ w.heap.size + 3)
  (hI : Below w.heap.size w W ∧ BoxAt W X (aS s2 A2 n2 c2) 64 ∧ BoxAt W Y (aH h2) 106 ∧ BoxAt W (w.heap.size + 1 + 1) zS 64 ∧ BoxAt W (w.heap.size + 1 + 1 + 1) zH 106 ∧ RgsW lo2 hi2 W A2 n2 c2 s2.rs ∧ hi2 ≤ W.heap.size)
  (k0 : ∀ W', BoxAt W' X (aS s2 A2 n2 c2) 64 → OpGoes P (List.toArray [o0, o1, o2, o3, o4, o5]) o0 a W' fun v w' => w' = W' ∧ v = .agg (aS s2 A2 n2 c2))
  (k1 : ∀ W', Below w.heap.size w W' → RgsW lo2 hi2 W' A2 n2 c2 s2.rs → hi2 ≤ W'.heap.size → OpGoes P (List.toArray [o0, o1, o2, o3, o4, o5]) o1 (a.put o0.dst (.agg (aS s2 A2 n2 c2))) W' fun v w' => ∃ A9 n9 c9, v = .agg (aS s2 A9 n9 c9) ∧ G w' A9 n9 c9 ∧ Below W'.heap.size W' w')
  (k2 : ∀ u0 u1 W', BoxAt W' Y (aH h2) 106 → OpGoes P (List.toArray [o0, o1, o2, o3, o4, o5]) o2 ((a.put o0.dst (u0)).put o1.dst (u1)) W' fun v w' => w' = W' ∧ v = .agg (aH h2))
  (k3 : ∀ u0 A9 n9 c9 u2 W' x0 x1 x2 x3 x4, BoxAt W' (w.heap.size + 1 + 1) #[x0, x1, x2, x3, x4] 64 → OpGoes P (List.toArray [o0, o1, o2, o3, o4, o5]) o3 (((a.put o0.dst (u0)).put o1.dst (.agg (aS s2 A9 n9 c9))).put o2.dst (u2)) W' fun _ w' => w' = setCells W' (w.heap.size + 1 + 1) 0 (aS s2 A9 n9 c9))
  (k4 : ∀ u0 u1 u3 W' x0 x1 x2 x3 x4 x5 x6 x7 x8 x9 x10 x11, BoxAt W' (w.heap.size + 1 + 1 + 1) #[x0, x1, x2, x3, x4, x5, x6, x7, x8, x9, x10, x11] 106 → OpGoes P (List.toArray [o0, o1, o2, o3, o4, o5]) o4 ((((a.put o0.dst (u0)).put o1.dst (u1)).put o2.dst (.agg (aH h2))).put o3.dst (u3)) W' fun _ w' => w' = setCells W' (w.heap.size + 1 + 1 + 1) 0 (aH h2))
  (k5 : ∀ u0 u1 u2 u3 u4 W', OpGoes P (List.toArray [o0, o1, o2, o3, o4, o5]) o5 (((((a.put o0.dst (u0)).put o1.dst (u1)).put o2.dst (u2)).put o3.dst (u3)).put o4.dst (u4)) W' fun v w' => w' = W' ∧ v = .bool bv)
  (hQ : ∀ (σ : Nat → Value) (W' : World) (A9 : Option Addr) (n9 c9 : Nat), σ 5 = .bool bv → Below w.heap.size w W' → BoxAt W' (w.heap.size + 1 + 1) (aS s2 A9 n9 c9) 64 → BoxAt W' (w.heap.size + 1 + 1 + 1) (aH h2) 106 → G W' A9 n9 c9 → Q .normal (lexAll [o0, o1, o2, o3, o4, o5] 0 a σ) W') :
  (Code.region id (List.toArray [o0, o1, o2, o3, o4, o5]) true).wp P Q a W := by
 obtain ⟨hB, hx, hy, hz, hw_, hG, hhi⟩ := hI
 refine wp_region2v (fun w w' => Below w.heap.size w w') (fun _ _ h => h.size) (fun _ => Below.refl _ _) (fun L W' => Below w.heap.size w W' ∧ BoxAt W' X (aS s2 A2 n2 c2) 64 ∧ BoxAt W' Y (aH h2) 106 ∧ RgsW lo2 hi2 W' A2 n2 c2 s2.rs ∧ hi2 ≤ W'.heap.size ∧ (∃ x0 x1 x2 x3 x4, BoxAt W' (w.heap.size + 1 + 1) #[x0, x1, x2, x3, x4] 64) ∧ (∃ x0 x1 x2 x3 x4 x5 x6 x7 x8 x9 x10 x11, BoxAt W' (w.heap.size + 1 + 1 + 1) #[x0, x1, x2, x3, x4, x5, x6, x7, x8, x9, x10, x11] 106)) (ret6V G bv s2 w.heap.size n2 c2 A2 h2) (fun j => [0, 0, 0, 1, 1, 0].getD j 0) [] hm hg
  ⟨fun _ _ _ h ⟨A, n, c, e, hp⟩ => ⟨A, n, c, (h 1 (List.mem_singleton.2 rfl)).symm.trans e, hp⟩, fun _ _ _ _ h => h, fun _ _ _ _ h => h, trivial⟩
  ⟨fun σ w w' hb ⟨A, n, c, e, hp⟩ => ⟨A, n, c, e, gb _ _ _ _ _ hb hp⟩, fun σ w w' hb ⟨A, n, c, hx, hp⟩ => ⟨A, n, c, hx.below hb hx.lt, gb _ _ _ _ _ hb hp⟩, fun σ w w' hb hR => hR.below hb hR.lt, trivial⟩
  ⟨hB.drew, hx, hy, hG, hhi, ⟨_, _, _, _, _, hz⟩, ⟨_, _, _, _, _, _, _, _, _, _, _, _, hw_⟩⟩
  (.still rfl ?_ <| .grow rfl ?_ <| .still rfl ?_ <| .store rfl ?_ <| .store rfl ?_ <| .still rfl ?_ <| .nil) (fun _ _ _ _ h => h) ?_
 ·
  exact zretG2
 ·
  intro L σ W' hcl hL hC hw
  obtain ⟨hB, hx, hy, hG, hhi, ⟨x0, x1, x2, x3, x4, hz⟩, ⟨x0, x1, x2, x3, x4, x5, x6, x7, x8, x9, x10, x11, hw_⟩⟩ := hC
  have e0 := wV hw 0 rfl w10
  have k := k1 W' hB hG hhi
  rw [← e0] at k
  refine k.mono ?_
  rintro v w1 ⟨A, n, c, e, hD, hb⟩
  exact ⟨⟨bstep hB hB.size hb, hx.below hb hx.lt, hy.below hb hy.lt, hG.below hb hhi, Nat.le_trans hhi hb.size, ⟨_, _, _, _, _, hz.below hb hz.lt⟩, ⟨_, _, _, _, _, _, _, _, _, _, _, _, hw_.below hb hw_.lt⟩⟩, ⟨A, n, c, e, hD⟩, hb⟩
 ·
  intro L σ W' hcl hL hC hw
  exact (k2 _ _ W' hC.2.2.1).mono fun v w' h => ⟨h.1, h.2⟩
 ·
  intro L σ W' hcl hL hC hw hne
  obtain ⟨hB, hx, hy, hG, hhi, ⟨x0, x1, x2, x3, x4, hz⟩, ⟨x0, x1, x2, x3, x4, x5, x6, x7, x8, x9, x10, x11, hw_⟩⟩ := hC
  obtain ⟨A9, n9, c9, e1, hD⟩ := wE hw 1 rfl w31
  have k := k3 (σ 0) A9 n9 c9 (σ 2) W' _ _ _ _ _ hz
  rw [← e1] at k
  refine k.mono fun v w1 h => ?_
  subst h
  have hset := sets_all (us := (aS s2 A9 n9 c9)) hz rfl
  exact ⟨⟨(Below.setCells (by omega) _ 0 hB), (BoxAt.sets_ne _ 0 hx (by omega)), (BoxAt.sets_ne _ 0 hy (by omega)), (RgsW.setsT hG hz (by decide) (by decide) _ 0), Nat.le_trans hhi (Nat.le_of_eq (sets_size _ _ _).symm), ⟨_, _, _, _, _, hset⟩, ⟨_, _, _, _, _, _, _, _, _, _, _, _, (BoxAt.sets_ne _ 0 hw_ (by omega))⟩⟩, ⟨A9, n9, c9, hset, gs _ _ _ _ _ _ _ _ hD hz (by decide) (by decide)⟩, Nat.le_of_eq (sets_size _ _ _).symm, keepV ⟨fun _ _ ⟨A, n, c, e, hp⟩ => ⟨A, n, c, e, gs _ _ _ _ _ _ _ _ hp hz (by decide) (by decide)⟩, fun h => absurd rfl h, fun _ _ hR => BoxAt.sets_ne _ 0 hR (by omega), trivial⟩⟩
 ·
  intro L σ W' hcl hL hC hw hne
  obtain ⟨hB, hx, hy, hG, hhi, ⟨x0, x1, x2, x3, x4, hz⟩, ⟨x0, x1, x2, x3, x4, x5, x6, x7, x8, x9, x10, x11, hw_⟩⟩ := hC
  have e2 := wV hw 2 rfl w42
  have k := k4 (σ 0) (σ 1) (σ 3) W' _ _ _ _ _ _ _ _ _ _ _ _ hw_
  rw [← e2] at k
  refine k.mono fun v w1 h => ?_
  subst h
  have hset := sets_all (us := (aH h2)) hw_ rfl
  exact ⟨⟨(Below.setCells (by omega) _ 0 hB), (BoxAt.sets_ne _ 0 hx (by omega)), (BoxAt.sets_ne _ 0 hy (by omega)), (RgsW.setsT hG hw_ (by decide) (by decide) _ 0), Nat.le_trans hhi (Nat.le_of_eq (sets_size _ _ _).symm), ⟨_, _, _, _, _, (BoxAt.sets_ne _ 0 hz (by omega))⟩, ⟨_, _, _, _, _, _, _, _, _, _, _, _, hset⟩⟩, hset, Nat.le_of_eq (sets_size _ _ _).symm, keepV ⟨fun _ _ ⟨A, n, c, e, hp⟩ => ⟨A, n, c, e, gs _ _ _ _ _ _ _ _ hp hw_ (by decide) (by decide)⟩, fun _ _ ⟨A, n, c, hx, hp⟩ => ⟨A, n, c, BoxAt.sets_ne _ 0 hx (by omega), gs _ _ _ _ _ _ _ _ hp hw_ (by decide) (by decide)⟩, fun h => absurd rfl h, trivial⟩⟩
 ·
  intro L σ W' hcl hL hC hw
  exact (k5 _ _ _ _ _ W').mono fun v w' h => ⟨h.1, h.2⟩
 ·
  intro σ L W' hall hC hRR
  obtain ⟨hB, hx, hy, hG, hhi, ⟨x0, x1, x2, x3, x4, hz⟩, ⟨x0, x1, x2, x3, x4, x5, x6, x7, x8, x9, x10, x11, hw_⟩⟩ := hC
  obtain ⟨A9, n9, c9, hx9, hD⟩ := dE hRR 3 rfl (by simp)
  exact hQ σ W' A9 n9 c9 (dV hRR 5 rfl (by simp)) hB hx9 (dE hRR 4 rfl (by simp)) hD

end Go.Proofs.YtiiaimjlohpemaaGreat

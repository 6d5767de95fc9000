/-
 The law on Stepped holds: for every store and every hand the program answers as the model, its answer is memory of its own, and the arguments stay as they were. Condition: the listed package-level variables start as the program text lays them (the card ties them).
-/
import Derived.Test.YthpckpnlohfcbaaGreatDoorSlim
import Derived.Test.YthpckpnlohfcbaaGreatDoorStdI
import Derived.Test.YthpckpnlohfcbaaGreatDoorRowB
import Derived.Test.YthpckpnlohfcbaaGreatDoorHanO
namespace Go.Proofs.YthpckpnlohfcbaaGreatDoor
set_option linter.unusedSimpArgs false
set_option linter.unusedVariables false
open Go.RowKit
set_option linter.unusedVariables false
attribute [local go_sem] OpUpon
attribute [local go_sem ↓] Go.wp_at_zero Go.wp_at_succ
theorem zrowSD0 {p : Prop} (h : p := by
 clear hw hcl hL hC
 refine OpGoes.go fun K hK => ?_
 go_simp
 exact hK _ _ ⟨rfl, rfl⟩) : p := h -- ee92c020
theorem zrowSD1 {p : Prop} (h : p := by
 go_light
 intro L σ W' hcl hL hC hw
 obtain ⟨Ai, ni, ci, e4, hp4⟩ := wE hw 4 rfl
 clear hw hcl hL hC
 refine OpGoes.go fun K hK => ?_
 go_simp
 exact hK _ _ ⟨rfl, ⟨Ai, ni, ci, rfl, hp4⟩⟩) : p := h -- 5bd7f361
theorem zrowSD2 {p : Prop} (h : p := by
 refine OpGoes.go fun K hK => ?_
 go_simp
 exact hK _ _ ⟨hC, rfl, Below.refl _ _⟩) : p := h -- bea4ca6f

theorem stepS_slim {f : St → Hd → St × Hd × Bool} {b : Int → Bool} {s : St} {h : Hd} (hs : Slim s) : Slim (stepS f b s h).1 := by
 unfold stepS
 split
 · exact zero_slim
 ·
  split
  · exact hs
  ·
   split
   · exact hs
   ·
    rename_i hc
    simp only [Bool.or_eq_true, Bool.not_eq_true', not_or, Bool.not_eq_false] at hc
    exact neat_slim (stOk_neat hc.2)
theorem stepped_slim {s : St} {h : Hd} (hs : Slim s) : Slim (stepped s h).1 := by
 unfold stepped
 split
 · exact stepS_slim hs
 · exact stepS_slim hs
def OwD (lo : Nat) (w : World) (A : Option Addr) (n c : Nat) (L : List Rg) : Prop := ∃ hi, hi ≤ w.heap.size ∧ RgsD lo hi w A n c L
theorem OwD.below {lo : Nat} {w w' : World} {A : Option Addr} {n c : Nat} {L : List Rg} (h : OwD lo w A n c L) (hb : Below w.heap.size w w') : OwD lo w' A n c L := by
 obtain ⟨hi, hl, hd⟩ := h
 exact ⟨hi, Nat.le_trans hl hb.size, hd.below hb hl⟩
theorem OwD.setsT {lo : Nat} {w : World} {A : Option Addr} {n c : Nat} {L : List Rg} {k : Nat} {cs : Array Value} {t : TypeId} (h : OwD lo w A n c L) (hk : BoxAt w k cs t) (us : List Value) (o : Nat) (h1 : t ≠ 79 := by decide) (h2 : t ≠ 33 := by decide) : OwD lo (setCells w k o us) A n c L := by
 obtain ⟨hi, hl, hd⟩ := h
 exact ⟨hi, by rw [sets_size]; exact hl, hd.setsT hk h1 h2 us o⟩
def OwW (lo : Nat) (w : World) (A : Option Addr) (n c : Nat) (L : List Rg) : Prop := ∃ hi, hi ≤ w.heap.size ∧ RgsW lo hi w A n c L
theorem OwW.below {lo : Nat} {w w' : World} {A : Option Addr} {n c : Nat} {L : List Rg} (h : OwW lo w A n c L) (hb : Below w.heap.size w w') : OwW lo w' A n c L := by
 obtain ⟨hi, hl, hd⟩ := h
 exact ⟨hi, Nat.le_trans hl hb.size, hd.below hb hl⟩
theorem OwW.setsT {lo : Nat} {A : Option Addr} {n c : Nat} {L : List Rg} {k : Nat} {w : World} {cs : Array Value} {t : TypeId} (h : OwW lo w A n c L) (hk : BoxAt w k cs t) (us : List Value) (o : Nat) (h1 : t ≠ 79 := by decide) (h2 : t ≠ 33 := by decide) : OwW lo (setCells w k o us) A n c L := by
 obtain ⟨hi, hl, hd⟩ := h
 exact ⟨hi, by rw [sets_size]; exact hl, hd.setsT hk h1 h2 us o⟩
def sd5V (s : St) (A : Option Addr) (n cap N M5 : Nat) (h : Hd) (q : St × Hd × Bool) : List Sl := [.v (.agg (aS s A n cap)),
 .e fun σ w => ∃ (X1 : Option Addr) (d1 : Nat), σ 1 = .agg (aS s X1 n d1) ∧ OwD M5 w X1 n d1 s.rs,
 .v (.agg (aH h)),
 .v (.agg (aH h)),
 .e fun σ w => ∃ (As : Option Addr) (ns cs : Nat), σ 4 = .tuple #[.agg (aS q.1 As ns cs), .agg (aH q.2.1), q.2.2] ∧ OwW M5 w As ns cs q.1.rs,
 .e fun σ w => ∃ (As : Option Addr) (ns cs : Nat), σ 5 = .tuple #[.agg (aS q.1 As ns cs), .agg (aH q.2.1), q.2.2] ∧ OwW M5 w As ns cs q.1.rs,
 .e fun σ w => ∃ (As : Option Addr) (ns cs : Nat), σ 6 = .agg (aS q.1 As ns cs) ∧ OwW M5 w As ns cs q.1.rs,
 .v (.agg (aH q.2.1)),
 .v (.bool q.2.2),
 .e fun σ w => ∃ g9, σ 9 = pT g9 ∧ M5 ≤ g9 ∧ ∃ x0 x1 x2 x3 x4, BoxAt w g9 #[x0, x1, x2, x3, x4] 32,
 .e fun σ w => ∃ g10, σ 10 = pT g10 ∧ M5 ≤ g10 ∧ ∃ x0 x1 x2 x3 x4 x5 x6 x7 x8 x9 x10 x11, BoxAt w g10 #[x0, x1, x2, x3, x4, x5, x6, x7, x8, x9, x10, x11] 35,
 .e fun σ w => ∃ (g9 : Nat) (As : Option Addr) (ns cs : Nat), σ 9 = pT g9 ∧ M5 ≤ g9 ∧ BoxAt w g9 (aS q.1 As ns cs) 32 ∧ OwW M5 w As ns cs q.1.rs,
 .e fun σ w => ∃ g10, σ 10 = pT g10 ∧ M5 ≤ g10 ∧ BoxAt w g10 (aH q.2.1) 35,
 .v (.bool q.2.2)]
def sd7V (s : St) (A : Option Addr) (n cap N M7 P3 P4 : Nat) (X : Option Addr) (m : Nat) (h : Hd) (q : St × Hd × Bool) : List Sl := [.v (.agg (aS s X n m)),
 .v (.agg (aH h)),
 .v (.agg (aH h)),
 .e fun σ w => ∃ (Ai : Option Addr) (ni ci : Nat), σ 3 = .tuple #[.agg (aS q.1 Ai ni ci), .agg (aH q.2.1), q.2.2] ∧ OwD M7 w Ai ni ci q.1.rs,
 .e fun σ w => ∃ (Ai : Option Addr) (ni ci : Nat), σ 4 = .tuple #[.agg (aS q.1 Ai ni ci), .agg (aH q.2.1), q.2.2] ∧ OwD M7 w Ai ni ci q.1.rs,
 .e fun σ w => ∃ (Ai : Option Addr) (ni ci : Nat), σ 5 = .agg (aS q.1 Ai ni ci) ∧ OwD M7 w Ai ni ci q.1.rs,
 .v (.agg (aH q.2.1)),
 .v (.bool q.2.2),
 .e fun σ w => ∃ g8, σ 8 = pT g8 ∧ M7 ≤ g8 ∧ ∃ x0 x1 x2 x3 x4, BoxAt w g8 #[x0, x1, x2, x3, x4] 32,
 .e fun σ w => ∃ g9, σ 9 = pT g9 ∧ M7 ≤ g9 ∧ ∃ x0 x1 x2 x3 x4 x5 x6 x7 x8 x9 x10 x11, BoxAt w g9 #[x0, x1, x2, x3, x4, x5, x6, x7, x8, x9, x10, x11] 35,
 .e fun σ w => ∃ (g8 : Nat) (Ai : Option Addr) (ni ci : Nat), σ 8 = pT g8 ∧ M7 ≤ g8 ∧ BoxAt w g8 (aS q.1 Ai ni ci) 32 ∧ OwD M7 w Ai ni ci q.1.rs,
 .e fun σ w => ∃ g9, σ 9 = pT g9 ∧ M7 ≤ g9 ∧ BoxAt w g9 (aH q.2.1) 35,
 .v (.bool q.2.2)]
def sd24V (s : St) (A : Option Addr) (n cap N M24 : Nat) (h : Hd) (q : St × Hd × Bool) : List Sl := [.v (.agg (aS s A n cap)),
 .e fun σ w => ∃ (X1 : Option Addr) (d1 : Nat), σ 1 = .agg (aS s X1 n d1) ∧ OwD M24 w X1 n d1 s.rs,
 .v (.agg (aH h)),
 .v (.agg (aH h)),
 .e fun σ w => ∃ (Ai : Option Addr) (ni ci : Nat), σ 4 = .tuple #[.agg (aS q.1 Ai ni ci), .agg (aH q.2.1), q.2.2] ∧ OwD M24 w Ai ni ci q.1.rs,
 .e fun σ w => ∃ (Ai : Option Addr) (ni ci : Nat), σ 5 = .tuple #[.agg (aS q.1 Ai ni ci), .agg (aH q.2.1), q.2.2] ∧ OwD M24 w Ai ni ci q.1.rs,
 .e fun σ w => ∃ (Ai : Option Addr) (ni ci : Nat), σ 6 = .agg (aS q.1 Ai ni ci) ∧ OwD M24 w Ai ni ci q.1.rs,
 .v (.agg (aH q.2.1)),
 .v (.bool q.2.2),
 .e fun σ w => ∃ g9, σ 9 = pT g9 ∧ M24 ≤ g9 ∧ ∃ x0 x1 x2 x3 x4, BoxAt w g9 #[x0, x1, x2, x3, x4] 32,
 .e fun σ w => ∃ g10, σ 10 = pT g10 ∧ M24 ≤ g10 ∧ ∃ x0 x1 x2 x3 x4 x5 x6 x7 x8 x9 x10 x11, BoxAt w g10 #[x0, x1, x2, x3, x4, x5, x6, x7, x8, x9, x10, x11] 35,
 .e fun σ w => ∃ (g9 : Nat) (Ai : Option Addr) (ni ci : Nat), σ 9 = pT g9 ∧ M24 ≤ g9 ∧ BoxAt w g9 (aS q.1 Ai ni ci) 32 ∧ OwD M24 w Ai ni ci q.1.rs,
 .e fun σ w => ∃ g10, σ 10 = pT g10 ∧ M24 ≤ g10 ∧ BoxAt w g10 (aH q.2.1) 35,
 .v (.bool q.2.2)]
def exactSteppedDR (_N : Nat) (s : St) (A : Option Addr) (n cap : Nat) (X : Option Addr) (m : Nat) (j : Nat) (σ : Nat → Value) (w : World) : Prop :=
 match j with
 | 0 => σ 0 = .agg (aS s X n m)
 | 1 => σ 1 = .agg (aS s A n cap)
 | 2 => ∃ (g : Option Addr) (d : Nat), σ 2 = .agg (aS s g n d) ∧ RgsR 0 w g n s.rs
 | 3 => σ 3 = .bool true
 | 4 => σ 4 = .bool false
 | _ => True
def exactSteppedDS (j : Nat) : List Nat := [[0], [1], [2], [3], [4]].getD j [j]
def exactSteppedDK (j : Nat) : Nat := [0, 0, 0, 0, 0].getD j 0
set_option maxRecDepth 100000 in
set_option maxHeartbeats 8000000 in
theorem exactStepped_small (s : St) (A : Option Addr) (n cap : Nat) (h : Hd) (w : World) (hl0 : RgsR 0 w A n s.rs) (hn : n ≤ maxLen) (a0 a1 a2 a3 a4 a5 a6 : Addr) (he : Errs w.heap.size w a0 a1) (hS0 : Sent w.heap.size w 2 a2) (hN0 : a2 ≠ a0) (hS1 : Sent w.heap.size w 5 a3) (hN1 : a3 ≠ a0) (hS2 : Sent w.heap.size w 4 a4) (hN2 : a4 ≠ a0) (hS3 : Sent w.heap.size w 1 a5) (hN3 : a5 ≠ a0) (hS4 : Sent w.heap.size w 0 a6) (hN4 : a6 ≠ a0) (hs : szL 1048576 s.rs ≠ -1) :
  Calls Tryz.prog 3 #[stV s A n cap, hdV h] w (RetBelow (.bool true) w) := by
 have HS := Lib.hid (slim_of hs)
 have HL := Lib.hid hl0.1
 have hn1 : n ≤ 1048576 := by have := HS.out.1; have := hl0.1; omega
 have hz : 0 ≤ szL 1048576 s.rs := by rcases szL_or s.rs (left := 1048576) (by omega) with h | h; exact absurd h hs; exact h.1
 clear hs
 have hE : SntS w.heap.size a0 a1 a2 a3 a4 a5 a6 w := ⟨⟨Nat.le_refl _, he, ⟨hS0, hN0⟩, ⟨hS1, hN1⟩, ⟨hS2, hN2⟩, hS3, hN3⟩, ⟨Nat.le_refl _, he, ⟨hS0, hN0⟩, ⟨hS1, hN1⟩, ⟨hS2, hN2⟩, hS4, hN4⟩⟩
 clear he hS0 hS1 hS2 hS3 hS4 hN0 hN1 hN2 hN3 hN4
 obtain ⟨q, hq_, hS⟩ : ∃ q, stepped s h = q ∧ Slim q.1 := ⟨_, rfl, stepped_slim HS.out⟩
 have HT := Lib.hid hS; clear hS
 have HSQ := Lib.hid (show ∀ (A' : Option Addr) (c lo hi : Nat) (W : World), RgsW lo hi W A' n c s.rs → hi ≤ W.heap.size → Calls Tryz.prog 8 #[stV s A' n c, hdV h] W (RetSHB W.heap.size q W) from fun A' c lo hi W h1 h2 => by
  have := sstepped_any s A' n c lo hi h W h1 h2 hn1 HS.out.each
  rw [hq_] at this
  exact this)
 have HIQ := Lib.hid (show ∀ (A' : Option Addr) (c lo hi : Nat) (W : World), Below w.heap.size w W → RgsW lo hi W A' n c s.rs → hi ≤ W.heap.size → Calls Tryz.prog 11 #[stV s A' n c, hdV h] W (RetSHBD q W) from fun A' c lo hi W hb h1 h2 => by
  have := istepped_any s A' n c lo hi w.heap.size a0 a1 a2 a3 a4 a5 a6 h W h1 h2 hn1 HS.out.each (hE.below hb)
  rw [hq_] at this
  exact this)
 clear hq_ hE
 have hend : 0 ≤ markEnd 1 s.rs := by unfold markEnd; omega
 have hendS : 0 ≤ markEnd 1 q.1.rs := by unfold markEnd; omega
 unfold stV hdV
 go_enter Tryz.func3, Tryz.ntmps3
 go_wp2_with fail
 refine calls_abs (fun W' => Below w.heap.size w W' ∧ BoxAt W' w.heap.size (aS s A n cap) 24 ∧ BoxAt W' (w.heap.size + 1) (aH h) 28 ∧ w.heap.size + 2 ≤ W'.heap.size) ⟨((Below.refl _ _).alloc (Nat.le_refl _) _).alloc (by simp) _, (BoxAt.new _ _ _).alloc _, BoxAt.new' (by simp), by simp⟩ ?_
 rintro W ⟨hB, ha, hse, l0⟩
 refine (szStore_any s A n cap 1048576 _ (hl0.below hB) hn (by omega) (by omega)).mono ?_
 rintro e w1 ⟨rfl, hb1⟩
 generalize szL 1048576 s.rs = z_ at *
 have l1 := hb1.size
 replace ha := ha.below hb1 ha.lt
 replace hse := hse.below hb1 hse.lt
 replace hB := bstep hB hB.size hb1
 clear hb1
 obtain ⟨M5, hMe⟩ : ∃ M5, M5 = w1.heap.size := ⟨_, rfl⟩
 have hM5 : M5 ≤ w1.heap.size := by omega
 have hM53 : w.heap.size + 2 ≤ M5 := by omega
 clear hMe
 go_upto_region 5 with fail
 go_cut [6, 7, 8] (fun s6 s7 s8 W' => Below w.heap.size w W' ∧ BoxAt W' w.heap.size (aS s A n cap) 24 ∧ BoxAt W' (w.heap.size + 1) (aH h) 28 ∧ ∃ g9 g10 As ns cs, s6 = pT g9 ∧ s7 = pT g10 ∧ M5 ≤ g9 ∧ M5 ≤ g10 ∧ BoxAt W' g9 (aS q.1 As ns cs) 32 ∧ BoxAt W' g10 (aH q.2.1) 35 ∧ OwW M5 W' As ns cs q.1.rs ∧ s8 = .bool q.2.2)
 case first =>
  refine wp_region2v (fun w w' => Below w.heap.size w w') (fun _ _ h => h.size) (fun _ => Below.refl _ _) (fun L W' => Below w.heap.size w W' ∧ BoxAt W' w.heap.size (aS s A n cap) 24 ∧ BoxAt W' (w.heap.size + 1) (aH h) 28 ∧ M5 ≤ W'.heap.size) (sd5V s A n cap w.heap.size M5 h q) (fun j => [0, 0, 0, 0, 0, 0, 0, 0, 0, 2, 2, 1, 1, 0].getD j 0) [(11, 9), (12, 10)] (by kernel_rfl) (by kernel_rfl) ?_ ?_ ?_
   (.still rfl ?a0 <| .grow rfl ?a1 <| .still rfl ?a2 <| .grow rfl ?a3 <| .grow rfl ?a4 <| .still rfl ?a5 <| .still rfl ?a6 <| .still rfl ?a7 <| .still rfl ?a8 <| .make rfl ?a9 <| .make rfl ?a10 <| .store rfl ?a11 <| .store rfl ?a12 <| .still rfl ?a13 <| .nil) ?_ ?_
  · exact ⟨fun _ _ _ h ⟨X1, d1, e, hp⟩ => ⟨X1, d1, (h 1 (List.mem_singleton.2 rfl)).symm.trans e, hp⟩, fun _ _ _ h ⟨As, ns, cs, e, hp⟩ => ⟨As, ns, cs, (h 4 (List.mem_singleton.2 rfl)).symm.trans e, hp⟩, fun _ _ _ h ⟨As, ns, cs, e, hp⟩ => ⟨As, ns, cs, (h 5 (List.mem_singleton.2 rfl)).symm.trans e, hp⟩, fun _ _ _ h ⟨As, ns, cs, e, hp⟩ => ⟨As, ns, cs, (h 6 (List.mem_singleton.2 rfl)).symm.trans e, hp⟩, fun _ _ _ h ⟨g, e, hp⟩ => ⟨g, (h 9 (List.mem_singleton.2 rfl)).symm.trans e, hp⟩, fun _ _ _ h ⟨g, e, hp⟩ => ⟨g, (h 10 (List.mem_singleton.2 rfl)).symm.trans e, hp⟩, fun _ _ _ h ⟨g, As, ns, cs, e, hp⟩ => ⟨g, As, ns, cs, (h 9 (List.mem_singleton.2 rfl)).symm.trans e, hp⟩, fun _ _ _ h ⟨g, e, hp⟩ => ⟨g, (h 10 (List.mem_singleton.2 rfl)).symm.trans e, hp⟩, trivial⟩
  · exact ⟨fun σ w w' hb ⟨X1, d1, e, hp⟩ => ⟨X1, d1, e, hp.below hb⟩, fun σ w w' hb ⟨As, ns, cs, e, hp⟩ => ⟨As, ns, cs, e, hp.below hb⟩, fun σ w w' hb ⟨As, ns, cs, e, hp⟩ => ⟨As, ns, cs, e, hp.below hb⟩, fun σ w w' hb ⟨As, ns, cs, e, hp⟩ => ⟨As, ns, cs, e, hp.below hb⟩, fun σ w w' hb ⟨g, e, hg, x0, x1, x2, x3, x4, hx⟩ => ⟨g, e, hg, x0, x1, x2, x3, x4, hx.below hb hx.lt⟩, fun σ w w' hb ⟨g, e, hg, x0, x1, x2, x3, x4, x5, x6, x7, x8, x9, x10, x11, hx⟩ => ⟨g, e, hg, x0, x1, x2, x3, x4, x5, x6, x7, x8, x9, x10, x11, hx.below hb hx.lt⟩, fun σ w w' hb ⟨g, As, ns, cs, e, hg, hx, hp⟩ => ⟨g, As, ns, cs, e, hg, hx.below hb hx.lt, hp.below hb⟩, fun σ w w' hb ⟨g, e, hg, hx⟩ => ⟨g, e, hg, hx.below hb hx.lt⟩, trivial⟩
  · exact ⟨hB.drew, ha, hse, hM5⟩
  case a0 =>
   go_light
   intro L σ W' hcl hL hC hw
   have ka := hC.2.1.cell
   exact zrowSD0
  case a2 =>
   go_light
   intro L σ W' hcl hL hC hw
   have kp := hC.2.2.1.cell
   exact zrowSD0
  case a13 =>
   go_light
   intro L σ W' hcl hL hC hw
   have e8 := wV hw 8 rfl
   exact zrowSD0
  case a1 =>
   go_light
   intro L σ W' hcl hL hC hw
   have e0 := wV hw 0 rfl
   clear hw
   have HC := Lib.hid hC
   clear hC
   clear hcl hL
   refine OpGoes.go fun K hK => ?_
   go_simp
   obtain ⟨hB, ha, hse, hM5⟩ := HC.out
   refine (toStore_any s A n cap _ (hl0.below hB) hn1 HS.out.each).mono ?_
   rintro e w1 ⟨X1, nn, d1, rfl, hO1, hb1⟩
   exact ⟨_, rfl, hK _ _ ⟨⟨bstep hB hB.size hb1, ha.below hb1 ha.lt, hse.below hb1 hse.lt, Nat.le_trans hM5 hb1.size⟩, (by obtain rfl : n = nn := (hO1.1.symm.trans HL.out).symm; exact ⟨X1, d1, rfl, _, Nat.le_refl _, hO1.mono hM5 (Nat.le_refl _)⟩), hb1⟩⟩
  case a3 =>
   go_light
   intro L σ W' hcl hL hC hw
   have e2 := wV hw 2 rfl
   clear hw
   have HC := Lib.hid hC
   clear hC
   clear hcl hL
   refine OpGoes.go fun K hK => ?_
   go_simp
   obtain ⟨hB, ha, hse, hM5⟩ := HC.out
   refine (toHand_any h _).mono ?_
   rintro e w1 ⟨rfl, hb1⟩
   exact ⟨_, rfl, hK _ _ ⟨⟨bstep hB hB.size hb1, ha.below hb1 ha.lt, hse.below hb1 hse.lt, Nat.le_trans hM5 hb1.size⟩, rfl, hb1⟩⟩
  case a4 =>
   go_light
   intro L σ W' hcl hL hC hw
   obtain ⟨X1, d1, e1, hp1⟩ := wE hw 1 rfl
   have e3 := wV hw 3 rfl
   clear hw
   have HC := Lib.hid hC
   clear hC
   clear hcl hL
   refine OpGoes.go fun K hK => ?_
   go_simp
   obtain ⟨hB, ha, hse, hM5⟩ := HC.out
   refine (hp1.elim fun hi_ h_ => HSQ.out X1 d1 M5 hi_ _ h_.2.toW h_.1).mono ?_
   rintro e w1 ⟨As, ns, cs, rfl, hO8, hb1⟩
   exact ⟨_, rfl, hK _ _ ⟨⟨bstep hB hB.size hb1, ha.below hb1 ha.lt, hse.below hb1 hse.lt, Nat.le_trans hM5 hb1.size⟩, ⟨As, ns, cs, rfl, _, Nat.le_refl _, hO8.mono hM5 (Nat.le_refl _)⟩, hb1⟩⟩
  case a5 =>
   go_light
   intro L σ W' hcl hL hC hw
   obtain ⟨As, ns, cs, e4, hp4⟩ := wE hw 4 rfl
   clear hw hcl hL hC
   refine OpGoes.go fun K hK => ?_
   go_simp
   exact hK _ _ ⟨rfl, ⟨As, ns, cs, rfl, hp4⟩⟩
  case a6 =>
   go_light
   intro L σ W' hcl hL hC hw
   obtain ⟨As, ns, cs, e5, hp5⟩ := wE hw 5 rfl
   clear hw hcl hL hC
   refine OpGoes.go fun K hK => ?_
   go_simp
   exact hK _ _ ⟨rfl, ⟨As, ns, cs, rfl, hp5⟩⟩
  case a7 =>
   go_light
   intro L σ W' hcl hL hC hw
   obtain ⟨As, ns, cs, e5, hp5⟩ := wE hw 5 rfl
   exact zrowSD0
  case a8 =>
   go_light
   intro L σ W' hcl hL hC hw
   obtain ⟨As, ns, cs, e5, hp5⟩ := wE hw 5 rfl
   exact zrowSD0
  case a9 =>
   go_light
   intro L σ W' hcl hL hC hw
   clear hw
   have HC := Lib.hid hC
   clear hC
   clear hcl hL
   refine OpGoes.go fun K hK => ?_
   go_simp
   obtain ⟨hB, ha, hse, hM5⟩ := HC.out
   have hb1 : Below W'.heap.size W' (W'.alloc (.cells zS 32)) := (Below.refl _ _).alloc (Nat.le_refl _) _
   exact hK _ _ ⟨⟨bstep hB hB.size hb1, ha.below hb1 ha.lt, hse.below hb1 hse.lt, Nat.le_trans hM5 hb1.size⟩, ⟨_, rfl, hM5, _, _, _, _, _, BoxAt.new _ _ _⟩, hb1, rfl, by simp⟩
  case a10 =>
   go_light
   intro L σ W' hcl hL hC hw
   clear hw
   have HC := Lib.hid hC
   clear hC
   clear hcl hL
   refine OpGoes.go fun K hK => ?_
   go_simp
   obtain ⟨hB, ha, hse, hM5⟩ := HC.out
   have hb1 : Below W'.heap.size W' (W'.alloc (.cells zH 35)) := (Below.refl _ _).alloc (Nat.le_refl _) _
   exact hK _ _ ⟨⟨bstep hB hB.size hb1, ha.below hb1 ha.lt, hse.below hb1 hse.lt, Nat.le_trans hM5 hb1.size⟩, ⟨_, rfl, hM5, _, _, _, _, _, _, _, _, _, _, _, _, BoxAt.new _ _ _⟩, hb1, rfl, by simp⟩
  case a11 =>
   go_light
   intro L σ W' hcl hL hC hw hne
   obtain ⟨As, ns, cs, e6, hp6⟩ := wE hw 6 rfl
   obtain ⟨g9, e9, hg9, x0, x1, x2, x3, x4, hbox9⟩ := wE hw 9 rfl
   clear hw hne
   have HC := Lib.hid hC
   clear hC
   clear hcl hL
   have kc_ := hbox9.cell
   have kf_ := hbox9.frozen
   refine OpGoes.go fun K hK => ?_
   go_simp
   obtain ⟨hB, ha, hse, hM5⟩ := HC.out
   have hset := sets_all (us := (aS q.1 As ns cs)) hbox9 rfl
   refine hK undef (setCells W' g9 0 (aS q.1 As ns cs)) ⟨⟨(Below.setCells (by omega) _ 0 hB), (BoxAt.sets_ne _ 0 ha (by omega)), (BoxAt.sets_ne _ 0 hse (by omega)), (size_sts hM5 _ 0)⟩, ⟨g9, As, ns, cs, e9, hg9, hset, (OwW.setsT hp6 hbox9 _ 0)⟩, Nat.le_of_eq (sets_size _ _ _).symm, keepV ?_⟩
   exact ⟨fun _ _ ⟨X1_x, d1_x, e, hp⟩ => ⟨X1_x, d1_x, e, (OwD.setsT hp hbox9 _ 0)⟩, fun _ _ ⟨As_x, ns_x, cs_x, e, hp⟩ => ⟨As_x, ns_x, cs_x, e, (OwW.setsT hp hbox9 _ 0)⟩, fun _ _ ⟨As_x, ns_x, cs_x, e, hp⟩ => ⟨As_x, ns_x, cs_x, e, (OwW.setsT hp hbox9 _ 0)⟩, fun _ _ ⟨As_x, ns_x, cs_x, e, hp⟩ => ⟨As_x, ns_x, cs_x, e, (OwW.setsT hp hbox9 _ 0)⟩, fun _ _ _ => ⟨g9, e9, hg9, _, _, _, _, _, hset⟩, fun _ _ ⟨g, e, hg, x0, x1, x2, x3, x4, x5, x6, x7, x8, x9, x10, x11, hx⟩ => ⟨g, e, hg, x0, x1, x2, x3, x4, x5, x6, x7, x8, x9, x10, x11, (BoxAt.sets_ne _ 0 hx (by first | omega | exact box_neM hx hbox9 (by decide)))⟩, fun h => absurd rfl h, fun _ _ ⟨g, e, hg, hx⟩ => ⟨g, e, hg, (BoxAt.sets_ne _ 0 hx (by first | omega | exact box_neM hx hbox9 (by decide)))⟩, trivial⟩
  case a12 =>
   go_light
   intro L σ W' hcl hL hC hw hne
   have e7 := wV hw 7 rfl
   obtain ⟨g10, e10, hg10, x0, x1, x2, x3, x4, x5, x6, x7, x8, x9, x10, x11, hbox10⟩ := wE hw 10 rfl
   clear hw hne
   have HC := Lib.hid hC
   clear hC
   clear hcl hL
   have kc_ := hbox10.cell
   have kf_ := hbox10.frozen
   refine OpGoes.go fun K hK => ?_
   go_simp
   obtain ⟨hB, ha, hse, hM5⟩ := HC.out
   have hset := sets_all (us := (aH q.2.1)) hbox10 rfl
   refine hK undef (setCells W' g10 0 (aH q.2.1)) ⟨⟨(Below.setCells (by omega) _ 0 hB), (BoxAt.sets_ne _ 0 ha (by omega)), (BoxAt.sets_ne _ 0 hse (by omega)), (size_sts hM5 _ 0)⟩, ⟨g10, e10, hg10, hset⟩, Nat.le_of_eq (sets_size _ _ _).symm, keepV ?_⟩
   exact ⟨fun _ _ ⟨X1_x, d1_x, e, hp⟩ => ⟨X1_x, d1_x, e, (OwD.setsT hp hbox10 _ 0)⟩, fun _ _ ⟨As_x, ns_x, cs_x, e, hp⟩ => ⟨As_x, ns_x, cs_x, e, (OwW.setsT hp hbox10 _ 0)⟩, fun _ _ ⟨As_x, ns_x, cs_x, e, hp⟩ => ⟨As_x, ns_x, cs_x, e, (OwW.setsT hp hbox10 _ 0)⟩, fun _ _ ⟨As_x, ns_x, cs_x, e, hp⟩ => ⟨As_x, ns_x, cs_x, e, (OwW.setsT hp hbox10 _ 0)⟩, fun _ _ ⟨g, e, hg, x0, x1, x2, x3, x4, hx⟩ => ⟨g, e, hg, x0, x1, x2, x3, x4, (BoxAt.sets_ne _ 0 hx (by first | omega | exact box_neM hx hbox10 (by decide)))⟩, fun _ _ _ => ⟨g10, e10, hg10, _, _, _, _, _, _, _, _, _, _, _, _, hset⟩, fun _ _ ⟨g, As, ns, cs, e, hg, hx, hp⟩ => ⟨g, As, ns, cs, e, hg, (BoxAt.sets_ne _ 0 hx (by first | omega | exact box_neM hx hbox10 (by decide))), (OwW.setsT hp hbox10 _ 0)⟩, fun h => absurd rfl h, trivial⟩
  ·
   intro L L' W' hLL hC
   obtain ⟨hB, ha, hse, hM5⟩ := hC
   exact ⟨hB, ha, hse, hM5⟩
  ·
   intro σ L W' hall hC hRR
   obtain ⟨hB, ha, hse, hM5⟩ := hC
   obtain ⟨g9, As, ns, cs, e9, hg11, s11, hp11⟩ := dE hRR 11 rfl
   obtain ⟨g10, e10, hg12, s12⟩ := dE hRR 12 rfl
   have e13 := dV hRR 13 rfl
   clear hRR
   simp only [lexAll]
   go_simp
   go_step
   go_meet
   exact ⟨hB, ha, hse, g9, g10, As, ns, cs, rfl, rfl, hg11, hg12, s11, s12, hp11, rfl⟩
 case rest =>
 clear hB ha hse hM5
 obtain ⟨hB, ha, hse, p0, p0h, As, ns, cs, rfl, rfl, hp0, hp0h, h0, h0h, hsw, rfl⟩ := hcut
 obtain ⟨hi0, hl0', hs⟩ := hsw
 replace hs : RgsW M5 wc.heap.size wc As ns cs q.1.rs := hs.mono (Nat.le_refl _) hl0'
 clear hl0'
 have hs1 : q.1.rs.length = ns := hs.1
 have hns : ns ≤ 1048576 := by have := HT.out.1; omega
 clear hs1
 have lp0 := h0.lt
 have lp0h := h0h.lt
 go_upto_region 6 with fail
 refine wp_abs (fun W' => Below w.heap.size w W' ∧ BoxAt W' w.heap.size (aS s A n cap) 24 ∧ BoxAt W' (w.heap.size + 1) (aH h) 28 ∧ BoxAt W' p0 (aS q.1 As ns cs) 32 ∧ BoxAt W' p0h (aH q.2.1) 35 ∧ RgsW M5 wc.heap.size W' As ns cs q.1.rs ∧ wc.heap.size ≤ W'.heap.size) ⟨hB, ha, hse, h0, h0h, hs, Nat.le_refl _⟩ ?_
 clear hB ha hse h0 h0h hs
 have hM5P : M5 ≤ wc.heap.size := by omega
 generalize wc.heap.size = P2 at *
 rintro W3 ⟨hB, ha, hse, h0, h0h, hs, l3⟩
 have ka := ha.cell
 go_wp2_with fail
 clear ka
 refine (toStore_any s A n cap _ (hl0.below hB) hn1 HS.out.each).mono ?_
 rintro e w4 ⟨X, n2, m, rfl, hX, hb4⟩
 obtain rfl : n = n2 := (hX.1.symm.trans HL.out).symm
 unfold stV
 have l4 := hb4.size
 replace ha := ha.below hb4 ha.lt
 replace hse := hse.below hb4 hse.lt
 replace h0 := h0.below hb4 h0.lt
 replace h0h := h0h.below hb4 h0h.lt
 replace hs := hs.below hb4 (by omega)
 replace hB := bstep hB hB.size hb4
 clear hb4
 go_upto_region 7 with fail
 refine wp_abs (fun W' => Below w.heap.size w W' ∧ BoxAt W' w.heap.size (aS s A n cap) 24 ∧ BoxAt W' (w.heap.size + 1) (aH h) 28 ∧ BoxAt W' p0 (aS q.1 As ns cs) 32 ∧ BoxAt W' p0h (aH q.2.1) 35 ∧ RgsW M5 P2 W' As ns cs q.1.rs ∧ BoxAt W' w4.heap.size (aS s X n m) 32 ∧ RgsD W3.heap.size w4.heap.size W' X n m s.rs ∧ w4.heap.size < W'.heap.size) ⟨hB.alloc hB.size _, ha.alloc _, hse.alloc _, h0.alloc _, h0h.alloc _, hs.al (by omega) _, BoxAt.new _ _ _, hX.keep (.alloc (Nat.le_refl _) _), by simp⟩ ?_
 clear hB ha hse h0 h0h hs hX
 generalize W3.heap.size = P3 at *
 generalize w4.heap.size = P4 at *
 rintro W4 ⟨hB, ha, hse, h0, h0h, hs, hx0, hX, l5⟩
 obtain ⟨M7, hMe⟩ : ∃ M7, M7 = W4.heap.size := ⟨_, rfl⟩
 have hM7 : M7 ≤ W4.heap.size := by omega
 have hP4M : P4 ≤ M7 := by omega
 have hP4M' : P4 < M7 := by omega
 have hP2M : P2 ≤ M7 := by omega
 have hp0M : p0 < M7 ∧ p0h < M7 := by omega
 go_cut [10, 11, 12] (fun s10 s11 s12 W' => Below w.heap.size w W' ∧ BoxAt W' w.heap.size (aS s A n cap) 24 ∧ BoxAt W' (w.heap.size + 1) (aH h) 28 ∧ BoxAt W' P4 (aS s X n m) 32 ∧ RgsD P3 P4 W' X n m s.rs ∧ (BoxAt W' p0 (aS q.1 As ns cs) 32 ∧ BoxAt W' p0h (aH q.2.1) 35 ∧ RgsW M5 P2 W' As ns cs q.1.rs) ∧ ∃ g8 g9 Ai ni ci, s10 = pT g8 ∧ s11 = pT g9 ∧ M7 ≤ g8 ∧ M7 ≤ g9 ∧ BoxAt W' g8 (aS q.1 Ai ni ci) 32 ∧ BoxAt W' g9 (aH q.2.1) 35 ∧ OwD M7 W' Ai ni ci q.1.rs ∧ s12 = .bool q.2.2)
 case first =>
  refine wp_region2v (fun w w' => Below w.heap.size w w') (fun _ _ h => h.size) (fun _ => Below.refl _ _) (fun L W' => Below w.heap.size w W' ∧ BoxAt W' w.heap.size (aS s A n cap) 24 ∧ BoxAt W' (w.heap.size + 1) (aH h) 28 ∧ M7 ≤ W'.heap.size ∧ BoxAt W' P4 (aS s X n m) 32 ∧ RgsD P3 P4 W' X n m s.rs ∧ BoxAt W' p0 (aS q.1 As ns cs) 32 ∧ BoxAt W' p0h (aH q.2.1) 35 ∧ RgsW M5 P2 W' As ns cs q.1.rs) (sd7V s A n cap w.heap.size M7 P3 P4 X m h q) (fun j => [0, 0, 0, 0, 0, 0, 0, 0, 2, 2, 1, 1, 0].getD j 0) [(10, 8), (11, 9)] (by kernel_rfl) (by kernel_rfl) ?_ ?_ ?_
   (.still rfl ?a0 <| .still rfl ?a1 <| .grow rfl ?a2 <| .grow rfl ?a3 <| .still rfl ?a4 <| .still rfl ?a5 <| .still rfl ?a6 <| .still rfl ?a7 <| .make rfl ?a8 <| .make rfl ?a9 <| .store rfl ?a10 <| .store rfl ?a11 <| .still rfl ?a12 <| .nil) ?_ ?_
  · exact ⟨fun _ _ _ h ⟨Ai, ni, ci, e, hp⟩ => ⟨Ai, ni, ci, (h 3 (List.mem_singleton.2 rfl)).symm.trans e, hp⟩, fun _ _ _ h ⟨Ai, ni, ci, e, hp⟩ => ⟨Ai, ni, ci, (h 4 (List.mem_singleton.2 rfl)).symm.trans e, hp⟩, fun _ _ _ h ⟨Ai, ni, ci, e, hp⟩ => ⟨Ai, ni, ci, (h 5 (List.mem_singleton.2 rfl)).symm.trans e, hp⟩, fun _ _ _ h ⟨g, e, hp⟩ => ⟨g, (h 8 (List.mem_singleton.2 rfl)).symm.trans e, hp⟩, fun _ _ _ h ⟨g, e, hp⟩ => ⟨g, (h 9 (List.mem_singleton.2 rfl)).symm.trans e, hp⟩, fun _ _ _ h ⟨g, Ai, ni, ci, e, hp⟩ => ⟨g, Ai, ni, ci, (h 8 (List.mem_singleton.2 rfl)).symm.trans e, hp⟩, fun _ _ _ h ⟨g, e, hp⟩ => ⟨g, (h 9 (List.mem_singleton.2 rfl)).symm.trans e, hp⟩, trivial⟩
  · exact ⟨fun σ w w' hb ⟨Ai, ni, ci, e, hp⟩ => ⟨Ai, ni, ci, e, hp.below hb⟩, fun σ w w' hb ⟨Ai, ni, ci, e, hp⟩ => ⟨Ai, ni, ci, e, hp.below hb⟩, fun σ w w' hb ⟨Ai, ni, ci, e, hp⟩ => ⟨Ai, ni, ci, e, hp.below hb⟩, fun σ w w' hb ⟨g, e, hg, x0, x1, x2, x3, x4, hx⟩ => ⟨g, e, hg, x0, x1, x2, x3, x4, hx.below hb hx.lt⟩, fun σ w w' hb ⟨g, e, hg, x0, x1, x2, x3, x4, x5, x6, x7, x8, x9, x10, x11, hx⟩ => ⟨g, e, hg, x0, x1, x2, x3, x4, x5, x6, x7, x8, x9, x10, x11, hx.below hb hx.lt⟩, fun σ w w' hb ⟨g, Ai, ni, ci, e, hg, hx, hp⟩ => ⟨g, Ai, ni, ci, e, hg, hx.below hb hx.lt, hp.below hb⟩, fun σ w w' hb ⟨g, e, hg, hx⟩ => ⟨g, e, hg, hx.below hb hx.lt⟩, trivial⟩
  · exact ⟨hB.drew, ha, hse, hM7, hx0, hX, h0, h0h, hs⟩
  case a0 =>
   go_light
   intro L σ W' hcl hL hC hw
   have kx := hC.2.2.2.2.1.cell
   exact zrowSD0
  case a1 =>
   go_light
   intro L σ W' hcl hL hC hw
   have kp := hC.2.2.1.cell
   exact zrowSD0
  case a12 =>
   go_light
   intro L σ W' hcl hL hC hw
   have e7 := wV hw 7 rfl
   exact zrowSD0
  case a2 =>
   go_light
   intro L σ W' hcl hL hC hw
   have e1 := wV hw 1 rfl
   clear hw
   have HC := Lib.hid hC
   clear hC
   clear hcl hL
   refine OpGoes.go fun K hK => ?_
   go_simp
   obtain ⟨hB, ha, hse, hM7, hx0, hX, h0, h0h, hs⟩ := HC.out
   refine (toHand_any h _).mono ?_
   rintro e w1 ⟨rfl, hb1⟩
   exact ⟨_, rfl, hK _ _ ⟨⟨bstep hB hB.size hb1, ha.below hb1 ha.lt, hse.below hb1 hse.lt, Nat.le_trans hM7 hb1.size, hx0.below hb1 hx0.lt, hX.below hb1 (Nat.le_trans hP4M hM7), h0.below hb1 h0.lt, h0h.below hb1 h0h.lt, hs.below hb1 (Nat.le_trans hP2M hM7)⟩, rfl, hb1⟩⟩
  case a3 =>
   go_light
   intro L σ W' hcl hL hC hw
   have e0 := wV hw 0 rfl
   have e2 := wV hw 2 rfl
   clear hw
   have HC := Lib.hid hC
   clear hC
   clear hcl hL
   refine OpGoes.go fun K hK => ?_
   go_simp
   obtain ⟨hB, ha, hse, hM7, hx0, hX, h0, h0h, hs⟩ := HC.out
   refine (HIQ.out X m P3 P4 _ hB hX.toW (Nat.le_trans hP4M hM7)).mono ?_
   rintro e w1 ⟨Ai, ni, ci, rfl, hO8, hb1⟩
   exact ⟨_, rfl, hK _ _ ⟨⟨bstep hB hB.size hb1, ha.below hb1 ha.lt, hse.below hb1 hse.lt, Nat.le_trans hM7 hb1.size, hx0.below hb1 hx0.lt, hX.below hb1 (Nat.le_trans hP4M hM7), h0.below hb1 h0.lt, h0h.below hb1 h0h.lt, hs.below hb1 (Nat.le_trans hP2M hM7)⟩, ⟨Ai, ni, ci, rfl, _, Nat.le_refl _, hO8.mono hM7 (Nat.le_refl _)⟩, hb1⟩⟩
  case a4 =>
   go_light
   intro L σ W' hcl hL hC hw
   obtain ⟨Ai, ni, ci, e3, hp3⟩ := wE hw 3 rfl
   clear hw hcl hL hC
   refine OpGoes.go fun K hK => ?_
   go_simp
   exact hK _ _ ⟨rfl, ⟨Ai, ni, ci, rfl, hp3⟩⟩
  case a5 =>
   exact zrowSD1
  case a6 =>
   go_light
   intro L σ W' hcl hL hC hw
   obtain ⟨Ai, ni, ci, e4, hp4⟩ := wE hw 4 rfl
   exact zrowSD0
  case a7 =>
   go_light
   intro L σ W' hcl hL hC hw
   obtain ⟨Ai, ni, ci, e4, hp4⟩ := wE hw 4 rfl
   exact zrowSD0
  case a8 =>
   go_light
   intro L σ W' hcl hL hC hw
   clear hw
   have HC := Lib.hid hC
   clear hC
   clear hcl hL
   refine OpGoes.go fun K hK => ?_
   go_simp
   obtain ⟨hB, ha, hse, hM7, hx0, hX, h0, h0h, hs⟩ := HC.out
   have hb1 : Below W'.heap.size W' (W'.alloc (.cells zS 32)) := (Below.refl _ _).alloc (Nat.le_refl _) _
   exact hK _ _ ⟨⟨bstep hB hB.size hb1, ha.below hb1 ha.lt, hse.below hb1 hse.lt, Nat.le_trans hM7 hb1.size, hx0.below hb1 hx0.lt, hX.below hb1 (Nat.le_trans hP4M hM7), h0.below hb1 h0.lt, h0h.below hb1 h0h.lt, hs.below hb1 (Nat.le_trans hP2M hM7)⟩, ⟨_, rfl, hM7, _, _, _, _, _, BoxAt.new _ _ _⟩, hb1, rfl, by simp⟩
  case a9 =>
   go_light
   intro L σ W' hcl hL hC hw
   clear hw
   have HC := Lib.hid hC
   clear hC
   clear hcl hL
   refine OpGoes.go fun K hK => ?_
   go_simp
   obtain ⟨hB, ha, hse, hM7, hx0, hX, h0, h0h, hs⟩ := HC.out
   have hb1 : Below W'.heap.size W' (W'.alloc (.cells zH 35)) := (Below.refl _ _).alloc (Nat.le_refl _) _
   exact hK _ _ ⟨⟨bstep hB hB.size hb1, ha.below hb1 ha.lt, hse.below hb1 hse.lt, Nat.le_trans hM7 hb1.size, hx0.below hb1 hx0.lt, hX.below hb1 (Nat.le_trans hP4M hM7), h0.below hb1 h0.lt, h0h.below hb1 h0h.lt, hs.below hb1 (Nat.le_trans hP2M hM7)⟩, ⟨_, rfl, hM7, _, _, _, _, _, _, _, _, _, _, _, _, BoxAt.new _ _ _⟩, hb1, rfl, by simp⟩
  case a10 =>
   go_light
   intro L σ W' hcl hL hC hw hne
   obtain ⟨Ai, ni, ci, e5, hp5⟩ := wE hw 5 rfl
   obtain ⟨g8, e8, hg8, x0, x1, x2, x3, x4, hbox8⟩ := wE hw 8 rfl
   clear hw hne
   have HC := Lib.hid hC
   clear hC
   clear hcl hL
   have kc_ := hbox8.cell
   have kf_ := hbox8.frozen
   refine OpGoes.go fun K hK => ?_
   go_simp
   obtain ⟨hB, ha, hse, hM7, hx0, hX, h0, h0h, hs⟩ := HC.out
   have hset := sets_all (us := (aS q.1 Ai ni ci)) hbox8 rfl
   refine hK undef (setCells W' g8 0 (aS q.1 Ai ni ci)) ⟨⟨(Below.setCells (by omega) _ 0 hB), (BoxAt.sets_ne _ 0 ha (by omega)), (BoxAt.sets_ne _ 0 hse (by omega)), (size_sts hM7 _ 0), (BoxAt.sets_ne _ 0 hx0 (by omega)), (RgsD.sets (by omega) _ 0 hX), (BoxAt.sets_ne _ 0 h0 (by omega)), (BoxAt.sets_ne _ 0 h0h (by omega)), (RgsW.sts hs (by omega) _ 0)⟩, ⟨g8, Ai, ni, ci, e8, hg8, hset, (OwD.setsT hp5 hbox8 _ 0)⟩, Nat.le_of_eq (sets_size _ _ _).symm, keepV ?_⟩
   exact ⟨fun _ _ ⟨Ai_x, ni_x, ci_x, e, hp⟩ => ⟨Ai_x, ni_x, ci_x, e, (OwD.setsT hp hbox8 _ 0)⟩, fun _ _ ⟨Ai_x, ni_x, ci_x, e, hp⟩ => ⟨Ai_x, ni_x, ci_x, e, (OwD.setsT hp hbox8 _ 0)⟩, fun _ _ ⟨Ai_x, ni_x, ci_x, e, hp⟩ => ⟨Ai_x, ni_x, ci_x, e, (OwD.setsT hp hbox8 _ 0)⟩, fun _ _ _ => ⟨g8, e8, hg8, _, _, _, _, _, hset⟩, fun _ _ ⟨g, e, hg, x0, x1, x2, x3, x4, x5, x6, x7, x8, x9, x10, x11, hx⟩ => ⟨g, e, hg, x0, x1, x2, x3, x4, x5, x6, x7, x8, x9, x10, x11, (BoxAt.sets_ne _ 0 hx (by first | omega | exact box_neM hx hbox8 (by decide)))⟩, fun h => absurd rfl h, fun _ _ ⟨g, e, hg, hx⟩ => ⟨g, e, hg, (BoxAt.sets_ne _ 0 hx (by first | omega | exact box_neM hx hbox8 (by decide)))⟩, trivial⟩
  case a11 =>
   go_light
   intro L σ W' hcl hL hC hw hne
   have e6 := wV hw 6 rfl
   obtain ⟨g9, e9, hg9, x0, x1, x2, x3, x4, x5, x6, x7, x8, x9, x10, x11, hbox9⟩ := wE hw 9 rfl
   clear hw hne
   have HC := Lib.hid hC
   clear hC
   clear hcl hL
   have kc_ := hbox9.cell
   have kf_ := hbox9.frozen
   refine OpGoes.go fun K hK => ?_
   go_simp
   obtain ⟨hB, ha, hse, hM7, hx0, hX, h0, h0h, hs⟩ := HC.out
   have hset := sets_all (us := (aH q.2.1)) hbox9 rfl
   refine hK undef (setCells W' g9 0 (aH q.2.1)) ⟨⟨(Below.setCells (by omega) _ 0 hB), (BoxAt.sets_ne _ 0 ha (by omega)), (BoxAt.sets_ne _ 0 hse (by omega)), (size_sts hM7 _ 0), (BoxAt.sets_ne _ 0 hx0 (by omega)), (RgsD.sets (by omega) _ 0 hX), (BoxAt.sets_ne _ 0 h0 (by omega)), (BoxAt.sets_ne _ 0 h0h (by omega)), (RgsW.sts hs (by omega) _ 0)⟩, ⟨g9, e9, hg9, hset⟩, Nat.le_of_eq (sets_size _ _ _).symm, keepV ?_⟩
   exact ⟨fun _ _ ⟨Ai_x, ni_x, ci_x, e, hp⟩ => ⟨Ai_x, ni_x, ci_x, e, (OwD.setsT hp hbox9 _ 0)⟩, fun _ _ ⟨Ai_x, ni_x, ci_x, e, hp⟩ => ⟨Ai_x, ni_x, ci_x, e, (OwD.setsT hp hbox9 _ 0)⟩, fun _ _ ⟨Ai_x, ni_x, ci_x, e, hp⟩ => ⟨Ai_x, ni_x, ci_x, e, (OwD.setsT hp hbox9 _ 0)⟩, fun _ _ ⟨g, e, hg, x0, x1, x2, x3, x4, hx⟩ => ⟨g, e, hg, x0, x1, x2, x3, x4, (BoxAt.sets_ne _ 0 hx (by first | omega | exact box_neM hx hbox9 (by decide)))⟩, fun _ _ _ => ⟨g9, e9, hg9, _, _, _, _, _, _, _, _, _, _, _, _, hset⟩, fun _ _ ⟨g, Ai, ni, ci, e, hg, hx, hp⟩ => ⟨g, Ai, ni, ci, e, hg, (BoxAt.sets_ne _ 0 hx (by first | omega | exact box_neM hx hbox9 (by decide))), (OwD.setsT hp hbox9 _ 0)⟩, fun h => absurd rfl h, trivial⟩
  ·
   intro L L' W' hLL hC
   obtain ⟨hB, ha, hse, hM7, hx0, hX, h0, h0h, hs⟩ := hC
   exact ⟨hB, ha, hse, hM7, hx0, hX, h0, h0h, hs⟩
  ·
   intro σ L W' hall hC hRR
   obtain ⟨hB, ha, hse, hM7, hx0, hX, h0, h0h, hs⟩ := hC
   obtain ⟨g8, Ai, ni, ci, e8, hg10, s10, hp10⟩ := dE hRR 10 rfl
   obtain ⟨g9, e9, hg11, s11⟩ := dE hRR 11 rfl
   have e12 := dV hRR 12 rfl
   clear hRR
   simp only [lexAll]
   go_simp
   go_step
   go_meet
   exact ⟨hB, ha, hse, hx0, hX, ⟨h0, h0h, hs⟩, g8, g9, Ai, ni, ci, rfl, rfl, hg10, hg11, s10, s11, hp10, rfl⟩
 case rest =>
 clear hB ha hse h0 h0h hs hX hx0 hM7
 obtain ⟨hB, ha, hse, hx0, hX, ⟨h0, h0h, hs⟩, p6, p6h, Ai, ni, ci, rfl, rfl, hp6, hp6h, hg, hgh, hgw, rfl⟩ := hcut
 obtain ⟨hi6, hl6, hG⟩ := hgw
 replace hG : RgsD M7 wc.heap.size wc Ai ni ci q.1.rs := hG.mono (Nat.le_refl _) hl6
 obtain rfl : ns = ni := (hG.1.symm.trans hs.1).symm
 clear hl6
 have lp6 := hg.lt
 have hlM : M7 ≤ wc.heap.size := by omega
 go_upto_region 8 with fail
 refine wp_abs (fun W' => Below w.heap.size w W' ∧ BoxAt W' w.heap.size (aS s A n cap) 24 ∧ BoxAt W' (w.heap.size + 1) (aH h) 28 ∧ BoxAt W' p0 (aS q.1 As ns cs) 32 ∧ BoxAt W' p0h (aH q.2.1) 35 ∧ RgsW M5 P2 W' As ns cs q.1.rs ∧ BoxAt W' P4 (aS s X n m) 32 ∧ RgsD P3 P4 W' X n m s.rs ∧ BoxAt W' p6 (aS q.1 Ai ns ci) 32 ∧ BoxAt W' p6h (aH q.2.1) 35 ∧ RgsD M7 wc.heap.size W' Ai ns ci q.1.rs ∧ wc.heap.size ≤ W'.heap.size) ⟨hB, ha, hse, h0, h0h, hs, hx0, hX, hg, hgh, hG, Nat.le_refl _⟩ ?_
 clear hB ha hse h0 h0h hs hX hx0 hg hgh hG
 generalize wc.heap.size = P6 at *
 rintro W6 ⟨hB, ha, hse, h0, h0h, hs, hx0, hX, hg, hgh, hG, l7⟩
 have k0 := h0.cell
 have kg := hg.cell
 go_wp2_with fail
 clear k0 kg
 refine (eqStore_same q.1 _ _ _ _ _ _ hG.r hs.r hns HT.out.each).mono ?_
 rintro e w6 ⟨rfl, hb6⟩
 have l8 := hb6.size
 replace ha := ha.below hb6 ha.lt
 replace hse := hse.below hb6 hse.lt
 replace h0 := h0.below hb6 h0.lt
 replace h0h := h0h.below hb6 h0h.lt
 replace hx0 := hx0.below hb6 hx0.lt
 replace hg := hg.below hb6 hg.lt
 replace hgh := hgh.below hb6 hgh.lt
 replace hs := hs.below hb6 (by omega)
 replace hX := hX.below hb6 (by omega)
 replace hG := hG.below hb6 (by omega)
 replace hB := bstep hB hB.size hb6
 clear hb6
 have k1 := h0h.cell
 have k2 := hgh.cell
 go_wp2_with fail
 clear k1 k2
 refine (eqHand_same q.2.1 _).mono ?_
 rintro e w6h ⟨rfl, hbh⟩
 have l8h := hbh.size
 replace ha := ha.below hbh ha.lt
 replace hse := hse.below hbh hse.lt
 replace h0 := h0.below hbh h0.lt
 replace h0h := h0h.below hbh h0h.lt
 replace hx0 := hx0.below hbh hx0.lt
 replace hg := hg.below hbh hg.lt
 replace hgh := hgh.below hbh hgh.lt
 replace hs := hs.below hbh (by omega)
 replace hX := hX.below hbh (by omega)
 replace hG := hG.below hbh (by omega)
 replace hB := bstep hB hB.size hbh
 clear hbh
 go_upto_region 10 with fail
 refine wp_abs (fun W' => Below w.heap.size w W' ∧ BoxAt W' w.heap.size (aS s A n cap) 24 ∧ BoxAt W' (w.heap.size + 1) (aH h) 28 ∧ BoxAt W' p0 (aS q.1 As ns cs) 32 ∧ BoxAt W' p0h (aH q.2.1) 35 ∧ RgsW M5 P2 W' As ns cs q.1.rs ∧ BoxAt W' P4 (aS s X n m) 32 ∧ RgsD P3 P4 W' X n m s.rs ∧ BoxAt W' p6 (aS q.1 Ai ns ci) 32 ∧ BoxAt W' p6h (aH q.2.1) 35 ∧ RgsD M7 P6 W' Ai ns ci q.1.rs ∧ P6 ≤ W'.heap.size) ⟨hB, ha, hse, h0, h0h, hs, hx0, hX, hg, hgh, hG, by omega⟩ ?_
 clear hB ha hse h0 h0h hs hX hx0 hg hgh hG l8 l8h l7
 rintro W5 ⟨hB, ha, hse, h0, h0h, hs, hx0, hX, hg, hgh, hG, l7⟩
 have hl := hl0.below hB
 have hXr := hX.r
 have l1 := ha.lt
 have lx0 := hx0.lt
 go_cut [62] (fun s W' => Below W5.heap.size W5 W' ∧ s = .bool false)
 case first =>
  refine wp_region_R (fun W' => Below W5.heap.size W5 W') (exactSteppedDR W5.heap.size s A n cap X m) exactSteppedDK exactSteppedDS (by kernel_rfl) (by kernel_rfl) ?_ ?_ ?_
   (.grow rfl ?_ <| .grow rfl ?_ <| .grow rfl ?_ <| .grow rfl ?_ <| .grow rfl ?_ <| .nil) ?_
  ·
   intro j σ τ w h hR
   match j, h, hR with
   | 0, h, hR => exact (h 0 (by decide)).symm.trans hR
   | 1, h, hR => exact (h 1 (by decide)).symm.trans hR
   | 2, h, hR => obtain ⟨g, d, e, hp⟩ := hR; exact ⟨g, d, (h 2 (by decide)).symm.trans e, hp⟩
   | 3, h, hR => exact (h 3 (by decide)).symm.trans hR
   | 4, h, hR => exact (h 4 (by decide)).symm.trans hR
   | _ + 5, _, _ => exact trivial
  ·
   intro j σ w w' hb hR
   match j, hR with
   | 0, hR => exact hR
   | 1, hR => exact hR
   | 2, hR => obtain ⟨g, d, e, hp⟩ := hR; exact ⟨g, d, e, hp.below hb⟩
   | 3, hR => exact hR
   | 4, hR => exact hR
   | _ + 5, _ => exact trivial
  · exact Below.drew (Below.refl _ _)
  ·
   intro σ W' hC hw
   clear hw
   have k_hx0 := (hx0.below hC (by omega)).cell
   exact zrowSD2
  ·
   intro σ W' hC hw
   clear hw
   have k_ha := (ha.below hC (by omega)).cell
   exact zrowSD2
  ·
   intro σ W' hC hw
   have e1 : σ 1 = .agg (aS s A n cap) := hw 1 (by kernel_rfl)
   clear hw
   refine OpGoes.go fun K hK => ?_
   go_simp
   refine (toStore_any s A n cap _ (hl.below hC) hn1 HS.out.each).mono ?_
   rintro e w1 ⟨g, nn, d, rfl, hO, hb1⟩
   exact ⟨_, rfl, hK _ _ ⟨bstep hC hC.size hb1, by obtain rfl : nn = n := hO.1.symm.trans HL.out; exact ⟨g, d, rfl, hO.r⟩, hb1⟩⟩
  ·
   intro σ W' hC hw
   have e0 : σ 0 = .agg (aS s X n m) := hw 0 (by kernel_rfl)
   obtain ⟨g_2, d_2, e2, hp2⟩ : ∃ (g : Option Addr) (d : Nat), σ 2 = .agg (aS s g n d) ∧ RgsR 0 W' g n s.rs := hw 2 (by kernel_rfl)
   clear hw
   refine OpGoes.go fun K hK => ?_
   go_simp
   refine (eqStore_same s _ _ n _ _ _ (hXr.below hC) hp2 hn1 HS.out.each).mono ?_
   rintro e w1 ⟨rfl, hb1⟩
   exact ⟨_, rfl, hK _ _ ⟨bstep hC hC.size hb1, rfl, hb1⟩⟩
  ·
   intro σ W' hC hw
   have e3 : σ 3 = .bool true := hw 3 (by kernel_rfl)
   clear hw
   exact zrowSD2
  ·
   intro σ W' hC hR
   have e4 : σ 4 = .bool false := hR 4 (by decide)
   clear hR
   simp only [lexAll]
   go_simp
   go_step
   go_meet
   exact ⟨hC, rfl⟩
 case rest =>
  obtain ⟨hb6, rfl⟩ := hcut
  have l8 := hb6.size
  replace ha := ha.below hb6 ha.lt
  replace hse := hse.below hb6 hse.lt
  replace h0 := h0.below hb6 h0.lt
  replace h0h := h0h.below hb6 h0h.lt
  replace hx0 := hx0.below hb6 hx0.lt
  replace hg := hg.below hb6 hg.lt
  replace hgh := hgh.below hb6 hgh.lt
  replace hs := hs.below hb6 (by omega)
  replace hX := hX.below hb6 (by omega)
  replace hG := hG.below hb6 (by omega)
  replace hB := bstep hB hB.size hb6
  clear hb6
  clear hl hXr l1 lx0
  have kx := hx0.cell
  go_wp2_with fail
  clear kx
  refine (markStore_any s X n m 1 P3 P4 _ hX (by omega) (by omega) HS.out.k HS.out.2).mono ?_
  rintro e w7 ⟨rfl, hb7, hX7⟩
  clear hX7 hX
  have l9 := hb7.size
  replace ha := hb7.box ha (.inl (by omega))
  replace hse := hb7.box hse (.inl (by omega))
  replace h0 := hb7.box h0 (.inl (by omega))
  replace h0h := hb7.box h0h (.inl (by omega))
  replace hg := hb7.box hg (.inr (by omega))
  replace hgh := hb7.box hgh (.inr (by omega))
  replace hs := hs.keep (hb7.same (.inl (by omega)) (by omega))
  replace hG := hG.keep (hb7.same (.inr (by omega)) (by omega))
  replace hB := hB.trans (hb7.below (by omega) hB.size)
  clear hb7 hx0
  generalize markEnd 1 s.rs = z2 at *
  have k0 := h0.cell
  have kg := hg.cell
  go_wp2_with fail
  clear k0 kg
  refine (eqStore_same q.1 _ _ _ _ _ _ hG.r hs.r hns HT.out.each).mono ?_
  rintro e w8 ⟨rfl, hb8⟩
  have l10 := hb8.size
  replace ha := ha.below hb8 ha.lt
  replace hse := hse.below hb8 hse.lt
  replace h0 := h0.below hb8 h0.lt
  replace h0h := h0h.below hb8 h0h.lt
  replace hg := hg.below hb8 hg.lt
  replace hgh := hgh.below hb8 hgh.lt
  replace hs := hs.below hb8 (by omega)
  replace hG := hG.below hb8 (by omega)
  replace hB := bstep hB hB.size hb8
  clear hb8
  have k1 := h0h.cell
  have k2 := hgh.cell
  go_wp2_with fail
  clear k1 k2
  refine (eqHand_same q.2.1 _).mono ?_
  rintro e w8h ⟨rfl, hbh⟩
  have l10h := hbh.size
  replace ha := ha.below hbh ha.lt
  replace hse := hse.below hbh hse.lt
  clear hgh
  replace h0 := h0.below hbh h0.lt
  replace h0h := h0h.below hbh h0h.lt
  replace hg := hg.below hbh hg.lt
  replace hs := hs.below hbh (by omega)
  replace hG := hG.below hbh (by omega)
  replace hB := bstep hB hB.size hbh
  clear hbh
  have kg := hg.cell
  go_wp2_with fail
  clear kg
  refine (markStoreT_any q.1 Ai ns ci 1 M7 P6 _ hG (by omega) (by omega) HT.out.k HT.out.2).mono ?_
  rintro e w9 ⟨rfl, hb9, hM⟩
  clear hG
  have l11 := hb9.inn.size
  replace ha := hb9.inn.box ha (.inl (by omega))
  replace hse := hb9.inn.box hse (.inl (by omega))
  replace h0 := hb9.inn.box h0 (.inl (by omega))
  replace h0h := hb9.inn.box h0h (.inl (by omega))
  replace hg := hb9.box hg
  replace hs := hs.keep (hb9.inn.same (.inl (by omega)) (by omega))
  replace hB := hB.trans (hb9.inn.below (by omega) hB.size)
  clear hb9
  have kg := hg.cell
  go_wp2_with fail
  clear kg
  refine (heldStore_any _ q.1 _ _ _ 1 _ hM.r (by omega) HT.out.k HT.out.2).mono ?_
  rintro e w10 ⟨rfl, hb10⟩
  have l12 := hb10.size
  replace ha := ha.below hb10 ha.lt
  replace hse := hse.below hb10 hse.lt
  replace h0 := h0.below hb10 h0.lt
  replace h0h := h0h.below hb10 h0h.lt
  replace hg := hg.below hb10 hg.lt
  replace hs := hs.below hb10 (by omega)
  replace hM := hM.below hb10 (by omega)
  replace hB := bstep hB hB.size hb10
  clear hb10
  obtain ⟨z3, hz3⟩ : ∃ z3, z3 = markEnd 1 q.1.rs := ⟨_, rfl⟩
  rw [← hz3] at hendS
  have HE := Lib.hid hz3
  rw [← hz3]
  clear hz3
  have HMK := Lib.hid hM; clear hM
  have HG6 := Lib.hid hg; clear hg
  have HSS := Lib.hid hs; clear hs
  have HH0 := Lib.hid h0; clear h0
  have HHH := Lib.hid h0h; clear h0h
  obtain ⟨M24, hMe⟩ : ∃ M24, M24 = w10.heap.size := ⟨_, rfl⟩
  have hM24 : M24 ≤ w10.heap.size := by omega
  have hM24w : M24 ≤ w10.heap.size := by omega
  have hM3 : w.heap.size + 2 ≤ M24 := by omega
  have hbX : Below M24 w10 w10 := Below.refl _ _
  go_upto_region 24 with fail
  go_cut [16, 17, 18] (fun s16 s17 s18 W' => Below w.heap.size w W' ∧ Below M24 w10 W' ∧ ∃ g9 g10 Ai ni ci, s16 = pT g9 ∧ s17 = pT g10 ∧ M24 ≤ g9 ∧ M24 ≤ g10 ∧ BoxAt W' g9 (aS q.1 Ai ni ci) 32 ∧ BoxAt W' g10 (aH q.2.1) 35 ∧ OwD M24 W' Ai ni ci q.1.rs ∧ s18 = .bool q.2.2)
  case first =>
   refine wp_region2v (fun w w' => Below w.heap.size w w') (fun _ _ h => h.size) (fun _ => Below.refl _ _) (fun L W' => Below w.heap.size w W' ∧ BoxAt W' w.heap.size (aS s A n cap) 24 ∧ BoxAt W' (w.heap.size + 1) (aH h) 28 ∧ M24 ≤ W'.heap.size ∧ Below M24 w10 W') (sd24V s A n cap w.heap.size M24 h q) (fun j => [0, 0, 0, 0, 0, 0, 0, 0, 0, 2, 2, 1, 1, 0].getD j 0) [(11, 9), (12, 10)] (by kernel_rfl) (by kernel_rfl) ?_ ?_ ?_
    (.still rfl ?a0 <| .grow rfl ?a1 <| .still rfl ?a2 <| .grow rfl ?a3 <| .grow rfl ?a4 <| .still rfl ?a5 <| .still rfl ?a6 <| .still rfl ?a7 <| .still rfl ?a8 <| .make rfl ?a9 <| .make rfl ?a10 <| .store rfl ?a11 <| .store rfl ?a12 <| .still rfl ?a13 <| .nil) ?_ ?_
   · exact ⟨fun _ _ _ h ⟨X1, d1, e, hp⟩ => ⟨X1, d1, (h 1 (List.mem_singleton.2 rfl)).symm.trans e, hp⟩, fun _ _ _ h ⟨Ai, ni, ci, e, hp⟩ => ⟨Ai, ni, ci, (h 4 (List.mem_singleton.2 rfl)).symm.trans e, hp⟩, fun _ _ _ h ⟨Ai, ni, ci, e, hp⟩ => ⟨Ai, ni, ci, (h 5 (List.mem_singleton.2 rfl)).symm.trans e, hp⟩, fun _ _ _ h ⟨Ai, ni, ci, e, hp⟩ => ⟨Ai, ni, ci, (h 6 (List.mem_singleton.2 rfl)).symm.trans e, hp⟩, fun _ _ _ h ⟨g, e, hp⟩ => ⟨g, (h 9 (List.mem_singleton.2 rfl)).symm.trans e, hp⟩, fun _ _ _ h ⟨g, e, hp⟩ => ⟨g, (h 10 (List.mem_singleton.2 rfl)).symm.trans e, hp⟩, fun _ _ _ h ⟨g, Ai, ni, ci, e, hp⟩ => ⟨g, Ai, ni, ci, (h 9 (List.mem_singleton.2 rfl)).symm.trans e, hp⟩, fun _ _ _ h ⟨g, e, hp⟩ => ⟨g, (h 10 (List.mem_singleton.2 rfl)).symm.trans e, hp⟩, trivial⟩
   · exact ⟨fun σ w w' hb ⟨X1, d1, e, hp⟩ => ⟨X1, d1, e, hp.below hb⟩, fun σ w w' hb ⟨Ai, ni, ci, e, hp⟩ => ⟨Ai, ni, ci, e, hp.below hb⟩, fun σ w w' hb ⟨Ai, ni, ci, e, hp⟩ => ⟨Ai, ni, ci, e, hp.below hb⟩, fun σ w w' hb ⟨Ai, ni, ci, e, hp⟩ => ⟨Ai, ni, ci, e, hp.below hb⟩, fun σ w w' hb ⟨g, e, hg, x0, x1, x2, x3, x4, hx⟩ => ⟨g, e, hg, x0, x1, x2, x3, x4, hx.below hb hx.lt⟩, fun σ w w' hb ⟨g, e, hg, x0, x1, x2, x3, x4, x5, x6, x7, x8, x9, x10, x11, hx⟩ => ⟨g, e, hg, x0, x1, x2, x3, x4, x5, x6, x7, x8, x9, x10, x11, hx.below hb hx.lt⟩, fun σ w w' hb ⟨g, Ai, ni, ci, e, hg, hx, hp⟩ => ⟨g, Ai, ni, ci, e, hg, hx.below hb hx.lt, hp.below hb⟩, fun σ w w' hb ⟨g, e, hg, hx⟩ => ⟨g, e, hg, hx.below hb hx.lt⟩, trivial⟩
   · exact ⟨hB.drew, ha, hse, hM24, hbX.drew⟩
   case a0 =>
    go_light
    intro L σ W' hcl hL hC hw
    have ka := hC.2.1.cell
    exact zrowSD0
   case a2 =>
    go_light
    intro L σ W' hcl hL hC hw
    have kp := hC.2.2.1.cell
    exact zrowSD0
   case a13 =>
    go_light
    intro L σ W' hcl hL hC hw
    have e8 := wV hw 8 rfl
    exact zrowSD0
   case a1 =>
    go_light
    intro L σ W' hcl hL hC hw
    have e0 := wV hw 0 rfl
    clear hw
    have HC := Lib.hid hC
    clear hC
    clear hcl hL
    refine OpGoes.go fun K hK => ?_
    go_simp
    obtain ⟨hB, ha, hse, hM24, hbX⟩ := HC.out
    refine (toStore_any s A n cap _ (hl0.below hB) hn1 HS.out.each).mono ?_
    rintro e w1 ⟨X1, nn, d1, rfl, hO1, hb1⟩
    exact ⟨_, rfl, hK _ _ ⟨⟨bstep hB hB.size hb1, ha.below hb1 ha.lt, hse.below hb1 hse.lt, Nat.le_trans hM24 hb1.size, bstep hbX (Nat.le_trans hM24w hbX.size) hb1⟩, (by obtain rfl : n = nn := (hO1.1.symm.trans HL.out).symm; exact ⟨X1, d1, rfl, _, Nat.le_refl _, hO1.mono hM24 (Nat.le_refl _)⟩), hb1⟩⟩
   case a3 =>
    go_light
    intro L σ W' hcl hL hC hw
    have e2 := wV hw 2 rfl
    clear hw
    have HC := Lib.hid hC
    clear hC
    clear hcl hL
    refine OpGoes.go fun K hK => ?_
    go_simp
    obtain ⟨hB, ha, hse, hM24, hbX⟩ := HC.out
    refine (toHand_any h _).mono ?_
    rintro e w1 ⟨rfl, hb1⟩
    exact ⟨_, rfl, hK _ _ ⟨⟨bstep hB hB.size hb1, ha.below hb1 ha.lt, hse.below hb1 hse.lt, Nat.le_trans hM24 hb1.size, bstep hbX (Nat.le_trans hM24w hbX.size) hb1⟩, rfl, hb1⟩⟩
   case a4 =>
    go_light
    intro L σ W' hcl hL hC hw
    obtain ⟨X1, d1, e1, hp1⟩ := wE hw 1 rfl
    have e3 := wV hw 3 rfl
    clear hw
    have HC := Lib.hid hC
    clear hC
    clear hcl hL
    refine OpGoes.go fun K hK => ?_
    go_simp
    obtain ⟨hB, ha, hse, hM24, hbX⟩ := HC.out
    refine (hp1.elim fun hi_ h_ => HIQ.out X1 d1 M24 hi_ _ hB h_.2.toW h_.1).mono ?_
    rintro e w1 ⟨Ai, ni, ci, rfl, hO8, hb1⟩
    exact ⟨_, rfl, hK _ _ ⟨⟨bstep hB hB.size hb1, ha.below hb1 ha.lt, hse.below hb1 hse.lt, Nat.le_trans hM24 hb1.size, bstep hbX (Nat.le_trans hM24w hbX.size) hb1⟩, ⟨Ai, ni, ci, rfl, _, Nat.le_refl _, hO8.mono hM24 (Nat.le_refl _)⟩, hb1⟩⟩
   case a5 =>
    exact zrowSD1
   case a6 =>
    go_light
    intro L σ W' hcl hL hC hw
    obtain ⟨Ai, ni, ci, e5, hp5⟩ := wE hw 5 rfl
    clear hw hcl hL hC
    refine OpGoes.go fun K hK => ?_
    go_simp
    exact hK _ _ ⟨rfl, ⟨Ai, ni, ci, rfl, hp5⟩⟩
   case a7 =>
    go_light
    intro L σ W' hcl hL hC hw
    obtain ⟨Ai, ni, ci, e5, hp5⟩ := wE hw 5 rfl
    exact zrowSD0
   case a8 =>
    go_light
    intro L σ W' hcl hL hC hw
    obtain ⟨Ai, ni, ci, e5, hp5⟩ := wE hw 5 rfl
    exact zrowSD0
   case a9 =>
    go_light
    intro L σ W' hcl hL hC hw
    clear hw
    have HC := Lib.hid hC
    clear hC
    clear hcl hL
    refine OpGoes.go fun K hK => ?_
    go_simp
    obtain ⟨hB, ha, hse, hM24, hbX⟩ := HC.out
    have hb1 : Below W'.heap.size W' (W'.alloc (.cells zS 32)) := (Below.refl _ _).alloc (Nat.le_refl _) _
    exact hK _ _ ⟨⟨bstep hB hB.size hb1, ha.below hb1 ha.lt, hse.below hb1 hse.lt, Nat.le_trans hM24 hb1.size, bstep hbX (Nat.le_trans hM24w hbX.size) hb1⟩, ⟨_, rfl, hM24, _, _, _, _, _, BoxAt.new _ _ _⟩, hb1, rfl, by simp⟩
   case a10 =>
    go_light
    intro L σ W' hcl hL hC hw
    clear hw
    have HC := Lib.hid hC
    clear hC
    clear hcl hL
    refine OpGoes.go fun K hK => ?_
    go_simp
    obtain ⟨hB, ha, hse, hM24, hbX⟩ := HC.out
    have hb1 : Below W'.heap.size W' (W'.alloc (.cells zH 35)) := (Below.refl _ _).alloc (Nat.le_refl _) _
    exact hK _ _ ⟨⟨bstep hB hB.size hb1, ha.below hb1 ha.lt, hse.below hb1 hse.lt, Nat.le_trans hM24 hb1.size, bstep hbX (Nat.le_trans hM24w hbX.size) hb1⟩, ⟨_, rfl, hM24, _, _, _, _, _, _, _, _, _, _, _, _, BoxAt.new _ _ _⟩, hb1, rfl, by simp⟩
   case a11 =>
    go_light
    intro L σ W' hcl hL hC hw hne
    obtain ⟨Ai, ni, ci, e6, hp6⟩ := wE hw 6 rfl
    obtain ⟨g9, e9, hg9, x0, x1, x2, x3, x4, hbox9⟩ := wE hw 9 rfl
    clear hw hne
    have HC := Lib.hid hC
    clear hC
    clear hcl hL
    have kc_ := hbox9.cell
    have kf_ := hbox9.frozen
    refine OpGoes.go fun K hK => ?_
    go_simp
    obtain ⟨hB, ha, hse, hM24, hbX⟩ := HC.out
    have hset := sets_all (us := (aS q.1 Ai ni ci)) hbox9 rfl
    refine hK undef (setCells W' g9 0 (aS q.1 Ai ni ci)) ⟨⟨(Below.setCells (by omega) _ 0 hB), (BoxAt.sets_ne _ 0 ha (by omega)), (BoxAt.sets_ne _ 0 hse (by omega)), (size_sts hM24 _ 0), (Below.setCells (by omega) _ 0 hbX)⟩, ⟨g9, Ai, ni, ci, e9, hg9, hset, (OwD.setsT hp6 hbox9 _ 0)⟩, Nat.le_of_eq (sets_size _ _ _).symm, keepV ?_⟩
    exact ⟨fun _ _ ⟨X1_x, d1_x, e, hp⟩ => ⟨X1_x, d1_x, e, (OwD.setsT hp hbox9 _ 0)⟩, fun _ _ ⟨Ai_x, ni_x, ci_x, e, hp⟩ => ⟨Ai_x, ni_x, ci_x, e, (OwD.setsT hp hbox9 _ 0)⟩, fun _ _ ⟨Ai_x, ni_x, ci_x, e, hp⟩ => ⟨Ai_x, ni_x, ci_x, e, (OwD.setsT hp hbox9 _ 0)⟩, fun _ _ ⟨Ai_x, ni_x, ci_x, e, hp⟩ => ⟨Ai_x, ni_x, ci_x, e, (OwD.setsT hp hbox9 _ 0)⟩, fun _ _ _ => ⟨g9, e9, hg9, _, _, _, _, _, hset⟩, fun _ _ ⟨g, e, hg, x0, x1, x2, x3, x4, x5, x6, x7, x8, x9, x10, x11, hx⟩ => ⟨g, e, hg, x0, x1, x2, x3, x4, x5, x6, x7, x8, x9, x10, x11, (BoxAt.sets_ne _ 0 hx (by first | omega | exact box_neM hx hbox9 (by decide)))⟩, fun h => absurd rfl h, fun _ _ ⟨g, e, hg, hx⟩ => ⟨g, e, hg, (BoxAt.sets_ne _ 0 hx (by first | omega | exact box_neM hx hbox9 (by decide)))⟩, trivial⟩
   case a12 =>
    go_light
    intro L σ W' hcl hL hC hw hne
    have e7 := wV hw 7 rfl
    obtain ⟨g10, e10, hg10, x0, x1, x2, x3, x4, x5, x6, x7, x8, x9, x10, x11, hbox10⟩ := wE hw 10 rfl
    clear hw hne
    have HC := Lib.hid hC
    clear hC
    clear hcl hL
    have kc_ := hbox10.cell
    have kf_ := hbox10.frozen
    refine OpGoes.go fun K hK => ?_
    go_simp
    obtain ⟨hB, ha, hse, hM24, hbX⟩ := HC.out
    have hset := sets_all (us := (aH q.2.1)) hbox10 rfl
    refine hK undef (setCells W' g10 0 (aH q.2.1)) ⟨⟨(Below.setCells (by omega) _ 0 hB), (BoxAt.sets_ne _ 0 ha (by omega)), (BoxAt.sets_ne _ 0 hse (by omega)), (size_sts hM24 _ 0), (Below.setCells (by omega) _ 0 hbX)⟩, ⟨g10, e10, hg10, hset⟩, Nat.le_of_eq (sets_size _ _ _).symm, keepV ?_⟩
    exact ⟨fun _ _ ⟨X1_x, d1_x, e, hp⟩ => ⟨X1_x, d1_x, e, (OwD.setsT hp hbox10 _ 0)⟩, fun _ _ ⟨Ai_x, ni_x, ci_x, e, hp⟩ => ⟨Ai_x, ni_x, ci_x, e, (OwD.setsT hp hbox10 _ 0)⟩, fun _ _ ⟨Ai_x, ni_x, ci_x, e, hp⟩ => ⟨Ai_x, ni_x, ci_x, e, (OwD.setsT hp hbox10 _ 0)⟩, fun _ _ ⟨Ai_x, ni_x, ci_x, e, hp⟩ => ⟨Ai_x, ni_x, ci_x, e, (OwD.setsT hp hbox10 _ 0)⟩, fun _ _ ⟨g, e, hg, x0, x1, x2, x3, x4, hx⟩ => ⟨g, e, hg, x0, x1, x2, x3, x4, (BoxAt.sets_ne _ 0 hx (by first | omega | exact box_neM hx hbox10 (by decide)))⟩, fun _ _ _ => ⟨g10, e10, hg10, _, _, _, _, _, _, _, _, _, _, _, _, hset⟩, fun _ _ ⟨g, Ai, ni, ci, e, hg, hx, hp⟩ => ⟨g, Ai, ni, ci, e, hg, (BoxAt.sets_ne _ 0 hx (by first | omega | exact box_neM hx hbox10 (by decide))), (OwD.setsT hp hbox10 _ 0)⟩, fun h => absurd rfl h, trivial⟩
   ·
    intro L L' W' hLL hC
    obtain ⟨hB, ha, hse, hM24, hbX⟩ := hC
    exact ⟨hB, ha, hse, hM24, hbX⟩
   ·
    intro σ L W' hall hC hRR
    obtain ⟨hB, ha, hse, hM24, hbX⟩ := hC
    obtain ⟨g9, Ai, ni, ci, e9, hg11, s11, hp11⟩ := dE hRR 11 rfl
    obtain ⟨g10, e10, hg12, s12⟩ := dE hRR 12 rfl
    have e13 := dV hRR 13 rfl
    clear hRR
    simp only [lexAll]
    go_simp
    go_step
    go_meet
    exact ⟨hB, hbX, g9, g10, Ai, ni, ci, rfl, rfl, hg11, hg12, s11, s12, hp11, rfl⟩
  case rest =>
  clear hB ha hse hM24 hbX
  obtain ⟨hB, hb11, p8, p8h, Aj, nj, cj, rfl, rfl, hp8, hp8h, hh0, hh0h, hjw, rfl⟩ := hcut
  obtain ⟨hi8, hl8, hj⟩ := hjw
  replace hb11 : Below w10.heap.size w10 wc := hb11.mono (by omega)
  have hs := HSS.out.below hb11 (by omega)
  have hg := HG6.out.below hb11 HG6.out.lt
  have h0 := HH0.out.below hb11 HH0.out.lt
  have h0h := HHH.out.below hb11 HHH.out.lt
  have hM := HMK.out.below hb11 (by omega)
  obtain rfl : ns = nj := (hj.1.symm.trans hs.1).symm
  have l13 := hb11.size
  clear hb11
  have k0 := h0.cell
  have kh := hh0.cell
  go_wp2_with fail
  clear k0 kh
  refine (eqStore_same q.1 _ _ _ _ _ _ hj.r hs.r hns HT.out.each).mono ?_
  rintro e w13 ⟨rfl, hb13⟩
  have l14 := hb13.size
  replace hg := hg.below hb13 hg.lt
  replace h0h := h0h.below hb13 h0h.lt
  replace hh0h := hh0h.below hb13 hh0h.lt
  replace hM := hM.below hb13 (by omega)
  replace hB := bstep hB hB.size hb13
  clear hb13 h0 hs hj hh0
  have k1 := h0h.cell
  have k2 := hh0h.cell
  go_wp2_with fail
  clear k1 k2
  refine (eqHand_same q.2.1 _).mono ?_
  rintro e w15 ⟨rfl, hb15⟩
  replace hg := hg.below hb15 hg.lt
  replace hM := hM.below hb15 (by omega)
  replace hB := bstep hB hB.size hb15
  clear hb15 h0h hh0h
  have kg := hg.cell
  go_wp2_with fail
  clear kg
  refine (heldStore_any _ q.1 _ _ _ 1 _ hM.r (by omega) HT.out.k HT.out.2).mono ?_
  rintro e w14 ⟨rfl, hb14⟩
  replace hB := bstep hB hB.size hb14
  rw [← HE.out]
  go_wp2
  go_ret
  exact .mk rfl hB
set_option maxHeartbeats 400000 in
theorem exactStepped_big (s : St) (A : Option Addr) (n cap : Nat) (h : Hd) (w : World) (hl0 : RgsR 0 w A n s.rs) (hn : n ≤ maxLen) (hs : szL 1048576 s.rs = -1) :
  Calls Tryz.prog 3 #[stV s A n cap, hdV h] w (RetBelow (.bool true) w) := by
 have HS := Lib.hid hs; clear hs
 unfold stV hdV
 go_enter Tryz.func3, Tryz.ntmps3
 go_wp2_with fail
 refine calls_abs (fun W => Below w.heap.size w W) (((Below.refl _ _).alloc (Nat.le_refl _) _).alloc (by simp) _) ?_
 rintro W hB
 refine (szStore_any s A n cap 1048576 _ (hl0.below hB) hn (by omega) (by omega)).mono ?_
 rintro e w1 ⟨rfl, hb1⟩
 rw [HS.out]
 go_wp2
 go_ret
 exact .mk rfl (bstep hB hB.size hb1)
theorem exactStepped_any (s : St) (A : Option Addr) (n cap : Nat) (h : Hd) (w : World) (hl : RgsR 0 w A n s.rs) (hn : n ≤ maxLen) (a0 a1 a2 a3 a4 a5 a6 : Addr) (he : Errs w.heap.size w a0 a1) (hS0 : Sent w.heap.size w 2 a2) (hN0 : a2 ≠ a0) (hS1 : Sent w.heap.size w 5 a3) (hN1 : a3 ≠ a0) (hS2 : Sent w.heap.size w 4 a4) (hN2 : a4 ≠ a0) (hS3 : Sent w.heap.size w 1 a5) (hN3 : a5 ≠ a0) (hS4 : Sent w.heap.size w 0 a6) (hN4 : a6 ≠ a0) :
  Calls Tryz.prog 3 #[stV s A n cap, hdV h] w (RetBelow (.bool true) w) := by
 by_cases hs : szL 1048576 s.rs = -1
 · exact exactStepped_big s A n cap h w hl hn hs
 · exact exactStepped_small s A n cap h w hl hn a0 a1 a2 a3 a4 a5 a6 he hS0 hN0 hS1 hN1 hS2 hN2 hS3 hN3 hS4 hN4 hs
end Go.Proofs.YthpckpnlohfcbaaGreatDoor
namespace Go.Proofs.YthpckpnlohfcbaaGreatDoor
set_option linter.unusedSimpArgs false
set_option linter.unusedVariables false
open Go.RowKit Go.WideShapes Go.ChangeShapes Go.ChangeAt Go.Joins
set_option linter.unusedVariables false
def fnExactStepped_list : List (String × List UInt8) := [("loop.example/g00610/impl.errNotRight", [116, 104, 101, 32, 115, 116, 111, 114, 101, 32, 105, 115, 32, 110, 111, 116, 32, 114, 105, 103, 104, 116]), ("loop.example/g00610/impl.errNotRightThen", [116, 104, 101, 32, 115, 116, 111, 114, 101, 32, 119, 111, 117, 108, 100, 32, 110, 111, 116, 32, 98, 101, 32, 114, 105, 103, 104, 116, 32, 116, 104, 101, 110]), ("loop.example/g00610/impl.errNoRing", [116, 104, 101, 114, 101, 32, 105, 115, 32, 110, 111, 32, 115, 117, 99, 104, 32, 114, 105, 110, 103]), ("loop.example/g00610/impl.errNoPlace", [116, 104, 101, 114, 101, 32, 105, 115, 32, 110, 111, 32, 115, 117, 99, 104, 32, 112, 108, 97, 99, 101]), ("loop.example/g00610/impl.errNoValue", [105, 116, 32, 105, 115, 32, 110, 111, 32, 118, 97, 108, 117, 101]), ("loop.example/g00610/impl.errNotSeen", [105, 116, 32, 105, 115, 32, 110, 111, 116, 32, 119, 104, 97, 116, 32, 119, 97, 115, 32, 115, 101, 101, 110]), ("loop.example/g00610/impl.errClosed", [116, 104, 101, 32, 114, 105, 110, 103, 32, 105, 115, 32, 99, 108, 111, 115, 101, 100])]
theorem fnExactStepped_globals : ∀ x ∈ fnExactStepped_list, ∃ g, Tryz.prog.globalNamed x.1 = some g ∧ (Tryz.prog.globals[g]?).map (·.type) = some 136 := by
 intro x hx
 simp only [fnExactStepped_list, List.mem_cons, List.not_mem_nil, or_false] at hx
 rcases hx with rfl | rfl | rfl | rfl | rfl | rfl | rfl
 · exact ⟨_, gl_errNotRight, gt_errNotRight⟩
 · exact ⟨_, gl_errNotRightThen, gt_errNotRightThen⟩
 · exact ⟨_, gl_errNoRing, gt_errNoRing⟩
 · exact ⟨_, gl_errNoPlace, gt_errNoPlace⟩
 · exact ⟨_, gl_errNoValue, gt_errNoValue⟩
 · exact ⟨_, gl_errNotSeen, gt_errNotSeen⟩
 · exact ⟨_, gl_errClosed, gt_errClosed⟩
theorem fnExactStepped_laid {W : World} (h : laidMetH Tryz.prog Rows.fnExactSteppedRow.laid W) : ∃ ads : List Addr, ads.length = 7 ∧ ads.Nodup ∧ (∀ (i : Nat) x a, fnExactStepped_list[i]? = some x → ads[i]? = some a → W.var? Tryz.prog x.1 = some #[.iface 194 (.pointer (some a))] ∧ ∃ c t, W.heap[a.block]? = some (.cells c t (0, 0))) ∧ W.cell? ⟨7, 0, none⟩ = some (.iface 179 (.agg #[.pointer (some ⟨8, 136, none⟩)])) := by
 have h' : laidMet Tryz.prog (fnExactStepped_list.map fun x => (x.1, sentD x.2)) W ∧ handlesMet Tryz.prog [("errors.errorType", Rows.laid_errors_errorType)] W := h
 obtain ⟨ads, h1, h2, h3⟩ := laid_sents Tryz.underlying136 row_es Tryz.underlying194 Tryz.underlying216 rfl rfl Tryz.underlying9 cells_es cells_str fnExactStepped_list fnExactStepped_globals h'.1
 exact ⟨ads, h1, h2, h3, handle_of h'.2⟩
theorem fnExactStepped_vars (W : World) (h : laidMetH Tryz.prog Rows.fnExactSteppedRow.laid W) : ∀ n ∈ Rows.fnExactSteppedSpec.vars, ∃ g ti ms x, Tryz.prog.globalNamed n = some g ∧ (Tryz.prog.globals[g]?).map (·.type) = some ti ∧ Tryz.prog.underlying ti = some (.interface ms) ∧ W.var? Tryz.prog n = some #[x] ∧ IsIface x := by
 obtain ⟨ads, h1, _, h3, _⟩ := fnExactStepped_laid h
 match ads, h1 with
 | [b0, b1, b2, b3, b4, b5, b6], _ =>
  intro n hn
  replace hn : n ∈ ["loop.example/g00610/impl.errNotSeen", "loop.example/g00610/impl.errNotRight", "loop.example/g00610/impl.errNotRightThen", "loop.example/g00610/impl.errNoRing", "loop.example/g00610/impl.errNoPlace", "loop.example/g00610/impl.errNoValue", "loop.example/g00610/impl.errClosed"] := hn
  simp only [List.mem_cons, List.not_mem_nil, or_false] at hn
  rcases hn with rfl | rfl | rfl | rfl | rfl | rfl | rfl
  · exact ⟨_, _, _, _, gl_errNotSeen, gt_errNotSeen, Tryz.underlying136, (h3 5 _ _ rfl rfl).1, trivial⟩
  · exact ⟨_, _, _, _, gl_errNotRight, gt_errNotRight, Tryz.underlying136, (h3 0 _ _ rfl rfl).1, trivial⟩
  · exact ⟨_, _, _, _, gl_errNotRightThen, gt_errNotRightThen, Tryz.underlying136, (h3 1 _ _ rfl rfl).1, trivial⟩
  · exact ⟨_, _, _, _, gl_errNoRing, gt_errNoRing, Tryz.underlying136, (h3 2 _ _ rfl rfl).1, trivial⟩
  · exact ⟨_, _, _, _, gl_errNoPlace, gt_errNoPlace, Tryz.underlying136, (h3 3 _ _ rfl rfl).1, trivial⟩
  · exact ⟨_, _, _, _, gl_errNoValue, gt_errNoValue, Tryz.underlying136, (h3 4 _ _ rfl rfl).1, trivial⟩
  · exact ⟨_, _, _, _, gl_errClosed, gt_errClosed, Tryz.underlying136, (h3 6 _ _ rfl rfl).1, trivial⟩
theorem fnExactStepped_met (os : Os) (args : Array Value) : laidMetH Tryz.prog Rows.fnExactSteppedRow.laid ((laidWorld os).forCall (fun _ _ => 0) ⟨#[], args, []⟩).memory :=
 laidMetH_of_parts (laidMet_of_run' 8 (by kernel_rfl) (by kernel_rfl)) (by kernel_rfl)
set_option maxRecDepth 100000 in
theorem fnExactStepped_lifted (os : Os) (started : os.Started) (H : Type) (enc : TypeId × Value → H) :
  ReturnsInHanded {} Tryz.checked os 3 .any (fun w args => (Rows.fnExactSteppedSpec.pre enc Tryz.prog Tryz.f3 Rows.fnExactSteppedRow.domain false w args ∧ laidMetH Tryz.prog Rows.fnExactSteppedRow.laid w) ∧ sizedMet enc Tryz.prog Tryz.f3 (OpenSpec.ofChange Rows.fnExactSteppedSpec) false w args) (Rows.fnExactSteppedSpec.post enc Tryz.prog Tryz.f3 false true false false) := by
 refine law_liftedL (C := Tryz.checked) (fn := Tryz.f3) own started (by kernel_rfl) Tryz.func3 laidOut Tryz.underlying4 rfl (by kernel_rfl) (fun ds gs h h2 => ?_) (fnExactStepped_vars)
  (ChangeSpec.witness_at (enc := enc) (C := Tryz.checked) (os := os) (X := fun w _ => laidMetH Tryz.prog Rows.fnExactSteppedRow.laid w) false (laidWorld os) #[.agg zS, .agg zH] 8 rfl (by kernel_rfl) (by kernel_rfl) (by kernel_rfl) (by kernel_rfl) (by kernel_rfl) (fnExactStepped_met os _)) ?_
 · match ds, gs, h, h2 with | [_, _], [_, _, _, _, _, _, _], _, _ => rfl
 intro W base args ds p hval0 hA0 hL
 have hval : ∀ (j : Nat) t v, Tryz.f3.params[j]? = some t → args[j]? = some v → Value.okWide Tryz.prog W .any base t v := hval0
 have hA : DataW.TrodAll enc Tryz.prog W 0 (fun _ => true) true Tryz.f3.params.toList args.toList ds p := hA0
 rw [Tryz.params3] at hA hval
 obtain ⟨v0, vs0, d0, ds0, p0, q0, hargs, rfl, rfl, h0, r0⟩ := trodAll_cons hA
 obtain ⟨v1, vs1, d1, ds1, p1, q1, rfl, rfl, rfl, h1, r1⟩ := trodAll_cons r0
 obtain ⟨rfl, rfl, rfl⟩ := trodAll_nil r1
 obtain rfl : args = #[v0, v1] := by cases args; simp_all
 obtain ⟨s, A, n, cap, rfl, hn, hl⟩ := open_store (hval 0 24 v0 rfl rfl) h0
 obtain ⟨h_, rfl⟩ := open_hand (hval 1 28 v1 rfl rfl) h1
 obtain ⟨ads, hads, hnd, h3, het⟩ := fnExactStepped_laid hL
 match ads, hads with
 | [b0, b1, b2, b3, b4, b5, b6], _ =>
  have s_errNotRight := sent_of gl_errNotRight (h3 0 _ _ rfl rfl).1 (h3 0 _ _ rfl rfl).2
  have s_errNotRightThen := sent_of gl_errNotRightThen (h3 1 _ _ rfl rfl).1 (h3 1 _ _ rfl rfl).2
  have s_errNoRing := sent_of gl_errNoRing (h3 2 _ _ rfl rfl).1 (h3 2 _ _ rfl rfl).2
  have s_errNoPlace := sent_of gl_errNoPlace (h3 3 _ _ rfl rfl).1 (h3 3 _ _ rfl rfl).2
  have s_errNotSeen := sent_of gl_errNotSeen (h3 5 _ _ rfl rfl).1 (h3 5 _ _ rfl rfl).2
  have s_errNoValue := sent_of gl_errNoValue (h3 4 _ _ rfl rfl).1 (h3 4 _ _ rfl rfl).2
  have s_errClosed := sent_of gl_errClosed (h3 6 _ _ rfl rfl).1 (h3 6 _ _ rfl rfl).2
  simp only [List.nodup_cons, List.mem_cons, List.not_mem_nil, or_false, not_or, not_false_eq_true, List.nodup_nil, and_true] at hnd
  have n_errNotRightThen : b1 ≠ b0 := by intro e; subst e; simp at hnd
  have n_errNoRing : b2 ≠ b0 := by intro e; subst e; simp at hnd
  have n_errNoPlace : b3 ≠ b0 := by intro e; subst e; simp at hnd
  have n_errNotSeen : b5 ≠ b0 := by intro e; subst e; simp at hnd
  have n_errNoValue : b4 ≠ b0 := by intro e; subst e; simp at hnd
  have n_errClosed : b6 ≠ b0 := by intro e; subst e; simp at hnd
  have he : Errs W.heap.size W b0 b1 := ⟨World.block_lt_of_cell? _ _ het, het, s_errNotRight, s_errNotRightThen, n_errNotRightThen⟩
  exact exactStepped_any s A n cap h_ W hl hn b0 b1 b2 b3 b5 b4 b6 he s_errNoRing n_errNoRing s_errNoPlace n_errNoPlace s_errNotSeen n_errNotSeen s_errNoValue n_errNoValue s_errClosed n_errClosed
theorem fnExactStepped_holds : Rows.FnExactSteppedSaid :=
 OpenClaim.holds_of_wide 3 Tryz.f3 rfl rfl rfl rfl rfl rfl rfl ⟨rfl, rfl, rfl, rfl, rfl⟩ rfl rfl rfl rfl rfl (by kernel_rfl) Tryz.func3 (by kernel_rfl)
  (of_decide_eq_true (by kernel_rfl)) (by unfold Func.isWrapper; first | (rw [if_pos (by decide +kernel)]; kernel_rfl) | (rw [if_neg (by decide +kernel)]; exact ⟨rfl, rfl⟩))
  (fun os started H enc _ => fnExactStepped_lifted os started H enc)
theorem fnExactStepped_card : Rows.FnExactSteppedCardSaid :=
 Claim7.holds_tied_plain_at .later [] [.handle, .sentinel, .sentinel, .sentinel, .sentinel, .sentinel, .sentinel, .sentinel] true (true, "3027b06b8d984c433bc8c8b66b339fa6ff82b4ece88b68dcbc35ca33ba28206e") true
  fnExactStepped_holds (fun _ h => by cases h) (by kernel_rfl) (fun _ h => by cases h) fnExactStepped_row_tie rfl ⟨rfl, rfl⟩ (by kernel_rfl) rfl
  (fun f fn hf hfn => by
   obtain rfl : f = 3 := Option.some.inj ((show Tryz.prog.funcNamed "loop.example/g00610/laws.FnExactStepped" = some 3 by kernel_rfl).symm.trans hf) |>.symm
   obtain rfl : fn = Tryz.f3 := (Option.some.inj (Tryz.func3.symm.trans hfn)).symm
   exact ⟨by kernel_rfl, fun j t ht => by
    rw [Tryz.params3] at ht
    match j, ht with
    | 0, ht =>
     obtain rfl : 24 = t := (by simpa using ht)
     exact (show Tryz.prog.wantsStandIn 24 = false by kernel_rfl)
    | 1, ht =>
     obtain rfl : 28 = t := (by simpa using ht)
     exact (show Tryz.prog.wantsStandIn 28 = false by kernel_rfl)
    | _ + 2, ht => (simp at ht)⟩)
  (by kernel_rfl)
end Go.Proofs.YthpckpnlohfcbaaGreatDoor

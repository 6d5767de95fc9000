/-
  The walk of the law on SwapPlace.
-/
import Derived.Test.YtbpjhdoldodlnaaDoorSlim
import Derived.Test.YtbpjhdoldodlnaaDoorMarkT
import Derived.Test.YtbpjhdoldodlnaaDoorSwpA
namespace Go.Proofs.YtbpjhdoldodlnaaDoor
open Go.RowKit
set_option linter.unusedVariables false
attribute [local go_sem] OpUpon
attribute [local go_sem ↓] Go.wp_at_zero Go.wp_at_succ

theorem swapplace_slim (s : St) (z at_ : Int) (seen y_ : Pl) (h : Slim s) : Slim (swapPlace s z at_ seen y_).1 := by rw [swap_done]; exact done_slim h

theorem RgsD.setsT {lo hi : Nat} {A : Option Addr} {n cap : Nat} {L : List Rg} {k : Nat} {w : World} {cs : Array Value} {t : TypeId} (h : RgsD lo hi w A n cap L) (hk : BoxAt w k cs t) (h1 : t ≠ 55) (h2 : t ≠ 39) : ∀ (us : List Value) (o : Nat), RgsD lo hi (setCells w k o us) A n cap L
  | [], _ => h
  | u :: us, o => by
    refine RgsD.setsT (?_ : RgsD lo hi (w.setCell ⟨k, o, none⟩ u) A n cap L) (hk.set o u) h1 h2 us (o + 1)
    exact ⟨h.1, fun hn => by
      obtain ⟨b, rows, e, hb, ho, hd⟩ := h.2 hn
      obtain ⟨cb, hbx⟩ := own_box ho
      exact ⟨b, rows, e, hb, Own.set_ne ho (box_ne hbx hk (fun e => h1 e.symm)) _ _, hd.keep fun g _ _ _ hg => Below.heap_setCell w ⟨k, o, none⟩ u g (box_ne hg hk (fun e => h2 e.symm))⟩⟩
theorem RgsW.setU {lo hi : Nat} {A : Option Addr} {n cap : Nat} {L : List Rg} {k : Nat} {w : World} {cs : Array Value} (h : RgsW lo hi w A n cap L) (hk : BoxAt w k cs 28) (o : Nat) (u : Value) : RgsW lo hi (w.setCell ⟨k, o, none⟩ u) A n cap L :=
  ⟨h.1, fun hn => by
    obtain ⟨b, rows, e, hb, ho, hd⟩ := h.2 hn
    obtain ⟨cb, hbx⟩ := own_box ho
    refine ⟨b, rows, e, hb, Own.set_ne ho (box_ne hbx hk (by decide)) _ _, fun i a ha => ?_⟩
    obtain ⟨r, hr, e1, e2, e3, e4, hp⟩ := hd i a ha
    refine ⟨r, hr, e1, e2, e3, e4, hp.1, fun hn => ?_⟩
    obtain ⟨g, eg, hg, hpo⟩ := hp.2 hn
    obtain ⟨cg, hbg⟩ := own_box hpo
    exact ⟨g, eg, hg, Own.set_ne hpo (box_ne hbg hk (by decide)) _ _⟩⟩
/-- Rings of the call's own, from block lo on. -/
def OwD (lo : Nat) (w : World) (A : Option Addr) (n c : Nat) (L : List Rg) : Prop := ∃ hi, hi ≤ w.heap.size ∧ RgsD lo hi w A n c L
theorem OwD.below {lo : Nat} {w w' : World} {A : Option Addr} {n c : Nat} {L : List Rg} (h : OwD lo w A n c L) (hb : Below w.heap.size w w') : OwD lo w' A n c L := by
  obtain ⟨hi, hl, hd⟩ := h
  exact ⟨hi, Nat.le_trans hl hb.size, hd.below hb hl⟩
theorem OwD.setsT {lo : Nat} {w : World} {A : Option Addr} {n c : Nat} {L : List Rg} {k : Nat} {cs : Array Value} (h : OwD lo w A n c L) (hk : BoxAt w k cs 28) (us : List Value) (o : Nat) : OwD lo (setCells w k o us) A n c L := by
  obtain ⟨hi, hl, hd⟩ := h
  exact ⟨hi, by rw [sets_size]; exact hl, hd.setsT hk (by decide) (by decide) us o⟩
def OwW (lo : Nat) (w : World) (A : Option Addr) (n c : Nat) (L : List Rg) : Prop := ∃ hi, hi ≤ w.heap.size ∧ RgsW lo hi w A n c L
theorem OwW.below {lo : Nat} {w w' : World} {A : Option Addr} {n c : Nat} {L : List Rg} (h : OwW lo w A n c L) (hb : Below w.heap.size w w') : OwW lo w' A n c L := by
  obtain ⟨hi, hl, hd⟩ := h
  exact ⟨hi, Nat.le_trans hl hb.size, hd.below hb hl⟩
theorem OwW.setsT {lo : Nat} {A : Option Addr} {n c : Nat} {L : List Rg} {k : Nat} {w : World} {cs : Array Value} (h : OwW lo w A n c L) (hk : BoxAt w k cs 28) : ∀ (us : List Value) (o : Nat), OwW lo (setCells w k o us) A n c L
  | [], _ => h
  | u :: us, o => OwW.setsT (by obtain ⟨hi, hl, hd⟩ := h; exact ⟨hi, by simpa using hl, hd.setU hk o u⟩) (hk.set o u) us (o + 1)

def sp5R (s : St) (A : Option Addr) (n cap N M5 : Nat) (z at_ : Int) (seen y_ : Pl) (j : Nat) (σ : Nat → Value) (w : World) : Prop :=
  match j with
  | 0 => σ 0 = .agg #[.int .i64 s.rd, .int .i64 s.mo, .slice A n cap, .int .i64 s.fi, .int .i64 s.la]
  | 1 => ∃ (X1 : Option Addr) (d1 : Nat), σ 1 = .agg #[.int .i64 s.rd, .int .i64 s.mo, .slice X1 n d1, .int .i64 s.fi, .int .i64 s.la] ∧ OwD M5 w X1 n d1 s.rs
  | 2 => σ 2 = .int .i64 z
  | 3 => σ 3 = .int .i64 at_
  | 4 => σ 4 = .agg #[.bool seen.s, .int .i64 seen.n, .bool seen.f, .int .i64 seen.v]
  | 5 => σ 5 = .agg #[.bool seen.s, .int .i64 seen.n, .bool seen.f, .int .i64 seen.v]
  | 6 => σ 6 = .agg #[.bool y_.s, .int .i64 y_.n, .bool y_.f, .int .i64 y_.v]
  | 7 => σ 7 = .agg #[.bool y_.s, .int .i64 y_.n, .bool y_.f, .int .i64 y_.v]
  | 8 => ∃ (As : Option Addr) (ns cs : Nat), σ 8 = .tuple #[.agg #[.int .i64 ((swapPlace s z at_ seen y_).1.rd), .int .i64 ((swapPlace s z at_ seen y_).1.mo), .slice As ns cs, .int .i64 ((swapPlace s z at_ seen y_).1.fi), .int .i64 ((swapPlace s z at_ seen y_).1.la)], .bool ((swapPlace s z at_ seen y_).2)] ∧ OwW M5 w As ns cs (swapPlace s z at_ seen y_).1.rs
  | 9 => ∃ (As : Option Addr) (ns cs : Nat), σ 9 = .tuple #[.agg #[.int .i64 ((swapPlace s z at_ seen y_).1.rd), .int .i64 ((swapPlace s z at_ seen y_).1.mo), .slice As ns cs, .int .i64 ((swapPlace s z at_ seen y_).1.fi), .int .i64 ((swapPlace s z at_ seen y_).1.la)], .bool ((swapPlace s z at_ seen y_).2)] ∧ OwW M5 w As ns cs (swapPlace s z at_ seen y_).1.rs
  | 10 => ∃ (As : Option Addr) (ns cs : Nat), σ 10 = .agg #[.int .i64 ((swapPlace s z at_ seen y_).1.rd), .int .i64 ((swapPlace s z at_ seen y_).1.mo), .slice As ns cs, .int .i64 ((swapPlace s z at_ seen y_).1.fi), .int .i64 ((swapPlace s z at_ seen y_).1.la)] ∧ OwW M5 w As ns cs (swapPlace s z at_ seen y_).1.rs
  | 11 => σ 11 = .bool ((swapPlace s z at_ seen y_).2)
  | 12 => ∃ g12, σ 12 = .pointer (some ⟨g12, 0, none⟩) ∧ M5 ≤ g12 ∧ ∃ x0 x1 x2 x3 x4, BoxAt w g12 #[x0, x1, x2, x3, x4] 28
  | 13 => ∃ (g12 : Nat) (As : Option Addr) (ns cs : Nat), σ 12 = .pointer (some ⟨g12, 0, none⟩) ∧ M5 ≤ g12 ∧ BoxAt w g12 #[.int .i64 ((swapPlace s z at_ seen y_).1.rd), .int .i64 ((swapPlace s z at_ seen y_).1.mo), .slice As ns cs, .int .i64 ((swapPlace s z at_ seen y_).1.fi), .int .i64 ((swapPlace s z at_ seen y_).1.la)] 28 ∧ OwW M5 w As ns cs (swapPlace s z at_ seen y_).1.rs
  | 14 => σ 14 = .bool ((swapPlace s z at_ seen y_).2)
  | _ => True

def sp5S (j : Nat) : List Nat := [[0], [1], [2], [3], [4], [5], [6], [7], [8], [9], [10], [11], [12], [12], [14]].getD j [j]
def sp5K (j : Nat) : Nat := [0, 0, 0, 0, 0, 0, 0, 0, 0, 0, 0, 0, 2, 1, 0].getD j 0

def sp7R (s : St) (A : Option Addr) (n cap N M7 P3 P4 : Nat) (X : Option Addr) (m : Nat) (z at_ : Int) (seen y_ : Pl) (j : Nat) (σ : Nat → Value) (w : World) : Prop :=
  match j with
  | 0 => σ 0 = .agg #[.int .i64 s.rd, .int .i64 s.mo, .slice X n m, .int .i64 s.fi, .int .i64 s.la]
  | 1 => σ 1 = .int .i64 z
  | 2 => σ 2 = .int .i64 at_
  | 3 => σ 3 = .agg #[.bool seen.s, .int .i64 seen.n, .bool seen.f, .int .i64 seen.v]
  | 4 => σ 4 = .agg #[.bool seen.s, .int .i64 seen.n, .bool seen.f, .int .i64 seen.v]
  | 5 => σ 5 = .agg #[.bool y_.s, .int .i64 y_.n, .bool y_.f, .int .i64 y_.v]
  | 6 => σ 6 = .agg #[.bool y_.s, .int .i64 y_.n, .bool y_.f, .int .i64 y_.v]
  | 7 => ∃ (Ai : Option Addr) (ni ci : Nat), σ 7 = .tuple #[.agg #[.int .i64 ((swapPlace s z at_ seen y_).1.rd), .int .i64 ((swapPlace s z at_ seen y_).1.mo), .slice Ai ni ci, .int .i64 ((swapPlace s z at_ seen y_).1.fi), .int .i64 ((swapPlace s z at_ seen y_).1.la)], .bool ((swapPlace s z at_ seen y_).2)] ∧ OwD M7 w Ai ni ci (swapPlace s z at_ seen y_).1.rs
  | 8 => ∃ (Ai : Option Addr) (ni ci : Nat), σ 8 = .tuple #[.agg #[.int .i64 ((swapPlace s z at_ seen y_).1.rd), .int .i64 ((swapPlace s z at_ seen y_).1.mo), .slice Ai ni ci, .int .i64 ((swapPlace s z at_ seen y_).1.fi), .int .i64 ((swapPlace s z at_ seen y_).1.la)], .bool ((swapPlace s z at_ seen y_).2)] ∧ OwD M7 w Ai ni ci (swapPlace s z at_ seen y_).1.rs
  | 9 => ∃ (Ai : Option Addr) (ni ci : Nat), σ 9 = .agg #[.int .i64 ((swapPlace s z at_ seen y_).1.rd), .int .i64 ((swapPlace s z at_ seen y_).1.mo), .slice Ai ni ci, .int .i64 ((swapPlace s z at_ seen y_).1.fi), .int .i64 ((swapPlace s z at_ seen y_).1.la)] ∧ OwD M7 w Ai ni ci (swapPlace s z at_ seen y_).1.rs
  | 10 => σ 10 = .bool ((swapPlace s z at_ seen y_).2)
  | 11 => ∃ g11, σ 11 = .pointer (some ⟨g11, 0, none⟩) ∧ M7 ≤ g11 ∧ ∃ x0 x1 x2 x3 x4, BoxAt w g11 #[x0, x1, x2, x3, x4] 28
  | 12 => ∃ (g11 : Nat) (Ai : Option Addr) (ni ci : Nat), σ 11 = .pointer (some ⟨g11, 0, none⟩) ∧ M7 ≤ g11 ∧ BoxAt w g11 #[.int .i64 ((swapPlace s z at_ seen y_).1.rd), .int .i64 ((swapPlace s z at_ seen y_).1.mo), .slice Ai ni ci, .int .i64 ((swapPlace s z at_ seen y_).1.fi), .int .i64 ((swapPlace s z at_ seen y_).1.la)] 28 ∧ OwD M7 w Ai ni ci (swapPlace s z at_ seen y_).1.rs
  | 13 => σ 13 = .bool ((swapPlace s z at_ seen y_).2)
  | _ => True

def sp7S (j : Nat) : List Nat := [[0], [1], [2], [3], [4], [5], [6], [7], [8], [9], [10], [11], [11], [13]].getD j [j]
def sp7K (j : Nat) : Nat := [0, 0, 0, 0, 0, 0, 0, 0, 0, 0, 0, 2, 1, 0].getD j 0

def sp24R (s : St) (A : Option Addr) (n cap N M24 : Nat) (z at_ : Int) (seen y_ : Pl) (j : Nat) (σ : Nat → Value) (w : World) : Prop :=
  match j with
  | 0 => σ 0 = .agg #[.int .i64 s.rd, .int .i64 s.mo, .slice A n cap, .int .i64 s.fi, .int .i64 s.la]
  | 1 => ∃ (X1 : Option Addr) (d1 : Nat), σ 1 = .agg #[.int .i64 s.rd, .int .i64 s.mo, .slice X1 n d1, .int .i64 s.fi, .int .i64 s.la] ∧ OwD M24 w X1 n d1 s.rs
  | 2 => σ 2 = .int .i64 z
  | 3 => σ 3 = .int .i64 at_
  | 4 => σ 4 = .agg #[.bool seen.s, .int .i64 seen.n, .bool seen.f, .int .i64 seen.v]
  | 5 => σ 5 = .agg #[.bool seen.s, .int .i64 seen.n, .bool seen.f, .int .i64 seen.v]
  | 6 => σ 6 = .agg #[.bool y_.s, .int .i64 y_.n, .bool y_.f, .int .i64 y_.v]
  | 7 => σ 7 = .agg #[.bool y_.s, .int .i64 y_.n, .bool y_.f, .int .i64 y_.v]
  | 8 => ∃ (Ai : Option Addr) (ni ci : Nat), σ 8 = .tuple #[.agg #[.int .i64 ((swapPlace s z at_ seen y_).1.rd), .int .i64 ((swapPlace s z at_ seen y_).1.mo), .slice Ai ni ci, .int .i64 ((swapPlace s z at_ seen y_).1.fi), .int .i64 ((swapPlace s z at_ seen y_).1.la)], .bool ((swapPlace s z at_ seen y_).2)] ∧ OwD M24 w Ai ni ci (swapPlace s z at_ seen y_).1.rs
  | 9 => ∃ (Ai : Option Addr) (ni ci : Nat), σ 9 = .tuple #[.agg #[.int .i64 ((swapPlace s z at_ seen y_).1.rd), .int .i64 ((swapPlace s z at_ seen y_).1.mo), .slice Ai ni ci, .int .i64 ((swapPlace s z at_ seen y_).1.fi), .int .i64 ((swapPlace s z at_ seen y_).1.la)], .bool ((swapPlace s z at_ seen y_).2)] ∧ OwD M24 w Ai ni ci (swapPlace s z at_ seen y_).1.rs
  | 10 => ∃ (Ai : Option Addr) (ni ci : Nat), σ 10 = .agg #[.int .i64 ((swapPlace s z at_ seen y_).1.rd), .int .i64 ((swapPlace s z at_ seen y_).1.mo), .slice Ai ni ci, .int .i64 ((swapPlace s z at_ seen y_).1.fi), .int .i64 ((swapPlace s z at_ seen y_).1.la)] ∧ OwD M24 w Ai ni ci (swapPlace s z at_ seen y_).1.rs
  | 11 => σ 11 = .bool ((swapPlace s z at_ seen y_).2)
  | 12 => ∃ g12, σ 12 = .pointer (some ⟨g12, 0, none⟩) ∧ M24 ≤ g12 ∧ ∃ x0 x1 x2 x3 x4, BoxAt w g12 #[x0, x1, x2, x3, x4] 28
  | 13 => ∃ (g12 : Nat) (Ai : Option Addr) (ni ci : Nat), σ 12 = .pointer (some ⟨g12, 0, none⟩) ∧ M24 ≤ g12 ∧ BoxAt w g12 #[.int .i64 ((swapPlace s z at_ seen y_).1.rd), .int .i64 ((swapPlace s z at_ seen y_).1.mo), .slice Ai ni ci, .int .i64 ((swapPlace s z at_ seen y_).1.fi), .int .i64 ((swapPlace s z at_ seen y_).1.la)] 28 ∧ OwD M24 w Ai ni ci (swapPlace s z at_ seen y_).1.rs
  | 14 => σ 14 = .bool ((swapPlace s z at_ seen y_).2)
  | _ => True

def sp24S (j : Nat) : List Nat := [[0], [1], [2], [3], [4], [5], [6], [7], [8], [9], [10], [11], [12], [12], [14]].getD j [j]
def sp24K (j : Nat) : Nat := [0, 0, 0, 0, 0, 0, 0, 0, 0, 0, 0, 0, 2, 1, 0].getD j 0

def exactSwapPlaceDR (_N : Nat) (s : St) (A : Option Addr) (n cap : Nat) (X : Option Addr) (m : Nat) (j : Nat) (σ : Nat → Value) (w : World) : Prop :=
  match j with
  | 0 => σ 0 = .agg #[.int .i64 s.rd, .int .i64 s.mo, .slice X n m, .int .i64 s.fi, .int .i64 s.la]
  | 1 => σ 1 = .agg #[.int .i64 s.rd, .int .i64 s.mo, .slice A n cap, .int .i64 s.fi, .int .i64 s.la]
  | 2 => ∃ (g : Option Addr) (d : Nat), σ 2 = .agg #[.int .i64 s.rd, .int .i64 s.mo, .slice g n d, .int .i64 s.fi, .int .i64 s.la] ∧ RgsR 0 w g n s.rs
  | 3 => σ 3 = .bool true
  | 4 => σ 4 = .bool false
  | _ => True

def exactSwapPlaceDS (j : Nat) : List Nat := [[0], [1], [2], [3], [4]].getD j [j]
def exactSwapPlaceDK (j : Nat) : Nat := [0, 0, 0, 0, 0].getD j 0

set_option maxRecDepth 100000 in
set_option maxHeartbeats 8000000 in
theorem exactSwapPlace_small (s : St) (A : Option Addr) (n cap : Nat) (z at_ : Int) (seen y_ : Pl) (w : World) (hl0 : RgsR 0 w A n s.rs) (hn : n ≤ maxLen) (a0 a1 a2 a3 a4 : Addr) (he : Errs w.heap.size w a0 a1) (hS0 : Sent w.heap.size w 2 a2) (hN0 : a2 ≠ a0) (hS1 : Sent w.heap.size w 4 a3) (hN1 : a3 ≠ a0) (hS2 : Sent w.heap.size w 5 a4) (hN2 : a4 ≠ a0) (hs : szL 1048576 s.rs ≠ -1) :
    Calls Tryd.prog 5 #[stV s A n cap, .int .i64 z, .int .i64 at_, .agg #[.bool seen.s, .int .i64 seen.n, .bool seen.f, .int .i64 seen.v], .agg #[.bool y_.s, .int .i64 y_.n, .bool y_.f, .int .i64 y_.v]] w (RetBelow (.bool true) w) := by
  have HS := Lib.hid (slim_of hs)
  have HL := Lib.hid hl0.1
  have hn1 : n ≤ 1048576 := by have := HS.out.1; have := hl0.1; omega
  have hz : 0 ≤ szL 1048576 s.rs := by rcases szL_or s.rs (left := 1048576) (by omega) with h | h; exact absurd h hs; exact h.1
  clear hs
  obtain ⟨S, y, hq_, hS⟩ : ∃ S y, (swapPlace s z at_ seen y_) = (S, y) ∧ Slim S := ⟨_, _, rfl, swapplace_slim s z at_ seen y_ HS.out⟩
  have HQ := Lib.hid hq_; clear hq_
  have HT := Lib.hid hS; clear hS
  have hend : 0 ≤ markEnd 1 s.rs := by unfold markEnd; omega
  have hendS : 0 ≤ markEnd 1 S.rs := by unfold markEnd; omega
  unfold stV
  go_enter Tryd.func5, Tryd.ntmps5
  go_wp2_with fail
  refine calls_abs (fun W' => Below w.heap.size w W' ∧ BoxAt W' w.heap.size #[.int .i64 s.rd, .int .i64 s.mo, .slice A n cap, .int .i64 s.fi, .int .i64 s.la] 24 ∧ BoxAt W' (w.heap.size + 1) #[.bool seen.s, .int .i64 seen.n, .bool seen.f, .int .i64 seen.v] 36 ∧ BoxAt W' (w.heap.size + 2) #[.bool y_.s, .int .i64 y_.n, .bool y_.f, .int .i64 y_.v] 36 ∧ w.heap.size + 3 ≤ W'.heap.size) ⟨(((Below.refl _ _).alloc (Nat.le_refl _) _).alloc (by simp) _).alloc (by simp; omega) _, ((BoxAt.new _ _ _).alloc _).alloc _, (BoxAt.new' (by simp)).alloc _, BoxAt.new' (by simp), by simp⟩ ?_
  rintro W ⟨hB, ha, hse, hye, l0⟩
  refine (szStore_any s A n cap 1048576 _ (hl0.below hB) hn (by omega) (by omega)).mono ?_
  rintro e w1 ⟨rfl, hb1⟩
  generalize szL 1048576 s.rs = z_ at *
  have l1 := hb1.size
  replace ha := ha.below hb1 ha.lt
  replace hse := hse.below hb1 hse.lt
  replace hye := hye.below hb1 hye.lt
  replace hB := bstep hB hB.size hb1
  clear hb1
  obtain ⟨M5, hMe⟩ : ∃ M5, M5 = w1.heap.size := ⟨_, rfl⟩
  have hM5 : M5 ≤ w1.heap.size := by omega
  have hM53 : w.heap.size + 3 ≤ M5 := by omega
  clear hMe
  go_upto_region 5 with fail
  go_cut [12, 13] (fun s12 s13 W' => Below w.heap.size w W' ∧ BoxAt W' w.heap.size #[.int .i64 s.rd, .int .i64 s.mo, .slice A n cap, .int .i64 s.fi, .int .i64 s.la] 24 ∧ BoxAt W' (w.heap.size + 1) #[.bool seen.s, .int .i64 seen.n, .bool seen.f, .int .i64 seen.v] 36 ∧ BoxAt W' (w.heap.size + 2) #[.bool y_.s, .int .i64 y_.n, .bool y_.f, .int .i64 y_.v] 36 ∧ ∃ g12 As ns cs, s12 = .pointer (some ⟨g12, 0, none⟩) ∧ M5 ≤ g12 ∧ BoxAt W' g12 #[.int .i64 ((swapPlace s z at_ seen y_).1.rd), .int .i64 ((swapPlace s z at_ seen y_).1.mo), .slice As ns cs, .int .i64 ((swapPlace s z at_ seen y_).1.fi), .int .i64 ((swapPlace s z at_ seen y_).1.la)] 28 ∧ OwW M5 W' As ns cs (swapPlace s z at_ seen y_).1.rs ∧ s13 = .bool (swapPlace s z at_ seen y_).2)
  case first =>
    refine wp_region2 (fun w w' => Below w.heap.size w w') (fun _ _ h => h.size) (fun L W' => Below w.heap.size w W' ∧ BoxAt W' w.heap.size #[.int .i64 s.rd, .int .i64 s.mo, .slice A n cap, .int .i64 s.fi, .int .i64 s.la] 24 ∧ BoxAt W' (w.heap.size + 1) #[.bool seen.s, .int .i64 seen.n, .bool seen.f, .int .i64 seen.v] 36 ∧ BoxAt W' (w.heap.size + 2) #[.bool y_.s, .int .i64 y_.n, .bool y_.f, .int .i64 y_.v] 36 ∧ M5 ≤ W'.heap.size) (sp5R s A n cap w.heap.size M5 z at_ seen y_) sp5K sp5S (by kernel_rfl) (by kernel_rfl) ?_ ?_ ?_
      (.grow rfl ?_ <| .grow rfl ?_ <| .grow rfl ?_ <| .grow rfl ?_ <| .grow rfl ?_ <| .grow rfl ?_ <| .grow rfl ?_ <| .grow rfl ?_ <| .grow rfl ?_ <| .grow rfl ?_ <| .grow rfl ?_ <| .grow rfl ?_ <| .make rfl ?_ <| .store rfl ?_ <| .grow rfl ?_ <| .nil) ?_
    · intro j σ τ w h hR
      match j, h, hR with
      | 0, h, hR => exact (h 0 (List.mem_singleton.2 rfl)).symm.trans hR
      | 1, h, hR => obtain ⟨X1, d1, e, hp⟩ := hR; exact ⟨X1, d1, (h 1 (List.mem_singleton.2 rfl)).symm.trans e, hp⟩
      | 2, h, hR => exact (h 2 (List.mem_singleton.2 rfl)).symm.trans hR
      | 3, h, hR => exact (h 3 (List.mem_singleton.2 rfl)).symm.trans hR
      | 4, h, hR => exact (h 4 (List.mem_singleton.2 rfl)).symm.trans hR
      | 5, h, hR => exact (h 5 (List.mem_singleton.2 rfl)).symm.trans hR
      | 6, h, hR => exact (h 6 (List.mem_singleton.2 rfl)).symm.trans hR
      | 7, h, hR => exact (h 7 (List.mem_singleton.2 rfl)).symm.trans hR
      | 8, h, hR => obtain ⟨As, ns, cs, e, hp⟩ := hR; exact ⟨As, ns, cs, (h 8 (List.mem_singleton.2 rfl)).symm.trans e, hp⟩
      | 9, h, hR => obtain ⟨As, ns, cs, e, hp⟩ := hR; exact ⟨As, ns, cs, (h 9 (List.mem_singleton.2 rfl)).symm.trans e, hp⟩
      | 10, h, hR => obtain ⟨As, ns, cs, e, hp⟩ := hR; exact ⟨As, ns, cs, (h 10 (List.mem_singleton.2 rfl)).symm.trans e, hp⟩
      | 11, h, hR => exact (h 11 (List.mem_singleton.2 rfl)).symm.trans hR
      | 12, h, hR => obtain ⟨g, e, hp⟩ := hR; exact ⟨g, (h 12 (List.mem_singleton.2 rfl)).symm.trans e, hp⟩
      | 13, h, hR => obtain ⟨g, As, ns, cs, e, hp⟩ := hR; exact ⟨g, As, ns, cs, (h 12 (List.mem_singleton.2 rfl)).symm.trans e, hp⟩
      | 14, h, hR => exact (h 14 (List.mem_singleton.2 rfl)).symm.trans hR
      | _ + 15, _, _ => exact trivial
    · intro j σ w w' hb hR
      match j, hR with
      | 0, hR => exact hR
      | 1, hR => obtain ⟨X1, d1, e, hp⟩ := hR; exact ⟨X1, d1, e, hp.below hb⟩
      | 2, hR => exact hR
      | 3, hR => exact hR
      | 4, hR => exact hR
      | 5, hR => exact hR
      | 6, hR => exact hR
      | 7, hR => exact hR
      | 8, hR => obtain ⟨As, ns, cs, e, hp⟩ := hR; exact ⟨As, ns, cs, e, hp.below hb⟩
      | 9, hR => obtain ⟨As, ns, cs, e, hp⟩ := hR; exact ⟨As, ns, cs, e, hp.below hb⟩
      | 10, hR => obtain ⟨As, ns, cs, e, hp⟩ := hR; exact ⟨As, ns, cs, e, hp.below hb⟩
      | 11, hR => exact hR
      | 12, hR => obtain ⟨g, e, hg, x0, x1, x2, x3, x4, hx⟩ := hR; exact ⟨g, e, hg, x0, x1, x2, x3, x4, hx.below hb hx.lt⟩
      | 13, hR => obtain ⟨g, As, ns, cs, e, hg, hx, hp⟩ := hR; exact ⟨g, As, ns, cs, e, hg, hx.below hb hx.lt, hp.below hb⟩
      | 14, hR => exact hR
      | _ + 15, _ => exact trivial
    · exact ⟨hB.drew, ha, hse, hye, hM5⟩
    · -- 0: Op.load 24 t5
      go_light
      intro L σ W' hcl hL hC hw
      clear hw
      have HC := Lib.hid hC
      obtain ⟨hB, ha, hse, hye, hM5⟩ := hC
      have ka := ha.cell
      clear hcl hL
      clear hB ha hse hye hM5
      refine OpGoes.step fun K hK => ?_
      unfold OpGoes
      go_simp
      obtain ⟨hB, ha, hse, hye, hM5⟩ := HC.out
      exact hK _ _ ⟨⟨hB, ha, hse, hye, hM5⟩, rfl, Below.refl _ _⟩
    · -- 1: Op.call { value (Operand.func 13), args := #[t28], argTypes := #[24] }
      go_light
      intro L σ W' hcl hL hC hw
      have e0 : σ 0 = .agg #[.int .i64 s.rd, .int .i64 s.mo, .slice A n cap, .int .i64 s.fi, .int .i64 s.la] := hw 0 (by kernel_rfl)
      clear hw
      have HC := Lib.hid hC
      clear hC
      clear hcl hL
      refine OpGoes.step fun K hK => ?_
      unfold OpGoes
      go_simp
      obtain ⟨hB, ha, hse, hye, hM5⟩ := HC.out
      refine (toStore_any s A n cap _ (hl0.below hB) hn1 HS.out.each).mono ?_
      rintro e w1 ⟨X1, nn, d1, rfl, hO1, hb1⟩
      exact ⟨_, rfl, hK _ _ ⟨⟨bstep hB hB.size hb1, ha.below hb1 ha.lt, hse.below hb1 hse.lt, hye.below hb1 hye.lt, Nat.le_trans hM5 hb1.size⟩, (by obtain rfl : n = nn := (hO1.1.symm.trans HL.out).symm; exact ⟨X1, d1, rfl, _, Nat.le_refl _, hO1.mono hM5 (Nat.le_refl _)⟩), hb1⟩⟩
    · -- 2: Op.move t1
      go_light
      intro L σ W' hcl hL hC hw
      clear hw
      have HC := Lib.hid hC
      clear hC
      clear hcl hL
      refine OpGoes.step fun K hK => ?_
      unfold OpGoes
      go_simp
      obtain ⟨hB, ha, hse, hye, hM5⟩ := HC.out
      exact hK _ _ ⟨⟨hB, ha, hse, hye, hM5⟩, rfl, Below.refl _ _⟩
    · -- 3: Op.move t2
      go_light
      intro L σ W' hcl hL hC hw
      clear hw
      have HC := Lib.hid hC
      clear hC
      clear hcl hL
      refine OpGoes.step fun K hK => ?_
      unfold OpGoes
      go_simp
      obtain ⟨hB, ha, hse, hye, hM5⟩ := HC.out
      exact hK _ _ ⟨⟨hB, ha, hse, hye, hM5⟩, rfl, Below.refl _ _⟩
    · -- 4: Op.load 36 t8
      go_light
      intro L σ W' hcl hL hC hw
      clear hw
      have HC := Lib.hid hC
      obtain ⟨hB, ha, hse, hye, hM5⟩ := hC
      have kp := hse.cell
      clear hcl hL
      clear hB ha hse hye hM5
      refine OpGoes.step fun K hK => ?_
      unfold OpGoes
      go_simp
      obtain ⟨hB, ha, hse, hye, hM5⟩ := HC.out
      exact hK _ _ ⟨⟨hB, ha, hse, hye, hM5⟩, rfl, Below.refl _ _⟩
    · -- 5: Op.call { value (Operand.func 21), args := #[t32], argTypes := #[36] }
      go_light
      intro L σ W' hcl hL hC hw
      have e4 : σ 4 = .agg #[.bool seen.s, .int .i64 seen.n, .bool seen.f, .int .i64 seen.v] := hw 4 (by kernel_rfl)
      clear hw
      have HC := Lib.hid hC
      clear hC
      clear hcl hL
      refine OpGoes.step fun K hK => ?_
      unfold OpGoes
      go_simp
      obtain ⟨hB, ha, hse, hye, hM5⟩ := HC.out
      refine (toPlace_any seen.s seen.f seen.n seen.v _).mono ?_
      rintro e w1 ⟨rfl, hb1⟩
      exact ⟨_, rfl, hK _ _ ⟨⟨bstep hB hB.size hb1, ha.below hb1 ha.lt, hse.below hb1 hse.lt, hye.below hb1 hye.lt, Nat.le_trans hM5 hb1.size⟩, rfl, hb1⟩⟩
    · -- 6: Op.load 36 t9
      go_light
      intro L σ W' hcl hL hC hw
      clear hw
      have HC := Lib.hid hC
      obtain ⟨hB, ha, hse, hye, hM5⟩ := hC
      have kq := hye.cell
      clear hcl hL
      clear hB ha hse hye hM5
      refine OpGoes.step fun K hK => ?_
      unfold OpGoes
      go_simp
      obtain ⟨hB, ha, hse, hye, hM5⟩ := HC.out
      exact hK _ _ ⟨⟨hB, ha, hse, hye, hM5⟩, rfl, Below.refl _ _⟩
    · -- 7: Op.call { value (Operand.func 21), args := #[t34], argTypes := #[36] }
      go_light
      intro L σ W' hcl hL hC hw
      have e6 : σ 6 = .agg #[.bool y_.s, .int .i64 y_.n, .bool y_.f, .int .i64 y_.v] := hw 6 (by kernel_rfl)
      clear hw
      have HC := Lib.hid hC
      clear hC
      clear hcl hL
      refine OpGoes.step fun K hK => ?_
      unfold OpGoes
      go_simp
      obtain ⟨hB, ha, hse, hye, hM5⟩ := HC.out
      refine (toPlace_any y_.s y_.f y_.n y_.v _).mono ?_
      rintro e w1 ⟨rfl, hb1⟩
      exact ⟨_, rfl, hK _ _ ⟨⟨bstep hB hB.size hb1, ha.below hb1 ha.lt, hse.below hb1 hse.lt, hye.below hb1 hye.lt, Nat.le_trans hM5 hb1.size⟩, rfl, hb1⟩⟩
    · -- 8: Op.call { value (Operand.func 20), args := #[t29, t30, t31, t33, t35], argTypes := #[28, 2, 2, 39, 39] }
      go_light
      intro L σ W' hcl hL hC hw
      obtain ⟨X1, d1, e1, hp1⟩ : ∃ (X1 : Option Addr) (d1 : Nat), σ 1 = .agg #[.int .i64 s.rd, .int .i64 s.mo, .slice X1 n d1, .int .i64 s.fi, .int .i64 s.la] ∧ OwD M5 W' X1 n d1 s.rs := hw 1 (by kernel_rfl)
      have e2 : σ 2 = .int .i64 z := hw 2 (by kernel_rfl)
      have e3 : σ 3 = .int .i64 at_ := hw 3 (by kernel_rfl)
      have e5 : σ 5 = .agg #[.bool seen.s, .int .i64 seen.n, .bool seen.f, .int .i64 seen.v] := hw 5 (by kernel_rfl)
      have e7 : σ 7 = .agg #[.bool y_.s, .int .i64 y_.n, .bool y_.f, .int .i64 y_.v] := hw 7 (by kernel_rfl)
      clear hw
      have HC := Lib.hid hC
      clear hC
      clear hcl hL
      refine OpGoes.step fun K hK => ?_
      unfold OpGoes
      go_simp
      obtain ⟨hB, ha, hse, hye, hM5⟩ := HC.out
      refine (hp1.elim fun hi_ h_ => sswapPlace_any s X1 n d1 M5 hi_ z at_ seen y_ _ h_.2.toW h_.1 hn1 HS.out.each).mono ?_
      rintro e w1 ⟨As, ns, cs, rfl, hO8, hb1⟩
      exact ⟨_, rfl, hK _ _ ⟨⟨bstep hB hB.size hb1, ha.below hb1 ha.lt, hse.below hb1 hse.lt, hye.below hb1 hye.lt, Nat.le_trans hM5 hb1.size⟩, ⟨As, ns, cs, rfl, _, Nat.le_refl _, hO8.mono hM5 (Nat.le_refl _)⟩, hb1⟩⟩
    · -- 9: Op.move t36
      go_light
      intro L σ W' hcl hL hC hw
      obtain ⟨As, ns, cs, e8, hp8⟩ : ∃ (As : Option Addr) (ns cs : Nat), σ 8 = .tuple #[.agg #[.int .i64 ((swapPlace s z at_ seen y_).1.rd), .int .i64 ((swapPlace s z at_ seen y_).1.mo), .slice As ns cs, .int .i64 ((swapPlace s z at_ seen y_).1.fi), .int .i64 ((swapPlace s z at_ seen y_).1.la)], .bool ((swapPlace s z at_ seen y_).2)] ∧ OwW M5 W' As ns cs (swapPlace s z at_ seen y_).1.rs := hw 8 (by kernel_rfl)
      clear hw
      have HC := Lib.hid hC
      clear hC
      clear hcl hL
      refine OpGoes.step fun K hK => ?_
      unfold OpGoes
      go_simp
      obtain ⟨hB, ha, hse, hye, hM5⟩ := HC.out
      exact hK _ _ ⟨⟨hB, ha, hse, hye, hM5⟩, ⟨As, ns, cs, rfl, hp8⟩, Below.refl _ _⟩
    · -- 10: Op.extract t27 0
      go_light
      intro L σ W' hcl hL hC hw
      obtain ⟨As, ns, cs, e9, hp9⟩ : ∃ (As : Option Addr) (ns cs : Nat), σ 9 = .tuple #[.agg #[.int .i64 ((swapPlace s z at_ seen y_).1.rd), .int .i64 ((swapPlace s z at_ seen y_).1.mo), .slice As ns cs, .int .i64 ((swapPlace s z at_ seen y_).1.fi), .int .i64 ((swapPlace s z at_ seen y_).1.la)], .bool ((swapPlace s z at_ seen y_).2)] ∧ OwW M5 W' As ns cs (swapPlace s z at_ seen y_).1.rs := hw 9 (by kernel_rfl)
      clear hw
      have HC := Lib.hid hC
      clear hC
      clear hcl hL
      refine OpGoes.step fun K hK => ?_
      unfold OpGoes
      go_simp
      obtain ⟨hB, ha, hse, hye, hM5⟩ := HC.out
      exact hK _ _ ⟨⟨hB, ha, hse, hye, hM5⟩, ⟨As, ns, cs, rfl, hp9⟩, Below.refl _ _⟩
    · -- 11: Op.extract t27 1
      go_light
      intro L σ W' hcl hL hC hw
      obtain ⟨As, ns, cs, e9, hp9⟩ : ∃ (As : Option Addr) (ns cs : Nat), σ 9 = .tuple #[.agg #[.int .i64 ((swapPlace s z at_ seen y_).1.rd), .int .i64 ((swapPlace s z at_ seen y_).1.mo), .slice As ns cs, .int .i64 ((swapPlace s z at_ seen y_).1.fi), .int .i64 ((swapPlace s z at_ seen y_).1.la)], .bool ((swapPlace s z at_ seen y_).2)] ∧ OwW M5 W' As ns cs (swapPlace s z at_ seen y_).1.rs := hw 9 (by kernel_rfl)
      clear hw
      have HC := Lib.hid hC
      clear hC
      clear hcl hL
      refine OpGoes.step fun K hK => ?_
      unfold OpGoes
      go_simp
      obtain ⟨hB, ha, hse, hye, hM5⟩ := HC.out
      exact hK _ _ ⟨⟨hB, ha, hse, hye, hM5⟩, rfl, Below.refl _ _⟩
    · -- 12: Op.alloc 28
      go_light
      intro L σ W' hcl hL hC hw
      clear hw
      have HC := Lib.hid hC
      clear hC
      clear hcl hL
      refine OpGoes.step fun K hK => ?_
      unfold OpGoes
      go_simp
      obtain ⟨hB, ha, hse, hye, hM5⟩ := HC.out
      have hb1 : Below W'.heap.size W' (W'.alloc (.cells #[.int .i64 0, .int .i64 0, .slice none 0 0, .int .i64 0, .int .i64 0] 28)) := (Below.refl _ _).alloc (Nat.le_refl _) _
      exact hK _ _ ⟨⟨bstep hB hB.size hb1, ha.below hb1 ha.lt, hse.below hb1 hse.lt, hye.below hb1 hye.lt, Nat.le_trans hM5 hb1.size⟩, ⟨_, rfl, hM5, _, _, _, _, _, BoxAt.new _ _ _⟩, hb1, rfl, by simp⟩
    · -- 13: Op.store 28 t12 t37
      go_light
      intro L σ W' hcl hL hC hw hne
      obtain ⟨As, ns, cs, e10, hp10⟩ : ∃ (As : Option Addr) (ns cs : Nat), σ 10 = .agg #[.int .i64 ((swapPlace s z at_ seen y_).1.rd), .int .i64 ((swapPlace s z at_ seen y_).1.mo), .slice As ns cs, .int .i64 ((swapPlace s z at_ seen y_).1.fi), .int .i64 ((swapPlace s z at_ seen y_).1.la)] ∧ OwW M5 W' As ns cs (swapPlace s z at_ seen y_).1.rs := hw 10 (by kernel_rfl)
      obtain ⟨g12, e12, hg12, x0, x1, x2, x3, x4, hbox12⟩ : ∃ g12, σ 12 = .pointer (some ⟨g12, 0, none⟩) ∧ M5 ≤ g12 ∧ ∃ x0 x1 x2 x3 x4, BoxAt W' g12 #[x0, x1, x2, x3, x4] 28 := hw 12 (by kernel_rfl)
      clear hw hne
      have HC := Lib.hid hC
      clear hC
      clear hcl hL
      have kc_ := hbox12.cell
      have kf_ := hbox12.frozen
      refine OpGoes.step fun K hK => ?_
      unfold OpGoes
      go_simp
      obtain ⟨hB, ha, hse, hye, hM5⟩ := HC.out
      have hset := sets_all (us := [.int .i64 ((swapPlace s z at_ seen y_).1.rd), .int .i64 ((swapPlace s z at_ seen y_).1.mo), .slice As ns cs, .int .i64 ((swapPlace s z at_ seen y_).1.fi), .int .i64 ((swapPlace s z at_ seen y_).1.la)]) hbox12 rfl
      refine hK undef (setCells W' g12 0 [.int .i64 ((swapPlace s z at_ seen y_).1.rd), .int .i64 ((swapPlace s z at_ seen y_).1.mo), .slice As ns cs, .int .i64 ((swapPlace s z at_ seen y_).1.fi), .int .i64 ((swapPlace s z at_ seen y_).1.la)]) ⟨⟨(Below.setCells (by omega) [.int .i64 ((swapPlace s z at_ seen y_).1.rd), .int .i64 ((swapPlace s z at_ seen y_).1.mo), .slice As ns cs, .int .i64 ((swapPlace s z at_ seen y_).1.fi), .int .i64 ((swapPlace s z at_ seen y_).1.la)] 0 hB), (BoxAt.sets_ne [.int .i64 ((swapPlace s z at_ seen y_).1.rd), .int .i64 ((swapPlace s z at_ seen y_).1.mo), .slice As ns cs, .int .i64 ((swapPlace s z at_ seen y_).1.fi), .int .i64 ((swapPlace s z at_ seen y_).1.la)] 0 ha (by omega)), (BoxAt.sets_ne [.int .i64 ((swapPlace s z at_ seen y_).1.rd), .int .i64 ((swapPlace s z at_ seen y_).1.mo), .slice As ns cs, .int .i64 ((swapPlace s z at_ seen y_).1.fi), .int .i64 ((swapPlace s z at_ seen y_).1.la)] 0 hse (by omega)), (BoxAt.sets_ne [.int .i64 ((swapPlace s z at_ seen y_).1.rd), .int .i64 ((swapPlace s z at_ seen y_).1.mo), .slice As ns cs, .int .i64 ((swapPlace s z at_ seen y_).1.fi), .int .i64 ((swapPlace s z at_ seen y_).1.la)] 0 hye (by omega)), (size_sts hM5 [.int .i64 ((swapPlace s z at_ seen y_).1.rd), .int .i64 ((swapPlace s z at_ seen y_).1.mo), .slice As ns cs, .int .i64 ((swapPlace s z at_ seen y_).1.fi), .int .i64 ((swapPlace s z at_ seen y_).1.la)] 0)⟩, ⟨g12, As, ns, cs, e12, hg12, hset, (OwW.setsT hp10 hbox12 [.int .i64 ((swapPlace s z at_ seen y_).1.rd), .int .i64 ((swapPlace s z at_ seen y_).1.mo), .slice As ns cs, .int .i64 ((swapPlace s z at_ seen y_).1.fi), .int .i64 ((swapPlace s z at_ seen y_).1.la)] 0)⟩, Nat.le_of_eq (sets_size _ _ _).symm, fun j hj hn hR => ?_⟩
      match j, hj, hn, hR with
      | 0, _, _, hR => exact (show σ 0 = .agg #[.int .i64 s.rd, .int .i64 s.mo, .slice A n cap, .int .i64 s.fi, .int .i64 s.la] from hR)
      | 1, _, _, hR => obtain ⟨X1_x, d1_x, e, hp⟩ := hR; exact ⟨X1_x, d1_x, e, (OwD.setsT hp hbox12 [.int .i64 ((swapPlace s z at_ seen y_).1.rd), .int .i64 ((swapPlace s z at_ seen y_).1.mo), .slice As ns cs, .int .i64 ((swapPlace s z at_ seen y_).1.fi), .int .i64 ((swapPlace s z at_ seen y_).1.la)] 0)⟩
      | 2, _, _, hR => exact (show σ 2 = .int .i64 z from hR)
      | 3, _, _, hR => exact (show σ 3 = .int .i64 at_ from hR)
      | 4, _, _, hR => exact (show σ 4 = .agg #[.bool seen.s, .int .i64 seen.n, .bool seen.f, .int .i64 seen.v] from hR)
      | 5, _, _, hR => exact (show σ 5 = .agg #[.bool seen.s, .int .i64 seen.n, .bool seen.f, .int .i64 seen.v] from hR)
      | 6, _, _, hR => exact (show σ 6 = .agg #[.bool y_.s, .int .i64 y_.n, .bool y_.f, .int .i64 y_.v] from hR)
      | 7, _, _, hR => exact (show σ 7 = .agg #[.bool y_.s, .int .i64 y_.n, .bool y_.f, .int .i64 y_.v] from hR)
      | 8, _, _, hR => obtain ⟨As_x, ns_x, cs_x, e, hp⟩ := hR; exact ⟨As_x, ns_x, cs_x, e, (OwW.setsT hp hbox12 [.int .i64 ((swapPlace s z at_ seen y_).1.rd), .int .i64 ((swapPlace s z at_ seen y_).1.mo), .slice As ns cs, .int .i64 ((swapPlace s z at_ seen y_).1.fi), .int .i64 ((swapPlace s z at_ seen y_).1.la)] 0)⟩
      | 9, _, _, hR => obtain ⟨As_x, ns_x, cs_x, e, hp⟩ := hR; exact ⟨As_x, ns_x, cs_x, e, (OwW.setsT hp hbox12 [.int .i64 ((swapPlace s z at_ seen y_).1.rd), .int .i64 ((swapPlace s z at_ seen y_).1.mo), .slice As ns cs, .int .i64 ((swapPlace s z at_ seen y_).1.fi), .int .i64 ((swapPlace s z at_ seen y_).1.la)] 0)⟩
      | 10, _, _, hR => obtain ⟨As_x, ns_x, cs_x, e, hp⟩ := hR; exact ⟨As_x, ns_x, cs_x, e, (OwW.setsT hp hbox12 [.int .i64 ((swapPlace s z at_ seen y_).1.rd), .int .i64 ((swapPlace s z at_ seen y_).1.mo), .slice As ns cs, .int .i64 ((swapPlace s z at_ seen y_).1.fi), .int .i64 ((swapPlace s z at_ seen y_).1.la)] 0)⟩
      | 11, _, _, hR => exact (show σ 11 = .bool ((swapPlace s z at_ seen y_).2) from hR)
      | 12, _, _, _ => exact ⟨g12, e12, hg12, _, _, _, _, _, hset⟩
      | 13, hj, _, _ => exact absurd rfl hj
      | 14, _, _, hR => exact (show σ 14 = .bool ((swapPlace s z at_ seen y_).2) from hR)
      | _ + 15, _, _, _ => exact trivial
    · -- 14: Op.assign t38
      go_light
      intro L σ W' hcl hL hC hw
      have e11 : σ 11 = .bool ((swapPlace s z at_ seen y_).2) := hw 11 (by kernel_rfl)
      clear hw
      have HC := Lib.hid hC
      clear hC
      clear hcl hL
      refine OpGoes.step fun K hK => ?_
      unfold OpGoes
      go_simp
      obtain ⟨hB, ha, hse, hye, hM5⟩ := HC.out
      exact hK _ _ ⟨⟨hB, ha, hse, hye, hM5⟩, rfl, Below.refl _ _⟩
    · intro σ L W' hall hC hR
      obtain ⟨hB, ha, hse, hye, hM5⟩ := hC
      obtain ⟨g12, As, ns, cs, e12, hg13, s13, hp13⟩ : ∃ (g12 : Nat) (As : Option Addr) (ns cs : Nat), σ 12 = .pointer (some ⟨g12, 0, none⟩) ∧ M5 ≤ g12 ∧ BoxAt W' g12 #[.int .i64 ((swapPlace s z at_ seen y_).1.rd), .int .i64 ((swapPlace s z at_ seen y_).1.mo), .slice As ns cs, .int .i64 ((swapPlace s z at_ seen y_).1.fi), .int .i64 ((swapPlace s z at_ seen y_).1.la)] 28 ∧ OwW M5 W' As ns cs (swapPlace s z at_ seen y_).1.rs := hR 13 (by decide)
      have e14 : σ 14 = .bool ((swapPlace s z at_ seen y_).2) := hR 14 (by decide)
      clear hR
      simp only [lexAll]
      go_simp
      go_step
      go_meet
      exact ⟨hB, ha, hse, hye, g12, As, ns, cs, rfl, hg13, s13, hp13, rfl⟩

  case rest =>
  clear hB ha hse hye hM5
  obtain ⟨hB, ha, hse, hye, p0, As, ns, cs, rfl, hp0, h0, hsw, rfl⟩ := hcut
  rw [HQ.out] at h0 hsw
  rw [HQ.out]
  obtain ⟨hi0, hl0', hs⟩ := hsw
  replace hs : RgsW M5 wc.heap.size wc As ns cs S.rs := hs.mono (Nat.le_refl _) hl0'
  clear hl0'
  have hs1 : S.rs.length = ns := hs.1
  have hns : ns ≤ 1048576 := by have := HT.out.1; omega
  clear hs1
  have lp0 := h0.lt
  dsimp only at h0 ⊢
  go_upto_region 6 with fail
  refine wp_abs (fun W' => Below w.heap.size w W' ∧ BoxAt W' w.heap.size #[.int .i64 s.rd, .int .i64 s.mo, .slice A n cap, .int .i64 s.fi, .int .i64 s.la] 24 ∧ BoxAt W' (w.heap.size + 1) #[.bool seen.s, .int .i64 seen.n, .bool seen.f, .int .i64 seen.v] 36 ∧ BoxAt W' (w.heap.size + 2) #[.bool y_.s, .int .i64 y_.n, .bool y_.f, .int .i64 y_.v] 36 ∧ BoxAt W' p0 #[.int .i64 S.rd, .int .i64 S.mo, .slice As ns cs, .int .i64 S.fi, .int .i64 S.la] 28 ∧ RgsW M5 wc.heap.size W' As ns cs S.rs ∧ wc.heap.size ≤ W'.heap.size) ⟨hB, ha, hse, hye, h0, hs, Nat.le_refl _⟩ ?_
  clear hB ha hse hye h0 hs
  have hM5P : M5 ≤ wc.heap.size := by omega
  generalize wc.heap.size = P2 at *
  rintro W3 ⟨hB, ha, hse, hye, h0, hs, l3⟩
  have ka := ha.cell
  go_wp2_with fail
  clear ka
  refine (toStore_any s A n cap _ (hl0.below hB) hn1 HS.out.each).mono ?_
  rintro e w4 ⟨X, n2, m, rfl, hX, hb4⟩
  obtain rfl : n = n2 := (hX.1.symm.trans HL.out).symm
  unfold stV
  have l4 := hb4.size
  replace ha := ha.below hb4 ha.lt
  replace hse := hse.below hb4 hse.lt
  replace hye := hye.below hb4 hye.lt
  replace h0 := h0.below hb4 h0.lt
  replace hs := hs.below hb4 (by omega)
  replace hB := bstep hB hB.size hb4
  clear hb4
  go_upto_region 7 with fail
  refine wp_abs (fun W' => Below w.heap.size w W' ∧ BoxAt W' w.heap.size #[.int .i64 s.rd, .int .i64 s.mo, .slice A n cap, .int .i64 s.fi, .int .i64 s.la] 24 ∧ BoxAt W' (w.heap.size + 1) #[.bool seen.s, .int .i64 seen.n, .bool seen.f, .int .i64 seen.v] 36 ∧ BoxAt W' (w.heap.size + 2) #[.bool y_.s, .int .i64 y_.n, .bool y_.f, .int .i64 y_.v] 36 ∧ BoxAt W' p0 #[.int .i64 S.rd, .int .i64 S.mo, .slice As ns cs, .int .i64 S.fi, .int .i64 S.la] 28 ∧ RgsW M5 P2 W' As ns cs S.rs ∧ BoxAt W' w4.heap.size #[.int .i64 s.rd, .int .i64 s.mo, .slice X n m, .int .i64 s.fi, .int .i64 s.la] 28 ∧ RgsD W3.heap.size w4.heap.size W' X n m s.rs ∧ w4.heap.size < W'.heap.size) ⟨hB.alloc hB.size _, ha.alloc _, hse.alloc _, hye.alloc _, h0.alloc _, hs.al (by omega) _, BoxAt.new _ _ _, hX.keep (.alloc (Nat.le_refl _) _), by simp⟩ ?_
  clear hB ha hse hye h0 hs hX
  generalize W3.heap.size = P3 at *
  generalize w4.heap.size = P4 at *
  rintro W4 ⟨hB, ha, hse, hye, h0, hs, hx0, hX, l5⟩
  obtain ⟨M7, hMe⟩ : ∃ M7, M7 = W4.heap.size := ⟨_, rfl⟩
  have hM7 : M7 ≤ W4.heap.size := by omega
  have hP4M : P4 ≤ M7 := by omega
  have hP4M' : P4 < M7 := by omega
  have hP2M : P2 ≤ M7 := by omega
  have hp0M : p0 < M7 := by omega
  go_cut [15, 16] (fun s15 s16 W' => Below w.heap.size w W' ∧ BoxAt W' w.heap.size #[.int .i64 s.rd, .int .i64 s.mo, .slice A n cap, .int .i64 s.fi, .int .i64 s.la] 24 ∧ BoxAt W' (w.heap.size + 1) #[.bool seen.s, .int .i64 seen.n, .bool seen.f, .int .i64 seen.v] 36 ∧ BoxAt W' (w.heap.size + 2) #[.bool y_.s, .int .i64 y_.n, .bool y_.f, .int .i64 y_.v] 36 ∧ BoxAt W' P4 #[.int .i64 s.rd, .int .i64 s.mo, .slice X n m, .int .i64 s.fi, .int .i64 s.la] 28 ∧ RgsD P3 P4 W' X n m s.rs ∧ (BoxAt W' p0 #[.int .i64 S.rd, .int .i64 S.mo, .slice As ns cs, .int .i64 S.fi, .int .i64 S.la] 28 ∧ RgsW M5 P2 W' As ns cs S.rs) ∧ ∃ g11 Ai ni ci, s15 = .pointer (some ⟨g11, 0, none⟩) ∧ M7 ≤ g11 ∧ BoxAt W' g11 #[.int .i64 ((swapPlace s z at_ seen y_).1.rd), .int .i64 ((swapPlace s z at_ seen y_).1.mo), .slice Ai ni ci, .int .i64 ((swapPlace s z at_ seen y_).1.fi), .int .i64 ((swapPlace s z at_ seen y_).1.la)] 28 ∧ OwD M7 W' Ai ni ci (swapPlace s z at_ seen y_).1.rs ∧ s16 = .bool (swapPlace s z at_ seen y_).2)
  case first =>
    refine wp_region2 (fun w w' => Below w.heap.size w w') (fun _ _ h => h.size) (fun L W' => Below w.heap.size w W' ∧ BoxAt W' w.heap.size #[.int .i64 s.rd, .int .i64 s.mo, .slice A n cap, .int .i64 s.fi, .int .i64 s.la] 24 ∧ BoxAt W' (w.heap.size + 1) #[.bool seen.s, .int .i64 seen.n, .bool seen.f, .int .i64 seen.v] 36 ∧ BoxAt W' (w.heap.size + 2) #[.bool y_.s, .int .i64 y_.n, .bool y_.f, .int .i64 y_.v] 36 ∧ M7 ≤ W'.heap.size ∧ BoxAt W' P4 #[.int .i64 s.rd, .int .i64 s.mo, .slice X n m, .int .i64 s.fi, .int .i64 s.la] 28 ∧ RgsD P3 P4 W' X n m s.rs ∧ BoxAt W' p0 #[.int .i64 S.rd, .int .i64 S.mo, .slice As ns cs, .int .i64 S.fi, .int .i64 S.la] 28 ∧ RgsW M5 P2 W' As ns cs S.rs) (sp7R s A n cap w.heap.size M7 P3 P4 X m z at_ seen y_) sp7K sp7S (by kernel_rfl) (by kernel_rfl) ?_ ?_ ?_
      (.grow rfl ?_ <| .grow rfl ?_ <| .grow rfl ?_ <| .grow rfl ?_ <| .grow rfl ?_ <| .grow rfl ?_ <| .grow rfl ?_ <| .grow rfl ?_ <| .grow rfl ?_ <| .grow rfl ?_ <| .grow rfl ?_ <| .make rfl ?_ <| .store rfl ?_ <| .grow rfl ?_ <| .nil) ?_
    · intro j σ τ w h hR
      match j, h, hR with
      | 0, h, hR => exact (h 0 (List.mem_singleton.2 rfl)).symm.trans hR
      | 1, h, hR => exact (h 1 (List.mem_singleton.2 rfl)).symm.trans hR
      | 2, h, hR => exact (h 2 (List.mem_singleton.2 rfl)).symm.trans hR
      | 3, h, hR => exact (h 3 (List.mem_singleton.2 rfl)).symm.trans hR
      | 4, h, hR => exact (h 4 (List.mem_singleton.2 rfl)).symm.trans hR
      | 5, h, hR => exact (h 5 (List.mem_singleton.2 rfl)).symm.trans hR
      | 6, h, hR => exact (h 6 (List.mem_singleton.2 rfl)).symm.trans hR
      | 7, h, hR => obtain ⟨Ai, ni, ci, e, hp⟩ := hR; exact ⟨Ai, ni, ci, (h 7 (List.mem_singleton.2 rfl)).symm.trans e, hp⟩
      | 8, h, hR => obtain ⟨Ai, ni, ci, e, hp⟩ := hR; exact ⟨Ai, ni, ci, (h 8 (List.mem_singleton.2 rfl)).symm.trans e, hp⟩
      | 9, h, hR => obtain ⟨Ai, ni, ci, e, hp⟩ := hR; exact ⟨Ai, ni, ci, (h 9 (List.mem_singleton.2 rfl)).symm.trans e, hp⟩
      | 10, h, hR => exact (h 10 (List.mem_singleton.2 rfl)).symm.trans hR
      | 11, h, hR => obtain ⟨g, e, hp⟩ := hR; exact ⟨g, (h 11 (List.mem_singleton.2 rfl)).symm.trans e, hp⟩
      | 12, h, hR => obtain ⟨g, Ai, ni, ci, e, hp⟩ := hR; exact ⟨g, Ai, ni, ci, (h 11 (List.mem_singleton.2 rfl)).symm.trans e, hp⟩
      | 13, h, hR => exact (h 13 (List.mem_singleton.2 rfl)).symm.trans hR
      | _ + 14, _, _ => exact trivial
    · intro j σ w w' hb hR
      match j, hR with
      | 0, hR => exact hR
      | 1, hR => exact hR
      | 2, hR => exact hR
      | 3, hR => exact hR
      | 4, hR => exact hR
      | 5, hR => exact hR
      | 6, hR => exact hR
      | 7, hR => obtain ⟨Ai, ni, ci, e, hp⟩ := hR; exact ⟨Ai, ni, ci, e, hp.below hb⟩
      | 8, hR => obtain ⟨Ai, ni, ci, e, hp⟩ := hR; exact ⟨Ai, ni, ci, e, hp.below hb⟩
      | 9, hR => obtain ⟨Ai, ni, ci, e, hp⟩ := hR; exact ⟨Ai, ni, ci, e, hp.below hb⟩
      | 10, hR => exact hR
      | 11, hR => obtain ⟨g, e, hg, x0, x1, x2, x3, x4, hx⟩ := hR; exact ⟨g, e, hg, x0, x1, x2, x3, x4, hx.below hb hx.lt⟩
      | 12, hR => obtain ⟨g, Ai, ni, ci, e, hg, hx, hp⟩ := hR; exact ⟨g, Ai, ni, ci, e, hg, hx.below hb hx.lt, hp.below hb⟩
      | 13, hR => exact hR
      | _ + 14, _ => exact trivial
    · exact ⟨hB.drew, ha, hse, hye, hM7, hx0, hX, h0, hs⟩
    · -- 0: Op.load 28 t14
      go_light
      intro L σ W' hcl hL hC hw
      clear hw
      have HC := Lib.hid hC
      obtain ⟨hB, ha, hse, hye, hM7, hx0, hX, h0, hs⟩ := hC
      have kx := hx0.cell
      clear hcl hL
      clear hB ha hse hye hM7 hx0 hX h0 hs
      refine OpGoes.step fun K hK => ?_
      unfold OpGoes
      go_simp
      obtain ⟨hB, ha, hse, hye, hM7, hx0, hX, h0, hs⟩ := HC.out
      exact hK _ _ ⟨⟨hB, ha, hse, hye, hM7, hx0, hX, h0, hs⟩, rfl, Below.refl _ _⟩
    · -- 1: Op.move t1
      go_light
      intro L σ W' hcl hL hC hw
      clear hw
      have HC := Lib.hid hC
      clear hC
      clear hcl hL
      refine OpGoes.step fun K hK => ?_
      unfold OpGoes
      go_simp
      obtain ⟨hB, ha, hse, hye, hM7, hx0, hX, h0, hs⟩ := HC.out
      exact hK _ _ ⟨⟨hB, ha, hse, hye, hM7, hx0, hX, h0, hs⟩, rfl, Below.refl _ _⟩
    · -- 2: Op.move t2
      go_light
      intro L σ W' hcl hL hC hw
      clear hw
      have HC := Lib.hid hC
      clear hC
      clear hcl hL
      refine OpGoes.step fun K hK => ?_
      unfold OpGoes
      go_simp
      obtain ⟨hB, ha, hse, hye, hM7, hx0, hX, h0, hs⟩ := HC.out
      exact hK _ _ ⟨⟨hB, ha, hse, hye, hM7, hx0, hX, h0, hs⟩, rfl, Below.refl _ _⟩
    · -- 3: Op.load 36 t8
      go_light
      intro L σ W' hcl hL hC hw
      clear hw
      have HC := Lib.hid hC
      obtain ⟨hB, ha, hse, hye, hM7, hx0, hX, h0, hs⟩ := hC
      have kp := hse.cell
      clear hcl hL
      clear hB ha hse hye hM7 hx0 hX h0 hs
      refine OpGoes.step fun K hK => ?_
      unfold OpGoes
      go_simp
      obtain ⟨hB, ha, hse, hye, hM7, hx0, hX, h0, hs⟩ := HC.out
      exact hK _ _ ⟨⟨hB, ha, hse, hye, hM7, hx0, hX, h0, hs⟩, rfl, Below.refl _ _⟩
    · -- 4: Op.call { value (Operand.func 21), args := #[t45], argTypes := #[36] }
      go_light
      intro L σ W' hcl hL hC hw
      have e3 : σ 3 = .agg #[.bool seen.s, .int .i64 seen.n, .bool seen.f, .int .i64 seen.v] := hw 3 (by kernel_rfl)
      clear hw
      have HC := Lib.hid hC
      clear hC
      clear hcl hL
      refine OpGoes.step fun K hK => ?_
      unfold OpGoes
      go_simp
      obtain ⟨hB, ha, hse, hye, hM7, hx0, hX, h0, hs⟩ := HC.out
      refine (toPlace_any seen.s seen.f seen.n seen.v _).mono ?_
      rintro e w1 ⟨rfl, hb1⟩
      exact ⟨_, rfl, hK _ _ ⟨⟨bstep hB hB.size hb1, ha.below hb1 ha.lt, hse.below hb1 hse.lt, hye.below hb1 hye.lt, Nat.le_trans hM7 hb1.size, hx0.below hb1 hx0.lt, hX.below hb1 (Nat.le_trans hP4M hM7), h0.below hb1 h0.lt, hs.below hb1 (Nat.le_trans hP2M hM7)⟩, rfl, hb1⟩⟩
    · -- 5: Op.load 36 t9
      go_light
      intro L σ W' hcl hL hC hw
      clear hw
      have HC := Lib.hid hC
      obtain ⟨hB, ha, hse, hye, hM7, hx0, hX, h0, hs⟩ := hC
      have kq := hye.cell
      clear hcl hL
      clear hB ha hse hye hM7 hx0 hX h0 hs
      refine OpGoes.step fun K hK => ?_
      unfold OpGoes
      go_simp
      obtain ⟨hB, ha, hse, hye, hM7, hx0, hX, h0, hs⟩ := HC.out
      exact hK _ _ ⟨⟨hB, ha, hse, hye, hM7, hx0, hX, h0, hs⟩, rfl, Below.refl _ _⟩
    · -- 6: Op.call { value (Operand.func 21), args := #[t47], argTypes := #[36] }
      go_light
      intro L σ W' hcl hL hC hw
      have e5 : σ 5 = .agg #[.bool y_.s, .int .i64 y_.n, .bool y_.f, .int .i64 y_.v] := hw 5 (by kernel_rfl)
      clear hw
      have HC := Lib.hid hC
      clear hC
      clear hcl hL
      refine OpGoes.step fun K hK => ?_
      unfold OpGoes
      go_simp
      obtain ⟨hB, ha, hse, hye, hM7, hx0, hX, h0, hs⟩ := HC.out
      refine (toPlace_any y_.s y_.f y_.n y_.v _).mono ?_
      rintro e w1 ⟨rfl, hb1⟩
      exact ⟨_, rfl, hK _ _ ⟨⟨bstep hB hB.size hb1, ha.below hb1 ha.lt, hse.below hb1 hse.lt, hye.below hb1 hye.lt, Nat.le_trans hM7 hb1.size, hx0.below hb1 hx0.lt, hX.below hb1 (Nat.le_trans hP4M hM7), h0.below hb1 h0.lt, hs.below hb1 (Nat.le_trans hP2M hM7)⟩, rfl, hb1⟩⟩
    · -- 7: Op.call { value (Operand.func 22), args := #[t42, t43, t44, t46, t48], argTypes := #[28, 2, 2, 39, 39] }
      go_light
      intro L σ W' hcl hL hC hw
      have e0 : σ 0 = .agg #[.int .i64 s.rd, .int .i64 s.mo, .slice X n m, .int .i64 s.fi, .int .i64 s.la] := hw 0 (by kernel_rfl)
      have e1 : σ 1 = .int .i64 z := hw 1 (by kernel_rfl)
      have e2 : σ 2 = .int .i64 at_ := hw 2 (by kernel_rfl)
      have e4 : σ 4 = .agg #[.bool seen.s, .int .i64 seen.n, .bool seen.f, .int .i64 seen.v] := hw 4 (by kernel_rfl)
      have e6 : σ 6 = .agg #[.bool y_.s, .int .i64 y_.n, .bool y_.f, .int .i64 y_.v] := hw 6 (by kernel_rfl)
      clear hw
      have HC := Lib.hid hC
      clear hC
      clear hcl hL
      refine OpGoes.step fun K hK => ?_
      unfold OpGoes
      go_simp
      obtain ⟨hB, ha, hse, hye, hM7, hx0, hX, h0, hs⟩ := HC.out
      refine (iswap_any s X n m P3 P4 w.heap.size a0 a1 a2 a3 a4 z at_ seen y_ _ hX.toW (Nat.le_trans hP4M hM7) hB.size (he.below hB (Nat.le_refl _)) (hS0.keep (fun j hj => hB.block j hj)) hN0 (hS1.keep (fun j hj => hB.block j hj)) hN1 (hS2.keep (fun j hj => hB.block j hj)) hN2 hn1 HS.out.each).mono ?_
      rintro e w1 ⟨Ai, ni, ci, rfl, hO8, hb1⟩
      exact ⟨_, rfl, hK _ _ ⟨⟨bstep hB hB.size hb1, ha.below hb1 ha.lt, hse.below hb1 hse.lt, hye.below hb1 hye.lt, Nat.le_trans hM7 hb1.size, hx0.below hb1 hx0.lt, hX.below hb1 (Nat.le_trans hP4M hM7), h0.below hb1 h0.lt, hs.below hb1 (Nat.le_trans hP2M hM7)⟩, ⟨Ai, ni, ci, rfl, _, Nat.le_refl _, hO8.mono hM7 (Nat.le_refl _)⟩, hb1⟩⟩
    · -- 8: Op.move t49
      go_light
      intro L σ W' hcl hL hC hw
      obtain ⟨Ai, ni, ci, e7, hp7⟩ : ∃ (Ai : Option Addr) (ni ci : Nat), σ 7 = .tuple #[.agg #[.int .i64 ((swapPlace s z at_ seen y_).1.rd), .int .i64 ((swapPlace s z at_ seen y_).1.mo), .slice Ai ni ci, .int .i64 ((swapPlace s z at_ seen y_).1.fi), .int .i64 ((swapPlace s z at_ seen y_).1.la)], .bool ((swapPlace s z at_ seen y_).2)] ∧ OwD M7 W' Ai ni ci (swapPlace s z at_ seen y_).1.rs := hw 7 (by kernel_rfl)
      clear hw
      have HC := Lib.hid hC
      clear hC
      clear hcl hL
      refine OpGoes.step fun K hK => ?_
      unfold OpGoes
      go_simp
      obtain ⟨hB, ha, hse, hye, hM7, hx0, hX, h0, hs⟩ := HC.out
      exact hK _ _ ⟨⟨hB, ha, hse, hye, hM7, hx0, hX, h0, hs⟩, ⟨Ai, ni, ci, rfl, hp7⟩, Below.refl _ _⟩
    · -- 9: Op.extract t41 0
      go_light
      intro L σ W' hcl hL hC hw
      obtain ⟨Ai, ni, ci, e8, hp8⟩ : ∃ (Ai : Option Addr) (ni ci : Nat), σ 8 = .tuple #[.agg #[.int .i64 ((swapPlace s z at_ seen y_).1.rd), .int .i64 ((swapPlace s z at_ seen y_).1.mo), .slice Ai ni ci, .int .i64 ((swapPlace s z at_ seen y_).1.fi), .int .i64 ((swapPlace s z at_ seen y_).1.la)], .bool ((swapPlace s z at_ seen y_).2)] ∧ OwD M7 W' Ai ni ci (swapPlace s z at_ seen y_).1.rs := hw 8 (by kernel_rfl)
      clear hw
      have HC := Lib.hid hC
      clear hC
      clear hcl hL
      refine OpGoes.step fun K hK => ?_
      unfold OpGoes
      go_simp
      obtain ⟨hB, ha, hse, hye, hM7, hx0, hX, h0, hs⟩ := HC.out
      exact hK _ _ ⟨⟨hB, ha, hse, hye, hM7, hx0, hX, h0, hs⟩, ⟨Ai, ni, ci, rfl, hp8⟩, Below.refl _ _⟩
    · -- 10: Op.extract t41 1
      go_light
      intro L σ W' hcl hL hC hw
      obtain ⟨Ai, ni, ci, e8, hp8⟩ : ∃ (Ai : Option Addr) (ni ci : Nat), σ 8 = .tuple #[.agg #[.int .i64 ((swapPlace s z at_ seen y_).1.rd), .int .i64 ((swapPlace s z at_ seen y_).1.mo), .slice Ai ni ci, .int .i64 ((swapPlace s z at_ seen y_).1.fi), .int .i64 ((swapPlace s z at_ seen y_).1.la)], .bool ((swapPlace s z at_ seen y_).2)] ∧ OwD M7 W' Ai ni ci (swapPlace s z at_ seen y_).1.rs := hw 8 (by kernel_rfl)
      clear hw
      have HC := Lib.hid hC
      clear hC
      clear hcl hL
      refine OpGoes.step fun K hK => ?_
      unfold OpGoes
      go_simp
      obtain ⟨hB, ha, hse, hye, hM7, hx0, hX, h0, hs⟩ := HC.out
      exact hK _ _ ⟨⟨hB, ha, hse, hye, hM7, hx0, hX, h0, hs⟩, rfl, Below.refl _ _⟩
    · -- 11: Op.alloc 28
      go_light
      intro L σ W' hcl hL hC hw
      clear hw
      have HC := Lib.hid hC
      clear hC
      clear hcl hL
      refine OpGoes.step fun K hK => ?_
      unfold OpGoes
      go_simp
      obtain ⟨hB, ha, hse, hye, hM7, hx0, hX, h0, hs⟩ := HC.out
      have hb1 : Below W'.heap.size W' (W'.alloc (.cells #[.int .i64 0, .int .i64 0, .slice none 0 0, .int .i64 0, .int .i64 0] 28)) := (Below.refl _ _).alloc (Nat.le_refl _) _
      exact hK _ _ ⟨⟨bstep hB hB.size hb1, ha.below hb1 ha.lt, hse.below hb1 hse.lt, hye.below hb1 hye.lt, Nat.le_trans hM7 hb1.size, hx0.below hb1 hx0.lt, hX.below hb1 (Nat.le_trans hP4M hM7), h0.below hb1 h0.lt, hs.below hb1 (Nat.le_trans hP2M hM7)⟩, ⟨_, rfl, hM7, _, _, _, _, _, BoxAt.new _ _ _⟩, hb1, rfl, by simp⟩
    · -- 12: Op.store 28 t15 t50
      go_light
      intro L σ W' hcl hL hC hw hne
      obtain ⟨Ai, ni, ci, e9, hp9⟩ : ∃ (Ai : Option Addr) (ni ci : Nat), σ 9 = .agg #[.int .i64 ((swapPlace s z at_ seen y_).1.rd), .int .i64 ((swapPlace s z at_ seen y_).1.mo), .slice Ai ni ci, .int .i64 ((swapPlace s z at_ seen y_).1.fi), .int .i64 ((swapPlace s z at_ seen y_).1.la)] ∧ OwD M7 W' Ai ni ci (swapPlace s z at_ seen y_).1.rs := hw 9 (by kernel_rfl)
      obtain ⟨g11, e11, hg11, x0, x1, x2, x3, x4, hbox11⟩ : ∃ g11, σ 11 = .pointer (some ⟨g11, 0, none⟩) ∧ M7 ≤ g11 ∧ ∃ x0 x1 x2 x3 x4, BoxAt W' g11 #[x0, x1, x2, x3, x4] 28 := hw 11 (by kernel_rfl)
      clear hw hne
      have HC := Lib.hid hC
      clear hC
      clear hcl hL
      have kc_ := hbox11.cell
      have kf_ := hbox11.frozen
      refine OpGoes.step fun K hK => ?_
      unfold OpGoes
      go_simp
      obtain ⟨hB, ha, hse, hye, hM7, hx0, hX, h0, hs⟩ := HC.out
      have hset := sets_all (us := [.int .i64 ((swapPlace s z at_ seen y_).1.rd), .int .i64 ((swapPlace s z at_ seen y_).1.mo), .slice Ai ni ci, .int .i64 ((swapPlace s z at_ seen y_).1.fi), .int .i64 ((swapPlace s z at_ seen y_).1.la)]) hbox11 rfl
      refine hK undef (setCells W' g11 0 [.int .i64 ((swapPlace s z at_ seen y_).1.rd), .int .i64 ((swapPlace s z at_ seen y_).1.mo), .slice Ai ni ci, .int .i64 ((swapPlace s z at_ seen y_).1.fi), .int .i64 ((swapPlace s z at_ seen y_).1.la)]) ⟨⟨(Below.setCells (by omega) [.int .i64 ((swapPlace s z at_ seen y_).1.rd), .int .i64 ((swapPlace s z at_ seen y_).1.mo), .slice Ai ni ci, .int .i64 ((swapPlace s z at_ seen y_).1.fi), .int .i64 ((swapPlace s z at_ seen y_).1.la)] 0 hB), (BoxAt.sets_ne [.int .i64 ((swapPlace s z at_ seen y_).1.rd), .int .i64 ((swapPlace s z at_ seen y_).1.mo), .slice Ai ni ci, .int .i64 ((swapPlace s z at_ seen y_).1.fi), .int .i64 ((swapPlace s z at_ seen y_).1.la)] 0 ha (by omega)), (BoxAt.sets_ne [.int .i64 ((swapPlace s z at_ seen y_).1.rd), .int .i64 ((swapPlace s z at_ seen y_).1.mo), .slice Ai ni ci, .int .i64 ((swapPlace s z at_ seen y_).1.fi), .int .i64 ((swapPlace s z at_ seen y_).1.la)] 0 hse (by omega)), (BoxAt.sets_ne [.int .i64 ((swapPlace s z at_ seen y_).1.rd), .int .i64 ((swapPlace s z at_ seen y_).1.mo), .slice Ai ni ci, .int .i64 ((swapPlace s z at_ seen y_).1.fi), .int .i64 ((swapPlace s z at_ seen y_).1.la)] 0 hye (by omega)), (size_sts hM7 [.int .i64 ((swapPlace s z at_ seen y_).1.rd), .int .i64 ((swapPlace s z at_ seen y_).1.mo), .slice Ai ni ci, .int .i64 ((swapPlace s z at_ seen y_).1.fi), .int .i64 ((swapPlace s z at_ seen y_).1.la)] 0), (BoxAt.sets_ne [.int .i64 ((swapPlace s z at_ seen y_).1.rd), .int .i64 ((swapPlace s z at_ seen y_).1.mo), .slice Ai ni ci, .int .i64 ((swapPlace s z at_ seen y_).1.fi), .int .i64 ((swapPlace s z at_ seen y_).1.la)] 0 hx0 (by omega)), (RgsD.sets (by omega) [.int .i64 ((swapPlace s z at_ seen y_).1.rd), .int .i64 ((swapPlace s z at_ seen y_).1.mo), .slice Ai ni ci, .int .i64 ((swapPlace s z at_ seen y_).1.fi), .int .i64 ((swapPlace s z at_ seen y_).1.la)] 0 hX), (BoxAt.sets_ne [.int .i64 ((swapPlace s z at_ seen y_).1.rd), .int .i64 ((swapPlace s z at_ seen y_).1.mo), .slice Ai ni ci, .int .i64 ((swapPlace s z at_ seen y_).1.fi), .int .i64 ((swapPlace s z at_ seen y_).1.la)] 0 h0 (by omega)), (RgsW.sts hs (by omega) [.int .i64 ((swapPlace s z at_ seen y_).1.rd), .int .i64 ((swapPlace s z at_ seen y_).1.mo), .slice Ai ni ci, .int .i64 ((swapPlace s z at_ seen y_).1.fi), .int .i64 ((swapPlace s z at_ seen y_).1.la)] 0)⟩, ⟨g11, Ai, ni, ci, e11, hg11, hset, (OwD.setsT hp9 hbox11 [.int .i64 ((swapPlace s z at_ seen y_).1.rd), .int .i64 ((swapPlace s z at_ seen y_).1.mo), .slice Ai ni ci, .int .i64 ((swapPlace s z at_ seen y_).1.fi), .int .i64 ((swapPlace s z at_ seen y_).1.la)] 0)⟩, Nat.le_of_eq (sets_size _ _ _).symm, fun j hj hn hR => ?_⟩
      match j, hj, hn, hR with
      | 0, _, _, hR => exact (show σ 0 = .agg #[.int .i64 s.rd, .int .i64 s.mo, .slice X n m, .int .i64 s.fi, .int .i64 s.la] from hR)
      | 1, _, _, hR => exact (show σ 1 = .int .i64 z from hR)
      | 2, _, _, hR => exact (show σ 2 = .int .i64 at_ from hR)
      | 3, _, _, hR => exact (show σ 3 = .agg #[.bool seen.s, .int .i64 seen.n, .bool seen.f, .int .i64 seen.v] from hR)
      | 4, _, _, hR => exact (show σ 4 = .agg #[.bool seen.s, .int .i64 seen.n, .bool seen.f, .int .i64 seen.v] from hR)
      | 5, _, _, hR => exact (show σ 5 = .agg #[.bool y_.s, .int .i64 y_.n, .bool y_.f, .int .i64 y_.v] from hR)
      | 6, _, _, hR => exact (show σ 6 = .agg #[.bool y_.s, .int .i64 y_.n, .bool y_.f, .int .i64 y_.v] from hR)
      | 7, _, _, hR => obtain ⟨Ai_x, ni_x, ci_x, e, hp⟩ := hR; exact ⟨Ai_x, ni_x, ci_x, e, (OwD.setsT hp hbox11 [.int .i64 ((swapPlace s z at_ seen y_).1.rd), .int .i64 ((swapPlace s z at_ seen y_).1.mo), .slice Ai ni ci, .int .i64 ((swapPlace s z at_ seen y_).1.fi), .int .i64 ((swapPlace s z at_ seen y_).1.la)] 0)⟩
      | 8, _, _, hR => obtain ⟨Ai_x, ni_x, ci_x, e, hp⟩ := hR; exact ⟨Ai_x, ni_x, ci_x, e, (OwD.setsT hp hbox11 [.int .i64 ((swapPlace s z at_ seen y_).1.rd), .int .i64 ((swapPlace s z at_ seen y_).1.mo), .slice Ai ni ci, .int .i64 ((swapPlace s z at_ seen y_).1.fi), .int .i64 ((swapPlace s z at_ seen y_).1.la)] 0)⟩
      | 9, _, _, hR => obtain ⟨Ai_x, ni_x, ci_x, e, hp⟩ := hR; exact ⟨Ai_x, ni_x, ci_x, e, (OwD.setsT hp hbox11 [.int .i64 ((swapPlace s z at_ seen y_).1.rd), .int .i64 ((swapPlace s z at_ seen y_).1.mo), .slice Ai ni ci, .int .i64 ((swapPlace s z at_ seen y_).1.fi), .int .i64 ((swapPlace s z at_ seen y_).1.la)] 0)⟩
      | 10, _, _, hR => exact (show σ 10 = .bool ((swapPlace s z at_ seen y_).2) from hR)
      | 11, _, _, _ => exact ⟨g11, e11, hg11, _, _, _, _, _, hset⟩
      | 12, hj, _, _ => exact absurd rfl hj
      | 13, _, _, hR => exact (show σ 13 = .bool ((swapPlace s z at_ seen y_).2) from hR)
      | _ + 14, _, _, _ => exact trivial
    · -- 13: Op.assign t51
      go_light
      intro L σ W' hcl hL hC hw
      have e10 : σ 10 = .bool ((swapPlace s z at_ seen y_).2) := hw 10 (by kernel_rfl)
      clear hw
      have HC := Lib.hid hC
      clear hC
      clear hcl hL
      refine OpGoes.step fun K hK => ?_
      unfold OpGoes
      go_simp
      obtain ⟨hB, ha, hse, hye, hM7, hx0, hX, h0, hs⟩ := HC.out
      exact hK _ _ ⟨⟨hB, ha, hse, hye, hM7, hx0, hX, h0, hs⟩, rfl, Below.refl _ _⟩
    · intro σ L W' hall hC hR
      obtain ⟨hB, ha, hse, hye, hM7, hx0, hX, h0, hs⟩ := hC
      obtain ⟨g11, Ai, ni, ci, e11, hg12, s12, hp12⟩ : ∃ (g11 : Nat) (Ai : Option Addr) (ni ci : Nat), σ 11 = .pointer (some ⟨g11, 0, none⟩) ∧ M7 ≤ g11 ∧ BoxAt W' g11 #[.int .i64 ((swapPlace s z at_ seen y_).1.rd), .int .i64 ((swapPlace s z at_ seen y_).1.mo), .slice Ai ni ci, .int .i64 ((swapPlace s z at_ seen y_).1.fi), .int .i64 ((swapPlace s z at_ seen y_).1.la)] 28 ∧ OwD M7 W' Ai ni ci (swapPlace s z at_ seen y_).1.rs := hR 12 (by decide)
      have e13 : σ 13 = .bool ((swapPlace s z at_ seen y_).2) := hR 13 (by decide)
      clear hR
      simp only [lexAll]
      go_simp
      go_step
      go_meet
      exact ⟨hB, ha, hse, hye, hx0, hX, ⟨h0, hs⟩, g11, Ai, ni, ci, rfl, hg12, s12, hp12, rfl⟩

  case rest =>
  clear hB ha hse hye h0 hs hX hx0 hM7
  obtain ⟨hB, ha, hse, hye, hx0, hX, ⟨h0, hs⟩, p6, Ai, ni, ci, rfl, hp6, hg, hgw, rfl⟩ := hcut
  rw [HQ.out] at hg hgw
  rw [HQ.out]
  obtain ⟨hi6, hl6, hG⟩ := hgw
  replace hG : RgsD M7 wc.heap.size wc Ai ni ci S.rs := hG.mono (Nat.le_refl _) hl6
  obtain rfl : ns = ni := (hG.1.symm.trans hs.1).symm
  clear hl6
  dsimp only at hg ⊢
  have lp6 := hg.lt
  have hlM : M7 ≤ wc.heap.size := by omega
  go_upto_region 8 with fail
  refine wp_abs (fun W' => Below w.heap.size w W' ∧ BoxAt W' w.heap.size #[.int .i64 s.rd, .int .i64 s.mo, .slice A n cap, .int .i64 s.fi, .int .i64 s.la] 24 ∧ BoxAt W' (w.heap.size + 1) #[.bool seen.s, .int .i64 seen.n, .bool seen.f, .int .i64 seen.v] 36 ∧ BoxAt W' (w.heap.size + 2) #[.bool y_.s, .int .i64 y_.n, .bool y_.f, .int .i64 y_.v] 36 ∧ BoxAt W' p0 #[.int .i64 S.rd, .int .i64 S.mo, .slice As ns cs, .int .i64 S.fi, .int .i64 S.la] 28 ∧ RgsW M5 P2 W' As ns cs S.rs ∧ BoxAt W' P4 #[.int .i64 s.rd, .int .i64 s.mo, .slice X n m, .int .i64 s.fi, .int .i64 s.la] 28 ∧ RgsD P3 P4 W' X n m s.rs ∧ BoxAt W' p6 #[.int .i64 S.rd, .int .i64 S.mo, .slice Ai ns ci, .int .i64 S.fi, .int .i64 S.la] 28 ∧ RgsD M7 wc.heap.size W' Ai ns ci S.rs ∧ wc.heap.size ≤ W'.heap.size) ⟨hB, ha, hse, hye, h0, hs, hx0, hX, hg, hG, Nat.le_refl _⟩ ?_
  clear hB ha hse hye h0 hs hX hx0 hg hG
  generalize wc.heap.size = P6 at *
  rintro W6 ⟨hB, ha, hse, hye, h0, hs, hx0, hX, hg, hG, l7⟩
  have k0 := h0.cell
  have kg := hg.cell
  go_wp2_with fail
  clear k0 kg
  refine (eqStore_same S _ _ _ _ _ _ hG.r hs.r hns HT.out.each).mono ?_
  rintro e w6 ⟨rfl, hb6⟩
  have l8 := hb6.size
  replace ha := ha.below hb6 ha.lt
  replace hse := hse.below hb6 hse.lt
  replace hye := hye.below hb6 hye.lt
  replace h0 := h0.below hb6 h0.lt
  replace hx0 := hx0.below hb6 hx0.lt
  replace hg := hg.below hb6 hg.lt
  replace hs := hs.below hb6 (by omega)
  replace hX := hX.below hb6 (by omega)
  replace hG := hG.below hb6 (by omega)
  replace hB := bstep hB hB.size hb6
  clear hb6
  go_upto_region 10 with fail
  refine wp_abs (fun W' => Below w.heap.size w W' ∧ BoxAt W' w.heap.size #[.int .i64 s.rd, .int .i64 s.mo, .slice A n cap, .int .i64 s.fi, .int .i64 s.la] 24 ∧ BoxAt W' (w.heap.size + 1) #[.bool seen.s, .int .i64 seen.n, .bool seen.f, .int .i64 seen.v] 36 ∧ BoxAt W' (w.heap.size + 2) #[.bool y_.s, .int .i64 y_.n, .bool y_.f, .int .i64 y_.v] 36 ∧ BoxAt W' p0 #[.int .i64 S.rd, .int .i64 S.mo, .slice As ns cs, .int .i64 S.fi, .int .i64 S.la] 28 ∧ RgsW M5 P2 W' As ns cs S.rs ∧ BoxAt W' P4 #[.int .i64 s.rd, .int .i64 s.mo, .slice X n m, .int .i64 s.fi, .int .i64 s.la] 28 ∧ RgsD P3 P4 W' X n m s.rs ∧ BoxAt W' p6 #[.int .i64 S.rd, .int .i64 S.mo, .slice Ai ns ci, .int .i64 S.fi, .int .i64 S.la] 28 ∧ RgsD M7 P6 W' Ai ns ci S.rs ∧ P6 ≤ W'.heap.size) ⟨hB, ha, hse, hye, h0, hs, hx0, hX, hg, hG, by omega⟩ ?_
  clear hB ha hse hye h0 hs hX hx0 hg hG l8 l7
  rintro W5 ⟨hB, ha, hse, hye, h0, hs, hx0, hX, hg, hG, l7⟩
  have hl := hl0.below hB
  have hXr := hX.r
  have l1 := ha.lt
  have lx0 := hx0.lt
  go_cut [65] (fun s W' => Below W5.heap.size W5 W' ∧ s = .bool false)
  case first =>
    refine wp_region_R (fun W' => Below W5.heap.size W5 W') (exactSwapPlaceDR W5.heap.size s A n cap X m) exactSwapPlaceDK exactSwapPlaceDS (by kernel_rfl) (by kernel_rfl) ?_ ?_ ?_
      (.grow rfl ?_ <| .grow rfl ?_ <| .grow rfl ?_ <| .grow rfl ?_ <| .grow rfl ?_ <| .nil) ?_
    · intro j σ τ w h hR
      match j, h, hR with
      | 0, h, hR => exact (h 0 (by decide)).symm.trans hR
      | 1, h, hR => exact (h 1 (by decide)).symm.trans hR
      | 2, h, hR => obtain ⟨g, d, e, hp⟩ := hR; exact ⟨g, d, (h 2 (by decide)).symm.trans e, hp⟩
      | 3, h, hR => exact (h 3 (by decide)).symm.trans hR
      | 4, h, hR => exact (h 4 (by decide)).symm.trans hR
      | _ + 5, _, _ => exact trivial
    · intro j σ w w' hb hR
      match j, hR with
      | 0, hR => exact hR
      | 1, hR => exact hR
      | 2, hR => obtain ⟨g, d, e, hp⟩ := hR; exact ⟨g, d, e, hp.below hb⟩
      | 3, hR => exact hR
      | 4, hR => exact hR
      | _ + 5, _ => exact trivial
    · exact Below.drew (Below.refl _ _)
    · -- 0: Op.load 28 t14
      intro σ W' hC hw
      clear hw
      have k_hx0 := (hx0.below hC (by omega)).cell
      refine OpGoes.step fun K hK => ?_
      unfold OpGoes
      go_simp
      exact hK _ _ ⟨hC, rfl, Below.refl _ _⟩
    · -- 1: Op.load 24 t5
      intro σ W' hC hw
      clear hw
      have k_ha := (ha.below hC (by omega)).cell
      refine OpGoes.step fun K hK => ?_
      unfold OpGoes
      go_simp
      exact hK _ _ ⟨hC, rfl, Below.refl _ _⟩
    · -- 2: Op.call { value (Operand.func 13), args := #[t62], argTypes := #[24] }
      intro σ W' hC hw
      have e1 : σ 1 = .agg #[.int .i64 s.rd, .int .i64 s.mo, .slice A n cap, .int .i64 s.fi, .int .i64 s.la] := hw 1 (by kernel_rfl)
      clear hw
      refine OpGoes.step fun K hK => ?_
      unfold OpGoes
      go_simp
      refine (toStore_any s A n cap _ (hl.below hC) hn1 HS.out.each).mono ?_
      rintro e w1 ⟨g, nn, d, rfl, hO, hb1⟩
      exact ⟨_, rfl, hK _ _ ⟨bstep hC hC.size hb1, by obtain rfl : nn = n := hO.1.symm.trans HL.out; exact ⟨g, d, rfl, hO.r⟩, hb1⟩⟩
    · -- 3: Op.call { value (Operand.func 15), args := #[t61, t63], argTypes := #[28, 28] }
      intro σ W' hC hw
      have e0 : σ 0 = .agg #[.int .i64 s.rd, .int .i64 s.mo, .slice X n m, .int .i64 s.fi, .int .i64 s.la] := hw 0 (by kernel_rfl)
      obtain ⟨g_2, d_2, e2, hp2⟩ : ∃ (g : Option Addr) (d : Nat), σ 2 = .agg #[.int .i64 s.rd, .int .i64 s.mo, .slice g n d, .int .i64 s.fi, .int .i64 s.la] ∧ RgsR 0 W' g n s.rs := hw 2 (by kernel_rfl)
      clear hw
      refine OpGoes.step fun K hK => ?_
      unfold OpGoes
      go_simp
      refine (eqStore_same s _ _ n _ _ _ (hXr.below hC) hp2 hn1 HS.out.each).mono ?_
      rintro e w1 ⟨rfl, hb1⟩
      exact ⟨_, rfl, hK _ _ ⟨bstep hC hC.size hb1, rfl, hb1⟩⟩
    · -- 4: Op.unOp UnOp.not 4 t64
      intro σ W' hC hw
      have e3 : σ 3 = .bool true := hw 3 (by kernel_rfl)
      clear hw
      refine OpGoes.step fun K hK => ?_
      unfold OpGoes
      go_simp
      exact hK _ _ ⟨hC, rfl, Below.refl _ _⟩
    · intro σ W' hC hR
      have e4 : σ 4 = .bool false := hR 4 (by decide)
      clear hR
      simp only [lexAll]
      go_simp
      go_step
      go_meet
      exact ⟨hC, rfl⟩

  case rest =>
    obtain ⟨hb6, rfl⟩ := hcut
    have l8 := hb6.size
    replace ha := ha.below hb6 ha.lt
    replace hse := hse.below hb6 hse.lt
    replace hye := hye.below hb6 hye.lt
    replace h0 := h0.below hb6 h0.lt
    replace hx0 := hx0.below hb6 hx0.lt
    replace hg := hg.below hb6 hg.lt
    replace hs := hs.below hb6 (by omega)
    replace hX := hX.below hb6 (by omega)
    replace hG := hG.below hb6 (by omega)
    replace hB := bstep hB hB.size hb6
    clear hb6
    clear hl hXr l1 lx0
    have kx := hx0.cell
    go_wp2_with fail
    clear kx
    refine (markStore_any s X n m 1 P3 P4 _ hX (by omega) (by omega) HS.out.k HS.out.2).mono ?_
    rintro e w7 ⟨rfl, hb7, hX7⟩
    clear hX7 hX
    have l9 := hb7.size
    replace ha := hb7.box ha (.inl (by omega))
    replace hse := hb7.box hse (.inl (by omega))
    replace hye := hb7.box hye (.inl (by omega))
    replace h0 := hb7.box h0 (.inl (by omega))
    replace hg := hb7.box hg (.inr (by omega))
    replace hs := hs.keep (hb7.same (.inl (by omega)) (by omega))
    replace hG := hG.keep (hb7.same (.inr (by omega)) (by omega))
    replace hB := hB.trans (hb7.below (by omega) hB.size)
    clear hb7 hx0
    generalize markEnd 1 s.rs = z2 at *
    have k0 := h0.cell
    have kg := hg.cell
    go_wp2_with fail
    clear k0 kg
    refine (eqStore_same S _ _ _ _ _ _ hG.r hs.r hns HT.out.each).mono ?_
    rintro e w8 ⟨rfl, hb8⟩
    have l10 := hb8.size
    replace ha := ha.below hb8 ha.lt
    replace hse := hse.below hb8 hse.lt
    replace hye := hye.below hb8 hye.lt
    replace h0 := h0.below hb8 h0.lt
    replace hg := hg.below hb8 hg.lt
    replace hs := hs.below hb8 (by omega)
    replace hG := hG.below hb8 (by omega)
    replace hB := bstep hB hB.size hb8
    clear hb8
    have kg := hg.cell
    go_wp2_with fail
    clear kg
    refine (markStoreT_any S Ai ns ci 1 M7 P6 _ hG (by omega) (by omega) HT.out.k HT.out.2).mono ?_
    rintro e w9 ⟨rfl, hb9, hM⟩
    clear hG
    have l11 := hb9.inn.size
    replace ha := hb9.inn.box ha (.inl (by omega))
    replace hse := hb9.inn.box hse (.inl (by omega))
    replace hye := hb9.inn.box hye (.inl (by omega))
    replace h0 := hb9.inn.box h0 (.inl (by omega))
    replace hg := hb9.box hg
    replace hs := hs.keep (hb9.inn.same (.inl (by omega)) (by omega))
    replace hB := hB.trans (hb9.inn.below (by omega) hB.size)
    clear hb9
    have kg := hg.cell
    go_wp2_with fail
    clear kg
    refine (heldStore_any _ S _ _ _ 1 _ hM.r (by omega) HT.out.k HT.out.2).mono ?_
    rintro e w10 ⟨rfl, hb10⟩
    have l12 := hb10.size
    replace ha := ha.below hb10 ha.lt
    replace hse := hse.below hb10 hse.lt
    replace hye := hye.below hb10 hye.lt
    replace h0 := h0.below hb10 h0.lt
    replace hg := hg.below hb10 hg.lt
    replace hs := hs.below hb10 (by omega)
    replace hM := hM.below hb10 (by omega)
    replace hB := bstep hB hB.size hb10
    clear hb10
    obtain ⟨z3, hz3⟩ : ∃ z3, z3 = markEnd 1 S.rs := ⟨_, rfl⟩
    rw [← hz3] at hendS
    have HE := Lib.hid hz3
    rw [← hz3]
    clear hz3
    have HMK := Lib.hid hM; clear hM
    have HG6 := Lib.hid hg; clear hg
    have HSS := Lib.hid hs; clear hs
    have HH0 := Lib.hid h0; clear h0
    obtain ⟨M24, hMe⟩ : ∃ M24, M24 = w10.heap.size := ⟨_, rfl⟩
    have hM24 : M24 ≤ w10.heap.size := by omega
    have hM24w : M24 ≤ w10.heap.size := by omega
    have hM3 : w.heap.size + 3 ≤ M24 := by omega
    have hbX : Below M24 w10 w10 := Below.refl _ _
    go_upto_region 24 with fail
    go_cut [20, 21] (fun s20 s21 W' => Below w.heap.size w W' ∧ Below M24 w10 W' ∧ ∃ g12 Ai ni ci, s20 = .pointer (some ⟨g12, 0, none⟩) ∧ M24 ≤ g12 ∧ BoxAt W' g12 #[.int .i64 ((swapPlace s z at_ seen y_).1.rd), .int .i64 ((swapPlace s z at_ seen y_).1.mo), .slice Ai ni ci, .int .i64 ((swapPlace s z at_ seen y_).1.fi), .int .i64 ((swapPlace s z at_ seen y_).1.la)] 28 ∧ OwD M24 W' Ai ni ci (swapPlace s z at_ seen y_).1.rs ∧ s21 = .bool (swapPlace s z at_ seen y_).2)
    case first =>
      refine wp_region2 (fun w w' => Below w.heap.size w w') (fun _ _ h => h.size) (fun L W' => Below w.heap.size w W' ∧ BoxAt W' w.heap.size #[.int .i64 s.rd, .int .i64 s.mo, .slice A n cap, .int .i64 s.fi, .int .i64 s.la] 24 ∧ BoxAt W' (w.heap.size + 1) #[.bool seen.s, .int .i64 seen.n, .bool seen.f, .int .i64 seen.v] 36 ∧ BoxAt W' (w.heap.size + 2) #[.bool y_.s, .int .i64 y_.n, .bool y_.f, .int .i64 y_.v] 36 ∧ M24 ≤ W'.heap.size ∧ Below M24 w10 W') (sp24R s A n cap w.heap.size M24 z at_ seen y_) sp24K sp24S (by kernel_rfl) (by kernel_rfl) ?_ ?_ ?_
        (.grow rfl ?_ <| .grow rfl ?_ <| .grow rfl ?_ <| .grow rfl ?_ <| .grow rfl ?_ <| .grow rfl ?_ <| .grow rfl ?_ <| .grow rfl ?_ <| .grow rfl ?_ <| .grow rfl ?_ <| .grow rfl ?_ <| .grow rfl ?_ <| .make rfl ?_ <| .store rfl ?_ <| .grow rfl ?_ <| .nil) ?_
      · intro j σ τ w h hR
        match j, h, hR with
        | 0, h, hR => exact (h 0 (List.mem_singleton.2 rfl)).symm.trans hR
        | 1, h, hR => obtain ⟨X1, d1, e, hp⟩ := hR; exact ⟨X1, d1, (h 1 (List.mem_singleton.2 rfl)).symm.trans e, hp⟩
        | 2, h, hR => exact (h 2 (List.mem_singleton.2 rfl)).symm.trans hR
        | 3, h, hR => exact (h 3 (List.mem_singleton.2 rfl)).symm.trans hR
        | 4, h, hR => exact (h 4 (List.mem_singleton.2 rfl)).symm.trans hR
        | 5, h, hR => exact (h 5 (List.mem_singleton.2 rfl)).symm.trans hR
        | 6, h, hR => exact (h 6 (List.mem_singleton.2 rfl)).symm.trans hR
        | 7, h, hR => exact (h 7 (List.mem_singleton.2 rfl)).symm.trans hR
        | 8, h, hR => obtain ⟨Ai, ni, ci, e, hp⟩ := hR; exact ⟨Ai, ni, ci, (h 8 (List.mem_singleton.2 rfl)).symm.trans e, hp⟩
        | 9, h, hR => obtain ⟨Ai, ni, ci, e, hp⟩ := hR; exact ⟨Ai, ni, ci, (h 9 (List.mem_singleton.2 rfl)).symm.trans e, hp⟩
        | 10, h, hR => obtain ⟨Ai, ni, ci, e, hp⟩ := hR; exact ⟨Ai, ni, ci, (h 10 (List.mem_singleton.2 rfl)).symm.trans e, hp⟩
        | 11, h, hR => exact (h 11 (List.mem_singleton.2 rfl)).symm.trans hR
        | 12, h, hR => obtain ⟨g, e, hp⟩ := hR; exact ⟨g, (h 12 (List.mem_singleton.2 rfl)).symm.trans e, hp⟩
        | 13, h, hR => obtain ⟨g, Ai, ni, ci, e, hp⟩ := hR; exact ⟨g, Ai, ni, ci, (h 12 (List.mem_singleton.2 rfl)).symm.trans e, hp⟩
        | 14, h, hR => exact (h 14 (List.mem_singleton.2 rfl)).symm.trans hR
        | _ + 15, _, _ => exact trivial
      · intro j σ w w' hb hR
        match j, hR with
        | 0, hR => exact hR
        | 1, hR => obtain ⟨X1, d1, e, hp⟩ := hR; exact ⟨X1, d1, e, hp.below hb⟩
        | 2, hR => exact hR
        | 3, hR => exact hR
        | 4, hR => exact hR
        | 5, hR => exact hR
        | 6, hR => exact hR
        | 7, hR => exact hR
        | 8, hR => obtain ⟨Ai, ni, ci, e, hp⟩ := hR; exact ⟨Ai, ni, ci, e, hp.below hb⟩
        | 9, hR => obtain ⟨Ai, ni, ci, e, hp⟩ := hR; exact ⟨Ai, ni, ci, e, hp.below hb⟩
        | 10, hR => obtain ⟨Ai, ni, ci, e, hp⟩ := hR; exact ⟨Ai, ni, ci, e, hp.below hb⟩
        | 11, hR => exact hR
        | 12, hR => obtain ⟨g, e, hg, x0, x1, x2, x3, x4, hx⟩ := hR; exact ⟨g, e, hg, x0, x1, x2, x3, x4, hx.below hb hx.lt⟩
        | 13, hR => obtain ⟨g, Ai, ni, ci, e, hg, hx, hp⟩ := hR; exact ⟨g, Ai, ni, ci, e, hg, hx.below hb hx.lt, hp.below hb⟩
        | 14, hR => exact hR
        | _ + 15, _ => exact trivial
      · exact ⟨hB.drew, ha, hse, hye, hM24, hbX.drew⟩
      · -- 0: Op.load 24 t5
        go_light
        intro L σ W' hcl hL hC hw
        clear hw
        have HC := Lib.hid hC
        obtain ⟨hB, ha, hse, hye, hM24, hbX⟩ := hC
        have ka := ha.cell
        clear hcl hL
        clear hB ha hse hye hM24 hbX
        refine OpGoes.step fun K hK => ?_
        unfold OpGoes
        go_simp
        obtain ⟨hB, ha, hse, hye, hM24, hbX⟩ := HC.out
        exact hK _ _ ⟨⟨hB, ha, hse, hye, hM24, hbX⟩, rfl, Below.refl _ _⟩
      · -- 1: Op.call { value (Operand.func 13), args := #[t94], argTypes := #[24] }
        go_light
        intro L σ W' hcl hL hC hw
        have e0 : σ 0 = .agg #[.int .i64 s.rd, .int .i64 s.mo, .slice A n cap, .int .i64 s.fi, .int .i64 s.la] := hw 0 (by kernel_rfl)
        clear hw
        have HC := Lib.hid hC
        clear hC
        clear hcl hL
        refine OpGoes.step fun K hK => ?_
        unfold OpGoes
        go_simp
        obtain ⟨hB, ha, hse, hye, hM24, hbX⟩ := HC.out
        refine (toStore_any s A n cap _ (hl0.below hB) hn1 HS.out.each).mono ?_
        rintro e w1 ⟨X1, nn, d1, rfl, hO1, hb1⟩
        exact ⟨_, rfl, hK _ _ ⟨⟨bstep hB hB.size hb1, ha.below hb1 ha.lt, hse.below hb1 hse.lt, hye.below hb1 hye.lt, Nat.le_trans hM24 hb1.size, bstep hbX (Nat.le_trans hM24w hbX.size) hb1⟩, (by obtain rfl : n = nn := (hO1.1.symm.trans HL.out).symm; exact ⟨X1, d1, rfl, _, Nat.le_refl _, hO1.mono hM24 (Nat.le_refl _)⟩), hb1⟩⟩
      · -- 2: Op.move t1
        go_light
        intro L σ W' hcl hL hC hw
        clear hw
        have HC := Lib.hid hC
        clear hC
        clear hcl hL
        refine OpGoes.step fun K hK => ?_
        unfold OpGoes
        go_simp
        obtain ⟨hB, ha, hse, hye, hM24, hbX⟩ := HC.out
        exact hK _ _ ⟨⟨hB, ha, hse, hye, hM24, hbX⟩, rfl, Below.refl _ _⟩
      · -- 3: Op.move t2
        go_light
        intro L σ W' hcl hL hC hw
        clear hw
        have HC := Lib.hid hC
        clear hC
        clear hcl hL
        refine OpGoes.step fun K hK => ?_
        unfold OpGoes
        go_simp
        obtain ⟨hB, ha, hse, hye, hM24, hbX⟩ := HC.out
        exact hK _ _ ⟨⟨hB, ha, hse, hye, hM24, hbX⟩, rfl, Below.refl _ _⟩
      · -- 4: Op.load 36 t8
        go_light
        intro L σ W' hcl hL hC hw
        clear hw
        have HC := Lib.hid hC
        obtain ⟨hB, ha, hse, hye, hM24, hbX⟩ := hC
        have kp := hse.cell
        clear hcl hL
        clear hB ha hse hye hM24 hbX
        refine OpGoes.step fun K hK => ?_
        unfold OpGoes
        go_simp
        obtain ⟨hB, ha, hse, hye, hM24, hbX⟩ := HC.out
        exact hK _ _ ⟨⟨hB, ha, hse, hye, hM24, hbX⟩, rfl, Below.refl _ _⟩
      · -- 5: Op.call { value (Operand.func 21), args := #[t98], argTypes := #[36] }
        go_light
        intro L σ W' hcl hL hC hw
        have e4 : σ 4 = .agg #[.bool seen.s, .int .i64 seen.n, .bool seen.f, .int .i64 seen.v] := hw 4 (by kernel_rfl)
        clear hw
        have HC := Lib.hid hC
        clear hC
        clear hcl hL
        refine OpGoes.step fun K hK => ?_
        unfold OpGoes
        go_simp
        obtain ⟨hB, ha, hse, hye, hM24, hbX⟩ := HC.out
        refine (toPlace_any seen.s seen.f seen.n seen.v _).mono ?_
        rintro e w1 ⟨rfl, hb1⟩
        exact ⟨_, rfl, hK _ _ ⟨⟨bstep hB hB.size hb1, ha.below hb1 ha.lt, hse.below hb1 hse.lt, hye.below hb1 hye.lt, Nat.le_trans hM24 hb1.size, bstep hbX (Nat.le_trans hM24w hbX.size) hb1⟩, rfl, hb1⟩⟩
      · -- 6: Op.load 36 t9
        go_light
        intro L σ W' hcl hL hC hw
        clear hw
        have HC := Lib.hid hC
        obtain ⟨hB, ha, hse, hye, hM24, hbX⟩ := hC
        have kq := hye.cell
        clear hcl hL
        clear hB ha hse hye hM24 hbX
        refine OpGoes.step fun K hK => ?_
        unfold OpGoes
        go_simp
        obtain ⟨hB, ha, hse, hye, hM24, hbX⟩ := HC.out
        exact hK _ _ ⟨⟨hB, ha, hse, hye, hM24, hbX⟩, rfl, Below.refl _ _⟩
      · -- 7: Op.call { value (Operand.func 21), args := #[t100], argTypes := #[36] }
        go_light
        intro L σ W' hcl hL hC hw
        have e6 : σ 6 = .agg #[.bool y_.s, .int .i64 y_.n, .bool y_.f, .int .i64 y_.v] := hw 6 (by kernel_rfl)
        clear hw
        have HC := Lib.hid hC
        clear hC
        clear hcl hL
        refine OpGoes.step fun K hK => ?_
        unfold OpGoes
        go_simp
        obtain ⟨hB, ha, hse, hye, hM24, hbX⟩ := HC.out
        refine (toPlace_any y_.s y_.f y_.n y_.v _).mono ?_
        rintro e w1 ⟨rfl, hb1⟩
        exact ⟨_, rfl, hK _ _ ⟨⟨bstep hB hB.size hb1, ha.below hb1 ha.lt, hse.below hb1 hse.lt, hye.below hb1 hye.lt, Nat.le_trans hM24 hb1.size, bstep hbX (Nat.le_trans hM24w hbX.size) hb1⟩, rfl, hb1⟩⟩
      · -- 8: Op.call { value (Operand.func 22), args := #[t95, t96, t97, t99, t101], argTypes := #[28, 2, 2, 39, 39] }
        go_light
        intro L σ W' hcl hL hC hw
        obtain ⟨X1, d1, e1, hp1⟩ : ∃ (X1 : Option Addr) (d1 : Nat), σ 1 = .agg #[.int .i64 s.rd, .int .i64 s.mo, .slice X1 n d1, .int .i64 s.fi, .int .i64 s.la] ∧ OwD M24 W' X1 n d1 s.rs := hw 1 (by kernel_rfl)
        have e2 : σ 2 = .int .i64 z := hw 2 (by kernel_rfl)
        have e3 : σ 3 = .int .i64 at_ := hw 3 (by kernel_rfl)
        have e5 : σ 5 = .agg #[.bool seen.s, .int .i64 seen.n, .bool seen.f, .int .i64 seen.v] := hw 5 (by kernel_rfl)
        have e7 : σ 7 = .agg #[.bool y_.s, .int .i64 y_.n, .bool y_.f, .int .i64 y_.v] := hw 7 (by kernel_rfl)
        clear hw
        have HC := Lib.hid hC
        clear hC
        clear hcl hL
        refine OpGoes.step fun K hK => ?_
        unfold OpGoes
        go_simp
        obtain ⟨hB, ha, hse, hye, hM24, hbX⟩ := HC.out
        refine (hp1.elim fun hi_ h_ => iswap_any s X1 n d1 M24 hi_ w.heap.size a0 a1 a2 a3 a4 z at_ seen y_ _ h_.2.toW h_.1 hB.size (he.below hB (Nat.le_refl _)) (hS0.keep (fun j hj => hB.block j hj)) hN0 (hS1.keep (fun j hj => hB.block j hj)) hN1 (hS2.keep (fun j hj => hB.block j hj)) hN2 hn1 HS.out.each).mono ?_
        rintro e w1 ⟨Ai, ni, ci, rfl, hO8, hb1⟩
        exact ⟨_, rfl, hK _ _ ⟨⟨bstep hB hB.size hb1, ha.below hb1 ha.lt, hse.below hb1 hse.lt, hye.below hb1 hye.lt, Nat.le_trans hM24 hb1.size, bstep hbX (Nat.le_trans hM24w hbX.size) hb1⟩, ⟨Ai, ni, ci, rfl, _, Nat.le_refl _, hO8.mono hM24 (Nat.le_refl _)⟩, hb1⟩⟩
      · -- 9: Op.move t102
        go_light
        intro L σ W' hcl hL hC hw
        obtain ⟨Ai, ni, ci, e8, hp8⟩ : ∃ (Ai : Option Addr) (ni ci : Nat), σ 8 = .tuple #[.agg #[.int .i64 ((swapPlace s z at_ seen y_).1.rd), .int .i64 ((swapPlace s z at_ seen y_).1.mo), .slice Ai ni ci, .int .i64 ((swapPlace s z at_ seen y_).1.fi), .int .i64 ((swapPlace s z at_ seen y_).1.la)], .bool ((swapPlace s z at_ seen y_).2)] ∧ OwD M24 W' Ai ni ci (swapPlace s z at_ seen y_).1.rs := hw 8 (by kernel_rfl)
        clear hw
        have HC := Lib.hid hC
        clear hC
        clear hcl hL
        refine OpGoes.step fun K hK => ?_
        unfold OpGoes
        go_simp
        obtain ⟨hB, ha, hse, hye, hM24, hbX⟩ := HC.out
        exact hK _ _ ⟨⟨hB, ha, hse, hye, hM24, hbX⟩, ⟨Ai, ni, ci, rfl, hp8⟩, Below.refl _ _⟩
      · -- 10: Op.extract t93 0
        go_light
        intro L σ W' hcl hL hC hw
        obtain ⟨Ai, ni, ci, e9, hp9⟩ : ∃ (Ai : Option Addr) (ni ci : Nat), σ 9 = .tuple #[.agg #[.int .i64 ((swapPlace s z at_ seen y_).1.rd), .int .i64 ((swapPlace s z at_ seen y_).1.mo), .slice Ai ni ci, .int .i64 ((swapPlace s z at_ seen y_).1.fi), .int .i64 ((swapPlace s z at_ seen y_).1.la)], .bool ((swapPlace s z at_ seen y_).2)] ∧ OwD M24 W' Ai ni ci (swapPlace s z at_ seen y_).1.rs := hw 9 (by kernel_rfl)
        clear hw
        have HC := Lib.hid hC
        clear hC
        clear hcl hL
        refine OpGoes.step fun K hK => ?_
        unfold OpGoes
        go_simp
        obtain ⟨hB, ha, hse, hye, hM24, hbX⟩ := HC.out
        exact hK _ _ ⟨⟨hB, ha, hse, hye, hM24, hbX⟩, ⟨Ai, ni, ci, rfl, hp9⟩, Below.refl _ _⟩
      · -- 11: Op.extract t93 1
        go_light
        intro L σ W' hcl hL hC hw
        obtain ⟨Ai, ni, ci, e9, hp9⟩ : ∃ (Ai : Option Addr) (ni ci : Nat), σ 9 = .tuple #[.agg #[.int .i64 ((swapPlace s z at_ seen y_).1.rd), .int .i64 ((swapPlace s z at_ seen y_).1.mo), .slice Ai ni ci, .int .i64 ((swapPlace s z at_ seen y_).1.fi), .int .i64 ((swapPlace s z at_ seen y_).1.la)], .bool ((swapPlace s z at_ seen y_).2)] ∧ OwD M24 W' Ai ni ci (swapPlace s z at_ seen y_).1.rs := hw 9 (by kernel_rfl)
        clear hw
        have HC := Lib.hid hC
        clear hC
        clear hcl hL
        refine OpGoes.step fun K hK => ?_
        unfold OpGoes
        go_simp
        obtain ⟨hB, ha, hse, hye, hM24, hbX⟩ := HC.out
        exact hK _ _ ⟨⟨hB, ha, hse, hye, hM24, hbX⟩, rfl, Below.refl _ _⟩
      · -- 12: Op.alloc 28
        go_light
        intro L σ W' hcl hL hC hw
        clear hw
        have HC := Lib.hid hC
        clear hC
        clear hcl hL
        refine OpGoes.step fun K hK => ?_
        unfold OpGoes
        go_simp
        obtain ⟨hB, ha, hse, hye, hM24, hbX⟩ := HC.out
        have hb1 : Below W'.heap.size W' (W'.alloc (.cells #[.int .i64 0, .int .i64 0, .slice none 0 0, .int .i64 0, .int .i64 0] 28)) := (Below.refl _ _).alloc (Nat.le_refl _) _
        exact hK _ _ ⟨⟨bstep hB hB.size hb1, ha.below hb1 ha.lt, hse.below hb1 hse.lt, hye.below hb1 hye.lt, Nat.le_trans hM24 hb1.size, bstep hbX (Nat.le_trans hM24w hbX.size) hb1⟩, ⟨_, rfl, hM24, _, _, _, _, _, BoxAt.new _ _ _⟩, hb1, rfl, by simp⟩
      · -- 13: Op.store 28 t20 t103
        go_light
        intro L σ W' hcl hL hC hw hne
        obtain ⟨Ai, ni, ci, e10, hp10⟩ : ∃ (Ai : Option Addr) (ni ci : Nat), σ 10 = .agg #[.int .i64 ((swapPlace s z at_ seen y_).1.rd), .int .i64 ((swapPlace s z at_ seen y_).1.mo), .slice Ai ni ci, .int .i64 ((swapPlace s z at_ seen y_).1.fi), .int .i64 ((swapPlace s z at_ seen y_).1.la)] ∧ OwD M24 W' Ai ni ci (swapPlace s z at_ seen y_).1.rs := hw 10 (by kernel_rfl)
        obtain ⟨g12, e12, hg12, x0, x1, x2, x3, x4, hbox12⟩ : ∃ g12, σ 12 = .pointer (some ⟨g12, 0, none⟩) ∧ M24 ≤ g12 ∧ ∃ x0 x1 x2 x3 x4, BoxAt W' g12 #[x0, x1, x2, x3, x4] 28 := hw 12 (by kernel_rfl)
        clear hw hne
        have HC := Lib.hid hC
        clear hC
        clear hcl hL
        have kc_ := hbox12.cell
        have kf_ := hbox12.frozen
        refine OpGoes.step fun K hK => ?_
        unfold OpGoes
        go_simp
        obtain ⟨hB, ha, hse, hye, hM24, hbX⟩ := HC.out
        have hset := sets_all (us := [.int .i64 ((swapPlace s z at_ seen y_).1.rd), .int .i64 ((swapPlace s z at_ seen y_).1.mo), .slice Ai ni ci, .int .i64 ((swapPlace s z at_ seen y_).1.fi), .int .i64 ((swapPlace s z at_ seen y_).1.la)]) hbox12 rfl
        refine hK undef (setCells W' g12 0 [.int .i64 ((swapPlace s z at_ seen y_).1.rd), .int .i64 ((swapPlace s z at_ seen y_).1.mo), .slice Ai ni ci, .int .i64 ((swapPlace s z at_ seen y_).1.fi), .int .i64 ((swapPlace s z at_ seen y_).1.la)]) ⟨⟨(Below.setCells (by omega) [.int .i64 ((swapPlace s z at_ seen y_).1.rd), .int .i64 ((swapPlace s z at_ seen y_).1.mo), .slice Ai ni ci, .int .i64 ((swapPlace s z at_ seen y_).1.fi), .int .i64 ((swapPlace s z at_ seen y_).1.la)] 0 hB), (BoxAt.sets_ne [.int .i64 ((swapPlace s z at_ seen y_).1.rd), .int .i64 ((swapPlace s z at_ seen y_).1.mo), .slice Ai ni ci, .int .i64 ((swapPlace s z at_ seen y_).1.fi), .int .i64 ((swapPlace s z at_ seen y_).1.la)] 0 ha (by omega)), (BoxAt.sets_ne [.int .i64 ((swapPlace s z at_ seen y_).1.rd), .int .i64 ((swapPlace s z at_ seen y_).1.mo), .slice Ai ni ci, .int .i64 ((swapPlace s z at_ seen y_).1.fi), .int .i64 ((swapPlace s z at_ seen y_).1.la)] 0 hse (by omega)), (BoxAt.sets_ne [.int .i64 ((swapPlace s z at_ seen y_).1.rd), .int .i64 ((swapPlace s z at_ seen y_).1.mo), .slice Ai ni ci, .int .i64 ((swapPlace s z at_ seen y_).1.fi), .int .i64 ((swapPlace s z at_ seen y_).1.la)] 0 hye (by omega)), (size_sts hM24 [.int .i64 ((swapPlace s z at_ seen y_).1.rd), .int .i64 ((swapPlace s z at_ seen y_).1.mo), .slice Ai ni ci, .int .i64 ((swapPlace s z at_ seen y_).1.fi), .int .i64 ((swapPlace s z at_ seen y_).1.la)] 0), (Below.setCells (by omega) [.int .i64 ((swapPlace s z at_ seen y_).1.rd), .int .i64 ((swapPlace s z at_ seen y_).1.mo), .slice Ai ni ci, .int .i64 ((swapPlace s z at_ seen y_).1.fi), .int .i64 ((swapPlace s z at_ seen y_).1.la)] 0 hbX)⟩, ⟨g12, Ai, ni, ci, e12, hg12, hset, (OwD.setsT hp10 hbox12 [.int .i64 ((swapPlace s z at_ seen y_).1.rd), .int .i64 ((swapPlace s z at_ seen y_).1.mo), .slice Ai ni ci, .int .i64 ((swapPlace s z at_ seen y_).1.fi), .int .i64 ((swapPlace s z at_ seen y_).1.la)] 0)⟩, Nat.le_of_eq (sets_size _ _ _).symm, fun j hj hn hR => ?_⟩
        match j, hj, hn, hR with
        | 0, _, _, hR => exact (show σ 0 = .agg #[.int .i64 s.rd, .int .i64 s.mo, .slice A n cap, .int .i64 s.fi, .int .i64 s.la] from hR)
        | 1, _, _, hR => obtain ⟨X1_x, d1_x, e, hp⟩ := hR; exact ⟨X1_x, d1_x, e, (OwD.setsT hp hbox12 [.int .i64 ((swapPlace s z at_ seen y_).1.rd), .int .i64 ((swapPlace s z at_ seen y_).1.mo), .slice Ai ni ci, .int .i64 ((swapPlace s z at_ seen y_).1.fi), .int .i64 ((swapPlace s z at_ seen y_).1.la)] 0)⟩
        | 2, _, _, hR => exact (show σ 2 = .int .i64 z from hR)
        | 3, _, _, hR => exact (show σ 3 = .int .i64 at_ from hR)
        | 4, _, _, hR => exact (show σ 4 = .agg #[.bool seen.s, .int .i64 seen.n, .bool seen.f, .int .i64 seen.v] from hR)
        | 5, _, _, hR => exact (show σ 5 = .agg #[.bool seen.s, .int .i64 seen.n, .bool seen.f, .int .i64 seen.v] from hR)
        | 6, _, _, hR => exact (show σ 6 = .agg #[.bool y_.s, .int .i64 y_.n, .bool y_.f, .int .i64 y_.v] from hR)
        | 7, _, _, hR => exact (show σ 7 = .agg #[.bool y_.s, .int .i64 y_.n, .bool y_.f, .int .i64 y_.v] from hR)
        | 8, _, _, hR => obtain ⟨Ai_x, ni_x, ci_x, e, hp⟩ := hR; exact ⟨Ai_x, ni_x, ci_x, e, (OwD.setsT hp hbox12 [.int .i64 ((swapPlace s z at_ seen y_).1.rd), .int .i64 ((swapPlace s z at_ seen y_).1.mo), .slice Ai ni ci, .int .i64 ((swapPlace s z at_ seen y_).1.fi), .int .i64 ((swapPlace s z at_ seen y_).1.la)] 0)⟩
        | 9, _, _, hR => obtain ⟨Ai_x, ni_x, ci_x, e, hp⟩ := hR; exact ⟨Ai_x, ni_x, ci_x, e, (OwD.setsT hp hbox12 [.int .i64 ((swapPlace s z at_ seen y_).1.rd), .int .i64 ((swapPlace s z at_ seen y_).1.mo), .slice Ai ni ci, .int .i64 ((swapPlace s z at_ seen y_).1.fi), .int .i64 ((swapPlace s z at_ seen y_).1.la)] 0)⟩
        | 10, _, _, hR => obtain ⟨Ai_x, ni_x, ci_x, e, hp⟩ := hR; exact ⟨Ai_x, ni_x, ci_x, e, (OwD.setsT hp hbox12 [.int .i64 ((swapPlace s z at_ seen y_).1.rd), .int .i64 ((swapPlace s z at_ seen y_).1.mo), .slice Ai ni ci, .int .i64 ((swapPlace s z at_ seen y_).1.fi), .int .i64 ((swapPlace s z at_ seen y_).1.la)] 0)⟩
        | 11, _, _, hR => exact (show σ 11 = .bool ((swapPlace s z at_ seen y_).2) from hR)
        | 12, _, _, _ => exact ⟨g12, e12, hg12, _, _, _, _, _, hset⟩
        | 13, hj, _, _ => exact absurd rfl hj
        | 14, _, _, hR => exact (show σ 14 = .bool ((swapPlace s z at_ seen y_).2) from hR)
        | _ + 15, _, _, _ => exact trivial
      · -- 14: Op.assign t104
        go_light
        intro L σ W' hcl hL hC hw
        have e11 : σ 11 = .bool ((swapPlace s z at_ seen y_).2) := hw 11 (by kernel_rfl)
        clear hw
        have HC := Lib.hid hC
        clear hC
        clear hcl hL
        refine OpGoes.step fun K hK => ?_
        unfold OpGoes
        go_simp
        obtain ⟨hB, ha, hse, hye, hM24, hbX⟩ := HC.out
        exact hK _ _ ⟨⟨hB, ha, hse, hye, hM24, hbX⟩, rfl, Below.refl _ _⟩
      · intro σ L W' hall hC hR
        obtain ⟨hB, ha, hse, hye, hM24, hbX⟩ := hC
        obtain ⟨g12, Ai, ni, ci, e12, hg13, s13, hp13⟩ : ∃ (g12 : Nat) (Ai : Option Addr) (ni ci : Nat), σ 12 = .pointer (some ⟨g12, 0, none⟩) ∧ M24 ≤ g12 ∧ BoxAt W' g12 #[.int .i64 ((swapPlace s z at_ seen y_).1.rd), .int .i64 ((swapPlace s z at_ seen y_).1.mo), .slice Ai ni ci, .int .i64 ((swapPlace s z at_ seen y_).1.fi), .int .i64 ((swapPlace s z at_ seen y_).1.la)] 28 ∧ OwD M24 W' Ai ni ci (swapPlace s z at_ seen y_).1.rs := hR 13 (by decide)
        have e14 : σ 14 = .bool ((swapPlace s z at_ seen y_).2) := hR 14 (by decide)
        clear hR
        simp only [lexAll]
        go_simp
        go_step
        go_meet
        exact ⟨hB, hbX, g12, Ai, ni, ci, rfl, hg13, s13, hp13, rfl⟩

    case rest =>
    clear hB ha hse hye hM24 hbX
    obtain ⟨hB, hb11, p8, Aj, nj, cj, rfl, hp8, hh0, hjw, rfl⟩ := hcut
    rw [HQ.out] at hh0 hjw
    rw [HQ.out]
    obtain ⟨hi8, hl8, hj⟩ := hjw
    replace hb11 : Below w10.heap.size w10 wc := hb11.mono (by omega)
    have hs := HSS.out.below hb11 (by omega)
    have hg := HG6.out.below hb11 HG6.out.lt
    have h0 := HH0.out.below hb11 HH0.out.lt
    have hM := HMK.out.below hb11 (by omega)
    obtain rfl : ns = nj := (hj.1.symm.trans hs.1).symm
    have l13 := hb11.size
    clear hb11
    dsimp only at hh0 ⊢
    have k0 := h0.cell
    have kh := hh0.cell
    go_wp2_with fail
    clear k0 kh
    refine (eqStore_same S _ _ _ _ _ _ hj.r hs.r hns HT.out.each).mono ?_
    rintro e w13 ⟨rfl, hb13⟩
    replace hg := hg.below hb13 hg.lt
    replace hM := hM.below hb13 (by omega)
    replace hB := bstep hB hB.size hb13
    clear hb13 h0 hs hj hh0
    have kg := hg.cell
    go_wp2_with fail
    clear kg
    refine (heldStore_any _ S _ _ _ 1 _ hM.r (by omega) HT.out.k HT.out.2).mono ?_
    rintro e w14 ⟨rfl, hb14⟩
    replace hB := bstep hB hB.size hb14
    rw [← HE.out]
    go_wp2
    go_ret
    exact .mk rfl hB

set_option maxHeartbeats 400000 in
theorem exactSwapPlace_big (s : St) (A : Option Addr) (n cap : Nat) (z at_ : Int) (seen y_ : Pl) (w : World) (hl0 : RgsR 0 w A n s.rs) (hn : n ≤ maxLen) (hs : szL 1048576 s.rs = -1) :
    Calls Tryd.prog 5 #[stV s A n cap, .int .i64 z, .int .i64 at_, .agg #[.bool seen.s, .int .i64 seen.n, .bool seen.f, .int .i64 seen.v], .agg #[.bool y_.s, .int .i64 y_.n, .bool y_.f, .int .i64 y_.v]] w (RetBelow (.bool true) w) := by
  have HS := Lib.hid hs; clear hs
  unfold stV
  go_enter Tryd.func5, Tryd.ntmps5
  go_wp2_with fail
  refine calls_abs (fun W => Below w.heap.size w W) ((((Below.refl _ _).alloc (Nat.le_refl _) _).alloc (by simp) _).alloc (by simp; omega) _) ?_
  rintro W hB
  refine (szStore_any s A n cap 1048576 _ (hl0.below hB) hn (by omega) (by omega)).mono ?_
  rintro e w1 ⟨rfl, hb1⟩
  rw [HS.out]
  go_wp2
  go_ret
  exact .mk rfl (bstep hB hB.size hb1)

theorem exactSwapPlace_any (s : St) (A : Option Addr) (n cap : Nat) (z at_ : Int) (seen y_ : Pl) (w : World) (hl : RgsR 0 w A n s.rs) (hn : n ≤ maxLen) (a0 a1 a2 a3 a4 : Addr) (he : Errs w.heap.size w a0 a1) (hS0 : Sent w.heap.size w 2 a2) (hN0 : a2 ≠ a0) (hS1 : Sent w.heap.size w 4 a3) (hN1 : a3 ≠ a0) (hS2 : Sent w.heap.size w 5 a4) (hN2 : a4 ≠ a0) :
    Calls Tryd.prog 5 #[stV s A n cap, .int .i64 z, .int .i64 at_, .agg #[.bool seen.s, .int .i64 seen.n, .bool seen.f, .int .i64 seen.v], .agg #[.bool y_.s, .int .i64 y_.n, .bool y_.f, .int .i64 y_.v]] w (RetBelow (.bool true) w) := by
  by_cases hs : szL 1048576 s.rs = -1
  · exact exactSwapPlace_big s A n cap z at_ seen y_ w hl hn hs
  · exact exactSwapPlace_small s A n cap z at_ seen y_ w hl hn a0 a1 a2 a3 a4 he hS0 hN0 hS1 hN1 hS2 hN2 hs

end Go.Proofs.YtbpjhdoldodlnaaDoor

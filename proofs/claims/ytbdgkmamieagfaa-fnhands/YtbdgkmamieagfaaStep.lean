/-
  A step, whole, of the model: PutStep and TakeStep.
-/
import Derived.Test.YtbdgkmamieagfaaStepN
namespace Go.Proofs.Ytbdgkmamieagfaa
set_option linter.unusedSimpArgs false
set_option linter.unusedVariables false
open Go.RowKit
set_option linter.unusedVariables false
attribute [local go_sem] OpUpon
attribute [local go_sem ↓] Go.wp_at_zero Go.wp_at_succ

def RetS (lo : Nat) (s : St) (w : World) (e : Ending) (w' : World) : Prop :=
  ∃ A n cap, e = .returned (stV s A n cap) ∧ RgsW lo w'.heap.size w' A n cap s.rs ∧ Below w.heap.size w w'
theorem l3Copy_rgs (s : St) (A : Option Addr) (n cap lo hi : Nat) (w : World) (hs : RgsW lo hi w A n cap s.rs) (hh : hi ≤ w.heap.size) (hn : Neat s) :
    Calls Try.prog 83 #[stV s A n cap] w (RetS w.heap.size s w) := by
  have hl := hs.1
  refine (l3Copy_any s A n cap lo hi w hs hh (by have := hn.1; omega) (by have := hn.2.1; omega) hn.cp).mono ?_
  rintro e w' ⟨b, c, rows, rfl, hR, hC, hb⟩
  exact ⟨_, _, _, rfl, hC.rgs hR hl, hb⟩
theorem hd_at {h : Hd} (hok : h.ok = true) : h.at_ ≤ 24 := by
  simp only [Hd.ok, Hd.okA, Bool.and_eq_true, inB, decide_eq_true_eq] at hok
  omega
def lateB (z : Int) : Bool := !decide (z < 13)

def ts4R (s : St) (N M0 n cap : Nat) (A : Option Addr) (at_ v r t : Int) (seen : Pl) (tr sp : Int) (ag : Bool) (re : Int) (j : Nat) (σ : Nat → Value) (w : World) : Prop :=
  match j with
  | 0 => σ 0 = .agg #[.int .i64 s.rd, .int .i64 s.mo, .slice A n cap, .int .i64 s.fi, .int .i64 s.la]
  | 1 => ∃ (A5 : Option Addr) (n5 c5 : Nat), σ 1 = .agg #[.int .i64 s.rd, .int .i64 s.mo, .slice A5 n5 c5, .int .i64 s.fi, .int .i64 s.la] ∧ RgsW M0 w.heap.size w A5 n5 c5 s.rs
  | 2 => σ 2 = .agg #[.int .i64 at_, .int .i64 v, .int .i64 r, .int .i64 t, .bool seen.s, .int .i64 seen.n, .bool seen.f, .int .i64 seen.v, .int .i64 tr, .int .i64 sp, .bool ag, .int .i64 re]
  | 3 => ∃ (A5 : Option Addr) (n5 c5 : Nat), BoxAt w (N + 1 + 1) #[.int .i64 s.rd, .int .i64 s.mo, .slice A5 n5 c5, .int .i64 s.fi, .int .i64 s.la] 75 ∧ RgsW M0 w.heap.size w A5 n5 c5 s.rs
  | 4 => BoxAt w (N + 1 + 1 + 1) #[.int .i64 at_, .int .i64 v, .int .i64 r, .int .i64 t, .bool seen.s, .int .i64 seen.n, .bool seen.f, .int .i64 seen.v, .int .i64 tr, .int .i64 sp, .bool ag, .int .i64 re] 41
  | 5 => σ 5 = .bool false
  | _ => True

def ts4S (j : Nat) : List Nat := [[0], [1], [2], [3], [4], [5]].getD j [j]
def ts4K (j : Nat) : Nat := [0, 0, 0, 1, 1, 0].getD j 0

def ts7R (s : St) (N M0 n cap : Nat) (A : Option Addr) (at_ v r t : Int) (seen : Pl) (tr sp : Int) (ag : Bool) (re : Int) (j : Nat) (σ : Nat → Value) (w : World) : Prop :=
  match j with
  | 0 => σ 0 = .agg #[.int .i64 s.rd, .int .i64 s.mo, .slice A n cap, .int .i64 s.fi, .int .i64 s.la]
  | 1 => ∃ (A5 : Option Addr) (n5 c5 : Nat), σ 1 = .agg #[.int .i64 s.rd, .int .i64 s.mo, .slice A5 n5 c5, .int .i64 s.fi, .int .i64 s.la] ∧ RgsW M0 w.heap.size w A5 n5 c5 s.rs
  | 2 => σ 2 = .agg #[.int .i64 at_, .int .i64 v, .int .i64 r, .int .i64 t, .bool seen.s, .int .i64 seen.n, .bool seen.f, .int .i64 seen.v, .int .i64 tr, .int .i64 sp, .bool ag, .int .i64 re]
  | 3 => ∃ (A5 : Option Addr) (n5 c5 : Nat), BoxAt w (N + 1 + 1) #[.int .i64 s.rd, .int .i64 s.mo, .slice A5 n5 c5, .int .i64 s.fi, .int .i64 s.la] 75 ∧ RgsW M0 w.heap.size w A5 n5 c5 s.rs
  | 4 => BoxAt w (N + 1 + 1 + 1) #[.int .i64 at_, .int .i64 v, .int .i64 r, .int .i64 t, .bool seen.s, .int .i64 seen.n, .bool seen.f, .int .i64 seen.v, .int .i64 tr, .int .i64 sp, .bool ag, .int .i64 re] 41
  | 5 => σ 5 = .bool false
  | _ => True

def ts7S (j : Nat) : List Nat := [[0], [1], [2], [3], [4], [5]].getD j [j]
def ts7K (j : Nat) : Nat := [0, 0, 0, 1, 1, 0].getD j 0

def ts5R (s : St) (N M0 n cap : Nat) (A : Option Addr) (at_ v r t : Int) (seen : Pl) (tr sp : Int) (ag : Bool) (re : Int) (q : St × Hd × Bool) (j : Nat) (σ : Nat → Value) (w : World) : Prop :=
  match j with
  | 0 => σ 0 = .agg #[.int .i64 s.rd, .int .i64 s.mo, .slice A n cap, .int .i64 s.fi, .int .i64 s.la]
  | 1 => ∃ (A1 : Option Addr) (n1 c1 : Nat), σ 1 = .agg #[.int .i64 s.rd, .int .i64 s.mo, .slice A1 n1 c1, .int .i64 s.fi, .int .i64 s.la] ∧ RgsW M0 w.heap.size w A1 n1 c1 s.rs
  | 2 => σ 2 = .agg #[.int .i64 at_, .int .i64 v, .int .i64 r, .int .i64 t, .bool seen.s, .int .i64 seen.n, .bool seen.f, .int .i64 seen.v, .int .i64 tr, .int .i64 sp, .bool ag, .int .i64 re]
  | 3 => ∃ (A5 : Option Addr) (n5 c5 : Nat), σ 3 = .tuple #[.agg #[.int .i64 q.1.rd, .int .i64 q.1.mo, .slice A5 n5 c5, .int .i64 q.1.fi, .int .i64 q.1.la], .agg #[.int .i64 q.2.1.at_, .int .i64 q.2.1.v, .int .i64 q.2.1.r, .int .i64 q.2.1.t, .bool q.2.1.seen.s, .int .i64 q.2.1.seen.n, .bool q.2.1.seen.f, .int .i64 q.2.1.seen.v, .int .i64 q.2.1.tr, .int .i64 q.2.1.sp, .bool q.2.1.ag, .int .i64 q.2.1.re], .bool q.2.2] ∧ RgsW M0 w.heap.size w A5 n5 c5 q.1.rs
  | 4 => ∃ (A5 : Option Addr) (n5 c5 : Nat), σ 4 = .tuple #[.agg #[.int .i64 q.1.rd, .int .i64 q.1.mo, .slice A5 n5 c5, .int .i64 q.1.fi, .int .i64 q.1.la], .agg #[.int .i64 q.2.1.at_, .int .i64 q.2.1.v, .int .i64 q.2.1.r, .int .i64 q.2.1.t, .bool q.2.1.seen.s, .int .i64 q.2.1.seen.n, .bool q.2.1.seen.f, .int .i64 q.2.1.seen.v, .int .i64 q.2.1.tr, .int .i64 q.2.1.sp, .bool q.2.1.ag, .int .i64 q.2.1.re], .bool q.2.2] ∧ RgsW M0 w.heap.size w A5 n5 c5 q.1.rs
  | 5 => ∃ (A5 : Option Addr) (n5 c5 : Nat), σ 5 = .agg #[.int .i64 q.1.rd, .int .i64 q.1.mo, .slice A5 n5 c5, .int .i64 q.1.fi, .int .i64 q.1.la] ∧ RgsW M0 w.heap.size w A5 n5 c5 q.1.rs
  | 6 => σ 6 = .agg #[.int .i64 q.2.1.at_, .int .i64 q.2.1.v, .int .i64 q.2.1.r, .int .i64 q.2.1.t, .bool q.2.1.seen.s, .int .i64 q.2.1.seen.n, .bool q.2.1.seen.f, .int .i64 q.2.1.seen.v, .int .i64 q.2.1.tr, .int .i64 q.2.1.sp, .bool q.2.1.ag, .int .i64 q.2.1.re]
  | 7 => σ 7 = .bool q.2.2
  | 8 => ∃ g8, σ 8 = .pointer (some ⟨g8, 0, none⟩) ∧ M0 ≤ g8 ∧ ∃ x0 x1 x2 x3 x4, BoxAt w g8 #[x0, x1, x2, x3, x4] 75
  | 9 => ∃ g9, σ 9 = .pointer (some ⟨g9, 0, none⟩) ∧ M0 ≤ g9 ∧ ∃ x0 x1 x2 x3 x4 x5 x6 x7 x8 x9 x10 x11, BoxAt w g9 #[x0, x1, x2, x3, x4, x5, x6, x7, x8, x9, x10, x11] 41
  | 10 => ∃ (g8 : Nat) (A5 : Option Addr) (n5 c5 : Nat), σ 8 = .pointer (some ⟨g8, 0, none⟩) ∧ M0 ≤ g8 ∧ BoxAt w g8 #[.int .i64 q.1.rd, .int .i64 q.1.mo, .slice A5 n5 c5, .int .i64 q.1.fi, .int .i64 q.1.la] 75 ∧ RgsW M0 w.heap.size w A5 n5 c5 q.1.rs
  | 11 => ∃ g9, σ 9 = .pointer (some ⟨g9, 0, none⟩) ∧ M0 ≤ g9 ∧ BoxAt w g9 #[.int .i64 q.2.1.at_, .int .i64 q.2.1.v, .int .i64 q.2.1.r, .int .i64 q.2.1.t, .bool q.2.1.seen.s, .int .i64 q.2.1.seen.n, .bool q.2.1.seen.f, .int .i64 q.2.1.seen.v, .int .i64 q.2.1.tr, .int .i64 q.2.1.sp, .bool q.2.1.ag, .int .i64 q.2.1.re] 41
  | 12 => σ 12 = .bool q.2.2
  | _ => True

def ts5S (j : Nat) : List Nat := [[0], [1], [2], [3], [4], [5], [6], [7], [8], [9], [8], [9], [12]].getD j [j]
def ts5K (j : Nat) : Nat := [0, 0, 0, 0, 0, 0, 0, 0, 2, 2, 1, 1, 0].getD j 0

def ts8R (s2 : St) (N X Y n2 c2 : Nat) (A2 : Option Addr) (h2 : Hd) (j : Nat) (σ : Nat → Value) (w : World) : Prop :=
  match j with
  | 0 => σ 0 = .agg #[.int .i64 s2.rd, .int .i64 s2.mo, .slice A2 n2 c2, .int .i64 s2.fi, .int .i64 s2.la]
  | 1 => σ 1 = .agg #[.int .i64 h2.at_, .int .i64 h2.v, .int .i64 h2.r, .int .i64 h2.t, .bool h2.seen.s, .int .i64 h2.seen.n, .bool h2.seen.f, .int .i64 h2.seen.v, .int .i64 h2.tr, .int .i64 h2.sp, .bool h2.ag, .int .i64 h2.re]
  | 2 => BoxAt w (N + 1 + 1) #[.int .i64 s2.rd, .int .i64 s2.mo, .slice A2 n2 c2, .int .i64 s2.fi, .int .i64 s2.la] 75
  | 3 => BoxAt w (N + 1 + 1 + 1) #[.int .i64 h2.at_, .int .i64 h2.v, .int .i64 h2.r, .int .i64 h2.t, .bool h2.seen.s, .int .i64 h2.seen.n, .bool h2.seen.f, .int .i64 h2.seen.v, .int .i64 h2.tr, .int .i64 h2.sp, .bool h2.ag, .int .i64 h2.re] 41
  | 4 => σ 4 = .bool true
  | _ => True

def ts8S (j : Nat) : List Nat := [[0], [1], [2], [3], [4]].getD j [j]
def ts8K (j : Nat) : Nat := [0, 0, 1, 1, 0].getD j 0

set_option maxRecDepth 100000 in
set_option maxHeartbeats 4000000 in
theorem stakeStep_any (s : St) (A : Option Addr) (n cap lo hi : Nat) (h : Hd) (w : World) (hs : RgsW lo hi w A n cap s.rs) (hh : hi ≤ w.heap.size) (hm : n ≤ 1048576) (hpn : ∀ r ∈ s.rs, r.ps.length ≤ 1048576) :
    Calls Try.prog 90 #[stV s A n cap, hdV h] w (RetSHB w.heap.size (stepS takeS lateB s h) w) := by
  have HPN := Lib.hid hpn; clear hpn
  have HLN := Lib.hid hs.1
  obtain ⟨at_, v, r, t, seen, tr, sp, ag, re⟩ := h
  unfold stV hdV
  dsimp only
  go_enter Try.func90, Try.ntmps90
  go_upto_region 1 with fail
  refine wp_abs (fun W => Below w.heap.size w W ∧ BoxAt W w.heap.size #[.int .i64 s.rd, .int .i64 s.mo, .slice A n cap, .int .i64 s.fi, .int .i64 s.la] 75 ∧ BoxAt W (w.heap.size + 1) #[.int .i64 at_, .int .i64 v, .int .i64 r, .int .i64 t, .bool seen.s, .int .i64 seen.n, .bool seen.f, .int .i64 seen.v, .int .i64 tr, .int .i64 sp, .bool ag, .int .i64 re] 41 ∧ BoxAt W (w.heap.size + 1 + 1) #[.int .i64 0, .int .i64 0, .slice none 0 0, .int .i64 0, .int .i64 0] 75 ∧ BoxAt W (w.heap.size + 1 + 1 + 1) #[.int .i64 0, .int .i64 0, .int .i64 0, .int .i64 0, .bool false, .int .i64 0, .bool false, .int .i64 0, .int .i64 0, .int .i64 0, .bool false, .int .i64 0] 41) ⟨(((((Below.refl _ _).alloc (Nat.le_refl _) _).alloc (by simp) _).alloc (by simp; omega) _).alloc (by simp; omega) _), (((BoxAt.new _ _ _).alloc _).alloc _).alloc _, ((BoxAt.new' (by simp)).alloc _).alloc _, (BoxAt.new' (by simp)).alloc _, BoxAt.new' (by simp)⟩ ?_
  rintro W0 ⟨hB, hx, hy, hz, hw_⟩
  have lw0 := hw_.lt
  have hs0 := hs.below hB hh
  have kx := hx.cell
  have ky := hy.cell
  have fy := hy.frozen
  go_wp2_with fail
  clear kx ky fy
  refine (sstoreOk_any s A n cap lo hi _ hs0 (Nat.le_trans hh hB.size) hm HPN.out).mono ?_
  rintro e w1 ⟨rfl, hb⟩
  replace hx := hx.below hb hx.lt
  replace hy := hy.below hb hy.lt
  replace hz := hz.below hb hz.lt
  replace hw_ := hw_.below hb hw_.lt
  replace hB := bstep hB hB.size hb
  have h1 := hb.size
  clear hb
  clear hs0
  cases hok : stOk s
  · have HV := Lib.hid (show stepS takeS lateB s (⟨at_, v, r, t, seen, tr, sp, ag, re⟩ : Hd) = (St.zero, Hd.zero, false) by simp [stepS, hok])
    have kz := hz.cell
    have fz := hz.frozen
    have kw := hw_.cell
    have fw := hw_.frozen
    go_wp2
    refine bodyPost_ret (v := .tuple #[stV .zero none 0 0, hdV .zero, .bool false]) (by simp [results, Try.results90, go_sem, kz, kw, stV, St.zero, hdV, Hd.zero]) rfl ⟨none, 0, 0, by rw [HV.out], ?_, ?_⟩
    · rw [HV.out]; exact RgsW.nil
    · exact Below.setCells (by omega) [.int .i64 0, .int .i64 0, .int .i64 0, .int .i64 0, .bool false, .int .i64 0, .bool false, .int .i64 0, .int .i64 0, .int .i64 0, .bool false, .int .i64 0] 0 (Below.setCells (by omega) [.int .i64 0, .int .i64 0, .slice none 0 0, .int .i64 0, .int .i64 0] 0 hB)
  have HOK := Lib.hid hok
  have HNT := Lib.hid (stOk_neat hok)
  clear hok
  have ky := hy.cell
  go_wp2_with fail
  clear ky
  refine (shandOk_any (⟨at_, v, r, t, seen, tr, sp, ag, re⟩ : Hd) _).mono ?_
  rintro e w2 ⟨rfl, hb⟩
  replace hx := hx.below hb hx.lt
  replace hy := hy.below hb hy.lt
  replace hz := hz.below hb hz.lt
  replace hw_ := hw_.below hb hw_.lt
  replace hB := bstep hB hB.size hb
  have h2 := hb.size
  clear hb
  cases hho : (⟨at_, v, r, t, seen, tr, sp, ag, re⟩ : Hd).ok
  · have HV := Lib.hid (show stepS takeS lateB s (⟨at_, v, r, t, seen, tr, sp, ag, re⟩ : Hd) = (St.zero, Hd.zero, false) by simp [stepS, HOK.out, hho])
    have kz := hz.cell
    have fz := hz.frozen
    have kw := hw_.cell
    have fw := hw_.frozen
    go_wp2
    refine bodyPost_ret (v := .tuple #[stV .zero none 0 0, hdV .zero, .bool false]) (by simp [results, Try.results90, go_sem, kz, kw, stV, St.zero, hdV, Hd.zero]) rfl ⟨none, 0, 0, by rw [HV.out], ?_, ?_⟩
    · rw [HV.out]; exact RgsW.nil
    · exact Below.setCells (by omega) [.int .i64 0, .int .i64 0, .int .i64 0, .int .i64 0, .bool false, .int .i64 0, .bool false, .int .i64 0, .int .i64 0, .int .i64 0, .bool false, .int .i64 0] 0 (Below.setCells (by omega) [.int .i64 0, .int .i64 0, .slice none 0 0, .int .i64 0, .int .i64 0] 0 hB)
  have HHO := Lib.hid hho
  clear hho
  have HCPY := Lib.hid (show ∀ W : World, Below w.heap.size w W → Calls Try.prog 83 #[stV s A n cap] W (RetS W.heap.size s W) from fun W hBW => l3Copy_rgs s A n cap lo hi W (hs.below hBW hh) (Nat.le_trans hh hBW.size) HNT.out)
  unfold stV at HCPY
  have kx := hx.cell
  have ky := hy.cell
  by_cases h13 : at_ < 13
  · have HV := Lib.hid (show stepS takeS lateB s (⟨at_, v, r, t, seen, tr, sp, ag, re⟩ : Hd) = (s, (⟨at_, v, r, t, seen, tr, sp, ag, re⟩ : Hd), false) by simp [stepS, HOK.out, HHO.out, lateB, h13])
    go_upto_region 4 with fail
    obtain ⟨M0, hMe⟩ : ∃ M0, M0 = w2.heap.size := ⟨_, rfl⟩
    have hM0 : M0 ≤ w2.heap.size := by omega
    have hM4 : w.heap.size + 4 ≤ M0 := by have := hw_.lt; omega
    clear hMe kx ky
    refine wp_region2 (fun w w' => Below w.heap.size w w') (fun _ _ h => h.size) (fun L W' => Below w.heap.size w W' ∧ BoxAt W' w.heap.size #[.int .i64 s.rd, .int .i64 s.mo, .slice A n cap, .int .i64 s.fi, .int .i64 s.la] 75 ∧ BoxAt W' (w.heap.size + 1) #[.int .i64 at_, .int .i64 v, .int .i64 r, .int .i64 t, .bool seen.s, .int .i64 seen.n, .bool seen.f, .int .i64 seen.v, .int .i64 tr, .int .i64 sp, .bool ag, .int .i64 re] 41 ∧ M0 ≤ W'.heap.size ∧ (∃ x0 x1 x2 x3 x4, BoxAt W' (w.heap.size + 1 + 1) #[x0, x1, x2, x3, x4] 75) ∧ (L 3 = false → BoxAt W' (w.heap.size + 1 + 1) #[.int .i64 0, .int .i64 0, .slice none 0 0, .int .i64 0, .int .i64 0] 75) ∧ (∃ x0 x1 x2 x3 x4 x5 x6 x7 x8 x9 x10 x11, BoxAt W' (w.heap.size + 1 + 1 + 1) #[x0, x1, x2, x3, x4, x5, x6, x7, x8, x9, x10, x11] 41) ∧ (L 4 = false → BoxAt W' (w.heap.size + 1 + 1 + 1) #[.int .i64 0, .int .i64 0, .int .i64 0, .int .i64 0, .bool false, .int .i64 0, .bool false, .int .i64 0, .int .i64 0, .int .i64 0, .bool false, .int .i64 0] 41)) (ts4R s w.heap.size M0 n cap A at_ v r t seen tr sp ag re) ts4K ts4S (by kernel_rfl) (by kernel_rfl) ?_ ?_ ?_
      (.grow rfl ?_ <| .grow rfl ?_ <| .grow rfl ?_ <| .store rfl ?_ <| .store rfl ?_ <| .grow rfl ?_ <| .nil) ?_
    · intro j σ τ w h hR
      match j, h, hR with
      | 0, h, hR => exact (h 0 (List.mem_singleton.2 rfl)).symm.trans hR
      | 1, h, hR => obtain ⟨A5, n5, c5, e, hp⟩ := hR; exact ⟨A5, n5, c5, (h 1 (List.mem_singleton.2 rfl)).symm.trans e, hp⟩
      | 2, h, hR => exact (h 2 (List.mem_singleton.2 rfl)).symm.trans hR
      | 3, _, hR => exact hR
      | 4, _, hR => exact hR
      | 5, h, hR => exact (h 5 (List.mem_singleton.2 rfl)).symm.trans hR
      | _ + 6, _, _ => exact trivial
    · intro j σ w w' hb hR
      match j, hR with
      | 0, hR => exact hR
      | 1, hR => obtain ⟨A5, n5, c5, e, hp⟩ := hR; exact ⟨A5, n5, c5, e, (hp.below hb (Nat.le_refl _)).mono (Nat.le_refl _) hb.size⟩
      | 2, hR => exact hR
      | 3, hR => obtain ⟨A5, n5, c5, hx, hp⟩ := hR; exact ⟨A5, n5, c5, hx.below hb hx.lt, (hp.below hb (Nat.le_refl _)).mono (Nat.le_refl _) hb.size⟩
      | 4, hR => exact hR.below hb hR.lt
      | 5, hR => exact hR
      | _ + 6, _ => exact trivial
    · exact ⟨hB.drew, hx, hy, hM0, ⟨_, _, _, _, _, hz⟩, fun _ => hz, ⟨_, _, _, _, _, _, _, _, _, _, _, _, hw_⟩, fun _ => hw_⟩
    · -- 0: Op.load 75 t2
      go_light
      intro L σ W' hcl hL hC hw
      clear hw
      have HC := Lib.hid hC
      obtain ⟨hB, hx, hy, hM0, ⟨hz_x0, hz_x1, hz_x2, hz_x3, hz_x4, hz⟩, hz_o, ⟨hw__x0, hw__x1, hw__x2, hw__x3, hw__x4, hw__x5, hw__x6, hw__x7, hw__x8, hw__x9, hw__x10, hw__x11, hw_⟩, hw__o⟩ := hC
      have ks := hx.cell
      clear hcl hL
      clear hB hx hy hM0 hz hz_o hw_ hw__o
      refine OpGoes.step fun K hK => ?_
      unfold OpGoes
      go_simp
      obtain ⟨hB, hx, hy, hM0, ⟨hz_x0, hz_x1, hz_x2, hz_x3, hz_x4, hz⟩, hz_o, ⟨hw__x0, hw__x1, hw__x2, hw__x3, hw__x4, hw__x5, hw__x6, hw__x7, hw__x8, hw__x9, hw__x10, hw__x11, hw_⟩, hw__o⟩ := HC.out
      exact hK _ _ ⟨⟨hB, hx, hy, hM0, ⟨_, _, _, _, _, hz⟩, fun h => hz_o (by simpa [upd] using h), ⟨_, _, _, _, _, _, _, _, _, _, _, _, hw_⟩, fun h => hw__o (by simpa [upd] using h)⟩, rfl, Below.refl _ _⟩
    · -- 1: Op.call { value (Operand.func 83), args := #[t30], argTypes := #[75] }
      go_light
      intro L σ W' hcl hL hC hw
      have e0 : σ 0 = .agg #[.int .i64 s.rd, .int .i64 s.mo, .slice A n cap, .int .i64 s.fi, .int .i64 s.la] := hw 0 (by kernel_rfl)
      clear hw
      have HC := Lib.hid hC
      clear hC
      clear hcl hL
      refine OpGoes.step fun K hK => ?_
      unfold OpGoes
      go_simp
      obtain ⟨hB, hx, hy, hM0, ⟨hz_x0, hz_x1, hz_x2, hz_x3, hz_x4, hz⟩, hz_o, ⟨hw__x0, hw__x1, hw__x2, hw__x3, hw__x4, hw__x5, hw__x6, hw__x7, hw__x8, hw__x9, hw__x10, hw__x11, hw_⟩, hw__o⟩ := HC.out
      refine (HCPY.out _ hB).mono ?_
      rintro e w1 ⟨A5, n5, c5, rfl, hG5, hb1⟩
      exact ⟨_, rfl, hK _ _ ⟨⟨bstep hB hB.size hb1, hx.below hb1 hx.lt, hy.below hb1 hy.lt, Nat.le_trans hM0 hb1.size, ⟨_, _, _, _, _, hz.below hb1 hz.lt⟩, fun h => (hz_o (by simpa [upd] using h)).below hb1 (hz_o (by simpa [upd] using h)).lt, ⟨_, _, _, _, _, _, _, _, _, _, _, _, hw_.below hb1 hw_.lt⟩, fun h => (hw__o (by simpa [upd] using h)).below hb1 (hw__o (by simpa [upd] using h)).lt⟩, ⟨A5, n5, c5, rfl, hG5.mono hM0 (Nat.le_refl _)⟩, hb1⟩⟩
    · -- 2: Op.load 41 t3
      go_light
      intro L σ W' hcl hL hC hw
      clear hw
      have HC := Lib.hid hC
      obtain ⟨hB, hx, hy, hM0, ⟨hz_x0, hz_x1, hz_x2, hz_x3, hz_x4, hz⟩, hz_o, ⟨hw__x0, hw__x1, hw__x2, hw__x3, hw__x4, hw__x5, hw__x6, hw__x7, hw__x8, hw__x9, hw__x10, hw__x11, hw_⟩, hw__o⟩ := hC
      have kh := hy.cell
      clear hcl hL
      clear hB hx hy hM0 hz hz_o hw_ hw__o
      refine OpGoes.step fun K hK => ?_
      unfold OpGoes
      go_simp
      obtain ⟨hB, hx, hy, hM0, ⟨hz_x0, hz_x1, hz_x2, hz_x3, hz_x4, hz⟩, hz_o, ⟨hw__x0, hw__x1, hw__x2, hw__x3, hw__x4, hw__x5, hw__x6, hw__x7, hw__x8, hw__x9, hw__x10, hw__x11, hw_⟩, hw__o⟩ := HC.out
      exact hK _ _ ⟨⟨hB, hx, hy, hM0, ⟨_, _, _, _, _, hz⟩, fun h => hz_o (by simpa [upd] using h), ⟨_, _, _, _, _, _, _, _, _, _, _, _, hw_⟩, fun h => hw__o (by simpa [upd] using h)⟩, rfl, Below.refl _ _⟩
    · -- 3: Op.store 75 t4 t31
      go_light
      intro L σ W' hcl hL hC hw hne
      obtain ⟨A5, n5, c5, e1, hp1⟩ : ∃ (A5 : Option Addr) (n5 c5 : Nat), σ 1 = .agg #[.int .i64 s.rd, .int .i64 s.mo, .slice A5 n5 c5, .int .i64 s.fi, .int .i64 s.la] ∧ RgsW M0 W'.heap.size W' A5 n5 c5 s.rs := hw 1 (by kernel_rfl)
      clear hw hne
      have HC := Lib.hid hC
      obtain ⟨hB, hx, hy, hM0, ⟨hz_x0, hz_x1, hz_x2, hz_x3, hz_x4, hz⟩, hz_o, ⟨hw__x0, hw__x1, hw__x2, hw__x3, hw__x4, hw__x5, hw__x6, hw__x7, hw__x8, hw__x9, hw__x10, hw__x11, hw_⟩, hw__o⟩ := hC
      clear hcl hL
      have kc_ := hz.cell
      have kf_ := hz.frozen
      clear hB hx hy hM0 hz hz_o hw_ hw__o
      refine OpGoes.step fun K hK => ?_
      unfold OpGoes
      go_simp
      obtain ⟨hB, hx, hy, hM0, ⟨hz_x0, hz_x1, hz_x2, hz_x3, hz_x4, hz⟩, hz_o, ⟨hw__x0, hw__x1, hw__x2, hw__x3, hw__x4, hw__x5, hw__x6, hw__x7, hw__x8, hw__x9, hw__x10, hw__x11, hw_⟩, hw__o⟩ := HC.out
      have hset := sets_all (us := [.int .i64 s.rd, .int .i64 s.mo, .slice A5 n5 c5, .int .i64 s.fi, .int .i64 s.la]) hz rfl
      refine hK undef (setCells W' (w.heap.size + 1 + 1) 0 [.int .i64 s.rd, .int .i64 s.mo, .slice A5 n5 c5, .int .i64 s.fi, .int .i64 s.la]) ⟨⟨(Below.setCells (by omega) [.int .i64 s.rd, .int .i64 s.mo, .slice A5 n5 c5, .int .i64 s.fi, .int .i64 s.la] 0 hB), (BoxAt.sets_ne [.int .i64 s.rd, .int .i64 s.mo, .slice A5 n5 c5, .int .i64 s.fi, .int .i64 s.la] 0 hx (by omega)), (BoxAt.sets_ne [.int .i64 s.rd, .int .i64 s.mo, .slice A5 n5 c5, .int .i64 s.fi, .int .i64 s.la] 0 hy (by omega)), (size_sts hM0 [.int .i64 s.rd, .int .i64 s.mo, .slice A5 n5 c5, .int .i64 s.fi, .int .i64 s.la] 0), ⟨_, _, _, _, _, hset⟩, fun h => absurd h (by simp [upd]), ⟨_, _, _, _, _, _, _, _, _, _, _, _, (BoxAt.sets_ne [.int .i64 s.rd, .int .i64 s.mo, .slice A5 n5 c5, .int .i64 s.fi, .int .i64 s.la] 0 hw_ (by omega))⟩, fun h => (BoxAt.sets_ne [.int .i64 s.rd, .int .i64 s.mo, .slice A5 n5 c5, .int .i64 s.fi, .int .i64 s.la] 0 (hw__o (by simpa [upd] using h)) (by omega))⟩, ⟨A5, n5, c5, hset, ((RgsW.setsT hp1 hz (by decide) (by decide) [.int .i64 s.rd, .int .i64 s.mo, .slice A5 n5 c5, .int .i64 s.fi, .int .i64 s.la] 0).mono (Nat.le_refl _) (Nat.le_of_eq (sets_size _ _ _).symm))⟩, Nat.le_of_eq (sets_size _ _ _).symm, fun j hj hn hR => ?_⟩
      match j, hj, hn, hR with
      | 0, _, _, hR => exact (show σ 0 = .agg #[.int .i64 s.rd, .int .i64 s.mo, .slice A n cap, .int .i64 s.fi, .int .i64 s.la] from hR)
      | 1, _, _, hR => obtain ⟨A5_x, n5_x, c5_x, e, hp⟩ := hR; exact ⟨A5_x, n5_x, c5_x, e, ((RgsW.setsT hp hz (by decide) (by decide) [.int .i64 s.rd, .int .i64 s.mo, .slice A5 n5 c5, .int .i64 s.fi, .int .i64 s.la] 0).mono (Nat.le_refl _) (Nat.le_of_eq (sets_size _ _ _).symm))⟩
      | 2, _, _, hR => exact (show σ 2 = .agg #[.int .i64 at_, .int .i64 v, .int .i64 r, .int .i64 t, .bool seen.s, .int .i64 seen.n, .bool seen.f, .int .i64 seen.v, .int .i64 tr, .int .i64 sp, .bool ag, .int .i64 re] from hR)
      | 3, hj, _, _ => exact absurd rfl hj
      | 4, _, _, hR => exact (BoxAt.sets_ne [.int .i64 s.rd, .int .i64 s.mo, .slice A5 n5 c5, .int .i64 s.fi, .int .i64 s.la] 0 hR (by omega))
      | 5, _, _, hR => exact (show σ 5 = .bool false from hR)
      | _ + 6, _, _, _ => exact trivial
    · -- 4: Op.store 41 t5 t32
      go_light
      intro L σ W' hcl hL hC hw hne
      have e2 : σ 2 = .agg #[.int .i64 at_, .int .i64 v, .int .i64 r, .int .i64 t, .bool seen.s, .int .i64 seen.n, .bool seen.f, .int .i64 seen.v, .int .i64 tr, .int .i64 sp, .bool ag, .int .i64 re] := hw 2 (by kernel_rfl)
      clear hw hne
      have HC := Lib.hid hC
      obtain ⟨hB, hx, hy, hM0, ⟨hz_x0, hz_x1, hz_x2, hz_x3, hz_x4, hz⟩, hz_o, ⟨hw__x0, hw__x1, hw__x2, hw__x3, hw__x4, hw__x5, hw__x6, hw__x7, hw__x8, hw__x9, hw__x10, hw__x11, hw_⟩, hw__o⟩ := hC
      clear hcl hL
      have kc_ := hw_.cell
      have kf_ := hw_.frozen
      clear hB hx hy hM0 hz hz_o hw_ hw__o
      refine OpGoes.step fun K hK => ?_
      unfold OpGoes
      go_simp
      obtain ⟨hB, hx, hy, hM0, ⟨hz_x0, hz_x1, hz_x2, hz_x3, hz_x4, hz⟩, hz_o, ⟨hw__x0, hw__x1, hw__x2, hw__x3, hw__x4, hw__x5, hw__x6, hw__x7, hw__x8, hw__x9, hw__x10, hw__x11, hw_⟩, hw__o⟩ := HC.out
      have hset := sets_all (us := [.int .i64 at_, .int .i64 v, .int .i64 r, .int .i64 t, .bool seen.s, .int .i64 seen.n, .bool seen.f, .int .i64 seen.v, .int .i64 tr, .int .i64 sp, .bool ag, .int .i64 re]) hw_ rfl
      refine hK undef (setCells W' (w.heap.size + 1 + 1 + 1) 0 [.int .i64 at_, .int .i64 v, .int .i64 r, .int .i64 t, .bool seen.s, .int .i64 seen.n, .bool seen.f, .int .i64 seen.v, .int .i64 tr, .int .i64 sp, .bool ag, .int .i64 re]) ⟨⟨(Below.setCells (by omega) [.int .i64 at_, .int .i64 v, .int .i64 r, .int .i64 t, .bool seen.s, .int .i64 seen.n, .bool seen.f, .int .i64 seen.v, .int .i64 tr, .int .i64 sp, .bool ag, .int .i64 re] 0 hB), (BoxAt.sets_ne [.int .i64 at_, .int .i64 v, .int .i64 r, .int .i64 t, .bool seen.s, .int .i64 seen.n, .bool seen.f, .int .i64 seen.v, .int .i64 tr, .int .i64 sp, .bool ag, .int .i64 re] 0 hx (by omega)), (BoxAt.sets_ne [.int .i64 at_, .int .i64 v, .int .i64 r, .int .i64 t, .bool seen.s, .int .i64 seen.n, .bool seen.f, .int .i64 seen.v, .int .i64 tr, .int .i64 sp, .bool ag, .int .i64 re] 0 hy (by omega)), (size_sts hM0 [.int .i64 at_, .int .i64 v, .int .i64 r, .int .i64 t, .bool seen.s, .int .i64 seen.n, .bool seen.f, .int .i64 seen.v, .int .i64 tr, .int .i64 sp, .bool ag, .int .i64 re] 0), ⟨_, _, _, _, _, (BoxAt.sets_ne [.int .i64 at_, .int .i64 v, .int .i64 r, .int .i64 t, .bool seen.s, .int .i64 seen.n, .bool seen.f, .int .i64 seen.v, .int .i64 tr, .int .i64 sp, .bool ag, .int .i64 re] 0 hz (by omega))⟩, fun h => (BoxAt.sets_ne [.int .i64 at_, .int .i64 v, .int .i64 r, .int .i64 t, .bool seen.s, .int .i64 seen.n, .bool seen.f, .int .i64 seen.v, .int .i64 tr, .int .i64 sp, .bool ag, .int .i64 re] 0 (hz_o (by simpa [upd] using h)) (by omega)), ⟨_, _, _, _, _, _, _, _, _, _, _, _, hset⟩, fun h => absurd h (by simp [upd])⟩, hset, Nat.le_of_eq (sets_size _ _ _).symm, fun j hj hn hR => ?_⟩
      match j, hj, hn, hR with
      | 0, _, _, hR => exact (show σ 0 = .agg #[.int .i64 s.rd, .int .i64 s.mo, .slice A n cap, .int .i64 s.fi, .int .i64 s.la] from hR)
      | 1, _, _, hR => obtain ⟨A5_x, n5_x, c5_x, e, hp⟩ := hR; exact ⟨A5_x, n5_x, c5_x, e, ((RgsW.setsT hp hw_ (by decide) (by decide) [.int .i64 at_, .int .i64 v, .int .i64 r, .int .i64 t, .bool seen.s, .int .i64 seen.n, .bool seen.f, .int .i64 seen.v, .int .i64 tr, .int .i64 sp, .bool ag, .int .i64 re] 0).mono (Nat.le_refl _) (Nat.le_of_eq (sets_size _ _ _).symm))⟩
      | 2, _, _, hR => exact (show σ 2 = .agg #[.int .i64 at_, .int .i64 v, .int .i64 r, .int .i64 t, .bool seen.s, .int .i64 seen.n, .bool seen.f, .int .i64 seen.v, .int .i64 tr, .int .i64 sp, .bool ag, .int .i64 re] from hR)
      | 3, _, _, hR => obtain ⟨A5, n5, c5, hx, hp⟩ := hR; exact ⟨A5, n5, c5, (BoxAt.sets_ne [.int .i64 at_, .int .i64 v, .int .i64 r, .int .i64 t, .bool seen.s, .int .i64 seen.n, .bool seen.f, .int .i64 seen.v, .int .i64 tr, .int .i64 sp, .bool ag, .int .i64 re] 0 hx (by omega)), ((RgsW.setsT hp hw_ (by decide) (by decide) [.int .i64 at_, .int .i64 v, .int .i64 r, .int .i64 t, .bool seen.s, .int .i64 seen.n, .bool seen.f, .int .i64 seen.v, .int .i64 tr, .int .i64 sp, .bool ag, .int .i64 re] 0).mono (Nat.le_refl _) (Nat.le_of_eq (sets_size _ _ _).symm))⟩
      | 4, hj, _, _ => exact absurd rfl hj
      | 5, _, _, hR => exact (show σ 5 = .bool false from hR)
      | _ + 6, _, _, _ => exact trivial
    · -- 5: Op.assign (const (Value.bool false))
      go_light
      intro L σ W' hcl hL hC hw
      clear hw
      have HC := Lib.hid hC
      clear hC
      clear hcl hL
      refine OpGoes.step fun K hK => ?_
      unfold OpGoes
      go_simp
      obtain ⟨hB, hx, hy, hM0, ⟨hz_x0, hz_x1, hz_x2, hz_x3, hz_x4, hz⟩, hz_o, ⟨hw__x0, hw__x1, hw__x2, hw__x3, hw__x4, hw__x5, hw__x6, hw__x7, hw__x8, hw__x9, hw__x10, hw__x11, hw_⟩, hw__o⟩ := HC.out
      exact hK _ _ ⟨⟨hB, hx, hy, hM0, ⟨_, _, _, _, _, hz⟩, fun h => hz_o (by simpa [upd] using h), ⟨_, _, _, _, _, _, _, _, _, _, _, _, hw_⟩, fun h => hw__o (by simpa [upd] using h)⟩, rfl, Below.refl _ _⟩
    · intro σ L W' hall hC hR
      obtain ⟨hB, hx, hy, hM0, ⟨hz_x0, hz_x1, hz_x2, hz_x3, hz_x4, hz⟩, hz_o, ⟨hw__x0, hw__x1, hw__x2, hw__x3, hw__x4, hw__x5, hw__x6, hw__x7, hw__x8, hw__x9, hw__x10, hw__x11, hw_⟩, hw__o⟩ := hC
      obtain ⟨A5, n5, c5, s3, hp3⟩ : ∃ (A5 : Option Addr) (n5 c5 : Nat), BoxAt W' (w.heap.size + 1 + 1) #[.int .i64 s.rd, .int .i64 s.mo, .slice A5 n5 c5, .int .i64 s.fi, .int .i64 s.la] 75 ∧ RgsW M0 W'.heap.size W' A5 n5 c5 s.rs := hR 3 (by decide)
      have s4 : BoxAt W' (w.heap.size + 1 + 1 + 1) #[.int .i64 at_, .int .i64 v, .int .i64 r, .int .i64 t, .bool seen.s, .int .i64 seen.n, .bool seen.f, .int .i64 seen.v, .int .i64 tr, .int .i64 sp, .bool ag, .int .i64 re] 41 := hR 4 (by decide)
      have e5 : σ 5 = .bool false := hR 5 (by decide)
      clear hR
      simp only [lexAll]
      go_simp
      go_step
      have k7 := s3.cell
      have k8 := s4.cell
      go_wp2
      refine bodyPost_ret (v := .tuple #[stV s A5 n5 c5, hdV (⟨at_, v, r, t, seen, tr, sp, ag, re⟩ : Hd), .bool false]) (by simp [results, Try.results90, go_sem, k7, k8, stV, hdV]) rfl ⟨A5, n5, c5, by rw [HV.out], ?_, hB⟩
      rw [HV.out]
      exact hp3.mono (by omega) (Nat.le_refl _)
  go_wp2_with fail
  clear kx ky
  refine (l4Ring_any s A n cap r _ HLN.out hm).mono ?_
  rintro e w3 ⟨rfl, hb⟩
  replace hx := hx.below hb hx.lt
  replace hy := hy.below hb hy.lt
  replace hz := hz.below hb hz.lt
  replace hw_ := hw_.below hb hw_.lt
  replace hB := bstep hB hB.size hb
  have h3 := hb.size
  clear hb
  cases hrb : ringB s r
  · have HV := Lib.hid (show stepS takeS lateB s (⟨at_, v, r, t, seen, tr, sp, ag, re⟩ : Hd) = (s, (⟨at_, v, r, t, seen, tr, sp, ag, re⟩ : Hd), false) by simp [stepS, HOK.out, HHO.out, hrb])
    go_upto_region 4 with fail
    obtain ⟨M0, hMe⟩ : ∃ M0, M0 = w3.heap.size := ⟨_, rfl⟩
    have hM0 : M0 ≤ w3.heap.size := by omega
    have hM4 : w.heap.size + 4 ≤ M0 := by have := hw_.lt; omega
    clear hMe 
    refine wp_region2 (fun w w' => Below w.heap.size w w') (fun _ _ h => h.size) (fun L W' => Below w.heap.size w W' ∧ BoxAt W' w.heap.size #[.int .i64 s.rd, .int .i64 s.mo, .slice A n cap, .int .i64 s.fi, .int .i64 s.la] 75 ∧ BoxAt W' (w.heap.size + 1) #[.int .i64 at_, .int .i64 v, .int .i64 r, .int .i64 t, .bool seen.s, .int .i64 seen.n, .bool seen.f, .int .i64 seen.v, .int .i64 tr, .int .i64 sp, .bool ag, .int .i64 re] 41 ∧ M0 ≤ W'.heap.size ∧ (∃ x0 x1 x2 x3 x4, BoxAt W' (w.heap.size + 1 + 1) #[x0, x1, x2, x3, x4] 75) ∧ (L 3 = false → BoxAt W' (w.heap.size + 1 + 1) #[.int .i64 0, .int .i64 0, .slice none 0 0, .int .i64 0, .int .i64 0] 75) ∧ (∃ x0 x1 x2 x3 x4 x5 x6 x7 x8 x9 x10 x11, BoxAt W' (w.heap.size + 1 + 1 + 1) #[x0, x1, x2, x3, x4, x5, x6, x7, x8, x9, x10, x11] 41) ∧ (L 4 = false → BoxAt W' (w.heap.size + 1 + 1 + 1) #[.int .i64 0, .int .i64 0, .int .i64 0, .int .i64 0, .bool false, .int .i64 0, .bool false, .int .i64 0, .int .i64 0, .int .i64 0, .bool false, .int .i64 0] 41)) (ts4R s w.heap.size M0 n cap A at_ v r t seen tr sp ag re) ts4K ts4S (by kernel_rfl) (by kernel_rfl) ?_ ?_ ?_
      (.grow rfl ?_ <| .grow rfl ?_ <| .grow rfl ?_ <| .store rfl ?_ <| .store rfl ?_ <| .grow rfl ?_ <| .nil) ?_
    · intro j σ τ w h hR
      match j, h, hR with
      | 0, h, hR => exact (h 0 (List.mem_singleton.2 rfl)).symm.trans hR
      | 1, h, hR => obtain ⟨A5, n5, c5, e, hp⟩ := hR; exact ⟨A5, n5, c5, (h 1 (List.mem_singleton.2 rfl)).symm.trans e, hp⟩
      | 2, h, hR => exact (h 2 (List.mem_singleton.2 rfl)).symm.trans hR
      | 3, _, hR => exact hR
      | 4, _, hR => exact hR
      | 5, h, hR => exact (h 5 (List.mem_singleton.2 rfl)).symm.trans hR
      | _ + 6, _, _ => exact trivial
    · intro j σ w w' hb hR
      match j, hR with
      | 0, hR => exact hR
      | 1, hR => obtain ⟨A5, n5, c5, e, hp⟩ := hR; exact ⟨A5, n5, c5, e, (hp.below hb (Nat.le_refl _)).mono (Nat.le_refl _) hb.size⟩
      | 2, hR => exact hR
      | 3, hR => obtain ⟨A5, n5, c5, hx, hp⟩ := hR; exact ⟨A5, n5, c5, hx.below hb hx.lt, (hp.below hb (Nat.le_refl _)).mono (Nat.le_refl _) hb.size⟩
      | 4, hR => exact hR.below hb hR.lt
      | 5, hR => exact hR
      | _ + 6, _ => exact trivial
    · exact ⟨hB.drew, hx, hy, hM0, ⟨_, _, _, _, _, hz⟩, fun _ => hz, ⟨_, _, _, _, _, _, _, _, _, _, _, _, hw_⟩, fun _ => hw_⟩
    · -- 0: Op.load 75 t2
      go_light
      intro L σ W' hcl hL hC hw
      clear hw
      have HC := Lib.hid hC
      obtain ⟨hB, hx, hy, hM0, ⟨hz_x0, hz_x1, hz_x2, hz_x3, hz_x4, hz⟩, hz_o, ⟨hw__x0, hw__x1, hw__x2, hw__x3, hw__x4, hw__x5, hw__x6, hw__x7, hw__x8, hw__x9, hw__x10, hw__x11, hw_⟩, hw__o⟩ := hC
      have ks := hx.cell
      clear hcl hL
      clear hB hx hy hM0 hz hz_o hw_ hw__o
      refine OpGoes.step fun K hK => ?_
      unfold OpGoes
      go_simp
      obtain ⟨hB, hx, hy, hM0, ⟨hz_x0, hz_x1, hz_x2, hz_x3, hz_x4, hz⟩, hz_o, ⟨hw__x0, hw__x1, hw__x2, hw__x3, hw__x4, hw__x5, hw__x6, hw__x7, hw__x8, hw__x9, hw__x10, hw__x11, hw_⟩, hw__o⟩ := HC.out
      exact hK _ _ ⟨⟨hB, hx, hy, hM0, ⟨_, _, _, _, _, hz⟩, fun h => hz_o (by simpa [upd] using h), ⟨_, _, _, _, _, _, _, _, _, _, _, _, hw_⟩, fun h => hw__o (by simpa [upd] using h)⟩, rfl, Below.refl _ _⟩
    · -- 1: Op.call { value (Operand.func 83), args := #[t30], argTypes := #[75] }
      go_light
      intro L σ W' hcl hL hC hw
      have e0 : σ 0 = .agg #[.int .i64 s.rd, .int .i64 s.mo, .slice A n cap, .int .i64 s.fi, .int .i64 s.la] := hw 0 (by kernel_rfl)
      clear hw
      have HC := Lib.hid hC
      clear hC
      clear hcl hL
      refine OpGoes.step fun K hK => ?_
      unfold OpGoes
      go_simp
      obtain ⟨hB, hx, hy, hM0, ⟨hz_x0, hz_x1, hz_x2, hz_x3, hz_x4, hz⟩, hz_o, ⟨hw__x0, hw__x1, hw__x2, hw__x3, hw__x4, hw__x5, hw__x6, hw__x7, hw__x8, hw__x9, hw__x10, hw__x11, hw_⟩, hw__o⟩ := HC.out
      refine (HCPY.out _ hB).mono ?_
      rintro e w1 ⟨A5, n5, c5, rfl, hG5, hb1⟩
      exact ⟨_, rfl, hK _ _ ⟨⟨bstep hB hB.size hb1, hx.below hb1 hx.lt, hy.below hb1 hy.lt, Nat.le_trans hM0 hb1.size, ⟨_, _, _, _, _, hz.below hb1 hz.lt⟩, fun h => (hz_o (by simpa [upd] using h)).below hb1 (hz_o (by simpa [upd] using h)).lt, ⟨_, _, _, _, _, _, _, _, _, _, _, _, hw_.below hb1 hw_.lt⟩, fun h => (hw__o (by simpa [upd] using h)).below hb1 (hw__o (by simpa [upd] using h)).lt⟩, ⟨A5, n5, c5, rfl, hG5.mono hM0 (Nat.le_refl _)⟩, hb1⟩⟩
    · -- 2: Op.load 41 t3
      go_light
      intro L σ W' hcl hL hC hw
      clear hw
      have HC := Lib.hid hC
      obtain ⟨hB, hx, hy, hM0, ⟨hz_x0, hz_x1, hz_x2, hz_x3, hz_x4, hz⟩, hz_o, ⟨hw__x0, hw__x1, hw__x2, hw__x3, hw__x4, hw__x5, hw__x6, hw__x7, hw__x8, hw__x9, hw__x10, hw__x11, hw_⟩, hw__o⟩ := hC
      have kh := hy.cell
      clear hcl hL
      clear hB hx hy hM0 hz hz_o hw_ hw__o
      refine OpGoes.step fun K hK => ?_
      unfold OpGoes
      go_simp
      obtain ⟨hB, hx, hy, hM0, ⟨hz_x0, hz_x1, hz_x2, hz_x3, hz_x4, hz⟩, hz_o, ⟨hw__x0, hw__x1, hw__x2, hw__x3, hw__x4, hw__x5, hw__x6, hw__x7, hw__x8, hw__x9, hw__x10, hw__x11, hw_⟩, hw__o⟩ := HC.out
      exact hK _ _ ⟨⟨hB, hx, hy, hM0, ⟨_, _, _, _, _, hz⟩, fun h => hz_o (by simpa [upd] using h), ⟨_, _, _, _, _, _, _, _, _, _, _, _, hw_⟩, fun h => hw__o (by simpa [upd] using h)⟩, rfl, Below.refl _ _⟩
    · -- 3: Op.store 75 t4 t31
      go_light
      intro L σ W' hcl hL hC hw hne
      obtain ⟨A5, n5, c5, e1, hp1⟩ : ∃ (A5 : Option Addr) (n5 c5 : Nat), σ 1 = .agg #[.int .i64 s.rd, .int .i64 s.mo, .slice A5 n5 c5, .int .i64 s.fi, .int .i64 s.la] ∧ RgsW M0 W'.heap.size W' A5 n5 c5 s.rs := hw 1 (by kernel_rfl)
      clear hw hne
      have HC := Lib.hid hC
      obtain ⟨hB, hx, hy, hM0, ⟨hz_x0, hz_x1, hz_x2, hz_x3, hz_x4, hz⟩, hz_o, ⟨hw__x0, hw__x1, hw__x2, hw__x3, hw__x4, hw__x5, hw__x6, hw__x7, hw__x8, hw__x9, hw__x10, hw__x11, hw_⟩, hw__o⟩ := hC
      clear hcl hL
      have kc_ := hz.cell
      have kf_ := hz.frozen
      clear hB hx hy hM0 hz hz_o hw_ hw__o
      refine OpGoes.step fun K hK => ?_
      unfold OpGoes
      go_simp
      obtain ⟨hB, hx, hy, hM0, ⟨hz_x0, hz_x1, hz_x2, hz_x3, hz_x4, hz⟩, hz_o, ⟨hw__x0, hw__x1, hw__x2, hw__x3, hw__x4, hw__x5, hw__x6, hw__x7, hw__x8, hw__x9, hw__x10, hw__x11, hw_⟩, hw__o⟩ := HC.out
      have hset := sets_all (us := [.int .i64 s.rd, .int .i64 s.mo, .slice A5 n5 c5, .int .i64 s.fi, .int .i64 s.la]) hz rfl
      refine hK undef (setCells W' (w.heap.size + 1 + 1) 0 [.int .i64 s.rd, .int .i64 s.mo, .slice A5 n5 c5, .int .i64 s.fi, .int .i64 s.la]) ⟨⟨(Below.setCells (by omega) [.int .i64 s.rd, .int .i64 s.mo, .slice A5 n5 c5, .int .i64 s.fi, .int .i64 s.la] 0 hB), (BoxAt.sets_ne [.int .i64 s.rd, .int .i64 s.mo, .slice A5 n5 c5, .int .i64 s.fi, .int .i64 s.la] 0 hx (by omega)), (BoxAt.sets_ne [.int .i64 s.rd, .int .i64 s.mo, .slice A5 n5 c5, .int .i64 s.fi, .int .i64 s.la] 0 hy (by omega)), (size_sts hM0 [.int .i64 s.rd, .int .i64 s.mo, .slice A5 n5 c5, .int .i64 s.fi, .int .i64 s.la] 0), ⟨_, _, _, _, _, hset⟩, fun h => absurd h (by simp [upd]), ⟨_, _, _, _, _, _, _, _, _, _, _, _, (BoxAt.sets_ne [.int .i64 s.rd, .int .i64 s.mo, .slice A5 n5 c5, .int .i64 s.fi, .int .i64 s.la] 0 hw_ (by omega))⟩, fun h => (BoxAt.sets_ne [.int .i64 s.rd, .int .i64 s.mo, .slice A5 n5 c5, .int .i64 s.fi, .int .i64 s.la] 0 (hw__o (by simpa [upd] using h)) (by omega))⟩, ⟨A5, n5, c5, hset, ((RgsW.setsT hp1 hz (by decide) (by decide) [.int .i64 s.rd, .int .i64 s.mo, .slice A5 n5 c5, .int .i64 s.fi, .int .i64 s.la] 0).mono (Nat.le_refl _) (Nat.le_of_eq (sets_size _ _ _).symm))⟩, Nat.le_of_eq (sets_size _ _ _).symm, fun j hj hn hR => ?_⟩
      match j, hj, hn, hR with
      | 0, _, _, hR => exact (show σ 0 = .agg #[.int .i64 s.rd, .int .i64 s.mo, .slice A n cap, .int .i64 s.fi, .int .i64 s.la] from hR)
      | 1, _, _, hR => obtain ⟨A5_x, n5_x, c5_x, e, hp⟩ := hR; exact ⟨A5_x, n5_x, c5_x, e, ((RgsW.setsT hp hz (by decide) (by decide) [.int .i64 s.rd, .int .i64 s.mo, .slice A5 n5 c5, .int .i64 s.fi, .int .i64 s.la] 0).mono (Nat.le_refl _) (Nat.le_of_eq (sets_size _ _ _).symm))⟩
      | 2, _, _, hR => exact (show σ 2 = .agg #[.int .i64 at_, .int .i64 v, .int .i64 r, .int .i64 t, .bool seen.s, .int .i64 seen.n, .bool seen.f, .int .i64 seen.v, .int .i64 tr, .int .i64 sp, .bool ag, .int .i64 re] from hR)
      | 3, hj, _, _ => exact absurd rfl hj
      | 4, _, _, hR => exact (BoxAt.sets_ne [.int .i64 s.rd, .int .i64 s.mo, .slice A5 n5 c5, .int .i64 s.fi, .int .i64 s.la] 0 hR (by omega))
      | 5, _, _, hR => exact (show σ 5 = .bool false from hR)
      | _ + 6, _, _, _ => exact trivial
    · -- 4: Op.store 41 t5 t32
      go_light
      intro L σ W' hcl hL hC hw hne
      have e2 : σ 2 = .agg #[.int .i64 at_, .int .i64 v, .int .i64 r, .int .i64 t, .bool seen.s, .int .i64 seen.n, .bool seen.f, .int .i64 seen.v, .int .i64 tr, .int .i64 sp, .bool ag, .int .i64 re] := hw 2 (by kernel_rfl)
      clear hw hne
      have HC := Lib.hid hC
      obtain ⟨hB, hx, hy, hM0, ⟨hz_x0, hz_x1, hz_x2, hz_x3, hz_x4, hz⟩, hz_o, ⟨hw__x0, hw__x1, hw__x2, hw__x3, hw__x4, hw__x5, hw__x6, hw__x7, hw__x8, hw__x9, hw__x10, hw__x11, hw_⟩, hw__o⟩ := hC
      clear hcl hL
      have kc_ := hw_.cell
      have kf_ := hw_.frozen
      clear hB hx hy hM0 hz hz_o hw_ hw__o
      refine OpGoes.step fun K hK => ?_
      unfold OpGoes
      go_simp
      obtain ⟨hB, hx, hy, hM0, ⟨hz_x0, hz_x1, hz_x2, hz_x3, hz_x4, hz⟩, hz_o, ⟨hw__x0, hw__x1, hw__x2, hw__x3, hw__x4, hw__x5, hw__x6, hw__x7, hw__x8, hw__x9, hw__x10, hw__x11, hw_⟩, hw__o⟩ := HC.out
      have hset := sets_all (us := [.int .i64 at_, .int .i64 v, .int .i64 r, .int .i64 t, .bool seen.s, .int .i64 seen.n, .bool seen.f, .int .i64 seen.v, .int .i64 tr, .int .i64 sp, .bool ag, .int .i64 re]) hw_ rfl
      refine hK undef (setCells W' (w.heap.size + 1 + 1 + 1) 0 [.int .i64 at_, .int .i64 v, .int .i64 r, .int .i64 t, .bool seen.s, .int .i64 seen.n, .bool seen.f, .int .i64 seen.v, .int .i64 tr, .int .i64 sp, .bool ag, .int .i64 re]) ⟨⟨(Below.setCells (by omega) [.int .i64 at_, .int .i64 v, .int .i64 r, .int .i64 t, .bool seen.s, .int .i64 seen.n, .bool seen.f, .int .i64 seen.v, .int .i64 tr, .int .i64 sp, .bool ag, .int .i64 re] 0 hB), (BoxAt.sets_ne [.int .i64 at_, .int .i64 v, .int .i64 r, .int .i64 t, .bool seen.s, .int .i64 seen.n, .bool seen.f, .int .i64 seen.v, .int .i64 tr, .int .i64 sp, .bool ag, .int .i64 re] 0 hx (by omega)), (BoxAt.sets_ne [.int .i64 at_, .int .i64 v, .int .i64 r, .int .i64 t, .bool seen.s, .int .i64 seen.n, .bool seen.f, .int .i64 seen.v, .int .i64 tr, .int .i64 sp, .bool ag, .int .i64 re] 0 hy (by omega)), (size_sts hM0 [.int .i64 at_, .int .i64 v, .int .i64 r, .int .i64 t, .bool seen.s, .int .i64 seen.n, .bool seen.f, .int .i64 seen.v, .int .i64 tr, .int .i64 sp, .bool ag, .int .i64 re] 0), ⟨_, _, _, _, _, (BoxAt.sets_ne [.int .i64 at_, .int .i64 v, .int .i64 r, .int .i64 t, .bool seen.s, .int .i64 seen.n, .bool seen.f, .int .i64 seen.v, .int .i64 tr, .int .i64 sp, .bool ag, .int .i64 re] 0 hz (by omega))⟩, fun h => (BoxAt.sets_ne [.int .i64 at_, .int .i64 v, .int .i64 r, .int .i64 t, .bool seen.s, .int .i64 seen.n, .bool seen.f, .int .i64 seen.v, .int .i64 tr, .int .i64 sp, .bool ag, .int .i64 re] 0 (hz_o (by simpa [upd] using h)) (by omega)), ⟨_, _, _, _, _, _, _, _, _, _, _, _, hset⟩, fun h => absurd h (by simp [upd])⟩, hset, Nat.le_of_eq (sets_size _ _ _).symm, fun j hj hn hR => ?_⟩
      match j, hj, hn, hR with
      | 0, _, _, hR => exact (show σ 0 = .agg #[.int .i64 s.rd, .int .i64 s.mo, .slice A n cap, .int .i64 s.fi, .int .i64 s.la] from hR)
      | 1, _, _, hR => obtain ⟨A5_x, n5_x, c5_x, e, hp⟩ := hR; exact ⟨A5_x, n5_x, c5_x, e, ((RgsW.setsT hp hw_ (by decide) (by decide) [.int .i64 at_, .int .i64 v, .int .i64 r, .int .i64 t, .bool seen.s, .int .i64 seen.n, .bool seen.f, .int .i64 seen.v, .int .i64 tr, .int .i64 sp, .bool ag, .int .i64 re] 0).mono (Nat.le_refl _) (Nat.le_of_eq (sets_size _ _ _).symm))⟩
      | 2, _, _, hR => exact (show σ 2 = .agg #[.int .i64 at_, .int .i64 v, .int .i64 r, .int .i64 t, .bool seen.s, .int .i64 seen.n, .bool seen.f, .int .i64 seen.v, .int .i64 tr, .int .i64 sp, .bool ag, .int .i64 re] from hR)
      | 3, _, _, hR => obtain ⟨A5, n5, c5, hx, hp⟩ := hR; exact ⟨A5, n5, c5, (BoxAt.sets_ne [.int .i64 at_, .int .i64 v, .int .i64 r, .int .i64 t, .bool seen.s, .int .i64 seen.n, .bool seen.f, .int .i64 seen.v, .int .i64 tr, .int .i64 sp, .bool ag, .int .i64 re] 0 hx (by omega)), ((RgsW.setsT hp hw_ (by decide) (by decide) [.int .i64 at_, .int .i64 v, .int .i64 r, .int .i64 t, .bool seen.s, .int .i64 seen.n, .bool seen.f, .int .i64 seen.v, .int .i64 tr, .int .i64 sp, .bool ag, .int .i64 re] 0).mono (Nat.le_refl _) (Nat.le_of_eq (sets_size _ _ _).symm))⟩
      | 4, hj, _, _ => exact absurd rfl hj
      | 5, _, _, hR => exact (show σ 5 = .bool false from hR)
      | _ + 6, _, _, _ => exact trivial
    · -- 5: Op.assign (const (Value.bool false))
      go_light
      intro L σ W' hcl hL hC hw
      clear hw
      have HC := Lib.hid hC
      clear hC
      clear hcl hL
      refine OpGoes.step fun K hK => ?_
      unfold OpGoes
      go_simp
      obtain ⟨hB, hx, hy, hM0, ⟨hz_x0, hz_x1, hz_x2, hz_x3, hz_x4, hz⟩, hz_o, ⟨hw__x0, hw__x1, hw__x2, hw__x3, hw__x4, hw__x5, hw__x6, hw__x7, hw__x8, hw__x9, hw__x10, hw__x11, hw_⟩, hw__o⟩ := HC.out
      exact hK _ _ ⟨⟨hB, hx, hy, hM0, ⟨_, _, _, _, _, hz⟩, fun h => hz_o (by simpa [upd] using h), ⟨_, _, _, _, _, _, _, _, _, _, _, _, hw_⟩, fun h => hw__o (by simpa [upd] using h)⟩, rfl, Below.refl _ _⟩
    · intro σ L W' hall hC hR
      obtain ⟨hB, hx, hy, hM0, ⟨hz_x0, hz_x1, hz_x2, hz_x3, hz_x4, hz⟩, hz_o, ⟨hw__x0, hw__x1, hw__x2, hw__x3, hw__x4, hw__x5, hw__x6, hw__x7, hw__x8, hw__x9, hw__x10, hw__x11, hw_⟩, hw__o⟩ := hC
      obtain ⟨A5, n5, c5, s3, hp3⟩ : ∃ (A5 : Option Addr) (n5 c5 : Nat), BoxAt W' (w.heap.size + 1 + 1) #[.int .i64 s.rd, .int .i64 s.mo, .slice A5 n5 c5, .int .i64 s.fi, .int .i64 s.la] 75 ∧ RgsW M0 W'.heap.size W' A5 n5 c5 s.rs := hR 3 (by decide)
      have s4 : BoxAt W' (w.heap.size + 1 + 1 + 1) #[.int .i64 at_, .int .i64 v, .int .i64 r, .int .i64 t, .bool seen.s, .int .i64 seen.n, .bool seen.f, .int .i64 seen.v, .int .i64 tr, .int .i64 sp, .bool ag, .int .i64 re] 41 := hR 4 (by decide)
      have e5 : σ 5 = .bool false := hR 5 (by decide)
      clear hR
      simp only [lexAll]
      go_simp
      go_step
      have k7 := s3.cell
      have k8 := s4.cell
      go_wp2
      refine bodyPost_ret (v := .tuple #[stV s A5 n5 c5, hdV (⟨at_, v, r, t, seen, tr, sp, ag, re⟩ : Hd), .bool false]) (by simp [results, Try.results90, go_sem, k7, k8, stV, hdV]) rfl ⟨A5, n5, c5, by rw [HV.out], ?_, hB⟩
      rw [HV.out]
      exact hp3.mono (by omega) (Nat.le_refl _)
  have HTB := Lib.hid (show lateB at_ = true by simp [lateB, h13])
  obtain ⟨q, hq⟩ : ∃ q, takeS s (⟨at_, v, r, t, seen, tr, sp, ag, re⟩ : Hd) = q := ⟨_, rfl⟩
  have HQN := Lib.hid (show Neat q.1 by rw [← hq]; exact takeS_neat HOK.out)
  obtain ⟨M0, hMe⟩ : ∃ M0, M0 = w3.heap.size := ⟨_, rfl⟩
  have hM0 : M0 ≤ w3.heap.size := by omega
  have hM4 : w.heap.size + 4 ≤ M0 := by have := hw_.lt; omega
  clear hMe
  have HTK := Lib.hid (show ∀ (W : World) (A1 : Option Addr) (n1 c1 : Nat), Below w.heap.size w W → M0 ≤ W.heap.size → RgsW M0 W.heap.size W A1 n1 c1 s.rs → Calls Try.prog 92 #[stV s A1 n1 c1, hdV (⟨at_, v, r, t, seen, tr, sp, ag, re⟩ : Hd)] W (RetSHB M0 q W) from fun W A1 n1 c1 hBW hMW hG => by
    have := l7Take_any s A1 n1 c1 M0 W.heap.size (⟨at_, v, r, t, seen, tr, sp, ag, re⟩ : Hd) W hG (Nat.le_refl _) hMW HOK.out hrb HHO.out (by have := hd_at HHO.out; simp only [takeB, inB, Bool.and_eq_true, decide_eq_true_eq]; dsimp only at this; omega)
    rw [hq] at this
    exact this)
  unfold stV hdV at HTK
  have HRB := Lib.hid hrb
  have HQ := Lib.hid hq
  clear hrb hq
  go_upto_region 5 with fail
  go_cut [7, 8, 9] (fun u7 u8 u9 W' => Below w.heap.size w W' ∧ BoxAt W' w.heap.size #[.int .i64 s.rd, .int .i64 s.mo, .slice A n cap, .int .i64 s.fi, .int .i64 s.la] 75 ∧ BoxAt W' (w.heap.size + 1) #[.int .i64 at_, .int .i64 v, .int .i64 r, .int .i64 t, .bool seen.s, .int .i64 seen.n, .bool seen.f, .int .i64 seen.v, .int .i64 tr, .int .i64 sp, .bool ag, .int .i64 re] 41 ∧ BoxAt W' (w.heap.size + 1 + 1) #[.int .i64 0, .int .i64 0, .slice none 0 0, .int .i64 0, .int .i64 0] 75 ∧ BoxAt W' (w.heap.size + 1 + 1 + 1) #[.int .i64 0, .int .i64 0, .int .i64 0, .int .i64 0, .bool false, .int .i64 0, .bool false, .int .i64 0, .int .i64 0, .int .i64 0, .bool false, .int .i64 0] 41 ∧ M0 ≤ W'.heap.size ∧ ∃ (X Y : Nat) (A5 : Option Addr) (n5 c5 : Nat), M0 ≤ X ∧ M0 ≤ Y ∧ BoxAt W' X #[.int .i64 q.1.rd, .int .i64 q.1.mo, .slice A5 n5 c5, .int .i64 q.1.fi, .int .i64 q.1.la] 75 ∧ BoxAt W' Y #[.int .i64 q.2.1.at_, .int .i64 q.2.1.v, .int .i64 q.2.1.r, .int .i64 q.2.1.t, .bool q.2.1.seen.s, .int .i64 q.2.1.seen.n, .bool q.2.1.seen.f, .int .i64 q.2.1.seen.v, .int .i64 q.2.1.tr, .int .i64 q.2.1.sp, .bool q.2.1.ag, .int .i64 q.2.1.re] 41 ∧ RgsW M0 W'.heap.size W' A5 n5 c5 q.1.rs ∧ u7 = .pointer (some ⟨X, 0, none⟩) ∧ u8 = .pointer (some ⟨Y, 0, none⟩) ∧ u9 = .bool q.2.2)
  case first =>
    refine wp_region2 (fun w w' => Below w.heap.size w w') (fun _ _ h => h.size) (fun L W' => Below w.heap.size w W' ∧ BoxAt W' w.heap.size #[.int .i64 s.rd, .int .i64 s.mo, .slice A n cap, .int .i64 s.fi, .int .i64 s.la] 75 ∧ BoxAt W' (w.heap.size + 1) #[.int .i64 at_, .int .i64 v, .int .i64 r, .int .i64 t, .bool seen.s, .int .i64 seen.n, .bool seen.f, .int .i64 seen.v, .int .i64 tr, .int .i64 sp, .bool ag, .int .i64 re] 41 ∧ M0 ≤ W'.heap.size ∧ BoxAt W' (w.heap.size + 1 + 1) #[.int .i64 0, .int .i64 0, .slice none 0 0, .int .i64 0, .int .i64 0] 75 ∧ BoxAt W' (w.heap.size + 1 + 1 + 1) #[.int .i64 0, .int .i64 0, .int .i64 0, .int .i64 0, .bool false, .int .i64 0, .bool false, .int .i64 0, .int .i64 0, .int .i64 0, .bool false, .int .i64 0] 41) (ts5R s w.heap.size M0 n cap A at_ v r t seen tr sp ag re q) ts5K ts5S (by kernel_rfl) (by kernel_rfl) ?_ ?_ ?_
      (.grow rfl ?_ <| .grow rfl ?_ <| .grow rfl ?_ <| .grow rfl ?_ <| .grow rfl ?_ <| .grow rfl ?_ <| .grow rfl ?_ <| .grow rfl ?_ <| .make rfl ?_ <| .make rfl ?_ <| .store rfl ?_ <| .store rfl ?_ <| .grow rfl ?_ <| .nil) ?_
    · intro j σ τ w h hR
      match j, h, hR with
      | 0, h, hR => exact (h 0 (List.mem_singleton.2 rfl)).symm.trans hR
      | 1, h, hR => obtain ⟨A1, n1, c1, e, hp⟩ := hR; exact ⟨A1, n1, c1, (h 1 (List.mem_singleton.2 rfl)).symm.trans e, hp⟩
      | 2, h, hR => exact (h 2 (List.mem_singleton.2 rfl)).symm.trans hR
      | 3, h, hR => obtain ⟨A5, n5, c5, e, hp⟩ := hR; exact ⟨A5, n5, c5, (h 3 (List.mem_singleton.2 rfl)).symm.trans e, hp⟩
      | 4, h, hR => obtain ⟨A5, n5, c5, e, hp⟩ := hR; exact ⟨A5, n5, c5, (h 4 (List.mem_singleton.2 rfl)).symm.trans e, hp⟩
      | 5, h, hR => obtain ⟨A5, n5, c5, e, hp⟩ := hR; exact ⟨A5, n5, c5, (h 5 (List.mem_singleton.2 rfl)).symm.trans e, hp⟩
      | 6, h, hR => exact (h 6 (List.mem_singleton.2 rfl)).symm.trans hR
      | 7, h, hR => exact (h 7 (List.mem_singleton.2 rfl)).symm.trans hR
      | 8, h, hR => obtain ⟨g, e, hp⟩ := hR; exact ⟨g, (h 8 (List.mem_singleton.2 rfl)).symm.trans e, hp⟩
      | 9, h, hR => obtain ⟨g, e, hp⟩ := hR; exact ⟨g, (h 9 (List.mem_singleton.2 rfl)).symm.trans e, hp⟩
      | 10, h, hR => obtain ⟨g, A5, n5, c5, e, hp⟩ := hR; exact ⟨g, A5, n5, c5, (h 8 (List.mem_singleton.2 rfl)).symm.trans e, hp⟩
      | 11, h, hR => obtain ⟨g, e, hp⟩ := hR; exact ⟨g, (h 9 (List.mem_singleton.2 rfl)).symm.trans e, hp⟩
      | 12, h, hR => exact (h 12 (List.mem_singleton.2 rfl)).symm.trans hR
      | _ + 13, _, _ => exact trivial
    · intro j σ w w' hb hR
      match j, hR with
      | 0, hR => exact hR
      | 1, hR => obtain ⟨A1, n1, c1, e, hp⟩ := hR; exact ⟨A1, n1, c1, e, (hp.below hb (Nat.le_refl _)).mono (Nat.le_refl _) hb.size⟩
      | 2, hR => exact hR
      | 3, hR => obtain ⟨A5, n5, c5, e, hp⟩ := hR; exact ⟨A5, n5, c5, e, (hp.below hb (Nat.le_refl _)).mono (Nat.le_refl _) hb.size⟩
      | 4, hR => obtain ⟨A5, n5, c5, e, hp⟩ := hR; exact ⟨A5, n5, c5, e, (hp.below hb (Nat.le_refl _)).mono (Nat.le_refl _) hb.size⟩
      | 5, hR => obtain ⟨A5, n5, c5, e, hp⟩ := hR; exact ⟨A5, n5, c5, e, (hp.below hb (Nat.le_refl _)).mono (Nat.le_refl _) hb.size⟩
      | 6, hR => exact hR
      | 7, hR => exact hR
      | 8, hR => obtain ⟨g, e, hg, x0, x1, x2, x3, x4, hx⟩ := hR; exact ⟨g, e, hg, x0, x1, x2, x3, x4, hx.below hb hx.lt⟩
      | 9, hR => obtain ⟨g, e, hg, x0, x1, x2, x3, x4, x5, x6, x7, x8, x9, x10, x11, hx⟩ := hR; exact ⟨g, e, hg, x0, x1, x2, x3, x4, x5, x6, x7, x8, x9, x10, x11, hx.below hb hx.lt⟩
      | 10, hR => obtain ⟨g, A5, n5, c5, e, hg, hx, hp⟩ := hR; exact ⟨g, A5, n5, c5, e, hg, hx.below hb hx.lt, (hp.below hb (Nat.le_refl _)).mono (Nat.le_refl _) hb.size⟩
      | 11, hR => obtain ⟨g, e, hg, hx⟩ := hR; exact ⟨g, e, hg, hx.below hb hx.lt⟩
      | 12, hR => exact hR
      | _ + 13, _ => exact trivial
    · exact ⟨hB.drew, hx, hy, hM0, hz, hw_⟩
    · -- 0: Op.load 75 t2
      go_light
      intro L σ W' hcl hL hC hw
      clear hw
      have HC := Lib.hid hC
      obtain ⟨hB, hx, hy, hM0, hz, hw_⟩ := hC
      have ks := hx.cell
      clear hcl hL
      clear hB hx hy hM0 hz hw_
      refine OpGoes.step fun K hK => ?_
      unfold OpGoes
      go_simp
      obtain ⟨hB, hx, hy, hM0, hz, hw_⟩ := HC.out
      exact hK _ _ ⟨⟨hB, hx, hy, hM0, hz, hw_⟩, rfl, Below.refl _ _⟩
    · -- 1: Op.call { value (Operand.func 83), args := #[t34], argTypes := #[75] }
      go_light
      intro L σ W' hcl hL hC hw
      have e0 : σ 0 = .agg #[.int .i64 s.rd, .int .i64 s.mo, .slice A n cap, .int .i64 s.fi, .int .i64 s.la] := hw 0 (by kernel_rfl)
      clear hw
      have HC := Lib.hid hC
      clear hC
      clear hcl hL
      refine OpGoes.step fun K hK => ?_
      unfold OpGoes
      go_simp
      obtain ⟨hB, hx, hy, hM0, hz, hw_⟩ := HC.out
      refine (HCPY.out _ hB).mono ?_
      rintro e w1 ⟨A1, n1, c1, rfl, hG5, hb1⟩
      exact ⟨_, rfl, hK _ _ ⟨⟨bstep hB hB.size hb1, hx.below hb1 hx.lt, hy.below hb1 hy.lt, Nat.le_trans hM0 hb1.size, hz.below hb1 hz.lt, hw_.below hb1 hw_.lt⟩, ⟨A1, n1, c1, rfl, hG5.mono hM0 (Nat.le_refl _)⟩, hb1⟩⟩
    · -- 2: Op.load 41 t3
      go_light
      intro L σ W' hcl hL hC hw
      clear hw
      have HC := Lib.hid hC
      obtain ⟨hB, hx, hy, hM0, hz, hw_⟩ := hC
      have kh := hy.cell
      clear hcl hL
      clear hB hx hy hM0 hz hw_
      refine OpGoes.step fun K hK => ?_
      unfold OpGoes
      go_simp
      obtain ⟨hB, hx, hy, hM0, hz, hw_⟩ := HC.out
      exact hK _ _ ⟨⟨hB, hx, hy, hM0, hz, hw_⟩, rfl, Below.refl _ _⟩
    · -- 3: Op.call { value (Operand.func 92), args := #[t35, t36], argTypes := #[75, 41] }
      go_light
      intro L σ W' hcl hL hC hw
      obtain ⟨A1, n1, c1, e1, hp1⟩ : ∃ (A1 : Option Addr) (n1 c1 : Nat), σ 1 = .agg #[.int .i64 s.rd, .int .i64 s.mo, .slice A1 n1 c1, .int .i64 s.fi, .int .i64 s.la] ∧ RgsW M0 W'.heap.size W' A1 n1 c1 s.rs := hw 1 (by kernel_rfl)
      have e2 : σ 2 = .agg #[.int .i64 at_, .int .i64 v, .int .i64 r, .int .i64 t, .bool seen.s, .int .i64 seen.n, .bool seen.f, .int .i64 seen.v, .int .i64 tr, .int .i64 sp, .bool ag, .int .i64 re] := hw 2 (by kernel_rfl)
      clear hw
      have HC := Lib.hid hC
      clear hC
      clear hcl hL
      refine OpGoes.step fun K hK => ?_
      unfold OpGoes
      go_simp
      obtain ⟨hB, hx, hy, hM0, hz, hw_⟩ := HC.out
      refine (HTK.out _ _ _ _ hB hM0 hp1).mono ?_
      rintro e w1 ⟨A5, n5, c5, rfl, hG5, hb1⟩
      exact ⟨_, rfl, hK _ _ ⟨⟨bstep hB hB.size hb1, hx.below hb1 hx.lt, hy.below hb1 hy.lt, Nat.le_trans hM0 hb1.size, hz.below hb1 hz.lt, hw_.below hb1 hw_.lt⟩, ⟨A5, n5, c5, rfl, hG5⟩, hb1⟩⟩
    · -- 4: Op.move t37
      go_light
      intro L σ W' hcl hL hC hw
      obtain ⟨A5, n5, c5, e3, hp3⟩ : ∃ (A5 : Option Addr) (n5 c5 : Nat), σ 3 = .tuple #[.agg #[.int .i64 q.1.rd, .int .i64 q.1.mo, .slice A5 n5 c5, .int .i64 q.1.fi, .int .i64 q.1.la], .agg #[.int .i64 q.2.1.at_, .int .i64 q.2.1.v, .int .i64 q.2.1.r, .int .i64 q.2.1.t, .bool q.2.1.seen.s, .int .i64 q.2.1.seen.n, .bool q.2.1.seen.f, .int .i64 q.2.1.seen.v, .int .i64 q.2.1.tr, .int .i64 q.2.1.sp, .bool q.2.1.ag, .int .i64 q.2.1.re], .bool q.2.2] ∧ RgsW M0 W'.heap.size W' A5 n5 c5 q.1.rs := hw 3 (by kernel_rfl)
      clear hw
      have HC := Lib.hid hC
      clear hC
      clear hcl hL
      refine OpGoes.step fun K hK => ?_
      unfold OpGoes
      go_simp
      obtain ⟨hB, hx, hy, hM0, hz, hw_⟩ := HC.out
      exact hK _ _ ⟨⟨hB, hx, hy, hM0, hz, hw_⟩, ⟨A5, n5, c5, rfl, hp3⟩, Below.refl _ _⟩
    · -- 5: Op.extract t33 0
      go_light
      intro L σ W' hcl hL hC hw
      obtain ⟨A5, n5, c5, e4, hp4⟩ : ∃ (A5 : Option Addr) (n5 c5 : Nat), σ 4 = .tuple #[.agg #[.int .i64 q.1.rd, .int .i64 q.1.mo, .slice A5 n5 c5, .int .i64 q.1.fi, .int .i64 q.1.la], .agg #[.int .i64 q.2.1.at_, .int .i64 q.2.1.v, .int .i64 q.2.1.r, .int .i64 q.2.1.t, .bool q.2.1.seen.s, .int .i64 q.2.1.seen.n, .bool q.2.1.seen.f, .int .i64 q.2.1.seen.v, .int .i64 q.2.1.tr, .int .i64 q.2.1.sp, .bool q.2.1.ag, .int .i64 q.2.1.re], .bool q.2.2] ∧ RgsW M0 W'.heap.size W' A5 n5 c5 q.1.rs := hw 4 (by kernel_rfl)
      clear hw
      have HC := Lib.hid hC
      clear hC
      clear hcl hL
      refine OpGoes.step fun K hK => ?_
      unfold OpGoes
      go_simp
      obtain ⟨hB, hx, hy, hM0, hz, hw_⟩ := HC.out
      exact hK _ _ ⟨⟨hB, hx, hy, hM0, hz, hw_⟩, ⟨A5, n5, c5, rfl, hp4⟩, Below.refl _ _⟩
    · -- 6: Op.extract t33 1
      go_light
      intro L σ W' hcl hL hC hw
      obtain ⟨A5, n5, c5, e4, hp4⟩ : ∃ (A5 : Option Addr) (n5 c5 : Nat), σ 4 = .tuple #[.agg #[.int .i64 q.1.rd, .int .i64 q.1.mo, .slice A5 n5 c5, .int .i64 q.1.fi, .int .i64 q.1.la], .agg #[.int .i64 q.2.1.at_, .int .i64 q.2.1.v, .int .i64 q.2.1.r, .int .i64 q.2.1.t, .bool q.2.1.seen.s, .int .i64 q.2.1.seen.n, .bool q.2.1.seen.f, .int .i64 q.2.1.seen.v, .int .i64 q.2.1.tr, .int .i64 q.2.1.sp, .bool q.2.1.ag, .int .i64 q.2.1.re], .bool q.2.2] ∧ RgsW M0 W'.heap.size W' A5 n5 c5 q.1.rs := hw 4 (by kernel_rfl)
      clear hw
      have HC := Lib.hid hC
      clear hC
      clear hcl hL
      refine OpGoes.step fun K hK => ?_
      unfold OpGoes
      go_simp
      obtain ⟨hB, hx, hy, hM0, hz, hw_⟩ := HC.out
      exact hK _ _ ⟨⟨hB, hx, hy, hM0, hz, hw_⟩, rfl, Below.refl _ _⟩
    · -- 7: Op.extract t33 2
      go_light
      intro L σ W' hcl hL hC hw
      obtain ⟨A5, n5, c5, e4, hp4⟩ : ∃ (A5 : Option Addr) (n5 c5 : Nat), σ 4 = .tuple #[.agg #[.int .i64 q.1.rd, .int .i64 q.1.mo, .slice A5 n5 c5, .int .i64 q.1.fi, .int .i64 q.1.la], .agg #[.int .i64 q.2.1.at_, .int .i64 q.2.1.v, .int .i64 q.2.1.r, .int .i64 q.2.1.t, .bool q.2.1.seen.s, .int .i64 q.2.1.seen.n, .bool q.2.1.seen.f, .int .i64 q.2.1.seen.v, .int .i64 q.2.1.tr, .int .i64 q.2.1.sp, .bool q.2.1.ag, .int .i64 q.2.1.re], .bool q.2.2] ∧ RgsW M0 W'.heap.size W' A5 n5 c5 q.1.rs := hw 4 (by kernel_rfl)
      clear hw
      have HC := Lib.hid hC
      clear hC
      clear hcl hL
      refine OpGoes.step fun K hK => ?_
      unfold OpGoes
      go_simp
      obtain ⟨hB, hx, hy, hM0, hz, hw_⟩ := HC.out
      exact hK _ _ ⟨⟨hB, hx, hy, hM0, hz, hw_⟩, rfl, Below.refl _ _⟩
    · -- 8: Op.alloc 75
      go_light
      intro L σ W' hcl hL hC hw
      clear hw
      have HC := Lib.hid hC
      clear hC
      clear hcl hL
      refine OpGoes.step fun K hK => ?_
      unfold OpGoes
      go_simp
      obtain ⟨hB, hx, hy, hM0, hz, hw_⟩ := HC.out
      have hb1 : Below W'.heap.size W' (W'.alloc (.cells #[.int .i64 0, .int .i64 0, .slice none 0 0, .int .i64 0, .int .i64 0] 75)) := (Below.refl _ _).alloc (Nat.le_refl _) _
      exact hK _ _ ⟨⟨bstep hB hB.size hb1, hx.below hb1 hx.lt, hy.below hb1 hy.lt, Nat.le_trans hM0 hb1.size, hz.below hb1 hz.lt, hw_.below hb1 hw_.lt⟩, ⟨_, rfl, hM0, _, _, _, _, _, BoxAt.new _ _ _⟩, hb1, rfl, by simp⟩
    · -- 9: Op.alloc 41
      go_light
      intro L σ W' hcl hL hC hw
      clear hw
      have HC := Lib.hid hC
      clear hC
      clear hcl hL
      refine OpGoes.step fun K hK => ?_
      unfold OpGoes
      go_simp
      obtain ⟨hB, hx, hy, hM0, hz, hw_⟩ := HC.out
      have hb1 : Below W'.heap.size W' (W'.alloc (.cells #[.int .i64 0, .int .i64 0, .int .i64 0, .int .i64 0, .bool false, .int .i64 0, .bool false, .int .i64 0, .int .i64 0, .int .i64 0, .bool false, .int .i64 0] 41)) := (Below.refl _ _).alloc (Nat.le_refl _) _
      exact hK _ _ ⟨⟨bstep hB hB.size hb1, hx.below hb1 hx.lt, hy.below hb1 hy.lt, Nat.le_trans hM0 hb1.size, hz.below hb1 hz.lt, hw_.below hb1 hw_.lt⟩, ⟨_, rfl, hM0, _, _, _, _, _, _, _, _, _, _, _, _, BoxAt.new _ _ _⟩, hb1, rfl, by simp⟩
    · -- 10: Op.store 75 t7 t38
      go_light
      intro L σ W' hcl hL hC hw hne
      obtain ⟨A5, n5, c5, e5, hp5⟩ : ∃ (A5 : Option Addr) (n5 c5 : Nat), σ 5 = .agg #[.int .i64 q.1.rd, .int .i64 q.1.mo, .slice A5 n5 c5, .int .i64 q.1.fi, .int .i64 q.1.la] ∧ RgsW M0 W'.heap.size W' A5 n5 c5 q.1.rs := hw 5 (by kernel_rfl)
      obtain ⟨g8, e8, hg8, x0, x1, x2, x3, x4, hbox8⟩ : ∃ g8, σ 8 = .pointer (some ⟨g8, 0, none⟩) ∧ M0 ≤ g8 ∧ ∃ x0 x1 x2 x3 x4, BoxAt W' g8 #[x0, x1, x2, x3, x4] 75 := hw 8 (by kernel_rfl)
      clear hw hne
      have HC := Lib.hid hC
      clear hC
      clear hcl hL
      have kc_ := hbox8.cell
      have kf_ := hbox8.frozen
      refine OpGoes.step fun K hK => ?_
      unfold OpGoes
      go_simp
      obtain ⟨hB, hx, hy, hM0, hz, hw_⟩ := HC.out
      have hset := sets_all (us := [.int .i64 q.1.rd, .int .i64 q.1.mo, .slice A5 n5 c5, .int .i64 q.1.fi, .int .i64 q.1.la]) hbox8 rfl
      refine hK undef (setCells W' g8 0 [.int .i64 q.1.rd, .int .i64 q.1.mo, .slice A5 n5 c5, .int .i64 q.1.fi, .int .i64 q.1.la]) ⟨⟨(Below.setCells (by omega) [.int .i64 q.1.rd, .int .i64 q.1.mo, .slice A5 n5 c5, .int .i64 q.1.fi, .int .i64 q.1.la] 0 hB), (BoxAt.sets_ne [.int .i64 q.1.rd, .int .i64 q.1.mo, .slice A5 n5 c5, .int .i64 q.1.fi, .int .i64 q.1.la] 0 hx (by omega)), (BoxAt.sets_ne [.int .i64 q.1.rd, .int .i64 q.1.mo, .slice A5 n5 c5, .int .i64 q.1.fi, .int .i64 q.1.la] 0 hy (by omega)), (size_sts hM0 [.int .i64 q.1.rd, .int .i64 q.1.mo, .slice A5 n5 c5, .int .i64 q.1.fi, .int .i64 q.1.la] 0), (BoxAt.sets_ne [.int .i64 q.1.rd, .int .i64 q.1.mo, .slice A5 n5 c5, .int .i64 q.1.fi, .int .i64 q.1.la] 0 hz (by omega)), (BoxAt.sets_ne [.int .i64 q.1.rd, .int .i64 q.1.mo, .slice A5 n5 c5, .int .i64 q.1.fi, .int .i64 q.1.la] 0 hw_ (by omega))⟩, ⟨g8, A5, n5, c5, e8, hg8, hset, ((RgsW.setsT hp5 hbox8 (by decide) (by decide) [.int .i64 q.1.rd, .int .i64 q.1.mo, .slice A5 n5 c5, .int .i64 q.1.fi, .int .i64 q.1.la] 0).mono (Nat.le_refl _) (Nat.le_of_eq (sets_size _ _ _).symm))⟩, Nat.le_of_eq (sets_size _ _ _).symm, fun j hj hn hR => ?_⟩
      match j, hj, hn, hR with
      | 0, _, _, hR => exact (show σ 0 = .agg #[.int .i64 s.rd, .int .i64 s.mo, .slice A n cap, .int .i64 s.fi, .int .i64 s.la] from hR)
      | 1, _, _, hR => obtain ⟨A1_x, n1_x, c1_x, e, hp⟩ := hR; exact ⟨A1_x, n1_x, c1_x, e, ((RgsW.setsT hp hbox8 (by decide) (by decide) [.int .i64 q.1.rd, .int .i64 q.1.mo, .slice A5 n5 c5, .int .i64 q.1.fi, .int .i64 q.1.la] 0).mono (Nat.le_refl _) (Nat.le_of_eq (sets_size _ _ _).symm))⟩
      | 2, _, _, hR => exact (show σ 2 = .agg #[.int .i64 at_, .int .i64 v, .int .i64 r, .int .i64 t, .bool seen.s, .int .i64 seen.n, .bool seen.f, .int .i64 seen.v, .int .i64 tr, .int .i64 sp, .bool ag, .int .i64 re] from hR)
      | 3, _, _, hR => obtain ⟨A5_x, n5_x, c5_x, e, hp⟩ := hR; exact ⟨A5_x, n5_x, c5_x, e, ((RgsW.setsT hp hbox8 (by decide) (by decide) [.int .i64 q.1.rd, .int .i64 q.1.mo, .slice A5 n5 c5, .int .i64 q.1.fi, .int .i64 q.1.la] 0).mono (Nat.le_refl _) (Nat.le_of_eq (sets_size _ _ _).symm))⟩
      | 4, _, _, hR => obtain ⟨A5_x, n5_x, c5_x, e, hp⟩ := hR; exact ⟨A5_x, n5_x, c5_x, e, ((RgsW.setsT hp hbox8 (by decide) (by decide) [.int .i64 q.1.rd, .int .i64 q.1.mo, .slice A5 n5 c5, .int .i64 q.1.fi, .int .i64 q.1.la] 0).mono (Nat.le_refl _) (Nat.le_of_eq (sets_size _ _ _).symm))⟩
      | 5, _, _, hR => obtain ⟨A5_x, n5_x, c5_x, e, hp⟩ := hR; exact ⟨A5_x, n5_x, c5_x, e, ((RgsW.setsT hp hbox8 (by decide) (by decide) [.int .i64 q.1.rd, .int .i64 q.1.mo, .slice A5 n5 c5, .int .i64 q.1.fi, .int .i64 q.1.la] 0).mono (Nat.le_refl _) (Nat.le_of_eq (sets_size _ _ _).symm))⟩
      | 6, _, _, hR => exact (show σ 6 = .agg #[.int .i64 q.2.1.at_, .int .i64 q.2.1.v, .int .i64 q.2.1.r, .int .i64 q.2.1.t, .bool q.2.1.seen.s, .int .i64 q.2.1.seen.n, .bool q.2.1.seen.f, .int .i64 q.2.1.seen.v, .int .i64 q.2.1.tr, .int .i64 q.2.1.sp, .bool q.2.1.ag, .int .i64 q.2.1.re] from hR)
      | 7, _, _, hR => exact (show σ 7 = .bool q.2.2 from hR)
      | 8, _, _, _ => exact ⟨g8, e8, hg8, _, _, _, _, _, hset⟩
      | 9, _, _, hR => obtain ⟨g, e, hg, x0, x1, x2, x3, x4, x5, x6, x7, x8, x9, x10, x11, hx⟩ := hR; exact ⟨g, e, hg, x0, x1, x2, x3, x4, x5, x6, x7, x8, x9, x10, x11, (BoxAt.sets_ne [.int .i64 q.1.rd, .int .i64 q.1.mo, .slice A5 n5 c5, .int .i64 q.1.fi, .int .i64 q.1.la] 0 hx (by first | omega | exact box_neM hx hbox8 (by decide)))⟩
      | 10, hj, _, _ => exact absurd rfl hj
      | 11, _, _, hR => obtain ⟨g, e, hg, hx⟩ := hR; exact ⟨g, e, hg, (BoxAt.sets_ne [.int .i64 q.1.rd, .int .i64 q.1.mo, .slice A5 n5 c5, .int .i64 q.1.fi, .int .i64 q.1.la] 0 hx (by first | omega | exact box_neM hx hbox8 (by decide)))⟩
      | 12, _, _, hR => exact (show σ 12 = .bool q.2.2 from hR)
      | _ + 13, _, _, _ => exact trivial
    · -- 11: Op.store 41 t8 t39
      go_light
      intro L σ W' hcl hL hC hw hne
      have e6 : σ 6 = .agg #[.int .i64 q.2.1.at_, .int .i64 q.2.1.v, .int .i64 q.2.1.r, .int .i64 q.2.1.t, .bool q.2.1.seen.s, .int .i64 q.2.1.seen.n, .bool q.2.1.seen.f, .int .i64 q.2.1.seen.v, .int .i64 q.2.1.tr, .int .i64 q.2.1.sp, .bool q.2.1.ag, .int .i64 q.2.1.re] := hw 6 (by kernel_rfl)
      obtain ⟨g9, e9, hg9, x0, x1, x2, x3, x4, x5, x6, x7, x8, x9, x10, x11, hbox9⟩ : ∃ g9, σ 9 = .pointer (some ⟨g9, 0, none⟩) ∧ M0 ≤ g9 ∧ ∃ x0 x1 x2 x3 x4 x5 x6 x7 x8 x9 x10 x11, BoxAt W' g9 #[x0, x1, x2, x3, x4, x5, x6, x7, x8, x9, x10, x11] 41 := hw 9 (by kernel_rfl)
      clear hw hne
      have HC := Lib.hid hC
      clear hC
      clear hcl hL
      have kc_ := hbox9.cell
      have kf_ := hbox9.frozen
      refine OpGoes.step fun K hK => ?_
      unfold OpGoes
      go_simp
      obtain ⟨hB, hx, hy, hM0, hz, hw_⟩ := HC.out
      have hset := sets_all (us := [.int .i64 q.2.1.at_, .int .i64 q.2.1.v, .int .i64 q.2.1.r, .int .i64 q.2.1.t, .bool q.2.1.seen.s, .int .i64 q.2.1.seen.n, .bool q.2.1.seen.f, .int .i64 q.2.1.seen.v, .int .i64 q.2.1.tr, .int .i64 q.2.1.sp, .bool q.2.1.ag, .int .i64 q.2.1.re]) hbox9 rfl
      refine hK undef (setCells W' g9 0 [.int .i64 q.2.1.at_, .int .i64 q.2.1.v, .int .i64 q.2.1.r, .int .i64 q.2.1.t, .bool q.2.1.seen.s, .int .i64 q.2.1.seen.n, .bool q.2.1.seen.f, .int .i64 q.2.1.seen.v, .int .i64 q.2.1.tr, .int .i64 q.2.1.sp, .bool q.2.1.ag, .int .i64 q.2.1.re]) ⟨⟨(Below.setCells (by omega) [.int .i64 q.2.1.at_, .int .i64 q.2.1.v, .int .i64 q.2.1.r, .int .i64 q.2.1.t, .bool q.2.1.seen.s, .int .i64 q.2.1.seen.n, .bool q.2.1.seen.f, .int .i64 q.2.1.seen.v, .int .i64 q.2.1.tr, .int .i64 q.2.1.sp, .bool q.2.1.ag, .int .i64 q.2.1.re] 0 hB), (BoxAt.sets_ne [.int .i64 q.2.1.at_, .int .i64 q.2.1.v, .int .i64 q.2.1.r, .int .i64 q.2.1.t, .bool q.2.1.seen.s, .int .i64 q.2.1.seen.n, .bool q.2.1.seen.f, .int .i64 q.2.1.seen.v, .int .i64 q.2.1.tr, .int .i64 q.2.1.sp, .bool q.2.1.ag, .int .i64 q.2.1.re] 0 hx (by omega)), (BoxAt.sets_ne [.int .i64 q.2.1.at_, .int .i64 q.2.1.v, .int .i64 q.2.1.r, .int .i64 q.2.1.t, .bool q.2.1.seen.s, .int .i64 q.2.1.seen.n, .bool q.2.1.seen.f, .int .i64 q.2.1.seen.v, .int .i64 q.2.1.tr, .int .i64 q.2.1.sp, .bool q.2.1.ag, .int .i64 q.2.1.re] 0 hy (by omega)), (size_sts hM0 [.int .i64 q.2.1.at_, .int .i64 q.2.1.v, .int .i64 q.2.1.r, .int .i64 q.2.1.t, .bool q.2.1.seen.s, .int .i64 q.2.1.seen.n, .bool q.2.1.seen.f, .int .i64 q.2.1.seen.v, .int .i64 q.2.1.tr, .int .i64 q.2.1.sp, .bool q.2.1.ag, .int .i64 q.2.1.re] 0), (BoxAt.sets_ne [.int .i64 q.2.1.at_, .int .i64 q.2.1.v, .int .i64 q.2.1.r, .int .i64 q.2.1.t, .bool q.2.1.seen.s, .int .i64 q.2.1.seen.n, .bool q.2.1.seen.f, .int .i64 q.2.1.seen.v, .int .i64 q.2.1.tr, .int .i64 q.2.1.sp, .bool q.2.1.ag, .int .i64 q.2.1.re] 0 hz (by omega)), (BoxAt.sets_ne [.int .i64 q.2.1.at_, .int .i64 q.2.1.v, .int .i64 q.2.1.r, .int .i64 q.2.1.t, .bool q.2.1.seen.s, .int .i64 q.2.1.seen.n, .bool q.2.1.seen.f, .int .i64 q.2.1.seen.v, .int .i64 q.2.1.tr, .int .i64 q.2.1.sp, .bool q.2.1.ag, .int .i64 q.2.1.re] 0 hw_ (by omega))⟩, ⟨g9, e9, hg9, hset⟩, Nat.le_of_eq (sets_size _ _ _).symm, fun j hj hn hR => ?_⟩
      match j, hj, hn, hR with
      | 0, _, _, hR => exact (show σ 0 = .agg #[.int .i64 s.rd, .int .i64 s.mo, .slice A n cap, .int .i64 s.fi, .int .i64 s.la] from hR)
      | 1, _, _, hR => obtain ⟨A1_x, n1_x, c1_x, e, hp⟩ := hR; exact ⟨A1_x, n1_x, c1_x, e, ((RgsW.setsT hp hbox9 (by decide) (by decide) [.int .i64 q.2.1.at_, .int .i64 q.2.1.v, .int .i64 q.2.1.r, .int .i64 q.2.1.t, .bool q.2.1.seen.s, .int .i64 q.2.1.seen.n, .bool q.2.1.seen.f, .int .i64 q.2.1.seen.v, .int .i64 q.2.1.tr, .int .i64 q.2.1.sp, .bool q.2.1.ag, .int .i64 q.2.1.re] 0).mono (Nat.le_refl _) (Nat.le_of_eq (sets_size _ _ _).symm))⟩
      | 2, _, _, hR => exact (show σ 2 = .agg #[.int .i64 at_, .int .i64 v, .int .i64 r, .int .i64 t, .bool seen.s, .int .i64 seen.n, .bool seen.f, .int .i64 seen.v, .int .i64 tr, .int .i64 sp, .bool ag, .int .i64 re] from hR)
      | 3, _, _, hR => obtain ⟨A5_x, n5_x, c5_x, e, hp⟩ := hR; exact ⟨A5_x, n5_x, c5_x, e, ((RgsW.setsT hp hbox9 (by decide) (by decide) [.int .i64 q.2.1.at_, .int .i64 q.2.1.v, .int .i64 q.2.1.r, .int .i64 q.2.1.t, .bool q.2.1.seen.s, .int .i64 q.2.1.seen.n, .bool q.2.1.seen.f, .int .i64 q.2.1.seen.v, .int .i64 q.2.1.tr, .int .i64 q.2.1.sp, .bool q.2.1.ag, .int .i64 q.2.1.re] 0).mono (Nat.le_refl _) (Nat.le_of_eq (sets_size _ _ _).symm))⟩
      | 4, _, _, hR => obtain ⟨A5_x, n5_x, c5_x, e, hp⟩ := hR; exact ⟨A5_x, n5_x, c5_x, e, ((RgsW.setsT hp hbox9 (by decide) (by decide) [.int .i64 q.2.1.at_, .int .i64 q.2.1.v, .int .i64 q.2.1.r, .int .i64 q.2.1.t, .bool q.2.1.seen.s, .int .i64 q.2.1.seen.n, .bool q.2.1.seen.f, .int .i64 q.2.1.seen.v, .int .i64 q.2.1.tr, .int .i64 q.2.1.sp, .bool q.2.1.ag, .int .i64 q.2.1.re] 0).mono (Nat.le_refl _) (Nat.le_of_eq (sets_size _ _ _).symm))⟩
      | 5, _, _, hR => obtain ⟨A5_x, n5_x, c5_x, e, hp⟩ := hR; exact ⟨A5_x, n5_x, c5_x, e, ((RgsW.setsT hp hbox9 (by decide) (by decide) [.int .i64 q.2.1.at_, .int .i64 q.2.1.v, .int .i64 q.2.1.r, .int .i64 q.2.1.t, .bool q.2.1.seen.s, .int .i64 q.2.1.seen.n, .bool q.2.1.seen.f, .int .i64 q.2.1.seen.v, .int .i64 q.2.1.tr, .int .i64 q.2.1.sp, .bool q.2.1.ag, .int .i64 q.2.1.re] 0).mono (Nat.le_refl _) (Nat.le_of_eq (sets_size _ _ _).symm))⟩
      | 6, _, _, hR => exact (show σ 6 = .agg #[.int .i64 q.2.1.at_, .int .i64 q.2.1.v, .int .i64 q.2.1.r, .int .i64 q.2.1.t, .bool q.2.1.seen.s, .int .i64 q.2.1.seen.n, .bool q.2.1.seen.f, .int .i64 q.2.1.seen.v, .int .i64 q.2.1.tr, .int .i64 q.2.1.sp, .bool q.2.1.ag, .int .i64 q.2.1.re] from hR)
      | 7, _, _, hR => exact (show σ 7 = .bool q.2.2 from hR)
      | 8, _, _, hR => obtain ⟨g, e, hg, x0, x1, x2, x3, x4, hx⟩ := hR; exact ⟨g, e, hg, x0, x1, x2, x3, x4, (BoxAt.sets_ne [.int .i64 q.2.1.at_, .int .i64 q.2.1.v, .int .i64 q.2.1.r, .int .i64 q.2.1.t, .bool q.2.1.seen.s, .int .i64 q.2.1.seen.n, .bool q.2.1.seen.f, .int .i64 q.2.1.seen.v, .int .i64 q.2.1.tr, .int .i64 q.2.1.sp, .bool q.2.1.ag, .int .i64 q.2.1.re] 0 hx (by first | omega | exact box_neM hx hbox9 (by decide)))⟩
      | 9, _, _, _ => exact ⟨g9, e9, hg9, _, _, _, _, _, _, _, _, _, _, _, _, hset⟩
      | 10, _, _, hR => obtain ⟨g, A5, n5, c5, e, hg, hx, hp⟩ := hR; exact ⟨g, A5, n5, c5, e, hg, (BoxAt.sets_ne [.int .i64 q.2.1.at_, .int .i64 q.2.1.v, .int .i64 q.2.1.r, .int .i64 q.2.1.t, .bool q.2.1.seen.s, .int .i64 q.2.1.seen.n, .bool q.2.1.seen.f, .int .i64 q.2.1.seen.v, .int .i64 q.2.1.tr, .int .i64 q.2.1.sp, .bool q.2.1.ag, .int .i64 q.2.1.re] 0 hx (by first | omega | exact box_neM hx hbox9 (by decide))), ((RgsW.setsT hp hbox9 (by decide) (by decide) [.int .i64 q.2.1.at_, .int .i64 q.2.1.v, .int .i64 q.2.1.r, .int .i64 q.2.1.t, .bool q.2.1.seen.s, .int .i64 q.2.1.seen.n, .bool q.2.1.seen.f, .int .i64 q.2.1.seen.v, .int .i64 q.2.1.tr, .int .i64 q.2.1.sp, .bool q.2.1.ag, .int .i64 q.2.1.re] 0).mono (Nat.le_refl _) (Nat.le_of_eq (sets_size _ _ _).symm))⟩
      | 11, hj, _, _ => exact absurd rfl hj
      | 12, _, _, hR => exact (show σ 12 = .bool q.2.2 from hR)
      | _ + 13, _, _, _ => exact trivial
    · -- 12: Op.assign t40
      go_light
      intro L σ W' hcl hL hC hw
      have e7 : σ 7 = .bool q.2.2 := hw 7 (by kernel_rfl)
      clear hw
      have HC := Lib.hid hC
      clear hC
      clear hcl hL
      refine OpGoes.step fun K hK => ?_
      unfold OpGoes
      go_simp
      obtain ⟨hB, hx, hy, hM0, hz, hw_⟩ := HC.out
      exact hK _ _ ⟨⟨hB, hx, hy, hM0, hz, hw_⟩, rfl, Below.refl _ _⟩
    · intro σ L W' hall hC hR
      obtain ⟨hB, hx, hy, hM0, hz, hw_⟩ := hC
      obtain ⟨g8, A5, n5, c5, e8, hg10, s10, hp10⟩ : ∃ (g8 : Nat) (A5 : Option Addr) (n5 c5 : Nat), σ 8 = .pointer (some ⟨g8, 0, none⟩) ∧ M0 ≤ g8 ∧ BoxAt W' g8 #[.int .i64 q.1.rd, .int .i64 q.1.mo, .slice A5 n5 c5, .int .i64 q.1.fi, .int .i64 q.1.la] 75 ∧ RgsW M0 W'.heap.size W' A5 n5 c5 q.1.rs := hR 10 (by decide)
      obtain ⟨g9, e9, hg11, s11⟩ : ∃ g9, σ 9 = .pointer (some ⟨g9, 0, none⟩) ∧ M0 ≤ g9 ∧ BoxAt W' g9 #[.int .i64 q.2.1.at_, .int .i64 q.2.1.v, .int .i64 q.2.1.r, .int .i64 q.2.1.t, .bool q.2.1.seen.s, .int .i64 q.2.1.seen.n, .bool q.2.1.seen.f, .int .i64 q.2.1.seen.v, .int .i64 q.2.1.tr, .int .i64 q.2.1.sp, .bool q.2.1.ag, .int .i64 q.2.1.re] 41 := hR 11 (by decide)
      have e12 : σ 12 = .bool q.2.2 := hR 12 (by decide)
      clear hR
      simp only [lexAll]
      go_simp
      go_step
      go_meet
      exact ⟨hB, hx, hy, hz, hw_, hM0, g8, g9, A5, n5, c5, hg10, hg11, s10, s11, hp10, rfl, rfl, rfl⟩
  case rest =>
    clear hB hx hy hz hw_ hM0
    obtain ⟨hB, hx, hy, hz, hw_, hM0, X, Y, A5, n5, c5, hXM, hYM, hX, hY, hG, rfl, rfl, rfl⟩ := hcut
    cases hq2 : q.2.2
    · have HV := Lib.hid (show stepS takeS lateB s (⟨at_, v, r, t, seen, tr, sp, ag, re⟩ : Hd) = (s, (⟨at_, v, r, t, seen, tr, sp, ag, re⟩ : Hd), false) by simp [stepS, HOK.out, HHO.out, HTB.out, HRB.out, HQ.out, hq2])
      go_upto_region 7 with fail
      obtain ⟨M0, hMe⟩ : ∃ M1, M1 = wc.heap.size := ⟨_, rfl⟩
      have hM0 : M0 ≤ wc.heap.size := by omega
      have hM4 : w.heap.size + 4 ≤ M0 := by have := hw_.lt; omega
      clear hMe 
      refine wp_region2 (fun w w' => Below w.heap.size w w') (fun _ _ h => h.size) (fun L W' => Below w.heap.size w W' ∧ BoxAt W' w.heap.size #[.int .i64 s.rd, .int .i64 s.mo, .slice A n cap, .int .i64 s.fi, .int .i64 s.la] 75 ∧ BoxAt W' (w.heap.size + 1) #[.int .i64 at_, .int .i64 v, .int .i64 r, .int .i64 t, .bool seen.s, .int .i64 seen.n, .bool seen.f, .int .i64 seen.v, .int .i64 tr, .int .i64 sp, .bool ag, .int .i64 re] 41 ∧ M0 ≤ W'.heap.size ∧ (∃ x0 x1 x2 x3 x4, BoxAt W' (w.heap.size + 1 + 1) #[x0, x1, x2, x3, x4] 75) ∧ (L 3 = false → BoxAt W' (w.heap.size + 1 + 1) #[.int .i64 0, .int .i64 0, .slice none 0 0, .int .i64 0, .int .i64 0] 75) ∧ (∃ x0 x1 x2 x3 x4 x5 x6 x7 x8 x9 x10 x11, BoxAt W' (w.heap.size + 1 + 1 + 1) #[x0, x1, x2, x3, x4, x5, x6, x7, x8, x9, x10, x11] 41) ∧ (L 4 = false → BoxAt W' (w.heap.size + 1 + 1 + 1) #[.int .i64 0, .int .i64 0, .int .i64 0, .int .i64 0, .bool false, .int .i64 0, .bool false, .int .i64 0, .int .i64 0, .int .i64 0, .bool false, .int .i64 0] 41)) (ts7R s w.heap.size M0 n cap A at_ v r t seen tr sp ag re) ts7K ts7S (by kernel_rfl) (by kernel_rfl) ?_ ?_ ?_
        (.grow rfl ?_ <| .grow rfl ?_ <| .grow rfl ?_ <| .store rfl ?_ <| .store rfl ?_ <| .grow rfl ?_ <| .nil) ?_
      · intro j σ τ w h hR
        match j, h, hR with
        | 0, h, hR => exact (h 0 (List.mem_singleton.2 rfl)).symm.trans hR
        | 1, h, hR => obtain ⟨A5, n5, c5, e, hp⟩ := hR; exact ⟨A5, n5, c5, (h 1 (List.mem_singleton.2 rfl)).symm.trans e, hp⟩
        | 2, h, hR => exact (h 2 (List.mem_singleton.2 rfl)).symm.trans hR
        | 3, _, hR => exact hR
        | 4, _, hR => exact hR
        | 5, h, hR => exact (h 5 (List.mem_singleton.2 rfl)).symm.trans hR
        | _ + 6, _, _ => exact trivial
      · intro j σ w w' hb hR
        match j, hR with
        | 0, hR => exact hR
        | 1, hR => obtain ⟨A5, n5, c5, e, hp⟩ := hR; exact ⟨A5, n5, c5, e, (hp.below hb (Nat.le_refl _)).mono (Nat.le_refl _) hb.size⟩
        | 2, hR => exact hR
        | 3, hR => obtain ⟨A5, n5, c5, hx, hp⟩ := hR; exact ⟨A5, n5, c5, hx.below hb hx.lt, (hp.below hb (Nat.le_refl _)).mono (Nat.le_refl _) hb.size⟩
        | 4, hR => exact hR.below hb hR.lt
        | 5, hR => exact hR
        | _ + 6, _ => exact trivial
      · exact ⟨hB.drew, hx, hy, hM0, ⟨_, _, _, _, _, hz⟩, fun _ => hz, ⟨_, _, _, _, _, _, _, _, _, _, _, _, hw_⟩, fun _ => hw_⟩
      · -- 0: Op.load 75 t2
        go_light
        intro L σ W' hcl hL hC hw
        clear hw
        have HC := Lib.hid hC
        obtain ⟨hB, hx, hy, hM0, ⟨hz_x0, hz_x1, hz_x2, hz_x3, hz_x4, hz⟩, hz_o, ⟨hw__x0, hw__x1, hw__x2, hw__x3, hw__x4, hw__x5, hw__x6, hw__x7, hw__x8, hw__x9, hw__x10, hw__x11, hw_⟩, hw__o⟩ := hC
        have ks := hx.cell
        clear hcl hL
        clear hB hx hy hM0 hz hz_o hw_ hw__o
        refine OpGoes.step fun K hK => ?_
        unfold OpGoes
        go_simp
        obtain ⟨hB, hx, hy, hM0, ⟨hz_x0, hz_x1, hz_x2, hz_x3, hz_x4, hz⟩, hz_o, ⟨hw__x0, hw__x1, hw__x2, hw__x3, hw__x4, hw__x5, hw__x6, hw__x7, hw__x8, hw__x9, hw__x10, hw__x11, hw_⟩, hw__o⟩ := HC.out
        exact hK _ _ ⟨⟨hB, hx, hy, hM0, ⟨_, _, _, _, _, hz⟩, fun h => hz_o (by simpa [upd] using h), ⟨_, _, _, _, _, _, _, _, _, _, _, _, hw_⟩, fun h => hw__o (by simpa [upd] using h)⟩, rfl, Below.refl _ _⟩
      · -- 1: Op.call { value (Operand.func 83), args := #[t48], argTypes := #[75] }
        go_light
        intro L σ W' hcl hL hC hw
        have e0 : σ 0 = .agg #[.int .i64 s.rd, .int .i64 s.mo, .slice A n cap, .int .i64 s.fi, .int .i64 s.la] := hw 0 (by kernel_rfl)
        clear hw
        have HC := Lib.hid hC
        clear hC
        clear hcl hL
        refine OpGoes.step fun K hK => ?_
        unfold OpGoes
        go_simp
        obtain ⟨hB, hx, hy, hM0, ⟨hz_x0, hz_x1, hz_x2, hz_x3, hz_x4, hz⟩, hz_o, ⟨hw__x0, hw__x1, hw__x2, hw__x3, hw__x4, hw__x5, hw__x6, hw__x7, hw__x8, hw__x9, hw__x10, hw__x11, hw_⟩, hw__o⟩ := HC.out
        refine (HCPY.out _ hB).mono ?_
        rintro e w1 ⟨A5, n5, c5, rfl, hG5, hb1⟩
        exact ⟨_, rfl, hK _ _ ⟨⟨bstep hB hB.size hb1, hx.below hb1 hx.lt, hy.below hb1 hy.lt, Nat.le_trans hM0 hb1.size, ⟨_, _, _, _, _, hz.below hb1 hz.lt⟩, fun h => (hz_o (by simpa [upd] using h)).below hb1 (hz_o (by simpa [upd] using h)).lt, ⟨_, _, _, _, _, _, _, _, _, _, _, _, hw_.below hb1 hw_.lt⟩, fun h => (hw__o (by simpa [upd] using h)).below hb1 (hw__o (by simpa [upd] using h)).lt⟩, ⟨A5, n5, c5, rfl, hG5.mono hM0 (Nat.le_refl _)⟩, hb1⟩⟩
      · -- 2: Op.load 41 t3
        go_light
        intro L σ W' hcl hL hC hw
        clear hw
        have HC := Lib.hid hC
        obtain ⟨hB, hx, hy, hM0, ⟨hz_x0, hz_x1, hz_x2, hz_x3, hz_x4, hz⟩, hz_o, ⟨hw__x0, hw__x1, hw__x2, hw__x3, hw__x4, hw__x5, hw__x6, hw__x7, hw__x8, hw__x9, hw__x10, hw__x11, hw_⟩, hw__o⟩ := hC
        have kh := hy.cell
        clear hcl hL
        clear hB hx hy hM0 hz hz_o hw_ hw__o
        refine OpGoes.step fun K hK => ?_
        unfold OpGoes
        go_simp
        obtain ⟨hB, hx, hy, hM0, ⟨hz_x0, hz_x1, hz_x2, hz_x3, hz_x4, hz⟩, hz_o, ⟨hw__x0, hw__x1, hw__x2, hw__x3, hw__x4, hw__x5, hw__x6, hw__x7, hw__x8, hw__x9, hw__x10, hw__x11, hw_⟩, hw__o⟩ := HC.out
        exact hK _ _ ⟨⟨hB, hx, hy, hM0, ⟨_, _, _, _, _, hz⟩, fun h => hz_o (by simpa [upd] using h), ⟨_, _, _, _, _, _, _, _, _, _, _, _, hw_⟩, fun h => hw__o (by simpa [upd] using h)⟩, rfl, Below.refl _ _⟩
      · -- 3: Op.store 75 t4 t49
        go_light
        intro L σ W' hcl hL hC hw hne
        obtain ⟨A5, n5, c5, e1, hp1⟩ : ∃ (A5 : Option Addr) (n5 c5 : Nat), σ 1 = .agg #[.int .i64 s.rd, .int .i64 s.mo, .slice A5 n5 c5, .int .i64 s.fi, .int .i64 s.la] ∧ RgsW M0 W'.heap.size W' A5 n5 c5 s.rs := hw 1 (by kernel_rfl)
        clear hw hne
        have HC := Lib.hid hC
        obtain ⟨hB, hx, hy, hM0, ⟨hz_x0, hz_x1, hz_x2, hz_x3, hz_x4, hz⟩, hz_o, ⟨hw__x0, hw__x1, hw__x2, hw__x3, hw__x4, hw__x5, hw__x6, hw__x7, hw__x8, hw__x9, hw__x10, hw__x11, hw_⟩, hw__o⟩ := hC
        clear hcl hL
        have kc_ := hz.cell
        have kf_ := hz.frozen
        clear hB hx hy hM0 hz hz_o hw_ hw__o
        refine OpGoes.step fun K hK => ?_
        unfold OpGoes
        go_simp
        obtain ⟨hB, hx, hy, hM0, ⟨hz_x0, hz_x1, hz_x2, hz_x3, hz_x4, hz⟩, hz_o, ⟨hw__x0, hw__x1, hw__x2, hw__x3, hw__x4, hw__x5, hw__x6, hw__x7, hw__x8, hw__x9, hw__x10, hw__x11, hw_⟩, hw__o⟩ := HC.out
        have hset := sets_all (us := [.int .i64 s.rd, .int .i64 s.mo, .slice A5 n5 c5, .int .i64 s.fi, .int .i64 s.la]) hz rfl
        refine hK undef (setCells W' (w.heap.size + 1 + 1) 0 [.int .i64 s.rd, .int .i64 s.mo, .slice A5 n5 c5, .int .i64 s.fi, .int .i64 s.la]) ⟨⟨(Below.setCells (by omega) [.int .i64 s.rd, .int .i64 s.mo, .slice A5 n5 c5, .int .i64 s.fi, .int .i64 s.la] 0 hB), (BoxAt.sets_ne [.int .i64 s.rd, .int .i64 s.mo, .slice A5 n5 c5, .int .i64 s.fi, .int .i64 s.la] 0 hx (by omega)), (BoxAt.sets_ne [.int .i64 s.rd, .int .i64 s.mo, .slice A5 n5 c5, .int .i64 s.fi, .int .i64 s.la] 0 hy (by omega)), (size_sts hM0 [.int .i64 s.rd, .int .i64 s.mo, .slice A5 n5 c5, .int .i64 s.fi, .int .i64 s.la] 0), ⟨_, _, _, _, _, hset⟩, fun h => absurd h (by simp [upd]), ⟨_, _, _, _, _, _, _, _, _, _, _, _, (BoxAt.sets_ne [.int .i64 s.rd, .int .i64 s.mo, .slice A5 n5 c5, .int .i64 s.fi, .int .i64 s.la] 0 hw_ (by omega))⟩, fun h => (BoxAt.sets_ne [.int .i64 s.rd, .int .i64 s.mo, .slice A5 n5 c5, .int .i64 s.fi, .int .i64 s.la] 0 (hw__o (by simpa [upd] using h)) (by omega))⟩, ⟨A5, n5, c5, hset, ((RgsW.setsT hp1 hz (by decide) (by decide) [.int .i64 s.rd, .int .i64 s.mo, .slice A5 n5 c5, .int .i64 s.fi, .int .i64 s.la] 0).mono (Nat.le_refl _) (Nat.le_of_eq (sets_size _ _ _).symm))⟩, Nat.le_of_eq (sets_size _ _ _).symm, fun j hj hn hR => ?_⟩
        match j, hj, hn, hR with
        | 0, _, _, hR => exact (show σ 0 = .agg #[.int .i64 s.rd, .int .i64 s.mo, .slice A n cap, .int .i64 s.fi, .int .i64 s.la] from hR)
        | 1, _, _, hR => obtain ⟨A5_x, n5_x, c5_x, e, hp⟩ := hR; exact ⟨A5_x, n5_x, c5_x, e, ((RgsW.setsT hp hz (by decide) (by decide) [.int .i64 s.rd, .int .i64 s.mo, .slice A5 n5 c5, .int .i64 s.fi, .int .i64 s.la] 0).mono (Nat.le_refl _) (Nat.le_of_eq (sets_size _ _ _).symm))⟩
        | 2, _, _, hR => exact (show σ 2 = .agg #[.int .i64 at_, .int .i64 v, .int .i64 r, .int .i64 t, .bool seen.s, .int .i64 seen.n, .bool seen.f, .int .i64 seen.v, .int .i64 tr, .int .i64 sp, .bool ag, .int .i64 re] from hR)
        | 3, hj, _, _ => exact absurd rfl hj
        | 4, _, _, hR => exact (BoxAt.sets_ne [.int .i64 s.rd, .int .i64 s.mo, .slice A5 n5 c5, .int .i64 s.fi, .int .i64 s.la] 0 hR (by omega))
        | 5, _, _, hR => exact (show σ 5 = .bool false from hR)
        | _ + 6, _, _, _ => exact trivial
      · -- 4: Op.store 41 t5 t50
        go_light
        intro L σ W' hcl hL hC hw hne
        have e2 : σ 2 = .agg #[.int .i64 at_, .int .i64 v, .int .i64 r, .int .i64 t, .bool seen.s, .int .i64 seen.n, .bool seen.f, .int .i64 seen.v, .int .i64 tr, .int .i64 sp, .bool ag, .int .i64 re] := hw 2 (by kernel_rfl)
        clear hw hne
        have HC := Lib.hid hC
        obtain ⟨hB, hx, hy, hM0, ⟨hz_x0, hz_x1, hz_x2, hz_x3, hz_x4, hz⟩, hz_o, ⟨hw__x0, hw__x1, hw__x2, hw__x3, hw__x4, hw__x5, hw__x6, hw__x7, hw__x8, hw__x9, hw__x10, hw__x11, hw_⟩, hw__o⟩ := hC
        clear hcl hL
        have kc_ := hw_.cell
        have kf_ := hw_.frozen
        clear hB hx hy hM0 hz hz_o hw_ hw__o
        refine OpGoes.step fun K hK => ?_
        unfold OpGoes
        go_simp
        obtain ⟨hB, hx, hy, hM0, ⟨hz_x0, hz_x1, hz_x2, hz_x3, hz_x4, hz⟩, hz_o, ⟨hw__x0, hw__x1, hw__x2, hw__x3, hw__x4, hw__x5, hw__x6, hw__x7, hw__x8, hw__x9, hw__x10, hw__x11, hw_⟩, hw__o⟩ := HC.out
        have hset := sets_all (us := [.int .i64 at_, .int .i64 v, .int .i64 r, .int .i64 t, .bool seen.s, .int .i64 seen.n, .bool seen.f, .int .i64 seen.v, .int .i64 tr, .int .i64 sp, .bool ag, .int .i64 re]) hw_ rfl
        refine hK undef (setCells W' (w.heap.size + 1 + 1 + 1) 0 [.int .i64 at_, .int .i64 v, .int .i64 r, .int .i64 t, .bool seen.s, .int .i64 seen.n, .bool seen.f, .int .i64 seen.v, .int .i64 tr, .int .i64 sp, .bool ag, .int .i64 re]) ⟨⟨(Below.setCells (by omega) [.int .i64 at_, .int .i64 v, .int .i64 r, .int .i64 t, .bool seen.s, .int .i64 seen.n, .bool seen.f, .int .i64 seen.v, .int .i64 tr, .int .i64 sp, .bool ag, .int .i64 re] 0 hB), (BoxAt.sets_ne [.int .i64 at_, .int .i64 v, .int .i64 r, .int .i64 t, .bool seen.s, .int .i64 seen.n, .bool seen.f, .int .i64 seen.v, .int .i64 tr, .int .i64 sp, .bool ag, .int .i64 re] 0 hx (by omega)), (BoxAt.sets_ne [.int .i64 at_, .int .i64 v, .int .i64 r, .int .i64 t, .bool seen.s, .int .i64 seen.n, .bool seen.f, .int .i64 seen.v, .int .i64 tr, .int .i64 sp, .bool ag, .int .i64 re] 0 hy (by omega)), (size_sts hM0 [.int .i64 at_, .int .i64 v, .int .i64 r, .int .i64 t, .bool seen.s, .int .i64 seen.n, .bool seen.f, .int .i64 seen.v, .int .i64 tr, .int .i64 sp, .bool ag, .int .i64 re] 0), ⟨_, _, _, _, _, (BoxAt.sets_ne [.int .i64 at_, .int .i64 v, .int .i64 r, .int .i64 t, .bool seen.s, .int .i64 seen.n, .bool seen.f, .int .i64 seen.v, .int .i64 tr, .int .i64 sp, .bool ag, .int .i64 re] 0 hz (by omega))⟩, fun h => (BoxAt.sets_ne [.int .i64 at_, .int .i64 v, .int .i64 r, .int .i64 t, .bool seen.s, .int .i64 seen.n, .bool seen.f, .int .i64 seen.v, .int .i64 tr, .int .i64 sp, .bool ag, .int .i64 re] 0 (hz_o (by simpa [upd] using h)) (by omega)), ⟨_, _, _, _, _, _, _, _, _, _, _, _, hset⟩, fun h => absurd h (by simp [upd])⟩, hset, Nat.le_of_eq (sets_size _ _ _).symm, fun j hj hn hR => ?_⟩
        match j, hj, hn, hR with
        | 0, _, _, hR => exact (show σ 0 = .agg #[.int .i64 s.rd, .int .i64 s.mo, .slice A n cap, .int .i64 s.fi, .int .i64 s.la] from hR)
        | 1, _, _, hR => obtain ⟨A5_x, n5_x, c5_x, e, hp⟩ := hR; exact ⟨A5_x, n5_x, c5_x, e, ((RgsW.setsT hp hw_ (by decide) (by decide) [.int .i64 at_, .int .i64 v, .int .i64 r, .int .i64 t, .bool seen.s, .int .i64 seen.n, .bool seen.f, .int .i64 seen.v, .int .i64 tr, .int .i64 sp, .bool ag, .int .i64 re] 0).mono (Nat.le_refl _) (Nat.le_of_eq (sets_size _ _ _).symm))⟩
        | 2, _, _, hR => exact (show σ 2 = .agg #[.int .i64 at_, .int .i64 v, .int .i64 r, .int .i64 t, .bool seen.s, .int .i64 seen.n, .bool seen.f, .int .i64 seen.v, .int .i64 tr, .int .i64 sp, .bool ag, .int .i64 re] from hR)
        | 3, _, _, hR => obtain ⟨A5, n5, c5, hx, hp⟩ := hR; exact ⟨A5, n5, c5, (BoxAt.sets_ne [.int .i64 at_, .int .i64 v, .int .i64 r, .int .i64 t, .bool seen.s, .int .i64 seen.n, .bool seen.f, .int .i64 seen.v, .int .i64 tr, .int .i64 sp, .bool ag, .int .i64 re] 0 hx (by omega)), ((RgsW.setsT hp hw_ (by decide) (by decide) [.int .i64 at_, .int .i64 v, .int .i64 r, .int .i64 t, .bool seen.s, .int .i64 seen.n, .bool seen.f, .int .i64 seen.v, .int .i64 tr, .int .i64 sp, .bool ag, .int .i64 re] 0).mono (Nat.le_refl _) (Nat.le_of_eq (sets_size _ _ _).symm))⟩
        | 4, hj, _, _ => exact absurd rfl hj
        | 5, _, _, hR => exact (show σ 5 = .bool false from hR)
        | _ + 6, _, _, _ => exact trivial
      · -- 5: Op.assign (const (Value.bool false))
        go_light
        intro L σ W' hcl hL hC hw
        clear hw
        have HC := Lib.hid hC
        clear hC
        clear hcl hL
        refine OpGoes.step fun K hK => ?_
        unfold OpGoes
        go_simp
        obtain ⟨hB, hx, hy, hM0, ⟨hz_x0, hz_x1, hz_x2, hz_x3, hz_x4, hz⟩, hz_o, ⟨hw__x0, hw__x1, hw__x2, hw__x3, hw__x4, hw__x5, hw__x6, hw__x7, hw__x8, hw__x9, hw__x10, hw__x11, hw_⟩, hw__o⟩ := HC.out
        exact hK _ _ ⟨⟨hB, hx, hy, hM0, ⟨_, _, _, _, _, hz⟩, fun h => hz_o (by simpa [upd] using h), ⟨_, _, _, _, _, _, _, _, _, _, _, _, hw_⟩, fun h => hw__o (by simpa [upd] using h)⟩, rfl, Below.refl _ _⟩
      · intro σ L W' hall hC hR
        obtain ⟨hB, hx, hy, hM0, ⟨hz_x0, hz_x1, hz_x2, hz_x3, hz_x4, hz⟩, hz_o, ⟨hw__x0, hw__x1, hw__x2, hw__x3, hw__x4, hw__x5, hw__x6, hw__x7, hw__x8, hw__x9, hw__x10, hw__x11, hw_⟩, hw__o⟩ := hC
        obtain ⟨A5, n5, c5, s3, hp3⟩ : ∃ (A5 : Option Addr) (n5 c5 : Nat), BoxAt W' (w.heap.size + 1 + 1) #[.int .i64 s.rd, .int .i64 s.mo, .slice A5 n5 c5, .int .i64 s.fi, .int .i64 s.la] 75 ∧ RgsW M0 W'.heap.size W' A5 n5 c5 s.rs := hR 3 (by decide)
        have s4 : BoxAt W' (w.heap.size + 1 + 1 + 1) #[.int .i64 at_, .int .i64 v, .int .i64 r, .int .i64 t, .bool seen.s, .int .i64 seen.n, .bool seen.f, .int .i64 seen.v, .int .i64 tr, .int .i64 sp, .bool ag, .int .i64 re] 41 := hR 4 (by decide)
        have e5 : σ 5 = .bool false := hR 5 (by decide)
        clear hR
        simp only [lexAll]
        go_simp
        go_step
        have k7 := s3.cell
        have k8 := s4.cell
        go_wp2
        refine bodyPost_ret (v := .tuple #[stV s A5 n5 c5, hdV (⟨at_, v, r, t, seen, tr, sp, ag, re⟩ : Hd), .bool false]) (by simp [results, Try.results90, go_sem, k7, k8, stV, hdV]) rfl ⟨A5, n5, c5, by rw [HV.out], ?_, hB⟩
        rw [HV.out]
        exact hp3.mono (by omega) (Nat.le_refl _)
    · have HQ2 := Lib.hid hq2; clear hq2
      have kX := hX.cell
      go_wp2_with fail
      clear kX
      refine (sstoreOk_any q.1 A5 n5 c5 M0 wc.heap.size _ hG (Nat.le_refl _) (by have := hG.1; have := HQN.out.2.1; omega) HQN.out.len).mono ?_
      rintro e w4 ⟨rfl, hb⟩
      replace hX := hX.below hb hX.lt
      replace hY := hY.below hb hY.lt
      replace hG := (hG.below hb (Nat.le_refl _)).mono (Nat.le_refl _) hb.size
      replace hx := hx.below hb hx.lt
      replace hy := hy.below hb hy.lt
      replace hz := hz.below hb hz.lt
      replace hw_ := hw_.below hb hw_.lt
      replace hB := bstep hB hB.size hb
      have h4 := hb.size
      clear hb
      cases hsq : stOk q.1
      · have HV := Lib.hid (show stepS takeS lateB s (⟨at_, v, r, t, seen, tr, sp, ag, re⟩ : Hd) = (s, (⟨at_, v, r, t, seen, tr, sp, ag, re⟩ : Hd), false) by simp [stepS, HOK.out, HHO.out, HTB.out, HRB.out, HQ.out, HQ2.out, hsq])
        go_upto_region 7 with fail
        obtain ⟨M0, hMe⟩ : ∃ M1, M1 = w4.heap.size := ⟨_, rfl⟩
        have hM0 : M0 ≤ w4.heap.size := by omega
        have hM4 : w.heap.size + 4 ≤ M0 := by have := hw_.lt; omega
        clear hMe 
        refine wp_region2 (fun w w' => Below w.heap.size w w') (fun _ _ h => h.size) (fun L W' => Below w.heap.size w W' ∧ BoxAt W' w.heap.size #[.int .i64 s.rd, .int .i64 s.mo, .slice A n cap, .int .i64 s.fi, .int .i64 s.la] 75 ∧ BoxAt W' (w.heap.size + 1) #[.int .i64 at_, .int .i64 v, .int .i64 r, .int .i64 t, .bool seen.s, .int .i64 seen.n, .bool seen.f, .int .i64 seen.v, .int .i64 tr, .int .i64 sp, .bool ag, .int .i64 re] 41 ∧ M0 ≤ W'.heap.size ∧ (∃ x0 x1 x2 x3 x4, BoxAt W' (w.heap.size + 1 + 1) #[x0, x1, x2, x3, x4] 75) ∧ (L 3 = false → BoxAt W' (w.heap.size + 1 + 1) #[.int .i64 0, .int .i64 0, .slice none 0 0, .int .i64 0, .int .i64 0] 75) ∧ (∃ x0 x1 x2 x3 x4 x5 x6 x7 x8 x9 x10 x11, BoxAt W' (w.heap.size + 1 + 1 + 1) #[x0, x1, x2, x3, x4, x5, x6, x7, x8, x9, x10, x11] 41) ∧ (L 4 = false → BoxAt W' (w.heap.size + 1 + 1 + 1) #[.int .i64 0, .int .i64 0, .int .i64 0, .int .i64 0, .bool false, .int .i64 0, .bool false, .int .i64 0, .int .i64 0, .int .i64 0, .bool false, .int .i64 0] 41)) (ts7R s w.heap.size M0 n cap A at_ v r t seen tr sp ag re) ts7K ts7S (by kernel_rfl) (by kernel_rfl) ?_ ?_ ?_
          (.grow rfl ?_ <| .grow rfl ?_ <| .grow rfl ?_ <| .store rfl ?_ <| .store rfl ?_ <| .grow rfl ?_ <| .nil) ?_
        · intro j σ τ w h hR
          match j, h, hR with
          | 0, h, hR => exact (h 0 (List.mem_singleton.2 rfl)).symm.trans hR
          | 1, h, hR => obtain ⟨A5, n5, c5, e, hp⟩ := hR; exact ⟨A5, n5, c5, (h 1 (List.mem_singleton.2 rfl)).symm.trans e, hp⟩
          | 2, h, hR => exact (h 2 (List.mem_singleton.2 rfl)).symm.trans hR
          | 3, _, hR => exact hR
          | 4, _, hR => exact hR
          | 5, h, hR => exact (h 5 (List.mem_singleton.2 rfl)).symm.trans hR
          | _ + 6, _, _ => exact trivial
        · intro j σ w w' hb hR
          match j, hR with
          | 0, hR => exact hR
          | 1, hR => obtain ⟨A5, n5, c5, e, hp⟩ := hR; exact ⟨A5, n5, c5, e, (hp.below hb (Nat.le_refl _)).mono (Nat.le_refl _) hb.size⟩
          | 2, hR => exact hR
          | 3, hR => obtain ⟨A5, n5, c5, hx, hp⟩ := hR; exact ⟨A5, n5, c5, hx.below hb hx.lt, (hp.below hb (Nat.le_refl _)).mono (Nat.le_refl _) hb.size⟩
          | 4, hR => exact hR.below hb hR.lt
          | 5, hR => exact hR
          | _ + 6, _ => exact trivial
        · exact ⟨hB.drew, hx, hy, hM0, ⟨_, _, _, _, _, hz⟩, fun _ => hz, ⟨_, _, _, _, _, _, _, _, _, _, _, _, hw_⟩, fun _ => hw_⟩
        · -- 0: Op.load 75 t2
          go_light
          intro L σ W' hcl hL hC hw
          clear hw
          have HC := Lib.hid hC
          obtain ⟨hB, hx, hy, hM0, ⟨hz_x0, hz_x1, hz_x2, hz_x3, hz_x4, hz⟩, hz_o, ⟨hw__x0, hw__x1, hw__x2, hw__x3, hw__x4, hw__x5, hw__x6, hw__x7, hw__x8, hw__x9, hw__x10, hw__x11, hw_⟩, hw__o⟩ := hC
          have ks := hx.cell
          clear hcl hL
          clear hB hx hy hM0 hz hz_o hw_ hw__o
          refine OpGoes.step fun K hK => ?_
          unfold OpGoes
          go_simp
          obtain ⟨hB, hx, hy, hM0, ⟨hz_x0, hz_x1, hz_x2, hz_x3, hz_x4, hz⟩, hz_o, ⟨hw__x0, hw__x1, hw__x2, hw__x3, hw__x4, hw__x5, hw__x6, hw__x7, hw__x8, hw__x9, hw__x10, hw__x11, hw_⟩, hw__o⟩ := HC.out
          exact hK _ _ ⟨⟨hB, hx, hy, hM0, ⟨_, _, _, _, _, hz⟩, fun h => hz_o (by simpa [upd] using h), ⟨_, _, _, _, _, _, _, _, _, _, _, _, hw_⟩, fun h => hw__o (by simpa [upd] using h)⟩, rfl, Below.refl _ _⟩
        · -- 1: Op.call { value (Operand.func 83), args := #[t48], argTypes := #[75] }
          go_light
          intro L σ W' hcl hL hC hw
          have e0 : σ 0 = .agg #[.int .i64 s.rd, .int .i64 s.mo, .slice A n cap, .int .i64 s.fi, .int .i64 s.la] := hw 0 (by kernel_rfl)
          clear hw
          have HC := Lib.hid hC
          clear hC
          clear hcl hL
          refine OpGoes.step fun K hK => ?_
          unfold OpGoes
          go_simp
          obtain ⟨hB, hx, hy, hM0, ⟨hz_x0, hz_x1, hz_x2, hz_x3, hz_x4, hz⟩, hz_o, ⟨hw__x0, hw__x1, hw__x2, hw__x3, hw__x4, hw__x5, hw__x6, hw__x7, hw__x8, hw__x9, hw__x10, hw__x11, hw_⟩, hw__o⟩ := HC.out
          refine (HCPY.out _ hB).mono ?_
          rintro e w1 ⟨A5, n5, c5, rfl, hG5, hb1⟩
          exact ⟨_, rfl, hK _ _ ⟨⟨bstep hB hB.size hb1, hx.below hb1 hx.lt, hy.below hb1 hy.lt, Nat.le_trans hM0 hb1.size, ⟨_, _, _, _, _, hz.below hb1 hz.lt⟩, fun h => (hz_o (by simpa [upd] using h)).below hb1 (hz_o (by simpa [upd] using h)).lt, ⟨_, _, _, _, _, _, _, _, _, _, _, _, hw_.below hb1 hw_.lt⟩, fun h => (hw__o (by simpa [upd] using h)).below hb1 (hw__o (by simpa [upd] using h)).lt⟩, ⟨A5, n5, c5, rfl, hG5.mono hM0 (Nat.le_refl _)⟩, hb1⟩⟩
        · -- 2: Op.load 41 t3
          go_light
          intro L σ W' hcl hL hC hw
          clear hw
          have HC := Lib.hid hC
          obtain ⟨hB, hx, hy, hM0, ⟨hz_x0, hz_x1, hz_x2, hz_x3, hz_x4, hz⟩, hz_o, ⟨hw__x0, hw__x1, hw__x2, hw__x3, hw__x4, hw__x5, hw__x6, hw__x7, hw__x8, hw__x9, hw__x10, hw__x11, hw_⟩, hw__o⟩ := hC
          have kh := hy.cell
          clear hcl hL
          clear hB hx hy hM0 hz hz_o hw_ hw__o
          refine OpGoes.step fun K hK => ?_
          unfold OpGoes
          go_simp
          obtain ⟨hB, hx, hy, hM0, ⟨hz_x0, hz_x1, hz_x2, hz_x3, hz_x4, hz⟩, hz_o, ⟨hw__x0, hw__x1, hw__x2, hw__x3, hw__x4, hw__x5, hw__x6, hw__x7, hw__x8, hw__x9, hw__x10, hw__x11, hw_⟩, hw__o⟩ := HC.out
          exact hK _ _ ⟨⟨hB, hx, hy, hM0, ⟨_, _, _, _, _, hz⟩, fun h => hz_o (by simpa [upd] using h), ⟨_, _, _, _, _, _, _, _, _, _, _, _, hw_⟩, fun h => hw__o (by simpa [upd] using h)⟩, rfl, Below.refl _ _⟩
        · -- 3: Op.store 75 t4 t49
          go_light
          intro L σ W' hcl hL hC hw hne
          obtain ⟨A5, n5, c5, e1, hp1⟩ : ∃ (A5 : Option Addr) (n5 c5 : Nat), σ 1 = .agg #[.int .i64 s.rd, .int .i64 s.mo, .slice A5 n5 c5, .int .i64 s.fi, .int .i64 s.la] ∧ RgsW M0 W'.heap.size W' A5 n5 c5 s.rs := hw 1 (by kernel_rfl)
          clear hw hne
          have HC := Lib.hid hC
          obtain ⟨hB, hx, hy, hM0, ⟨hz_x0, hz_x1, hz_x2, hz_x3, hz_x4, hz⟩, hz_o, ⟨hw__x0, hw__x1, hw__x2, hw__x3, hw__x4, hw__x5, hw__x6, hw__x7, hw__x8, hw__x9, hw__x10, hw__x11, hw_⟩, hw__o⟩ := hC
          clear hcl hL
          have kc_ := hz.cell
          have kf_ := hz.frozen
          clear hB hx hy hM0 hz hz_o hw_ hw__o
          refine OpGoes.step fun K hK => ?_
          unfold OpGoes
          go_simp
          obtain ⟨hB, hx, hy, hM0, ⟨hz_x0, hz_x1, hz_x2, hz_x3, hz_x4, hz⟩, hz_o, ⟨hw__x0, hw__x1, hw__x2, hw__x3, hw__x4, hw__x5, hw__x6, hw__x7, hw__x8, hw__x9, hw__x10, hw__x11, hw_⟩, hw__o⟩ := HC.out
          have hset := sets_all (us := [.int .i64 s.rd, .int .i64 s.mo, .slice A5 n5 c5, .int .i64 s.fi, .int .i64 s.la]) hz rfl
          refine hK undef (setCells W' (w.heap.size + 1 + 1) 0 [.int .i64 s.rd, .int .i64 s.mo, .slice A5 n5 c5, .int .i64 s.fi, .int .i64 s.la]) ⟨⟨(Below.setCells (by omega) [.int .i64 s.rd, .int .i64 s.mo, .slice A5 n5 c5, .int .i64 s.fi, .int .i64 s.la] 0 hB), (BoxAt.sets_ne [.int .i64 s.rd, .int .i64 s.mo, .slice A5 n5 c5, .int .i64 s.fi, .int .i64 s.la] 0 hx (by omega)), (BoxAt.sets_ne [.int .i64 s.rd, .int .i64 s.mo, .slice A5 n5 c5, .int .i64 s.fi, .int .i64 s.la] 0 hy (by omega)), (size_sts hM0 [.int .i64 s.rd, .int .i64 s.mo, .slice A5 n5 c5, .int .i64 s.fi, .int .i64 s.la] 0), ⟨_, _, _, _, _, hset⟩, fun h => absurd h (by simp [upd]), ⟨_, _, _, _, _, _, _, _, _, _, _, _, (BoxAt.sets_ne [.int .i64 s.rd, .int .i64 s.mo, .slice A5 n5 c5, .int .i64 s.fi, .int .i64 s.la] 0 hw_ (by omega))⟩, fun h => (BoxAt.sets_ne [.int .i64 s.rd, .int .i64 s.mo, .slice A5 n5 c5, .int .i64 s.fi, .int .i64 s.la] 0 (hw__o (by simpa [upd] using h)) (by omega))⟩, ⟨A5, n5, c5, hset, ((RgsW.setsT hp1 hz (by decide) (by decide) [.int .i64 s.rd, .int .i64 s.mo, .slice A5 n5 c5, .int .i64 s.fi, .int .i64 s.la] 0).mono (Nat.le_refl _) (Nat.le_of_eq (sets_size _ _ _).symm))⟩, Nat.le_of_eq (sets_size _ _ _).symm, fun j hj hn hR => ?_⟩
          match j, hj, hn, hR with
          | 0, _, _, hR => exact (show σ 0 = .agg #[.int .i64 s.rd, .int .i64 s.mo, .slice A n cap, .int .i64 s.fi, .int .i64 s.la] from hR)
          | 1, _, _, hR => obtain ⟨A5_x, n5_x, c5_x, e, hp⟩ := hR; exact ⟨A5_x, n5_x, c5_x, e, ((RgsW.setsT hp hz (by decide) (by decide) [.int .i64 s.rd, .int .i64 s.mo, .slice A5 n5 c5, .int .i64 s.fi, .int .i64 s.la] 0).mono (Nat.le_refl _) (Nat.le_of_eq (sets_size _ _ _).symm))⟩
          | 2, _, _, hR => exact (show σ 2 = .agg #[.int .i64 at_, .int .i64 v, .int .i64 r, .int .i64 t, .bool seen.s, .int .i64 seen.n, .bool seen.f, .int .i64 seen.v, .int .i64 tr, .int .i64 sp, .bool ag, .int .i64 re] from hR)
          | 3, hj, _, _ => exact absurd rfl hj
          | 4, _, _, hR => exact (BoxAt.sets_ne [.int .i64 s.rd, .int .i64 s.mo, .slice A5 n5 c5, .int .i64 s.fi, .int .i64 s.la] 0 hR (by omega))
          | 5, _, _, hR => exact (show σ 5 = .bool false from hR)
          | _ + 6, _, _, _ => exact trivial
        · -- 4: Op.store 41 t5 t50
          go_light
          intro L σ W' hcl hL hC hw hne
          have e2 : σ 2 = .agg #[.int .i64 at_, .int .i64 v, .int .i64 r, .int .i64 t, .bool seen.s, .int .i64 seen.n, .bool seen.f, .int .i64 seen.v, .int .i64 tr, .int .i64 sp, .bool ag, .int .i64 re] := hw 2 (by kernel_rfl)
          clear hw hne
          have HC := Lib.hid hC
          obtain ⟨hB, hx, hy, hM0, ⟨hz_x0, hz_x1, hz_x2, hz_x3, hz_x4, hz⟩, hz_o, ⟨hw__x0, hw__x1, hw__x2, hw__x3, hw__x4, hw__x5, hw__x6, hw__x7, hw__x8, hw__x9, hw__x10, hw__x11, hw_⟩, hw__o⟩ := hC
          clear hcl hL
          have kc_ := hw_.cell
          have kf_ := hw_.frozen
          clear hB hx hy hM0 hz hz_o hw_ hw__o
          refine OpGoes.step fun K hK => ?_
          unfold OpGoes
          go_simp
          obtain ⟨hB, hx, hy, hM0, ⟨hz_x0, hz_x1, hz_x2, hz_x3, hz_x4, hz⟩, hz_o, ⟨hw__x0, hw__x1, hw__x2, hw__x3, hw__x4, hw__x5, hw__x6, hw__x7, hw__x8, hw__x9, hw__x10, hw__x11, hw_⟩, hw__o⟩ := HC.out
          have hset := sets_all (us := [.int .i64 at_, .int .i64 v, .int .i64 r, .int .i64 t, .bool seen.s, .int .i64 seen.n, .bool seen.f, .int .i64 seen.v, .int .i64 tr, .int .i64 sp, .bool ag, .int .i64 re]) hw_ rfl
          refine hK undef (setCells W' (w.heap.size + 1 + 1 + 1) 0 [.int .i64 at_, .int .i64 v, .int .i64 r, .int .i64 t, .bool seen.s, .int .i64 seen.n, .bool seen.f, .int .i64 seen.v, .int .i64 tr, .int .i64 sp, .bool ag, .int .i64 re]) ⟨⟨(Below.setCells (by omega) [.int .i64 at_, .int .i64 v, .int .i64 r, .int .i64 t, .bool seen.s, .int .i64 seen.n, .bool seen.f, .int .i64 seen.v, .int .i64 tr, .int .i64 sp, .bool ag, .int .i64 re] 0 hB), (BoxAt.sets_ne [.int .i64 at_, .int .i64 v, .int .i64 r, .int .i64 t, .bool seen.s, .int .i64 seen.n, .bool seen.f, .int .i64 seen.v, .int .i64 tr, .int .i64 sp, .bool ag, .int .i64 re] 0 hx (by omega)), (BoxAt.sets_ne [.int .i64 at_, .int .i64 v, .int .i64 r, .int .i64 t, .bool seen.s, .int .i64 seen.n, .bool seen.f, .int .i64 seen.v, .int .i64 tr, .int .i64 sp, .bool ag, .int .i64 re] 0 hy (by omega)), (size_sts hM0 [.int .i64 at_, .int .i64 v, .int .i64 r, .int .i64 t, .bool seen.s, .int .i64 seen.n, .bool seen.f, .int .i64 seen.v, .int .i64 tr, .int .i64 sp, .bool ag, .int .i64 re] 0), ⟨_, _, _, _, _, (BoxAt.sets_ne [.int .i64 at_, .int .i64 v, .int .i64 r, .int .i64 t, .bool seen.s, .int .i64 seen.n, .bool seen.f, .int .i64 seen.v, .int .i64 tr, .int .i64 sp, .bool ag, .int .i64 re] 0 hz (by omega))⟩, fun h => (BoxAt.sets_ne [.int .i64 at_, .int .i64 v, .int .i64 r, .int .i64 t, .bool seen.s, .int .i64 seen.n, .bool seen.f, .int .i64 seen.v, .int .i64 tr, .int .i64 sp, .bool ag, .int .i64 re] 0 (hz_o (by simpa [upd] using h)) (by omega)), ⟨_, _, _, _, _, _, _, _, _, _, _, _, hset⟩, fun h => absurd h (by simp [upd])⟩, hset, Nat.le_of_eq (sets_size _ _ _).symm, fun j hj hn hR => ?_⟩
          match j, hj, hn, hR with
          | 0, _, _, hR => exact (show σ 0 = .agg #[.int .i64 s.rd, .int .i64 s.mo, .slice A n cap, .int .i64 s.fi, .int .i64 s.la] from hR)
          | 1, _, _, hR => obtain ⟨A5_x, n5_x, c5_x, e, hp⟩ := hR; exact ⟨A5_x, n5_x, c5_x, e, ((RgsW.setsT hp hw_ (by decide) (by decide) [.int .i64 at_, .int .i64 v, .int .i64 r, .int .i64 t, .bool seen.s, .int .i64 seen.n, .bool seen.f, .int .i64 seen.v, .int .i64 tr, .int .i64 sp, .bool ag, .int .i64 re] 0).mono (Nat.le_refl _) (Nat.le_of_eq (sets_size _ _ _).symm))⟩
          | 2, _, _, hR => exact (show σ 2 = .agg #[.int .i64 at_, .int .i64 v, .int .i64 r, .int .i64 t, .bool seen.s, .int .i64 seen.n, .bool seen.f, .int .i64 seen.v, .int .i64 tr, .int .i64 sp, .bool ag, .int .i64 re] from hR)
          | 3, _, _, hR => obtain ⟨A5, n5, c5, hx, hp⟩ := hR; exact ⟨A5, n5, c5, (BoxAt.sets_ne [.int .i64 at_, .int .i64 v, .int .i64 r, .int .i64 t, .bool seen.s, .int .i64 seen.n, .bool seen.f, .int .i64 seen.v, .int .i64 tr, .int .i64 sp, .bool ag, .int .i64 re] 0 hx (by omega)), ((RgsW.setsT hp hw_ (by decide) (by decide) [.int .i64 at_, .int .i64 v, .int .i64 r, .int .i64 t, .bool seen.s, .int .i64 seen.n, .bool seen.f, .int .i64 seen.v, .int .i64 tr, .int .i64 sp, .bool ag, .int .i64 re] 0).mono (Nat.le_refl _) (Nat.le_of_eq (sets_size _ _ _).symm))⟩
          | 4, hj, _, _ => exact absurd rfl hj
          | 5, _, _, hR => exact (show σ 5 = .bool false from hR)
          | _ + 6, _, _, _ => exact trivial
        · -- 5: Op.assign (const (Value.bool false))
          go_light
          intro L σ W' hcl hL hC hw
          clear hw
          have HC := Lib.hid hC
          clear hC
          clear hcl hL
          refine OpGoes.step fun K hK => ?_
          unfold OpGoes
          go_simp
          obtain ⟨hB, hx, hy, hM0, ⟨hz_x0, hz_x1, hz_x2, hz_x3, hz_x4, hz⟩, hz_o, ⟨hw__x0, hw__x1, hw__x2, hw__x3, hw__x4, hw__x5, hw__x6, hw__x7, hw__x8, hw__x9, hw__x10, hw__x11, hw_⟩, hw__o⟩ := HC.out
          exact hK _ _ ⟨⟨hB, hx, hy, hM0, ⟨_, _, _, _, _, hz⟩, fun h => hz_o (by simpa [upd] using h), ⟨_, _, _, _, _, _, _, _, _, _, _, _, hw_⟩, fun h => hw__o (by simpa [upd] using h)⟩, rfl, Below.refl _ _⟩
        · intro σ L W' hall hC hR
          obtain ⟨hB, hx, hy, hM0, ⟨hz_x0, hz_x1, hz_x2, hz_x3, hz_x4, hz⟩, hz_o, ⟨hw__x0, hw__x1, hw__x2, hw__x3, hw__x4, hw__x5, hw__x6, hw__x7, hw__x8, hw__x9, hw__x10, hw__x11, hw_⟩, hw__o⟩ := hC
          obtain ⟨A5, n5, c5, s3, hp3⟩ : ∃ (A5 : Option Addr) (n5 c5 : Nat), BoxAt W' (w.heap.size + 1 + 1) #[.int .i64 s.rd, .int .i64 s.mo, .slice A5 n5 c5, .int .i64 s.fi, .int .i64 s.la] 75 ∧ RgsW M0 W'.heap.size W' A5 n5 c5 s.rs := hR 3 (by decide)
          have s4 : BoxAt W' (w.heap.size + 1 + 1 + 1) #[.int .i64 at_, .int .i64 v, .int .i64 r, .int .i64 t, .bool seen.s, .int .i64 seen.n, .bool seen.f, .int .i64 seen.v, .int .i64 tr, .int .i64 sp, .bool ag, .int .i64 re] 41 := hR 4 (by decide)
          have e5 : σ 5 = .bool false := hR 5 (by decide)
          clear hR
          simp only [lexAll]
          go_simp
          go_step
          have k7 := s3.cell
          have k8 := s4.cell
          go_wp2
          refine bodyPost_ret (v := .tuple #[stV s A5 n5 c5, hdV (⟨at_, v, r, t, seen, tr, sp, ag, re⟩ : Hd), .bool false]) (by simp [results, Try.results90, go_sem, k7, k8, stV, hdV]) rfl ⟨A5, n5, c5, by rw [HV.out], ?_, hB⟩
          rw [HV.out]
          exact hp3.mono (by omega) (Nat.le_refl _)
      · have HSQ := Lib.hid hsq; clear hsq
        go_upto_region 8 with fail
        clear HCPY HTK
        have HV := Lib.hid (show stepS takeS lateB s (⟨at_, v, r, t, seen, tr, sp, ag, re⟩ : Hd) = (q.1, q.2.1, true) by simp [stepS, HOK.out, HHO.out, HTB.out, HRB.out, HQ.out, HQ2.out, HSQ.out])
        refine wp_abs (fun W' => Below w.heap.size w W' ∧ BoxAt W' X #[.int .i64 q.1.rd, .int .i64 q.1.mo, .slice A5 n5 c5, .int .i64 q.1.fi, .int .i64 q.1.la] 75 ∧ BoxAt W' Y #[.int .i64 (q.2.1).at_, .int .i64 (q.2.1).v, .int .i64 (q.2.1).r, .int .i64 (q.2.1).t, .bool (q.2.1).seen.s, .int .i64 (q.2.1).seen.n, .bool (q.2.1).seen.f, .int .i64 (q.2.1).seen.v, .int .i64 (q.2.1).tr, .int .i64 (q.2.1).sp, .bool (q.2.1).ag, .int .i64 (q.2.1).re] 41 ∧ BoxAt W' (w.heap.size + 1 + 1) #[.int .i64 0, .int .i64 0, .slice none 0 0, .int .i64 0, .int .i64 0] 75 ∧ BoxAt W' (w.heap.size + 1 + 1 + 1) #[.int .i64 0, .int .i64 0, .int .i64 0, .int .i64 0, .bool false, .int .i64 0, .bool false, .int .i64 0, .int .i64 0, .int .i64 0, .bool false, .int .i64 0] 41 ∧ RgsW M0 w4.heap.size W' A5 n5 c5 (q.1).rs ∧ w4.heap.size ≤ W'.heap.size) ⟨hB, hX, hY, hz, hw_, hG, Nat.le_refl _⟩ ?_
        clear hB hX hY hx hy hz hw_ hG
        generalize hq2 : q.2.1 = h2 at *
        clear hq2
        rintro W ⟨hB, hx, hy, hz, hw_, hG, hhi⟩
        have lw := hw_.lt
        obtain ⟨M, hMe⟩ : ∃ M, M = W.heap.size := ⟨_, rfl⟩
        have hM : M ≤ W.heap.size := by omega
        have hhi2 : w4.heap.size ≤ M := by omega
        clear hMe
        refine wp_region2 (fun w w' => Below w.heap.size w w') (fun _ _ h => h.size) (fun L W' => Below w.heap.size w W' ∧ BoxAt W' X #[.int .i64 q.1.rd, .int .i64 q.1.mo, .slice A5 n5 c5, .int .i64 q.1.fi, .int .i64 q.1.la] 75 ∧ BoxAt W' Y #[.int .i64 h2.at_, .int .i64 h2.v, .int .i64 h2.r, .int .i64 h2.t, .bool h2.seen.s, .int .i64 h2.seen.n, .bool h2.seen.f, .int .i64 h2.seen.v, .int .i64 h2.tr, .int .i64 h2.sp, .bool h2.ag, .int .i64 h2.re] 41 ∧ RgsW M0 w4.heap.size W' A5 n5 c5 q.1.rs ∧ M ≤ W'.heap.size ∧ (∃ x0 x1 x2 x3 x4, BoxAt W' (w.heap.size + 1 + 1) #[x0, x1, x2, x3, x4] 75) ∧ (L 2 = false → BoxAt W' (w.heap.size + 1 + 1) #[.int .i64 0, .int .i64 0, .slice none 0 0, .int .i64 0, .int .i64 0] 75) ∧ (∃ x0 x1 x2 x3 x4 x5 x6 x7 x8 x9 x10 x11, BoxAt W' (w.heap.size + 1 + 1 + 1) #[x0, x1, x2, x3, x4, x5, x6, x7, x8, x9, x10, x11] 41) ∧ (L 3 = false → BoxAt W' (w.heap.size + 1 + 1 + 1) #[.int .i64 0, .int .i64 0, .int .i64 0, .int .i64 0, .bool false, .int .i64 0, .bool false, .int .i64 0, .int .i64 0, .int .i64 0, .bool false, .int .i64 0] 41)) (ts8R q.1 w.heap.size X Y n5 c5 A5 h2) ts8K ts8S (by kernel_rfl) (by kernel_rfl) ?_ ?_ ?_
          (.grow rfl ?_ <| .grow rfl ?_ <| .store rfl ?_ <| .store rfl ?_ <| .grow rfl ?_ <| .nil) ?_
        · intro j σ τ w h hR
          match j, h, hR with
          | 0, h, hR => exact (h 0 (List.mem_singleton.2 rfl)).symm.trans hR
          | 1, h, hR => exact (h 1 (List.mem_singleton.2 rfl)).symm.trans hR
          | 2, _, hR => exact hR
          | 3, _, hR => exact hR
          | 4, h, hR => exact (h 4 (List.mem_singleton.2 rfl)).symm.trans hR
          | _ + 5, _, _ => exact trivial
        · intro j σ w w' hb hR
          match j, hR with
          | 0, hR => exact hR
          | 1, hR => exact hR
          | 2, hR => exact hR.below hb hR.lt
          | 3, hR => exact hR.below hb hR.lt
          | 4, hR => exact hR
          | _ + 5, _ => exact trivial
        · exact ⟨hB.drew, hx, hy, hG, hM, ⟨_, _, _, _, _, hz⟩, fun _ => hz, ⟨_, _, _, _, _, _, _, _, _, _, _, _, hw_⟩, fun _ => hw_⟩
        · -- 0: Op.load 75 t7
          go_light
          intro L σ W' hcl hL hC hw
          clear hw
          have HC := Lib.hid hC
          obtain ⟨hB, hx, hy, hG, hM, ⟨hz_x0, hz_x1, hz_x2, hz_x3, hz_x4, hz⟩, hz_o, ⟨hw__x0, hw__x1, hw__x2, hw__x3, hw__x4, hw__x5, hw__x6, hw__x7, hw__x8, hw__x9, hw__x10, hw__x11, hw_⟩, hw__o⟩ := hC
          have ks := hx.cell
          clear hcl hL
          clear hB hx hy hG hM hz hz_o hw_ hw__o
          refine OpGoes.step fun K hK => ?_
          unfold OpGoes
          go_simp
          obtain ⟨hB, hx, hy, hG, hM, ⟨hz_x0, hz_x1, hz_x2, hz_x3, hz_x4, hz⟩, hz_o, ⟨hw__x0, hw__x1, hw__x2, hw__x3, hw__x4, hw__x5, hw__x6, hw__x7, hw__x8, hw__x9, hw__x10, hw__x11, hw_⟩, hw__o⟩ := HC.out
          exact hK _ _ ⟨⟨hB, hx, hy, hG, hM, ⟨_, _, _, _, _, hz⟩, fun h => hz_o (by simpa [upd] using h), ⟨_, _, _, _, _, _, _, _, _, _, _, _, hw_⟩, fun h => hw__o (by simpa [upd] using h)⟩, rfl, Below.refl _ _⟩
        · -- 1: Op.load 41 t8
          go_light
          intro L σ W' hcl hL hC hw
          clear hw
          have HC := Lib.hid hC
          obtain ⟨hB, hx, hy, hG, hM, ⟨hz_x0, hz_x1, hz_x2, hz_x3, hz_x4, hz⟩, hz_o, ⟨hw__x0, hw__x1, hw__x2, hw__x3, hw__x4, hw__x5, hw__x6, hw__x7, hw__x8, hw__x9, hw__x10, hw__x11, hw_⟩, hw__o⟩ := hC
          have kh := hy.cell
          clear hcl hL
          clear hB hx hy hG hM hz hz_o hw_ hw__o
          refine OpGoes.step fun K hK => ?_
          unfold OpGoes
          go_simp
          obtain ⟨hB, hx, hy, hG, hM, ⟨hz_x0, hz_x1, hz_x2, hz_x3, hz_x4, hz⟩, hz_o, ⟨hw__x0, hw__x1, hw__x2, hw__x3, hw__x4, hw__x5, hw__x6, hw__x7, hw__x8, hw__x9, hw__x10, hw__x11, hw_⟩, hw__o⟩ := HC.out
          exact hK _ _ ⟨⟨hB, hx, hy, hG, hM, ⟨_, _, _, _, _, hz⟩, fun h => hz_o (by simpa [upd] using h), ⟨_, _, _, _, _, _, _, _, _, _, _, _, hw_⟩, fun h => hw__o (by simpa [upd] using h)⟩, rfl, Below.refl _ _⟩
        · -- 2: Op.store 75 t4 t51
          go_light
          intro L σ W' hcl hL hC hw hne
          have e0 : σ 0 = .agg #[.int .i64 q.1.rd, .int .i64 q.1.mo, .slice A5 n5 c5, .int .i64 q.1.fi, .int .i64 q.1.la] := hw 0 (by kernel_rfl)
          clear hw hne
          have HC := Lib.hid hC
          obtain ⟨hB, hx, hy, hG, hM, ⟨hz_x0, hz_x1, hz_x2, hz_x3, hz_x4, hz⟩, hz_o, ⟨hw__x0, hw__x1, hw__x2, hw__x3, hw__x4, hw__x5, hw__x6, hw__x7, hw__x8, hw__x9, hw__x10, hw__x11, hw_⟩, hw__o⟩ := hC
          clear hcl hL
          have kc_ := hz.cell
          have kf_ := hz.frozen
          clear hB hx hy hG hM hz hz_o hw_ hw__o
          refine OpGoes.step fun K hK => ?_
          unfold OpGoes
          go_simp
          obtain ⟨hB, hx, hy, hG, hM, ⟨hz_x0, hz_x1, hz_x2, hz_x3, hz_x4, hz⟩, hz_o, ⟨hw__x0, hw__x1, hw__x2, hw__x3, hw__x4, hw__x5, hw__x6, hw__x7, hw__x8, hw__x9, hw__x10, hw__x11, hw_⟩, hw__o⟩ := HC.out
          have hset := sets_all (us := [.int .i64 q.1.rd, .int .i64 q.1.mo, .slice A5 n5 c5, .int .i64 q.1.fi, .int .i64 q.1.la]) hz rfl
          refine hK undef (setCells W' (w.heap.size + 1 + 1) 0 [.int .i64 q.1.rd, .int .i64 q.1.mo, .slice A5 n5 c5, .int .i64 q.1.fi, .int .i64 q.1.la]) ⟨⟨(Below.setCells (by omega) [.int .i64 q.1.rd, .int .i64 q.1.mo, .slice A5 n5 c5, .int .i64 q.1.fi, .int .i64 q.1.la] 0 hB), (BoxAt.sets_ne [.int .i64 q.1.rd, .int .i64 q.1.mo, .slice A5 n5 c5, .int .i64 q.1.fi, .int .i64 q.1.la] 0 hx (by omega)), (BoxAt.sets_ne [.int .i64 q.1.rd, .int .i64 q.1.mo, .slice A5 n5 c5, .int .i64 q.1.fi, .int .i64 q.1.la] 0 hy (by omega)), (RgsW.sts hG (by omega) [.int .i64 q.1.rd, .int .i64 q.1.mo, .slice A5 n5 c5, .int .i64 q.1.fi, .int .i64 q.1.la] 0), (size_sts hM [.int .i64 q.1.rd, .int .i64 q.1.mo, .slice A5 n5 c5, .int .i64 q.1.fi, .int .i64 q.1.la] 0), ⟨_, _, _, _, _, hset⟩, fun h => absurd h (by simp [upd]), ⟨_, _, _, _, _, _, _, _, _, _, _, _, (BoxAt.sets_ne [.int .i64 q.1.rd, .int .i64 q.1.mo, .slice A5 n5 c5, .int .i64 q.1.fi, .int .i64 q.1.la] 0 hw_ (by omega))⟩, fun h => (BoxAt.sets_ne [.int .i64 q.1.rd, .int .i64 q.1.mo, .slice A5 n5 c5, .int .i64 q.1.fi, .int .i64 q.1.la] 0 (hw__o (by simpa [upd] using h)) (by omega))⟩, hset, Nat.le_of_eq (sets_size _ _ _).symm, fun j hj hn hR => ?_⟩
          match j, hj, hn, hR with
          | 0, _, _, hR => exact (show σ 0 = .agg #[.int .i64 q.1.rd, .int .i64 q.1.mo, .slice A5 n5 c5, .int .i64 q.1.fi, .int .i64 q.1.la] from hR)
          | 1, _, _, hR => exact (show σ 1 = .agg #[.int .i64 h2.at_, .int .i64 h2.v, .int .i64 h2.r, .int .i64 h2.t, .bool h2.seen.s, .int .i64 h2.seen.n, .bool h2.seen.f, .int .i64 h2.seen.v, .int .i64 h2.tr, .int .i64 h2.sp, .bool h2.ag, .int .i64 h2.re] from hR)
          | 2, hj, _, _ => exact absurd rfl hj
          | 3, _, _, hR => exact (BoxAt.sets_ne [.int .i64 q.1.rd, .int .i64 q.1.mo, .slice A5 n5 c5, .int .i64 q.1.fi, .int .i64 q.1.la] 0 hR (by omega))
          | 4, _, _, hR => exact (show σ 4 = .bool true from hR)
          | _ + 5, _, _, _ => exact trivial
        · -- 3: Op.store 41 t5 t52
          go_light
          intro L σ W' hcl hL hC hw hne
          have e1 : σ 1 = .agg #[.int .i64 h2.at_, .int .i64 h2.v, .int .i64 h2.r, .int .i64 h2.t, .bool h2.seen.s, .int .i64 h2.seen.n, .bool h2.seen.f, .int .i64 h2.seen.v, .int .i64 h2.tr, .int .i64 h2.sp, .bool h2.ag, .int .i64 h2.re] := hw 1 (by kernel_rfl)
          clear hw hne
          have HC := Lib.hid hC
          obtain ⟨hB, hx, hy, hG, hM, ⟨hz_x0, hz_x1, hz_x2, hz_x3, hz_x4, hz⟩, hz_o, ⟨hw__x0, hw__x1, hw__x2, hw__x3, hw__x4, hw__x5, hw__x6, hw__x7, hw__x8, hw__x9, hw__x10, hw__x11, hw_⟩, hw__o⟩ := hC
          clear hcl hL
          have kc_ := hw_.cell
          have kf_ := hw_.frozen
          clear hB hx hy hG hM hz hz_o hw_ hw__o
          refine OpGoes.step fun K hK => ?_
          unfold OpGoes
          go_simp
          obtain ⟨hB, hx, hy, hG, hM, ⟨hz_x0, hz_x1, hz_x2, hz_x3, hz_x4, hz⟩, hz_o, ⟨hw__x0, hw__x1, hw__x2, hw__x3, hw__x4, hw__x5, hw__x6, hw__x7, hw__x8, hw__x9, hw__x10, hw__x11, hw_⟩, hw__o⟩ := HC.out
          have hset := sets_all (us := [.int .i64 h2.at_, .int .i64 h2.v, .int .i64 h2.r, .int .i64 h2.t, .bool h2.seen.s, .int .i64 h2.seen.n, .bool h2.seen.f, .int .i64 h2.seen.v, .int .i64 h2.tr, .int .i64 h2.sp, .bool h2.ag, .int .i64 h2.re]) hw_ rfl
          refine hK undef (setCells W' (w.heap.size + 1 + 1 + 1) 0 [.int .i64 h2.at_, .int .i64 h2.v, .int .i64 h2.r, .int .i64 h2.t, .bool h2.seen.s, .int .i64 h2.seen.n, .bool h2.seen.f, .int .i64 h2.seen.v, .int .i64 h2.tr, .int .i64 h2.sp, .bool h2.ag, .int .i64 h2.re]) ⟨⟨(Below.setCells (by omega) [.int .i64 h2.at_, .int .i64 h2.v, .int .i64 h2.r, .int .i64 h2.t, .bool h2.seen.s, .int .i64 h2.seen.n, .bool h2.seen.f, .int .i64 h2.seen.v, .int .i64 h2.tr, .int .i64 h2.sp, .bool h2.ag, .int .i64 h2.re] 0 hB), (BoxAt.sets_ne [.int .i64 h2.at_, .int .i64 h2.v, .int .i64 h2.r, .int .i64 h2.t, .bool h2.seen.s, .int .i64 h2.seen.n, .bool h2.seen.f, .int .i64 h2.seen.v, .int .i64 h2.tr, .int .i64 h2.sp, .bool h2.ag, .int .i64 h2.re] 0 hx (by omega)), (BoxAt.sets_ne [.int .i64 h2.at_, .int .i64 h2.v, .int .i64 h2.r, .int .i64 h2.t, .bool h2.seen.s, .int .i64 h2.seen.n, .bool h2.seen.f, .int .i64 h2.seen.v, .int .i64 h2.tr, .int .i64 h2.sp, .bool h2.ag, .int .i64 h2.re] 0 hy (by omega)), (RgsW.sts hG (by omega) [.int .i64 h2.at_, .int .i64 h2.v, .int .i64 h2.r, .int .i64 h2.t, .bool h2.seen.s, .int .i64 h2.seen.n, .bool h2.seen.f, .int .i64 h2.seen.v, .int .i64 h2.tr, .int .i64 h2.sp, .bool h2.ag, .int .i64 h2.re] 0), (size_sts hM [.int .i64 h2.at_, .int .i64 h2.v, .int .i64 h2.r, .int .i64 h2.t, .bool h2.seen.s, .int .i64 h2.seen.n, .bool h2.seen.f, .int .i64 h2.seen.v, .int .i64 h2.tr, .int .i64 h2.sp, .bool h2.ag, .int .i64 h2.re] 0), ⟨_, _, _, _, _, (BoxAt.sets_ne [.int .i64 h2.at_, .int .i64 h2.v, .int .i64 h2.r, .int .i64 h2.t, .bool h2.seen.s, .int .i64 h2.seen.n, .bool h2.seen.f, .int .i64 h2.seen.v, .int .i64 h2.tr, .int .i64 h2.sp, .bool h2.ag, .int .i64 h2.re] 0 hz (by omega))⟩, fun h => (BoxAt.sets_ne [.int .i64 h2.at_, .int .i64 h2.v, .int .i64 h2.r, .int .i64 h2.t, .bool h2.seen.s, .int .i64 h2.seen.n, .bool h2.seen.f, .int .i64 h2.seen.v, .int .i64 h2.tr, .int .i64 h2.sp, .bool h2.ag, .int .i64 h2.re] 0 (hz_o (by simpa [upd] using h)) (by omega)), ⟨_, _, _, _, _, _, _, _, _, _, _, _, hset⟩, fun h => absurd h (by simp [upd])⟩, hset, Nat.le_of_eq (sets_size _ _ _).symm, fun j hj hn hR => ?_⟩
          match j, hj, hn, hR with
          | 0, _, _, hR => exact (show σ 0 = .agg #[.int .i64 q.1.rd, .int .i64 q.1.mo, .slice A5 n5 c5, .int .i64 q.1.fi, .int .i64 q.1.la] from hR)
          | 1, _, _, hR => exact (show σ 1 = .agg #[.int .i64 h2.at_, .int .i64 h2.v, .int .i64 h2.r, .int .i64 h2.t, .bool h2.seen.s, .int .i64 h2.seen.n, .bool h2.seen.f, .int .i64 h2.seen.v, .int .i64 h2.tr, .int .i64 h2.sp, .bool h2.ag, .int .i64 h2.re] from hR)
          | 2, _, _, hR => exact (BoxAt.sets_ne [.int .i64 h2.at_, .int .i64 h2.v, .int .i64 h2.r, .int .i64 h2.t, .bool h2.seen.s, .int .i64 h2.seen.n, .bool h2.seen.f, .int .i64 h2.seen.v, .int .i64 h2.tr, .int .i64 h2.sp, .bool h2.ag, .int .i64 h2.re] 0 hR (by omega))
          | 3, hj, _, _ => exact absurd rfl hj
          | 4, _, _, hR => exact (show σ 4 = .bool true from hR)
          | _ + 5, _, _, _ => exact trivial
        · -- 4: Op.assign (const (Value.bool true))
          go_light
          intro L σ W' hcl hL hC hw
          clear hw
          have HC := Lib.hid hC
          clear hC
          clear hcl hL
          refine OpGoes.step fun K hK => ?_
          unfold OpGoes
          go_simp
          obtain ⟨hB, hx, hy, hG, hM, ⟨hz_x0, hz_x1, hz_x2, hz_x3, hz_x4, hz⟩, hz_o, ⟨hw__x0, hw__x1, hw__x2, hw__x3, hw__x4, hw__x5, hw__x6, hw__x7, hw__x8, hw__x9, hw__x10, hw__x11, hw_⟩, hw__o⟩ := HC.out
          exact hK _ _ ⟨⟨hB, hx, hy, hG, hM, ⟨_, _, _, _, _, hz⟩, fun h => hz_o (by simpa [upd] using h), ⟨_, _, _, _, _, _, _, _, _, _, _, _, hw_⟩, fun h => hw__o (by simpa [upd] using h)⟩, rfl, Below.refl _ _⟩
        · intro σ L W' hall hC hR
          obtain ⟨hB, hx, hy, hG, hM, ⟨hz_x0, hz_x1, hz_x2, hz_x3, hz_x4, hz⟩, hz_o, ⟨hw__x0, hw__x1, hw__x2, hw__x3, hw__x4, hw__x5, hw__x6, hw__x7, hw__x8, hw__x9, hw__x10, hw__x11, hw_⟩, hw__o⟩ := hC
          have sv2 : BoxAt W' (w.heap.size + 1 + 1) #[.int .i64 q.1.rd, .int .i64 q.1.mo, .slice A5 n5 c5, .int .i64 q.1.fi, .int .i64 q.1.la] 75 := hR 2 (by decide)
          have sv3 : BoxAt W' (w.heap.size + 1 + 1 + 1) #[.int .i64 h2.at_, .int .i64 h2.v, .int .i64 h2.r, .int .i64 h2.t, .bool h2.seen.s, .int .i64 h2.seen.n, .bool h2.seen.f, .int .i64 h2.seen.v, .int .i64 h2.tr, .int .i64 h2.sp, .bool h2.ag, .int .i64 h2.re] 41 := hR 3 (by decide)
          have e4 : σ 4 = .bool true := hR 4 (by decide)
          clear hR
          simp only [lexAll]
          go_simp
          go_step
          have k7 := sv2.cell
          have k8 := sv3.cell
          go_wp2
          refine bodyPost_ret (v := .tuple #[stV q.1 A5 n5 c5, hdV h2, .bool true]) (by simp [results, Try.results90, go_sem, k7, k8, stV, hdV, Hd.rest, Hd.zero]) rfl ⟨A5, n5, c5, by rw [HV.out], ?_, hB⟩
          rw [HV.out]
          exact hG.cut.mono (by omega) (Nat.le_refl _)

def ps4R (s : St) (N M0 n cap : Nat) (A : Option Addr) (at_ v r t : Int) (seen : Pl) (tr sp : Int) (ag : Bool) (re : Int) (j : Nat) (σ : Nat → Value) (w : World) : Prop :=
  match j with
  | 0 => σ 0 = .agg #[.int .i64 s.rd, .int .i64 s.mo, .slice A n cap, .int .i64 s.fi, .int .i64 s.la]
  | 1 => ∃ (A5 : Option Addr) (n5 c5 : Nat), σ 1 = .agg #[.int .i64 s.rd, .int .i64 s.mo, .slice A5 n5 c5, .int .i64 s.fi, .int .i64 s.la] ∧ RgsW M0 w.heap.size w A5 n5 c5 s.rs
  | 2 => σ 2 = .agg #[.int .i64 at_, .int .i64 v, .int .i64 r, .int .i64 t, .bool seen.s, .int .i64 seen.n, .bool seen.f, .int .i64 seen.v, .int .i64 tr, .int .i64 sp, .bool ag, .int .i64 re]
  | 3 => ∃ (A5 : Option Addr) (n5 c5 : Nat), BoxAt w (N + 1 + 1) #[.int .i64 s.rd, .int .i64 s.mo, .slice A5 n5 c5, .int .i64 s.fi, .int .i64 s.la] 75 ∧ RgsW M0 w.heap.size w A5 n5 c5 s.rs
  | 4 => BoxAt w (N + 1 + 1 + 1) #[.int .i64 at_, .int .i64 v, .int .i64 r, .int .i64 t, .bool seen.s, .int .i64 seen.n, .bool seen.f, .int .i64 seen.v, .int .i64 tr, .int .i64 sp, .bool ag, .int .i64 re] 41
  | 5 => σ 5 = .bool false
  | _ => True

def ps4S (j : Nat) : List Nat := [[0], [1], [2], [3], [4], [5]].getD j [j]
def ps4K (j : Nat) : Nat := [0, 0, 0, 1, 1, 0].getD j 0

def ps7R (s : St) (N M0 n cap : Nat) (A : Option Addr) (at_ v r t : Int) (seen : Pl) (tr sp : Int) (ag : Bool) (re : Int) (j : Nat) (σ : Nat → Value) (w : World) : Prop :=
  match j with
  | 0 => σ 0 = .agg #[.int .i64 s.rd, .int .i64 s.mo, .slice A n cap, .int .i64 s.fi, .int .i64 s.la]
  | 1 => ∃ (A5 : Option Addr) (n5 c5 : Nat), σ 1 = .agg #[.int .i64 s.rd, .int .i64 s.mo, .slice A5 n5 c5, .int .i64 s.fi, .int .i64 s.la] ∧ RgsW M0 w.heap.size w A5 n5 c5 s.rs
  | 2 => σ 2 = .agg #[.int .i64 at_, .int .i64 v, .int .i64 r, .int .i64 t, .bool seen.s, .int .i64 seen.n, .bool seen.f, .int .i64 seen.v, .int .i64 tr, .int .i64 sp, .bool ag, .int .i64 re]
  | 3 => ∃ (A5 : Option Addr) (n5 c5 : Nat), BoxAt w (N + 1 + 1) #[.int .i64 s.rd, .int .i64 s.mo, .slice A5 n5 c5, .int .i64 s.fi, .int .i64 s.la] 75 ∧ RgsW M0 w.heap.size w A5 n5 c5 s.rs
  | 4 => BoxAt w (N + 1 + 1 + 1) #[.int .i64 at_, .int .i64 v, .int .i64 r, .int .i64 t, .bool seen.s, .int .i64 seen.n, .bool seen.f, .int .i64 seen.v, .int .i64 tr, .int .i64 sp, .bool ag, .int .i64 re] 41
  | 5 => σ 5 = .bool false
  | _ => True

def ps7S (j : Nat) : List Nat := [[0], [1], [2], [3], [4], [5]].getD j [j]
def ps7K (j : Nat) : Nat := [0, 0, 0, 1, 1, 0].getD j 0

def ps5R (s : St) (N M0 n cap : Nat) (A : Option Addr) (at_ v r t : Int) (seen : Pl) (tr sp : Int) (ag : Bool) (re : Int) (q : St × Hd × Bool) (j : Nat) (σ : Nat → Value) (w : World) : Prop :=
  match j with
  | 0 => σ 0 = .agg #[.int .i64 s.rd, .int .i64 s.mo, .slice A n cap, .int .i64 s.fi, .int .i64 s.la]
  | 1 => ∃ (A1 : Option Addr) (n1 c1 : Nat), σ 1 = .agg #[.int .i64 s.rd, .int .i64 s.mo, .slice A1 n1 c1, .int .i64 s.fi, .int .i64 s.la] ∧ RgsW M0 w.heap.size w A1 n1 c1 s.rs
  | 2 => σ 2 = .agg #[.int .i64 at_, .int .i64 v, .int .i64 r, .int .i64 t, .bool seen.s, .int .i64 seen.n, .bool seen.f, .int .i64 seen.v, .int .i64 tr, .int .i64 sp, .bool ag, .int .i64 re]
  | 3 => ∃ (A5 : Option Addr) (n5 c5 : Nat), σ 3 = .tuple #[.agg #[.int .i64 q.1.rd, .int .i64 q.1.mo, .slice A5 n5 c5, .int .i64 q.1.fi, .int .i64 q.1.la], .agg #[.int .i64 q.2.1.at_, .int .i64 q.2.1.v, .int .i64 q.2.1.r, .int .i64 q.2.1.t, .bool q.2.1.seen.s, .int .i64 q.2.1.seen.n, .bool q.2.1.seen.f, .int .i64 q.2.1.seen.v, .int .i64 q.2.1.tr, .int .i64 q.2.1.sp, .bool q.2.1.ag, .int .i64 q.2.1.re], .bool q.2.2] ∧ RgsW M0 w.heap.size w A5 n5 c5 q.1.rs
  | 4 => ∃ (A5 : Option Addr) (n5 c5 : Nat), σ 4 = .tuple #[.agg #[.int .i64 q.1.rd, .int .i64 q.1.mo, .slice A5 n5 c5, .int .i64 q.1.fi, .int .i64 q.1.la], .agg #[.int .i64 q.2.1.at_, .int .i64 q.2.1.v, .int .i64 q.2.1.r, .int .i64 q.2.1.t, .bool q.2.1.seen.s, .int .i64 q.2.1.seen.n, .bool q.2.1.seen.f, .int .i64 q.2.1.seen.v, .int .i64 q.2.1.tr, .int .i64 q.2.1.sp, .bool q.2.1.ag, .int .i64 q.2.1.re], .bool q.2.2] ∧ RgsW M0 w.heap.size w A5 n5 c5 q.1.rs
  | 5 => ∃ (A5 : Option Addr) (n5 c5 : Nat), σ 5 = .agg #[.int .i64 q.1.rd, .int .i64 q.1.mo, .slice A5 n5 c5, .int .i64 q.1.fi, .int .i64 q.1.la] ∧ RgsW M0 w.heap.size w A5 n5 c5 q.1.rs
  | 6 => σ 6 = .agg #[.int .i64 q.2.1.at_, .int .i64 q.2.1.v, .int .i64 q.2.1.r, .int .i64 q.2.1.t, .bool q.2.1.seen.s, .int .i64 q.2.1.seen.n, .bool q.2.1.seen.f, .int .i64 q.2.1.seen.v, .int .i64 q.2.1.tr, .int .i64 q.2.1.sp, .bool q.2.1.ag, .int .i64 q.2.1.re]
  | 7 => σ 7 = .bool q.2.2
  | 8 => ∃ g8, σ 8 = .pointer (some ⟨g8, 0, none⟩) ∧ M0 ≤ g8 ∧ ∃ x0 x1 x2 x3 x4, BoxAt w g8 #[x0, x1, x2, x3, x4] 75
  | 9 => ∃ g9, σ 9 = .pointer (some ⟨g9, 0, none⟩) ∧ M0 ≤ g9 ∧ ∃ x0 x1 x2 x3 x4 x5 x6 x7 x8 x9 x10 x11, BoxAt w g9 #[x0, x1, x2, x3, x4, x5, x6, x7, x8, x9, x10, x11] 41
  | 10 => ∃ (g8 : Nat) (A5 : Option Addr) (n5 c5 : Nat), σ 8 = .pointer (some ⟨g8, 0, none⟩) ∧ M0 ≤ g8 ∧ BoxAt w g8 #[.int .i64 q.1.rd, .int .i64 q.1.mo, .slice A5 n5 c5, .int .i64 q.1.fi, .int .i64 q.1.la] 75 ∧ RgsW M0 w.heap.size w A5 n5 c5 q.1.rs
  | 11 => ∃ g9, σ 9 = .pointer (some ⟨g9, 0, none⟩) ∧ M0 ≤ g9 ∧ BoxAt w g9 #[.int .i64 q.2.1.at_, .int .i64 q.2.1.v, .int .i64 q.2.1.r, .int .i64 q.2.1.t, .bool q.2.1.seen.s, .int .i64 q.2.1.seen.n, .bool q.2.1.seen.f, .int .i64 q.2.1.seen.v, .int .i64 q.2.1.tr, .int .i64 q.2.1.sp, .bool q.2.1.ag, .int .i64 q.2.1.re] 41
  | 12 => σ 12 = .bool q.2.2
  | _ => True

def ps5S (j : Nat) : List Nat := [[0], [1], [2], [3], [4], [5], [6], [7], [8], [9], [8], [9], [12]].getD j [j]
def ps5K (j : Nat) : Nat := [0, 0, 0, 0, 0, 0, 0, 0, 2, 2, 1, 1, 0].getD j 0

def ps8R (s2 : St) (N X Y n2 c2 : Nat) (A2 : Option Addr) (h2 : Hd) (j : Nat) (σ : Nat → Value) (w : World) : Prop :=
  match j with
  | 0 => σ 0 = .agg #[.int .i64 s2.rd, .int .i64 s2.mo, .slice A2 n2 c2, .int .i64 s2.fi, .int .i64 s2.la]
  | 1 => σ 1 = .agg #[.int .i64 h2.at_, .int .i64 h2.v, .int .i64 h2.r, .int .i64 h2.t, .bool h2.seen.s, .int .i64 h2.seen.n, .bool h2.seen.f, .int .i64 h2.seen.v, .int .i64 h2.tr, .int .i64 h2.sp, .bool h2.ag, .int .i64 h2.re]
  | 2 => BoxAt w (N + 1 + 1) #[.int .i64 s2.rd, .int .i64 s2.mo, .slice A2 n2 c2, .int .i64 s2.fi, .int .i64 s2.la] 75
  | 3 => BoxAt w (N + 1 + 1 + 1) #[.int .i64 h2.at_, .int .i64 h2.v, .int .i64 h2.r, .int .i64 h2.t, .bool h2.seen.s, .int .i64 h2.seen.n, .bool h2.seen.f, .int .i64 h2.seen.v, .int .i64 h2.tr, .int .i64 h2.sp, .bool h2.ag, .int .i64 h2.re] 41
  | 4 => σ 4 = .bool true
  | _ => True

def ps8S (j : Nat) : List Nat := [[0], [1], [2], [3], [4]].getD j [j]
def ps8K (j : Nat) : Nat := [0, 0, 1, 1, 0].getD j 0

set_option maxRecDepth 100000 in
set_option maxHeartbeats 4000000 in
theorem sputStep_any (s : St) (A : Option Addr) (n cap lo hi : Nat) (h : Hd) (w : World) (hs : RgsW lo hi w A n cap s.rs) (hh : hi ≤ w.heap.size) (hm : n ≤ 1048576) (hpn : ∀ r ∈ s.rs, r.ps.length ≤ 1048576) :
    Calls Try.prog 89 #[stV s A n cap, hdV h] w (RetSHB w.heap.size (stepS putS putB s h) w) := by
  have HPN := Lib.hid hpn; clear hpn
  have HLN := Lib.hid hs.1
  obtain ⟨at_, v, r, t, seen, tr, sp, ag, re⟩ := h
  unfold stV hdV
  dsimp only
  go_enter Try.func89, Try.ntmps89
  go_upto_region 1 with fail
  refine wp_abs (fun W => Below w.heap.size w W ∧ BoxAt W w.heap.size #[.int .i64 s.rd, .int .i64 s.mo, .slice A n cap, .int .i64 s.fi, .int .i64 s.la] 75 ∧ BoxAt W (w.heap.size + 1) #[.int .i64 at_, .int .i64 v, .int .i64 r, .int .i64 t, .bool seen.s, .int .i64 seen.n, .bool seen.f, .int .i64 seen.v, .int .i64 tr, .int .i64 sp, .bool ag, .int .i64 re] 41 ∧ BoxAt W (w.heap.size + 1 + 1) #[.int .i64 0, .int .i64 0, .slice none 0 0, .int .i64 0, .int .i64 0] 75 ∧ BoxAt W (w.heap.size + 1 + 1 + 1) #[.int .i64 0, .int .i64 0, .int .i64 0, .int .i64 0, .bool false, .int .i64 0, .bool false, .int .i64 0, .int .i64 0, .int .i64 0, .bool false, .int .i64 0] 41) ⟨(((((Below.refl _ _).alloc (Nat.le_refl _) _).alloc (by simp) _).alloc (by simp; omega) _).alloc (by simp; omega) _), (((BoxAt.new _ _ _).alloc _).alloc _).alloc _, ((BoxAt.new' (by simp)).alloc _).alloc _, (BoxAt.new' (by simp)).alloc _, BoxAt.new' (by simp)⟩ ?_
  rintro W0 ⟨hB, hx, hy, hz, hw_⟩
  have lw0 := hw_.lt
  have hs0 := hs.below hB hh
  have kx := hx.cell
  have ky := hy.cell
  have fy := hy.frozen
  go_wp2_with fail
  clear kx ky fy
  refine (sstoreOk_any s A n cap lo hi _ hs0 (Nat.le_trans hh hB.size) hm HPN.out).mono ?_
  rintro e w1 ⟨rfl, hb⟩
  replace hx := hx.below hb hx.lt
  replace hy := hy.below hb hy.lt
  replace hz := hz.below hb hz.lt
  replace hw_ := hw_.below hb hw_.lt
  replace hB := bstep hB hB.size hb
  have h1 := hb.size
  clear hb
  clear hs0
  cases hok : stOk s
  · have HV := Lib.hid (show stepS putS putB s (⟨at_, v, r, t, seen, tr, sp, ag, re⟩ : Hd) = (St.zero, Hd.zero, false) by simp [stepS, hok])
    have kz := hz.cell
    have fz := hz.frozen
    have kw := hw_.cell
    have fw := hw_.frozen
    go_wp2
    refine bodyPost_ret (v := .tuple #[stV .zero none 0 0, hdV .zero, .bool false]) (by simp [results, Try.results89, go_sem, kz, kw, stV, St.zero, hdV, Hd.zero]) rfl ⟨none, 0, 0, by rw [HV.out], ?_, ?_⟩
    · rw [HV.out]; exact RgsW.nil
    · exact Below.setCells (by omega) [.int .i64 0, .int .i64 0, .int .i64 0, .int .i64 0, .bool false, .int .i64 0, .bool false, .int .i64 0, .int .i64 0, .int .i64 0, .bool false, .int .i64 0] 0 (Below.setCells (by omega) [.int .i64 0, .int .i64 0, .slice none 0 0, .int .i64 0, .int .i64 0] 0 hB)
  have HOK := Lib.hid hok
  have HNT := Lib.hid (stOk_neat hok)
  clear hok
  have ky := hy.cell
  go_wp2_with fail
  clear ky
  refine (shandOk_any (⟨at_, v, r, t, seen, tr, sp, ag, re⟩ : Hd) _).mono ?_
  rintro e w2 ⟨rfl, hb⟩
  replace hx := hx.below hb hx.lt
  replace hy := hy.below hb hy.lt
  replace hz := hz.below hb hz.lt
  replace hw_ := hw_.below hb hw_.lt
  replace hB := bstep hB hB.size hb
  have h2 := hb.size
  clear hb
  cases hho : (⟨at_, v, r, t, seen, tr, sp, ag, re⟩ : Hd).ok
  · have HV := Lib.hid (show stepS putS putB s (⟨at_, v, r, t, seen, tr, sp, ag, re⟩ : Hd) = (St.zero, Hd.zero, false) by simp [stepS, HOK.out, hho])
    have kz := hz.cell
    have fz := hz.frozen
    have kw := hw_.cell
    have fw := hw_.frozen
    go_wp2
    refine bodyPost_ret (v := .tuple #[stV .zero none 0 0, hdV .zero, .bool false]) (by simp [results, Try.results89, go_sem, kz, kw, stV, St.zero, hdV, Hd.zero]) rfl ⟨none, 0, 0, by rw [HV.out], ?_, ?_⟩
    · rw [HV.out]; exact RgsW.nil
    · exact Below.setCells (by omega) [.int .i64 0, .int .i64 0, .int .i64 0, .int .i64 0, .bool false, .int .i64 0, .bool false, .int .i64 0, .int .i64 0, .int .i64 0, .bool false, .int .i64 0] 0 (Below.setCells (by omega) [.int .i64 0, .int .i64 0, .slice none 0 0, .int .i64 0, .int .i64 0] 0 hB)
  have HHO := Lib.hid hho
  clear hho
  have HCPY := Lib.hid (show ∀ W : World, Below w.heap.size w W → Calls Try.prog 83 #[stV s A n cap] W (RetS W.heap.size s W) from fun W hBW => l3Copy_rgs s A n cap lo hi W (hs.below hBW hh) (Nat.le_trans hh hBW.size) HNT.out)
  unfold stV at HCPY
  have kx := hx.cell
  have ky := hy.cell
  go_wp2_with fail
  refine (l5Putting_any at_ _).mono ?_
  rintro e w' ⟨rfl, rfl⟩
  cases hpb : putB at_
  · have HV := Lib.hid (show stepS putS putB s (⟨at_, v, r, t, seen, tr, sp, ag, re⟩ : Hd) = (s, (⟨at_, v, r, t, seen, tr, sp, ag, re⟩ : Hd), false) by simp [stepS, HOK.out, HHO.out, hpb])
    go_upto_region 4 with fail
    obtain ⟨M0, hMe⟩ : ∃ M0, M0 = w2.heap.size := ⟨_, rfl⟩
    have hM0 : M0 ≤ w2.heap.size := by omega
    have hM4 : w.heap.size + 4 ≤ M0 := by have := hw_.lt; omega
    clear hMe kx ky
    refine wp_region2 (fun w w' => Below w.heap.size w w') (fun _ _ h => h.size) (fun L W' => Below w.heap.size w W' ∧ BoxAt W' w.heap.size #[.int .i64 s.rd, .int .i64 s.mo, .slice A n cap, .int .i64 s.fi, .int .i64 s.la] 75 ∧ BoxAt W' (w.heap.size + 1) #[.int .i64 at_, .int .i64 v, .int .i64 r, .int .i64 t, .bool seen.s, .int .i64 seen.n, .bool seen.f, .int .i64 seen.v, .int .i64 tr, .int .i64 sp, .bool ag, .int .i64 re] 41 ∧ M0 ≤ W'.heap.size ∧ (∃ x0 x1 x2 x3 x4, BoxAt W' (w.heap.size + 1 + 1) #[x0, x1, x2, x3, x4] 75) ∧ (L 3 = false → BoxAt W' (w.heap.size + 1 + 1) #[.int .i64 0, .int .i64 0, .slice none 0 0, .int .i64 0, .int .i64 0] 75) ∧ (∃ x0 x1 x2 x3 x4 x5 x6 x7 x8 x9 x10 x11, BoxAt W' (w.heap.size + 1 + 1 + 1) #[x0, x1, x2, x3, x4, x5, x6, x7, x8, x9, x10, x11] 41) ∧ (L 4 = false → BoxAt W' (w.heap.size + 1 + 1 + 1) #[.int .i64 0, .int .i64 0, .int .i64 0, .int .i64 0, .bool false, .int .i64 0, .bool false, .int .i64 0, .int .i64 0, .int .i64 0, .bool false, .int .i64 0] 41)) (ps4R s w.heap.size M0 n cap A at_ v r t seen tr sp ag re) ps4K ps4S (by kernel_rfl) (by kernel_rfl) ?_ ?_ ?_
      (.grow rfl ?_ <| .grow rfl ?_ <| .grow rfl ?_ <| .store rfl ?_ <| .store rfl ?_ <| .grow rfl ?_ <| .nil) ?_
    · intro j σ τ w h hR
      match j, h, hR with
      | 0, h, hR => exact (h 0 (List.mem_singleton.2 rfl)).symm.trans hR
      | 1, h, hR => obtain ⟨A5, n5, c5, e, hp⟩ := hR; exact ⟨A5, n5, c5, (h 1 (List.mem_singleton.2 rfl)).symm.trans e, hp⟩
      | 2, h, hR => exact (h 2 (List.mem_singleton.2 rfl)).symm.trans hR
      | 3, _, hR => exact hR
      | 4, _, hR => exact hR
      | 5, h, hR => exact (h 5 (List.mem_singleton.2 rfl)).symm.trans hR
      | _ + 6, _, _ => exact trivial
    · intro j σ w w' hb hR
      match j, hR with
      | 0, hR => exact hR
      | 1, hR => obtain ⟨A5, n5, c5, e, hp⟩ := hR; exact ⟨A5, n5, c5, e, (hp.below hb (Nat.le_refl _)).mono (Nat.le_refl _) hb.size⟩
      | 2, hR => exact hR
      | 3, hR => obtain ⟨A5, n5, c5, hx, hp⟩ := hR; exact ⟨A5, n5, c5, hx.below hb hx.lt, (hp.below hb (Nat.le_refl _)).mono (Nat.le_refl _) hb.size⟩
      | 4, hR => exact hR.below hb hR.lt
      | 5, hR => exact hR
      | _ + 6, _ => exact trivial
    · exact ⟨hB.drew, hx, hy, hM0, ⟨_, _, _, _, _, hz⟩, fun _ => hz, ⟨_, _, _, _, _, _, _, _, _, _, _, _, hw_⟩, fun _ => hw_⟩
    · -- 0: Op.load 75 t2
      go_light
      intro L σ W' hcl hL hC hw
      clear hw
      have HC := Lib.hid hC
      obtain ⟨hB, hx, hy, hM0, ⟨hz_x0, hz_x1, hz_x2, hz_x3, hz_x4, hz⟩, hz_o, ⟨hw__x0, hw__x1, hw__x2, hw__x3, hw__x4, hw__x5, hw__x6, hw__x7, hw__x8, hw__x9, hw__x10, hw__x11, hw_⟩, hw__o⟩ := hC
      have ks := hx.cell
      clear hcl hL
      clear hB hx hy hM0 hz hz_o hw_ hw__o
      refine OpGoes.step fun K hK => ?_
      unfold OpGoes
      go_simp
      obtain ⟨hB, hx, hy, hM0, ⟨hz_x0, hz_x1, hz_x2, hz_x3, hz_x4, hz⟩, hz_o, ⟨hw__x0, hw__x1, hw__x2, hw__x3, hw__x4, hw__x5, hw__x6, hw__x7, hw__x8, hw__x9, hw__x10, hw__x11, hw_⟩, hw__o⟩ := HC.out
      exact hK _ _ ⟨⟨hB, hx, hy, hM0, ⟨_, _, _, _, _, hz⟩, fun h => hz_o (by simpa [upd] using h), ⟨_, _, _, _, _, _, _, _, _, _, _, _, hw_⟩, fun h => hw__o (by simpa [upd] using h)⟩, rfl, Below.refl _ _⟩
    · -- 1: Op.call { value (Operand.func 83), args := #[t31], argTypes := #[75] }
      go_light
      intro L σ W' hcl hL hC hw
      have e0 : σ 0 = .agg #[.int .i64 s.rd, .int .i64 s.mo, .slice A n cap, .int .i64 s.fi, .int .i64 s.la] := hw 0 (by kernel_rfl)
      clear hw
      have HC := Lib.hid hC
      clear hC
      clear hcl hL
      refine OpGoes.step fun K hK => ?_
      unfold OpGoes
      go_simp
      obtain ⟨hB, hx, hy, hM0, ⟨hz_x0, hz_x1, hz_x2, hz_x3, hz_x4, hz⟩, hz_o, ⟨hw__x0, hw__x1, hw__x2, hw__x3, hw__x4, hw__x5, hw__x6, hw__x7, hw__x8, hw__x9, hw__x10, hw__x11, hw_⟩, hw__o⟩ := HC.out
      refine (HCPY.out _ hB).mono ?_
      rintro e w1 ⟨A5, n5, c5, rfl, hG5, hb1⟩
      exact ⟨_, rfl, hK _ _ ⟨⟨bstep hB hB.size hb1, hx.below hb1 hx.lt, hy.below hb1 hy.lt, Nat.le_trans hM0 hb1.size, ⟨_, _, _, _, _, hz.below hb1 hz.lt⟩, fun h => (hz_o (by simpa [upd] using h)).below hb1 (hz_o (by simpa [upd] using h)).lt, ⟨_, _, _, _, _, _, _, _, _, _, _, _, hw_.below hb1 hw_.lt⟩, fun h => (hw__o (by simpa [upd] using h)).below hb1 (hw__o (by simpa [upd] using h)).lt⟩, ⟨A5, n5, c5, rfl, hG5.mono hM0 (Nat.le_refl _)⟩, hb1⟩⟩
    · -- 2: Op.load 41 t3
      go_light
      intro L σ W' hcl hL hC hw
      clear hw
      have HC := Lib.hid hC
      obtain ⟨hB, hx, hy, hM0, ⟨hz_x0, hz_x1, hz_x2, hz_x3, hz_x4, hz⟩, hz_o, ⟨hw__x0, hw__x1, hw__x2, hw__x3, hw__x4, hw__x5, hw__x6, hw__x7, hw__x8, hw__x9, hw__x10, hw__x11, hw_⟩, hw__o⟩ := hC
      have kh := hy.cell
      clear hcl hL
      clear hB hx hy hM0 hz hz_o hw_ hw__o
      refine OpGoes.step fun K hK => ?_
      unfold OpGoes
      go_simp
      obtain ⟨hB, hx, hy, hM0, ⟨hz_x0, hz_x1, hz_x2, hz_x3, hz_x4, hz⟩, hz_o, ⟨hw__x0, hw__x1, hw__x2, hw__x3, hw__x4, hw__x5, hw__x6, hw__x7, hw__x8, hw__x9, hw__x10, hw__x11, hw_⟩, hw__o⟩ := HC.out
      exact hK _ _ ⟨⟨hB, hx, hy, hM0, ⟨_, _, _, _, _, hz⟩, fun h => hz_o (by simpa [upd] using h), ⟨_, _, _, _, _, _, _, _, _, _, _, _, hw_⟩, fun h => hw__o (by simpa [upd] using h)⟩, rfl, Below.refl _ _⟩
    · -- 3: Op.store 75 t4 t32
      go_light
      intro L σ W' hcl hL hC hw hne
      obtain ⟨A5, n5, c5, e1, hp1⟩ : ∃ (A5 : Option Addr) (n5 c5 : Nat), σ 1 = .agg #[.int .i64 s.rd, .int .i64 s.mo, .slice A5 n5 c5, .int .i64 s.fi, .int .i64 s.la] ∧ RgsW M0 W'.heap.size W' A5 n5 c5 s.rs := hw 1 (by kernel_rfl)
      clear hw hne
      have HC := Lib.hid hC
      obtain ⟨hB, hx, hy, hM0, ⟨hz_x0, hz_x1, hz_x2, hz_x3, hz_x4, hz⟩, hz_o, ⟨hw__x0, hw__x1, hw__x2, hw__x3, hw__x4, hw__x5, hw__x6, hw__x7, hw__x8, hw__x9, hw__x10, hw__x11, hw_⟩, hw__o⟩ := hC
      clear hcl hL
      have kc_ := hz.cell
      have kf_ := hz.frozen
      clear hB hx hy hM0 hz hz_o hw_ hw__o
      refine OpGoes.step fun K hK => ?_
      unfold OpGoes
      go_simp
      obtain ⟨hB, hx, hy, hM0, ⟨hz_x0, hz_x1, hz_x2, hz_x3, hz_x4, hz⟩, hz_o, ⟨hw__x0, hw__x1, hw__x2, hw__x3, hw__x4, hw__x5, hw__x6, hw__x7, hw__x8, hw__x9, hw__x10, hw__x11, hw_⟩, hw__o⟩ := HC.out
      have hset := sets_all (us := [.int .i64 s.rd, .int .i64 s.mo, .slice A5 n5 c5, .int .i64 s.fi, .int .i64 s.la]) hz rfl
      refine hK undef (setCells W' (w.heap.size + 1 + 1) 0 [.int .i64 s.rd, .int .i64 s.mo, .slice A5 n5 c5, .int .i64 s.fi, .int .i64 s.la]) ⟨⟨(Below.setCells (by omega) [.int .i64 s.rd, .int .i64 s.mo, .slice A5 n5 c5, .int .i64 s.fi, .int .i64 s.la] 0 hB), (BoxAt.sets_ne [.int .i64 s.rd, .int .i64 s.mo, .slice A5 n5 c5, .int .i64 s.fi, .int .i64 s.la] 0 hx (by omega)), (BoxAt.sets_ne [.int .i64 s.rd, .int .i64 s.mo, .slice A5 n5 c5, .int .i64 s.fi, .int .i64 s.la] 0 hy (by omega)), (size_sts hM0 [.int .i64 s.rd, .int .i64 s.mo, .slice A5 n5 c5, .int .i64 s.fi, .int .i64 s.la] 0), ⟨_, _, _, _, _, hset⟩, fun h => absurd h (by simp [upd]), ⟨_, _, _, _, _, _, _, _, _, _, _, _, (BoxAt.sets_ne [.int .i64 s.rd, .int .i64 s.mo, .slice A5 n5 c5, .int .i64 s.fi, .int .i64 s.la] 0 hw_ (by omega))⟩, fun h => (BoxAt.sets_ne [.int .i64 s.rd, .int .i64 s.mo, .slice A5 n5 c5, .int .i64 s.fi, .int .i64 s.la] 0 (hw__o (by simpa [upd] using h)) (by omega))⟩, ⟨A5, n5, c5, hset, ((RgsW.setsT hp1 hz (by decide) (by decide) [.int .i64 s.rd, .int .i64 s.mo, .slice A5 n5 c5, .int .i64 s.fi, .int .i64 s.la] 0).mono (Nat.le_refl _) (Nat.le_of_eq (sets_size _ _ _).symm))⟩, Nat.le_of_eq (sets_size _ _ _).symm, fun j hj hn hR => ?_⟩
      match j, hj, hn, hR with
      | 0, _, _, hR => exact (show σ 0 = .agg #[.int .i64 s.rd, .int .i64 s.mo, .slice A n cap, .int .i64 s.fi, .int .i64 s.la] from hR)
      | 1, _, _, hR => obtain ⟨A5_x, n5_x, c5_x, e, hp⟩ := hR; exact ⟨A5_x, n5_x, c5_x, e, ((RgsW.setsT hp hz (by decide) (by decide) [.int .i64 s.rd, .int .i64 s.mo, .slice A5 n5 c5, .int .i64 s.fi, .int .i64 s.la] 0).mono (Nat.le_refl _) (Nat.le_of_eq (sets_size _ _ _).symm))⟩
      | 2, _, _, hR => exact (show σ 2 = .agg #[.int .i64 at_, .int .i64 v, .int .i64 r, .int .i64 t, .bool seen.s, .int .i64 seen.n, .bool seen.f, .int .i64 seen.v, .int .i64 tr, .int .i64 sp, .bool ag, .int .i64 re] from hR)
      | 3, hj, _, _ => exact absurd rfl hj
      | 4, _, _, hR => exact (BoxAt.sets_ne [.int .i64 s.rd, .int .i64 s.mo, .slice A5 n5 c5, .int .i64 s.fi, .int .i64 s.la] 0 hR (by omega))
      | 5, _, _, hR => exact (show σ 5 = .bool false from hR)
      | _ + 6, _, _, _ => exact trivial
    · -- 4: Op.store 41 t5 t33
      go_light
      intro L σ W' hcl hL hC hw hne
      have e2 : σ 2 = .agg #[.int .i64 at_, .int .i64 v, .int .i64 r, .int .i64 t, .bool seen.s, .int .i64 seen.n, .bool seen.f, .int .i64 seen.v, .int .i64 tr, .int .i64 sp, .bool ag, .int .i64 re] := hw 2 (by kernel_rfl)
      clear hw hne
      have HC := Lib.hid hC
      obtain ⟨hB, hx, hy, hM0, ⟨hz_x0, hz_x1, hz_x2, hz_x3, hz_x4, hz⟩, hz_o, ⟨hw__x0, hw__x1, hw__x2, hw__x3, hw__x4, hw__x5, hw__x6, hw__x7, hw__x8, hw__x9, hw__x10, hw__x11, hw_⟩, hw__o⟩ := hC
      clear hcl hL
      have kc_ := hw_.cell
      have kf_ := hw_.frozen
      clear hB hx hy hM0 hz hz_o hw_ hw__o
      refine OpGoes.step fun K hK => ?_
      unfold OpGoes
      go_simp
      obtain ⟨hB, hx, hy, hM0, ⟨hz_x0, hz_x1, hz_x2, hz_x3, hz_x4, hz⟩, hz_o, ⟨hw__x0, hw__x1, hw__x2, hw__x3, hw__x4, hw__x5, hw__x6, hw__x7, hw__x8, hw__x9, hw__x10, hw__x11, hw_⟩, hw__o⟩ := HC.out
      have hset := sets_all (us := [.int .i64 at_, .int .i64 v, .int .i64 r, .int .i64 t, .bool seen.s, .int .i64 seen.n, .bool seen.f, .int .i64 seen.v, .int .i64 tr, .int .i64 sp, .bool ag, .int .i64 re]) hw_ rfl
      refine hK undef (setCells W' (w.heap.size + 1 + 1 + 1) 0 [.int .i64 at_, .int .i64 v, .int .i64 r, .int .i64 t, .bool seen.s, .int .i64 seen.n, .bool seen.f, .int .i64 seen.v, .int .i64 tr, .int .i64 sp, .bool ag, .int .i64 re]) ⟨⟨(Below.setCells (by omega) [.int .i64 at_, .int .i64 v, .int .i64 r, .int .i64 t, .bool seen.s, .int .i64 seen.n, .bool seen.f, .int .i64 seen.v, .int .i64 tr, .int .i64 sp, .bool ag, .int .i64 re] 0 hB), (BoxAt.sets_ne [.int .i64 at_, .int .i64 v, .int .i64 r, .int .i64 t, .bool seen.s, .int .i64 seen.n, .bool seen.f, .int .i64 seen.v, .int .i64 tr, .int .i64 sp, .bool ag, .int .i64 re] 0 hx (by omega)), (BoxAt.sets_ne [.int .i64 at_, .int .i64 v, .int .i64 r, .int .i64 t, .bool seen.s, .int .i64 seen.n, .bool seen.f, .int .i64 seen.v, .int .i64 tr, .int .i64 sp, .bool ag, .int .i64 re] 0 hy (by omega)), (size_sts hM0 [.int .i64 at_, .int .i64 v, .int .i64 r, .int .i64 t, .bool seen.s, .int .i64 seen.n, .bool seen.f, .int .i64 seen.v, .int .i64 tr, .int .i64 sp, .bool ag, .int .i64 re] 0), ⟨_, _, _, _, _, (BoxAt.sets_ne [.int .i64 at_, .int .i64 v, .int .i64 r, .int .i64 t, .bool seen.s, .int .i64 seen.n, .bool seen.f, .int .i64 seen.v, .int .i64 tr, .int .i64 sp, .bool ag, .int .i64 re] 0 hz (by omega))⟩, fun h => (BoxAt.sets_ne [.int .i64 at_, .int .i64 v, .int .i64 r, .int .i64 t, .bool seen.s, .int .i64 seen.n, .bool seen.f, .int .i64 seen.v, .int .i64 tr, .int .i64 sp, .bool ag, .int .i64 re] 0 (hz_o (by simpa [upd] using h)) (by omega)), ⟨_, _, _, _, _, _, _, _, _, _, _, _, hset⟩, fun h => absurd h (by simp [upd])⟩, hset, Nat.le_of_eq (sets_size _ _ _).symm, fun j hj hn hR => ?_⟩
      match j, hj, hn, hR with
      | 0, _, _, hR => exact (show σ 0 = .agg #[.int .i64 s.rd, .int .i64 s.mo, .slice A n cap, .int .i64 s.fi, .int .i64 s.la] from hR)
      | 1, _, _, hR => obtain ⟨A5_x, n5_x, c5_x, e, hp⟩ := hR; exact ⟨A5_x, n5_x, c5_x, e, ((RgsW.setsT hp hw_ (by decide) (by decide) [.int .i64 at_, .int .i64 v, .int .i64 r, .int .i64 t, .bool seen.s, .int .i64 seen.n, .bool seen.f, .int .i64 seen.v, .int .i64 tr, .int .i64 sp, .bool ag, .int .i64 re] 0).mono (Nat.le_refl _) (Nat.le_of_eq (sets_size _ _ _).symm))⟩
      | 2, _, _, hR => exact (show σ 2 = .agg #[.int .i64 at_, .int .i64 v, .int .i64 r, .int .i64 t, .bool seen.s, .int .i64 seen.n, .bool seen.f, .int .i64 seen.v, .int .i64 tr, .int .i64 sp, .bool ag, .int .i64 re] from hR)
      | 3, _, _, hR => obtain ⟨A5, n5, c5, hx, hp⟩ := hR; exact ⟨A5, n5, c5, (BoxAt.sets_ne [.int .i64 at_, .int .i64 v, .int .i64 r, .int .i64 t, .bool seen.s, .int .i64 seen.n, .bool seen.f, .int .i64 seen.v, .int .i64 tr, .int .i64 sp, .bool ag, .int .i64 re] 0 hx (by omega)), ((RgsW.setsT hp hw_ (by decide) (by decide) [.int .i64 at_, .int .i64 v, .int .i64 r, .int .i64 t, .bool seen.s, .int .i64 seen.n, .bool seen.f, .int .i64 seen.v, .int .i64 tr, .int .i64 sp, .bool ag, .int .i64 re] 0).mono (Nat.le_refl _) (Nat.le_of_eq (sets_size _ _ _).symm))⟩
      | 4, hj, _, _ => exact absurd rfl hj
      | 5, _, _, hR => exact (show σ 5 = .bool false from hR)
      | _ + 6, _, _, _ => exact trivial
    · -- 5: Op.assign (const (Value.bool false))
      go_light
      intro L σ W' hcl hL hC hw
      clear hw
      have HC := Lib.hid hC
      clear hC
      clear hcl hL
      refine OpGoes.step fun K hK => ?_
      unfold OpGoes
      go_simp
      obtain ⟨hB, hx, hy, hM0, ⟨hz_x0, hz_x1, hz_x2, hz_x3, hz_x4, hz⟩, hz_o, ⟨hw__x0, hw__x1, hw__x2, hw__x3, hw__x4, hw__x5, hw__x6, hw__x7, hw__x8, hw__x9, hw__x10, hw__x11, hw_⟩, hw__o⟩ := HC.out
      exact hK _ _ ⟨⟨hB, hx, hy, hM0, ⟨_, _, _, _, _, hz⟩, fun h => hz_o (by simpa [upd] using h), ⟨_, _, _, _, _, _, _, _, _, _, _, _, hw_⟩, fun h => hw__o (by simpa [upd] using h)⟩, rfl, Below.refl _ _⟩
    · intro σ L W' hall hC hR
      obtain ⟨hB, hx, hy, hM0, ⟨hz_x0, hz_x1, hz_x2, hz_x3, hz_x4, hz⟩, hz_o, ⟨hw__x0, hw__x1, hw__x2, hw__x3, hw__x4, hw__x5, hw__x6, hw__x7, hw__x8, hw__x9, hw__x10, hw__x11, hw_⟩, hw__o⟩ := hC
      obtain ⟨A5, n5, c5, s3, hp3⟩ : ∃ (A5 : Option Addr) (n5 c5 : Nat), BoxAt W' (w.heap.size + 1 + 1) #[.int .i64 s.rd, .int .i64 s.mo, .slice A5 n5 c5, .int .i64 s.fi, .int .i64 s.la] 75 ∧ RgsW M0 W'.heap.size W' A5 n5 c5 s.rs := hR 3 (by decide)
      have s4 : BoxAt W' (w.heap.size + 1 + 1 + 1) #[.int .i64 at_, .int .i64 v, .int .i64 r, .int .i64 t, .bool seen.s, .int .i64 seen.n, .bool seen.f, .int .i64 seen.v, .int .i64 tr, .int .i64 sp, .bool ag, .int .i64 re] 41 := hR 4 (by decide)
      have e5 : σ 5 = .bool false := hR 5 (by decide)
      clear hR
      simp only [lexAll]
      go_simp
      go_step
      have k7 := s3.cell
      have k8 := s4.cell
      go_wp2
      refine bodyPost_ret (v := .tuple #[stV s A5 n5 c5, hdV (⟨at_, v, r, t, seen, tr, sp, ag, re⟩ : Hd), .bool false]) (by simp [results, Try.results89, go_sem, k7, k8, stV, hdV]) rfl ⟨A5, n5, c5, by rw [HV.out], ?_, hB⟩
      rw [HV.out]
      exact hp3.mono (by omega) (Nat.le_refl _)
  go_wp2_with fail
  clear kx ky
  refine (l4Ring_any s A n cap r _ HLN.out hm).mono ?_
  rintro e w3 ⟨rfl, hb⟩
  replace hx := hx.below hb hx.lt
  replace hy := hy.below hb hy.lt
  replace hz := hz.below hb hz.lt
  replace hw_ := hw_.below hb hw_.lt
  replace hB := bstep hB hB.size hb
  have h3 := hb.size
  clear hb
  cases hrb : ringB s r
  · have HV := Lib.hid (show stepS putS putB s (⟨at_, v, r, t, seen, tr, sp, ag, re⟩ : Hd) = (s, (⟨at_, v, r, t, seen, tr, sp, ag, re⟩ : Hd), false) by simp [stepS, HOK.out, HHO.out, hrb])
    go_upto_region 4 with fail
    obtain ⟨M0, hMe⟩ : ∃ M0, M0 = w3.heap.size := ⟨_, rfl⟩
    have hM0 : M0 ≤ w3.heap.size := by omega
    have hM4 : w.heap.size + 4 ≤ M0 := by have := hw_.lt; omega
    clear hMe 
    refine wp_region2 (fun w w' => Below w.heap.size w w') (fun _ _ h => h.size) (fun L W' => Below w.heap.size w W' ∧ BoxAt W' w.heap.size #[.int .i64 s.rd, .int .i64 s.mo, .slice A n cap, .int .i64 s.fi, .int .i64 s.la] 75 ∧ BoxAt W' (w.heap.size + 1) #[.int .i64 at_, .int .i64 v, .int .i64 r, .int .i64 t, .bool seen.s, .int .i64 seen.n, .bool seen.f, .int .i64 seen.v, .int .i64 tr, .int .i64 sp, .bool ag, .int .i64 re] 41 ∧ M0 ≤ W'.heap.size ∧ (∃ x0 x1 x2 x3 x4, BoxAt W' (w.heap.size + 1 + 1) #[x0, x1, x2, x3, x4] 75) ∧ (L 3 = false → BoxAt W' (w.heap.size + 1 + 1) #[.int .i64 0, .int .i64 0, .slice none 0 0, .int .i64 0, .int .i64 0] 75) ∧ (∃ x0 x1 x2 x3 x4 x5 x6 x7 x8 x9 x10 x11, BoxAt W' (w.heap.size + 1 + 1 + 1) #[x0, x1, x2, x3, x4, x5, x6, x7, x8, x9, x10, x11] 41) ∧ (L 4 = false → BoxAt W' (w.heap.size + 1 + 1 + 1) #[.int .i64 0, .int .i64 0, .int .i64 0, .int .i64 0, .bool false, .int .i64 0, .bool false, .int .i64 0, .int .i64 0, .int .i64 0, .bool false, .int .i64 0] 41)) (ps4R s w.heap.size M0 n cap A at_ v r t seen tr sp ag re) ps4K ps4S (by kernel_rfl) (by kernel_rfl) ?_ ?_ ?_
      (.grow rfl ?_ <| .grow rfl ?_ <| .grow rfl ?_ <| .store rfl ?_ <| .store rfl ?_ <| .grow rfl ?_ <| .nil) ?_
    · intro j σ τ w h hR
      match j, h, hR with
      | 0, h, hR => exact (h 0 (List.mem_singleton.2 rfl)).symm.trans hR
      | 1, h, hR => obtain ⟨A5, n5, c5, e, hp⟩ := hR; exact ⟨A5, n5, c5, (h 1 (List.mem_singleton.2 rfl)).symm.trans e, hp⟩
      | 2, h, hR => exact (h 2 (List.mem_singleton.2 rfl)).symm.trans hR
      | 3, _, hR => exact hR
      | 4, _, hR => exact hR
      | 5, h, hR => exact (h 5 (List.mem_singleton.2 rfl)).symm.trans hR
      | _ + 6, _, _ => exact trivial
    · intro j σ w w' hb hR
      match j, hR with
      | 0, hR => exact hR
      | 1, hR => obtain ⟨A5, n5, c5, e, hp⟩ := hR; exact ⟨A5, n5, c5, e, (hp.below hb (Nat.le_refl _)).mono (Nat.le_refl _) hb.size⟩
      | 2, hR => exact hR
      | 3, hR => obtain ⟨A5, n5, c5, hx, hp⟩ := hR; exact ⟨A5, n5, c5, hx.below hb hx.lt, (hp.below hb (Nat.le_refl _)).mono (Nat.le_refl _) hb.size⟩
      | 4, hR => exact hR.below hb hR.lt
      | 5, hR => exact hR
      | _ + 6, _ => exact trivial
    · exact ⟨hB.drew, hx, hy, hM0, ⟨_, _, _, _, _, hz⟩, fun _ => hz, ⟨_, _, _, _, _, _, _, _, _, _, _, _, hw_⟩, fun _ => hw_⟩
    · -- 0: Op.load 75 t2
      go_light
      intro L σ W' hcl hL hC hw
      clear hw
      have HC := Lib.hid hC
      obtain ⟨hB, hx, hy, hM0, ⟨hz_x0, hz_x1, hz_x2, hz_x3, hz_x4, hz⟩, hz_o, ⟨hw__x0, hw__x1, hw__x2, hw__x3, hw__x4, hw__x5, hw__x6, hw__x7, hw__x8, hw__x9, hw__x10, hw__x11, hw_⟩, hw__o⟩ := hC
      have ks := hx.cell
      clear hcl hL
      clear hB hx hy hM0 hz hz_o hw_ hw__o
      refine OpGoes.step fun K hK => ?_
      unfold OpGoes
      go_simp
      obtain ⟨hB, hx, hy, hM0, ⟨hz_x0, hz_x1, hz_x2, hz_x3, hz_x4, hz⟩, hz_o, ⟨hw__x0, hw__x1, hw__x2, hw__x3, hw__x4, hw__x5, hw__x6, hw__x7, hw__x8, hw__x9, hw__x10, hw__x11, hw_⟩, hw__o⟩ := HC.out
      exact hK _ _ ⟨⟨hB, hx, hy, hM0, ⟨_, _, _, _, _, hz⟩, fun h => hz_o (by simpa [upd] using h), ⟨_, _, _, _, _, _, _, _, _, _, _, _, hw_⟩, fun h => hw__o (by simpa [upd] using h)⟩, rfl, Below.refl _ _⟩
    · -- 1: Op.call { value (Operand.func 83), args := #[t31], argTypes := #[75] }
      go_light
      intro L σ W' hcl hL hC hw
      have e0 : σ 0 = .agg #[.int .i64 s.rd, .int .i64 s.mo, .slice A n cap, .int .i64 s.fi, .int .i64 s.la] := hw 0 (by kernel_rfl)
      clear hw
      have HC := Lib.hid hC
      clear hC
      clear hcl hL
      refine OpGoes.step fun K hK => ?_
      unfold OpGoes
      go_simp
      obtain ⟨hB, hx, hy, hM0, ⟨hz_x0, hz_x1, hz_x2, hz_x3, hz_x4, hz⟩, hz_o, ⟨hw__x0, hw__x1, hw__x2, hw__x3, hw__x4, hw__x5, hw__x6, hw__x7, hw__x8, hw__x9, hw__x10, hw__x11, hw_⟩, hw__o⟩ := HC.out
      refine (HCPY.out _ hB).mono ?_
      rintro e w1 ⟨A5, n5, c5, rfl, hG5, hb1⟩
      exact ⟨_, rfl, hK _ _ ⟨⟨bstep hB hB.size hb1, hx.below hb1 hx.lt, hy.below hb1 hy.lt, Nat.le_trans hM0 hb1.size, ⟨_, _, _, _, _, hz.below hb1 hz.lt⟩, fun h => (hz_o (by simpa [upd] using h)).below hb1 (hz_o (by simpa [upd] using h)).lt, ⟨_, _, _, _, _, _, _, _, _, _, _, _, hw_.below hb1 hw_.lt⟩, fun h => (hw__o (by simpa [upd] using h)).below hb1 (hw__o (by simpa [upd] using h)).lt⟩, ⟨A5, n5, c5, rfl, hG5.mono hM0 (Nat.le_refl _)⟩, hb1⟩⟩
    · -- 2: Op.load 41 t3
      go_light
      intro L σ W' hcl hL hC hw
      clear hw
      have HC := Lib.hid hC
      obtain ⟨hB, hx, hy, hM0, ⟨hz_x0, hz_x1, hz_x2, hz_x3, hz_x4, hz⟩, hz_o, ⟨hw__x0, hw__x1, hw__x2, hw__x3, hw__x4, hw__x5, hw__x6, hw__x7, hw__x8, hw__x9, hw__x10, hw__x11, hw_⟩, hw__o⟩ := hC
      have kh := hy.cell
      clear hcl hL
      clear hB hx hy hM0 hz hz_o hw_ hw__o
      refine OpGoes.step fun K hK => ?_
      unfold OpGoes
      go_simp
      obtain ⟨hB, hx, hy, hM0, ⟨hz_x0, hz_x1, hz_x2, hz_x3, hz_x4, hz⟩, hz_o, ⟨hw__x0, hw__x1, hw__x2, hw__x3, hw__x4, hw__x5, hw__x6, hw__x7, hw__x8, hw__x9, hw__x10, hw__x11, hw_⟩, hw__o⟩ := HC.out
      exact hK _ _ ⟨⟨hB, hx, hy, hM0, ⟨_, _, _, _, _, hz⟩, fun h => hz_o (by simpa [upd] using h), ⟨_, _, _, _, _, _, _, _, _, _, _, _, hw_⟩, fun h => hw__o (by simpa [upd] using h)⟩, rfl, Below.refl _ _⟩
    · -- 3: Op.store 75 t4 t32
      go_light
      intro L σ W' hcl hL hC hw hne
      obtain ⟨A5, n5, c5, e1, hp1⟩ : ∃ (A5 : Option Addr) (n5 c5 : Nat), σ 1 = .agg #[.int .i64 s.rd, .int .i64 s.mo, .slice A5 n5 c5, .int .i64 s.fi, .int .i64 s.la] ∧ RgsW M0 W'.heap.size W' A5 n5 c5 s.rs := hw 1 (by kernel_rfl)
      clear hw hne
      have HC := Lib.hid hC
      obtain ⟨hB, hx, hy, hM0, ⟨hz_x0, hz_x1, hz_x2, hz_x3, hz_x4, hz⟩, hz_o, ⟨hw__x0, hw__x1, hw__x2, hw__x3, hw__x4, hw__x5, hw__x6, hw__x7, hw__x8, hw__x9, hw__x10, hw__x11, hw_⟩, hw__o⟩ := hC
      clear hcl hL
      have kc_ := hz.cell
      have kf_ := hz.frozen
      clear hB hx hy hM0 hz hz_o hw_ hw__o
      refine OpGoes.step fun K hK => ?_
      unfold OpGoes
      go_simp
      obtain ⟨hB, hx, hy, hM0, ⟨hz_x0, hz_x1, hz_x2, hz_x3, hz_x4, hz⟩, hz_o, ⟨hw__x0, hw__x1, hw__x2, hw__x3, hw__x4, hw__x5, hw__x6, hw__x7, hw__x8, hw__x9, hw__x10, hw__x11, hw_⟩, hw__o⟩ := HC.out
      have hset := sets_all (us := [.int .i64 s.rd, .int .i64 s.mo, .slice A5 n5 c5, .int .i64 s.fi, .int .i64 s.la]) hz rfl
      refine hK undef (setCells W' (w.heap.size + 1 + 1) 0 [.int .i64 s.rd, .int .i64 s.mo, .slice A5 n5 c5, .int .i64 s.fi, .int .i64 s.la]) ⟨⟨(Below.setCells (by omega) [.int .i64 s.rd, .int .i64 s.mo, .slice A5 n5 c5, .int .i64 s.fi, .int .i64 s.la] 0 hB), (BoxAt.sets_ne [.int .i64 s.rd, .int .i64 s.mo, .slice A5 n5 c5, .int .i64 s.fi, .int .i64 s.la] 0 hx (by omega)), (BoxAt.sets_ne [.int .i64 s.rd, .int .i64 s.mo, .slice A5 n5 c5, .int .i64 s.fi, .int .i64 s.la] 0 hy (by omega)), (size_sts hM0 [.int .i64 s.rd, .int .i64 s.mo, .slice A5 n5 c5, .int .i64 s.fi, .int .i64 s.la] 0), ⟨_, _, _, _, _, hset⟩, fun h => absurd h (by simp [upd]), ⟨_, _, _, _, _, _, _, _, _, _, _, _, (BoxAt.sets_ne [.int .i64 s.rd, .int .i64 s.mo, .slice A5 n5 c5, .int .i64 s.fi, .int .i64 s.la] 0 hw_ (by omega))⟩, fun h => (BoxAt.sets_ne [.int .i64 s.rd, .int .i64 s.mo, .slice A5 n5 c5, .int .i64 s.fi, .int .i64 s.la] 0 (hw__o (by simpa [upd] using h)) (by omega))⟩, ⟨A5, n5, c5, hset, ((RgsW.setsT hp1 hz (by decide) (by decide) [.int .i64 s.rd, .int .i64 s.mo, .slice A5 n5 c5, .int .i64 s.fi, .int .i64 s.la] 0).mono (Nat.le_refl _) (Nat.le_of_eq (sets_size _ _ _).symm))⟩, Nat.le_of_eq (sets_size _ _ _).symm, fun j hj hn hR => ?_⟩
      match j, hj, hn, hR with
      | 0, _, _, hR => exact (show σ 0 = .agg #[.int .i64 s.rd, .int .i64 s.mo, .slice A n cap, .int .i64 s.fi, .int .i64 s.la] from hR)
      | 1, _, _, hR => obtain ⟨A5_x, n5_x, c5_x, e, hp⟩ := hR; exact ⟨A5_x, n5_x, c5_x, e, ((RgsW.setsT hp hz (by decide) (by decide) [.int .i64 s.rd, .int .i64 s.mo, .slice A5 n5 c5, .int .i64 s.fi, .int .i64 s.la] 0).mono (Nat.le_refl _) (Nat.le_of_eq (sets_size _ _ _).symm))⟩
      | 2, _, _, hR => exact (show σ 2 = .agg #[.int .i64 at_, .int .i64 v, .int .i64 r, .int .i64 t, .bool seen.s, .int .i64 seen.n, .bool seen.f, .int .i64 seen.v, .int .i64 tr, .int .i64 sp, .bool ag, .int .i64 re] from hR)
      | 3, hj, _, _ => exact absurd rfl hj
      | 4, _, _, hR => exact (BoxAt.sets_ne [.int .i64 s.rd, .int .i64 s.mo, .slice A5 n5 c5, .int .i64 s.fi, .int .i64 s.la] 0 hR (by omega))
      | 5, _, _, hR => exact (show σ 5 = .bool false from hR)
      | _ + 6, _, _, _ => exact trivial
    · -- 4: Op.store 41 t5 t33
      go_light
      intro L σ W' hcl hL hC hw hne
      have e2 : σ 2 = .agg #[.int .i64 at_, .int .i64 v, .int .i64 r, .int .i64 t, .bool seen.s, .int .i64 seen.n, .bool seen.f, .int .i64 seen.v, .int .i64 tr, .int .i64 sp, .bool ag, .int .i64 re] := hw 2 (by kernel_rfl)
      clear hw hne
      have HC := Lib.hid hC
      obtain ⟨hB, hx, hy, hM0, ⟨hz_x0, hz_x1, hz_x2, hz_x3, hz_x4, hz⟩, hz_o, ⟨hw__x0, hw__x1, hw__x2, hw__x3, hw__x4, hw__x5, hw__x6, hw__x7, hw__x8, hw__x9, hw__x10, hw__x11, hw_⟩, hw__o⟩ := hC
      clear hcl hL
      have kc_ := hw_.cell
      have kf_ := hw_.frozen
      clear hB hx hy hM0 hz hz_o hw_ hw__o
      refine OpGoes.step fun K hK => ?_
      unfold OpGoes
      go_simp
      obtain ⟨hB, hx, hy, hM0, ⟨hz_x0, hz_x1, hz_x2, hz_x3, hz_x4, hz⟩, hz_o, ⟨hw__x0, hw__x1, hw__x2, hw__x3, hw__x4, hw__x5, hw__x6, hw__x7, hw__x8, hw__x9, hw__x10, hw__x11, hw_⟩, hw__o⟩ := HC.out
      have hset := sets_all (us := [.int .i64 at_, .int .i64 v, .int .i64 r, .int .i64 t, .bool seen.s, .int .i64 seen.n, .bool seen.f, .int .i64 seen.v, .int .i64 tr, .int .i64 sp, .bool ag, .int .i64 re]) hw_ rfl
      refine hK undef (setCells W' (w.heap.size + 1 + 1 + 1) 0 [.int .i64 at_, .int .i64 v, .int .i64 r, .int .i64 t, .bool seen.s, .int .i64 seen.n, .bool seen.f, .int .i64 seen.v, .int .i64 tr, .int .i64 sp, .bool ag, .int .i64 re]) ⟨⟨(Below.setCells (by omega) [.int .i64 at_, .int .i64 v, .int .i64 r, .int .i64 t, .bool seen.s, .int .i64 seen.n, .bool seen.f, .int .i64 seen.v, .int .i64 tr, .int .i64 sp, .bool ag, .int .i64 re] 0 hB), (BoxAt.sets_ne [.int .i64 at_, .int .i64 v, .int .i64 r, .int .i64 t, .bool seen.s, .int .i64 seen.n, .bool seen.f, .int .i64 seen.v, .int .i64 tr, .int .i64 sp, .bool ag, .int .i64 re] 0 hx (by omega)), (BoxAt.sets_ne [.int .i64 at_, .int .i64 v, .int .i64 r, .int .i64 t, .bool seen.s, .int .i64 seen.n, .bool seen.f, .int .i64 seen.v, .int .i64 tr, .int .i64 sp, .bool ag, .int .i64 re] 0 hy (by omega)), (size_sts hM0 [.int .i64 at_, .int .i64 v, .int .i64 r, .int .i64 t, .bool seen.s, .int .i64 seen.n, .bool seen.f, .int .i64 seen.v, .int .i64 tr, .int .i64 sp, .bool ag, .int .i64 re] 0), ⟨_, _, _, _, _, (BoxAt.sets_ne [.int .i64 at_, .int .i64 v, .int .i64 r, .int .i64 t, .bool seen.s, .int .i64 seen.n, .bool seen.f, .int .i64 seen.v, .int .i64 tr, .int .i64 sp, .bool ag, .int .i64 re] 0 hz (by omega))⟩, fun h => (BoxAt.sets_ne [.int .i64 at_, .int .i64 v, .int .i64 r, .int .i64 t, .bool seen.s, .int .i64 seen.n, .bool seen.f, .int .i64 seen.v, .int .i64 tr, .int .i64 sp, .bool ag, .int .i64 re] 0 (hz_o (by simpa [upd] using h)) (by omega)), ⟨_, _, _, _, _, _, _, _, _, _, _, _, hset⟩, fun h => absurd h (by simp [upd])⟩, hset, Nat.le_of_eq (sets_size _ _ _).symm, fun j hj hn hR => ?_⟩
      match j, hj, hn, hR with
      | 0, _, _, hR => exact (show σ 0 = .agg #[.int .i64 s.rd, .int .i64 s.mo, .slice A n cap, .int .i64 s.fi, .int .i64 s.la] from hR)
      | 1, _, _, hR => obtain ⟨A5_x, n5_x, c5_x, e, hp⟩ := hR; exact ⟨A5_x, n5_x, c5_x, e, ((RgsW.setsT hp hw_ (by decide) (by decide) [.int .i64 at_, .int .i64 v, .int .i64 r, .int .i64 t, .bool seen.s, .int .i64 seen.n, .bool seen.f, .int .i64 seen.v, .int .i64 tr, .int .i64 sp, .bool ag, .int .i64 re] 0).mono (Nat.le_refl _) (Nat.le_of_eq (sets_size _ _ _).symm))⟩
      | 2, _, _, hR => exact (show σ 2 = .agg #[.int .i64 at_, .int .i64 v, .int .i64 r, .int .i64 t, .bool seen.s, .int .i64 seen.n, .bool seen.f, .int .i64 seen.v, .int .i64 tr, .int .i64 sp, .bool ag, .int .i64 re] from hR)
      | 3, _, _, hR => obtain ⟨A5, n5, c5, hx, hp⟩ := hR; exact ⟨A5, n5, c5, (BoxAt.sets_ne [.int .i64 at_, .int .i64 v, .int .i64 r, .int .i64 t, .bool seen.s, .int .i64 seen.n, .bool seen.f, .int .i64 seen.v, .int .i64 tr, .int .i64 sp, .bool ag, .int .i64 re] 0 hx (by omega)), ((RgsW.setsT hp hw_ (by decide) (by decide) [.int .i64 at_, .int .i64 v, .int .i64 r, .int .i64 t, .bool seen.s, .int .i64 seen.n, .bool seen.f, .int .i64 seen.v, .int .i64 tr, .int .i64 sp, .bool ag, .int .i64 re] 0).mono (Nat.le_refl _) (Nat.le_of_eq (sets_size _ _ _).symm))⟩
      | 4, hj, _, _ => exact absurd rfl hj
      | 5, _, _, hR => exact (show σ 5 = .bool false from hR)
      | _ + 6, _, _, _ => exact trivial
    · -- 5: Op.assign (const (Value.bool false))
      go_light
      intro L σ W' hcl hL hC hw
      clear hw
      have HC := Lib.hid hC
      clear hC
      clear hcl hL
      refine OpGoes.step fun K hK => ?_
      unfold OpGoes
      go_simp
      obtain ⟨hB, hx, hy, hM0, ⟨hz_x0, hz_x1, hz_x2, hz_x3, hz_x4, hz⟩, hz_o, ⟨hw__x0, hw__x1, hw__x2, hw__x3, hw__x4, hw__x5, hw__x6, hw__x7, hw__x8, hw__x9, hw__x10, hw__x11, hw_⟩, hw__o⟩ := HC.out
      exact hK _ _ ⟨⟨hB, hx, hy, hM0, ⟨_, _, _, _, _, hz⟩, fun h => hz_o (by simpa [upd] using h), ⟨_, _, _, _, _, _, _, _, _, _, _, _, hw_⟩, fun h => hw__o (by simpa [upd] using h)⟩, rfl, Below.refl _ _⟩
    · intro σ L W' hall hC hR
      obtain ⟨hB, hx, hy, hM0, ⟨hz_x0, hz_x1, hz_x2, hz_x3, hz_x4, hz⟩, hz_o, ⟨hw__x0, hw__x1, hw__x2, hw__x3, hw__x4, hw__x5, hw__x6, hw__x7, hw__x8, hw__x9, hw__x10, hw__x11, hw_⟩, hw__o⟩ := hC
      obtain ⟨A5, n5, c5, s3, hp3⟩ : ∃ (A5 : Option Addr) (n5 c5 : Nat), BoxAt W' (w.heap.size + 1 + 1) #[.int .i64 s.rd, .int .i64 s.mo, .slice A5 n5 c5, .int .i64 s.fi, .int .i64 s.la] 75 ∧ RgsW M0 W'.heap.size W' A5 n5 c5 s.rs := hR 3 (by decide)
      have s4 : BoxAt W' (w.heap.size + 1 + 1 + 1) #[.int .i64 at_, .int .i64 v, .int .i64 r, .int .i64 t, .bool seen.s, .int .i64 seen.n, .bool seen.f, .int .i64 seen.v, .int .i64 tr, .int .i64 sp, .bool ag, .int .i64 re] 41 := hR 4 (by decide)
      have e5 : σ 5 = .bool false := hR 5 (by decide)
      clear hR
      simp only [lexAll]
      go_simp
      go_step
      have k7 := s3.cell
      have k8 := s4.cell
      go_wp2
      refine bodyPost_ret (v := .tuple #[stV s A5 n5 c5, hdV (⟨at_, v, r, t, seen, tr, sp, ag, re⟩ : Hd), .bool false]) (by simp [results, Try.results89, go_sem, k7, k8, stV, hdV]) rfl ⟨A5, n5, c5, by rw [HV.out], ?_, hB⟩
      rw [HV.out]
      exact hp3.mono (by omega) (Nat.le_refl _)
  have HTB := Lib.hid (show putB at_ = true by simp [hpb])
  obtain ⟨q, hq⟩ : ∃ q, putS s (⟨at_, v, r, t, seen, tr, sp, ag, re⟩ : Hd) = q := ⟨_, rfl⟩
  have HQN := Lib.hid (show Neat q.1 by rw [← hq]; exact putS_neat HOK.out)
  obtain ⟨M0, hMe⟩ : ∃ M0, M0 = w3.heap.size := ⟨_, rfl⟩
  have hM0 : M0 ≤ w3.heap.size := by omega
  have hM4 : w.heap.size + 4 ≤ M0 := by have := hw_.lt; omega
  clear hMe
  have HTK := Lib.hid (show ∀ (W : World) (A1 : Option Addr) (n1 c1 : Nat), Below w.heap.size w W → M0 ≤ W.heap.size → RgsW M0 W.heap.size W A1 n1 c1 s.rs → Calls Try.prog 91 #[stV s A1 n1 c1, hdV (⟨at_, v, r, t, seen, tr, sp, ag, re⟩ : Hd)] W (RetSHB M0 q W) from fun W A1 n1 c1 hBW hMW hG => by
    have := l6Put_any s A1 n1 c1 M0 W.heap.size (⟨at_, v, r, t, seen, tr, sp, ag, re⟩ : Hd) W hG (Nat.le_refl _) hMW HOK.out hrb HHO.out hpb
    rw [hq] at this
    exact this)
  unfold stV hdV at HTK
  have HRB := Lib.hid hrb
  have HQ := Lib.hid hq
  clear hrb hq
  go_upto_region 5 with fail
  go_cut [7, 8, 9] (fun u7 u8 u9 W' => Below w.heap.size w W' ∧ BoxAt W' w.heap.size #[.int .i64 s.rd, .int .i64 s.mo, .slice A n cap, .int .i64 s.fi, .int .i64 s.la] 75 ∧ BoxAt W' (w.heap.size + 1) #[.int .i64 at_, .int .i64 v, .int .i64 r, .int .i64 t, .bool seen.s, .int .i64 seen.n, .bool seen.f, .int .i64 seen.v, .int .i64 tr, .int .i64 sp, .bool ag, .int .i64 re] 41 ∧ BoxAt W' (w.heap.size + 1 + 1) #[.int .i64 0, .int .i64 0, .slice none 0 0, .int .i64 0, .int .i64 0] 75 ∧ BoxAt W' (w.heap.size + 1 + 1 + 1) #[.int .i64 0, .int .i64 0, .int .i64 0, .int .i64 0, .bool false, .int .i64 0, .bool false, .int .i64 0, .int .i64 0, .int .i64 0, .bool false, .int .i64 0] 41 ∧ M0 ≤ W'.heap.size ∧ ∃ (X Y : Nat) (A5 : Option Addr) (n5 c5 : Nat), M0 ≤ X ∧ M0 ≤ Y ∧ BoxAt W' X #[.int .i64 q.1.rd, .int .i64 q.1.mo, .slice A5 n5 c5, .int .i64 q.1.fi, .int .i64 q.1.la] 75 ∧ BoxAt W' Y #[.int .i64 q.2.1.at_, .int .i64 q.2.1.v, .int .i64 q.2.1.r, .int .i64 q.2.1.t, .bool q.2.1.seen.s, .int .i64 q.2.1.seen.n, .bool q.2.1.seen.f, .int .i64 q.2.1.seen.v, .int .i64 q.2.1.tr, .int .i64 q.2.1.sp, .bool q.2.1.ag, .int .i64 q.2.1.re] 41 ∧ RgsW M0 W'.heap.size W' A5 n5 c5 q.1.rs ∧ u7 = .pointer (some ⟨X, 0, none⟩) ∧ u8 = .pointer (some ⟨Y, 0, none⟩) ∧ u9 = .bool q.2.2)
  case first =>
    refine wp_region2 (fun w w' => Below w.heap.size w w') (fun _ _ h => h.size) (fun L W' => Below w.heap.size w W' ∧ BoxAt W' w.heap.size #[.int .i64 s.rd, .int .i64 s.mo, .slice A n cap, .int .i64 s.fi, .int .i64 s.la] 75 ∧ BoxAt W' (w.heap.size + 1) #[.int .i64 at_, .int .i64 v, .int .i64 r, .int .i64 t, .bool seen.s, .int .i64 seen.n, .bool seen.f, .int .i64 seen.v, .int .i64 tr, .int .i64 sp, .bool ag, .int .i64 re] 41 ∧ M0 ≤ W'.heap.size ∧ BoxAt W' (w.heap.size + 1 + 1) #[.int .i64 0, .int .i64 0, .slice none 0 0, .int .i64 0, .int .i64 0] 75 ∧ BoxAt W' (w.heap.size + 1 + 1 + 1) #[.int .i64 0, .int .i64 0, .int .i64 0, .int .i64 0, .bool false, .int .i64 0, .bool false, .int .i64 0, .int .i64 0, .int .i64 0, .bool false, .int .i64 0] 41) (ps5R s w.heap.size M0 n cap A at_ v r t seen tr sp ag re q) ps5K ps5S (by kernel_rfl) (by kernel_rfl) ?_ ?_ ?_
      (.grow rfl ?_ <| .grow rfl ?_ <| .grow rfl ?_ <| .grow rfl ?_ <| .grow rfl ?_ <| .grow rfl ?_ <| .grow rfl ?_ <| .grow rfl ?_ <| .make rfl ?_ <| .make rfl ?_ <| .store rfl ?_ <| .store rfl ?_ <| .grow rfl ?_ <| .nil) ?_
    · intro j σ τ w h hR
      match j, h, hR with
      | 0, h, hR => exact (h 0 (List.mem_singleton.2 rfl)).symm.trans hR
      | 1, h, hR => obtain ⟨A1, n1, c1, e, hp⟩ := hR; exact ⟨A1, n1, c1, (h 1 (List.mem_singleton.2 rfl)).symm.trans e, hp⟩
      | 2, h, hR => exact (h 2 (List.mem_singleton.2 rfl)).symm.trans hR
      | 3, h, hR => obtain ⟨A5, n5, c5, e, hp⟩ := hR; exact ⟨A5, n5, c5, (h 3 (List.mem_singleton.2 rfl)).symm.trans e, hp⟩
      | 4, h, hR => obtain ⟨A5, n5, c5, e, hp⟩ := hR; exact ⟨A5, n5, c5, (h 4 (List.mem_singleton.2 rfl)).symm.trans e, hp⟩
      | 5, h, hR => obtain ⟨A5, n5, c5, e, hp⟩ := hR; exact ⟨A5, n5, c5, (h 5 (List.mem_singleton.2 rfl)).symm.trans e, hp⟩
      | 6, h, hR => exact (h 6 (List.mem_singleton.2 rfl)).symm.trans hR
      | 7, h, hR => exact (h 7 (List.mem_singleton.2 rfl)).symm.trans hR
      | 8, h, hR => obtain ⟨g, e, hp⟩ := hR; exact ⟨g, (h 8 (List.mem_singleton.2 rfl)).symm.trans e, hp⟩
      | 9, h, hR => obtain ⟨g, e, hp⟩ := hR; exact ⟨g, (h 9 (List.mem_singleton.2 rfl)).symm.trans e, hp⟩
      | 10, h, hR => obtain ⟨g, A5, n5, c5, e, hp⟩ := hR; exact ⟨g, A5, n5, c5, (h 8 (List.mem_singleton.2 rfl)).symm.trans e, hp⟩
      | 11, h, hR => obtain ⟨g, e, hp⟩ := hR; exact ⟨g, (h 9 (List.mem_singleton.2 rfl)).symm.trans e, hp⟩
      | 12, h, hR => exact (h 12 (List.mem_singleton.2 rfl)).symm.trans hR
      | _ + 13, _, _ => exact trivial
    · intro j σ w w' hb hR
      match j, hR with
      | 0, hR => exact hR
      | 1, hR => obtain ⟨A1, n1, c1, e, hp⟩ := hR; exact ⟨A1, n1, c1, e, (hp.below hb (Nat.le_refl _)).mono (Nat.le_refl _) hb.size⟩
      | 2, hR => exact hR
      | 3, hR => obtain ⟨A5, n5, c5, e, hp⟩ := hR; exact ⟨A5, n5, c5, e, (hp.below hb (Nat.le_refl _)).mono (Nat.le_refl _) hb.size⟩
      | 4, hR => obtain ⟨A5, n5, c5, e, hp⟩ := hR; exact ⟨A5, n5, c5, e, (hp.below hb (Nat.le_refl _)).mono (Nat.le_refl _) hb.size⟩
      | 5, hR => obtain ⟨A5, n5, c5, e, hp⟩ := hR; exact ⟨A5, n5, c5, e, (hp.below hb (Nat.le_refl _)).mono (Nat.le_refl _) hb.size⟩
      | 6, hR => exact hR
      | 7, hR => exact hR
      | 8, hR => obtain ⟨g, e, hg, x0, x1, x2, x3, x4, hx⟩ := hR; exact ⟨g, e, hg, x0, x1, x2, x3, x4, hx.below hb hx.lt⟩
      | 9, hR => obtain ⟨g, e, hg, x0, x1, x2, x3, x4, x5, x6, x7, x8, x9, x10, x11, hx⟩ := hR; exact ⟨g, e, hg, x0, x1, x2, x3, x4, x5, x6, x7, x8, x9, x10, x11, hx.below hb hx.lt⟩
      | 10, hR => obtain ⟨g, A5, n5, c5, e, hg, hx, hp⟩ := hR; exact ⟨g, A5, n5, c5, e, hg, hx.below hb hx.lt, (hp.below hb (Nat.le_refl _)).mono (Nat.le_refl _) hb.size⟩
      | 11, hR => obtain ⟨g, e, hg, hx⟩ := hR; exact ⟨g, e, hg, hx.below hb hx.lt⟩
      | 12, hR => exact hR
      | _ + 13, _ => exact trivial
    · exact ⟨hB.drew, hx, hy, hM0, hz, hw_⟩
    · -- 0: Op.load 75 t2
      go_light
      intro L σ W' hcl hL hC hw
      clear hw
      have HC := Lib.hid hC
      obtain ⟨hB, hx, hy, hM0, hz, hw_⟩ := hC
      have ks := hx.cell
      clear hcl hL
      clear hB hx hy hM0 hz hw_
      refine OpGoes.step fun K hK => ?_
      unfold OpGoes
      go_simp
      obtain ⟨hB, hx, hy, hM0, hz, hw_⟩ := HC.out
      exact hK _ _ ⟨⟨hB, hx, hy, hM0, hz, hw_⟩, rfl, Below.refl _ _⟩
    · -- 1: Op.call { value (Operand.func 83), args := #[t35], argTypes := #[75] }
      go_light
      intro L σ W' hcl hL hC hw
      have e0 : σ 0 = .agg #[.int .i64 s.rd, .int .i64 s.mo, .slice A n cap, .int .i64 s.fi, .int .i64 s.la] := hw 0 (by kernel_rfl)
      clear hw
      have HC := Lib.hid hC
      clear hC
      clear hcl hL
      refine OpGoes.step fun K hK => ?_
      unfold OpGoes
      go_simp
      obtain ⟨hB, hx, hy, hM0, hz, hw_⟩ := HC.out
      refine (HCPY.out _ hB).mono ?_
      rintro e w1 ⟨A1, n1, c1, rfl, hG5, hb1⟩
      exact ⟨_, rfl, hK _ _ ⟨⟨bstep hB hB.size hb1, hx.below hb1 hx.lt, hy.below hb1 hy.lt, Nat.le_trans hM0 hb1.size, hz.below hb1 hz.lt, hw_.below hb1 hw_.lt⟩, ⟨A1, n1, c1, rfl, hG5.mono hM0 (Nat.le_refl _)⟩, hb1⟩⟩
    · -- 2: Op.load 41 t3
      go_light
      intro L σ W' hcl hL hC hw
      clear hw
      have HC := Lib.hid hC
      obtain ⟨hB, hx, hy, hM0, hz, hw_⟩ := hC
      have kh := hy.cell
      clear hcl hL
      clear hB hx hy hM0 hz hw_
      refine OpGoes.step fun K hK => ?_
      unfold OpGoes
      go_simp
      obtain ⟨hB, hx, hy, hM0, hz, hw_⟩ := HC.out
      exact hK _ _ ⟨⟨hB, hx, hy, hM0, hz, hw_⟩, rfl, Below.refl _ _⟩
    · -- 3: Op.call { value (Operand.func 91), args := #[t36, t37], argTypes := #[75, 41] }
      go_light
      intro L σ W' hcl hL hC hw
      obtain ⟨A1, n1, c1, e1, hp1⟩ : ∃ (A1 : Option Addr) (n1 c1 : Nat), σ 1 = .agg #[.int .i64 s.rd, .int .i64 s.mo, .slice A1 n1 c1, .int .i64 s.fi, .int .i64 s.la] ∧ RgsW M0 W'.heap.size W' A1 n1 c1 s.rs := hw 1 (by kernel_rfl)
      have e2 : σ 2 = .agg #[.int .i64 at_, .int .i64 v, .int .i64 r, .int .i64 t, .bool seen.s, .int .i64 seen.n, .bool seen.f, .int .i64 seen.v, .int .i64 tr, .int .i64 sp, .bool ag, .int .i64 re] := hw 2 (by kernel_rfl)
      clear hw
      have HC := Lib.hid hC
      clear hC
      clear hcl hL
      refine OpGoes.step fun K hK => ?_
      unfold OpGoes
      go_simp
      obtain ⟨hB, hx, hy, hM0, hz, hw_⟩ := HC.out
      refine (HTK.out _ _ _ _ hB hM0 hp1).mono ?_
      rintro e w1 ⟨A5, n5, c5, rfl, hG5, hb1⟩
      exact ⟨_, rfl, hK _ _ ⟨⟨bstep hB hB.size hb1, hx.below hb1 hx.lt, hy.below hb1 hy.lt, Nat.le_trans hM0 hb1.size, hz.below hb1 hz.lt, hw_.below hb1 hw_.lt⟩, ⟨A5, n5, c5, rfl, hG5⟩, hb1⟩⟩
    · -- 4: Op.move t38
      go_light
      intro L σ W' hcl hL hC hw
      obtain ⟨A5, n5, c5, e3, hp3⟩ : ∃ (A5 : Option Addr) (n5 c5 : Nat), σ 3 = .tuple #[.agg #[.int .i64 q.1.rd, .int .i64 q.1.mo, .slice A5 n5 c5, .int .i64 q.1.fi, .int .i64 q.1.la], .agg #[.int .i64 q.2.1.at_, .int .i64 q.2.1.v, .int .i64 q.2.1.r, .int .i64 q.2.1.t, .bool q.2.1.seen.s, .int .i64 q.2.1.seen.n, .bool q.2.1.seen.f, .int .i64 q.2.1.seen.v, .int .i64 q.2.1.tr, .int .i64 q.2.1.sp, .bool q.2.1.ag, .int .i64 q.2.1.re], .bool q.2.2] ∧ RgsW M0 W'.heap.size W' A5 n5 c5 q.1.rs := hw 3 (by kernel_rfl)
      clear hw
      have HC := Lib.hid hC
      clear hC
      clear hcl hL
      refine OpGoes.step fun K hK => ?_
      unfold OpGoes
      go_simp
      obtain ⟨hB, hx, hy, hM0, hz, hw_⟩ := HC.out
      exact hK _ _ ⟨⟨hB, hx, hy, hM0, hz, hw_⟩, ⟨A5, n5, c5, rfl, hp3⟩, Below.refl _ _⟩
    · -- 5: Op.extract t34 0
      go_light
      intro L σ W' hcl hL hC hw
      obtain ⟨A5, n5, c5, e4, hp4⟩ : ∃ (A5 : Option Addr) (n5 c5 : Nat), σ 4 = .tuple #[.agg #[.int .i64 q.1.rd, .int .i64 q.1.mo, .slice A5 n5 c5, .int .i64 q.1.fi, .int .i64 q.1.la], .agg #[.int .i64 q.2.1.at_, .int .i64 q.2.1.v, .int .i64 q.2.1.r, .int .i64 q.2.1.t, .bool q.2.1.seen.s, .int .i64 q.2.1.seen.n, .bool q.2.1.seen.f, .int .i64 q.2.1.seen.v, .int .i64 q.2.1.tr, .int .i64 q.2.1.sp, .bool q.2.1.ag, .int .i64 q.2.1.re], .bool q.2.2] ∧ RgsW M0 W'.heap.size W' A5 n5 c5 q.1.rs := hw 4 (by kernel_rfl)
      clear hw
      have HC := Lib.hid hC
      clear hC
      clear hcl hL
      refine OpGoes.step fun K hK => ?_
      unfold OpGoes
      go_simp
      obtain ⟨hB, hx, hy, hM0, hz, hw_⟩ := HC.out
      exact hK _ _ ⟨⟨hB, hx, hy, hM0, hz, hw_⟩, ⟨A5, n5, c5, rfl, hp4⟩, Below.refl _ _⟩
    · -- 6: Op.extract t34 1
      go_light
      intro L σ W' hcl hL hC hw
      obtain ⟨A5, n5, c5, e4, hp4⟩ : ∃ (A5 : Option Addr) (n5 c5 : Nat), σ 4 = .tuple #[.agg #[.int .i64 q.1.rd, .int .i64 q.1.mo, .slice A5 n5 c5, .int .i64 q.1.fi, .int .i64 q.1.la], .agg #[.int .i64 q.2.1.at_, .int .i64 q.2.1.v, .int .i64 q.2.1.r, .int .i64 q.2.1.t, .bool q.2.1.seen.s, .int .i64 q.2.1.seen.n, .bool q.2.1.seen.f, .int .i64 q.2.1.seen.v, .int .i64 q.2.1.tr, .int .i64 q.2.1.sp, .bool q.2.1.ag, .int .i64 q.2.1.re], .bool q.2.2] ∧ RgsW M0 W'.heap.size W' A5 n5 c5 q.1.rs := hw 4 (by kernel_rfl)
      clear hw
      have HC := Lib.hid hC
      clear hC
      clear hcl hL
      refine OpGoes.step fun K hK => ?_
      unfold OpGoes
      go_simp
      obtain ⟨hB, hx, hy, hM0, hz, hw_⟩ := HC.out
      exact hK _ _ ⟨⟨hB, hx, hy, hM0, hz, hw_⟩, rfl, Below.refl _ _⟩
    · -- 7: Op.extract t34 2
      go_light
      intro L σ W' hcl hL hC hw
      obtain ⟨A5, n5, c5, e4, hp4⟩ : ∃ (A5 : Option Addr) (n5 c5 : Nat), σ 4 = .tuple #[.agg #[.int .i64 q.1.rd, .int .i64 q.1.mo, .slice A5 n5 c5, .int .i64 q.1.fi, .int .i64 q.1.la], .agg #[.int .i64 q.2.1.at_, .int .i64 q.2.1.v, .int .i64 q.2.1.r, .int .i64 q.2.1.t, .bool q.2.1.seen.s, .int .i64 q.2.1.seen.n, .bool q.2.1.seen.f, .int .i64 q.2.1.seen.v, .int .i64 q.2.1.tr, .int .i64 q.2.1.sp, .bool q.2.1.ag, .int .i64 q.2.1.re], .bool q.2.2] ∧ RgsW M0 W'.heap.size W' A5 n5 c5 q.1.rs := hw 4 (by kernel_rfl)
      clear hw
      have HC := Lib.hid hC
      clear hC
      clear hcl hL
      refine OpGoes.step fun K hK => ?_
      unfold OpGoes
      go_simp
      obtain ⟨hB, hx, hy, hM0, hz, hw_⟩ := HC.out
      exact hK _ _ ⟨⟨hB, hx, hy, hM0, hz, hw_⟩, rfl, Below.refl _ _⟩
    · -- 8: Op.alloc 75
      go_light
      intro L σ W' hcl hL hC hw
      clear hw
      have HC := Lib.hid hC
      clear hC
      clear hcl hL
      refine OpGoes.step fun K hK => ?_
      unfold OpGoes
      go_simp
      obtain ⟨hB, hx, hy, hM0, hz, hw_⟩ := HC.out
      have hb1 : Below W'.heap.size W' (W'.alloc (.cells #[.int .i64 0, .int .i64 0, .slice none 0 0, .int .i64 0, .int .i64 0] 75)) := (Below.refl _ _).alloc (Nat.le_refl _) _
      exact hK _ _ ⟨⟨bstep hB hB.size hb1, hx.below hb1 hx.lt, hy.below hb1 hy.lt, Nat.le_trans hM0 hb1.size, hz.below hb1 hz.lt, hw_.below hb1 hw_.lt⟩, ⟨_, rfl, hM0, _, _, _, _, _, BoxAt.new _ _ _⟩, hb1, rfl, by simp⟩
    · -- 9: Op.alloc 41
      go_light
      intro L σ W' hcl hL hC hw
      clear hw
      have HC := Lib.hid hC
      clear hC
      clear hcl hL
      refine OpGoes.step fun K hK => ?_
      unfold OpGoes
      go_simp
      obtain ⟨hB, hx, hy, hM0, hz, hw_⟩ := HC.out
      have hb1 : Below W'.heap.size W' (W'.alloc (.cells #[.int .i64 0, .int .i64 0, .int .i64 0, .int .i64 0, .bool false, .int .i64 0, .bool false, .int .i64 0, .int .i64 0, .int .i64 0, .bool false, .int .i64 0] 41)) := (Below.refl _ _).alloc (Nat.le_refl _) _
      exact hK _ _ ⟨⟨bstep hB hB.size hb1, hx.below hb1 hx.lt, hy.below hb1 hy.lt, Nat.le_trans hM0 hb1.size, hz.below hb1 hz.lt, hw_.below hb1 hw_.lt⟩, ⟨_, rfl, hM0, _, _, _, _, _, _, _, _, _, _, _, _, BoxAt.new _ _ _⟩, hb1, rfl, by simp⟩
    · -- 10: Op.store 75 t7 t39
      go_light
      intro L σ W' hcl hL hC hw hne
      obtain ⟨A5, n5, c5, e5, hp5⟩ : ∃ (A5 : Option Addr) (n5 c5 : Nat), σ 5 = .agg #[.int .i64 q.1.rd, .int .i64 q.1.mo, .slice A5 n5 c5, .int .i64 q.1.fi, .int .i64 q.1.la] ∧ RgsW M0 W'.heap.size W' A5 n5 c5 q.1.rs := hw 5 (by kernel_rfl)
      obtain ⟨g8, e8, hg8, x0, x1, x2, x3, x4, hbox8⟩ : ∃ g8, σ 8 = .pointer (some ⟨g8, 0, none⟩) ∧ M0 ≤ g8 ∧ ∃ x0 x1 x2 x3 x4, BoxAt W' g8 #[x0, x1, x2, x3, x4] 75 := hw 8 (by kernel_rfl)
      clear hw hne
      have HC := Lib.hid hC
      clear hC
      clear hcl hL
      have kc_ := hbox8.cell
      have kf_ := hbox8.frozen
      refine OpGoes.step fun K hK => ?_
      unfold OpGoes
      go_simp
      obtain ⟨hB, hx, hy, hM0, hz, hw_⟩ := HC.out
      have hset := sets_all (us := [.int .i64 q.1.rd, .int .i64 q.1.mo, .slice A5 n5 c5, .int .i64 q.1.fi, .int .i64 q.1.la]) hbox8 rfl
      refine hK undef (setCells W' g8 0 [.int .i64 q.1.rd, .int .i64 q.1.mo, .slice A5 n5 c5, .int .i64 q.1.fi, .int .i64 q.1.la]) ⟨⟨(Below.setCells (by omega) [.int .i64 q.1.rd, .int .i64 q.1.mo, .slice A5 n5 c5, .int .i64 q.1.fi, .int .i64 q.1.la] 0 hB), (BoxAt.sets_ne [.int .i64 q.1.rd, .int .i64 q.1.mo, .slice A5 n5 c5, .int .i64 q.1.fi, .int .i64 q.1.la] 0 hx (by omega)), (BoxAt.sets_ne [.int .i64 q.1.rd, .int .i64 q.1.mo, .slice A5 n5 c5, .int .i64 q.1.fi, .int .i64 q.1.la] 0 hy (by omega)), (size_sts hM0 [.int .i64 q.1.rd, .int .i64 q.1.mo, .slice A5 n5 c5, .int .i64 q.1.fi, .int .i64 q.1.la] 0), (BoxAt.sets_ne [.int .i64 q.1.rd, .int .i64 q.1.mo, .slice A5 n5 c5, .int .i64 q.1.fi, .int .i64 q.1.la] 0 hz (by omega)), (BoxAt.sets_ne [.int .i64 q.1.rd, .int .i64 q.1.mo, .slice A5 n5 c5, .int .i64 q.1.fi, .int .i64 q.1.la] 0 hw_ (by omega))⟩, ⟨g8, A5, n5, c5, e8, hg8, hset, ((RgsW.setsT hp5 hbox8 (by decide) (by decide) [.int .i64 q.1.rd, .int .i64 q.1.mo, .slice A5 n5 c5, .int .i64 q.1.fi, .int .i64 q.1.la] 0).mono (Nat.le_refl _) (Nat.le_of_eq (sets_size _ _ _).symm))⟩, Nat.le_of_eq (sets_size _ _ _).symm, fun j hj hn hR => ?_⟩
      match j, hj, hn, hR with
      | 0, _, _, hR => exact (show σ 0 = .agg #[.int .i64 s.rd, .int .i64 s.mo, .slice A n cap, .int .i64 s.fi, .int .i64 s.la] from hR)
      | 1, _, _, hR => obtain ⟨A1_x, n1_x, c1_x, e, hp⟩ := hR; exact ⟨A1_x, n1_x, c1_x, e, ((RgsW.setsT hp hbox8 (by decide) (by decide) [.int .i64 q.1.rd, .int .i64 q.1.mo, .slice A5 n5 c5, .int .i64 q.1.fi, .int .i64 q.1.la] 0).mono (Nat.le_refl _) (Nat.le_of_eq (sets_size _ _ _).symm))⟩
      | 2, _, _, hR => exact (show σ 2 = .agg #[.int .i64 at_, .int .i64 v, .int .i64 r, .int .i64 t, .bool seen.s, .int .i64 seen.n, .bool seen.f, .int .i64 seen.v, .int .i64 tr, .int .i64 sp, .bool ag, .int .i64 re] from hR)
      | 3, _, _, hR => obtain ⟨A5_x, n5_x, c5_x, e, hp⟩ := hR; exact ⟨A5_x, n5_x, c5_x, e, ((RgsW.setsT hp hbox8 (by decide) (by decide) [.int .i64 q.1.rd, .int .i64 q.1.mo, .slice A5 n5 c5, .int .i64 q.1.fi, .int .i64 q.1.la] 0).mono (Nat.le_refl _) (Nat.le_of_eq (sets_size _ _ _).symm))⟩
      | 4, _, _, hR => obtain ⟨A5_x, n5_x, c5_x, e, hp⟩ := hR; exact ⟨A5_x, n5_x, c5_x, e, ((RgsW.setsT hp hbox8 (by decide) (by decide) [.int .i64 q.1.rd, .int .i64 q.1.mo, .slice A5 n5 c5, .int .i64 q.1.fi, .int .i64 q.1.la] 0).mono (Nat.le_refl _) (Nat.le_of_eq (sets_size _ _ _).symm))⟩
      | 5, _, _, hR => obtain ⟨A5_x, n5_x, c5_x, e, hp⟩ := hR; exact ⟨A5_x, n5_x, c5_x, e, ((RgsW.setsT hp hbox8 (by decide) (by decide) [.int .i64 q.1.rd, .int .i64 q.1.mo, .slice A5 n5 c5, .int .i64 q.1.fi, .int .i64 q.1.la] 0).mono (Nat.le_refl _) (Nat.le_of_eq (sets_size _ _ _).symm))⟩
      | 6, _, _, hR => exact (show σ 6 = .agg #[.int .i64 q.2.1.at_, .int .i64 q.2.1.v, .int .i64 q.2.1.r, .int .i64 q.2.1.t, .bool q.2.1.seen.s, .int .i64 q.2.1.seen.n, .bool q.2.1.seen.f, .int .i64 q.2.1.seen.v, .int .i64 q.2.1.tr, .int .i64 q.2.1.sp, .bool q.2.1.ag, .int .i64 q.2.1.re] from hR)
      | 7, _, _, hR => exact (show σ 7 = .bool q.2.2 from hR)
      | 8, _, _, _ => exact ⟨g8, e8, hg8, _, _, _, _, _, hset⟩
      | 9, _, _, hR => obtain ⟨g, e, hg, x0, x1, x2, x3, x4, x5, x6, x7, x8, x9, x10, x11, hx⟩ := hR; exact ⟨g, e, hg, x0, x1, x2, x3, x4, x5, x6, x7, x8, x9, x10, x11, (BoxAt.sets_ne [.int .i64 q.1.rd, .int .i64 q.1.mo, .slice A5 n5 c5, .int .i64 q.1.fi, .int .i64 q.1.la] 0 hx (by first | omega | exact box_neM hx hbox8 (by decide)))⟩
      | 10, hj, _, _ => exact absurd rfl hj
      | 11, _, _, hR => obtain ⟨g, e, hg, hx⟩ := hR; exact ⟨g, e, hg, (BoxAt.sets_ne [.int .i64 q.1.rd, .int .i64 q.1.mo, .slice A5 n5 c5, .int .i64 q.1.fi, .int .i64 q.1.la] 0 hx (by first | omega | exact box_neM hx hbox8 (by decide)))⟩
      | 12, _, _, hR => exact (show σ 12 = .bool q.2.2 from hR)
      | _ + 13, _, _, _ => exact trivial
    · -- 11: Op.store 41 t8 t40
      go_light
      intro L σ W' hcl hL hC hw hne
      have e6 : σ 6 = .agg #[.int .i64 q.2.1.at_, .int .i64 q.2.1.v, .int .i64 q.2.1.r, .int .i64 q.2.1.t, .bool q.2.1.seen.s, .int .i64 q.2.1.seen.n, .bool q.2.1.seen.f, .int .i64 q.2.1.seen.v, .int .i64 q.2.1.tr, .int .i64 q.2.1.sp, .bool q.2.1.ag, .int .i64 q.2.1.re] := hw 6 (by kernel_rfl)
      obtain ⟨g9, e9, hg9, x0, x1, x2, x3, x4, x5, x6, x7, x8, x9, x10, x11, hbox9⟩ : ∃ g9, σ 9 = .pointer (some ⟨g9, 0, none⟩) ∧ M0 ≤ g9 ∧ ∃ x0 x1 x2 x3 x4 x5 x6 x7 x8 x9 x10 x11, BoxAt W' g9 #[x0, x1, x2, x3, x4, x5, x6, x7, x8, x9, x10, x11] 41 := hw 9 (by kernel_rfl)
      clear hw hne
      have HC := Lib.hid hC
      clear hC
      clear hcl hL
      have kc_ := hbox9.cell
      have kf_ := hbox9.frozen
      refine OpGoes.step fun K hK => ?_
      unfold OpGoes
      go_simp
      obtain ⟨hB, hx, hy, hM0, hz, hw_⟩ := HC.out
      have hset := sets_all (us := [.int .i64 q.2.1.at_, .int .i64 q.2.1.v, .int .i64 q.2.1.r, .int .i64 q.2.1.t, .bool q.2.1.seen.s, .int .i64 q.2.1.seen.n, .bool q.2.1.seen.f, .int .i64 q.2.1.seen.v, .int .i64 q.2.1.tr, .int .i64 q.2.1.sp, .bool q.2.1.ag, .int .i64 q.2.1.re]) hbox9 rfl
      refine hK undef (setCells W' g9 0 [.int .i64 q.2.1.at_, .int .i64 q.2.1.v, .int .i64 q.2.1.r, .int .i64 q.2.1.t, .bool q.2.1.seen.s, .int .i64 q.2.1.seen.n, .bool q.2.1.seen.f, .int .i64 q.2.1.seen.v, .int .i64 q.2.1.tr, .int .i64 q.2.1.sp, .bool q.2.1.ag, .int .i64 q.2.1.re]) ⟨⟨(Below.setCells (by omega) [.int .i64 q.2.1.at_, .int .i64 q.2.1.v, .int .i64 q.2.1.r, .int .i64 q.2.1.t, .bool q.2.1.seen.s, .int .i64 q.2.1.seen.n, .bool q.2.1.seen.f, .int .i64 q.2.1.seen.v, .int .i64 q.2.1.tr, .int .i64 q.2.1.sp, .bool q.2.1.ag, .int .i64 q.2.1.re] 0 hB), (BoxAt.sets_ne [.int .i64 q.2.1.at_, .int .i64 q.2.1.v, .int .i64 q.2.1.r, .int .i64 q.2.1.t, .bool q.2.1.seen.s, .int .i64 q.2.1.seen.n, .bool q.2.1.seen.f, .int .i64 q.2.1.seen.v, .int .i64 q.2.1.tr, .int .i64 q.2.1.sp, .bool q.2.1.ag, .int .i64 q.2.1.re] 0 hx (by omega)), (BoxAt.sets_ne [.int .i64 q.2.1.at_, .int .i64 q.2.1.v, .int .i64 q.2.1.r, .int .i64 q.2.1.t, .bool q.2.1.seen.s, .int .i64 q.2.1.seen.n, .bool q.2.1.seen.f, .int .i64 q.2.1.seen.v, .int .i64 q.2.1.tr, .int .i64 q.2.1.sp, .bool q.2.1.ag, .int .i64 q.2.1.re] 0 hy (by omega)), (size_sts hM0 [.int .i64 q.2.1.at_, .int .i64 q.2.1.v, .int .i64 q.2.1.r, .int .i64 q.2.1.t, .bool q.2.1.seen.s, .int .i64 q.2.1.seen.n, .bool q.2.1.seen.f, .int .i64 q.2.1.seen.v, .int .i64 q.2.1.tr, .int .i64 q.2.1.sp, .bool q.2.1.ag, .int .i64 q.2.1.re] 0), (BoxAt.sets_ne [.int .i64 q.2.1.at_, .int .i64 q.2.1.v, .int .i64 q.2.1.r, .int .i64 q.2.1.t, .bool q.2.1.seen.s, .int .i64 q.2.1.seen.n, .bool q.2.1.seen.f, .int .i64 q.2.1.seen.v, .int .i64 q.2.1.tr, .int .i64 q.2.1.sp, .bool q.2.1.ag, .int .i64 q.2.1.re] 0 hz (by omega)), (BoxAt.sets_ne [.int .i64 q.2.1.at_, .int .i64 q.2.1.v, .int .i64 q.2.1.r, .int .i64 q.2.1.t, .bool q.2.1.seen.s, .int .i64 q.2.1.seen.n, .bool q.2.1.seen.f, .int .i64 q.2.1.seen.v, .int .i64 q.2.1.tr, .int .i64 q.2.1.sp, .bool q.2.1.ag, .int .i64 q.2.1.re] 0 hw_ (by omega))⟩, ⟨g9, e9, hg9, hset⟩, Nat.le_of_eq (sets_size _ _ _).symm, fun j hj hn hR => ?_⟩
      match j, hj, hn, hR with
      | 0, _, _, hR => exact (show σ 0 = .agg #[.int .i64 s.rd, .int .i64 s.mo, .slice A n cap, .int .i64 s.fi, .int .i64 s.la] from hR)
      | 1, _, _, hR => obtain ⟨A1_x, n1_x, c1_x, e, hp⟩ := hR; exact ⟨A1_x, n1_x, c1_x, e, ((RgsW.setsT hp hbox9 (by decide) (by decide) [.int .i64 q.2.1.at_, .int .i64 q.2.1.v, .int .i64 q.2.1.r, .int .i64 q.2.1.t, .bool q.2.1.seen.s, .int .i64 q.2.1.seen.n, .bool q.2.1.seen.f, .int .i64 q.2.1.seen.v, .int .i64 q.2.1.tr, .int .i64 q.2.1.sp, .bool q.2.1.ag, .int .i64 q.2.1.re] 0).mono (Nat.le_refl _) (Nat.le_of_eq (sets_size _ _ _).symm))⟩
      | 2, _, _, hR => exact (show σ 2 = .agg #[.int .i64 at_, .int .i64 v, .int .i64 r, .int .i64 t, .bool seen.s, .int .i64 seen.n, .bool seen.f, .int .i64 seen.v, .int .i64 tr, .int .i64 sp, .bool ag, .int .i64 re] from hR)
      | 3, _, _, hR => obtain ⟨A5_x, n5_x, c5_x, e, hp⟩ := hR; exact ⟨A5_x, n5_x, c5_x, e, ((RgsW.setsT hp hbox9 (by decide) (by decide) [.int .i64 q.2.1.at_, .int .i64 q.2.1.v, .int .i64 q.2.1.r, .int .i64 q.2.1.t, .bool q.2.1.seen.s, .int .i64 q.2.1.seen.n, .bool q.2.1.seen.f, .int .i64 q.2.1.seen.v, .int .i64 q.2.1.tr, .int .i64 q.2.1.sp, .bool q.2.1.ag, .int .i64 q.2.1.re] 0).mono (Nat.le_refl _) (Nat.le_of_eq (sets_size _ _ _).symm))⟩
      | 4, _, _, hR => obtain ⟨A5_x, n5_x, c5_x, e, hp⟩ := hR; exact ⟨A5_x, n5_x, c5_x, e, ((RgsW.setsT hp hbox9 (by decide) (by decide) [.int .i64 q.2.1.at_, .int .i64 q.2.1.v, .int .i64 q.2.1.r, .int .i64 q.2.1.t, .bool q.2.1.seen.s, .int .i64 q.2.1.seen.n, .bool q.2.1.seen.f, .int .i64 q.2.1.seen.v, .int .i64 q.2.1.tr, .int .i64 q.2.1.sp, .bool q.2.1.ag, .int .i64 q.2.1.re] 0).mono (Nat.le_refl _) (Nat.le_of_eq (sets_size _ _ _).symm))⟩
      | 5, _, _, hR => obtain ⟨A5_x, n5_x, c5_x, e, hp⟩ := hR; exact ⟨A5_x, n5_x, c5_x, e, ((RgsW.setsT hp hbox9 (by decide) (by decide) [.int .i64 q.2.1.at_, .int .i64 q.2.1.v, .int .i64 q.2.1.r, .int .i64 q.2.1.t, .bool q.2.1.seen.s, .int .i64 q.2.1.seen.n, .bool q.2.1.seen.f, .int .i64 q.2.1.seen.v, .int .i64 q.2.1.tr, .int .i64 q.2.1.sp, .bool q.2.1.ag, .int .i64 q.2.1.re] 0).mono (Nat.le_refl _) (Nat.le_of_eq (sets_size _ _ _).symm))⟩
      | 6, _, _, hR => exact (show σ 6 = .agg #[.int .i64 q.2.1.at_, .int .i64 q.2.1.v, .int .i64 q.2.1.r, .int .i64 q.2.1.t, .bool q.2.1.seen.s, .int .i64 q.2.1.seen.n, .bool q.2.1.seen.f, .int .i64 q.2.1.seen.v, .int .i64 q.2.1.tr, .int .i64 q.2.1.sp, .bool q.2.1.ag, .int .i64 q.2.1.re] from hR)
      | 7, _, _, hR => exact (show σ 7 = .bool q.2.2 from hR)
      | 8, _, _, hR => obtain ⟨g, e, hg, x0, x1, x2, x3, x4, hx⟩ := hR; exact ⟨g, e, hg, x0, x1, x2, x3, x4, (BoxAt.sets_ne [.int .i64 q.2.1.at_, .int .i64 q.2.1.v, .int .i64 q.2.1.r, .int .i64 q.2.1.t, .bool q.2.1.seen.s, .int .i64 q.2.1.seen.n, .bool q.2.1.seen.f, .int .i64 q.2.1.seen.v, .int .i64 q.2.1.tr, .int .i64 q.2.1.sp, .bool q.2.1.ag, .int .i64 q.2.1.re] 0 hx (by first | omega | exact box_neM hx hbox9 (by decide)))⟩
      | 9, _, _, _ => exact ⟨g9, e9, hg9, _, _, _, _, _, _, _, _, _, _, _, _, hset⟩
      | 10, _, _, hR => obtain ⟨g, A5, n5, c5, e, hg, hx, hp⟩ := hR; exact ⟨g, A5, n5, c5, e, hg, (BoxAt.sets_ne [.int .i64 q.2.1.at_, .int .i64 q.2.1.v, .int .i64 q.2.1.r, .int .i64 q.2.1.t, .bool q.2.1.seen.s, .int .i64 q.2.1.seen.n, .bool q.2.1.seen.f, .int .i64 q.2.1.seen.v, .int .i64 q.2.1.tr, .int .i64 q.2.1.sp, .bool q.2.1.ag, .int .i64 q.2.1.re] 0 hx (by first | omega | exact box_neM hx hbox9 (by decide))), ((RgsW.setsT hp hbox9 (by decide) (by decide) [.int .i64 q.2.1.at_, .int .i64 q.2.1.v, .int .i64 q.2.1.r, .int .i64 q.2.1.t, .bool q.2.1.seen.s, .int .i64 q.2.1.seen.n, .bool q.2.1.seen.f, .int .i64 q.2.1.seen.v, .int .i64 q.2.1.tr, .int .i64 q.2.1.sp, .bool q.2.1.ag, .int .i64 q.2.1.re] 0).mono (Nat.le_refl _) (Nat.le_of_eq (sets_size _ _ _).symm))⟩
      | 11, hj, _, _ => exact absurd rfl hj
      | 12, _, _, hR => exact (show σ 12 = .bool q.2.2 from hR)
      | _ + 13, _, _, _ => exact trivial
    · -- 12: Op.assign t41
      go_light
      intro L σ W' hcl hL hC hw
      have e7 : σ 7 = .bool q.2.2 := hw 7 (by kernel_rfl)
      clear hw
      have HC := Lib.hid hC
      clear hC
      clear hcl hL
      refine OpGoes.step fun K hK => ?_
      unfold OpGoes
      go_simp
      obtain ⟨hB, hx, hy, hM0, hz, hw_⟩ := HC.out
      exact hK _ _ ⟨⟨hB, hx, hy, hM0, hz, hw_⟩, rfl, Below.refl _ _⟩
    · intro σ L W' hall hC hR
      obtain ⟨hB, hx, hy, hM0, hz, hw_⟩ := hC
      obtain ⟨g8, A5, n5, c5, e8, hg10, s10, hp10⟩ : ∃ (g8 : Nat) (A5 : Option Addr) (n5 c5 : Nat), σ 8 = .pointer (some ⟨g8, 0, none⟩) ∧ M0 ≤ g8 ∧ BoxAt W' g8 #[.int .i64 q.1.rd, .int .i64 q.1.mo, .slice A5 n5 c5, .int .i64 q.1.fi, .int .i64 q.1.la] 75 ∧ RgsW M0 W'.heap.size W' A5 n5 c5 q.1.rs := hR 10 (by decide)
      obtain ⟨g9, e9, hg11, s11⟩ : ∃ g9, σ 9 = .pointer (some ⟨g9, 0, none⟩) ∧ M0 ≤ g9 ∧ BoxAt W' g9 #[.int .i64 q.2.1.at_, .int .i64 q.2.1.v, .int .i64 q.2.1.r, .int .i64 q.2.1.t, .bool q.2.1.seen.s, .int .i64 q.2.1.seen.n, .bool q.2.1.seen.f, .int .i64 q.2.1.seen.v, .int .i64 q.2.1.tr, .int .i64 q.2.1.sp, .bool q.2.1.ag, .int .i64 q.2.1.re] 41 := hR 11 (by decide)
      have e12 : σ 12 = .bool q.2.2 := hR 12 (by decide)
      clear hR
      simp only [lexAll]
      go_simp
      go_step
      go_meet
      exact ⟨hB, hx, hy, hz, hw_, hM0, g8, g9, A5, n5, c5, hg10, hg11, s10, s11, hp10, rfl, rfl, rfl⟩
  case rest =>
    clear hB hx hy hz hw_ hM0
    obtain ⟨hB, hx, hy, hz, hw_, hM0, X, Y, A5, n5, c5, hXM, hYM, hX, hY, hG, rfl, rfl, rfl⟩ := hcut
    cases hq2 : q.2.2
    · have HV := Lib.hid (show stepS putS putB s (⟨at_, v, r, t, seen, tr, sp, ag, re⟩ : Hd) = (s, (⟨at_, v, r, t, seen, tr, sp, ag, re⟩ : Hd), false) by simp [stepS, HOK.out, HHO.out, HTB.out, HRB.out, HQ.out, hq2])
      go_upto_region 7 with fail
      obtain ⟨M0, hMe⟩ : ∃ M1, M1 = wc.heap.size := ⟨_, rfl⟩
      have hM0 : M0 ≤ wc.heap.size := by omega
      have hM4 : w.heap.size + 4 ≤ M0 := by have := hw_.lt; omega
      clear hMe 
      refine wp_region2 (fun w w' => Below w.heap.size w w') (fun _ _ h => h.size) (fun L W' => Below w.heap.size w W' ∧ BoxAt W' w.heap.size #[.int .i64 s.rd, .int .i64 s.mo, .slice A n cap, .int .i64 s.fi, .int .i64 s.la] 75 ∧ BoxAt W' (w.heap.size + 1) #[.int .i64 at_, .int .i64 v, .int .i64 r, .int .i64 t, .bool seen.s, .int .i64 seen.n, .bool seen.f, .int .i64 seen.v, .int .i64 tr, .int .i64 sp, .bool ag, .int .i64 re] 41 ∧ M0 ≤ W'.heap.size ∧ (∃ x0 x1 x2 x3 x4, BoxAt W' (w.heap.size + 1 + 1) #[x0, x1, x2, x3, x4] 75) ∧ (L 3 = false → BoxAt W' (w.heap.size + 1 + 1) #[.int .i64 0, .int .i64 0, .slice none 0 0, .int .i64 0, .int .i64 0] 75) ∧ (∃ x0 x1 x2 x3 x4 x5 x6 x7 x8 x9 x10 x11, BoxAt W' (w.heap.size + 1 + 1 + 1) #[x0, x1, x2, x3, x4, x5, x6, x7, x8, x9, x10, x11] 41) ∧ (L 4 = false → BoxAt W' (w.heap.size + 1 + 1 + 1) #[.int .i64 0, .int .i64 0, .int .i64 0, .int .i64 0, .bool false, .int .i64 0, .bool false, .int .i64 0, .int .i64 0, .int .i64 0, .bool false, .int .i64 0] 41)) (ps7R s w.heap.size M0 n cap A at_ v r t seen tr sp ag re) ps7K ps7S (by kernel_rfl) (by kernel_rfl) ?_ ?_ ?_
        (.grow rfl ?_ <| .grow rfl ?_ <| .grow rfl ?_ <| .store rfl ?_ <| .store rfl ?_ <| .grow rfl ?_ <| .nil) ?_
      · intro j σ τ w h hR
        match j, h, hR with
        | 0, h, hR => exact (h 0 (List.mem_singleton.2 rfl)).symm.trans hR
        | 1, h, hR => obtain ⟨A5, n5, c5, e, hp⟩ := hR; exact ⟨A5, n5, c5, (h 1 (List.mem_singleton.2 rfl)).symm.trans e, hp⟩
        | 2, h, hR => exact (h 2 (List.mem_singleton.2 rfl)).symm.trans hR
        | 3, _, hR => exact hR
        | 4, _, hR => exact hR
        | 5, h, hR => exact (h 5 (List.mem_singleton.2 rfl)).symm.trans hR
        | _ + 6, _, _ => exact trivial
      · intro j σ w w' hb hR
        match j, hR with
        | 0, hR => exact hR
        | 1, hR => obtain ⟨A5, n5, c5, e, hp⟩ := hR; exact ⟨A5, n5, c5, e, (hp.below hb (Nat.le_refl _)).mono (Nat.le_refl _) hb.size⟩
        | 2, hR => exact hR
        | 3, hR => obtain ⟨A5, n5, c5, hx, hp⟩ := hR; exact ⟨A5, n5, c5, hx.below hb hx.lt, (hp.below hb (Nat.le_refl _)).mono (Nat.le_refl _) hb.size⟩
        | 4, hR => exact hR.below hb hR.lt
        | 5, hR => exact hR
        | _ + 6, _ => exact trivial
      · exact ⟨hB.drew, hx, hy, hM0, ⟨_, _, _, _, _, hz⟩, fun _ => hz, ⟨_, _, _, _, _, _, _, _, _, _, _, _, hw_⟩, fun _ => hw_⟩
      · -- 0: Op.load 75 t2
        go_light
        intro L σ W' hcl hL hC hw
        clear hw
        have HC := Lib.hid hC
        obtain ⟨hB, hx, hy, hM0, ⟨hz_x0, hz_x1, hz_x2, hz_x3, hz_x4, hz⟩, hz_o, ⟨hw__x0, hw__x1, hw__x2, hw__x3, hw__x4, hw__x5, hw__x6, hw__x7, hw__x8, hw__x9, hw__x10, hw__x11, hw_⟩, hw__o⟩ := hC
        have ks := hx.cell
        clear hcl hL
        clear hB hx hy hM0 hz hz_o hw_ hw__o
        refine OpGoes.step fun K hK => ?_
        unfold OpGoes
        go_simp
        obtain ⟨hB, hx, hy, hM0, ⟨hz_x0, hz_x1, hz_x2, hz_x3, hz_x4, hz⟩, hz_o, ⟨hw__x0, hw__x1, hw__x2, hw__x3, hw__x4, hw__x5, hw__x6, hw__x7, hw__x8, hw__x9, hw__x10, hw__x11, hw_⟩, hw__o⟩ := HC.out
        exact hK _ _ ⟨⟨hB, hx, hy, hM0, ⟨_, _, _, _, _, hz⟩, fun h => hz_o (by simpa [upd] using h), ⟨_, _, _, _, _, _, _, _, _, _, _, _, hw_⟩, fun h => hw__o (by simpa [upd] using h)⟩, rfl, Below.refl _ _⟩
      · -- 1: Op.call { value (Operand.func 83), args := #[t49], argTypes := #[75] }
        go_light
        intro L σ W' hcl hL hC hw
        have e0 : σ 0 = .agg #[.int .i64 s.rd, .int .i64 s.mo, .slice A n cap, .int .i64 s.fi, .int .i64 s.la] := hw 0 (by kernel_rfl)
        clear hw
        have HC := Lib.hid hC
        clear hC
        clear hcl hL
        refine OpGoes.step fun K hK => ?_
        unfold OpGoes
        go_simp
        obtain ⟨hB, hx, hy, hM0, ⟨hz_x0, hz_x1, hz_x2, hz_x3, hz_x4, hz⟩, hz_o, ⟨hw__x0, hw__x1, hw__x2, hw__x3, hw__x4, hw__x5, hw__x6, hw__x7, hw__x8, hw__x9, hw__x10, hw__x11, hw_⟩, hw__o⟩ := HC.out
        refine (HCPY.out _ hB).mono ?_
        rintro e w1 ⟨A5, n5, c5, rfl, hG5, hb1⟩
        exact ⟨_, rfl, hK _ _ ⟨⟨bstep hB hB.size hb1, hx.below hb1 hx.lt, hy.below hb1 hy.lt, Nat.le_trans hM0 hb1.size, ⟨_, _, _, _, _, hz.below hb1 hz.lt⟩, fun h => (hz_o (by simpa [upd] using h)).below hb1 (hz_o (by simpa [upd] using h)).lt, ⟨_, _, _, _, _, _, _, _, _, _, _, _, hw_.below hb1 hw_.lt⟩, fun h => (hw__o (by simpa [upd] using h)).below hb1 (hw__o (by simpa [upd] using h)).lt⟩, ⟨A5, n5, c5, rfl, hG5.mono hM0 (Nat.le_refl _)⟩, hb1⟩⟩
      · -- 2: Op.load 41 t3
        go_light
        intro L σ W' hcl hL hC hw
        clear hw
        have HC := Lib.hid hC
        obtain ⟨hB, hx, hy, hM0, ⟨hz_x0, hz_x1, hz_x2, hz_x3, hz_x4, hz⟩, hz_o, ⟨hw__x0, hw__x1, hw__x2, hw__x3, hw__x4, hw__x5, hw__x6, hw__x7, hw__x8, hw__x9, hw__x10, hw__x11, hw_⟩, hw__o⟩ := hC
        have kh := hy.cell
        clear hcl hL
        clear hB hx hy hM0 hz hz_o hw_ hw__o
        refine OpGoes.step fun K hK => ?_
        unfold OpGoes
        go_simp
        obtain ⟨hB, hx, hy, hM0, ⟨hz_x0, hz_x1, hz_x2, hz_x3, hz_x4, hz⟩, hz_o, ⟨hw__x0, hw__x1, hw__x2, hw__x3, hw__x4, hw__x5, hw__x6, hw__x7, hw__x8, hw__x9, hw__x10, hw__x11, hw_⟩, hw__o⟩ := HC.out
        exact hK _ _ ⟨⟨hB, hx, hy, hM0, ⟨_, _, _, _, _, hz⟩, fun h => hz_o (by simpa [upd] using h), ⟨_, _, _, _, _, _, _, _, _, _, _, _, hw_⟩, fun h => hw__o (by simpa [upd] using h)⟩, rfl, Below.refl _ _⟩
      · -- 3: Op.store 75 t4 t50
        go_light
        intro L σ W' hcl hL hC hw hne
        obtain ⟨A5, n5, c5, e1, hp1⟩ : ∃ (A5 : Option Addr) (n5 c5 : Nat), σ 1 = .agg #[.int .i64 s.rd, .int .i64 s.mo, .slice A5 n5 c5, .int .i64 s.fi, .int .i64 s.la] ∧ RgsW M0 W'.heap.size W' A5 n5 c5 s.rs := hw 1 (by kernel_rfl)
        clear hw hne
        have HC := Lib.hid hC
        obtain ⟨hB, hx, hy, hM0, ⟨hz_x0, hz_x1, hz_x2, hz_x3, hz_x4, hz⟩, hz_o, ⟨hw__x0, hw__x1, hw__x2, hw__x3, hw__x4, hw__x5, hw__x6, hw__x7, hw__x8, hw__x9, hw__x10, hw__x11, hw_⟩, hw__o⟩ := hC
        clear hcl hL
        have kc_ := hz.cell
        have kf_ := hz.frozen
        clear hB hx hy hM0 hz hz_o hw_ hw__o
        refine OpGoes.step fun K hK => ?_
        unfold OpGoes
        go_simp
        obtain ⟨hB, hx, hy, hM0, ⟨hz_x0, hz_x1, hz_x2, hz_x3, hz_x4, hz⟩, hz_o, ⟨hw__x0, hw__x1, hw__x2, hw__x3, hw__x4, hw__x5, hw__x6, hw__x7, hw__x8, hw__x9, hw__x10, hw__x11, hw_⟩, hw__o⟩ := HC.out
        have hset := sets_all (us := [.int .i64 s.rd, .int .i64 s.mo, .slice A5 n5 c5, .int .i64 s.fi, .int .i64 s.la]) hz rfl
        refine hK undef (setCells W' (w.heap.size + 1 + 1) 0 [.int .i64 s.rd, .int .i64 s.mo, .slice A5 n5 c5, .int .i64 s.fi, .int .i64 s.la]) ⟨⟨(Below.setCells (by omega) [.int .i64 s.rd, .int .i64 s.mo, .slice A5 n5 c5, .int .i64 s.fi, .int .i64 s.la] 0 hB), (BoxAt.sets_ne [.int .i64 s.rd, .int .i64 s.mo, .slice A5 n5 c5, .int .i64 s.fi, .int .i64 s.la] 0 hx (by omega)), (BoxAt.sets_ne [.int .i64 s.rd, .int .i64 s.mo, .slice A5 n5 c5, .int .i64 s.fi, .int .i64 s.la] 0 hy (by omega)), (size_sts hM0 [.int .i64 s.rd, .int .i64 s.mo, .slice A5 n5 c5, .int .i64 s.fi, .int .i64 s.la] 0), ⟨_, _, _, _, _, hset⟩, fun h => absurd h (by simp [upd]), ⟨_, _, _, _, _, _, _, _, _, _, _, _, (BoxAt.sets_ne [.int .i64 s.rd, .int .i64 s.mo, .slice A5 n5 c5, .int .i64 s.fi, .int .i64 s.la] 0 hw_ (by omega))⟩, fun h => (BoxAt.sets_ne [.int .i64 s.rd, .int .i64 s.mo, .slice A5 n5 c5, .int .i64 s.fi, .int .i64 s.la] 0 (hw__o (by simpa [upd] using h)) (by omega))⟩, ⟨A5, n5, c5, hset, ((RgsW.setsT hp1 hz (by decide) (by decide) [.int .i64 s.rd, .int .i64 s.mo, .slice A5 n5 c5, .int .i64 s.fi, .int .i64 s.la] 0).mono (Nat.le_refl _) (Nat.le_of_eq (sets_size _ _ _).symm))⟩, Nat.le_of_eq (sets_size _ _ _).symm, fun j hj hn hR => ?_⟩
        match j, hj, hn, hR with
        | 0, _, _, hR => exact (show σ 0 = .agg #[.int .i64 s.rd, .int .i64 s.mo, .slice A n cap, .int .i64 s.fi, .int .i64 s.la] from hR)
        | 1, _, _, hR => obtain ⟨A5_x, n5_x, c5_x, e, hp⟩ := hR; exact ⟨A5_x, n5_x, c5_x, e, ((RgsW.setsT hp hz (by decide) (by decide) [.int .i64 s.rd, .int .i64 s.mo, .slice A5 n5 c5, .int .i64 s.fi, .int .i64 s.la] 0).mono (Nat.le_refl _) (Nat.le_of_eq (sets_size _ _ _).symm))⟩
        | 2, _, _, hR => exact (show σ 2 = .agg #[.int .i64 at_, .int .i64 v, .int .i64 r, .int .i64 t, .bool seen.s, .int .i64 seen.n, .bool seen.f, .int .i64 seen.v, .int .i64 tr, .int .i64 sp, .bool ag, .int .i64 re] from hR)
        | 3, hj, _, _ => exact absurd rfl hj
        | 4, _, _, hR => exact (BoxAt.sets_ne [.int .i64 s.rd, .int .i64 s.mo, .slice A5 n5 c5, .int .i64 s.fi, .int .i64 s.la] 0 hR (by omega))
        | 5, _, _, hR => exact (show σ 5 = .bool false from hR)
        | _ + 6, _, _, _ => exact trivial
      · -- 4: Op.store 41 t5 t51
        go_light
        intro L σ W' hcl hL hC hw hne
        have e2 : σ 2 = .agg #[.int .i64 at_, .int .i64 v, .int .i64 r, .int .i64 t, .bool seen.s, .int .i64 seen.n, .bool seen.f, .int .i64 seen.v, .int .i64 tr, .int .i64 sp, .bool ag, .int .i64 re] := hw 2 (by kernel_rfl)
        clear hw hne
        have HC := Lib.hid hC
        obtain ⟨hB, hx, hy, hM0, ⟨hz_x0, hz_x1, hz_x2, hz_x3, hz_x4, hz⟩, hz_o, ⟨hw__x0, hw__x1, hw__x2, hw__x3, hw__x4, hw__x5, hw__x6, hw__x7, hw__x8, hw__x9, hw__x10, hw__x11, hw_⟩, hw__o⟩ := hC
        clear hcl hL
        have kc_ := hw_.cell
        have kf_ := hw_.frozen
        clear hB hx hy hM0 hz hz_o hw_ hw__o
        refine OpGoes.step fun K hK => ?_
        unfold OpGoes
        go_simp
        obtain ⟨hB, hx, hy, hM0, ⟨hz_x0, hz_x1, hz_x2, hz_x3, hz_x4, hz⟩, hz_o, ⟨hw__x0, hw__x1, hw__x2, hw__x3, hw__x4, hw__x5, hw__x6, hw__x7, hw__x8, hw__x9, hw__x10, hw__x11, hw_⟩, hw__o⟩ := HC.out
        have hset := sets_all (us := [.int .i64 at_, .int .i64 v, .int .i64 r, .int .i64 t, .bool seen.s, .int .i64 seen.n, .bool seen.f, .int .i64 seen.v, .int .i64 tr, .int .i64 sp, .bool ag, .int .i64 re]) hw_ rfl
        refine hK undef (setCells W' (w.heap.size + 1 + 1 + 1) 0 [.int .i64 at_, .int .i64 v, .int .i64 r, .int .i64 t, .bool seen.s, .int .i64 seen.n, .bool seen.f, .int .i64 seen.v, .int .i64 tr, .int .i64 sp, .bool ag, .int .i64 re]) ⟨⟨(Below.setCells (by omega) [.int .i64 at_, .int .i64 v, .int .i64 r, .int .i64 t, .bool seen.s, .int .i64 seen.n, .bool seen.f, .int .i64 seen.v, .int .i64 tr, .int .i64 sp, .bool ag, .int .i64 re] 0 hB), (BoxAt.sets_ne [.int .i64 at_, .int .i64 v, .int .i64 r, .int .i64 t, .bool seen.s, .int .i64 seen.n, .bool seen.f, .int .i64 seen.v, .int .i64 tr, .int .i64 sp, .bool ag, .int .i64 re] 0 hx (by omega)), (BoxAt.sets_ne [.int .i64 at_, .int .i64 v, .int .i64 r, .int .i64 t, .bool seen.s, .int .i64 seen.n, .bool seen.f, .int .i64 seen.v, .int .i64 tr, .int .i64 sp, .bool ag, .int .i64 re] 0 hy (by omega)), (size_sts hM0 [.int .i64 at_, .int .i64 v, .int .i64 r, .int .i64 t, .bool seen.s, .int .i64 seen.n, .bool seen.f, .int .i64 seen.v, .int .i64 tr, .int .i64 sp, .bool ag, .int .i64 re] 0), ⟨_, _, _, _, _, (BoxAt.sets_ne [.int .i64 at_, .int .i64 v, .int .i64 r, .int .i64 t, .bool seen.s, .int .i64 seen.n, .bool seen.f, .int .i64 seen.v, .int .i64 tr, .int .i64 sp, .bool ag, .int .i64 re] 0 hz (by omega))⟩, fun h => (BoxAt.sets_ne [.int .i64 at_, .int .i64 v, .int .i64 r, .int .i64 t, .bool seen.s, .int .i64 seen.n, .bool seen.f, .int .i64 seen.v, .int .i64 tr, .int .i64 sp, .bool ag, .int .i64 re] 0 (hz_o (by simpa [upd] using h)) (by omega)), ⟨_, _, _, _, _, _, _, _, _, _, _, _, hset⟩, fun h => absurd h (by simp [upd])⟩, hset, Nat.le_of_eq (sets_size _ _ _).symm, fun j hj hn hR => ?_⟩
        match j, hj, hn, hR with
        | 0, _, _, hR => exact (show σ 0 = .agg #[.int .i64 s.rd, .int .i64 s.mo, .slice A n cap, .int .i64 s.fi, .int .i64 s.la] from hR)
        | 1, _, _, hR => obtain ⟨A5_x, n5_x, c5_x, e, hp⟩ := hR; exact ⟨A5_x, n5_x, c5_x, e, ((RgsW.setsT hp hw_ (by decide) (by decide) [.int .i64 at_, .int .i64 v, .int .i64 r, .int .i64 t, .bool seen.s, .int .i64 seen.n, .bool seen.f, .int .i64 seen.v, .int .i64 tr, .int .i64 sp, .bool ag, .int .i64 re] 0).mono (Nat.le_refl _) (Nat.le_of_eq (sets_size _ _ _).symm))⟩
        | 2, _, _, hR => exact (show σ 2 = .agg #[.int .i64 at_, .int .i64 v, .int .i64 r, .int .i64 t, .bool seen.s, .int .i64 seen.n, .bool seen.f, .int .i64 seen.v, .int .i64 tr, .int .i64 sp, .bool ag, .int .i64 re] from hR)
        | 3, _, _, hR => obtain ⟨A5, n5, c5, hx, hp⟩ := hR; exact ⟨A5, n5, c5, (BoxAt.sets_ne [.int .i64 at_, .int .i64 v, .int .i64 r, .int .i64 t, .bool seen.s, .int .i64 seen.n, .bool seen.f, .int .i64 seen.v, .int .i64 tr, .int .i64 sp, .bool ag, .int .i64 re] 0 hx (by omega)), ((RgsW.setsT hp hw_ (by decide) (by decide) [.int .i64 at_, .int .i64 v, .int .i64 r, .int .i64 t, .bool seen.s, .int .i64 seen.n, .bool seen.f, .int .i64 seen.v, .int .i64 tr, .int .i64 sp, .bool ag, .int .i64 re] 0).mono (Nat.le_refl _) (Nat.le_of_eq (sets_size _ _ _).symm))⟩
        | 4, hj, _, _ => exact absurd rfl hj
        | 5, _, _, hR => exact (show σ 5 = .bool false from hR)
        | _ + 6, _, _, _ => exact trivial
      · -- 5: Op.assign (const (Value.bool false))
        go_light
        intro L σ W' hcl hL hC hw
        clear hw
        have HC := Lib.hid hC
        clear hC
        clear hcl hL
        refine OpGoes.step fun K hK => ?_
        unfold OpGoes
        go_simp
        obtain ⟨hB, hx, hy, hM0, ⟨hz_x0, hz_x1, hz_x2, hz_x3, hz_x4, hz⟩, hz_o, ⟨hw__x0, hw__x1, hw__x2, hw__x3, hw__x4, hw__x5, hw__x6, hw__x7, hw__x8, hw__x9, hw__x10, hw__x11, hw_⟩, hw__o⟩ := HC.out
        exact hK _ _ ⟨⟨hB, hx, hy, hM0, ⟨_, _, _, _, _, hz⟩, fun h => hz_o (by simpa [upd] using h), ⟨_, _, _, _, _, _, _, _, _, _, _, _, hw_⟩, fun h => hw__o (by simpa [upd] using h)⟩, rfl, Below.refl _ _⟩
      · intro σ L W' hall hC hR
        obtain ⟨hB, hx, hy, hM0, ⟨hz_x0, hz_x1, hz_x2, hz_x3, hz_x4, hz⟩, hz_o, ⟨hw__x0, hw__x1, hw__x2, hw__x3, hw__x4, hw__x5, hw__x6, hw__x7, hw__x8, hw__x9, hw__x10, hw__x11, hw_⟩, hw__o⟩ := hC
        obtain ⟨A5, n5, c5, s3, hp3⟩ : ∃ (A5 : Option Addr) (n5 c5 : Nat), BoxAt W' (w.heap.size + 1 + 1) #[.int .i64 s.rd, .int .i64 s.mo, .slice A5 n5 c5, .int .i64 s.fi, .int .i64 s.la] 75 ∧ RgsW M0 W'.heap.size W' A5 n5 c5 s.rs := hR 3 (by decide)
        have s4 : BoxAt W' (w.heap.size + 1 + 1 + 1) #[.int .i64 at_, .int .i64 v, .int .i64 r, .int .i64 t, .bool seen.s, .int .i64 seen.n, .bool seen.f, .int .i64 seen.v, .int .i64 tr, .int .i64 sp, .bool ag, .int .i64 re] 41 := hR 4 (by decide)
        have e5 : σ 5 = .bool false := hR 5 (by decide)
        clear hR
        simp only [lexAll]
        go_simp
        go_step
        have k7 := s3.cell
        have k8 := s4.cell
        go_wp2
        refine bodyPost_ret (v := .tuple #[stV s A5 n5 c5, hdV (⟨at_, v, r, t, seen, tr, sp, ag, re⟩ : Hd), .bool false]) (by simp [results, Try.results89, go_sem, k7, k8, stV, hdV]) rfl ⟨A5, n5, c5, by rw [HV.out], ?_, hB⟩
        rw [HV.out]
        exact hp3.mono (by omega) (Nat.le_refl _)
    · have HQ2 := Lib.hid hq2; clear hq2
      have kX := hX.cell
      go_wp2_with fail
      clear kX
      refine (sstoreOk_any q.1 A5 n5 c5 M0 wc.heap.size _ hG (Nat.le_refl _) (by have := hG.1; have := HQN.out.2.1; omega) HQN.out.len).mono ?_
      rintro e w4 ⟨rfl, hb⟩
      replace hX := hX.below hb hX.lt
      replace hY := hY.below hb hY.lt
      replace hG := (hG.below hb (Nat.le_refl _)).mono (Nat.le_refl _) hb.size
      replace hx := hx.below hb hx.lt
      replace hy := hy.below hb hy.lt
      replace hz := hz.below hb hz.lt
      replace hw_ := hw_.below hb hw_.lt
      replace hB := bstep hB hB.size hb
      have h4 := hb.size
      clear hb
      cases hsq : stOk q.1
      · have HV := Lib.hid (show stepS putS putB s (⟨at_, v, r, t, seen, tr, sp, ag, re⟩ : Hd) = (s, (⟨at_, v, r, t, seen, tr, sp, ag, re⟩ : Hd), false) by simp [stepS, HOK.out, HHO.out, HTB.out, HRB.out, HQ.out, HQ2.out, hsq])
        go_upto_region 7 with fail
        obtain ⟨M0, hMe⟩ : ∃ M1, M1 = w4.heap.size := ⟨_, rfl⟩
        have hM0 : M0 ≤ w4.heap.size := by omega
        have hM4 : w.heap.size + 4 ≤ M0 := by have := hw_.lt; omega
        clear hMe 
        refine wp_region2 (fun w w' => Below w.heap.size w w') (fun _ _ h => h.size) (fun L W' => Below w.heap.size w W' ∧ BoxAt W' w.heap.size #[.int .i64 s.rd, .int .i64 s.mo, .slice A n cap, .int .i64 s.fi, .int .i64 s.la] 75 ∧ BoxAt W' (w.heap.size + 1) #[.int .i64 at_, .int .i64 v, .int .i64 r, .int .i64 t, .bool seen.s, .int .i64 seen.n, .bool seen.f, .int .i64 seen.v, .int .i64 tr, .int .i64 sp, .bool ag, .int .i64 re] 41 ∧ M0 ≤ W'.heap.size ∧ (∃ x0 x1 x2 x3 x4, BoxAt W' (w.heap.size + 1 + 1) #[x0, x1, x2, x3, x4] 75) ∧ (L 3 = false → BoxAt W' (w.heap.size + 1 + 1) #[.int .i64 0, .int .i64 0, .slice none 0 0, .int .i64 0, .int .i64 0] 75) ∧ (∃ x0 x1 x2 x3 x4 x5 x6 x7 x8 x9 x10 x11, BoxAt W' (w.heap.size + 1 + 1 + 1) #[x0, x1, x2, x3, x4, x5, x6, x7, x8, x9, x10, x11] 41) ∧ (L 4 = false → BoxAt W' (w.heap.size + 1 + 1 + 1) #[.int .i64 0, .int .i64 0, .int .i64 0, .int .i64 0, .bool false, .int .i64 0, .bool false, .int .i64 0, .int .i64 0, .int .i64 0, .bool false, .int .i64 0] 41)) (ps7R s w.heap.size M0 n cap A at_ v r t seen tr sp ag re) ps7K ps7S (by kernel_rfl) (by kernel_rfl) ?_ ?_ ?_
          (.grow rfl ?_ <| .grow rfl ?_ <| .grow rfl ?_ <| .store rfl ?_ <| .store rfl ?_ <| .grow rfl ?_ <| .nil) ?_
        · intro j σ τ w h hR
          match j, h, hR with
          | 0, h, hR => exact (h 0 (List.mem_singleton.2 rfl)).symm.trans hR
          | 1, h, hR => obtain ⟨A5, n5, c5, e, hp⟩ := hR; exact ⟨A5, n5, c5, (h 1 (List.mem_singleton.2 rfl)).symm.trans e, hp⟩
          | 2, h, hR => exact (h 2 (List.mem_singleton.2 rfl)).symm.trans hR
          | 3, _, hR => exact hR
          | 4, _, hR => exact hR
          | 5, h, hR => exact (h 5 (List.mem_singleton.2 rfl)).symm.trans hR
          | _ + 6, _, _ => exact trivial
        · intro j σ w w' hb hR
          match j, hR with
          | 0, hR => exact hR
          | 1, hR => obtain ⟨A5, n5, c5, e, hp⟩ := hR; exact ⟨A5, n5, c5, e, (hp.below hb (Nat.le_refl _)).mono (Nat.le_refl _) hb.size⟩
          | 2, hR => exact hR
          | 3, hR => obtain ⟨A5, n5, c5, hx, hp⟩ := hR; exact ⟨A5, n5, c5, hx.below hb hx.lt, (hp.below hb (Nat.le_refl _)).mono (Nat.le_refl _) hb.size⟩
          | 4, hR => exact hR.below hb hR.lt
          | 5, hR => exact hR
          | _ + 6, _ => exact trivial
        · exact ⟨hB.drew, hx, hy, hM0, ⟨_, _, _, _, _, hz⟩, fun _ => hz, ⟨_, _, _, _, _, _, _, _, _, _, _, _, hw_⟩, fun _ => hw_⟩
        · -- 0: Op.load 75 t2
          go_light
          intro L σ W' hcl hL hC hw
          clear hw
          have HC := Lib.hid hC
          obtain ⟨hB, hx, hy, hM0, ⟨hz_x0, hz_x1, hz_x2, hz_x3, hz_x4, hz⟩, hz_o, ⟨hw__x0, hw__x1, hw__x2, hw__x3, hw__x4, hw__x5, hw__x6, hw__x7, hw__x8, hw__x9, hw__x10, hw__x11, hw_⟩, hw__o⟩ := hC
          have ks := hx.cell
          clear hcl hL
          clear hB hx hy hM0 hz hz_o hw_ hw__o
          refine OpGoes.step fun K hK => ?_
          unfold OpGoes
          go_simp
          obtain ⟨hB, hx, hy, hM0, ⟨hz_x0, hz_x1, hz_x2, hz_x3, hz_x4, hz⟩, hz_o, ⟨hw__x0, hw__x1, hw__x2, hw__x3, hw__x4, hw__x5, hw__x6, hw__x7, hw__x8, hw__x9, hw__x10, hw__x11, hw_⟩, hw__o⟩ := HC.out
          exact hK _ _ ⟨⟨hB, hx, hy, hM0, ⟨_, _, _, _, _, hz⟩, fun h => hz_o (by simpa [upd] using h), ⟨_, _, _, _, _, _, _, _, _, _, _, _, hw_⟩, fun h => hw__o (by simpa [upd] using h)⟩, rfl, Below.refl _ _⟩
        · -- 1: Op.call { value (Operand.func 83), args := #[t49], argTypes := #[75] }
          go_light
          intro L σ W' hcl hL hC hw
          have e0 : σ 0 = .agg #[.int .i64 s.rd, .int .i64 s.mo, .slice A n cap, .int .i64 s.fi, .int .i64 s.la] := hw 0 (by kernel_rfl)
          clear hw
          have HC := Lib.hid hC
          clear hC
          clear hcl hL
          refine OpGoes.step fun K hK => ?_
          unfold OpGoes
          go_simp
          obtain ⟨hB, hx, hy, hM0, ⟨hz_x0, hz_x1, hz_x2, hz_x3, hz_x4, hz⟩, hz_o, ⟨hw__x0, hw__x1, hw__x2, hw__x3, hw__x4, hw__x5, hw__x6, hw__x7, hw__x8, hw__x9, hw__x10, hw__x11, hw_⟩, hw__o⟩ := HC.out
          refine (HCPY.out _ hB).mono ?_
          rintro e w1 ⟨A5, n5, c5, rfl, hG5, hb1⟩
          exact ⟨_, rfl, hK _ _ ⟨⟨bstep hB hB.size hb1, hx.below hb1 hx.lt, hy.below hb1 hy.lt, Nat.le_trans hM0 hb1.size, ⟨_, _, _, _, _, hz.below hb1 hz.lt⟩, fun h => (hz_o (by simpa [upd] using h)).below hb1 (hz_o (by simpa [upd] using h)).lt, ⟨_, _, _, _, _, _, _, _, _, _, _, _, hw_.below hb1 hw_.lt⟩, fun h => (hw__o (by simpa [upd] using h)).below hb1 (hw__o (by simpa [upd] using h)).lt⟩, ⟨A5, n5, c5, rfl, hG5.mono hM0 (Nat.le_refl _)⟩, hb1⟩⟩
        · -- 2: Op.load 41 t3
          go_light
          intro L σ W' hcl hL hC hw
          clear hw
          have HC := Lib.hid hC
          obtain ⟨hB, hx, hy, hM0, ⟨hz_x0, hz_x1, hz_x2, hz_x3, hz_x4, hz⟩, hz_o, ⟨hw__x0, hw__x1, hw__x2, hw__x3, hw__x4, hw__x5, hw__x6, hw__x7, hw__x8, hw__x9, hw__x10, hw__x11, hw_⟩, hw__o⟩ := hC
          have kh := hy.cell
          clear hcl hL
          clear hB hx hy hM0 hz hz_o hw_ hw__o
          refine OpGoes.step fun K hK => ?_
          unfold OpGoes
          go_simp
          obtain ⟨hB, hx, hy, hM0, ⟨hz_x0, hz_x1, hz_x2, hz_x3, hz_x4, hz⟩, hz_o, ⟨hw__x0, hw__x1, hw__x2, hw__x3, hw__x4, hw__x5, hw__x6, hw__x7, hw__x8, hw__x9, hw__x10, hw__x11, hw_⟩, hw__o⟩ := HC.out
          exact hK _ _ ⟨⟨hB, hx, hy, hM0, ⟨_, _, _, _, _, hz⟩, fun h => hz_o (by simpa [upd] using h), ⟨_, _, _, _, _, _, _, _, _, _, _, _, hw_⟩, fun h => hw__o (by simpa [upd] using h)⟩, rfl, Below.refl _ _⟩
        · -- 3: Op.store 75 t4 t50
          go_light
          intro L σ W' hcl hL hC hw hne
          obtain ⟨A5, n5, c5, e1, hp1⟩ : ∃ (A5 : Option Addr) (n5 c5 : Nat), σ 1 = .agg #[.int .i64 s.rd, .int .i64 s.mo, .slice A5 n5 c5, .int .i64 s.fi, .int .i64 s.la] ∧ RgsW M0 W'.heap.size W' A5 n5 c5 s.rs := hw 1 (by kernel_rfl)
          clear hw hne
          have HC := Lib.hid hC
          obtain ⟨hB, hx, hy, hM0, ⟨hz_x0, hz_x1, hz_x2, hz_x3, hz_x4, hz⟩, hz_o, ⟨hw__x0, hw__x1, hw__x2, hw__x3, hw__x4, hw__x5, hw__x6, hw__x7, hw__x8, hw__x9, hw__x10, hw__x11, hw_⟩, hw__o⟩ := hC
          clear hcl hL
          have kc_ := hz.cell
          have kf_ := hz.frozen
          clear hB hx hy hM0 hz hz_o hw_ hw__o
          refine OpGoes.step fun K hK => ?_
          unfold OpGoes
          go_simp
          obtain ⟨hB, hx, hy, hM0, ⟨hz_x0, hz_x1, hz_x2, hz_x3, hz_x4, hz⟩, hz_o, ⟨hw__x0, hw__x1, hw__x2, hw__x3, hw__x4, hw__x5, hw__x6, hw__x7, hw__x8, hw__x9, hw__x10, hw__x11, hw_⟩, hw__o⟩ := HC.out
          have hset := sets_all (us := [.int .i64 s.rd, .int .i64 s.mo, .slice A5 n5 c5, .int .i64 s.fi, .int .i64 s.la]) hz rfl
          refine hK undef (setCells W' (w.heap.size + 1 + 1) 0 [.int .i64 s.rd, .int .i64 s.mo, .slice A5 n5 c5, .int .i64 s.fi, .int .i64 s.la]) ⟨⟨(Below.setCells (by omega) [.int .i64 s.rd, .int .i64 s.mo, .slice A5 n5 c5, .int .i64 s.fi, .int .i64 s.la] 0 hB), (BoxAt.sets_ne [.int .i64 s.rd, .int .i64 s.mo, .slice A5 n5 c5, .int .i64 s.fi, .int .i64 s.la] 0 hx (by omega)), (BoxAt.sets_ne [.int .i64 s.rd, .int .i64 s.mo, .slice A5 n5 c5, .int .i64 s.fi, .int .i64 s.la] 0 hy (by omega)), (size_sts hM0 [.int .i64 s.rd, .int .i64 s.mo, .slice A5 n5 c5, .int .i64 s.fi, .int .i64 s.la] 0), ⟨_, _, _, _, _, hset⟩, fun h => absurd h (by simp [upd]), ⟨_, _, _, _, _, _, _, _, _, _, _, _, (BoxAt.sets_ne [.int .i64 s.rd, .int .i64 s.mo, .slice A5 n5 c5, .int .i64 s.fi, .int .i64 s.la] 0 hw_ (by omega))⟩, fun h => (BoxAt.sets_ne [.int .i64 s.rd, .int .i64 s.mo, .slice A5 n5 c5, .int .i64 s.fi, .int .i64 s.la] 0 (hw__o (by simpa [upd] using h)) (by omega))⟩, ⟨A5, n5, c5, hset, ((RgsW.setsT hp1 hz (by decide) (by decide) [.int .i64 s.rd, .int .i64 s.mo, .slice A5 n5 c5, .int .i64 s.fi, .int .i64 s.la] 0).mono (Nat.le_refl _) (Nat.le_of_eq (sets_size _ _ _).symm))⟩, Nat.le_of_eq (sets_size _ _ _).symm, fun j hj hn hR => ?_⟩
          match j, hj, hn, hR with
          | 0, _, _, hR => exact (show σ 0 = .agg #[.int .i64 s.rd, .int .i64 s.mo, .slice A n cap, .int .i64 s.fi, .int .i64 s.la] from hR)
          | 1, _, _, hR => obtain ⟨A5_x, n5_x, c5_x, e, hp⟩ := hR; exact ⟨A5_x, n5_x, c5_x, e, ((RgsW.setsT hp hz (by decide) (by decide) [.int .i64 s.rd, .int .i64 s.mo, .slice A5 n5 c5, .int .i64 s.fi, .int .i64 s.la] 0).mono (Nat.le_refl _) (Nat.le_of_eq (sets_size _ _ _).symm))⟩
          | 2, _, _, hR => exact (show σ 2 = .agg #[.int .i64 at_, .int .i64 v, .int .i64 r, .int .i64 t, .bool seen.s, .int .i64 seen.n, .bool seen.f, .int .i64 seen.v, .int .i64 tr, .int .i64 sp, .bool ag, .int .i64 re] from hR)
          | 3, hj, _, _ => exact absurd rfl hj
          | 4, _, _, hR => exact (BoxAt.sets_ne [.int .i64 s.rd, .int .i64 s.mo, .slice A5 n5 c5, .int .i64 s.fi, .int .i64 s.la] 0 hR (by omega))
          | 5, _, _, hR => exact (show σ 5 = .bool false from hR)
          | _ + 6, _, _, _ => exact trivial
        · -- 4: Op.store 41 t5 t51
          go_light
          intro L σ W' hcl hL hC hw hne
          have e2 : σ 2 = .agg #[.int .i64 at_, .int .i64 v, .int .i64 r, .int .i64 t, .bool seen.s, .int .i64 seen.n, .bool seen.f, .int .i64 seen.v, .int .i64 tr, .int .i64 sp, .bool ag, .int .i64 re] := hw 2 (by kernel_rfl)
          clear hw hne
          have HC := Lib.hid hC
          obtain ⟨hB, hx, hy, hM0, ⟨hz_x0, hz_x1, hz_x2, hz_x3, hz_x4, hz⟩, hz_o, ⟨hw__x0, hw__x1, hw__x2, hw__x3, hw__x4, hw__x5, hw__x6, hw__x7, hw__x8, hw__x9, hw__x10, hw__x11, hw_⟩, hw__o⟩ := hC
          clear hcl hL
          have kc_ := hw_.cell
          have kf_ := hw_.frozen
          clear hB hx hy hM0 hz hz_o hw_ hw__o
          refine OpGoes.step fun K hK => ?_
          unfold OpGoes
          go_simp
          obtain ⟨hB, hx, hy, hM0, ⟨hz_x0, hz_x1, hz_x2, hz_x3, hz_x4, hz⟩, hz_o, ⟨hw__x0, hw__x1, hw__x2, hw__x3, hw__x4, hw__x5, hw__x6, hw__x7, hw__x8, hw__x9, hw__x10, hw__x11, hw_⟩, hw__o⟩ := HC.out
          have hset := sets_all (us := [.int .i64 at_, .int .i64 v, .int .i64 r, .int .i64 t, .bool seen.s, .int .i64 seen.n, .bool seen.f, .int .i64 seen.v, .int .i64 tr, .int .i64 sp, .bool ag, .int .i64 re]) hw_ rfl
          refine hK undef (setCells W' (w.heap.size + 1 + 1 + 1) 0 [.int .i64 at_, .int .i64 v, .int .i64 r, .int .i64 t, .bool seen.s, .int .i64 seen.n, .bool seen.f, .int .i64 seen.v, .int .i64 tr, .int .i64 sp, .bool ag, .int .i64 re]) ⟨⟨(Below.setCells (by omega) [.int .i64 at_, .int .i64 v, .int .i64 r, .int .i64 t, .bool seen.s, .int .i64 seen.n, .bool seen.f, .int .i64 seen.v, .int .i64 tr, .int .i64 sp, .bool ag, .int .i64 re] 0 hB), (BoxAt.sets_ne [.int .i64 at_, .int .i64 v, .int .i64 r, .int .i64 t, .bool seen.s, .int .i64 seen.n, .bool seen.f, .int .i64 seen.v, .int .i64 tr, .int .i64 sp, .bool ag, .int .i64 re] 0 hx (by omega)), (BoxAt.sets_ne [.int .i64 at_, .int .i64 v, .int .i64 r, .int .i64 t, .bool seen.s, .int .i64 seen.n, .bool seen.f, .int .i64 seen.v, .int .i64 tr, .int .i64 sp, .bool ag, .int .i64 re] 0 hy (by omega)), (size_sts hM0 [.int .i64 at_, .int .i64 v, .int .i64 r, .int .i64 t, .bool seen.s, .int .i64 seen.n, .bool seen.f, .int .i64 seen.v, .int .i64 tr, .int .i64 sp, .bool ag, .int .i64 re] 0), ⟨_, _, _, _, _, (BoxAt.sets_ne [.int .i64 at_, .int .i64 v, .int .i64 r, .int .i64 t, .bool seen.s, .int .i64 seen.n, .bool seen.f, .int .i64 seen.v, .int .i64 tr, .int .i64 sp, .bool ag, .int .i64 re] 0 hz (by omega))⟩, fun h => (BoxAt.sets_ne [.int .i64 at_, .int .i64 v, .int .i64 r, .int .i64 t, .bool seen.s, .int .i64 seen.n, .bool seen.f, .int .i64 seen.v, .int .i64 tr, .int .i64 sp, .bool ag, .int .i64 re] 0 (hz_o (by simpa [upd] using h)) (by omega)), ⟨_, _, _, _, _, _, _, _, _, _, _, _, hset⟩, fun h => absurd h (by simp [upd])⟩, hset, Nat.le_of_eq (sets_size _ _ _).symm, fun j hj hn hR => ?_⟩
          match j, hj, hn, hR with
          | 0, _, _, hR => exact (show σ 0 = .agg #[.int .i64 s.rd, .int .i64 s.mo, .slice A n cap, .int .i64 s.fi, .int .i64 s.la] from hR)
          | 1, _, _, hR => obtain ⟨A5_x, n5_x, c5_x, e, hp⟩ := hR; exact ⟨A5_x, n5_x, c5_x, e, ((RgsW.setsT hp hw_ (by decide) (by decide) [.int .i64 at_, .int .i64 v, .int .i64 r, .int .i64 t, .bool seen.s, .int .i64 seen.n, .bool seen.f, .int .i64 seen.v, .int .i64 tr, .int .i64 sp, .bool ag, .int .i64 re] 0).mono (Nat.le_refl _) (Nat.le_of_eq (sets_size _ _ _).symm))⟩
          | 2, _, _, hR => exact (show σ 2 = .agg #[.int .i64 at_, .int .i64 v, .int .i64 r, .int .i64 t, .bool seen.s, .int .i64 seen.n, .bool seen.f, .int .i64 seen.v, .int .i64 tr, .int .i64 sp, .bool ag, .int .i64 re] from hR)
          | 3, _, _, hR => obtain ⟨A5, n5, c5, hx, hp⟩ := hR; exact ⟨A5, n5, c5, (BoxAt.sets_ne [.int .i64 at_, .int .i64 v, .int .i64 r, .int .i64 t, .bool seen.s, .int .i64 seen.n, .bool seen.f, .int .i64 seen.v, .int .i64 tr, .int .i64 sp, .bool ag, .int .i64 re] 0 hx (by omega)), ((RgsW.setsT hp hw_ (by decide) (by decide) [.int .i64 at_, .int .i64 v, .int .i64 r, .int .i64 t, .bool seen.s, .int .i64 seen.n, .bool seen.f, .int .i64 seen.v, .int .i64 tr, .int .i64 sp, .bool ag, .int .i64 re] 0).mono (Nat.le_refl _) (Nat.le_of_eq (sets_size _ _ _).symm))⟩
          | 4, hj, _, _ => exact absurd rfl hj
          | 5, _, _, hR => exact (show σ 5 = .bool false from hR)
          | _ + 6, _, _, _ => exact trivial
        · -- 5: Op.assign (const (Value.bool false))
          go_light
          intro L σ W' hcl hL hC hw
          clear hw
          have HC := Lib.hid hC
          clear hC
          clear hcl hL
          refine OpGoes.step fun K hK => ?_
          unfold OpGoes
          go_simp
          obtain ⟨hB, hx, hy, hM0, ⟨hz_x0, hz_x1, hz_x2, hz_x3, hz_x4, hz⟩, hz_o, ⟨hw__x0, hw__x1, hw__x2, hw__x3, hw__x4, hw__x5, hw__x6, hw__x7, hw__x8, hw__x9, hw__x10, hw__x11, hw_⟩, hw__o⟩ := HC.out
          exact hK _ _ ⟨⟨hB, hx, hy, hM0, ⟨_, _, _, _, _, hz⟩, fun h => hz_o (by simpa [upd] using h), ⟨_, _, _, _, _, _, _, _, _, _, _, _, hw_⟩, fun h => hw__o (by simpa [upd] using h)⟩, rfl, Below.refl _ _⟩
        · intro σ L W' hall hC hR
          obtain ⟨hB, hx, hy, hM0, ⟨hz_x0, hz_x1, hz_x2, hz_x3, hz_x4, hz⟩, hz_o, ⟨hw__x0, hw__x1, hw__x2, hw__x3, hw__x4, hw__x5, hw__x6, hw__x7, hw__x8, hw__x9, hw__x10, hw__x11, hw_⟩, hw__o⟩ := hC
          obtain ⟨A5, n5, c5, s3, hp3⟩ : ∃ (A5 : Option Addr) (n5 c5 : Nat), BoxAt W' (w.heap.size + 1 + 1) #[.int .i64 s.rd, .int .i64 s.mo, .slice A5 n5 c5, .int .i64 s.fi, .int .i64 s.la] 75 ∧ RgsW M0 W'.heap.size W' A5 n5 c5 s.rs := hR 3 (by decide)
          have s4 : BoxAt W' (w.heap.size + 1 + 1 + 1) #[.int .i64 at_, .int .i64 v, .int .i64 r, .int .i64 t, .bool seen.s, .int .i64 seen.n, .bool seen.f, .int .i64 seen.v, .int .i64 tr, .int .i64 sp, .bool ag, .int .i64 re] 41 := hR 4 (by decide)
          have e5 : σ 5 = .bool false := hR 5 (by decide)
          clear hR
          simp only [lexAll]
          go_simp
          go_step
          have k7 := s3.cell
          have k8 := s4.cell
          go_wp2
          refine bodyPost_ret (v := .tuple #[stV s A5 n5 c5, hdV (⟨at_, v, r, t, seen, tr, sp, ag, re⟩ : Hd), .bool false]) (by simp [results, Try.results89, go_sem, k7, k8, stV, hdV]) rfl ⟨A5, n5, c5, by rw [HV.out], ?_, hB⟩
          rw [HV.out]
          exact hp3.mono (by omega) (Nat.le_refl _)
      · have HSQ := Lib.hid hsq; clear hsq
        go_upto_region 8 with fail
        clear HCPY HTK
        have HV := Lib.hid (show stepS putS putB s (⟨at_, v, r, t, seen, tr, sp, ag, re⟩ : Hd) = (q.1, q.2.1, true) by simp [stepS, HOK.out, HHO.out, HTB.out, HRB.out, HQ.out, HQ2.out, HSQ.out])
        refine wp_abs (fun W' => Below w.heap.size w W' ∧ BoxAt W' X #[.int .i64 q.1.rd, .int .i64 q.1.mo, .slice A5 n5 c5, .int .i64 q.1.fi, .int .i64 q.1.la] 75 ∧ BoxAt W' Y #[.int .i64 (q.2.1).at_, .int .i64 (q.2.1).v, .int .i64 (q.2.1).r, .int .i64 (q.2.1).t, .bool (q.2.1).seen.s, .int .i64 (q.2.1).seen.n, .bool (q.2.1).seen.f, .int .i64 (q.2.1).seen.v, .int .i64 (q.2.1).tr, .int .i64 (q.2.1).sp, .bool (q.2.1).ag, .int .i64 (q.2.1).re] 41 ∧ BoxAt W' (w.heap.size + 1 + 1) #[.int .i64 0, .int .i64 0, .slice none 0 0, .int .i64 0, .int .i64 0] 75 ∧ BoxAt W' (w.heap.size + 1 + 1 + 1) #[.int .i64 0, .int .i64 0, .int .i64 0, .int .i64 0, .bool false, .int .i64 0, .bool false, .int .i64 0, .int .i64 0, .int .i64 0, .bool false, .int .i64 0] 41 ∧ RgsW M0 w4.heap.size W' A5 n5 c5 (q.1).rs ∧ w4.heap.size ≤ W'.heap.size) ⟨hB, hX, hY, hz, hw_, hG, Nat.le_refl _⟩ ?_
        clear hB hX hY hx hy hz hw_ hG
        generalize hq2 : q.2.1 = h2 at *
        clear hq2
        rintro W ⟨hB, hx, hy, hz, hw_, hG, hhi⟩
        have lw := hw_.lt
        obtain ⟨M, hMe⟩ : ∃ M, M = W.heap.size := ⟨_, rfl⟩
        have hM : M ≤ W.heap.size := by omega
        have hhi2 : w4.heap.size ≤ M := by omega
        clear hMe
        refine wp_region2 (fun w w' => Below w.heap.size w w') (fun _ _ h => h.size) (fun L W' => Below w.heap.size w W' ∧ BoxAt W' X #[.int .i64 q.1.rd, .int .i64 q.1.mo, .slice A5 n5 c5, .int .i64 q.1.fi, .int .i64 q.1.la] 75 ∧ BoxAt W' Y #[.int .i64 h2.at_, .int .i64 h2.v, .int .i64 h2.r, .int .i64 h2.t, .bool h2.seen.s, .int .i64 h2.seen.n, .bool h2.seen.f, .int .i64 h2.seen.v, .int .i64 h2.tr, .int .i64 h2.sp, .bool h2.ag, .int .i64 h2.re] 41 ∧ RgsW M0 w4.heap.size W' A5 n5 c5 q.1.rs ∧ M ≤ W'.heap.size ∧ (∃ x0 x1 x2 x3 x4, BoxAt W' (w.heap.size + 1 + 1) #[x0, x1, x2, x3, x4] 75) ∧ (L 2 = false → BoxAt W' (w.heap.size + 1 + 1) #[.int .i64 0, .int .i64 0, .slice none 0 0, .int .i64 0, .int .i64 0] 75) ∧ (∃ x0 x1 x2 x3 x4 x5 x6 x7 x8 x9 x10 x11, BoxAt W' (w.heap.size + 1 + 1 + 1) #[x0, x1, x2, x3, x4, x5, x6, x7, x8, x9, x10, x11] 41) ∧ (L 3 = false → BoxAt W' (w.heap.size + 1 + 1 + 1) #[.int .i64 0, .int .i64 0, .int .i64 0, .int .i64 0, .bool false, .int .i64 0, .bool false, .int .i64 0, .int .i64 0, .int .i64 0, .bool false, .int .i64 0] 41)) (ps8R q.1 w.heap.size X Y n5 c5 A5 h2) ps8K ps8S (by kernel_rfl) (by kernel_rfl) ?_ ?_ ?_
          (.grow rfl ?_ <| .grow rfl ?_ <| .store rfl ?_ <| .store rfl ?_ <| .grow rfl ?_ <| .nil) ?_
        · intro j σ τ w h hR
          match j, h, hR with
          | 0, h, hR => exact (h 0 (List.mem_singleton.2 rfl)).symm.trans hR
          | 1, h, hR => exact (h 1 (List.mem_singleton.2 rfl)).symm.trans hR
          | 2, _, hR => exact hR
          | 3, _, hR => exact hR
          | 4, h, hR => exact (h 4 (List.mem_singleton.2 rfl)).symm.trans hR
          | _ + 5, _, _ => exact trivial
        · intro j σ w w' hb hR
          match j, hR with
          | 0, hR => exact hR
          | 1, hR => exact hR
          | 2, hR => exact hR.below hb hR.lt
          | 3, hR => exact hR.below hb hR.lt
          | 4, hR => exact hR
          | _ + 5, _ => exact trivial
        · exact ⟨hB.drew, hx, hy, hG, hM, ⟨_, _, _, _, _, hz⟩, fun _ => hz, ⟨_, _, _, _, _, _, _, _, _, _, _, _, hw_⟩, fun _ => hw_⟩
        · -- 0: Op.load 75 t7
          go_light
          intro L σ W' hcl hL hC hw
          clear hw
          have HC := Lib.hid hC
          obtain ⟨hB, hx, hy, hG, hM, ⟨hz_x0, hz_x1, hz_x2, hz_x3, hz_x4, hz⟩, hz_o, ⟨hw__x0, hw__x1, hw__x2, hw__x3, hw__x4, hw__x5, hw__x6, hw__x7, hw__x8, hw__x9, hw__x10, hw__x11, hw_⟩, hw__o⟩ := hC
          have ks := hx.cell
          clear hcl hL
          clear hB hx hy hG hM hz hz_o hw_ hw__o
          refine OpGoes.step fun K hK => ?_
          unfold OpGoes
          go_simp
          obtain ⟨hB, hx, hy, hG, hM, ⟨hz_x0, hz_x1, hz_x2, hz_x3, hz_x4, hz⟩, hz_o, ⟨hw__x0, hw__x1, hw__x2, hw__x3, hw__x4, hw__x5, hw__x6, hw__x7, hw__x8, hw__x9, hw__x10, hw__x11, hw_⟩, hw__o⟩ := HC.out
          exact hK _ _ ⟨⟨hB, hx, hy, hG, hM, ⟨_, _, _, _, _, hz⟩, fun h => hz_o (by simpa [upd] using h), ⟨_, _, _, _, _, _, _, _, _, _, _, _, hw_⟩, fun h => hw__o (by simpa [upd] using h)⟩, rfl, Below.refl _ _⟩
        · -- 1: Op.load 41 t8
          go_light
          intro L σ W' hcl hL hC hw
          clear hw
          have HC := Lib.hid hC
          obtain ⟨hB, hx, hy, hG, hM, ⟨hz_x0, hz_x1, hz_x2, hz_x3, hz_x4, hz⟩, hz_o, ⟨hw__x0, hw__x1, hw__x2, hw__x3, hw__x4, hw__x5, hw__x6, hw__x7, hw__x8, hw__x9, hw__x10, hw__x11, hw_⟩, hw__o⟩ := hC
          have kh := hy.cell
          clear hcl hL
          clear hB hx hy hG hM hz hz_o hw_ hw__o
          refine OpGoes.step fun K hK => ?_
          unfold OpGoes
          go_simp
          obtain ⟨hB, hx, hy, hG, hM, ⟨hz_x0, hz_x1, hz_x2, hz_x3, hz_x4, hz⟩, hz_o, ⟨hw__x0, hw__x1, hw__x2, hw__x3, hw__x4, hw__x5, hw__x6, hw__x7, hw__x8, hw__x9, hw__x10, hw__x11, hw_⟩, hw__o⟩ := HC.out
          exact hK _ _ ⟨⟨hB, hx, hy, hG, hM, ⟨_, _, _, _, _, hz⟩, fun h => hz_o (by simpa [upd] using h), ⟨_, _, _, _, _, _, _, _, _, _, _, _, hw_⟩, fun h => hw__o (by simpa [upd] using h)⟩, rfl, Below.refl _ _⟩
        · -- 2: Op.store 75 t4 t52
          go_light
          intro L σ W' hcl hL hC hw hne
          have e0 : σ 0 = .agg #[.int .i64 q.1.rd, .int .i64 q.1.mo, .slice A5 n5 c5, .int .i64 q.1.fi, .int .i64 q.1.la] := hw 0 (by kernel_rfl)
          clear hw hne
          have HC := Lib.hid hC
          obtain ⟨hB, hx, hy, hG, hM, ⟨hz_x0, hz_x1, hz_x2, hz_x3, hz_x4, hz⟩, hz_o, ⟨hw__x0, hw__x1, hw__x2, hw__x3, hw__x4, hw__x5, hw__x6, hw__x7, hw__x8, hw__x9, hw__x10, hw__x11, hw_⟩, hw__o⟩ := hC
          clear hcl hL
          have kc_ := hz.cell
          have kf_ := hz.frozen
          clear hB hx hy hG hM hz hz_o hw_ hw__o
          refine OpGoes.step fun K hK => ?_
          unfold OpGoes
          go_simp
          obtain ⟨hB, hx, hy, hG, hM, ⟨hz_x0, hz_x1, hz_x2, hz_x3, hz_x4, hz⟩, hz_o, ⟨hw__x0, hw__x1, hw__x2, hw__x3, hw__x4, hw__x5, hw__x6, hw__x7, hw__x8, hw__x9, hw__x10, hw__x11, hw_⟩, hw__o⟩ := HC.out
          have hset := sets_all (us := [.int .i64 q.1.rd, .int .i64 q.1.mo, .slice A5 n5 c5, .int .i64 q.1.fi, .int .i64 q.1.la]) hz rfl
          refine hK undef (setCells W' (w.heap.size + 1 + 1) 0 [.int .i64 q.1.rd, .int .i64 q.1.mo, .slice A5 n5 c5, .int .i64 q.1.fi, .int .i64 q.1.la]) ⟨⟨(Below.setCells (by omega) [.int .i64 q.1.rd, .int .i64 q.1.mo, .slice A5 n5 c5, .int .i64 q.1.fi, .int .i64 q.1.la] 0 hB), (BoxAt.sets_ne [.int .i64 q.1.rd, .int .i64 q.1.mo, .slice A5 n5 c5, .int .i64 q.1.fi, .int .i64 q.1.la] 0 hx (by omega)), (BoxAt.sets_ne [.int .i64 q.1.rd, .int .i64 q.1.mo, .slice A5 n5 c5, .int .i64 q.1.fi, .int .i64 q.1.la] 0 hy (by omega)), (RgsW.sts hG (by omega) [.int .i64 q.1.rd, .int .i64 q.1.mo, .slice A5 n5 c5, .int .i64 q.1.fi, .int .i64 q.1.la] 0), (size_sts hM [.int .i64 q.1.rd, .int .i64 q.1.mo, .slice A5 n5 c5, .int .i64 q.1.fi, .int .i64 q.1.la] 0), ⟨_, _, _, _, _, hset⟩, fun h => absurd h (by simp [upd]), ⟨_, _, _, _, _, _, _, _, _, _, _, _, (BoxAt.sets_ne [.int .i64 q.1.rd, .int .i64 q.1.mo, .slice A5 n5 c5, .int .i64 q.1.fi, .int .i64 q.1.la] 0 hw_ (by omega))⟩, fun h => (BoxAt.sets_ne [.int .i64 q.1.rd, .int .i64 q.1.mo, .slice A5 n5 c5, .int .i64 q.1.fi, .int .i64 q.1.la] 0 (hw__o (by simpa [upd] using h)) (by omega))⟩, hset, Nat.le_of_eq (sets_size _ _ _).symm, fun j hj hn hR => ?_⟩
          match j, hj, hn, hR with
          | 0, _, _, hR => exact (show σ 0 = .agg #[.int .i64 q.1.rd, .int .i64 q.1.mo, .slice A5 n5 c5, .int .i64 q.1.fi, .int .i64 q.1.la] from hR)
          | 1, _, _, hR => exact (show σ 1 = .agg #[.int .i64 h2.at_, .int .i64 h2.v, .int .i64 h2.r, .int .i64 h2.t, .bool h2.seen.s, .int .i64 h2.seen.n, .bool h2.seen.f, .int .i64 h2.seen.v, .int .i64 h2.tr, .int .i64 h2.sp, .bool h2.ag, .int .i64 h2.re] from hR)
          | 2, hj, _, _ => exact absurd rfl hj
          | 3, _, _, hR => exact (BoxAt.sets_ne [.int .i64 q.1.rd, .int .i64 q.1.mo, .slice A5 n5 c5, .int .i64 q.1.fi, .int .i64 q.1.la] 0 hR (by omega))
          | 4, _, _, hR => exact (show σ 4 = .bool true from hR)
          | _ + 5, _, _, _ => exact trivial
        · -- 3: Op.store 41 t5 t53
          go_light
          intro L σ W' hcl hL hC hw hne
          have e1 : σ 1 = .agg #[.int .i64 h2.at_, .int .i64 h2.v, .int .i64 h2.r, .int .i64 h2.t, .bool h2.seen.s, .int .i64 h2.seen.n, .bool h2.seen.f, .int .i64 h2.seen.v, .int .i64 h2.tr, .int .i64 h2.sp, .bool h2.ag, .int .i64 h2.re] := hw 1 (by kernel_rfl)
          clear hw hne
          have HC := Lib.hid hC
          obtain ⟨hB, hx, hy, hG, hM, ⟨hz_x0, hz_x1, hz_x2, hz_x3, hz_x4, hz⟩, hz_o, ⟨hw__x0, hw__x1, hw__x2, hw__x3, hw__x4, hw__x5, hw__x6, hw__x7, hw__x8, hw__x9, hw__x10, hw__x11, hw_⟩, hw__o⟩ := hC
          clear hcl hL
          have kc_ := hw_.cell
          have kf_ := hw_.frozen
          clear hB hx hy hG hM hz hz_o hw_ hw__o
          refine OpGoes.step fun K hK => ?_
          unfold OpGoes
          go_simp
          obtain ⟨hB, hx, hy, hG, hM, ⟨hz_x0, hz_x1, hz_x2, hz_x3, hz_x4, hz⟩, hz_o, ⟨hw__x0, hw__x1, hw__x2, hw__x3, hw__x4, hw__x5, hw__x6, hw__x7, hw__x8, hw__x9, hw__x10, hw__x11, hw_⟩, hw__o⟩ := HC.out
          have hset := sets_all (us := [.int .i64 h2.at_, .int .i64 h2.v, .int .i64 h2.r, .int .i64 h2.t, .bool h2.seen.s, .int .i64 h2.seen.n, .bool h2.seen.f, .int .i64 h2.seen.v, .int .i64 h2.tr, .int .i64 h2.sp, .bool h2.ag, .int .i64 h2.re]) hw_ rfl
          refine hK undef (setCells W' (w.heap.size + 1 + 1 + 1) 0 [.int .i64 h2.at_, .int .i64 h2.v, .int .i64 h2.r, .int .i64 h2.t, .bool h2.seen.s, .int .i64 h2.seen.n, .bool h2.seen.f, .int .i64 h2.seen.v, .int .i64 h2.tr, .int .i64 h2.sp, .bool h2.ag, .int .i64 h2.re]) ⟨⟨(Below.setCells (by omega) [.int .i64 h2.at_, .int .i64 h2.v, .int .i64 h2.r, .int .i64 h2.t, .bool h2.seen.s, .int .i64 h2.seen.n, .bool h2.seen.f, .int .i64 h2.seen.v, .int .i64 h2.tr, .int .i64 h2.sp, .bool h2.ag, .int .i64 h2.re] 0 hB), (BoxAt.sets_ne [.int .i64 h2.at_, .int .i64 h2.v, .int .i64 h2.r, .int .i64 h2.t, .bool h2.seen.s, .int .i64 h2.seen.n, .bool h2.seen.f, .int .i64 h2.seen.v, .int .i64 h2.tr, .int .i64 h2.sp, .bool h2.ag, .int .i64 h2.re] 0 hx (by omega)), (BoxAt.sets_ne [.int .i64 h2.at_, .int .i64 h2.v, .int .i64 h2.r, .int .i64 h2.t, .bool h2.seen.s, .int .i64 h2.seen.n, .bool h2.seen.f, .int .i64 h2.seen.v, .int .i64 h2.tr, .int .i64 h2.sp, .bool h2.ag, .int .i64 h2.re] 0 hy (by omega)), (RgsW.sts hG (by omega) [.int .i64 h2.at_, .int .i64 h2.v, .int .i64 h2.r, .int .i64 h2.t, .bool h2.seen.s, .int .i64 h2.seen.n, .bool h2.seen.f, .int .i64 h2.seen.v, .int .i64 h2.tr, .int .i64 h2.sp, .bool h2.ag, .int .i64 h2.re] 0), (size_sts hM [.int .i64 h2.at_, .int .i64 h2.v, .int .i64 h2.r, .int .i64 h2.t, .bool h2.seen.s, .int .i64 h2.seen.n, .bool h2.seen.f, .int .i64 h2.seen.v, .int .i64 h2.tr, .int .i64 h2.sp, .bool h2.ag, .int .i64 h2.re] 0), ⟨_, _, _, _, _, (BoxAt.sets_ne [.int .i64 h2.at_, .int .i64 h2.v, .int .i64 h2.r, .int .i64 h2.t, .bool h2.seen.s, .int .i64 h2.seen.n, .bool h2.seen.f, .int .i64 h2.seen.v, .int .i64 h2.tr, .int .i64 h2.sp, .bool h2.ag, .int .i64 h2.re] 0 hz (by omega))⟩, fun h => (BoxAt.sets_ne [.int .i64 h2.at_, .int .i64 h2.v, .int .i64 h2.r, .int .i64 h2.t, .bool h2.seen.s, .int .i64 h2.seen.n, .bool h2.seen.f, .int .i64 h2.seen.v, .int .i64 h2.tr, .int .i64 h2.sp, .bool h2.ag, .int .i64 h2.re] 0 (hz_o (by simpa [upd] using h)) (by omega)), ⟨_, _, _, _, _, _, _, _, _, _, _, _, hset⟩, fun h => absurd h (by simp [upd])⟩, hset, Nat.le_of_eq (sets_size _ _ _).symm, fun j hj hn hR => ?_⟩
          match j, hj, hn, hR with
          | 0, _, _, hR => exact (show σ 0 = .agg #[.int .i64 q.1.rd, .int .i64 q.1.mo, .slice A5 n5 c5, .int .i64 q.1.fi, .int .i64 q.1.la] from hR)
          | 1, _, _, hR => exact (show σ 1 = .agg #[.int .i64 h2.at_, .int .i64 h2.v, .int .i64 h2.r, .int .i64 h2.t, .bool h2.seen.s, .int .i64 h2.seen.n, .bool h2.seen.f, .int .i64 h2.seen.v, .int .i64 h2.tr, .int .i64 h2.sp, .bool h2.ag, .int .i64 h2.re] from hR)
          | 2, _, _, hR => exact (BoxAt.sets_ne [.int .i64 h2.at_, .int .i64 h2.v, .int .i64 h2.r, .int .i64 h2.t, .bool h2.seen.s, .int .i64 h2.seen.n, .bool h2.seen.f, .int .i64 h2.seen.v, .int .i64 h2.tr, .int .i64 h2.sp, .bool h2.ag, .int .i64 h2.re] 0 hR (by omega))
          | 3, hj, _, _ => exact absurd rfl hj
          | 4, _, _, hR => exact (show σ 4 = .bool true from hR)
          | _ + 5, _, _, _ => exact trivial
        · -- 4: Op.assign (const (Value.bool true))
          go_light
          intro L σ W' hcl hL hC hw
          clear hw
          have HC := Lib.hid hC
          clear hC
          clear hcl hL
          refine OpGoes.step fun K hK => ?_
          unfold OpGoes
          go_simp
          obtain ⟨hB, hx, hy, hG, hM, ⟨hz_x0, hz_x1, hz_x2, hz_x3, hz_x4, hz⟩, hz_o, ⟨hw__x0, hw__x1, hw__x2, hw__x3, hw__x4, hw__x5, hw__x6, hw__x7, hw__x8, hw__x9, hw__x10, hw__x11, hw_⟩, hw__o⟩ := HC.out
          exact hK _ _ ⟨⟨hB, hx, hy, hG, hM, ⟨_, _, _, _, _, hz⟩, fun h => hz_o (by simpa [upd] using h), ⟨_, _, _, _, _, _, _, _, _, _, _, _, hw_⟩, fun h => hw__o (by simpa [upd] using h)⟩, rfl, Below.refl _ _⟩
        · intro σ L W' hall hC hR
          obtain ⟨hB, hx, hy, hG, hM, ⟨hz_x0, hz_x1, hz_x2, hz_x3, hz_x4, hz⟩, hz_o, ⟨hw__x0, hw__x1, hw__x2, hw__x3, hw__x4, hw__x5, hw__x6, hw__x7, hw__x8, hw__x9, hw__x10, hw__x11, hw_⟩, hw__o⟩ := hC
          have sv2 : BoxAt W' (w.heap.size + 1 + 1) #[.int .i64 q.1.rd, .int .i64 q.1.mo, .slice A5 n5 c5, .int .i64 q.1.fi, .int .i64 q.1.la] 75 := hR 2 (by decide)
          have sv3 : BoxAt W' (w.heap.size + 1 + 1 + 1) #[.int .i64 h2.at_, .int .i64 h2.v, .int .i64 h2.r, .int .i64 h2.t, .bool h2.seen.s, .int .i64 h2.seen.n, .bool h2.seen.f, .int .i64 h2.seen.v, .int .i64 h2.tr, .int .i64 h2.sp, .bool h2.ag, .int .i64 h2.re] 41 := hR 3 (by decide)
          have e4 : σ 4 = .bool true := hR 4 (by decide)
          clear hR
          simp only [lexAll]
          go_simp
          go_step
          have k7 := sv2.cell
          have k8 := sv3.cell
          go_wp2
          refine bodyPost_ret (v := .tuple #[stV q.1 A5 n5 c5, hdV h2, .bool true]) (by simp [results, Try.results89, go_sem, k7, k8, stV, hdV, Hd.rest, Hd.zero]) rfl ⟨A5, n5, c5, by rw [HV.out], ?_, hB⟩
          rw [HV.out]
          exact hG.cut.mono (by omega) (Nat.le_refl _)


end Go.Proofs.Ytbdgkmamieagfaa

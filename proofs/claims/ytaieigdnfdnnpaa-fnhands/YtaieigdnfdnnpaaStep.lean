/-
  What a step leaves is neat: pure.
-/
import Derived.Test.YtaieigdnfdnnpaaTakeJ
namespace Go.Proofs.Ytaieigdnfdnnpaa
set_option linter.unusedSimpArgs false
set_option linter.unusedVariables false
open Go.RowKit
set_option linter.unusedVariables false

theorem set_neat {s : St} (h : Neat s) {i : Nat} {q : Rg} (h0 : 0 < q.ps.length) (h8 : q.ps.length ≤ 8) : Neat { s with rs := s.rs.set i q } := by
  refine ⟨by simpa using h.1, by simpa using h.2.1, fun r hr => ?_⟩
  rcases List.mem_or_eq_of_mem_set hr with hr | rfl
  · exact h.2.2 r hr
  · exact ⟨h0, h8⟩
theorem turn_neat {s : St} (h : Neat s) {z : Int} {f : Rg → Rg} (hf : ∀ r, 0 < r.ps.length ∧ r.ps.length ≤ 8 → 0 < (f r).ps.length ∧ (f r).ps.length ≤ 8) : Neat (s.turn z f) := by
  unfold St.turn
  split
  · rename_i r hr
    have := h.2.2 r (List.mem_of_getElem? hr)
    exact set_neat h (hf r this).1 (hf r this).2
  · exact h
theorem then_neat {s out : St} (h : Neat s) : Neat (thenB s out).1 := by
  unfold thenB
  split
  · exact stOk_neat (by assumption)
  · exact h

theorem takeTicket_neat {s : St} (hok : stOk s = true) {z : Int} : Neat (takeTicket s z).1 := by
  have h := stOk_neat hok
  unfold takeTicket
  rw [hok]
  simp only [Bool.not_true, Bool.false_eq_true, if_false]
  split
  · exact h
  · split <;> exact then_neat h
theorem putTicket_neat {s : St} (hok : stOk s = true) {z : Int} : Neat (putTicket s z).1 := by
  have h := stOk_neat hok
  unfold putTicket
  rw [hok]
  simp only [Bool.not_true, Bool.false_eq_true, if_false]
  split
  · exact h
  · split <;> exact then_neat h
theorem closeR_neat {s : St} (hok : stOk s = true) {z : Int} : Neat (closeR s z).1 := by
  have h := stOk_neat hok
  unfold closeR
  rw [hok]
  simp only [Bool.not_true, Bool.false_eq_true, if_false]
  split
  · exact h
  · exact turn_neat h fun _ h => h
theorem raiseTail_neat {s : St} (hok : stOk s = true) {z a b : Int} : Neat (raiseTail s z a b).1 := by
  have h := stOk_neat hok
  unfold raiseTail
  rw [hok]
  simp only [Bool.not_true, Bool.false_eq_true, if_false]
  split
  · exact h
  · exact then_neat h
theorem linkR_neat {s : St} (hok : stOk s = true) {z a : Int} : Neat (linkR s z a).1 := by
  have h := stOk_neat hok
  unfold linkR
  rw [hok]
  simp only [Bool.not_true, Bool.false_eq_true, if_false]
  split
  · exact h
  · exact then_neat h
theorem swing_neat {s : St} (hok : stOk s = true) {l : Bool} {a b : Int} : Neat (swing s l a b).1 := by
  have h := stOk_neat hok
  unfold swing
  rw [hok]
  simp only [Bool.not_true, Bool.false_eq_true, if_false]
  cases l
  all_goals
    simp only [if_true, Bool.false_eq_true, if_false]
    split <;> exact h
theorem swapPlace_neat {s : St} (hok : stOk s = true) {z a : Int} {p q : Pl} : Neat (swapPlace s z a p q).1 := by
  have h := stOk_neat hok
  unfold swapPlace
  rw [hok]
  simp only [Bool.not_true, Bool.false_eq_true, if_false]
  split
  · exact h
  · split
    · split
      · exact then_neat h
      · exact h
    · exact h
theorem seed_len8 {rd : Int} (h : 2 ≤ rd ∧ rd ≤ 8) (v : Int) : 0 < (Rg.seed rd.toNat v).ps.length ∧ (Rg.seed rd.toNat v).ps.length ≤ 8 := by
  have : (Rg.seed rd.toNat v).ps.length = rd.toNat := by simp [Rg.seed, fresh]
  omega
theorem addRing_neat {s : St} (hok : stOk s = true) {v : Int} : Neat (addRing s v).1 := by
  have h := stOk_neat hok
  have hm : (s.rs.length : Int) ≤ s.mo ∧ s.mo ≤ 16 := by
    simp only [stOk, stHead, Bool.and_eq_true, inB, decide_eq_true_eq] at hok
    omega
  unfold addRing
  rw [hok]
  simp only [Bool.not_true, Bool.false_eq_true, if_false]
  split
  · exact h
  · rename_i hn
    simp only [Bool.or_eq_true, beq_iff_eq, not_or] at hn
    refine ⟨by simp, by simp; omega, fun r hr => ?_⟩
    rcases List.mem_append.1 hr with hr | hr
    · exact h.2.2 r hr
    · rw [List.mem_singleton.1 hr]
      exact seed_len8 (stOk_rd hok) v

theorem make10_neat {s : St} (hok : stOk s = true) {h : Hd} : Neat (make10 s h).1 := by
  have hn := stOk_neat hok
  unfold make10
  repeat' split
  all_goals first
    | exact hn
    | exact addRing_neat hok
    | exact turn_neat hn fun _ _ => seed_len8 (stOk_rd hok) _
theorem makeS_neat {s : St} (hok : stOk s = true) {h : Hd} : Neat (makeS s h).1 := by
  unfold makeS
  repeat' split
  · exact make10_neat hok
  · exact linkR_neat hok
  · exact swing_neat hok
theorem putS_neat {s : St} (hok : stOk s = true) {h : Hd} : Neat (putS s h).1 := by
  have hn := stOk_neat hok
  unfold putS
  repeat' split
  · exact hn
  · exact hn
  · exact swing_neat hok
  · exact putTicket_neat hok
  · exact hn
  · exact hn
  · unfold put7
    repeat' split
    all_goals exact swapPlace_neat hok
  · exact hn
  · exact closeR_neat hok
  · exact makeS_neat hok
theorem takeS_neat {s : St} (hok : stOk s = true) {h : Hd} : Neat (takeS s h).1 := by
  have hn := stOk_neat hok
  unfold takeS
  repeat' split
  · exact hn
  · exact takeTicket_neat hok
  · exact hn
  · unfold take16
    split <;> exact swapPlace_neat hok
  · exact swapPlace_neat hok
  · exact swapPlace_neat hok
  · exact hn
  · exact hn
  · unfold fixS
    split
    · unfold take21
      split <;> exact hn
    · split
      · exact raiseTail_neat hok
      · split
        · unfold take23
          repeat' split
          all_goals exact hn
        · exact swing_neat hok

/-- A step, whole: f is what is done of right ones, b which of them it is asked of. -/
def stepS (f : St → Hd → St × Hd × Bool) (b : Int → Bool) (s : St) (h : Hd) : St × Hd × Bool :=
  if !stOk s || !h.ok then (St.zero, Hd.zero, false) else if !b h.at_ || !ringB s h.r then (s, h, false) else
  if !(f s h).2.2 || !stOk (f s h).1 then (s, h, false) else ((f s h).1, (f s h).2.1, true)

end Go.Proofs.Ytaieigdnfdnnpaa

/-
  A step, whole, of the model: PutStep and TakeStep.
-/
namespace Go.Proofs.Ytaieigdnfdnnpaa
set_option linter.unusedSimpArgs false
set_option linter.unusedVariables false
open Go.RowKit
set_option linter.unusedVariables false
attribute [local go_sem] OpUpon
attribute [local go_sem ↓] Go.wp_at_zero Go.wp_at_succ

def RetS (lo : Nat) (s : St) (w : World) (e : Ending) (w' : World) : Prop :=
  ∃ A n cap, e = .returned (stV s A n cap) ∧ RgsW lo w'.heap.size w' A n cap s.rs ∧ Below w.heap.size w w'
theorem l3Copy_rgs (s : St) (A : Option Addr) (n cap lo hi : Nat) (w : World) (hs : RgsW lo hi w A n cap s.rs) (hh : hi ≤ w.heap.size) (hn : Neat s) :
    Calls Try.prog 83 #[stV s A n cap] w (RetS w.heap.size s w) := by
  have hl := hs.1
  refine (l3Copy_any s A n cap lo hi w hs hh (by have := hn.1; omega) (by have := hn.2.1; omega) hn.cp).mono ?_
  rintro e w' ⟨b, c, rows, rfl, hR, hC, hb⟩
  exact ⟨_, _, _, rfl, hC.rgs hR hl, hb⟩
theorem hd_at {h : Hd} (hok : h.ok = true) : h.at_ ≤ 24 := by
  simp only [Hd.ok, Hd.okA, Bool.and_eq_true, inB, decide_eq_true_eq] at hok
  omega
def lateB (z : Int) : Bool := !decide (z < 13)

def ts4V (s : St) (N M0 n cap : Nat) (A : Option Addr) (at_ v r t : Int) (seen : Pl) (tr sp : Int) (ag : Bool) (re : Int) : List Sl := [.v (.agg #[.int .i64 s.rd, .int .i64 s.mo, .slice A n cap, .int .i64 s.fi, .int .i64 s.la]),
  .e fun σ w => ∃ (A5 : Option Addr) (n5 c5 : Nat), σ 1 = .agg #[.int .i64 s.rd, .int .i64 s.mo, .slice A5 n5 c5, .int .i64 s.fi, .int .i64 s.la] ∧ RgsW M0 w.heap.size w A5 n5 c5 s.rs,
  .v (.agg #[.int .i64 at_, .int .i64 v, .int .i64 r, .int .i64 t, .bool seen.s, .int .i64 seen.n, .bool seen.f, .int .i64 seen.v, .int .i64 tr, .int .i64 sp, .bool ag, .int .i64 re]),
  .e fun σ w => ∃ (A5 : Option Addr) (n5 c5 : Nat), BoxAt w (N + 1 + 1) #[.int .i64 s.rd, .int .i64 s.mo, .slice A5 n5 c5, .int .i64 s.fi, .int .i64 s.la] 72 ∧ RgsW M0 w.heap.size w A5 n5 c5 s.rs,
  .e fun σ w => BoxAt w (N + 1 + 1 + 1) #[.int .i64 at_, .int .i64 v, .int .i64 r, .int .i64 t, .bool seen.s, .int .i64 seen.n, .bool seen.f, .int .i64 seen.v, .int .i64 tr, .int .i64 sp, .bool ag, .int .i64 re] 27,
  .v (.bool false)]

def ts7V (s : St) (N M0 n cap : Nat) (A : Option Addr) (at_ v r t : Int) (seen : Pl) (tr sp : Int) (ag : Bool) (re : Int) : List Sl := [.v (.agg #[.int .i64 s.rd, .int .i64 s.mo, .slice A n cap, .int .i64 s.fi, .int .i64 s.la]),
  .e fun σ w => ∃ (A5 : Option Addr) (n5 c5 : Nat), σ 1 = .agg #[.int .i64 s.rd, .int .i64 s.mo, .slice A5 n5 c5, .int .i64 s.fi, .int .i64 s.la] ∧ RgsW M0 w.heap.size w A5 n5 c5 s.rs,
  .v (.agg #[.int .i64 at_, .int .i64 v, .int .i64 r, .int .i64 t, .bool seen.s, .int .i64 seen.n, .bool seen.f, .int .i64 seen.v, .int .i64 tr, .int .i64 sp, .bool ag, .int .i64 re]),
  .e fun σ w => ∃ (A5 : Option Addr) (n5 c5 : Nat), BoxAt w (N + 1 + 1) #[.int .i64 s.rd, .int .i64 s.mo, .slice A5 n5 c5, .int .i64 s.fi, .int .i64 s.la] 72 ∧ RgsW M0 w.heap.size w A5 n5 c5 s.rs,
  .e fun σ w => BoxAt w (N + 1 + 1 + 1) #[.int .i64 at_, .int .i64 v, .int .i64 r, .int .i64 t, .bool seen.s, .int .i64 seen.n, .bool seen.f, .int .i64 seen.v, .int .i64 tr, .int .i64 sp, .bool ag, .int .i64 re] 27,
  .v (.bool false)]

def ts5V (s : St) (N M0 n cap : Nat) (A : Option Addr) (at_ v r t : Int) (seen : Pl) (tr sp : Int) (ag : Bool) (re : Int) (q : St × Hd × Bool) : List Sl := [.v (.agg #[.int .i64 s.rd, .int .i64 s.mo, .slice A n cap, .int .i64 s.fi, .int .i64 s.la]),
  .e fun σ w => ∃ (A1 : Option Addr) (n1 c1 : Nat), σ 1 = .agg #[.int .i64 s.rd, .int .i64 s.mo, .slice A1 n1 c1, .int .i64 s.fi, .int .i64 s.la] ∧ RgsW M0 w.heap.size w A1 n1 c1 s.rs,
  .v (.agg #[.int .i64 at_, .int .i64 v, .int .i64 r, .int .i64 t, .bool seen.s, .int .i64 seen.n, .bool seen.f, .int .i64 seen.v, .int .i64 tr, .int .i64 sp, .bool ag, .int .i64 re]),
  .e fun σ w => ∃ (A5 : Option Addr) (n5 c5 : Nat), σ 3 = .tuple #[.agg #[.int .i64 q.1.rd, .int .i64 q.1.mo, .slice A5 n5 c5, .int .i64 q.1.fi, .int .i64 q.1.la], .agg #[.int .i64 q.2.1.at_, .int .i64 q.2.1.v, .int .i64 q.2.1.r, .int .i64 q.2.1.t, .bool q.2.1.seen.s, .int .i64 q.2.1.seen.n, .bool q.2.1.seen.f, .int .i64 q.2.1.seen.v, .int .i64 q.2.1.tr, .int .i64 q.2.1.sp, .bool q.2.1.ag, .int .i64 q.2.1.re], .bool q.2.2] ∧ RgsW M0 w.heap.size w A5 n5 c5 q.1.rs,
  .e fun σ w => ∃ (A5 : Option Addr) (n5 c5 : Nat), σ 4 = .tuple #[.agg #[.int .i64 q.1.rd, .int .i64 q.1.mo, .slice A5 n5 c5, .int .i64 q.1.fi, .int .i64 q.1.la], .agg #[.int .i64 q.2.1.at_, .int .i64 q.2.1.v, .int .i64 q.2.1.r, .int .i64 q.2.1.t, .bool q.2.1.seen.s, .int .i64 q.2.1.seen.n, .bool q.2.1.seen.f, .int .i64 q.2.1.seen.v, .int .i64 q.2.1.tr, .int .i64 q.2.1.sp, .bool q.2.1.ag, .int .i64 q.2.1.re], .bool q.2.2] ∧ RgsW M0 w.heap.size w A5 n5 c5 q.1.rs,
  .e fun σ w => ∃ (A5 : Option Addr) (n5 c5 : Nat), σ 5 = .agg #[.int .i64 q.1.rd, .int .i64 q.1.mo, .slice A5 n5 c5, .int .i64 q.1.fi, .int .i64 q.1.la] ∧ RgsW M0 w.heap.size w A5 n5 c5 q.1.rs,
  .v (.agg #[.int .i64 q.2.1.at_, .int .i64 q.2.1.v, .int .i64 q.2.1.r, .int .i64 q.2.1.t, .bool q.2.1.seen.s, .int .i64 q.2.1.seen.n, .bool q.2.1.seen.f, .int .i64 q.2.1.seen.v, .int .i64 q.2.1.tr, .int .i64 q.2.1.sp, .bool q.2.1.ag, .int .i64 q.2.1.re]),
  .v (.bool q.2.2),
  .e fun σ w => ∃ g8, σ 8 = .pointer (some ⟨g8, 0, none⟩) ∧ M0 ≤ g8 ∧ ∃ x0 x1 x2 x3 x4, BoxAt w g8 #[x0, x1, x2, x3, x4] 72,
  .e fun σ w => ∃ g9, σ 9 = .pointer (some ⟨g9, 0, none⟩) ∧ M0 ≤ g9 ∧ ∃ x0 x1 x2 x3 x4 x5 x6 x7 x8 x9 x10 x11, BoxAt w g9 #[x0, x1, x2, x3, x4, x5, x6, x7, x8, x9, x10, x11] 27,
  .e fun σ w => ∃ (g8 : Nat) (A5 : Option Addr) (n5 c5 : Nat), σ 8 = .pointer (some ⟨g8, 0, none⟩) ∧ M0 ≤ g8 ∧ BoxAt w g8 #[.int .i64 q.1.rd, .int .i64 q.1.mo, .slice A5 n5 c5, .int .i64 q.1.fi, .int .i64 q.1.la] 72 ∧ RgsW M0 w.heap.size w A5 n5 c5 q.1.rs,
  .e fun σ w => ∃ g9, σ 9 = .pointer (some ⟨g9, 0, none⟩) ∧ M0 ≤ g9 ∧ BoxAt w g9 #[.int .i64 q.2.1.at_, .int .i64 q.2.1.v, .int .i64 q.2.1.r, .int .i64 q.2.1.t, .bool q.2.1.seen.s, .int .i64 q.2.1.seen.n, .bool q.2.1.seen.f, .int .i64 q.2.1.seen.v, .int .i64 q.2.1.tr, .int .i64 q.2.1.sp, .bool q.2.1.ag, .int .i64 q.2.1.re] 27,
  .v (.bool q.2.2)]

def ts8V (s2 : St) (N X Y n2 c2 : Nat) (A2 : Option Addr) (h2 : Hd) : List Sl := [.v (.agg #[.int .i64 s2.rd, .int .i64 s2.mo, .slice A2 n2 c2, .int .i64 s2.fi, .int .i64 s2.la]),
  .v (.agg #[.int .i64 h2.at_, .int .i64 h2.v, .int .i64 h2.r, .int .i64 h2.t, .bool h2.seen.s, .int .i64 h2.seen.n, .bool h2.seen.f, .int .i64 h2.seen.v, .int .i64 h2.tr, .int .i64 h2.sp, .bool h2.ag, .int .i64 h2.re]),
  .e fun σ w => BoxAt w (N + 1 + 1) #[.int .i64 s2.rd, .int .i64 s2.mo, .slice A2 n2 c2, .int .i64 s2.fi, .int .i64 s2.la] 72,
  .e fun σ w => BoxAt w (N + 1 + 1 + 1) #[.int .i64 h2.at_, .int .i64 h2.v, .int .i64 h2.r, .int .i64 h2.t, .bool h2.seen.s, .int .i64 h2.seen.n, .bool h2.seen.f, .int .i64 h2.seen.v, .int .i64 h2.tr, .int .i64 h2.sp, .bool h2.ag, .int .i64 h2.re] 27,
  .v (.bool true)]

set_option maxRecDepth 100000 in
set_option maxHeartbeats 4000000 in
theorem ts8_wp {Q : Exit → Act → World → Prop} {l : List Oper} (w : World) (s2 : St) (lo2 hi2 : Nat) (A2 : Option Addr) (n2 c2 : Nat) (h2 : Hd) (X Y : Nat) {W : World} {x0 x1 x2 x3 x6 x9 x10 x11 x12 x13 x14 x15 x16 x17 x18 x19 x20 x21 x22 x23 x24 x25 x26 x27 x28 x29 x30 x31 x32 x33 x34 x35 x36 x37 x38 x39 x40 x41 x42 x43 x44 x45 x46 x47 x48 x49 x50 x51 x52 : Value} (hl : l = opsAt Try.f90 8) (hd : (w.heap.size + 2 < lo2 ∨ hi2 ≤ w.heap.size + 2) ∧ (w.heap.size + 3 < lo2 ∨ hi2 ≤ w.heap.size + 3)) (hXY : X ≠ w.heap.size + 2 ∧ X ≠ w.heap.size + 3 ∧ Y ≠ w.heap.size + 2 ∧ Y ≠ w.heap.size + 3)
    (hI : Below w.heap.size w W ∧ BoxAt W X #[.int .i64 s2.rd, .int .i64 s2.mo, .slice A2 n2 c2, .int .i64 s2.fi, .int .i64 s2.la] 72 ∧ BoxAt W Y #[.int .i64 h2.at_, .int .i64 h2.v, .int .i64 h2.r, .int .i64 h2.t, .bool h2.seen.s, .int .i64 h2.seen.n, .bool h2.seen.f, .int .i64 h2.seen.v, .int .i64 h2.tr, .int .i64 h2.sp, .bool h2.ag, .int .i64 h2.re] 27 ∧ BoxAt W (w.heap.size + 1 + 1) #[.int .i64 0, .int .i64 0, .slice none 0 0, .int .i64 0, .int .i64 0] 72 ∧ BoxAt W (w.heap.size + 1 + 1 + 1) #[.int .i64 0, .int .i64 0, .int .i64 0, .int .i64 0, .bool false, .int .i64 0, .bool false, .int .i64 0, .int .i64 0, .int .i64 0, .bool false, .int .i64 0] 27 ∧ RgsW lo2 hi2 W A2 n2 c2 s2.rs ∧ hi2 ≤ W.heap.size)
    (hQ : ∀ (y51 y52 : Value) (W' : World), Below w.heap.size w W' → BoxAt W' (w.heap.size + 1 + 1) #[.int .i64 s2.rd, .int .i64 s2.mo, .slice A2 n2 c2, .int .i64 s2.fi, .int .i64 s2.la] 72 → BoxAt W' (w.heap.size + 1 + 1 + 1) #[.int .i64 h2.at_, .int .i64 h2.v, .int .i64 h2.r, .int .i64 h2.t, .bool h2.seen.s, .int .i64 h2.seen.n, .bool h2.seen.f, .int .i64 h2.seen.v, .int .i64 h2.tr, .int .i64 h2.sp, .bool h2.ag, .int .i64 h2.re] 27 → RgsW lo2 hi2 W' A2 n2 c2 s2.rs → hi2 ≤ W'.heap.size → Q .normal ⟨#[x0, x1, x2, x3, .pointer (some ⟨w.heap.size + 1 + 1, 0, none⟩), .pointer (some ⟨w.heap.size + 1 + 1 + 1, 0, none⟩), .bool true, .pointer (some ⟨X, 0, none⟩), .pointer (some ⟨Y, 0, none⟩), x9, x10, x11, x12, x13, x14, x15, x16, x17, x18, x19, x20, x21, x22, x23, x24, x25, x26, x27, x28, x29, x30, x31, x32, x33, x34, x35, x36, x37, x38, x39, x40, x41, x42, x43, x44, x45, x46, x47, x48, x49, x50, y51, y52], []⟩ W') :
    (Code.region 8 l.toArray true).wp Try.prog Q ⟨#[x0, x1, x2, x3, .pointer (some ⟨w.heap.size + 1 + 1, 0, none⟩), .pointer (some ⟨w.heap.size + 1 + 1 + 1, 0, none⟩), x6, .pointer (some ⟨X, 0, none⟩), .pointer (some ⟨Y, 0, none⟩), x9, x10, x11, x12, x13, x14, x15, x16, x17, x18, x19, x20, x21, x22, x23, x24, x25, x26, x27, x28, x29, x30, x31, x32, x33, x34, x35, x36, x37, x38, x39, x40, x41, x42, x43, x44, x45, x46, x47, x48, x49, x50, x51, x52], []⟩ W := by
  have hl' : l = [_, _, _, _, _] := hl
  subst hl'
  clear hl
  obtain ⟨hB, hx, hy, hz, hw_, hG, hhi⟩ := hI
  have lw := hw_.lt
  obtain ⟨M, hMe⟩ : ∃ M, M = W.heap.size := ⟨_, rfl⟩
  have hM : M ≤ W.heap.size := by omega
  have hhi2 : hi2 ≤ M := by omega
  clear hMe
  refine wp_region2v (fun w w' => Below w.heap.size w w') (fun _ _ h => h.size) (fun _ => Below.refl _ _) (fun L W' => Below w.heap.size w W' ∧ BoxAt W' X #[.int .i64 s2.rd, .int .i64 s2.mo, .slice A2 n2 c2, .int .i64 s2.fi, .int .i64 s2.la] 72 ∧ BoxAt W' Y #[.int .i64 h2.at_, .int .i64 h2.v, .int .i64 h2.r, .int .i64 h2.t, .bool h2.seen.s, .int .i64 h2.seen.n, .bool h2.seen.f, .int .i64 h2.seen.v, .int .i64 h2.tr, .int .i64 h2.sp, .bool h2.ag, .int .i64 h2.re] 27 ∧ RgsW lo2 hi2 W' A2 n2 c2 s2.rs ∧ M ≤ W'.heap.size ∧ (∃ x0 x1 x2 x3 x4, BoxAt W' (w.heap.size + 1 + 1) #[x0, x1, x2, x3, x4] 72) ∧ (L 2 = false → BoxAt W' (w.heap.size + 1 + 1) #[.int .i64 0, .int .i64 0, .slice none 0 0, .int .i64 0, .int .i64 0] 72) ∧ (∃ x0 x1 x2 x3 x4 x5 x6 x7 x8 x9 x10 x11, BoxAt W' (w.heap.size + 1 + 1 + 1) #[x0, x1, x2, x3, x4, x5, x6, x7, x8, x9, x10, x11] 27) ∧ (L 3 = false → BoxAt W' (w.heap.size + 1 + 1 + 1) #[.int .i64 0, .int .i64 0, .int .i64 0, .int .i64 0, .bool false, .int .i64 0, .bool false, .int .i64 0, .int .i64 0, .int .i64 0, .bool false, .int .i64 0] 27)) (ts8V s2 w.heap.size X Y n2 c2 A2 h2) (fun j => [0, 0, 1, 1, 0].getD j 0) [] (by kernel_rfl) (by kernel_rfl) ?_ ?_ ?_
    (.still rfl ?a0 <| .still rfl ?a1 <| .store rfl ?a2 <| .store rfl ?a3 <| .still rfl ?a4 <| .nil) ?_ ?_
  · exact ⟨fun _ _ _ _ h => h, fun _ _ _ _ h => h, trivial⟩
  · exact ⟨fun σ w w' hb hR => hR.below hb hR.lt, fun σ w w' hb hR => hR.below hb hR.lt, trivial⟩
  · exact ⟨hB.drew, hx, hy, hG, hM, ⟨_, _, _, _, _, hz⟩, fun _ => hz, ⟨_, _, _, _, _, _, _, _, _, _, _, _, hw_⟩, fun _ => hw_⟩
  case a0 =>
    go_light
    intro L σ W' hcl hL hC hw
    have ks := hC.2.1.cell
    clear hw hcl hL hC
    refine OpGoes.step fun K hK => ?_
    unfold OpGoes
    go_simp
    exact hK _ _ ⟨rfl, rfl⟩
  case a1 =>
    go_light
    intro L σ W' hcl hL hC hw
    have kh := hC.2.2.1.cell
    clear hw hcl hL hC
    refine OpGoes.step fun K hK => ?_
    unfold OpGoes
    go_simp
    exact hK _ _ ⟨rfl, rfl⟩
  case a4 =>
    go_light
    intro L σ W' hcl hL hC hw
    clear hw hcl hL hC
    refine OpGoes.step fun K hK => ?_
    unfold OpGoes
    go_simp
    exact hK _ _ ⟨rfl, rfl⟩
  case a2 =>
    go_light
    intro L σ W' hcl hL hC hw hne
    have e0 := wV hw 0 rfl
    clear hw hne
    have HC := Lib.hid hC
    obtain ⟨hB, hx, hy, hG, hM, ⟨_, _, _, _, _, hz⟩, hz_o, ⟨_, _, _, _, _, _, _, _, _, _, _, _, hw_⟩, hw__o⟩ := hC
    clear hcl hL
    have kc_ := hz.cell
    have kf_ := hz.frozen
    clear hB hx hy hG hM hz hz_o hw_ hw__o
    refine OpGoes.step fun K hK => ?_
    unfold OpGoes
    go_simp
    obtain ⟨hB, hx, hy, hG, hM, ⟨_, _, _, _, _, hz⟩, hz_o, ⟨_, _, _, _, _, _, _, _, _, _, _, _, hw_⟩, hw__o⟩ := HC.out
    have hset := sets_all (us := [.int .i64 s2.rd, .int .i64 s2.mo, .slice A2 n2 c2, .int .i64 s2.fi, .int .i64 s2.la]) hz rfl
    refine hK undef (setCells W' (w.heap.size + 1 + 1) 0 [.int .i64 s2.rd, .int .i64 s2.mo, .slice A2 n2 c2, .int .i64 s2.fi, .int .i64 s2.la]) ⟨⟨(Below.setCells (by omega) _ 0 hB), (BoxAt.sets_ne _ 0 hx (by omega)), (BoxAt.sets_ne _ 0 hy (by omega)), (RgsW.sts hG (by omega) _ 0), (size_sts hM _ 0), ⟨_, _, _, _, _, hset⟩, fun h => absurd h (by simp [upd]), ⟨_, _, _, _, _, _, _, _, _, _, _, _, (BoxAt.sets_ne _ 0 hw_ (by omega))⟩, fun h => (BoxAt.sets_ne _ 0 (hw__o (by simpa [upd] using h)) (by omega))⟩, hset, Nat.le_of_eq (sets_size _ _ _).symm, keepV ?_⟩
    exact ⟨fun h => absurd rfl h, fun _ _ hR => (BoxAt.sets_ne _ 0 hR (by omega)), trivial⟩
  case a3 =>
    go_light
    intro L σ W' hcl hL hC hw hne
    have e1 := wV hw 1 rfl
    clear hw hne
    have HC := Lib.hid hC
    obtain ⟨hB, hx, hy, hG, hM, ⟨_, _, _, _, _, hz⟩, hz_o, ⟨_, _, _, _, _, _, _, _, _, _, _, _, hw_⟩, hw__o⟩ := hC
    clear hcl hL
    have kc_ := hw_.cell
    have kf_ := hw_.frozen
    clear hB hx hy hG hM hz hz_o hw_ hw__o
    refine OpGoes.step fun K hK => ?_
    unfold OpGoes
    go_simp
    obtain ⟨hB, hx, hy, hG, hM, ⟨_, _, _, _, _, hz⟩, hz_o, ⟨_, _, _, _, _, _, _, _, _, _, _, _, hw_⟩, hw__o⟩ := HC.out
    have hset := sets_all (us := [.int .i64 h2.at_, .int .i64 h2.v, .int .i64 h2.r, .int .i64 h2.t, .bool h2.seen.s, .int .i64 h2.seen.n, .bool h2.seen.f, .int .i64 h2.seen.v, .int .i64 h2.tr, .int .i64 h2.sp, .bool h2.ag, .int .i64 h2.re]) hw_ rfl
    refine hK undef (setCells W' (w.heap.size + 1 + 1 + 1) 0 [.int .i64 h2.at_, .int .i64 h2.v, .int .i64 h2.r, .int .i64 h2.t, .bool h2.seen.s, .int .i64 h2.seen.n, .bool h2.seen.f, .int .i64 h2.seen.v, .int .i64 h2.tr, .int .i64 h2.sp, .bool h2.ag, .int .i64 h2.re]) ⟨⟨(Below.setCells (by omega) _ 0 hB), (BoxAt.sets_ne _ 0 hx (by omega)), (BoxAt.sets_ne _ 0 hy (by omega)), (RgsW.sts hG (by omega) _ 0), (size_sts hM _ 0), ⟨_, _, _, _, _, (BoxAt.sets_ne _ 0 hz (by omega))⟩, fun h => (BoxAt.sets_ne _ 0 (hz_o (by simpa [upd] using h)) (by omega)), ⟨_, _, _, _, _, _, _, _, _, _, _, _, hset⟩, fun h => absurd h (by simp [upd])⟩, hset, Nat.le_of_eq (sets_size _ _ _).symm, keepV ?_⟩
    exact ⟨fun _ _ hR => (BoxAt.sets_ne _ 0 hR (by omega)), fun h => absurd rfl h, trivial⟩
  · intro L L' W' hLL hC
    obtain ⟨hB, hx, hy, hG, hM, ⟨_, _, _, _, _, hz⟩, hz_o, ⟨_, _, _, _, _, _, _, _, _, _, _, _, hw_⟩, hw__o⟩ := hC
    exact ⟨hB, hx, hy, hG, hM, ⟨_, _, _, _, _, hz⟩, fun h => hz_o (hLL _ h), ⟨_, _, _, _, _, _, _, _, _, _, _, _, hw_⟩, fun h => hw__o (hLL _ h)⟩
  · intro σ L W' hall hC hRR
    obtain ⟨hB, hx, hy, hG, hM, ⟨_, _, _, _, _, hz⟩, hz_o, ⟨_, _, _, _, _, _, _, _, _, _, _, _, hw_⟩, hw__o⟩ := hC
    have s2 := dE hRR 2 rfl
    have s3 := dE hRR 3 rfl
    have e4 := dV hRR 4 rfl
    clear hRR
    simp only [lexAll]
    go_simp
    exact hQ _ _ _ hB s2 s3 hG (Nat.le_trans hhi2 hM)

set_option maxRecDepth 100000 in
set_option maxHeartbeats 4000000 in
theorem stakeStep_any (s : St) (A : Option Addr) (n cap lo hi : Nat) (h : Hd) (w : World) (hs : RgsW lo hi w A n cap s.rs) (hh : hi ≤ w.heap.size) (hm : n ≤ 1048576) (hpn : ∀ r ∈ s.rs, r.ps.length ≤ 1048576) :
    Calls Try.prog 90 #[stV s A n cap, hdV h] w (RetSHB w.heap.size (stepS takeS lateB s h) w) := by
  have HPN := Lib.hid hpn; clear hpn
  have HLN := Lib.hid hs.1
  obtain ⟨at_, v, r, t, seen, tr, sp, ag, re⟩ := h
  unfold stV hdV
  dsimp only
  go_enter Try.func90, Try.ntmps90
  go_upto_region 1 with fail
  refine wp_abs (fun W => Below w.heap.size w W ∧ BoxAt W w.heap.size #[.int .i64 s.rd, .int .i64 s.mo, .slice A n cap, .int .i64 s.fi, .int .i64 s.la] 72 ∧ BoxAt W (w.heap.size + 1) #[.int .i64 at_, .int .i64 v, .int .i64 r, .int .i64 t, .bool seen.s, .int .i64 seen.n, .bool seen.f, .int .i64 seen.v, .int .i64 tr, .int .i64 sp, .bool ag, .int .i64 re] 27 ∧ BoxAt W (w.heap.size + 1 + 1) #[.int .i64 0, .int .i64 0, .slice none 0 0, .int .i64 0, .int .i64 0] 72 ∧ BoxAt W (w.heap.size + 1 + 1 + 1) #[.int .i64 0, .int .i64 0, .int .i64 0, .int .i64 0, .bool false, .int .i64 0, .bool false, .int .i64 0, .int .i64 0, .int .i64 0, .bool false, .int .i64 0] 27) ⟨(((((Below.refl _ _).alloc (Nat.le_refl _) _).alloc (by simp) _).alloc (by simp; omega) _).alloc (by simp; omega) _), (((BoxAt.new _ _ _).alloc _).alloc _).alloc _, ((BoxAt.new' (by simp)).alloc _).alloc _, (BoxAt.new' (by simp)).alloc _, BoxAt.new' (by simp)⟩ ?_
  rintro W0 ⟨hB, hx, hy, hz, hw_⟩
  have lw0 := hw_.lt
  have hs0 := hs.below hB hh
  have kx := hx.cell
  have ky := hy.cell
  have fy := hy.frozen
  go_wp2_with fail
  clear kx ky fy
  refine (sstoreOk_any s A n cap lo hi _ hs0 (Nat.le_trans hh hB.size) hm HPN.out).mono ?_
  rintro e w1 ⟨rfl, hb⟩
  replace hx := hx.below hb hx.lt
  replace hy := hy.below hb hy.lt
  replace hz := hz.below hb hz.lt
  replace hw_ := hw_.below hb hw_.lt
  replace hB := bstep hB hB.size hb
  have h1 := hb.size
  clear hb
  clear hs0
  cases hok : stOk s
  · have HV := Lib.hid (show stepS takeS lateB s (⟨at_, v, r, t, seen, tr, sp, ag, re⟩ : Hd) = (St.zero, Hd.zero, false) by simp [stepS, hok])
    have kz := hz.cell
    have fz := hz.frozen
    have kw := hw_.cell
    have fw := hw_.frozen
    go_wp2
    refine bodyPost_ret (v := .tuple #[stV .zero none 0 0, hdV .zero, .bool false]) (by simp [results, Try.results90, go_sem, kz, kw, stV, St.zero, hdV, Hd.zero]) rfl ⟨none, 0, 0, by rw [HV.out], ?_, ?_⟩
    · rw [HV.out]; exact RgsW.nil
    · exact Below.setCells (by omega) [.int .i64 0, .int .i64 0, .int .i64 0, .int .i64 0, .bool false, .int .i64 0, .bool false, .int .i64 0, .int .i64 0, .int .i64 0, .bool false, .int .i64 0] 0 (Below.setCells (by omega) [.int .i64 0, .int .i64 0, .slice none 0 0, .int .i64 0, .int .i64 0] 0 hB)
  have HOK := Lib.hid hok
  have HNT := Lib.hid (stOk_neat hok)
  clear hok
  have ky := hy.cell
  go_wp2_with fail
  clear ky
  refine (shandOk_any (⟨at_, v, r, t, seen, tr, sp, ag, re⟩ : Hd) _).mono ?_
  rintro e w2 ⟨rfl, hb⟩
  replace hx := hx.below hb hx.lt
  replace hy := hy.below hb hy.lt
  replace hz := hz.below hb hz.lt
  replace hw_ := hw_.below hb hw_.lt
  replace hB := bstep hB hB.size hb
  have h2 := hb.size
  clear hb
  cases hho : (⟨at_, v, r, t, seen, tr, sp, ag, re⟩ : Hd).ok
  · have HV := Lib.hid (show stepS takeS lateB s (⟨at_, v, r, t, seen, tr, sp, ag, re⟩ : Hd) = (St.zero, Hd.zero, false) by simp [stepS, HOK.out, hho])
    have kz := hz.cell
    have fz := hz.frozen
    have kw := hw_.cell
    have fw := hw_.frozen
    go_wp2
    refine bodyPost_ret (v := .tuple #[stV .zero none 0 0, hdV .zero, .bool false]) (by simp [results, Try.results90, go_sem, kz, kw, stV, St.zero, hdV, Hd.zero]) rfl ⟨none, 0, 0, by rw [HV.out], ?_, ?_⟩
    · rw [HV.out]; exact RgsW.nil
    · exact Below.setCells (by omega) [.int .i64 0, .int .i64 0, .int .i64 0, .int .i64 0, .bool false, .int .i64 0, .bool false, .int .i64 0, .int .i64 0, .int .i64 0, .bool false, .int .i64 0] 0 (Below.setCells (by omega) [.int .i64 0, .int .i64 0, .slice none 0 0, .int .i64 0, .int .i64 0] 0 hB)
  have HHO := Lib.hid hho
  clear hho
  have HCPY := Lib.hid (show ∀ W : World, Below w.heap.size w W → Calls Try.prog 83 #[stV s A n cap] W (RetS W.heap.size s W) from fun W hBW => l3Copy_rgs s A n cap lo hi W (hs.below hBW hh) (Nat.le_trans hh hBW.size) HNT.out)
  unfold stV at HCPY
  have kx := hx.cell
  have ky := hy.cell
  by_cases h13 : at_ < 13
  · have HV := Lib.hid (show stepS takeS lateB s (⟨at_, v, r, t, seen, tr, sp, ag, re⟩ : Hd) = (s, (⟨at_, v, r, t, seen, tr, sp, ag, re⟩ : Hd), false) by simp [stepS, HOK.out, HHO.out, lateB, h13])
    go_upto_region 4 with fail
    obtain ⟨M0, hMe⟩ : ∃ M0, M0 = w2.heap.size := ⟨_, rfl⟩
    have hM0 : M0 ≤ w2.heap.size := by omega
    have hM4 : w.heap.size + 4 ≤ M0 := by have := hw_.lt; omega
    clear hMe kx ky
    refine wp_region2v (fun w w' => Below w.heap.size w w') (fun _ _ h => h.size) (fun _ => Below.refl _ _) (fun L W' => Below w.heap.size w W' ∧ BoxAt W' w.heap.size #[.int .i64 s.rd, .int .i64 s.mo, .slice A n cap, .int .i64 s.fi, .int .i64 s.la] 72 ∧ BoxAt W' (w.heap.size + 1) #[.int .i64 at_, .int .i64 v, .int .i64 r, .int .i64 t, .bool seen.s, .int .i64 seen.n, .bool seen.f, .int .i64 seen.v, .int .i64 tr, .int .i64 sp, .bool ag, .int .i64 re] 27 ∧ M0 ≤ W'.heap.size ∧ (∃ x0 x1 x2 x3 x4, BoxAt W' (w.heap.size + 1 + 1) #[x0, x1, x2, x3, x4] 72) ∧ (L 3 = false → BoxAt W' (w.heap.size + 1 + 1) #[.int .i64 0, .int .i64 0, .slice none 0 0, .int .i64 0, .int .i64 0] 72) ∧ (∃ x0 x1 x2 x3 x4 x5 x6 x7 x8 x9 x10 x11, BoxAt W' (w.heap.size + 1 + 1 + 1) #[x0, x1, x2, x3, x4, x5, x6, x7, x8, x9, x10, x11] 27) ∧ (L 4 = false → BoxAt W' (w.heap.size + 1 + 1 + 1) #[.int .i64 0, .int .i64 0, .int .i64 0, .int .i64 0, .bool false, .int .i64 0, .bool false, .int .i64 0, .int .i64 0, .int .i64 0, .bool false, .int .i64 0] 27)) (ts4V s w.heap.size M0 n cap A at_ v r t seen tr sp ag re) (fun j => [0, 0, 0, 1, 1, 0].getD j 0) [] (by kernel_rfl) (by kernel_rfl) ?_ ?_ ?_
      (.still rfl ?a0 <| .grow rfl ?a1 <| .still rfl ?a2 <| .store rfl ?a3 <| .store rfl ?a4 <| .still rfl ?a5 <| .nil) ?_ ?_
    · exact ⟨fun _ _ _ h ⟨A5, n5, c5, e, hp⟩ => ⟨A5, n5, c5, (h 1 (List.mem_singleton.2 rfl)).symm.trans e, hp⟩, fun _ _ _ _ h => h, fun _ _ _ _ h => h, trivial⟩
    · exact ⟨fun σ w w' hb ⟨A5, n5, c5, e, hp⟩ => ⟨A5, n5, c5, e, (hp.below hb (Nat.le_refl _)).mono (Nat.le_refl _) hb.size⟩, fun σ w w' hb ⟨A5, n5, c5, hx, hp⟩ => ⟨A5, n5, c5, hx.below hb hx.lt, (hp.below hb (Nat.le_refl _)).mono (Nat.le_refl _) hb.size⟩, fun σ w w' hb hR => hR.below hb hR.lt, trivial⟩
    · exact ⟨hB.drew, hx, hy, hM0, ⟨_, _, _, _, _, hz⟩, fun _ => hz, ⟨_, _, _, _, _, _, _, _, _, _, _, _, hw_⟩, fun _ => hw_⟩
    case a0 =>
      go_light
      intro L σ W' hcl hL hC hw
      have ks := hC.2.1.cell
      clear hw hcl hL hC
      refine OpGoes.step fun K hK => ?_
      unfold OpGoes
      go_simp
      exact hK _ _ ⟨rfl, rfl⟩
    case a2 =>
      go_light
      intro L σ W' hcl hL hC hw
      have kh := hC.2.2.1.cell
      clear hw hcl hL hC
      refine OpGoes.step fun K hK => ?_
      unfold OpGoes
      go_simp
      exact hK _ _ ⟨rfl, rfl⟩
    case a5 =>
      go_light
      intro L σ W' hcl hL hC hw
      clear hw hcl hL hC
      refine OpGoes.step fun K hK => ?_
      unfold OpGoes
      go_simp
      exact hK _ _ ⟨rfl, rfl⟩
    case a1 =>
      go_light
      intro L σ W' hcl hL hC hw
      have e0 := wV hw 0 rfl
      clear hw
      have HC := Lib.hid hC
      clear hC
      clear hcl hL
      refine OpGoes.step fun K hK => ?_
      unfold OpGoes
      go_simp
      obtain ⟨hB, hx, hy, hM0, ⟨_, _, _, _, _, hz⟩, hz_o, ⟨_, _, _, _, _, _, _, _, _, _, _, _, hw_⟩, hw__o⟩ := HC.out
      refine (HCPY.out _ hB).mono ?_
      rintro e w1 ⟨A5, n5, c5, rfl, hG5, hb1⟩
      exact ⟨_, rfl, hK _ _ ⟨⟨bstep hB hB.size hb1, hx.below hb1 hx.lt, hy.below hb1 hy.lt, Nat.le_trans hM0 hb1.size, ⟨_, _, _, _, _, hz.below hb1 hz.lt⟩, fun h => (hz_o (by simpa [upd] using h)).below hb1 (hz_o (by simpa [upd] using h)).lt, ⟨_, _, _, _, _, _, _, _, _, _, _, _, hw_.below hb1 hw_.lt⟩, fun h => (hw__o (by simpa [upd] using h)).below hb1 (hw__o (by simpa [upd] using h)).lt⟩, ⟨A5, n5, c5, rfl, hG5.mono hM0 (Nat.le_refl _)⟩, hb1⟩⟩
    case a3 =>
      go_light
      intro L σ W' hcl hL hC hw hne
      obtain ⟨A5, n5, c5, e1, hp1⟩ := wE hw 1 rfl
      clear hw hne
      have HC := Lib.hid hC
      obtain ⟨hB, hx, hy, hM0, ⟨_, _, _, _, _, hz⟩, hz_o, ⟨_, _, _, _, _, _, _, _, _, _, _, _, hw_⟩, hw__o⟩ := hC
      clear hcl hL
      have kc_ := hz.cell
      have kf_ := hz.frozen
      clear hB hx hy hM0 hz hz_o hw_ hw__o
      refine OpGoes.step fun K hK => ?_
      unfold OpGoes
      go_simp
      obtain ⟨hB, hx, hy, hM0, ⟨_, _, _, _, _, hz⟩, hz_o, ⟨_, _, _, _, _, _, _, _, _, _, _, _, hw_⟩, hw__o⟩ := HC.out
      have hset := sets_all (us := [.int .i64 s.rd, .int .i64 s.mo, .slice A5 n5 c5, .int .i64 s.fi, .int .i64 s.la]) hz rfl
      refine hK undef (setCells W' (w.heap.size + 1 + 1) 0 [.int .i64 s.rd, .int .i64 s.mo, .slice A5 n5 c5, .int .i64 s.fi, .int .i64 s.la]) ⟨⟨(Below.setCells (by omega) _ 0 hB), (BoxAt.sets_ne _ 0 hx (by omega)), (BoxAt.sets_ne _ 0 hy (by omega)), (size_sts hM0 _ 0), ⟨_, _, _, _, _, hset⟩, fun h => absurd h (by simp [upd]), ⟨_, _, _, _, _, _, _, _, _, _, _, _, (BoxAt.sets_ne _ 0 hw_ (by omega))⟩, fun h => (BoxAt.sets_ne _ 0 (hw__o (by simpa [upd] using h)) (by omega))⟩, ⟨A5, n5, c5, hset, ((RgsW.setsT hp1 hz (by decide) (by decide) _ 0).mono (Nat.le_refl _) (Nat.le_of_eq (sets_size _ _ _).symm))⟩, Nat.le_of_eq (sets_size _ _ _).symm, keepV ?_⟩
      exact ⟨fun _ _ ⟨A5_x, n5_x, c5_x, e, hp⟩ => ⟨A5_x, n5_x, c5_x, e, ((RgsW.setsT hp hz (by decide) (by decide) _ 0).mono (Nat.le_refl _) (Nat.le_of_eq (sets_size _ _ _).symm))⟩, fun h => absurd rfl h, fun _ _ hR => (BoxAt.sets_ne _ 0 hR (by omega)), trivial⟩
    case a4 =>
      go_light
      intro L σ W' hcl hL hC hw hne
      have e2 := wV hw 2 rfl
      clear hw hne
      have HC := Lib.hid hC
      obtain ⟨hB, hx, hy, hM0, ⟨_, _, _, _, _, hz⟩, hz_o, ⟨_, _, _, _, _, _, _, _, _, _, _, _, hw_⟩, hw__o⟩ := hC
      clear hcl hL
      have kc_ := hw_.cell
      have kf_ := hw_.frozen
      clear hB hx hy hM0 hz hz_o hw_ hw__o
      refine OpGoes.step fun K hK => ?_
      unfold OpGoes
      go_simp
      obtain ⟨hB, hx, hy, hM0, ⟨_, _, _, _, _, hz⟩, hz_o, ⟨_, _, _, _, _, _, _, _, _, _, _, _, hw_⟩, hw__o⟩ := HC.out
      have hset := sets_all (us := [.int .i64 at_, .int .i64 v, .int .i64 r, .int .i64 t, .bool seen.s, .int .i64 seen.n, .bool seen.f, .int .i64 seen.v, .int .i64 tr, .int .i64 sp, .bool ag, .int .i64 re]) hw_ rfl
      refine hK undef (setCells W' (w.heap.size + 1 + 1 + 1) 0 [.int .i64 at_, .int .i64 v, .int .i64 r, .int .i64 t, .bool seen.s, .int .i64 seen.n, .bool seen.f, .int .i64 seen.v, .int .i64 tr, .int .i64 sp, .bool ag, .int .i64 re]) ⟨⟨(Below.setCells (by omega) _ 0 hB), (BoxAt.sets_ne _ 0 hx (by omega)), (BoxAt.sets_ne _ 0 hy (by omega)), (size_sts hM0 _ 0), ⟨_, _, _, _, _, (BoxAt.sets_ne _ 0 hz (by omega))⟩, fun h => (BoxAt.sets_ne _ 0 (hz_o (by simpa [upd] using h)) (by omega)), ⟨_, _, _, _, _, _, _, _, _, _, _, _, hset⟩, fun h => absurd h (by simp [upd])⟩, hset, Nat.le_of_eq (sets_size _ _ _).symm, keepV ?_⟩
      exact ⟨fun _ _ ⟨A5_x, n5_x, c5_x, e, hp⟩ => ⟨A5_x, n5_x, c5_x, e, ((RgsW.setsT hp hw_ (by decide) (by decide) _ 0).mono (Nat.le_refl _) (Nat.le_of_eq (sets_size _ _ _).symm))⟩, fun _ _ ⟨A5, n5, c5, hx, hp⟩ => ⟨A5, n5, c5, (BoxAt.sets_ne _ 0 hx (by omega)), ((RgsW.setsT hp hw_ (by decide) (by decide) _ 0).mono (Nat.le_refl _) (Nat.le_of_eq (sets_size _ _ _).symm))⟩, fun h => absurd rfl h, trivial⟩
    · intro L L' W' hLL hC
      obtain ⟨hB, hx, hy, hM0, ⟨_, _, _, _, _, hz⟩, hz_o, ⟨_, _, _, _, _, _, _, _, _, _, _, _, hw_⟩, hw__o⟩ := hC
      exact ⟨hB, hx, hy, hM0, ⟨_, _, _, _, _, hz⟩, fun h => hz_o (hLL _ h), ⟨_, _, _, _, _, _, _, _, _, _, _, _, hw_⟩, fun h => hw__o (hLL _ h)⟩
    · intro σ L W' hall hC hRR
      obtain ⟨hB, hx, hy, hM0, ⟨_, _, _, _, _, hz⟩, hz_o, ⟨_, _, _, _, _, _, _, _, _, _, _, _, hw_⟩, hw__o⟩ := hC
      obtain ⟨A5, n5, c5, s3, hp3⟩ := dE hRR 3 rfl
      have s4 := dE hRR 4 rfl
      have e5 := dV hRR 5 rfl
      clear hRR
      simp only [lexAll]
      go_simp
      go_step
      have k7 := s3.cell
      have k8 := s4.cell
      go_wp2
      refine bodyPost_ret (v := .tuple #[stV s A5 n5 c5, hdV (⟨at_, v, r, t, seen, tr, sp, ag, re⟩ : Hd), .bool false]) (by simp [results, Try.results90, go_sem, k7, k8, stV, hdV]) rfl ⟨A5, n5, c5, by rw [HV.out], ?_, hB⟩
      rw [HV.out]
      exact hp3.mono (by omega) (Nat.le_refl _)
  go_wp2_with fail
  clear kx ky
  refine (l4Ring_any s A n cap r _ HLN.out hm).mono ?_
  rintro e w3 ⟨rfl, hb⟩
  replace hx := hx.below hb hx.lt
  replace hy := hy.below hb hy.lt
  replace hz := hz.below hb hz.lt
  replace hw_ := hw_.below hb hw_.lt
  replace hB := bstep hB hB.size hb
  have h3 := hb.size
  clear hb
  cases hrb : ringB s r
  · have HV := Lib.hid (show stepS takeS lateB s (⟨at_, v, r, t, seen, tr, sp, ag, re⟩ : Hd) = (s, (⟨at_, v, r, t, seen, tr, sp, ag, re⟩ : Hd), false) by simp [stepS, HOK.out, HHO.out, hrb])
    go_upto_region 4 with fail
    obtain ⟨M0, hMe⟩ : ∃ M0, M0 = w3.heap.size := ⟨_, rfl⟩
    have hM0 : M0 ≤ w3.heap.size := by omega
    have hM4 : w.heap.size + 4 ≤ M0 := by have := hw_.lt; omega
    clear hMe 
    refine wp_region2v (fun w w' => Below w.heap.size w w') (fun _ _ h => h.size) (fun _ => Below.refl _ _) (fun L W' => Below w.heap.size w W' ∧ BoxAt W' w.heap.size #[.int .i64 s.rd, .int .i64 s.mo, .slice A n cap, .int .i64 s.fi, .int .i64 s.la] 72 ∧ BoxAt W' (w.heap.size + 1) #[.int .i64 at_, .int .i64 v, .int .i64 r, .int .i64 t, .bool seen.s, .int .i64 seen.n, .bool seen.f, .int .i64 seen.v, .int .i64 tr, .int .i64 sp, .bool ag, .int .i64 re] 27 ∧ M0 ≤ W'.heap.size ∧ (∃ x0 x1 x2 x3 x4, BoxAt W' (w.heap.size + 1 + 1) #[x0, x1, x2, x3, x4] 72) ∧ (L 3 = false → BoxAt W' (w.heap.size + 1 + 1) #[.int .i64 0, .int .i64 0, .slice none 0 0, .int .i64 0, .int .i64 0] 72) ∧ (∃ x0 x1 x2 x3 x4 x5 x6 x7 x8 x9 x10 x11, BoxAt W' (w.heap.size + 1 + 1 + 1) #[x0, x1, x2, x3, x4, x5, x6, x7, x8, x9, x10, x11] 27) ∧ (L 4 = false → BoxAt W' (w.heap.size + 1 + 1 + 1) #[.int .i64 0, .int .i64 0, .int .i64 0, .int .i64 0, .bool false, .int .i64 0, .bool false, .int .i64 0, .int .i64 0, .int .i64 0, .bool false, .int .i64 0] 27)) (ts4V s w.heap.size M0 n cap A at_ v r t seen tr sp ag re) (fun j => [0, 0, 0, 1, 1, 0].getD j 0) [] (by kernel_rfl) (by kernel_rfl) ?_ ?_ ?_
      (.still rfl ?a0 <| .grow rfl ?a1 <| .still rfl ?a2 <| .store rfl ?a3 <| .store rfl ?a4 <| .still rfl ?a5 <| .nil) ?_ ?_
    · exact ⟨fun _ _ _ h ⟨A5, n5, c5, e, hp⟩ => ⟨A5, n5, c5, (h 1 (List.mem_singleton.2 rfl)).symm.trans e, hp⟩, fun _ _ _ _ h => h, fun _ _ _ _ h => h, trivial⟩
    · exact ⟨fun σ w w' hb ⟨A5, n5, c5, e, hp⟩ => ⟨A5, n5, c5, e, (hp.below hb (Nat.le_refl _)).mono (Nat.le_refl _) hb.size⟩, fun σ w w' hb ⟨A5, n5, c5, hx, hp⟩ => ⟨A5, n5, c5, hx.below hb hx.lt, (hp.below hb (Nat.le_refl _)).mono (Nat.le_refl _) hb.size⟩, fun σ w w' hb hR => hR.below hb hR.lt, trivial⟩
    · exact ⟨hB.drew, hx, hy, hM0, ⟨_, _, _, _, _, hz⟩, fun _ => hz, ⟨_, _, _, _, _, _, _, _, _, _, _, _, hw_⟩, fun _ => hw_⟩
    case a0 =>
      go_light
      intro L σ W' hcl hL hC hw
      have ks := hC.2.1.cell
      clear hw hcl hL hC
      refine OpGoes.step fun K hK => ?_
      unfold OpGoes
      go_simp
      exact hK _ _ ⟨rfl, rfl⟩
    case a2 =>
      go_light
      intro L σ W' hcl hL hC hw
      have kh := hC.2.2.1.cell
      clear hw hcl hL hC
      refine OpGoes.step fun K hK => ?_
      unfold OpGoes
      go_simp
      exact hK _ _ ⟨rfl, rfl⟩
    case a5 =>
      go_light
      intro L σ W' hcl hL hC hw
      clear hw hcl hL hC
      refine OpGoes.step fun K hK => ?_
      unfold OpGoes
      go_simp
      exact hK _ _ ⟨rfl, rfl⟩
    case a1 =>
      go_light
      intro L σ W' hcl hL hC hw
      have e0 := wV hw 0 rfl
      clear hw
      have HC := Lib.hid hC
      clear hC
      clear hcl hL
      refine OpGoes.step fun K hK => ?_
      unfold OpGoes
      go_simp
      obtain ⟨hB, hx, hy, hM0, ⟨_, _, _, _, _, hz⟩, hz_o, ⟨_, _, _, _, _, _, _, _, _, _, _, _, hw_⟩, hw__o⟩ := HC.out
      refine (HCPY.out _ hB).mono ?_
      rintro e w1 ⟨A5, n5, c5, rfl, hG5, hb1⟩
      exact ⟨_, rfl, hK _ _ ⟨⟨bstep hB hB.size hb1, hx.below hb1 hx.lt, hy.below hb1 hy.lt, Nat.le_trans hM0 hb1.size, ⟨_, _, _, _, _, hz.below hb1 hz.lt⟩, fun h => (hz_o (by simpa [upd] using h)).below hb1 (hz_o (by simpa [upd] using h)).lt, ⟨_, _, _, _, _, _, _, _, _, _, _, _, hw_.below hb1 hw_.lt⟩, fun h => (hw__o (by simpa [upd] using h)).below hb1 (hw__o (by simpa [upd] using h)).lt⟩, ⟨A5, n5, c5, rfl, hG5.mono hM0 (Nat.le_refl _)⟩, hb1⟩⟩
    case a3 =>
      go_light
      intro L σ W' hcl hL hC hw hne
      obtain ⟨A5, n5, c5, e1, hp1⟩ := wE hw 1 rfl
      clear hw hne
      have HC := Lib.hid hC
      obtain ⟨hB, hx, hy, hM0, ⟨_, _, _, _, _, hz⟩, hz_o, ⟨_, _, _, _, _, _, _, _, _, _, _, _, hw_⟩, hw__o⟩ := hC
      clear hcl hL
      have kc_ := hz.cell
      have kf_ := hz.frozen
      clear hB hx hy hM0 hz hz_o hw_ hw__o
      refine OpGoes.step fun K hK => ?_
      unfold OpGoes
      go_simp
      obtain ⟨hB, hx, hy, hM0, ⟨_, _, _, _, _, hz⟩, hz_o, ⟨_, _, _, _, _, _, _, _, _, _, _, _, hw_⟩, hw__o⟩ := HC.out
      have hset := sets_all (us := [.int .i64 s.rd, .int .i64 s.mo, .slice A5 n5 c5, .int .i64 s.fi, .int .i64 s.la]) hz rfl
      refine hK undef (setCells W' (w.heap.size + 1 + 1) 0 [.int .i64 s.rd, .int .i64 s.mo, .slice A5 n5 c5, .int .i64 s.fi, .int .i64 s.la]) ⟨⟨(Below.setCells (by omega) _ 0 hB), (BoxAt.sets_ne _ 0 hx (by omega)), (BoxAt.sets_ne _ 0 hy (by omega)), (size_sts hM0 _ 0), ⟨_, _, _, _, _, hset⟩, fun h => absurd h (by simp [upd]), ⟨_, _, _, _, _, _, _, _, _, _, _, _, (BoxAt.sets_ne _ 0 hw_ (by omega))⟩, fun h => (BoxAt.sets_ne _ 0 (hw__o (by simpa [upd] using h)) (by omega))⟩, ⟨A5, n5, c5, hset, ((RgsW.setsT hp1 hz (by decide) (by decide) _ 0).mono (Nat.le_refl _) (Nat.le_of_eq (sets_size _ _ _).symm))⟩, Nat.le_of_eq (sets_size _ _ _).symm, keepV ?_⟩
      exact ⟨fun _ _ ⟨A5_x, n5_x, c5_x, e, hp⟩ => ⟨A5_x, n5_x, c5_x, e, ((RgsW.setsT hp hz (by decide) (by decide) _ 0).mono (Nat.le_refl _) (Nat.le_of_eq (sets_size _ _ _).symm))⟩, fun h => absurd rfl h, fun _ _ hR => (BoxAt.sets_ne _ 0 hR (by omega)), trivial⟩
    case a4 =>
      go_light
      intro L σ W' hcl hL hC hw hne
      have e2 := wV hw 2 rfl
      clear hw hne
      have HC := Lib.hid hC
      obtain ⟨hB, hx, hy, hM0, ⟨_, _, _, _, _, hz⟩, hz_o, ⟨_, _, _, _, _, _, _, _, _, _, _, _, hw_⟩, hw__o⟩ := hC
      clear hcl hL
      have kc_ := hw_.cell
      have kf_ := hw_.frozen
      clear hB hx hy hM0 hz hz_o hw_ hw__o
      refine OpGoes.step fun K hK => ?_
      unfold OpGoes
      go_simp
      obtain ⟨hB, hx, hy, hM0, ⟨_, _, _, _, _, hz⟩, hz_o, ⟨_, _, _, _, _, _, _, _, _, _, _, _, hw_⟩, hw__o⟩ := HC.out
      have hset := sets_all (us := [.int .i64 at_, .int .i64 v, .int .i64 r, .int .i64 t, .bool seen.s, .int .i64 seen.n, .bool seen.f, .int .i64 seen.v, .int .i64 tr, .int .i64 sp, .bool ag, .int .i64 re]) hw_ rfl
      refine hK undef (setCells W' (w.heap.size + 1 + 1 + 1) 0 [.int .i64 at_, .int .i64 v, .int .i64 r, .int .i64 t, .bool seen.s, .int .i64 seen.n, .bool seen.f, .int .i64 seen.v, .int .i64 tr, .int .i64 sp, .bool ag, .int .i64 re]) ⟨⟨(Below.setCells (by omega) _ 0 hB), (BoxAt.sets_ne _ 0 hx (by omega)), (BoxAt.sets_ne _ 0 hy (by omega)), (size_sts hM0 _ 0), ⟨_, _, _, _, _, (BoxAt.sets_ne _ 0 hz (by omega))⟩, fun h => (BoxAt.sets_ne _ 0 (hz_o (by simpa [upd] using h)) (by omega)), ⟨_, _, _, _, _, _, _, _, _, _, _, _, hset⟩, fun h => absurd h (by simp [upd])⟩, hset, Nat.le_of_eq (sets_size _ _ _).symm, keepV ?_⟩
      exact ⟨fun _ _ ⟨A5_x, n5_x, c5_x, e, hp⟩ => ⟨A5_x, n5_x, c5_x, e, ((RgsW.setsT hp hw_ (by decide) (by decide) _ 0).mono (Nat.le_refl _) (Nat.le_of_eq (sets_size _ _ _).symm))⟩, fun _ _ ⟨A5, n5, c5, hx, hp⟩ => ⟨A5, n5, c5, (BoxAt.sets_ne _ 0 hx (by omega)), ((RgsW.setsT hp hw_ (by decide) (by decide) _ 0).mono (Nat.le_refl _) (Nat.le_of_eq (sets_size _ _ _).symm))⟩, fun h => absurd rfl h, trivial⟩
    · intro L L' W' hLL hC
      obtain ⟨hB, hx, hy, hM0, ⟨_, _, _, _, _, hz⟩, hz_o, ⟨_, _, _, _, _, _, _, _, _, _, _, _, hw_⟩, hw__o⟩ := hC
      exact ⟨hB, hx, hy, hM0, ⟨_, _, _, _, _, hz⟩, fun h => hz_o (hLL _ h), ⟨_, _, _, _, _, _, _, _, _, _, _, _, hw_⟩, fun h => hw__o (hLL _ h)⟩
    · intro σ L W' hall hC hRR
      obtain ⟨hB, hx, hy, hM0, ⟨_, _, _, _, _, hz⟩, hz_o, ⟨_, _, _, _, _, _, _, _, _, _, _, _, hw_⟩, hw__o⟩ := hC
      obtain ⟨A5, n5, c5, s3, hp3⟩ := dE hRR 3 rfl
      have s4 := dE hRR 4 rfl
      have e5 := dV hRR 5 rfl
      clear hRR
      simp only [lexAll]
      go_simp
      go_step
      have k7 := s3.cell
      have k8 := s4.cell
      go_wp2
      refine bodyPost_ret (v := .tuple #[stV s A5 n5 c5, hdV (⟨at_, v, r, t, seen, tr, sp, ag, re⟩ : Hd), .bool false]) (by simp [results, Try.results90, go_sem, k7, k8, stV, hdV]) rfl ⟨A5, n5, c5, by rw [HV.out], ?_, hB⟩
      rw [HV.out]
      exact hp3.mono (by omega) (Nat.le_refl _)
  have HTB := Lib.hid (show lateB at_ = true by simp [lateB, h13])
  obtain ⟨q, hq⟩ : ∃ q, takeS s (⟨at_, v, r, t, seen, tr, sp, ag, re⟩ : Hd) = q := ⟨_, rfl⟩
  have HQN := Lib.hid (show Neat q.1 by rw [← hq]; exact takeS_neat HOK.out)
  obtain ⟨M0, hMe⟩ : ∃ M0, M0 = w3.heap.size := ⟨_, rfl⟩
  have hM0 : M0 ≤ w3.heap.size := by omega
  have hM4 : w.heap.size + 4 ≤ M0 := by have := hw_.lt; omega
  clear hMe
  have HTK := Lib.hid (show ∀ (W : World) (A1 : Option Addr) (n1 c1 : Nat), Below w.heap.size w W → M0 ≤ W.heap.size → RgsW M0 W.heap.size W A1 n1 c1 s.rs → Calls Try.prog 92 #[stV s A1 n1 c1, hdV (⟨at_, v, r, t, seen, tr, sp, ag, re⟩ : Hd)] W (RetSHB M0 q W) from fun W A1 n1 c1 hBW hMW hG => by
    have := l7Take_any s A1 n1 c1 M0 W.heap.size (⟨at_, v, r, t, seen, tr, sp, ag, re⟩ : Hd) W hG (Nat.le_refl _) hMW HOK.out hrb HHO.out (by have := hd_at HHO.out; simp only [takeB, inB, Bool.and_eq_true, decide_eq_true_eq]; dsimp only at this; omega)
    rw [hq] at this
    exact this)
  unfold stV hdV at HTK
  have HRB := Lib.hid hrb
  have HQ := Lib.hid hq
  clear hrb hq
  go_upto_region 5 with fail
  go_cut [7, 8, 9] (fun u7 u8 u9 W' => Below w.heap.size w W' ∧ BoxAt W' w.heap.size #[.int .i64 s.rd, .int .i64 s.mo, .slice A n cap, .int .i64 s.fi, .int .i64 s.la] 72 ∧ BoxAt W' (w.heap.size + 1) #[.int .i64 at_, .int .i64 v, .int .i64 r, .int .i64 t, .bool seen.s, .int .i64 seen.n, .bool seen.f, .int .i64 seen.v, .int .i64 tr, .int .i64 sp, .bool ag, .int .i64 re] 27 ∧ BoxAt W' (w.heap.size + 1 + 1) #[.int .i64 0, .int .i64 0, .slice none 0 0, .int .i64 0, .int .i64 0] 72 ∧ BoxAt W' (w.heap.size + 1 + 1 + 1) #[.int .i64 0, .int .i64 0, .int .i64 0, .int .i64 0, .bool false, .int .i64 0, .bool false, .int .i64 0, .int .i64 0, .int .i64 0, .bool false, .int .i64 0] 27 ∧ M0 ≤ W'.heap.size ∧ ∃ (X Y : Nat) (A5 : Option Addr) (n5 c5 : Nat), M0 ≤ X ∧ M0 ≤ Y ∧ BoxAt W' X #[.int .i64 q.1.rd, .int .i64 q.1.mo, .slice A5 n5 c5, .int .i64 q.1.fi, .int .i64 q.1.la] 72 ∧ BoxAt W' Y #[.int .i64 q.2.1.at_, .int .i64 q.2.1.v, .int .i64 q.2.1.r, .int .i64 q.2.1.t, .bool q.2.1.seen.s, .int .i64 q.2.1.seen.n, .bool q.2.1.seen.f, .int .i64 q.2.1.seen.v, .int .i64 q.2.1.tr, .int .i64 q.2.1.sp, .bool q.2.1.ag, .int .i64 q.2.1.re] 27 ∧ RgsW M0 W'.heap.size W' A5 n5 c5 q.1.rs ∧ u7 = .pointer (some ⟨X, 0, none⟩) ∧ u8 = .pointer (some ⟨Y, 0, none⟩) ∧ u9 = .bool q.2.2)
  case first =>
    refine wp_region2v (fun w w' => Below w.heap.size w w') (fun _ _ h => h.size) (fun _ => Below.refl _ _) (fun L W' => Below w.heap.size w W' ∧ BoxAt W' w.heap.size #[.int .i64 s.rd, .int .i64 s.mo, .slice A n cap, .int .i64 s.fi, .int .i64 s.la] 72 ∧ BoxAt W' (w.heap.size + 1) #[.int .i64 at_, .int .i64 v, .int .i64 r, .int .i64 t, .bool seen.s, .int .i64 seen.n, .bool seen.f, .int .i64 seen.v, .int .i64 tr, .int .i64 sp, .bool ag, .int .i64 re] 27 ∧ M0 ≤ W'.heap.size ∧ BoxAt W' (w.heap.size + 1 + 1) #[.int .i64 0, .int .i64 0, .slice none 0 0, .int .i64 0, .int .i64 0] 72 ∧ BoxAt W' (w.heap.size + 1 + 1 + 1) #[.int .i64 0, .int .i64 0, .int .i64 0, .int .i64 0, .bool false, .int .i64 0, .bool false, .int .i64 0, .int .i64 0, .int .i64 0, .bool false, .int .i64 0] 27) (ts5V s w.heap.size M0 n cap A at_ v r t seen tr sp ag re q) (fun j => [0, 0, 0, 0, 0, 0, 0, 0, 2, 2, 1, 1, 0].getD j 0) [(10, 8), (11, 9)] (by kernel_rfl) (by kernel_rfl) ?_ ?_ ?_
      (.still rfl ?a0 <| .grow rfl ?a1 <| .still rfl ?a2 <| .grow rfl ?a3 <| .still rfl ?a4 <| .still rfl ?a5 <| .still rfl ?a6 <| .still rfl ?a7 <| .make rfl ?a8 <| .make rfl ?a9 <| .store rfl ?a10 <| .store rfl ?a11 <| .still rfl ?a12 <| .nil) ?_ ?_
    · exact ⟨fun _ _ _ h ⟨A1, n1, c1, e, hp⟩ => ⟨A1, n1, c1, (h 1 (List.mem_singleton.2 rfl)).symm.trans e, hp⟩, fun _ _ _ h ⟨A5, n5, c5, e, hp⟩ => ⟨A5, n5, c5, (h 3 (List.mem_singleton.2 rfl)).symm.trans e, hp⟩, fun _ _ _ h ⟨A5, n5, c5, e, hp⟩ => ⟨A5, n5, c5, (h 4 (List.mem_singleton.2 rfl)).symm.trans e, hp⟩, fun _ _ _ h ⟨A5, n5, c5, e, hp⟩ => ⟨A5, n5, c5, (h 5 (List.mem_singleton.2 rfl)).symm.trans e, hp⟩, fun _ _ _ h ⟨g, e, hp⟩ => ⟨g, (h 8 (List.mem_singleton.2 rfl)).symm.trans e, hp⟩, fun _ _ _ h ⟨g, e, hp⟩ => ⟨g, (h 9 (List.mem_singleton.2 rfl)).symm.trans e, hp⟩, fun _ _ _ h ⟨g, A5, n5, c5, e, hp⟩ => ⟨g, A5, n5, c5, (h 8 (List.mem_singleton.2 rfl)).symm.trans e, hp⟩, fun _ _ _ h ⟨g, e, hp⟩ => ⟨g, (h 9 (List.mem_singleton.2 rfl)).symm.trans e, hp⟩, trivial⟩
    · exact ⟨fun σ w w' hb ⟨A1, n1, c1, e, hp⟩ => ⟨A1, n1, c1, e, (hp.below hb (Nat.le_refl _)).mono (Nat.le_refl _) hb.size⟩, fun σ w w' hb ⟨A5, n5, c5, e, hp⟩ => ⟨A5, n5, c5, e, (hp.below hb (Nat.le_refl _)).mono (Nat.le_refl _) hb.size⟩, fun σ w w' hb ⟨A5, n5, c5, e, hp⟩ => ⟨A5, n5, c5, e, (hp.below hb (Nat.le_refl _)).mono (Nat.le_refl _) hb.size⟩, fun σ w w' hb ⟨A5, n5, c5, e, hp⟩ => ⟨A5, n5, c5, e, (hp.below hb (Nat.le_refl _)).mono (Nat.le_refl _) hb.size⟩, fun σ w w' hb ⟨g, e, hg, x0, x1, x2, x3, x4, hx⟩ => ⟨g, e, hg, x0, x1, x2, x3, x4, hx.below hb hx.lt⟩, fun σ w w' hb ⟨g, e, hg, x0, x1, x2, x3, x4, x5, x6, x7, x8, x9, x10, x11, hx⟩ => ⟨g, e, hg, x0, x1, x2, x3, x4, x5, x6, x7, x8, x9, x10, x11, hx.below hb hx.lt⟩, fun σ w w' hb ⟨g, A5, n5, c5, e, hg, hx, hp⟩ => ⟨g, A5, n5, c5, e, hg, hx.below hb hx.lt, (hp.below hb (Nat.le_refl _)).mono (Nat.le_refl _) hb.size⟩, fun σ w w' hb ⟨g, e, hg, hx⟩ => ⟨g, e, hg, hx.below hb hx.lt⟩, trivial⟩
    · exact ⟨hB.drew, hx, hy, hM0, hz, hw_⟩
    case a0 =>
      go_light
      intro L σ W' hcl hL hC hw
      have ks := hC.2.1.cell
      clear hw hcl hL hC
      refine OpGoes.step fun K hK => ?_
      unfold OpGoes
      go_simp
      exact hK _ _ ⟨rfl, rfl⟩
    case a2 =>
      go_light
      intro L σ W' hcl hL hC hw
      have kh := hC.2.2.1.cell
      clear hw hcl hL hC
      refine OpGoes.step fun K hK => ?_
      unfold OpGoes
      go_simp
      exact hK _ _ ⟨rfl, rfl⟩
    case a12 =>
      go_light
      intro L σ W' hcl hL hC hw
      have e7 := wV hw 7 rfl
      clear hw hcl hL hC
      refine OpGoes.step fun K hK => ?_
      unfold OpGoes
      go_simp
      exact hK _ _ ⟨rfl, rfl⟩
    case a1 =>
      go_light
      intro L σ W' hcl hL hC hw
      have e0 := wV hw 0 rfl
      clear hw
      have HC := Lib.hid hC
      clear hC
      clear hcl hL
      refine OpGoes.step fun K hK => ?_
      unfold OpGoes
      go_simp
      obtain ⟨hB, hx, hy, hM0, hz, hw_⟩ := HC.out
      refine (HCPY.out _ hB).mono ?_
      rintro e w1 ⟨A1, n1, c1, rfl, hG5, hb1⟩
      exact ⟨_, rfl, hK _ _ ⟨⟨bstep hB hB.size hb1, hx.below hb1 hx.lt, hy.below hb1 hy.lt, Nat.le_trans hM0 hb1.size, hz.below hb1 hz.lt, hw_.below hb1 hw_.lt⟩, ⟨A1, n1, c1, rfl, hG5.mono hM0 (Nat.le_refl _)⟩, hb1⟩⟩
    case a3 =>
      go_light
      intro L σ W' hcl hL hC hw
      obtain ⟨A1, n1, c1, e1, hp1⟩ := wE hw 1 rfl
      have e2 := wV hw 2 rfl
      clear hw
      have HC := Lib.hid hC
      clear hC
      clear hcl hL
      refine OpGoes.step fun K hK => ?_
      unfold OpGoes
      go_simp
      obtain ⟨hB, hx, hy, hM0, hz, hw_⟩ := HC.out
      refine (HTK.out _ _ _ _ hB hM0 hp1).mono ?_
      rintro e w1 ⟨A5, n5, c5, rfl, hG5, hb1⟩
      exact ⟨_, rfl, hK _ _ ⟨⟨bstep hB hB.size hb1, hx.below hb1 hx.lt, hy.below hb1 hy.lt, Nat.le_trans hM0 hb1.size, hz.below hb1 hz.lt, hw_.below hb1 hw_.lt⟩, ⟨A5, n5, c5, rfl, hG5⟩, hb1⟩⟩
    case a4 =>
      go_light
      intro L σ W' hcl hL hC hw
      obtain ⟨A5, n5, c5, e3, hp3⟩ := wE hw 3 rfl
      clear hw hcl hL hC
      refine OpGoes.step fun K hK => ?_
      unfold OpGoes
      go_simp
      exact hK _ _ ⟨rfl, ⟨A5, n5, c5, rfl, hp3⟩⟩
    case a5 =>
      go_light
      intro L σ W' hcl hL hC hw
      obtain ⟨A5, n5, c5, e4, hp4⟩ := wE hw 4 rfl
      clear hw hcl hL hC
      refine OpGoes.step fun K hK => ?_
      unfold OpGoes
      go_simp
      exact hK _ _ ⟨rfl, ⟨A5, n5, c5, rfl, hp4⟩⟩
    case a6 =>
      go_light
      intro L σ W' hcl hL hC hw
      obtain ⟨A5, n5, c5, e4, hp4⟩ := wE hw 4 rfl
      clear hw hcl hL hC
      refine OpGoes.step fun K hK => ?_
      unfold OpGoes
      go_simp
      exact hK _ _ ⟨rfl, rfl⟩
    case a7 =>
      go_light
      intro L σ W' hcl hL hC hw
      obtain ⟨A5, n5, c5, e4, hp4⟩ := wE hw 4 rfl
      clear hw hcl hL hC
      refine OpGoes.step fun K hK => ?_
      unfold OpGoes
      go_simp
      exact hK _ _ ⟨rfl, rfl⟩
    case a8 =>
      go_light
      intro L σ W' hcl hL hC hw
      clear hw
      have HC := Lib.hid hC
      clear hC
      clear hcl hL
      refine OpGoes.step fun K hK => ?_
      unfold OpGoes
      go_simp
      obtain ⟨hB, hx, hy, hM0, hz, hw_⟩ := HC.out
      have hb1 : Below W'.heap.size W' (W'.alloc (.cells #[.int .i64 0, .int .i64 0, .slice none 0 0, .int .i64 0, .int .i64 0] 72)) := (Below.refl _ _).alloc (Nat.le_refl _) _
      exact hK _ _ ⟨⟨bstep hB hB.size hb1, hx.below hb1 hx.lt, hy.below hb1 hy.lt, Nat.le_trans hM0 hb1.size, hz.below hb1 hz.lt, hw_.below hb1 hw_.lt⟩, ⟨_, rfl, hM0, _, _, _, _, _, BoxAt.new _ _ _⟩, hb1, rfl, by simp⟩
    case a9 =>
      go_light
      intro L σ W' hcl hL hC hw
      clear hw
      have HC := Lib.hid hC
      clear hC
      clear hcl hL
      refine OpGoes.step fun K hK => ?_
      unfold OpGoes
      go_simp
      obtain ⟨hB, hx, hy, hM0, hz, hw_⟩ := HC.out
      have hb1 : Below W'.heap.size W' (W'.alloc (.cells #[.int .i64 0, .int .i64 0, .int .i64 0, .int .i64 0, .bool false, .int .i64 0, .bool false, .int .i64 0, .int .i64 0, .int .i64 0, .bool false, .int .i64 0] 27)) := (Below.refl _ _).alloc (Nat.le_refl _) _
      exact hK _ _ ⟨⟨bstep hB hB.size hb1, hx.below hb1 hx.lt, hy.below hb1 hy.lt, Nat.le_trans hM0 hb1.size, hz.below hb1 hz.lt, hw_.below hb1 hw_.lt⟩, ⟨_, rfl, hM0, _, _, _, _, _, _, _, _, _, _, _, _, BoxAt.new _ _ _⟩, hb1, rfl, by simp⟩
    case a10 =>
      go_light
      intro L σ W' hcl hL hC hw hne
      obtain ⟨A5, n5, c5, e5, hp5⟩ := wE hw 5 rfl
      obtain ⟨g8, e8, hg8, x0, x1, x2, x3, x4, hbox8⟩ := wE hw 8 rfl
      clear hw hne
      have HC := Lib.hid hC
      clear hC
      clear hcl hL
      have kc_ := hbox8.cell
      have kf_ := hbox8.frozen
      refine OpGoes.step fun K hK => ?_
      unfold OpGoes
      go_simp
      obtain ⟨hB, hx, hy, hM0, hz, hw_⟩ := HC.out
      have hset := sets_all (us := [.int .i64 q.1.rd, .int .i64 q.1.mo, .slice A5 n5 c5, .int .i64 q.1.fi, .int .i64 q.1.la]) hbox8 rfl
      refine hK undef (setCells W' g8 0 [.int .i64 q.1.rd, .int .i64 q.1.mo, .slice A5 n5 c5, .int .i64 q.1.fi, .int .i64 q.1.la]) ⟨⟨(Below.setCells (by omega) _ 0 hB), (BoxAt.sets_ne _ 0 hx (by omega)), (BoxAt.sets_ne _ 0 hy (by omega)), (size_sts hM0 _ 0), (BoxAt.sets_ne _ 0 hz (by omega)), (BoxAt.sets_ne _ 0 hw_ (by omega))⟩, ⟨g8, A5, n5, c5, e8, hg8, hset, ((RgsW.setsT hp5 hbox8 (by decide) (by decide) _ 0).mono (Nat.le_refl _) (Nat.le_of_eq (sets_size _ _ _).symm))⟩, Nat.le_of_eq (sets_size _ _ _).symm, keepV ?_⟩
      exact ⟨fun _ _ ⟨A1_x, n1_x, c1_x, e, hp⟩ => ⟨A1_x, n1_x, c1_x, e, ((RgsW.setsT hp hbox8 (by decide) (by decide) _ 0).mono (Nat.le_refl _) (Nat.le_of_eq (sets_size _ _ _).symm))⟩, fun _ _ ⟨A5_x, n5_x, c5_x, e, hp⟩ => ⟨A5_x, n5_x, c5_x, e, ((RgsW.setsT hp hbox8 (by decide) (by decide) _ 0).mono (Nat.le_refl _) (Nat.le_of_eq (sets_size _ _ _).symm))⟩, fun _ _ ⟨A5_x, n5_x, c5_x, e, hp⟩ => ⟨A5_x, n5_x, c5_x, e, ((RgsW.setsT hp hbox8 (by decide) (by decide) _ 0).mono (Nat.le_refl _) (Nat.le_of_eq (sets_size _ _ _).symm))⟩, fun _ _ ⟨A5_x, n5_x, c5_x, e, hp⟩ => ⟨A5_x, n5_x, c5_x, e, ((RgsW.setsT hp hbox8 (by decide) (by decide) _ 0).mono (Nat.le_refl _) (Nat.le_of_eq (sets_size _ _ _).symm))⟩, fun _ _ _ => ⟨g8, e8, hg8, _, _, _, _, _, hset⟩, fun _ _ ⟨g, e, hg, x0, x1, x2, x3, x4, x5, x6, x7, x8, x9, x10, x11, hx⟩ => ⟨g, e, hg, x0, x1, x2, x3, x4, x5, x6, x7, x8, x9, x10, x11, (BoxAt.sets_ne _ 0 hx (by first | omega | exact box_neM hx hbox8 (by decide)))⟩, fun h => absurd rfl h, fun _ _ ⟨g, e, hg, hx⟩ => ⟨g, e, hg, (BoxAt.sets_ne _ 0 hx (by first | omega | exact box_neM hx hbox8 (by decide)))⟩, trivial⟩
    case a11 =>
      go_light
      intro L σ W' hcl hL hC hw hne
      have e6 := wV hw 6 rfl
      obtain ⟨g9, e9, hg9, x0, x1, x2, x3, x4, x5, x6, x7, x8, x9, x10, x11, hbox9⟩ := wE hw 9 rfl
      clear hw hne
      have HC := Lib.hid hC
      clear hC
      clear hcl hL
      have kc_ := hbox9.cell
      have kf_ := hbox9.frozen
      refine OpGoes.step fun K hK => ?_
      unfold OpGoes
      go_simp
      obtain ⟨hB, hx, hy, hM0, hz, hw_⟩ := HC.out
      have hset := sets_all (us := [.int .i64 q.2.1.at_, .int .i64 q.2.1.v, .int .i64 q.2.1.r, .int .i64 q.2.1.t, .bool q.2.1.seen.s, .int .i64 q.2.1.seen.n, .bool q.2.1.seen.f, .int .i64 q.2.1.seen.v, .int .i64 q.2.1.tr, .int .i64 q.2.1.sp, .bool q.2.1.ag, .int .i64 q.2.1.re]) hbox9 rfl
      refine hK undef (setCells W' g9 0 [.int .i64 q.2.1.at_, .int .i64 q.2.1.v, .int .i64 q.2.1.r, .int .i64 q.2.1.t, .bool q.2.1.seen.s, .int .i64 q.2.1.seen.n, .bool q.2.1.seen.f, .int .i64 q.2.1.seen.v, .int .i64 q.2.1.tr, .int .i64 q.2.1.sp, .bool q.2.1.ag, .int .i64 q.2.1.re]) ⟨⟨(Below.setCells (by omega) _ 0 hB), (BoxAt.sets_ne _ 0 hx (by omega)), (BoxAt.sets_ne _ 0 hy (by omega)), (size_sts hM0 _ 0), (BoxAt.sets_ne _ 0 hz (by omega)), (BoxAt.sets_ne _ 0 hw_ (by omega))⟩, ⟨g9, e9, hg9, hset⟩, Nat.le_of_eq (sets_size _ _ _).symm, keepV ?_⟩
      exact ⟨fun _ _ ⟨A1_x, n1_x, c1_x, e, hp⟩ => ⟨A1_x, n1_x, c1_x, e, ((RgsW.setsT hp hbox9 (by decide) (by decide) _ 0).mono (Nat.le_refl _) (Nat.le_of_eq (sets_size _ _ _).symm))⟩, fun _ _ ⟨A5_x, n5_x, c5_x, e, hp⟩ => ⟨A5_x, n5_x, c5_x, e, ((RgsW.setsT hp hbox9 (by decide) (by decide) _ 0).mono (Nat.le_refl _) (Nat.le_of_eq (sets_size _ _ _).symm))⟩, fun _ _ ⟨A5_x, n5_x, c5_x, e, hp⟩ => ⟨A5_x, n5_x, c5_x, e, ((RgsW.setsT hp hbox9 (by decide) (by decide) _ 0).mono (Nat.le_refl _) (Nat.le_of_eq (sets_size _ _ _).symm))⟩, fun _ _ ⟨A5_x, n5_x, c5_x, e, hp⟩ => ⟨A5_x, n5_x, c5_x, e, ((RgsW.setsT hp hbox9 (by decide) (by decide) _ 0).mono (Nat.le_refl _) (Nat.le_of_eq (sets_size _ _ _).symm))⟩, fun _ _ ⟨g, e, hg, x0, x1, x2, x3, x4, hx⟩ => ⟨g, e, hg, x0, x1, x2, x3, x4, (BoxAt.sets_ne _ 0 hx (by first | omega | exact box_neM hx hbox9 (by decide)))⟩, fun _ _ _ => ⟨g9, e9, hg9, _, _, _, _, _, _, _, _, _, _, _, _, hset⟩, fun _ _ ⟨g, A5, n5, c5, e, hg, hx, hp⟩ => ⟨g, A5, n5, c5, e, hg, (BoxAt.sets_ne _ 0 hx (by first | omega | exact box_neM hx hbox9 (by decide))), ((RgsW.setsT hp hbox9 (by decide) (by decide) _ 0).mono (Nat.le_refl _) (Nat.le_of_eq (sets_size _ _ _).symm))⟩, fun h => absurd rfl h, trivial⟩
    · intro L L' W' hLL hC
      obtain ⟨hB, hx, hy, hM0, hz, hw_⟩ := hC
      exact ⟨hB, hx, hy, hM0, hz, hw_⟩
    · intro σ L W' hall hC hRR
      obtain ⟨hB, hx, hy, hM0, hz, hw_⟩ := hC
      obtain ⟨g8, A5, n5, c5, e8, hg10, s10, hp10⟩ := dE hRR 10 rfl
      obtain ⟨g9, e9, hg11, s11⟩ := dE hRR 11 rfl
      have e12 := dV hRR 12 rfl
      clear hRR
      simp only [lexAll]
      go_simp
      go_step
      go_meet
      exact ⟨hB, hx, hy, hz, hw_, hM0, g8, g9, A5, n5, c5, hg10, hg11, s10, s11, hp10, rfl, rfl, rfl⟩
  case rest =>
    clear hB hx hy hz hw_ hM0
    obtain ⟨hB, hx, hy, hz, hw_, hM0, X, Y, A5, n5, c5, hXM, hYM, hX, hY, hG, rfl, rfl, rfl⟩ := hcut
    cases hq2 : q.2.2
    · have HV := Lib.hid (show stepS takeS lateB s (⟨at_, v, r, t, seen, tr, sp, ag, re⟩ : Hd) = (s, (⟨at_, v, r, t, seen, tr, sp, ag, re⟩ : Hd), false) by simp [stepS, HOK.out, HHO.out, HTB.out, HRB.out, HQ.out, hq2])
      go_upto_region 7 with fail
      obtain ⟨M0, hMe⟩ : ∃ M1, M1 = wc.heap.size := ⟨_, rfl⟩
      have hM0 : M0 ≤ wc.heap.size := by omega
      have hM4 : w.heap.size + 4 ≤ M0 := by have := hw_.lt; omega
      clear hMe 
      refine wp_region2v (fun w w' => Below w.heap.size w w') (fun _ _ h => h.size) (fun _ => Below.refl _ _) (fun L W' => Below w.heap.size w W' ∧ BoxAt W' w.heap.size #[.int .i64 s.rd, .int .i64 s.mo, .slice A n cap, .int .i64 s.fi, .int .i64 s.la] 72 ∧ BoxAt W' (w.heap.size + 1) #[.int .i64 at_, .int .i64 v, .int .i64 r, .int .i64 t, .bool seen.s, .int .i64 seen.n, .bool seen.f, .int .i64 seen.v, .int .i64 tr, .int .i64 sp, .bool ag, .int .i64 re] 27 ∧ M0 ≤ W'.heap.size ∧ (∃ x0 x1 x2 x3 x4, BoxAt W' (w.heap.size + 1 + 1) #[x0, x1, x2, x3, x4] 72) ∧ (L 3 = false → BoxAt W' (w.heap.size + 1 + 1) #[.int .i64 0, .int .i64 0, .slice none 0 0, .int .i64 0, .int .i64 0] 72) ∧ (∃ x0 x1 x2 x3 x4 x5 x6 x7 x8 x9 x10 x11, BoxAt W' (w.heap.size + 1 + 1 + 1) #[x0, x1, x2, x3, x4, x5, x6, x7, x8, x9, x10, x11] 27) ∧ (L 4 = false → BoxAt W' (w.heap.size + 1 + 1 + 1) #[.int .i64 0, .int .i64 0, .int .i64 0, .int .i64 0, .bool false, .int .i64 0, .bool false, .int .i64 0, .int .i64 0, .int .i64 0, .bool false, .int .i64 0] 27)) (ts7V s w.heap.size M0 n cap A at_ v r t seen tr sp ag re) (fun j => [0, 0, 0, 1, 1, 0].getD j 0) [] (by kernel_rfl) (by kernel_rfl) ?_ ?_ ?_
        (.still rfl ?a0 <| .grow rfl ?a1 <| .still rfl ?a2 <| .store rfl ?a3 <| .store rfl ?a4 <| .still rfl ?a5 <| .nil) ?_ ?_
      · exact ⟨fun _ _ _ h ⟨A5, n5, c5, e, hp⟩ => ⟨A5, n5, c5, (h 1 (List.mem_singleton.2 rfl)).symm.trans e, hp⟩, fun _ _ _ _ h => h, fun _ _ _ _ h => h, trivial⟩
      · exact ⟨fun σ w w' hb ⟨A5, n5, c5, e, hp⟩ => ⟨A5, n5, c5, e, (hp.below hb (Nat.le_refl _)).mono (Nat.le_refl _) hb.size⟩, fun σ w w' hb ⟨A5, n5, c5, hx, hp⟩ => ⟨A5, n5, c5, hx.below hb hx.lt, (hp.below hb (Nat.le_refl _)).mono (Nat.le_refl _) hb.size⟩, fun σ w w' hb hR => hR.below hb hR.lt, trivial⟩
      · exact ⟨hB.drew, hx, hy, hM0, ⟨_, _, _, _, _, hz⟩, fun _ => hz, ⟨_, _, _, _, _, _, _, _, _, _, _, _, hw_⟩, fun _ => hw_⟩
      case a0 =>
        go_light
        intro L σ W' hcl hL hC hw
        have ks := hC.2.1.cell
        clear hw hcl hL hC
        refine OpGoes.step fun K hK => ?_
        unfold OpGoes
        go_simp
        exact hK _ _ ⟨rfl, rfl⟩
      case a2 =>
        go_light
        intro L σ W' hcl hL hC hw
        have kh := hC.2.2.1.cell
        clear hw hcl hL hC
        refine OpGoes.step fun K hK => ?_
        unfold OpGoes
        go_simp
        exact hK _ _ ⟨rfl, rfl⟩
      case a5 =>
        go_light
        intro L σ W' hcl hL hC hw
        clear hw hcl hL hC
        refine OpGoes.step fun K hK => ?_
        unfold OpGoes
        go_simp
        exact hK _ _ ⟨rfl, rfl⟩
      case a1 =>
        go_light
        intro L σ W' hcl hL hC hw
        have e0 := wV hw 0 rfl
        clear hw
        have HC := Lib.hid hC
        clear hC
        clear hcl hL
        refine OpGoes.step fun K hK => ?_
        unfold OpGoes
        go_simp
        obtain ⟨hB, hx, hy, hM0, ⟨_, _, _, _, _, hz⟩, hz_o, ⟨_, _, _, _, _, _, _, _, _, _, _, _, hw_⟩, hw__o⟩ := HC.out
        refine (HCPY.out _ hB).mono ?_
        rintro e w1 ⟨A5, n5, c5, rfl, hG5, hb1⟩
        exact ⟨_, rfl, hK _ _ ⟨⟨bstep hB hB.size hb1, hx.below hb1 hx.lt, hy.below hb1 hy.lt, Nat.le_trans hM0 hb1.size, ⟨_, _, _, _, _, hz.below hb1 hz.lt⟩, fun h => (hz_o (by simpa [upd] using h)).below hb1 (hz_o (by simpa [upd] using h)).lt, ⟨_, _, _, _, _, _, _, _, _, _, _, _, hw_.below hb1 hw_.lt⟩, fun h => (hw__o (by simpa [upd] using h)).below hb1 (hw__o (by simpa [upd] using h)).lt⟩, ⟨A5, n5, c5, rfl, hG5.mono hM0 (Nat.le_refl _)⟩, hb1⟩⟩
      case a3 =>
        go_light
        intro L σ W' hcl hL hC hw hne
        obtain ⟨A5, n5, c5, e1, hp1⟩ := wE hw 1 rfl
        clear hw hne
        have HC := Lib.hid hC
        obtain ⟨hB, hx, hy, hM0, ⟨_, _, _, _, _, hz⟩, hz_o, ⟨_, _, _, _, _, _, _, _, _, _, _, _, hw_⟩, hw__o⟩ := hC
        clear hcl hL
        have kc_ := hz.cell
        have kf_ := hz.frozen
        clear hB hx hy hM0 hz hz_o hw_ hw__o
        refine OpGoes.step fun K hK => ?_
        unfold OpGoes
        go_simp
        obtain ⟨hB, hx, hy, hM0, ⟨_, _, _, _, _, hz⟩, hz_o, ⟨_, _, _, _, _, _, _, _, _, _, _, _, hw_⟩, hw__o⟩ := HC.out
        have hset := sets_all (us := [.int .i64 s.rd, .int .i64 s.mo, .slice A5 n5 c5, .int .i64 s.fi, .int .i64 s.la]) hz rfl
        refine hK undef (setCells W' (w.heap.size + 1 + 1) 0 [.int .i64 s.rd, .int .i64 s.mo, .slice A5 n5 c5, .int .i64 s.fi, .int .i64 s.la]) ⟨⟨(Below.setCells (by omega) _ 0 hB), (BoxAt.sets_ne _ 0 hx (by omega)), (BoxAt.sets_ne _ 0 hy (by omega)), (size_sts hM0 _ 0), ⟨_, _, _, _, _, hset⟩, fun h => absurd h (by simp [upd]), ⟨_, _, _, _, _, _, _, _, _, _, _, _, (BoxAt.sets_ne _ 0 hw_ (by omega))⟩, fun h => (BoxAt.sets_ne _ 0 (hw__o (by simpa [upd] using h)) (by omega))⟩, ⟨A5, n5, c5, hset, ((RgsW.setsT hp1 hz (by decide) (by decide) _ 0).mono (Nat.le_refl _) (Nat.le_of_eq (sets_size _ _ _).symm))⟩, Nat.le_of_eq (sets_size _ _ _).symm, keepV ?_⟩
        exact ⟨fun _ _ ⟨A5_x, n5_x, c5_x, e, hp⟩ => ⟨A5_x, n5_x, c5_x, e, ((RgsW.setsT hp hz (by decide) (by decide) _ 0).mono (Nat.le_refl _) (Nat.le_of_eq (sets_size _ _ _).symm))⟩, fun h => absurd rfl h, fun _ _ hR => (BoxAt.sets_ne _ 0 hR (by omega)), trivial⟩
      case a4 =>
        go_light
        intro L σ W' hcl hL hC hw hne
        have e2 := wV hw 2 rfl
        clear hw hne
        have HC := Lib.hid hC
        obtain ⟨hB, hx, hy, hM0, ⟨_, _, _, _, _, hz⟩, hz_o, ⟨_, _, _, _, _, _, _, _, _, _, _, _, hw_⟩, hw__o⟩ := hC
        clear hcl hL
        have kc_ := hw_.cell
        have kf_ := hw_.frozen
        clear hB hx hy hM0 hz hz_o hw_ hw__o
        refine OpGoes.step fun K hK => ?_
        unfold OpGoes
        go_simp
        obtain ⟨hB, hx, hy, hM0, ⟨_, _, _, _, _, hz⟩, hz_o, ⟨_, _, _, _, _, _, _, _, _, _, _, _, hw_⟩, hw__o⟩ := HC.out
        have hset := sets_all (us := [.int .i64 at_, .int .i64 v, .int .i64 r, .int .i64 t, .bool seen.s, .int .i64 seen.n, .bool seen.f, .int .i64 seen.v, .int .i64 tr, .int .i64 sp, .bool ag, .int .i64 re]) hw_ rfl
        refine hK undef (setCells W' (w.heap.size + 1 + 1 + 1) 0 [.int .i64 at_, .int .i64 v, .int .i64 r, .int .i64 t, .bool seen.s, .int .i64 seen.n, .bool seen.f, .int .i64 seen.v, .int .i64 tr, .int .i64 sp, .bool ag, .int .i64 re]) ⟨⟨(Below.setCells (by omega) _ 0 hB), (BoxAt.sets_ne _ 0 hx (by omega)), (BoxAt.sets_ne _ 0 hy (by omega)), (size_sts hM0 _ 0), ⟨_, _, _, _, _, (BoxAt.sets_ne _ 0 hz (by omega))⟩, fun h => (BoxAt.sets_ne _ 0 (hz_o (by simpa [upd] using h)) (by omega)), ⟨_, _, _, _, _, _, _, _, _, _, _, _, hset⟩, fun h => absurd h (by simp [upd])⟩, hset, Nat.le_of_eq (sets_size _ _ _).symm, keepV ?_⟩
        exact ⟨fun _ _ ⟨A5_x, n5_x, c5_x, e, hp⟩ => ⟨A5_x, n5_x, c5_x, e, ((RgsW.setsT hp hw_ (by decide) (by decide) _ 0).mono (Nat.le_refl _) (Nat.le_of_eq (sets_size _ _ _).symm))⟩, fun _ _ ⟨A5, n5, c5, hx, hp⟩ => ⟨A5, n5, c5, (BoxAt.sets_ne _ 0 hx (by omega)), ((RgsW.setsT hp hw_ (by decide) (by decide) _ 0).mono (Nat.le_refl _) (Nat.le_of_eq (sets_size _ _ _).symm))⟩, fun h => absurd rfl h, trivial⟩
      · intro L L' W' hLL hC
        obtain ⟨hB, hx, hy, hM0, ⟨_, _, _, _, _, hz⟩, hz_o, ⟨_, _, _, _, _, _, _, _, _, _, _, _, hw_⟩, hw__o⟩ := hC
        exact ⟨hB, hx, hy, hM0, ⟨_, _, _, _, _, hz⟩, fun h => hz_o (hLL _ h), ⟨_, _, _, _, _, _, _, _, _, _, _, _, hw_⟩, fun h => hw__o (hLL _ h)⟩
      · intro σ L W' hall hC hRR
        obtain ⟨hB, hx, hy, hM0, ⟨_, _, _, _, _, hz⟩, hz_o, ⟨_, _, _, _, _, _, _, _, _, _, _, _, hw_⟩, hw__o⟩ := hC
        obtain ⟨A5, n5, c5, s3, hp3⟩ := dE hRR 3 rfl
        have s4 := dE hRR 4 rfl
        have e5 := dV hRR 5 rfl
        clear hRR
        simp only [lexAll]
        go_simp
        go_step
        have k7 := s3.cell
        have k8 := s4.cell
        go_wp2
        refine bodyPost_ret (v := .tuple #[stV s A5 n5 c5, hdV (⟨at_, v, r, t, seen, tr, sp, ag, re⟩ : Hd), .bool false]) (by simp [results, Try.results90, go_sem, k7, k8, stV, hdV]) rfl ⟨A5, n5, c5, by rw [HV.out], ?_, hB⟩
        rw [HV.out]
        exact hp3.mono (by omega) (Nat.le_refl _)
    · have HQ2 := Lib.hid hq2; clear hq2
      have kX := hX.cell
      go_wp2_with fail
      clear kX
      refine (sstoreOk_any q.1 A5 n5 c5 M0 wc.heap.size _ hG (Nat.le_refl _) (by have := hG.1; have := HQN.out.2.1; omega) HQN.out.len).mono ?_
      rintro e w4 ⟨rfl, hb⟩
      replace hX := hX.below hb hX.lt
      replace hY := hY.below hb hY.lt
      replace hG := (hG.below hb (Nat.le_refl _)).mono (Nat.le_refl _) hb.size
      replace hx := hx.below hb hx.lt
      replace hy := hy.below hb hy.lt
      replace hz := hz.below hb hz.lt
      replace hw_ := hw_.below hb hw_.lt
      replace hB := bstep hB hB.size hb
      have h4 := hb.size
      clear hb
      cases hsq : stOk q.1
      · have HV := Lib.hid (show stepS takeS lateB s (⟨at_, v, r, t, seen, tr, sp, ag, re⟩ : Hd) = (s, (⟨at_, v, r, t, seen, tr, sp, ag, re⟩ : Hd), false) by simp [stepS, HOK.out, HHO.out, HTB.out, HRB.out, HQ.out, HQ2.out, hsq])
        go_upto_region 7 with fail
        obtain ⟨M0, hMe⟩ : ∃ M1, M1 = w4.heap.size := ⟨_, rfl⟩
        have hM0 : M0 ≤ w4.heap.size := by omega
        have hM4 : w.heap.size + 4 ≤ M0 := by have := hw_.lt; omega
        clear hMe 
        refine wp_region2v (fun w w' => Below w.heap.size w w') (fun _ _ h => h.size) (fun _ => Below.refl _ _) (fun L W' => Below w.heap.size w W' ∧ BoxAt W' w.heap.size #[.int .i64 s.rd, .int .i64 s.mo, .slice A n cap, .int .i64 s.fi, .int .i64 s.la] 72 ∧ BoxAt W' (w.heap.size + 1) #[.int .i64 at_, .int .i64 v, .int .i64 r, .int .i64 t, .bool seen.s, .int .i64 seen.n, .bool seen.f, .int .i64 seen.v, .int .i64 tr, .int .i64 sp, .bool ag, .int .i64 re] 27 ∧ M0 ≤ W'.heap.size ∧ (∃ x0 x1 x2 x3 x4, BoxAt W' (w.heap.size + 1 + 1) #[x0, x1, x2, x3, x4] 72) ∧ (L 3 = false → BoxAt W' (w.heap.size + 1 + 1) #[.int .i64 0, .int .i64 0, .slice none 0 0, .int .i64 0, .int .i64 0] 72) ∧ (∃ x0 x1 x2 x3 x4 x5 x6 x7 x8 x9 x10 x11, BoxAt W' (w.heap.size + 1 + 1 + 1) #[x0, x1, x2, x3, x4, x5, x6, x7, x8, x9, x10, x11] 27) ∧ (L 4 = false → BoxAt W' (w.heap.size + 1 + 1 + 1) #[.int .i64 0, .int .i64 0, .int .i64 0, .int .i64 0, .bool false, .int .i64 0, .bool false, .int .i64 0, .int .i64 0, .int .i64 0, .bool false, .int .i64 0] 27)) (ts7V s w.heap.size M0 n cap A at_ v r t seen tr sp ag re) (fun j => [0, 0, 0, 1, 1, 0].getD j 0) [] (by kernel_rfl) (by kernel_rfl) ?_ ?_ ?_
          (.still rfl ?a0 <| .grow rfl ?a1 <| .still rfl ?a2 <| .store rfl ?a3 <| .store rfl ?a4 <| .still rfl ?a5 <| .nil) ?_ ?_
        · exact ⟨fun _ _ _ h ⟨A5, n5, c5, e, hp⟩ => ⟨A5, n5, c5, (h 1 (List.mem_singleton.2 rfl)).symm.trans e, hp⟩, fun _ _ _ _ h => h, fun _ _ _ _ h => h, trivial⟩
        · exact ⟨fun σ w w' hb ⟨A5, n5, c5, e, hp⟩ => ⟨A5, n5, c5, e, (hp.below hb (Nat.le_refl _)).mono (Nat.le_refl _) hb.size⟩, fun σ w w' hb ⟨A5, n5, c5, hx, hp⟩ => ⟨A5, n5, c5, hx.below hb hx.lt, (hp.below hb (Nat.le_refl _)).mono (Nat.le_refl _) hb.size⟩, fun σ w w' hb hR => hR.below hb hR.lt, trivial⟩
        · exact ⟨hB.drew, hx, hy, hM0, ⟨_, _, _, _, _, hz⟩, fun _ => hz, ⟨_, _, _, _, _, _, _, _, _, _, _, _, hw_⟩, fun _ => hw_⟩
        case a0 =>
          go_light
          intro L σ W' hcl hL hC hw
          have ks := hC.2.1.cell
          clear hw hcl hL hC
          refine OpGoes.step fun K hK => ?_
          unfold OpGoes
          go_simp
          exact hK _ _ ⟨rfl, rfl⟩
        case a2 =>
          go_light
          intro L σ W' hcl hL hC hw
          have kh := hC.2.2.1.cell
          clear hw hcl hL hC
          refine OpGoes.step fun K hK => ?_
          unfold OpGoes
          go_simp
          exact hK _ _ ⟨rfl, rfl⟩
        case a5 =>
          go_light
          intro L σ W' hcl hL hC hw
          clear hw hcl hL hC
          refine OpGoes.step fun K hK => ?_
          unfold OpGoes
          go_simp
          exact hK _ _ ⟨rfl, rfl⟩
        case a1 =>
          go_light
          intro L σ W' hcl hL hC hw
          have e0 := wV hw 0 rfl
          clear hw
          have HC := Lib.hid hC
          clear hC
          clear hcl hL
          refine OpGoes.step fun K hK => ?_
          unfold OpGoes
          go_simp
          obtain ⟨hB, hx, hy, hM0, ⟨_, _, _, _, _, hz⟩, hz_o, ⟨_, _, _, _, _, _, _, _, _, _, _, _, hw_⟩, hw__o⟩ := HC.out
          refine (HCPY.out _ hB).mono ?_
          rintro e w1 ⟨A5, n5, c5, rfl, hG5, hb1⟩
          exact ⟨_, rfl, hK _ _ ⟨⟨bstep hB hB.size hb1, hx.below hb1 hx.lt, hy.below hb1 hy.lt, Nat.le_trans hM0 hb1.size, ⟨_, _, _, _, _, hz.below hb1 hz.lt⟩, fun h => (hz_o (by simpa [upd] using h)).below hb1 (hz_o (by simpa [upd] using h)).lt, ⟨_, _, _, _, _, _, _, _, _, _, _, _, hw_.below hb1 hw_.lt⟩, fun h => (hw__o (by simpa [upd] using h)).below hb1 (hw__o (by simpa [upd] using h)).lt⟩, ⟨A5, n5, c5, rfl, hG5.mono hM0 (Nat.le_refl _)⟩, hb1⟩⟩
        case a3 =>
          go_light
          intro L σ W' hcl hL hC hw hne
          obtain ⟨A5, n5, c5, e1, hp1⟩ := wE hw 1 rfl
          clear hw hne
          have HC := Lib.hid hC
          obtain ⟨hB, hx, hy, hM0, ⟨_, _, _, _, _, hz⟩, hz_o, ⟨_, _, _, _, _, _, _, _, _, _, _, _, hw_⟩, hw__o⟩ := hC
          clear hcl hL
          have kc_ := hz.cell
          have kf_ := hz.frozen
          clear hB hx hy hM0 hz hz_o hw_ hw__o
          refine OpGoes.step fun K hK => ?_
          unfold OpGoes
          go_simp
          obtain ⟨hB, hx, hy, hM0, ⟨_, _, _, _, _, hz⟩, hz_o, ⟨_, _, _, _, _, _, _, _, _, _, _, _, hw_⟩, hw__o⟩ := HC.out
          have hset := sets_all (us := [.int .i64 s.rd, .int .i64 s.mo, .slice A5 n5 c5, .int .i64 s.fi, .int .i64 s.la]) hz rfl
          refine hK undef (setCells W' (w.heap.size + 1 + 1) 0 [.int .i64 s.rd, .int .i64 s.mo, .slice A5 n5 c5, .int .i64 s.fi, .int .i64 s.la]) ⟨⟨(Below.setCells (by omega) _ 0 hB), (BoxAt.sets_ne _ 0 hx (by omega)), (BoxAt.sets_ne _ 0 hy (by omega)), (size_sts hM0 _ 0), ⟨_, _, _, _, _, hset⟩, fun h => absurd h (by simp [upd]), ⟨_, _, _, _, _, _, _, _, _, _, _, _, (BoxAt.sets_ne _ 0 hw_ (by omega))⟩, fun h => (BoxAt.sets_ne _ 0 (hw__o (by simpa [upd] using h)) (by omega))⟩, ⟨A5, n5, c5, hset, ((RgsW.setsT hp1 hz (by decide) (by decide) _ 0).mono (Nat.le_refl _) (Nat.le_of_eq (sets_size _ _ _).symm))⟩, Nat.le_of_eq (sets_size _ _ _).symm, keepV ?_⟩
          exact ⟨fun _ _ ⟨A5_x, n5_x, c5_x, e, hp⟩ => ⟨A5_x, n5_x, c5_x, e, ((RgsW.setsT hp hz (by decide) (by decide) _ 0).mono (Nat.le_refl _) (Nat.le_of_eq (sets_size _ _ _).symm))⟩, fun h => absurd rfl h, fun _ _ hR => (BoxAt.sets_ne _ 0 hR (by omega)), trivial⟩
        case a4 =>
          go_light
          intro L σ W' hcl hL hC hw hne
          have e2 := wV hw 2 rfl
          clear hw hne
          have HC := Lib.hid hC
          obtain ⟨hB, hx, hy, hM0, ⟨_, _, _, _, _, hz⟩, hz_o, ⟨_, _, _, _, _, _, _, _, _, _, _, _, hw_⟩, hw__o⟩ := hC
          clear hcl hL
          have kc_ := hw_.cell
          have kf_ := hw_.frozen
          clear hB hx hy hM0 hz hz_o hw_ hw__o
          refine OpGoes.step fun K hK => ?_
          unfold OpGoes
          go_simp
          obtain ⟨hB, hx, hy, hM0, ⟨_, _, _, _, _, hz⟩, hz_o, ⟨_, _, _, _, _, _, _, _, _, _, _, _, hw_⟩, hw__o⟩ := HC.out
          have hset := sets_all (us := [.int .i64 at_, .int .i64 v, .int .i64 r, .int .i64 t, .bool seen.s, .int .i64 seen.n, .bool seen.f, .int .i64 seen.v, .int .i64 tr, .int .i64 sp, .bool ag, .int .i64 re]) hw_ rfl
          refine hK undef (setCells W' (w.heap.size + 1 + 1 + 1) 0 [.int .i64 at_, .int .i64 v, .int .i64 r, .int .i64 t, .bool seen.s, .int .i64 seen.n, .bool seen.f, .int .i64 seen.v, .int .i64 tr, .int .i64 sp, .bool ag, .int .i64 re]) ⟨⟨(Below.setCells (by omega) _ 0 hB), (BoxAt.sets_ne _ 0 hx (by omega)), (BoxAt.sets_ne _ 0 hy (by omega)), (size_sts hM0 _ 0), ⟨_, _, _, _, _, (BoxAt.sets_ne _ 0 hz (by omega))⟩, fun h => (BoxAt.sets_ne _ 0 (hz_o (by simpa [upd] using h)) (by omega)), ⟨_, _, _, _, _, _, _, _, _, _, _, _, hset⟩, fun h => absurd h (by simp [upd])⟩, hset, Nat.le_of_eq (sets_size _ _ _).symm, keepV ?_⟩
          exact ⟨fun _ _ ⟨A5_x, n5_x, c5_x, e, hp⟩ => ⟨A5_x, n5_x, c5_x, e, ((RgsW.setsT hp hw_ (by decide) (by decide) _ 0).mono (Nat.le_refl _) (Nat.le_of_eq (sets_size _ _ _).symm))⟩, fun _ _ ⟨A5, n5, c5, hx, hp⟩ => ⟨A5, n5, c5, (BoxAt.sets_ne _ 0 hx (by omega)), ((RgsW.setsT hp hw_ (by decide) (by decide) _ 0).mono (Nat.le_refl _) (Nat.le_of_eq (sets_size _ _ _).symm))⟩, fun h => absurd rfl h, trivial⟩
        · intro L L' W' hLL hC
          obtain ⟨hB, hx, hy, hM0, ⟨_, _, _, _, _, hz⟩, hz_o, ⟨_, _, _, _, _, _, _, _, _, _, _, _, hw_⟩, hw__o⟩ := hC
          exact ⟨hB, hx, hy, hM0, ⟨_, _, _, _, _, hz⟩, fun h => hz_o (hLL _ h), ⟨_, _, _, _, _, _, _, _, _, _, _, _, hw_⟩, fun h => hw__o (hLL _ h)⟩
        · intro σ L W' hall hC hRR
          obtain ⟨hB, hx, hy, hM0, ⟨_, _, _, _, _, hz⟩, hz_o, ⟨_, _, _, _, _, _, _, _, _, _, _, _, hw_⟩, hw__o⟩ := hC
          obtain ⟨A5, n5, c5, s3, hp3⟩ := dE hRR 3 rfl
          have s4 := dE hRR 4 rfl
          have e5 := dV hRR 5 rfl
          clear hRR
          simp only [lexAll]
          go_simp
          go_step
          have k7 := s3.cell
          have k8 := s4.cell
          go_wp2
          refine bodyPost_ret (v := .tuple #[stV s A5 n5 c5, hdV (⟨at_, v, r, t, seen, tr, sp, ag, re⟩ : Hd), .bool false]) (by simp [results, Try.results90, go_sem, k7, k8, stV, hdV]) rfl ⟨A5, n5, c5, by rw [HV.out], ?_, hB⟩
          rw [HV.out]
          exact hp3.mono (by omega) (Nat.le_refl _)
      · have HSQ := Lib.hid hsq; clear hsq
        go_upto_region 8 with fail
        clear HCPY HTK
        have HV := Lib.hid (show stepS takeS lateB s (⟨at_, v, r, t, seen, tr, sp, ag, re⟩ : Hd) = (q.1, q.2.1, true) by simp [stepS, HOK.out, HHO.out, HTB.out, HRB.out, HQ.out, HQ2.out, HSQ.out])
        refine ts8_wp w q.1 M0 w4.heap.size A5 n5 c5 q.2.1 X Y (by kernel_rfl) (by omega) (by omega) ⟨hB, hX, hY, hz, hw_, hG, Nat.le_refl _⟩ ?_
        clear hB hX hY hx hy hz hw_ hG
        generalize hq2 : q.2.1 = h2 at *
        clear hq2
        intro _ _ W' hB k7 k8 hG _
        replace k7 := k7.cell
        replace k8 := k8.cell
        go_step
        go_wp2
        refine bodyPost_ret (v := .tuple #[stV q.1 A5 n5 c5, hdV h2, .bool true]) (by simp [results, Try.results90, go_sem, k7, k8, stV, hdV, Hd.rest, Hd.zero]) rfl ⟨A5, n5, c5, by rw [HV.out], ?_, hB⟩
        rw [HV.out]
        exact hG.cut.mono (by omega) (Nat.le_refl _)

def ps4V (s : St) (N M0 n cap : Nat) (A : Option Addr) (at_ v r t : Int) (seen : Pl) (tr sp : Int) (ag : Bool) (re : Int) : List Sl := [.v (.agg #[.int .i64 s.rd, .int .i64 s.mo, .slice A n cap, .int .i64 s.fi, .int .i64 s.la]),
  .e fun σ w => ∃ (A5 : Option Addr) (n5 c5 : Nat), σ 1 = .agg #[.int .i64 s.rd, .int .i64 s.mo, .slice A5 n5 c5, .int .i64 s.fi, .int .i64 s.la] ∧ RgsW M0 w.heap.size w A5 n5 c5 s.rs,
  .v (.agg #[.int .i64 at_, .int .i64 v, .int .i64 r, .int .i64 t, .bool seen.s, .int .i64 seen.n, .bool seen.f, .int .i64 seen.v, .int .i64 tr, .int .i64 sp, .bool ag, .int .i64 re]),
  .e fun σ w => ∃ (A5 : Option Addr) (n5 c5 : Nat), BoxAt w (N + 1 + 1) #[.int .i64 s.rd, .int .i64 s.mo, .slice A5 n5 c5, .int .i64 s.fi, .int .i64 s.la] 72 ∧ RgsW M0 w.heap.size w A5 n5 c5 s.rs,
  .e fun σ w => BoxAt w (N + 1 + 1 + 1) #[.int .i64 at_, .int .i64 v, .int .i64 r, .int .i64 t, .bool seen.s, .int .i64 seen.n, .bool seen.f, .int .i64 seen.v, .int .i64 tr, .int .i64 sp, .bool ag, .int .i64 re] 27,
  .v (.bool false)]

def ps7V (s : St) (N M0 n cap : Nat) (A : Option Addr) (at_ v r t : Int) (seen : Pl) (tr sp : Int) (ag : Bool) (re : Int) : List Sl := [.v (.agg #[.int .i64 s.rd, .int .i64 s.mo, .slice A n cap, .int .i64 s.fi, .int .i64 s.la]),
  .e fun σ w => ∃ (A5 : Option Addr) (n5 c5 : Nat), σ 1 = .agg #[.int .i64 s.rd, .int .i64 s.mo, .slice A5 n5 c5, .int .i64 s.fi, .int .i64 s.la] ∧ RgsW M0 w.heap.size w A5 n5 c5 s.rs,
  .v (.agg #[.int .i64 at_, .int .i64 v, .int .i64 r, .int .i64 t, .bool seen.s, .int .i64 seen.n, .bool seen.f, .int .i64 seen.v, .int .i64 tr, .int .i64 sp, .bool ag, .int .i64 re]),
  .e fun σ w => ∃ (A5 : Option Addr) (n5 c5 : Nat), BoxAt w (N + 1 + 1) #[.int .i64 s.rd, .int .i64 s.mo, .slice A5 n5 c5, .int .i64 s.fi, .int .i64 s.la] 72 ∧ RgsW M0 w.heap.size w A5 n5 c5 s.rs,
  .e fun σ w => BoxAt w (N + 1 + 1 + 1) #[.int .i64 at_, .int .i64 v, .int .i64 r, .int .i64 t, .bool seen.s, .int .i64 seen.n, .bool seen.f, .int .i64 seen.v, .int .i64 tr, .int .i64 sp, .bool ag, .int .i64 re] 27,
  .v (.bool false)]

def ps5V (s : St) (N M0 n cap : Nat) (A : Option Addr) (at_ v r t : Int) (seen : Pl) (tr sp : Int) (ag : Bool) (re : Int) (q : St × Hd × Bool) : List Sl := [.v (.agg #[.int .i64 s.rd, .int .i64 s.mo, .slice A n cap, .int .i64 s.fi, .int .i64 s.la]),
  .e fun σ w => ∃ (A1 : Option Addr) (n1 c1 : Nat), σ 1 = .agg #[.int .i64 s.rd, .int .i64 s.mo, .slice A1 n1 c1, .int .i64 s.fi, .int .i64 s.la] ∧ RgsW M0 w.heap.size w A1 n1 c1 s.rs,
  .v (.agg #[.int .i64 at_, .int .i64 v, .int .i64 r, .int .i64 t, .bool seen.s, .int .i64 seen.n, .bool seen.f, .int .i64 seen.v, .int .i64 tr, .int .i64 sp, .bool ag, .int .i64 re]),
  .e fun σ w => ∃ (A5 : Option Addr) (n5 c5 : Nat), σ 3 = .tuple #[.agg #[.int .i64 q.1.rd, .int .i64 q.1.mo, .slice A5 n5 c5, .int .i64 q.1.fi, .int .i64 q.1.la], .agg #[.int .i64 q.2.1.at_, .int .i64 q.2.1.v, .int .i64 q.2.1.r, .int .i64 q.2.1.t, .bool q.2.1.seen.s, .int .i64 q.2.1.seen.n, .bool q.2.1.seen.f, .int .i64 q.2.1.seen.v, .int .i64 q.2.1.tr, .int .i64 q.2.1.sp, .bool q.2.1.ag, .int .i64 q.2.1.re], .bool q.2.2] ∧ RgsW M0 w.heap.size w A5 n5 c5 q.1.rs,
  .e fun σ w => ∃ (A5 : Option Addr) (n5 c5 : Nat), σ 4 = .tuple #[.agg #[.int .i64 q.1.rd, .int .i64 q.1.mo, .slice A5 n5 c5, .int .i64 q.1.fi, .int .i64 q.1.la], .agg #[.int .i64 q.2.1.at_, .int .i64 q.2.1.v, .int .i64 q.2.1.r, .int .i64 q.2.1.t, .bool q.2.1.seen.s, .int .i64 q.2.1.seen.n, .bool q.2.1.seen.f, .int .i64 q.2.1.seen.v, .int .i64 q.2.1.tr, .int .i64 q.2.1.sp, .bool q.2.1.ag, .int .i64 q.2.1.re], .bool q.2.2] ∧ RgsW M0 w.heap.size w A5 n5 c5 q.1.rs,
  .e fun σ w => ∃ (A5 : Option Addr) (n5 c5 : Nat), σ 5 = .agg #[.int .i64 q.1.rd, .int .i64 q.1.mo, .slice A5 n5 c5, .int .i64 q.1.fi, .int .i64 q.1.la] ∧ RgsW M0 w.heap.size w A5 n5 c5 q.1.rs,
  .v (.agg #[.int .i64 q.2.1.at_, .int .i64 q.2.1.v, .int .i64 q.2.1.r, .int .i64 q.2.1.t, .bool q.2.1.seen.s, .int .i64 q.2.1.seen.n, .bool q.2.1.seen.f, .int .i64 q.2.1.seen.v, .int .i64 q.2.1.tr, .int .i64 q.2.1.sp, .bool q.2.1.ag, .int .i64 q.2.1.re]),
  .v (.bool q.2.2),
  .e fun σ w => ∃ g8, σ 8 = .pointer (some ⟨g8, 0, none⟩) ∧ M0 ≤ g8 ∧ ∃ x0 x1 x2 x3 x4, BoxAt w g8 #[x0, x1, x2, x3, x4] 72,
  .e fun σ w => ∃ g9, σ 9 = .pointer (some ⟨g9, 0, none⟩) ∧ M0 ≤ g9 ∧ ∃ x0 x1 x2 x3 x4 x5 x6 x7 x8 x9 x10 x11, BoxAt w g9 #[x0, x1, x2, x3, x4, x5, x6, x7, x8, x9, x10, x11] 27,
  .e fun σ w => ∃ (g8 : Nat) (A5 : Option Addr) (n5 c5 : Nat), σ 8 = .pointer (some ⟨g8, 0, none⟩) ∧ M0 ≤ g8 ∧ BoxAt w g8 #[.int .i64 q.1.rd, .int .i64 q.1.mo, .slice A5 n5 c5, .int .i64 q.1.fi, .int .i64 q.1.la] 72 ∧ RgsW M0 w.heap.size w A5 n5 c5 q.1.rs,
  .e fun σ w => ∃ g9, σ 9 = .pointer (some ⟨g9, 0, none⟩) ∧ M0 ≤ g9 ∧ BoxAt w g9 #[.int .i64 q.2.1.at_, .int .i64 q.2.1.v, .int .i64 q.2.1.r, .int .i64 q.2.1.t, .bool q.2.1.seen.s, .int .i64 q.2.1.seen.n, .bool q.2.1.seen.f, .int .i64 q.2.1.seen.v, .int .i64 q.2.1.tr, .int .i64 q.2.1.sp, .bool q.2.1.ag, .int .i64 q.2.1.re] 27,
  .v (.bool q.2.2)]

def ps8V (s2 : St) (N X Y n2 c2 : Nat) (A2 : Option Addr) (h2 : Hd) : List Sl := [.v (.agg #[.int .i64 s2.rd, .int .i64 s2.mo, .slice A2 n2 c2, .int .i64 s2.fi, .int .i64 s2.la]),
  .v (.agg #[.int .i64 h2.at_, .int .i64 h2.v, .int .i64 h2.r, .int .i64 h2.t, .bool h2.seen.s, .int .i64 h2.seen.n, .bool h2.seen.f, .int .i64 h2.seen.v, .int .i64 h2.tr, .int .i64 h2.sp, .bool h2.ag, .int .i64 h2.re]),
  .e fun σ w => BoxAt w (N + 1 + 1) #[.int .i64 s2.rd, .int .i64 s2.mo, .slice A2 n2 c2, .int .i64 s2.fi, .int .i64 s2.la] 72,
  .e fun σ w => BoxAt w (N + 1 + 1 + 1) #[.int .i64 h2.at_, .int .i64 h2.v, .int .i64 h2.r, .int .i64 h2.t, .bool h2.seen.s, .int .i64 h2.seen.n, .bool h2.seen.f, .int .i64 h2.seen.v, .int .i64 h2.tr, .int .i64 h2.sp, .bool h2.ag, .int .i64 h2.re] 27,
  .v (.bool true)]

set_option maxRecDepth 100000 in
set_option maxHeartbeats 4000000 in
theorem ps8_wp {Q : Exit → Act → World → Prop} {l : List Oper} (w : World) (s2 : St) (lo2 hi2 : Nat) (A2 : Option Addr) (n2 c2 : Nat) (h2 : Hd) (X Y : Nat) {W : World} {x0 x1 x2 x3 x6 x9 x10 x11 x12 x13 x14 x15 x16 x17 x18 x19 x20 x21 x22 x23 x24 x25 x26 x27 x28 x29 x30 x31 x32 x33 x34 x35 x36 x37 x38 x39 x40 x41 x42 x43 x44 x45 x46 x47 x48 x49 x50 x51 x52 x53 : Value} (hl : l = opsAt Try.f89 8) (hd : (w.heap.size + 2 < lo2 ∨ hi2 ≤ w.heap.size + 2) ∧ (w.heap.size + 3 < lo2 ∨ hi2 ≤ w.heap.size + 3)) (hXY : X ≠ w.heap.size + 2 ∧ X ≠ w.heap.size + 3 ∧ Y ≠ w.heap.size + 2 ∧ Y ≠ w.heap.size + 3)
    (hI : Below w.heap.size w W ∧ BoxAt W X #[.int .i64 s2.rd, .int .i64 s2.mo, .slice A2 n2 c2, .int .i64 s2.fi, .int .i64 s2.la] 72 ∧ BoxAt W Y #[.int .i64 h2.at_, .int .i64 h2.v, .int .i64 h2.r, .int .i64 h2.t, .bool h2.seen.s, .int .i64 h2.seen.n, .bool h2.seen.f, .int .i64 h2.seen.v, .int .i64 h2.tr, .int .i64 h2.sp, .bool h2.ag, .int .i64 h2.re] 27 ∧ BoxAt W (w.heap.size + 1 + 1) #[.int .i64 0, .int .i64 0, .slice none 0 0, .int .i64 0, .int .i64 0] 72 ∧ BoxAt W (w.heap.size + 1 + 1 + 1) #[.int .i64 0, .int .i64 0, .int .i64 0, .int .i64 0, .bool false, .int .i64 0, .bool false, .int .i64 0, .int .i64 0, .int .i64 0, .bool false, .int .i64 0] 27 ∧ RgsW lo2 hi2 W A2 n2 c2 s2.rs ∧ hi2 ≤ W.heap.size)
    (hQ : ∀ (y52 y53 : Value) (W' : World), Below w.heap.size w W' → BoxAt W' (w.heap.size + 1 + 1) #[.int .i64 s2.rd, .int .i64 s2.mo, .slice A2 n2 c2, .int .i64 s2.fi, .int .i64 s2.la] 72 → BoxAt W' (w.heap.size + 1 + 1 + 1) #[.int .i64 h2.at_, .int .i64 h2.v, .int .i64 h2.r, .int .i64 h2.t, .bool h2.seen.s, .int .i64 h2.seen.n, .bool h2.seen.f, .int .i64 h2.seen.v, .int .i64 h2.tr, .int .i64 h2.sp, .bool h2.ag, .int .i64 h2.re] 27 → RgsW lo2 hi2 W' A2 n2 c2 s2.rs → hi2 ≤ W'.heap.size → Q .normal ⟨#[x0, x1, x2, x3, .pointer (some ⟨w.heap.size + 1 + 1, 0, none⟩), .pointer (some ⟨w.heap.size + 1 + 1 + 1, 0, none⟩), .bool true, .pointer (some ⟨X, 0, none⟩), .pointer (some ⟨Y, 0, none⟩), x9, x10, x11, x12, x13, x14, x15, x16, x17, x18, x19, x20, x21, x22, x23, x24, x25, x26, x27, x28, x29, x30, x31, x32, x33, x34, x35, x36, x37, x38, x39, x40, x41, x42, x43, x44, x45, x46, x47, x48, x49, x50, x51, y52, y53], []⟩ W') :
    (Code.region 8 l.toArray true).wp Try.prog Q ⟨#[x0, x1, x2, x3, .pointer (some ⟨w.heap.size + 1 + 1, 0, none⟩), .pointer (some ⟨w.heap.size + 1 + 1 + 1, 0, none⟩), x6, .pointer (some ⟨X, 0, none⟩), .pointer (some ⟨Y, 0, none⟩), x9, x10, x11, x12, x13, x14, x15, x16, x17, x18, x19, x20, x21, x22, x23, x24, x25, x26, x27, x28, x29, x30, x31, x32, x33, x34, x35, x36, x37, x38, x39, x40, x41, x42, x43, x44, x45, x46, x47, x48, x49, x50, x51, x52, x53], []⟩ W := by
  have hl' : l = [_, _, _, _, _] := hl
  subst hl'
  clear hl
  obtain ⟨hB, hx, hy, hz, hw_, hG, hhi⟩ := hI
  have lw := hw_.lt
  obtain ⟨M, hMe⟩ : ∃ M, M = W.heap.size := ⟨_, rfl⟩
  have hM : M ≤ W.heap.size := by omega
  have hhi2 : hi2 ≤ M := by omega
  clear hMe
  refine wp_region2v (fun w w' => Below w.heap.size w w') (fun _ _ h => h.size) (fun _ => Below.refl _ _) (fun L W' => Below w.heap.size w W' ∧ BoxAt W' X #[.int .i64 s2.rd, .int .i64 s2.mo, .slice A2 n2 c2, .int .i64 s2.fi, .int .i64 s2.la] 72 ∧ BoxAt W' Y #[.int .i64 h2.at_, .int .i64 h2.v, .int .i64 h2.r, .int .i64 h2.t, .bool h2.seen.s, .int .i64 h2.seen.n, .bool h2.seen.f, .int .i64 h2.seen.v, .int .i64 h2.tr, .int .i64 h2.sp, .bool h2.ag, .int .i64 h2.re] 27 ∧ RgsW lo2 hi2 W' A2 n2 c2 s2.rs ∧ M ≤ W'.heap.size ∧ (∃ x0 x1 x2 x3 x4, BoxAt W' (w.heap.size + 1 + 1) #[x0, x1, x2, x3, x4] 72) ∧ (L 2 = false → BoxAt W' (w.heap.size + 1 + 1) #[.int .i64 0, .int .i64 0, .slice none 0 0, .int .i64 0, .int .i64 0] 72) ∧ (∃ x0 x1 x2 x3 x4 x5 x6 x7 x8 x9 x10 x11, BoxAt W' (w.heap.size + 1 + 1 + 1) #[x0, x1, x2, x3, x4, x5, x6, x7, x8, x9, x10, x11] 27) ∧ (L 3 = false → BoxAt W' (w.heap.size + 1 + 1 + 1) #[.int .i64 0, .int .i64 0, .int .i64 0, .int .i64 0, .bool false, .int .i64 0, .bool false, .int .i64 0, .int .i64 0, .int .i64 0, .bool false, .int .i64 0] 27)) (ps8V s2 w.heap.size X Y n2 c2 A2 h2) (fun j => [0, 0, 1, 1, 0].getD j 0) [] (by kernel_rfl) (by kernel_rfl) ?_ ?_ ?_
    (.still rfl ?a0 <| .still rfl ?a1 <| .store rfl ?a2 <| .store rfl ?a3 <| .still rfl ?a4 <| .nil) ?_ ?_
  · exact ⟨fun _ _ _ _ h => h, fun _ _ _ _ h => h, trivial⟩
  · exact ⟨fun σ w w' hb hR => hR.below hb hR.lt, fun σ w w' hb hR => hR.below hb hR.lt, trivial⟩
  · exact ⟨hB.drew, hx, hy, hG, hM, ⟨_, _, _, _, _, hz⟩, fun _ => hz, ⟨_, _, _, _, _, _, _, _, _, _, _, _, hw_⟩, fun _ => hw_⟩
  case a0 =>
    go_light
    intro L σ W' hcl hL hC hw
    have ks := hC.2.1.cell
    clear hw hcl hL hC
    refine OpGoes.step fun K hK => ?_
    unfold OpGoes
    go_simp
    exact hK _ _ ⟨rfl, rfl⟩
  case a1 =>
    go_light
    intro L σ W' hcl hL hC hw
    have kh := hC.2.2.1.cell
    clear hw hcl hL hC
    refine OpGoes.step fun K hK => ?_
    unfold OpGoes
    go_simp
    exact hK _ _ ⟨rfl, rfl⟩
  case a4 =>
    go_light
    intro L σ W' hcl hL hC hw
    clear hw hcl hL hC
    refine OpGoes.step fun K hK => ?_
    unfold OpGoes
    go_simp
    exact hK _ _ ⟨rfl, rfl⟩
  case a2 =>
    go_light
    intro L σ W' hcl hL hC hw hne
    have e0 := wV hw 0 rfl
    clear hw hne
    have HC := Lib.hid hC
    obtain ⟨hB, hx, hy, hG, hM, ⟨_, _, _, _, _, hz⟩, hz_o, ⟨_, _, _, _, _, _, _, _, _, _, _, _, hw_⟩, hw__o⟩ := hC
    clear hcl hL
    have kc_ := hz.cell
    have kf_ := hz.frozen
    clear hB hx hy hG hM hz hz_o hw_ hw__o
    refine OpGoes.step fun K hK => ?_
    unfold OpGoes
    go_simp
    obtain ⟨hB, hx, hy, hG, hM, ⟨_, _, _, _, _, hz⟩, hz_o, ⟨_, _, _, _, _, _, _, _, _, _, _, _, hw_⟩, hw__o⟩ := HC.out
    have hset := sets_all (us := [.int .i64 s2.rd, .int .i64 s2.mo, .slice A2 n2 c2, .int .i64 s2.fi, .int .i64 s2.la]) hz rfl
    refine hK undef (setCells W' (w.heap.size + 1 + 1) 0 [.int .i64 s2.rd, .int .i64 s2.mo, .slice A2 n2 c2, .int .i64 s2.fi, .int .i64 s2.la]) ⟨⟨(Below.setCells (by omega) _ 0 hB), (BoxAt.sets_ne _ 0 hx (by omega)), (BoxAt.sets_ne _ 0 hy (by omega)), (RgsW.sts hG (by omega) _ 0), (size_sts hM _ 0), ⟨_, _, _, _, _, hset⟩, fun h => absurd h (by simp [upd]), ⟨_, _, _, _, _, _, _, _, _, _, _, _, (BoxAt.sets_ne _ 0 hw_ (by omega))⟩, fun h => (BoxAt.sets_ne _ 0 (hw__o (by simpa [upd] using h)) (by omega))⟩, hset, Nat.le_of_eq (sets_size _ _ _).symm, keepV ?_⟩
    exact ⟨fun h => absurd rfl h, fun _ _ hR => (BoxAt.sets_ne _ 0 hR (by omega)), trivial⟩
  case a3 =>
    go_light
    intro L σ W' hcl hL hC hw hne
    have e1 := wV hw 1 rfl
    clear hw hne
    have HC := Lib.hid hC
    obtain ⟨hB, hx, hy, hG, hM, ⟨_, _, _, _, _, hz⟩, hz_o, ⟨_, _, _, _, _, _, _, _, _, _, _, _, hw_⟩, hw__o⟩ := hC
    clear hcl hL
    have kc_ := hw_.cell
    have kf_ := hw_.frozen
    clear hB hx hy hG hM hz hz_o hw_ hw__o
    refine OpGoes.step fun K hK => ?_
    unfold OpGoes
    go_simp
    obtain ⟨hB, hx, hy, hG, hM, ⟨_, _, _, _, _, hz⟩, hz_o, ⟨_, _, _, _, _, _, _, _, _, _, _, _, hw_⟩, hw__o⟩ := HC.out
    have hset := sets_all (us := [.int .i64 h2.at_, .int .i64 h2.v, .int .i64 h2.r, .int .i64 h2.t, .bool h2.seen.s, .int .i64 h2.seen.n, .bool h2.seen.f, .int .i64 h2.seen.v, .int .i64 h2.tr, .int .i64 h2.sp, .bool h2.ag, .int .i64 h2.re]) hw_ rfl
    refine hK undef (setCells W' (w.heap.size + 1 + 1 + 1) 0 [.int .i64 h2.at_, .int .i64 h2.v, .int .i64 h2.r, .int .i64 h2.t, .bool h2.seen.s, .int .i64 h2.seen.n, .bool h2.seen.f, .int .i64 h2.seen.v, .int .i64 h2.tr, .int .i64 h2.sp, .bool h2.ag, .int .i64 h2.re]) ⟨⟨(Below.setCells (by omega) _ 0 hB), (BoxAt.sets_ne _ 0 hx (by omega)), (BoxAt.sets_ne _ 0 hy (by omega)), (RgsW.sts hG (by omega) _ 0), (size_sts hM _ 0), ⟨_, _, _, _, _, (BoxAt.sets_ne _ 0 hz (by omega))⟩, fun h => (BoxAt.sets_ne _ 0 (hz_o (by simpa [upd] using h)) (by omega)), ⟨_, _, _, _, _, _, _, _, _, _, _, _, hset⟩, fun h => absurd h (by simp [upd])⟩, hset, Nat.le_of_eq (sets_size _ _ _).symm, keepV ?_⟩
    exact ⟨fun _ _ hR => (BoxAt.sets_ne _ 0 hR (by omega)), fun h => absurd rfl h, trivial⟩
  · intro L L' W' hLL hC
    obtain ⟨hB, hx, hy, hG, hM, ⟨_, _, _, _, _, hz⟩, hz_o, ⟨_, _, _, _, _, _, _, _, _, _, _, _, hw_⟩, hw__o⟩ := hC
    exact ⟨hB, hx, hy, hG, hM, ⟨_, _, _, _, _, hz⟩, fun h => hz_o (hLL _ h), ⟨_, _, _, _, _, _, _, _, _, _, _, _, hw_⟩, fun h => hw__o (hLL _ h)⟩
  · intro σ L W' hall hC hRR
    obtain ⟨hB, hx, hy, hG, hM, ⟨_, _, _, _, _, hz⟩, hz_o, ⟨_, _, _, _, _, _, _, _, _, _, _, _, hw_⟩, hw__o⟩ := hC
    have s2 := dE hRR 2 rfl
    have s3 := dE hRR 3 rfl
    have e4 := dV hRR 4 rfl
    clear hRR
    simp only [lexAll]
    go_simp
    exact hQ _ _ _ hB s2 s3 hG (Nat.le_trans hhi2 hM)

set_option maxRecDepth 100000 in
set_option maxHeartbeats 4000000 in
theorem sputStep_any (s : St) (A : Option Addr) (n cap lo hi : Nat) (h : Hd) (w : World) (hs : RgsW lo hi w A n cap s.rs) (hh : hi ≤ w.heap.size) (hm : n ≤ 1048576) (hpn : ∀ r ∈ s.rs, r.ps.length ≤ 1048576) :
    Calls Try.prog 89 #[stV s A n cap, hdV h] w (RetSHB w.heap.size (stepS putS putB s h) w) := by
  have HPN := Lib.hid hpn; clear hpn
  have HLN := Lib.hid hs.1
  obtain ⟨at_, v, r, t, seen, tr, sp, ag, re⟩ := h
  unfold stV hdV
  dsimp only
  go_enter Try.func89, Try.ntmps89
  go_upto_region 1 with fail
  refine wp_abs (fun W => Below w.heap.size w W ∧ BoxAt W w.heap.size #[.int .i64 s.rd, .int .i64 s.mo, .slice A n cap, .int .i64 s.fi, .int .i64 s.la] 72 ∧ BoxAt W (w.heap.size + 1) #[.int .i64 at_, .int .i64 v, .int .i64 r, .int .i64 t, .bool seen.s, .int .i64 seen.n, .bool seen.f, .int .i64 seen.v, .int .i64 tr, .int .i64 sp, .bool ag, .int .i64 re] 27 ∧ BoxAt W (w.heap.size + 1 + 1) #[.int .i64 0, .int .i64 0, .slice none 0 0, .int .i64 0, .int .i64 0] 72 ∧ BoxAt W (w.heap.size + 1 + 1 + 1) #[.int .i64 0, .int .i64 0, .int .i64 0, .int .i64 0, .bool false, .int .i64 0, .bool false, .int .i64 0, .int .i64 0, .int .i64 0, .bool false, .int .i64 0] 27) ⟨(((((Below.refl _ _).alloc (Nat.le_refl _) _).alloc (by simp) _).alloc (by simp; omega) _).alloc (by simp; omega) _), (((BoxAt.new _ _ _).alloc _).alloc _).alloc _, ((BoxAt.new' (by simp)).alloc _).alloc _, (BoxAt.new' (by simp)).alloc _, BoxAt.new' (by simp)⟩ ?_
  rintro W0 ⟨hB, hx, hy, hz, hw_⟩
  have lw0 := hw_.lt
  have hs0 := hs.below hB hh
  have kx := hx.cell
  have ky := hy.cell
  have fy := hy.frozen
  go_wp2_with fail
  clear kx ky fy
  refine (sstoreOk_any s A n cap lo hi _ hs0 (Nat.le_trans hh hB.size) hm HPN.out).mono ?_
  rintro e w1 ⟨rfl, hb⟩
  replace hx := hx.below hb hx.lt
  replace hy := hy.below hb hy.lt
  replace hz := hz.below hb hz.lt
  replace hw_ := hw_.below hb hw_.lt
  replace hB := bstep hB hB.size hb
  have h1 := hb.size
  clear hb
  clear hs0
  cases hok : stOk s
  · have HV := Lib.hid (show stepS putS putB s (⟨at_, v, r, t, seen, tr, sp, ag, re⟩ : Hd) = (St.zero, Hd.zero, false) by simp [stepS, hok])
    have kz := hz.cell
    have fz := hz.frozen
    have kw := hw_.cell
    have fw := hw_.frozen
    go_wp2
    refine bodyPost_ret (v := .tuple #[stV .zero none 0 0, hdV .zero, .bool false]) (by simp [results, Try.results89, go_sem, kz, kw, stV, St.zero, hdV, Hd.zero]) rfl ⟨none, 0, 0, by rw [HV.out], ?_, ?_⟩
    · rw [HV.out]; exact RgsW.nil
    · exact Below.setCells (by omega) [.int .i64 0, .int .i64 0, .int .i64 0, .int .i64 0, .bool false, .int .i64 0, .bool false, .int .i64 0, .int .i64 0, .int .i64 0, .bool false, .int .i64 0] 0 (Below.setCells (by omega) [.int .i64 0, .int .i64 0, .slice none 0 0, .int .i64 0, .int .i64 0] 0 hB)
  have HOK := Lib.hid hok
  have HNT := Lib.hid (stOk_neat hok)
  clear hok
  have ky := hy.cell
  go_wp2_with fail
  clear ky
  refine (shandOk_any (⟨at_, v, r, t, seen, tr, sp, ag, re⟩ : Hd) _).mono ?_
  rintro e w2 ⟨rfl, hb⟩
  replace hx := hx.below hb hx.lt
  replace hy := hy.below hb hy.lt
  replace hz := hz.below hb hz.lt
  replace hw_ := hw_.below hb hw_.lt
  replace hB := bstep hB hB.size hb
  have h2 := hb.size
  clear hb
  cases hho : (⟨at_, v, r, t, seen, tr, sp, ag, re⟩ : Hd).ok
  · have HV := Lib.hid (show stepS putS putB s (⟨at_, v, r, t, seen, tr, sp, ag, re⟩ : Hd) = (St.zero, Hd.zero, false) by simp [stepS, HOK.out, hho])
    have kz := hz.cell
    have fz := hz.frozen
    have kw := hw_.cell
    have fw := hw_.frozen
    go_wp2
    refine bodyPost_ret (v := .tuple #[stV .zero none 0 0, hdV .zero, .bool false]) (by simp [results, Try.results89, go_sem, kz, kw, stV, St.zero, hdV, Hd.zero]) rfl ⟨none, 0, 0, by rw [HV.out], ?_, ?_⟩
    · rw [HV.out]; exact RgsW.nil
    · exact Below.setCells (by omega) [.int .i64 0, .int .i64 0, .int .i64 0, .int .i64 0, .bool false, .int .i64 0, .bool false, .int .i64 0, .int .i64 0, .int .i64 0, .bool false, .int .i64 0] 0 (Below.setCells (by omega) [.int .i64 0, .int .i64 0, .slice none 0 0, .int .i64 0, .int .i64 0] 0 hB)
  have HHO := Lib.hid hho
  clear hho
  have HCPY := Lib.hid (show ∀ W : World, Below w.heap.size w W → Calls Try.prog 83 #[stV s A n cap] W (RetS W.heap.size s W) from fun W hBW => l3Copy_rgs s A n cap lo hi W (hs.below hBW hh) (Nat.le_trans hh hBW.size) HNT.out)
  unfold stV at HCPY
  have kx := hx.cell
  have ky := hy.cell
  go_wp2_with fail
  refine (l5Putting_any at_ _).mono ?_
  rintro e w' ⟨rfl, rfl⟩
  cases hpb : putB at_
  · have HV := Lib.hid (show stepS putS putB s (⟨at_, v, r, t, seen, tr, sp, ag, re⟩ : Hd) = (s, (⟨at_, v, r, t, seen, tr, sp, ag, re⟩ : Hd), false) by simp [stepS, HOK.out, HHO.out, hpb])
    go_upto_region 4 with fail
    obtain ⟨M0, hMe⟩ : ∃ M0, M0 = w2.heap.size := ⟨_, rfl⟩
    have hM0 : M0 ≤ w2.heap.size := by omega
    have hM4 : w.heap.size + 4 ≤ M0 := by have := hw_.lt; omega
    clear hMe kx ky
    refine wp_region2v (fun w w' => Below w.heap.size w w') (fun _ _ h => h.size) (fun _ => Below.refl _ _) (fun L W' => Below w.heap.size w W' ∧ BoxAt W' w.heap.size #[.int .i64 s.rd, .int .i64 s.mo, .slice A n cap, .int .i64 s.fi, .int .i64 s.la] 72 ∧ BoxAt W' (w.heap.size + 1) #[.int .i64 at_, .int .i64 v, .int .i64 r, .int .i64 t, .bool seen.s, .int .i64 seen.n, .bool seen.f, .int .i64 seen.v, .int .i64 tr, .int .i64 sp, .bool ag, .int .i64 re] 27 ∧ M0 ≤ W'.heap.size ∧ (∃ x0 x1 x2 x3 x4, BoxAt W' (w.heap.size + 1 + 1) #[x0, x1, x2, x3, x4] 72) ∧ (L 3 = false → BoxAt W' (w.heap.size + 1 + 1) #[.int .i64 0, .int .i64 0, .slice none 0 0, .int .i64 0, .int .i64 0] 72) ∧ (∃ x0 x1 x2 x3 x4 x5 x6 x7 x8 x9 x10 x11, BoxAt W' (w.heap.size + 1 + 1 + 1) #[x0, x1, x2, x3, x4, x5, x6, x7, x8, x9, x10, x11] 27) ∧ (L 4 = false → BoxAt W' (w.heap.size + 1 + 1 + 1) #[.int .i64 0, .int .i64 0, .int .i64 0, .int .i64 0, .bool false, .int .i64 0, .bool false, .int .i64 0, .int .i64 0, .int .i64 0, .bool false, .int .i64 0] 27)) (ps4V s w.heap.size M0 n cap A at_ v r t seen tr sp ag re) (fun j => [0, 0, 0, 1, 1, 0].getD j 0) [] (by kernel_rfl) (by kernel_rfl) ?_ ?_ ?_
      (.still rfl ?a0 <| .grow rfl ?a1 <| .still rfl ?a2 <| .store rfl ?a3 <| .store rfl ?a4 <| .still rfl ?a5 <| .nil) ?_ ?_
    · exact ⟨fun _ _ _ h ⟨A5, n5, c5, e, hp⟩ => ⟨A5, n5, c5, (h 1 (List.mem_singleton.2 rfl)).symm.trans e, hp⟩, fun _ _ _ _ h => h, fun _ _ _ _ h => h, trivial⟩
    · exact ⟨fun σ w w' hb ⟨A5, n5, c5, e, hp⟩ => ⟨A5, n5, c5, e, (hp.below hb (Nat.le_refl _)).mono (Nat.le_refl _) hb.size⟩, fun σ w w' hb ⟨A5, n5, c5, hx, hp⟩ => ⟨A5, n5, c5, hx.below hb hx.lt, (hp.below hb (Nat.le_refl _)).mono (Nat.le_refl _) hb.size⟩, fun σ w w' hb hR => hR.below hb hR.lt, trivial⟩
    · exact ⟨hB.drew, hx, hy, hM0, ⟨_, _, _, _, _, hz⟩, fun _ => hz, ⟨_, _, _, _, _, _, _, _, _, _, _, _, hw_⟩, fun _ => hw_⟩
    case a0 =>
      go_light
      intro L σ W' hcl hL hC hw
      have ks := hC.2.1.cell
      clear hw hcl hL hC
      refine OpGoes.step fun K hK => ?_
      unfold OpGoes
      go_simp
      exact hK _ _ ⟨rfl, rfl⟩
    case a2 =>
      go_light
      intro L σ W' hcl hL hC hw
      have kh := hC.2.2.1.cell
      clear hw hcl hL hC
      refine OpGoes.step fun K hK => ?_
      unfold OpGoes
      go_simp
      exact hK _ _ ⟨rfl, rfl⟩
    case a5 =>
      go_light
      intro L σ W' hcl hL hC hw
      clear hw hcl hL hC
      refine OpGoes.step fun K hK => ?_
      unfold OpGoes
      go_simp
      exact hK _ _ ⟨rfl, rfl⟩
    case a1 =>
      go_light
      intro L σ W' hcl hL hC hw
      have e0 := wV hw 0 rfl
      clear hw
      have HC := Lib.hid hC
      clear hC
      clear hcl hL
      refine OpGoes.step fun K hK => ?_
      unfold OpGoes
      go_simp
      obtain ⟨hB, hx, hy, hM0, ⟨_, _, _, _, _, hz⟩, hz_o, ⟨_, _, _, _, _, _, _, _, _, _, _, _, hw_⟩, hw__o⟩ := HC.out
      refine (HCPY.out _ hB).mono ?_
      rintro e w1 ⟨A5, n5, c5, rfl, hG5, hb1⟩
      exact ⟨_, rfl, hK _ _ ⟨⟨bstep hB hB.size hb1, hx.below hb1 hx.lt, hy.below hb1 hy.lt, Nat.le_trans hM0 hb1.size, ⟨_, _, _, _, _, hz.below hb1 hz.lt⟩, fun h => (hz_o (by simpa [upd] using h)).below hb1 (hz_o (by simpa [upd] using h)).lt, ⟨_, _, _, _, _, _, _, _, _, _, _, _, hw_.below hb1 hw_.lt⟩, fun h => (hw__o (by simpa [upd] using h)).below hb1 (hw__o (by simpa [upd] using h)).lt⟩, ⟨A5, n5, c5, rfl, hG5.mono hM0 (Nat.le_refl _)⟩, hb1⟩⟩
    case a3 =>
      go_light
      intro L σ W' hcl hL hC hw hne
      obtain ⟨A5, n5, c5, e1, hp1⟩ := wE hw 1 rfl
      clear hw hne
      have HC := Lib.hid hC
      obtain ⟨hB, hx, hy, hM0, ⟨_, _, _, _, _, hz⟩, hz_o, ⟨_, _, _, _, _, _, _, _, _, _, _, _, hw_⟩, hw__o⟩ := hC
      clear hcl hL
      have kc_ := hz.cell
      have kf_ := hz.frozen
      clear hB hx hy hM0 hz hz_o hw_ hw__o
      refine OpGoes.step fun K hK => ?_
      unfold OpGoes
      go_simp
      obtain ⟨hB, hx, hy, hM0, ⟨_, _, _, _, _, hz⟩, hz_o, ⟨_, _, _, _, _, _, _, _, _, _, _, _, hw_⟩, hw__o⟩ := HC.out
      have hset := sets_all (us := [.int .i64 s.rd, .int .i64 s.mo, .slice A5 n5 c5, .int .i64 s.fi, .int .i64 s.la]) hz rfl
      refine hK undef (setCells W' (w.heap.size + 1 + 1) 0 [.int .i64 s.rd, .int .i64 s.mo, .slice A5 n5 c5, .int .i64 s.fi, .int .i64 s.la]) ⟨⟨(Below.setCells (by omega) _ 0 hB), (BoxAt.sets_ne _ 0 hx (by omega)), (BoxAt.sets_ne _ 0 hy (by omega)), (size_sts hM0 _ 0), ⟨_, _, _, _, _, hset⟩, fun h => absurd h (by simp [upd]), ⟨_, _, _, _, _, _, _, _, _, _, _, _, (BoxAt.sets_ne _ 0 hw_ (by omega))⟩, fun h => (BoxAt.sets_ne _ 0 (hw__o (by simpa [upd] using h)) (by omega))⟩, ⟨A5, n5, c5, hset, ((RgsW.setsT hp1 hz (by decide) (by decide) _ 0).mono (Nat.le_refl _) (Nat.le_of_eq (sets_size _ _ _).symm))⟩, Nat.le_of_eq (sets_size _ _ _).symm, keepV ?_⟩
      exact ⟨fun _ _ ⟨A5_x, n5_x, c5_x, e, hp⟩ => ⟨A5_x, n5_x, c5_x, e, ((RgsW.setsT hp hz (by decide) (by decide) _ 0).mono (Nat.le_refl _) (Nat.le_of_eq (sets_size _ _ _).symm))⟩, fun h => absurd rfl h, fun _ _ hR => (BoxAt.sets_ne _ 0 hR (by omega)), trivial⟩
    case a4 =>
      go_light
      intro L σ W' hcl hL hC hw hne
      have e2 := wV hw 2 rfl
      clear hw hne
      have HC := Lib.hid hC
      obtain ⟨hB, hx, hy, hM0, ⟨_, _, _, _, _, hz⟩, hz_o, ⟨_, _, _, _, _, _, _, _, _, _, _, _, hw_⟩, hw__o⟩ := hC
      clear hcl hL
      have kc_ := hw_.cell
      have kf_ := hw_.frozen
      clear hB hx hy hM0 hz hz_o hw_ hw__o
      refine OpGoes.step fun K hK => ?_
      unfold OpGoes
      go_simp
      obtain ⟨hB, hx, hy, hM0, ⟨_, _, _, _, _, hz⟩, hz_o, ⟨_, _, _, _, _, _, _, _, _, _, _, _, hw_⟩, hw__o⟩ := HC.out
      have hset := sets_all (us := [.int .i64 at_, .int .i64 v, .int .i64 r, .int .i64 t, .bool seen.s, .int .i64 seen.n, .bool seen.f, .int .i64 seen.v, .int .i64 tr, .int .i64 sp, .bool ag, .int .i64 re]) hw_ rfl
      refine hK undef (setCells W' (w.heap.size + 1 + 1 + 1) 0 [.int .i64 at_, .int .i64 v, .int .i64 r, .int .i64 t, .bool seen.s, .int .i64 seen.n, .bool seen.f, .int .i64 seen.v, .int .i64 tr, .int .i64 sp, .bool ag, .int .i64 re]) ⟨⟨(Below.setCells (by omega) _ 0 hB), (BoxAt.sets_ne _ 0 hx (by omega)), (BoxAt.sets_ne _ 0 hy (by omega)), (size_sts hM0 _ 0), ⟨_, _, _, _, _, (BoxAt.sets_ne _ 0 hz (by omega))⟩, fun h => (BoxAt.sets_ne _ 0 (hz_o (by simpa [upd] using h)) (by omega)), ⟨_, _, _, _, _, _, _, _, _, _, _, _, hset⟩, fun h => absurd h (by simp [upd])⟩, hset, Nat.le_of_eq (sets_size _ _ _).symm, keepV ?_⟩
      exact ⟨fun _ _ ⟨A5_x, n5_x, c5_x, e, hp⟩ => ⟨A5_x, n5_x, c5_x, e, ((RgsW.setsT hp hw_ (by decide) (by decide) _ 0).mono (Nat.le_refl _) (Nat.le_of_eq (sets_size _ _ _).symm))⟩, fun _ _ ⟨A5, n5, c5, hx, hp⟩ => ⟨A5, n5, c5, (BoxAt.sets_ne _ 0 hx (by omega)), ((RgsW.setsT hp hw_ (by decide) (by decide) _ 0).mono (Nat.le_refl _) (Nat.le_of_eq (sets_size _ _ _).symm))⟩, fun h => absurd rfl h, trivial⟩
    · intro L L' W' hLL hC
      obtain ⟨hB, hx, hy, hM0, ⟨_, _, _, _, _, hz⟩, hz_o, ⟨_, _, _, _, _, _, _, _, _, _, _, _, hw_⟩, hw__o⟩ := hC
      exact ⟨hB, hx, hy, hM0, ⟨_, _, _, _, _, hz⟩, fun h => hz_o (hLL _ h), ⟨_, _, _, _, _, _, _, _, _, _, _, _, hw_⟩, fun h => hw__o (hLL _ h)⟩
    · intro σ L W' hall hC hRR
      obtain ⟨hB, hx, hy, hM0, ⟨_, _, _, _, _, hz⟩, hz_o, ⟨_, _, _, _, _, _, _, _, _, _, _, _, hw_⟩, hw__o⟩ := hC
      obtain ⟨A5, n5, c5, s3, hp3⟩ := dE hRR 3 rfl
      have s4 := dE hRR 4 rfl
      have e5 := dV hRR 5 rfl
      clear hRR
      simp only [lexAll]
      go_simp
      go_step
      have k7 := s3.cell
      have k8 := s4.cell
      go_wp2
      refine bodyPost_ret (v := .tuple #[stV s A5 n5 c5, hdV (⟨at_, v, r, t, seen, tr, sp, ag, re⟩ : Hd), .bool false]) (by simp [results, Try.results89, go_sem, k7, k8, stV, hdV]) rfl ⟨A5, n5, c5, by rw [HV.out], ?_, hB⟩
      rw [HV.out]
      exact hp3.mono (by omega) (Nat.le_refl _)
  go_wp2_with fail
  clear kx ky
  refine (l4Ring_any s A n cap r _ HLN.out hm).mono ?_
  rintro e w3 ⟨rfl, hb⟩
  replace hx := hx.below hb hx.lt
  replace hy := hy.below hb hy.lt
  replace hz := hz.below hb hz.lt
  replace hw_ := hw_.below hb hw_.lt
  replace hB := bstep hB hB.size hb
  have h3 := hb.size
  clear hb
  cases hrb : ringB s r
  · have HV := Lib.hid (show stepS putS putB s (⟨at_, v, r, t, seen, tr, sp, ag, re⟩ : Hd) = (s, (⟨at_, v, r, t, seen, tr, sp, ag, re⟩ : Hd), false) by simp [stepS, HOK.out, HHO.out, hrb])
    go_upto_region 4 with fail
    obtain ⟨M0, hMe⟩ : ∃ M0, M0 = w3.heap.size := ⟨_, rfl⟩
    have hM0 : M0 ≤ w3.heap.size := by omega
    have hM4 : w.heap.size + 4 ≤ M0 := by have := hw_.lt; omega
    clear hMe 
    refine wp_region2v (fun w w' => Below w.heap.size w w') (fun _ _ h => h.size) (fun _ => Below.refl _ _) (fun L W' => Below w.heap.size w W' ∧ BoxAt W' w.heap.size #[.int .i64 s.rd, .int .i64 s.mo, .slice A n cap, .int .i64 s.fi, .int .i64 s.la] 72 ∧ BoxAt W' (w.heap.size + 1) #[.int .i64 at_, .int .i64 v, .int .i64 r, .int .i64 t, .bool seen.s, .int .i64 seen.n, .bool seen.f, .int .i64 seen.v, .int .i64 tr, .int .i64 sp, .bool ag, .int .i64 re] 27 ∧ M0 ≤ W'.heap.size ∧ (∃ x0 x1 x2 x3 x4, BoxAt W' (w.heap.size + 1 + 1) #[x0, x1, x2, x3, x4] 72) ∧ (L 3 = false → BoxAt W' (w.heap.size + 1 + 1) #[.int .i64 0, .int .i64 0, .slice none 0 0, .int .i64 0, .int .i64 0] 72) ∧ (∃ x0 x1 x2 x3 x4 x5 x6 x7 x8 x9 x10 x11, BoxAt W' (w.heap.size + 1 + 1 + 1) #[x0, x1, x2, x3, x4, x5, x6, x7, x8, x9, x10, x11] 27) ∧ (L 4 = false → BoxAt W' (w.heap.size + 1 + 1 + 1) #[.int .i64 0, .int .i64 0, .int .i64 0, .int .i64 0, .bool false, .int .i64 0, .bool false, .int .i64 0, .int .i64 0, .int .i64 0, .bool false, .int .i64 0] 27)) (ps4V s w.heap.size M0 n cap A at_ v r t seen tr sp ag re) (fun j => [0, 0, 0, 1, 1, 0].getD j 0) [] (by kernel_rfl) (by kernel_rfl) ?_ ?_ ?_
      (.still rfl ?a0 <| .grow rfl ?a1 <| .still rfl ?a2 <| .store rfl ?a3 <| .store rfl ?a4 <| .still rfl ?a5 <| .nil) ?_ ?_
    · exact ⟨fun _ _ _ h ⟨A5, n5, c5, e, hp⟩ => ⟨A5, n5, c5, (h 1 (List.mem_singleton.2 rfl)).symm.trans e, hp⟩, fun _ _ _ _ h => h, fun _ _ _ _ h => h, trivial⟩
    · exact ⟨fun σ w w' hb ⟨A5, n5, c5, e, hp⟩ => ⟨A5, n5, c5, e, (hp.below hb (Nat.le_refl _)).mono (Nat.le_refl _) hb.size⟩, fun σ w w' hb ⟨A5, n5, c5, hx, hp⟩ => ⟨A5, n5, c5, hx.below hb hx.lt, (hp.below hb (Nat.le_refl _)).mono (Nat.le_refl _) hb.size⟩, fun σ w w' hb hR => hR.below hb hR.lt, trivial⟩
    · exact ⟨hB.drew, hx, hy, hM0, ⟨_, _, _, _, _, hz⟩, fun _ => hz, ⟨_, _, _, _, _, _, _, _, _, _, _, _, hw_⟩, fun _ => hw_⟩
    case a0 =>
      go_light
      intro L σ W' hcl hL hC hw
      have ks := hC.2.1.cell
      clear hw hcl hL hC
      refine OpGoes.step fun K hK => ?_
      unfold OpGoes
      go_simp
      exact hK _ _ ⟨rfl, rfl⟩
    case a2 =>
      go_light
      intro L σ W' hcl hL hC hw
      have kh := hC.2.2.1.cell
      clear hw hcl hL hC
      refine OpGoes.step fun K hK => ?_
      unfold OpGoes
      go_simp
      exact hK _ _ ⟨rfl, rfl⟩
    case a5 =>
      go_light
      intro L σ W' hcl hL hC hw
      clear hw hcl hL hC
      refine OpGoes.step fun K hK => ?_
      unfold OpGoes
      go_simp
      exact hK _ _ ⟨rfl, rfl⟩
    case a1 =>
      go_light
      intro L σ W' hcl hL hC hw
      have e0 := wV hw 0 rfl
      clear hw
      have HC := Lib.hid hC
      clear hC
      clear hcl hL
      refine OpGoes.step fun K hK => ?_
      unfold OpGoes
      go_simp
      obtain ⟨hB, hx, hy, hM0, ⟨_, _, _, _, _, hz⟩, hz_o, ⟨_, _, _, _, _, _, _, _, _, _, _, _, hw_⟩, hw__o⟩ := HC.out
      refine (HCPY.out _ hB).mono ?_
      rintro e w1 ⟨A5, n5, c5, rfl, hG5, hb1⟩
      exact ⟨_, rfl, hK _ _ ⟨⟨bstep hB hB.size hb1, hx.below hb1 hx.lt, hy.below hb1 hy.lt, Nat.le_trans hM0 hb1.size, ⟨_, _, _, _, _, hz.below hb1 hz.lt⟩, fun h => (hz_o (by simpa [upd] using h)).below hb1 (hz_o (by simpa [upd] using h)).lt, ⟨_, _, _, _, _, _, _, _, _, _, _, _, hw_.below hb1 hw_.lt⟩, fun h => (hw__o (by simpa [upd] using h)).below hb1 (hw__o (by simpa [upd] using h)).lt⟩, ⟨A5, n5, c5, rfl, hG5.mono hM0 (Nat.le_refl _)⟩, hb1⟩⟩
    case a3 =>
      go_light
      intro L σ W' hcl hL hC hw hne
      obtain ⟨A5, n5, c5, e1, hp1⟩ := wE hw 1 rfl
      clear hw hne
      have HC := Lib.hid hC
      obtain ⟨hB, hx, hy, hM0, ⟨_, _, _, _, _, hz⟩, hz_o, ⟨_, _, _, _, _, _, _, _, _, _, _, _, hw_⟩, hw__o⟩ := hC
      clear hcl hL
      have kc_ := hz.cell
      have kf_ := hz.frozen
      clear hB hx hy hM0 hz hz_o hw_ hw__o
      refine OpGoes.step fun K hK => ?_
      unfold OpGoes
      go_simp
      obtain ⟨hB, hx, hy, hM0, ⟨_, _, _, _, _, hz⟩, hz_o, ⟨_, _, _, _, _, _, _, _, _, _, _, _, hw_⟩, hw__o⟩ := HC.out
      have hset := sets_all (us := [.int .i64 s.rd, .int .i64 s.mo, .slice A5 n5 c5, .int .i64 s.fi, .int .i64 s.la]) hz rfl
      refine hK undef (setCells W' (w.heap.size + 1 + 1) 0 [.int .i64 s.rd, .int .i64 s.mo, .slice A5 n5 c5, .int .i64 s.fi, .int .i64 s.la]) ⟨⟨(Below.setCells (by omega) _ 0 hB), (BoxAt.sets_ne _ 0 hx (by omega)), (BoxAt.sets_ne _ 0 hy (by omega)), (size_sts hM0 _ 0), ⟨_, _, _, _, _, hset⟩, fun h => absurd h (by simp [upd]), ⟨_, _, _, _, _, _, _, _, _, _, _, _, (BoxAt.sets_ne _ 0 hw_ (by omega))⟩, fun h => (BoxAt.sets_ne _ 0 (hw__o (by simpa [upd] using h)) (by omega))⟩, ⟨A5, n5, c5, hset, ((RgsW.setsT hp1 hz (by decide) (by decide) _ 0).mono (Nat.le_refl _) (Nat.le_of_eq (sets_size _ _ _).symm))⟩, Nat.le_of_eq (sets_size _ _ _).symm, keepV ?_⟩
      exact ⟨fun _ _ ⟨A5_x, n5_x, c5_x, e, hp⟩ => ⟨A5_x, n5_x, c5_x, e, ((RgsW.setsT hp hz (by decide) (by decide) _ 0).mono (Nat.le_refl _) (Nat.le_of_eq (sets_size _ _ _).symm))⟩, fun h => absurd rfl h, fun _ _ hR => (BoxAt.sets_ne _ 0 hR (by omega)), trivial⟩
    case a4 =>
      go_light
      intro L σ W' hcl hL hC hw hne
      have e2 := wV hw 2 rfl
      clear hw hne
      have HC := Lib.hid hC
      obtain ⟨hB, hx, hy, hM0, ⟨_, _, _, _, _, hz⟩, hz_o, ⟨_, _, _, _, _, _, _, _, _, _, _, _, hw_⟩, hw__o⟩ := hC
      clear hcl hL
      have kc_ := hw_.cell
      have kf_ := hw_.frozen
      clear hB hx hy hM0 hz hz_o hw_ hw__o
      refine OpGoes.step fun K hK => ?_
      unfold OpGoes
      go_simp
      obtain ⟨hB, hx, hy, hM0, ⟨_, _, _, _, _, hz⟩, hz_o, ⟨_, _, _, _, _, _, _, _, _, _, _, _, hw_⟩, hw__o⟩ := HC.out
      have hset := sets_all (us := [.int .i64 at_, .int .i64 v, .int .i64 r, .int .i64 t, .bool seen.s, .int .i64 seen.n, .bool seen.f, .int .i64 seen.v, .int .i64 tr, .int .i64 sp, .bool ag, .int .i64 re]) hw_ rfl
      refine hK undef (setCells W' (w.heap.size + 1 + 1 + 1) 0 [.int .i64 at_, .int .i64 v, .int .i64 r, .int .i64 t, .bool seen.s, .int .i64 seen.n, .bool seen.f, .int .i64 seen.v, .int .i64 tr, .int .i64 sp, .bool ag, .int .i64 re]) ⟨⟨(Below.setCells (by omega) _ 0 hB), (BoxAt.sets_ne _ 0 hx (by omega)), (BoxAt.sets_ne _ 0 hy (by omega)), (size_sts hM0 _ 0), ⟨_, _, _, _, _, (BoxAt.sets_ne _ 0 hz (by omega))⟩, fun h => (BoxAt.sets_ne _ 0 (hz_o (by simpa [upd] using h)) (by omega)), ⟨_, _, _, _, _, _, _, _, _, _, _, _, hset⟩, fun h => absurd h (by simp [upd])⟩, hset, Nat.le_of_eq (sets_size _ _ _).symm, keepV ?_⟩
      exact ⟨fun _ _ ⟨A5_x, n5_x, c5_x, e, hp⟩ => ⟨A5_x, n5_x, c5_x, e, ((RgsW.setsT hp hw_ (by decide) (by decide) _ 0).mono (Nat.le_refl _) (Nat.le_of_eq (sets_size _ _ _).symm))⟩, fun _ _ ⟨A5, n5, c5, hx, hp⟩ => ⟨A5, n5, c5, (BoxAt.sets_ne _ 0 hx (by omega)), ((RgsW.setsT hp hw_ (by decide) (by decide) _ 0).mono (Nat.le_refl _) (Nat.le_of_eq (sets_size _ _ _).symm))⟩, fun h => absurd rfl h, trivial⟩
    · intro L L' W' hLL hC
      obtain ⟨hB, hx, hy, hM0, ⟨_, _, _, _, _, hz⟩, hz_o, ⟨_, _, _, _, _, _, _, _, _, _, _, _, hw_⟩, hw__o⟩ := hC
      exact ⟨hB, hx, hy, hM0, ⟨_, _, _, _, _, hz⟩, fun h => hz_o (hLL _ h), ⟨_, _, _, _, _, _, _, _, _, _, _, _, hw_⟩, fun h => hw__o (hLL _ h)⟩
    · intro σ L W' hall hC hRR
      obtain ⟨hB, hx, hy, hM0, ⟨_, _, _, _, _, hz⟩, hz_o, ⟨_, _, _, _, _, _, _, _, _, _, _, _, hw_⟩, hw__o⟩ := hC
      obtain ⟨A5, n5, c5, s3, hp3⟩ := dE hRR 3 rfl
      have s4 := dE hRR 4 rfl
      have e5 := dV hRR 5 rfl
      clear hRR
      simp only [lexAll]
      go_simp
      go_step
      have k7 := s3.cell
      have k8 := s4.cell
      go_wp2
      refine bodyPost_ret (v := .tuple #[stV s A5 n5 c5, hdV (⟨at_, v, r, t, seen, tr, sp, ag, re⟩ : Hd), .bool false]) (by simp [results, Try.results89, go_sem, k7, k8, stV, hdV]) rfl ⟨A5, n5, c5, by rw [HV.out], ?_, hB⟩
      rw [HV.out]
      exact hp3.mono (by omega) (Nat.le_refl _)
  have HTB := Lib.hid (show putB at_ = true by simp [hpb])
  obtain ⟨q, hq⟩ : ∃ q, putS s (⟨at_, v, r, t, seen, tr, sp, ag, re⟩ : Hd) = q := ⟨_, rfl⟩
  have HQN := Lib.hid (show Neat q.1 by rw [← hq]; exact putS_neat HOK.out)
  obtain ⟨M0, hMe⟩ : ∃ M0, M0 = w3.heap.size := ⟨_, rfl⟩
  have hM0 : M0 ≤ w3.heap.size := by omega
  have hM4 : w.heap.size + 4 ≤ M0 := by have := hw_.lt; omega
  clear hMe
  have HTK := Lib.hid (show ∀ (W : World) (A1 : Option Addr) (n1 c1 : Nat), Below w.heap.size w W → M0 ≤ W.heap.size → RgsW M0 W.heap.size W A1 n1 c1 s.rs → Calls Try.prog 91 #[stV s A1 n1 c1, hdV (⟨at_, v, r, t, seen, tr, sp, ag, re⟩ : Hd)] W (RetSHB M0 q W) from fun W A1 n1 c1 hBW hMW hG => by
    have := l6Put_any s A1 n1 c1 M0 W.heap.size (⟨at_, v, r, t, seen, tr, sp, ag, re⟩ : Hd) W hG (Nat.le_refl _) hMW HOK.out hrb HHO.out hpb
    rw [hq] at this
    exact this)
  unfold stV hdV at HTK
  have HRB := Lib.hid hrb
  have HQ := Lib.hid hq
  clear hrb hq
  go_upto_region 5 with fail
  go_cut [7, 8, 9] (fun u7 u8 u9 W' => Below w.heap.size w W' ∧ BoxAt W' w.heap.size #[.int .i64 s.rd, .int .i64 s.mo, .slice A n cap, .int .i64 s.fi, .int .i64 s.la] 72 ∧ BoxAt W' (w.heap.size + 1) #[.int .i64 at_, .int .i64 v, .int .i64 r, .int .i64 t, .bool seen.s, .int .i64 seen.n, .bool seen.f, .int .i64 seen.v, .int .i64 tr, .int .i64 sp, .bool ag, .int .i64 re] 27 ∧ BoxAt W' (w.heap.size + 1 + 1) #[.int .i64 0, .int .i64 0, .slice none 0 0, .int .i64 0, .int .i64 0] 72 ∧ BoxAt W' (w.heap.size + 1 + 1 + 1) #[.int .i64 0, .int .i64 0, .int .i64 0, .int .i64 0, .bool false, .int .i64 0, .bool false, .int .i64 0, .int .i64 0, .int .i64 0, .bool false, .int .i64 0] 27 ∧ M0 ≤ W'.heap.size ∧ ∃ (X Y : Nat) (A5 : Option Addr) (n5 c5 : Nat), M0 ≤ X ∧ M0 ≤ Y ∧ BoxAt W' X #[.int .i64 q.1.rd, .int .i64 q.1.mo, .slice A5 n5 c5, .int .i64 q.1.fi, .int .i64 q.1.la] 72 ∧ BoxAt W' Y #[.int .i64 q.2.1.at_, .int .i64 q.2.1.v, .int .i64 q.2.1.r, .int .i64 q.2.1.t, .bool q.2.1.seen.s, .int .i64 q.2.1.seen.n, .bool q.2.1.seen.f, .int .i64 q.2.1.seen.v, .int .i64 q.2.1.tr, .int .i64 q.2.1.sp, .bool q.2.1.ag, .int .i64 q.2.1.re] 27 ∧ RgsW M0 W'.heap.size W' A5 n5 c5 q.1.rs ∧ u7 = .pointer (some ⟨X, 0, none⟩) ∧ u8 = .pointer (some ⟨Y, 0, none⟩) ∧ u9 = .bool q.2.2)
  case first =>
    refine wp_region2v (fun w w' => Below w.heap.size w w') (fun _ _ h => h.size) (fun _ => Below.refl _ _) (fun L W' => Below w.heap.size w W' ∧ BoxAt W' w.heap.size #[.int .i64 s.rd, .int .i64 s.mo, .slice A n cap, .int .i64 s.fi, .int .i64 s.la] 72 ∧ BoxAt W' (w.heap.size + 1) #[.int .i64 at_, .int .i64 v, .int .i64 r, .int .i64 t, .bool seen.s, .int .i64 seen.n, .bool seen.f, .int .i64 seen.v, .int .i64 tr, .int .i64 sp, .bool ag, .int .i64 re] 27 ∧ M0 ≤ W'.heap.size ∧ BoxAt W' (w.heap.size + 1 + 1) #[.int .i64 0, .int .i64 0, .slice none 0 0, .int .i64 0, .int .i64 0] 72 ∧ BoxAt W' (w.heap.size + 1 + 1 + 1) #[.int .i64 0, .int .i64 0, .int .i64 0, .int .i64 0, .bool false, .int .i64 0, .bool false, .int .i64 0, .int .i64 0, .int .i64 0, .bool false, .int .i64 0] 27) (ps5V s w.heap.size M0 n cap A at_ v r t seen tr sp ag re q) (fun j => [0, 0, 0, 0, 0, 0, 0, 0, 2, 2, 1, 1, 0].getD j 0) [(10, 8), (11, 9)] (by kernel_rfl) (by kernel_rfl) ?_ ?_ ?_
      (.still rfl ?a0 <| .grow rfl ?a1 <| .still rfl ?a2 <| .grow rfl ?a3 <| .still rfl ?a4 <| .still rfl ?a5 <| .still rfl ?a6 <| .still rfl ?a7 <| .make rfl ?a8 <| .make rfl ?a9 <| .store rfl ?a10 <| .store rfl ?a11 <| .still rfl ?a12 <| .nil) ?_ ?_
    · exact ⟨fun _ _ _ h ⟨A1, n1, c1, e, hp⟩ => ⟨A1, n1, c1, (h 1 (List.mem_singleton.2 rfl)).symm.trans e, hp⟩, fun _ _ _ h ⟨A5, n5, c5, e, hp⟩ => ⟨A5, n5, c5, (h 3 (List.mem_singleton.2 rfl)).symm.trans e, hp⟩, fun _ _ _ h ⟨A5, n5, c5, e, hp⟩ => ⟨A5, n5, c5, (h 4 (List.mem_singleton.2 rfl)).symm.trans e, hp⟩, fun _ _ _ h ⟨A5, n5, c5, e, hp⟩ => ⟨A5, n5, c5, (h 5 (List.mem_singleton.2 rfl)).symm.trans e, hp⟩, fun _ _ _ h ⟨g, e, hp⟩ => ⟨g, (h 8 (List.mem_singleton.2 rfl)).symm.trans e, hp⟩, fun _ _ _ h ⟨g, e, hp⟩ => ⟨g, (h 9 (List.mem_singleton.2 rfl)).symm.trans e, hp⟩, fun _ _ _ h ⟨g, A5, n5, c5, e, hp⟩ => ⟨g, A5, n5, c5, (h 8 (List.mem_singleton.2 rfl)).symm.trans e, hp⟩, fun _ _ _ h ⟨g, e, hp⟩ => ⟨g, (h 9 (List.mem_singleton.2 rfl)).symm.trans e, hp⟩, trivial⟩
    · exact ⟨fun σ w w' hb ⟨A1, n1, c1, e, hp⟩ => ⟨A1, n1, c1, e, (hp.below hb (Nat.le_refl _)).mono (Nat.le_refl _) hb.size⟩, fun σ w w' hb ⟨A5, n5, c5, e, hp⟩ => ⟨A5, n5, c5, e, (hp.below hb (Nat.le_refl _)).mono (Nat.le_refl _) hb.size⟩, fun σ w w' hb ⟨A5, n5, c5, e, hp⟩ => ⟨A5, n5, c5, e, (hp.below hb (Nat.le_refl _)).mono (Nat.le_refl _) hb.size⟩, fun σ w w' hb ⟨A5, n5, c5, e, hp⟩ => ⟨A5, n5, c5, e, (hp.below hb (Nat.le_refl _)).mono (Nat.le_refl _) hb.size⟩, fun σ w w' hb ⟨g, e, hg, x0, x1, x2, x3, x4, hx⟩ => ⟨g, e, hg, x0, x1, x2, x3, x4, hx.below hb hx.lt⟩, fun σ w w' hb ⟨g, e, hg, x0, x1, x2, x3, x4, x5, x6, x7, x8, x9, x10, x11, hx⟩ => ⟨g, e, hg, x0, x1, x2, x3, x4, x5, x6, x7, x8, x9, x10, x11, hx.below hb hx.lt⟩, fun σ w w' hb ⟨g, A5, n5, c5, e, hg, hx, hp⟩ => ⟨g, A5, n5, c5, e, hg, hx.below hb hx.lt, (hp.below hb (Nat.le_refl _)).mono (Nat.le_refl _) hb.size⟩, fun σ w w' hb ⟨g, e, hg, hx⟩ => ⟨g, e, hg, hx.below hb hx.lt⟩, trivial⟩
    · exact ⟨hB.drew, hx, hy, hM0, hz, hw_⟩
    case a0 =>
      go_light
      intro L σ W' hcl hL hC hw
      have ks := hC.2.1.cell
      clear hw hcl hL hC
      refine OpGoes.step fun K hK => ?_
      unfold OpGoes
      go_simp
      exact hK _ _ ⟨rfl, rfl⟩
    case a2 =>
      go_light
      intro L σ W' hcl hL hC hw
      have kh := hC.2.2.1.cell
      clear hw hcl hL hC
      refine OpGoes.step fun K hK => ?_
      unfold OpGoes
      go_simp
      exact hK _ _ ⟨rfl, rfl⟩
    case a12 =>
      go_light
      intro L σ W' hcl hL hC hw
      have e7 := wV hw 7 rfl
      clear hw hcl hL hC
      refine OpGoes.step fun K hK => ?_
      unfold OpGoes
      go_simp
      exact hK _ _ ⟨rfl, rfl⟩
    case a1 =>
      go_light
      intro L σ W' hcl hL hC hw
      have e0 := wV hw 0 rfl
      clear hw
      have HC := Lib.hid hC
      clear hC
      clear hcl hL
      refine OpGoes.step fun K hK => ?_
      unfold OpGoes
      go_simp
      obtain ⟨hB, hx, hy, hM0, hz, hw_⟩ := HC.out
      refine (HCPY.out _ hB).mono ?_
      rintro e w1 ⟨A1, n1, c1, rfl, hG5, hb1⟩
      exact ⟨_, rfl, hK _ _ ⟨⟨bstep hB hB.size hb1, hx.below hb1 hx.lt, hy.below hb1 hy.lt, Nat.le_trans hM0 hb1.size, hz.below hb1 hz.lt, hw_.below hb1 hw_.lt⟩, ⟨A1, n1, c1, rfl, hG5.mono hM0 (Nat.le_refl _)⟩, hb1⟩⟩
    case a3 =>
      go_light
      intro L σ W' hcl hL hC hw
      obtain ⟨A1, n1, c1, e1, hp1⟩ := wE hw 1 rfl
      have e2 := wV hw 2 rfl
      clear hw
      have HC := Lib.hid hC
      clear hC
      clear hcl hL
      refine OpGoes.step fun K hK => ?_
      unfold OpGoes
      go_simp
      obtain ⟨hB, hx, hy, hM0, hz, hw_⟩ := HC.out
      refine (HTK.out _ _ _ _ hB hM0 hp1).mono ?_
      rintro e w1 ⟨A5, n5, c5, rfl, hG5, hb1⟩
      exact ⟨_, rfl, hK _ _ ⟨⟨bstep hB hB.size hb1, hx.below hb1 hx.lt, hy.below hb1 hy.lt, Nat.le_trans hM0 hb1.size, hz.below hb1 hz.lt, hw_.below hb1 hw_.lt⟩, ⟨A5, n5, c5, rfl, hG5⟩, hb1⟩⟩
    case a4 =>
      go_light
      intro L σ W' hcl hL hC hw
      obtain ⟨A5, n5, c5, e3, hp3⟩ := wE hw 3 rfl
      clear hw hcl hL hC
      refine OpGoes.step fun K hK => ?_
      unfold OpGoes
      go_simp
      exact hK _ _ ⟨rfl, ⟨A5, n5, c5, rfl, hp3⟩⟩
    case a5 =>
      go_light
      intro L σ W' hcl hL hC hw
      obtain ⟨A5, n5, c5, e4, hp4⟩ := wE hw 4 rfl
      clear hw hcl hL hC
      refine OpGoes.step fun K hK => ?_
      unfold OpGoes
      go_simp
      exact hK _ _ ⟨rfl, ⟨A5, n5, c5, rfl, hp4⟩⟩
    case a6 =>
      go_light
      intro L σ W' hcl hL hC hw
      obtain ⟨A5, n5, c5, e4, hp4⟩ := wE hw 4 rfl
      clear hw hcl hL hC
      refine OpGoes.step fun K hK => ?_
      unfold OpGoes
      go_simp
      exact hK _ _ ⟨rfl, rfl⟩
    case a7 =>
      go_light
      intro L σ W' hcl hL hC hw
      obtain ⟨A5, n5, c5, e4, hp4⟩ := wE hw 4 rfl
      clear hw hcl hL hC
      refine OpGoes.step fun K hK => ?_
      unfold OpGoes
      go_simp
      exact hK _ _ ⟨rfl, rfl⟩
    case a8 =>
      go_light
      intro L σ W' hcl hL hC hw
      clear hw
      have HC := Lib.hid hC
      clear hC
      clear hcl hL
      refine OpGoes.step fun K hK => ?_
      unfold OpGoes
      go_simp
      obtain ⟨hB, hx, hy, hM0, hz, hw_⟩ := HC.out
      have hb1 : Below W'.heap.size W' (W'.alloc (.cells #[.int .i64 0, .int .i64 0, .slice none 0 0, .int .i64 0, .int .i64 0] 72)) := (Below.refl _ _).alloc (Nat.le_refl _) _
      exact hK _ _ ⟨⟨bstep hB hB.size hb1, hx.below hb1 hx.lt, hy.below hb1 hy.lt, Nat.le_trans hM0 hb1.size, hz.below hb1 hz.lt, hw_.below hb1 hw_.lt⟩, ⟨_, rfl, hM0, _, _, _, _, _, BoxAt.new _ _ _⟩, hb1, rfl, by simp⟩
    case a9 =>
      go_light
      intro L σ W' hcl hL hC hw
      clear hw
      have HC := Lib.hid hC
      clear hC
      clear hcl hL
      refine OpGoes.step fun K hK => ?_
      unfold OpGoes
      go_simp
      obtain ⟨hB, hx, hy, hM0, hz, hw_⟩ := HC.out
      have hb1 : Below W'.heap.size W' (W'.alloc (.cells #[.int .i64 0, .int .i64 0, .int .i64 0, .int .i64 0, .bool false, .int .i64 0, .bool false, .int .i64 0, .int .i64 0, .int .i64 0, .bool false, .int .i64 0] 27)) := (Below.refl _ _).alloc (Nat.le_refl _) _
      exact hK _ _ ⟨⟨bstep hB hB.size hb1, hx.below hb1 hx.lt, hy.below hb1 hy.lt, Nat.le_trans hM0 hb1.size, hz.below hb1 hz.lt, hw_.below hb1 hw_.lt⟩, ⟨_, rfl, hM0, _, _, _, _, _, _, _, _, _, _, _, _, BoxAt.new _ _ _⟩, hb1, rfl, by simp⟩
    case a10 =>
      go_light
      intro L σ W' hcl hL hC hw hne
      obtain ⟨A5, n5, c5, e5, hp5⟩ := wE hw 5 rfl
      obtain ⟨g8, e8, hg8, x0, x1, x2, x3, x4, hbox8⟩ := wE hw 8 rfl
      clear hw hne
      have HC := Lib.hid hC
      clear hC
      clear hcl hL
      have kc_ := hbox8.cell
      have kf_ := hbox8.frozen
      refine OpGoes.step fun K hK => ?_
      unfold OpGoes
      go_simp
      obtain ⟨hB, hx, hy, hM0, hz, hw_⟩ := HC.out
      have hset := sets_all (us := [.int .i64 q.1.rd, .int .i64 q.1.mo, .slice A5 n5 c5, .int .i64 q.1.fi, .int .i64 q.1.la]) hbox8 rfl
      refine hK undef (setCells W' g8 0 [.int .i64 q.1.rd, .int .i64 q.1.mo, .slice A5 n5 c5, .int .i64 q.1.fi, .int .i64 q.1.la]) ⟨⟨(Below.setCells (by omega) _ 0 hB), (BoxAt.sets_ne _ 0 hx (by omega)), (BoxAt.sets_ne _ 0 hy (by omega)), (size_sts hM0 _ 0), (BoxAt.sets_ne _ 0 hz (by omega)), (BoxAt.sets_ne _ 0 hw_ (by omega))⟩, ⟨g8, A5, n5, c5, e8, hg8, hset, ((RgsW.setsT hp5 hbox8 (by decide) (by decide) _ 0).mono (Nat.le_refl _) (Nat.le_of_eq (sets_size _ _ _).symm))⟩, Nat.le_of_eq (sets_size _ _ _).symm, keepV ?_⟩
      exact ⟨fun _ _ ⟨A1_x, n1_x, c1_x, e, hp⟩ => ⟨A1_x, n1_x, c1_x, e, ((RgsW.setsT hp hbox8 (by decide) (by decide) _ 0).mono (Nat.le_refl _) (Nat.le_of_eq (sets_size _ _ _).symm))⟩, fun _ _ ⟨A5_x, n5_x, c5_x, e, hp⟩ => ⟨A5_x, n5_x, c5_x, e, ((RgsW.setsT hp hbox8 (by decide) (by decide) _ 0).mono (Nat.le_refl _) (Nat.le_of_eq (sets_size _ _ _).symm))⟩, fun _ _ ⟨A5_x, n5_x, c5_x, e, hp⟩ => ⟨A5_x, n5_x, c5_x, e, ((RgsW.setsT hp hbox8 (by decide) (by decide) _ 0).mono (Nat.le_refl _) (Nat.le_of_eq (sets_size _ _ _).symm))⟩, fun _ _ ⟨A5_x, n5_x, c5_x, e, hp⟩ => ⟨A5_x, n5_x, c5_x, e, ((RgsW.setsT hp hbox8 (by decide) (by decide) _ 0).mono (Nat.le_refl _) (Nat.le_of_eq (sets_size _ _ _).symm))⟩, fun _ _ _ => ⟨g8, e8, hg8, _, _, _, _, _, hset⟩, fun _ _ ⟨g, e, hg, x0, x1, x2, x3, x4, x5, x6, x7, x8, x9, x10, x11, hx⟩ => ⟨g, e, hg, x0, x1, x2, x3, x4, x5, x6, x7, x8, x9, x10, x11, (BoxAt.sets_ne _ 0 hx (by first | omega | exact box_neM hx hbox8 (by decide)))⟩, fun h => absurd rfl h, fun _ _ ⟨g, e, hg, hx⟩ => ⟨g, e, hg, (BoxAt.sets_ne _ 0 hx (by first | omega | exact box_neM hx hbox8 (by decide)))⟩, trivial⟩
    case a11 =>
      go_light
      intro L σ W' hcl hL hC hw hne
      have e6 := wV hw 6 rfl
      obtain ⟨g9, e9, hg9, x0, x1, x2, x3, x4, x5, x6, x7, x8, x9, x10, x11, hbox9⟩ := wE hw 9 rfl
      clear hw hne
      have HC := Lib.hid hC
      clear hC
      clear hcl hL
      have kc_ := hbox9.cell
      have kf_ := hbox9.frozen
      refine OpGoes.step fun K hK => ?_
      unfold OpGoes
      go_simp
      obtain ⟨hB, hx, hy, hM0, hz, hw_⟩ := HC.out
      have hset := sets_all (us := [.int .i64 q.2.1.at_, .int .i64 q.2.1.v, .int .i64 q.2.1.r, .int .i64 q.2.1.t, .bool q.2.1.seen.s, .int .i64 q.2.1.seen.n, .bool q.2.1.seen.f, .int .i64 q.2.1.seen.v, .int .i64 q.2.1.tr, .int .i64 q.2.1.sp, .bool q.2.1.ag, .int .i64 q.2.1.re]) hbox9 rfl
      refine hK undef (setCells W' g9 0 [.int .i64 q.2.1.at_, .int .i64 q.2.1.v, .int .i64 q.2.1.r, .int .i64 q.2.1.t, .bool q.2.1.seen.s, .int .i64 q.2.1.seen.n, .bool q.2.1.seen.f, .int .i64 q.2.1.seen.v, .int .i64 q.2.1.tr, .int .i64 q.2.1.sp, .bool q.2.1.ag, .int .i64 q.2.1.re]) ⟨⟨(Below.setCells (by omega) _ 0 hB), (BoxAt.sets_ne _ 0 hx (by omega)), (BoxAt.sets_ne _ 0 hy (by omega)), (size_sts hM0 _ 0), (BoxAt.sets_ne _ 0 hz (by omega)), (BoxAt.sets_ne _ 0 hw_ (by omega))⟩, ⟨g9, e9, hg9, hset⟩, Nat.le_of_eq (sets_size _ _ _).symm, keepV ?_⟩
      exact ⟨fun _ _ ⟨A1_x, n1_x, c1_x, e, hp⟩ => ⟨A1_x, n1_x, c1_x, e, ((RgsW.setsT hp hbox9 (by decide) (by decide) _ 0).mono (Nat.le_refl _) (Nat.le_of_eq (sets_size _ _ _).symm))⟩, fun _ _ ⟨A5_x, n5_x, c5_x, e, hp⟩ => ⟨A5_x, n5_x, c5_x, e, ((RgsW.setsT hp hbox9 (by decide) (by decide) _ 0).mono (Nat.le_refl _) (Nat.le_of_eq (sets_size _ _ _).symm))⟩, fun _ _ ⟨A5_x, n5_x, c5_x, e, hp⟩ => ⟨A5_x, n5_x, c5_x, e, ((RgsW.setsT hp hbox9 (by decide) (by decide) _ 0).mono (Nat.le_refl _) (Nat.le_of_eq (sets_size _ _ _).symm))⟩, fun _ _ ⟨A5_x, n5_x, c5_x, e, hp⟩ => ⟨A5_x, n5_x, c5_x, e, ((RgsW.setsT hp hbox9 (by decide) (by decide) _ 0).mono (Nat.le_refl _) (Nat.le_of_eq (sets_size _ _ _).symm))⟩, fun _ _ ⟨g, e, hg, x0, x1, x2, x3, x4, hx⟩ => ⟨g, e, hg, x0, x1, x2, x3, x4, (BoxAt.sets_ne _ 0 hx (by first | omega | exact box_neM hx hbox9 (by decide)))⟩, fun _ _ _ => ⟨g9, e9, hg9, _, _, _, _, _, _, _, _, _, _, _, _, hset⟩, fun _ _ ⟨g, A5, n5, c5, e, hg, hx, hp⟩ => ⟨g, A5, n5, c5, e, hg, (BoxAt.sets_ne _ 0 hx (by first | omega | exact box_neM hx hbox9 (by decide))), ((RgsW.setsT hp hbox9 (by decide) (by decide) _ 0).mono (Nat.le_refl _) (Nat.le_of_eq (sets_size _ _ _).symm))⟩, fun h => absurd rfl h, trivial⟩
    · intro L L' W' hLL hC
      obtain ⟨hB, hx, hy, hM0, hz, hw_⟩ := hC
      exact ⟨hB, hx, hy, hM0, hz, hw_⟩
    · intro σ L W' hall hC hRR
      obtain ⟨hB, hx, hy, hM0, hz, hw_⟩ := hC
      obtain ⟨g8, A5, n5, c5, e8, hg10, s10, hp10⟩ := dE hRR 10 rfl
      obtain ⟨g9, e9, hg11, s11⟩ := dE hRR 11 rfl
      have e12 := dV hRR 12 rfl
      clear hRR
      simp only [lexAll]
      go_simp
      go_step
      go_meet
      exact ⟨hB, hx, hy, hz, hw_, hM0, g8, g9, A5, n5, c5, hg10, hg11, s10, s11, hp10, rfl, rfl, rfl⟩
  case rest =>
    clear hB hx hy hz hw_ hM0
    obtain ⟨hB, hx, hy, hz, hw_, hM0, X, Y, A5, n5, c5, hXM, hYM, hX, hY, hG, rfl, rfl, rfl⟩ := hcut
    cases hq2 : q.2.2
    · have HV := Lib.hid (show stepS putS putB s (⟨at_, v, r, t, seen, tr, sp, ag, re⟩ : Hd) = (s, (⟨at_, v, r, t, seen, tr, sp, ag, re⟩ : Hd), false) by simp [stepS, HOK.out, HHO.out, HTB.out, HRB.out, HQ.out, hq2])
      go_upto_region 7 with fail
      obtain ⟨M0, hMe⟩ : ∃ M1, M1 = wc.heap.size := ⟨_, rfl⟩
      have hM0 : M0 ≤ wc.heap.size := by omega
      have hM4 : w.heap.size + 4 ≤ M0 := by have := hw_.lt; omega
      clear hMe 
      refine wp_region2v (fun w w' => Below w.heap.size w w') (fun _ _ h => h.size) (fun _ => Below.refl _ _) (fun L W' => Below w.heap.size w W' ∧ BoxAt W' w.heap.size #[.int .i64 s.rd, .int .i64 s.mo, .slice A n cap, .int .i64 s.fi, .int .i64 s.la] 72 ∧ BoxAt W' (w.heap.size + 1) #[.int .i64 at_, .int .i64 v, .int .i64 r, .int .i64 t, .bool seen.s, .int .i64 seen.n, .bool seen.f, .int .i64 seen.v, .int .i64 tr, .int .i64 sp, .bool ag, .int .i64 re] 27 ∧ M0 ≤ W'.heap.size ∧ (∃ x0 x1 x2 x3 x4, BoxAt W' (w.heap.size + 1 + 1) #[x0, x1, x2, x3, x4] 72) ∧ (L 3 = false → BoxAt W' (w.heap.size + 1 + 1) #[.int .i64 0, .int .i64 0, .slice none 0 0, .int .i64 0, .int .i64 0] 72) ∧ (∃ x0 x1 x2 x3 x4 x5 x6 x7 x8 x9 x10 x11, BoxAt W' (w.heap.size + 1 + 1 + 1) #[x0, x1, x2, x3, x4, x5, x6, x7, x8, x9, x10, x11] 27) ∧ (L 4 = false → BoxAt W' (w.heap.size + 1 + 1 + 1) #[.int .i64 0, .int .i64 0, .int .i64 0, .int .i64 0, .bool false, .int .i64 0, .bool false, .int .i64 0, .int .i64 0, .int .i64 0, .bool false, .int .i64 0] 27)) (ps7V s w.heap.size M0 n cap A at_ v r t seen tr sp ag re) (fun j => [0, 0, 0, 1, 1, 0].getD j 0) [] (by kernel_rfl) (by kernel_rfl) ?_ ?_ ?_
        (.still rfl ?a0 <| .grow rfl ?a1 <| .still rfl ?a2 <| .store rfl ?a3 <| .store rfl ?a4 <| .still rfl ?a5 <| .nil) ?_ ?_
      · exact ⟨fun _ _ _ h ⟨A5, n5, c5, e, hp⟩ => ⟨A5, n5, c5, (h 1 (List.mem_singleton.2 rfl)).symm.trans e, hp⟩, fun _ _ _ _ h => h, fun _ _ _ _ h => h, trivial⟩
      · exact ⟨fun σ w w' hb ⟨A5, n5, c5, e, hp⟩ => ⟨A5, n5, c5, e, (hp.below hb (Nat.le_refl _)).mono (Nat.le_refl _) hb.size⟩, fun σ w w' hb ⟨A5, n5, c5, hx, hp⟩ => ⟨A5, n5, c5, hx.below hb hx.lt, (hp.below hb (Nat.le_refl _)).mono (Nat.le_refl _) hb.size⟩, fun σ w w' hb hR => hR.below hb hR.lt, trivial⟩
      · exact ⟨hB.drew, hx, hy, hM0, ⟨_, _, _, _, _, hz⟩, fun _ => hz, ⟨_, _, _, _, _, _, _, _, _, _, _, _, hw_⟩, fun _ => hw_⟩
      case a0 =>
        go_light
        intro L σ W' hcl hL hC hw
        have ks := hC.2.1.cell
        clear hw hcl hL hC
        refine OpGoes.step fun K hK => ?_
        unfold OpGoes
        go_simp
        exact hK _ _ ⟨rfl, rfl⟩
      case a2 =>
        go_light
        intro L σ W' hcl hL hC hw
        have kh := hC.2.2.1.cell
        clear hw hcl hL hC
        refine OpGoes.step fun K hK => ?_
        unfold OpGoes
        go_simp
        exact hK _ _ ⟨rfl, rfl⟩
      case a5 =>
        go_light
        intro L σ W' hcl hL hC hw
        clear hw hcl hL hC
        refine OpGoes.step fun K hK => ?_
        unfold OpGoes
        go_simp
        exact hK _ _ ⟨rfl, rfl⟩
      case a1 =>
        go_light
        intro L σ W' hcl hL hC hw
        have e0 := wV hw 0 rfl
        clear hw
        have HC := Lib.hid hC
        clear hC
        clear hcl hL
        refine OpGoes.step fun K hK => ?_
        unfold OpGoes
        go_simp
        obtain ⟨hB, hx, hy, hM0, ⟨_, _, _, _, _, hz⟩, hz_o, ⟨_, _, _, _, _, _, _, _, _, _, _, _, hw_⟩, hw__o⟩ := HC.out
        refine (HCPY.out _ hB).mono ?_
        rintro e w1 ⟨A5, n5, c5, rfl, hG5, hb1⟩
        exact ⟨_, rfl, hK _ _ ⟨⟨bstep hB hB.size hb1, hx.below hb1 hx.lt, hy.below hb1 hy.lt, Nat.le_trans hM0 hb1.size, ⟨_, _, _, _, _, hz.below hb1 hz.lt⟩, fun h => (hz_o (by simpa [upd] using h)).below hb1 (hz_o (by simpa [upd] using h)).lt, ⟨_, _, _, _, _, _, _, _, _, _, _, _, hw_.below hb1 hw_.lt⟩, fun h => (hw__o (by simpa [upd] using h)).below hb1 (hw__o (by simpa [upd] using h)).lt⟩, ⟨A5, n5, c5, rfl, hG5.mono hM0 (Nat.le_refl _)⟩, hb1⟩⟩
      case a3 =>
        go_light
        intro L σ W' hcl hL hC hw hne
        obtain ⟨A5, n5, c5, e1, hp1⟩ := wE hw 1 rfl
        clear hw hne
        have HC := Lib.hid hC
        obtain ⟨hB, hx, hy, hM0, ⟨_, _, _, _, _, hz⟩, hz_o, ⟨_, _, _, _, _, _, _, _, _, _, _, _, hw_⟩, hw__o⟩ := hC
        clear hcl hL
        have kc_ := hz.cell
        have kf_ := hz.frozen
        clear hB hx hy hM0 hz hz_o hw_ hw__o
        refine OpGoes.step fun K hK => ?_
        unfold OpGoes
        go_simp
        obtain ⟨hB, hx, hy, hM0, ⟨_, _, _, _, _, hz⟩, hz_o, ⟨_, _, _, _, _, _, _, _, _, _, _, _, hw_⟩, hw__o⟩ := HC.out
        have hset := sets_all (us := [.int .i64 s.rd, .int .i64 s.mo, .slice A5 n5 c5, .int .i64 s.fi, .int .i64 s.la]) hz rfl
        refine hK undef (setCells W' (w.heap.size + 1 + 1) 0 [.int .i64 s.rd, .int .i64 s.mo, .slice A5 n5 c5, .int .i64 s.fi, .int .i64 s.la]) ⟨⟨(Below.setCells (by omega) _ 0 hB), (BoxAt.sets_ne _ 0 hx (by omega)), (BoxAt.sets_ne _ 0 hy (by omega)), (size_sts hM0 _ 0), ⟨_, _, _, _, _, hset⟩, fun h => absurd h (by simp [upd]), ⟨_, _, _, _, _, _, _, _, _, _, _, _, (BoxAt.sets_ne _ 0 hw_ (by omega))⟩, fun h => (BoxAt.sets_ne _ 0 (hw__o (by simpa [upd] using h)) (by omega))⟩, ⟨A5, n5, c5, hset, ((RgsW.setsT hp1 hz (by decide) (by decide) _ 0).mono (Nat.le_refl _) (Nat.le_of_eq (sets_size _ _ _).symm))⟩, Nat.le_of_eq (sets_size _ _ _).symm, keepV ?_⟩
        exact ⟨fun _ _ ⟨A5_x, n5_x, c5_x, e, hp⟩ => ⟨A5_x, n5_x, c5_x, e, ((RgsW.setsT hp hz (by decide) (by decide) _ 0).mono (Nat.le_refl _) (Nat.le_of_eq (sets_size _ _ _).symm))⟩, fun h => absurd rfl h, fun _ _ hR => (BoxAt.sets_ne _ 0 hR (by omega)), trivial⟩
      case a4 =>
        go_light
        intro L σ W' hcl hL hC hw hne
        have e2 := wV hw 2 rfl
        clear hw hne
        have HC := Lib.hid hC
        obtain ⟨hB, hx, hy, hM0, ⟨_, _, _, _, _, hz⟩, hz_o, ⟨_, _, _, _, _, _, _, _, _, _, _, _, hw_⟩, hw__o⟩ := hC
        clear hcl hL
        have kc_ := hw_.cell
        have kf_ := hw_.frozen
        clear hB hx hy hM0 hz hz_o hw_ hw__o
        refine OpGoes.step fun K hK => ?_
        unfold OpGoes
        go_simp
        obtain ⟨hB, hx, hy, hM0, ⟨_, _, _, _, _, hz⟩, hz_o, ⟨_, _, _, _, _, _, _, _, _, _, _, _, hw_⟩, hw__o⟩ := HC.out
        have hset := sets_all (us := [.int .i64 at_, .int .i64 v, .int .i64 r, .int .i64 t, .bool seen.s, .int .i64 seen.n, .bool seen.f, .int .i64 seen.v, .int .i64 tr, .int .i64 sp, .bool ag, .int .i64 re]) hw_ rfl
        refine hK undef (setCells W' (w.heap.size + 1 + 1 + 1) 0 [.int .i64 at_, .int .i64 v, .int .i64 r, .int .i64 t, .bool seen.s, .int .i64 seen.n, .bool seen.f, .int .i64 seen.v, .int .i64 tr, .int .i64 sp, .bool ag, .int .i64 re]) ⟨⟨(Below.setCells (by omega) _ 0 hB), (BoxAt.sets_ne _ 0 hx (by omega)), (BoxAt.sets_ne _ 0 hy (by omega)), (size_sts hM0 _ 0), ⟨_, _, _, _, _, (BoxAt.sets_ne _ 0 hz (by omega))⟩, fun h => (BoxAt.sets_ne _ 0 (hz_o (by simpa [upd] using h)) (by omega)), ⟨_, _, _, _, _, _, _, _, _, _, _, _, hset⟩, fun h => absurd h (by simp [upd])⟩, hset, Nat.le_of_eq (sets_size _ _ _).symm, keepV ?_⟩
        exact ⟨fun _ _ ⟨A5_x, n5_x, c5_x, e, hp⟩ => ⟨A5_x, n5_x, c5_x, e, ((RgsW.setsT hp hw_ (by decide) (by decide) _ 0).mono (Nat.le_refl _) (Nat.le_of_eq (sets_size _ _ _).symm))⟩, fun _ _ ⟨A5, n5, c5, hx, hp⟩ => ⟨A5, n5, c5, (BoxAt.sets_ne _ 0 hx (by omega)), ((RgsW.setsT hp hw_ (by decide) (by decide) _ 0).mono (Nat.le_refl _) (Nat.le_of_eq (sets_size _ _ _).symm))⟩, fun h => absurd rfl h, trivial⟩
      · intro L L' W' hLL hC
        obtain ⟨hB, hx, hy, hM0, ⟨_, _, _, _, _, hz⟩, hz_o, ⟨_, _, _, _, _, _, _, _, _, _, _, _, hw_⟩, hw__o⟩ := hC
        exact ⟨hB, hx, hy, hM0, ⟨_, _, _, _, _, hz⟩, fun h => hz_o (hLL _ h), ⟨_, _, _, _, _, _, _, _, _, _, _, _, hw_⟩, fun h => hw__o (hLL _ h)⟩
      · intro σ L W' hall hC hRR
        obtain ⟨hB, hx, hy, hM0, ⟨_, _, _, _, _, hz⟩, hz_o, ⟨_, _, _, _, _, _, _, _, _, _, _, _, hw_⟩, hw__o⟩ := hC
        obtain ⟨A5, n5, c5, s3, hp3⟩ := dE hRR 3 rfl
        have s4 := dE hRR 4 rfl
        have e5 := dV hRR 5 rfl
        clear hRR
        simp only [lexAll]
        go_simp
        go_step
        have k7 := s3.cell
        have k8 := s4.cell
        go_wp2
        refine bodyPost_ret (v := .tuple #[stV s A5 n5 c5, hdV (⟨at_, v, r, t, seen, tr, sp, ag, re⟩ : Hd), .bool false]) (by simp [results, Try.results89, go_sem, k7, k8, stV, hdV]) rfl ⟨A5, n5, c5, by rw [HV.out], ?_, hB⟩
        rw [HV.out]
        exact hp3.mono (by omega) (Nat.le_refl _)
    · have HQ2 := Lib.hid hq2; clear hq2
      have kX := hX.cell
      go_wp2_with fail
      clear kX
      refine (sstoreOk_any q.1 A5 n5 c5 M0 wc.heap.size _ hG (Nat.le_refl _) (by have := hG.1; have := HQN.out.2.1; omega) HQN.out.len).mono ?_
      rintro e w4 ⟨rfl, hb⟩
      replace hX := hX.below hb hX.lt
      replace hY := hY.below hb hY.lt
      replace hG := (hG.below hb (Nat.le_refl _)).mono (Nat.le_refl _) hb.size
      replace hx := hx.below hb hx.lt
      replace hy := hy.below hb hy.lt
      replace hz := hz.below hb hz.lt
      replace hw_ := hw_.below hb hw_.lt
      replace hB := bstep hB hB.size hb
      have h4 := hb.size
      clear hb
      cases hsq : stOk q.1
      · have HV := Lib.hid (show stepS putS putB s (⟨at_, v, r, t, seen, tr, sp, ag, re⟩ : Hd) = (s, (⟨at_, v, r, t, seen, tr, sp, ag, re⟩ : Hd), false) by simp [stepS, HOK.out, HHO.out, HTB.out, HRB.out, HQ.out, HQ2.out, hsq])
        go_upto_region 7 with fail
        obtain ⟨M0, hMe⟩ : ∃ M1, M1 = w4.heap.size := ⟨_, rfl⟩
        have hM0 : M0 ≤ w4.heap.size := by omega
        have hM4 : w.heap.size + 4 ≤ M0 := by have := hw_.lt; omega
        clear hMe 
        refine wp_region2v (fun w w' => Below w.heap.size w w') (fun _ _ h => h.size) (fun _ => Below.refl _ _) (fun L W' => Below w.heap.size w W' ∧ BoxAt W' w.heap.size #[.int .i64 s.rd, .int .i64 s.mo, .slice A n cap, .int .i64 s.fi, .int .i64 s.la] 72 ∧ BoxAt W' (w.heap.size + 1) #[.int .i64 at_, .int .i64 v, .int .i64 r, .int .i64 t, .bool seen.s, .int .i64 seen.n, .bool seen.f, .int .i64 seen.v, .int .i64 tr, .int .i64 sp, .bool ag, .int .i64 re] 27 ∧ M0 ≤ W'.heap.size ∧ (∃ x0 x1 x2 x3 x4, BoxAt W' (w.heap.size + 1 + 1) #[x0, x1, x2, x3, x4] 72) ∧ (L 3 = false → BoxAt W' (w.heap.size + 1 + 1) #[.int .i64 0, .int .i64 0, .slice none 0 0, .int .i64 0, .int .i64 0] 72) ∧ (∃ x0 x1 x2 x3 x4 x5 x6 x7 x8 x9 x10 x11, BoxAt W' (w.heap.size + 1 + 1 + 1) #[x0, x1, x2, x3, x4, x5, x6, x7, x8, x9, x10, x11] 27) ∧ (L 4 = false → BoxAt W' (w.heap.size + 1 + 1 + 1) #[.int .i64 0, .int .i64 0, .int .i64 0, .int .i64 0, .bool false, .int .i64 0, .bool false, .int .i64 0, .int .i64 0, .int .i64 0, .bool false, .int .i64 0] 27)) (ps7V s w.heap.size M0 n cap A at_ v r t seen tr sp ag re) (fun j => [0, 0, 0, 1, 1, 0].getD j 0) [] (by kernel_rfl) (by kernel_rfl) ?_ ?_ ?_
          (.still rfl ?a0 <| .grow rfl ?a1 <| .still rfl ?a2 <| .store rfl ?a3 <| .store rfl ?a4 <| .still rfl ?a5 <| .nil) ?_ ?_
        · exact ⟨fun _ _ _ h ⟨A5, n5, c5, e, hp⟩ => ⟨A5, n5, c5, (h 1 (List.mem_singleton.2 rfl)).symm.trans e, hp⟩, fun _ _ _ _ h => h, fun _ _ _ _ h => h, trivial⟩
        · exact ⟨fun σ w w' hb ⟨A5, n5, c5, e, hp⟩ => ⟨A5, n5, c5, e, (hp.below hb (Nat.le_refl _)).mono (Nat.le_refl _) hb.size⟩, fun σ w w' hb ⟨A5, n5, c5, hx, hp⟩ => ⟨A5, n5, c5, hx.below hb hx.lt, (hp.below hb (Nat.le_refl _)).mono (Nat.le_refl _) hb.size⟩, fun σ w w' hb hR => hR.below hb hR.lt, trivial⟩
        · exact ⟨hB.drew, hx, hy, hM0, ⟨_, _, _, _, _, hz⟩, fun _ => hz, ⟨_, _, _, _, _, _, _, _, _, _, _, _, hw_⟩, fun _ => hw_⟩
        case a0 =>
          go_light
          intro L σ W' hcl hL hC hw
          have ks := hC.2.1.cell
          clear hw hcl hL hC
          refine OpGoes.step fun K hK => ?_
          unfold OpGoes
          go_simp
          exact hK _ _ ⟨rfl, rfl⟩
        case a2 =>
          go_light
          intro L σ W' hcl hL hC hw
          have kh := hC.2.2.1.cell
          clear hw hcl hL hC
          refine OpGoes.step fun K hK => ?_
          unfold OpGoes
          go_simp
          exact hK _ _ ⟨rfl, rfl⟩
        case a5 =>
          go_light
          intro L σ W' hcl hL hC hw
          clear hw hcl hL hC
          refine OpGoes.step fun K hK => ?_
          unfold OpGoes
          go_simp
          exact hK _ _ ⟨rfl, rfl⟩
        case a1 =>
          go_light
          intro L σ W' hcl hL hC hw
          have e0 := wV hw 0 rfl
          clear hw
          have HC := Lib.hid hC
          clear hC
          clear hcl hL
          refine OpGoes.step fun K hK => ?_
          unfold OpGoes
          go_simp
          obtain ⟨hB, hx, hy, hM0, ⟨_, _, _, _, _, hz⟩, hz_o, ⟨_, _, _, _, _, _, _, _, _, _, _, _, hw_⟩, hw__o⟩ := HC.out
          refine (HCPY.out _ hB).mono ?_
          rintro e w1 ⟨A5, n5, c5, rfl, hG5, hb1⟩
          exact ⟨_, rfl, hK _ _ ⟨⟨bstep hB hB.size hb1, hx.below hb1 hx.lt, hy.below hb1 hy.lt, Nat.le_trans hM0 hb1.size, ⟨_, _, _, _, _, hz.below hb1 hz.lt⟩, fun h => (hz_o (by simpa [upd] using h)).below hb1 (hz_o (by simpa [upd] using h)).lt, ⟨_, _, _, _, _, _, _, _, _, _, _, _, hw_.below hb1 hw_.lt⟩, fun h => (hw__o (by simpa [upd] using h)).below hb1 (hw__o (by simpa [upd] using h)).lt⟩, ⟨A5, n5, c5, rfl, hG5.mono hM0 (Nat.le_refl _)⟩, hb1⟩⟩
        case a3 =>
          go_light
          intro L σ W' hcl hL hC hw hne
          obtain ⟨A5, n5, c5, e1, hp1⟩ := wE hw 1 rfl
          clear hw hne
          have HC := Lib.hid hC
          obtain ⟨hB, hx, hy, hM0, ⟨_, _, _, _, _, hz⟩, hz_o, ⟨_, _, _, _, _, _, _, _, _, _, _, _, hw_⟩, hw__o⟩ := hC
          clear hcl hL
          have kc_ := hz.cell
          have kf_ := hz.frozen
          clear hB hx hy hM0 hz hz_o hw_ hw__o
          refine OpGoes.step fun K hK => ?_
          unfold OpGoes
          go_simp
          obtain ⟨hB, hx, hy, hM0, ⟨_, _, _, _, _, hz⟩, hz_o, ⟨_, _, _, _, _, _, _, _, _, _, _, _, hw_⟩, hw__o⟩ := HC.out
          have hset := sets_all (us := [.int .i64 s.rd, .int .i64 s.mo, .slice A5 n5 c5, .int .i64 s.fi, .int .i64 s.la]) hz rfl
          refine hK undef (setCells W' (w.heap.size + 1 + 1) 0 [.int .i64 s.rd, .int .i64 s.mo, .slice A5 n5 c5, .int .i64 s.fi, .int .i64 s.la]) ⟨⟨(Below.setCells (by omega) _ 0 hB), (BoxAt.sets_ne _ 0 hx (by omega)), (BoxAt.sets_ne _ 0 hy (by omega)), (size_sts hM0 _ 0), ⟨_, _, _, _, _, hset⟩, fun h => absurd h (by simp [upd]), ⟨_, _, _, _, _, _, _, _, _, _, _, _, (BoxAt.sets_ne _ 0 hw_ (by omega))⟩, fun h => (BoxAt.sets_ne _ 0 (hw__o (by simpa [upd] using h)) (by omega))⟩, ⟨A5, n5, c5, hset, ((RgsW.setsT hp1 hz (by decide) (by decide) _ 0).mono (Nat.le_refl _) (Nat.le_of_eq (sets_size _ _ _).symm))⟩, Nat.le_of_eq (sets_size _ _ _).symm, keepV ?_⟩
          exact ⟨fun _ _ ⟨A5_x, n5_x, c5_x, e, hp⟩ => ⟨A5_x, n5_x, c5_x, e, ((RgsW.setsT hp hz (by decide) (by decide) _ 0).mono (Nat.le_refl _) (Nat.le_of_eq (sets_size _ _ _).symm))⟩, fun h => absurd rfl h, fun _ _ hR => (BoxAt.sets_ne _ 0 hR (by omega)), trivial⟩
        case a4 =>
          go_light
          intro L σ W' hcl hL hC hw hne
          have e2 := wV hw 2 rfl
          clear hw hne
          have HC := Lib.hid hC
          obtain ⟨hB, hx, hy, hM0, ⟨_, _, _, _, _, hz⟩, hz_o, ⟨_, _, _, _, _, _, _, _, _, _, _, _, hw_⟩, hw__o⟩ := hC
          clear hcl hL
          have kc_ := hw_.cell
          have kf_ := hw_.frozen
          clear hB hx hy hM0 hz hz_o hw_ hw__o
          refine OpGoes.step fun K hK => ?_
          unfold OpGoes
          go_simp
          obtain ⟨hB, hx, hy, hM0, ⟨_, _, _, _, _, hz⟩, hz_o, ⟨_, _, _, _, _, _, _, _, _, _, _, _, hw_⟩, hw__o⟩ := HC.out
          have hset := sets_all (us := [.int .i64 at_, .int .i64 v, .int .i64 r, .int .i64 t, .bool seen.s, .int .i64 seen.n, .bool seen.f, .int .i64 seen.v, .int .i64 tr, .int .i64 sp, .bool ag, .int .i64 re]) hw_ rfl
          refine hK undef (setCells W' (w.heap.size + 1 + 1 + 1) 0 [.int .i64 at_, .int .i64 v, .int .i64 r, .int .i64 t, .bool seen.s, .int .i64 seen.n, .bool seen.f, .int .i64 seen.v, .int .i64 tr, .int .i64 sp, .bool ag, .int .i64 re]) ⟨⟨(Below.setCells (by omega) _ 0 hB), (BoxAt.sets_ne _ 0 hx (by omega)), (BoxAt.sets_ne _ 0 hy (by omega)), (size_sts hM0 _ 0), ⟨_, _, _, _, _, (BoxAt.sets_ne _ 0 hz (by omega))⟩, fun h => (BoxAt.sets_ne _ 0 (hz_o (by simpa [upd] using h)) (by omega)), ⟨_, _, _, _, _, _, _, _, _, _, _, _, hset⟩, fun h => absurd h (by simp [upd])⟩, hset, Nat.le_of_eq (sets_size _ _ _).symm, keepV ?_⟩
          exact ⟨fun _ _ ⟨A5_x, n5_x, c5_x, e, hp⟩ => ⟨A5_x, n5_x, c5_x, e, ((RgsW.setsT hp hw_ (by decide) (by decide) _ 0).mono (Nat.le_refl _) (Nat.le_of_eq (sets_size _ _ _).symm))⟩, fun _ _ ⟨A5, n5, c5, hx, hp⟩ => ⟨A5, n5, c5, (BoxAt.sets_ne _ 0 hx (by omega)), ((RgsW.setsT hp hw_ (by decide) (by decide) _ 0).mono (Nat.le_refl _) (Nat.le_of_eq (sets_size _ _ _).symm))⟩, fun h => absurd rfl h, trivial⟩
        · intro L L' W' hLL hC
          obtain ⟨hB, hx, hy, hM0, ⟨_, _, _, _, _, hz⟩, hz_o, ⟨_, _, _, _, _, _, _, _, _, _, _, _, hw_⟩, hw__o⟩ := hC
          exact ⟨hB, hx, hy, hM0, ⟨_, _, _, _, _, hz⟩, fun h => hz_o (hLL _ h), ⟨_, _, _, _, _, _, _, _, _, _, _, _, hw_⟩, fun h => hw__o (hLL _ h)⟩
        · intro σ L W' hall hC hRR
          obtain ⟨hB, hx, hy, hM0, ⟨_, _, _, _, _, hz⟩, hz_o, ⟨_, _, _, _, _, _, _, _, _, _, _, _, hw_⟩, hw__o⟩ := hC
          obtain ⟨A5, n5, c5, s3, hp3⟩ := dE hRR 3 rfl
          have s4 := dE hRR 4 rfl
          have e5 := dV hRR 5 rfl
          clear hRR
          simp only [lexAll]
          go_simp
          go_step
          have k7 := s3.cell
          have k8 := s4.cell
          go_wp2
          refine bodyPost_ret (v := .tuple #[stV s A5 n5 c5, hdV (⟨at_, v, r, t, seen, tr, sp, ag, re⟩ : Hd), .bool false]) (by simp [results, Try.results89, go_sem, k7, k8, stV, hdV]) rfl ⟨A5, n5, c5, by rw [HV.out], ?_, hB⟩
          rw [HV.out]
          exact hp3.mono (by omega) (Nat.le_refl _)
      · have HSQ := Lib.hid hsq; clear hsq
        go_upto_region 8 with fail
        clear HCPY HTK
        have HV := Lib.hid (show stepS putS putB s (⟨at_, v, r, t, seen, tr, sp, ag, re⟩ : Hd) = (q.1, q.2.1, true) by simp [stepS, HOK.out, HHO.out, HTB.out, HRB.out, HQ.out, HQ2.out, HSQ.out])
        refine ps8_wp w q.1 M0 w4.heap.size A5 n5 c5 q.2.1 X Y (by kernel_rfl) (by omega) (by omega) ⟨hB, hX, hY, hz, hw_, hG, Nat.le_refl _⟩ ?_
        clear hB hX hY hx hy hz hw_ hG
        generalize hq2 : q.2.1 = h2 at *
        clear hq2
        intro _ _ W' hB k7 k8 hG _
        replace k7 := k7.cell
        replace k8 := k8.cell
        go_step
        go_wp2
        refine bodyPost_ret (v := .tuple #[stV q.1 A5 n5 c5, hdV h2, .bool true]) (by simp [results, Try.results89, go_sem, k7, k8, stV, hdV, Hd.rest, Hd.zero]) rfl ⟨A5, n5, c5, by rw [HV.out], ?_, hB⟩
        rw [HV.out]
        exact hG.cut.mono (by omega) (Nat.le_refl _)


end Go.Proofs.Ytaieigdnfdnnpaa

/-
  A step of whoever it is, and whether a hand fits, of the model.
-/
namespace Go.Proofs.Ytaieigdnfdnnpaa
set_option linter.unusedSimpArgs false
set_option linter.unusedVariables false
open Go.RowKit
set_option linter.unusedVariables false
attribute [local go_sem] OpUpon
attribute [local go_sem ↓] Go.wp_at_zero Go.wp_at_succ

def stepped (s : St) (h : Hd) : St × Hd × Bool := if isPutting h then stepS putS putB s h else stepS takeS lateB s h
def fits (s : St) (h : Hd) : Bool := stOk s && h.ok && (decide (h.at_ = 0) || (ringB s h.r && decide (h.sp < s.rs.length)))

set_option maxRecDepth 100000 in
set_option maxHeartbeats 4000000 in
theorem sstepped_any (s : St) (A : Option Addr) (n cap lo hi : Nat) (h : Hd) (w : World) (hs : RgsW lo hi w A n cap s.rs) (hh : hi ≤ w.heap.size) (hm : n ≤ 1048576) (hpn : ∀ r ∈ s.rs, r.ps.length ≤ 1048576) :
    Calls Try.prog 84 #[stV s A n cap, hdV h] w (RetSHB w.heap.size (stepped s h) w) := by
  have HPN := Lib.hid hpn; clear hpn
  have HLN := Lib.hid hs.1
  obtain ⟨at_, v, r, t, seen, tr, sp, ag, re⟩ := h
  unfold stV hdV
  dsimp only
  go_enter Try.func84, Try.ntmps84
  go_upto_region 1 with fail
  refine wp_abs (fun W => Below w.heap.size w W ∧ BoxAt W w.heap.size #[.int .i64 s.rd, .int .i64 s.mo, .slice A n cap, .int .i64 s.fi, .int .i64 s.la] 72 ∧ BoxAt W (w.heap.size + 1) #[.int .i64 at_, .int .i64 v, .int .i64 r, .int .i64 t, .bool seen.s, .int .i64 seen.n, .bool seen.f, .int .i64 seen.v, .int .i64 tr, .int .i64 sp, .bool ag, .int .i64 re] 27 ∧ BoxAt W (w.heap.size + 1 + 1) #[.int .i64 0, .int .i64 0, .slice none 0 0, .int .i64 0, .int .i64 0] 72 ∧ BoxAt W (w.heap.size + 1 + 1 + 1) #[.int .i64 0, .int .i64 0, .int .i64 0, .int .i64 0, .bool false, .int .i64 0, .bool false, .int .i64 0, .int .i64 0, .int .i64 0, .bool false, .int .i64 0] 27) ⟨(((((Below.refl _ _).alloc (Nat.le_refl _) _).alloc (by simp) _).alloc (by simp; omega) _).alloc (by simp; omega) _), (((BoxAt.new _ _ _).alloc _).alloc _).alloc _, ((BoxAt.new' (by simp)).alloc _).alloc _, (BoxAt.new' (by simp)).alloc _, BoxAt.new' (by simp)⟩ ?_
  rintro W0 ⟨hB, hx, hy, hz, hw_⟩
  have lw0 := hw_.lt
  have hs0 := hs.below hB hh
  have kx := hx.cell
  have ky := hy.cell
  have fy := hy.frozen
  go_wp2_with fail
  clear kx ky fy hs0
  refine (sisPutting_any (⟨at_, v, r, t, seen, tr, sp, ag, re⟩ : Hd) _).mono ?_
  rintro e w1 ⟨rfl, hb⟩
  replace hz := hz.below hb hz.lt
  replace hw_ := hw_.below hb hw_.lt
  replace hx := hx.below hb hx.lt
  replace hy := hy.below hb hy.lt
  replace hB := bstep hB hB.size hb
  have h1 := hb.size
  clear hb
  cases hp : isPutting (⟨at_, v, r, t, seen, tr, sp, ag, re⟩ : Hd)
  · have HV := Lib.hid (show stepped s (⟨at_, v, r, t, seen, tr, sp, ag, re⟩ : Hd) = stepS takeS lateB s (⟨at_, v, r, t, seen, tr, sp, ag, re⟩ : Hd) by simp [stepped, hp])
    clear hp
    have kx := hx.cell
    have ky := hy.cell
    go_wp2_with fail
    clear kx ky
    refine (stakeStep_any s A n cap lo hi (⟨at_, v, r, t, seen, tr, sp, ag, re⟩ : Hd) _ (hs.below hB hh) (Nat.le_trans hh hB.size) hm HPN.out).mono ?_
    rintro e w2 ⟨A5, n5, c5, rfl, hG5, hb5⟩
    replace hz := hz.below hb5 hz.lt
    replace hw_ := hw_.below hb5 hw_.lt
    have h5 := hb5.size
    have h6 := hB.size
    replace hB := bstep hB hB.size hb5
    clear hb5 hx hy
    generalize hq5 : stepS takeS lateB s (⟨at_, v, r, t, seen, tr, sp, ag, re⟩ : Hd) = q at *
    clear hq5
    unfold stV hdV
    have kz := hz.cell
    have fz := hz.frozen
    have kw := hw_.cell
    have fw := hw_.frozen
    go_wp2
    refine bodyPost_ret (v := .tuple #[stV q.1 A5 n5 c5, hdV q.2.1, .bool q.2.2]) (by simp [results, Try.results84, go_sem, kz, kw, stV, hdV]) rfl ⟨A5, n5, c5, by rw [HV.out], ?_, ?_⟩
    · rw [HV.out]
      exact (RgsW.setsT (RgsW.setsT hG5 hz (by decide) (by decide) [.int .i64 q.1.rd, .int .i64 q.1.mo, .slice A5 n5 c5, .int .i64 q.1.fi, .int .i64 q.1.la] 0) (BoxAt.sets_ne [.int .i64 q.1.rd, .int .i64 q.1.mo, .slice A5 n5 c5, .int .i64 q.1.fi, .int .i64 q.1.la] 0 hw_ (by omega)) (by decide) (by decide) [.int .i64 q.2.1.at_, .int .i64 q.2.1.v, .int .i64 q.2.1.r, .int .i64 q.2.1.t, .bool q.2.1.seen.s, .int .i64 q.2.1.seen.n, .bool q.2.1.seen.f, .int .i64 q.2.1.seen.v, .int .i64 q.2.1.tr, .int .i64 q.2.1.sp, .bool q.2.1.ag, .int .i64 q.2.1.re] 0).mono (by omega) (by simp)
    · exact Below.setCells (by omega) [.int .i64 q.2.1.at_, .int .i64 q.2.1.v, .int .i64 q.2.1.r, .int .i64 q.2.1.t, .bool q.2.1.seen.s, .int .i64 q.2.1.seen.n, .bool q.2.1.seen.f, .int .i64 q.2.1.seen.v, .int .i64 q.2.1.tr, .int .i64 q.2.1.sp, .bool q.2.1.ag, .int .i64 q.2.1.re] 0 (Below.setCells (by omega) [.int .i64 q.1.rd, .int .i64 q.1.mo, .slice A5 n5 c5, .int .i64 q.1.fi, .int .i64 q.1.la] 0 hB)
  · have HV := Lib.hid (show stepped s (⟨at_, v, r, t, seen, tr, sp, ag, re⟩ : Hd) = stepS putS putB s (⟨at_, v, r, t, seen, tr, sp, ag, re⟩ : Hd) by simp [stepped, hp])
    clear hp
    have kx := hx.cell
    have ky := hy.cell
    go_wp2_with fail
    clear kx ky
    refine (sputStep_any s A n cap lo hi (⟨at_, v, r, t, seen, tr, sp, ag, re⟩ : Hd) _ (hs.below hB hh) (Nat.le_trans hh hB.size) hm HPN.out).mono ?_
    rintro e w2 ⟨A5, n5, c5, rfl, hG5, hb5⟩
    replace hz := hz.below hb5 hz.lt
    replace hw_ := hw_.below hb5 hw_.lt
    have h5 := hb5.size
    have h6 := hB.size
    replace hB := bstep hB hB.size hb5
    clear hb5 hx hy
    generalize hq5 : stepS putS putB s (⟨at_, v, r, t, seen, tr, sp, ag, re⟩ : Hd) = q at *
    clear hq5
    unfold stV hdV
    have kz := hz.cell
    have fz := hz.frozen
    have kw := hw_.cell
    have fw := hw_.frozen
    go_wp2
    refine bodyPost_ret (v := .tuple #[stV q.1 A5 n5 c5, hdV q.2.1, .bool q.2.2]) (by simp [results, Try.results84, go_sem, kz, kw, stV, hdV]) rfl ⟨A5, n5, c5, by rw [HV.out], ?_, ?_⟩
    · rw [HV.out]
      exact (RgsW.setsT (RgsW.setsT hG5 hz (by decide) (by decide) [.int .i64 q.1.rd, .int .i64 q.1.mo, .slice A5 n5 c5, .int .i64 q.1.fi, .int .i64 q.1.la] 0) (BoxAt.sets_ne [.int .i64 q.1.rd, .int .i64 q.1.mo, .slice A5 n5 c5, .int .i64 q.1.fi, .int .i64 q.1.la] 0 hw_ (by omega)) (by decide) (by decide) [.int .i64 q.2.1.at_, .int .i64 q.2.1.v, .int .i64 q.2.1.r, .int .i64 q.2.1.t, .bool q.2.1.seen.s, .int .i64 q.2.1.seen.n, .bool q.2.1.seen.f, .int .i64 q.2.1.seen.v, .int .i64 q.2.1.tr, .int .i64 q.2.1.sp, .bool q.2.1.ag, .int .i64 q.2.1.re] 0).mono (by omega) (by simp)
    · exact Below.setCells (by omega) [.int .i64 q.2.1.at_, .int .i64 q.2.1.v, .int .i64 q.2.1.r, .int .i64 q.2.1.t, .bool q.2.1.seen.s, .int .i64 q.2.1.seen.n, .bool q.2.1.seen.f, .int .i64 q.2.1.seen.v, .int .i64 q.2.1.tr, .int .i64 q.2.1.sp, .bool q.2.1.ag, .int .i64 q.2.1.re] 0 (Below.setCells (by omega) [.int .i64 q.1.rd, .int .i64 q.1.mo, .slice A5 n5 c5, .int .i64 q.1.fi, .int .i64 q.1.la] 0 hB)

set_option maxRecDepth 100000 in
set_option maxHeartbeats 4000000 in
theorem sfits_any (s : St) (A : Option Addr) (n cap lo hi : Nat) (h : Hd) (w : World) (hs : RgsW lo hi w A n cap s.rs) (hh : hi ≤ w.heap.size) (hm : n ≤ 1048576) (hpn : ∀ r ∈ s.rs, r.ps.length ≤ 1048576) :
    Calls Try.prog 81 #[stV s A n cap, hdV h] w (RetBelow (.bool (fits s h)) w) := by
  have HPN := Lib.hid hpn; clear hpn
  have HLN := Lib.hid hs.1
  obtain ⟨at_, v, r, t, seen, tr, sp, ag, re⟩ := h
  unfold stV hdV
  dsimp only
  go_enter Try.func81, Try.ntmps81
  go_upto_region 1 with fail
  refine wp_abs (fun W => Below w.heap.size w W ∧ BoxAt W w.heap.size #[.int .i64 s.rd, .int .i64 s.mo, .slice A n cap, .int .i64 s.fi, .int .i64 s.la] 72 ∧ BoxAt W (w.heap.size + 1) #[.int .i64 at_, .int .i64 v, .int .i64 r, .int .i64 t, .bool seen.s, .int .i64 seen.n, .bool seen.f, .int .i64 seen.v, .int .i64 tr, .int .i64 sp, .bool ag, .int .i64 re] 27) ⟨((Below.refl _ _).alloc (Nat.le_refl _) _).alloc (by simp) _, (BoxAt.new _ _ _).alloc _, BoxAt.new' (by simp)⟩ ?_
  rintro W0 ⟨hB, hx, hy⟩
  have kx := hx.cell
  go_wp2_with fail
  clear kx
  refine (sstoreOk_any s A n cap lo hi _ (hs.below hB hh) (Nat.le_trans hh hB.size) hm HPN.out).mono ?_
  rintro e w1 ⟨rfl, hb⟩
  replace hx := hx.below hb hx.lt
  replace hy := hy.below hb hy.lt
  replace hB := bstep hB hB.size hb
  have h1 := hb.size
  clear hb
  cases hok : stOk s
  · go_wp2
    exact bodyPost_ret (v := .bool false) (by simp [results, Try.results81, go_sem]) rfl ⟨by simp [fits, hok], hB⟩
  have HOK := Lib.hid hok; clear hok
  have ky := hy.cell
  go_wp2_with fail
  clear ky
  refine (shandOk_any (⟨at_, v, r, t, seen, tr, sp, ag, re⟩ : Hd) _).mono ?_
  rintro e w2 ⟨rfl, hb⟩
  replace hx := hx.below hb hx.lt
  replace hy := hy.below hb hy.lt
  replace hB := bstep hB hB.size hb
  have h2 := hb.size
  clear hb
  cases hho : (⟨at_, v, r, t, seen, tr, sp, ag, re⟩ : Hd).ok
  · go_wp2
    exact bodyPost_ret (v := .bool false) (by simp [results, Try.results81, go_sem]) rfl ⟨by simp [fits, hho], hB⟩
  have HHO := Lib.hid hho; clear hho
  have kx := hx.cell
  have ky := hy.cell
  by_cases h0 : at_ = 0
  · go_wp2
    exact bodyPost_ret (v := .bool true) (by simp [results, Try.results81, go_sem]) rfl ⟨by simp only [fits, HOK.out, HHO.out]; simp [h0], hB⟩
  have HZ0 := Lib.hid h0
  go_wp2_with fail
  clear kx ky
  refine (l4Ring_any s A n cap r _ HLN.out hm).mono ?_
  rintro e w3 ⟨rfl, hb⟩
  replace hx := hx.below hb hx.lt
  replace hy := hy.below hb hy.lt
  replace hB := bstep hB hB.size hb
  have h3 := hb.size
  clear hb
  cases hrb : ringB s r
  · go_wp2
    exact bodyPost_ret (v := .bool false) (by simp [results, Try.results81, go_sem, HZ0.out]) rfl ⟨by simp only [fits, hrb]; rw [decide_eq_false HZ0.out]; simp, hB⟩
  have HRB := Lib.hid hrb; clear hrb
  have kx := hx.cell
  have ky := hy.cell
  go_wp2
  exact bodyPost_ret (v := .bool (decide (sp < (n : Int)))) (by simp [results, Try.results81, go_sem, HZ0.out]) rfl ⟨by simp only [fits, HOK.out, HHO.out, HRB.out, HLN.out]; rw [decide_eq_false HZ0.out]; simp, hB⟩

end Go.Proofs.Ytaieigdnfdnnpaa


/-
  The walk of a step of one who takes, of the model: where nothing is on the ring.
-/
import Derived.Test.YtaieigdnfdnnpaaTake1
namespace Go.Proofs.Ytaieigdnfdnnpaa
set_option linter.unusedSimpArgs false
set_option linter.unusedVariables false
open Go.RowKit
set_option linter.unusedVariables false
attribute [local go_sem] OpUpon
attribute [local go_sem ↓] Go.wp_at_zero Go.wp_at_succ

def take21 (s : St) (h : Hd) : St × Hd × Bool := if (s.at h.r).c || decide (h.tr ≤ (s.at h.r).t) then (s, { h with at_ := 23 }, true) else (s, { h with t := (s.at h.r).t, at_ := 22 }, true)
def take22 (s : St) (h : Hd) : St × Hd × Bool := ((raiseTail s h.r h.t h.tr).1, { h with at_ := if (raiseTail s h.r h.t h.tr).2 then 23 else 20 }, true)
def take23 (s : St) (h : Hd) : St × Hd × Bool := if h.ag then (s, { h with at_ := 24 }, true) else if (s.at h.r).x < 0 then (s, h.rest 3, true) else (s, { h with ag := true, at_ := 14 }, true)
def take24 (s : St) (h : Hd) : St × Hd × Bool := ((swing s false h.r (s.at h.r).x).1, { h with ag := false, at_ := 13 }, true)

def fxAV (s2 : St) (N X Y n2 c2 : Nat) (A2 : Option Addr) (h2 : Hd) : List Sl := [.v (.agg #[.int .i64 s2.rd, .int .i64 s2.mo, .slice A2 n2 c2, .int .i64 s2.fi, .int .i64 s2.la]),
  .v (.agg #[.int .i64 h2.at_, .int .i64 h2.v, .int .i64 h2.r, .int .i64 h2.t, .bool h2.seen.s, .int .i64 h2.seen.n, .bool h2.seen.f, .int .i64 h2.seen.v, .int .i64 h2.tr, .int .i64 h2.sp, .bool h2.ag, .int .i64 h2.re]),
  .e fun σ w => BoxAt w (N + 1 + 1) #[.int .i64 s2.rd, .int .i64 s2.mo, .slice A2 n2 c2, .int .i64 s2.fi, .int .i64 s2.la] 72,
  .e fun σ w => BoxAt w (N + 1 + 1 + 1) #[.int .i64 h2.at_, .int .i64 h2.v, .int .i64 h2.r, .int .i64 h2.t, .bool h2.seen.s, .int .i64 h2.seen.n, .bool h2.seen.f, .int .i64 h2.seen.v, .int .i64 h2.tr, .int .i64 h2.sp, .bool h2.ag, .int .i64 h2.re] 27,
  .v (.bool true)]

set_option maxRecDepth 100000 in
set_option maxHeartbeats 4000000 in
theorem fxA_wp {Q : Exit → Act → World → Prop} {l : List Oper} (w : World) (s2 : St) (lo2 hi2 : Nat) (A2 : Option Addr) (n2 c2 : Nat) (h2 : Hd) (X Y : Nat) {W : World} {x0 x1 x6 x7 x8 x9 x10 x11 x12 x13 x14 x15 x16 x17 x18 x19 x20 x21 x22 x23 x24 x25 x26 x27 x28 x29 x30 x31 x32 x33 x34 x35 x36 x37 x38 x39 x40 x41 x42 x43 x44 x45 x46 x47 x48 x49 x50 x51 x52 x53 x54 x55 x56 x57 x58 x59 x60 x61 x62 x63 x64 x65 x66 x67 x68 x69 x70 x71 x72 x73 x74 x75 x76 x77 x78 x79 x80 x81 x82 : Value} (hl : l = opsAt Try.f103 7) (hd : (w.heap.size + 2 < lo2 ∨ hi2 ≤ w.heap.size + 2) ∧ (w.heap.size + 3 < lo2 ∨ hi2 ≤ w.heap.size + 3)) (hXY : X ≠ w.heap.size + 2 ∧ X ≠ w.heap.size + 3 ∧ Y ≠ w.heap.size + 2 ∧ Y ≠ w.heap.size + 3)
    (hI : Below w.heap.size w W ∧ BoxAt W X #[.int .i64 s2.rd, .int .i64 s2.mo, .slice A2 n2 c2, .int .i64 s2.fi, .int .i64 s2.la] 72 ∧ BoxAt W Y #[.int .i64 h2.at_, .int .i64 h2.v, .int .i64 h2.r, .int .i64 h2.t, .bool h2.seen.s, .int .i64 h2.seen.n, .bool h2.seen.f, .int .i64 h2.seen.v, .int .i64 h2.tr, .int .i64 h2.sp, .bool h2.ag, .int .i64 h2.re] 27 ∧ BoxAt W (w.heap.size + 1 + 1) #[.int .i64 0, .int .i64 0, .slice none 0 0, .int .i64 0, .int .i64 0] 72 ∧ BoxAt W (w.heap.size + 1 + 1 + 1) #[.int .i64 0, .int .i64 0, .int .i64 0, .int .i64 0, .bool false, .int .i64 0, .bool false, .int .i64 0, .int .i64 0, .int .i64 0, .bool false, .int .i64 0] 27 ∧ RgsW lo2 hi2 W A2 n2 c2 s2.rs ∧ hi2 ≤ W.heap.size)
    (hQ : ∀ (y32 y33 : Value) (W' : World), Below w.heap.size w W' → BoxAt W' (w.heap.size + 1 + 1) #[.int .i64 s2.rd, .int .i64 s2.mo, .slice A2 n2 c2, .int .i64 s2.fi, .int .i64 s2.la] 72 → BoxAt W' (w.heap.size + 1 + 1 + 1) #[.int .i64 h2.at_, .int .i64 h2.v, .int .i64 h2.r, .int .i64 h2.t, .bool h2.seen.s, .int .i64 h2.seen.n, .bool h2.seen.f, .int .i64 h2.seen.v, .int .i64 h2.tr, .int .i64 h2.sp, .bool h2.ag, .int .i64 h2.re] 27 → RgsW lo2 hi2 W' A2 n2 c2 s2.rs → hi2 ≤ W'.heap.size → Q .normal ⟨#[x0, x1, .pointer (some ⟨X, 0, none⟩), .pointer (some ⟨Y, 0, none⟩), .pointer (some ⟨w.heap.size + 1 + 1, 0, none⟩), .pointer (some ⟨w.heap.size + 1 + 1 + 1, 0, none⟩), .bool true, x7, x8, x9, x10, x11, x12, x13, x14, x15, x16, x17, x18, x19, x20, x21, x22, x23, x24, x25, x26, x27, x28, x29, x30, x31, y32, y33, x34, x35, x36, x37, x38, x39, x40, x41, x42, x43, x44, x45, x46, x47, x48, x49, x50, x51, x52, x53, x54, x55, x56, x57, x58, x59, x60, x61, x62, x63, x64, x65, x66, x67, x68, x69, x70, x71, x72, x73, x74, x75, x76, x77, x78, x79, x80, x81, x82], []⟩ W') :
    (Code.region 7 l.toArray true).wp Try.prog Q ⟨#[x0, x1, .pointer (some ⟨X, 0, none⟩), .pointer (some ⟨Y, 0, none⟩), .pointer (some ⟨w.heap.size + 1 + 1, 0, none⟩), .pointer (some ⟨w.heap.size + 1 + 1 + 1, 0, none⟩), x6, x7, x8, x9, x10, x11, x12, x13, x14, x15, x16, x17, x18, x19, x20, x21, x22, x23, x24, x25, x26, x27, x28, x29, x30, x31, x32, x33, x34, x35, x36, x37, x38, x39, x40, x41, x42, x43, x44, x45, x46, x47, x48, x49, x50, x51, x52, x53, x54, x55, x56, x57, x58, x59, x60, x61, x62, x63, x64, x65, x66, x67, x68, x69, x70, x71, x72, x73, x74, x75, x76, x77, x78, x79, x80, x81, x82], []⟩ W := by
  have hl' : l = [_, _, _, _, _] := hl
  subst hl'
  clear hl
  obtain ⟨hB, hx, hy, hz, hw_, hG, hhi⟩ := hI
  have lw := hw_.lt
  obtain ⟨M, hMe⟩ : ∃ M, M = W.heap.size := ⟨_, rfl⟩
  have hM : M ≤ W.heap.size := by omega
  have hhi2 : hi2 ≤ M := by omega
  clear hMe
  refine wp_region2v (fun w w' => Below w.heap.size w w') (fun _ _ h => h.size) (fun _ => Below.refl _ _) (fun L W' => Below w.heap.size w W' ∧ BoxAt W' X #[.int .i64 s2.rd, .int .i64 s2.mo, .slice A2 n2 c2, .int .i64 s2.fi, .int .i64 s2.la] 72 ∧ BoxAt W' Y #[.int .i64 h2.at_, .int .i64 h2.v, .int .i64 h2.r, .int .i64 h2.t, .bool h2.seen.s, .int .i64 h2.seen.n, .bool h2.seen.f, .int .i64 h2.seen.v, .int .i64 h2.tr, .int .i64 h2.sp, .bool h2.ag, .int .i64 h2.re] 27 ∧ RgsW lo2 hi2 W' A2 n2 c2 s2.rs ∧ M ≤ W'.heap.size ∧ (∃ x0 x1 x2 x3 x4, BoxAt W' (w.heap.size + 1 + 1) #[x0, x1, x2, x3, x4] 72) ∧ (L 2 = false → BoxAt W' (w.heap.size + 1 + 1) #[.int .i64 0, .int .i64 0, .slice none 0 0, .int .i64 0, .int .i64 0] 72) ∧ (∃ x0 x1 x2 x3 x4 x5 x6 x7 x8 x9 x10 x11, BoxAt W' (w.heap.size + 1 + 1 + 1) #[x0, x1, x2, x3, x4, x5, x6, x7, x8, x9, x10, x11] 27) ∧ (L 3 = false → BoxAt W' (w.heap.size + 1 + 1 + 1) #[.int .i64 0, .int .i64 0, .int .i64 0, .int .i64 0, .bool false, .int .i64 0, .bool false, .int .i64 0, .int .i64 0, .int .i64 0, .bool false, .int .i64 0] 27)) (fxAV s2 w.heap.size X Y n2 c2 A2 h2) (fun j => [0, 0, 1, 1, 0].getD j 0) [] (by kernel_rfl) (by kernel_rfl) ?_ ?_ ?_
    (.still rfl ?a0 <| .still rfl ?a1 <| .store rfl ?a2 <| .store rfl ?a3 <| .still rfl ?a4 <| .nil) ?_ ?_
  · exact ⟨fun _ _ _ _ h => h, fun _ _ _ _ h => h, trivial⟩
  · exact ⟨fun σ w w' hb hR => hR.below hb hR.lt, fun σ w w' hb hR => hR.below hb hR.lt, trivial⟩
  · exact ⟨hB.drew, hx, hy, hG, hM, ⟨_, _, _, _, _, hz⟩, fun _ => hz, ⟨_, _, _, _, _, _, _, _, _, _, _, _, hw_⟩, fun _ => hw_⟩
  case a0 =>
    go_light
    intro L σ W' hcl hL hC hw
    have ks := hC.2.1.cell
    clear hw hcl hL hC
    refine OpGoes.step fun K hK => ?_
    unfold OpGoes
    go_simp
    exact hK _ _ ⟨rfl, rfl⟩
  case a1 =>
    go_light
    intro L σ W' hcl hL hC hw
    have kh := hC.2.2.1.cell
    clear hw hcl hL hC
    refine OpGoes.step fun K hK => ?_
    unfold OpGoes
    go_simp
    exact hK _ _ ⟨rfl, rfl⟩
  case a4 =>
    go_light
    intro L σ W' hcl hL hC hw
    clear hw hcl hL hC
    refine OpGoes.step fun K hK => ?_
    unfold OpGoes
    go_simp
    exact hK _ _ ⟨rfl, rfl⟩
  case a2 =>
    go_light
    intro L σ W' hcl hL hC hw hne
    have e0 := wV hw 0 rfl
    clear hw hne
    have HC := Lib.hid hC
    obtain ⟨hB, hx, hy, hG, hM, ⟨_, _, _, _, _, hz⟩, hz_o, ⟨_, _, _, _, _, _, _, _, _, _, _, _, hw_⟩, hw__o⟩ := hC
    clear hcl hL
    have kc_ := hz.cell
    have kf_ := hz.frozen
    clear hB hx hy hG hM hz hz_o hw_ hw__o
    refine OpGoes.step fun K hK => ?_
    unfold OpGoes
    go_simp
    obtain ⟨hB, hx, hy, hG, hM, ⟨_, _, _, _, _, hz⟩, hz_o, ⟨_, _, _, _, _, _, _, _, _, _, _, _, hw_⟩, hw__o⟩ := HC.out
    have hset := sets_all (us := [.int .i64 s2.rd, .int .i64 s2.mo, .slice A2 n2 c2, .int .i64 s2.fi, .int .i64 s2.la]) hz rfl
    refine hK undef (setCells W' (w.heap.size + 1 + 1) 0 [.int .i64 s2.rd, .int .i64 s2.mo, .slice A2 n2 c2, .int .i64 s2.fi, .int .i64 s2.la]) ⟨⟨(Below.setCells (by omega) _ 0 hB), (BoxAt.sets_ne _ 0 hx (by omega)), (BoxAt.sets_ne _ 0 hy (by omega)), (RgsW.sts hG (by omega) _ 0), (size_sts hM _ 0), ⟨_, _, _, _, _, hset⟩, fun h => absurd h (by simp [upd]), ⟨_, _, _, _, _, _, _, _, _, _, _, _, (BoxAt.sets_ne _ 0 hw_ (by omega))⟩, fun h => (BoxAt.sets_ne _ 0 (hw__o (by simpa [upd] using h)) (by omega))⟩, hset, Nat.le_of_eq (sets_size _ _ _).symm, keepV ?_⟩
    exact ⟨fun h => absurd rfl h, fun _ _ hR => (BoxAt.sets_ne _ 0 hR (by omega)), trivial⟩
  case a3 =>
    go_light
    intro L σ W' hcl hL hC hw hne
    have e1 := wV hw 1 rfl
    clear hw hne
    have HC := Lib.hid hC
    obtain ⟨hB, hx, hy, hG, hM, ⟨_, _, _, _, _, hz⟩, hz_o, ⟨_, _, _, _, _, _, _, _, _, _, _, _, hw_⟩, hw__o⟩ := hC
    clear hcl hL
    have kc_ := hw_.cell
    have kf_ := hw_.frozen
    clear hB hx hy hG hM hz hz_o hw_ hw__o
    refine OpGoes.step fun K hK => ?_
    unfold OpGoes
    go_simp
    obtain ⟨hB, hx, hy, hG, hM, ⟨_, _, _, _, _, hz⟩, hz_o, ⟨_, _, _, _, _, _, _, _, _, _, _, _, hw_⟩, hw__o⟩ := HC.out
    have hset := sets_all (us := [.int .i64 h2.at_, .int .i64 h2.v, .int .i64 h2.r, .int .i64 h2.t, .bool h2.seen.s, .int .i64 h2.seen.n, .bool h2.seen.f, .int .i64 h2.seen.v, .int .i64 h2.tr, .int .i64 h2.sp, .bool h2.ag, .int .i64 h2.re]) hw_ rfl
    refine hK undef (setCells W' (w.heap.size + 1 + 1 + 1) 0 [.int .i64 h2.at_, .int .i64 h2.v, .int .i64 h2.r, .int .i64 h2.t, .bool h2.seen.s, .int .i64 h2.seen.n, .bool h2.seen.f, .int .i64 h2.seen.v, .int .i64 h2.tr, .int .i64 h2.sp, .bool h2.ag, .int .i64 h2.re]) ⟨⟨(Below.setCells (by omega) _ 0 hB), (BoxAt.sets_ne _ 0 hx (by omega)), (BoxAt.sets_ne _ 0 hy (by omega)), (RgsW.sts hG (by omega) _ 0), (size_sts hM _ 0), ⟨_, _, _, _, _, (BoxAt.sets_ne _ 0 hz (by omega))⟩, fun h => (BoxAt.sets_ne _ 0 (hz_o (by simpa [upd] using h)) (by omega)), ⟨_, _, _, _, _, _, _, _, _, _, _, _, hset⟩, fun h => absurd h (by simp [upd])⟩, hset, Nat.le_of_eq (sets_size _ _ _).symm, keepV ?_⟩
    exact ⟨fun _ _ hR => (BoxAt.sets_ne _ 0 hR (by omega)), fun h => absurd rfl h, trivial⟩
  · intro L L' W' hLL hC
    obtain ⟨hB, hx, hy, hG, hM, ⟨_, _, _, _, _, hz⟩, hz_o, ⟨_, _, _, _, _, _, _, _, _, _, _, _, hw_⟩, hw__o⟩ := hC
    exact ⟨hB, hx, hy, hG, hM, ⟨_, _, _, _, _, hz⟩, fun h => hz_o (hLL _ h), ⟨_, _, _, _, _, _, _, _, _, _, _, _, hw_⟩, fun h => hw__o (hLL _ h)⟩
  · intro σ L W' hall hC hRR
    obtain ⟨hB, hx, hy, hG, hM, ⟨_, _, _, _, _, hz⟩, hz_o, ⟨_, _, _, _, _, _, _, _, _, _, _, _, hw_⟩, hw__o⟩ := hC
    have s2 := dE hRR 2 rfl
    have s3 := dE hRR 3 rfl
    have e4 := dV hRR 4 rfl
    clear hRR
    simp only [lexAll]
    go_simp
    exact hQ _ _ _ hB s2 s3 hG (Nat.le_trans hhi2 hM)

def fxBV (s2 : St) (N X Y n2 c2 : Nat) (A2 : Option Addr) (h2 : Hd) : List Sl := [.v (.agg #[.int .i64 s2.rd, .int .i64 s2.mo, .slice A2 n2 c2, .int .i64 s2.fi, .int .i64 s2.la]),
  .v (.agg #[.int .i64 h2.at_, .int .i64 h2.v, .int .i64 h2.r, .int .i64 h2.t, .bool h2.seen.s, .int .i64 h2.seen.n, .bool h2.seen.f, .int .i64 h2.seen.v, .int .i64 h2.tr, .int .i64 h2.sp, .bool h2.ag, .int .i64 h2.re]),
  .e fun σ w => BoxAt w (N + 1 + 1) #[.int .i64 s2.rd, .int .i64 s2.mo, .slice A2 n2 c2, .int .i64 s2.fi, .int .i64 s2.la] 72,
  .e fun σ w => BoxAt w (N + 1 + 1 + 1) #[.int .i64 h2.at_, .int .i64 h2.v, .int .i64 h2.r, .int .i64 h2.t, .bool h2.seen.s, .int .i64 h2.seen.n, .bool h2.seen.f, .int .i64 h2.seen.v, .int .i64 h2.tr, .int .i64 h2.sp, .bool h2.ag, .int .i64 h2.re] 27,
  .v (.bool true)]

set_option maxRecDepth 100000 in
set_option maxHeartbeats 4000000 in
theorem fxB_wp {Q : Exit → Act → World → Prop} {l : List Oper} (w : World) (s2 : St) (lo2 hi2 : Nat) (A2 : Option Addr) (n2 c2 : Nat) (h2 : Hd) (X Y : Nat) {W : World} {x0 x1 x6 x7 x8 x9 x10 x11 x12 x13 x14 x15 x16 x17 x18 x19 x20 x21 x22 x23 x24 x25 x26 x27 x28 x29 x30 x31 x32 x33 x34 x35 x36 x37 x38 x39 x40 x41 x42 x43 x44 x45 x46 x47 x48 x49 x50 x51 x52 x53 x54 x55 x56 x57 x58 x59 x60 x61 x62 x63 x64 x65 x66 x67 x68 x69 x70 x71 x72 x73 x74 x75 x76 x77 x78 x79 x80 x81 x82 : Value} (hl : l = opsAt Try.f103 17) (hd : (w.heap.size + 2 < lo2 ∨ hi2 ≤ w.heap.size + 2) ∧ (w.heap.size + 3 < lo2 ∨ hi2 ≤ w.heap.size + 3)) (hXY : X ≠ w.heap.size + 2 ∧ X ≠ w.heap.size + 3 ∧ Y ≠ w.heap.size + 2 ∧ Y ≠ w.heap.size + 3)
    (hI : Below w.heap.size w W ∧ BoxAt W X #[.int .i64 s2.rd, .int .i64 s2.mo, .slice A2 n2 c2, .int .i64 s2.fi, .int .i64 s2.la] 72 ∧ BoxAt W Y #[.int .i64 h2.at_, .int .i64 h2.v, .int .i64 h2.r, .int .i64 h2.t, .bool h2.seen.s, .int .i64 h2.seen.n, .bool h2.seen.f, .int .i64 h2.seen.v, .int .i64 h2.tr, .int .i64 h2.sp, .bool h2.ag, .int .i64 h2.re] 27 ∧ BoxAt W (w.heap.size + 1 + 1) #[.int .i64 0, .int .i64 0, .slice none 0 0, .int .i64 0, .int .i64 0] 72 ∧ BoxAt W (w.heap.size + 1 + 1 + 1) #[.int .i64 0, .int .i64 0, .int .i64 0, .int .i64 0, .bool false, .int .i64 0, .bool false, .int .i64 0, .int .i64 0, .int .i64 0, .bool false, .int .i64 0] 27 ∧ RgsW lo2 hi2 W A2 n2 c2 s2.rs ∧ hi2 ≤ W.heap.size)
    (hQ : ∀ (y59 y60 : Value) (W' : World), Below w.heap.size w W' → BoxAt W' (w.heap.size + 1 + 1) #[.int .i64 s2.rd, .int .i64 s2.mo, .slice A2 n2 c2, .int .i64 s2.fi, .int .i64 s2.la] 72 → BoxAt W' (w.heap.size + 1 + 1 + 1) #[.int .i64 h2.at_, .int .i64 h2.v, .int .i64 h2.r, .int .i64 h2.t, .bool h2.seen.s, .int .i64 h2.seen.n, .bool h2.seen.f, .int .i64 h2.seen.v, .int .i64 h2.tr, .int .i64 h2.sp, .bool h2.ag, .int .i64 h2.re] 27 → RgsW lo2 hi2 W' A2 n2 c2 s2.rs → hi2 ≤ W'.heap.size → Q .normal ⟨#[x0, x1, .pointer (some ⟨X, 0, none⟩), .pointer (some ⟨Y, 0, none⟩), .pointer (some ⟨w.heap.size + 1 + 1, 0, none⟩), .pointer (some ⟨w.heap.size + 1 + 1 + 1, 0, none⟩), .bool true, x7, x8, x9, x10, x11, x12, x13, x14, x15, x16, x17, x18, x19, x20, x21, x22, x23, x24, x25, x26, x27, x28, x29, x30, x31, x32, x33, x34, x35, x36, x37, x38, x39, x40, x41, x42, x43, x44, x45, x46, x47, x48, x49, x50, x51, x52, x53, x54, x55, x56, x57, x58, y59, y60, x61, x62, x63, x64, x65, x66, x67, x68, x69, x70, x71, x72, x73, x74, x75, x76, x77, x78, x79, x80, x81, x82], []⟩ W') :
    (Code.region 17 l.toArray true).wp Try.prog Q ⟨#[x0, x1, .pointer (some ⟨X, 0, none⟩), .pointer (some ⟨Y, 0, none⟩), .pointer (some ⟨w.heap.size + 1 + 1, 0, none⟩), .pointer (some ⟨w.heap.size + 1 + 1 + 1, 0, none⟩), x6, x7, x8, x9, x10, x11, x12, x13, x14, x15, x16, x17, x18, x19, x20, x21, x22, x23, x24, x25, x26, x27, x28, x29, x30, x31, x32, x33, x34, x35, x36, x37, x38, x39, x40, x41, x42, x43, x44, x45, x46, x47, x48, x49, x50, x51, x52, x53, x54, x55, x56, x57, x58, x59, x60, x61, x62, x63, x64, x65, x66, x67, x68, x69, x70, x71, x72, x73, x74, x75, x76, x77, x78, x79, x80, x81, x82], []⟩ W := by
  have hl' : l = [_, _, _, _, _] := hl
  subst hl'
  clear hl
  obtain ⟨hB, hx, hy, hz, hw_, hG, hhi⟩ := hI
  have lw := hw_.lt
  obtain ⟨M, hMe⟩ : ∃ M, M = W.heap.size := ⟨_, rfl⟩
  have hM : M ≤ W.heap.size := by omega
  have hhi2 : hi2 ≤ M := by omega
  clear hMe
  refine wp_region2v (fun w w' => Below w.heap.size w w') (fun _ _ h => h.size) (fun _ => Below.refl _ _) (fun L W' => Below w.heap.size w W' ∧ BoxAt W' X #[.int .i64 s2.rd, .int .i64 s2.mo, .slice A2 n2 c2, .int .i64 s2.fi, .int .i64 s2.la] 72 ∧ BoxAt W' Y #[.int .i64 h2.at_, .int .i64 h2.v, .int .i64 h2.r, .int .i64 h2.t, .bool h2.seen.s, .int .i64 h2.seen.n, .bool h2.seen.f, .int .i64 h2.seen.v, .int .i64 h2.tr, .int .i64 h2.sp, .bool h2.ag, .int .i64 h2.re] 27 ∧ RgsW lo2 hi2 W' A2 n2 c2 s2.rs ∧ M ≤ W'.heap.size ∧ (∃ x0 x1 x2 x3 x4, BoxAt W' (w.heap.size + 1 + 1) #[x0, x1, x2, x3, x4] 72) ∧ (L 2 = false → BoxAt W' (w.heap.size + 1 + 1) #[.int .i64 0, .int .i64 0, .slice none 0 0, .int .i64 0, .int .i64 0] 72) ∧ (∃ x0 x1 x2 x3 x4 x5 x6 x7 x8 x9 x10 x11, BoxAt W' (w.heap.size + 1 + 1 + 1) #[x0, x1, x2, x3, x4, x5, x6, x7, x8, x9, x10, x11] 27) ∧ (L 3 = false → BoxAt W' (w.heap.size + 1 + 1 + 1) #[.int .i64 0, .int .i64 0, .int .i64 0, .int .i64 0, .bool false, .int .i64 0, .bool false, .int .i64 0, .int .i64 0, .int .i64 0, .bool false, .int .i64 0] 27)) (fxBV s2 w.heap.size X Y n2 c2 A2 h2) (fun j => [0, 0, 1, 1, 0].getD j 0) [] (by kernel_rfl) (by kernel_rfl) ?_ ?_ ?_
    (.still rfl ?a0 <| .still rfl ?a1 <| .store rfl ?a2 <| .store rfl ?a3 <| .still rfl ?a4 <| .nil) ?_ ?_
  · exact ⟨fun _ _ _ _ h => h, fun _ _ _ _ h => h, trivial⟩
  · exact ⟨fun σ w w' hb hR => hR.below hb hR.lt, fun σ w w' hb hR => hR.below hb hR.lt, trivial⟩
  · exact ⟨hB.drew, hx, hy, hG, hM, ⟨_, _, _, _, _, hz⟩, fun _ => hz, ⟨_, _, _, _, _, _, _, _, _, _, _, _, hw_⟩, fun _ => hw_⟩
  case a0 =>
    go_light
    intro L σ W' hcl hL hC hw
    have ks := hC.2.1.cell
    clear hw hcl hL hC
    refine OpGoes.step fun K hK => ?_
    unfold OpGoes
    go_simp
    exact hK _ _ ⟨rfl, rfl⟩
  case a1 =>
    go_light
    intro L σ W' hcl hL hC hw
    have kh := hC.2.2.1.cell
    clear hw hcl hL hC
    refine OpGoes.step fun K hK => ?_
    unfold OpGoes
    go_simp
    exact hK _ _ ⟨rfl, rfl⟩
  case a4 =>
    go_light
    intro L σ W' hcl hL hC hw
    clear hw hcl hL hC
    refine OpGoes.step fun K hK => ?_
    unfold OpGoes
    go_simp
    exact hK _ _ ⟨rfl, rfl⟩
  case a2 =>
    go_light
    intro L σ W' hcl hL hC hw hne
    have e0 := wV hw 0 rfl
    clear hw hne
    have HC := Lib.hid hC
    obtain ⟨hB, hx, hy, hG, hM, ⟨_, _, _, _, _, hz⟩, hz_o, ⟨_, _, _, _, _, _, _, _, _, _, _, _, hw_⟩, hw__o⟩ := hC
    clear hcl hL
    have kc_ := hz.cell
    have kf_ := hz.frozen
    clear hB hx hy hG hM hz hz_o hw_ hw__o
    refine OpGoes.step fun K hK => ?_
    unfold OpGoes
    go_simp
    obtain ⟨hB, hx, hy, hG, hM, ⟨_, _, _, _, _, hz⟩, hz_o, ⟨_, _, _, _, _, _, _, _, _, _, _, _, hw_⟩, hw__o⟩ := HC.out
    have hset := sets_all (us := [.int .i64 s2.rd, .int .i64 s2.mo, .slice A2 n2 c2, .int .i64 s2.fi, .int .i64 s2.la]) hz rfl
    refine hK undef (setCells W' (w.heap.size + 1 + 1) 0 [.int .i64 s2.rd, .int .i64 s2.mo, .slice A2 n2 c2, .int .i64 s2.fi, .int .i64 s2.la]) ⟨⟨(Below.setCells (by omega) _ 0 hB), (BoxAt.sets_ne _ 0 hx (by omega)), (BoxAt.sets_ne _ 0 hy (by omega)), (RgsW.sts hG (by omega) _ 0), (size_sts hM _ 0), ⟨_, _, _, _, _, hset⟩, fun h => absurd h (by simp [upd]), ⟨_, _, _, _, _, _, _, _, _, _, _, _, (BoxAt.sets_ne _ 0 hw_ (by omega))⟩, fun h => (BoxAt.sets_ne _ 0 (hw__o (by simpa [upd] using h)) (by omega))⟩, hset, Nat.le_of_eq (sets_size _ _ _).symm, keepV ?_⟩
    exact ⟨fun h => absurd rfl h, fun _ _ hR => (BoxAt.sets_ne _ 0 hR (by omega)), trivial⟩
  case a3 =>
    go_light
    intro L σ W' hcl hL hC hw hne
    have e1 := wV hw 1 rfl
    clear hw hne
    have HC := Lib.hid hC
    obtain ⟨hB, hx, hy, hG, hM, ⟨_, _, _, _, _, hz⟩, hz_o, ⟨_, _, _, _, _, _, _, _, _, _, _, _, hw_⟩, hw__o⟩ := hC
    clear hcl hL
    have kc_ := hw_.cell
    have kf_ := hw_.frozen
    clear hB hx hy hG hM hz hz_o hw_ hw__o
    refine OpGoes.step fun K hK => ?_
    unfold OpGoes
    go_simp
    obtain ⟨hB, hx, hy, hG, hM, ⟨_, _, _, _, _, hz⟩, hz_o, ⟨_, _, _, _, _, _, _, _, _, _, _, _, hw_⟩, hw__o⟩ := HC.out
    have hset := sets_all (us := [.int .i64 h2.at_, .int .i64 h2.v, .int .i64 h2.r, .int .i64 h2.t, .bool h2.seen.s, .int .i64 h2.seen.n, .bool h2.seen.f, .int .i64 h2.seen.v, .int .i64 h2.tr, .int .i64 h2.sp, .bool h2.ag, .int .i64 h2.re]) hw_ rfl
    refine hK undef (setCells W' (w.heap.size + 1 + 1 + 1) 0 [.int .i64 h2.at_, .int .i64 h2.v, .int .i64 h2.r, .int .i64 h2.t, .bool h2.seen.s, .int .i64 h2.seen.n, .bool h2.seen.f, .int .i64 h2.seen.v, .int .i64 h2.tr, .int .i64 h2.sp, .bool h2.ag, .int .i64 h2.re]) ⟨⟨(Below.setCells (by omega) _ 0 hB), (BoxAt.sets_ne _ 0 hx (by omega)), (BoxAt.sets_ne _ 0 hy (by omega)), (RgsW.sts hG (by omega) _ 0), (size_sts hM _ 0), ⟨_, _, _, _, _, (BoxAt.sets_ne _ 0 hz (by omega))⟩, fun h => (BoxAt.sets_ne _ 0 (hz_o (by simpa [upd] using h)) (by omega)), ⟨_, _, _, _, _, _, _, _, _, _, _, _, hset⟩, fun h => absurd h (by simp [upd])⟩, hset, Nat.le_of_eq (sets_size _ _ _).symm, keepV ?_⟩
    exact ⟨fun _ _ hR => (BoxAt.sets_ne _ 0 hR (by omega)), fun h => absurd rfl h, trivial⟩
  · intro L L' W' hLL hC
    obtain ⟨hB, hx, hy, hG, hM, ⟨_, _, _, _, _, hz⟩, hz_o, ⟨_, _, _, _, _, _, _, _, _, _, _, _, hw_⟩, hw__o⟩ := hC
    exact ⟨hB, hx, hy, hG, hM, ⟨_, _, _, _, _, hz⟩, fun h => hz_o (hLL _ h), ⟨_, _, _, _, _, _, _, _, _, _, _, _, hw_⟩, fun h => hw__o (hLL _ h)⟩
  · intro σ L W' hall hC hRR
    obtain ⟨hB, hx, hy, hG, hM, ⟨_, _, _, _, _, hz⟩, hz_o, ⟨_, _, _, _, _, _, _, _, _, _, _, _, hw_⟩, hw__o⟩ := hC
    have s2 := dE hRR 2 rfl
    have s3 := dE hRR 3 rfl
    have e4 := dV hRR 4 rfl
    clear hRR
    simp only [lexAll]
    go_simp
    exact hQ _ _ _ hB s2 s3 hG (Nat.le_trans hhi2 hM)

def fxCV (s2 : St) (N X Y n2 c2 : Nat) (A2 : Option Addr) (h2 : Hd) : List Sl := [.v (.agg #[.int .i64 s2.rd, .int .i64 s2.mo, .slice A2 n2 c2, .int .i64 s2.fi, .int .i64 s2.la]),
  .v (.agg #[.int .i64 h2.at_, .int .i64 h2.v, .int .i64 h2.r, .int .i64 h2.t, .bool h2.seen.s, .int .i64 h2.seen.n, .bool h2.seen.f, .int .i64 h2.seen.v, .int .i64 h2.tr, .int .i64 h2.sp, .bool h2.ag, .int .i64 h2.re]),
  .v (.agg #[.int .i64 0, .int .i64 0, .int .i64 0, .int .i64 0, .bool false, .int .i64 0, .bool false, .int .i64 0, .int .i64 0, .int .i64 h2.sp, .bool false, .int .i64 3]),
  .e fun σ w => BoxAt w (N + 1 + 1) #[.int .i64 s2.rd, .int .i64 s2.mo, .slice A2 n2 c2, .int .i64 s2.fi, .int .i64 s2.la] 72,
  .e fun σ w => BoxAt w (N + 1 + 1 + 1) #[.int .i64 0, .int .i64 0, .int .i64 0, .int .i64 0, .bool false, .int .i64 0, .bool false, .int .i64 0, .int .i64 0, .int .i64 h2.sp, .bool false, .int .i64 3] 27,
  .v (.bool true)]

set_option maxRecDepth 100000 in
set_option maxHeartbeats 4000000 in
theorem fxC_wp {Q : Exit → Act → World → Prop} {l : List Oper} (w : World) (s2 : St) (lo2 hi2 : Nat) (A2 : Option Addr) (n2 c2 : Nat) (h2 : Hd) (X Y : Nat) {W : World} {x0 x1 x6 x7 x8 x9 x10 x11 x12 x13 x14 x15 x16 x17 x18 x19 x20 x21 x22 x23 x24 x25 x26 x27 x28 x29 x30 x31 x32 x33 x34 x35 x36 x37 x38 x39 x40 x41 x42 x43 x44 x45 x46 x47 x48 x49 x50 x51 x52 x53 x54 x55 x56 x57 x58 x59 x60 x61 x62 x63 x64 x65 x66 x67 x68 x69 x70 x71 x72 x73 x74 x75 x76 x77 x78 x79 x80 x81 x82 : Value} (hl : l = opsAt Try.f103 19) (hd : (w.heap.size + 2 < lo2 ∨ hi2 ≤ w.heap.size + 2) ∧ (w.heap.size + 3 < lo2 ∨ hi2 ≤ w.heap.size + 3)) (hXY : X ≠ w.heap.size + 2 ∧ X ≠ w.heap.size + 3 ∧ Y ≠ w.heap.size + 2 ∧ Y ≠ w.heap.size + 3)
    (hI : Below w.heap.size w W ∧ BoxAt W X #[.int .i64 s2.rd, .int .i64 s2.mo, .slice A2 n2 c2, .int .i64 s2.fi, .int .i64 s2.la] 72 ∧ BoxAt W Y #[.int .i64 h2.at_, .int .i64 h2.v, .int .i64 h2.r, .int .i64 h2.t, .bool h2.seen.s, .int .i64 h2.seen.n, .bool h2.seen.f, .int .i64 h2.seen.v, .int .i64 h2.tr, .int .i64 h2.sp, .bool h2.ag, .int .i64 h2.re] 27 ∧ BoxAt W (w.heap.size + 1 + 1) #[.int .i64 0, .int .i64 0, .slice none 0 0, .int .i64 0, .int .i64 0] 72 ∧ BoxAt W (w.heap.size + 1 + 1 + 1) #[.int .i64 0, .int .i64 0, .int .i64 0, .int .i64 0, .bool false, .int .i64 0, .bool false, .int .i64 0, .int .i64 0, .int .i64 0, .bool false, .int .i64 0] 27 ∧ RgsW lo2 hi2 W A2 n2 c2 s2.rs ∧ hi2 ≤ W.heap.size)
    (hQ : ∀ (y64 y65 y66 : Value) (W' : World), Below w.heap.size w W' → BoxAt W' (w.heap.size + 1 + 1) #[.int .i64 s2.rd, .int .i64 s2.mo, .slice A2 n2 c2, .int .i64 s2.fi, .int .i64 s2.la] 72 → BoxAt W' (w.heap.size + 1 + 1 + 1) #[.int .i64 0, .int .i64 0, .int .i64 0, .int .i64 0, .bool false, .int .i64 0, .bool false, .int .i64 0, .int .i64 0, .int .i64 h2.sp, .bool false, .int .i64 3] 27 → RgsW lo2 hi2 W' A2 n2 c2 s2.rs → hi2 ≤ W'.heap.size → Q .normal ⟨#[x0, x1, .pointer (some ⟨X, 0, none⟩), .pointer (some ⟨Y, 0, none⟩), .pointer (some ⟨w.heap.size + 1 + 1, 0, none⟩), .pointer (some ⟨w.heap.size + 1 + 1 + 1, 0, none⟩), .bool true, x7, x8, x9, x10, x11, x12, x13, x14, x15, x16, x17, x18, x19, x20, x21, x22, x23, x24, x25, x26, x27, x28, x29, x30, x31, x32, x33, x34, x35, x36, x37, x38, x39, x40, x41, x42, x43, x44, x45, x46, x47, x48, x49, x50, x51, x52, x53, x54, x55, x56, x57, x58, x59, x60, x61, x62, x63, y64, y65, y66, x67, x68, x69, x70, x71, x72, x73, x74, x75, x76, x77, x78, x79, x80, x81, x82], []⟩ W') :
    (Code.region 19 l.toArray true).wp Try.prog Q ⟨#[x0, x1, .pointer (some ⟨X, 0, none⟩), .pointer (some ⟨Y, 0, none⟩), .pointer (some ⟨w.heap.size + 1 + 1, 0, none⟩), .pointer (some ⟨w.heap.size + 1 + 1 + 1, 0, none⟩), x6, x7, x8, x9, x10, x11, x12, x13, x14, x15, x16, x17, x18, x19, x20, x21, x22, x23, x24, x25, x26, x27, x28, x29, x30, x31, x32, x33, x34, x35, x36, x37, x38, x39, x40, x41, x42, x43, x44, x45, x46, x47, x48, x49, x50, x51, x52, x53, x54, x55, x56, x57, x58, x59, x60, x61, x62, x63, x64, x65, x66, x67, x68, x69, x70, x71, x72, x73, x74, x75, x76, x77, x78, x79, x80, x81, x82], []⟩ W := by
  have hl' : l = [_, _, _, _, _, _] := hl
  subst hl'
  clear hl
  obtain ⟨hB, hx, hy, hz, hw_, hG, hhi⟩ := hI
  have lw := hw_.lt
  obtain ⟨M, hMe⟩ : ∃ M, M = W.heap.size := ⟨_, rfl⟩
  have hM : M ≤ W.heap.size := by omega
  have hhi2 : hi2 ≤ M := by omega
  clear hMe
  refine wp_region2v (fun w w' => Below w.heap.size w w') (fun _ _ h => h.size) (fun _ => Below.refl _ _) (fun L W' => Below w.heap.size w W' ∧ BoxAt W' X #[.int .i64 s2.rd, .int .i64 s2.mo, .slice A2 n2 c2, .int .i64 s2.fi, .int .i64 s2.la] 72 ∧ BoxAt W' Y #[.int .i64 h2.at_, .int .i64 h2.v, .int .i64 h2.r, .int .i64 h2.t, .bool h2.seen.s, .int .i64 h2.seen.n, .bool h2.seen.f, .int .i64 h2.seen.v, .int .i64 h2.tr, .int .i64 h2.sp, .bool h2.ag, .int .i64 h2.re] 27 ∧ RgsW lo2 hi2 W' A2 n2 c2 s2.rs ∧ M ≤ W'.heap.size ∧ (∃ x0 x1 x2 x3 x4, BoxAt W' (w.heap.size + 1 + 1) #[x0, x1, x2, x3, x4] 72) ∧ (L 3 = false → BoxAt W' (w.heap.size + 1 + 1) #[.int .i64 0, .int .i64 0, .slice none 0 0, .int .i64 0, .int .i64 0] 72) ∧ (∃ x0 x1 x2 x3 x4 x5 x6 x7 x8 x9 x10 x11, BoxAt W' (w.heap.size + 1 + 1 + 1) #[x0, x1, x2, x3, x4, x5, x6, x7, x8, x9, x10, x11] 27) ∧ (L 4 = false → BoxAt W' (w.heap.size + 1 + 1 + 1) #[.int .i64 0, .int .i64 0, .int .i64 0, .int .i64 0, .bool false, .int .i64 0, .bool false, .int .i64 0, .int .i64 0, .int .i64 0, .bool false, .int .i64 0] 27)) (fxCV s2 w.heap.size X Y n2 c2 A2 h2) (fun j => [0, 0, 0, 1, 1, 0].getD j 0) [] (by kernel_rfl) (by kernel_rfl) ?_ ?_ ?_
    (.still rfl ?a0 <| .still rfl ?a1 <| .grow rfl ?a2 <| .store rfl ?a3 <| .store rfl ?a4 <| .still rfl ?a5 <| .nil) ?_ ?_
  · exact ⟨fun _ _ _ _ h => h, fun _ _ _ _ h => h, trivial⟩
  · exact ⟨fun σ w w' hb hR => hR.below hb hR.lt, fun σ w w' hb hR => hR.below hb hR.lt, trivial⟩
  · exact ⟨hB.drew, hx, hy, hG, hM, ⟨_, _, _, _, _, hz⟩, fun _ => hz, ⟨_, _, _, _, _, _, _, _, _, _, _, _, hw_⟩, fun _ => hw_⟩
  case a0 =>
    go_light
    intro L σ W' hcl hL hC hw
    have ks := hC.2.1.cell
    clear hw hcl hL hC
    refine OpGoes.step fun K hK => ?_
    unfold OpGoes
    go_simp
    exact hK _ _ ⟨rfl, rfl⟩
  case a1 =>
    go_light
    intro L σ W' hcl hL hC hw
    have kh := hC.2.2.1.cell
    clear hw hcl hL hC
    refine OpGoes.step fun K hK => ?_
    unfold OpGoes
    go_simp
    exact hK _ _ ⟨rfl, rfl⟩
  case a5 =>
    go_light
    intro L σ W' hcl hL hC hw
    clear hw hcl hL hC
    refine OpGoes.step fun K hK => ?_
    unfold OpGoes
    go_simp
    exact hK _ _ ⟨rfl, rfl⟩
  case a2 =>
    go_light
    intro L σ W' hcl hL hC hw
    have e1 := wV hw 1 rfl
    clear hw
    have HC := Lib.hid hC
    clear hC
    clear hcl hL
    refine OpGoes.step fun K hK => ?_
    unfold OpGoes
    go_simp
    obtain ⟨hB, hx, hy, hG, hM, ⟨_, _, _, _, _, hz⟩, hz_o, ⟨_, _, _, _, _, _, _, _, _, _, _, _, hw_⟩, hw__o⟩ := HC.out
    refine (l6Rest_any h2 3 _).mono ?_
    rintro e w1 ⟨rfl, hb1⟩
    exact ⟨_, rfl, hK _ _ ⟨⟨bstep hB hB.size hb1, hx.below hb1 hx.lt, hy.below hb1 hy.lt, hG.below hb1 (Nat.le_trans hhi2 hM), Nat.le_trans hM hb1.size, ⟨_, _, _, _, _, hz.below hb1 hz.lt⟩, fun h => (hz_o (by simpa [upd] using h)).below hb1 (hz_o (by simpa [upd] using h)).lt, ⟨_, _, _, _, _, _, _, _, _, _, _, _, hw_.below hb1 hw_.lt⟩, fun h => (hw__o (by simpa [upd] using h)).below hb1 (hw__o (by simpa [upd] using h)).lt⟩, rfl, hb1⟩⟩
  case a3 =>
    go_light
    intro L σ W' hcl hL hC hw hne
    have e0 := wV hw 0 rfl
    clear hw hne
    have HC := Lib.hid hC
    obtain ⟨hB, hx, hy, hG, hM, ⟨_, _, _, _, _, hz⟩, hz_o, ⟨_, _, _, _, _, _, _, _, _, _, _, _, hw_⟩, hw__o⟩ := hC
    clear hcl hL
    have kc_ := hz.cell
    have kf_ := hz.frozen
    clear hB hx hy hG hM hz hz_o hw_ hw__o
    refine OpGoes.step fun K hK => ?_
    unfold OpGoes
    go_simp
    obtain ⟨hB, hx, hy, hG, hM, ⟨_, _, _, _, _, hz⟩, hz_o, ⟨_, _, _, _, _, _, _, _, _, _, _, _, hw_⟩, hw__o⟩ := HC.out
    have hset := sets_all (us := [.int .i64 s2.rd, .int .i64 s2.mo, .slice A2 n2 c2, .int .i64 s2.fi, .int .i64 s2.la]) hz rfl
    refine hK undef (setCells W' (w.heap.size + 1 + 1) 0 [.int .i64 s2.rd, .int .i64 s2.mo, .slice A2 n2 c2, .int .i64 s2.fi, .int .i64 s2.la]) ⟨⟨(Below.setCells (by omega) _ 0 hB), (BoxAt.sets_ne _ 0 hx (by omega)), (BoxAt.sets_ne _ 0 hy (by omega)), (RgsW.sts hG (by omega) _ 0), (size_sts hM _ 0), ⟨_, _, _, _, _, hset⟩, fun h => absurd h (by simp [upd]), ⟨_, _, _, _, _, _, _, _, _, _, _, _, (BoxAt.sets_ne _ 0 hw_ (by omega))⟩, fun h => (BoxAt.sets_ne _ 0 (hw__o (by simpa [upd] using h)) (by omega))⟩, hset, Nat.le_of_eq (sets_size _ _ _).symm, keepV ?_⟩
    exact ⟨fun h => absurd rfl h, fun _ _ hR => (BoxAt.sets_ne _ 0 hR (by omega)), trivial⟩
  case a4 =>
    go_light
    intro L σ W' hcl hL hC hw hne
    have e2 := wV hw 2 rfl
    clear hw hne
    have HC := Lib.hid hC
    obtain ⟨hB, hx, hy, hG, hM, ⟨_, _, _, _, _, hz⟩, hz_o, ⟨_, _, _, _, _, _, _, _, _, _, _, _, hw_⟩, hw__o⟩ := hC
    clear hcl hL
    have kc_ := hw_.cell
    have kf_ := hw_.frozen
    clear hB hx hy hG hM hz hz_o hw_ hw__o
    refine OpGoes.step fun K hK => ?_
    unfold OpGoes
    go_simp
    obtain ⟨hB, hx, hy, hG, hM, ⟨_, _, _, _, _, hz⟩, hz_o, ⟨_, _, _, _, _, _, _, _, _, _, _, _, hw_⟩, hw__o⟩ := HC.out
    have hset := sets_all (us := [.int .i64 0, .int .i64 0, .int .i64 0, .int .i64 0, .bool false, .int .i64 0, .bool false, .int .i64 0, .int .i64 0, .int .i64 h2.sp, .bool false, .int .i64 3]) hw_ rfl
    refine hK undef (setCells W' (w.heap.size + 1 + 1 + 1) 0 [.int .i64 0, .int .i64 0, .int .i64 0, .int .i64 0, .bool false, .int .i64 0, .bool false, .int .i64 0, .int .i64 0, .int .i64 h2.sp, .bool false, .int .i64 3]) ⟨⟨(Below.setCells (by omega) _ 0 hB), (BoxAt.sets_ne _ 0 hx (by omega)), (BoxAt.sets_ne _ 0 hy (by omega)), (RgsW.sts hG (by omega) _ 0), (size_sts hM _ 0), ⟨_, _, _, _, _, (BoxAt.sets_ne _ 0 hz (by omega))⟩, fun h => (BoxAt.sets_ne _ 0 (hz_o (by simpa [upd] using h)) (by omega)), ⟨_, _, _, _, _, _, _, _, _, _, _, _, hset⟩, fun h => absurd h (by simp [upd])⟩, hset, Nat.le_of_eq (sets_size _ _ _).symm, keepV ?_⟩
    exact ⟨fun _ _ hR => (BoxAt.sets_ne _ 0 hR (by omega)), fun h => absurd rfl h, trivial⟩
  · intro L L' W' hLL hC
    obtain ⟨hB, hx, hy, hG, hM, ⟨_, _, _, _, _, hz⟩, hz_o, ⟨_, _, _, _, _, _, _, _, _, _, _, _, hw_⟩, hw__o⟩ := hC
    exact ⟨hB, hx, hy, hG, hM, ⟨_, _, _, _, _, hz⟩, fun h => hz_o (hLL _ h), ⟨_, _, _, _, _, _, _, _, _, _, _, _, hw_⟩, fun h => hw__o (hLL _ h)⟩
  · intro σ L W' hall hC hRR
    obtain ⟨hB, hx, hy, hG, hM, ⟨_, _, _, _, _, hz⟩, hz_o, ⟨_, _, _, _, _, _, _, _, _, _, _, _, hw_⟩, hw__o⟩ := hC
    have s3 := dE hRR 3 rfl
    have s4 := dE hRR 4 rfl
    have e5 := dV hRR 5 rfl
    clear hRR
    simp only [lexAll]
    go_simp
    exact hQ _ _ _ _ hB s3 s4 hG (Nat.le_trans hhi2 hM)

def fxDV (s2 : St) (N X Y n2 c2 : Nat) (A2 : Option Addr) (h2 : Hd) : List Sl := [.v (.agg #[.int .i64 s2.rd, .int .i64 s2.mo, .slice A2 n2 c2, .int .i64 s2.fi, .int .i64 s2.la]),
  .v (.agg #[.int .i64 h2.at_, .int .i64 h2.v, .int .i64 h2.r, .int .i64 h2.t, .bool h2.seen.s, .int .i64 h2.seen.n, .bool h2.seen.f, .int .i64 h2.seen.v, .int .i64 h2.tr, .int .i64 h2.sp, .bool h2.ag, .int .i64 h2.re]),
  .e fun σ w => BoxAt w (N + 1 + 1) #[.int .i64 s2.rd, .int .i64 s2.mo, .slice A2 n2 c2, .int .i64 s2.fi, .int .i64 s2.la] 72,
  .e fun σ w => BoxAt w (N + 1 + 1 + 1) #[.int .i64 h2.at_, .int .i64 h2.v, .int .i64 h2.r, .int .i64 h2.t, .bool h2.seen.s, .int .i64 h2.seen.n, .bool h2.seen.f, .int .i64 h2.seen.v, .int .i64 h2.tr, .int .i64 h2.sp, .bool h2.ag, .int .i64 h2.re] 27,
  .v (.bool true)]

set_option maxRecDepth 100000 in
set_option maxHeartbeats 4000000 in
theorem fxD_wp {Q : Exit → Act → World → Prop} {l : List Oper} (w : World) (s2 : St) (lo2 hi2 : Nat) (A2 : Option Addr) (n2 c2 : Nat) (h2 : Hd) (X Y : Nat) {W : World} {x0 x1 x6 x7 x8 x9 x10 x11 x12 x13 x14 x15 x16 x17 x18 x19 x20 x21 x22 x23 x24 x25 x26 x27 x28 x29 x30 x31 x32 x33 x34 x35 x36 x37 x38 x39 x40 x41 x42 x43 x44 x45 x46 x47 x48 x49 x50 x51 x52 x53 x54 x55 x56 x57 x58 x59 x60 x61 x62 x63 x64 x65 x66 x67 x68 x69 x70 x71 x72 x73 x74 x75 x76 x77 x78 x79 x80 x81 x82 : Value} (hl : l = opsAt Try.f103 26) (hd : (w.heap.size + 2 < lo2 ∨ hi2 ≤ w.heap.size + 2) ∧ (w.heap.size + 3 < lo2 ∨ hi2 ≤ w.heap.size + 3)) (hXY : X ≠ w.heap.size + 2 ∧ X ≠ w.heap.size + 3 ∧ Y ≠ w.heap.size + 2 ∧ Y ≠ w.heap.size + 3)
    (hI : Below w.heap.size w W ∧ BoxAt W X #[.int .i64 s2.rd, .int .i64 s2.mo, .slice A2 n2 c2, .int .i64 s2.fi, .int .i64 s2.la] 72 ∧ BoxAt W Y #[.int .i64 h2.at_, .int .i64 h2.v, .int .i64 h2.r, .int .i64 h2.t, .bool h2.seen.s, .int .i64 h2.seen.n, .bool h2.seen.f, .int .i64 h2.seen.v, .int .i64 h2.tr, .int .i64 h2.sp, .bool h2.ag, .int .i64 h2.re] 27 ∧ BoxAt W (w.heap.size + 1 + 1) #[.int .i64 0, .int .i64 0, .slice none 0 0, .int .i64 0, .int .i64 0] 72 ∧ BoxAt W (w.heap.size + 1 + 1 + 1) #[.int .i64 0, .int .i64 0, .int .i64 0, .int .i64 0, .bool false, .int .i64 0, .bool false, .int .i64 0, .int .i64 0, .int .i64 0, .bool false, .int .i64 0] 27 ∧ RgsW lo2 hi2 W A2 n2 c2 s2.rs ∧ hi2 ≤ W.heap.size)
    (hQ : ∀ (y81 y82 : Value) (W' : World), Below w.heap.size w W' → BoxAt W' (w.heap.size + 1 + 1) #[.int .i64 s2.rd, .int .i64 s2.mo, .slice A2 n2 c2, .int .i64 s2.fi, .int .i64 s2.la] 72 → BoxAt W' (w.heap.size + 1 + 1 + 1) #[.int .i64 h2.at_, .int .i64 h2.v, .int .i64 h2.r, .int .i64 h2.t, .bool h2.seen.s, .int .i64 h2.seen.n, .bool h2.seen.f, .int .i64 h2.seen.v, .int .i64 h2.tr, .int .i64 h2.sp, .bool h2.ag, .int .i64 h2.re] 27 → RgsW lo2 hi2 W' A2 n2 c2 s2.rs → hi2 ≤ W'.heap.size → Q .normal ⟨#[x0, x1, .pointer (some ⟨X, 0, none⟩), .pointer (some ⟨Y, 0, none⟩), .pointer (some ⟨w.heap.size + 1 + 1, 0, none⟩), .pointer (some ⟨w.heap.size + 1 + 1 + 1, 0, none⟩), .bool true, x7, x8, x9, x10, x11, x12, x13, x14, x15, x16, x17, x18, x19, x20, x21, x22, x23, x24, x25, x26, x27, x28, x29, x30, x31, x32, x33, x34, x35, x36, x37, x38, x39, x40, x41, x42, x43, x44, x45, x46, x47, x48, x49, x50, x51, x52, x53, x54, x55, x56, x57, x58, x59, x60, x61, x62, x63, x64, x65, x66, x67, x68, x69, x70, x71, x72, x73, x74, x75, x76, x77, x78, x79, x80, y81, y82], []⟩ W') :
    (Code.region 26 l.toArray true).wp Try.prog Q ⟨#[x0, x1, .pointer (some ⟨X, 0, none⟩), .pointer (some ⟨Y, 0, none⟩), .pointer (some ⟨w.heap.size + 1 + 1, 0, none⟩), .pointer (some ⟨w.heap.size + 1 + 1 + 1, 0, none⟩), x6, x7, x8, x9, x10, x11, x12, x13, x14, x15, x16, x17, x18, x19, x20, x21, x22, x23, x24, x25, x26, x27, x28, x29, x30, x31, x32, x33, x34, x35, x36, x37, x38, x39, x40, x41, x42, x43, x44, x45, x46, x47, x48, x49, x50, x51, x52, x53, x54, x55, x56, x57, x58, x59, x60, x61, x62, x63, x64, x65, x66, x67, x68, x69, x70, x71, x72, x73, x74, x75, x76, x77, x78, x79, x80, x81, x82], []⟩ W := by
  have hl' : l = [_, _, _, _, _] := hl
  subst hl'
  clear hl
  obtain ⟨hB, hx, hy, hz, hw_, hG, hhi⟩ := hI
  have lw := hw_.lt
  obtain ⟨M, hMe⟩ : ∃ M, M = W.heap.size := ⟨_, rfl⟩
  have hM : M ≤ W.heap.size := by omega
  have hhi2 : hi2 ≤ M := by omega
  clear hMe
  refine wp_region2v (fun w w' => Below w.heap.size w w') (fun _ _ h => h.size) (fun _ => Below.refl _ _) (fun L W' => Below w.heap.size w W' ∧ BoxAt W' X #[.int .i64 s2.rd, .int .i64 s2.mo, .slice A2 n2 c2, .int .i64 s2.fi, .int .i64 s2.la] 72 ∧ BoxAt W' Y #[.int .i64 h2.at_, .int .i64 h2.v, .int .i64 h2.r, .int .i64 h2.t, .bool h2.seen.s, .int .i64 h2.seen.n, .bool h2.seen.f, .int .i64 h2.seen.v, .int .i64 h2.tr, .int .i64 h2.sp, .bool h2.ag, .int .i64 h2.re] 27 ∧ RgsW lo2 hi2 W' A2 n2 c2 s2.rs ∧ M ≤ W'.heap.size ∧ (∃ x0 x1 x2 x3 x4, BoxAt W' (w.heap.size + 1 + 1) #[x0, x1, x2, x3, x4] 72) ∧ (L 2 = false → BoxAt W' (w.heap.size + 1 + 1) #[.int .i64 0, .int .i64 0, .slice none 0 0, .int .i64 0, .int .i64 0] 72) ∧ (∃ x0 x1 x2 x3 x4 x5 x6 x7 x8 x9 x10 x11, BoxAt W' (w.heap.size + 1 + 1 + 1) #[x0, x1, x2, x3, x4, x5, x6, x7, x8, x9, x10, x11] 27) ∧ (L 3 = false → BoxAt W' (w.heap.size + 1 + 1 + 1) #[.int .i64 0, .int .i64 0, .int .i64 0, .int .i64 0, .bool false, .int .i64 0, .bool false, .int .i64 0, .int .i64 0, .int .i64 0, .bool false, .int .i64 0] 27)) (fxDV s2 w.heap.size X Y n2 c2 A2 h2) (fun j => [0, 0, 1, 1, 0].getD j 0) [] (by kernel_rfl) (by kernel_rfl) ?_ ?_ ?_
    (.still rfl ?a0 <| .still rfl ?a1 <| .store rfl ?a2 <| .store rfl ?a3 <| .still rfl ?a4 <| .nil) ?_ ?_
  · exact ⟨fun _ _ _ _ h => h, fun _ _ _ _ h => h, trivial⟩
  · exact ⟨fun σ w w' hb hR => hR.below hb hR.lt, fun σ w w' hb hR => hR.below hb hR.lt, trivial⟩
  · exact ⟨hB.drew, hx, hy, hG, hM, ⟨_, _, _, _, _, hz⟩, fun _ => hz, ⟨_, _, _, _, _, _, _, _, _, _, _, _, hw_⟩, fun _ => hw_⟩
  case a0 =>
    go_light
    intro L σ W' hcl hL hC hw
    have ks := hC.2.1.cell
    clear hw hcl hL hC
    refine OpGoes.step fun K hK => ?_
    unfold OpGoes
    go_simp
    exact hK _ _ ⟨rfl, rfl⟩
  case a1 =>
    go_light
    intro L σ W' hcl hL hC hw
    have kh := hC.2.2.1.cell
    clear hw hcl hL hC
    refine OpGoes.step fun K hK => ?_
    unfold OpGoes
    go_simp
    exact hK _ _ ⟨rfl, rfl⟩
  case a4 =>
    go_light
    intro L σ W' hcl hL hC hw
    clear hw hcl hL hC
    refine OpGoes.step fun K hK => ?_
    unfold OpGoes
    go_simp
    exact hK _ _ ⟨rfl, rfl⟩
  case a2 =>
    go_light
    intro L σ W' hcl hL hC hw hne
    have e0 := wV hw 0 rfl
    clear hw hne
    have HC := Lib.hid hC
    obtain ⟨hB, hx, hy, hG, hM, ⟨_, _, _, _, _, hz⟩, hz_o, ⟨_, _, _, _, _, _, _, _, _, _, _, _, hw_⟩, hw__o⟩ := hC
    clear hcl hL
    have kc_ := hz.cell
    have kf_ := hz.frozen
    clear hB hx hy hG hM hz hz_o hw_ hw__o
    refine OpGoes.step fun K hK => ?_
    unfold OpGoes
    go_simp
    obtain ⟨hB, hx, hy, hG, hM, ⟨_, _, _, _, _, hz⟩, hz_o, ⟨_, _, _, _, _, _, _, _, _, _, _, _, hw_⟩, hw__o⟩ := HC.out
    have hset := sets_all (us := [.int .i64 s2.rd, .int .i64 s2.mo, .slice A2 n2 c2, .int .i64 s2.fi, .int .i64 s2.la]) hz rfl
    refine hK undef (setCells W' (w.heap.size + 1 + 1) 0 [.int .i64 s2.rd, .int .i64 s2.mo, .slice A2 n2 c2, .int .i64 s2.fi, .int .i64 s2.la]) ⟨⟨(Below.setCells (by omega) _ 0 hB), (BoxAt.sets_ne _ 0 hx (by omega)), (BoxAt.sets_ne _ 0 hy (by omega)), (RgsW.sts hG (by omega) _ 0), (size_sts hM _ 0), ⟨_, _, _, _, _, hset⟩, fun h => absurd h (by simp [upd]), ⟨_, _, _, _, _, _, _, _, _, _, _, _, (BoxAt.sets_ne _ 0 hw_ (by omega))⟩, fun h => (BoxAt.sets_ne _ 0 (hw__o (by simpa [upd] using h)) (by omega))⟩, hset, Nat.le_of_eq (sets_size _ _ _).symm, keepV ?_⟩
    exact ⟨fun h => absurd rfl h, fun _ _ hR => (BoxAt.sets_ne _ 0 hR (by omega)), trivial⟩
  case a3 =>
    go_light
    intro L σ W' hcl hL hC hw hne
    have e1 := wV hw 1 rfl
    clear hw hne
    have HC := Lib.hid hC
    obtain ⟨hB, hx, hy, hG, hM, ⟨_, _, _, _, _, hz⟩, hz_o, ⟨_, _, _, _, _, _, _, _, _, _, _, _, hw_⟩, hw__o⟩ := hC
    clear hcl hL
    have kc_ := hw_.cell
    have kf_ := hw_.frozen
    clear hB hx hy hG hM hz hz_o hw_ hw__o
    refine OpGoes.step fun K hK => ?_
    unfold OpGoes
    go_simp
    obtain ⟨hB, hx, hy, hG, hM, ⟨_, _, _, _, _, hz⟩, hz_o, ⟨_, _, _, _, _, _, _, _, _, _, _, _, hw_⟩, hw__o⟩ := HC.out
    have hset := sets_all (us := [.int .i64 h2.at_, .int .i64 h2.v, .int .i64 h2.r, .int .i64 h2.t, .bool h2.seen.s, .int .i64 h2.seen.n, .bool h2.seen.f, .int .i64 h2.seen.v, .int .i64 h2.tr, .int .i64 h2.sp, .bool h2.ag, .int .i64 h2.re]) hw_ rfl
    refine hK undef (setCells W' (w.heap.size + 1 + 1 + 1) 0 [.int .i64 h2.at_, .int .i64 h2.v, .int .i64 h2.r, .int .i64 h2.t, .bool h2.seen.s, .int .i64 h2.seen.n, .bool h2.seen.f, .int .i64 h2.seen.v, .int .i64 h2.tr, .int .i64 h2.sp, .bool h2.ag, .int .i64 h2.re]) ⟨⟨(Below.setCells (by omega) _ 0 hB), (BoxAt.sets_ne _ 0 hx (by omega)), (BoxAt.sets_ne _ 0 hy (by omega)), (RgsW.sts hG (by omega) _ 0), (size_sts hM _ 0), ⟨_, _, _, _, _, (BoxAt.sets_ne _ 0 hz (by omega))⟩, fun h => (BoxAt.sets_ne _ 0 (hz_o (by simpa [upd] using h)) (by omega)), ⟨_, _, _, _, _, _, _, _, _, _, _, _, hset⟩, fun h => absurd h (by simp [upd])⟩, hset, Nat.le_of_eq (sets_size _ _ _).symm, keepV ?_⟩
    exact ⟨fun _ _ hR => (BoxAt.sets_ne _ 0 hR (by omega)), fun h => absurd rfl h, trivial⟩
  · intro L L' W' hLL hC
    obtain ⟨hB, hx, hy, hG, hM, ⟨_, _, _, _, _, hz⟩, hz_o, ⟨_, _, _, _, _, _, _, _, _, _, _, _, hw_⟩, hw__o⟩ := hC
    exact ⟨hB, hx, hy, hG, hM, ⟨_, _, _, _, _, hz⟩, fun h => hz_o (hLL _ h), ⟨_, _, _, _, _, _, _, _, _, _, _, _, hw_⟩, fun h => hw__o (hLL _ h)⟩
  · intro σ L W' hall hC hRR
    obtain ⟨hB, hx, hy, hG, hM, ⟨_, _, _, _, _, hz⟩, hz_o, ⟨_, _, _, _, _, _, _, _, _, _, _, _, hw_⟩, hw__o⟩ := hC
    have s2 := dE hRR 2 rfl
    have s3 := dE hRR 3 rfl
    have e4 := dV hRR 4 rfl
    clear hRR
    simp only [lexAll]
    go_simp
    exact hQ _ _ _ hB s2 s3 hG (Nat.le_trans hhi2 hM)

set_option maxRecDepth 100000 in
set_option maxHeartbeats 4000000 in
theorem l7Fix_21 (s : St) (A : Option Addr) (n cap lo hi : Nat) (v r t : Int) (seen : Pl) (tr sp : Int) (ag : Bool) (re : Int) (w : World) (hs : RgsW lo hi w A n cap s.rs) (hh : hi ≤ w.heap.size) (hlo : lo ≤ w.heap.size) (hok : stOk s = true) (hrb : ringB s r = true) :
    Calls Try.prog 103 #[stV s A n cap, hdV ⟨21, v, r, t, seen, tr, sp, ag, re⟩] w (RetSHB lo (take21 s ⟨21, v, r, t, seen, tr, sp, ag, re⟩) w) := by
  have HOK := Lib.hid hok
  have HRB := Lib.hid hrb
  have HLN := Lib.hid hs.1
  have HNT := Lib.hid (stOk_neat hok)
  obtain ⟨z0, z1, z2⟩ := ringB_at HLN.out hrb
  clear hok hrb
  unfold stV hdV
  dsimp only
  go_enter Try.func103, Try.ntmps103
  go_upto_region 1 with fail
  refine wp_abs (fun W => Below w.heap.size w W ∧ BoxAt W w.heap.size #[.int .i64 s.rd, .int .i64 s.mo, .slice A n cap, .int .i64 s.fi, .int .i64 s.la] 72 ∧ BoxAt W (w.heap.size + 1) #[.int .i64 21, .int .i64 v, .int .i64 r, .int .i64 t, .bool seen.s, .int .i64 seen.n, .bool seen.f, .int .i64 seen.v, .int .i64 tr, .int .i64 sp, .bool ag, .int .i64 re] 27 ∧ BoxAt W (w.heap.size + 1 + 1) #[.int .i64 0, .int .i64 0, .slice none 0 0, .int .i64 0, .int .i64 0] 72 ∧ BoxAt W (w.heap.size + 1 + 1 + 1) #[.int .i64 0, .int .i64 0, .int .i64 0, .int .i64 0, .bool false, .int .i64 0, .bool false, .int .i64 0, .int .i64 0, .int .i64 0, .bool false, .int .i64 0] 27) ⟨(((((Below.refl _ _).alloc (Nat.le_refl _) _).alloc (by simp) _).alloc (by simp; omega) _).alloc (by simp; omega) _), (((BoxAt.new _ _ _).alloc _).alloc _).alloc _, ((BoxAt.new' (by simp)).alloc _).alloc _, (BoxAt.new' (by simp)).alloc _, BoxAt.new' (by simp)⟩ ?_
  rintro W0 ⟨hB, hx, hy, hz, hw_⟩
  have lw0 := hw_.lt
  have hs0 := hs.below hB hh
  have kx := hx.cell
  have ky := hy.cell
  have fy := hy.frozen
  obtain ⟨b, rg, A', n', cap', rfl, hlb, hbh, hri, c0, c1', c2, c3, c4, hpw⟩ := hs0.at_ z2
  have HAT := Lib.hid (St.at_some (s := s) (z := r) hri)
  have hnum := stOk_nums HOK.out rg (List.mem_of_getElem? hri)
  clear hri
  go_upto_region 3 with fail
  refine wp_abs (fun W => Below w.heap.size w W ∧ BoxAt W w.heap.size #[.int .i64 s.rd, .int .i64 s.mo, .slice (some ⟨b, 0, none⟩) n cap, .int .i64 s.fi, .int .i64 s.la] 72 ∧ BoxAt W (w.heap.size + 1) #[.int .i64 21, .int .i64 v, .int .i64 r, .int .i64 t, .bool seen.s, .int .i64 seen.n, .bool seen.f, .int .i64 seen.v, .int .i64 tr, .int .i64 sp, .bool ag, .int .i64 re] 27 ∧ BoxAt W (w.heap.size + 1 + 1) #[.int .i64 0, .int .i64 0, .slice none 0 0, .int .i64 0, .int .i64 0] 72 ∧ BoxAt W (w.heap.size + 1 + 1 + 1) #[.int .i64 0, .int .i64 0, .int .i64 0, .int .i64 0, .bool false, .int .i64 0, .bool false, .int .i64 0, .int .i64 0, .int .i64 0, .bool false, .int .i64 0] 27 ∧ BoxAt W W0.heap.size #[.int .i64 rg.h, .int .i64 rg.t, .bool rg.c, .int .i64 rg.x, .slice A' n' cap'] 39) ⟨hB.alloc hB.size _, hx.alloc _, hy.alloc _, hz.alloc _, hw_.alloc _, BoxAt.new _ _ _⟩ ?_
  clear kx ky fy hB hx hy hz hw_ hs0 c0 c1' c2 c3 c4 hpw
  generalize W0.heap.size = Z at *
  rintro W0 ⟨hB, hx, hy, hz, hw_, hZ⟩
  have lZ := hZ.lt
  have lw2 := hw_.lt
  have hs0 := hs.below hB hh
  have kx := hx.cell
  have ky := hy.cell
  have fy := hy.frozen
  have kZ := hZ.cell
  cases hc0 : rg.c
  · rw [hc0] at kZ
    by_cases h1 : tr ≤ rg.t
    · have HC := Lib.hid (show ((s.at r).c || decide (tr ≤ (s.at r).t)) = true by rw [HAT.out]; simp [h1])
      go_upto_region 7 with fail
      have HV := Lib.hid (show take21 s ⟨21, v, r, t, seen, tr, sp, ag, re⟩ = (s, (⟨23, v, r, t, seen, tr, sp, ag, re⟩ : Hd), true) by simp only [take21, HC.out, if_true])
      refine fxA_wp w s lo hi (some ⟨b, 0, none⟩) n cap (⟨23, v, r, t, seen, tr, sp, ag, re⟩ : Hd) w.heap.size (w.heap.size + 1) (by kernel_rfl) (by omega) (by omega) ⟨(hB.setCell (by dsimp only; omega) _), (hx.set_ne (by omega) _ _), by simpa using (hy.set 0 (.int .i64 23)), (hz.set_ne (by omega) _ _), (hw_.set_ne (by omega) _ _), (hs0.st (.inr (by omega)) _ _), by simp; omega⟩ ?_
      clear kx ky fy kZ hB hx hy hz hw_ hs0 hZ
      generalize hq2 : (⟨23, v, r, t, seen, tr, sp, ag, re⟩ : Hd) = h2 at *
      clear hq2
      intro _ _ W' hB k7 k8 hG _
      replace k7 := k7.cell
      replace k8 := k8.cell
      go_step
      go_wp2
      refine bodyPost_ret (v := .tuple #[stV s (some ⟨b, 0, none⟩) n cap, hdV h2, .bool true]) (by simp [results, Try.results103, go_sem, k7, k8, stV, hdV, Hd.rest, Hd.zero]) rfl ⟨some ⟨b, 0, none⟩, n, cap, by rw [HV.out], ?_, hB⟩
      rw [HV.out]
      exact hG.cut.mono (by omega) (Nat.le_refl _)
    · have HC := Lib.hid (show ((s.at r).c || decide (tr ≤ (s.at r).t)) = false by rw [HAT.out]; simp [h1, hc0])
      go_upto_region 26 with fail
      have HV := Lib.hid (show take21 s ⟨21, v, r, t, seen, tr, sp, ag, re⟩ = (s, (⟨22, v, r, rg.t, seen, tr, sp, ag, re⟩ : Hd), true) by simp only [take21, HC.out]; rw [HAT.out]; rfl)
      refine fxD_wp w s lo hi (some ⟨b, 0, none⟩) n cap (⟨22, v, r, rg.t, seen, tr, sp, ag, re⟩ : Hd) w.heap.size (w.heap.size + 1) (by kernel_rfl) (by omega) (by omega) ⟨((hB.setCell (by dsimp only; omega) _).setCell (by dsimp only; omega) _), ((hx.set_ne (by omega) _ _).set_ne (by omega) _ _), by simpa using ((hy.set 3 (.int .i64 rg.t)).set 0 (.int .i64 22)), ((hz.set_ne (by omega) _ _).set_ne (by omega) _ _), ((hw_.set_ne (by omega) _ _).set_ne (by omega) _ _), ((hs0.st (.inr (by omega)) _ _).st (.inr (by omega)) _ _), by simp; omega⟩ ?_
      clear kx ky fy kZ hB hx hy hz hw_ hs0 hZ
      generalize hq2 : (⟨22, v, r, rg.t, seen, tr, sp, ag, re⟩ : Hd) = h2 at *
      clear hq2
      intro _ _ W' hB k7 k8 hG _
      replace k7 := k7.cell
      replace k8 := k8.cell
      go_step
      go_wp2
      refine bodyPost_ret (v := .tuple #[stV s (some ⟨b, 0, none⟩) n cap, hdV h2, .bool true]) (by simp [results, Try.results103, go_sem, k7, k8, stV, hdV, Hd.rest, Hd.zero]) rfl ⟨some ⟨b, 0, none⟩, n, cap, by rw [HV.out], ?_, hB⟩
      rw [HV.out]
      exact hG.cut.mono (by omega) (Nat.le_refl _)
  · rw [hc0] at kZ
    have HC := Lib.hid (show ((s.at r).c || decide (tr ≤ (s.at r).t)) = true by rw [HAT.out]; simp [hc0])
    go_upto_region 7 with fail
    have HV := Lib.hid (show take21 s ⟨21, v, r, t, seen, tr, sp, ag, re⟩ = (s, (⟨23, v, r, t, seen, tr, sp, ag, re⟩ : Hd), true) by simp only [take21, HC.out, if_true])
    refine fxA_wp w s lo hi (some ⟨b, 0, none⟩) n cap (⟨23, v, r, t, seen, tr, sp, ag, re⟩ : Hd) w.heap.size (w.heap.size + 1) (by kernel_rfl) (by omega) (by omega) ⟨(hB.setCell (by dsimp only; omega) _), (hx.set_ne (by omega) _ _), by simpa using (hy.set 0 (.int .i64 23)), (hz.set_ne (by omega) _ _), (hw_.set_ne (by omega) _ _), (hs0.st (.inr (by omega)) _ _), by simp; omega⟩ ?_
    clear kx ky fy kZ hB hx hy hz hw_ hs0 hZ
    generalize hq2 : (⟨23, v, r, t, seen, tr, sp, ag, re⟩ : Hd) = h2 at *
    clear hq2
    intro _ _ W' hB k7 k8 hG _
    replace k7 := k7.cell
    replace k8 := k8.cell
    go_step
    go_wp2
    refine bodyPost_ret (v := .tuple #[stV s (some ⟨b, 0, none⟩) n cap, hdV h2, .bool true]) (by simp [results, Try.results103, go_sem, k7, k8, stV, hdV, Hd.rest, Hd.zero]) rfl ⟨some ⟨b, 0, none⟩, n, cap, by rw [HV.out], ?_, hB⟩
    rw [HV.out]
    exact hG.cut.mono (by omega) (Nat.le_refl _)
set_option maxRecDepth 100000 in
set_option maxHeartbeats 4000000 in
theorem l7Fix_23 (s : St) (A : Option Addr) (n cap lo hi : Nat) (v r t : Int) (seen : Pl) (tr sp : Int) (ag : Bool) (re : Int) (w : World) (hs : RgsW lo hi w A n cap s.rs) (hh : hi ≤ w.heap.size) (hlo : lo ≤ w.heap.size) (hok : stOk s = true) (hrb : ringB s r = true) :
    Calls Try.prog 103 #[stV s A n cap, hdV ⟨23, v, r, t, seen, tr, sp, ag, re⟩] w (RetSHB lo (take23 s ⟨23, v, r, t, seen, tr, sp, ag, re⟩) w) := by
  have HOK := Lib.hid hok
  have HRB := Lib.hid hrb
  have HLN := Lib.hid hs.1
  have HNT := Lib.hid (stOk_neat hok)
  obtain ⟨z0, z1, z2⟩ := ringB_at HLN.out hrb
  clear hok hrb
  unfold stV hdV
  dsimp only
  go_enter Try.func103, Try.ntmps103
  go_upto_region 1 with fail
  refine wp_abs (fun W => Below w.heap.size w W ∧ BoxAt W w.heap.size #[.int .i64 s.rd, .int .i64 s.mo, .slice A n cap, .int .i64 s.fi, .int .i64 s.la] 72 ∧ BoxAt W (w.heap.size + 1) #[.int .i64 23, .int .i64 v, .int .i64 r, .int .i64 t, .bool seen.s, .int .i64 seen.n, .bool seen.f, .int .i64 seen.v, .int .i64 tr, .int .i64 sp, .bool ag, .int .i64 re] 27 ∧ BoxAt W (w.heap.size + 1 + 1) #[.int .i64 0, .int .i64 0, .slice none 0 0, .int .i64 0, .int .i64 0] 72 ∧ BoxAt W (w.heap.size + 1 + 1 + 1) #[.int .i64 0, .int .i64 0, .int .i64 0, .int .i64 0, .bool false, .int .i64 0, .bool false, .int .i64 0, .int .i64 0, .int .i64 0, .bool false, .int .i64 0] 27) ⟨(((((Below.refl _ _).alloc (Nat.le_refl _) _).alloc (by simp) _).alloc (by simp; omega) _).alloc (by simp; omega) _), (((BoxAt.new _ _ _).alloc _).alloc _).alloc _, ((BoxAt.new' (by simp)).alloc _).alloc _, (BoxAt.new' (by simp)).alloc _, BoxAt.new' (by simp)⟩ ?_
  rintro W0 ⟨hB, hx, hy, hz, hw_⟩
  have lw0 := hw_.lt
  have hs0 := hs.below hB hh
  have kx := hx.cell
  have ky := hy.cell
  have fy := hy.frozen
  obtain ⟨b, rg, A', n', cap', rfl, hlb, hbh, hri, c0, c1', c2, c3, c4, hpw⟩ := hs0.at_ z2
  have HAT := Lib.hid (St.at_some (s := s) (z := r) hri)
  have hnum := stOk_nums HOK.out rg (List.mem_of_getElem? hri)
  clear hri
  go_upto_region 3 with fail
  refine wp_abs (fun W => Below w.heap.size w W ∧ BoxAt W w.heap.size #[.int .i64 s.rd, .int .i64 s.mo, .slice (some ⟨b, 0, none⟩) n cap, .int .i64 s.fi, .int .i64 s.la] 72 ∧ BoxAt W (w.heap.size + 1) #[.int .i64 23, .int .i64 v, .int .i64 r, .int .i64 t, .bool seen.s, .int .i64 seen.n, .bool seen.f, .int .i64 seen.v, .int .i64 tr, .int .i64 sp, .bool ag, .int .i64 re] 27 ∧ BoxAt W (w.heap.size + 1 + 1) #[.int .i64 0, .int .i64 0, .slice none 0 0, .int .i64 0, .int .i64 0] 72 ∧ BoxAt W (w.heap.size + 1 + 1 + 1) #[.int .i64 0, .int .i64 0, .int .i64 0, .int .i64 0, .bool false, .int .i64 0, .bool false, .int .i64 0, .int .i64 0, .int .i64 0, .bool false, .int .i64 0] 27 ∧ BoxAt W W0.heap.size #[.int .i64 rg.h, .int .i64 rg.t, .bool rg.c, .int .i64 rg.x, .slice A' n' cap'] 39) ⟨hB.alloc hB.size _, hx.alloc _, hy.alloc _, hz.alloc _, hw_.alloc _, BoxAt.new _ _ _⟩ ?_
  clear kx ky fy hB hx hy hz hw_ hs0 c0 c1' c2 c3 c4 hpw
  generalize W0.heap.size = Z at *
  rintro W0 ⟨hB, hx, hy, hz, hw_, hZ⟩
  have lZ := hZ.lt
  have lw2 := hw_.lt
  have hs0 := hs.below hB hh
  have kx := hx.cell
  have ky := hy.cell
  have fy := hy.frozen
  have kZ := hZ.cell
  cases ag
  · by_cases h1 : rg.x < 0
    · have HC := Lib.hid (show ((s.at r).x < 0) = True by rw [HAT.out]; simp [h1])
      go_upto_region 19 with fail
      have HV := Lib.hid (show take23 s ⟨23, v, r, t, seen, tr, sp, false, re⟩ = (s, ((⟨23, v, r, t, seen, tr, sp, false, re⟩ : Hd)).rest 3, true) by simp only [take23, HC.out, if_true]; rfl)
      refine fxC_wp w s lo hi (some ⟨b, 0, none⟩) n cap (⟨23, v, r, t, seen, tr, sp, false, re⟩ : Hd) w.heap.size (w.heap.size + 1) (by kernel_rfl) (by omega) (by omega) ⟨hB, hx, by simpa using hy, hz, hw_, hs0, by omega⟩ ?_
      clear kx ky fy kZ hB hx hy hz hw_ hs0 hZ
      generalize hq2 : (⟨23, v, r, t, seen, tr, sp, false, re⟩ : Hd) = h2 at *
      clear hq2
      intro _ _ _ W' hB k7 k8 hG _
      replace k7 := k7.cell
      replace k8 := k8.cell
      go_step
      go_wp2
      refine bodyPost_ret (v := .tuple #[stV s (some ⟨b, 0, none⟩) n cap, hdV (h2.rest 3), .bool true]) (by simp [results, Try.results103, go_sem, k7, k8, stV, hdV, Hd.rest, Hd.zero]) rfl ⟨some ⟨b, 0, none⟩, n, cap, by rw [HV.out], ?_, hB⟩
      rw [HV.out]
      exact hG.cut.mono (by omega) (Nat.le_refl _)
    · have HC := Lib.hid (show ((s.at r).x < 0) = False by rw [HAT.out]; simp [h1])
      go_upto_region 26 with fail
      have HV := Lib.hid (show take23 s ⟨23, v, r, t, seen, tr, sp, false, re⟩ = (s, (⟨14, v, r, t, seen, tr, sp, true, re⟩ : Hd), true) by simp only [take23, HC.out, if_false]; rfl)
      refine fxD_wp w s lo hi (some ⟨b, 0, none⟩) n cap (⟨14, v, r, t, seen, tr, sp, true, re⟩ : Hd) w.heap.size (w.heap.size + 1) (by kernel_rfl) (by omega) (by omega) ⟨((hB.setCell (by dsimp only; omega) _).setCell (by dsimp only; omega) _), ((hx.set_ne (by omega) _ _).set_ne (by omega) _ _), by simpa using ((hy.set 10 (.bool true)).set 0 (.int .i64 14)), ((hz.set_ne (by omega) _ _).set_ne (by omega) _ _), ((hw_.set_ne (by omega) _ _).set_ne (by omega) _ _), ((hs0.st (.inr (by omega)) _ _).st (.inr (by omega)) _ _), by simp; omega⟩ ?_
      clear kx ky fy kZ hB hx hy hz hw_ hs0 hZ
      generalize hq2 : (⟨14, v, r, t, seen, tr, sp, true, re⟩ : Hd) = h2 at *
      clear hq2
      intro _ _ W' hB k7 k8 hG _
      replace k7 := k7.cell
      replace k8 := k8.cell
      go_step
      go_wp2
      refine bodyPost_ret (v := .tuple #[stV s (some ⟨b, 0, none⟩) n cap, hdV h2, .bool true]) (by simp [results, Try.results103, go_sem, k7, k8, stV, hdV, Hd.rest, Hd.zero]) rfl ⟨some ⟨b, 0, none⟩, n, cap, by rw [HV.out], ?_, hB⟩
      rw [HV.out]
      exact hG.cut.mono (by omega) (Nat.le_refl _)
  · go_upto_region 17 with fail
    have HV := Lib.hid (show take23 s ⟨23, v, r, t, seen, tr, sp, true, re⟩ = (s, (⟨24, v, r, t, seen, tr, sp, true, re⟩ : Hd), true) by simp only [take23, if_true])
    refine fxB_wp w s lo hi (some ⟨b, 0, none⟩) n cap (⟨24, v, r, t, seen, tr, sp, true, re⟩ : Hd) w.heap.size (w.heap.size + 1) (by kernel_rfl) (by omega) (by omega) ⟨(hB.setCell (by dsimp only; omega) _), (hx.set_ne (by omega) _ _), by simpa using (hy.set 0 (.int .i64 24)), (hz.set_ne (by omega) _ _), (hw_.set_ne (by omega) _ _), (hs0.st (.inr (by omega)) _ _), by simp; omega⟩ ?_
    clear kx ky fy kZ hB hx hy hz hw_ hs0 hZ
    generalize hq2 : (⟨24, v, r, t, seen, tr, sp, true, re⟩ : Hd) = h2 at *
    clear hq2
    intro _ _ W' hB k7 k8 hG _
    replace k7 := k7.cell
    replace k8 := k8.cell
    go_step
    go_wp2
    refine bodyPost_ret (v := .tuple #[stV s (some ⟨b, 0, none⟩) n cap, hdV h2, .bool true]) (by simp [results, Try.results103, go_sem, k7, k8, stV, hdV, Hd.rest, Hd.zero]) rfl ⟨some ⟨b, 0, none⟩, n, cap, by rw [HV.out], ?_, hB⟩
    rw [HV.out]
    exact hG.cut.mono (by omega) (Nat.le_refl _)
set_option maxRecDepth 100000 in
set_option maxHeartbeats 4000000 in
theorem l7Fix_24 (s : St) (A : Option Addr) (n cap lo hi : Nat) (v r t : Int) (seen : Pl) (tr sp : Int) (ag : Bool) (re : Int) (w : World) (hs : RgsW lo hi w A n cap s.rs) (hh : hi ≤ w.heap.size) (hlo : lo ≤ w.heap.size) (hok : stOk s = true) (hrb : ringB s r = true) :
    Calls Try.prog 103 #[stV s A n cap, hdV ⟨24, v, r, t, seen, tr, sp, ag, re⟩] w (RetSHB lo (take24 s ⟨24, v, r, t, seen, tr, sp, ag, re⟩) w) := by
  have HOK := Lib.hid hok
  have HRB := Lib.hid hrb
  have HLN := Lib.hid hs.1
  have HNT := Lib.hid (stOk_neat hok)
  obtain ⟨z0, z1, z2⟩ := ringB_at HLN.out hrb
  clear hok hrb
  unfold stV hdV
  dsimp only
  go_enter Try.func103, Try.ntmps103
  go_upto_region 1 with fail
  refine wp_abs (fun W => Below w.heap.size w W ∧ BoxAt W w.heap.size #[.int .i64 s.rd, .int .i64 s.mo, .slice A n cap, .int .i64 s.fi, .int .i64 s.la] 72 ∧ BoxAt W (w.heap.size + 1) #[.int .i64 24, .int .i64 v, .int .i64 r, .int .i64 t, .bool seen.s, .int .i64 seen.n, .bool seen.f, .int .i64 seen.v, .int .i64 tr, .int .i64 sp, .bool ag, .int .i64 re] 27 ∧ BoxAt W (w.heap.size + 1 + 1) #[.int .i64 0, .int .i64 0, .slice none 0 0, .int .i64 0, .int .i64 0] 72 ∧ BoxAt W (w.heap.size + 1 + 1 + 1) #[.int .i64 0, .int .i64 0, .int .i64 0, .int .i64 0, .bool false, .int .i64 0, .bool false, .int .i64 0, .int .i64 0, .int .i64 0, .bool false, .int .i64 0] 27) ⟨(((((Below.refl _ _).alloc (Nat.le_refl _) _).alloc (by simp) _).alloc (by simp; omega) _).alloc (by simp; omega) _), (((BoxAt.new _ _ _).alloc _).alloc _).alloc _, ((BoxAt.new' (by simp)).alloc _).alloc _, (BoxAt.new' (by simp)).alloc _, BoxAt.new' (by simp)⟩ ?_
  rintro W0 ⟨hB, hx, hy, hz, hw_⟩
  have lw0 := hw_.lt
  have hs0 := hs.below hB hh
  have kx := hx.cell
  have ky := hy.cell
  have fy := hy.frozen
  obtain ⟨b, rg, A', n', cap', rfl, hlb, hbh, hri, c0, c1', c2, c3, c4, hpw⟩ := hs0.at_ z2
  have HAT := Lib.hid (St.at_some (s := s) (z := r) hri)
  have hnum := stOk_nums HOK.out rg (List.mem_of_getElem? hri)
  clear hri
  go_upto_region 3 with fail
  refine wp_abs (fun W => Below w.heap.size w W ∧ BoxAt W w.heap.size #[.int .i64 s.rd, .int .i64 s.mo, .slice (some ⟨b, 0, none⟩) n cap, .int .i64 s.fi, .int .i64 s.la] 72 ∧ BoxAt W (w.heap.size + 1) #[.int .i64 24, .int .i64 v, .int .i64 r, .int .i64 t, .bool seen.s, .int .i64 seen.n, .bool seen.f, .int .i64 seen.v, .int .i64 tr, .int .i64 sp, .bool ag, .int .i64 re] 27 ∧ BoxAt W (w.heap.size + 1 + 1) #[.int .i64 0, .int .i64 0, .slice none 0 0, .int .i64 0, .int .i64 0] 72 ∧ BoxAt W (w.heap.size + 1 + 1 + 1) #[.int .i64 0, .int .i64 0, .int .i64 0, .int .i64 0, .bool false, .int .i64 0, .bool false, .int .i64 0, .int .i64 0, .int .i64 0, .bool false, .int .i64 0] 27 ∧ BoxAt W W0.heap.size #[.int .i64 rg.h, .int .i64 rg.t, .bool rg.c, .int .i64 rg.x, .slice A' n' cap'] 39) ⟨hB.alloc hB.size _, hx.alloc _, hy.alloc _, hz.alloc _, hw_.alloc _, BoxAt.new _ _ _⟩ ?_
  clear kx ky fy hB hx hy hz hw_ hs0 c0 c1' c2 c3 c4 hpw
  generalize W0.heap.size = Z at *
  rintro W0 ⟨hB, hx, hy, hz, hw_, hZ⟩
  have lZ := hZ.lt
  have lw2 := hw_.lt
  have hs0 := hs.below hB hh
  have kx := hx.cell
  have ky := hy.cell
  have fy := hy.frozen
  have kZ := hZ.cell
  go_wp2_with fail
  clear kx ky fy kZ
  refine (sswing_any s (some ⟨b, 0, none⟩) n cap lo hi false r rg.x _ hs0 (Nat.le_trans hh hB.size) (by have := HNT.out.2.1; have := HLN.out; omega) HNT.out.len).mono ?_
  rintro e w1 ⟨A5, n5, c5, rfl, hG5, hb5⟩
  replace hx := hx.below hb5 hx.lt
  replace hy := hy.below hb5 hy.lt
  replace hz := hz.below hb5 hz.lt
  replace hw_ := hw_.below hb5 hw_.lt
  have h5 := hb5.size
  replace hB := bstep hB hB.size hb5
  clear hb5
  generalize hq5 : swing s false r rg.x = q at *
  have HQ5 := Lib.hid hq5; clear hq5
  unfold stV
  have kx := hx.cell
  have fx := hx.frozen
  have ky := hy.cell
  have fy := hy.frozen
  have hZ4 : w.heap.size + 4 ≤ W0.heap.size := by omega
  go_upto_region 26 with fail
  have HV := Lib.hid (show take24 s ⟨24, v, r, t, seen, tr, sp, ag, re⟩ = (q.1, (⟨13, v, r, t, seen, tr, sp, false, re⟩ : Hd), true) by simp only [take24, HAT.out, HQ5.out])
  refine fxD_wp w q.1 W0.heap.size w1.heap.size A5 n5 c5 (⟨13, v, r, t, seen, tr, sp, false, re⟩ : Hd) w.heap.size (w.heap.size + 1) (by kernel_rfl) (by omega) (by omega) ⟨((((((((hB.setCell (by dsimp only; omega) _).setCell (by dsimp only; omega) _).setCell (by dsimp only; omega) _).setCell (by dsimp only; omega) _).setCell (by dsimp only; omega) _)).setCell (by dsimp only; omega) _).setCell (by dsimp only; omega) _), (((sets_all (us := [.int .i64 q.1.rd, .int .i64 q.1.mo, .slice A5 n5 c5, .int .i64 q.1.fi, .int .i64 q.1.la]) hx rfl).set_ne (by omega) _ _).set_ne (by omega) _ _), by simpa using ((((((((hy.set_ne (by omega) _ _).set_ne (by omega) _ _).set_ne (by omega) _ _).set_ne (by omega) _ _).set_ne (by omega) _ _)).set 10 (.bool false)).set 0 (.int .i64 13)), ((((((((hz.set_ne (by omega) _ _).set_ne (by omega) _ _).set_ne (by omega) _ _).set_ne (by omega) _ _).set_ne (by omega) _ _)).set_ne (by omega) _ _).set_ne (by omega) _ _), ((((((((hw_.set_ne (by omega) _ _).set_ne (by omega) _ _).set_ne (by omega) _ _).set_ne (by omega) _ _).set_ne (by omega) _ _)).set_ne (by omega) _ _).set_ne (by omega) _ _), ((((((((hG5.st (.inl (by omega)) _ _).st (.inl (by omega)) _ _).st (.inl (by omega)) _ _).st (.inl (by omega)) _ _).st (.inl (by omega)) _ _)).st (.inl (by omega)) _ _).st (.inl (by omega)) _ _), by simp⟩ ?_
  clear kx fx ky fy hB hx hy hz hw_ hG5 hZ hs0
  generalize hq2 : (⟨13, v, r, t, seen, tr, sp, false, re⟩ : Hd) = h2 at *
  clear hq2
  intro _ _ W' hB k7 k8 hG _
  replace k7 := k7.cell
  replace k8 := k8.cell
  go_step
  go_wp2
  refine bodyPost_ret (v := .tuple #[stV q.1 A5 n5 c5, hdV h2, .bool true]) (by simp [results, Try.results103, go_sem, k7, k8, stV, hdV, Hd.rest, Hd.zero]) rfl ⟨A5, n5, c5, by rw [HV.out], ?_, hB⟩
  rw [HV.out]
  exact hG.cut.mono (by omega) (Nat.le_refl _)
set_option maxRecDepth 100000 in
set_option maxHeartbeats 4000000 in
theorem l7Fix_22 (s : St) (A : Option Addr) (n cap lo hi : Nat) (v r t : Int) (seen : Pl) (tr sp : Int) (ag : Bool) (re : Int) (w : World) (hs : RgsW lo hi w A n cap s.rs) (hh : hi ≤ w.heap.size) (hlo : lo ≤ w.heap.size) (hok : stOk s = true) (hrb : ringB s r = true) :
    Calls Try.prog 103 #[stV s A n cap, hdV ⟨22, v, r, t, seen, tr, sp, ag, re⟩] w (RetSHB lo (take22 s ⟨22, v, r, t, seen, tr, sp, ag, re⟩) w) := by
  have HOK := Lib.hid hok
  have HRB := Lib.hid hrb
  have HLN := Lib.hid hs.1
  have HNT := Lib.hid (stOk_neat hok)
  obtain ⟨z0, z1, z2⟩ := ringB_at HLN.out hrb
  clear hok hrb
  unfold stV hdV
  dsimp only
  go_enter Try.func103, Try.ntmps103
  go_upto_region 1 with fail
  refine wp_abs (fun W => Below w.heap.size w W ∧ BoxAt W w.heap.size #[.int .i64 s.rd, .int .i64 s.mo, .slice A n cap, .int .i64 s.fi, .int .i64 s.la] 72 ∧ BoxAt W (w.heap.size + 1) #[.int .i64 22, .int .i64 v, .int .i64 r, .int .i64 t, .bool seen.s, .int .i64 seen.n, .bool seen.f, .int .i64 seen.v, .int .i64 tr, .int .i64 sp, .bool ag, .int .i64 re] 27 ∧ BoxAt W (w.heap.size + 1 + 1) #[.int .i64 0, .int .i64 0, .slice none 0 0, .int .i64 0, .int .i64 0] 72 ∧ BoxAt W (w.heap.size + 1 + 1 + 1) #[.int .i64 0, .int .i64 0, .int .i64 0, .int .i64 0, .bool false, .int .i64 0, .bool false, .int .i64 0, .int .i64 0, .int .i64 0, .bool false, .int .i64 0] 27) ⟨(((((Below.refl _ _).alloc (Nat.le_refl _) _).alloc (by simp) _).alloc (by simp; omega) _).alloc (by simp; omega) _), (((BoxAt.new _ _ _).alloc _).alloc _).alloc _, ((BoxAt.new' (by simp)).alloc _).alloc _, (BoxAt.new' (by simp)).alloc _, BoxAt.new' (by simp)⟩ ?_
  rintro W0 ⟨hB, hx, hy, hz, hw_⟩
  have lw0 := hw_.lt
  have hs0 := hs.below hB hh
  have kx := hx.cell
  have ky := hy.cell
  have fy := hy.frozen
  obtain ⟨b, rg, A', n', cap', rfl, hlb, hbh, hri, c0, c1', c2, c3, c4, hpw⟩ := hs0.at_ z2
  have HAT := Lib.hid (St.at_some (s := s) (z := r) hri)
  have hnum := stOk_nums HOK.out rg (List.mem_of_getElem? hri)
  clear hri
  go_upto_region 3 with fail
  refine wp_abs (fun W => Below w.heap.size w W ∧ BoxAt W w.heap.size #[.int .i64 s.rd, .int .i64 s.mo, .slice (some ⟨b, 0, none⟩) n cap, .int .i64 s.fi, .int .i64 s.la] 72 ∧ BoxAt W (w.heap.size + 1) #[.int .i64 22, .int .i64 v, .int .i64 r, .int .i64 t, .bool seen.s, .int .i64 seen.n, .bool seen.f, .int .i64 seen.v, .int .i64 tr, .int .i64 sp, .bool ag, .int .i64 re] 27 ∧ BoxAt W (w.heap.size + 1 + 1) #[.int .i64 0, .int .i64 0, .slice none 0 0, .int .i64 0, .int .i64 0] 72 ∧ BoxAt W (w.heap.size + 1 + 1 + 1) #[.int .i64 0, .int .i64 0, .int .i64 0, .int .i64 0, .bool false, .int .i64 0, .bool false, .int .i64 0, .int .i64 0, .int .i64 0, .bool false, .int .i64 0] 27 ∧ BoxAt W W0.heap.size #[.int .i64 rg.h, .int .i64 rg.t, .bool rg.c, .int .i64 rg.x, .slice A' n' cap'] 39) ⟨hB.alloc hB.size _, hx.alloc _, hy.alloc _, hz.alloc _, hw_.alloc _, BoxAt.new _ _ _⟩ ?_
  clear kx ky fy hB hx hy hz hw_ hs0 c0 c1' c2 c3 c4 hpw
  generalize W0.heap.size = Z at *
  rintro W0 ⟨hB, hx, hy, hz, hw_, hZ⟩
  have lZ := hZ.lt
  have lw2 := hw_.lt
  have hs0 := hs.below hB hh
  have kx := hx.cell
  have ky := hy.cell
  have fy := hy.frozen
  have kZ := hZ.cell
  go_wp2_with fail
  clear kx ky fy kZ
  refine (sraiseTail_any s (some ⟨b, 0, none⟩) n cap lo hi r t tr _ hs0 (Nat.le_trans hh hB.size) (by have := HNT.out.2.1; have := HLN.out; omega) HNT.out.len).mono ?_
  rintro e w1 ⟨A5, n5, c5, rfl, hG5, hb5⟩
  replace hx := hx.below hb5 hx.lt
  replace hy := hy.below hb5 hy.lt
  replace hz := hz.below hb5 hz.lt
  replace hw_ := hw_.below hb5 hw_.lt
  have h5 := hb5.size
  replace hB := bstep hB hB.size hb5
  clear hb5
  generalize hq5 : raiseTail s r t tr = q at *
  have HQ5 := Lib.hid hq5; clear hq5
  unfold stV
  have kx := hx.cell
  have fx := hx.frozen
  have ky := hy.cell
  have fy := hy.frozen
  have hZ4 : w.heap.size + 4 ≤ W0.heap.size := by omega
  go_upto_region 12 with fail
  refine wp_abs (fun W => Below w.heap.size w W ∧ BoxAt W w.heap.size #[.int .i64 s.rd, .int .i64 s.mo, .slice (some ⟨b, 0, none⟩) n cap, .int .i64 s.fi, .int .i64 s.la] 72 ∧ BoxAt W (w.heap.size + 1) #[.int .i64 22, .int .i64 v, .int .i64 r, .int .i64 t, .bool seen.s, .int .i64 seen.n, .bool seen.f, .int .i64 seen.v, .int .i64 tr, .int .i64 sp, .bool ag, .int .i64 re] 27 ∧ BoxAt W (w.heap.size + 1 + 1) #[.int .i64 0, .int .i64 0, .slice none 0 0, .int .i64 0, .int .i64 0] 72 ∧ BoxAt W (w.heap.size + 1 + 1 + 1) #[.int .i64 0, .int .i64 0, .int .i64 0, .int .i64 0, .bool false, .int .i64 0, .bool false, .int .i64 0, .int .i64 0, .int .i64 0, .bool false, .int .i64 0] 27 ∧ BoxAt W w1.heap.size #[.int .i64 q.1.rd, .int .i64 q.1.mo, .slice A5 n5 c5, .int .i64 q.1.fi, .int .i64 q.1.la] 72 ∧ RgsW W0.heap.size w1.heap.size W A5 n5 c5 q.1.rs ∧ w1.heap.size ≤ W.heap.size) ⟨hB.alloc hB.size _, hx.alloc _, hy.alloc _, hz.alloc _, hw_.alloc _, BoxAt.new _ _ _, hG5.al (Nat.le_refl _) _, by simp⟩ ?_
  clear kx fx ky fy hB hx hy hz hw_ hG5
  rintro W2 ⟨hB, hx, hy, hz, hw_, hX, hG5, hS⟩
  have kx := hx.cell
  have fx := hx.frozen
  have ky := hy.cell
  have fy := hy.frozen
  have kX := hX.cell
  cases hq2 : q.2
  · have HQ2 := Lib.hid hq2; clear hq2
    go_wp2_with fail
    refine (l7Then_any _ _ _ _).mono ?_
    rintro e w' ⟨rfl, rfl⟩
    dsimp only
    go_upto_region 26 with fail
    have HV := Lib.hid (show take22 s ⟨22, v, r, t, seen, tr, sp, ag, re⟩ = (q.1, (⟨20, v, r, t, seen, tr, sp, ag, re⟩ : Hd), true) by simp only [take22, HQ5.out, HQ2.out]; rfl)
    refine fxD_wp w q.1 W0.heap.size w1.heap.size A5 n5 c5 (⟨20, v, r, t, seen, tr, sp, ag, re⟩ : Hd) w.heap.size (w.heap.size + 1) (by kernel_rfl) (by omega) (by omega) ⟨(((((((hB.setCell (by dsimp only; omega) _).setCell (by dsimp only; omega) _).setCell (by dsimp only; omega) _).setCell (by dsimp only; omega) _).setCell (by dsimp only; omega) _)).setCell (by dsimp only; omega) _), ((sets_all (us := [.int .i64 q.1.rd, .int .i64 q.1.mo, .slice A5 n5 c5, .int .i64 q.1.fi, .int .i64 q.1.la]) hx rfl).set_ne (by omega) _ _), by simpa using (((((((hy.set_ne (by omega) _ _).set_ne (by omega) _ _).set_ne (by omega) _ _).set_ne (by omega) _ _).set_ne (by omega) _ _)).set 0 (.int .i64 20)), (((((((hz.set_ne (by omega) _ _).set_ne (by omega) _ _).set_ne (by omega) _ _).set_ne (by omega) _ _).set_ne (by omega) _ _)).set_ne (by omega) _ _), (((((((hw_.set_ne (by omega) _ _).set_ne (by omega) _ _).set_ne (by omega) _ _).set_ne (by omega) _ _).set_ne (by omega) _ _)).set_ne (by omega) _ _), (((((((hG5.st (.inl (by omega)) _ _).st (.inl (by omega)) _ _).st (.inl (by omega)) _ _).st (.inl (by omega)) _ _).st (.inl (by omega)) _ _)).st (.inl (by omega)) _ _), by simpa using hS⟩ ?_
    clear kx fx ky fy kX hB hx hy hz hw_ hX hG5 hZ hs0
    generalize hq2 : (⟨20, v, r, t, seen, tr, sp, ag, re⟩ : Hd) = h2 at *
    clear hq2
    intro _ _ W' hB k7 k8 hG _
    replace k7 := k7.cell
    replace k8 := k8.cell
    go_step
    go_wp2
    refine bodyPost_ret (v := .tuple #[stV q.1 A5 n5 c5, hdV h2, .bool true]) (by simp [results, Try.results103, go_sem, k7, k8, stV, hdV, Hd.rest, Hd.zero]) rfl ⟨A5, n5, c5, by rw [HV.out], ?_, hB⟩
    rw [HV.out]
    exact hG.cut.mono (by omega) (Nat.le_refl _)
  · have HQ2 := Lib.hid hq2; clear hq2
    go_wp2_with fail
    refine (l7Then_any _ _ _ _).mono ?_
    rintro e w' ⟨rfl, rfl⟩
    dsimp only
    go_upto_region 26 with fail
    have HV := Lib.hid (show take22 s ⟨22, v, r, t, seen, tr, sp, ag, re⟩ = (q.1, (⟨23, v, r, t, seen, tr, sp, ag, re⟩ : Hd), true) by simp only [take22, HQ5.out, HQ2.out]; rfl)
    refine fxD_wp w q.1 W0.heap.size w1.heap.size A5 n5 c5 (⟨23, v, r, t, seen, tr, sp, ag, re⟩ : Hd) w.heap.size (w.heap.size + 1) (by kernel_rfl) (by omega) (by omega) ⟨(((((((hB.setCell (by dsimp only; omega) _).setCell (by dsimp only; omega) _).setCell (by dsimp only; omega) _).setCell (by dsimp only; omega) _).setCell (by dsimp only; omega) _)).setCell (by dsimp only; omega) _), ((sets_all (us := [.int .i64 q.1.rd, .int .i64 q.1.mo, .slice A5 n5 c5, .int .i64 q.1.fi, .int .i64 q.1.la]) hx rfl).set_ne (by omega) _ _), by simpa using (((((((hy.set_ne (by omega) _ _).set_ne (by omega) _ _).set_ne (by omega) _ _).set_ne (by omega) _ _).set_ne (by omega) _ _)).set 0 (.int .i64 23)), (((((((hz.set_ne (by omega) _ _).set_ne (by omega) _ _).set_ne (by omega) _ _).set_ne (by omega) _ _).set_ne (by omega) _ _)).set_ne (by omega) _ _), (((((((hw_.set_ne (by omega) _ _).set_ne (by omega) _ _).set_ne (by omega) _ _).set_ne (by omega) _ _).set_ne (by omega) _ _)).set_ne (by omega) _ _), (((((((hG5.st (.inl (by omega)) _ _).st (.inl (by omega)) _ _).st (.inl (by omega)) _ _).st (.inl (by omega)) _ _).st (.inl (by omega)) _ _)).st (.inl (by omega)) _ _), by simpa using hS⟩ ?_
    clear kx fx ky fy kX hB hx hy hz hw_ hX hG5 hZ hs0
    generalize hq2 : (⟨23, v, r, t, seen, tr, sp, ag, re⟩ : Hd) = h2 at *
    clear hq2
    intro _ _ W' hB k7 k8 hG _
    replace k7 := k7.cell
    replace k8 := k8.cell
    go_step
    go_wp2
    refine bodyPost_ret (v := .tuple #[stV q.1 A5 n5 c5, hdV h2, .bool true]) (by simp [results, Try.results103, go_sem, k7, k8, stV, hdV, Hd.rest, Hd.zero]) rfl ⟨A5, n5, c5, by rw [HV.out], ?_, hB⟩
    rw [HV.out]
    exact hG.cut.mono (by omega) (Nat.le_refl _)

end Go.Proofs.Ytaieigdnfdnnpaa

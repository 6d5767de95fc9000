/-
  The walk of a step of one who takes, of the model: the steps that swap a place.
-/
import Derived.Test.YtbdgkmamieagfaaTake1
namespace Go.Proofs.Ytbdgkmamieagfaa
set_option linter.unusedSimpArgs false
set_option linter.unusedVariables false
open Go.RowKit
set_option linter.unusedVariables false
attribute [local go_sem] OpUpon
attribute [local go_sem ↓] Go.wp_at_zero Go.wp_at_succ

def grab (s : St) (h : Hd) : St × Bool := swapPlace s h.r (h.t % s.rd) h.seen (leftP h.seen h.t s.rd)
def spoil (s : St) (h : Hd) : St × Bool := swapPlace s h.r (h.t % s.rd) h.seen { h.seen with s := false }
def take17 (s : St) (h : Hd) : St × Hd × Bool := fin true (spoil s h).1 { h with at_ := if (spoil s h).2 then 19 else 15 }
def take18 (s : St) (h : Hd) : St × Hd × Bool := fin true (grab s h).1 { h with at_ := if (grab s h).2 then 19 else 15 }

def t18AR (s : St) (N M0 Z n cap : Nat) (A : Option Addr) (v r t : Int) (seen : Pl) (tr sp : Int) (ag : Bool) (re : Int) (q : St × Bool) (j : Nat) (σ : Nat → Value) (w : World) : Prop :=
  match j with
  | 0 => σ 0 = .agg #[.int .i64 s.rd, .int .i64 s.mo, .slice A n cap, .int .i64 s.fi, .int .i64 s.la]
  | 1 => σ 1 = .int .i64 r
  | 2 => σ 2 = .int .i64 t
  | 3 => σ 3 = .pointer (some ⟨N, 0, none⟩)
  | 4 => σ 4 = .int .i64 s.rd
  | 5 => σ 5 = .int .i64 (t % s.rd)
  | 6 => σ 6 = .pointer (some ⟨(N + 1), 4, none⟩)
  | 7 => σ 7 = .agg #[.bool seen.s, .int .i64 seen.n, .bool seen.f, .int .i64 seen.v]
  | 8 => σ 8 = .pointer (some ⟨(N + 1), 4, none⟩)
  | 9 => σ 9 = .agg #[.bool seen.s, .int .i64 seen.n, .bool seen.f, .int .i64 seen.v]
  | 10 => σ 10 = .int .i64 t
  | 11 => σ 11 = .pointer (some ⟨N, 0, none⟩)
  | 12 => σ 12 = .int .i64 s.rd
  | 13 => σ 13 = .agg #[.bool seen.s, .int .i64 (t + s.rd), .bool false, .int .i64 0]
  | 14 => ∃ (A5 : Option Addr) (n5 c5 : Nat), σ 14 = .tuple #[.agg #[.int .i64 q.1.rd, .int .i64 q.1.mo, .slice A5 n5 c5, .int .i64 q.1.fi, .int .i64 q.1.la], .bool q.2] ∧ RgsW M0 w.heap.size w A5 n5 c5 q.1.rs
  | 15 => ∃ (A5 : Option Addr) (n5 c5 : Nat), σ 15 = .tuple #[.agg #[.int .i64 q.1.rd, .int .i64 q.1.mo, .slice A5 n5 c5, .int .i64 q.1.fi, .int .i64 q.1.la], .bool q.2] ∧ RgsW M0 w.heap.size w A5 n5 c5 q.1.rs
  | 16 => ∃ (A5 : Option Addr) (n5 c5 : Nat), σ 16 = .agg #[.int .i64 q.1.rd, .int .i64 q.1.mo, .slice A5 n5 c5, .int .i64 q.1.fi, .int .i64 q.1.la] ∧ RgsW M0 w.heap.size w A5 n5 c5 q.1.rs
  | 17 => σ 17 = .bool q.2
  | 18 => ∃ (A5 : Option Addr) (n5 c5 : Nat), BoxAt w N #[.int .i64 q.1.rd, .int .i64 q.1.mo, .slice A5 n5 c5, .int .i64 q.1.fi, .int .i64 q.1.la] 75 ∧ RgsW M0 w.heap.size w A5 n5 c5 q.1.rs
  | 19 => σ 19 = .bool q.2
  | _ => True

def t18AS (j : Nat) : List Nat := [[0], [1], [2], [3], [4], [5], [6], [7], [8], [9], [10], [11], [12], [13], [14], [15], [16], [17], [18], [19]].getD j [j]
def t18AK (j : Nat) : Nat := [0, 0, 0, 0, 0, 0, 0, 0, 0, 0, 0, 0, 0, 0, 0, 0, 0, 0, 1, 0].getD j 0

set_option maxRecDepth 100000 in
set_option maxHeartbeats 4000000 in
theorem l7Take_18 (s : St) (A : Option Addr) (n cap lo hi : Nat) (v r t : Int) (seen : Pl) (tr sp : Int) (ag : Bool) (re : Int) (w : World) (hs : RgsW lo hi w A n cap s.rs) (hh : hi ≤ w.heap.size) (hlo : lo ≤ w.heap.size) (hok : stOk s = true) (hrb : ringB s r = true) (ht : 0 ≤ t ∧ t ≤ 1000000) :
    Calls Try.prog 92 #[stV s A n cap, hdV ⟨18, v, r, t, seen, tr, sp, ag, re⟩] w (RetSHB lo (take18 s ⟨18, v, r, t, seen, tr, sp, ag, re⟩) w) := by
  have HOK := Lib.hid hok
  have HRB := Lib.hid hrb
  have HLN := Lib.hid hs.1
  have HNT := Lib.hid (stOk_neat hok)
  obtain ⟨z0, z1, z2⟩ := ringB_at HLN.out hrb
  clear hok hrb
  obtain ⟨t0, t1⟩ := ht
  have hrd := stOk_rd HOK.out
  have em0 : 0 ≤ t % s.rd := Int.emod_nonneg _ (by omega)
  have em1 : t % s.rd < s.rd := Int.emod_lt_of_pos _ (by omega)
  unfold stV hdV
  dsimp only
  go_enter Try.func92, Try.ntmps92
  go_upto_region 36 with fail
  refine wp_abs (fun W => Below w.heap.size w W ∧ BoxAt W w.heap.size #[.int .i64 s.rd, .int .i64 s.mo, .slice A n cap, .int .i64 s.fi, .int .i64 s.la] 75 ∧ BoxAt W (w.heap.size + 1) #[.int .i64 18, .int .i64 v, .int .i64 r, .int .i64 t, .bool seen.s, .int .i64 seen.n, .bool seen.f, .int .i64 seen.v, .int .i64 tr, .int .i64 sp, .bool ag, .int .i64 re] 41 ∧ BoxAt W (w.heap.size + 1 + 1) #[.int .i64 0, .int .i64 0, .slice none 0 0, .int .i64 0, .int .i64 0] 75 ∧ BoxAt W (w.heap.size + 1 + 1 + 1) #[.int .i64 0, .int .i64 0, .int .i64 0, .int .i64 0, .bool false, .int .i64 0, .bool false, .int .i64 0, .int .i64 0, .int .i64 0, .bool false, .int .i64 0] 41) ⟨(((((Below.refl _ _).alloc (Nat.le_refl _) _).alloc (by simp) _).alloc (by simp; omega) _).alloc (by simp; omega) _), (((BoxAt.new _ _ _).alloc _).alloc _).alloc _, ((BoxAt.new' (by simp)).alloc _).alloc _, (BoxAt.new' (by simp)).alloc _, BoxAt.new' (by simp)⟩ ?_
  rintro W0 ⟨hB, hx, hy, hz, hw_⟩
  have lw0 := hw_.lt
  have hs0 := hs.below hB hh
  have kx := hx.cell
  have ky := hy.cell
  have fy := hy.frozen
  clear kx ky fy hs0
  obtain ⟨q, hq⟩ : ∃ q, swapPlace s r (t % s.rd) seen (leftP seen t s.rd) = q := ⟨_, rfl⟩
  have HCON := Lib.hid (show ∀ W : World, Below w.heap.size w W → Calls Try.prog 96 #[stV s A n cap, .int .i64 r, .int .i64 (t % s.rd), .agg #[.bool seen.s, .int .i64 seen.n, .bool seen.f, .int .i64 seen.v], .agg #[.bool seen.s, .int .i64 (t + s.rd), .bool false, .int .i64 0]] W (RetSB W.heap.size q W) from fun W hBW => by
    have := sswapPlace_any s A n cap lo hi r (t % s.rd) seen (leftP seen t s.rd) W (hs.below hBW hh) (Nat.le_trans hh hBW.size) (by have := HNT.out.2.1; have := HLN.out; omega) HNT.out.len
    rw [hq] at this
    exact this)
  unfold stV at HCON
  have HQ5 := Lib.hid (show grab s ⟨18, v, r, t, seen, tr, sp, ag, re⟩ = q from hq); clear hq
  obtain ⟨M0, hMe⟩ : ∃ M0, M0 = W0.heap.size := ⟨_, rfl⟩
  have hM0 : M0 ≤ W0.heap.size := by omega
  have hM4 : w.heap.size + 4 ≤ M0 := by omega
  clear hMe
  go_cut [10] (fun u10 W' => Below w.heap.size w W' ∧ BoxAt W' (w.heap.size + 1) #[.int .i64 18, .int .i64 v, .int .i64 r, .int .i64 t, .bool seen.s, .int .i64 seen.n, .bool seen.f, .int .i64 seen.v, .int .i64 tr, .int .i64 sp, .bool ag, .int .i64 re] 41 ∧ BoxAt W' (w.heap.size + 1 + 1) #[.int .i64 0, .int .i64 0, .slice none 0 0, .int .i64 0, .int .i64 0] 75 ∧ BoxAt W' (w.heap.size + 1 + 1 + 1) #[.int .i64 0, .int .i64 0, .int .i64 0, .int .i64 0, .bool false, .int .i64 0, .bool false, .int .i64 0, .int .i64 0, .int .i64 0, .bool false, .int .i64 0] 41 ∧ ∃ (A5 : Option Addr) (n5 c5 : Nat), BoxAt W' w.heap.size #[.int .i64 q.1.rd, .int .i64 q.1.mo, .slice A5 n5 c5, .int .i64 q.1.fi, .int .i64 q.1.la] 75 ∧ RgsW M0 W'.heap.size W' A5 n5 c5 q.1.rs ∧ u10 = .bool q.2)
  case first =>
    refine wp_region2 (fun w w' => Below w.heap.size w w') (fun _ _ h => h.size) (fun L W' => Below w.heap.size w W' ∧ BoxAt W' (w.heap.size + 1) #[.int .i64 18, .int .i64 v, .int .i64 r, .int .i64 t, .bool seen.s, .int .i64 seen.n, .bool seen.f, .int .i64 seen.v, .int .i64 tr, .int .i64 sp, .bool ag, .int .i64 re] 41 ∧ BoxAt W' (w.heap.size + 1 + 1) #[.int .i64 0, .int .i64 0, .slice none 0 0, .int .i64 0, .int .i64 0] 75 ∧ BoxAt W' (w.heap.size + 1 + 1 + 1) #[.int .i64 0, .int .i64 0, .int .i64 0, .int .i64 0, .bool false, .int .i64 0, .bool false, .int .i64 0, .int .i64 0, .int .i64 0, .bool false, .int .i64 0] 41 ∧ M0 ≤ W'.heap.size ∧ (∃ x0 x1 x2 x3 x4, BoxAt W' w.heap.size #[x0, x1, x2, x3, x4] 75) ∧ (L 18 = false → BoxAt W' w.heap.size #[.int .i64 s.rd, .int .i64 s.mo, .slice A n cap, .int .i64 s.fi, .int .i64 s.la] 75)) (t18AR s w.heap.size M0 0 n cap A v r t seen tr sp ag re q) t18AK t18AS (by kernel_rfl) (by kernel_rfl) ?_ ?_ ?_
      (.grow rfl ?_ <| .grow rfl ?_ <| .grow rfl ?_ <| .grow rfl ?_ <| .grow rfl ?_ <| .grow rfl ?_ <| .grow rfl ?_ <| .grow rfl ?_ <| .grow rfl ?_ <| .grow rfl ?_ <| .grow rfl ?_ <| .grow rfl ?_ <| .grow rfl ?_ <| .grow rfl ?_ <| .grow rfl ?_ <| .grow rfl ?_ <| .grow rfl ?_ <| .grow rfl ?_ <| .store rfl ?_ <| .grow rfl ?_ <| .nil) ?_
    · intro j σ τ w h hR
      match j, h, hR with
      | 0, h, hR => exact (h 0 (List.mem_singleton.2 rfl)).symm.trans hR
      | 1, h, hR => exact (h 1 (List.mem_singleton.2 rfl)).symm.trans hR
      | 2, h, hR => exact (h 2 (List.mem_singleton.2 rfl)).symm.trans hR
      | 3, h, hR => exact (h 3 (List.mem_singleton.2 rfl)).symm.trans hR
      | 4, h, hR => exact (h 4 (List.mem_singleton.2 rfl)).symm.trans hR
      | 5, h, hR => exact (h 5 (List.mem_singleton.2 rfl)).symm.trans hR
      | 6, h, hR => exact (h 6 (List.mem_singleton.2 rfl)).symm.trans hR
      | 7, h, hR => exact (h 7 (List.mem_singleton.2 rfl)).symm.trans hR
      | 8, h, hR => exact (h 8 (List.mem_singleton.2 rfl)).symm.trans hR
      | 9, h, hR => exact (h 9 (List.mem_singleton.2 rfl)).symm.trans hR
      | 10, h, hR => exact (h 10 (List.mem_singleton.2 rfl)).symm.trans hR
      | 11, h, hR => exact (h 11 (List.mem_singleton.2 rfl)).symm.trans hR
      | 12, h, hR => exact (h 12 (List.mem_singleton.2 rfl)).symm.trans hR
      | 13, h, hR => exact (h 13 (List.mem_singleton.2 rfl)).symm.trans hR
      | 14, h, hR => obtain ⟨A5, n5, c5, e, hp⟩ := hR; exact ⟨A5, n5, c5, (h 14 (List.mem_singleton.2 rfl)).symm.trans e, hp⟩
      | 15, h, hR => obtain ⟨A5, n5, c5, e, hp⟩ := hR; exact ⟨A5, n5, c5, (h 15 (List.mem_singleton.2 rfl)).symm.trans e, hp⟩
      | 16, h, hR => obtain ⟨A5, n5, c5, e, hp⟩ := hR; exact ⟨A5, n5, c5, (h 16 (List.mem_singleton.2 rfl)).symm.trans e, hp⟩
      | 17, h, hR => exact (h 17 (List.mem_singleton.2 rfl)).symm.trans hR
      | 18, _, hR => exact hR
      | 19, h, hR => exact (h 19 (List.mem_singleton.2 rfl)).symm.trans hR
      | _ + 20, _, _ => exact trivial
    · intro j σ w w' hb hR
      match j, hR with
      | 0, hR => exact hR
      | 1, hR => exact hR
      | 2, hR => exact hR
      | 3, hR => exact hR
      | 4, hR => exact hR
      | 5, hR => exact hR
      | 6, hR => exact hR
      | 7, hR => exact hR
      | 8, hR => exact hR
      | 9, hR => exact hR
      | 10, hR => exact hR
      | 11, hR => exact hR
      | 12, hR => exact hR
      | 13, hR => exact hR
      | 14, hR => obtain ⟨A5, n5, c5, e, hp⟩ := hR; exact ⟨A5, n5, c5, e, (hp.below hb (Nat.le_refl _)).mono (Nat.le_refl _) hb.size⟩
      | 15, hR => obtain ⟨A5, n5, c5, e, hp⟩ := hR; exact ⟨A5, n5, c5, e, (hp.below hb (Nat.le_refl _)).mono (Nat.le_refl _) hb.size⟩
      | 16, hR => obtain ⟨A5, n5, c5, e, hp⟩ := hR; exact ⟨A5, n5, c5, e, (hp.below hb (Nat.le_refl _)).mono (Nat.le_refl _) hb.size⟩
      | 17, hR => exact hR
      | 18, hR => obtain ⟨A5, n5, c5, hx, hp⟩ := hR; exact ⟨A5, n5, c5, hx.below hb hx.lt, (hp.below hb (Nat.le_refl _)).mono (Nat.le_refl _) hb.size⟩
      | 19, hR => exact hR
      | _ + 20, _ => exact trivial
    · exact ⟨hB.drew, hy, hz, hw_, hM0, ⟨_, _, _, _, _, hx⟩, fun _ => hx⟩
    · -- 0: Op.load 75 t2
      go_light
      intro L σ W' hcl hL hC hw
      clear hw
      have HC := Lib.hid hC
      obtain ⟨hB, hy, hz, hw_, hM0, ⟨hx_x0, hx_x1, hx_x2, hx_x3, hx_x4, hx⟩, hx_o⟩ := hC
      have ks := (hx_o (hcl.not (j := 18) (k := 16) (by kernel_rfl) (hcl.not (j := 16) (k := 15) (by kernel_rfl) (hcl.not (j := 15) (k := 14) (by kernel_rfl) (hcl.not (j := 14) (k := 0) (by kernel_rfl) hL))))).cell
      clear hcl hL
      clear hB hy hz hw_ hM0 hx hx_o
      refine OpGoes.step fun K hK => ?_
      unfold OpGoes
      go_simp
      obtain ⟨hB, hy, hz, hw_, hM0, ⟨hx_x0, hx_x1, hx_x2, hx_x3, hx_x4, hx⟩, hx_o⟩ := HC.out
      exact hK _ _ ⟨⟨hB, hy, hz, hw_, hM0, ⟨_, _, _, _, _, hx⟩, fun h => hx_o (by simpa [upd] using h)⟩, rfl, Below.refl _ _⟩
    · -- 1: Op.move t7
      go_light
      intro L σ W' hcl hL hC hw
      clear hw
      have HC := Lib.hid hC
      clear hC
      clear hcl hL
      refine OpGoes.step fun K hK => ?_
      unfold OpGoes
      go_simp
      obtain ⟨hB, hy, hz, hw_, hM0, ⟨hx_x0, hx_x1, hx_x2, hx_x3, hx_x4, hx⟩, hx_o⟩ := HC.out
      exact hK _ _ ⟨⟨hB, hy, hz, hw_, hM0, ⟨_, _, _, _, _, hx⟩, fun h => hx_o (by simpa [upd] using h)⟩, rfl, Below.refl _ _⟩
    · -- 2: Op.move t8
      go_light
      intro L σ W' hcl hL hC hw
      clear hw
      have HC := Lib.hid hC
      clear hC
      clear hcl hL
      refine OpGoes.step fun K hK => ?_
      unfold OpGoes
      go_simp
      obtain ⟨hB, hy, hz, hw_, hM0, ⟨hx_x0, hx_x1, hx_x2, hx_x3, hx_x4, hx⟩, hx_o⟩ := HC.out
      exact hK _ _ ⟨⟨hB, hy, hz, hw_, hM0, ⟨_, _, _, _, _, hx⟩, fun h => hx_o (by simpa [upd] using h)⟩, rfl, Below.refl _ _⟩
    · -- 3: Op.fieldAddr 75 t2 0
      go_light
      intro L σ W' hcl hL hC hw
      clear hw
      have HC := Lib.hid hC
      clear hC
      clear hcl hL
      refine OpGoes.step fun K hK => ?_
      unfold OpGoes
      go_simp
      obtain ⟨hB, hy, hz, hw_, hM0, ⟨hx_x0, hx_x1, hx_x2, hx_x3, hx_x4, hx⟩, hx_o⟩ := HC.out
      exact hK _ _ ⟨⟨hB, hy, hz, hw_, hM0, ⟨_, _, _, _, _, hx⟩, fun h => hx_o (by simpa [upd] using h)⟩, rfl, Below.refl _ _⟩
    · -- 4: Op.load 2 t137
      go_light
      intro L σ W' hcl hL hC hw
      have e3 : σ 3 = .pointer (some ⟨w.heap.size, 0, none⟩) := hw 3 (by kernel_rfl)
      clear hw
      have HC := Lib.hid hC
      obtain ⟨hB, hy, hz, hw_, hM0, ⟨hx_x0, hx_x1, hx_x2, hx_x3, hx_x4, hx⟩, hx_o⟩ := hC
      have ks := (hx_o (hcl.not (j := 18) (k := 16) (by kernel_rfl) (hcl.not (j := 16) (k := 15) (by kernel_rfl) (hcl.not (j := 15) (k := 14) (by kernel_rfl) (hcl.not (j := 14) (k := 5) (by kernel_rfl) (hcl.not (j := 5) (k := 4) (by kernel_rfl) hL)))))).cell
      clear hcl hL
      clear hB hy hz hw_ hM0 hx hx_o
      refine OpGoes.step fun K hK => ?_
      unfold OpGoes
      go_simp
      obtain ⟨hB, hy, hz, hw_, hM0, ⟨hx_x0, hx_x1, hx_x2, hx_x3, hx_x4, hx⟩, hx_o⟩ := HC.out
      exact hK _ _ ⟨⟨hB, hy, hz, hw_, hM0, ⟨_, _, _, _, _, hx⟩, fun h => hx_o (by simpa [upd] using h)⟩, rfl, Below.refl _ _⟩
    · -- 5: Op.binOp BinOp.rem 2 t136 t138 2
      go_light
      intro L σ W' hcl hL hC hw
      have e2 : σ 2 = .int .i64 t := hw 2 (by kernel_rfl)
      have e4 : σ 4 = .int .i64 s.rd := hw 4 (by kernel_rfl)
      clear hw
      have HC := Lib.hid hC
      obtain ⟨hB, hy, hz, hw_, hM0, ⟨hx_x0, hx_x1, hx_x2, hx_x3, hx_x4, hx⟩, hx_o⟩ := hC
      have nz_ : ¬ s.rd = 0 := by omega
      have rm_ : t.tmod s.rd = t % s.rd := Int.tmod_eq_emod_of_nonneg t0
      have wr_ : IntKind.i64.wrap (t % s.rd) = t % s.rd := by rw [IntKind.wrap_i64]; omega
      clear hcl hL
      clear hB hy hz hw_ hM0 hx hx_o
      refine OpGoes.step fun K hK => ?_
      unfold OpGoes
      go_simp
      obtain ⟨hB, hy, hz, hw_, hM0, ⟨hx_x0, hx_x1, hx_x2, hx_x3, hx_x4, hx⟩, hx_o⟩ := HC.out
      exact hK _ _ ⟨⟨hB, hy, hz, hw_, hM0, ⟨_, _, _, _, _, hx⟩, fun h => hx_o (by simpa [upd] using h)⟩, rfl, Below.refl _ _⟩
    · -- 6: Op.fieldAddr 41 t3 4
      go_light
      intro L σ W' hcl hL hC hw
      clear hw
      have HC := Lib.hid hC
      clear hC
      clear hcl hL
      refine OpGoes.step fun K hK => ?_
      unfold OpGoes
      go_simp
      obtain ⟨hB, hy, hz, hw_, hM0, ⟨hx_x0, hx_x1, hx_x2, hx_x3, hx_x4, hx⟩, hx_o⟩ := HC.out
      exact hK _ _ ⟨⟨hB, hy, hz, hw_, hM0, ⟨_, _, _, _, _, hx⟩, fun h => hx_o (by simpa [upd] using h)⟩, rfl, Below.refl _ _⟩
    · -- 7: Op.load 39 t140
      go_light
      intro L σ W' hcl hL hC hw
      have e6 : σ 6 = .pointer (some ⟨(w.heap.size + 1), 4, none⟩) := hw 6 (by kernel_rfl)
      clear hw
      have HC := Lib.hid hC
      obtain ⟨hB, hy, hz, hw_, hM0, ⟨hx_x0, hx_x1, hx_x2, hx_x3, hx_x4, hx⟩, hx_o⟩ := hC
      have kh := hy.cell
      clear hcl hL
      clear hB hy hz hw_ hM0 hx hx_o
      refine OpGoes.step fun K hK => ?_
      unfold OpGoes
      go_simp
      obtain ⟨hB, hy, hz, hw_, hM0, ⟨hx_x0, hx_x1, hx_x2, hx_x3, hx_x4, hx⟩, hx_o⟩ := HC.out
      exact hK _ _ ⟨⟨hB, hy, hz, hw_, hM0, ⟨_, _, _, _, _, hx⟩, fun h => hx_o (by simpa [upd] using h)⟩, rfl, Below.refl _ _⟩
    · -- 8: Op.fieldAddr 41 t3 4
      go_light
      intro L σ W' hcl hL hC hw
      clear hw
      have HC := Lib.hid hC
      clear hC
      clear hcl hL
      refine OpGoes.step fun K hK => ?_
      unfold OpGoes
      go_simp
      obtain ⟨hB, hy, hz, hw_, hM0, ⟨hx_x0, hx_x1, hx_x2, hx_x3, hx_x4, hx⟩, hx_o⟩ := HC.out
      exact hK _ _ ⟨⟨hB, hy, hz, hw_, hM0, ⟨_, _, _, _, _, hx⟩, fun h => hx_o (by simpa [upd] using h)⟩, rfl, Below.refl _ _⟩
    · -- 9: Op.load 39 t142
      go_light
      intro L σ W' hcl hL hC hw
      have e8 : σ 8 = .pointer (some ⟨(w.heap.size + 1), 4, none⟩) := hw 8 (by kernel_rfl)
      clear hw
      have HC := Lib.hid hC
      obtain ⟨hB, hy, hz, hw_, hM0, ⟨hx_x0, hx_x1, hx_x2, hx_x3, hx_x4, hx⟩, hx_o⟩ := hC
      have kh := hy.cell
      clear hcl hL
      clear hB hy hz hw_ hM0 hx hx_o
      refine OpGoes.step fun K hK => ?_
      unfold OpGoes
      go_simp
      obtain ⟨hB, hy, hz, hw_, hM0, ⟨hx_x0, hx_x1, hx_x2, hx_x3, hx_x4, hx⟩, hx_o⟩ := HC.out
      exact hK _ _ ⟨⟨hB, hy, hz, hw_, hM0, ⟨_, _, _, _, _, hx⟩, fun h => hx_o (by simpa [upd] using h)⟩, rfl, Below.refl _ _⟩
    · -- 10: Op.move t8
      go_light
      intro L σ W' hcl hL hC hw
      clear hw
      have HC := Lib.hid hC
      clear hC
      clear hcl hL
      refine OpGoes.step fun K hK => ?_
      unfold OpGoes
      go_simp
      obtain ⟨hB, hy, hz, hw_, hM0, ⟨hx_x0, hx_x1, hx_x2, hx_x3, hx_x4, hx⟩, hx_o⟩ := HC.out
      exact hK _ _ ⟨⟨hB, hy, hz, hw_, hM0, ⟨_, _, _, _, _, hx⟩, fun h => hx_o (by simpa [upd] using h)⟩, rfl, Below.refl _ _⟩
    · -- 11: Op.fieldAddr 75 t2 0
      go_light
      intro L σ W' hcl hL hC hw
      clear hw
      have HC := Lib.hid hC
      clear hC
      clear hcl hL
      refine OpGoes.step fun K hK => ?_
      unfold OpGoes
      go_simp
      obtain ⟨hB, hy, hz, hw_, hM0, ⟨hx_x0, hx_x1, hx_x2, hx_x3, hx_x4, hx⟩, hx_o⟩ := HC.out
      exact hK _ _ ⟨⟨hB, hy, hz, hw_, hM0, ⟨_, _, _, _, _, hx⟩, fun h => hx_o (by simpa [upd] using h)⟩, rfl, Below.refl _ _⟩
    · -- 12: Op.load 2 t145
      go_light
      intro L σ W' hcl hL hC hw
      have e11 : σ 11 = .pointer (some ⟨w.heap.size, 0, none⟩) := hw 11 (by kernel_rfl)
      clear hw
      have HC := Lib.hid hC
      obtain ⟨hB, hy, hz, hw_, hM0, ⟨hx_x0, hx_x1, hx_x2, hx_x3, hx_x4, hx⟩, hx_o⟩ := hC
      have ks := (hx_o (hcl.not (j := 18) (k := 16) (by kernel_rfl) (hcl.not (j := 16) (k := 15) (by kernel_rfl) (hcl.not (j := 15) (k := 14) (by kernel_rfl) (hcl.not (j := 14) (k := 13) (by kernel_rfl) (hcl.not (j := 13) (k := 12) (by kernel_rfl) hL)))))).cell
      clear hcl hL
      clear hB hy hz hw_ hM0 hx hx_o
      refine OpGoes.step fun K hK => ?_
      unfold OpGoes
      go_simp
      obtain ⟨hB, hy, hz, hw_, hM0, ⟨hx_x0, hx_x1, hx_x2, hx_x3, hx_x4, hx⟩, hx_o⟩ := HC.out
      exact hK _ _ ⟨⟨hB, hy, hz, hw_, hM0, ⟨_, _, _, _, _, hx⟩, fun h => hx_o (by simpa [upd] using h)⟩, rfl, Below.refl _ _⟩
    · -- 13: Op.call { value (Operand.func 101), args := #[t143, t144, t146], argTypes := #[39, 2, 2] }
      go_light
      intro L σ W' hcl hL hC hw
      have e9 : σ 9 = .agg #[.bool seen.s, .int .i64 seen.n, .bool seen.f, .int .i64 seen.v] := hw 9 (by kernel_rfl)
      have e10 : σ 10 = .int .i64 t := hw 10 (by kernel_rfl)
      have e12 : σ 12 = .int .i64 s.rd := hw 12 (by kernel_rfl)
      clear hw
      have HC := Lib.hid hC
      clear hC
      clear hcl hL
      refine OpGoes.step fun K hK => ?_
      unfold OpGoes
      go_simp
      obtain ⟨hB, hy, hz, hw_, hM0, ⟨hx_x0, hx_x1, hx_x2, hx_x3, hx_x4, hx⟩, hx_o⟩ := HC.out
      refine (sleft_any seen t s.rd _ t0 t1 (by omega) (by omega)).mono ?_
      rintro e w1 ⟨rfl, hb1⟩
      exact ⟨_, rfl, hK _ _ ⟨⟨bstep hB hB.size hb1, hy.below hb1 hy.lt, hz.below hb1 hz.lt, hw_.below hb1 hw_.lt, Nat.le_trans hM0 hb1.size, ⟨_, _, _, _, _, hx.below hb1 hx.lt⟩, fun h => (hx_o (by simpa [upd] using h)).below hb1 (hx_o (by simpa [upd] using h)).lt⟩, rfl, hb1⟩⟩
    · -- 14: Op.call { value (Operand.func 96), args := #[t134, t135, t139, t141, t147], argTypes := #[75, 2, 2, 39, 39] }
      go_light
      intro L σ W' hcl hL hC hw
      have e0 : σ 0 = .agg #[.int .i64 s.rd, .int .i64 s.mo, .slice A n cap, .int .i64 s.fi, .int .i64 s.la] := hw 0 (by kernel_rfl)
      have e1 : σ 1 = .int .i64 r := hw 1 (by kernel_rfl)
      have e5 : σ 5 = .int .i64 (t % s.rd) := hw 5 (by kernel_rfl)
      have e7 : σ 7 = .agg #[.bool seen.s, .int .i64 seen.n, .bool seen.f, .int .i64 seen.v] := hw 7 (by kernel_rfl)
      have e13 : σ 13 = .agg #[.bool seen.s, .int .i64 (t + s.rd), .bool false, .int .i64 0] := hw 13 (by kernel_rfl)
      clear hw
      have HC := Lib.hid hC
      clear hC
      clear hcl hL
      refine OpGoes.step fun K hK => ?_
      unfold OpGoes
      go_simp
      obtain ⟨hB, hy, hz, hw_, hM0, ⟨hx_x0, hx_x1, hx_x2, hx_x3, hx_x4, hx⟩, hx_o⟩ := HC.out
      refine (HCON.out _ hB).mono ?_
      rintro e w1 ⟨A5, n5, c5, rfl, hG5, hb1⟩
      exact ⟨_, rfl, hK _ _ ⟨⟨bstep hB hB.size hb1, hy.below hb1 hy.lt, hz.below hb1 hz.lt, hw_.below hb1 hw_.lt, Nat.le_trans hM0 hb1.size, ⟨_, _, _, _, _, hx.below hb1 hx.lt⟩, fun h => (hx_o (by simpa [upd] using h)).below hb1 (hx_o (by simpa [upd] using h)).lt⟩, ⟨A5, n5, c5, rfl, hG5.mono hM0 (Nat.le_refl _)⟩, hb1⟩⟩
    · -- 15: Op.move t148
      go_light
      intro L σ W' hcl hL hC hw
      obtain ⟨A5, n5, c5, e14, hp14⟩ : ∃ (A5 : Option Addr) (n5 c5 : Nat), σ 14 = .tuple #[.agg #[.int .i64 q.1.rd, .int .i64 q.1.mo, .slice A5 n5 c5, .int .i64 q.1.fi, .int .i64 q.1.la], .bool q.2] ∧ RgsW M0 W'.heap.size W' A5 n5 c5 q.1.rs := hw 14 (by kernel_rfl)
      clear hw
      have HC := Lib.hid hC
      clear hC
      clear hcl hL
      refine OpGoes.step fun K hK => ?_
      unfold OpGoes
      go_simp
      obtain ⟨hB, hy, hz, hw_, hM0, ⟨hx_x0, hx_x1, hx_x2, hx_x3, hx_x4, hx⟩, hx_o⟩ := HC.out
      exact hK _ _ ⟨⟨hB, hy, hz, hw_, hM0, ⟨_, _, _, _, _, hx⟩, fun h => hx_o (by simpa [upd] using h)⟩, ⟨A5, n5, c5, rfl, hp14⟩, Below.refl _ _⟩
    · -- 16: Op.extract t133 0
      go_light
      intro L σ W' hcl hL hC hw
      obtain ⟨A5, n5, c5, e15, hp15⟩ : ∃ (A5 : Option Addr) (n5 c5 : Nat), σ 15 = .tuple #[.agg #[.int .i64 q.1.rd, .int .i64 q.1.mo, .slice A5 n5 c5, .int .i64 q.1.fi, .int .i64 q.1.la], .bool q.2] ∧ RgsW M0 W'.heap.size W' A5 n5 c5 q.1.rs := hw 15 (by kernel_rfl)
      clear hw
      have HC := Lib.hid hC
      clear hC
      clear hcl hL
      refine OpGoes.step fun K hK => ?_
      unfold OpGoes
      go_simp
      obtain ⟨hB, hy, hz, hw_, hM0, ⟨hx_x0, hx_x1, hx_x2, hx_x3, hx_x4, hx⟩, hx_o⟩ := HC.out
      exact hK _ _ ⟨⟨hB, hy, hz, hw_, hM0, ⟨_, _, _, _, _, hx⟩, fun h => hx_o (by simpa [upd] using h)⟩, ⟨A5, n5, c5, rfl, hp15⟩, Below.refl _ _⟩
    · -- 17: Op.extract t133 1
      go_light
      intro L σ W' hcl hL hC hw
      obtain ⟨A5, n5, c5, e15, hp15⟩ : ∃ (A5 : Option Addr) (n5 c5 : Nat), σ 15 = .tuple #[.agg #[.int .i64 q.1.rd, .int .i64 q.1.mo, .slice A5 n5 c5, .int .i64 q.1.fi, .int .i64 q.1.la], .bool q.2] ∧ RgsW M0 W'.heap.size W' A5 n5 c5 q.1.rs := hw 15 (by kernel_rfl)
      clear hw
      have HC := Lib.hid hC
      clear hC
      clear hcl hL
      refine OpGoes.step fun K hK => ?_
      unfold OpGoes
      go_simp
      obtain ⟨hB, hy, hz, hw_, hM0, ⟨hx_x0, hx_x1, hx_x2, hx_x3, hx_x4, hx⟩, hx_o⟩ := HC.out
      exact hK _ _ ⟨⟨hB, hy, hz, hw_, hM0, ⟨_, _, _, _, _, hx⟩, fun h => hx_o (by simpa [upd] using h)⟩, rfl, Below.refl _ _⟩
    · -- 18: Op.store 75 t2 t149
      go_light
      intro L σ W' hcl hL hC hw hne
      obtain ⟨A5, n5, c5, e16, hp16⟩ : ∃ (A5 : Option Addr) (n5 c5 : Nat), σ 16 = .agg #[.int .i64 q.1.rd, .int .i64 q.1.mo, .slice A5 n5 c5, .int .i64 q.1.fi, .int .i64 q.1.la] ∧ RgsW M0 W'.heap.size W' A5 n5 c5 q.1.rs := hw 16 (by kernel_rfl)
      clear hw hne
      have HC := Lib.hid hC
      obtain ⟨hB, hy, hz, hw_, hM0, ⟨hx_x0, hx_x1, hx_x2, hx_x3, hx_x4, hx⟩, hx_o⟩ := hC
      clear hcl hL
      have kc_ := hx.cell
      have kf_ := hx.frozen
      clear hB hy hz hw_ hM0 hx hx_o
      refine OpGoes.step fun K hK => ?_
      unfold OpGoes
      go_simp
      obtain ⟨hB, hy, hz, hw_, hM0, ⟨hx_x0, hx_x1, hx_x2, hx_x3, hx_x4, hx⟩, hx_o⟩ := HC.out
      have hset := sets_all (us := [.int .i64 q.1.rd, .int .i64 q.1.mo, .slice A5 n5 c5, .int .i64 q.1.fi, .int .i64 q.1.la]) hx rfl
      refine hK undef (setCells W' w.heap.size 0 [.int .i64 q.1.rd, .int .i64 q.1.mo, .slice A5 n5 c5, .int .i64 q.1.fi, .int .i64 q.1.la]) ⟨⟨(Below.setCells (by omega) [.int .i64 q.1.rd, .int .i64 q.1.mo, .slice A5 n5 c5, .int .i64 q.1.fi, .int .i64 q.1.la] 0 hB), (BoxAt.sets_ne [.int .i64 q.1.rd, .int .i64 q.1.mo, .slice A5 n5 c5, .int .i64 q.1.fi, .int .i64 q.1.la] 0 hy (by omega)), (BoxAt.sets_ne [.int .i64 q.1.rd, .int .i64 q.1.mo, .slice A5 n5 c5, .int .i64 q.1.fi, .int .i64 q.1.la] 0 hz (by omega)), (BoxAt.sets_ne [.int .i64 q.1.rd, .int .i64 q.1.mo, .slice A5 n5 c5, .int .i64 q.1.fi, .int .i64 q.1.la] 0 hw_ (by omega)), (size_sts hM0 [.int .i64 q.1.rd, .int .i64 q.1.mo, .slice A5 n5 c5, .int .i64 q.1.fi, .int .i64 q.1.la] 0), ⟨_, _, _, _, _, hset⟩, fun h => absurd h (by simp [upd])⟩, ⟨A5, n5, c5, hset, ((RgsW.setsT hp16 hx (by decide) (by decide) [.int .i64 q.1.rd, .int .i64 q.1.mo, .slice A5 n5 c5, .int .i64 q.1.fi, .int .i64 q.1.la] 0).mono (Nat.le_refl _) (Nat.le_of_eq (sets_size _ _ _).symm))⟩, Nat.le_of_eq (sets_size _ _ _).symm, fun j hj hn hR => ?_⟩
      match j, hj, hn, hR with
      | 0, _, _, hR => exact (show σ 0 = .agg #[.int .i64 s.rd, .int .i64 s.mo, .slice A n cap, .int .i64 s.fi, .int .i64 s.la] from hR)
      | 1, _, _, hR => exact (show σ 1 = .int .i64 r from hR)
      | 2, _, _, hR => exact (show σ 2 = .int .i64 t from hR)
      | 3, _, _, hR => exact (show σ 3 = .pointer (some ⟨w.heap.size, 0, none⟩) from hR)
      | 4, _, _, hR => exact (show σ 4 = .int .i64 s.rd from hR)
      | 5, _, _, hR => exact (show σ 5 = .int .i64 (t % s.rd) from hR)
      | 6, _, _, hR => exact (show σ 6 = .pointer (some ⟨(w.heap.size + 1), 4, none⟩) from hR)
      | 7, _, _, hR => exact (show σ 7 = .agg #[.bool seen.s, .int .i64 seen.n, .bool seen.f, .int .i64 seen.v] from hR)
      | 8, _, _, hR => exact (show σ 8 = .pointer (some ⟨(w.heap.size + 1), 4, none⟩) from hR)
      | 9, _, _, hR => exact (show σ 9 = .agg #[.bool seen.s, .int .i64 seen.n, .bool seen.f, .int .i64 seen.v] from hR)
      | 10, _, _, hR => exact (show σ 10 = .int .i64 t from hR)
      | 11, _, _, hR => exact (show σ 11 = .pointer (some ⟨w.heap.size, 0, none⟩) from hR)
      | 12, _, _, hR => exact (show σ 12 = .int .i64 s.rd from hR)
      | 13, _, _, hR => exact (show σ 13 = .agg #[.bool seen.s, .int .i64 (t + s.rd), .bool false, .int .i64 0] from hR)
      | 14, _, _, hR => obtain ⟨A5_x, n5_x, c5_x, e, hp⟩ := hR; exact ⟨A5_x, n5_x, c5_x, e, ((RgsW.setsT hp hx (by decide) (by decide) [.int .i64 q.1.rd, .int .i64 q.1.mo, .slice A5 n5 c5, .int .i64 q.1.fi, .int .i64 q.1.la] 0).mono (Nat.le_refl _) (Nat.le_of_eq (sets_size _ _ _).symm))⟩
      | 15, _, _, hR => obtain ⟨A5_x, n5_x, c5_x, e, hp⟩ := hR; exact ⟨A5_x, n5_x, c5_x, e, ((RgsW.setsT hp hx (by decide) (by decide) [.int .i64 q.1.rd, .int .i64 q.1.mo, .slice A5 n5 c5, .int .i64 q.1.fi, .int .i64 q.1.la] 0).mono (Nat.le_refl _) (Nat.le_of_eq (sets_size _ _ _).symm))⟩
      | 16, _, _, hR => obtain ⟨A5_x, n5_x, c5_x, e, hp⟩ := hR; exact ⟨A5_x, n5_x, c5_x, e, ((RgsW.setsT hp hx (by decide) (by decide) [.int .i64 q.1.rd, .int .i64 q.1.mo, .slice A5 n5 c5, .int .i64 q.1.fi, .int .i64 q.1.la] 0).mono (Nat.le_refl _) (Nat.le_of_eq (sets_size _ _ _).symm))⟩
      | 17, _, _, hR => exact (show σ 17 = .bool q.2 from hR)
      | 18, hj, _, _ => exact absurd rfl hj
      | 19, _, _, hR => exact (show σ 19 = .bool q.2 from hR)
      | _ + 20, _, _, _ => exact trivial
    · -- 19: Op.assign t150
      go_light
      intro L σ W' hcl hL hC hw
      have e17 : σ 17 = .bool q.2 := hw 17 (by kernel_rfl)
      clear hw
      have HC := Lib.hid hC
      clear hC
      clear hcl hL
      refine OpGoes.step fun K hK => ?_
      unfold OpGoes
      go_simp
      obtain ⟨hB, hy, hz, hw_, hM0, ⟨hx_x0, hx_x1, hx_x2, hx_x3, hx_x4, hx⟩, hx_o⟩ := HC.out
      exact hK _ _ ⟨⟨hB, hy, hz, hw_, hM0, ⟨_, _, _, _, _, hx⟩, fun h => hx_o (by simpa [upd] using h)⟩, rfl, Below.refl _ _⟩
    · intro σ L W' hall hC hR
      obtain ⟨hB, hy, hz, hw_, hM0, ⟨hx_x0, hx_x1, hx_x2, hx_x3, hx_x4, hx⟩, hx_o⟩ := hC
      obtain ⟨A5, n5, c5, s18, hp18⟩ : ∃ (A5 : Option Addr) (n5 c5 : Nat), BoxAt W' w.heap.size #[.int .i64 q.1.rd, .int .i64 q.1.mo, .slice A5 n5 c5, .int .i64 q.1.fi, .int .i64 q.1.la] 75 ∧ RgsW M0 W'.heap.size W' A5 n5 c5 q.1.rs := hR 18 (by decide)
      have e19 : σ 19 = .bool q.2 := hR 19 (by decide)
      clear hR
      simp only [lexAll]
      go_simp
      go_step
      go_meet
      exact ⟨hB, hy, hz, hw_, A5, n5, c5, s18, hp18, rfl⟩
  case rest =>
    clear hB hx hy hz hw_
    obtain ⟨hB, hy, hz, hw_, A5, n5, c5, hx, hG, rfl⟩ := hcut
    have lw1 := hw_.lt
    have ky := hy.cell
    have fy := hy.frozen
    cases hq2 : q.2
    · have HQ2 := Lib.hid hq2; clear hq2
      go_wp2_with fail
      refine (l7Then_any _ _ _ _).mono ?_
      rintro e w' ⟨rfl, rfl⟩
      dsimp only
      go_upto_region 43 with fail
      have HV := Lib.hid (show take18 s ⟨18, v, r, t, seen, tr, sp, ag, re⟩ = (q.1, (⟨15, v, r, t, seen, tr, sp, ag, re⟩ : Hd), ((⟨15, v, r, t, seen, tr, sp, ag, re⟩ : Hd)).ok) by simp only [take18, HQ5.out, HQ2.out]; rfl)
      refine wp_abs (fun W' => Below w.heap.size w W' ∧ BoxAt W' w.heap.size #[.int .i64 (q.1).rd, .int .i64 (q.1).mo, .slice A5 n5 c5, .int .i64 (q.1).fi, .int .i64 (q.1).la] 75 ∧ BoxAt W' (w.heap.size + 1) #[.int .i64 ((⟨15, v, r, t, seen, tr, sp, ag, re⟩ : Hd)).at_, .int .i64 ((⟨15, v, r, t, seen, tr, sp, ag, re⟩ : Hd)).v, .int .i64 ((⟨15, v, r, t, seen, tr, sp, ag, re⟩ : Hd)).r, .int .i64 ((⟨15, v, r, t, seen, tr, sp, ag, re⟩ : Hd)).t, .bool ((⟨15, v, r, t, seen, tr, sp, ag, re⟩ : Hd)).seen.s, .int .i64 ((⟨15, v, r, t, seen, tr, sp, ag, re⟩ : Hd)).seen.n, .bool ((⟨15, v, r, t, seen, tr, sp, ag, re⟩ : Hd)).seen.f, .int .i64 ((⟨15, v, r, t, seen, tr, sp, ag, re⟩ : Hd)).seen.v, .int .i64 ((⟨15, v, r, t, seen, tr, sp, ag, re⟩ : Hd)).tr, .int .i64 ((⟨15, v, r, t, seen, tr, sp, ag, re⟩ : Hd)).sp, .bool ((⟨15, v, r, t, seen, tr, sp, ag, re⟩ : Hd)).ag, .int .i64 ((⟨15, v, r, t, seen, tr, sp, ag, re⟩ : Hd)).re] 41 ∧ BoxAt W' (w.heap.size + 1 + 1) #[.int .i64 0, .int .i64 0, .slice none 0 0, .int .i64 0, .int .i64 0] 75 ∧ BoxAt W' (w.heap.size + 1 + 1 + 1) #[.int .i64 0, .int .i64 0, .int .i64 0, .int .i64 0, .bool false, .int .i64 0, .bool false, .int .i64 0, .int .i64 0, .int .i64 0, .bool false, .int .i64 0] 41 ∧ RgsW M0 wc.heap.size W' A5 n5 c5 (q.1).rs ∧ wc.heap.size ≤ W'.heap.size) ⟨hB.setCell (by dsimp only; omega) _, hx.set_ne (by omega) _ _, by simpa using hy.set 0 (.int .i64 15), hz.set_ne (by omega) _ _, hw_.set_ne (by omega) _ _, hG.st (.inl (by omega)) _ _, by simp⟩ ?_
      clear ky fy hB hx hy hz hw_ hG
      generalize hq2 : (⟨15, v, r, t, seen, tr, sp, ag, re⟩ : Hd) = h2 at *
      clear hq2
      rintro W ⟨hB, hx, hy, hz, hw_, hG, hhi⟩
      have lw := hw_.lt
      obtain ⟨M, hMe⟩ : ∃ M, M = W.heap.size := ⟨_, rfl⟩
      have hM : M ≤ W.heap.size := by omega
      have hM2 : W.heap.size ≤ M := by omega
      have hhi2 : wc.heap.size ≤ M := by omega
      clear hMe hM2
      refine wp_region2 (fun w w' => Below w.heap.size w w') (fun _ _ h => h.size) (fun L W' => Below w.heap.size w W' ∧ BoxAt W' w.heap.size #[.int .i64 q.1.rd, .int .i64 q.1.mo, .slice A5 n5 c5, .int .i64 q.1.fi, .int .i64 q.1.la] 75 ∧ BoxAt W' (w.heap.size + 1) #[.int .i64 h2.at_, .int .i64 h2.v, .int .i64 h2.r, .int .i64 h2.t, .bool h2.seen.s, .int .i64 h2.seen.n, .bool h2.seen.f, .int .i64 h2.seen.v, .int .i64 h2.tr, .int .i64 h2.sp, .bool h2.ag, .int .i64 h2.re] 41 ∧ RgsW M0 wc.heap.size W' A5 n5 c5 q.1.rs ∧ M ≤ W'.heap.size ∧ (∃ x0 x1 x2 x3 x4, BoxAt W' (w.heap.size + 1 + 1) #[x0, x1, x2, x3, x4] 75) ∧ (L 7 = false → BoxAt W' (w.heap.size + 1 + 1) #[.int .i64 0, .int .i64 0, .slice none 0 0, .int .i64 0, .int .i64 0] 75) ∧ (∃ x0 x1 x2 x3 x4 x5 x6 x7 x8 x9 x10 x11, BoxAt W' (w.heap.size + 1 + 1 + 1) #[x0, x1, x2, x3, x4, x5, x6, x7, x8, x9, x10, x11] 41) ∧ (L 8 = false → BoxAt W' (w.heap.size + 1 + 1 + 1) #[.int .i64 0, .int .i64 0, .int .i64 0, .int .i64 0, .bool false, .int .i64 0, .bool false, .int .i64 0, .int .i64 0, .int .i64 0, .bool false, .int .i64 0] 41)) (p6TR q.1 w.heap.size n5 c5 A5 h2) p6TK p6TS (by kernel_rfl) (by kernel_rfl) ?_ ?_ ?_
        (.grow rfl ?_ <| .grow rfl ?_ <| .grow rfl ?_ <| .grow rfl ?_ <| .grow rfl ?_ <| .grow rfl ?_ <| .grow rfl ?_ <| .store rfl ?_ <| .store rfl ?_ <| .grow rfl ?_ <| .nil) ?_
      · intro j σ τ w h hR
        match j, h, hR with
        | 0, h, hR => exact (h 0 (List.mem_singleton.2 rfl)).symm.trans hR
        | 1, h, hR => exact (h 1 (List.mem_singleton.2 rfl)).symm.trans hR
        | 2, h, hR => exact (h 2 (List.mem_singleton.2 rfl)).symm.trans hR
        | 3, h, hR => exact (h 3 (List.mem_singleton.2 rfl)).symm.trans hR
        | 4, h, hR => exact (h 4 (List.mem_singleton.2 rfl)).symm.trans hR
        | 5, h, hR => exact (h 5 (List.mem_singleton.2 rfl)).symm.trans hR
        | 6, h, hR => exact (h 6 (List.mem_singleton.2 rfl)).symm.trans hR
        | 7, _, hR => exact hR
        | 8, _, hR => exact hR
        | 9, h, hR => exact (h 9 (List.mem_singleton.2 rfl)).symm.trans hR
        | _ + 10, _, _ => exact trivial
      · intro j σ w w' hb hR
        match j, hR with
        | 0, hR => exact hR
        | 1, hR => exact hR
        | 2, hR => exact hR
        | 3, hR => exact hR
        | 4, hR => exact hR
        | 5, hR => exact hR
        | 6, hR => exact hR
        | 7, hR => exact hR.below hb hR.lt
        | 8, hR => exact hR.below hb hR.lt
        | 9, hR => exact hR
        | _ + 10, _ => exact trivial
      · exact ⟨hB.drew, hx, hy, hG, hM, ⟨_, _, _, _, _, hz⟩, fun _ => hz, ⟨_, _, _, _, _, _, _, _, _, _, _, _, hw_⟩, fun _ => hw_⟩
      · -- 0: Op.load 75 t2
        go_light
        intro L σ W' hcl hL hC hw
        clear hw
        have HC := Lib.hid hC
        obtain ⟨hB, hx, hy, hG, hM, ⟨hz_x0, hz_x1, hz_x2, hz_x3, hz_x4, hz⟩, hz_o, ⟨hw__x0, hw__x1, hw__x2, hw__x3, hw__x4, hw__x5, hw__x6, hw__x7, hw__x8, hw__x9, hw__x10, hw__x11, hw_⟩, hw__o⟩ := hC
        have ks := hx.cell
        clear hcl hL
        clear hB hx hy hG hM hz hz_o hw_ hw__o
        refine OpGoes.step fun K hK => ?_
        unfold OpGoes
        go_simp
        obtain ⟨hB, hx, hy, hG, hM, ⟨hz_x0, hz_x1, hz_x2, hz_x3, hz_x4, hz⟩, hz_o, ⟨hw__x0, hw__x1, hw__x2, hw__x3, hw__x4, hw__x5, hw__x6, hw__x7, hw__x8, hw__x9, hw__x10, hw__x11, hw_⟩, hw__o⟩ := HC.out
        exact hK _ _ ⟨⟨hB, hx, hy, hG, hM, ⟨_, _, _, _, _, hz⟩, fun h => hz_o (by simpa [upd] using h), ⟨_, _, _, _, _, _, _, _, _, _, _, _, hw_⟩, fun h => hw__o (by simpa [upd] using h)⟩, rfl, Below.refl _ _⟩
      · -- 1: Op.load 41 t3
        go_light
        intro L σ W' hcl hL hC hw
        clear hw
        have HC := Lib.hid hC
        obtain ⟨hB, hx, hy, hG, hM, ⟨hz_x0, hz_x1, hz_x2, hz_x3, hz_x4, hz⟩, hz_o, ⟨hw__x0, hw__x1, hw__x2, hw__x3, hw__x4, hw__x5, hw__x6, hw__x7, hw__x8, hw__x9, hw__x10, hw__x11, hw_⟩, hw__o⟩ := hC
        have kh := hy.cell
        clear hcl hL
        clear hB hx hy hG hM hz hz_o hw_ hw__o
        refine OpGoes.step fun K hK => ?_
        unfold OpGoes
        go_simp
        obtain ⟨hB, hx, hy, hG, hM, ⟨hz_x0, hz_x1, hz_x2, hz_x3, hz_x4, hz⟩, hz_o, ⟨hw__x0, hw__x1, hw__x2, hw__x3, hw__x4, hw__x5, hw__x6, hw__x7, hw__x8, hw__x9, hw__x10, hw__x11, hw_⟩, hw__o⟩ := HC.out
        exact hK _ _ ⟨⟨hB, hx, hy, hG, hM, ⟨_, _, _, _, _, hz⟩, fun h => hz_o (by simpa [upd] using h), ⟨_, _, _, _, _, _, _, _, _, _, _, _, hw_⟩, fun h => hw__o (by simpa [upd] using h)⟩, rfl, Below.refl _ _⟩
      · -- 2: Op.move t9
        go_light
        intro L σ W' hcl hL hC hw
        clear hw
        have HC := Lib.hid hC
        clear hC
        clear hcl hL
        refine OpGoes.step fun K hK => ?_
        unfold OpGoes
        go_simp
        obtain ⟨hB, hx, hy, hG, hM, ⟨hz_x0, hz_x1, hz_x2, hz_x3, hz_x4, hz⟩, hz_o, ⟨hw__x0, hw__x1, hw__x2, hw__x3, hw__x4, hw__x5, hw__x6, hw__x7, hw__x8, hw__x9, hw__x10, hw__x11, hw_⟩, hw__o⟩ := HC.out
        exact hK _ _ ⟨⟨hB, hx, hy, hG, hM, ⟨_, _, _, _, _, hz⟩, fun h => hz_o (by simpa [upd] using h), ⟨_, _, _, _, _, _, _, _, _, _, _, _, hw_⟩, fun h => hw__o (by simpa [upd] using h)⟩, rfl, Below.refl _ _⟩
      · -- 3: Op.move t176
        go_light
        intro L σ W' hcl hL hC hw
        have e2 : σ 2 = .bool true := hw 2 (by kernel_rfl)
        clear hw
        have HC := Lib.hid hC
        clear hC
        clear hcl hL
        refine OpGoes.step fun K hK => ?_
        unfold OpGoes
        go_simp
        obtain ⟨hB, hx, hy, hG, hM, ⟨hz_x0, hz_x1, hz_x2, hz_x3, hz_x4, hz⟩, hz_o, ⟨hw__x0, hw__x1, hw__x2, hw__x3, hw__x4, hw__x5, hw__x6, hw__x7, hw__x8, hw__x9, hw__x10, hw__x11, hw_⟩, hw__o⟩ := HC.out
        exact hK _ _ ⟨⟨hB, hx, hy, hG, hM, ⟨_, _, _, _, _, hz⟩, fun h => hz_o (by simpa [upd] using h), ⟨_, _, _, _, _, _, _, _, _, _, _, _, hw_⟩, fun h => hw__o (by simpa [upd] using h)⟩, rfl, Below.refl _ _⟩
      · -- 4: Op.load 41 t3   [guarded: some (3, true)]
        go_light
        intro L σ W' hcl hL hC hw
        have e3 : σ 3 = .bool true := hw 3 (by kernel_rfl)
        clear hw
        have HC := Lib.hid hC
        obtain ⟨hB, hx, hy, hG, hM, ⟨hz_x0, hz_x1, hz_x2, hz_x3, hz_x4, hz⟩, hz_o, ⟨hw__x0, hw__x1, hw__x2, hw__x3, hw__x4, hw__x5, hw__x6, hw__x7, hw__x8, hw__x9, hw__x10, hw__x11, hw_⟩, hw__o⟩ := hC
        have kh := hy.cell
        clear hcl hL
        clear hB hx hy hG hM hz hz_o hw_ hw__o
        refine OpGoes.step fun K hK => ?_
        unfold OpGoes
        go_simp
        obtain ⟨hB, hx, hy, hG, hM, ⟨hz_x0, hz_x1, hz_x2, hz_x3, hz_x4, hz⟩, hz_o, ⟨hw__x0, hw__x1, hw__x2, hw__x3, hw__x4, hw__x5, hw__x6, hw__x7, hw__x8, hw__x9, hw__x10, hw__x11, hw_⟩, hw__o⟩ := HC.out
        exact hK _ _ ⟨⟨hB, hx, hy, hG, hM, ⟨_, _, _, _, _, hz⟩, fun h => hz_o (by simpa [upd] using h), ⟨_, _, _, _, _, _, _, _, _, _, _, _, hw_⟩, fun h => hw__o (by simpa [upd] using h)⟩, rfl, Below.refl _ _⟩
      · -- 5: Op.call { value (Operand.func 25), args := #[t178], argTypes := #[41] }   [guarded: some (3, true)]
        go_light
        intro L σ W' hcl hL hC hw
        have e3 : σ 3 = .bool true := hw 3 (by kernel_rfl)
        have e4 : σ 4 = .agg #[.int .i64 h2.at_, .int .i64 h2.v, .int .i64 h2.r, .int .i64 h2.t, .bool h2.seen.s, .int .i64 h2.seen.n, .bool h2.seen.f, .int .i64 h2.seen.v, .int .i64 h2.tr, .int .i64 h2.sp, .bool h2.ag, .int .i64 h2.re] := hw 4 (by kernel_rfl)
        clear hw
        have HC := Lib.hid hC
        clear hC
        clear hcl hL
        refine OpGoes.step fun K hK => ?_
        unfold OpGoes
        go_simp
        obtain ⟨hB, hx, hy, hG, hM, ⟨hz_x0, hz_x1, hz_x2, hz_x3, hz_x4, hz⟩, hz_o, ⟨hw__x0, hw__x1, hw__x2, hw__x3, hw__x4, hw__x5, hw__x6, hw__x7, hw__x8, hw__x9, hw__x10, hw__x11, hw_⟩, hw__o⟩ := HC.out
        refine (shandOk_any h2 _).mono ?_
        rintro e w1 ⟨rfl, hb1⟩
        exact ⟨_, rfl, hK _ _ ⟨⟨bstep hB hB.size hb1, hx.below hb1 hx.lt, hy.below hb1 hy.lt, hG.below hb1 (Nat.le_trans hhi2 hM), Nat.le_trans hM hb1.size, ⟨_, _, _, _, _, hz.below hb1 hz.lt⟩, fun h => (hz_o (by simpa [upd] using h)).below hb1 (hz_o (by simpa [upd] using h)).lt, ⟨_, _, _, _, _, _, _, _, _, _, _, _, hw_.below hb1 hw_.lt⟩, fun h => (hw__o (by simpa [upd] using h)).below hb1 (hw__o (by simpa [upd] using h)).lt⟩, rfl, hb1⟩⟩
      · -- 6: Op.pick t177 t179 (const (Value.bool false))
        go_light
        intro L σ W' hcl hL hC hw
        have e3 : σ 3 = .bool true := hw 3 (by kernel_rfl)
        have e5 : σ 5 = .bool h2.ok := hw 5 (by kernel_rfl)
        clear hw
        have HC := Lib.hid hC
        clear hC
        clear hcl hL
        refine OpGoes.step fun K hK => ?_
        unfold OpGoes
        go_simp
        obtain ⟨hB, hx, hy, hG, hM, ⟨hz_x0, hz_x1, hz_x2, hz_x3, hz_x4, hz⟩, hz_o, ⟨hw__x0, hw__x1, hw__x2, hw__x3, hw__x4, hw__x5, hw__x6, hw__x7, hw__x8, hw__x9, hw__x10, hw__x11, hw_⟩, hw__o⟩ := HC.out
        exact hK _ _ ⟨⟨hB, hx, hy, hG, hM, ⟨_, _, _, _, _, hz⟩, fun h => hz_o (by simpa [upd] using h), ⟨_, _, _, _, _, _, _, _, _, _, _, _, hw_⟩, fun h => hw__o (by simpa [upd] using h)⟩, rfl, Below.refl _ _⟩
      · -- 7: Op.store 75 t4 t174
        go_light
        intro L σ W' hcl hL hC hw hne
        have e0 : σ 0 = .agg #[.int .i64 q.1.rd, .int .i64 q.1.mo, .slice A5 n5 c5, .int .i64 q.1.fi, .int .i64 q.1.la] := hw 0 (by kernel_rfl)
        clear hw hne
        have HC := Lib.hid hC
        obtain ⟨hB, hx, hy, hG, hM, ⟨hz_x0, hz_x1, hz_x2, hz_x3, hz_x4, hz⟩, hz_o, ⟨hw__x0, hw__x1, hw__x2, hw__x3, hw__x4, hw__x5, hw__x6, hw__x7, hw__x8, hw__x9, hw__x10, hw__x11, hw_⟩, hw__o⟩ := hC
        clear hcl hL
        have kc_ := hz.cell
        have kf_ := hz.frozen
        clear hB hx hy hG hM hz hz_o hw_ hw__o
        refine OpGoes.step fun K hK => ?_
        unfold OpGoes
        go_simp
        obtain ⟨hB, hx, hy, hG, hM, ⟨hz_x0, hz_x1, hz_x2, hz_x3, hz_x4, hz⟩, hz_o, ⟨hw__x0, hw__x1, hw__x2, hw__x3, hw__x4, hw__x5, hw__x6, hw__x7, hw__x8, hw__x9, hw__x10, hw__x11, hw_⟩, hw__o⟩ := HC.out
        have hset := sets_all (us := [.int .i64 q.1.rd, .int .i64 q.1.mo, .slice A5 n5 c5, .int .i64 q.1.fi, .int .i64 q.1.la]) hz rfl
        refine hK undef (setCells W' (w.heap.size + 1 + 1) 0 [.int .i64 q.1.rd, .int .i64 q.1.mo, .slice A5 n5 c5, .int .i64 q.1.fi, .int .i64 q.1.la]) ⟨⟨(Below.setCells (by omega) [.int .i64 q.1.rd, .int .i64 q.1.mo, .slice A5 n5 c5, .int .i64 q.1.fi, .int .i64 q.1.la] 0 hB), (BoxAt.sets_ne [.int .i64 q.1.rd, .int .i64 q.1.mo, .slice A5 n5 c5, .int .i64 q.1.fi, .int .i64 q.1.la] 0 hx (by omega)), (BoxAt.sets_ne [.int .i64 q.1.rd, .int .i64 q.1.mo, .slice A5 n5 c5, .int .i64 q.1.fi, .int .i64 q.1.la] 0 hy (by omega)), (RgsW.sts hG (by omega) [.int .i64 q.1.rd, .int .i64 q.1.mo, .slice A5 n5 c5, .int .i64 q.1.fi, .int .i64 q.1.la] 0), (size_sts hM [.int .i64 q.1.rd, .int .i64 q.1.mo, .slice A5 n5 c5, .int .i64 q.1.fi, .int .i64 q.1.la] 0), ⟨_, _, _, _, _, hset⟩, fun h => absurd h (by simp [upd]), ⟨_, _, _, _, _, _, _, _, _, _, _, _, (BoxAt.sets_ne [.int .i64 q.1.rd, .int .i64 q.1.mo, .slice A5 n5 c5, .int .i64 q.1.fi, .int .i64 q.1.la] 0 hw_ (by omega))⟩, fun h => (BoxAt.sets_ne [.int .i64 q.1.rd, .int .i64 q.1.mo, .slice A5 n5 c5, .int .i64 q.1.fi, .int .i64 q.1.la] 0 (hw__o (by simpa [upd] using h)) (by omega))⟩, hset, Nat.le_of_eq (sets_size _ _ _).symm, fun j hj hn hR => ?_⟩
        match j, hj, hn, hR with
        | 0, _, _, hR => exact (show σ 0 = .agg #[.int .i64 q.1.rd, .int .i64 q.1.mo, .slice A5 n5 c5, .int .i64 q.1.fi, .int .i64 q.1.la] from hR)
        | 1, _, _, hR => exact (show σ 1 = .agg #[.int .i64 h2.at_, .int .i64 h2.v, .int .i64 h2.r, .int .i64 h2.t, .bool h2.seen.s, .int .i64 h2.seen.n, .bool h2.seen.f, .int .i64 h2.seen.v, .int .i64 h2.tr, .int .i64 h2.sp, .bool h2.ag, .int .i64 h2.re] from hR)
        | 2, _, _, hR => exact (show σ 2 = .bool true from hR)
        | 3, _, _, hR => exact (show σ 3 = .bool true from hR)
        | 4, _, _, hR => exact (show σ 4 = .agg #[.int .i64 h2.at_, .int .i64 h2.v, .int .i64 h2.r, .int .i64 h2.t, .bool h2.seen.s, .int .i64 h2.seen.n, .bool h2.seen.f, .int .i64 h2.seen.v, .int .i64 h2.tr, .int .i64 h2.sp, .bool h2.ag, .int .i64 h2.re] from hR)
        | 5, _, _, hR => exact (show σ 5 = .bool h2.ok from hR)
        | 6, _, _, hR => exact (show σ 6 = .bool h2.ok from hR)
        | 7, hj, _, _ => exact absurd rfl hj
        | 8, _, _, hR => exact (BoxAt.sets_ne [.int .i64 q.1.rd, .int .i64 q.1.mo, .slice A5 n5 c5, .int .i64 q.1.fi, .int .i64 q.1.la] 0 hR (by omega))
        | 9, _, _, hR => exact (show σ 9 = .bool h2.ok from hR)
        | _ + 10, _, _, _ => exact trivial
      · -- 8: Op.store 41 t5 t175
        go_light
        intro L σ W' hcl hL hC hw hne
        have e1 : σ 1 = .agg #[.int .i64 h2.at_, .int .i64 h2.v, .int .i64 h2.r, .int .i64 h2.t, .bool h2.seen.s, .int .i64 h2.seen.n, .bool h2.seen.f, .int .i64 h2.seen.v, .int .i64 h2.tr, .int .i64 h2.sp, .bool h2.ag, .int .i64 h2.re] := hw 1 (by kernel_rfl)
        clear hw hne
        have HC := Lib.hid hC
        obtain ⟨hB, hx, hy, hG, hM, ⟨hz_x0, hz_x1, hz_x2, hz_x3, hz_x4, hz⟩, hz_o, ⟨hw__x0, hw__x1, hw__x2, hw__x3, hw__x4, hw__x5, hw__x6, hw__x7, hw__x8, hw__x9, hw__x10, hw__x11, hw_⟩, hw__o⟩ := hC
        clear hcl hL
        have kc_ := hw_.cell
        have kf_ := hw_.frozen
        clear hB hx hy hG hM hz hz_o hw_ hw__o
        refine OpGoes.step fun K hK => ?_
        unfold OpGoes
        go_simp
        obtain ⟨hB, hx, hy, hG, hM, ⟨hz_x0, hz_x1, hz_x2, hz_x3, hz_x4, hz⟩, hz_o, ⟨hw__x0, hw__x1, hw__x2, hw__x3, hw__x4, hw__x5, hw__x6, hw__x7, hw__x8, hw__x9, hw__x10, hw__x11, hw_⟩, hw__o⟩ := HC.out
        have hset := sets_all (us := [.int .i64 h2.at_, .int .i64 h2.v, .int .i64 h2.r, .int .i64 h2.t, .bool h2.seen.s, .int .i64 h2.seen.n, .bool h2.seen.f, .int .i64 h2.seen.v, .int .i64 h2.tr, .int .i64 h2.sp, .bool h2.ag, .int .i64 h2.re]) hw_ rfl
        refine hK undef (setCells W' (w.heap.size + 1 + 1 + 1) 0 [.int .i64 h2.at_, .int .i64 h2.v, .int .i64 h2.r, .int .i64 h2.t, .bool h2.seen.s, .int .i64 h2.seen.n, .bool h2.seen.f, .int .i64 h2.seen.v, .int .i64 h2.tr, .int .i64 h2.sp, .bool h2.ag, .int .i64 h2.re]) ⟨⟨(Below.setCells (by omega) [.int .i64 h2.at_, .int .i64 h2.v, .int .i64 h2.r, .int .i64 h2.t, .bool h2.seen.s, .int .i64 h2.seen.n, .bool h2.seen.f, .int .i64 h2.seen.v, .int .i64 h2.tr, .int .i64 h2.sp, .bool h2.ag, .int .i64 h2.re] 0 hB), (BoxAt.sets_ne [.int .i64 h2.at_, .int .i64 h2.v, .int .i64 h2.r, .int .i64 h2.t, .bool h2.seen.s, .int .i64 h2.seen.n, .bool h2.seen.f, .int .i64 h2.seen.v, .int .i64 h2.tr, .int .i64 h2.sp, .bool h2.ag, .int .i64 h2.re] 0 hx (by omega)), (BoxAt.sets_ne [.int .i64 h2.at_, .int .i64 h2.v, .int .i64 h2.r, .int .i64 h2.t, .bool h2.seen.s, .int .i64 h2.seen.n, .bool h2.seen.f, .int .i64 h2.seen.v, .int .i64 h2.tr, .int .i64 h2.sp, .bool h2.ag, .int .i64 h2.re] 0 hy (by omega)), (RgsW.sts hG (by omega) [.int .i64 h2.at_, .int .i64 h2.v, .int .i64 h2.r, .int .i64 h2.t, .bool h2.seen.s, .int .i64 h2.seen.n, .bool h2.seen.f, .int .i64 h2.seen.v, .int .i64 h2.tr, .int .i64 h2.sp, .bool h2.ag, .int .i64 h2.re] 0), (size_sts hM [.int .i64 h2.at_, .int .i64 h2.v, .int .i64 h2.r, .int .i64 h2.t, .bool h2.seen.s, .int .i64 h2.seen.n, .bool h2.seen.f, .int .i64 h2.seen.v, .int .i64 h2.tr, .int .i64 h2.sp, .bool h2.ag, .int .i64 h2.re] 0), ⟨_, _, _, _, _, (BoxAt.sets_ne [.int .i64 h2.at_, .int .i64 h2.v, .int .i64 h2.r, .int .i64 h2.t, .bool h2.seen.s, .int .i64 h2.seen.n, .bool h2.seen.f, .int .i64 h2.seen.v, .int .i64 h2.tr, .int .i64 h2.sp, .bool h2.ag, .int .i64 h2.re] 0 hz (by omega))⟩, fun h => (BoxAt.sets_ne [.int .i64 h2.at_, .int .i64 h2.v, .int .i64 h2.r, .int .i64 h2.t, .bool h2.seen.s, .int .i64 h2.seen.n, .bool h2.seen.f, .int .i64 h2.seen.v, .int .i64 h2.tr, .int .i64 h2.sp, .bool h2.ag, .int .i64 h2.re] 0 (hz_o (by simpa [upd] using h)) (by omega)), ⟨_, _, _, _, _, _, _, _, _, _, _, _, hset⟩, fun h => absurd h (by simp [upd])⟩, hset, Nat.le_of_eq (sets_size _ _ _).symm, fun j hj hn hR => ?_⟩
        match j, hj, hn, hR with
        | 0, _, _, hR => exact (show σ 0 = .agg #[.int .i64 q.1.rd, .int .i64 q.1.mo, .slice A5 n5 c5, .int .i64 q.1.fi, .int .i64 q.1.la] from hR)
        | 1, _, _, hR => exact (show σ 1 = .agg #[.int .i64 h2.at_, .int .i64 h2.v, .int .i64 h2.r, .int .i64 h2.t, .bool h2.seen.s, .int .i64 h2.seen.n, .bool h2.seen.f, .int .i64 h2.seen.v, .int .i64 h2.tr, .int .i64 h2.sp, .bool h2.ag, .int .i64 h2.re] from hR)
        | 2, _, _, hR => exact (show σ 2 = .bool true from hR)
        | 3, _, _, hR => exact (show σ 3 = .bool true from hR)
        | 4, _, _, hR => exact (show σ 4 = .agg #[.int .i64 h2.at_, .int .i64 h2.v, .int .i64 h2.r, .int .i64 h2.t, .bool h2.seen.s, .int .i64 h2.seen.n, .bool h2.seen.f, .int .i64 h2.seen.v, .int .i64 h2.tr, .int .i64 h2.sp, .bool h2.ag, .int .i64 h2.re] from hR)
        | 5, _, _, hR => exact (show σ 5 = .bool h2.ok from hR)
        | 6, _, _, hR => exact (show σ 6 = .bool h2.ok from hR)
        | 7, _, _, hR => exact (BoxAt.sets_ne [.int .i64 h2.at_, .int .i64 h2.v, .int .i64 h2.r, .int .i64 h2.t, .bool h2.seen.s, .int .i64 h2.seen.n, .bool h2.seen.f, .int .i64 h2.seen.v, .int .i64 h2.tr, .int .i64 h2.sp, .bool h2.ag, .int .i64 h2.re] 0 hR (by omega))
        | 8, hj, _, _ => exact absurd rfl hj
        | 9, _, _, hR => exact (show σ 9 = .bool h2.ok from hR)
        | _ + 10, _, _, _ => exact trivial
      · -- 9: Op.assign t180
        go_light
        intro L σ W' hcl hL hC hw
        have e6 : σ 6 = .bool h2.ok := hw 6 (by kernel_rfl)
        clear hw
        have HC := Lib.hid hC
        clear hC
        clear hcl hL
        refine OpGoes.step fun K hK => ?_
        unfold OpGoes
        go_simp
        obtain ⟨hB, hx, hy, hG, hM, ⟨hz_x0, hz_x1, hz_x2, hz_x3, hz_x4, hz⟩, hz_o, ⟨hw__x0, hw__x1, hw__x2, hw__x3, hw__x4, hw__x5, hw__x6, hw__x7, hw__x8, hw__x9, hw__x10, hw__x11, hw_⟩, hw__o⟩ := HC.out
        exact hK _ _ ⟨⟨hB, hx, hy, hG, hM, ⟨_, _, _, _, _, hz⟩, fun h => hz_o (by simpa [upd] using h), ⟨_, _, _, _, _, _, _, _, _, _, _, _, hw_⟩, fun h => hw__o (by simpa [upd] using h)⟩, rfl, Below.refl _ _⟩
      · intro σ L W' hall hC hR
        obtain ⟨hB, hx, hy, hG, hM, ⟨hz_x0, hz_x1, hz_x2, hz_x3, hz_x4, hz⟩, hz_o, ⟨hw__x0, hw__x1, hw__x2, hw__x3, hw__x4, hw__x5, hw__x6, hw__x7, hw__x8, hw__x9, hw__x10, hw__x11, hw_⟩, hw__o⟩ := hC
        have s7 : BoxAt W' (w.heap.size + 1 + 1) #[.int .i64 q.1.rd, .int .i64 q.1.mo, .slice A5 n5 c5, .int .i64 q.1.fi, .int .i64 q.1.la] 75 := hR 7 (by decide)
        have s8 : BoxAt W' (w.heap.size + 1 + 1 + 1) #[.int .i64 h2.at_, .int .i64 h2.v, .int .i64 h2.r, .int .i64 h2.t, .bool h2.seen.s, .int .i64 h2.seen.n, .bool h2.seen.f, .int .i64 h2.seen.v, .int .i64 h2.tr, .int .i64 h2.sp, .bool h2.ag, .int .i64 h2.re] 41 := hR 8 (by decide)
        have e9 : σ 9 = .bool h2.ok := hR 9 (by decide)
        clear hR
        simp only [lexAll]
        go_simp
        go_step
        have k7 := s7.cell
        have k8 := s8.cell
        go_wp2
        refine bodyPost_ret (v := .tuple #[stV q.1 A5 n5 c5, hdV h2, .bool (h2.ok)]) (by simp [results, Try.results92, go_sem, k7, k8, stV, hdV]) rfl ⟨A5, n5, c5, by rw [HV.out], ?_, hB⟩
        rw [HV.out]
        exact hG.cut.mono (by omega) (Nat.le_refl _)

    · have HQ2 := Lib.hid hq2; clear hq2
      go_wp2_with fail
      refine (l7Then_any _ _ _ _).mono ?_
      rintro e w' ⟨rfl, rfl⟩
      dsimp only
      go_upto_region 43 with fail
      have HV := Lib.hid (show take18 s ⟨18, v, r, t, seen, tr, sp, ag, re⟩ = (q.1, (⟨19, v, r, t, seen, tr, sp, ag, re⟩ : Hd), ((⟨19, v, r, t, seen, tr, sp, ag, re⟩ : Hd)).ok) by simp only [take18, HQ5.out, HQ2.out]; rfl)
      refine wp_abs (fun W' => Below w.heap.size w W' ∧ BoxAt W' w.heap.size #[.int .i64 (q.1).rd, .int .i64 (q.1).mo, .slice A5 n5 c5, .int .i64 (q.1).fi, .int .i64 (q.1).la] 75 ∧ BoxAt W' (w.heap.size + 1) #[.int .i64 ((⟨19, v, r, t, seen, tr, sp, ag, re⟩ : Hd)).at_, .int .i64 ((⟨19, v, r, t, seen, tr, sp, ag, re⟩ : Hd)).v, .int .i64 ((⟨19, v, r, t, seen, tr, sp, ag, re⟩ : Hd)).r, .int .i64 ((⟨19, v, r, t, seen, tr, sp, ag, re⟩ : Hd)).t, .bool ((⟨19, v, r, t, seen, tr, sp, ag, re⟩ : Hd)).seen.s, .int .i64 ((⟨19, v, r, t, seen, tr, sp, ag, re⟩ : Hd)).seen.n, .bool ((⟨19, v, r, t, seen, tr, sp, ag, re⟩ : Hd)).seen.f, .int .i64 ((⟨19, v, r, t, seen, tr, sp, ag, re⟩ : Hd)).seen.v, .int .i64 ((⟨19, v, r, t, seen, tr, sp, ag, re⟩ : Hd)).tr, .int .i64 ((⟨19, v, r, t, seen, tr, sp, ag, re⟩ : Hd)).sp, .bool ((⟨19, v, r, t, seen, tr, sp, ag, re⟩ : Hd)).ag, .int .i64 ((⟨19, v, r, t, seen, tr, sp, ag, re⟩ : Hd)).re] 41 ∧ BoxAt W' (w.heap.size + 1 + 1) #[.int .i64 0, .int .i64 0, .slice none 0 0, .int .i64 0, .int .i64 0] 75 ∧ BoxAt W' (w.heap.size + 1 + 1 + 1) #[.int .i64 0, .int .i64 0, .int .i64 0, .int .i64 0, .bool false, .int .i64 0, .bool false, .int .i64 0, .int .i64 0, .int .i64 0, .bool false, .int .i64 0] 41 ∧ RgsW M0 wc.heap.size W' A5 n5 c5 (q.1).rs ∧ wc.heap.size ≤ W'.heap.size) ⟨hB.setCell (by dsimp only; omega) _, hx.set_ne (by omega) _ _, by simpa using hy.set 0 (.int .i64 19), hz.set_ne (by omega) _ _, hw_.set_ne (by omega) _ _, hG.st (.inl (by omega)) _ _, by simp⟩ ?_
      clear ky fy hB hx hy hz hw_ hG
      generalize hq2 : (⟨19, v, r, t, seen, tr, sp, ag, re⟩ : Hd) = h2 at *
      clear hq2
      rintro W ⟨hB, hx, hy, hz, hw_, hG, hhi⟩
      have lw := hw_.lt
      obtain ⟨M, hMe⟩ : ∃ M, M = W.heap.size := ⟨_, rfl⟩
      have hM : M ≤ W.heap.size := by omega
      have hM2 : W.heap.size ≤ M := by omega
      have hhi2 : wc.heap.size ≤ M := by omega
      clear hMe hM2
      refine wp_region2 (fun w w' => Below w.heap.size w w') (fun _ _ h => h.size) (fun L W' => Below w.heap.size w W' ∧ BoxAt W' w.heap.size #[.int .i64 q.1.rd, .int .i64 q.1.mo, .slice A5 n5 c5, .int .i64 q.1.fi, .int .i64 q.1.la] 75 ∧ BoxAt W' (w.heap.size + 1) #[.int .i64 h2.at_, .int .i64 h2.v, .int .i64 h2.r, .int .i64 h2.t, .bool h2.seen.s, .int .i64 h2.seen.n, .bool h2.seen.f, .int .i64 h2.seen.v, .int .i64 h2.tr, .int .i64 h2.sp, .bool h2.ag, .int .i64 h2.re] 41 ∧ RgsW M0 wc.heap.size W' A5 n5 c5 q.1.rs ∧ M ≤ W'.heap.size ∧ (∃ x0 x1 x2 x3 x4, BoxAt W' (w.heap.size + 1 + 1) #[x0, x1, x2, x3, x4] 75) ∧ (L 7 = false → BoxAt W' (w.heap.size + 1 + 1) #[.int .i64 0, .int .i64 0, .slice none 0 0, .int .i64 0, .int .i64 0] 75) ∧ (∃ x0 x1 x2 x3 x4 x5 x6 x7 x8 x9 x10 x11, BoxAt W' (w.heap.size + 1 + 1 + 1) #[x0, x1, x2, x3, x4, x5, x6, x7, x8, x9, x10, x11] 41) ∧ (L 8 = false → BoxAt W' (w.heap.size + 1 + 1 + 1) #[.int .i64 0, .int .i64 0, .int .i64 0, .int .i64 0, .bool false, .int .i64 0, .bool false, .int .i64 0, .int .i64 0, .int .i64 0, .bool false, .int .i64 0] 41)) (p6TR q.1 w.heap.size n5 c5 A5 h2) p6TK p6TS (by kernel_rfl) (by kernel_rfl) ?_ ?_ ?_
        (.grow rfl ?_ <| .grow rfl ?_ <| .grow rfl ?_ <| .grow rfl ?_ <| .grow rfl ?_ <| .grow rfl ?_ <| .grow rfl ?_ <| .store rfl ?_ <| .store rfl ?_ <| .grow rfl ?_ <| .nil) ?_
      · intro j σ τ w h hR
        match j, h, hR with
        | 0, h, hR => exact (h 0 (List.mem_singleton.2 rfl)).symm.trans hR
        | 1, h, hR => exact (h 1 (List.mem_singleton.2 rfl)).symm.trans hR
        | 2, h, hR => exact (h 2 (List.mem_singleton.2 rfl)).symm.trans hR
        | 3, h, hR => exact (h 3 (List.mem_singleton.2 rfl)).symm.trans hR
        | 4, h, hR => exact (h 4 (List.mem_singleton.2 rfl)).symm.trans hR
        | 5, h, hR => exact (h 5 (List.mem_singleton.2 rfl)).symm.trans hR
        | 6, h, hR => exact (h 6 (List.mem_singleton.2 rfl)).symm.trans hR
        | 7, _, hR => exact hR
        | 8, _, hR => exact hR
        | 9, h, hR => exact (h 9 (List.mem_singleton.2 rfl)).symm.trans hR
        | _ + 10, _, _ => exact trivial
      · intro j σ w w' hb hR
        match j, hR with
        | 0, hR => exact hR
        | 1, hR => exact hR
        | 2, hR => exact hR
        | 3, hR => exact hR
        | 4, hR => exact hR
        | 5, hR => exact hR
        | 6, hR => exact hR
        | 7, hR => exact hR.below hb hR.lt
        | 8, hR => exact hR.below hb hR.lt
        | 9, hR => exact hR
        | _ + 10, _ => exact trivial
      · exact ⟨hB.drew, hx, hy, hG, hM, ⟨_, _, _, _, _, hz⟩, fun _ => hz, ⟨_, _, _, _, _, _, _, _, _, _, _, _, hw_⟩, fun _ => hw_⟩
      · -- 0: Op.load 75 t2
        go_light
        intro L σ W' hcl hL hC hw
        clear hw
        have HC := Lib.hid hC
        obtain ⟨hB, hx, hy, hG, hM, ⟨hz_x0, hz_x1, hz_x2, hz_x3, hz_x4, hz⟩, hz_o, ⟨hw__x0, hw__x1, hw__x2, hw__x3, hw__x4, hw__x5, hw__x6, hw__x7, hw__x8, hw__x9, hw__x10, hw__x11, hw_⟩, hw__o⟩ := hC
        have ks := hx.cell
        clear hcl hL
        clear hB hx hy hG hM hz hz_o hw_ hw__o
        refine OpGoes.step fun K hK => ?_
        unfold OpGoes
        go_simp
        obtain ⟨hB, hx, hy, hG, hM, ⟨hz_x0, hz_x1, hz_x2, hz_x3, hz_x4, hz⟩, hz_o, ⟨hw__x0, hw__x1, hw__x2, hw__x3, hw__x4, hw__x5, hw__x6, hw__x7, hw__x8, hw__x9, hw__x10, hw__x11, hw_⟩, hw__o⟩ := HC.out
        exact hK _ _ ⟨⟨hB, hx, hy, hG, hM, ⟨_, _, _, _, _, hz⟩, fun h => hz_o (by simpa [upd] using h), ⟨_, _, _, _, _, _, _, _, _, _, _, _, hw_⟩, fun h => hw__o (by simpa [upd] using h)⟩, rfl, Below.refl _ _⟩
      · -- 1: Op.load 41 t3
        go_light
        intro L σ W' hcl hL hC hw
        clear hw
        have HC := Lib.hid hC
        obtain ⟨hB, hx, hy, hG, hM, ⟨hz_x0, hz_x1, hz_x2, hz_x3, hz_x4, hz⟩, hz_o, ⟨hw__x0, hw__x1, hw__x2, hw__x3, hw__x4, hw__x5, hw__x6, hw__x7, hw__x8, hw__x9, hw__x10, hw__x11, hw_⟩, hw__o⟩ := hC
        have kh := hy.cell
        clear hcl hL
        clear hB hx hy hG hM hz hz_o hw_ hw__o
        refine OpGoes.step fun K hK => ?_
        unfold OpGoes
        go_simp
        obtain ⟨hB, hx, hy, hG, hM, ⟨hz_x0, hz_x1, hz_x2, hz_x3, hz_x4, hz⟩, hz_o, ⟨hw__x0, hw__x1, hw__x2, hw__x3, hw__x4, hw__x5, hw__x6, hw__x7, hw__x8, hw__x9, hw__x10, hw__x11, hw_⟩, hw__o⟩ := HC.out
        exact hK _ _ ⟨⟨hB, hx, hy, hG, hM, ⟨_, _, _, _, _, hz⟩, fun h => hz_o (by simpa [upd] using h), ⟨_, _, _, _, _, _, _, _, _, _, _, _, hw_⟩, fun h => hw__o (by simpa [upd] using h)⟩, rfl, Below.refl _ _⟩
      · -- 2: Op.move t9
        go_light
        intro L σ W' hcl hL hC hw
        clear hw
        have HC := Lib.hid hC
        clear hC
        clear hcl hL
        refine OpGoes.step fun K hK => ?_
        unfold OpGoes
        go_simp
        obtain ⟨hB, hx, hy, hG, hM, ⟨hz_x0, hz_x1, hz_x2, hz_x3, hz_x4, hz⟩, hz_o, ⟨hw__x0, hw__x1, hw__x2, hw__x3, hw__x4, hw__x5, hw__x6, hw__x7, hw__x8, hw__x9, hw__x10, hw__x11, hw_⟩, hw__o⟩ := HC.out
        exact hK _ _ ⟨⟨hB, hx, hy, hG, hM, ⟨_, _, _, _, _, hz⟩, fun h => hz_o (by simpa [upd] using h), ⟨_, _, _, _, _, _, _, _, _, _, _, _, hw_⟩, fun h => hw__o (by simpa [upd] using h)⟩, rfl, Below.refl _ _⟩
      · -- 3: Op.move t176
        go_light
        intro L σ W' hcl hL hC hw
        have e2 : σ 2 = .bool true := hw 2 (by kernel_rfl)
        clear hw
        have HC := Lib.hid hC
        clear hC
        clear hcl hL
        refine OpGoes.step fun K hK => ?_
        unfold OpGoes
        go_simp
        obtain ⟨hB, hx, hy, hG, hM, ⟨hz_x0, hz_x1, hz_x2, hz_x3, hz_x4, hz⟩, hz_o, ⟨hw__x0, hw__x1, hw__x2, hw__x3, hw__x4, hw__x5, hw__x6, hw__x7, hw__x8, hw__x9, hw__x10, hw__x11, hw_⟩, hw__o⟩ := HC.out
        exact hK _ _ ⟨⟨hB, hx, hy, hG, hM, ⟨_, _, _, _, _, hz⟩, fun h => hz_o (by simpa [upd] using h), ⟨_, _, _, _, _, _, _, _, _, _, _, _, hw_⟩, fun h => hw__o (by simpa [upd] using h)⟩, rfl, Below.refl _ _⟩
      · -- 4: Op.load 41 t3   [guarded: some (3, true)]
        go_light
        intro L σ W' hcl hL hC hw
        have e3 : σ 3 = .bool true := hw 3 (by kernel_rfl)
        clear hw
        have HC := Lib.hid hC
        obtain ⟨hB, hx, hy, hG, hM, ⟨hz_x0, hz_x1, hz_x2, hz_x3, hz_x4, hz⟩, hz_o, ⟨hw__x0, hw__x1, hw__x2, hw__x3, hw__x4, hw__x5, hw__x6, hw__x7, hw__x8, hw__x9, hw__x10, hw__x11, hw_⟩, hw__o⟩ := hC
        have kh := hy.cell
        clear hcl hL
        clear hB hx hy hG hM hz hz_o hw_ hw__o
        refine OpGoes.step fun K hK => ?_
        unfold OpGoes
        go_simp
        obtain ⟨hB, hx, hy, hG, hM, ⟨hz_x0, hz_x1, hz_x2, hz_x3, hz_x4, hz⟩, hz_o, ⟨hw__x0, hw__x1, hw__x2, hw__x3, hw__x4, hw__x5, hw__x6, hw__x7, hw__x8, hw__x9, hw__x10, hw__x11, hw_⟩, hw__o⟩ := HC.out
        exact hK _ _ ⟨⟨hB, hx, hy, hG, hM, ⟨_, _, _, _, _, hz⟩, fun h => hz_o (by simpa [upd] using h), ⟨_, _, _, _, _, _, _, _, _, _, _, _, hw_⟩, fun h => hw__o (by simpa [upd] using h)⟩, rfl, Below.refl _ _⟩
      · -- 5: Op.call { value (Operand.func 25), args := #[t178], argTypes := #[41] }   [guarded: some (3, true)]
        go_light
        intro L σ W' hcl hL hC hw
        have e3 : σ 3 = .bool true := hw 3 (by kernel_rfl)
        have e4 : σ 4 = .agg #[.int .i64 h2.at_, .int .i64 h2.v, .int .i64 h2.r, .int .i64 h2.t, .bool h2.seen.s, .int .i64 h2.seen.n, .bool h2.seen.f, .int .i64 h2.seen.v, .int .i64 h2.tr, .int .i64 h2.sp, .bool h2.ag, .int .i64 h2.re] := hw 4 (by kernel_rfl)
        clear hw
        have HC := Lib.hid hC
        clear hC
        clear hcl hL
        refine OpGoes.step fun K hK => ?_
        unfold OpGoes
        go_simp
        obtain ⟨hB, hx, hy, hG, hM, ⟨hz_x0, hz_x1, hz_x2, hz_x3, hz_x4, hz⟩, hz_o, ⟨hw__x0, hw__x1, hw__x2, hw__x3, hw__x4, hw__x5, hw__x6, hw__x7, hw__x8, hw__x9, hw__x10, hw__x11, hw_⟩, hw__o⟩ := HC.out
        refine (shandOk_any h2 _).mono ?_
        rintro e w1 ⟨rfl, hb1⟩
        exact ⟨_, rfl, hK _ _ ⟨⟨bstep hB hB.size hb1, hx.below hb1 hx.lt, hy.below hb1 hy.lt, hG.below hb1 (Nat.le_trans hhi2 hM), Nat.le_trans hM hb1.size, ⟨_, _, _, _, _, hz.below hb1 hz.lt⟩, fun h => (hz_o (by simpa [upd] using h)).below hb1 (hz_o (by simpa [upd] using h)).lt, ⟨_, _, _, _, _, _, _, _, _, _, _, _, hw_.below hb1 hw_.lt⟩, fun h => (hw__o (by simpa [upd] using h)).below hb1 (hw__o (by simpa [upd] using h)).lt⟩, rfl, hb1⟩⟩
      · -- 6: Op.pick t177 t179 (const (Value.bool false))
        go_light
        intro L σ W' hcl hL hC hw
        have e3 : σ 3 = .bool true := hw 3 (by kernel_rfl)
        have e5 : σ 5 = .bool h2.ok := hw 5 (by kernel_rfl)
        clear hw
        have HC := Lib.hid hC
        clear hC
        clear hcl hL
        refine OpGoes.step fun K hK => ?_
        unfold OpGoes
        go_simp
        obtain ⟨hB, hx, hy, hG, hM, ⟨hz_x0, hz_x1, hz_x2, hz_x3, hz_x4, hz⟩, hz_o, ⟨hw__x0, hw__x1, hw__x2, hw__x3, hw__x4, hw__x5, hw__x6, hw__x7, hw__x8, hw__x9, hw__x10, hw__x11, hw_⟩, hw__o⟩ := HC.out
        exact hK _ _ ⟨⟨hB, hx, hy, hG, hM, ⟨_, _, _, _, _, hz⟩, fun h => hz_o (by simpa [upd] using h), ⟨_, _, _, _, _, _, _, _, _, _, _, _, hw_⟩, fun h => hw__o (by simpa [upd] using h)⟩, rfl, Below.refl _ _⟩
      · -- 7: Op.store 75 t4 t174
        go_light
        intro L σ W' hcl hL hC hw hne
        have e0 : σ 0 = .agg #[.int .i64 q.1.rd, .int .i64 q.1.mo, .slice A5 n5 c5, .int .i64 q.1.fi, .int .i64 q.1.la] := hw 0 (by kernel_rfl)
        clear hw hne
        have HC := Lib.hid hC
        obtain ⟨hB, hx, hy, hG, hM, ⟨hz_x0, hz_x1, hz_x2, hz_x3, hz_x4, hz⟩, hz_o, ⟨hw__x0, hw__x1, hw__x2, hw__x3, hw__x4, hw__x5, hw__x6, hw__x7, hw__x8, hw__x9, hw__x10, hw__x11, hw_⟩, hw__o⟩ := hC
        clear hcl hL
        have kc_ := hz.cell
        have kf_ := hz.frozen
        clear hB hx hy hG hM hz hz_o hw_ hw__o
        refine OpGoes.step fun K hK => ?_
        unfold OpGoes
        go_simp
        obtain ⟨hB, hx, hy, hG, hM, ⟨hz_x0, hz_x1, hz_x2, hz_x3, hz_x4, hz⟩, hz_o, ⟨hw__x0, hw__x1, hw__x2, hw__x3, hw__x4, hw__x5, hw__x6, hw__x7, hw__x8, hw__x9, hw__x10, hw__x11, hw_⟩, hw__o⟩ := HC.out
        have hset := sets_all (us := [.int .i64 q.1.rd, .int .i64 q.1.mo, .slice A5 n5 c5, .int .i64 q.1.fi, .int .i64 q.1.la]) hz rfl
        refine hK undef (setCells W' (w.heap.size + 1 + 1) 0 [.int .i64 q.1.rd, .int .i64 q.1.mo, .slice A5 n5 c5, .int .i64 q.1.fi, .int .i64 q.1.la]) ⟨⟨(Below.setCells (by omega) [.int .i64 q.1.rd, .int .i64 q.1.mo, .slice A5 n5 c5, .int .i64 q.1.fi, .int .i64 q.1.la] 0 hB), (BoxAt.sets_ne [.int .i64 q.1.rd, .int .i64 q.1.mo, .slice A5 n5 c5, .int .i64 q.1.fi, .int .i64 q.1.la] 0 hx (by omega)), (BoxAt.sets_ne [.int .i64 q.1.rd, .int .i64 q.1.mo, .slice A5 n5 c5, .int .i64 q.1.fi, .int .i64 q.1.la] 0 hy (by omega)), (RgsW.sts hG (by omega) [.int .i64 q.1.rd, .int .i64 q.1.mo, .slice A5 n5 c5, .int .i64 q.1.fi, .int .i64 q.1.la] 0), (size_sts hM [.int .i64 q.1.rd, .int .i64 q.1.mo, .slice A5 n5 c5, .int .i64 q.1.fi, .int .i64 q.1.la] 0), ⟨_, _, _, _, _, hset⟩, fun h => absurd h (by simp [upd]), ⟨_, _, _, _, _, _, _, _, _, _, _, _, (BoxAt.sets_ne [.int .i64 q.1.rd, .int .i64 q.1.mo, .slice A5 n5 c5, .int .i64 q.1.fi, .int .i64 q.1.la] 0 hw_ (by omega))⟩, fun h => (BoxAt.sets_ne [.int .i64 q.1.rd, .int .i64 q.1.mo, .slice A5 n5 c5, .int .i64 q.1.fi, .int .i64 q.1.la] 0 (hw__o (by simpa [upd] using h)) (by omega))⟩, hset, Nat.le_of_eq (sets_size _ _ _).symm, fun j hj hn hR => ?_⟩
        match j, hj, hn, hR with
        | 0, _, _, hR => exact (show σ 0 = .agg #[.int .i64 q.1.rd, .int .i64 q.1.mo, .slice A5 n5 c5, .int .i64 q.1.fi, .int .i64 q.1.la] from hR)
        | 1, _, _, hR => exact (show σ 1 = .agg #[.int .i64 h2.at_, .int .i64 h2.v, .int .i64 h2.r, .int .i64 h2.t, .bool h2.seen.s, .int .i64 h2.seen.n, .bool h2.seen.f, .int .i64 h2.seen.v, .int .i64 h2.tr, .int .i64 h2.sp, .bool h2.ag, .int .i64 h2.re] from hR)
        | 2, _, _, hR => exact (show σ 2 = .bool true from hR)
        | 3, _, _, hR => exact (show σ 3 = .bool true from hR)
        | 4, _, _, hR => exact (show σ 4 = .agg #[.int .i64 h2.at_, .int .i64 h2.v, .int .i64 h2.r, .int .i64 h2.t, .bool h2.seen.s, .int .i64 h2.seen.n, .bool h2.seen.f, .int .i64 h2.seen.v, .int .i64 h2.tr, .int .i64 h2.sp, .bool h2.ag, .int .i64 h2.re] from hR)
        | 5, _, _, hR => exact (show σ 5 = .bool h2.ok from hR)
        | 6, _, _, hR => exact (show σ 6 = .bool h2.ok from hR)
        | 7, hj, _, _ => exact absurd rfl hj
        | 8, _, _, hR => exact (BoxAt.sets_ne [.int .i64 q.1.rd, .int .i64 q.1.mo, .slice A5 n5 c5, .int .i64 q.1.fi, .int .i64 q.1.la] 0 hR (by omega))
        | 9, _, _, hR => exact (show σ 9 = .bool h2.ok from hR)
        | _ + 10, _, _, _ => exact trivial
      · -- 8: Op.store 41 t5 t175
        go_light
        intro L σ W' hcl hL hC hw hne
        have e1 : σ 1 = .agg #[.int .i64 h2.at_, .int .i64 h2.v, .int .i64 h2.r, .int .i64 h2.t, .bool h2.seen.s, .int .i64 h2.seen.n, .bool h2.seen.f, .int .i64 h2.seen.v, .int .i64 h2.tr, .int .i64 h2.sp, .bool h2.ag, .int .i64 h2.re] := hw 1 (by kernel_rfl)
        clear hw hne
        have HC := Lib.hid hC
        obtain ⟨hB, hx, hy, hG, hM, ⟨hz_x0, hz_x1, hz_x2, hz_x3, hz_x4, hz⟩, hz_o, ⟨hw__x0, hw__x1, hw__x2, hw__x3, hw__x4, hw__x5, hw__x6, hw__x7, hw__x8, hw__x9, hw__x10, hw__x11, hw_⟩, hw__o⟩ := hC
        clear hcl hL
        have kc_ := hw_.cell
        have kf_ := hw_.frozen
        clear hB hx hy hG hM hz hz_o hw_ hw__o
        refine OpGoes.step fun K hK => ?_
        unfold OpGoes
        go_simp
        obtain ⟨hB, hx, hy, hG, hM, ⟨hz_x0, hz_x1, hz_x2, hz_x3, hz_x4, hz⟩, hz_o, ⟨hw__x0, hw__x1, hw__x2, hw__x3, hw__x4, hw__x5, hw__x6, hw__x7, hw__x8, hw__x9, hw__x10, hw__x11, hw_⟩, hw__o⟩ := HC.out
        have hset := sets_all (us := [.int .i64 h2.at_, .int .i64 h2.v, .int .i64 h2.r, .int .i64 h2.t, .bool h2.seen.s, .int .i64 h2.seen.n, .bool h2.seen.f, .int .i64 h2.seen.v, .int .i64 h2.tr, .int .i64 h2.sp, .bool h2.ag, .int .i64 h2.re]) hw_ rfl
        refine hK undef (setCells W' (w.heap.size + 1 + 1 + 1) 0 [.int .i64 h2.at_, .int .i64 h2.v, .int .i64 h2.r, .int .i64 h2.t, .bool h2.seen.s, .int .i64 h2.seen.n, .bool h2.seen.f, .int .i64 h2.seen.v, .int .i64 h2.tr, .int .i64 h2.sp, .bool h2.ag, .int .i64 h2.re]) ⟨⟨(Below.setCells (by omega) [.int .i64 h2.at_, .int .i64 h2.v, .int .i64 h2.r, .int .i64 h2.t, .bool h2.seen.s, .int .i64 h2.seen.n, .bool h2.seen.f, .int .i64 h2.seen.v, .int .i64 h2.tr, .int .i64 h2.sp, .bool h2.ag, .int .i64 h2.re] 0 hB), (BoxAt.sets_ne [.int .i64 h2.at_, .int .i64 h2.v, .int .i64 h2.r, .int .i64 h2.t, .bool h2.seen.s, .int .i64 h2.seen.n, .bool h2.seen.f, .int .i64 h2.seen.v, .int .i64 h2.tr, .int .i64 h2.sp, .bool h2.ag, .int .i64 h2.re] 0 hx (by omega)), (BoxAt.sets_ne [.int .i64 h2.at_, .int .i64 h2.v, .int .i64 h2.r, .int .i64 h2.t, .bool h2.seen.s, .int .i64 h2.seen.n, .bool h2.seen.f, .int .i64 h2.seen.v, .int .i64 h2.tr, .int .i64 h2.sp, .bool h2.ag, .int .i64 h2.re] 0 hy (by omega)), (RgsW.sts hG (by omega) [.int .i64 h2.at_, .int .i64 h2.v, .int .i64 h2.r, .int .i64 h2.t, .bool h2.seen.s, .int .i64 h2.seen.n, .bool h2.seen.f, .int .i64 h2.seen.v, .int .i64 h2.tr, .int .i64 h2.sp, .bool h2.ag, .int .i64 h2.re] 0), (size_sts hM [.int .i64 h2.at_, .int .i64 h2.v, .int .i64 h2.r, .int .i64 h2.t, .bool h2.seen.s, .int .i64 h2.seen.n, .bool h2.seen.f, .int .i64 h2.seen.v, .int .i64 h2.tr, .int .i64 h2.sp, .bool h2.ag, .int .i64 h2.re] 0), ⟨_, _, _, _, _, (BoxAt.sets_ne [.int .i64 h2.at_, .int .i64 h2.v, .int .i64 h2.r, .int .i64 h2.t, .bool h2.seen.s, .int .i64 h2.seen.n, .bool h2.seen.f, .int .i64 h2.seen.v, .int .i64 h2.tr, .int .i64 h2.sp, .bool h2.ag, .int .i64 h2.re] 0 hz (by omega))⟩, fun h => (BoxAt.sets_ne [.int .i64 h2.at_, .int .i64 h2.v, .int .i64 h2.r, .int .i64 h2.t, .bool h2.seen.s, .int .i64 h2.seen.n, .bool h2.seen.f, .int .i64 h2.seen.v, .int .i64 h2.tr, .int .i64 h2.sp, .bool h2.ag, .int .i64 h2.re] 0 (hz_o (by simpa [upd] using h)) (by omega)), ⟨_, _, _, _, _, _, _, _, _, _, _, _, hset⟩, fun h => absurd h (by simp [upd])⟩, hset, Nat.le_of_eq (sets_size _ _ _).symm, fun j hj hn hR => ?_⟩
        match j, hj, hn, hR with
        | 0, _, _, hR => exact (show σ 0 = .agg #[.int .i64 q.1.rd, .int .i64 q.1.mo, .slice A5 n5 c5, .int .i64 q.1.fi, .int .i64 q.1.la] from hR)
        | 1, _, _, hR => exact (show σ 1 = .agg #[.int .i64 h2.at_, .int .i64 h2.v, .int .i64 h2.r, .int .i64 h2.t, .bool h2.seen.s, .int .i64 h2.seen.n, .bool h2.seen.f, .int .i64 h2.seen.v, .int .i64 h2.tr, .int .i64 h2.sp, .bool h2.ag, .int .i64 h2.re] from hR)
        | 2, _, _, hR => exact (show σ 2 = .bool true from hR)
        | 3, _, _, hR => exact (show σ 3 = .bool true from hR)
        | 4, _, _, hR => exact (show σ 4 = .agg #[.int .i64 h2.at_, .int .i64 h2.v, .int .i64 h2.r, .int .i64 h2.t, .bool h2.seen.s, .int .i64 h2.seen.n, .bool h2.seen.f, .int .i64 h2.seen.v, .int .i64 h2.tr, .int .i64 h2.sp, .bool h2.ag, .int .i64 h2.re] from hR)
        | 5, _, _, hR => exact (show σ 5 = .bool h2.ok from hR)
        | 6, _, _, hR => exact (show σ 6 = .bool h2.ok from hR)
        | 7, _, _, hR => exact (BoxAt.sets_ne [.int .i64 h2.at_, .int .i64 h2.v, .int .i64 h2.r, .int .i64 h2.t, .bool h2.seen.s, .int .i64 h2.seen.n, .bool h2.seen.f, .int .i64 h2.seen.v, .int .i64 h2.tr, .int .i64 h2.sp, .bool h2.ag, .int .i64 h2.re] 0 hR (by omega))
        | 8, hj, _, _ => exact absurd rfl hj
        | 9, _, _, hR => exact (show σ 9 = .bool h2.ok from hR)
        | _ + 10, _, _, _ => exact trivial
      · -- 9: Op.assign t180
        go_light
        intro L σ W' hcl hL hC hw
        have e6 : σ 6 = .bool h2.ok := hw 6 (by kernel_rfl)
        clear hw
        have HC := Lib.hid hC
        clear hC
        clear hcl hL
        refine OpGoes.step fun K hK => ?_
        unfold OpGoes
        go_simp
        obtain ⟨hB, hx, hy, hG, hM, ⟨hz_x0, hz_x1, hz_x2, hz_x3, hz_x4, hz⟩, hz_o, ⟨hw__x0, hw__x1, hw__x2, hw__x3, hw__x4, hw__x5, hw__x6, hw__x7, hw__x8, hw__x9, hw__x10, hw__x11, hw_⟩, hw__o⟩ := HC.out
        exact hK _ _ ⟨⟨hB, hx, hy, hG, hM, ⟨_, _, _, _, _, hz⟩, fun h => hz_o (by simpa [upd] using h), ⟨_, _, _, _, _, _, _, _, _, _, _, _, hw_⟩, fun h => hw__o (by simpa [upd] using h)⟩, rfl, Below.refl _ _⟩
      · intro σ L W' hall hC hR
        obtain ⟨hB, hx, hy, hG, hM, ⟨hz_x0, hz_x1, hz_x2, hz_x3, hz_x4, hz⟩, hz_o, ⟨hw__x0, hw__x1, hw__x2, hw__x3, hw__x4, hw__x5, hw__x6, hw__x7, hw__x8, hw__x9, hw__x10, hw__x11, hw_⟩, hw__o⟩ := hC
        have s7 : BoxAt W' (w.heap.size + 1 + 1) #[.int .i64 q.1.rd, .int .i64 q.1.mo, .slice A5 n5 c5, .int .i64 q.1.fi, .int .i64 q.1.la] 75 := hR 7 (by decide)
        have s8 : BoxAt W' (w.heap.size + 1 + 1 + 1) #[.int .i64 h2.at_, .int .i64 h2.v, .int .i64 h2.r, .int .i64 h2.t, .bool h2.seen.s, .int .i64 h2.seen.n, .bool h2.seen.f, .int .i64 h2.seen.v, .int .i64 h2.tr, .int .i64 h2.sp, .bool h2.ag, .int .i64 h2.re] 41 := hR 8 (by decide)
        have e9 : σ 9 = .bool h2.ok := hR 9 (by decide)
        clear hR
        simp only [lexAll]
        go_simp
        go_step
        have k7 := s7.cell
        have k8 := s8.cell
        go_wp2
        refine bodyPost_ret (v := .tuple #[stV q.1 A5 n5 c5, hdV h2, .bool (h2.ok)]) (by simp [results, Try.results92, go_sem, k7, k8, stV, hdV]) rfl ⟨A5, n5, c5, by rw [HV.out], ?_, hB⟩
        rw [HV.out]
        exact hG.cut.mono (by omega) (Nat.le_refl _)

def t17AR (s : St) (N M0 Z n cap : Nat) (A : Option Addr) (v r t : Int) (seen : Pl) (tr sp : Int) (ag : Bool) (re : Int) (q : St × Bool) (j : Nat) (σ : Nat → Value) (w : World) : Prop :=
  match j with
  | 0 => σ 0 = .agg #[.int .i64 s.rd, .int .i64 s.mo, .slice A n cap, .int .i64 s.fi, .int .i64 s.la]
  | 1 => σ 1 = .int .i64 r
  | 2 => σ 2 = .int .i64 t
  | 3 => σ 3 = .pointer (some ⟨N, 0, none⟩)
  | 4 => σ 4 = .int .i64 s.rd
  | 5 => σ 5 = .int .i64 (t % s.rd)
  | 6 => σ 6 = .pointer (some ⟨(N + 1), 4, none⟩)
  | 7 => σ 7 = .agg #[.bool seen.s, .int .i64 seen.n, .bool seen.f, .int .i64 seen.v]
  | 8 => σ 8 = .agg #[.bool false, .int .i64 seen.n, .bool seen.f, .int .i64 seen.v]
  | 9 => ∃ (A5 : Option Addr) (n5 c5 : Nat), σ 9 = .tuple #[.agg #[.int .i64 q.1.rd, .int .i64 q.1.mo, .slice A5 n5 c5, .int .i64 q.1.fi, .int .i64 q.1.la], .bool q.2] ∧ RgsW M0 w.heap.size w A5 n5 c5 q.1.rs
  | 10 => ∃ (A5 : Option Addr) (n5 c5 : Nat), σ 10 = .tuple #[.agg #[.int .i64 q.1.rd, .int .i64 q.1.mo, .slice A5 n5 c5, .int .i64 q.1.fi, .int .i64 q.1.la], .bool q.2] ∧ RgsW M0 w.heap.size w A5 n5 c5 q.1.rs
  | 11 => ∃ (A5 : Option Addr) (n5 c5 : Nat), σ 11 = .agg #[.int .i64 q.1.rd, .int .i64 q.1.mo, .slice A5 n5 c5, .int .i64 q.1.fi, .int .i64 q.1.la] ∧ RgsW M0 w.heap.size w A5 n5 c5 q.1.rs
  | 12 => σ 12 = .bool q.2
  | 13 => ∃ (A5 : Option Addr) (n5 c5 : Nat), BoxAt w N #[.int .i64 q.1.rd, .int .i64 q.1.mo, .slice A5 n5 c5, .int .i64 q.1.fi, .int .i64 q.1.la] 75 ∧ RgsW M0 w.heap.size w A5 n5 c5 q.1.rs
  | 14 => σ 14 = .bool q.2
  | _ => True

def t17AS (j : Nat) : List Nat := [[0], [1], [2], [3], [4], [5], [6], [7], [8], [9], [10], [11], [12], [13], [14]].getD j [j]
def t17AK (j : Nat) : Nat := [0, 0, 0, 0, 0, 0, 0, 0, 0, 0, 0, 0, 0, 1, 0].getD j 0

set_option maxRecDepth 100000 in
set_option maxHeartbeats 4000000 in
theorem l7Take_17 (s : St) (A : Option Addr) (n cap lo hi : Nat) (v r t : Int) (seen : Pl) (tr sp : Int) (ag : Bool) (re : Int) (w : World) (hs : RgsW lo hi w A n cap s.rs) (hh : hi ≤ w.heap.size) (hlo : lo ≤ w.heap.size) (hok : stOk s = true) (hrb : ringB s r = true) (ht : 0 ≤ t ∧ t ≤ 1000000) :
    Calls Try.prog 92 #[stV s A n cap, hdV ⟨17, v, r, t, seen, tr, sp, ag, re⟩] w (RetSHB lo (take17 s ⟨17, v, r, t, seen, tr, sp, ag, re⟩) w) := by
  have HOK := Lib.hid hok
  have HRB := Lib.hid hrb
  have HLN := Lib.hid hs.1
  have HNT := Lib.hid (stOk_neat hok)
  obtain ⟨z0, z1, z2⟩ := ringB_at HLN.out hrb
  clear hok hrb
  obtain ⟨t0, t1⟩ := ht
  have hrd := stOk_rd HOK.out
  have em0 : 0 ≤ t % s.rd := Int.emod_nonneg _ (by omega)
  have em1 : t % s.rd < s.rd := Int.emod_lt_of_pos _ (by omega)
  unfold stV hdV
  dsimp only
  go_enter Try.func92, Try.ntmps92
  go_upto_region 31 with fail
  refine wp_abs (fun W => Below w.heap.size w W ∧ BoxAt W w.heap.size #[.int .i64 s.rd, .int .i64 s.mo, .slice A n cap, .int .i64 s.fi, .int .i64 s.la] 75 ∧ BoxAt W (w.heap.size + 1) #[.int .i64 17, .int .i64 v, .int .i64 r, .int .i64 t, .bool seen.s, .int .i64 seen.n, .bool seen.f, .int .i64 seen.v, .int .i64 tr, .int .i64 sp, .bool ag, .int .i64 re] 41 ∧ BoxAt W (w.heap.size + 1 + 1) #[.int .i64 0, .int .i64 0, .slice none 0 0, .int .i64 0, .int .i64 0] 75 ∧ BoxAt W (w.heap.size + 1 + 1 + 1) #[.int .i64 0, .int .i64 0, .int .i64 0, .int .i64 0, .bool false, .int .i64 0, .bool false, .int .i64 0, .int .i64 0, .int .i64 0, .bool false, .int .i64 0] 41) ⟨(((((Below.refl _ _).alloc (Nat.le_refl _) _).alloc (by simp) _).alloc (by simp; omega) _).alloc (by simp; omega) _), (((BoxAt.new _ _ _).alloc _).alloc _).alloc _, ((BoxAt.new' (by simp)).alloc _).alloc _, (BoxAt.new' (by simp)).alloc _, BoxAt.new' (by simp)⟩ ?_
  rintro W0 ⟨hB, hx, hy, hz, hw_⟩
  have lw0 := hw_.lt
  have hs0 := hs.below hB hh
  have kx := hx.cell
  have ky := hy.cell
  have fy := hy.frozen
  go_upto_region 33 with fail
  refine wp_abs (fun W => Below w.heap.size w W ∧ BoxAt W w.heap.size #[.int .i64 s.rd, .int .i64 s.mo, .slice A n cap, .int .i64 s.fi, .int .i64 s.la] 75 ∧ BoxAt W (w.heap.size + 1) #[.int .i64 17, .int .i64 v, .int .i64 r, .int .i64 t, .bool seen.s, .int .i64 seen.n, .bool seen.f, .int .i64 seen.v, .int .i64 tr, .int .i64 sp, .bool ag, .int .i64 re] 41 ∧ BoxAt W (w.heap.size + 1 + 1) #[.int .i64 0, .int .i64 0, .slice none 0 0, .int .i64 0, .int .i64 0] 75 ∧ BoxAt W (w.heap.size + 1 + 1 + 1) #[.int .i64 0, .int .i64 0, .int .i64 0, .int .i64 0, .bool false, .int .i64 0, .bool false, .int .i64 0, .int .i64 0, .int .i64 0, .bool false, .int .i64 0] 41 ∧ BoxAt W W0.heap.size #[.bool false, .int .i64 seen.n, .bool seen.f, .int .i64 seen.v] 39) ?_ ?_
  · exact ⟨hB.alloc hB.size _, hx.alloc _, hy.alloc _, hz.alloc _, hw_.alloc _, BoxAt.new _ _ _⟩
  clear kx ky fy
  generalize W0.heap.size = Z at *
  clear hB hx hy hz hw_ hs0
  rintro W0 ⟨hB, hx, hy, hz, hw_, hZ⟩
  have lZ := hZ.lt
  have lw2 := hw_.lt
  obtain ⟨q, hq⟩ : ∃ q, swapPlace s r (t % s.rd) seen { seen with s := false } = q := ⟨_, rfl⟩
  have HCON := Lib.hid (show ∀ W : World, Below w.heap.size w W → Calls Try.prog 96 #[stV s A n cap, .int .i64 r, .int .i64 (t % s.rd), .agg #[.bool seen.s, .int .i64 seen.n, .bool seen.f, .int .i64 seen.v], .agg #[.bool false, .int .i64 seen.n, .bool seen.f, .int .i64 seen.v]] W (RetSB W.heap.size q W) from fun W hBW => by
    have := sswapPlace_any s A n cap lo hi r (t % s.rd) seen { seen with s := false } W (hs.below hBW hh) (Nat.le_trans hh hBW.size) (by have := HNT.out.2.1; have := HLN.out; omega) HNT.out.len
    rw [hq] at this
    exact this)
  unfold stV at HCON
  have HQ5 := Lib.hid (show spoil s ⟨17, v, r, t, seen, tr, sp, ag, re⟩ = q from hq); clear hq
  obtain ⟨M0, hMe⟩ : ∃ M0, M0 = W0.heap.size := ⟨_, rfl⟩
  have hM0 : M0 ≤ W0.heap.size := by omega
  have hM4 : w.heap.size + 4 ≤ M0 := by omega
  clear hMe
  go_cut [10] (fun u10 W' => Below w.heap.size w W' ∧ BoxAt W' (w.heap.size + 1) #[.int .i64 17, .int .i64 v, .int .i64 r, .int .i64 t, .bool seen.s, .int .i64 seen.n, .bool seen.f, .int .i64 seen.v, .int .i64 tr, .int .i64 sp, .bool ag, .int .i64 re] 41 ∧ BoxAt W' (w.heap.size + 1 + 1) #[.int .i64 0, .int .i64 0, .slice none 0 0, .int .i64 0, .int .i64 0] 75 ∧ BoxAt W' (w.heap.size + 1 + 1 + 1) #[.int .i64 0, .int .i64 0, .int .i64 0, .int .i64 0, .bool false, .int .i64 0, .bool false, .int .i64 0, .int .i64 0, .int .i64 0, .bool false, .int .i64 0] 41 ∧ ∃ (A5 : Option Addr) (n5 c5 : Nat), BoxAt W' w.heap.size #[.int .i64 q.1.rd, .int .i64 q.1.mo, .slice A5 n5 c5, .int .i64 q.1.fi, .int .i64 q.1.la] 75 ∧ RgsW M0 W'.heap.size W' A5 n5 c5 q.1.rs ∧ u10 = .bool q.2)
  case first =>
    refine wp_region2 (fun w w' => Below w.heap.size w w') (fun _ _ h => h.size) (fun L W' => Below w.heap.size w W' ∧ BoxAt W' (w.heap.size + 1) #[.int .i64 17, .int .i64 v, .int .i64 r, .int .i64 t, .bool seen.s, .int .i64 seen.n, .bool seen.f, .int .i64 seen.v, .int .i64 tr, .int .i64 sp, .bool ag, .int .i64 re] 41 ∧ BoxAt W' (w.heap.size + 1 + 1) #[.int .i64 0, .int .i64 0, .slice none 0 0, .int .i64 0, .int .i64 0] 75 ∧ BoxAt W' (w.heap.size + 1 + 1 + 1) #[.int .i64 0, .int .i64 0, .int .i64 0, .int .i64 0, .bool false, .int .i64 0, .bool false, .int .i64 0, .int .i64 0, .int .i64 0, .bool false, .int .i64 0] 41 ∧ M0 ≤ W'.heap.size ∧ BoxAt W' Z #[.bool false, .int .i64 seen.n, .bool seen.f, .int .i64 seen.v] 39 ∧ (∃ x0 x1 x2 x3 x4, BoxAt W' w.heap.size #[x0, x1, x2, x3, x4] 75) ∧ (L 13 = false → BoxAt W' w.heap.size #[.int .i64 s.rd, .int .i64 s.mo, .slice A n cap, .int .i64 s.fi, .int .i64 s.la] 75)) (t17AR s w.heap.size M0 Z n cap A v r t seen tr sp ag re q) t17AK t17AS (by kernel_rfl) (by kernel_rfl) ?_ ?_ ?_
      (.grow rfl ?_ <| .grow rfl ?_ <| .grow rfl ?_ <| .grow rfl ?_ <| .grow rfl ?_ <| .grow rfl ?_ <| .grow rfl ?_ <| .grow rfl ?_ <| .grow rfl ?_ <| .grow rfl ?_ <| .grow rfl ?_ <| .grow rfl ?_ <| .grow rfl ?_ <| .store rfl ?_ <| .grow rfl ?_ <| .nil) ?_
    · intro j σ τ w h hR
      match j, h, hR with
      | 0, h, hR => exact (h 0 (List.mem_singleton.2 rfl)).symm.trans hR
      | 1, h, hR => exact (h 1 (List.mem_singleton.2 rfl)).symm.trans hR
      | 2, h, hR => exact (h 2 (List.mem_singleton.2 rfl)).symm.trans hR
      | 3, h, hR => exact (h 3 (List.mem_singleton.2 rfl)).symm.trans hR
      | 4, h, hR => exact (h 4 (List.mem_singleton.2 rfl)).symm.trans hR
      | 5, h, hR => exact (h 5 (List.mem_singleton.2 rfl)).symm.trans hR
      | 6, h, hR => exact (h 6 (List.mem_singleton.2 rfl)).symm.trans hR
      | 7, h, hR => exact (h 7 (List.mem_singleton.2 rfl)).symm.trans hR
      | 8, h, hR => exact (h 8 (List.mem_singleton.2 rfl)).symm.trans hR
      | 9, h, hR => obtain ⟨A5, n5, c5, e, hp⟩ := hR; exact ⟨A5, n5, c5, (h 9 (List.mem_singleton.2 rfl)).symm.trans e, hp⟩
      | 10, h, hR => obtain ⟨A5, n5, c5, e, hp⟩ := hR; exact ⟨A5, n5, c5, (h 10 (List.mem_singleton.2 rfl)).symm.trans e, hp⟩
      | 11, h, hR => obtain ⟨A5, n5, c5, e, hp⟩ := hR; exact ⟨A5, n5, c5, (h 11 (List.mem_singleton.2 rfl)).symm.trans e, hp⟩
      | 12, h, hR => exact (h 12 (List.mem_singleton.2 rfl)).symm.trans hR
      | 13, _, hR => exact hR
      | 14, h, hR => exact (h 14 (List.mem_singleton.2 rfl)).symm.trans hR
      | _ + 15, _, _ => exact trivial
    · intro j σ w w' hb hR
      match j, hR with
      | 0, hR => exact hR
      | 1, hR => exact hR
      | 2, hR => exact hR
      | 3, hR => exact hR
      | 4, hR => exact hR
      | 5, hR => exact hR
      | 6, hR => exact hR
      | 7, hR => exact hR
      | 8, hR => exact hR
      | 9, hR => obtain ⟨A5, n5, c5, e, hp⟩ := hR; exact ⟨A5, n5, c5, e, (hp.below hb (Nat.le_refl _)).mono (Nat.le_refl _) hb.size⟩
      | 10, hR => obtain ⟨A5, n5, c5, e, hp⟩ := hR; exact ⟨A5, n5, c5, e, (hp.below hb (Nat.le_refl _)).mono (Nat.le_refl _) hb.size⟩
      | 11, hR => obtain ⟨A5, n5, c5, e, hp⟩ := hR; exact ⟨A5, n5, c5, e, (hp.below hb (Nat.le_refl _)).mono (Nat.le_refl _) hb.size⟩
      | 12, hR => exact hR
      | 13, hR => obtain ⟨A5, n5, c5, hx, hp⟩ := hR; exact ⟨A5, n5, c5, hx.below hb hx.lt, (hp.below hb (Nat.le_refl _)).mono (Nat.le_refl _) hb.size⟩
      | 14, hR => exact hR
      | _ + 15, _ => exact trivial
    · exact ⟨hB.drew, hy, hz, hw_, hM0, hZ, ⟨_, _, _, _, _, hx⟩, fun _ => hx⟩
    · -- 0: Op.load 75 t2
      go_light
      intro L σ W' hcl hL hC hw
      clear hw
      have HC := Lib.hid hC
      obtain ⟨hB, hy, hz, hw_, hM0, hZ, ⟨hx_x0, hx_x1, hx_x2, hx_x3, hx_x4, hx⟩, hx_o⟩ := hC
      have ks := (hx_o (hcl.not (j := 13) (k := 11) (by kernel_rfl) (hcl.not (j := 11) (k := 10) (by kernel_rfl) (hcl.not (j := 10) (k := 9) (by kernel_rfl) (hcl.not (j := 9) (k := 0) (by kernel_rfl) hL))))).cell
      clear hcl hL
      clear hB hy hz hw_ hM0 hZ hx hx_o
      refine OpGoes.step fun K hK => ?_
      unfold OpGoes
      go_simp
      obtain ⟨hB, hy, hz, hw_, hM0, hZ, ⟨hx_x0, hx_x1, hx_x2, hx_x3, hx_x4, hx⟩, hx_o⟩ := HC.out
      exact hK _ _ ⟨⟨hB, hy, hz, hw_, hM0, hZ, ⟨_, _, _, _, _, hx⟩, fun h => hx_o (by simpa [upd] using h)⟩, rfl, Below.refl _ _⟩
    · -- 1: Op.move t7
      go_light
      intro L σ W' hcl hL hC hw
      clear hw
      have HC := Lib.hid hC
      clear hC
      clear hcl hL
      refine OpGoes.step fun K hK => ?_
      unfold OpGoes
      go_simp
      obtain ⟨hB, hy, hz, hw_, hM0, hZ, ⟨hx_x0, hx_x1, hx_x2, hx_x3, hx_x4, hx⟩, hx_o⟩ := HC.out
      exact hK _ _ ⟨⟨hB, hy, hz, hw_, hM0, hZ, ⟨_, _, _, _, _, hx⟩, fun h => hx_o (by simpa [upd] using h)⟩, rfl, Below.refl _ _⟩
    · -- 2: Op.move t8
      go_light
      intro L σ W' hcl hL hC hw
      clear hw
      have HC := Lib.hid hC
      clear hC
      clear hcl hL
      refine OpGoes.step fun K hK => ?_
      unfold OpGoes
      go_simp
      obtain ⟨hB, hy, hz, hw_, hM0, hZ, ⟨hx_x0, hx_x1, hx_x2, hx_x3, hx_x4, hx⟩, hx_o⟩ := HC.out
      exact hK _ _ ⟨⟨hB, hy, hz, hw_, hM0, hZ, ⟨_, _, _, _, _, hx⟩, fun h => hx_o (by simpa [upd] using h)⟩, rfl, Below.refl _ _⟩
    · -- 3: Op.fieldAddr 75 t2 0
      go_light
      intro L σ W' hcl hL hC hw
      clear hw
      have HC := Lib.hid hC
      clear hC
      clear hcl hL
      refine OpGoes.step fun K hK => ?_
      unfold OpGoes
      go_simp
      obtain ⟨hB, hy, hz, hw_, hM0, hZ, ⟨hx_x0, hx_x1, hx_x2, hx_x3, hx_x4, hx⟩, hx_o⟩ := HC.out
      exact hK _ _ ⟨⟨hB, hy, hz, hw_, hM0, hZ, ⟨_, _, _, _, _, hx⟩, fun h => hx_o (by simpa [upd] using h)⟩, rfl, Below.refl _ _⟩
    · -- 4: Op.load 2 t119
      go_light
      intro L σ W' hcl hL hC hw
      have e3 : σ 3 = .pointer (some ⟨w.heap.size, 0, none⟩) := hw 3 (by kernel_rfl)
      clear hw
      have HC := Lib.hid hC
      obtain ⟨hB, hy, hz, hw_, hM0, hZ, ⟨hx_x0, hx_x1, hx_x2, hx_x3, hx_x4, hx⟩, hx_o⟩ := hC
      have ks := (hx_o (hcl.not (j := 13) (k := 11) (by kernel_rfl) (hcl.not (j := 11) (k := 10) (by kernel_rfl) (hcl.not (j := 10) (k := 9) (by kernel_rfl) (hcl.not (j := 9) (k := 5) (by kernel_rfl) (hcl.not (j := 5) (k := 4) (by kernel_rfl) hL)))))).cell
      clear hcl hL
      clear hB hy hz hw_ hM0 hZ hx hx_o
      refine OpGoes.step fun K hK => ?_
      unfold OpGoes
      go_simp
      obtain ⟨hB, hy, hz, hw_, hM0, hZ, ⟨hx_x0, hx_x1, hx_x2, hx_x3, hx_x4, hx⟩, hx_o⟩ := HC.out
      exact hK _ _ ⟨⟨hB, hy, hz, hw_, hM0, hZ, ⟨_, _, _, _, _, hx⟩, fun h => hx_o (by simpa [upd] using h)⟩, rfl, Below.refl _ _⟩
    · -- 5: Op.binOp BinOp.rem 2 t118 t120 2
      go_light
      intro L σ W' hcl hL hC hw
      have e2 : σ 2 = .int .i64 t := hw 2 (by kernel_rfl)
      have e4 : σ 4 = .int .i64 s.rd := hw 4 (by kernel_rfl)
      clear hw
      have HC := Lib.hid hC
      obtain ⟨hB, hy, hz, hw_, hM0, hZ, ⟨hx_x0, hx_x1, hx_x2, hx_x3, hx_x4, hx⟩, hx_o⟩ := hC
      have nz_ : ¬ s.rd = 0 := by omega
      have rm_ : t.tmod s.rd = t % s.rd := Int.tmod_eq_emod_of_nonneg t0
      have wr_ : IntKind.i64.wrap (t % s.rd) = t % s.rd := by rw [IntKind.wrap_i64]; omega
      clear hcl hL
      clear hB hy hz hw_ hM0 hZ hx hx_o
      refine OpGoes.step fun K hK => ?_
      unfold OpGoes
      go_simp
      obtain ⟨hB, hy, hz, hw_, hM0, hZ, ⟨hx_x0, hx_x1, hx_x2, hx_x3, hx_x4, hx⟩, hx_o⟩ := HC.out
      exact hK _ _ ⟨⟨hB, hy, hz, hw_, hM0, hZ, ⟨_, _, _, _, _, hx⟩, fun h => hx_o (by simpa [upd] using h)⟩, rfl, Below.refl _ _⟩
    · -- 6: Op.fieldAddr 41 t3 4
      go_light
      intro L σ W' hcl hL hC hw
      clear hw
      have HC := Lib.hid hC
      clear hC
      clear hcl hL
      refine OpGoes.step fun K hK => ?_
      unfold OpGoes
      go_simp
      obtain ⟨hB, hy, hz, hw_, hM0, hZ, ⟨hx_x0, hx_x1, hx_x2, hx_x3, hx_x4, hx⟩, hx_o⟩ := HC.out
      exact hK _ _ ⟨⟨hB, hy, hz, hw_, hM0, hZ, ⟨_, _, _, _, _, hx⟩, fun h => hx_o (by simpa [upd] using h)⟩, rfl, Below.refl _ _⟩
    · -- 7: Op.load 39 t122
      go_light
      intro L σ W' hcl hL hC hw
      have e6 : σ 6 = .pointer (some ⟨(w.heap.size + 1), 4, none⟩) := hw 6 (by kernel_rfl)
      clear hw
      have HC := Lib.hid hC
      obtain ⟨hB, hy, hz, hw_, hM0, hZ, ⟨hx_x0, hx_x1, hx_x2, hx_x3, hx_x4, hx⟩, hx_o⟩ := hC
      have kh := hy.cell
      clear hcl hL
      clear hB hy hz hw_ hM0 hZ hx hx_o
      refine OpGoes.step fun K hK => ?_
      unfold OpGoes
      go_simp
      obtain ⟨hB, hy, hz, hw_, hM0, hZ, ⟨hx_x0, hx_x1, hx_x2, hx_x3, hx_x4, hx⟩, hx_o⟩ := HC.out
      exact hK _ _ ⟨⟨hB, hy, hz, hw_, hM0, hZ, ⟨_, _, _, _, _, hx⟩, fun h => hx_o (by simpa [upd] using h)⟩, rfl, Below.refl _ _⟩
    · -- 8: Op.load 39 t12
      go_light
      intro L σ W' hcl hL hC hw
      clear hw
      have HC := Lib.hid hC
      obtain ⟨hB, hy, hz, hw_, hM0, hZ, ⟨hx_x0, hx_x1, hx_x2, hx_x3, hx_x4, hx⟩, hx_o⟩ := hC
      have kZ := hZ.cell
      clear hcl hL
      clear hB hy hz hw_ hM0 hZ hx hx_o
      refine OpGoes.step fun K hK => ?_
      unfold OpGoes
      go_simp
      obtain ⟨hB, hy, hz, hw_, hM0, hZ, ⟨hx_x0, hx_x1, hx_x2, hx_x3, hx_x4, hx⟩, hx_o⟩ := HC.out
      exact hK _ _ ⟨⟨hB, hy, hz, hw_, hM0, hZ, ⟨_, _, _, _, _, hx⟩, fun h => hx_o (by simpa [upd] using h)⟩, rfl, Below.refl _ _⟩
    · -- 9: Op.call { value (Operand.func 96), args := #[t116, t117, t121, t123, t124], argTypes := #[75, 2, 2, 39, 39] }
      go_light
      intro L σ W' hcl hL hC hw
      have e0 : σ 0 = .agg #[.int .i64 s.rd, .int .i64 s.mo, .slice A n cap, .int .i64 s.fi, .int .i64 s.la] := hw 0 (by kernel_rfl)
      have e1 : σ 1 = .int .i64 r := hw 1 (by kernel_rfl)
      have e5 : σ 5 = .int .i64 (t % s.rd) := hw 5 (by kernel_rfl)
      have e7 : σ 7 = .agg #[.bool seen.s, .int .i64 seen.n, .bool seen.f, .int .i64 seen.v] := hw 7 (by kernel_rfl)
      have e8 : σ 8 = .agg #[.bool false, .int .i64 seen.n, .bool seen.f, .int .i64 seen.v] := hw 8 (by kernel_rfl)
      clear hw
      have HC := Lib.hid hC
      clear hC
      clear hcl hL
      refine OpGoes.step fun K hK => ?_
      unfold OpGoes
      go_simp
      obtain ⟨hB, hy, hz, hw_, hM0, hZ, ⟨hx_x0, hx_x1, hx_x2, hx_x3, hx_x4, hx⟩, hx_o⟩ := HC.out
      refine (HCON.out _ hB).mono ?_
      rintro e w1 ⟨A5, n5, c5, rfl, hG5, hb1⟩
      exact ⟨_, rfl, hK _ _ ⟨⟨bstep hB hB.size hb1, hy.below hb1 hy.lt, hz.below hb1 hz.lt, hw_.below hb1 hw_.lt, Nat.le_trans hM0 hb1.size, hZ.below hb1 hZ.lt, ⟨_, _, _, _, _, hx.below hb1 hx.lt⟩, fun h => (hx_o (by simpa [upd] using h)).below hb1 (hx_o (by simpa [upd] using h)).lt⟩, ⟨A5, n5, c5, rfl, hG5.mono hM0 (Nat.le_refl _)⟩, hb1⟩⟩
    · -- 10: Op.move t125
      go_light
      intro L σ W' hcl hL hC hw
      obtain ⟨A5, n5, c5, e9, hp9⟩ : ∃ (A5 : Option Addr) (n5 c5 : Nat), σ 9 = .tuple #[.agg #[.int .i64 q.1.rd, .int .i64 q.1.mo, .slice A5 n5 c5, .int .i64 q.1.fi, .int .i64 q.1.la], .bool q.2] ∧ RgsW M0 W'.heap.size W' A5 n5 c5 q.1.rs := hw 9 (by kernel_rfl)
      clear hw
      have HC := Lib.hid hC
      clear hC
      clear hcl hL
      refine OpGoes.step fun K hK => ?_
      unfold OpGoes
      go_simp
      obtain ⟨hB, hy, hz, hw_, hM0, hZ, ⟨hx_x0, hx_x1, hx_x2, hx_x3, hx_x4, hx⟩, hx_o⟩ := HC.out
      exact hK _ _ ⟨⟨hB, hy, hz, hw_, hM0, hZ, ⟨_, _, _, _, _, hx⟩, fun h => hx_o (by simpa [upd] using h)⟩, ⟨A5, n5, c5, rfl, hp9⟩, Below.refl _ _⟩
    · -- 11: Op.extract t115 0
      go_light
      intro L σ W' hcl hL hC hw
      obtain ⟨A5, n5, c5, e10, hp10⟩ : ∃ (A5 : Option Addr) (n5 c5 : Nat), σ 10 = .tuple #[.agg #[.int .i64 q.1.rd, .int .i64 q.1.mo, .slice A5 n5 c5, .int .i64 q.1.fi, .int .i64 q.1.la], .bool q.2] ∧ RgsW M0 W'.heap.size W' A5 n5 c5 q.1.rs := hw 10 (by kernel_rfl)
      clear hw
      have HC := Lib.hid hC
      clear hC
      clear hcl hL
      refine OpGoes.step fun K hK => ?_
      unfold OpGoes
      go_simp
      obtain ⟨hB, hy, hz, hw_, hM0, hZ, ⟨hx_x0, hx_x1, hx_x2, hx_x3, hx_x4, hx⟩, hx_o⟩ := HC.out
      exact hK _ _ ⟨⟨hB, hy, hz, hw_, hM0, hZ, ⟨_, _, _, _, _, hx⟩, fun h => hx_o (by simpa [upd] using h)⟩, ⟨A5, n5, c5, rfl, hp10⟩, Below.refl _ _⟩
    · -- 12: Op.extract t115 1
      go_light
      intro L σ W' hcl hL hC hw
      obtain ⟨A5, n5, c5, e10, hp10⟩ : ∃ (A5 : Option Addr) (n5 c5 : Nat), σ 10 = .tuple #[.agg #[.int .i64 q.1.rd, .int .i64 q.1.mo, .slice A5 n5 c5, .int .i64 q.1.fi, .int .i64 q.1.la], .bool q.2] ∧ RgsW M0 W'.heap.size W' A5 n5 c5 q.1.rs := hw 10 (by kernel_rfl)
      clear hw
      have HC := Lib.hid hC
      clear hC
      clear hcl hL
      refine OpGoes.step fun K hK => ?_
      unfold OpGoes
      go_simp
      obtain ⟨hB, hy, hz, hw_, hM0, hZ, ⟨hx_x0, hx_x1, hx_x2, hx_x3, hx_x4, hx⟩, hx_o⟩ := HC.out
      exact hK _ _ ⟨⟨hB, hy, hz, hw_, hM0, hZ, ⟨_, _, _, _, _, hx⟩, fun h => hx_o (by simpa [upd] using h)⟩, rfl, Below.refl _ _⟩
    · -- 13: Op.store 75 t2 t126
      go_light
      intro L σ W' hcl hL hC hw hne
      obtain ⟨A5, n5, c5, e11, hp11⟩ : ∃ (A5 : Option Addr) (n5 c5 : Nat), σ 11 = .agg #[.int .i64 q.1.rd, .int .i64 q.1.mo, .slice A5 n5 c5, .int .i64 q.1.fi, .int .i64 q.1.la] ∧ RgsW M0 W'.heap.size W' A5 n5 c5 q.1.rs := hw 11 (by kernel_rfl)
      clear hw hne
      have HC := Lib.hid hC
      obtain ⟨hB, hy, hz, hw_, hM0, hZ, ⟨hx_x0, hx_x1, hx_x2, hx_x3, hx_x4, hx⟩, hx_o⟩ := hC
      clear hcl hL
      have kc_ := hx.cell
      have kf_ := hx.frozen
      clear hB hy hz hw_ hM0 hZ hx hx_o
      refine OpGoes.step fun K hK => ?_
      unfold OpGoes
      go_simp
      obtain ⟨hB, hy, hz, hw_, hM0, hZ, ⟨hx_x0, hx_x1, hx_x2, hx_x3, hx_x4, hx⟩, hx_o⟩ := HC.out
      have hset := sets_all (us := [.int .i64 q.1.rd, .int .i64 q.1.mo, .slice A5 n5 c5, .int .i64 q.1.fi, .int .i64 q.1.la]) hx rfl
      refine hK undef (setCells W' w.heap.size 0 [.int .i64 q.1.rd, .int .i64 q.1.mo, .slice A5 n5 c5, .int .i64 q.1.fi, .int .i64 q.1.la]) ⟨⟨(Below.setCells (by omega) [.int .i64 q.1.rd, .int .i64 q.1.mo, .slice A5 n5 c5, .int .i64 q.1.fi, .int .i64 q.1.la] 0 hB), (BoxAt.sets_ne [.int .i64 q.1.rd, .int .i64 q.1.mo, .slice A5 n5 c5, .int .i64 q.1.fi, .int .i64 q.1.la] 0 hy (by omega)), (BoxAt.sets_ne [.int .i64 q.1.rd, .int .i64 q.1.mo, .slice A5 n5 c5, .int .i64 q.1.fi, .int .i64 q.1.la] 0 hz (by omega)), (BoxAt.sets_ne [.int .i64 q.1.rd, .int .i64 q.1.mo, .slice A5 n5 c5, .int .i64 q.1.fi, .int .i64 q.1.la] 0 hw_ (by omega)), (size_sts hM0 [.int .i64 q.1.rd, .int .i64 q.1.mo, .slice A5 n5 c5, .int .i64 q.1.fi, .int .i64 q.1.la] 0), (BoxAt.sets_ne [.int .i64 q.1.rd, .int .i64 q.1.mo, .slice A5 n5 c5, .int .i64 q.1.fi, .int .i64 q.1.la] 0 hZ (by omega)), ⟨_, _, _, _, _, hset⟩, fun h => absurd h (by simp [upd])⟩, ⟨A5, n5, c5, hset, ((RgsW.setsT hp11 hx (by decide) (by decide) [.int .i64 q.1.rd, .int .i64 q.1.mo, .slice A5 n5 c5, .int .i64 q.1.fi, .int .i64 q.1.la] 0).mono (Nat.le_refl _) (Nat.le_of_eq (sets_size _ _ _).symm))⟩, Nat.le_of_eq (sets_size _ _ _).symm, fun j hj hn hR => ?_⟩
      match j, hj, hn, hR with
      | 0, _, _, hR => exact (show σ 0 = .agg #[.int .i64 s.rd, .int .i64 s.mo, .slice A n cap, .int .i64 s.fi, .int .i64 s.la] from hR)
      | 1, _, _, hR => exact (show σ 1 = .int .i64 r from hR)
      | 2, _, _, hR => exact (show σ 2 = .int .i64 t from hR)
      | 3, _, _, hR => exact (show σ 3 = .pointer (some ⟨w.heap.size, 0, none⟩) from hR)
      | 4, _, _, hR => exact (show σ 4 = .int .i64 s.rd from hR)
      | 5, _, _, hR => exact (show σ 5 = .int .i64 (t % s.rd) from hR)
      | 6, _, _, hR => exact (show σ 6 = .pointer (some ⟨(w.heap.size + 1), 4, none⟩) from hR)
      | 7, _, _, hR => exact (show σ 7 = .agg #[.bool seen.s, .int .i64 seen.n, .bool seen.f, .int .i64 seen.v] from hR)
      | 8, _, _, hR => exact (show σ 8 = .agg #[.bool false, .int .i64 seen.n, .bool seen.f, .int .i64 seen.v] from hR)
      | 9, _, _, hR => obtain ⟨A5_x, n5_x, c5_x, e, hp⟩ := hR; exact ⟨A5_x, n5_x, c5_x, e, ((RgsW.setsT hp hx (by decide) (by decide) [.int .i64 q.1.rd, .int .i64 q.1.mo, .slice A5 n5 c5, .int .i64 q.1.fi, .int .i64 q.1.la] 0).mono (Nat.le_refl _) (Nat.le_of_eq (sets_size _ _ _).symm))⟩
      | 10, _, _, hR => obtain ⟨A5_x, n5_x, c5_x, e, hp⟩ := hR; exact ⟨A5_x, n5_x, c5_x, e, ((RgsW.setsT hp hx (by decide) (by decide) [.int .i64 q.1.rd, .int .i64 q.1.mo, .slice A5 n5 c5, .int .i64 q.1.fi, .int .i64 q.1.la] 0).mono (Nat.le_refl _) (Nat.le_of_eq (sets_size _ _ _).symm))⟩
      | 11, _, _, hR => obtain ⟨A5_x, n5_x, c5_x, e, hp⟩ := hR; exact ⟨A5_x, n5_x, c5_x, e, ((RgsW.setsT hp hx (by decide) (by decide) [.int .i64 q.1.rd, .int .i64 q.1.mo, .slice A5 n5 c5, .int .i64 q.1.fi, .int .i64 q.1.la] 0).mono (Nat.le_refl _) (Nat.le_of_eq (sets_size _ _ _).symm))⟩
      | 12, _, _, hR => exact (show σ 12 = .bool q.2 from hR)
      | 13, hj, _, _ => exact absurd rfl hj
      | 14, _, _, hR => exact (show σ 14 = .bool q.2 from hR)
      | _ + 15, _, _, _ => exact trivial
    · -- 14: Op.assign t127
      go_light
      intro L σ W' hcl hL hC hw
      have e12 : σ 12 = .bool q.2 := hw 12 (by kernel_rfl)
      clear hw
      have HC := Lib.hid hC
      clear hC
      clear hcl hL
      refine OpGoes.step fun K hK => ?_
      unfold OpGoes
      go_simp
      obtain ⟨hB, hy, hz, hw_, hM0, hZ, ⟨hx_x0, hx_x1, hx_x2, hx_x3, hx_x4, hx⟩, hx_o⟩ := HC.out
      exact hK _ _ ⟨⟨hB, hy, hz, hw_, hM0, hZ, ⟨_, _, _, _, _, hx⟩, fun h => hx_o (by simpa [upd] using h)⟩, rfl, Below.refl _ _⟩
    · intro σ L W' hall hC hR
      obtain ⟨hB, hy, hz, hw_, hM0, hZ, ⟨hx_x0, hx_x1, hx_x2, hx_x3, hx_x4, hx⟩, hx_o⟩ := hC
      obtain ⟨A5, n5, c5, s13, hp13⟩ : ∃ (A5 : Option Addr) (n5 c5 : Nat), BoxAt W' w.heap.size #[.int .i64 q.1.rd, .int .i64 q.1.mo, .slice A5 n5 c5, .int .i64 q.1.fi, .int .i64 q.1.la] 75 ∧ RgsW M0 W'.heap.size W' A5 n5 c5 q.1.rs := hR 13 (by decide)
      have e14 : σ 14 = .bool q.2 := hR 14 (by decide)
      clear hR
      simp only [lexAll]
      go_simp
      go_step
      go_meet
      exact ⟨hB, hy, hz, hw_, A5, n5, c5, s13, hp13, rfl⟩
  case rest =>
    clear hB hx hy hz hw_ hZ
    obtain ⟨hB, hy, hz, hw_, A5, n5, c5, hx, hG, rfl⟩ := hcut
    have lw1 := hw_.lt
    have ky := hy.cell
    have fy := hy.frozen
    cases hq2 : q.2
    · have HQ2 := Lib.hid hq2; clear hq2
      go_wp2_with fail
      refine (l7Then_any _ _ _ _).mono ?_
      rintro e w' ⟨rfl, rfl⟩
      dsimp only
      go_upto_region 43 with fail
      have HV := Lib.hid (show take17 s ⟨17, v, r, t, seen, tr, sp, ag, re⟩ = (q.1, (⟨15, v, r, t, seen, tr, sp, ag, re⟩ : Hd), ((⟨15, v, r, t, seen, tr, sp, ag, re⟩ : Hd)).ok) by simp only [take17, HQ5.out, HQ2.out]; rfl)
      refine wp_abs (fun W' => Below w.heap.size w W' ∧ BoxAt W' w.heap.size #[.int .i64 (q.1).rd, .int .i64 (q.1).mo, .slice A5 n5 c5, .int .i64 (q.1).fi, .int .i64 (q.1).la] 75 ∧ BoxAt W' (w.heap.size + 1) #[.int .i64 ((⟨15, v, r, t, seen, tr, sp, ag, re⟩ : Hd)).at_, .int .i64 ((⟨15, v, r, t, seen, tr, sp, ag, re⟩ : Hd)).v, .int .i64 ((⟨15, v, r, t, seen, tr, sp, ag, re⟩ : Hd)).r, .int .i64 ((⟨15, v, r, t, seen, tr, sp, ag, re⟩ : Hd)).t, .bool ((⟨15, v, r, t, seen, tr, sp, ag, re⟩ : Hd)).seen.s, .int .i64 ((⟨15, v, r, t, seen, tr, sp, ag, re⟩ : Hd)).seen.n, .bool ((⟨15, v, r, t, seen, tr, sp, ag, re⟩ : Hd)).seen.f, .int .i64 ((⟨15, v, r, t, seen, tr, sp, ag, re⟩ : Hd)).seen.v, .int .i64 ((⟨15, v, r, t, seen, tr, sp, ag, re⟩ : Hd)).tr, .int .i64 ((⟨15, v, r, t, seen, tr, sp, ag, re⟩ : Hd)).sp, .bool ((⟨15, v, r, t, seen, tr, sp, ag, re⟩ : Hd)).ag, .int .i64 ((⟨15, v, r, t, seen, tr, sp, ag, re⟩ : Hd)).re] 41 ∧ BoxAt W' (w.heap.size + 1 + 1) #[.int .i64 0, .int .i64 0, .slice none 0 0, .int .i64 0, .int .i64 0] 75 ∧ BoxAt W' (w.heap.size + 1 + 1 + 1) #[.int .i64 0, .int .i64 0, .int .i64 0, .int .i64 0, .bool false, .int .i64 0, .bool false, .int .i64 0, .int .i64 0, .int .i64 0, .bool false, .int .i64 0] 41 ∧ RgsW M0 wc.heap.size W' A5 n5 c5 (q.1).rs ∧ wc.heap.size ≤ W'.heap.size) ⟨hB.setCell (by dsimp only; omega) _, hx.set_ne (by omega) _ _, by simpa using hy.set 0 (.int .i64 15), hz.set_ne (by omega) _ _, hw_.set_ne (by omega) _ _, hG.st (.inl (by omega)) _ _, by simp⟩ ?_
      clear ky fy hB hx hy hz hw_ hG
      generalize hq2 : (⟨15, v, r, t, seen, tr, sp, ag, re⟩ : Hd) = h2 at *
      clear hq2
      rintro W ⟨hB, hx, hy, hz, hw_, hG, hhi⟩
      have lw := hw_.lt
      obtain ⟨M, hMe⟩ : ∃ M, M = W.heap.size := ⟨_, rfl⟩
      have hM : M ≤ W.heap.size := by omega
      have hM2 : W.heap.size ≤ M := by omega
      have hhi2 : wc.heap.size ≤ M := by omega
      clear hMe hM2
      refine wp_region2 (fun w w' => Below w.heap.size w w') (fun _ _ h => h.size) (fun L W' => Below w.heap.size w W' ∧ BoxAt W' w.heap.size #[.int .i64 q.1.rd, .int .i64 q.1.mo, .slice A5 n5 c5, .int .i64 q.1.fi, .int .i64 q.1.la] 75 ∧ BoxAt W' (w.heap.size + 1) #[.int .i64 h2.at_, .int .i64 h2.v, .int .i64 h2.r, .int .i64 h2.t, .bool h2.seen.s, .int .i64 h2.seen.n, .bool h2.seen.f, .int .i64 h2.seen.v, .int .i64 h2.tr, .int .i64 h2.sp, .bool h2.ag, .int .i64 h2.re] 41 ∧ RgsW M0 wc.heap.size W' A5 n5 c5 q.1.rs ∧ M ≤ W'.heap.size ∧ (∃ x0 x1 x2 x3 x4, BoxAt W' (w.heap.size + 1 + 1) #[x0, x1, x2, x3, x4] 75) ∧ (L 7 = false → BoxAt W' (w.heap.size + 1 + 1) #[.int .i64 0, .int .i64 0, .slice none 0 0, .int .i64 0, .int .i64 0] 75) ∧ (∃ x0 x1 x2 x3 x4 x5 x6 x7 x8 x9 x10 x11, BoxAt W' (w.heap.size + 1 + 1 + 1) #[x0, x1, x2, x3, x4, x5, x6, x7, x8, x9, x10, x11] 41) ∧ (L 8 = false → BoxAt W' (w.heap.size + 1 + 1 + 1) #[.int .i64 0, .int .i64 0, .int .i64 0, .int .i64 0, .bool false, .int .i64 0, .bool false, .int .i64 0, .int .i64 0, .int .i64 0, .bool false, .int .i64 0] 41)) (p6TR q.1 w.heap.size n5 c5 A5 h2) p6TK p6TS (by kernel_rfl) (by kernel_rfl) ?_ ?_ ?_
        (.grow rfl ?_ <| .grow rfl ?_ <| .grow rfl ?_ <| .grow rfl ?_ <| .grow rfl ?_ <| .grow rfl ?_ <| .grow rfl ?_ <| .store rfl ?_ <| .store rfl ?_ <| .grow rfl ?_ <| .nil) ?_
      · intro j σ τ w h hR
        match j, h, hR with
        | 0, h, hR => exact (h 0 (List.mem_singleton.2 rfl)).symm.trans hR
        | 1, h, hR => exact (h 1 (List.mem_singleton.2 rfl)).symm.trans hR
        | 2, h, hR => exact (h 2 (List.mem_singleton.2 rfl)).symm.trans hR
        | 3, h, hR => exact (h 3 (List.mem_singleton.2 rfl)).symm.trans hR
        | 4, h, hR => exact (h 4 (List.mem_singleton.2 rfl)).symm.trans hR
        | 5, h, hR => exact (h 5 (List.mem_singleton.2 rfl)).symm.trans hR
        | 6, h, hR => exact (h 6 (List.mem_singleton.2 rfl)).symm.trans hR
        | 7, _, hR => exact hR
        | 8, _, hR => exact hR
        | 9, h, hR => exact (h 9 (List.mem_singleton.2 rfl)).symm.trans hR
        | _ + 10, _, _ => exact trivial
      · intro j σ w w' hb hR
        match j, hR with
        | 0, hR => exact hR
        | 1, hR => exact hR
        | 2, hR => exact hR
        | 3, hR => exact hR
        | 4, hR => exact hR
        | 5, hR => exact hR
        | 6, hR => exact hR
        | 7, hR => exact hR.below hb hR.lt
        | 8, hR => exact hR.below hb hR.lt
        | 9, hR => exact hR
        | _ + 10, _ => exact trivial
      · exact ⟨hB.drew, hx, hy, hG, hM, ⟨_, _, _, _, _, hz⟩, fun _ => hz, ⟨_, _, _, _, _, _, _, _, _, _, _, _, hw_⟩, fun _ => hw_⟩
      · -- 0: Op.load 75 t2
        go_light
        intro L σ W' hcl hL hC hw
        clear hw
        have HC := Lib.hid hC
        obtain ⟨hB, hx, hy, hG, hM, ⟨hz_x0, hz_x1, hz_x2, hz_x3, hz_x4, hz⟩, hz_o, ⟨hw__x0, hw__x1, hw__x2, hw__x3, hw__x4, hw__x5, hw__x6, hw__x7, hw__x8, hw__x9, hw__x10, hw__x11, hw_⟩, hw__o⟩ := hC
        have ks := hx.cell
        clear hcl hL
        clear hB hx hy hG hM hz hz_o hw_ hw__o
        refine OpGoes.step fun K hK => ?_
        unfold OpGoes
        go_simp
        obtain ⟨hB, hx, hy, hG, hM, ⟨hz_x0, hz_x1, hz_x2, hz_x3, hz_x4, hz⟩, hz_o, ⟨hw__x0, hw__x1, hw__x2, hw__x3, hw__x4, hw__x5, hw__x6, hw__x7, hw__x8, hw__x9, hw__x10, hw__x11, hw_⟩, hw__o⟩ := HC.out
        exact hK _ _ ⟨⟨hB, hx, hy, hG, hM, ⟨_, _, _, _, _, hz⟩, fun h => hz_o (by simpa [upd] using h), ⟨_, _, _, _, _, _, _, _, _, _, _, _, hw_⟩, fun h => hw__o (by simpa [upd] using h)⟩, rfl, Below.refl _ _⟩
      · -- 1: Op.load 41 t3
        go_light
        intro L σ W' hcl hL hC hw
        clear hw
        have HC := Lib.hid hC
        obtain ⟨hB, hx, hy, hG, hM, ⟨hz_x0, hz_x1, hz_x2, hz_x3, hz_x4, hz⟩, hz_o, ⟨hw__x0, hw__x1, hw__x2, hw__x3, hw__x4, hw__x5, hw__x6, hw__x7, hw__x8, hw__x9, hw__x10, hw__x11, hw_⟩, hw__o⟩ := hC
        have kh := hy.cell
        clear hcl hL
        clear hB hx hy hG hM hz hz_o hw_ hw__o
        refine OpGoes.step fun K hK => ?_
        unfold OpGoes
        go_simp
        obtain ⟨hB, hx, hy, hG, hM, ⟨hz_x0, hz_x1, hz_x2, hz_x3, hz_x4, hz⟩, hz_o, ⟨hw__x0, hw__x1, hw__x2, hw__x3, hw__x4, hw__x5, hw__x6, hw__x7, hw__x8, hw__x9, hw__x10, hw__x11, hw_⟩, hw__o⟩ := HC.out
        exact hK _ _ ⟨⟨hB, hx, hy, hG, hM, ⟨_, _, _, _, _, hz⟩, fun h => hz_o (by simpa [upd] using h), ⟨_, _, _, _, _, _, _, _, _, _, _, _, hw_⟩, fun h => hw__o (by simpa [upd] using h)⟩, rfl, Below.refl _ _⟩
      · -- 2: Op.move t9
        go_light
        intro L σ W' hcl hL hC hw
        clear hw
        have HC := Lib.hid hC
        clear hC
        clear hcl hL
        refine OpGoes.step fun K hK => ?_
        unfold OpGoes
        go_simp
        obtain ⟨hB, hx, hy, hG, hM, ⟨hz_x0, hz_x1, hz_x2, hz_x3, hz_x4, hz⟩, hz_o, ⟨hw__x0, hw__x1, hw__x2, hw__x3, hw__x4, hw__x5, hw__x6, hw__x7, hw__x8, hw__x9, hw__x10, hw__x11, hw_⟩, hw__o⟩ := HC.out
        exact hK _ _ ⟨⟨hB, hx, hy, hG, hM, ⟨_, _, _, _, _, hz⟩, fun h => hz_o (by simpa [upd] using h), ⟨_, _, _, _, _, _, _, _, _, _, _, _, hw_⟩, fun h => hw__o (by simpa [upd] using h)⟩, rfl, Below.refl _ _⟩
      · -- 3: Op.move t176
        go_light
        intro L σ W' hcl hL hC hw
        have e2 : σ 2 = .bool true := hw 2 (by kernel_rfl)
        clear hw
        have HC := Lib.hid hC
        clear hC
        clear hcl hL
        refine OpGoes.step fun K hK => ?_
        unfold OpGoes
        go_simp
        obtain ⟨hB, hx, hy, hG, hM, ⟨hz_x0, hz_x1, hz_x2, hz_x3, hz_x4, hz⟩, hz_o, ⟨hw__x0, hw__x1, hw__x2, hw__x3, hw__x4, hw__x5, hw__x6, hw__x7, hw__x8, hw__x9, hw__x10, hw__x11, hw_⟩, hw__o⟩ := HC.out
        exact hK _ _ ⟨⟨hB, hx, hy, hG, hM, ⟨_, _, _, _, _, hz⟩, fun h => hz_o (by simpa [upd] using h), ⟨_, _, _, _, _, _, _, _, _, _, _, _, hw_⟩, fun h => hw__o (by simpa [upd] using h)⟩, rfl, Below.refl _ _⟩
      · -- 4: Op.load 41 t3   [guarded: some (3, true)]
        go_light
        intro L σ W' hcl hL hC hw
        have e3 : σ 3 = .bool true := hw 3 (by kernel_rfl)
        clear hw
        have HC := Lib.hid hC
        obtain ⟨hB, hx, hy, hG, hM, ⟨hz_x0, hz_x1, hz_x2, hz_x3, hz_x4, hz⟩, hz_o, ⟨hw__x0, hw__x1, hw__x2, hw__x3, hw__x4, hw__x5, hw__x6, hw__x7, hw__x8, hw__x9, hw__x10, hw__x11, hw_⟩, hw__o⟩ := hC
        have kh := hy.cell
        clear hcl hL
        clear hB hx hy hG hM hz hz_o hw_ hw__o
        refine OpGoes.step fun K hK => ?_
        unfold OpGoes
        go_simp
        obtain ⟨hB, hx, hy, hG, hM, ⟨hz_x0, hz_x1, hz_x2, hz_x3, hz_x4, hz⟩, hz_o, ⟨hw__x0, hw__x1, hw__x2, hw__x3, hw__x4, hw__x5, hw__x6, hw__x7, hw__x8, hw__x9, hw__x10, hw__x11, hw_⟩, hw__o⟩ := HC.out
        exact hK _ _ ⟨⟨hB, hx, hy, hG, hM, ⟨_, _, _, _, _, hz⟩, fun h => hz_o (by simpa [upd] using h), ⟨_, _, _, _, _, _, _, _, _, _, _, _, hw_⟩, fun h => hw__o (by simpa [upd] using h)⟩, rfl, Below.refl _ _⟩
      · -- 5: Op.call { value (Operand.func 25), args := #[t178], argTypes := #[41] }   [guarded: some (3, true)]
        go_light
        intro L σ W' hcl hL hC hw
        have e3 : σ 3 = .bool true := hw 3 (by kernel_rfl)
        have e4 : σ 4 = .agg #[.int .i64 h2.at_, .int .i64 h2.v, .int .i64 h2.r, .int .i64 h2.t, .bool h2.seen.s, .int .i64 h2.seen.n, .bool h2.seen.f, .int .i64 h2.seen.v, .int .i64 h2.tr, .int .i64 h2.sp, .bool h2.ag, .int .i64 h2.re] := hw 4 (by kernel_rfl)
        clear hw
        have HC := Lib.hid hC
        clear hC
        clear hcl hL
        refine OpGoes.step fun K hK => ?_
        unfold OpGoes
        go_simp
        obtain ⟨hB, hx, hy, hG, hM, ⟨hz_x0, hz_x1, hz_x2, hz_x3, hz_x4, hz⟩, hz_o, ⟨hw__x0, hw__x1, hw__x2, hw__x3, hw__x4, hw__x5, hw__x6, hw__x7, hw__x8, hw__x9, hw__x10, hw__x11, hw_⟩, hw__o⟩ := HC.out
        refine (shandOk_any h2 _).mono ?_
        rintro e w1 ⟨rfl, hb1⟩
        exact ⟨_, rfl, hK _ _ ⟨⟨bstep hB hB.size hb1, hx.below hb1 hx.lt, hy.below hb1 hy.lt, hG.below hb1 (Nat.le_trans hhi2 hM), Nat.le_trans hM hb1.size, ⟨_, _, _, _, _, hz.below hb1 hz.lt⟩, fun h => (hz_o (by simpa [upd] using h)).below hb1 (hz_o (by simpa [upd] using h)).lt, ⟨_, _, _, _, _, _, _, _, _, _, _, _, hw_.below hb1 hw_.lt⟩, fun h => (hw__o (by simpa [upd] using h)).below hb1 (hw__o (by simpa [upd] using h)).lt⟩, rfl, hb1⟩⟩
      · -- 6: Op.pick t177 t179 (const (Value.bool false))
        go_light
        intro L σ W' hcl hL hC hw
        have e3 : σ 3 = .bool true := hw 3 (by kernel_rfl)
        have e5 : σ 5 = .bool h2.ok := hw 5 (by kernel_rfl)
        clear hw
        have HC := Lib.hid hC
        clear hC
        clear hcl hL
        refine OpGoes.step fun K hK => ?_
        unfold OpGoes
        go_simp
        obtain ⟨hB, hx, hy, hG, hM, ⟨hz_x0, hz_x1, hz_x2, hz_x3, hz_x4, hz⟩, hz_o, ⟨hw__x0, hw__x1, hw__x2, hw__x3, hw__x4, hw__x5, hw__x6, hw__x7, hw__x8, hw__x9, hw__x10, hw__x11, hw_⟩, hw__o⟩ := HC.out
        exact hK _ _ ⟨⟨hB, hx, hy, hG, hM, ⟨_, _, _, _, _, hz⟩, fun h => hz_o (by simpa [upd] using h), ⟨_, _, _, _, _, _, _, _, _, _, _, _, hw_⟩, fun h => hw__o (by simpa [upd] using h)⟩, rfl, Below.refl _ _⟩
      · -- 7: Op.store 75 t4 t174
        go_light
        intro L σ W' hcl hL hC hw hne
        have e0 : σ 0 = .agg #[.int .i64 q.1.rd, .int .i64 q.1.mo, .slice A5 n5 c5, .int .i64 q.1.fi, .int .i64 q.1.la] := hw 0 (by kernel_rfl)
        clear hw hne
        have HC := Lib.hid hC
        obtain ⟨hB, hx, hy, hG, hM, ⟨hz_x0, hz_x1, hz_x2, hz_x3, hz_x4, hz⟩, hz_o, ⟨hw__x0, hw__x1, hw__x2, hw__x3, hw__x4, hw__x5, hw__x6, hw__x7, hw__x8, hw__x9, hw__x10, hw__x11, hw_⟩, hw__o⟩ := hC
        clear hcl hL
        have kc_ := hz.cell
        have kf_ := hz.frozen
        clear hB hx hy hG hM hz hz_o hw_ hw__o
        refine OpGoes.step fun K hK => ?_
        unfold OpGoes
        go_simp
        obtain ⟨hB, hx, hy, hG, hM, ⟨hz_x0, hz_x1, hz_x2, hz_x3, hz_x4, hz⟩, hz_o, ⟨hw__x0, hw__x1, hw__x2, hw__x3, hw__x4, hw__x5, hw__x6, hw__x7, hw__x8, hw__x9, hw__x10, hw__x11, hw_⟩, hw__o⟩ := HC.out
        have hset := sets_all (us := [.int .i64 q.1.rd, .int .i64 q.1.mo, .slice A5 n5 c5, .int .i64 q.1.fi, .int .i64 q.1.la]) hz rfl
        refine hK undef (setCells W' (w.heap.size + 1 + 1) 0 [.int .i64 q.1.rd, .int .i64 q.1.mo, .slice A5 n5 c5, .int .i64 q.1.fi, .int .i64 q.1.la]) ⟨⟨(Below.setCells (by omega) [.int .i64 q.1.rd, .int .i64 q.1.mo, .slice A5 n5 c5, .int .i64 q.1.fi, .int .i64 q.1.la] 0 hB), (BoxAt.sets_ne [.int .i64 q.1.rd, .int .i64 q.1.mo, .slice A5 n5 c5, .int .i64 q.1.fi, .int .i64 q.1.la] 0 hx (by omega)), (BoxAt.sets_ne [.int .i64 q.1.rd, .int .i64 q.1.mo, .slice A5 n5 c5, .int .i64 q.1.fi, .int .i64 q.1.la] 0 hy (by omega)), (RgsW.sts hG (by omega) [.int .i64 q.1.rd, .int .i64 q.1.mo, .slice A5 n5 c5, .int .i64 q.1.fi, .int .i64 q.1.la] 0), (size_sts hM [.int .i64 q.1.rd, .int .i64 q.1.mo, .slice A5 n5 c5, .int .i64 q.1.fi, .int .i64 q.1.la] 0), ⟨_, _, _, _, _, hset⟩, fun h => absurd h (by simp [upd]), ⟨_, _, _, _, _, _, _, _, _, _, _, _, (BoxAt.sets_ne [.int .i64 q.1.rd, .int .i64 q.1.mo, .slice A5 n5 c5, .int .i64 q.1.fi, .int .i64 q.1.la] 0 hw_ (by omega))⟩, fun h => (BoxAt.sets_ne [.int .i64 q.1.rd, .int .i64 q.1.mo, .slice A5 n5 c5, .int .i64 q.1.fi, .int .i64 q.1.la] 0 (hw__o (by simpa [upd] using h)) (by omega))⟩, hset, Nat.le_of_eq (sets_size _ _ _).symm, fun j hj hn hR => ?_⟩
        match j, hj, hn, hR with
        | 0, _, _, hR => exact (show σ 0 = .agg #[.int .i64 q.1.rd, .int .i64 q.1.mo, .slice A5 n5 c5, .int .i64 q.1.fi, .int .i64 q.1.la] from hR)
        | 1, _, _, hR => exact (show σ 1 = .agg #[.int .i64 h2.at_, .int .i64 h2.v, .int .i64 h2.r, .int .i64 h2.t, .bool h2.seen.s, .int .i64 h2.seen.n, .bool h2.seen.f, .int .i64 h2.seen.v, .int .i64 h2.tr, .int .i64 h2.sp, .bool h2.ag, .int .i64 h2.re] from hR)
        | 2, _, _, hR => exact (show σ 2 = .bool true from hR)
        | 3, _, _, hR => exact (show σ 3 = .bool true from hR)
        | 4, _, _, hR => exact (show σ 4 = .agg #[.int .i64 h2.at_, .int .i64 h2.v, .int .i64 h2.r, .int .i64 h2.t, .bool h2.seen.s, .int .i64 h2.seen.n, .bool h2.seen.f, .int .i64 h2.seen.v, .int .i64 h2.tr, .int .i64 h2.sp, .bool h2.ag, .int .i64 h2.re] from hR)
        | 5, _, _, hR => exact (show σ 5 = .bool h2.ok from hR)
        | 6, _, _, hR => exact (show σ 6 = .bool h2.ok from hR)
        | 7, hj, _, _ => exact absurd rfl hj
        | 8, _, _, hR => exact (BoxAt.sets_ne [.int .i64 q.1.rd, .int .i64 q.1.mo, .slice A5 n5 c5, .int .i64 q.1.fi, .int .i64 q.1.la] 0 hR (by omega))
        | 9, _, _, hR => exact (show σ 9 = .bool h2.ok from hR)
        | _ + 10, _, _, _ => exact trivial
      · -- 8: Op.store 41 t5 t175
        go_light
        intro L σ W' hcl hL hC hw hne
        have e1 : σ 1 = .agg #[.int .i64 h2.at_, .int .i64 h2.v, .int .i64 h2.r, .int .i64 h2.t, .bool h2.seen.s, .int .i64 h2.seen.n, .bool h2.seen.f, .int .i64 h2.seen.v, .int .i64 h2.tr, .int .i64 h2.sp, .bool h2.ag, .int .i64 h2.re] := hw 1 (by kernel_rfl)
        clear hw hne
        have HC := Lib.hid hC
        obtain ⟨hB, hx, hy, hG, hM, ⟨hz_x0, hz_x1, hz_x2, hz_x3, hz_x4, hz⟩, hz_o, ⟨hw__x0, hw__x1, hw__x2, hw__x3, hw__x4, hw__x5, hw__x6, hw__x7, hw__x8, hw__x9, hw__x10, hw__x11, hw_⟩, hw__o⟩ := hC
        clear hcl hL
        have kc_ := hw_.cell
        have kf_ := hw_.frozen
        clear hB hx hy hG hM hz hz_o hw_ hw__o
        refine OpGoes.step fun K hK => ?_
        unfold OpGoes
        go_simp
        obtain ⟨hB, hx, hy, hG, hM, ⟨hz_x0, hz_x1, hz_x2, hz_x3, hz_x4, hz⟩, hz_o, ⟨hw__x0, hw__x1, hw__x2, hw__x3, hw__x4, hw__x5, hw__x6, hw__x7, hw__x8, hw__x9, hw__x10, hw__x11, hw_⟩, hw__o⟩ := HC.out
        have hset := sets_all (us := [.int .i64 h2.at_, .int .i64 h2.v, .int .i64 h2.r, .int .i64 h2.t, .bool h2.seen.s, .int .i64 h2.seen.n, .bool h2.seen.f, .int .i64 h2.seen.v, .int .i64 h2.tr, .int .i64 h2.sp, .bool h2.ag, .int .i64 h2.re]) hw_ rfl
        refine hK undef (setCells W' (w.heap.size + 1 + 1 + 1) 0 [.int .i64 h2.at_, .int .i64 h2.v, .int .i64 h2.r, .int .i64 h2.t, .bool h2.seen.s, .int .i64 h2.seen.n, .bool h2.seen.f, .int .i64 h2.seen.v, .int .i64 h2.tr, .int .i64 h2.sp, .bool h2.ag, .int .i64 h2.re]) ⟨⟨(Below.setCells (by omega) [.int .i64 h2.at_, .int .i64 h2.v, .int .i64 h2.r, .int .i64 h2.t, .bool h2.seen.s, .int .i64 h2.seen.n, .bool h2.seen.f, .int .i64 h2.seen.v, .int .i64 h2.tr, .int .i64 h2.sp, .bool h2.ag, .int .i64 h2.re] 0 hB), (BoxAt.sets_ne [.int .i64 h2.at_, .int .i64 h2.v, .int .i64 h2.r, .int .i64 h2.t, .bool h2.seen.s, .int .i64 h2.seen.n, .bool h2.seen.f, .int .i64 h2.seen.v, .int .i64 h2.tr, .int .i64 h2.sp, .bool h2.ag, .int .i64 h2.re] 0 hx (by omega)), (BoxAt.sets_ne [.int .i64 h2.at_, .int .i64 h2.v, .int .i64 h2.r, .int .i64 h2.t, .bool h2.seen.s, .int .i64 h2.seen.n, .bool h2.seen.f, .int .i64 h2.seen.v, .int .i64 h2.tr, .int .i64 h2.sp, .bool h2.ag, .int .i64 h2.re] 0 hy (by omega)), (RgsW.sts hG (by omega) [.int .i64 h2.at_, .int .i64 h2.v, .int .i64 h2.r, .int .i64 h2.t, .bool h2.seen.s, .int .i64 h2.seen.n, .bool h2.seen.f, .int .i64 h2.seen.v, .int .i64 h2.tr, .int .i64 h2.sp, .bool h2.ag, .int .i64 h2.re] 0), (size_sts hM [.int .i64 h2.at_, .int .i64 h2.v, .int .i64 h2.r, .int .i64 h2.t, .bool h2.seen.s, .int .i64 h2.seen.n, .bool h2.seen.f, .int .i64 h2.seen.v, .int .i64 h2.tr, .int .i64 h2.sp, .bool h2.ag, .int .i64 h2.re] 0), ⟨_, _, _, _, _, (BoxAt.sets_ne [.int .i64 h2.at_, .int .i64 h2.v, .int .i64 h2.r, .int .i64 h2.t, .bool h2.seen.s, .int .i64 h2.seen.n, .bool h2.seen.f, .int .i64 h2.seen.v, .int .i64 h2.tr, .int .i64 h2.sp, .bool h2.ag, .int .i64 h2.re] 0 hz (by omega))⟩, fun h => (BoxAt.sets_ne [.int .i64 h2.at_, .int .i64 h2.v, .int .i64 h2.r, .int .i64 h2.t, .bool h2.seen.s, .int .i64 h2.seen.n, .bool h2.seen.f, .int .i64 h2.seen.v, .int .i64 h2.tr, .int .i64 h2.sp, .bool h2.ag, .int .i64 h2.re] 0 (hz_o (by simpa [upd] using h)) (by omega)), ⟨_, _, _, _, _, _, _, _, _, _, _, _, hset⟩, fun h => absurd h (by simp [upd])⟩, hset, Nat.le_of_eq (sets_size _ _ _).symm, fun j hj hn hR => ?_⟩
        match j, hj, hn, hR with
        | 0, _, _, hR => exact (show σ 0 = .agg #[.int .i64 q.1.rd, .int .i64 q.1.mo, .slice A5 n5 c5, .int .i64 q.1.fi, .int .i64 q.1.la] from hR)
        | 1, _, _, hR => exact (show σ 1 = .agg #[.int .i64 h2.at_, .int .i64 h2.v, .int .i64 h2.r, .int .i64 h2.t, .bool h2.seen.s, .int .i64 h2.seen.n, .bool h2.seen.f, .int .i64 h2.seen.v, .int .i64 h2.tr, .int .i64 h2.sp, .bool h2.ag, .int .i64 h2.re] from hR)
        | 2, _, _, hR => exact (show σ 2 = .bool true from hR)
        | 3, _, _, hR => exact (show σ 3 = .bool true from hR)
        | 4, _, _, hR => exact (show σ 4 = .agg #[.int .i64 h2.at_, .int .i64 h2.v, .int .i64 h2.r, .int .i64 h2.t, .bool h2.seen.s, .int .i64 h2.seen.n, .bool h2.seen.f, .int .i64 h2.seen.v, .int .i64 h2.tr, .int .i64 h2.sp, .bool h2.ag, .int .i64 h2.re] from hR)
        | 5, _, _, hR => exact (show σ 5 = .bool h2.ok from hR)
        | 6, _, _, hR => exact (show σ 6 = .bool h2.ok from hR)
        | 7, _, _, hR => exact (BoxAt.sets_ne [.int .i64 h2.at_, .int .i64 h2.v, .int .i64 h2.r, .int .i64 h2.t, .bool h2.seen.s, .int .i64 h2.seen.n, .bool h2.seen.f, .int .i64 h2.seen.v, .int .i64 h2.tr, .int .i64 h2.sp, .bool h2.ag, .int .i64 h2.re] 0 hR (by omega))
        | 8, hj, _, _ => exact absurd rfl hj
        | 9, _, _, hR => exact (show σ 9 = .bool h2.ok from hR)
        | _ + 10, _, _, _ => exact trivial
      · -- 9: Op.assign t180
        go_light
        intro L σ W' hcl hL hC hw
        have e6 : σ 6 = .bool h2.ok := hw 6 (by kernel_rfl)
        clear hw
        have HC := Lib.hid hC
        clear hC
        clear hcl hL
        refine OpGoes.step fun K hK => ?_
        unfold OpGoes
        go_simp
        obtain ⟨hB, hx, hy, hG, hM, ⟨hz_x0, hz_x1, hz_x2, hz_x3, hz_x4, hz⟩, hz_o, ⟨hw__x0, hw__x1, hw__x2, hw__x3, hw__x4, hw__x5, hw__x6, hw__x7, hw__x8, hw__x9, hw__x10, hw__x11, hw_⟩, hw__o⟩ := HC.out
        exact hK _ _ ⟨⟨hB, hx, hy, hG, hM, ⟨_, _, _, _, _, hz⟩, fun h => hz_o (by simpa [upd] using h), ⟨_, _, _, _, _, _, _, _, _, _, _, _, hw_⟩, fun h => hw__o (by simpa [upd] using h)⟩, rfl, Below.refl _ _⟩
      · intro σ L W' hall hC hR
        obtain ⟨hB, hx, hy, hG, hM, ⟨hz_x0, hz_x1, hz_x2, hz_x3, hz_x4, hz⟩, hz_o, ⟨hw__x0, hw__x1, hw__x2, hw__x3, hw__x4, hw__x5, hw__x6, hw__x7, hw__x8, hw__x9, hw__x10, hw__x11, hw_⟩, hw__o⟩ := hC
        have s7 : BoxAt W' (w.heap.size + 1 + 1) #[.int .i64 q.1.rd, .int .i64 q.1.mo, .slice A5 n5 c5, .int .i64 q.1.fi, .int .i64 q.1.la] 75 := hR 7 (by decide)
        have s8 : BoxAt W' (w.heap.size + 1 + 1 + 1) #[.int .i64 h2.at_, .int .i64 h2.v, .int .i64 h2.r, .int .i64 h2.t, .bool h2.seen.s, .int .i64 h2.seen.n, .bool h2.seen.f, .int .i64 h2.seen.v, .int .i64 h2.tr, .int .i64 h2.sp, .bool h2.ag, .int .i64 h2.re] 41 := hR 8 (by decide)
        have e9 : σ 9 = .bool h2.ok := hR 9 (by decide)
        clear hR
        simp only [lexAll]
        go_simp
        go_step
        have k7 := s7.cell
        have k8 := s8.cell
        go_wp2
        refine bodyPost_ret (v := .tuple #[stV q.1 A5 n5 c5, hdV h2, .bool (h2.ok)]) (by simp [results, Try.results92, go_sem, k7, k8, stV, hdV]) rfl ⟨A5, n5, c5, by rw [HV.out], ?_, hB⟩
        rw [HV.out]
        exact hG.cut.mono (by omega) (Nat.le_refl _)

    · have HQ2 := Lib.hid hq2; clear hq2
      go_wp2_with fail
      refine (l7Then_any _ _ _ _).mono ?_
      rintro e w' ⟨rfl, rfl⟩
      dsimp only
      go_upto_region 43 with fail
      have HV := Lib.hid (show take17 s ⟨17, v, r, t, seen, tr, sp, ag, re⟩ = (q.1, (⟨19, v, r, t, seen, tr, sp, ag, re⟩ : Hd), ((⟨19, v, r, t, seen, tr, sp, ag, re⟩ : Hd)).ok) by simp only [take17, HQ5.out, HQ2.out]; rfl)
      refine wp_abs (fun W' => Below w.heap.size w W' ∧ BoxAt W' w.heap.size #[.int .i64 (q.1).rd, .int .i64 (q.1).mo, .slice A5 n5 c5, .int .i64 (q.1).fi, .int .i64 (q.1).la] 75 ∧ BoxAt W' (w.heap.size + 1) #[.int .i64 ((⟨19, v, r, t, seen, tr, sp, ag, re⟩ : Hd)).at_, .int .i64 ((⟨19, v, r, t, seen, tr, sp, ag, re⟩ : Hd)).v, .int .i64 ((⟨19, v, r, t, seen, tr, sp, ag, re⟩ : Hd)).r, .int .i64 ((⟨19, v, r, t, seen, tr, sp, ag, re⟩ : Hd)).t, .bool ((⟨19, v, r, t, seen, tr, sp, ag, re⟩ : Hd)).seen.s, .int .i64 ((⟨19, v, r, t, seen, tr, sp, ag, re⟩ : Hd)).seen.n, .bool ((⟨19, v, r, t, seen, tr, sp, ag, re⟩ : Hd)).seen.f, .int .i64 ((⟨19, v, r, t, seen, tr, sp, ag, re⟩ : Hd)).seen.v, .int .i64 ((⟨19, v, r, t, seen, tr, sp, ag, re⟩ : Hd)).tr, .int .i64 ((⟨19, v, r, t, seen, tr, sp, ag, re⟩ : Hd)).sp, .bool ((⟨19, v, r, t, seen, tr, sp, ag, re⟩ : Hd)).ag, .int .i64 ((⟨19, v, r, t, seen, tr, sp, ag, re⟩ : Hd)).re] 41 ∧ BoxAt W' (w.heap.size + 1 + 1) #[.int .i64 0, .int .i64 0, .slice none 0 0, .int .i64 0, .int .i64 0] 75 ∧ BoxAt W' (w.heap.size + 1 + 1 + 1) #[.int .i64 0, .int .i64 0, .int .i64 0, .int .i64 0, .bool false, .int .i64 0, .bool false, .int .i64 0, .int .i64 0, .int .i64 0, .bool false, .int .i64 0] 41 ∧ RgsW M0 wc.heap.size W' A5 n5 c5 (q.1).rs ∧ wc.heap.size ≤ W'.heap.size) ⟨hB.setCell (by dsimp only; omega) _, hx.set_ne (by omega) _ _, by simpa using hy.set 0 (.int .i64 19), hz.set_ne (by omega) _ _, hw_.set_ne (by omega) _ _, hG.st (.inl (by omega)) _ _, by simp⟩ ?_
      clear ky fy hB hx hy hz hw_ hG
      generalize hq2 : (⟨19, v, r, t, seen, tr, sp, ag, re⟩ : Hd) = h2 at *
      clear hq2
      rintro W ⟨hB, hx, hy, hz, hw_, hG, hhi⟩
      have lw := hw_.lt
      obtain ⟨M, hMe⟩ : ∃ M, M = W.heap.size := ⟨_, rfl⟩
      have hM : M ≤ W.heap.size := by omega
      have hM2 : W.heap.size ≤ M := by omega
      have hhi2 : wc.heap.size ≤ M := by omega
      clear hMe hM2
      refine wp_region2 (fun w w' => Below w.heap.size w w') (fun _ _ h => h.size) (fun L W' => Below w.heap.size w W' ∧ BoxAt W' w.heap.size #[.int .i64 q.1.rd, .int .i64 q.1.mo, .slice A5 n5 c5, .int .i64 q.1.fi, .int .i64 q.1.la] 75 ∧ BoxAt W' (w.heap.size + 1) #[.int .i64 h2.at_, .int .i64 h2.v, .int .i64 h2.r, .int .i64 h2.t, .bool h2.seen.s, .int .i64 h2.seen.n, .bool h2.seen.f, .int .i64 h2.seen.v, .int .i64 h2.tr, .int .i64 h2.sp, .bool h2.ag, .int .i64 h2.re] 41 ∧ RgsW M0 wc.heap.size W' A5 n5 c5 q.1.rs ∧ M ≤ W'.heap.size ∧ (∃ x0 x1 x2 x3 x4, BoxAt W' (w.heap.size + 1 + 1) #[x0, x1, x2, x3, x4] 75) ∧ (L 7 = false → BoxAt W' (w.heap.size + 1 + 1) #[.int .i64 0, .int .i64 0, .slice none 0 0, .int .i64 0, .int .i64 0] 75) ∧ (∃ x0 x1 x2 x3 x4 x5 x6 x7 x8 x9 x10 x11, BoxAt W' (w.heap.size + 1 + 1 + 1) #[x0, x1, x2, x3, x4, x5, x6, x7, x8, x9, x10, x11] 41) ∧ (L 8 = false → BoxAt W' (w.heap.size + 1 + 1 + 1) #[.int .i64 0, .int .i64 0, .int .i64 0, .int .i64 0, .bool false, .int .i64 0, .bool false, .int .i64 0, .int .i64 0, .int .i64 0, .bool false, .int .i64 0] 41)) (p6TR q.1 w.heap.size n5 c5 A5 h2) p6TK p6TS (by kernel_rfl) (by kernel_rfl) ?_ ?_ ?_
        (.grow rfl ?_ <| .grow rfl ?_ <| .grow rfl ?_ <| .grow rfl ?_ <| .grow rfl ?_ <| .grow rfl ?_ <| .grow rfl ?_ <| .store rfl ?_ <| .store rfl ?_ <| .grow rfl ?_ <| .nil) ?_
      · intro j σ τ w h hR
        match j, h, hR with
        | 0, h, hR => exact (h 0 (List.mem_singleton.2 rfl)).symm.trans hR
        | 1, h, hR => exact (h 1 (List.mem_singleton.2 rfl)).symm.trans hR
        | 2, h, hR => exact (h 2 (List.mem_singleton.2 rfl)).symm.trans hR
        | 3, h, hR => exact (h 3 (List.mem_singleton.2 rfl)).symm.trans hR
        | 4, h, hR => exact (h 4 (List.mem_singleton.2 rfl)).symm.trans hR
        | 5, h, hR => exact (h 5 (List.mem_singleton.2 rfl)).symm.trans hR
        | 6, h, hR => exact (h 6 (List.mem_singleton.2 rfl)).symm.trans hR
        | 7, _, hR => exact hR
        | 8, _, hR => exact hR
        | 9, h, hR => exact (h 9 (List.mem_singleton.2 rfl)).symm.trans hR
        | _ + 10, _, _ => exact trivial
      · intro j σ w w' hb hR
        match j, hR with
        | 0, hR => exact hR
        | 1, hR => exact hR
        | 2, hR => exact hR
        | 3, hR => exact hR
        | 4, hR => exact hR
        | 5, hR => exact hR
        | 6, hR => exact hR
        | 7, hR => exact hR.below hb hR.lt
        | 8, hR => exact hR.below hb hR.lt
        | 9, hR => exact hR
        | _ + 10, _ => exact trivial
      · exact ⟨hB.drew, hx, hy, hG, hM, ⟨_, _, _, _, _, hz⟩, fun _ => hz, ⟨_, _, _, _, _, _, _, _, _, _, _, _, hw_⟩, fun _ => hw_⟩
      · -- 0: Op.load 75 t2
        go_light
        intro L σ W' hcl hL hC hw
        clear hw
        have HC := Lib.hid hC
        obtain ⟨hB, hx, hy, hG, hM, ⟨hz_x0, hz_x1, hz_x2, hz_x3, hz_x4, hz⟩, hz_o, ⟨hw__x0, hw__x1, hw__x2, hw__x3, hw__x4, hw__x5, hw__x6, hw__x7, hw__x8, hw__x9, hw__x10, hw__x11, hw_⟩, hw__o⟩ := hC
        have ks := hx.cell
        clear hcl hL
        clear hB hx hy hG hM hz hz_o hw_ hw__o
        refine OpGoes.step fun K hK => ?_
        unfold OpGoes
        go_simp
        obtain ⟨hB, hx, hy, hG, hM, ⟨hz_x0, hz_x1, hz_x2, hz_x3, hz_x4, hz⟩, hz_o, ⟨hw__x0, hw__x1, hw__x2, hw__x3, hw__x4, hw__x5, hw__x6, hw__x7, hw__x8, hw__x9, hw__x10, hw__x11, hw_⟩, hw__o⟩ := HC.out
        exact hK _ _ ⟨⟨hB, hx, hy, hG, hM, ⟨_, _, _, _, _, hz⟩, fun h => hz_o (by simpa [upd] using h), ⟨_, _, _, _, _, _, _, _, _, _, _, _, hw_⟩, fun h => hw__o (by simpa [upd] using h)⟩, rfl, Below.refl _ _⟩
      · -- 1: Op.load 41 t3
        go_light
        intro L σ W' hcl hL hC hw
        clear hw
        have HC := Lib.hid hC
        obtain ⟨hB, hx, hy, hG, hM, ⟨hz_x0, hz_x1, hz_x2, hz_x3, hz_x4, hz⟩, hz_o, ⟨hw__x0, hw__x1, hw__x2, hw__x3, hw__x4, hw__x5, hw__x6, hw__x7, hw__x8, hw__x9, hw__x10, hw__x11, hw_⟩, hw__o⟩ := hC
        have kh := hy.cell
        clear hcl hL
        clear hB hx hy hG hM hz hz_o hw_ hw__o
        refine OpGoes.step fun K hK => ?_
        unfold OpGoes
        go_simp
        obtain ⟨hB, hx, hy, hG, hM, ⟨hz_x0, hz_x1, hz_x2, hz_x3, hz_x4, hz⟩, hz_o, ⟨hw__x0, hw__x1, hw__x2, hw__x3, hw__x4, hw__x5, hw__x6, hw__x7, hw__x8, hw__x9, hw__x10, hw__x11, hw_⟩, hw__o⟩ := HC.out
        exact hK _ _ ⟨⟨hB, hx, hy, hG, hM, ⟨_, _, _, _, _, hz⟩, fun h => hz_o (by simpa [upd] using h), ⟨_, _, _, _, _, _, _, _, _, _, _, _, hw_⟩, fun h => hw__o (by simpa [upd] using h)⟩, rfl, Below.refl _ _⟩
      · -- 2: Op.move t9
        go_light
        intro L σ W' hcl hL hC hw
        clear hw
        have HC := Lib.hid hC
        clear hC
        clear hcl hL
        refine OpGoes.step fun K hK => ?_
        unfold OpGoes
        go_simp
        obtain ⟨hB, hx, hy, hG, hM, ⟨hz_x0, hz_x1, hz_x2, hz_x3, hz_x4, hz⟩, hz_o, ⟨hw__x0, hw__x1, hw__x2, hw__x3, hw__x4, hw__x5, hw__x6, hw__x7, hw__x8, hw__x9, hw__x10, hw__x11, hw_⟩, hw__o⟩ := HC.out
        exact hK _ _ ⟨⟨hB, hx, hy, hG, hM, ⟨_, _, _, _, _, hz⟩, fun h => hz_o (by simpa [upd] using h), ⟨_, _, _, _, _, _, _, _, _, _, _, _, hw_⟩, fun h => hw__o (by simpa [upd] using h)⟩, rfl, Below.refl _ _⟩
      · -- 3: Op.move t176
        go_light
        intro L σ W' hcl hL hC hw
        have e2 : σ 2 = .bool true := hw 2 (by kernel_rfl)
        clear hw
        have HC := Lib.hid hC
        clear hC
        clear hcl hL
        refine OpGoes.step fun K hK => ?_
        unfold OpGoes
        go_simp
        obtain ⟨hB, hx, hy, hG, hM, ⟨hz_x0, hz_x1, hz_x2, hz_x3, hz_x4, hz⟩, hz_o, ⟨hw__x0, hw__x1, hw__x2, hw__x3, hw__x4, hw__x5, hw__x6, hw__x7, hw__x8, hw__x9, hw__x10, hw__x11, hw_⟩, hw__o⟩ := HC.out
        exact hK _ _ ⟨⟨hB, hx, hy, hG, hM, ⟨_, _, _, _, _, hz⟩, fun h => hz_o (by simpa [upd] using h), ⟨_, _, _, _, _, _, _, _, _, _, _, _, hw_⟩, fun h => hw__o (by simpa [upd] using h)⟩, rfl, Below.refl _ _⟩
      · -- 4: Op.load 41 t3   [guarded: some (3, true)]
        go_light
        intro L σ W' hcl hL hC hw
        have e3 : σ 3 = .bool true := hw 3 (by kernel_rfl)
        clear hw
        have HC := Lib.hid hC
        obtain ⟨hB, hx, hy, hG, hM, ⟨hz_x0, hz_x1, hz_x2, hz_x3, hz_x4, hz⟩, hz_o, ⟨hw__x0, hw__x1, hw__x2, hw__x3, hw__x4, hw__x5, hw__x6, hw__x7, hw__x8, hw__x9, hw__x10, hw__x11, hw_⟩, hw__o⟩ := hC
        have kh := hy.cell
        clear hcl hL
        clear hB hx hy hG hM hz hz_o hw_ hw__o
        refine OpGoes.step fun K hK => ?_
        unfold OpGoes
        go_simp
        obtain ⟨hB, hx, hy, hG, hM, ⟨hz_x0, hz_x1, hz_x2, hz_x3, hz_x4, hz⟩, hz_o, ⟨hw__x0, hw__x1, hw__x2, hw__x3, hw__x4, hw__x5, hw__x6, hw__x7, hw__x8, hw__x9, hw__x10, hw__x11, hw_⟩, hw__o⟩ := HC.out
        exact hK _ _ ⟨⟨hB, hx, hy, hG, hM, ⟨_, _, _, _, _, hz⟩, fun h => hz_o (by simpa [upd] using h), ⟨_, _, _, _, _, _, _, _, _, _, _, _, hw_⟩, fun h => hw__o (by simpa [upd] using h)⟩, rfl, Below.refl _ _⟩
      · -- 5: Op.call { value (Operand.func 25), args := #[t178], argTypes := #[41] }   [guarded: some (3, true)]
        go_light
        intro L σ W' hcl hL hC hw
        have e3 : σ 3 = .bool true := hw 3 (by kernel_rfl)
        have e4 : σ 4 = .agg #[.int .i64 h2.at_, .int .i64 h2.v, .int .i64 h2.r, .int .i64 h2.t, .bool h2.seen.s, .int .i64 h2.seen.n, .bool h2.seen.f, .int .i64 h2.seen.v, .int .i64 h2.tr, .int .i64 h2.sp, .bool h2.ag, .int .i64 h2.re] := hw 4 (by kernel_rfl)
        clear hw
        have HC := Lib.hid hC
        clear hC
        clear hcl hL
        refine OpGoes.step fun K hK => ?_
        unfold OpGoes
        go_simp
        obtain ⟨hB, hx, hy, hG, hM, ⟨hz_x0, hz_x1, hz_x2, hz_x3, hz_x4, hz⟩, hz_o, ⟨hw__x0, hw__x1, hw__x2, hw__x3, hw__x4, hw__x5, hw__x6, hw__x7, hw__x8, hw__x9, hw__x10, hw__x11, hw_⟩, hw__o⟩ := HC.out
        refine (shandOk_any h2 _).mono ?_
        rintro e w1 ⟨rfl, hb1⟩
        exact ⟨_, rfl, hK _ _ ⟨⟨bstep hB hB.size hb1, hx.below hb1 hx.lt, hy.below hb1 hy.lt, hG.below hb1 (Nat.le_trans hhi2 hM), Nat.le_trans hM hb1.size, ⟨_, _, _, _, _, hz.below hb1 hz.lt⟩, fun h => (hz_o (by simpa [upd] using h)).below hb1 (hz_o (by simpa [upd] using h)).lt, ⟨_, _, _, _, _, _, _, _, _, _, _, _, hw_.below hb1 hw_.lt⟩, fun h => (hw__o (by simpa [upd] using h)).below hb1 (hw__o (by simpa [upd] using h)).lt⟩, rfl, hb1⟩⟩
      · -- 6: Op.pick t177 t179 (const (Value.bool false))
        go_light
        intro L σ W' hcl hL hC hw
        have e3 : σ 3 = .bool true := hw 3 (by kernel_rfl)
        have e5 : σ 5 = .bool h2.ok := hw 5 (by kernel_rfl)
        clear hw
        have HC := Lib.hid hC
        clear hC
        clear hcl hL
        refine OpGoes.step fun K hK => ?_
        unfold OpGoes
        go_simp
        obtain ⟨hB, hx, hy, hG, hM, ⟨hz_x0, hz_x1, hz_x2, hz_x3, hz_x4, hz⟩, hz_o, ⟨hw__x0, hw__x1, hw__x2, hw__x3, hw__x4, hw__x5, hw__x6, hw__x7, hw__x8, hw__x9, hw__x10, hw__x11, hw_⟩, hw__o⟩ := HC.out
        exact hK _ _ ⟨⟨hB, hx, hy, hG, hM, ⟨_, _, _, _, _, hz⟩, fun h => hz_o (by simpa [upd] using h), ⟨_, _, _, _, _, _, _, _, _, _, _, _, hw_⟩, fun h => hw__o (by simpa [upd] using h)⟩, rfl, Below.refl _ _⟩
      · -- 7: Op.store 75 t4 t174
        go_light
        intro L σ W' hcl hL hC hw hne
        have e0 : σ 0 = .agg #[.int .i64 q.1.rd, .int .i64 q.1.mo, .slice A5 n5 c5, .int .i64 q.1.fi, .int .i64 q.1.la] := hw 0 (by kernel_rfl)
        clear hw hne
        have HC := Lib.hid hC
        obtain ⟨hB, hx, hy, hG, hM, ⟨hz_x0, hz_x1, hz_x2, hz_x3, hz_x4, hz⟩, hz_o, ⟨hw__x0, hw__x1, hw__x2, hw__x3, hw__x4, hw__x5, hw__x6, hw__x7, hw__x8, hw__x9, hw__x10, hw__x11, hw_⟩, hw__o⟩ := hC
        clear hcl hL
        have kc_ := hz.cell
        have kf_ := hz.frozen
        clear hB hx hy hG hM hz hz_o hw_ hw__o
        refine OpGoes.step fun K hK => ?_
        unfold OpGoes
        go_simp
        obtain ⟨hB, hx, hy, hG, hM, ⟨hz_x0, hz_x1, hz_x2, hz_x3, hz_x4, hz⟩, hz_o, ⟨hw__x0, hw__x1, hw__x2, hw__x3, hw__x4, hw__x5, hw__x6, hw__x7, hw__x8, hw__x9, hw__x10, hw__x11, hw_⟩, hw__o⟩ := HC.out
        have hset := sets_all (us := [.int .i64 q.1.rd, .int .i64 q.1.mo, .slice A5 n5 c5, .int .i64 q.1.fi, .int .i64 q.1.la]) hz rfl
        refine hK undef (setCells W' (w.heap.size + 1 + 1) 0 [.int .i64 q.1.rd, .int .i64 q.1.mo, .slice A5 n5 c5, .int .i64 q.1.fi, .int .i64 q.1.la]) ⟨⟨(Below.setCells (by omega) [.int .i64 q.1.rd, .int .i64 q.1.mo, .slice A5 n5 c5, .int .i64 q.1.fi, .int .i64 q.1.la] 0 hB), (BoxAt.sets_ne [.int .i64 q.1.rd, .int .i64 q.1.mo, .slice A5 n5 c5, .int .i64 q.1.fi, .int .i64 q.1.la] 0 hx (by omega)), (BoxAt.sets_ne [.int .i64 q.1.rd, .int .i64 q.1.mo, .slice A5 n5 c5, .int .i64 q.1.fi, .int .i64 q.1.la] 0 hy (by omega)), (RgsW.sts hG (by omega) [.int .i64 q.1.rd, .int .i64 q.1.mo, .slice A5 n5 c5, .int .i64 q.1.fi, .int .i64 q.1.la] 0), (size_sts hM [.int .i64 q.1.rd, .int .i64 q.1.mo, .slice A5 n5 c5, .int .i64 q.1.fi, .int .i64 q.1.la] 0), ⟨_, _, _, _, _, hset⟩, fun h => absurd h (by simp [upd]), ⟨_, _, _, _, _, _, _, _, _, _, _, _, (BoxAt.sets_ne [.int .i64 q.1.rd, .int .i64 q.1.mo, .slice A5 n5 c5, .int .i64 q.1.fi, .int .i64 q.1.la] 0 hw_ (by omega))⟩, fun h => (BoxAt.sets_ne [.int .i64 q.1.rd, .int .i64 q.1.mo, .slice A5 n5 c5, .int .i64 q.1.fi, .int .i64 q.1.la] 0 (hw__o (by simpa [upd] using h)) (by omega))⟩, hset, Nat.le_of_eq (sets_size _ _ _).symm, fun j hj hn hR => ?_⟩
        match j, hj, hn, hR with
        | 0, _, _, hR => exact (show σ 0 = .agg #[.int .i64 q.1.rd, .int .i64 q.1.mo, .slice A5 n5 c5, .int .i64 q.1.fi, .int .i64 q.1.la] from hR)
        | 1, _, _, hR => exact (show σ 1 = .agg #[.int .i64 h2.at_, .int .i64 h2.v, .int .i64 h2.r, .int .i64 h2.t, .bool h2.seen.s, .int .i64 h2.seen.n, .bool h2.seen.f, .int .i64 h2.seen.v, .int .i64 h2.tr, .int .i64 h2.sp, .bool h2.ag, .int .i64 h2.re] from hR)
        | 2, _, _, hR => exact (show σ 2 = .bool true from hR)
        | 3, _, _, hR => exact (show σ 3 = .bool true from hR)
        | 4, _, _, hR => exact (show σ 4 = .agg #[.int .i64 h2.at_, .int .i64 h2.v, .int .i64 h2.r, .int .i64 h2.t, .bool h2.seen.s, .int .i64 h2.seen.n, .bool h2.seen.f, .int .i64 h2.seen.v, .int .i64 h2.tr, .int .i64 h2.sp, .bool h2.ag, .int .i64 h2.re] from hR)
        | 5, _, _, hR => exact (show σ 5 = .bool h2.ok from hR)
        | 6, _, _, hR => exact (show σ 6 = .bool h2.ok from hR)
        | 7, hj, _, _ => exact absurd rfl hj
        | 8, _, _, hR => exact (BoxAt.sets_ne [.int .i64 q.1.rd, .int .i64 q.1.mo, .slice A5 n5 c5, .int .i64 q.1.fi, .int .i64 q.1.la] 0 hR (by omega))
        | 9, _, _, hR => exact (show σ 9 = .bool h2.ok from hR)
        | _ + 10, _, _, _ => exact trivial
      · -- 8: Op.store 41 t5 t175
        go_light
        intro L σ W' hcl hL hC hw hne
        have e1 : σ 1 = .agg #[.int .i64 h2.at_, .int .i64 h2.v, .int .i64 h2.r, .int .i64 h2.t, .bool h2.seen.s, .int .i64 h2.seen.n, .bool h2.seen.f, .int .i64 h2.seen.v, .int .i64 h2.tr, .int .i64 h2.sp, .bool h2.ag, .int .i64 h2.re] := hw 1 (by kernel_rfl)
        clear hw hne
        have HC := Lib.hid hC
        obtain ⟨hB, hx, hy, hG, hM, ⟨hz_x0, hz_x1, hz_x2, hz_x3, hz_x4, hz⟩, hz_o, ⟨hw__x0, hw__x1, hw__x2, hw__x3, hw__x4, hw__x5, hw__x6, hw__x7, hw__x8, hw__x9, hw__x10, hw__x11, hw_⟩, hw__o⟩ := hC
        clear hcl hL
        have kc_ := hw_.cell
        have kf_ := hw_.frozen
        clear hB hx hy hG hM hz hz_o hw_ hw__o
        refine OpGoes.step fun K hK => ?_
        unfold OpGoes
        go_simp
        obtain ⟨hB, hx, hy, hG, hM, ⟨hz_x0, hz_x1, hz_x2, hz_x3, hz_x4, hz⟩, hz_o, ⟨hw__x0, hw__x1, hw__x2, hw__x3, hw__x4, hw__x5, hw__x6, hw__x7, hw__x8, hw__x9, hw__x10, hw__x11, hw_⟩, hw__o⟩ := HC.out
        have hset := sets_all (us := [.int .i64 h2.at_, .int .i64 h2.v, .int .i64 h2.r, .int .i64 h2.t, .bool h2.seen.s, .int .i64 h2.seen.n, .bool h2.seen.f, .int .i64 h2.seen.v, .int .i64 h2.tr, .int .i64 h2.sp, .bool h2.ag, .int .i64 h2.re]) hw_ rfl
        refine hK undef (setCells W' (w.heap.size + 1 + 1 + 1) 0 [.int .i64 h2.at_, .int .i64 h2.v, .int .i64 h2.r, .int .i64 h2.t, .bool h2.seen.s, .int .i64 h2.seen.n, .bool h2.seen.f, .int .i64 h2.seen.v, .int .i64 h2.tr, .int .i64 h2.sp, .bool h2.ag, .int .i64 h2.re]) ⟨⟨(Below.setCells (by omega) [.int .i64 h2.at_, .int .i64 h2.v, .int .i64 h2.r, .int .i64 h2.t, .bool h2.seen.s, .int .i64 h2.seen.n, .bool h2.seen.f, .int .i64 h2.seen.v, .int .i64 h2.tr, .int .i64 h2.sp, .bool h2.ag, .int .i64 h2.re] 0 hB), (BoxAt.sets_ne [.int .i64 h2.at_, .int .i64 h2.v, .int .i64 h2.r, .int .i64 h2.t, .bool h2.seen.s, .int .i64 h2.seen.n, .bool h2.seen.f, .int .i64 h2.seen.v, .int .i64 h2.tr, .int .i64 h2.sp, .bool h2.ag, .int .i64 h2.re] 0 hx (by omega)), (BoxAt.sets_ne [.int .i64 h2.at_, .int .i64 h2.v, .int .i64 h2.r, .int .i64 h2.t, .bool h2.seen.s, .int .i64 h2.seen.n, .bool h2.seen.f, .int .i64 h2.seen.v, .int .i64 h2.tr, .int .i64 h2.sp, .bool h2.ag, .int .i64 h2.re] 0 hy (by omega)), (RgsW.sts hG (by omega) [.int .i64 h2.at_, .int .i64 h2.v, .int .i64 h2.r, .int .i64 h2.t, .bool h2.seen.s, .int .i64 h2.seen.n, .bool h2.seen.f, .int .i64 h2.seen.v, .int .i64 h2.tr, .int .i64 h2.sp, .bool h2.ag, .int .i64 h2.re] 0), (size_sts hM [.int .i64 h2.at_, .int .i64 h2.v, .int .i64 h2.r, .int .i64 h2.t, .bool h2.seen.s, .int .i64 h2.seen.n, .bool h2.seen.f, .int .i64 h2.seen.v, .int .i64 h2.tr, .int .i64 h2.sp, .bool h2.ag, .int .i64 h2.re] 0), ⟨_, _, _, _, _, (BoxAt.sets_ne [.int .i64 h2.at_, .int .i64 h2.v, .int .i64 h2.r, .int .i64 h2.t, .bool h2.seen.s, .int .i64 h2.seen.n, .bool h2.seen.f, .int .i64 h2.seen.v, .int .i64 h2.tr, .int .i64 h2.sp, .bool h2.ag, .int .i64 h2.re] 0 hz (by omega))⟩, fun h => (BoxAt.sets_ne [.int .i64 h2.at_, .int .i64 h2.v, .int .i64 h2.r, .int .i64 h2.t, .bool h2.seen.s, .int .i64 h2.seen.n, .bool h2.seen.f, .int .i64 h2.seen.v, .int .i64 h2.tr, .int .i64 h2.sp, .bool h2.ag, .int .i64 h2.re] 0 (hz_o (by simpa [upd] using h)) (by omega)), ⟨_, _, _, _, _, _, _, _, _, _, _, _, hset⟩, fun h => absurd h (by simp [upd])⟩, hset, Nat.le_of_eq (sets_size _ _ _).symm, fun j hj hn hR => ?_⟩
        match j, hj, hn, hR with
        | 0, _, _, hR => exact (show σ 0 = .agg #[.int .i64 q.1.rd, .int .i64 q.1.mo, .slice A5 n5 c5, .int .i64 q.1.fi, .int .i64 q.1.la] from hR)
        | 1, _, _, hR => exact (show σ 1 = .agg #[.int .i64 h2.at_, .int .i64 h2.v, .int .i64 h2.r, .int .i64 h2.t, .bool h2.seen.s, .int .i64 h2.seen.n, .bool h2.seen.f, .int .i64 h2.seen.v, .int .i64 h2.tr, .int .i64 h2.sp, .bool h2.ag, .int .i64 h2.re] from hR)
        | 2, _, _, hR => exact (show σ 2 = .bool true from hR)
        | 3, _, _, hR => exact (show σ 3 = .bool true from hR)
        | 4, _, _, hR => exact (show σ 4 = .agg #[.int .i64 h2.at_, .int .i64 h2.v, .int .i64 h2.r, .int .i64 h2.t, .bool h2.seen.s, .int .i64 h2.seen.n, .bool h2.seen.f, .int .i64 h2.seen.v, .int .i64 h2.tr, .int .i64 h2.sp, .bool h2.ag, .int .i64 h2.re] from hR)
        | 5, _, _, hR => exact (show σ 5 = .bool h2.ok from hR)
        | 6, _, _, hR => exact (show σ 6 = .bool h2.ok from hR)
        | 7, _, _, hR => exact (BoxAt.sets_ne [.int .i64 h2.at_, .int .i64 h2.v, .int .i64 h2.r, .int .i64 h2.t, .bool h2.seen.s, .int .i64 h2.seen.n, .bool h2.seen.f, .int .i64 h2.seen.v, .int .i64 h2.tr, .int .i64 h2.sp, .bool h2.ag, .int .i64 h2.re] 0 hR (by omega))
        | 8, hj, _, _ => exact absurd rfl hj
        | 9, _, _, hR => exact (show σ 9 = .bool h2.ok from hR)
        | _ + 10, _, _, _ => exact trivial
      · -- 9: Op.assign t180
        go_light
        intro L σ W' hcl hL hC hw
        have e6 : σ 6 = .bool h2.ok := hw 6 (by kernel_rfl)
        clear hw
        have HC := Lib.hid hC
        clear hC
        clear hcl hL
        refine OpGoes.step fun K hK => ?_
        unfold OpGoes
        go_simp
        obtain ⟨hB, hx, hy, hG, hM, ⟨hz_x0, hz_x1, hz_x2, hz_x3, hz_x4, hz⟩, hz_o, ⟨hw__x0, hw__x1, hw__x2, hw__x3, hw__x4, hw__x5, hw__x6, hw__x7, hw__x8, hw__x9, hw__x10, hw__x11, hw_⟩, hw__o⟩ := HC.out
        exact hK _ _ ⟨⟨hB, hx, hy, hG, hM, ⟨_, _, _, _, _, hz⟩, fun h => hz_o (by simpa [upd] using h), ⟨_, _, _, _, _, _, _, _, _, _, _, _, hw_⟩, fun h => hw__o (by simpa [upd] using h)⟩, rfl, Below.refl _ _⟩
      · intro σ L W' hall hC hR
        obtain ⟨hB, hx, hy, hG, hM, ⟨hz_x0, hz_x1, hz_x2, hz_x3, hz_x4, hz⟩, hz_o, ⟨hw__x0, hw__x1, hw__x2, hw__x3, hw__x4, hw__x5, hw__x6, hw__x7, hw__x8, hw__x9, hw__x10, hw__x11, hw_⟩, hw__o⟩ := hC
        have s7 : BoxAt W' (w.heap.size + 1 + 1) #[.int .i64 q.1.rd, .int .i64 q.1.mo, .slice A5 n5 c5, .int .i64 q.1.fi, .int .i64 q.1.la] 75 := hR 7 (by decide)
        have s8 : BoxAt W' (w.heap.size + 1 + 1 + 1) #[.int .i64 h2.at_, .int .i64 h2.v, .int .i64 h2.r, .int .i64 h2.t, .bool h2.seen.s, .int .i64 h2.seen.n, .bool h2.seen.f, .int .i64 h2.seen.v, .int .i64 h2.tr, .int .i64 h2.sp, .bool h2.ag, .int .i64 h2.re] 41 := hR 8 (by decide)
        have e9 : σ 9 = .bool h2.ok := hR 9 (by decide)
        clear hR
        simp only [lexAll]
        go_simp
        go_step
        have k7 := s7.cell
        have k8 := s8.cell
        go_wp2
        refine bodyPost_ret (v := .tuple #[stV q.1 A5 n5 c5, hdV h2, .bool (h2.ok)]) (by simp [results, Try.results92, go_sem, k7, k8, stV, hdV]) rfl ⟨A5, n5, c5, by rw [HV.out], ?_, hB⟩
        rw [HV.out]
        exact hG.cut.mono (by omega) (Nat.le_refl _)


end Go.Proofs.Ytbdgkmamieagfaa

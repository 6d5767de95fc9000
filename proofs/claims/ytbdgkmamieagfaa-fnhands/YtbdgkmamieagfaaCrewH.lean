/-
  The walk of a new crew, of the model.
-/
import Derived.Test.YtbdgkmamieagfaaCrewF
namespace Go.Proofs.Ytbdgkmamieagfaa
set_option linter.unusedSimpArgs false
set_option linter.unusedVariables false
open Go.RowKit
set_option linter.unusedVariables false
attribute [local go_sem] OpUpon
attribute [local go_sem ↓] Go.wp_at_zero Go.wp_at_succ

def newC0 (rd mo : Int) (js : List (List Int)) : Cr := ⟨(newStore rd mo).1, List.replicate js.length resting, js, List.replicate js.length 0, 0, []⟩
def newCrew (rd mo : Int) (js : List (List Int)) : Cr × Bool := if !(newStore rd mo).2 || !crOk (newC0 rd mo js) then (.zero, false) else (newC0 rd mo js, true)

def LstN (lo : Nat) (w : World) (A : Option Addr) (n cap : Nat) (L : List (List Int)) : Prop := ListsW lo w.heap.size w A n cap L
def IntN (lo : Nat) (w : World) (A : Option Addr) (n cap : Nat) (L : List Int) : Prop := IntsW lo w.heap.size w A n cap L
theorem newStore_neat (rd mo : Int) : Neat (newStore rd mo).1 ∨ (newStore rd mo).1 = .zero := by
  unfold newStore
  split
  · rename_i h
    left
    simp only [Bool.and_eq_true, roundB, decide_eq_true_eq] at h
    refine ⟨by simp, by simp, fun r hr => ?_⟩
    simp at hr
    subst hr
    have : (Rg.fresh rd.toNat).ps.length = rd.toNat := by simp [Rg.fresh, fresh]
    omega
  · exact .inr rfl

section
variable {lo : Nat} {w w' : World} {A : Option Addr} {n cap : Nat} {L : List (List Int)} {m : List Int}
theorem LstN.keepT (h : LstN lo w A n cap L) (k1 : KeepT 2 w w') (k2 : KeepT 59 w w') (hz : w.heap.size ≤ w'.heap.size) : LstN lo w' A n cap L := (ListsW.keepT h k1 k2).mono (Nat.le_refl _) hz
theorem IntN.keepT (h : IntN lo w A n cap m) (k1 : KeepT 2 w w') (hz : w.heap.size ≤ w'.heap.size) : IntN lo w' A n cap m := SlW.mono (SlW.keepT h k1) (Nat.le_refl _) hz
theorem LstN.belowN (h : LstN lo w A n cap L) (hb : Below w.heap.size w w') : LstN lo w' A n cap L := h.keepT (.below hb) (.below hb) hb.size
theorem IntN.belowN (h : IntN lo w A n cap m) (hb : Below w.heap.size w w') : IntN lo w' A n cap m := h.keepT (.below hb) hb.size
theorem LstN.setsC (h : LstN lo w A n cap L) {b : Nat} {cs : Array Value} (hk : BoxAt w b cs 88) (us : List Value) (o : Nat) : LstN lo (setCells w b o us) A n cap L := h.keepT (.sets hk (by decide) us o) (.sets hk (by decide) us o) (Nat.le_of_eq (sets_size us o w).symm)
theorem IntN.setsC (h : IntN lo w A n cap m) {b : Nat} {cs : Array Value} (hk : BoxAt w b cs 88) (us : List Value) (o : Nat) : IntN lo (setCells w b o us) A n cap m := h.keepT (.sets hk (by decide) us o) (Nat.le_of_eq (sets_size us o w).symm)
def TwoN (lo : Nat) (w : World) (A : Option Addr) (n cap : Nat) (L : List (List Int)) (g : Nat) : Prop := LstN lo w A n cap L ∧ IntN lo w (some ⟨g, 0, none⟩) n n (List.replicate n 0)
theorem TwoN.belowN {g : Nat} (h : TwoN lo w A n cap L g) (hb : Below w.heap.size w w') : TwoN lo w' A n cap L g := ⟨h.1.belowN hb, h.2.belowN hb⟩
theorem TwoN.setsC {g : Nat} (h : TwoN lo w A n cap L g) {b : Nat} {cs : Array Value} (hk : BoxAt w b cs 88) (us : List Value) (o : Nat) : TwoN lo (setCells w b o us) A n cap L g := ⟨h.1.setsC hk us o, h.2.setsC hk us o⟩
end

def ncAR (q : St × Bool) (A A1 : Option Addr) (n cap n1 c1 S1 M : Nat) (js : List (List Int)) (j : Nat) (σ : Nat → Value) (w : World) : Prop :=
  match j with
  | 0 => σ 0 = .agg #[.int .i64 q.1.rd, .int .i64 q.1.mo, .slice A1 n1 c1, .int .i64 q.1.fi, .int .i64 q.1.la]
  | 1 => σ 1 = .slice A n cap
  | 2 => ∃ (A2 : Option Addr) (c2 : Nat), σ 2 = .slice A2 n c2 ∧ LstN M w A2 n c2 js
  | 3 => σ 3 = .slice A n cap
  | 4 => σ 4 = .int .i64 ((n : Int))
  | 5 => ∃ (g5 : Nat), σ 5 = .slice (some ⟨g5, 0, none⟩) n n ∧ IntN M w (some ⟨g5, 0, none⟩) n n (List.replicate n 0)
  | 6 => ∃ (A2 : Option Addr) (c2 g5 : Nat), σ 6 = .agg #[.int .i64 q.1.rd, .int .i64 q.1.mo, .slice A1 n1 c1, .int .i64 q.1.fi, .int .i64 q.1.la, .slice none 0 0, .slice A2 n c2, .slice (some ⟨g5, 0, none⟩) n n, .int .i64 0, .slice none 0 0] ∧ TwoN M w A2 n c2 js g5
  | 7 => ∃ g7, σ 7 = .pointer (some ⟨g7, 0, none⟩) ∧ M ≤ g7 ∧ ∃ x0 x1 x2 x3 x4 x5 x6 x7 x8 x9, BoxAt w g7 #[x0, x1, x2, x3, x4, x5, x6, x7, x8, x9] 88
  | 8 => ∃ (g7 : Nat) (A2 : Option Addr) (c2 g5 : Nat), σ 7 = .pointer (some ⟨g7, 0, none⟩) ∧ M ≤ g7 ∧ BoxAt w g7 #[.int .i64 q.1.rd, .int .i64 q.1.mo, .slice A1 n1 c1, .int .i64 q.1.fi, .int .i64 q.1.la, .slice none 0 0, .slice A2 n c2, .slice (some ⟨g5, 0, none⟩) n n, .int .i64 0, .slice none 0 0] 88 ∧ TwoN M w A2 n c2 js g5
  | _ => True

def ncAS (j : Nat) : List Nat := [[0], [1], [2], [3], [4], [5], [6], [7], [7]].getD j [j]
def ncAK (j : Nat) : Nat := [0, 0, 0, 0, 0, 0, 0, 2, 1].getD j 0

def ncBR (q : St × Bool) (A1 A2 B : Option Addr) (n n1 c1 c2 g5 i c C7 M : Nat) (j : Nat) (σ : Nat → Value) (w : World) : Prop :=
  match j with
  | 0 => σ 0 = .pointer (some ⟨C7, 5, none⟩)
  | 1 => σ 1 = .slice B i c
  | 2 => σ 2 = .agg #[.int .i64 resting.at_, .int .i64 resting.v, .int .i64 resting.r, .int .i64 resting.t, .bool resting.seen.s, .int .i64 resting.seen.n, .bool resting.seen.f, .int .i64 resting.seen.v, .int .i64 resting.tr, .int .i64 resting.sp, .bool resting.ag, .int .i64 resting.re]
  | 3 => ∃ (g3 : Nat), σ 3 = .slice (some ⟨g3, 0, none⟩) 1 1 ∧ BoxAt w g3 #[.int .i64 resting.at_, .int .i64 resting.v, .int .i64 resting.r, .int .i64 resting.t, .bool resting.seen.s, .int .i64 resting.seen.n, .bool resting.seen.f, .int .i64 resting.seen.v, .int .i64 resting.tr, .int .i64 resting.sp, .bool resting.ag, .int .i64 resting.re] 41 ∧ M ≤ g3
  | 4 => ∃ (B2 : Option Addr) (cc : Nat), σ 4 = .slice B2 (i + 1) cc ∧ w.ownsRow (C7 + 1) 41 12 (.slice B2 (i + 1) cc) (i + 1) ((List.replicate (i + 1) resting).flatMap Hd.cs)
  | 5 => σ 5 = .pointer (some ⟨C7, 5, none⟩)
  | 6 => ∃ (B2 : Option Addr) (cc : Nat), BoxAt w C7 #[.int .i64 q.1.rd, .int .i64 q.1.mo, .slice A1 n1 c1, .int .i64 q.1.fi, .int .i64 q.1.la, .slice B2 (i + 1) cc, .slice A2 n c2, .slice (some ⟨g5, 0, none⟩) n n, .int .i64 0, .slice none 0 0] 88 ∧ w.ownsRow (C7 + 1) 41 12 (.slice B2 (i + 1) cc) (i + 1) ((List.replicate (i + 1) resting).flatMap Hd.cs)
  | _ => True

def ncBS (j : Nat) : List Nat := [[0], [1], [2], [3], [4], [5], [6]].getD j [j]
def ncBK (j : Nat) : Nat := [0, 0, 0, 0, 1, 0, 1].getD j 0

set_option maxRecDepth 100000 in
set_option maxHeartbeats 4000000 in
theorem snewCrew_any (rd mo : Int) (js : List (List Int)) (A : Option Addr) (n cap lo hi : Nat) (w : World) (hl : ListsW lo hi w A n cap js) (hh : hi ≤ w.heap.size) (hn : n ≤ 1048576) (hml : ∀ l ∈ js, l.length ≤ 1048576) :
    Calls Try.prog 69 #[.int .i64 rd, .int .i64 mo, .slice A n cap] w (RetCrB (newCrew rd mo js) w) := by
  obtain ⟨iH, hi0, hz0, hz1, hz2⟩ := info_parts hand_info
  have HI := Lib.hid hi0
  have HZ0 := Lib.hid hz0
  have HZ1 := Lib.hid hz1
  have HZ2 := Lib.hid hz2
  clear hi0 hz0 hz1 hz2
  obtain ⟨i0, hi0, hz0, hz1, hz2⟩ := info_parts int_info
  have hmk : ∀ W : World, (Instr.makeSlice 59 (.int .i64 (n : Int)) (.int .i64 (n : Int))).run Try.prog W = .ok (.slice (some ⟨W.heap.size, 0, none⟩) n n) (W.alloc (.cells (madeCells #[.int .i64 0] n) 2)) := by
    intro W
    have := run_make (P := Try.prog) W 59 2 i0 _ Try.underlying59 hi0 hz0 .i64 .i64 n n (by omega) (by omega) (by rw [hz2]; omega) (by omega)
    rw [hz1] at this
    simpa [Value.cells] using this
  clear hi0 hz0 hz1 hz2
  have HML := Lib.hid hml; clear hml
  have HLL := Lib.hid hl.len
  go_enter Try.func69, Try.ntmps69
  go_wp2_with fail
  refine calls_abs (fun W => Below w.heap.size w W ∧ BoxAt W w.heap.size #[.int .i64 0, .int .i64 0, .slice none 0 0, .int .i64 0, .int .i64 0, .slice none 0 0, .slice none 0 0, .slice none 0 0, .int .i64 0, .slice none 0 0] 88) ⟨(Below.refl _ _).alloc (Nat.le_refl _) _, BoxAt.new _ _ _⟩ ?_
  rintro W0 ⟨hB, hz⟩
  refine (snewStore_any rd mo _).mono ?_
  rintro e w1 ⟨A1, n1, c1, rfl, hG, hb1⟩
  have hs0 := hB.size
  have hs1 := hb1.size
  have lz0 := hz.lt
  replace hz := hz.below hb1 hz.lt
  replace hB := bstep hB hB.size hb1
  clear hb1
  generalize hqe : newStore rd mo = q at *
  have HQ := Lib.hid hqe; clear hqe
  unfold stV
  go_upto_region 2 with fail
  refine wp_abs (fun W => Below w.heap.size w W ∧ BoxAt W w.heap.size #[.int .i64 0, .int .i64 0, .slice none 0 0, .int .i64 0, .int .i64 0, .slice none 0 0, .slice none 0 0, .slice none 0 0, .int .i64 0, .slice none 0 0] 88 ∧ BoxAt W w1.heap.size #[.int .i64 q.1.rd, .int .i64 q.1.mo, .slice A1 n1 c1, .int .i64 q.1.fi, .int .i64 q.1.la] 75 ∧ RgsW w.heap.size w1.heap.size W A1 n1 c1 q.1.rs) ⟨hB.alloc hB.size _, hz.alloc _, BoxAt.new _ _ _, (hG.mono hs0 (Nat.le_refl _)).al (Nat.le_refl _) _⟩ ?_
  clear hB hz hG
  rintro W1 ⟨hB, hz, hs, hG⟩
  generalize w1.heap.size = S1 at *
  have lS := hs.lt
  replace hl := hl.below hB hh
  have hhi : hi ≤ W1.heap.size := Nat.le_trans hh hB.size
  obtain ⟨M, hMe⟩ : ∃ M, M = W1.heap.size := ⟨_, rfl⟩
  have hM : M ≤ W1.heap.size := by omega
  have hSM : S1 ≤ M := by omega
  have hSM2 : S1 < M := by omega
  have hNM : w.heap.size < M := by omega
  clear hMe
  refine wp_region2 (fun w w' => Below w.heap.size w w') (fun _ _ h => h.size) (fun L W' => Below w.heap.size w W' ∧ BoxAt W' w.heap.size #[.int .i64 0, .int .i64 0, .slice none 0 0, .int .i64 0, .int .i64 0, .slice none 0 0, .slice none 0 0, .slice none 0 0, .int .i64 0, .slice none 0 0] 88 ∧ BoxAt W' S1 #[.int .i64 q.1.rd, .int .i64 q.1.mo, .slice A1 n1 c1, .int .i64 q.1.fi, .int .i64 q.1.la] 75 ∧ RgsW w.heap.size S1 W' A1 n1 c1 q.1.rs ∧ ListsW lo hi W' A n cap js ∧ hi ≤ W'.heap.size ∧ M ≤ W'.heap.size) (ncAR q A A1 n cap n1 c1 S1 M js) ncAK ncAS (by kernel_rfl) (by kernel_rfl) ?_ ?_ ?_
    (.grow rfl ?_ <| .grow rfl ?_ <| .grow rfl ?_ <| .grow rfl ?_ <| .grow rfl ?_ <| .grow rfl ?_ <| .grow rfl ?_ <| .make rfl ?_ <| .store rfl ?_ <| .nil) ?_
  · intro j σ τ w h hR
    match j, h, hR with
    | 0, h, hR => exact (h 0 (List.mem_singleton.2 rfl)).symm.trans hR
    | 1, h, hR => exact (h 1 (List.mem_singleton.2 rfl)).symm.trans hR
    | 2, h, hR => obtain ⟨A2, c2, e, hp⟩ := hR; exact ⟨A2, c2, (h 2 (List.mem_singleton.2 rfl)).symm.trans e, hp⟩
    | 3, h, hR => exact (h 3 (List.mem_singleton.2 rfl)).symm.trans hR
    | 4, h, hR => exact (h 4 (List.mem_singleton.2 rfl)).symm.trans hR
    | 5, h, hR => obtain ⟨g5, e, hp⟩ := hR; exact ⟨g5, (h 5 (List.mem_singleton.2 rfl)).symm.trans e, hp⟩
    | 6, h, hR => obtain ⟨A2, c2, g5, e, hp⟩ := hR; exact ⟨A2, c2, g5, (h 6 (List.mem_singleton.2 rfl)).symm.trans e, hp⟩
    | 7, h, hR => obtain ⟨g, e, hp⟩ := hR; exact ⟨g, (h 7 (List.mem_singleton.2 rfl)).symm.trans e, hp⟩
    | 8, h, hR => obtain ⟨g, A2, c2, g5, e, hp⟩ := hR; exact ⟨g, A2, c2, g5, (h 7 (List.mem_singleton.2 rfl)).symm.trans e, hp⟩
    | _ + 9, _, _ => exact trivial
  · intro j σ w w' hb hR
    match j, hR with
    | 0, hR => exact hR
    | 1, hR => exact hR
    | 2, hR => obtain ⟨A2, c2, e, hp⟩ := hR; exact ⟨A2, c2, e, hp.belowN hb⟩
    | 3, hR => exact hR
    | 4, hR => exact hR
    | 5, hR => obtain ⟨g5, e, hp⟩ := hR; exact ⟨g5, e, hp.belowN hb⟩
    | 6, hR => obtain ⟨A2, c2, g5, e, hp⟩ := hR; exact ⟨A2, c2, g5, e, hp.belowN hb⟩
    | 7, hR => obtain ⟨g, e, hg, x0, x1, x2, x3, x4, x5, x6, x7, x8, x9, hx⟩ := hR; exact ⟨g, e, hg, x0, x1, x2, x3, x4, x5, x6, x7, x8, x9, hx.below hb hx.lt⟩
    | 8, hR => obtain ⟨g, A2, c2, g5, e, hg, hx, hp⟩ := hR; exact ⟨g, A2, c2, g5, e, hg, hx.below hb hx.lt, hp.belowN hb⟩
    | _ + 9, _ => exact trivial
  · exact ⟨hB.drew, hz, hs, hG, hl, hhi, hM⟩
  · -- 0: Op.load 75 t8
    go_light
    intro L σ W' hcl hL hC hw
    clear hw
    have HC := Lib.hid hC
    obtain ⟨hB, hz, hs, hG, hl, hhi, hM⟩ := hC
    have ks := hs.cell
    clear hcl hL
    clear hB hz hs hG hl hhi hM
    refine OpGoes.step fun K hK => ?_
    unfold OpGoes
    go_simp
    obtain ⟨hB, hz, hs, hG, hl, hhi, hM⟩ := HC.out
    exact hK _ _ ⟨⟨hB, hz, hs, hG, hl, hhi, hM⟩, rfl, Below.refl _ _⟩
  · -- 1: Op.move t2
    go_light
    intro L σ W' hcl hL hC hw
    clear hw
    have HC := Lib.hid hC
    clear hC
    clear hcl hL
    refine OpGoes.step fun K hK => ?_
    unfold OpGoes
    go_simp
    obtain ⟨hB, hz, hs, hG, hl, hhi, hM⟩ := HC.out
    exact hK _ _ ⟨⟨hB, hz, hs, hG, hl, hhi, hM⟩, rfl, Below.refl _ _⟩
  · -- 2: Op.call { value (Operand.func 74), args := #[t19], argTypes := #[85] }
    go_light
    intro L σ W' hcl hL hC hw
    have e1 : σ 1 = .slice A n cap := hw 1 (by kernel_rfl)
    clear hw
    have HC := Lib.hid hC
    clear hC
    clear hcl hL
    refine OpGoes.step fun K hK => ?_
    unfold OpGoes
    go_simp
    obtain ⟨hB, hz, hs, hG, hl, hhi, hM⟩ := HC.out
    refine (l10ListsN js A n cap lo hi _ hl hhi hn HML.out).mono ?_
    rintro e w1 ⟨A2, c2, rfl, hO2, hb1⟩
    exact ⟨_, rfl, hK _ _ ⟨⟨bstep hB hB.size hb1, hz.below hb1 hz.lt, hs.below hb1 hs.lt, hG.below hb1 (Nat.le_trans hSM hM), hl.below hb1 hhi, Nat.le_trans hhi hb1.size, Nat.le_trans hM hb1.size⟩, ⟨A2, c2, rfl, ListsW.mono hO2 hM (Nat.le_refl _)⟩, hb1⟩⟩
  · -- 3: Op.move t2
    go_light
    intro L σ W' hcl hL hC hw
    clear hw
    have HC := Lib.hid hC
    clear hC
    clear hcl hL
    refine OpGoes.step fun K hK => ?_
    unfold OpGoes
    go_simp
    obtain ⟨hB, hz, hs, hG, hl, hhi, hM⟩ := HC.out
    exact hK _ _ ⟨⟨hB, hz, hs, hG, hl, hhi, hM⟩, rfl, Below.refl _ _⟩
  · -- 4: Op.call { builtin len, args := #[t21], argTypes := #[85] }
    go_light
    intro L σ W' hcl hL hC hw
    have e3 : σ 3 = .slice A n cap := hw 3 (by kernel_rfl)
    clear hw
    have HC := Lib.hid hC
    clear hC
    clear hcl hL
    refine OpGoes.step fun K hK => ?_
    unfold OpGoes
    go_simp
    obtain ⟨hB, hz, hs, hG, hl, hhi, hM⟩ := HC.out
    exact hK _ _ ⟨⟨hB, hz, hs, hG, hl, hhi, hM⟩, rfl, Below.refl _ _⟩
  · -- 5: Op.makeSlice 59 t22 t22
    go_light
    intro L σ W' hcl hL hC hw
    have e4 : σ 4 = .int .i64 ((n : Int)) := hw 4 (by kernel_rfl)
    clear hw
    have HC := Lib.hid hC
    clear hC
    clear hcl hL
    refine OpGoes.step fun K hK => ?_
    unfold OpGoes
    go_simp
    obtain ⟨hB, hz, hs, hG, hl, hhi, hM⟩ := HC.out
    have hb1 : Below W'.heap.size W' (W'.alloc (.cells (madeCells #[.int .i64 0] n) 2)) := (Below.refl _ _).alloc (Nat.le_refl _) _
    refine hK _ _ ⟨⟨bstep hB hB.size hb1, hz.below hb1 hz.lt, hs.below hb1 hs.lt, hG.below hb1 (Nat.le_trans hSM hM), hl.below hb1 hhi, Nat.le_trans hhi hb1.size, Nat.le_trans hM hb1.size⟩, ⟨W'.heap.size, rfl, ?_⟩, hb1⟩
    exact ⟨by simp, .inr ⟨W'.heap.size, rfl, by simp, Own.mono (by have := Own.made (e := 2) ic_len (by omega) (0 : Int) #[.int .i64 0] rfl (Nat.le_refl W'.heap.size) n (by unfold maxLen; omega); rwa [Nat.mul_one] at this) hM⟩⟩
  · -- 6: Op.build 88 #[(0, t18), (2, t20), (3, t23)]
    go_light
    intro L σ W' hcl hL hC hw
    have e0 : σ 0 = .agg #[.int .i64 q.1.rd, .int .i64 q.1.mo, .slice A1 n1 c1, .int .i64 q.1.fi, .int .i64 q.1.la] := hw 0 (by kernel_rfl)
    obtain ⟨A2, c2, e2, hp2⟩ : ∃ (A2 : Option Addr) (c2 : Nat), σ 2 = .slice A2 n c2 ∧ LstN M W' A2 n c2 js := hw 2 (by kernel_rfl)
    obtain ⟨g5, e5, hp5⟩ : ∃ (g5 : Nat), σ 5 = .slice (some ⟨g5, 0, none⟩) n n ∧ IntN M W' (some ⟨g5, 0, none⟩) n n (List.replicate n 0) := hw 5 (by kernel_rfl)
    clear hw
    have HC := Lib.hid hC
    clear hC
    clear hcl hL
    refine OpGoes.step fun K hK => ?_
    unfold OpGoes
    go_simp
    obtain ⟨hB, hz, hs, hG, hl, hhi, hM⟩ := HC.out
    exact hK _ _ ⟨⟨hB, hz, hs, hG, hl, hhi, hM⟩, ⟨A2, c2, g5, rfl, hp2, hp5⟩, Below.refl _ _⟩
  · -- 7: Op.alloc 88
    go_light
    intro L σ W' hcl hL hC hw
    clear hw
    have HC := Lib.hid hC
    clear hC
    clear hcl hL
    refine OpGoes.step fun K hK => ?_
    unfold OpGoes
    go_simp
    obtain ⟨hB, hz, hs, hG, hl, hhi, hM⟩ := HC.out
    have hb1 : Below W'.heap.size W' (W'.alloc (.cells #[.int .i64 0, .int .i64 0, .slice none 0 0, .int .i64 0, .int .i64 0, .slice none 0 0, .slice none 0 0, .slice none 0 0, .int .i64 0, .slice none 0 0] 88)) := (Below.refl _ _).alloc (Nat.le_refl _) _
    exact hK _ _ ⟨⟨bstep hB hB.size hb1, hz.below hb1 hz.lt, hs.below hb1 hs.lt, hG.below hb1 (Nat.le_trans hSM hM), hl.below hb1 hhi, Nat.le_trans hhi hb1.size, Nat.le_trans hM hb1.size⟩, ⟨_, rfl, hM, _, _, _, _, _, _, _, _, _, _, BoxAt.new _ _ _⟩, hb1, rfl, by simp⟩
  · -- 8: Op.store 88 t10 t24
    go_light
    intro L σ W' hcl hL hC hw hne
    obtain ⟨A2, c2, g5, e6, hp6⟩ : ∃ (A2 : Option Addr) (c2 g5 : Nat), σ 6 = .agg #[.int .i64 q.1.rd, .int .i64 q.1.mo, .slice A1 n1 c1, .int .i64 q.1.fi, .int .i64 q.1.la, .slice none 0 0, .slice A2 n c2, .slice (some ⟨g5, 0, none⟩) n n, .int .i64 0, .slice none 0 0] ∧ TwoN M W' A2 n c2 js g5 := hw 6 (by kernel_rfl)
    obtain ⟨g7, e7, hg7, x0, x1, x2, x3, x4, x5, x6, x7, x8, x9, hbox7⟩ : ∃ g7, σ 7 = .pointer (some ⟨g7, 0, none⟩) ∧ M ≤ g7 ∧ ∃ x0 x1 x2 x3 x4 x5 x6 x7 x8 x9, BoxAt W' g7 #[x0, x1, x2, x3, x4, x5, x6, x7, x8, x9] 88 := hw 7 (by kernel_rfl)
    clear hw hne
    have HC := Lib.hid hC
    clear hC
    clear hcl hL
    have kc_ := hbox7.cell
    have kf_ := hbox7.frozen
    refine OpGoes.step fun K hK => ?_
    unfold OpGoes
    go_simp
    obtain ⟨hB, hz, hs, hG, hl, hhi, hM⟩ := HC.out
    have hset := sets_all (us := [.int .i64 q.1.rd, .int .i64 q.1.mo, .slice A1 n1 c1, .int .i64 q.1.fi, .int .i64 q.1.la, .slice none 0 0, .slice A2 n c2, .slice (some ⟨g5, 0, none⟩) n n, .int .i64 0, .slice none 0 0]) hbox7 rfl
    refine hK undef (setCells W' g7 0 [.int .i64 q.1.rd, .int .i64 q.1.mo, .slice A1 n1 c1, .int .i64 q.1.fi, .int .i64 q.1.la, .slice none 0 0, .slice A2 n c2, .slice (some ⟨g5, 0, none⟩) n n, .int .i64 0, .slice none 0 0]) ⟨⟨(Below.setCells (by omega) [.int .i64 q.1.rd, .int .i64 q.1.mo, .slice A1 n1 c1, .int .i64 q.1.fi, .int .i64 q.1.la, .slice none 0 0, .slice A2 n c2, .slice (some ⟨g5, 0, none⟩) n n, .int .i64 0, .slice none 0 0] 0 hB), (BoxAt.sets_ne [.int .i64 q.1.rd, .int .i64 q.1.mo, .slice A1 n1 c1, .int .i64 q.1.fi, .int .i64 q.1.la, .slice none 0 0, .slice A2 n c2, .slice (some ⟨g5, 0, none⟩) n n, .int .i64 0, .slice none 0 0] 0 hz (by omega)), (BoxAt.sets_ne [.int .i64 q.1.rd, .int .i64 q.1.mo, .slice A1 n1 c1, .int .i64 q.1.fi, .int .i64 q.1.la, .slice none 0 0, .slice A2 n c2, .slice (some ⟨g5, 0, none⟩) n n, .int .i64 0, .slice none 0 0] 0 hs (by omega)), ((RgsW.setsT hG hbox7 (by decide) (by decide) [.int .i64 q.1.rd, .int .i64 q.1.mo, .slice A1 n1 c1, .int .i64 q.1.fi, .int .i64 q.1.la, .slice none 0 0, .slice A2 n c2, .slice (some ⟨g5, 0, none⟩) n n, .int .i64 0, .slice none 0 0] 0)), (ListsW.setsT hl hbox7 (by decide) (by decide) [.int .i64 q.1.rd, .int .i64 q.1.mo, .slice A1 n1 c1, .int .i64 q.1.fi, .int .i64 q.1.la, .slice none 0 0, .slice A2 n c2, .slice (some ⟨g5, 0, none⟩) n n, .int .i64 0, .slice none 0 0] 0), (size_sts hhi [.int .i64 q.1.rd, .int .i64 q.1.mo, .slice A1 n1 c1, .int .i64 q.1.fi, .int .i64 q.1.la, .slice none 0 0, .slice A2 n c2, .slice (some ⟨g5, 0, none⟩) n n, .int .i64 0, .slice none 0 0] 0), (size_sts hM [.int .i64 q.1.rd, .int .i64 q.1.mo, .slice A1 n1 c1, .int .i64 q.1.fi, .int .i64 q.1.la, .slice none 0 0, .slice A2 n c2, .slice (some ⟨g5, 0, none⟩) n n, .int .i64 0, .slice none 0 0] 0)⟩, ⟨g7, A2, c2, g5, e7, hg7, hset, (TwoN.setsC hp6 hbox7 [.int .i64 q.1.rd, .int .i64 q.1.mo, .slice A1 n1 c1, .int .i64 q.1.fi, .int .i64 q.1.la, .slice none 0 0, .slice A2 n c2, .slice (some ⟨g5, 0, none⟩) n n, .int .i64 0, .slice none 0 0] 0)⟩, Nat.le_of_eq (sets_size _ _ _).symm, fun j hj hn hR => ?_⟩
    match j, hj, hn, hR with
    | 0, _, _, hR => exact (show σ 0 = .agg #[.int .i64 q.1.rd, .int .i64 q.1.mo, .slice A1 n1 c1, .int .i64 q.1.fi, .int .i64 q.1.la] from hR)
    | 1, _, _, hR => exact (show σ 1 = .slice A n cap from hR)
    | 2, _, _, hR => obtain ⟨A2_x, c2_x, e, hp⟩ := hR; exact ⟨A2_x, c2_x, e, (LstN.setsC hp hbox7 [.int .i64 q.1.rd, .int .i64 q.1.mo, .slice A1 n1 c1, .int .i64 q.1.fi, .int .i64 q.1.la, .slice none 0 0, .slice A2 n c2, .slice (some ⟨g5, 0, none⟩) n n, .int .i64 0, .slice none 0 0] 0)⟩
    | 3, _, _, hR => exact (show σ 3 = .slice A n cap from hR)
    | 4, _, _, hR => exact (show σ 4 = .int .i64 ((n : Int)) from hR)
    | 5, _, _, hR => obtain ⟨g5_x, e, hp⟩ := hR; exact ⟨g5_x, e, (IntN.setsC hp hbox7 [.int .i64 q.1.rd, .int .i64 q.1.mo, .slice A1 n1 c1, .int .i64 q.1.fi, .int .i64 q.1.la, .slice none 0 0, .slice A2 n c2, .slice (some ⟨g5, 0, none⟩) n n, .int .i64 0, .slice none 0 0] 0)⟩
    | 6, _, _, hR => obtain ⟨A2_x, c2_x, g5_x, e, hp⟩ := hR; exact ⟨A2_x, c2_x, g5_x, e, (TwoN.setsC hp hbox7 [.int .i64 q.1.rd, .int .i64 q.1.mo, .slice A1 n1 c1, .int .i64 q.1.fi, .int .i64 q.1.la, .slice none 0 0, .slice A2 n c2, .slice (some ⟨g5, 0, none⟩) n n, .int .i64 0, .slice none 0 0] 0)⟩
    | 7, _, _, _ => exact ⟨g7, e7, hg7, _, _, _, _, _, _, _, _, _, _, hset⟩
    | 8, hj, _, _ => exact absurd rfl hj
    | _ + 9, _, _, _ => exact trivial
  · intro σ L W' hall hC hR
    obtain ⟨hB, hz, hs, hG, hl, hhi, hM⟩ := hC
    obtain ⟨g7, A2, c2, g5, e7, hg8, s8, hp8⟩ : ∃ (g7 : Nat) (A2 : Option Addr) (c2 g5 : Nat), σ 7 = .pointer (some ⟨g7, 0, none⟩) ∧ M ≤ g7 ∧ BoxAt W' g7 #[.int .i64 q.1.rd, .int .i64 q.1.mo, .slice A1 n1 c1, .int .i64 q.1.fi, .int .i64 q.1.la, .slice none 0 0, .slice A2 n c2, .slice (some ⟨g5, 0, none⟩) n n, .int .i64 0, .slice none 0 0] 88 ∧ TwoN M W' A2 n c2 js g5 := hR 8 (by decide)
    clear hR hs hl hhi hmk
    simp only [lexAll]
    go_simp
    go_step
    go_wp2
    generalize hC7 : g7 = C7 at *
    have hNC : w.heap.size < C7 := by omega
    have hJ : LstN w.heap.size W' A2 n c2 js := ListsW.mono hp8.1 (by omega) (Nat.le_refl _)
    have hI : IntN w.heap.size W' (some ⟨g5, 0, none⟩) n n (List.replicate n 0) := SlW.mono hp8.2 (by omega) (Nat.le_refl _)
    go_loopw [11] (fun s11 W => ∃ (i : Nat) (B : Option Addr) (c : Nat), i ≤ n ∧ s11 = .int .i64 i ∧ Below w.heap.size w W ∧ BoxAt W w.heap.size #[.int .i64 0, .int .i64 0, .slice none 0 0, .int .i64 0, .int .i64 0, .slice none 0 0, .slice none 0 0, .slice none 0 0, .int .i64 0, .slice none 0 0] 88 ∧ RgsW w.heap.size S1 W A1 n1 c1 q.1.rs ∧ LstN w.heap.size W A2 n c2 js ∧ IntN w.heap.size W (some ⟨g5, 0, none⟩) n n (List.replicate n 0) ∧ BoxAt W C7 #[.int .i64 q.1.rd, .int .i64 q.1.mo, .slice A1 n1 c1, .int .i64 q.1.fi, .int .i64 q.1.la, .slice B i c, .slice A2 n c2, .slice (some ⟨g5, 0, none⟩) n n, .int .i64 0, .slice none 0 0] 88 ∧ W.ownsRow (C7 + 1) 41 12 (.slice B i c) i ((List.replicate i resting).flatMap Hd.cs)) (fun s11 _ => n - (intOf s11).toNat)
    case atStart =>
      exact ⟨0, none, 0, Nat.zero_le _, rfl, hB, hz, hG, hJ, hI, s8, World.ownsRow_nil _ _ _ _⟩
    case round =>
      clear hB hz hG hJ hI s8 hM hp8
      obtain ⟨i, B, c, hin, rfl, hB, hz, hG, hJ, hI, hc, hO⟩ := hrel
      have lC := hc.lt
      by_cases hlt : i < n
      · have g1 : (i : Int) < (n : Int) := by omega
        have g2 : (0 : Int) ≤ (i : Int) := by omega
        obtain ⟨M, hMe⟩ : ∃ M, M = wr.heap.size := ⟨_, rfl⟩
        have hM : M ≤ wr.heap.size := by omega
        have hSM : S1 ≤ M := by omega
        have hCM : C7 < M := by omega
        have hNM2 : w.heap.size < M := by omega
        have hRB : ∀ k, (Value.slice B i c).ownBlock = some k → k < M := fun k hk => by have := (hO.lt k hk).2; omega
        clear hMe
        go_upto_region 6 with fail
        refine wp_region2 (fun w w' => Below w.heap.size w w') (fun _ _ h => h.size) (fun L W' => Below w.heap.size w W' ∧ BoxAt W' w.heap.size #[.int .i64 0, .int .i64 0, .slice none 0 0, .int .i64 0, .int .i64 0, .slice none 0 0, .slice none 0 0, .slice none 0 0, .int .i64 0, .slice none 0 0] 88 ∧ RgsW w.heap.size S1 W' A1 n1 c1 q.1.rs ∧ LstN w.heap.size W' A2 n c2 js ∧ IntN w.heap.size W' (some ⟨g5, 0, none⟩) n n (List.replicate n 0) ∧ M ≤ W'.heap.size ∧ (L 4 = false → W'.ownsRow (C7 + 1) 41 12 (.slice B i c) i ((List.replicate i resting).flatMap Hd.cs)) ∧ (∃ x0, BoxAt W' C7 #[.int .i64 q.1.rd, .int .i64 q.1.mo, .slice A1 n1 c1, .int .i64 q.1.fi, .int .i64 q.1.la, x0, .slice A2 n c2, .slice (some ⟨g5, 0, none⟩) n n, .int .i64 0, .slice none 0 0] 88) ∧ (L 6 = false → BoxAt W' C7 #[.int .i64 q.1.rd, .int .i64 q.1.mo, .slice A1 n1 c1, .int .i64 q.1.fi, .int .i64 q.1.la, .slice B i c, .slice A2 n c2, .slice (some ⟨g5, 0, none⟩) n n, .int .i64 0, .slice none 0 0] 88)) (ncBR q A1 A2 B n n1 c1 c2 g5 i c C7 M) ncBK ncBS (by kernel_rfl) (by kernel_rfl) ?_ ?_ ?_
          (.grow rfl ?_ <| .grow rfl ?_ <| .grow rfl ?_ <| .grow rfl ?_ <| .store rfl ?_ <| .grow rfl ?_ <| .store rfl ?_ <| .nil) ?_
        · intro j σ τ w h hR
          match j, h, hR with
          | 0, h, hR => exact (h 0 (List.mem_singleton.2 rfl)).symm.trans hR
          | 1, h, hR => exact (h 1 (List.mem_singleton.2 rfl)).symm.trans hR
          | 2, h, hR => exact (h 2 (List.mem_singleton.2 rfl)).symm.trans hR
          | 3, h, hR => obtain ⟨g3, e, hp⟩ := hR; exact ⟨g3, (h 3 (List.mem_singleton.2 rfl)).symm.trans e, hp⟩
          | 4, h, hR => obtain ⟨B2, cc, e, hp⟩ := hR; exact ⟨B2, cc, (h 4 (List.mem_singleton.2 rfl)).symm.trans e, hp⟩
          | 5, h, hR => exact (h 5 (List.mem_singleton.2 rfl)).symm.trans hR
          | 6, _, hR => exact hR
          | _ + 7, _, _ => exact trivial
        · intro j σ w w' hb hR
          match j, hR with
          | 0, hR => exact hR
          | 1, hR => exact hR
          | 2, hR => exact hR
          | 3, hR => obtain ⟨g3, e, hp⟩ := hR; exact ⟨g3, e, ⟨hp.1.below hb hp.1.lt, hp.2⟩⟩
          | 4, hR => obtain ⟨B2, cc, e, hp⟩ := hR; exact ⟨B2, cc, e, own_keep hp hb⟩
          | 5, hR => exact hR
          | 6, hR => obtain ⟨B2, cc, hx, hp⟩ := hR; exact ⟨B2, cc, hx.below hb hx.lt, own_keep hp hb⟩
          | _ + 7, _ => exact trivial
        · exact ⟨hB.drew, hz, hG, hJ, hI, hM, fun _ => hO, ⟨_, hc⟩, fun _ => hc⟩
        · -- 0: Op.fieldAddr 88 t10 1
          go_light
          intro L σ W' hcl hL hC hw
          clear hw
          have HC := Lib.hid hC
          clear hC
          clear hcl hL
          refine OpGoes.step fun K hK => ?_
          unfold OpGoes
          go_simp
          obtain ⟨hB, hz, hG, hJ, hI, hM, hO, ⟨hc_x0, hc⟩, hc_o⟩ := HC.out
          exact hK _ _ ⟨⟨hB, hz, hG, hJ, hI, hM, fun h => (hO (by simpa [upd] using h)), ⟨_, hc⟩, fun h => hc_o (by simpa [upd] using h)⟩, rfl, Below.refl _ _⟩
        · -- 1: Op.load 84 t31
          go_light
          intro L σ W' hcl hL hC hw
          have e0 : σ 0 = .pointer (some ⟨C7, 5, none⟩) := hw 0 (by kernel_rfl)
          clear hw
          have HC := Lib.hid hC
          obtain ⟨hB, hz, hG, hJ, hI, hM, hO, ⟨hc_x0, hc⟩, hc_o⟩ := hC
          have kc := (hc_o (hcl.not (j := 6) (k := 4) (by kernel_rfl) (hcl.not (j := 4) (k := 1) (by kernel_rfl) hL))).cell
          clear hcl hL
          clear hB hz hG hJ hI hM hO hc hc_o
          refine OpGoes.step fun K hK => ?_
          unfold OpGoes
          go_simp
          obtain ⟨hB, hz, hG, hJ, hI, hM, hO, ⟨hc_x0, hc⟩, hc_o⟩ := HC.out
          exact hK _ _ ⟨⟨hB, hz, hG, hJ, hI, hM, fun h => (hO (by simpa [upd] using h)), ⟨_, hc⟩, fun h => hc_o (by simpa [upd] using h)⟩, rfl, Below.refl _ _⟩
        · -- 2: Op.call { value (Operand.func 29), args := #[], argTypes := #[] }
          go_light
          intro L σ W' hcl hL hC hw
          clear hw
          have HC := Lib.hid hC
          clear hC
          clear hcl hL
          refine OpGoes.step fun K hK => ?_
          unfold OpGoes
          go_simp
          obtain ⟨hB, hz, hG, hJ, hI, hM, hO, ⟨hc_x0, hc⟩, hc_o⟩ := HC.out
          refine (sresting_any _).mono ?_
          rintro e w1 ⟨rfl, hb1⟩
          exact ⟨_, rfl, hK _ _ ⟨⟨bstep hB hB.size hb1, hz.below hb1 hz.lt, hG.below hb1 (Nat.le_trans hSM hM), hJ.belowN hb1, hI.belowN hb1, Nat.le_trans hM hb1.size, fun h => own_keep (hO (by simpa [upd] using h)) hb1, ⟨_, hc.below hb1 hc.lt⟩, fun h => (hc_o (by simpa [upd] using h)).below hb1 (hc_o (by simpa [upd] using h)).lt⟩, rfl, hb1⟩⟩
        · -- 3: Op.buildSlice 84 1 #[(0, t33)]
          go_light
          intro L σ W' hcl hL hC hw
          have e2 : σ 2 = .agg #[.int .i64 resting.at_, .int .i64 resting.v, .int .i64 resting.r, .int .i64 resting.t, .bool resting.seen.s, .int .i64 resting.seen.n, .bool resting.seen.f, .int .i64 resting.seen.v, .int .i64 resting.tr, .int .i64 resting.sp, .bool resting.ag, .int .i64 resting.re] := hw 2 (by kernel_rfl)
          clear hw
          have HC := Lib.hid hC
          clear hC
          clear hcl hL
          refine OpGoes.step fun K hK => ?_
          unfold OpGoes
          go_simp
          obtain ⟨hB, hz, hG, hJ, hI, hM, hO, ⟨hc_x0, hc⟩, hc_o⟩ := HC.out
          have hb1 : Below W'.heap.size W' (W'.alloc (.cells #[.int .i64 resting.at_, .int .i64 resting.v, .int .i64 resting.r, .int .i64 resting.t, .bool resting.seen.s, .int .i64 resting.seen.n, .bool resting.seen.f, .int .i64 resting.seen.v, .int .i64 resting.tr, .int .i64 resting.sp, .bool resting.ag, .int .i64 resting.re] 41)) := (Below.refl _ _).alloc (Nat.le_refl _) _
          exact hK _ _ ⟨⟨bstep hB hB.size hb1, hz.below hb1 hz.lt, hG.below hb1 (Nat.le_trans hSM hM), hJ.belowN hb1, hI.belowN hb1, Nat.le_trans hM hb1.size, fun h => own_keep (hO (by simpa [upd] using h)) hb1, ⟨_, hc.below hb1 hc.lt⟩, fun h => (hc_o (by simpa [upd] using h)).below hb1 (hc_o (by simpa [upd] using h)).lt⟩, ⟨W'.heap.size, rfl, BoxAt.new _ _ _, hM⟩, hb1⟩
        · -- 4: Op.call { builtin append, args := #[t32, t34], argTypes := #[84, 84] }
          go_light
          intro L σ W' hcl hL hC hw hne
          have e1 : σ 1 = .slice B i c := hw 1 (by kernel_rfl)
          obtain ⟨g3, e3, hp3⟩ : ∃ (g3 : Nat), σ 3 = .slice (some ⟨g3, 0, none⟩) 1 1 ∧ BoxAt W' g3 #[.int .i64 resting.at_, .int .i64 resting.v, .int .i64 resting.r, .int .i64 resting.t, .bool resting.seen.s, .int .i64 resting.seen.n, .bool resting.seen.f, .int .i64 resting.seen.v, .int .i64 resting.tr, .int .i64 resting.sp, .bool resting.ag, .int .i64 resting.re] 41 ∧ M ≤ g3 := hw 3 (by kernel_rfl)
          clear hw hne
          obtain ⟨hB, hz, hG, hJ, hI, hM, hO, ⟨hc_x0, hc⟩, hc_o⟩ := hC
          have hO4 := (hO hL)
          clear hcl hL
          refine OpGoes.append_own rfl (.tmp 32) (.tmp 34) _ rfl (C7 + 1) 41 iH _ 12 96 Try.underlying84 HI.out HZ0.out HZ1.out HZ2.out rfl (by omega) (.slice B i c) i _ (by go_simp) hO4 ⟨g3, 0, none⟩ 1 1 [.int .i64 resting.at_, .int .i64 resting.v, .int .i64 resting.r, .int .i64 resting.t, .bool resting.seen.s, .int .i64 resting.seen.n, .bool resting.seen.f, .int .i64 resting.seen.v, .int .i64 resting.tr, .int .i64 resting.sp, .bool resting.ag, .int .i64 resting.re] (by go_simp) rfl (news_box hp3.1) (by intro u hu; simp at hu; rcases hu with rfl | rfl | rfl | rfl | rfl | rfl | rfl | rfl | rfl | rfl | rfl | rfl <;> rfl) (by unfold maxLen; omega) (by omega) (by omega) ?_
          intro v' w' hO' hg hat
          have kT : ∀ T, 41 ≠ T → KeepT T W' w' := fun T hT => KeepT.grown hO4 hg hT
          obtain ⟨B2, cc, rfl, hP'⟩ := SlW.of_own (f := Hd.cs) (l := List.replicate i resting ++ [resting]) (n := i + 1) (by rw [List.flatMap_append]; exact hO') (by simp)
          have hP2 : SlW Hd.cs 12 41 (C7 + 1) w'.heap.size w' B2 (i + 1) cc (List.replicate (i + 1) resting) := by rw [List.replicate_succ']; exact hP'
          refine ⟨⟨Below.grown hB hg (Nat.le_trans (by omega) hM) (fun k hk => by have := (hO4.lt k hk).1; omega), hz.keepT (kT _ (by decide)), hG.keepT (kT _ (by decide)) (kT _ (by decide)), hJ.keepT (kT _ (by decide)) (kT _ (by decide)) hg.size, hI.keepT (kT _ (by decide)) hg.size, Nat.le_trans hM hg.size, fun h => absurd h (by simp [upd]), ⟨_, hc.keepT (kT _ (by decide))⟩, fun h => (hc_o (by simpa [upd] using h)).keepT (kT _ (by decide))⟩, ⟨B2, cc, rfl, SlW.own hP2 Hd.cs_len⟩, hg.size, fun j hj hn hR => ?_⟩
          match j, hj, hn, hR with
          | 0, _, _, hR => exact (show σ 0 = .pointer (some ⟨C7, 5, none⟩) from hR)
          | 1, _, _, hR => exact (show σ 1 = .slice B i c from hR)
          | 2, _, _, hR => exact (show σ 2 = .agg #[.int .i64 resting.at_, .int .i64 resting.v, .int .i64 resting.r, .int .i64 resting.t, .bool resting.seen.s, .int .i64 resting.seen.n, .bool resting.seen.f, .int .i64 resting.seen.v, .int .i64 resting.tr, .int .i64 resting.sp, .bool resting.ag, .int .i64 resting.re] from hR)
          | 3, _, _, hR => obtain ⟨g3, e, hp⟩ := hR; exact ⟨g3, e, ⟨hp.1.grown2 hg (fun e => by have := hRB _ e; have := hp.2; omega), hp.2⟩⟩
          | 4, hj, _, _ => exact absurd rfl hj
          | 5, _, _, hR => exact (show σ 5 = .pointer (some ⟨C7, 5, none⟩) from hR)
          | 6, _, hn, _ => exact absurd (hn.symm.trans (show waits _ _ _ = true by kernel_rfl)) (by decide)
          | _ + 7, _, _, _ => exact trivial
        · -- 5: Op.fieldAddr 88 t10 1
          go_light
          intro L σ W' hcl hL hC hw
          clear hw
          have HC := Lib.hid hC
          clear hC
          clear hcl hL
          refine OpGoes.step fun K hK => ?_
          unfold OpGoes
          go_simp
          obtain ⟨hB, hz, hG, hJ, hI, hM, hO, ⟨hc_x0, hc⟩, hc_o⟩ := HC.out
          exact hK _ _ ⟨⟨hB, hz, hG, hJ, hI, hM, fun h => (hO (by simpa [upd] using h)), ⟨_, hc⟩, fun h => hc_o (by simpa [upd] using h)⟩, rfl, Below.refl _ _⟩
        · -- 6: Op.store 84 t36 t35
          go_light
          intro L σ W' hcl hL hC hw hne
          obtain ⟨B2, cc, e4, hp4⟩ : ∃ (B2 : Option Addr) (cc : Nat), σ 4 = .slice B2 (i + 1) cc ∧ W'.ownsRow (C7 + 1) 41 12 (.slice B2 (i + 1) cc) (i + 1) ((List.replicate (i + 1) resting).flatMap Hd.cs) := hw 4 (by kernel_rfl)
          have e5 : σ 5 = .pointer (some ⟨C7, 5, none⟩) := hw 5 (by kernel_rfl)
          clear hw hne
          have HC := Lib.hid hC
          obtain ⟨hB, hz, hG, hJ, hI, hM, hO, ⟨hc_x0, hc⟩, hc_o⟩ := hC
          clear hcl hL
          have kc_ := hc.cell
          have kf_ := hc.frozen
          clear hB hz hG hJ hI hM hO hc hc_o
          refine OpGoes.step fun K hK => ?_
          unfold OpGoes
          go_simp
          obtain ⟨hB, hz, hG, hJ, hI, hM, hO, ⟨hc_x0, hc⟩, hc_o⟩ := HC.out
          have hset := (hc.set 5 (.slice B2 (i + 1) cc))
          simp only [List.setIfInBounds_toArray, List.set_cons_zero, List.set_cons_succ] at hset
          refine hK _ _ ⟨⟨(hB.setCell (by dsimp only; omega) _), (hz.set_ne (by omega) _ _), (hG.keepT (.set hc (by decide) _ _) (.set hc (by decide) _ _)), (LstN.setsC hJ hc [_] _), (IntN.setsC hI hc [_] _), (size_st hM), fun h => (ownsRow_setCell_below (hO (by simpa [upd] using h)) (by dsimp only; omega) _), ⟨_, hset⟩, fun h => absurd h (by simp [upd])⟩, ⟨B2, cc, hset, (ownsRow_setCell_below hp4 (by dsimp only; omega) _)⟩, by simp, fun j hj hn hR => ?_⟩
          match j, hj, hn, hR with
          | 0, _, _, hR => exact (show σ 0 = .pointer (some ⟨C7, 5, none⟩) from hR)
          | 1, _, _, hR => exact (show σ 1 = .slice B i c from hR)
          | 2, _, _, hR => exact (show σ 2 = .agg #[.int .i64 resting.at_, .int .i64 resting.v, .int .i64 resting.r, .int .i64 resting.t, .bool resting.seen.s, .int .i64 resting.seen.n, .bool resting.seen.f, .int .i64 resting.seen.v, .int .i64 resting.tr, .int .i64 resting.sp, .bool resting.ag, .int .i64 resting.re] from hR)
          | 3, _, _, hR => obtain ⟨g3_x, e, hp⟩ := hR; exact ⟨g3_x, e, (⟨hp.1.set_ne (by have := hp.2; omega) _ _, hp.2⟩)⟩
          | 4, _, _, hR => obtain ⟨B2_x, cc_x, e, hp⟩ := hR; exact ⟨B2_x, cc_x, e, (ownsRow_setCell_below hp (by dsimp only; omega) _)⟩
          | 5, _, _, hR => exact (show σ 5 = .pointer (some ⟨C7, 5, none⟩) from hR)
          | 6, hj, _, _ => exact absurd rfl hj
          | _ + 7, _, _, _ => exact trivial
        · intro σ L W' hall hC hR
          obtain ⟨hB, hz, hG, hJ, hI, hM, hO, ⟨hc_x0, hc⟩, hc_o⟩ := hC
          obtain ⟨B2, cc, s6, hp6⟩ : ∃ (B2 : Option Addr) (cc : Nat), BoxAt W' C7 #[.int .i64 q.1.rd, .int .i64 q.1.mo, .slice A1 n1 c1, .int .i64 q.1.fi, .int .i64 q.1.la, .slice B2 (i + 1) cc, .slice A2 n c2, .slice (some ⟨g5, 0, none⟩) n n, .int .i64 0, .slice none 0 0] 88 ∧ W'.ownsRow (C7 + 1) 41 12 (.slice B2 (i + 1) cc) (i + 1) ((List.replicate (i + 1) resting).flatMap Hd.cs) := hR 6 (by decide)
          clear hR
          simp only [lexAll]
          go_simp
          go_step
          go_wp2
          go_roundw
          case rel =>
            go_light
            exact ⟨i + 1, B2, cc, by omega, by go_num, hB, hz, hG, hJ, hI, s6, hp6⟩
          case measure => simp [intOf]; omega
      · have g1 : ¬ (i : Int) < (n : Int) := by omega
        obtain rfl : n = i := by omega
        have hH := SlW.of_own' (f := Hd.cs) hO (by simp)
        have HCW := Lib.hid (show CrW w.heap.size wr.heap.size wr (newC0 rd mo js) (⟨⟨A1, n1, c1⟩, ⟨B, n, c⟩, ⟨A2, n, c2⟩, ⟨some ⟨g5, 0, none⟩, n, n⟩, ⟨none, 0, 0⟩⟩ : CrL) by
          refine ⟨?_, ?_, ?_, ?_, SlW.nil⟩
          · show RgsW _ _ _ _ _ _ (newStore rd mo).1.rs
            rw [HQ.out]; exact hG.mono (Nat.le_refl _) (by omega)
          · show HdsW _ _ _ _ _ _ (List.replicate js.length resting)
            rw [HLL.out]; exact SlW.mono hH (by omega) (Nat.le_refl _)
          · exact hJ
          · show IntsW _ _ _ _ _ _ (List.replicate js.length 0)
            rw [HLL.out]; exact hI)
        cases hq2 : q.2
        · have HV := Lib.hid (show newCrew rd mo js = (.zero, false) by unfold newCrew; rw [HQ.out, hq2]; rfl)
          have kz := hz.cell
          have fz := hz.frozen
          go_wp2
          refine bodyPost_ret (v := .tuple #[crV .zero (⟨⟨none, 0, 0⟩, ⟨none, 0, 0⟩, ⟨none, 0, 0⟩, ⟨none, 0, 0⟩, ⟨none, 0, 0⟩⟩ : CrL), .bool false]) (by simp [results, Try.results69, go_sem, kz, crV, Cr.zero, St.zero]) rfl ⟨(⟨⟨none, 0, 0⟩, ⟨none, 0, 0⟩, ⟨none, 0, 0⟩, ⟨none, 0, 0⟩, ⟨none, 0, 0⟩⟩ : CrL), by rw [HV.out], ?_, ?_⟩
          · rw [HV.out]
            exact ⟨RgsW.nil, SlW.nil, ListsW.nil, SlW.nil, SlW.nil⟩
          · exact Below.setCells (by omega) (crCs .zero (⟨⟨none, 0, 0⟩, ⟨none, 0, 0⟩, ⟨none, 0, 0⟩, ⟨none, 0, 0⟩, ⟨none, 0, 0⟩⟩ : CrL)) 0 hB
        have HFIT := Lib.hid (show CrFit (newC0 rd mo js) from by
          have hns : Neat (newStore rd mo).1 ∨ (newStore rd mo).1 = .zero := newStore_neat rd mo
          refine ⟨?_, ?_, ?_, ?_, HML.out, ?_, by show (0 : Nat) ≤ _; omega⟩
          · show (newStore rd mo).1.rs.length ≤ _
            rcases hns with h | h
            · have := h.2.1; omega
            · rw [h]; decide
          · show ∀ r ∈ (newStore rd mo).1.rs, r.ps.length ≤ _
            rcases hns with h | h
            · exact h.len
            · rw [h]; intro r hr; cases hr
          · show (List.replicate js.length resting).length ≤ _
            rw [List.length_replicate, HLL.out]; exact hn
          · show js.length ≤ _
            rw [HLL.out]; exact hn
          · show (List.replicate js.length (0 : Int)).length ≤ _
            rw [List.length_replicate, HLL.out]; exact hn)
        have HCA := Lib.hid (show (newC0 rd mo js).st = q.1 by show (newStore rd mo).1 = q.1; rw [HQ.out])
        have hcon := screwOk_any (newC0 rd mo js) (⟨⟨A1, n1, c1⟩, ⟨B, n, c⟩, ⟨A2, n, c2⟩, ⟨some ⟨g5, 0, none⟩, n, n⟩, ⟨none, 0, 0⟩⟩ : CrL) w.heap.size wr.heap.size wr HCW.out (Nat.le_refl _) HFIT.out
        unfold crV at hcon
        rw [HCA.out] at hcon
        have HCO := Lib.hid hcon; clear hcon
        have kc := hc.cell
        go_wp2_with fail
        clear kc
        refine (HCO.out).mono ?_
        rintro e w8 ⟨rfl, hb8⟩
        have h78 := hb8.size
        have hC8 := HCW.out.below hb8 (Nat.le_refl _)
        replace hz := hz.below hb8 hz.lt
        replace hc := hc.below hb8 hc.lt
        replace hB := bstep hB hB.size hb8
        clear hb8 hG hJ hI hO hH
        have kc := hc.cell
        have kz := hz.cell
        have fz := hz.frozen
        cases hcr : crOk (newC0 rd mo js)
        · have HV := Lib.hid (show newCrew rd mo js = (.zero, false) by unfold newCrew; rw [hcr]; simp)
          go_wp2
          refine bodyPost_ret (v := .tuple #[crV .zero (⟨⟨none, 0, 0⟩, ⟨none, 0, 0⟩, ⟨none, 0, 0⟩, ⟨none, 0, 0⟩, ⟨none, 0, 0⟩⟩ : CrL), .bool false]) (by simp [results, Try.results69, go_sem, kz, crV, Cr.zero, St.zero]) rfl ⟨(⟨⟨none, 0, 0⟩, ⟨none, 0, 0⟩, ⟨none, 0, 0⟩, ⟨none, 0, 0⟩, ⟨none, 0, 0⟩⟩ : CrL), by rw [HV.out], ?_, ?_⟩
          · rw [HV.out]
            exact ⟨RgsW.nil, SlW.nil, ListsW.nil, SlW.nil, SlW.nil⟩
          · exact Below.setCells (by omega) (crCs .zero (⟨⟨none, 0, 0⟩, ⟨none, 0, 0⟩, ⟨none, 0, 0⟩, ⟨none, 0, 0⟩, ⟨none, 0, 0⟩⟩ : CrL)) 0 hB
        · have HV := Lib.hid (show newCrew rd mo js = (newC0 rd mo js, true) by unfold newCrew; rw [HQ.out, hq2, hcr]; rfl)
          go_wp2
          refine bodyPost_ret (v := .tuple #[crV (newC0 rd mo js) (⟨⟨A1, n1, c1⟩, ⟨B, n, c⟩, ⟨A2, n, c2⟩, ⟨some ⟨g5, 0, none⟩, n, n⟩, ⟨none, 0, 0⟩⟩ : CrL), .bool true]) (by unfold crV; rw [HCA.out]; simp [results, Try.results69, go_sem, kz, newC0]) rfl ⟨(⟨⟨A1, n1, c1⟩, ⟨B, n, c⟩, ⟨A2, n, c2⟩, ⟨some ⟨g5, 0, none⟩, n, n⟩, ⟨none, 0, 0⟩⟩ : CrL), by rw [HV.out], ?_, ?_⟩
          · rw [HV.out]
            exact (CrW.setsC hC8 hz [.int .i64 q.1.rd, .int .i64 q.1.mo, .slice A1 n1 c1, .int .i64 q.1.fi, .int .i64 q.1.la, .slice B n c, .slice A2 n c2, .slice (some ⟨g5, 0, none⟩) n n, .int .i64 0, .slice none 0 0] 0).mono (Nat.le_refl _) (by simp; omega)
          · exact Below.setCells (by omega) [.int .i64 q.1.rd, .int .i64 q.1.mo, .slice A1 n1 c1, .int .i64 q.1.fi, .int .i64 q.1.la, .slice B n c, .slice A2 n c2, .slice (some ⟨g5, 0, none⟩) n n, .int .i64 0, .slice none 0 0] 0 hB
end Go.Proofs.Ytbdgkmamieagfaa

/-
  TakeTicket and PutTicket of the program.
-/
import Derived.Test.YtbpjhdoldodlnaaDoorTicA
namespace Go.Proofs.YtbpjhdoldodlnaaDoor
open Go.RowKit
set_option linter.unusedVariables false
attribute [local go_sem] OpUpon
attribute [local go_sem ↓] Go.wp_at_zero Go.wp_at_succ

def tk_takeR (s : St) (A : Option Addr) (n cap N : Nat) (z x : Int) (j : Nat) (σ : Nat → Value) (w : World) : Prop :=
  match j with
  | 0 => σ 0 = .agg #[.int .i64 s.rd, .int .i64 s.mo, .slice A n cap, .int .i64 s.fi, .int .i64 s.la]
  | 1 => σ 1 = .int .i64 z
  | 2 => σ 2 = .func (.func 66) #[] #[.pointer (some ⟨N + 1, 0, none⟩), .pointer (some ⟨N + 3, 0, none⟩)]
  | 3 => ∃ (k : Nat), σ 3 = .func (.func 74) #[] #[.pointer (some ⟨k, 0, none⟩), .pointer (some ⟨k + 1, 0, none⟩)] ∧ OnR (N + 4) w k z 66 [.pointer (some ⟨N + 1, 0, none⟩), .pointer (some ⟨N + 3, 0, none⟩)]
  | 4 => ∃ (A' : Option Addr) (n' c' : Nat), σ 4 = .tuple #[.agg #[.int .i64 ((done (onRingC z headC) s).1.rd), .int .i64 ((done (onRingC z headC) s).1.mo), .slice A' n' c', .int .i64 ((done (onRingC z headC) s).1.fi), .int .i64 ((done (onRingC z headC) s).1.la)], .bool ((done (onRingC z headC) s).2)] ∧ TkF (N + 4) (N + 3) x (done (onRingC z headC) s) w A' n' c'
  | 5 => ∃ (A' : Option Addr) (n' c' : Nat), σ 5 = .tuple #[.agg #[.int .i64 ((done (onRingC z headC) s).1.rd), .int .i64 ((done (onRingC z headC) s).1.mo), .slice A' n' c', .int .i64 ((done (onRingC z headC) s).1.fi), .int .i64 ((done (onRingC z headC) s).1.la)], .bool ((done (onRingC z headC) s).2)] ∧ TkF (N + 4) (N + 3) x (done (onRingC z headC) s) w A' n' c'
  | 6 => ∃ (A' : Option Addr) (n' c' : Nat), σ 6 = .agg #[.int .i64 ((done (onRingC z headC) s).1.rd), .int .i64 ((done (onRingC z headC) s).1.mo), .slice A' n' c', .int .i64 ((done (onRingC z headC) s).1.fi), .int .i64 ((done (onRingC z headC) s).1.la)] ∧ TkF (N + 4) (N + 3) x (done (onRingC z headC) s) w A' n' c'
  | 7 => σ 7 = .bool ((done (onRingC z headC) s).2)
  | 8 => ∃ g8, σ 8 = .pointer (some ⟨g8, 0, none⟩) ∧ (N + 4) ≤ g8 ∧ ∃ x0 x1 x2 x3 x4, BoxAt w g8 #[x0, x1, x2, x3, x4] 28
  | 9 => ∃ (g8 : Nat) (A' : Option Addr) (n' c' : Nat), σ 8 = .pointer (some ⟨g8, 0, none⟩) ∧ (N + 4) ≤ g8 ∧ BoxAt w g8 #[.int .i64 ((done (onRingC z headC) s).1.rd), .int .i64 ((done (onRingC z headC) s).1.mo), .slice A' n' c', .int .i64 ((done (onRingC z headC) s).1.fi), .int .i64 ((done (onRingC z headC) s).1.la)] 28 ∧ TkF (N + 4) (N + 3) x (done (onRingC z headC) s) w A' n' c'
  | 10 => σ 10 = .bool ((done (onRingC z headC) s).2)
  | _ => True

def tk_takeS (j : Nat) : List Nat := [[0], [1], [2], [3], [4], [5], [6], [7], [8], [8], [10]].getD j [j]
def tk_takeK (j : Nat) : Nat := [0, 0, 0, 0, 1, 0, 0, 0, 2, 1, 0].getD j 0

def tr_takeR (s : St) (N g : Nat) (z x : Int) (A' : Option Addr) (n' c' : Nat) (j : Nat) (σ : Nat → Value) (w : World) : Prop :=
  match j with
  | 0 => σ 0 = .agg #[.int .i64 ((done (onRingC z headC) s).1.rd), .int .i64 ((done (onRingC z headC) s).1.mo), .slice A' n' c', .int .i64 ((done (onRingC z headC) s).1.fi), .int .i64 ((done (onRingC z headC) s).1.la)]
  | 1 => σ 1 = .int .i64 x
  | 2 => BoxAt w (N + 2) #[.int .i64 ((done (onRingC z headC) s).1.rd), .int .i64 ((done (onRingC z headC) s).1.mo), .slice A' n' c', .int .i64 ((done (onRingC z headC) s).1.fi), .int .i64 ((done (onRingC z headC) s).1.la)] 28
  | 3 => σ 3 = .int .i64 x
  | _ => True

def tr_takeS (j : Nat) : List Nat := [[0], [1], [2], [3]].getD j [j]
def tr_takeK (j : Nat) : Nat := [0, 0, 1, 0].getD j 0

set_option maxRecDepth 100000 in
set_option maxHeartbeats 4000000 in
theorem iticketOf_take (s : St) (A : Option Addr) (n cap lo hi B : Nat) (a0 a1 a2 : Addr) (z : Int) (w : World) (hs : RgsW lo hi w A n cap s.rs) (hh : hi ≤ w.heap.size) (hBw : B ≤ w.heap.size) (he : Errs B w a0 a1) (hS0 : Sent B w 2 a2) (hN0 : a2 ≠ a0) (hm : n ≤ 1048576) (hpn : ∀ r ∈ s.rs, r.ps.length ≤ 1048576) :
    Calls Tryd.prog 39 #[stV s A n cap, .int .i64 z, .func (.func 40) #[] #[]] w (RetSID (takeTicket s z) w) := by
  have HPN := Lib.hid hpn; clear hpn
  have HLN := Lib.hid hs.1
  have HV := Lib.hid (takeTicket_done s z)
  obtain ⟨x, hx_⟩ : ∃ x, x = (s.at z).h := ⟨_, rfl⟩
  have HX := Lib.hid hx_; clear hx_
  obtain ⟨N, hN⟩ : ∃ N, N = w.heap.size := ⟨_, rfl⟩
  have hN1 : w.heap.size ≤ N := by omega
  have hNw : N ≤ w.heap.size := by omega
  have HN := Lib.hid hN
  have hBN : B ≤ N := by omega
  unfold stV
  go_enter Tryd.func39, Tryd.ntmps39
  go_upto_region 2 with fail
  rw [← HN.out]
  refine wp_abs (fun W => Below N w W ∧ N + 4 ≤ W.heap.size ∧ BoxAt W N #[.int .i64 s.rd, .int .i64 s.mo, .slice A n cap, .int .i64 s.fi, .int .i64 s.la] 28 ∧ BoxAt W (N + 1) #[.func (.func 40) #[] #[]] 61 ∧ BoxAt W (N + 2) #[.int .i64 0, .int .i64 0, .slice none 0 0, .int .i64 0, .int .i64 0] 28 ∧ BoxAt W (N + 3) #[.int .i64 (-1)] 2) ⟨(((((Below.refl _ _).alloc hNw _).alloc (by simp; omega) _).alloc (by simp; omega) _).alloc (by simp; omega) _), by simp; omega, ((((BoxAt.new' (by omega)).alloc _).alloc _).alloc _), (((BoxAt.new' (by simp; omega)).alloc _).alloc _), ((BoxAt.new' (by simp; omega)).alloc _), (BoxAt.new' (by simp; omega))⟩ ?_
  clear hN
  rintro W0 ⟨hB, hsz, hx, hF, hz, hT⟩
  go_cut [9, 10] (fun s9 s10 W' => Below N w W' ∧ N + 4 ≤ W'.heap.size ∧ BoxAt W' (N + 2) #[.int .i64 0, .int .i64 0, .slice none 0 0, .int .i64 0, .int .i64 0] 28 ∧ ∃ g A' n' c', s9 = .pointer (some ⟨g, 0, none⟩) ∧ N + 4 ≤ g ∧ BoxAt W' g #[.int .i64 ((done (onRingC z headC) s).1.rd), .int .i64 ((done (onRingC z headC) s).1.mo), .slice A' n' c', .int .i64 ((done (onRingC z headC) s).1.fi), .int .i64 ((done (onRingC z headC) s).1.la)] 28 ∧ TkF (N + 4) (N + 3) x (done (onRingC z headC) s) W' A' n' c' ∧ s10 = .bool (done (onRingC z headC) s).2)
  case first =>
    refine wp_region2 (fun w w' => Below w.heap.size w w') (fun _ _ h => h.size) (fun L W' => Below N w W' ∧ N + 4 ≤ W'.heap.size ∧ BoxAt W' N #[.int .i64 s.rd, .int .i64 s.mo, .slice A n cap, .int .i64 s.fi, .int .i64 s.la] 28 ∧ BoxAt W' (N + 1) #[.func (.func 40) #[] #[]] 61 ∧ BoxAt W' (N + 2) #[.int .i64 0, .int .i64 0, .slice none 0 0, .int .i64 0, .int .i64 0] 28 ∧ (L 4 = false → BoxAt W' (N + 3) #[.int .i64 (-1)] 2)) (tk_takeR s A n cap N z x) tk_takeK tk_takeS (by kernel_rfl) (by kernel_rfl) ?_ ?_ ?_
      (.grow rfl ?_ <| .grow rfl ?_ <| .grow rfl ?_ <| .grow rfl ?_ <| .store rfl ?_ <| .grow rfl ?_ <| .grow rfl ?_ <| .grow rfl ?_ <| .make rfl ?_ <| .store rfl ?_ <| .grow rfl ?_ <| .nil) ?_
    · intro j σ τ w h hR
      match j, h, hR with
      | 0, h, hR => exact (h 0 (List.mem_singleton.2 rfl)).symm.trans hR
      | 1, h, hR => exact (h 1 (List.mem_singleton.2 rfl)).symm.trans hR
      | 2, h, hR => exact (h 2 (List.mem_singleton.2 rfl)).symm.trans hR
      | 3, h, hR => obtain ⟨k, e, hp⟩ := hR; exact ⟨k, (h 3 (List.mem_singleton.2 rfl)).symm.trans e, hp⟩
      | 4, h, hR => obtain ⟨A', n', c', e, hp⟩ := hR; exact ⟨A', n', c', (h 4 (List.mem_singleton.2 rfl)).symm.trans e, hp⟩
      | 5, h, hR => obtain ⟨A', n', c', e, hp⟩ := hR; exact ⟨A', n', c', (h 5 (List.mem_singleton.2 rfl)).symm.trans e, hp⟩
      | 6, h, hR => obtain ⟨A', n', c', e, hp⟩ := hR; exact ⟨A', n', c', (h 6 (List.mem_singleton.2 rfl)).symm.trans e, hp⟩
      | 7, h, hR => exact (h 7 (List.mem_singleton.2 rfl)).symm.trans hR
      | 8, h, hR => obtain ⟨g, e, hp⟩ := hR; exact ⟨g, (h 8 (List.mem_singleton.2 rfl)).symm.trans e, hp⟩
      | 9, h, hR => obtain ⟨g, A', n', c', e, hp⟩ := hR; exact ⟨g, A', n', c', (h 8 (List.mem_singleton.2 rfl)).symm.trans e, hp⟩
      | 10, h, hR => exact (h 10 (List.mem_singleton.2 rfl)).symm.trans hR
      | _ + 11, _, _ => exact trivial
    · intro j σ w w' hb hR
      match j, hR with
      | 0, hR => exact hR
      | 1, hR => exact hR
      | 2, hR => exact hR
      | 3, hR => obtain ⟨k, e, hp⟩ := hR; exact ⟨k, e, hp.below hb⟩
      | 4, hR => obtain ⟨A', n', c', e, hp⟩ := hR; exact ⟨A', n', c', e, hp.below hb⟩
      | 5, hR => obtain ⟨A', n', c', e, hp⟩ := hR; exact ⟨A', n', c', e, hp.below hb⟩
      | 6, hR => obtain ⟨A', n', c', e, hp⟩ := hR; exact ⟨A', n', c', e, hp.below hb⟩
      | 7, hR => exact hR
      | 8, hR => obtain ⟨g, e, hg, x0, x1, x2, x3, x4, hx⟩ := hR; exact ⟨g, e, hg, x0, x1, x2, x3, x4, hx.below hb hx.lt⟩
      | 9, hR => obtain ⟨g, A', n', c', e, hg, hx, hp⟩ := hR; exact ⟨g, A', n', c', e, hg, hx.below hb hx.lt, hp.below hb⟩
      | 10, hR => exact hR
      | _ + 11, _ => exact trivial
    · exact ⟨hB.drew, hsz, hx, hF, hz, fun _ => hT⟩
    · -- 0: Op.load 28 t3
      go_light
      intro L σ W' hcl hL hC hw
      clear hw
      have HC := Lib.hid hC
      obtain ⟨hB, hsz, hx, hF, hz, hT⟩ := hC
      have ks := hx.cell
      clear hcl hL
      clear hB hsz hx hF hz hT
      refine OpGoes.step fun K hK => ?_
      unfold OpGoes
      go_simp
      obtain ⟨hB, hsz, hx, hF, hz, hT⟩ := HC.out
      exact hK _ _ ⟨⟨hB, hsz, hx, hF, hz, fun h => (hT (by simpa [upd] using h))⟩, rfl, Below.refl _ _⟩
    · -- 1: Op.move t1
      go_light
      intro L σ W' hcl hL hC hw
      clear hw
      have HC := Lib.hid hC
      clear hC
      clear hcl hL
      refine OpGoes.step fun K hK => ?_
      unfold OpGoes
      go_simp
      obtain ⟨hB, hsz, hx, hF, hz, hT⟩ := HC.out
      exact hK _ _ ⟨⟨hB, hsz, hx, hF, hz, fun h => (hT (by simpa [upd] using h))⟩, rfl, Below.refl _ _⟩
    · -- 2: Op.makeFunc (Fn.func 66) #[] #[t5, t8]
      go_light
      intro L σ W' hcl hL hC hw
      clear hw
      have HC := Lib.hid hC
      clear hC
      clear hcl hL
      refine OpGoes.step fun K hK => ?_
      unfold OpGoes
      go_simp
      obtain ⟨hB, hsz, hx, hF, hz, hT⟩ := HC.out
      exact hK _ _ ⟨⟨hB, hsz, hx, hF, hz, fun h => (hT (by simpa [upd] using h))⟩, rfl, Below.refl _ _⟩
    · -- 3: Op.call { value (Operand.func 48), args := #[t13, t14], argTypes := #[2, 73] }
      go_light
      intro L σ W' hcl hL hC hw
      have e1 : σ 1 = .int .i64 z := hw 1 (by kernel_rfl)
      have e2 : σ 2 = .func (.func 66) #[] #[.pointer (some ⟨N + 1, 0, none⟩), .pointer (some ⟨N + 3, 0, none⟩)] := hw 2 (by kernel_rfl)
      clear hw
      have HC := Lib.hid hC
      clear hC
      clear hcl hL
      refine OpGoes.step fun K hK => ?_
      unfold OpGoes
      go_simp
      obtain ⟨hB, hsz, hx, hF, hz, hT⟩ := HC.out
      refine (ionRing_any z 66 [.pointer (some ⟨N + 1, 0, none⟩), .pointer (some ⟨N + 3, 0, none⟩)] _).mono ?_
      rintro e w1 ⟨rfl, hk1, hk2, hk3, hb1⟩
      exact ⟨_, rfl, hK _ _ ⟨⟨bstep hB (Nat.le_trans hNw hB.size) hb1, Nat.le_trans hsz hb1.size, hx.below hb1 hx.lt, hF.below hb1 hF.lt, hz.below hb1 hz.lt, fun h => (hT (by simpa [upd] using h)).below hb1 (hT (by simpa [upd] using h)).lt⟩, ⟨_, rfl, hk1, hk2, hsz⟩, hb1⟩⟩
    · -- 4: Op.call { value (Operand.func 47), args := #[t12, t15], argTypes := #[28, 68] }
      go_light
      intro L σ W' hcl hL hC hw hne
      have e0 : σ 0 = .agg #[.int .i64 s.rd, .int .i64 s.mo, .slice A n cap, .int .i64 s.fi, .int .i64 s.la] := hw 0 (by kernel_rfl)
      obtain ⟨k, e3, hp3⟩ : ∃ (k : Nat), σ 3 = .func (.func 74) #[] #[.pointer (some ⟨k, 0, none⟩), .pointer (some ⟨k + 1, 0, none⟩)] ∧ OnR (N + 4) W' k z 66 [.pointer (some ⟨N + 1, 0, none⟩), .pointer (some ⟨N + 3, 0, none⟩)] := hw 3 (by kernel_rfl)
      clear hw hne
      obtain ⟨hB, hsz, hx, hF, hz, hT⟩ := hC
      have hT4 := (hT hL)
      clear hcl hL
      refine OpGoes.step fun K hK => ?_
      unfold OpGoes
      go_simp
      have hs3 := hs.keep (w' := W') (fun j _ hj => hB.block j (by omega))
      have he3 := he.below hB (by omega)
      refine (idoneOrNot_any (onRingC z headC) s A n cap lo hi B (N + 3) a0 a1 (fun W => BoxAt W (N + 3) #[.int .i64 x] 2) 74 [.pointer (some ⟨k, 0, none⟩), .pointer (some ⟨k + 1, 0, none⟩)] W' hs3 (by omega) (by omega) (by omega) (by omega) (by omega) he3 hm HPN.out (fun t hok ht => mild_ring (fun r r' h => by injection h with h; subst h; rfl) hok ht) (fun W1 W2 h h' => h.below h' (by omega)) (fun hok => ionRing1_any headC s z n k (k + 1) B a0 a2 (N + 3) (fun W => BoxAt W (N + 3) #[.int .i64 x] 2) 66 [.pointer (some ⟨N + 1, 0, none⟩), .pointer (some ⟨N + 3, 0, none⟩)] W' hp3.1 hp3.2.1 (itake1 s z n (N + 1) (N + 3) a0 x W' hF hT4 HX.out (fun r hr => (stOk_nums hok r hr).1)) (enters_of Tryd.func66 (by kernel_rfl) rfl) (hS0.keep (fun j hj => hB.block j (by omega))) hN0 (by omega) (by omega) hm) (enters_of Tryd.func74 (by kernel_rfl) rfl)).mono ?_
      rintro e w1 ⟨A', n', c', rfl, hR1, hk1, hbt⟩
      have hbt2 := hbt.size
      refine ⟨_, rfl, hK _ _ ⟨⟨hB.trans (hbt.below (by omega) (by omega)), by omega, hbt.box hx (by omega), hbt.box hF (by omega), hbt.box hz (by omega), fun h => absurd h (by simp [upd])⟩, ⟨A', n', c', rfl, ⟨_, Nat.le_refl _, hR1.mono (by omega) (Nat.le_refl _)⟩, hk1⟩, hbt2, fun j hj hn hR => ?_⟩⟩
      match j, hj, hn, hR with
      | 0, _, _, hR => exact (show σ 0 = .agg #[.int .i64 s.rd, .int .i64 s.mo, .slice A n cap, .int .i64 s.fi, .int .i64 s.la] from hR)
      | 1, _, _, hR => exact (show σ 1 = .int .i64 z from hR)
      | 2, _, _, hR => exact (show σ 2 = .func (.func 66) #[] #[.pointer (some ⟨N + 1, 0, none⟩), .pointer (some ⟨N + 3, 0, none⟩)] from hR)
      | 3, _, _, hR => obtain ⟨k, e, hp⟩ := hR; exact ⟨k, e, hp.but hbt (by omega)⟩
      | 4, hj, _, _ => exact absurd rfl hj
      | 5, _, hn, _ => exact absurd (hn.symm.trans (show waits _ _ _ = true by kernel_rfl)) (by decide)
      | 6, _, _, hR => obtain ⟨A', n', c', e, hp⟩ := hR; exact ⟨A', n', c', e, hp.but hbt (by omega) hk1⟩
      | 7, _, _, hR => exact (show σ 7 = .bool ((done (onRingC z headC) s).2) from hR)
      | 8, _, _, hR => obtain ⟨g, e, hg, x0, x1, x2, x3, x4, hx⟩ := hR; exact ⟨g, e, hg, x0, x1, x2, x3, x4, hbt.box hx (by omega)⟩
      | 9, _, _, hR => obtain ⟨g, A'_x, n'_x, c'_x, e, hg, hx, hp⟩ := hR; exact ⟨g, A'_x, n'_x, c'_x, e, hg, hbt.box hx (by omega), hp.but hbt (by omega) hk1⟩
      | 10, _, _, hR => exact (show σ 10 = .bool ((done (onRingC z headC) s).2) from hR)
      | _ + 11, _, _, _ => exact trivial
    · -- 5: Op.move t16
      go_light
      intro L σ W' hcl hL hC hw
      obtain ⟨A', n', c', e4, hp4⟩ : ∃ (A' : Option Addr) (n' c' : Nat), σ 4 = .tuple #[.agg #[.int .i64 ((done (onRingC z headC) s).1.rd), .int .i64 ((done (onRingC z headC) s).1.mo), .slice A' n' c', .int .i64 ((done (onRingC z headC) s).1.fi), .int .i64 ((done (onRingC z headC) s).1.la)], .bool ((done (onRingC z headC) s).2)] ∧ TkF (N + 4) (N + 3) x (done (onRingC z headC) s) W' A' n' c' := hw 4 (by kernel_rfl)
      clear hw
      have HC := Lib.hid hC
      clear hC
      clear hcl hL
      refine OpGoes.step fun K hK => ?_
      unfold OpGoes
      go_simp
      obtain ⟨hB, hsz, hx, hF, hz, hT⟩ := HC.out
      exact hK _ _ ⟨⟨hB, hsz, hx, hF, hz, fun h => (hT (by simpa [upd] using h))⟩, ⟨A', n', c', rfl, hp4⟩, Below.refl _ _⟩
    · -- 6: Op.extract t11 0
      go_light
      intro L σ W' hcl hL hC hw
      obtain ⟨A', n', c', e5, hp5⟩ : ∃ (A' : Option Addr) (n' c' : Nat), σ 5 = .tuple #[.agg #[.int .i64 ((done (onRingC z headC) s).1.rd), .int .i64 ((done (onRingC z headC) s).1.mo), .slice A' n' c', .int .i64 ((done (onRingC z headC) s).1.fi), .int .i64 ((done (onRingC z headC) s).1.la)], .bool ((done (onRingC z headC) s).2)] ∧ TkF (N + 4) (N + 3) x (done (onRingC z headC) s) W' A' n' c' := hw 5 (by kernel_rfl)
      clear hw
      have HC := Lib.hid hC
      clear hC
      clear hcl hL
      refine OpGoes.step fun K hK => ?_
      unfold OpGoes
      go_simp
      obtain ⟨hB, hsz, hx, hF, hz, hT⟩ := HC.out
      exact hK _ _ ⟨⟨hB, hsz, hx, hF, hz, fun h => (hT (by simpa [upd] using h))⟩, ⟨A', n', c', rfl, hp5⟩, Below.refl _ _⟩
    · -- 7: Op.extract t11 1
      go_light
      intro L σ W' hcl hL hC hw
      obtain ⟨A', n', c', e5, hp5⟩ : ∃ (A' : Option Addr) (n' c' : Nat), σ 5 = .tuple #[.agg #[.int .i64 ((done (onRingC z headC) s).1.rd), .int .i64 ((done (onRingC z headC) s).1.mo), .slice A' n' c', .int .i64 ((done (onRingC z headC) s).1.fi), .int .i64 ((done (onRingC z headC) s).1.la)], .bool ((done (onRingC z headC) s).2)] ∧ TkF (N + 4) (N + 3) x (done (onRingC z headC) s) W' A' n' c' := hw 5 (by kernel_rfl)
      clear hw
      have HC := Lib.hid hC
      clear hC
      clear hcl hL
      refine OpGoes.step fun K hK => ?_
      unfold OpGoes
      go_simp
      obtain ⟨hB, hsz, hx, hF, hz, hT⟩ := HC.out
      exact hK _ _ ⟨⟨hB, hsz, hx, hF, hz, fun h => (hT (by simpa [upd] using h))⟩, rfl, Below.refl _ _⟩
    · -- 8: Op.alloc 28
      go_light
      intro L σ W' hcl hL hC hw
      clear hw
      have HC := Lib.hid hC
      clear hC
      clear hcl hL
      refine OpGoes.step fun K hK => ?_
      unfold OpGoes
      go_simp
      obtain ⟨hB, hsz, hx, hF, hz, hT⟩ := HC.out
      have hb1 : Below W'.heap.size W' (W'.alloc (.cells #[.int .i64 0, .int .i64 0, .slice none 0 0, .int .i64 0, .int .i64 0] 28)) := (Below.refl _ _).alloc (Nat.le_refl _) _
      exact hK _ _ ⟨⟨bstep hB (Nat.le_trans hNw hB.size) hb1, Nat.le_trans hsz hb1.size, hx.below hb1 hx.lt, hF.below hb1 hF.lt, hz.below hb1 hz.lt, fun h => (hT (by simpa [upd] using h)).below hb1 (hT (by simpa [upd] using h)).lt⟩, ⟨_, rfl, hsz, _, _, _, _, _, BoxAt.new _ _ _⟩, hb1, rfl, by simp⟩
    · -- 9: Op.store 28 t9 t17
      go_light
      intro L σ W' hcl hL hC hw hne
      obtain ⟨A', n', c', e6, hp6⟩ : ∃ (A' : Option Addr) (n' c' : Nat), σ 6 = .agg #[.int .i64 ((done (onRingC z headC) s).1.rd), .int .i64 ((done (onRingC z headC) s).1.mo), .slice A' n' c', .int .i64 ((done (onRingC z headC) s).1.fi), .int .i64 ((done (onRingC z headC) s).1.la)] ∧ TkF (N + 4) (N + 3) x (done (onRingC z headC) s) W' A' n' c' := hw 6 (by kernel_rfl)
      obtain ⟨g8, e8, hg8, x0, x1, x2, x3, x4, hbox8⟩ : ∃ g8, σ 8 = .pointer (some ⟨g8, 0, none⟩) ∧ (N + 4) ≤ g8 ∧ ∃ x0 x1 x2 x3 x4, BoxAt W' g8 #[x0, x1, x2, x3, x4] 28 := hw 8 (by kernel_rfl)
      clear hw hne
      have HC := Lib.hid hC
      clear hC
      clear hcl hL
      have kc_ := hbox8.cell
      have kf_ := hbox8.frozen
      refine OpGoes.step fun K hK => ?_
      unfold OpGoes
      go_simp
      obtain ⟨hB, hsz, hx, hF, hz, hT⟩ := HC.out
      have hset := sets_all (us := [.int .i64 ((done (onRingC z headC) s).1.rd), .int .i64 ((done (onRingC z headC) s).1.mo), .slice A' n' c', .int .i64 ((done (onRingC z headC) s).1.fi), .int .i64 ((done (onRingC z headC) s).1.la)]) hbox8 rfl
      refine hK undef (setCells W' g8 0 [.int .i64 ((done (onRingC z headC) s).1.rd), .int .i64 ((done (onRingC z headC) s).1.mo), .slice A' n' c', .int .i64 ((done (onRingC z headC) s).1.fi), .int .i64 ((done (onRingC z headC) s).1.la)]) ⟨⟨(Below.setCells (by omega) [.int .i64 ((done (onRingC z headC) s).1.rd), .int .i64 ((done (onRingC z headC) s).1.mo), .slice A' n' c', .int .i64 ((done (onRingC z headC) s).1.fi), .int .i64 ((done (onRingC z headC) s).1.la)] 0 hB), (size_sts hsz [.int .i64 ((done (onRingC z headC) s).1.rd), .int .i64 ((done (onRingC z headC) s).1.mo), .slice A' n' c', .int .i64 ((done (onRingC z headC) s).1.fi), .int .i64 ((done (onRingC z headC) s).1.la)] 0), (BoxAt.sets_ne [.int .i64 ((done (onRingC z headC) s).1.rd), .int .i64 ((done (onRingC z headC) s).1.mo), .slice A' n' c', .int .i64 ((done (onRingC z headC) s).1.fi), .int .i64 ((done (onRingC z headC) s).1.la)] 0 hx (by omega)), (BoxAt.sets_ne [.int .i64 ((done (onRingC z headC) s).1.rd), .int .i64 ((done (onRingC z headC) s).1.mo), .slice A' n' c', .int .i64 ((done (onRingC z headC) s).1.fi), .int .i64 ((done (onRingC z headC) s).1.la)] 0 hF (by omega)), (BoxAt.sets_ne [.int .i64 ((done (onRingC z headC) s).1.rd), .int .i64 ((done (onRingC z headC) s).1.mo), .slice A' n' c', .int .i64 ((done (onRingC z headC) s).1.fi), .int .i64 ((done (onRingC z headC) s).1.la)] 0 hz (by omega)), fun h => (BoxAt.sets_ne [.int .i64 ((done (onRingC z headC) s).1.rd), .int .i64 ((done (onRingC z headC) s).1.mo), .slice A' n' c', .int .i64 ((done (onRingC z headC) s).1.fi), .int .i64 ((done (onRingC z headC) s).1.la)] 0 (hT (by simpa [upd] using h)) (by omega))⟩, ⟨g8, A', n', c', e8, hg8, hset, (TkF.setsT hp6 hbox8 (by omega) [.int .i64 ((done (onRingC z headC) s).1.rd), .int .i64 ((done (onRingC z headC) s).1.mo), .slice A' n' c', .int .i64 ((done (onRingC z headC) s).1.fi), .int .i64 ((done (onRingC z headC) s).1.la)] 0)⟩, Nat.le_of_eq (sets_size _ _ _).symm, fun j hj hn hR => ?_⟩
      match j, hj, hn, hR with
      | 0, _, _, hR => exact (show σ 0 = .agg #[.int .i64 s.rd, .int .i64 s.mo, .slice A n cap, .int .i64 s.fi, .int .i64 s.la] from hR)
      | 1, _, _, hR => exact (show σ 1 = .int .i64 z from hR)
      | 2, _, _, hR => exact (show σ 2 = .func (.func 66) #[] #[.pointer (some ⟨N + 1, 0, none⟩), .pointer (some ⟨N + 3, 0, none⟩)] from hR)
      | 3, _, _, hR => obtain ⟨k_x, e, hp⟩ := hR; exact ⟨k_x, e, (OnR.setsT hp hbox8 [.int .i64 ((done (onRingC z headC) s).1.rd), .int .i64 ((done (onRingC z headC) s).1.mo), .slice A' n' c', .int .i64 ((done (onRingC z headC) s).1.fi), .int .i64 ((done (onRingC z headC) s).1.la)] 0)⟩
      | 4, _, _, hR => obtain ⟨A'_x, n'_x, c'_x, e, hp⟩ := hR; exact ⟨A'_x, n'_x, c'_x, e, (TkF.setsT hp hbox8 (by omega) [.int .i64 ((done (onRingC z headC) s).1.rd), .int .i64 ((done (onRingC z headC) s).1.mo), .slice A' n' c', .int .i64 ((done (onRingC z headC) s).1.fi), .int .i64 ((done (onRingC z headC) s).1.la)] 0)⟩
      | 5, _, _, hR => obtain ⟨A'_x, n'_x, c'_x, e, hp⟩ := hR; exact ⟨A'_x, n'_x, c'_x, e, (TkF.setsT hp hbox8 (by omega) [.int .i64 ((done (onRingC z headC) s).1.rd), .int .i64 ((done (onRingC z headC) s).1.mo), .slice A' n' c', .int .i64 ((done (onRingC z headC) s).1.fi), .int .i64 ((done (onRingC z headC) s).1.la)] 0)⟩
      | 6, _, _, hR => obtain ⟨A'_x, n'_x, c'_x, e, hp⟩ := hR; exact ⟨A'_x, n'_x, c'_x, e, (TkF.setsT hp hbox8 (by omega) [.int .i64 ((done (onRingC z headC) s).1.rd), .int .i64 ((done (onRingC z headC) s).1.mo), .slice A' n' c', .int .i64 ((done (onRingC z headC) s).1.fi), .int .i64 ((done (onRingC z headC) s).1.la)] 0)⟩
      | 7, _, _, hR => exact (show σ 7 = .bool ((done (onRingC z headC) s).2) from hR)
      | 8, _, _, _ => exact ⟨g8, e8, hg8, _, _, _, _, _, hset⟩
      | 9, hj, _, _ => exact absurd rfl hj
      | 10, _, _, hR => exact (show σ 10 = .bool ((done (onRingC z headC) s).2) from hR)
      | _ + 11, _, _, _ => exact trivial
    · -- 10: Op.assign t18
      go_light
      intro L σ W' hcl hL hC hw
      have e7 : σ 7 = .bool ((done (onRingC z headC) s).2) := hw 7 (by kernel_rfl)
      clear hw
      have HC := Lib.hid hC
      clear hC
      clear hcl hL
      refine OpGoes.step fun K hK => ?_
      unfold OpGoes
      go_simp
      obtain ⟨hB, hsz, hx, hF, hz, hT⟩ := HC.out
      exact hK _ _ ⟨⟨hB, hsz, hx, hF, hz, fun h => (hT (by simpa [upd] using h))⟩, rfl, Below.refl _ _⟩
    · intro σ L W' hall hC hR
      obtain ⟨hB, hsz, hx, hF, hz, hT⟩ := hC
      obtain ⟨g8, A', n', c', e8, hg9, s9, hp9⟩ : ∃ (g8 : Nat) (A' : Option Addr) (n' c' : Nat), σ 8 = .pointer (some ⟨g8, 0, none⟩) ∧ (N + 4) ≤ g8 ∧ BoxAt W' g8 #[.int .i64 ((done (onRingC z headC) s).1.rd), .int .i64 ((done (onRingC z headC) s).1.mo), .slice A' n' c', .int .i64 ((done (onRingC z headC) s).1.fi), .int .i64 ((done (onRingC z headC) s).1.la)] 28 ∧ TkF (N + 4) (N + 3) x (done (onRingC z headC) s) W' A' n' c' := hR 9 (by decide)
      have e10 : σ 10 = .bool ((done (onRingC z headC) s).2) := hR 10 (by decide)
      clear hR
      simp only [lexAll]
      go_simp
      go_step
      go_meet
      exact ⟨hB, hsz, hz, g8, A', n', c', rfl, hg9, s9, hp9, rfl⟩

  case rest =>
    clear hB hsz hx hF hz hT
    obtain ⟨hB, hsz, hz, g, A', n', c', rfl, hgN, hgb, hTk, rfl⟩ := hcut
    cases hq : (done (onRingC z headC) s).2
    · have HQ := Lib.hid hq; clear hq
      have kg := hgb.cell
      have kz := hz.cell
      have fz := hz.frozen
      go_wp2
      refine bodyPost_ret (v := .tuple #[stV (done (onRingC z headC) s).1 A' n' c', .int .i64 (-1)]) (by simp [results, Tryd.results39, go_sem, kz, stV]) rfl ?_
      obtain ⟨hi', hl', hd'⟩ := hTk.1
      refine ⟨A', n', c', by rw [HV.out, HQ.out]; rfl, ?_, ((((((hB.setCell (by dsimp only; omega) _).setCell (by dsimp only; omega) _).setCell (by dsimp only; omega) _).setCell (by dsimp only; omega) _).setCell (by dsimp only; omega) _)).mono hN1⟩
      rw [HV.out]
      exact ((((((hd'.setD (.inl (by omega)) _ _).setD (.inl (by omega)) _ _).setD (.inl (by omega)) _ _).setD (.inl (by omega)) _ _).setD (.inl (by omega)) _ _)).mono (by omega) (by simpa using hl')
    · have HQ := Lib.hid hq
      have hTb := hTk.2 hq
      clear hq
      have hD : DnF (N + 4) (fun _ => True) (done (onRingC z headC) s) wc A' n' c' := ⟨hTk.1, fun _ => trivial⟩
      clear hTk
      go_upto_region 5 with fail
      refine wp_region2 (fun w w' => Below w.heap.size w w') (fun _ _ h => h.size) (fun L W' => Below N w W' ∧ BoxAt W' g #[.int .i64 ((done (onRingC z headC) s).1.rd), .int .i64 ((done (onRingC z headC) s).1.mo), .slice A' n' c', .int .i64 ((done (onRingC z headC) s).1.fi), .int .i64 ((done (onRingC z headC) s).1.la)] 28 ∧ BoxAt W' (N + 3) #[.int .i64 x] 2 ∧ DnF (N + 4) (fun _ => True) (done (onRingC z headC) s) W' A' n' c' ∧ (∃ x0 x1 x2 x3 x4, BoxAt W' (N + 2) #[x0, x1, x2, x3, x4] 28) ∧ (L 2 = false → BoxAt W' (N + 2) #[.int .i64 0, .int .i64 0, .slice none 0 0, .int .i64 0, .int .i64 0] 28)) (tr_takeR s N g z x A' n' c') tr_takeK tr_takeS (by kernel_rfl) (by kernel_rfl) ?_ ?_ ?_
        (.grow rfl ?_ <| .grow rfl ?_ <| .store rfl ?_ <| .grow rfl ?_ <| .nil) ?_
      · intro j σ τ w h hR
        match j, h, hR with
        | 0, h, hR => exact (h 0 (List.mem_singleton.2 rfl)).symm.trans hR
        | 1, h, hR => exact (h 1 (List.mem_singleton.2 rfl)).symm.trans hR
        | 2, _, hR => exact hR
        | 3, h, hR => exact (h 3 (List.mem_singleton.2 rfl)).symm.trans hR
        | _ + 4, _, _ => exact trivial
      · intro j σ w w' hb hR
        match j, hR with
        | 0, hR => exact hR
        | 1, hR => exact hR
        | 2, hR => exact hR.below hb hR.lt
        | 3, hR => exact hR
        | _ + 4, _ => exact trivial
      · exact ⟨hB.drew, hgb, hTb, hD, ⟨_, _, _, _, _, hz⟩, fun _ => hz⟩
      · -- 0: Op.load 28 t9
        go_light
        intro L σ W' hcl hL hC hw
        clear hw
        have HC := Lib.hid hC
        obtain ⟨hB, hgb, hTb, hD, ⟨hz_x0, hz_x1, hz_x2, hz_x3, hz_x4, hz⟩, hz_o⟩ := hC
        have kg := hgb.cell
        clear hcl hL
        clear hB hgb hTb hD hz hz_o
        refine OpGoes.step fun K hK => ?_
        unfold OpGoes
        go_simp
        obtain ⟨hB, hgb, hTb, hD, ⟨hz_x0, hz_x1, hz_x2, hz_x3, hz_x4, hz⟩, hz_o⟩ := HC.out
        exact hK _ _ ⟨⟨hB, hgb, hTb, hD, ⟨_, _, _, _, _, hz⟩, fun h => hz_o (by simpa [upd] using h)⟩, rfl, Below.refl _ _⟩
      · -- 1: Op.load 2 t8
        go_light
        intro L σ W' hcl hL hC hw
        clear hw
        have HC := Lib.hid hC
        obtain ⟨hB, hgb, hTb, hD, ⟨hz_x0, hz_x1, hz_x2, hz_x3, hz_x4, hz⟩, hz_o⟩ := hC
        have kT := hTb.cell
        clear hcl hL
        clear hB hgb hTb hD hz hz_o
        refine OpGoes.step fun K hK => ?_
        unfold OpGoes
        go_simp
        obtain ⟨hB, hgb, hTb, hD, ⟨hz_x0, hz_x1, hz_x2, hz_x3, hz_x4, hz⟩, hz_o⟩ := HC.out
        exact hK _ _ ⟨⟨hB, hgb, hTb, hD, ⟨_, _, _, _, _, hz⟩, fun h => hz_o (by simpa [upd] using h)⟩, rfl, Below.refl _ _⟩
      · -- 2: Op.store 28 t6 t22
        go_light
        intro L σ W' hcl hL hC hw hne
        have e0 : σ 0 = .agg #[.int .i64 ((done (onRingC z headC) s).1.rd), .int .i64 ((done (onRingC z headC) s).1.mo), .slice A' n' c', .int .i64 ((done (onRingC z headC) s).1.fi), .int .i64 ((done (onRingC z headC) s).1.la)] := hw 0 (by kernel_rfl)
        clear hw hne
        have HC := Lib.hid hC
        obtain ⟨hB, hgb, hTb, hD, ⟨hz_x0, hz_x1, hz_x2, hz_x3, hz_x4, hz⟩, hz_o⟩ := hC
        clear hcl hL
        have kc_ := hz.cell
        have kf_ := hz.frozen
        clear hB hgb hTb hD hz hz_o
        refine OpGoes.step fun K hK => ?_
        unfold OpGoes
        go_simp
        obtain ⟨hB, hgb, hTb, hD, ⟨hz_x0, hz_x1, hz_x2, hz_x3, hz_x4, hz⟩, hz_o⟩ := HC.out
        have hset := sets_all (us := [.int .i64 ((done (onRingC z headC) s).1.rd), .int .i64 ((done (onRingC z headC) s).1.mo), .slice A' n' c', .int .i64 ((done (onRingC z headC) s).1.fi), .int .i64 ((done (onRingC z headC) s).1.la)]) hz rfl
        refine hK undef (setCells W' (N + 2) 0 [.int .i64 ((done (onRingC z headC) s).1.rd), .int .i64 ((done (onRingC z headC) s).1.mo), .slice A' n' c', .int .i64 ((done (onRingC z headC) s).1.fi), .int .i64 ((done (onRingC z headC) s).1.la)]) ⟨⟨(Below.setCells (by omega) [.int .i64 ((done (onRingC z headC) s).1.rd), .int .i64 ((done (onRingC z headC) s).1.mo), .slice A' n' c', .int .i64 ((done (onRingC z headC) s).1.fi), .int .i64 ((done (onRingC z headC) s).1.la)] 0 hB), (BoxAt.sets_ne [.int .i64 ((done (onRingC z headC) s).1.rd), .int .i64 ((done (onRingC z headC) s).1.mo), .slice A' n' c', .int .i64 ((done (onRingC z headC) s).1.fi), .int .i64 ((done (onRingC z headC) s).1.la)] 0 hgb (by omega)), (BoxAt.sets_ne [.int .i64 ((done (onRingC z headC) s).1.rd), .int .i64 ((done (onRingC z headC) s).1.mo), .slice A' n' c', .int .i64 ((done (onRingC z headC) s).1.fi), .int .i64 ((done (onRingC z headC) s).1.la)] 0 hTb (by omega)), (DnF.sets (by omega) [.int .i64 ((done (onRingC z headC) s).1.rd), .int .i64 ((done (onRingC z headC) s).1.mo), .slice A' n' c', .int .i64 ((done (onRingC z headC) s).1.fi), .int .i64 ((done (onRingC z headC) s).1.la)] 0 hD), ⟨_, _, _, _, _, hset⟩, fun h => absurd h (by simp [upd])⟩, hset, Nat.le_of_eq (sets_size _ _ _).symm, fun j hj hn hR => ?_⟩
        match j, hj, hn, hR with
        | 0, _, _, hR => exact (show σ 0 = .agg #[.int .i64 ((done (onRingC z headC) s).1.rd), .int .i64 ((done (onRingC z headC) s).1.mo), .slice A' n' c', .int .i64 ((done (onRingC z headC) s).1.fi), .int .i64 ((done (onRingC z headC) s).1.la)] from hR)
        | 1, _, _, hR => exact (show σ 1 = .int .i64 x from hR)
        | 2, hj, _, _ => exact absurd rfl hj
        | 3, _, _, hR => exact (show σ 3 = .int .i64 x from hR)
        | _ + 4, _, _, _ => exact trivial
      · -- 3: Op.assign t23
        go_light
        intro L σ W' hcl hL hC hw
        have e1 : σ 1 = .int .i64 x := hw 1 (by kernel_rfl)
        clear hw
        have HC := Lib.hid hC
        clear hC
        clear hcl hL
        refine OpGoes.step fun K hK => ?_
        unfold OpGoes
        go_simp
        obtain ⟨hB, hgb, hTb, hD, ⟨hz_x0, hz_x1, hz_x2, hz_x3, hz_x4, hz⟩, hz_o⟩ := HC.out
        exact hK _ _ ⟨⟨hB, hgb, hTb, hD, ⟨_, _, _, _, _, hz⟩, fun h => hz_o (by simpa [upd] using h)⟩, rfl, Below.refl _ _⟩
      · intro σ L W' hall hC hR
        obtain ⟨hB, hgb, hTb, hD, ⟨hz_x0, hz_x1, hz_x2, hz_x3, hz_x4, hz⟩, hz_o⟩ := hC
        have s2 : BoxAt W' (N + 2) #[.int .i64 ((done (onRingC z headC) s).1.rd), .int .i64 ((done (onRingC z headC) s).1.mo), .slice A' n' c', .int .i64 ((done (onRingC z headC) s).1.fi), .int .i64 ((done (onRingC z headC) s).1.la)] 28 := hR 2 (by decide)
        have e3 : σ 3 = .int .i64 x := hR 3 (by decide)
        clear hR
        simp only [lexAll]
        go_simp
        go_step
        have k6 := s2.cell
        go_wp2
        refine bodyPost_ret (v := .tuple #[stV (done (onRingC z headC) s).1 A' n' c', .int .i64 x]) (by simp [results, Tryd.results39, go_sem, k6, stV]) rfl ?_
        obtain ⟨hi', hl', hd'⟩ := hD.1
        refine ⟨A', n', c', by rw [HV.out, HQ.out, HX.out]; rfl, ?_, hB.mono hN1⟩
        rw [HV.out]
        exact hd'.mono (by omega) hl'


set_option maxRecDepth 100000 in
set_option maxHeartbeats 4000000 in
theorem itakeTicket_any (s : St) (A : Option Addr) (n cap lo hi B : Nat) (a0 a1 a2 : Addr) (z : Int) (w : World) (hs : RgsW lo hi w A n cap s.rs) (hh : hi ≤ w.heap.size) (hBw : B ≤ w.heap.size) (he : Errs B w a0 a1) (hS0 : Sent B w 2 a2) (hN0 : a2 ≠ a0) (hm : n ≤ 1048576) (hpn : ∀ r ∈ s.rs, r.ps.length ≤ 1048576) :
    Calls Tryd.prog 14 #[stV s A n cap, .int .i64 z] w (RetSID (takeTicket s z) w) := by
  have HPN := Lib.hid hpn; clear hpn
  obtain ⟨N, hN⟩ : ∃ N, N = w.heap.size := ⟨_, rfl⟩
  have hN1 : w.heap.size ≤ N := by omega
  have hNw : N ≤ w.heap.size := by omega
  have HN := Lib.hid hN
  unfold stV
  go_enter Tryd.func14, Tryd.ntmps14
  go_wp2_with fail
  rw [← HN.out]
  refine calls_abs (fun W => Below N w W ∧ BoxAt W (N + 1) #[.int .i64 0, .int .i64 0, .slice none 0 0, .int .i64 0, .int .i64 0] 28 ∧ N + 2 ≤ W.heap.size) ⟨((Below.refl _ _).alloc hNw _).alloc (by simp; omega) _, BoxAt.new' (by simp; omega), by simp; omega⟩ ?_
  clear hN
  rintro W ⟨hB, hz, hW⟩
  have hBs := hB.size
  refine (iticketOf_take s A n cap lo hi B a0 a1 a2 z W (hs.keep (fun j _ hj => hB.block j (by omega))) (by omega) (by omega) (he.below hB (by omega)) (hS0.keep (fun j hj => hB.block j (by omega))) hN0 hm HPN.out).mono ?_
  rintro e w1 ⟨A', n', c', rfl, hR, hb1⟩
  replace hz := hz.below hb1 hz.lt
  replace hB := bstep hB (Nat.le_trans hNw hB.size) hb1
  have hw1 := hb1.size
  clear hb1
  generalize takeTicket s z = q at *
  unfold stV
  have kz := hz.cell
  have fz := hz.frozen
  go_wp2
  refine bodyPost_ret (v := .tuple #[stV q.1 A' n' c', .int .i64 q.2]) (by simp [results, Tryd.results14, go_sem, kz, stV]) rfl ⟨A', n', c', rfl, ?_, ((((((hB.setCell (by dsimp only; omega) _).setCell (by dsimp only; omega) _).setCell (by dsimp only; omega) _).setCell (by dsimp only; omega) _).setCell (by dsimp only; omega) _)).mono hN1⟩
  exact ((((((hR.setD (.inl (by omega)) _ _).setD (.inl (by omega)) _ _).setD (.inl (by omega)) _ _).setD (.inl (by omega)) _ _).setD (.inl (by omega)) _ _)).mono (by omega) (by simp)

def tk_putR (s : St) (A : Option Addr) (n cap N : Nat) (z x : Int) (j : Nat) (σ : Nat → Value) (w : World) : Prop :=
  match j with
  | 0 => σ 0 = .agg #[.int .i64 s.rd, .int .i64 s.mo, .slice A n cap, .int .i64 s.fi, .int .i64 s.la]
  | 1 => σ 1 = .int .i64 z
  | 2 => σ 2 = .func (.func 66) #[] #[.pointer (some ⟨N + 1, 0, none⟩), .pointer (some ⟨N + 3, 0, none⟩)]
  | 3 => ∃ (k : Nat), σ 3 = .func (.func 74) #[] #[.pointer (some ⟨k, 0, none⟩), .pointer (some ⟨k + 1, 0, none⟩)] ∧ OnR (N + 4) w k z 66 [.pointer (some ⟨N + 1, 0, none⟩), .pointer (some ⟨N + 3, 0, none⟩)]
  | 4 => ∃ (A' : Option Addr) (n' c' : Nat), σ 4 = .tuple #[.agg #[.int .i64 ((done (onRingC z tailC) s).1.rd), .int .i64 ((done (onRingC z tailC) s).1.mo), .slice A' n' c', .int .i64 ((done (onRingC z tailC) s).1.fi), .int .i64 ((done (onRingC z tailC) s).1.la)], .bool ((done (onRingC z tailC) s).2)] ∧ TkF (N + 4) (N + 3) x (done (onRingC z tailC) s) w A' n' c'
  | 5 => ∃ (A' : Option Addr) (n' c' : Nat), σ 5 = .tuple #[.agg #[.int .i64 ((done (onRingC z tailC) s).1.rd), .int .i64 ((done (onRingC z tailC) s).1.mo), .slice A' n' c', .int .i64 ((done (onRingC z tailC) s).1.fi), .int .i64 ((done (onRingC z tailC) s).1.la)], .bool ((done (onRingC z tailC) s).2)] ∧ TkF (N + 4) (N + 3) x (done (onRingC z tailC) s) w A' n' c'
  | 6 => ∃ (A' : Option Addr) (n' c' : Nat), σ 6 = .agg #[.int .i64 ((done (onRingC z tailC) s).1.rd), .int .i64 ((done (onRingC z tailC) s).1.mo), .slice A' n' c', .int .i64 ((done (onRingC z tailC) s).1.fi), .int .i64 ((done (onRingC z tailC) s).1.la)] ∧ TkF (N + 4) (N + 3) x (done (onRingC z tailC) s) w A' n' c'
  | 7 => σ 7 = .bool ((done (onRingC z tailC) s).2)
  | 8 => ∃ g8, σ 8 = .pointer (some ⟨g8, 0, none⟩) ∧ (N + 4) ≤ g8 ∧ ∃ x0 x1 x2 x3 x4, BoxAt w g8 #[x0, x1, x2, x3, x4] 28
  | 9 => ∃ (g8 : Nat) (A' : Option Addr) (n' c' : Nat), σ 8 = .pointer (some ⟨g8, 0, none⟩) ∧ (N + 4) ≤ g8 ∧ BoxAt w g8 #[.int .i64 ((done (onRingC z tailC) s).1.rd), .int .i64 ((done (onRingC z tailC) s).1.mo), .slice A' n' c', .int .i64 ((done (onRingC z tailC) s).1.fi), .int .i64 ((done (onRingC z tailC) s).1.la)] 28 ∧ TkF (N + 4) (N + 3) x (done (onRingC z tailC) s) w A' n' c'
  | 10 => σ 10 = .bool ((done (onRingC z tailC) s).2)
  | _ => True

def tk_putS (j : Nat) : List Nat := [[0], [1], [2], [3], [4], [5], [6], [7], [8], [8], [10]].getD j [j]
def tk_putK (j : Nat) : Nat := [0, 0, 0, 0, 1, 0, 0, 0, 2, 1, 0].getD j 0

def tr_putR (s : St) (N g : Nat) (z x : Int) (A' : Option Addr) (n' c' : Nat) (j : Nat) (σ : Nat → Value) (w : World) : Prop :=
  match j with
  | 0 => σ 0 = .agg #[.int .i64 ((done (onRingC z tailC) s).1.rd), .int .i64 ((done (onRingC z tailC) s).1.mo), .slice A' n' c', .int .i64 ((done (onRingC z tailC) s).1.fi), .int .i64 ((done (onRingC z tailC) s).1.la)]
  | 1 => σ 1 = .int .i64 x
  | 2 => BoxAt w (N + 2) #[.int .i64 ((done (onRingC z tailC) s).1.rd), .int .i64 ((done (onRingC z tailC) s).1.mo), .slice A' n' c', .int .i64 ((done (onRingC z tailC) s).1.fi), .int .i64 ((done (onRingC z tailC) s).1.la)] 28
  | 3 => σ 3 = .int .i64 x
  | _ => True

def tr_putS (j : Nat) : List Nat := [[0], [1], [2], [3]].getD j [j]
def tr_putK (j : Nat) : Nat := [0, 0, 1, 0].getD j 0

set_option maxRecDepth 100000 in
set_option maxHeartbeats 4000000 in
theorem iticketOf_put (s : St) (A : Option Addr) (n cap lo hi B : Nat) (a0 a1 a2 : Addr) (z : Int) (w : World) (hs : RgsW lo hi w A n cap s.rs) (hh : hi ≤ w.heap.size) (hBw : B ≤ w.heap.size) (he : Errs B w a0 a1) (hS0 : Sent B w 2 a2) (hN0 : a2 ≠ a0) (hm : n ≤ 1048576) (hpn : ∀ r ∈ s.rs, r.ps.length ≤ 1048576) :
    Calls Tryd.prog 39 #[stV s A n cap, .int .i64 z, .func (.func 44) #[] #[]] w (RetSID (putTicket s z) w) := by
  have HPN := Lib.hid hpn; clear hpn
  have HLN := Lib.hid hs.1
  have HV := Lib.hid (putTicket_done s z)
  obtain ⟨x, hx_⟩ : ∃ x, x = (s.at z).t := ⟨_, rfl⟩
  have HX := Lib.hid hx_; clear hx_
  obtain ⟨N, hN⟩ : ∃ N, N = w.heap.size := ⟨_, rfl⟩
  have hN1 : w.heap.size ≤ N := by omega
  have hNw : N ≤ w.heap.size := by omega
  have HN := Lib.hid hN
  have hBN : B ≤ N := by omega
  unfold stV
  go_enter Tryd.func39, Tryd.ntmps39
  go_upto_region 2 with fail
  rw [← HN.out]
  refine wp_abs (fun W => Below N w W ∧ N + 4 ≤ W.heap.size ∧ BoxAt W N #[.int .i64 s.rd, .int .i64 s.mo, .slice A n cap, .int .i64 s.fi, .int .i64 s.la] 28 ∧ BoxAt W (N + 1) #[.func (.func 44) #[] #[]] 61 ∧ BoxAt W (N + 2) #[.int .i64 0, .int .i64 0, .slice none 0 0, .int .i64 0, .int .i64 0] 28 ∧ BoxAt W (N + 3) #[.int .i64 (-1)] 2) ⟨(((((Below.refl _ _).alloc hNw _).alloc (by simp; omega) _).alloc (by simp; omega) _).alloc (by simp; omega) _), by simp; omega, ((((BoxAt.new' (by omega)).alloc _).alloc _).alloc _), (((BoxAt.new' (by simp; omega)).alloc _).alloc _), ((BoxAt.new' (by simp; omega)).alloc _), (BoxAt.new' (by simp; omega))⟩ ?_
  clear hN
  rintro W0 ⟨hB, hsz, hx, hF, hz, hT⟩
  go_cut [9, 10] (fun s9 s10 W' => Below N w W' ∧ N + 4 ≤ W'.heap.size ∧ BoxAt W' (N + 2) #[.int .i64 0, .int .i64 0, .slice none 0 0, .int .i64 0, .int .i64 0] 28 ∧ ∃ g A' n' c', s9 = .pointer (some ⟨g, 0, none⟩) ∧ N + 4 ≤ g ∧ BoxAt W' g #[.int .i64 ((done (onRingC z tailC) s).1.rd), .int .i64 ((done (onRingC z tailC) s).1.mo), .slice A' n' c', .int .i64 ((done (onRingC z tailC) s).1.fi), .int .i64 ((done (onRingC z tailC) s).1.la)] 28 ∧ TkF (N + 4) (N + 3) x (done (onRingC z tailC) s) W' A' n' c' ∧ s10 = .bool (done (onRingC z tailC) s).2)
  case first =>
    refine wp_region2 (fun w w' => Below w.heap.size w w') (fun _ _ h => h.size) (fun L W' => Below N w W' ∧ N + 4 ≤ W'.heap.size ∧ BoxAt W' N #[.int .i64 s.rd, .int .i64 s.mo, .slice A n cap, .int .i64 s.fi, .int .i64 s.la] 28 ∧ BoxAt W' (N + 1) #[.func (.func 44) #[] #[]] 61 ∧ BoxAt W' (N + 2) #[.int .i64 0, .int .i64 0, .slice none 0 0, .int .i64 0, .int .i64 0] 28 ∧ (L 4 = false → BoxAt W' (N + 3) #[.int .i64 (-1)] 2)) (tk_putR s A n cap N z x) tk_putK tk_putS (by kernel_rfl) (by kernel_rfl) ?_ ?_ ?_
      (.grow rfl ?_ <| .grow rfl ?_ <| .grow rfl ?_ <| .grow rfl ?_ <| .store rfl ?_ <| .grow rfl ?_ <| .grow rfl ?_ <| .grow rfl ?_ <| .make rfl ?_ <| .store rfl ?_ <| .grow rfl ?_ <| .nil) ?_
    · intro j σ τ w h hR
      match j, h, hR with
      | 0, h, hR => exact (h 0 (List.mem_singleton.2 rfl)).symm.trans hR
      | 1, h, hR => exact (h 1 (List.mem_singleton.2 rfl)).symm.trans hR
      | 2, h, hR => exact (h 2 (List.mem_singleton.2 rfl)).symm.trans hR
      | 3, h, hR => obtain ⟨k, e, hp⟩ := hR; exact ⟨k, (h 3 (List.mem_singleton.2 rfl)).symm.trans e, hp⟩
      | 4, h, hR => obtain ⟨A', n', c', e, hp⟩ := hR; exact ⟨A', n', c', (h 4 (List.mem_singleton.2 rfl)).symm.trans e, hp⟩
      | 5, h, hR => obtain ⟨A', n', c', e, hp⟩ := hR; exact ⟨A', n', c', (h 5 (List.mem_singleton.2 rfl)).symm.trans e, hp⟩
      | 6, h, hR => obtain ⟨A', n', c', e, hp⟩ := hR; exact ⟨A', n', c', (h 6 (List.mem_singleton.2 rfl)).symm.trans e, hp⟩
      | 7, h, hR => exact (h 7 (List.mem_singleton.2 rfl)).symm.trans hR
      | 8, h, hR => obtain ⟨g, e, hp⟩ := hR; exact ⟨g, (h 8 (List.mem_singleton.2 rfl)).symm.trans e, hp⟩
      | 9, h, hR => obtain ⟨g, A', n', c', e, hp⟩ := hR; exact ⟨g, A', n', c', (h 8 (List.mem_singleton.2 rfl)).symm.trans e, hp⟩
      | 10, h, hR => exact (h 10 (List.mem_singleton.2 rfl)).symm.trans hR
      | _ + 11, _, _ => exact trivial
    · intro j σ w w' hb hR
      match j, hR with
      | 0, hR => exact hR
      | 1, hR => exact hR
      | 2, hR => exact hR
      | 3, hR => obtain ⟨k, e, hp⟩ := hR; exact ⟨k, e, hp.below hb⟩
      | 4, hR => obtain ⟨A', n', c', e, hp⟩ := hR; exact ⟨A', n', c', e, hp.below hb⟩
      | 5, hR => obtain ⟨A', n', c', e, hp⟩ := hR; exact ⟨A', n', c', e, hp.below hb⟩
      | 6, hR => obtain ⟨A', n', c', e, hp⟩ := hR; exact ⟨A', n', c', e, hp.below hb⟩
      | 7, hR => exact hR
      | 8, hR => obtain ⟨g, e, hg, x0, x1, x2, x3, x4, hx⟩ := hR; exact ⟨g, e, hg, x0, x1, x2, x3, x4, hx.below hb hx.lt⟩
      | 9, hR => obtain ⟨g, A', n', c', e, hg, hx, hp⟩ := hR; exact ⟨g, A', n', c', e, hg, hx.below hb hx.lt, hp.below hb⟩
      | 10, hR => exact hR
      | _ + 11, _ => exact trivial
    · exact ⟨hB.drew, hsz, hx, hF, hz, fun _ => hT⟩
    · -- 0: Op.load 28 t3
      go_light
      intro L σ W' hcl hL hC hw
      clear hw
      have HC := Lib.hid hC
      obtain ⟨hB, hsz, hx, hF, hz, hT⟩ := hC
      have ks := hx.cell
      clear hcl hL
      clear hB hsz hx hF hz hT
      refine OpGoes.step fun K hK => ?_
      unfold OpGoes
      go_simp
      obtain ⟨hB, hsz, hx, hF, hz, hT⟩ := HC.out
      exact hK _ _ ⟨⟨hB, hsz, hx, hF, hz, fun h => (hT (by simpa [upd] using h))⟩, rfl, Below.refl _ _⟩
    · -- 1: Op.move t1
      go_light
      intro L σ W' hcl hL hC hw
      clear hw
      have HC := Lib.hid hC
      clear hC
      clear hcl hL
      refine OpGoes.step fun K hK => ?_
      unfold OpGoes
      go_simp
      obtain ⟨hB, hsz, hx, hF, hz, hT⟩ := HC.out
      exact hK _ _ ⟨⟨hB, hsz, hx, hF, hz, fun h => (hT (by simpa [upd] using h))⟩, rfl, Below.refl _ _⟩
    · -- 2: Op.makeFunc (Fn.func 66) #[] #[t5, t8]
      go_light
      intro L σ W' hcl hL hC hw
      clear hw
      have HC := Lib.hid hC
      clear hC
      clear hcl hL
      refine OpGoes.step fun K hK => ?_
      unfold OpGoes
      go_simp
      obtain ⟨hB, hsz, hx, hF, hz, hT⟩ := HC.out
      exact hK _ _ ⟨⟨hB, hsz, hx, hF, hz, fun h => (hT (by simpa [upd] using h))⟩, rfl, Below.refl _ _⟩
    · -- 3: Op.call { value (Operand.func 48), args := #[t13, t14], argTypes := #[2, 73] }
      go_light
      intro L σ W' hcl hL hC hw
      have e1 : σ 1 = .int .i64 z := hw 1 (by kernel_rfl)
      have e2 : σ 2 = .func (.func 66) #[] #[.pointer (some ⟨N + 1, 0, none⟩), .pointer (some ⟨N + 3, 0, none⟩)] := hw 2 (by kernel_rfl)
      clear hw
      have HC := Lib.hid hC
      clear hC
      clear hcl hL
      refine OpGoes.step fun K hK => ?_
      unfold OpGoes
      go_simp
      obtain ⟨hB, hsz, hx, hF, hz, hT⟩ := HC.out
      refine (ionRing_any z 66 [.pointer (some ⟨N + 1, 0, none⟩), .pointer (some ⟨N + 3, 0, none⟩)] _).mono ?_
      rintro e w1 ⟨rfl, hk1, hk2, hk3, hb1⟩
      exact ⟨_, rfl, hK _ _ ⟨⟨bstep hB (Nat.le_trans hNw hB.size) hb1, Nat.le_trans hsz hb1.size, hx.below hb1 hx.lt, hF.below hb1 hF.lt, hz.below hb1 hz.lt, fun h => (hT (by simpa [upd] using h)).below hb1 (hT (by simpa [upd] using h)).lt⟩, ⟨_, rfl, hk1, hk2, hsz⟩, hb1⟩⟩
    · -- 4: Op.call { value (Operand.func 47), args := #[t12, t15], argTypes := #[28, 68] }
      go_light
      intro L σ W' hcl hL hC hw hne
      have e0 : σ 0 = .agg #[.int .i64 s.rd, .int .i64 s.mo, .slice A n cap, .int .i64 s.fi, .int .i64 s.la] := hw 0 (by kernel_rfl)
      obtain ⟨k, e3, hp3⟩ : ∃ (k : Nat), σ 3 = .func (.func 74) #[] #[.pointer (some ⟨k, 0, none⟩), .pointer (some ⟨k + 1, 0, none⟩)] ∧ OnR (N + 4) W' k z 66 [.pointer (some ⟨N + 1, 0, none⟩), .pointer (some ⟨N + 3, 0, none⟩)] := hw 3 (by kernel_rfl)
      clear hw hne
      obtain ⟨hB, hsz, hx, hF, hz, hT⟩ := hC
      have hT4 := (hT hL)
      clear hcl hL
      refine OpGoes.step fun K hK => ?_
      unfold OpGoes
      go_simp
      have hs3 := hs.keep (w' := W') (fun j _ hj => hB.block j (by omega))
      have he3 := he.below hB (by omega)
      refine (idoneOrNot_any (onRingC z tailC) s A n cap lo hi B (N + 3) a0 a1 (fun W => BoxAt W (N + 3) #[.int .i64 x] 2) 74 [.pointer (some ⟨k, 0, none⟩), .pointer (some ⟨k + 1, 0, none⟩)] W' hs3 (by omega) (by omega) (by omega) (by omega) (by omega) he3 hm HPN.out (fun t hok ht => mild_ring (fun r r' h => by injection h with h; subst h; rfl) hok ht) (fun W1 W2 h h' => h.below h' (by omega)) (fun hok => ionRing1_any tailC s z n k (k + 1) B a0 a2 (N + 3) (fun W => BoxAt W (N + 3) #[.int .i64 x] 2) 66 [.pointer (some ⟨N + 1, 0, none⟩), .pointer (some ⟨N + 3, 0, none⟩)] W' hp3.1 hp3.2.1 (iput1 s z n (N + 1) (N + 3) a0 x W' hF hT4 HX.out (fun r hr => (stOk_nums hok r hr).2.1)) (enters_of Tryd.func66 (by kernel_rfl) rfl) (hS0.keep (fun j hj => hB.block j (by omega))) hN0 (by omega) (by omega) hm) (enters_of Tryd.func74 (by kernel_rfl) rfl)).mono ?_
      rintro e w1 ⟨A', n', c', rfl, hR1, hk1, hbt⟩
      have hbt2 := hbt.size
      refine ⟨_, rfl, hK _ _ ⟨⟨hB.trans (hbt.below (by omega) (by omega)), by omega, hbt.box hx (by omega), hbt.box hF (by omega), hbt.box hz (by omega), fun h => absurd h (by simp [upd])⟩, ⟨A', n', c', rfl, ⟨_, Nat.le_refl _, hR1.mono (by omega) (Nat.le_refl _)⟩, hk1⟩, hbt2, fun j hj hn hR => ?_⟩⟩
      match j, hj, hn, hR with
      | 0, _, _, hR => exact (show σ 0 = .agg #[.int .i64 s.rd, .int .i64 s.mo, .slice A n cap, .int .i64 s.fi, .int .i64 s.la] from hR)
      | 1, _, _, hR => exact (show σ 1 = .int .i64 z from hR)
      | 2, _, _, hR => exact (show σ 2 = .func (.func 66) #[] #[.pointer (some ⟨N + 1, 0, none⟩), .pointer (some ⟨N + 3, 0, none⟩)] from hR)
      | 3, _, _, hR => obtain ⟨k, e, hp⟩ := hR; exact ⟨k, e, hp.but hbt (by omega)⟩
      | 4, hj, _, _ => exact absurd rfl hj
      | 5, _, hn, _ => exact absurd (hn.symm.trans (show waits _ _ _ = true by kernel_rfl)) (by decide)
      | 6, _, _, hR => obtain ⟨A', n', c', e, hp⟩ := hR; exact ⟨A', n', c', e, hp.but hbt (by omega) hk1⟩
      | 7, _, _, hR => exact (show σ 7 = .bool ((done (onRingC z tailC) s).2) from hR)
      | 8, _, _, hR => obtain ⟨g, e, hg, x0, x1, x2, x3, x4, hx⟩ := hR; exact ⟨g, e, hg, x0, x1, x2, x3, x4, hbt.box hx (by omega)⟩
      | 9, _, _, hR => obtain ⟨g, A'_x, n'_x, c'_x, e, hg, hx, hp⟩ := hR; exact ⟨g, A'_x, n'_x, c'_x, e, hg, hbt.box hx (by omega), hp.but hbt (by omega) hk1⟩
      | 10, _, _, hR => exact (show σ 10 = .bool ((done (onRingC z tailC) s).2) from hR)
      | _ + 11, _, _, _ => exact trivial
    · -- 5: Op.move t16
      go_light
      intro L σ W' hcl hL hC hw
      obtain ⟨A', n', c', e4, hp4⟩ : ∃ (A' : Option Addr) (n' c' : Nat), σ 4 = .tuple #[.agg #[.int .i64 ((done (onRingC z tailC) s).1.rd), .int .i64 ((done (onRingC z tailC) s).1.mo), .slice A' n' c', .int .i64 ((done (onRingC z tailC) s).1.fi), .int .i64 ((done (onRingC z tailC) s).1.la)], .bool ((done (onRingC z tailC) s).2)] ∧ TkF (N + 4) (N + 3) x (done (onRingC z tailC) s) W' A' n' c' := hw 4 (by kernel_rfl)
      clear hw
      have HC := Lib.hid hC
      clear hC
      clear hcl hL
      refine OpGoes.step fun K hK => ?_
      unfold OpGoes
      go_simp
      obtain ⟨hB, hsz, hx, hF, hz, hT⟩ := HC.out
      exact hK _ _ ⟨⟨hB, hsz, hx, hF, hz, fun h => (hT (by simpa [upd] using h))⟩, ⟨A', n', c', rfl, hp4⟩, Below.refl _ _⟩
    · -- 6: Op.extract t11 0
      go_light
      intro L σ W' hcl hL hC hw
      obtain ⟨A', n', c', e5, hp5⟩ : ∃ (A' : Option Addr) (n' c' : Nat), σ 5 = .tuple #[.agg #[.int .i64 ((done (onRingC z tailC) s).1.rd), .int .i64 ((done (onRingC z tailC) s).1.mo), .slice A' n' c', .int .i64 ((done (onRingC z tailC) s).1.fi), .int .i64 ((done (onRingC z tailC) s).1.la)], .bool ((done (onRingC z tailC) s).2)] ∧ TkF (N + 4) (N + 3) x (done (onRingC z tailC) s) W' A' n' c' := hw 5 (by kernel_rfl)
      clear hw
      have HC := Lib.hid hC
      clear hC
      clear hcl hL
      refine OpGoes.step fun K hK => ?_
      unfold OpGoes
      go_simp
      obtain ⟨hB, hsz, hx, hF, hz, hT⟩ := HC.out
      exact hK _ _ ⟨⟨hB, hsz, hx, hF, hz, fun h => (hT (by simpa [upd] using h))⟩, ⟨A', n', c', rfl, hp5⟩, Below.refl _ _⟩
    · -- 7: Op.extract t11 1
      go_light
      intro L σ W' hcl hL hC hw
      obtain ⟨A', n', c', e5, hp5⟩ : ∃ (A' : Option Addr) (n' c' : Nat), σ 5 = .tuple #[.agg #[.int .i64 ((done (onRingC z tailC) s).1.rd), .int .i64 ((done (onRingC z tailC) s).1.mo), .slice A' n' c', .int .i64 ((done (onRingC z tailC) s).1.fi), .int .i64 ((done (onRingC z tailC) s).1.la)], .bool ((done (onRingC z tailC) s).2)] ∧ TkF (N + 4) (N + 3) x (done (onRingC z tailC) s) W' A' n' c' := hw 5 (by kernel_rfl)
      clear hw
      have HC := Lib.hid hC
      clear hC
      clear hcl hL
      refine OpGoes.step fun K hK => ?_
      unfold OpGoes
      go_simp
      obtain ⟨hB, hsz, hx, hF, hz, hT⟩ := HC.out
      exact hK _ _ ⟨⟨hB, hsz, hx, hF, hz, fun h => (hT (by simpa [upd] using h))⟩, rfl, Below.refl _ _⟩
    · -- 8: Op.alloc 28
      go_light
      intro L σ W' hcl hL hC hw
      clear hw
      have HC := Lib.hid hC
      clear hC
      clear hcl hL
      refine OpGoes.step fun K hK => ?_
      unfold OpGoes
      go_simp
      obtain ⟨hB, hsz, hx, hF, hz, hT⟩ := HC.out
      have hb1 : Below W'.heap.size W' (W'.alloc (.cells #[.int .i64 0, .int .i64 0, .slice none 0 0, .int .i64 0, .int .i64 0] 28)) := (Below.refl _ _).alloc (Nat.le_refl _) _
      exact hK _ _ ⟨⟨bstep hB (Nat.le_trans hNw hB.size) hb1, Nat.le_trans hsz hb1.size, hx.below hb1 hx.lt, hF.below hb1 hF.lt, hz.below hb1 hz.lt, fun h => (hT (by simpa [upd] using h)).below hb1 (hT (by simpa [upd] using h)).lt⟩, ⟨_, rfl, hsz, _, _, _, _, _, BoxAt.new _ _ _⟩, hb1, rfl, by simp⟩
    · -- 9: Op.store 28 t9 t17
      go_light
      intro L σ W' hcl hL hC hw hne
      obtain ⟨A', n', c', e6, hp6⟩ : ∃ (A' : Option Addr) (n' c' : Nat), σ 6 = .agg #[.int .i64 ((done (onRingC z tailC) s).1.rd), .int .i64 ((done (onRingC z tailC) s).1.mo), .slice A' n' c', .int .i64 ((done (onRingC z tailC) s).1.fi), .int .i64 ((done (onRingC z tailC) s).1.la)] ∧ TkF (N + 4) (N + 3) x (done (onRingC z tailC) s) W' A' n' c' := hw 6 (by kernel_rfl)
      obtain ⟨g8, e8, hg8, x0, x1, x2, x3, x4, hbox8⟩ : ∃ g8, σ 8 = .pointer (some ⟨g8, 0, none⟩) ∧ (N + 4) ≤ g8 ∧ ∃ x0 x1 x2 x3 x4, BoxAt W' g8 #[x0, x1, x2, x3, x4] 28 := hw 8 (by kernel_rfl)
      clear hw hne
      have HC := Lib.hid hC
      clear hC
      clear hcl hL
      have kc_ := hbox8.cell
      have kf_ := hbox8.frozen
      refine OpGoes.step fun K hK => ?_
      unfold OpGoes
      go_simp
      obtain ⟨hB, hsz, hx, hF, hz, hT⟩ := HC.out
      have hset := sets_all (us := [.int .i64 ((done (onRingC z tailC) s).1.rd), .int .i64 ((done (onRingC z tailC) s).1.mo), .slice A' n' c', .int .i64 ((done (onRingC z tailC) s).1.fi), .int .i64 ((done (onRingC z tailC) s).1.la)]) hbox8 rfl
      refine hK undef (setCells W' g8 0 [.int .i64 ((done (onRingC z tailC) s).1.rd), .int .i64 ((done (onRingC z tailC) s).1.mo), .slice A' n' c', .int .i64 ((done (onRingC z tailC) s).1.fi), .int .i64 ((done (onRingC z tailC) s).1.la)]) ⟨⟨(Below.setCells (by omega) [.int .i64 ((done (onRingC z tailC) s).1.rd), .int .i64 ((done (onRingC z tailC) s).1.mo), .slice A' n' c', .int .i64 ((done (onRingC z tailC) s).1.fi), .int .i64 ((done (onRingC z tailC) s).1.la)] 0 hB), (size_sts hsz [.int .i64 ((done (onRingC z tailC) s).1.rd), .int .i64 ((done (onRingC z tailC) s).1.mo), .slice A' n' c', .int .i64 ((done (onRingC z tailC) s).1.fi), .int .i64 ((done (onRingC z tailC) s).1.la)] 0), (BoxAt.sets_ne [.int .i64 ((done (onRingC z tailC) s).1.rd), .int .i64 ((done (onRingC z tailC) s).1.mo), .slice A' n' c', .int .i64 ((done (onRingC z tailC) s).1.fi), .int .i64 ((done (onRingC z tailC) s).1.la)] 0 hx (by omega)), (BoxAt.sets_ne [.int .i64 ((done (onRingC z tailC) s).1.rd), .int .i64 ((done (onRingC z tailC) s).1.mo), .slice A' n' c', .int .i64 ((done (onRingC z tailC) s).1.fi), .int .i64 ((done (onRingC z tailC) s).1.la)] 0 hF (by omega)), (BoxAt.sets_ne [.int .i64 ((done (onRingC z tailC) s).1.rd), .int .i64 ((done (onRingC z tailC) s).1.mo), .slice A' n' c', .int .i64 ((done (onRingC z tailC) s).1.fi), .int .i64 ((done (onRingC z tailC) s).1.la)] 0 hz (by omega)), fun h => (BoxAt.sets_ne [.int .i64 ((done (onRingC z tailC) s).1.rd), .int .i64 ((done (onRingC z tailC) s).1.mo), .slice A' n' c', .int .i64 ((done (onRingC z tailC) s).1.fi), .int .i64 ((done (onRingC z tailC) s).1.la)] 0 (hT (by simpa [upd] using h)) (by omega))⟩, ⟨g8, A', n', c', e8, hg8, hset, (TkF.setsT hp6 hbox8 (by omega) [.int .i64 ((done (onRingC z tailC) s).1.rd), .int .i64 ((done (onRingC z tailC) s).1.mo), .slice A' n' c', .int .i64 ((done (onRingC z tailC) s).1.fi), .int .i64 ((done (onRingC z tailC) s).1.la)] 0)⟩, Nat.le_of_eq (sets_size _ _ _).symm, fun j hj hn hR => ?_⟩
      match j, hj, hn, hR with
      | 0, _, _, hR => exact (show σ 0 = .agg #[.int .i64 s.rd, .int .i64 s.mo, .slice A n cap, .int .i64 s.fi, .int .i64 s.la] from hR)
      | 1, _, _, hR => exact (show σ 1 = .int .i64 z from hR)
      | 2, _, _, hR => exact (show σ 2 = .func (.func 66) #[] #[.pointer (some ⟨N + 1, 0, none⟩), .pointer (some ⟨N + 3, 0, none⟩)] from hR)
      | 3, _, _, hR => obtain ⟨k_x, e, hp⟩ := hR; exact ⟨k_x, e, (OnR.setsT hp hbox8 [.int .i64 ((done (onRingC z tailC) s).1.rd), .int .i64 ((done (onRingC z tailC) s).1.mo), .slice A' n' c', .int .i64 ((done (onRingC z tailC) s).1.fi), .int .i64 ((done (onRingC z tailC) s).1.la)] 0)⟩
      | 4, _, _, hR => obtain ⟨A'_x, n'_x, c'_x, e, hp⟩ := hR; exact ⟨A'_x, n'_x, c'_x, e, (TkF.setsT hp hbox8 (by omega) [.int .i64 ((done (onRingC z tailC) s).1.rd), .int .i64 ((done (onRingC z tailC) s).1.mo), .slice A' n' c', .int .i64 ((done (onRingC z tailC) s).1.fi), .int .i64 ((done (onRingC z tailC) s).1.la)] 0)⟩
      | 5, _, _, hR => obtain ⟨A'_x, n'_x, c'_x, e, hp⟩ := hR; exact ⟨A'_x, n'_x, c'_x, e, (TkF.setsT hp hbox8 (by omega) [.int .i64 ((done (onRingC z tailC) s).1.rd), .int .i64 ((done (onRingC z tailC) s).1.mo), .slice A' n' c', .int .i64 ((done (onRingC z tailC) s).1.fi), .int .i64 ((done (onRingC z tailC) s).1.la)] 0)⟩
      | 6, _, _, hR => obtain ⟨A'_x, n'_x, c'_x, e, hp⟩ := hR; exact ⟨A'_x, n'_x, c'_x, e, (TkF.setsT hp hbox8 (by omega) [.int .i64 ((done (onRingC z tailC) s).1.rd), .int .i64 ((done (onRingC z tailC) s).1.mo), .slice A' n' c', .int .i64 ((done (onRingC z tailC) s).1.fi), .int .i64 ((done (onRingC z tailC) s).1.la)] 0)⟩
      | 7, _, _, hR => exact (show σ 7 = .bool ((done (onRingC z tailC) s).2) from hR)
      | 8, _, _, _ => exact ⟨g8, e8, hg8, _, _, _, _, _, hset⟩
      | 9, hj, _, _ => exact absurd rfl hj
      | 10, _, _, hR => exact (show σ 10 = .bool ((done (onRingC z tailC) s).2) from hR)
      | _ + 11, _, _, _ => exact trivial
    · -- 10: Op.assign t18
      go_light
      intro L σ W' hcl hL hC hw
      have e7 : σ 7 = .bool ((done (onRingC z tailC) s).2) := hw 7 (by kernel_rfl)
      clear hw
      have HC := Lib.hid hC
      clear hC
      clear hcl hL
      refine OpGoes.step fun K hK => ?_
      unfold OpGoes
      go_simp
      obtain ⟨hB, hsz, hx, hF, hz, hT⟩ := HC.out
      exact hK _ _ ⟨⟨hB, hsz, hx, hF, hz, fun h => (hT (by simpa [upd] using h))⟩, rfl, Below.refl _ _⟩
    · intro σ L W' hall hC hR
      obtain ⟨hB, hsz, hx, hF, hz, hT⟩ := hC
      obtain ⟨g8, A', n', c', e8, hg9, s9, hp9⟩ : ∃ (g8 : Nat) (A' : Option Addr) (n' c' : Nat), σ 8 = .pointer (some ⟨g8, 0, none⟩) ∧ (N + 4) ≤ g8 ∧ BoxAt W' g8 #[.int .i64 ((done (onRingC z tailC) s).1.rd), .int .i64 ((done (onRingC z tailC) s).1.mo), .slice A' n' c', .int .i64 ((done (onRingC z tailC) s).1.fi), .int .i64 ((done (onRingC z tailC) s).1.la)] 28 ∧ TkF (N + 4) (N + 3) x (done (onRingC z tailC) s) W' A' n' c' := hR 9 (by decide)
      have e10 : σ 10 = .bool ((done (onRingC z tailC) s).2) := hR 10 (by decide)
      clear hR
      simp only [lexAll]
      go_simp
      go_step
      go_meet
      exact ⟨hB, hsz, hz, g8, A', n', c', rfl, hg9, s9, hp9, rfl⟩

  case rest =>
    clear hB hsz hx hF hz hT
    obtain ⟨hB, hsz, hz, g, A', n', c', rfl, hgN, hgb, hTk, rfl⟩ := hcut
    cases hq : (done (onRingC z tailC) s).2
    · have HQ := Lib.hid hq; clear hq
      have kg := hgb.cell
      have kz := hz.cell
      have fz := hz.frozen
      go_wp2
      refine bodyPost_ret (v := .tuple #[stV (done (onRingC z tailC) s).1 A' n' c', .int .i64 (-1)]) (by simp [results, Tryd.results39, go_sem, kz, stV]) rfl ?_
      obtain ⟨hi', hl', hd'⟩ := hTk.1
      refine ⟨A', n', c', by rw [HV.out, HQ.out]; rfl, ?_, ((((((hB.setCell (by dsimp only; omega) _).setCell (by dsimp only; omega) _).setCell (by dsimp only; omega) _).setCell (by dsimp only; omega) _).setCell (by dsimp only; omega) _)).mono hN1⟩
      rw [HV.out]
      exact ((((((hd'.setD (.inl (by omega)) _ _).setD (.inl (by omega)) _ _).setD (.inl (by omega)) _ _).setD (.inl (by omega)) _ _).setD (.inl (by omega)) _ _)).mono (by omega) (by simpa using hl')
    · have HQ := Lib.hid hq
      have hTb := hTk.2 hq
      clear hq
      have hD : DnF (N + 4) (fun _ => True) (done (onRingC z tailC) s) wc A' n' c' := ⟨hTk.1, fun _ => trivial⟩
      clear hTk
      go_upto_region 5 with fail
      refine wp_region2 (fun w w' => Below w.heap.size w w') (fun _ _ h => h.size) (fun L W' => Below N w W' ∧ BoxAt W' g #[.int .i64 ((done (onRingC z tailC) s).1.rd), .int .i64 ((done (onRingC z tailC) s).1.mo), .slice A' n' c', .int .i64 ((done (onRingC z tailC) s).1.fi), .int .i64 ((done (onRingC z tailC) s).1.la)] 28 ∧ BoxAt W' (N + 3) #[.int .i64 x] 2 ∧ DnF (N + 4) (fun _ => True) (done (onRingC z tailC) s) W' A' n' c' ∧ (∃ x0 x1 x2 x3 x4, BoxAt W' (N + 2) #[x0, x1, x2, x3, x4] 28) ∧ (L 2 = false → BoxAt W' (N + 2) #[.int .i64 0, .int .i64 0, .slice none 0 0, .int .i64 0, .int .i64 0] 28)) (tr_putR s N g z x A' n' c') tr_putK tr_putS (by kernel_rfl) (by kernel_rfl) ?_ ?_ ?_
        (.grow rfl ?_ <| .grow rfl ?_ <| .store rfl ?_ <| .grow rfl ?_ <| .nil) ?_
      · intro j σ τ w h hR
        match j, h, hR with
        | 0, h, hR => exact (h 0 (List.mem_singleton.2 rfl)).symm.trans hR
        | 1, h, hR => exact (h 1 (List.mem_singleton.2 rfl)).symm.trans hR
        | 2, _, hR => exact hR
        | 3, h, hR => exact (h 3 (List.mem_singleton.2 rfl)).symm.trans hR
        | _ + 4, _, _ => exact trivial
      · intro j σ w w' hb hR
        match j, hR with
        | 0, hR => exact hR
        | 1, hR => exact hR
        | 2, hR => exact hR.below hb hR.lt
        | 3, hR => exact hR
        | _ + 4, _ => exact trivial
      · exact ⟨hB.drew, hgb, hTb, hD, ⟨_, _, _, _, _, hz⟩, fun _ => hz⟩
      · -- 0: Op.load 28 t9
        go_light
        intro L σ W' hcl hL hC hw
        clear hw
        have HC := Lib.hid hC
        obtain ⟨hB, hgb, hTb, hD, ⟨hz_x0, hz_x1, hz_x2, hz_x3, hz_x4, hz⟩, hz_o⟩ := hC
        have kg := hgb.cell
        clear hcl hL
        clear hB hgb hTb hD hz hz_o
        refine OpGoes.step fun K hK => ?_
        unfold OpGoes
        go_simp
        obtain ⟨hB, hgb, hTb, hD, ⟨hz_x0, hz_x1, hz_x2, hz_x3, hz_x4, hz⟩, hz_o⟩ := HC.out
        exact hK _ _ ⟨⟨hB, hgb, hTb, hD, ⟨_, _, _, _, _, hz⟩, fun h => hz_o (by simpa [upd] using h)⟩, rfl, Below.refl _ _⟩
      · -- 1: Op.load 2 t8
        go_light
        intro L σ W' hcl hL hC hw
        clear hw
        have HC := Lib.hid hC
        obtain ⟨hB, hgb, hTb, hD, ⟨hz_x0, hz_x1, hz_x2, hz_x3, hz_x4, hz⟩, hz_o⟩ := hC
        have kT := hTb.cell
        clear hcl hL
        clear hB hgb hTb hD hz hz_o
        refine OpGoes.step fun K hK => ?_
        unfold OpGoes
        go_simp
        obtain ⟨hB, hgb, hTb, hD, ⟨hz_x0, hz_x1, hz_x2, hz_x3, hz_x4, hz⟩, hz_o⟩ := HC.out
        exact hK _ _ ⟨⟨hB, hgb, hTb, hD, ⟨_, _, _, _, _, hz⟩, fun h => hz_o (by simpa [upd] using h)⟩, rfl, Below.refl _ _⟩
      · -- 2: Op.store 28 t6 t22
        go_light
        intro L σ W' hcl hL hC hw hne
        have e0 : σ 0 = .agg #[.int .i64 ((done (onRingC z tailC) s).1.rd), .int .i64 ((done (onRingC z tailC) s).1.mo), .slice A' n' c', .int .i64 ((done (onRingC z tailC) s).1.fi), .int .i64 ((done (onRingC z tailC) s).1.la)] := hw 0 (by kernel_rfl)
        clear hw hne
        have HC := Lib.hid hC
        obtain ⟨hB, hgb, hTb, hD, ⟨hz_x0, hz_x1, hz_x2, hz_x3, hz_x4, hz⟩, hz_o⟩ := hC
        clear hcl hL
        have kc_ := hz.cell
        have kf_ := hz.frozen
        clear hB hgb hTb hD hz hz_o
        refine OpGoes.step fun K hK => ?_
        unfold OpGoes
        go_simp
        obtain ⟨hB, hgb, hTb, hD, ⟨hz_x0, hz_x1, hz_x2, hz_x3, hz_x4, hz⟩, hz_o⟩ := HC.out
        have hset := sets_all (us := [.int .i64 ((done (onRingC z tailC) s).1.rd), .int .i64 ((done (onRingC z tailC) s).1.mo), .slice A' n' c', .int .i64 ((done (onRingC z tailC) s).1.fi), .int .i64 ((done (onRingC z tailC) s).1.la)]) hz rfl
        refine hK undef (setCells W' (N + 2) 0 [.int .i64 ((done (onRingC z tailC) s).1.rd), .int .i64 ((done (onRingC z tailC) s).1.mo), .slice A' n' c', .int .i64 ((done (onRingC z tailC) s).1.fi), .int .i64 ((done (onRingC z tailC) s).1.la)]) ⟨⟨(Below.setCells (by omega) [.int .i64 ((done (onRingC z tailC) s).1.rd), .int .i64 ((done (onRingC z tailC) s).1.mo), .slice A' n' c', .int .i64 ((done (onRingC z tailC) s).1.fi), .int .i64 ((done (onRingC z tailC) s).1.la)] 0 hB), (BoxAt.sets_ne [.int .i64 ((done (onRingC z tailC) s).1.rd), .int .i64 ((done (onRingC z tailC) s).1.mo), .slice A' n' c', .int .i64 ((done (onRingC z tailC) s).1.fi), .int .i64 ((done (onRingC z tailC) s).1.la)] 0 hgb (by omega)), (BoxAt.sets_ne [.int .i64 ((done (onRingC z tailC) s).1.rd), .int .i64 ((done (onRingC z tailC) s).1.mo), .slice A' n' c', .int .i64 ((done (onRingC z tailC) s).1.fi), .int .i64 ((done (onRingC z tailC) s).1.la)] 0 hTb (by omega)), (DnF.sets (by omega) [.int .i64 ((done (onRingC z tailC) s).1.rd), .int .i64 ((done (onRingC z tailC) s).1.mo), .slice A' n' c', .int .i64 ((done (onRingC z tailC) s).1.fi), .int .i64 ((done (onRingC z tailC) s).1.la)] 0 hD), ⟨_, _, _, _, _, hset⟩, fun h => absurd h (by simp [upd])⟩, hset, Nat.le_of_eq (sets_size _ _ _).symm, fun j hj hn hR => ?_⟩
        match j, hj, hn, hR with
        | 0, _, _, hR => exact (show σ 0 = .agg #[.int .i64 ((done (onRingC z tailC) s).1.rd), .int .i64 ((done (onRingC z tailC) s).1.mo), .slice A' n' c', .int .i64 ((done (onRingC z tailC) s).1.fi), .int .i64 ((done (onRingC z tailC) s).1.la)] from hR)
        | 1, _, _, hR => exact (show σ 1 = .int .i64 x from hR)
        | 2, hj, _, _ => exact absurd rfl hj
        | 3, _, _, hR => exact (show σ 3 = .int .i64 x from hR)
        | _ + 4, _, _, _ => exact trivial
      · -- 3: Op.assign t23
        go_light
        intro L σ W' hcl hL hC hw
        have e1 : σ 1 = .int .i64 x := hw 1 (by kernel_rfl)
        clear hw
        have HC := Lib.hid hC
        clear hC
        clear hcl hL
        refine OpGoes.step fun K hK => ?_
        unfold OpGoes
        go_simp
        obtain ⟨hB, hgb, hTb, hD, ⟨hz_x0, hz_x1, hz_x2, hz_x3, hz_x4, hz⟩, hz_o⟩ := HC.out
        exact hK _ _ ⟨⟨hB, hgb, hTb, hD, ⟨_, _, _, _, _, hz⟩, fun h => hz_o (by simpa [upd] using h)⟩, rfl, Below.refl _ _⟩
      · intro σ L W' hall hC hR
        obtain ⟨hB, hgb, hTb, hD, ⟨hz_x0, hz_x1, hz_x2, hz_x3, hz_x4, hz⟩, hz_o⟩ := hC
        have s2 : BoxAt W' (N + 2) #[.int .i64 ((done (onRingC z tailC) s).1.rd), .int .i64 ((done (onRingC z tailC) s).1.mo), .slice A' n' c', .int .i64 ((done (onRingC z tailC) s).1.fi), .int .i64 ((done (onRingC z tailC) s).1.la)] 28 := hR 2 (by decide)
        have e3 : σ 3 = .int .i64 x := hR 3 (by decide)
        clear hR
        simp only [lexAll]
        go_simp
        go_step
        have k6 := s2.cell
        go_wp2
        refine bodyPost_ret (v := .tuple #[stV (done (onRingC z tailC) s).1 A' n' c', .int .i64 x]) (by simp [results, Tryd.results39, go_sem, k6, stV]) rfl ?_
        obtain ⟨hi', hl', hd'⟩ := hD.1
        refine ⟨A', n', c', by rw [HV.out, HQ.out, HX.out]; rfl, ?_, hB.mono hN1⟩
        rw [HV.out]
        exact hd'.mono (by omega) hl'


set_option maxRecDepth 100000 in
set_option maxHeartbeats 4000000 in
theorem iputTicket_any (s : St) (A : Option Addr) (n cap lo hi B : Nat) (a0 a1 a2 : Addr) (z : Int) (w : World) (hs : RgsW lo hi w A n cap s.rs) (hh : hi ≤ w.heap.size) (hBw : B ≤ w.heap.size) (he : Errs B w a0 a1) (hS0 : Sent B w 2 a2) (hN0 : a2 ≠ a0) (hm : n ≤ 1048576) (hpn : ∀ r ∈ s.rs, r.ps.length ≤ 1048576) :
    Calls Tryd.prog 19 #[stV s A n cap, .int .i64 z] w (RetSID (putTicket s z) w) := by
  have HPN := Lib.hid hpn; clear hpn
  obtain ⟨N, hN⟩ : ∃ N, N = w.heap.size := ⟨_, rfl⟩
  have hN1 : w.heap.size ≤ N := by omega
  have hNw : N ≤ w.heap.size := by omega
  have HN := Lib.hid hN
  unfold stV
  go_enter Tryd.func19, Tryd.ntmps19
  go_wp2_with fail
  rw [← HN.out]
  refine calls_abs (fun W => Below N w W ∧ BoxAt W (N + 1) #[.int .i64 0, .int .i64 0, .slice none 0 0, .int .i64 0, .int .i64 0] 28 ∧ N + 2 ≤ W.heap.size) ⟨((Below.refl _ _).alloc hNw _).alloc (by simp; omega) _, BoxAt.new' (by simp; omega), by simp; omega⟩ ?_
  clear hN
  rintro W ⟨hB, hz, hW⟩
  have hBs := hB.size
  refine (iticketOf_put s A n cap lo hi B a0 a1 a2 z W (hs.keep (fun j _ hj => hB.block j (by omega))) (by omega) (by omega) (he.below hB (by omega)) (hS0.keep (fun j hj => hB.block j (by omega))) hN0 hm HPN.out).mono ?_
  rintro e w1 ⟨A', n', c', rfl, hR, hb1⟩
  replace hz := hz.below hb1 hz.lt
  replace hB := bstep hB (Nat.le_trans hNw hB.size) hb1
  have hw1 := hb1.size
  clear hb1
  generalize putTicket s z = q at *
  unfold stV
  have kz := hz.cell
  have fz := hz.frozen
  go_wp2
  refine bodyPost_ret (v := .tuple #[stV q.1 A' n' c', .int .i64 q.2]) (by simp [results, Tryd.results19, go_sem, kz, stV]) rfl ⟨A', n', c', rfl, ?_, ((((((hB.setCell (by dsimp only; omega) _).setCell (by dsimp only; omega) _).setCell (by dsimp only; omega) _).setCell (by dsimp only; omega) _).setCell (by dsimp only; omega) _)).mono hN1⟩
  exact ((((((hR.setD (.inl (by omega)) _ _).setD (.inl (by omega)) _ _).setD (.inl (by omega)) _ _).setD (.inl (by omega)) _ _).setD (.inl (by omega)) _ _)).mono (by omega) (by simp)

end Go.Proofs.YtbpjhdoldodlnaaDoor

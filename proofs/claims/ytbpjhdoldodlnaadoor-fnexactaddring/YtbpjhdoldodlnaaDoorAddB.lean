/-
  AddRing of the program: the whole.
-/
import Derived.Test.YtbpjhdoldodlnaaDoorAddA
namespace Go.Proofs.YtbpjhdoldodlnaaDoor
open Go.RowKit
set_option linter.unusedVariables false
attribute [local go_sem] OpUpon
attribute [local go_sem ↓] Go.wp_at_zero Go.wp_at_succ

def arRR (s : St) (N g : Nat) (v : Int) (A' : Option Addr) (n' c' : Nat) (j : Nat) (σ : Nat → Value) (w : World) : Prop :=
  match j with
  | 0 => σ 0 = .agg #[.int .i64 ((done (addC v) s).1.rd), .int .i64 ((done (addC v) s).1.mo), .slice A' n' c', .int .i64 ((done (addC v) s).1.fi), .int .i64 ((done (addC v) s).1.la)]
  | 1 => σ 1 = .pointer (some ⟨g, 2, none⟩)
  | 2 => σ 2 = .slice A' n' c'
  | 3 => σ 3 = .int .i64 ((n' : Int))
  | 4 => σ 4 = (.int .i64 ((n' : Int) - 1))
  | 5 => BoxAt w (N + 2) #[.int .i64 ((done (addC v) s).1.rd), .int .i64 ((done (addC v) s).1.mo), .slice A' n' c', .int .i64 ((done (addC v) s).1.fi), .int .i64 ((done (addC v) s).1.la)] 28
  | 6 => σ 6 = (.int .i64 ((n' : Int) - 1))
  | _ => True

def arRS (j : Nat) : List Nat := [[0], [1], [2], [3], [4], [5], [6]].getD j [j]
def arRK (j : Nat) : Nat := [0, 0, 0, 0, 0, 1, 0].getD j 0

set_option maxRecDepth 100000 in
set_option maxHeartbeats 4000000 in
theorem iaddRing_any (s : St) (A : Option Addr) (n cap lo hi B : Nat) (a0 a1 a2 : Addr) (v : Int) (w : World) (hs : RgsW lo hi w A n cap s.rs) (hh : hi ≤ w.heap.size) (hBw : B ≤ w.heap.size) (he : Errs B w a0 a1) (hS0 : Sent B w 1 a2) (hN0 : a2 ≠ a0) (hm : n ≤ 1048576) (hpn : ∀ r ∈ s.rs, r.ps.length ≤ 1048576) :
    Calls Tryd.prog 28 #[stV s A n cap, .int .i64 v] w (RetSID (addRing s v) w) := by
  have HPN := Lib.hid hpn; clear hpn
  have HLN := Lib.hid hs.1
  have HV := Lib.hid (add_done s v)
  have HSM := Lib.hid (show (done (addC v) s).2 = true → 1 ≤ (done (addC v) s).1.rs.length ∧ (done (addC v) s).1.rs.length ≤ 1048576 from fun h => by
    revert h
    unfold done thenB
    cases hok : stOk s
    · simp
    · cases hc : addC v s with
      | none => simp
      | some t =>
        cases ht : stOk t
        · simp [ht]
        · have hn := stOk_neat ht
          simp [ht]
          have := hn.1; have := hn.2.1; omega)
  obtain ⟨N, hN⟩ : ∃ N, N = w.heap.size := ⟨_, rfl⟩
  have hN1 : w.heap.size ≤ N := by omega
  have hNw : N ≤ w.heap.size := by omega
  have HN := Lib.hid hN
  have hBN : B ≤ N := by omega
  unfold stV
  go_enter Tryd.func28, Tryd.ntmps28
  go_upto_region 1 with fail
  rw [← HN.out]
  refine wp_abs (fun W => Below N w W ∧ N + 3 ≤ W.heap.size ∧ BoxAt W N #[.int .i64 s.rd, .int .i64 s.mo, .slice A n cap, .int .i64 s.fi, .int .i64 s.la] 28 ∧ BoxAt W (N + 1) #[.int .i64 v] 2 ∧ BoxAt W (N + 2) #[.int .i64 0, .int .i64 0, .slice none 0 0, .int .i64 0, .int .i64 0] 28) ⟨((((Below.refl _ _).alloc hNw _).alloc (by simp; omega) _).alloc (by simp; omega) _), by simp; omega, (((BoxAt.new' (by omega)).alloc _).alloc _), ((BoxAt.new' (by simp; omega)).alloc _), (BoxAt.new' (by simp; omega))⟩ ?_
  clear hN
  rintro W0 ⟨hB, hsz, hx, hc1, hz⟩
  have ks := hx.cell
  go_wp2_with fail
  clear ks
  have hs3 := hs.keep (w' := W0) (fun j _ hj => hB.block j (by omega))
  have he3 := he.below hB (by omega)
  refine (idoneOrNot_any (addC v) s A n cap lo hi B (N + 1) a0 a1 (fun _ => True) 56 [.pointer (some ⟨N + 1, 0, none⟩)] W0 hs3 (by omega) (by omega) (by omega) (by omega) (by omega) he3 hm HPN.out (fun t hok ht => mild_add hok ht) (fun _ _ _ _ => trivial) (fun hok => iadd1 s v n (N + 1) B a0 a2 (N + 1) W0 hok hc1 (hS0.keep (fun j hj => hB.block j (by omega))) hN0 (by omega) hm) (enters_of Tryd.func56 (by kernel_rfl) rfl)).mono ?_
  rintro e w1 ⟨A', n', c', rfl, hR1, hk1, hbt⟩
  replace hz := hbt.box hz (by omega)
  have hbt2 := hbt.size
  replace hB := hB.trans (hbt.below (by omega) (by omega))
  clear hbt hx hc1 hs3 he3
  unfold stV
  go_upto_region 2 with fail
  refine wp_abs (fun W' => Below N w W' ∧ BoxAt W' (N + 2) #[.int .i64 0, .int .i64 0, .slice none 0 0, .int .i64 0, .int .i64 0] 28 ∧ BoxAt W' w1.heap.size #[.int .i64 ((done (addC v) s).1.rd), .int .i64 ((done (addC v) s).1.mo), .slice A' n' c', .int .i64 ((done (addC v) s).1.fi), .int .i64 ((done (addC v) s).1.la)] 28 ∧ DnF (N + 3) (fun _ => True) (done (addC v) s) W' A' n' c') ?_ ?_
  · have b1 := (Below.refl w1.heap.size w1).alloc (Nat.le_refl _) (.cells #[.int .i64 ((done (addC v) s).1.rd), .int .i64 ((done (addC v) s).1.mo), .slice A' n' c', .int .i64 ((done (addC v) s).1.fi), .int .i64 ((done (addC v) s).1.la)] 28)
    exact ⟨bstep hB (by omega) b1, hz.alloc _, BoxAt.new _ _ _, ⟨⟨w1.heap.size, by simp, (hR1.mono (by omega) (Nat.le_refl _)).below b1 (Nat.le_refl _)⟩, fun _ => trivial⟩⟩
  have hn' : (done (addC v) s).1.rs.length = n' := hR1.1
  have HN' := Lib.hid hn'
  have hgN : N + 3 ≤ w1.heap.size := by omega
  clear hB hz hR1 hn'
  generalize w1.heap.size = g at *
  rintro W2 ⟨hB, hz, hgb, hD⟩
  cases hq : (done (addC v) s).2
  · have HQ := Lib.hid hq; clear hq
    have kg := hgb.cell
    have kz := hz.cell
    have fz := hz.frozen
    go_wp2
    refine bodyPost_ret (v := .tuple #[stV (done (addC v) s).1 A' n' c', .int .i64 (-1)]) (by simp [results, Tryd.results28, go_sem, kz, stV]) rfl ?_
    obtain ⟨hi', hl', hd'⟩ := hD.1
    refine ⟨A', n', c', by rw [HV.out, HQ.out]; rfl, ?_, ((((((hB.setCell (by dsimp only; omega) _).setCell (by dsimp only; omega) _).setCell (by dsimp only; omega) _).setCell (by dsimp only; omega) _).setCell (by dsimp only; omega) _)).mono hN1⟩
    rw [HV.out]
    exact ((((((hd'.setD (.inl (by omega)) _ _).setD (.inl (by omega)) _ _).setD (.inl (by omega)) _ _).setD (.inl (by omega)) _ _).setD (.inl (by omega)) _ _)).mono (by omega) (by simpa using hl')
  · have HQ := Lib.hid hq
    have hn1' : 1 ≤ n' ∧ n' ≤ 1048576 := by have := HSM.out hq; have := HN'.out; omega
    obtain ⟨hn1a, hn1b⟩ := hn1'
    clear hq
    go_upto_region 4 with fail
    refine wp_region2 (fun w w' => Below w.heap.size w w') (fun _ _ h => h.size) (fun L W' => Below N w W' ∧ BoxAt W' g #[.int .i64 ((done (addC v) s).1.rd), .int .i64 ((done (addC v) s).1.mo), .slice A' n' c', .int .i64 ((done (addC v) s).1.fi), .int .i64 ((done (addC v) s).1.la)] 28 ∧ DnF (N + 3) (fun _ => True) (done (addC v) s) W' A' n' c' ∧ (∃ x0 x1 x2 x3 x4, BoxAt W' (N + 2) #[x0, x1, x2, x3, x4] 28) ∧ (L 5 = false → BoxAt W' (N + 2) #[.int .i64 0, .int .i64 0, .slice none 0 0, .int .i64 0, .int .i64 0] 28)) (arRR s N g v A' n' c') arRK arRS (by kernel_rfl) (by kernel_rfl) ?_ ?_ ?_
      (.grow rfl ?_ <| .grow rfl ?_ <| .grow rfl ?_ <| .grow rfl ?_ <| .grow rfl ?_ <| .store rfl ?_ <| .grow rfl ?_ <| .nil) ?_
    · intro j σ τ w h hR
      match j, h, hR with
      | 0, h, hR => exact (h 0 (List.mem_singleton.2 rfl)).symm.trans hR
      | 1, h, hR => exact (h 1 (List.mem_singleton.2 rfl)).symm.trans hR
      | 2, h, hR => exact (h 2 (List.mem_singleton.2 rfl)).symm.trans hR
      | 3, h, hR => exact (h 3 (List.mem_singleton.2 rfl)).symm.trans hR
      | 4, h, hR => exact (h 4 (List.mem_singleton.2 rfl)).symm.trans hR
      | 5, _, hR => exact hR
      | 6, h, hR => exact (h 6 (List.mem_singleton.2 rfl)).symm.trans hR
      | _ + 7, _, _ => exact trivial
    · intro j σ w w' hb hR
      match j, hR with
      | 0, hR => exact hR
      | 1, hR => exact hR
      | 2, hR => exact hR
      | 3, hR => exact hR
      | 4, hR => exact hR
      | 5, hR => exact hR.below hb hR.lt
      | 6, hR => exact hR
      | _ + 7, _ => exact trivial
    · exact ⟨hB.drew, hgb, hD, ⟨_, _, _, _, _, hz⟩, fun _ => hz⟩
    · -- 0: Op.load 28 t6
      go_light
      intro L σ W' hcl hL hC hw
      clear hw
      have HC := Lib.hid hC
      obtain ⟨hB, hgb, hD, ⟨hz_x0, hz_x1, hz_x2, hz_x3, hz_x4, hz⟩, hz_o⟩ := hC
      have kg := hgb.cell
      clear hcl hL
      clear hB hgb hD hz hz_o
      refine OpGoes.step fun K hK => ?_
      unfold OpGoes
      go_simp
      obtain ⟨hB, hgb, hD, ⟨hz_x0, hz_x1, hz_x2, hz_x3, hz_x4, hz⟩, hz_o⟩ := HC.out
      exact hK _ _ ⟨⟨hB, hgb, hD, ⟨_, _, _, _, _, hz⟩, fun h => hz_o (by simpa [upd] using h)⟩, rfl, Below.refl _ _⟩
    · -- 1: Op.fieldAddr 28 t6 2
      go_light
      intro L σ W' hcl hL hC hw
      clear hw
      have HC := Lib.hid hC
      clear hC
      clear hcl hL
      refine OpGoes.step fun K hK => ?_
      unfold OpGoes
      go_simp
      obtain ⟨hB, hgb, hD, ⟨hz_x0, hz_x1, hz_x2, hz_x3, hz_x4, hz⟩, hz_o⟩ := HC.out
      exact hK _ _ ⟨⟨hB, hgb, hD, ⟨_, _, _, _, _, hz⟩, fun h => hz_o (by simpa [upd] using h)⟩, rfl, Below.refl _ _⟩
    · -- 2: Op.load 26 t18
      go_light
      intro L σ W' hcl hL hC hw
      have e1 : σ 1 = .pointer (some ⟨g, 2, none⟩) := hw 1 (by kernel_rfl)
      clear hw
      have HC := Lib.hid hC
      obtain ⟨hB, hgb, hD, ⟨hz_x0, hz_x1, hz_x2, hz_x3, hz_x4, hz⟩, hz_o⟩ := hC
      have kg := hgb.cell
      clear hcl hL
      clear hB hgb hD hz hz_o
      refine OpGoes.step fun K hK => ?_
      unfold OpGoes
      go_simp
      obtain ⟨hB, hgb, hD, ⟨hz_x0, hz_x1, hz_x2, hz_x3, hz_x4, hz⟩, hz_o⟩ := HC.out
      exact hK _ _ ⟨⟨hB, hgb, hD, ⟨_, _, _, _, _, hz⟩, fun h => hz_o (by simpa [upd] using h)⟩, rfl, Below.refl _ _⟩
    · -- 3: Op.call { builtin len, args := #[t19], argTypes := #[26] }
      go_light
      intro L σ W' hcl hL hC hw
      have e2 : σ 2 = .slice A' n' c' := hw 2 (by kernel_rfl)
      clear hw
      have HC := Lib.hid hC
      clear hC
      clear hcl hL
      refine OpGoes.step fun K hK => ?_
      unfold OpGoes
      go_simp
      obtain ⟨hB, hgb, hD, ⟨hz_x0, hz_x1, hz_x2, hz_x3, hz_x4, hz⟩, hz_o⟩ := HC.out
      exact hK _ _ ⟨⟨hB, hgb, hD, ⟨_, _, _, _, _, hz⟩, fun h => hz_o (by simpa [upd] using h)⟩, rfl, Below.refl _ _⟩
    · -- 4: Op.binOp BinOp.sub 2 t20 (const (1:i64)) 2
      go_light
      intro L σ W' hcl hL hC hw
      have e3 : σ 3 = .int .i64 ((n' : Int)) := hw 3 (by kernel_rfl)
      clear hw
      have HC := Lib.hid hC
      obtain ⟨hB, hgb, hD, ⟨hz_x0, hz_x1, hz_x2, hz_x3, hz_x4, hz⟩, hz_o⟩ := hC
      have wr_ : IntKind.i64.wrap ((n' : Int) - 1) = (n' : Int) - 1 := by rw [IntKind.wrap_i64]; omega
      clear hcl hL
      clear hB hgb hD hz hz_o
      refine OpGoes.step fun K hK => ?_
      unfold OpGoes
      go_simp
      obtain ⟨hB, hgb, hD, ⟨hz_x0, hz_x1, hz_x2, hz_x3, hz_x4, hz⟩, hz_o⟩ := HC.out
      exact hK _ _ ⟨⟨hB, hgb, hD, ⟨_, _, _, _, _, hz⟩, fun h => hz_o (by simpa [upd] using h)⟩, rfl, Below.refl _ _⟩
    · -- 5: Op.store 28 t4 t17
      go_light
      intro L σ W' hcl hL hC hw hne
      have e0 : σ 0 = .agg #[.int .i64 ((done (addC v) s).1.rd), .int .i64 ((done (addC v) s).1.mo), .slice A' n' c', .int .i64 ((done (addC v) s).1.fi), .int .i64 ((done (addC v) s).1.la)] := hw 0 (by kernel_rfl)
      clear hw hne
      have HC := Lib.hid hC
      obtain ⟨hB, hgb, hD, ⟨hz_x0, hz_x1, hz_x2, hz_x3, hz_x4, hz⟩, hz_o⟩ := hC
      clear hcl hL
      have kc_ := hz.cell
      have kf_ := hz.frozen
      clear hB hgb hD hz hz_o
      refine OpGoes.step fun K hK => ?_
      unfold OpGoes
      go_simp
      obtain ⟨hB, hgb, hD, ⟨hz_x0, hz_x1, hz_x2, hz_x3, hz_x4, hz⟩, hz_o⟩ := HC.out
      have hset := sets_all (us := [.int .i64 ((done (addC v) s).1.rd), .int .i64 ((done (addC v) s).1.mo), .slice A' n' c', .int .i64 ((done (addC v) s).1.fi), .int .i64 ((done (addC v) s).1.la)]) hz rfl
      refine hK undef (setCells W' (N + 2) 0 [.int .i64 ((done (addC v) s).1.rd), .int .i64 ((done (addC v) s).1.mo), .slice A' n' c', .int .i64 ((done (addC v) s).1.fi), .int .i64 ((done (addC v) s).1.la)]) ⟨⟨(Below.setCells (by omega) [.int .i64 ((done (addC v) s).1.rd), .int .i64 ((done (addC v) s).1.mo), .slice A' n' c', .int .i64 ((done (addC v) s).1.fi), .int .i64 ((done (addC v) s).1.la)] 0 hB), (BoxAt.sets_ne [.int .i64 ((done (addC v) s).1.rd), .int .i64 ((done (addC v) s).1.mo), .slice A' n' c', .int .i64 ((done (addC v) s).1.fi), .int .i64 ((done (addC v) s).1.la)] 0 hgb (by omega)), (DnF.sets (by omega) [.int .i64 ((done (addC v) s).1.rd), .int .i64 ((done (addC v) s).1.mo), .slice A' n' c', .int .i64 ((done (addC v) s).1.fi), .int .i64 ((done (addC v) s).1.la)] 0 hD), ⟨_, _, _, _, _, hset⟩, fun h => absurd h (by simp [upd])⟩, hset, Nat.le_of_eq (sets_size _ _ _).symm, fun j hj hn hR => ?_⟩
      match j, hj, hn, hR with
      | 0, _, _, hR => exact (show σ 0 = .agg #[.int .i64 ((done (addC v) s).1.rd), .int .i64 ((done (addC v) s).1.mo), .slice A' n' c', .int .i64 ((done (addC v) s).1.fi), .int .i64 ((done (addC v) s).1.la)] from hR)
      | 1, _, _, hR => exact (show σ 1 = .pointer (some ⟨g, 2, none⟩) from hR)
      | 2, _, _, hR => exact (show σ 2 = .slice A' n' c' from hR)
      | 3, _, _, hR => exact (show σ 3 = .int .i64 ((n' : Int)) from hR)
      | 4, _, _, hR => exact (show σ 4 = (.int .i64 ((n' : Int) - 1)) from hR)
      | 5, hj, _, _ => exact absurd rfl hj
      | 6, _, _, hR => exact (show σ 6 = (.int .i64 ((n' : Int) - 1)) from hR)
      | _ + 7, _, _, _ => exact trivial
    · -- 6: Op.assign t21
      go_light
      intro L σ W' hcl hL hC hw
      have e4 : σ 4 = (.int .i64 ((n' : Int) - 1)) := hw 4 (by kernel_rfl)
      clear hw
      have HC := Lib.hid hC
      clear hC
      clear hcl hL
      refine OpGoes.step fun K hK => ?_
      unfold OpGoes
      go_simp
      obtain ⟨hB, hgb, hD, ⟨hz_x0, hz_x1, hz_x2, hz_x3, hz_x4, hz⟩, hz_o⟩ := HC.out
      exact hK _ _ ⟨⟨hB, hgb, hD, ⟨_, _, _, _, _, hz⟩, fun h => hz_o (by simpa [upd] using h)⟩, rfl, Below.refl _ _⟩
    · intro σ L W' hall hC hR
      obtain ⟨hB, hgb, hD, ⟨hz_x0, hz_x1, hz_x2, hz_x3, hz_x4, hz⟩, hz_o⟩ := hC
      have s5 : BoxAt W' (N + 2) #[.int .i64 ((done (addC v) s).1.rd), .int .i64 ((done (addC v) s).1.mo), .slice A' n' c', .int .i64 ((done (addC v) s).1.fi), .int .i64 ((done (addC v) s).1.la)] 28 := hR 5 (by decide)
      have e6 : σ 6 = (.int .i64 ((n' : Int) - 1)) := hR 6 (by decide)
      clear hR
      simp only [lexAll]
      go_simp
      go_step
      have k6 := s5.cell
      go_wp2
      refine bodyPost_ret (v := .tuple #[stV (done (addC v) s).1 A' n' c', .int .i64 ((n' : Int) - 1)]) (by simp [results, Tryd.results28, go_sem, k6, stV]) rfl ?_
      obtain ⟨hi', hl', hd'⟩ := hD.1
      refine ⟨A', n', c', by rw [HV.out, HQ.out]; simp only [if_true]; rw [hd'.1], ?_, hB.mono hN1⟩
      rw [HV.out]
      exact hd'.mono (by omega) hl'


end Go.Proofs.YtbpjhdoldodlnaaDoor

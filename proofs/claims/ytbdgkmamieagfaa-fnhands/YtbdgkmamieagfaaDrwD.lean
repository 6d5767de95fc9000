/-
  The draw of a store and a hand.
-/
import Derived.Test.YtbdgkmamieagfaaDrwC
namespace Go.Proofs.Ytbdgkmamieagfaa
set_option linter.unusedSimpArgs false
set_option linter.unusedVariables false
open Go.RowKit
set_option linter.unusedVariables false
attribute [local go_sem] OpUpon
attribute [local go_sem ↓] Go.wp_at_zero Go.wp_at_succ

theorem CrN.stsN {lo b : Nat} {w : World} {c : Cr} {y : CrL} (h : CrN lo w c y) (hb : b < lo) (us : List Value) (o : Nat) : CrN lo (setCells w b o us) c y := CrW.mono (CrW.sts h (.inl hb) us o) (Nat.le_refl _) (Nat.le_of_eq (sets_size us o w).symm)

/-- A right store and a hand are drawn. -/
def DrawsSH (k : Nat) (a0 : Option Addr) (len cap : Nat) (w : World) (e : Ending) (w' : World) : Prop :=
  ∃ (s : St) (A : Option Addr) (n c : Nat) (h : Hd), e = .returned (.tuple #[stV s A n c, hdV h]) ∧ stOk s = true ∧ RgsW w.heap.size w'.heap.size w' A n c s.rs ∧ But k w w' ∧ CurAt w' k a0 len cap

def lhRR (d : Cr) (N X k n mS kS kH gH : Nat) (sA : Option Addr) (jS bS eS : Sl) (j : Nat) (σ : Nat → Value) (w : World) : Prop :=
  match j with
  | 0 => σ 0 = .pointer (some ⟨X, 0, none⟩)
  | 1 => σ 1 = .agg #[.int .i64 d.st.rd, .int .i64 d.st.mo, .slice sA mS kS, .int .i64 d.st.fi, .int .i64 d.st.la]
  | 2 => σ 2 = .pointer (some ⟨X, 5, none⟩)
  | 3 => σ 3 = .slice (some ⟨gH, 0, none⟩) n kH
  | 4 => σ 4 = .pointer (some ⟨k, 0, none⟩)
  | 5 => σ 5 = .pointer (some ⟨X, 5, none⟩)
  | 6 => σ 6 = .slice (some ⟨gH, 0, none⟩) n kH
  | 7 => σ 7 = .int .i64 ((n : Int))
  | 8 => ∃ (x8 : Int), σ 8 = .int .i64 x8 ∧ (0 ≤ x8 ∧ x8 < (n : Int))
  | 9 => ∃ (x8 : Int), σ 9 = .pointer (some ⟨gH, x8.toNat * 12, none⟩) ∧ (0 ≤ x8 ∧ x8 < (n : Int))
  | 10 => ∃ (h10 : Hd), σ 10 = .agg #[.int .i64 h10.at_, .int .i64 h10.v, .int .i64 h10.r, .int .i64 h10.t, .bool h10.seen.s, .int .i64 h10.seen.n, .bool h10.seen.f, .int .i64 h10.seen.v, .int .i64 h10.tr, .int .i64 h10.sp, .bool h10.ag, .int .i64 h10.re] ∧ True
  | 11 => BoxAt w N #[.int .i64 d.st.rd, .int .i64 d.st.mo, .slice sA mS kS, .int .i64 d.st.fi, .int .i64 d.st.la] 75
  | 12 => ∃ (h10 : Hd), BoxAt w (N + 1) #[.int .i64 h10.at_, .int .i64 h10.v, .int .i64 h10.r, .int .i64 h10.t, .bool h10.seen.s, .int .i64 h10.seen.n, .bool h10.seen.f, .int .i64 h10.seen.v, .int .i64 h10.tr, .int .i64 h10.sp, .bool h10.ag, .int .i64 h10.re] 41 ∧ True
  | _ => True

def lhRS (j : Nat) : List Nat := [[0], [1], [2], [3], [4], [5], [6], [7], [8], [9], [10], [11], [12]].getD j [j]
def lhRK (j : Nat) : Nat := [0, 0, 0, 0, 0, 0, 0, 0, 0, 0, 0, 1, 1].getD j 0

set_option maxRecDepth 100000 in
set_option maxHeartbeats 2000000 in
theorem l5Draw_any (K0 k : Nat) (a0 : Option Addr) (len cap : Nat) (w : World) (hc : CodeOk K0 w a0 len) (hkk : K0 ≤ k) (hN0 : K0 ≤ w.heap.size) (hcur : CurAt w k a0 len cap) :
    Calls Try.prog 68 #[.pointer (some ⟨k, 0, none⟩)] w (DrawsSH k a0 len cap w) := by
  have hkN := hcur.lt
  go_enter Try.func68, Try.ntmps68
  go_wp2_with fail
  refine calls_abs (fun W => But k w W ∧ CurAt W k a0 len cap ∧ BoxAt W w.heap.size #[.int .i64 0, .int .i64 0, .slice none 0 0, .int .i64 0, .int .i64 0] 75 ∧ BoxAt W (w.heap.size + 1) #[.int .i64 0, .int .i64 0, .int .i64 0, .int .i64 0, .bool false, .int .i64 0, .bool false, .int .i64 0, .int .i64 0, .int .i64 0, .bool false, .int .i64 0] 41) ⟨((But.refl _ _).alloc _).alloc _, (hcur.alloc _).alloc _, (BoxAt.new _ _ _).alloc _, BoxAt.new' (by simp)⟩ ?_
  clear hcur
  rintro W0 ⟨hB, hcur, hz, hy⟩
  refine (l10Draw_any K0 k a0 len cap _ (hc.below (hB.below hkk hN0)) hkk (Nat.le_trans hN0 hB.size) hcur).mono ?_
  rintro e w1 ⟨d, y, rfl, hdk, hC, hb1, hcur1⟩
  have ly := hy.lt
  have HDK := Lib.hid hdk; clear hdk
  replace hz := hb1.box hz (by omega)
  replace hy := hb1.box hy (by omega)
  have hs1 := hb1.size
  replace hB := hB.trans hb1
  clear hb1 hcur
  replace hC : CrN (w.heap.size + 2) w1 d y := CrW.mono hC (by omega) (Nat.le_refl _)
  obtain ⟨⟨sA, mS, kS⟩, ⟨hA, n, kH⟩, jS, bS, eS⟩ := y
  have hn1 : 1 ≤ n := by have q : d.hs.length = n := hC.h.1; have := (crOk_neat HDK.out).h.1; omega
  have hn4 : n ≤ 4 := by have q : d.hs.length = n := hC.h.1; have := (crOk_neat HDK.out).h.2; omega
  obtain ⟨gH, -, hA', -, -, -, -⟩ := SlW.at_ hC.h Hd.cs_len (i := 0) (by show 0 < n; omega)
  dsimp only at hA'
  subst hA'
  unfold crV
  dsimp only
  go_upto_region 2 with fail
  refine wp_abs (fun W => But k w W ∧ CurAt W k a0 len cap ∧ BoxAt W w.heap.size #[.int .i64 0, .int .i64 0, .slice none 0 0, .int .i64 0, .int .i64 0] 75 ∧ BoxAt W (w.heap.size + 1) #[.int .i64 0, .int .i64 0, .int .i64 0, .int .i64 0, .bool false, .int .i64 0, .bool false, .int .i64 0, .int .i64 0, .int .i64 0, .bool false, .int .i64 0] 41 ∧ BoxAt W w1.heap.size #[.int .i64 d.st.rd, .int .i64 d.st.mo, .slice sA mS kS, .int .i64 d.st.fi, .int .i64 d.st.la, .slice (some ⟨gH, 0, none⟩) n kH, .slice jS.A jS.n jS.cap, .slice bS.A bS.n bS.cap, .int .i64 d.ck, .slice eS.A eS.n eS.cap] 88 ∧ CrN (w.heap.size + 2) W d (⟨⟨sA, mS, kS⟩, ⟨some ⟨gH, 0, none⟩, n, kH⟩, jS, bS, eS⟩ : CrL) ∧ w1.heap.size < W.heap.size) ⟨hB.alloc _, hcur1.alloc _, hz.alloc _, hy.alloc _, BoxAt.new _ _ _, hC.belowN ((Below.refl _ _).alloc (Nat.le_refl _) _), by simp⟩ ?_
  clear hB hcur1 hz hy hC
  rintro W5 ⟨hB, hcur, hz, hy, hx, hC, hM⟩
  generalize w1.heap.size = X at *
  refine wp_region2 (fun w w' => But k w w') (fun _ _ h => h.size) (fun L W' => But k w W' ∧ CurAt W' k a0 len cap ∧ BoxAt W' X #[.int .i64 d.st.rd, .int .i64 d.st.mo, .slice sA mS kS, .int .i64 d.st.fi, .int .i64 d.st.la, .slice (some ⟨gH, 0, none⟩) n kH, .slice jS.A jS.n jS.cap, .slice bS.A bS.n bS.cap, .int .i64 d.ck, .slice eS.A eS.n eS.cap] 88 ∧ CrN (w.heap.size + 2) W' d (⟨⟨sA, mS, kS⟩, ⟨some ⟨gH, 0, none⟩, n, kH⟩, jS, bS, eS⟩ : CrL) ∧ X < W'.heap.size ∧ (∃ x0 x1 x2 x3 x4, BoxAt W' w.heap.size #[x0, x1, x2, x3, x4] 75) ∧ (L 11 = false → BoxAt W' w.heap.size #[.int .i64 0, .int .i64 0, .slice none 0 0, .int .i64 0, .int .i64 0] 75) ∧ (∃ x0 x1 x2 x3 x4 x5 x6 x7 x8 x9 x10 x11, BoxAt W' (w.heap.size + 1) #[x0, x1, x2, x3, x4, x5, x6, x7, x8, x9, x10, x11] 41) ∧ (L 12 = false → BoxAt W' (w.heap.size + 1) #[.int .i64 0, .int .i64 0, .int .i64 0, .int .i64 0, .bool false, .int .i64 0, .bool false, .int .i64 0, .int .i64 0, .int .i64 0, .bool false, .int .i64 0] 41)) (lhRR d w.heap.size X k n mS kS kH gH sA jS bS eS) lhRK lhRS (by kernel_rfl) (by kernel_rfl) ?_ ?_ ?_
    (.grow rfl ?_ <| .grow rfl ?_ <| .grow rfl ?_ <| .grow rfl ?_ <| .grow rfl ?_ <| .grow rfl ?_ <| .grow rfl ?_ <| .grow rfl ?_ <| .grow rfl ?_ <| .grow rfl ?_ <| .grow rfl ?_ <| .store rfl ?_ <| .store rfl ?_ <| .nil) ?_
  · intro j σ τ w h hR
    match j, h, hR with
    | 0, h, hR => exact (h 0 (List.mem_singleton.2 rfl)).symm.trans hR
    | 1, h, hR => exact (h 1 (List.mem_singleton.2 rfl)).symm.trans hR
    | 2, h, hR => exact (h 2 (List.mem_singleton.2 rfl)).symm.trans hR
    | 3, h, hR => exact (h 3 (List.mem_singleton.2 rfl)).symm.trans hR
    | 4, h, hR => exact (h 4 (List.mem_singleton.2 rfl)).symm.trans hR
    | 5, h, hR => exact (h 5 (List.mem_singleton.2 rfl)).symm.trans hR
    | 6, h, hR => exact (h 6 (List.mem_singleton.2 rfl)).symm.trans hR
    | 7, h, hR => exact (h 7 (List.mem_singleton.2 rfl)).symm.trans hR
    | 8, h, hR => obtain ⟨x8, e, hp⟩ := hR; exact ⟨x8, (h 8 (List.mem_singleton.2 rfl)).symm.trans e, hp⟩
    | 9, h, hR => obtain ⟨x8, e, hp⟩ := hR; exact ⟨x8, (h 9 (List.mem_singleton.2 rfl)).symm.trans e, hp⟩
    | 10, h, hR => obtain ⟨h10, e, hp⟩ := hR; exact ⟨h10, (h 10 (List.mem_singleton.2 rfl)).symm.trans e, hp⟩
    | 11, _, hR => exact hR
    | 12, _, hR => exact hR
    | _ + 13, _, _ => exact trivial
  · intro j σ w w' hb hR
    match j, hR with
    | 0, hR => exact hR
    | 1, hR => exact hR
    | 2, hR => exact hR
    | 3, hR => exact hR
    | 4, hR => exact hR
    | 5, hR => exact hR
    | 6, hR => exact hR
    | 7, hR => exact hR
    | 8, hR => obtain ⟨x8, e, hp⟩ := hR; exact ⟨x8, e, hp⟩
    | 9, hR => obtain ⟨x8, e, hp⟩ := hR; exact ⟨x8, e, hp⟩
    | 10, hR => obtain ⟨h10, e, hp⟩ := hR; exact ⟨h10, e, hp⟩
    | 11, hR => exact hb.box hR (by omega)
    | 12, hR => obtain ⟨h10, hx, hp⟩ := hR; exact ⟨h10, hb.box hx (by omega), hp⟩
    | _ + 13, _ => exact trivial
  · exact ⟨hB.drew, hcur, hx, hC.drew, hM, ⟨_, _, _, _, _, hz⟩, fun _ => hz, ⟨_, _, _, _, _, _, _, _, _, _, _, _, hy⟩, fun _ => hy⟩
  · -- 0: Op.fieldAddr 88 t4 0
    go_light
    intro L σ W' hcl hL hC hw
    clear hw
    have HC := Lib.hid hC
    clear hC
    clear hcl hL
    refine OpGoes.step fun K hK => ?_
    unfold OpGoes
    go_simp
    obtain ⟨hB, hcur, hx, hC, hM, ⟨hz_x0, hz_x1, hz_x2, hz_x3, hz_x4, hz⟩, hz_o, ⟨hy_x0, hy_x1, hy_x2, hy_x3, hy_x4, hy_x5, hy_x6, hy_x7, hy_x8, hy_x9, hy_x10, hy_x11, hy⟩, hy_o⟩ := HC.out
    exact hK _ _ ⟨⟨hB, hcur, hx, hC, hM, ⟨_, _, _, _, _, hz⟩, fun h => hz_o (by simpa [upd] using h), ⟨_, _, _, _, _, _, _, _, _, _, _, _, hy⟩, fun h => hy_o (by simpa [upd] using h)⟩, rfl, But.refl _ _⟩
  · -- 1: Op.load 75 t7
    go_light
    intro L σ W' hcl hL hC hw
    have e0 : σ 0 = .pointer (some ⟨X, 0, none⟩) := hw 0 (by kernel_rfl)
    clear hw
    have HC := Lib.hid hC
    obtain ⟨hB, hcur, hx, hC, hM, ⟨hz_x0, hz_x1, hz_x2, hz_x3, hz_x4, hz⟩, hz_o, ⟨hy_x0, hy_x1, hy_x2, hy_x3, hy_x4, hy_x5, hy_x6, hy_x7, hy_x8, hy_x9, hy_x10, hy_x11, hy⟩, hy_o⟩ := hC
    have kx := hx.cell
    clear hcl hL
    clear hB hcur hx hC hM hz hz_o hy hy_o
    refine OpGoes.step fun K hK => ?_
    unfold OpGoes
    go_simp
    obtain ⟨hB, hcur, hx, hC, hM, ⟨hz_x0, hz_x1, hz_x2, hz_x3, hz_x4, hz⟩, hz_o, ⟨hy_x0, hy_x1, hy_x2, hy_x3, hy_x4, hy_x5, hy_x6, hy_x7, hy_x8, hy_x9, hy_x10, hy_x11, hy⟩, hy_o⟩ := HC.out
    exact hK _ _ ⟨⟨hB, hcur, hx, hC, hM, ⟨_, _, _, _, _, hz⟩, fun h => hz_o (by simpa [upd] using h), ⟨_, _, _, _, _, _, _, _, _, _, _, _, hy⟩, fun h => hy_o (by simpa [upd] using h)⟩, rfl, But.refl _ _⟩
  · -- 2: Op.fieldAddr 88 t4 1
    go_light
    intro L σ W' hcl hL hC hw
    clear hw
    have HC := Lib.hid hC
    clear hC
    clear hcl hL
    refine OpGoes.step fun K hK => ?_
    unfold OpGoes
    go_simp
    obtain ⟨hB, hcur, hx, hC, hM, ⟨hz_x0, hz_x1, hz_x2, hz_x3, hz_x4, hz⟩, hz_o, ⟨hy_x0, hy_x1, hy_x2, hy_x3, hy_x4, hy_x5, hy_x6, hy_x7, hy_x8, hy_x9, hy_x10, hy_x11, hy⟩, hy_o⟩ := HC.out
    exact hK _ _ ⟨⟨hB, hcur, hx, hC, hM, ⟨_, _, _, _, _, hz⟩, fun h => hz_o (by simpa [upd] using h), ⟨_, _, _, _, _, _, _, _, _, _, _, _, hy⟩, fun h => hy_o (by simpa [upd] using h)⟩, rfl, But.refl _ _⟩
  · -- 3: Op.load 84 t9
    go_light
    intro L σ W' hcl hL hC hw
    have e2 : σ 2 = .pointer (some ⟨X, 5, none⟩) := hw 2 (by kernel_rfl)
    clear hw
    have HC := Lib.hid hC
    obtain ⟨hB, hcur, hx, hC, hM, ⟨hz_x0, hz_x1, hz_x2, hz_x3, hz_x4, hz⟩, hz_o, ⟨hy_x0, hy_x1, hy_x2, hy_x3, hy_x4, hy_x5, hy_x6, hy_x7, hy_x8, hy_x9, hy_x10, hy_x11, hy⟩, hy_o⟩ := hC
    have kx := hx.cell
    clear hcl hL
    clear hB hcur hx hC hM hz hz_o hy hy_o
    refine OpGoes.step fun K hK => ?_
    unfold OpGoes
    go_simp
    obtain ⟨hB, hcur, hx, hC, hM, ⟨hz_x0, hz_x1, hz_x2, hz_x3, hz_x4, hz⟩, hz_o, ⟨hy_x0, hy_x1, hy_x2, hy_x3, hy_x4, hy_x5, hy_x6, hy_x7, hy_x8, hy_x9, hy_x10, hy_x11, hy⟩, hy_o⟩ := HC.out
    exact hK _ _ ⟨⟨hB, hcur, hx, hC, hM, ⟨_, _, _, _, _, hz⟩, fun h => hz_o (by simpa [upd] using h), ⟨_, _, _, _, _, _, _, _, _, _, _, _, hy⟩, fun h => hy_o (by simpa [upd] using h)⟩, rfl, But.refl _ _⟩
  · -- 4: Op.move t0
    go_light
    intro L σ W' hcl hL hC hw
    clear hw
    have HC := Lib.hid hC
    clear hC
    clear hcl hL
    refine OpGoes.step fun K hK => ?_
    unfold OpGoes
    go_simp
    obtain ⟨hB, hcur, hx, hC, hM, ⟨hz_x0, hz_x1, hz_x2, hz_x3, hz_x4, hz⟩, hz_o, ⟨hy_x0, hy_x1, hy_x2, hy_x3, hy_x4, hy_x5, hy_x6, hy_x7, hy_x8, hy_x9, hy_x10, hy_x11, hy⟩, hy_o⟩ := HC.out
    exact hK _ _ ⟨⟨hB, hcur, hx, hC, hM, ⟨_, _, _, _, _, hz⟩, fun h => hz_o (by simpa [upd] using h), ⟨_, _, _, _, _, _, _, _, _, _, _, _, hy⟩, fun h => hy_o (by simpa [upd] using h)⟩, rfl, But.refl _ _⟩
  · -- 5: Op.fieldAddr 88 t4 1
    go_light
    intro L σ W' hcl hL hC hw
    clear hw
    have HC := Lib.hid hC
    clear hC
    clear hcl hL
    refine OpGoes.step fun K hK => ?_
    unfold OpGoes
    go_simp
    obtain ⟨hB, hcur, hx, hC, hM, ⟨hz_x0, hz_x1, hz_x2, hz_x3, hz_x4, hz⟩, hz_o, ⟨hy_x0, hy_x1, hy_x2, hy_x3, hy_x4, hy_x5, hy_x6, hy_x7, hy_x8, hy_x9, hy_x10, hy_x11, hy⟩, hy_o⟩ := HC.out
    exact hK _ _ ⟨⟨hB, hcur, hx, hC, hM, ⟨_, _, _, _, _, hz⟩, fun h => hz_o (by simpa [upd] using h), ⟨_, _, _, _, _, _, _, _, _, _, _, _, hy⟩, fun h => hy_o (by simpa [upd] using h)⟩, rfl, But.refl _ _⟩
  · -- 6: Op.load 84 t12
    go_light
    intro L σ W' hcl hL hC hw
    have e5 : σ 5 = .pointer (some ⟨X, 5, none⟩) := hw 5 (by kernel_rfl)
    clear hw
    have HC := Lib.hid hC
    obtain ⟨hB, hcur, hx, hC, hM, ⟨hz_x0, hz_x1, hz_x2, hz_x3, hz_x4, hz⟩, hz_o, ⟨hy_x0, hy_x1, hy_x2, hy_x3, hy_x4, hy_x5, hy_x6, hy_x7, hy_x8, hy_x9, hy_x10, hy_x11, hy⟩, hy_o⟩ := hC
    have kx := hx.cell
    clear hcl hL
    clear hB hcur hx hC hM hz hz_o hy hy_o
    refine OpGoes.step fun K hK => ?_
    unfold OpGoes
    go_simp
    obtain ⟨hB, hcur, hx, hC, hM, ⟨hz_x0, hz_x1, hz_x2, hz_x3, hz_x4, hz⟩, hz_o, ⟨hy_x0, hy_x1, hy_x2, hy_x3, hy_x4, hy_x5, hy_x6, hy_x7, hy_x8, hy_x9, hy_x10, hy_x11, hy⟩, hy_o⟩ := HC.out
    exact hK _ _ ⟨⟨hB, hcur, hx, hC, hM, ⟨_, _, _, _, _, hz⟩, fun h => hz_o (by simpa [upd] using h), ⟨_, _, _, _, _, _, _, _, _, _, _, _, hy⟩, fun h => hy_o (by simpa [upd] using h)⟩, rfl, But.refl _ _⟩
  · -- 7: Op.call { builtin len, args := #[t13], argTypes := #[84] }
    go_light
    intro L σ W' hcl hL hC hw
    have e6 : σ 6 = .slice (some ⟨gH, 0, none⟩) n kH := hw 6 (by kernel_rfl)
    clear hw
    have HC := Lib.hid hC
    clear hC
    clear hcl hL
    refine OpGoes.step fun K hK => ?_
    unfold OpGoes
    go_simp
    obtain ⟨hB, hcur, hx, hC, hM, ⟨hz_x0, hz_x1, hz_x2, hz_x3, hz_x4, hz⟩, hz_o, ⟨hy_x0, hy_x1, hy_x2, hy_x3, hy_x4, hy_x5, hy_x6, hy_x7, hy_x8, hy_x9, hy_x10, hy_x11, hy⟩, hy_o⟩ := HC.out
    exact hK _ _ ⟨⟨hB, hcur, hx, hC, hM, ⟨_, _, _, _, _, hz⟩, fun h => hz_o (by simpa [upd] using h), ⟨_, _, _, _, _, _, _, _, _, _, _, _, hy⟩, fun h => hy_o (by simpa [upd] using h)⟩, rfl, But.refl _ _⟩
  · -- 8: Op.call { value (Operand.func 36), args := #[t11, t14], argTypes := #[50, 2] }
    go_light
    intro L σ W' hcl hL hC hw
    have e4 : σ 4 = .pointer (some ⟨k, 0, none⟩) := hw 4 (by kernel_rfl)
    have e7 : σ 7 = .int .i64 ((n : Int)) := hw 7 (by kernel_rfl)
    clear hw
    have HC := Lib.hid hC
    clear hC
    clear hcl hL
    refine OpGoes.step fun K hK => ?_
    unfold OpGoes
    go_simp
    obtain ⟨hB, hcur, hx, hC, hM, ⟨hz_x0, hz_x1, hz_x2, hz_x3, hz_x4, hz⟩, hz_o, ⟨hy_x0, hy_x1, hy_x2, hy_x3, hy_x4, hy_x5, hy_x6, hy_x7, hy_x8, hy_x9, hy_x10, hy_x11, hy⟩, hy_o⟩ := HC.out
    refine (l1Below_any K0 k a0 len cap _ _ (hc.below (hB.below hkk hN0)) hkk (Nat.le_trans hN0 hB.size) hcur (by omega)).mono ?_
    rintro e w1 ⟨x8, hx8, rfl, hb1, hcur1⟩
    exact ⟨_, rfl, hK _ _ ⟨⟨hB.trans hb1, hcur1, hb1.box hx (by omega), hC.butN hb1 (by omega), Nat.lt_of_lt_of_le hM hb1.size, ⟨_, _, _, _, _, hb1.box hz (by omega)⟩, fun h => hb1.box (hz_o (by simpa [upd] using h)) (by omega), ⟨_, _, _, _, _, _, _, _, _, _, _, _, hb1.box hy (by omega)⟩, fun h => hb1.box (hy_o (by simpa [upd] using h)) (by omega)⟩, ⟨x8, rfl, hx8⟩, hb1⟩⟩
  · -- 9: Op.indexAddr 84 t10 t15
    go_light
    intro L σ W' hcl hL hC hw
    have e3 : σ 3 = .slice (some ⟨gH, 0, none⟩) n kH := hw 3 (by kernel_rfl)
    obtain ⟨x8, e8, hp8⟩ : ∃ (x8 : Int), σ 8 = .int .i64 x8 ∧ (0 ≤ x8 ∧ x8 < (n : Int)) := hw 8 (by kernel_rfl)
    clear hw
    have HC := Lib.hid hC
    obtain ⟨hB, hcur, hx, hC, hM, ⟨hz_x0, hz_x1, hz_x2, hz_x3, hz_x4, hz⟩, hz_o, ⟨hy_x0, hy_x1, hy_x2, hy_x3, hy_x4, hy_x5, hy_x6, hy_x7, hy_x8, hy_x9, hy_x10, hy_x11, hy⟩, hy_o⟩ := hC
    have q1 := hp8.1
    have q2 := hp8.2
    clear hcl hL
    clear hB hcur hx hC hM hz hz_o hy hy_o
    refine OpGoes.step fun K hK => ?_
    unfold OpGoes
    go_simp
    obtain ⟨hB, hcur, hx, hC, hM, ⟨hz_x0, hz_x1, hz_x2, hz_x3, hz_x4, hz⟩, hz_o, ⟨hy_x0, hy_x1, hy_x2, hy_x3, hy_x4, hy_x5, hy_x6, hy_x7, hy_x8, hy_x9, hy_x10, hy_x11, hy⟩, hy_o⟩ := HC.out
    exact hK _ _ ⟨⟨hB, hcur, hx, hC, hM, ⟨_, _, _, _, _, hz⟩, fun h => hz_o (by simpa [upd] using h), ⟨_, _, _, _, _, _, _, _, _, _, _, _, hy⟩, fun h => hy_o (by simpa [upd] using h)⟩, ⟨x8, rfl, hp8⟩, But.refl _ _⟩
  · -- 10: Op.load 41 t16
    go_light
    intro L σ W' hcl hL hC hw
    obtain ⟨x8, e9, hp9⟩ : ∃ (x8 : Int), σ 9 = .pointer (some ⟨gH, x8.toNat * 12, none⟩) ∧ (0 ≤ x8 ∧ x8 < (n : Int)) := hw 9 (by kernel_rfl)
    clear hw
    obtain ⟨hB, hcur, hx, hC, hM, ⟨hz_x0, hz_x1, hz_x2, hz_x3, hz_x4, hz⟩, hz_o, ⟨hy_x0, hy_x1, hy_x2, hy_x3, hy_x4, hy_x5, hy_x6, hy_x7, hy_x8, hy_x9, hy_x10, hy_x11, hy⟩, hy_o⟩ := hC
    obtain ⟨q1, q2⟩ := hp9
    obtain ⟨gX, h10, eA, -, -, -, hcc⟩ := SlW.at_ hC.h Hd.cs_len (i := x8.toNat) (by show x8.toNat < n; omega)
    dsimp only at eA
    injection eA with eA
    injection eA with eA
    subst eA
    have d0 := hcc 0 _ rfl
    have d1 := hcc 1 _ rfl
    have d2 := hcc 2 _ rfl
    have d3 := hcc 3 _ rfl
    have d4 := hcc 4 _ rfl
    have d5 := hcc 5 _ rfl
    have d6 := hcc 6 _ rfl
    have d7 := hcc 7 _ rfl
    have d8 := hcc 8 _ rfl
    have d9 := hcc 9 _ rfl
    have d10 := hcc 10 _ rfl
    have d11 := hcc 11 _ rfl
    rw [Nat.add_zero] at d0
    clear hcc
    clear hcl hL
    refine OpGoes.step fun K hK => ?_
    unfold OpGoes
    go_simp
    exact hK _ _ ⟨⟨hB, hcur, hx, hC, hM, ⟨_, _, _, _, _, hz⟩, fun h => hz_o (by simpa [upd] using h), ⟨_, _, _, _, _, _, _, _, _, _, _, _, hy⟩, fun h => hy_o (by simpa [upd] using h)⟩, ⟨h10, rfl, trivial⟩, But.refl _ _⟩
  · -- 11: Op.store 75 t2 t8
    go_light
    intro L σ W' hcl hL hC hw hne
    have e1 : σ 1 = .agg #[.int .i64 d.st.rd, .int .i64 d.st.mo, .slice sA mS kS, .int .i64 d.st.fi, .int .i64 d.st.la] := hw 1 (by kernel_rfl)
    clear hw hne
    have HC := Lib.hid hC
    obtain ⟨hB, hcur, hx, hC, hM, ⟨hz_x0, hz_x1, hz_x2, hz_x3, hz_x4, hz⟩, hz_o, ⟨hy_x0, hy_x1, hy_x2, hy_x3, hy_x4, hy_x5, hy_x6, hy_x7, hy_x8, hy_x9, hy_x10, hy_x11, hy⟩, hy_o⟩ := hC
    clear hcl hL
    have kc_ := hz.cell
    have kf_ := hz.frozen
    clear hB hcur hx hC hM hz hz_o hy hy_o
    refine OpGoes.step fun K hK => ?_
    unfold OpGoes
    go_simp
    obtain ⟨hB, hcur, hx, hC, hM, ⟨hz_x0, hz_x1, hz_x2, hz_x3, hz_x4, hz⟩, hz_o, ⟨hy_x0, hy_x1, hy_x2, hy_x3, hy_x4, hy_x5, hy_x6, hy_x7, hy_x8, hy_x9, hy_x10, hy_x11, hy⟩, hy_o⟩ := HC.out
    have hset := sets_all (us := [.int .i64 d.st.rd, .int .i64 d.st.mo, .slice sA mS kS, .int .i64 d.st.fi, .int .i64 d.st.la]) hz rfl
    refine hK undef (setCells W' w.heap.size 0 [.int .i64 d.st.rd, .int .i64 d.st.mo, .slice sA mS kS, .int .i64 d.st.fi, .int .i64 d.st.la]) ⟨⟨(But.setsNew hB (by omega) [.int .i64 d.st.rd, .int .i64 d.st.mo, .slice sA mS kS, .int .i64 d.st.fi, .int .i64 d.st.la] 0), (CurAt.sets hcur (by omega) [.int .i64 d.st.rd, .int .i64 d.st.mo, .slice sA mS kS, .int .i64 d.st.fi, .int .i64 d.st.la] 0), (BoxAt.sets_ne [.int .i64 d.st.rd, .int .i64 d.st.mo, .slice sA mS kS, .int .i64 d.st.fi, .int .i64 d.st.la] 0 hx (by omega)), (CrN.stsN hC (by omega) [.int .i64 d.st.rd, .int .i64 d.st.mo, .slice sA mS kS, .int .i64 d.st.fi, .int .i64 d.st.la] 0), (size_sts hM [.int .i64 d.st.rd, .int .i64 d.st.mo, .slice sA mS kS, .int .i64 d.st.fi, .int .i64 d.st.la] 0), ⟨_, _, _, _, _, hset⟩, fun h => absurd h (by simp [upd]), ⟨_, _, _, _, _, _, _, _, _, _, _, _, (BoxAt.sets_ne [.int .i64 d.st.rd, .int .i64 d.st.mo, .slice sA mS kS, .int .i64 d.st.fi, .int .i64 d.st.la] 0 hy (by omega))⟩, fun h => (BoxAt.sets_ne [.int .i64 d.st.rd, .int .i64 d.st.mo, .slice sA mS kS, .int .i64 d.st.fi, .int .i64 d.st.la] 0 (hy_o (by simpa [upd] using h)) (by omega))⟩, hset, Nat.le_of_eq (sets_size _ _ _).symm, fun j hj hn hR => ?_⟩
    match j, hj, hn, hR with
    | 0, _, _, hR => exact (show σ 0 = .pointer (some ⟨X, 0, none⟩) from hR)
    | 1, _, _, hR => exact (show σ 1 = .agg #[.int .i64 d.st.rd, .int .i64 d.st.mo, .slice sA mS kS, .int .i64 d.st.fi, .int .i64 d.st.la] from hR)
    | 2, _, _, hR => exact (show σ 2 = .pointer (some ⟨X, 5, none⟩) from hR)
    | 3, _, _, hR => exact (show σ 3 = .slice (some ⟨gH, 0, none⟩) n kH from hR)
    | 4, _, _, hR => exact (show σ 4 = .pointer (some ⟨k, 0, none⟩) from hR)
    | 5, _, _, hR => exact (show σ 5 = .pointer (some ⟨X, 5, none⟩) from hR)
    | 6, _, _, hR => exact (show σ 6 = .slice (some ⟨gH, 0, none⟩) n kH from hR)
    | 7, _, _, hR => exact (show σ 7 = .int .i64 ((n : Int)) from hR)
    | 8, _, _, hR => obtain ⟨x8_x, e, hp⟩ := hR; exact ⟨x8_x, e, (((((hp)))))⟩
    | 9, _, _, hR => obtain ⟨x8_x, e, hp⟩ := hR; exact ⟨x8_x, e, (((((hp)))))⟩
    | 10, _, _, hR => obtain ⟨h10_x, e, hp⟩ := hR; exact ⟨h10_x, e, (((((hp)))))⟩
    | 11, hj, _, _ => exact absurd rfl hj
    | 12, _, _, hR => obtain ⟨h10, hx, hp⟩ := hR; exact ⟨h10, (BoxAt.sets_ne [.int .i64 d.st.rd, .int .i64 d.st.mo, .slice sA mS kS, .int .i64 d.st.fi, .int .i64 d.st.la] 0 hx (by omega)), (((((hp)))))⟩
    | _ + 13, _, _, _ => exact trivial
  · -- 12: Op.store 41 t3 t17
    go_light
    intro L σ W' hcl hL hC hw hne
    obtain ⟨h10, e10, hp10⟩ : ∃ (h10 : Hd), σ 10 = .agg #[.int .i64 h10.at_, .int .i64 h10.v, .int .i64 h10.r, .int .i64 h10.t, .bool h10.seen.s, .int .i64 h10.seen.n, .bool h10.seen.f, .int .i64 h10.seen.v, .int .i64 h10.tr, .int .i64 h10.sp, .bool h10.ag, .int .i64 h10.re] ∧ True := hw 10 (by kernel_rfl)
    clear hw hne
    have HC := Lib.hid hC
    obtain ⟨hB, hcur, hx, hC, hM, ⟨hz_x0, hz_x1, hz_x2, hz_x3, hz_x4, hz⟩, hz_o, ⟨hy_x0, hy_x1, hy_x2, hy_x3, hy_x4, hy_x5, hy_x6, hy_x7, hy_x8, hy_x9, hy_x10, hy_x11, hy⟩, hy_o⟩ := hC
    clear hcl hL
    have kc_ := hy.cell
    have kf_ := hy.frozen
    clear hB hcur hx hC hM hz hz_o hy hy_o
    refine OpGoes.step fun K hK => ?_
    unfold OpGoes
    go_simp
    obtain ⟨hB, hcur, hx, hC, hM, ⟨hz_x0, hz_x1, hz_x2, hz_x3, hz_x4, hz⟩, hz_o, ⟨hy_x0, hy_x1, hy_x2, hy_x3, hy_x4, hy_x5, hy_x6, hy_x7, hy_x8, hy_x9, hy_x10, hy_x11, hy⟩, hy_o⟩ := HC.out
    have hset := sets_all (us := [.int .i64 h10.at_, .int .i64 h10.v, .int .i64 h10.r, .int .i64 h10.t, .bool h10.seen.s, .int .i64 h10.seen.n, .bool h10.seen.f, .int .i64 h10.seen.v, .int .i64 h10.tr, .int .i64 h10.sp, .bool h10.ag, .int .i64 h10.re]) hy rfl
    refine hK undef (setCells W' (w.heap.size + 1) 0 [.int .i64 h10.at_, .int .i64 h10.v, .int .i64 h10.r, .int .i64 h10.t, .bool h10.seen.s, .int .i64 h10.seen.n, .bool h10.seen.f, .int .i64 h10.seen.v, .int .i64 h10.tr, .int .i64 h10.sp, .bool h10.ag, .int .i64 h10.re]) ⟨⟨(But.setsNew hB (by omega) [.int .i64 h10.at_, .int .i64 h10.v, .int .i64 h10.r, .int .i64 h10.t, .bool h10.seen.s, .int .i64 h10.seen.n, .bool h10.seen.f, .int .i64 h10.seen.v, .int .i64 h10.tr, .int .i64 h10.sp, .bool h10.ag, .int .i64 h10.re] 0), (CurAt.sets hcur (by omega) [.int .i64 h10.at_, .int .i64 h10.v, .int .i64 h10.r, .int .i64 h10.t, .bool h10.seen.s, .int .i64 h10.seen.n, .bool h10.seen.f, .int .i64 h10.seen.v, .int .i64 h10.tr, .int .i64 h10.sp, .bool h10.ag, .int .i64 h10.re] 0), (BoxAt.sets_ne [.int .i64 h10.at_, .int .i64 h10.v, .int .i64 h10.r, .int .i64 h10.t, .bool h10.seen.s, .int .i64 h10.seen.n, .bool h10.seen.f, .int .i64 h10.seen.v, .int .i64 h10.tr, .int .i64 h10.sp, .bool h10.ag, .int .i64 h10.re] 0 hx (by omega)), (CrN.stsN hC (by omega) [.int .i64 h10.at_, .int .i64 h10.v, .int .i64 h10.r, .int .i64 h10.t, .bool h10.seen.s, .int .i64 h10.seen.n, .bool h10.seen.f, .int .i64 h10.seen.v, .int .i64 h10.tr, .int .i64 h10.sp, .bool h10.ag, .int .i64 h10.re] 0), (size_sts hM [.int .i64 h10.at_, .int .i64 h10.v, .int .i64 h10.r, .int .i64 h10.t, .bool h10.seen.s, .int .i64 h10.seen.n, .bool h10.seen.f, .int .i64 h10.seen.v, .int .i64 h10.tr, .int .i64 h10.sp, .bool h10.ag, .int .i64 h10.re] 0), ⟨_, _, _, _, _, (BoxAt.sets_ne [.int .i64 h10.at_, .int .i64 h10.v, .int .i64 h10.r, .int .i64 h10.t, .bool h10.seen.s, .int .i64 h10.seen.n, .bool h10.seen.f, .int .i64 h10.seen.v, .int .i64 h10.tr, .int .i64 h10.sp, .bool h10.ag, .int .i64 h10.re] 0 hz (by omega))⟩, fun h => (BoxAt.sets_ne [.int .i64 h10.at_, .int .i64 h10.v, .int .i64 h10.r, .int .i64 h10.t, .bool h10.seen.s, .int .i64 h10.seen.n, .bool h10.seen.f, .int .i64 h10.seen.v, .int .i64 h10.tr, .int .i64 h10.sp, .bool h10.ag, .int .i64 h10.re] 0 (hz_o (by simpa [upd] using h)) (by omega)), ⟨_, _, _, _, _, _, _, _, _, _, _, _, hset⟩, fun h => absurd h (by simp [upd])⟩, ⟨h10, hset, ((((((((((((hp10))))))))))))⟩, Nat.le_of_eq (sets_size _ _ _).symm, fun j hj hn hR => ?_⟩
    match j, hj, hn, hR with
    | 0, _, _, hR => exact (show σ 0 = .pointer (some ⟨X, 0, none⟩) from hR)
    | 1, _, _, hR => exact (show σ 1 = .agg #[.int .i64 d.st.rd, .int .i64 d.st.mo, .slice sA mS kS, .int .i64 d.st.fi, .int .i64 d.st.la] from hR)
    | 2, _, _, hR => exact (show σ 2 = .pointer (some ⟨X, 5, none⟩) from hR)
    | 3, _, _, hR => exact (show σ 3 = .slice (some ⟨gH, 0, none⟩) n kH from hR)
    | 4, _, _, hR => exact (show σ 4 = .pointer (some ⟨k, 0, none⟩) from hR)
    | 5, _, _, hR => exact (show σ 5 = .pointer (some ⟨X, 5, none⟩) from hR)
    | 6, _, _, hR => exact (show σ 6 = .slice (some ⟨gH, 0, none⟩) n kH from hR)
    | 7, _, _, hR => exact (show σ 7 = .int .i64 ((n : Int)) from hR)
    | 8, _, _, hR => obtain ⟨x8_x, e, hp⟩ := hR; exact ⟨x8_x, e, ((((((((((((hp))))))))))))⟩
    | 9, _, _, hR => obtain ⟨x8_x, e, hp⟩ := hR; exact ⟨x8_x, e, ((((((((((((hp))))))))))))⟩
    | 10, _, _, hR => obtain ⟨h10_x, e, hp⟩ := hR; exact ⟨h10_x, e, ((((((((((((hp))))))))))))⟩
    | 11, _, _, hR => exact (BoxAt.sets_ne [.int .i64 h10.at_, .int .i64 h10.v, .int .i64 h10.r, .int .i64 h10.t, .bool h10.seen.s, .int .i64 h10.seen.n, .bool h10.seen.f, .int .i64 h10.seen.v, .int .i64 h10.tr, .int .i64 h10.sp, .bool h10.ag, .int .i64 h10.re] 0 hR (by omega))
    | 12, hj, _, _ => exact absurd rfl hj
    | _ + 13, _, _, _ => exact trivial
  · intro σ L W' hall hC hR
    obtain ⟨hB, hcur, hx, hC, hM, ⟨hz_x0, hz_x1, hz_x2, hz_x3, hz_x4, hz⟩, hz_o, ⟨hy_x0, hy_x1, hy_x2, hy_x3, hy_x4, hy_x5, hy_x6, hy_x7, hy_x8, hy_x9, hy_x10, hy_x11, hy⟩, hy_o⟩ := hC
    have s11 : BoxAt W' w.heap.size #[.int .i64 d.st.rd, .int .i64 d.st.mo, .slice sA mS kS, .int .i64 d.st.fi, .int .i64 d.st.la] 75 := hR 11 (by decide)
    obtain ⟨h10, s12, hp12⟩ : ∃ (h10 : Hd), BoxAt W' (w.heap.size + 1) #[.int .i64 h10.at_, .int .i64 h10.v, .int .i64 h10.r, .int .i64 h10.t, .bool h10.seen.s, .int .i64 h10.seen.n, .bool h10.seen.f, .int .i64 h10.seen.v, .int .i64 h10.tr, .int .i64 h10.sp, .bool h10.ag, .int .i64 h10.re] 41 ∧ True := hR 12 (by decide)
    clear hR
    simp only [lexAll]
    go_simp
    go_step
    have kz := s11.cell
    have ky := s12.cell
    go_wp2
    refine bodyPost_ret (v := .tuple #[stV d.st sA mS kS, hdV h10]) (by simp [results, Try.results68, go_sem, kz, ky, stV, hdV]) rfl ⟨d.st, sA, mS, kS, h10, rfl, (crOk_neat HDK.out).s, RgsW.mono hC.s (by omega) (Nat.le_refl _), hB, hcur⟩
end Go.Proofs.Ytbdgkmamieagfaa

/-
  The walk of a step of one who puts, of the model: its number, and the check.
-/
import Derived.Test.YtbdgkmamieagfaaPut6
namespace Go.Proofs.Ytbdgkmamieagfaa
set_option linter.unusedSimpArgs false
set_option linter.unusedVariables false
open Go.RowKit
set_option linter.unusedVariables false
attribute [local go_sem] OpUpon
attribute [local go_sem ↓] Go.wp_at_zero Go.wp_at_succ

def put8 (s : St) (h : Hd) : St × Hd × Bool := fin true s { h with tr := h.tr + 1, at_ := if s.rd ≤ h.t - (s.at h.r).h ∨ 4 ≤ h.tr + 1 then 9 else 4 }

set_option maxRecDepth 100000 in
set_option maxHeartbeats 4000000 in
theorem l6Put_4 (s : St) (A : Option Addr) (n cap lo hi : Nat) (v r t : Int) (seen : Pl) (tr sp : Int) (ag : Bool) (re : Int) (w : World) (hs : RgsW lo hi w A n cap s.rs) (hh : hi ≤ w.heap.size) (hlo : lo ≤ w.heap.size) (hok : stOk s = true) (hrb : ringB s r = true) :
    Calls Try.prog 91 #[stV s A n cap, hdV ⟨4, v, r, t, seen, tr, sp, ag, re⟩] w (RetSHB lo (put4 s ⟨4, v, r, t, seen, tr, sp, ag, re⟩) w) := by
  have HOK := Lib.hid hok
  have HRB := Lib.hid hrb
  have HLN := Lib.hid hs.1
  have HNT := Lib.hid (stOk_neat hok)
  obtain ⟨z0, z1, z2⟩ := ringB_at HLN.out hrb
  clear hok hrb
  unfold stV hdV
  dsimp only
  go_enter Try.func91, Try.ntmps91
  go_upto_region 19 with fail
  refine wp_abs (fun W => Below w.heap.size w W ∧ BoxAt W w.heap.size #[.int .i64 s.rd, .int .i64 s.mo, .slice A n cap, .int .i64 s.fi, .int .i64 s.la] 75 ∧ BoxAt W (w.heap.size + 1) #[.int .i64 4, .int .i64 v, .int .i64 r, .int .i64 t, .bool seen.s, .int .i64 seen.n, .bool seen.f, .int .i64 seen.v, .int .i64 tr, .int .i64 sp, .bool ag, .int .i64 re] 41 ∧ BoxAt W (w.heap.size + 1 + 1) #[.int .i64 0, .int .i64 0, .slice none 0 0, .int .i64 0, .int .i64 0] 75 ∧ BoxAt W (w.heap.size + 1 + 1 + 1) #[.int .i64 0, .int .i64 0, .int .i64 0, .int .i64 0, .bool false, .int .i64 0, .bool false, .int .i64 0, .int .i64 0, .int .i64 0, .bool false, .int .i64 0] 41) ⟨(((((Below.refl _ _).alloc (Nat.le_refl _) _).alloc (by simp) _).alloc (by simp; omega) _).alloc (by simp; omega) _), (((BoxAt.new _ _ _).alloc _).alloc _).alloc _, ((BoxAt.new' (by simp)).alloc _).alloc _, (BoxAt.new' (by simp)).alloc _, BoxAt.new' (by simp)⟩ ?_
  rintro W0 ⟨hB, hx, hy, hz, hw_⟩
  have lw0 := hw_.lt
  have hs0 := hs.below hB hh
  have kx := hx.cell
  have ky := hy.cell
  have fy := hy.frozen
  obtain ⟨b, rg, A', n', cap', rfl, hlb, hbh, hri, c0, c1', c2, c3, c4, hpw⟩ := hs0.at_ z2
  have HAT := Lib.hid (St.at_some (s := s) (z := r) hri)
  have hnum := stOk_nums HOK.out rg (List.mem_of_getElem? hri)
  clear hri
  clear c0 c1' c3 c4 hpw hnum
  cases hcl : rg.c
  · rw [hcl] at c2
    go_wp2_with fail
    clear kx ky fy c2
    refine (sputTicket_any s (some ⟨b, 0, none⟩) n cap lo hi r _ hs0 (Nat.le_trans hh hB.size) (by have := HNT.out.2.1; have := HLN.out; omega) HNT.out.len).mono ?_
    rintro e w1 ⟨A5, n5, c5, rfl, hG5, hb5⟩
    replace hx := hx.below hb5 hx.lt
    replace hy := hy.below hb5 hy.lt
    replace hz := hz.below hb5 hz.lt
    replace hw_ := hw_.below hb5 hw_.lt
    have h5 := hb5.size
    replace hB := bstep hB hB.size hb5
    clear hb5
    generalize hq5 : putTicket s r = q at *
    have HQ5 := Lib.hid hq5; clear hq5
    have HCL := Lib.hid hcl; clear hcl
    unfold stV
    have kx := hx.cell
    have fx := hx.frozen
    have ky := hy.cell
    have fy := hy.frozen
    by_cases hq0 : 0 ≤ q.2
    · have hq0d : decide (0 ≤ q.2) = true := by simpa using hq0
      have HQ0 := Lib.hid hq0d
      go_upto_region 50 with fail
      clear hq0d
      have HV := Lib.hid (show put4 s ⟨4, v, r, t, seen, tr, sp, ag, re⟩ = (q.1, (⟨5, v, r, q.2, seen, tr, sp, ag, re⟩ : Hd), ((⟨5, v, r, q.2, seen, tr, sp, ag, re⟩ : Hd)).ok) by simp only [put4, HQ5.out, HAT.out, HCL.out, fin, HQ0.out]; rfl)
      refine wp_abs (fun W' => Below w.heap.size w W' ∧ BoxAt W' w.heap.size #[.int .i64 (q.1).rd, .int .i64 (q.1).mo, .slice A5 n5 c5, .int .i64 (q.1).fi, .int .i64 (q.1).la] 75 ∧ BoxAt W' (w.heap.size + 1) #[.int .i64 ((⟨5, v, r, q.2, seen, tr, sp, ag, re⟩ : Hd)).at_, .int .i64 ((⟨5, v, r, q.2, seen, tr, sp, ag, re⟩ : Hd)).v, .int .i64 ((⟨5, v, r, q.2, seen, tr, sp, ag, re⟩ : Hd)).r, .int .i64 ((⟨5, v, r, q.2, seen, tr, sp, ag, re⟩ : Hd)).t, .bool ((⟨5, v, r, q.2, seen, tr, sp, ag, re⟩ : Hd)).seen.s, .int .i64 ((⟨5, v, r, q.2, seen, tr, sp, ag, re⟩ : Hd)).seen.n, .bool ((⟨5, v, r, q.2, seen, tr, sp, ag, re⟩ : Hd)).seen.f, .int .i64 ((⟨5, v, r, q.2, seen, tr, sp, ag, re⟩ : Hd)).seen.v, .int .i64 ((⟨5, v, r, q.2, seen, tr, sp, ag, re⟩ : Hd)).tr, .int .i64 ((⟨5, v, r, q.2, seen, tr, sp, ag, re⟩ : Hd)).sp, .bool ((⟨5, v, r, q.2, seen, tr, sp, ag, re⟩ : Hd)).ag, .int .i64 ((⟨5, v, r, q.2, seen, tr, sp, ag, re⟩ : Hd)).re] 41 ∧ BoxAt W' (w.heap.size + 1 + 1) #[.int .i64 0, .int .i64 0, .slice none 0 0, .int .i64 0, .int .i64 0] 75 ∧ BoxAt W' (w.heap.size + 1 + 1 + 1) #[.int .i64 0, .int .i64 0, .int .i64 0, .int .i64 0, .bool false, .int .i64 0, .bool false, .int .i64 0, .int .i64 0, .int .i64 0, .bool false, .int .i64 0] 41 ∧ RgsW W0.heap.size w1.heap.size W' A5 n5 c5 (q.1).rs ∧ w1.heap.size ≤ W'.heap.size) ⟨((((((((hB.setCell (by dsimp only; omega) _).setCell (by dsimp only; omega) _).setCell (by dsimp only; omega) _).setCell (by dsimp only; omega) _).setCell (by dsimp only; omega) _)).setCell (by dsimp only; omega) _).setCell (by dsimp only; omega) _), (((sets_all (us := [.int .i64 q.1.rd, .int .i64 q.1.mo, .slice A5 n5 c5, .int .i64 q.1.fi, .int .i64 q.1.la]) hx rfl).set_ne (by omega) _ _).set_ne (by omega) _ _), by simpa using ((((((((hy.set_ne (by omega) _ _).set_ne (by omega) _ _).set_ne (by omega) _ _).set_ne (by omega) _ _).set_ne (by omega) _ _)).set 3 (.int .i64 q.2)).set 0 (.int .i64 5)), ((((((((hz.set_ne (by omega) _ _).set_ne (by omega) _ _).set_ne (by omega) _ _).set_ne (by omega) _ _).set_ne (by omega) _ _)).set_ne (by omega) _ _).set_ne (by omega) _ _), ((((((((hw_.set_ne (by omega) _ _).set_ne (by omega) _ _).set_ne (by omega) _ _).set_ne (by omega) _ _).set_ne (by omega) _ _)).set_ne (by omega) _ _).set_ne (by omega) _ _), ((((((((hG5.st (.inl (by omega)) _ _).st (.inl (by omega)) _ _).st (.inl (by omega)) _ _).st (.inl (by omega)) _ _).st (.inl (by omega)) _ _)).st (.inl (by omega)) _ _).st (.inl (by omega)) _ _), by simp⟩ ?_
      have hQR : w.heap.size + 4 ≤ W0.heap.size := by omega
      clear kx fx ky fy hB hx hy hz hw_ hG5
      generalize hq2 : (⟨5, v, r, q.2, seen, tr, sp, ag, re⟩ : Hd) = h2 at *
      clear hq2
      rintro W ⟨hB, hx, hy, hz, hw_, hG, hhi⟩
      have lw := hw_.lt
      obtain ⟨M, hMe⟩ : ∃ M, M = W.heap.size := ⟨_, rfl⟩
      have hM : M ≤ W.heap.size := by omega
      have hM2 : W.heap.size ≤ M := by omega
      have hhi2 : w1.heap.size ≤ M := by omega
      clear hMe hM2
      refine wp_region2 (fun w w' => Below w.heap.size w w') (fun _ _ h => h.size) (fun L W' => Below w.heap.size w W' ∧ BoxAt W' w.heap.size #[.int .i64 q.1.rd, .int .i64 q.1.mo, .slice A5 n5 c5, .int .i64 q.1.fi, .int .i64 q.1.la] 75 ∧ BoxAt W' (w.heap.size + 1) #[.int .i64 h2.at_, .int .i64 h2.v, .int .i64 h2.r, .int .i64 h2.t, .bool h2.seen.s, .int .i64 h2.seen.n, .bool h2.seen.f, .int .i64 h2.seen.v, .int .i64 h2.tr, .int .i64 h2.sp, .bool h2.ag, .int .i64 h2.re] 41 ∧ RgsW W0.heap.size w1.heap.size W' A5 n5 c5 q.1.rs ∧ M ≤ W'.heap.size ∧ (∃ x0 x1 x2 x3 x4, BoxAt W' (w.heap.size + 1 + 1) #[x0, x1, x2, x3, x4] 75) ∧ (L 7 = false → BoxAt W' (w.heap.size + 1 + 1) #[.int .i64 0, .int .i64 0, .slice none 0 0, .int .i64 0, .int .i64 0] 75) ∧ (∃ x0 x1 x2 x3 x4 x5 x6 x7 x8 x9 x10 x11, BoxAt W' (w.heap.size + 1 + 1 + 1) #[x0, x1, x2, x3, x4, x5, x6, x7, x8, x9, x10, x11] 41) ∧ (L 8 = false → BoxAt W' (w.heap.size + 1 + 1 + 1) #[.int .i64 0, .int .i64 0, .int .i64 0, .int .i64 0, .bool false, .int .i64 0, .bool false, .int .i64 0, .int .i64 0, .int .i64 0, .bool false, .int .i64 0] 41)) (p6TR q.1 w.heap.size n5 c5 A5 h2) p6TK p6TS (by kernel_rfl) (by kernel_rfl) ?_ ?_ ?_
        (.grow rfl ?_ <| .grow rfl ?_ <| .grow rfl ?_ <| .grow rfl ?_ <| .grow rfl ?_ <| .grow rfl ?_ <| .grow rfl ?_ <| .store rfl ?_ <| .store rfl ?_ <| .grow rfl ?_ <| .nil) ?_
      · intro j σ τ w h hR
        match j, h, hR with
        | 0, h, hR => exact (h 0 (List.mem_singleton.2 rfl)).symm.trans hR
        | 1, h, hR => exact (h 1 (List.mem_singleton.2 rfl)).symm.trans hR
        | 2, h, hR => exact (h 2 (List.mem_singleton.2 rfl)).symm.trans hR
        | 3, h, hR => exact (h 3 (List.mem_singleton.2 rfl)).symm.trans hR
        | 4, h, hR => exact (h 4 (List.mem_singleton.2 rfl)).symm.trans hR
        | 5, h, hR => exact (h 5 (List.mem_singleton.2 rfl)).symm.trans hR
        | 6, h, hR => exact (h 6 (List.mem_singleton.2 rfl)).symm.trans hR
        | 7, _, hR => exact hR
        | 8, _, hR => exact hR
        | 9, h, hR => exact (h 9 (List.mem_singleton.2 rfl)).symm.trans hR
        | _ + 10, _, _ => exact trivial
      · intro j σ w w' hb hR
        match j, hR with
        | 0, hR => exact hR
        | 1, hR => exact hR
        | 2, hR => exact hR
        | 3, hR => exact hR
        | 4, hR => exact hR
        | 5, hR => exact hR
        | 6, hR => exact hR
        | 7, hR => exact hR.below hb hR.lt
        | 8, hR => exact hR.below hb hR.lt
        | 9, hR => exact hR
        | _ + 10, _ => exact trivial
      · exact ⟨hB.drew, hx, hy, hG, hM, ⟨_, _, _, _, _, hz⟩, fun _ => hz, ⟨_, _, _, _, _, _, _, _, _, _, _, _, hw_⟩, fun _ => hw_⟩
      · -- 0: Op.load 75 t2
        go_light
        intro L σ W' hcl hL hC hw
        clear hw
        have HC := Lib.hid hC
        obtain ⟨hB, hx, hy, hG, hM, ⟨hz_x0, hz_x1, hz_x2, hz_x3, hz_x4, hz⟩, hz_o, ⟨hw__x0, hw__x1, hw__x2, hw__x3, hw__x4, hw__x5, hw__x6, hw__x7, hw__x8, hw__x9, hw__x10, hw__x11, hw_⟩, hw__o⟩ := hC
        have ks := hx.cell
        clear hcl hL
        clear hB hx hy hG hM hz hz_o hw_ hw__o
        refine OpGoes.step fun K hK => ?_
        unfold OpGoes
        go_simp
        obtain ⟨hB, hx, hy, hG, hM, ⟨hz_x0, hz_x1, hz_x2, hz_x3, hz_x4, hz⟩, hz_o, ⟨hw__x0, hw__x1, hw__x2, hw__x3, hw__x4, hw__x5, hw__x6, hw__x7, hw__x8, hw__x9, hw__x10, hw__x11, hw_⟩, hw__o⟩ := HC.out
        exact hK _ _ ⟨⟨hB, hx, hy, hG, hM, ⟨_, _, _, _, _, hz⟩, fun h => hz_o (by simpa [upd] using h), ⟨_, _, _, _, _, _, _, _, _, _, _, _, hw_⟩, fun h => hw__o (by simpa [upd] using h)⟩, rfl, Below.refl _ _⟩
      · -- 1: Op.load 41 t3
        go_light
        intro L σ W' hcl hL hC hw
        clear hw
        have HC := Lib.hid hC
        obtain ⟨hB, hx, hy, hG, hM, ⟨hz_x0, hz_x1, hz_x2, hz_x3, hz_x4, hz⟩, hz_o, ⟨hw__x0, hw__x1, hw__x2, hw__x3, hw__x4, hw__x5, hw__x6, hw__x7, hw__x8, hw__x9, hw__x10, hw__x11, hw_⟩, hw__o⟩ := hC
        have kh := hy.cell
        clear hcl hL
        clear hB hx hy hG hM hz hz_o hw_ hw__o
        refine OpGoes.step fun K hK => ?_
        unfold OpGoes
        go_simp
        obtain ⟨hB, hx, hy, hG, hM, ⟨hz_x0, hz_x1, hz_x2, hz_x3, hz_x4, hz⟩, hz_o, ⟨hw__x0, hw__x1, hw__x2, hw__x3, hw__x4, hw__x5, hw__x6, hw__x7, hw__x8, hw__x9, hw__x10, hw__x11, hw_⟩, hw__o⟩ := HC.out
        exact hK _ _ ⟨⟨hB, hx, hy, hG, hM, ⟨_, _, _, _, _, hz⟩, fun h => hz_o (by simpa [upd] using h), ⟨_, _, _, _, _, _, _, _, _, _, _, _, hw_⟩, fun h => hw__o (by simpa [upd] using h)⟩, rfl, Below.refl _ _⟩
      · -- 2: Op.move t9
        go_light
        intro L σ W' hcl hL hC hw
        clear hw
        have HC := Lib.hid hC
        clear hC
        clear hcl hL
        refine OpGoes.step fun K hK => ?_
        unfold OpGoes
        go_simp
        obtain ⟨hB, hx, hy, hG, hM, ⟨hz_x0, hz_x1, hz_x2, hz_x3, hz_x4, hz⟩, hz_o, ⟨hw__x0, hw__x1, hw__x2, hw__x3, hw__x4, hw__x5, hw__x6, hw__x7, hw__x8, hw__x9, hw__x10, hw__x11, hw_⟩, hw__o⟩ := HC.out
        exact hK _ _ ⟨⟨hB, hx, hy, hG, hM, ⟨_, _, _, _, _, hz⟩, fun h => hz_o (by simpa [upd] using h), ⟨_, _, _, _, _, _, _, _, _, _, _, _, hw_⟩, fun h => hw__o (by simpa [upd] using h)⟩, rfl, Below.refl _ _⟩
      · -- 3: Op.move t176
        go_light
        intro L σ W' hcl hL hC hw
        have e2 : σ 2 = .bool true := hw 2 (by kernel_rfl)
        clear hw
        have HC := Lib.hid hC
        clear hC
        clear hcl hL
        refine OpGoes.step fun K hK => ?_
        unfold OpGoes
        go_simp
        obtain ⟨hB, hx, hy, hG, hM, ⟨hz_x0, hz_x1, hz_x2, hz_x3, hz_x4, hz⟩, hz_o, ⟨hw__x0, hw__x1, hw__x2, hw__x3, hw__x4, hw__x5, hw__x6, hw__x7, hw__x8, hw__x9, hw__x10, hw__x11, hw_⟩, hw__o⟩ := HC.out
        exact hK _ _ ⟨⟨hB, hx, hy, hG, hM, ⟨_, _, _, _, _, hz⟩, fun h => hz_o (by simpa [upd] using h), ⟨_, _, _, _, _, _, _, _, _, _, _, _, hw_⟩, fun h => hw__o (by simpa [upd] using h)⟩, rfl, Below.refl _ _⟩
      · -- 4: Op.load 41 t3   [guarded: some (3, true)]
        go_light
        intro L σ W' hcl hL hC hw
        have e3 : σ 3 = .bool true := hw 3 (by kernel_rfl)
        clear hw
        have HC := Lib.hid hC
        obtain ⟨hB, hx, hy, hG, hM, ⟨hz_x0, hz_x1, hz_x2, hz_x3, hz_x4, hz⟩, hz_o, ⟨hw__x0, hw__x1, hw__x2, hw__x3, hw__x4, hw__x5, hw__x6, hw__x7, hw__x8, hw__x9, hw__x10, hw__x11, hw_⟩, hw__o⟩ := hC
        have kh := hy.cell
        clear hcl hL
        clear hB hx hy hG hM hz hz_o hw_ hw__o
        refine OpGoes.step fun K hK => ?_
        unfold OpGoes
        go_simp
        obtain ⟨hB, hx, hy, hG, hM, ⟨hz_x0, hz_x1, hz_x2, hz_x3, hz_x4, hz⟩, hz_o, ⟨hw__x0, hw__x1, hw__x2, hw__x3, hw__x4, hw__x5, hw__x6, hw__x7, hw__x8, hw__x9, hw__x10, hw__x11, hw_⟩, hw__o⟩ := HC.out
        exact hK _ _ ⟨⟨hB, hx, hy, hG, hM, ⟨_, _, _, _, _, hz⟩, fun h => hz_o (by simpa [upd] using h), ⟨_, _, _, _, _, _, _, _, _, _, _, _, hw_⟩, fun h => hw__o (by simpa [upd] using h)⟩, rfl, Below.refl _ _⟩
      · -- 5: Op.call { value (Operand.func 25), args := #[t178], argTypes := #[41] }   [guarded: some (3, true)]
        go_light
        intro L σ W' hcl hL hC hw
        have e3 : σ 3 = .bool true := hw 3 (by kernel_rfl)
        have e4 : σ 4 = .agg #[.int .i64 h2.at_, .int .i64 h2.v, .int .i64 h2.r, .int .i64 h2.t, .bool h2.seen.s, .int .i64 h2.seen.n, .bool h2.seen.f, .int .i64 h2.seen.v, .int .i64 h2.tr, .int .i64 h2.sp, .bool h2.ag, .int .i64 h2.re] := hw 4 (by kernel_rfl)
        clear hw
        have HC := Lib.hid hC
        clear hC
        clear hcl hL
        refine OpGoes.step fun K hK => ?_
        unfold OpGoes
        go_simp
        obtain ⟨hB, hx, hy, hG, hM, ⟨hz_x0, hz_x1, hz_x2, hz_x3, hz_x4, hz⟩, hz_o, ⟨hw__x0, hw__x1, hw__x2, hw__x3, hw__x4, hw__x5, hw__x6, hw__x7, hw__x8, hw__x9, hw__x10, hw__x11, hw_⟩, hw__o⟩ := HC.out
        refine (shandOk_any h2 _).mono ?_
        rintro e w1 ⟨rfl, hb1⟩
        exact ⟨_, rfl, hK _ _ ⟨⟨bstep hB hB.size hb1, hx.below hb1 hx.lt, hy.below hb1 hy.lt, hG.below hb1 (Nat.le_trans hhi2 hM), Nat.le_trans hM hb1.size, ⟨_, _, _, _, _, hz.below hb1 hz.lt⟩, fun h => (hz_o (by simpa [upd] using h)).below hb1 (hz_o (by simpa [upd] using h)).lt, ⟨_, _, _, _, _, _, _, _, _, _, _, _, hw_.below hb1 hw_.lt⟩, fun h => (hw__o (by simpa [upd] using h)).below hb1 (hw__o (by simpa [upd] using h)).lt⟩, rfl, hb1⟩⟩
      · -- 6: Op.pick t177 t179 (const (Value.bool false))
        go_light
        intro L σ W' hcl hL hC hw
        have e3 : σ 3 = .bool true := hw 3 (by kernel_rfl)
        have e5 : σ 5 = .bool h2.ok := hw 5 (by kernel_rfl)
        clear hw
        have HC := Lib.hid hC
        clear hC
        clear hcl hL
        refine OpGoes.step fun K hK => ?_
        unfold OpGoes
        go_simp
        obtain ⟨hB, hx, hy, hG, hM, ⟨hz_x0, hz_x1, hz_x2, hz_x3, hz_x4, hz⟩, hz_o, ⟨hw__x0, hw__x1, hw__x2, hw__x3, hw__x4, hw__x5, hw__x6, hw__x7, hw__x8, hw__x9, hw__x10, hw__x11, hw_⟩, hw__o⟩ := HC.out
        exact hK _ _ ⟨⟨hB, hx, hy, hG, hM, ⟨_, _, _, _, _, hz⟩, fun h => hz_o (by simpa [upd] using h), ⟨_, _, _, _, _, _, _, _, _, _, _, _, hw_⟩, fun h => hw__o (by simpa [upd] using h)⟩, rfl, Below.refl _ _⟩
      · -- 7: Op.store 75 t4 t174
        go_light
        intro L σ W' hcl hL hC hw hne
        have e0 : σ 0 = .agg #[.int .i64 q.1.rd, .int .i64 q.1.mo, .slice A5 n5 c5, .int .i64 q.1.fi, .int .i64 q.1.la] := hw 0 (by kernel_rfl)
        clear hw hne
        have HC := Lib.hid hC
        obtain ⟨hB, hx, hy, hG, hM, ⟨hz_x0, hz_x1, hz_x2, hz_x3, hz_x4, hz⟩, hz_o, ⟨hw__x0, hw__x1, hw__x2, hw__x3, hw__x4, hw__x5, hw__x6, hw__x7, hw__x8, hw__x9, hw__x10, hw__x11, hw_⟩, hw__o⟩ := hC
        clear hcl hL
        have kc_ := hz.cell
        have kf_ := hz.frozen
        clear hB hx hy hG hM hz hz_o hw_ hw__o
        refine OpGoes.step fun K hK => ?_
        unfold OpGoes
        go_simp
        obtain ⟨hB, hx, hy, hG, hM, ⟨hz_x0, hz_x1, hz_x2, hz_x3, hz_x4, hz⟩, hz_o, ⟨hw__x0, hw__x1, hw__x2, hw__x3, hw__x4, hw__x5, hw__x6, hw__x7, hw__x8, hw__x9, hw__x10, hw__x11, hw_⟩, hw__o⟩ := HC.out
        have hset := sets_all (us := [.int .i64 q.1.rd, .int .i64 q.1.mo, .slice A5 n5 c5, .int .i64 q.1.fi, .int .i64 q.1.la]) hz rfl
        refine hK undef (setCells W' (w.heap.size + 1 + 1) 0 [.int .i64 q.1.rd, .int .i64 q.1.mo, .slice A5 n5 c5, .int .i64 q.1.fi, .int .i64 q.1.la]) ⟨⟨(Below.setCells (by omega) [.int .i64 q.1.rd, .int .i64 q.1.mo, .slice A5 n5 c5, .int .i64 q.1.fi, .int .i64 q.1.la] 0 hB), (BoxAt.sets_ne [.int .i64 q.1.rd, .int .i64 q.1.mo, .slice A5 n5 c5, .int .i64 q.1.fi, .int .i64 q.1.la] 0 hx (by omega)), (BoxAt.sets_ne [.int .i64 q.1.rd, .int .i64 q.1.mo, .slice A5 n5 c5, .int .i64 q.1.fi, .int .i64 q.1.la] 0 hy (by omega)), (RgsW.sts hG (by omega) [.int .i64 q.1.rd, .int .i64 q.1.mo, .slice A5 n5 c5, .int .i64 q.1.fi, .int .i64 q.1.la] 0), (size_sts hM [.int .i64 q.1.rd, .int .i64 q.1.mo, .slice A5 n5 c5, .int .i64 q.1.fi, .int .i64 q.1.la] 0), ⟨_, _, _, _, _, hset⟩, fun h => absurd h (by simp [upd]), ⟨_, _, _, _, _, _, _, _, _, _, _, _, (BoxAt.sets_ne [.int .i64 q.1.rd, .int .i64 q.1.mo, .slice A5 n5 c5, .int .i64 q.1.fi, .int .i64 q.1.la] 0 hw_ (by omega))⟩, fun h => (BoxAt.sets_ne [.int .i64 q.1.rd, .int .i64 q.1.mo, .slice A5 n5 c5, .int .i64 q.1.fi, .int .i64 q.1.la] 0 (hw__o (by simpa [upd] using h)) (by omega))⟩, hset, Nat.le_of_eq (sets_size _ _ _).symm, fun j hj hn hR => ?_⟩
        match j, hj, hn, hR with
        | 0, _, _, hR => exact (show σ 0 = .agg #[.int .i64 q.1.rd, .int .i64 q.1.mo, .slice A5 n5 c5, .int .i64 q.1.fi, .int .i64 q.1.la] from hR)
        | 1, _, _, hR => exact (show σ 1 = .agg #[.int .i64 h2.at_, .int .i64 h2.v, .int .i64 h2.r, .int .i64 h2.t, .bool h2.seen.s, .int .i64 h2.seen.n, .bool h2.seen.f, .int .i64 h2.seen.v, .int .i64 h2.tr, .int .i64 h2.sp, .bool h2.ag, .int .i64 h2.re] from hR)
        | 2, _, _, hR => exact (show σ 2 = .bool true from hR)
        | 3, _, _, hR => exact (show σ 3 = .bool true from hR)
        | 4, _, _, hR => exact (show σ 4 = .agg #[.int .i64 h2.at_, .int .i64 h2.v, .int .i64 h2.r, .int .i64 h2.t, .bool h2.seen.s, .int .i64 h2.seen.n, .bool h2.seen.f, .int .i64 h2.seen.v, .int .i64 h2.tr, .int .i64 h2.sp, .bool h2.ag, .int .i64 h2.re] from hR)
        | 5, _, _, hR => exact (show σ 5 = .bool h2.ok from hR)
        | 6, _, _, hR => exact (show σ 6 = .bool h2.ok from hR)
        | 7, hj, _, _ => exact absurd rfl hj
        | 8, _, _, hR => exact (BoxAt.sets_ne [.int .i64 q.1.rd, .int .i64 q.1.mo, .slice A5 n5 c5, .int .i64 q.1.fi, .int .i64 q.1.la] 0 hR (by omega))
        | 9, _, _, hR => exact (show σ 9 = .bool h2.ok from hR)
        | _ + 10, _, _, _ => exact trivial
      · -- 8: Op.store 41 t5 t175
        go_light
        intro L σ W' hcl hL hC hw hne
        have e1 : σ 1 = .agg #[.int .i64 h2.at_, .int .i64 h2.v, .int .i64 h2.r, .int .i64 h2.t, .bool h2.seen.s, .int .i64 h2.seen.n, .bool h2.seen.f, .int .i64 h2.seen.v, .int .i64 h2.tr, .int .i64 h2.sp, .bool h2.ag, .int .i64 h2.re] := hw 1 (by kernel_rfl)
        clear hw hne
        have HC := Lib.hid hC
        obtain ⟨hB, hx, hy, hG, hM, ⟨hz_x0, hz_x1, hz_x2, hz_x3, hz_x4, hz⟩, hz_o, ⟨hw__x0, hw__x1, hw__x2, hw__x3, hw__x4, hw__x5, hw__x6, hw__x7, hw__x8, hw__x9, hw__x10, hw__x11, hw_⟩, hw__o⟩ := hC
        clear hcl hL
        have kc_ := hw_.cell
        have kf_ := hw_.frozen
        clear hB hx hy hG hM hz hz_o hw_ hw__o
        refine OpGoes.step fun K hK => ?_
        unfold OpGoes
        go_simp
        obtain ⟨hB, hx, hy, hG, hM, ⟨hz_x0, hz_x1, hz_x2, hz_x3, hz_x4, hz⟩, hz_o, ⟨hw__x0, hw__x1, hw__x2, hw__x3, hw__x4, hw__x5, hw__x6, hw__x7, hw__x8, hw__x9, hw__x10, hw__x11, hw_⟩, hw__o⟩ := HC.out
        have hset := sets_all (us := [.int .i64 h2.at_, .int .i64 h2.v, .int .i64 h2.r, .int .i64 h2.t, .bool h2.seen.s, .int .i64 h2.seen.n, .bool h2.seen.f, .int .i64 h2.seen.v, .int .i64 h2.tr, .int .i64 h2.sp, .bool h2.ag, .int .i64 h2.re]) hw_ rfl
        refine hK undef (setCells W' (w.heap.size + 1 + 1 + 1) 0 [.int .i64 h2.at_, .int .i64 h2.v, .int .i64 h2.r, .int .i64 h2.t, .bool h2.seen.s, .int .i64 h2.seen.n, .bool h2.seen.f, .int .i64 h2.seen.v, .int .i64 h2.tr, .int .i64 h2.sp, .bool h2.ag, .int .i64 h2.re]) ⟨⟨(Below.setCells (by omega) [.int .i64 h2.at_, .int .i64 h2.v, .int .i64 h2.r, .int .i64 h2.t, .bool h2.seen.s, .int .i64 h2.seen.n, .bool h2.seen.f, .int .i64 h2.seen.v, .int .i64 h2.tr, .int .i64 h2.sp, .bool h2.ag, .int .i64 h2.re] 0 hB), (BoxAt.sets_ne [.int .i64 h2.at_, .int .i64 h2.v, .int .i64 h2.r, .int .i64 h2.t, .bool h2.seen.s, .int .i64 h2.seen.n, .bool h2.seen.f, .int .i64 h2.seen.v, .int .i64 h2.tr, .int .i64 h2.sp, .bool h2.ag, .int .i64 h2.re] 0 hx (by omega)), (BoxAt.sets_ne [.int .i64 h2.at_, .int .i64 h2.v, .int .i64 h2.r, .int .i64 h2.t, .bool h2.seen.s, .int .i64 h2.seen.n, .bool h2.seen.f, .int .i64 h2.seen.v, .int .i64 h2.tr, .int .i64 h2.sp, .bool h2.ag, .int .i64 h2.re] 0 hy (by omega)), (RgsW.sts hG (by omega) [.int .i64 h2.at_, .int .i64 h2.v, .int .i64 h2.r, .int .i64 h2.t, .bool h2.seen.s, .int .i64 h2.seen.n, .bool h2.seen.f, .int .i64 h2.seen.v, .int .i64 h2.tr, .int .i64 h2.sp, .bool h2.ag, .int .i64 h2.re] 0), (size_sts hM [.int .i64 h2.at_, .int .i64 h2.v, .int .i64 h2.r, .int .i64 h2.t, .bool h2.seen.s, .int .i64 h2.seen.n, .bool h2.seen.f, .int .i64 h2.seen.v, .int .i64 h2.tr, .int .i64 h2.sp, .bool h2.ag, .int .i64 h2.re] 0), ⟨_, _, _, _, _, (BoxAt.sets_ne [.int .i64 h2.at_, .int .i64 h2.v, .int .i64 h2.r, .int .i64 h2.t, .bool h2.seen.s, .int .i64 h2.seen.n, .bool h2.seen.f, .int .i64 h2.seen.v, .int .i64 h2.tr, .int .i64 h2.sp, .bool h2.ag, .int .i64 h2.re] 0 hz (by omega))⟩, fun h => (BoxAt.sets_ne [.int .i64 h2.at_, .int .i64 h2.v, .int .i64 h2.r, .int .i64 h2.t, .bool h2.seen.s, .int .i64 h2.seen.n, .bool h2.seen.f, .int .i64 h2.seen.v, .int .i64 h2.tr, .int .i64 h2.sp, .bool h2.ag, .int .i64 h2.re] 0 (hz_o (by simpa [upd] using h)) (by omega)), ⟨_, _, _, _, _, _, _, _, _, _, _, _, hset⟩, fun h => absurd h (by simp [upd])⟩, hset, Nat.le_of_eq (sets_size _ _ _).symm, fun j hj hn hR => ?_⟩
        match j, hj, hn, hR with
        | 0, _, _, hR => exact (show σ 0 = .agg #[.int .i64 q.1.rd, .int .i64 q.1.mo, .slice A5 n5 c5, .int .i64 q.1.fi, .int .i64 q.1.la] from hR)
        | 1, _, _, hR => exact (show σ 1 = .agg #[.int .i64 h2.at_, .int .i64 h2.v, .int .i64 h2.r, .int .i64 h2.t, .bool h2.seen.s, .int .i64 h2.seen.n, .bool h2.seen.f, .int .i64 h2.seen.v, .int .i64 h2.tr, .int .i64 h2.sp, .bool h2.ag, .int .i64 h2.re] from hR)
        | 2, _, _, hR => exact (show σ 2 = .bool true from hR)
        | 3, _, _, hR => exact (show σ 3 = .bool true from hR)
        | 4, _, _, hR => exact (show σ 4 = .agg #[.int .i64 h2.at_, .int .i64 h2.v, .int .i64 h2.r, .int .i64 h2.t, .bool h2.seen.s, .int .i64 h2.seen.n, .bool h2.seen.f, .int .i64 h2.seen.v, .int .i64 h2.tr, .int .i64 h2.sp, .bool h2.ag, .int .i64 h2.re] from hR)
        | 5, _, _, hR => exact (show σ 5 = .bool h2.ok from hR)
        | 6, _, _, hR => exact (show σ 6 = .bool h2.ok from hR)
        | 7, _, _, hR => exact (BoxAt.sets_ne [.int .i64 h2.at_, .int .i64 h2.v, .int .i64 h2.r, .int .i64 h2.t, .bool h2.seen.s, .int .i64 h2.seen.n, .bool h2.seen.f, .int .i64 h2.seen.v, .int .i64 h2.tr, .int .i64 h2.sp, .bool h2.ag, .int .i64 h2.re] 0 hR (by omega))
        | 8, hj, _, _ => exact absurd rfl hj
        | 9, _, _, hR => exact (show σ 9 = .bool h2.ok from hR)
        | _ + 10, _, _, _ => exact trivial
      · -- 9: Op.assign t180
        go_light
        intro L σ W' hcl hL hC hw
        have e6 : σ 6 = .bool h2.ok := hw 6 (by kernel_rfl)
        clear hw
        have HC := Lib.hid hC
        clear hC
        clear hcl hL
        refine OpGoes.step fun K hK => ?_
        unfold OpGoes
        go_simp
        obtain ⟨hB, hx, hy, hG, hM, ⟨hz_x0, hz_x1, hz_x2, hz_x3, hz_x4, hz⟩, hz_o, ⟨hw__x0, hw__x1, hw__x2, hw__x3, hw__x4, hw__x5, hw__x6, hw__x7, hw__x8, hw__x9, hw__x10, hw__x11, hw_⟩, hw__o⟩ := HC.out
        exact hK _ _ ⟨⟨hB, hx, hy, hG, hM, ⟨_, _, _, _, _, hz⟩, fun h => hz_o (by simpa [upd] using h), ⟨_, _, _, _, _, _, _, _, _, _, _, _, hw_⟩, fun h => hw__o (by simpa [upd] using h)⟩, rfl, Below.refl _ _⟩
      · intro σ L W' hall hC hR
        obtain ⟨hB, hx, hy, hG, hM, ⟨hz_x0, hz_x1, hz_x2, hz_x3, hz_x4, hz⟩, hz_o, ⟨hw__x0, hw__x1, hw__x2, hw__x3, hw__x4, hw__x5, hw__x6, hw__x7, hw__x8, hw__x9, hw__x10, hw__x11, hw_⟩, hw__o⟩ := hC
        have s7 : BoxAt W' (w.heap.size + 1 + 1) #[.int .i64 q.1.rd, .int .i64 q.1.mo, .slice A5 n5 c5, .int .i64 q.1.fi, .int .i64 q.1.la] 75 := hR 7 (by decide)
        have s8 : BoxAt W' (w.heap.size + 1 + 1 + 1) #[.int .i64 h2.at_, .int .i64 h2.v, .int .i64 h2.r, .int .i64 h2.t, .bool h2.seen.s, .int .i64 h2.seen.n, .bool h2.seen.f, .int .i64 h2.seen.v, .int .i64 h2.tr, .int .i64 h2.sp, .bool h2.ag, .int .i64 h2.re] 41 := hR 8 (by decide)
        have e9 : σ 9 = .bool h2.ok := hR 9 (by decide)
        clear hR
        simp only [lexAll]
        go_simp
        go_step
        have k7 := s7.cell
        have k8 := s8.cell
        go_wp2
        refine bodyPost_ret (v := .tuple #[stV q.1 A5 n5 c5, hdV h2, .bool (h2.ok)]) (by simp [results, Try.results91, go_sem, k7, k8, stV, hdV]) rfl ⟨A5, n5, c5, by rw [HV.out], ?_, hB⟩
        rw [HV.out]
        exact hG.cut.mono (by omega) (Nat.le_refl _)

    · have hq0d : decide (0 ≤ q.2) = false := by simpa using hq0
      have HQ0 := Lib.hid hq0d
      go_upto_region 50 with fail
      clear hq0d
      have HV := Lib.hid (show put4 s ⟨4, v, r, t, seen, tr, sp, ag, re⟩ = (q.1, (⟨5, v, r, q.2, seen, tr, sp, ag, re⟩ : Hd), false) by simp only [put4, HQ5.out, HAT.out, HCL.out, fin, HQ0.out]; rfl)
      refine wp_abs (fun W' => Below w.heap.size w W' ∧ BoxAt W' w.heap.size #[.int .i64 (q.1).rd, .int .i64 (q.1).mo, .slice A5 n5 c5, .int .i64 (q.1).fi, .int .i64 (q.1).la] 75 ∧ BoxAt W' (w.heap.size + 1) #[.int .i64 ((⟨5, v, r, q.2, seen, tr, sp, ag, re⟩ : Hd)).at_, .int .i64 ((⟨5, v, r, q.2, seen, tr, sp, ag, re⟩ : Hd)).v, .int .i64 ((⟨5, v, r, q.2, seen, tr, sp, ag, re⟩ : Hd)).r, .int .i64 ((⟨5, v, r, q.2, seen, tr, sp, ag, re⟩ : Hd)).t, .bool ((⟨5, v, r, q.2, seen, tr, sp, ag, re⟩ : Hd)).seen.s, .int .i64 ((⟨5, v, r, q.2, seen, tr, sp, ag, re⟩ : Hd)).seen.n, .bool ((⟨5, v, r, q.2, seen, tr, sp, ag, re⟩ : Hd)).seen.f, .int .i64 ((⟨5, v, r, q.2, seen, tr, sp, ag, re⟩ : Hd)).seen.v, .int .i64 ((⟨5, v, r, q.2, seen, tr, sp, ag, re⟩ : Hd)).tr, .int .i64 ((⟨5, v, r, q.2, seen, tr, sp, ag, re⟩ : Hd)).sp, .bool ((⟨5, v, r, q.2, seen, tr, sp, ag, re⟩ : Hd)).ag, .int .i64 ((⟨5, v, r, q.2, seen, tr, sp, ag, re⟩ : Hd)).re] 41 ∧ BoxAt W' (w.heap.size + 1 + 1) #[.int .i64 0, .int .i64 0, .slice none 0 0, .int .i64 0, .int .i64 0] 75 ∧ BoxAt W' (w.heap.size + 1 + 1 + 1) #[.int .i64 0, .int .i64 0, .int .i64 0, .int .i64 0, .bool false, .int .i64 0, .bool false, .int .i64 0, .int .i64 0, .int .i64 0, .bool false, .int .i64 0] 41 ∧ RgsW W0.heap.size w1.heap.size W' A5 n5 c5 (q.1).rs ∧ w1.heap.size ≤ W'.heap.size) ⟨((((((((hB.setCell (by dsimp only; omega) _).setCell (by dsimp only; omega) _).setCell (by dsimp only; omega) _).setCell (by dsimp only; omega) _).setCell (by dsimp only; omega) _)).setCell (by dsimp only; omega) _).setCell (by dsimp only; omega) _), (((sets_all (us := [.int .i64 q.1.rd, .int .i64 q.1.mo, .slice A5 n5 c5, .int .i64 q.1.fi, .int .i64 q.1.la]) hx rfl).set_ne (by omega) _ _).set_ne (by omega) _ _), by simpa using ((((((((hy.set_ne (by omega) _ _).set_ne (by omega) _ _).set_ne (by omega) _ _).set_ne (by omega) _ _).set_ne (by omega) _ _)).set 3 (.int .i64 q.2)).set 0 (.int .i64 5)), ((((((((hz.set_ne (by omega) _ _).set_ne (by omega) _ _).set_ne (by omega) _ _).set_ne (by omega) _ _).set_ne (by omega) _ _)).set_ne (by omega) _ _).set_ne (by omega) _ _), ((((((((hw_.set_ne (by omega) _ _).set_ne (by omega) _ _).set_ne (by omega) _ _).set_ne (by omega) _ _).set_ne (by omega) _ _)).set_ne (by omega) _ _).set_ne (by omega) _ _), ((((((((hG5.st (.inl (by omega)) _ _).st (.inl (by omega)) _ _).st (.inl (by omega)) _ _).st (.inl (by omega)) _ _).st (.inl (by omega)) _ _)).st (.inl (by omega)) _ _).st (.inl (by omega)) _ _), by simp⟩ ?_
      have hQR : w.heap.size + 4 ≤ W0.heap.size := by omega
      clear kx fx ky fy hB hx hy hz hw_ hG5
      generalize hq2 : (⟨5, v, r, q.2, seen, tr, sp, ag, re⟩ : Hd) = h2 at *
      clear hq2
      rintro W ⟨hB, hx, hy, hz, hw_, hG, hhi⟩
      have lw := hw_.lt
      obtain ⟨M, hMe⟩ : ∃ M, M = W.heap.size := ⟨_, rfl⟩
      have hM : M ≤ W.heap.size := by omega
      have hM2 : W.heap.size ≤ M := by omega
      have hhi2 : w1.heap.size ≤ M := by omega
      clear hMe hM2
      refine wp_region2 (fun w w' => Below w.heap.size w w') (fun _ _ h => h.size) (fun L W' => Below w.heap.size w W' ∧ BoxAt W' w.heap.size #[.int .i64 q.1.rd, .int .i64 q.1.mo, .slice A5 n5 c5, .int .i64 q.1.fi, .int .i64 q.1.la] 75 ∧ BoxAt W' (w.heap.size + 1) #[.int .i64 h2.at_, .int .i64 h2.v, .int .i64 h2.r, .int .i64 h2.t, .bool h2.seen.s, .int .i64 h2.seen.n, .bool h2.seen.f, .int .i64 h2.seen.v, .int .i64 h2.tr, .int .i64 h2.sp, .bool h2.ag, .int .i64 h2.re] 41 ∧ RgsW W0.heap.size w1.heap.size W' A5 n5 c5 q.1.rs ∧ M ≤ W'.heap.size ∧ (∃ x0 x1 x2 x3 x4, BoxAt W' (w.heap.size + 1 + 1) #[x0, x1, x2, x3, x4] 75) ∧ (L 7 = false → BoxAt W' (w.heap.size + 1 + 1) #[.int .i64 0, .int .i64 0, .slice none 0 0, .int .i64 0, .int .i64 0] 75) ∧ (∃ x0 x1 x2 x3 x4 x5 x6 x7 x8 x9 x10 x11, BoxAt W' (w.heap.size + 1 + 1 + 1) #[x0, x1, x2, x3, x4, x5, x6, x7, x8, x9, x10, x11] 41) ∧ (L 8 = false → BoxAt W' (w.heap.size + 1 + 1 + 1) #[.int .i64 0, .int .i64 0, .int .i64 0, .int .i64 0, .bool false, .int .i64 0, .bool false, .int .i64 0, .int .i64 0, .int .i64 0, .bool false, .int .i64 0] 41)) (p6FR q.1 w.heap.size n5 c5 A5 h2) p6FK p6FS (by kernel_rfl) (by kernel_rfl) ?_ ?_ ?_
        (.grow rfl ?_ <| .grow rfl ?_ <| .grow rfl ?_ <| .grow rfl ?_ <| .grow rfl ?_ <| .grow rfl ?_ <| .grow rfl ?_ <| .store rfl ?_ <| .store rfl ?_ <| .grow rfl ?_ <| .nil) ?_
      · intro j σ τ w h hR
        match j, h, hR with
        | 0, h, hR => exact (h 0 (List.mem_singleton.2 rfl)).symm.trans hR
        | 1, h, hR => exact (h 1 (List.mem_singleton.2 rfl)).symm.trans hR
        | 2, h, hR => exact (h 2 (List.mem_singleton.2 rfl)).symm.trans hR
        | 3, h, hR => exact (h 3 (List.mem_singleton.2 rfl)).symm.trans hR
        | 4, h, hR => exact (h 4 (List.mem_singleton.2 rfl)).symm.trans hR
        | 5, h, hR => exact (h 5 (List.mem_singleton.2 rfl)).symm.trans hR
        | 6, h, hR => exact (h 6 (List.mem_singleton.2 rfl)).symm.trans hR
        | 7, _, hR => exact hR
        | 8, _, hR => exact hR
        | 9, h, hR => exact (h 9 (List.mem_singleton.2 rfl)).symm.trans hR
        | _ + 10, _, _ => exact trivial
      · intro j σ w w' hb hR
        match j, hR with
        | 0, hR => exact hR
        | 1, hR => exact hR
        | 2, hR => exact hR
        | 3, hR => exact hR
        | 4, hR => exact hR
        | 5, hR => exact hR
        | 6, hR => exact hR
        | 7, hR => exact hR.below hb hR.lt
        | 8, hR => exact hR.below hb hR.lt
        | 9, hR => exact hR
        | _ + 10, _ => exact trivial
      · exact ⟨hB.drew, hx, hy, hG, hM, ⟨_, _, _, _, _, hz⟩, fun _ => hz, ⟨_, _, _, _, _, _, _, _, _, _, _, _, hw_⟩, fun _ => hw_⟩
      · -- 0: Op.load 75 t2
        go_light
        intro L σ W' hcl hL hC hw
        clear hw
        have HC := Lib.hid hC
        obtain ⟨hB, hx, hy, hG, hM, ⟨hz_x0, hz_x1, hz_x2, hz_x3, hz_x4, hz⟩, hz_o, ⟨hw__x0, hw__x1, hw__x2, hw__x3, hw__x4, hw__x5, hw__x6, hw__x7, hw__x8, hw__x9, hw__x10, hw__x11, hw_⟩, hw__o⟩ := hC
        have ks := hx.cell
        clear hcl hL
        clear hB hx hy hG hM hz hz_o hw_ hw__o
        refine OpGoes.step fun K hK => ?_
        unfold OpGoes
        go_simp
        obtain ⟨hB, hx, hy, hG, hM, ⟨hz_x0, hz_x1, hz_x2, hz_x3, hz_x4, hz⟩, hz_o, ⟨hw__x0, hw__x1, hw__x2, hw__x3, hw__x4, hw__x5, hw__x6, hw__x7, hw__x8, hw__x9, hw__x10, hw__x11, hw_⟩, hw__o⟩ := HC.out
        exact hK _ _ ⟨⟨hB, hx, hy, hG, hM, ⟨_, _, _, _, _, hz⟩, fun h => hz_o (by simpa [upd] using h), ⟨_, _, _, _, _, _, _, _, _, _, _, _, hw_⟩, fun h => hw__o (by simpa [upd] using h)⟩, rfl, Below.refl _ _⟩
      · -- 1: Op.load 41 t3
        go_light
        intro L σ W' hcl hL hC hw
        clear hw
        have HC := Lib.hid hC
        obtain ⟨hB, hx, hy, hG, hM, ⟨hz_x0, hz_x1, hz_x2, hz_x3, hz_x4, hz⟩, hz_o, ⟨hw__x0, hw__x1, hw__x2, hw__x3, hw__x4, hw__x5, hw__x6, hw__x7, hw__x8, hw__x9, hw__x10, hw__x11, hw_⟩, hw__o⟩ := hC
        have kh := hy.cell
        clear hcl hL
        clear hB hx hy hG hM hz hz_o hw_ hw__o
        refine OpGoes.step fun K hK => ?_
        unfold OpGoes
        go_simp
        obtain ⟨hB, hx, hy, hG, hM, ⟨hz_x0, hz_x1, hz_x2, hz_x3, hz_x4, hz⟩, hz_o, ⟨hw__x0, hw__x1, hw__x2, hw__x3, hw__x4, hw__x5, hw__x6, hw__x7, hw__x8, hw__x9, hw__x10, hw__x11, hw_⟩, hw__o⟩ := HC.out
        exact hK _ _ ⟨⟨hB, hx, hy, hG, hM, ⟨_, _, _, _, _, hz⟩, fun h => hz_o (by simpa [upd] using h), ⟨_, _, _, _, _, _, _, _, _, _, _, _, hw_⟩, fun h => hw__o (by simpa [upd] using h)⟩, rfl, Below.refl _ _⟩
      · -- 2: Op.move t9
        go_light
        intro L σ W' hcl hL hC hw
        clear hw
        have HC := Lib.hid hC
        clear hC
        clear hcl hL
        refine OpGoes.step fun K hK => ?_
        unfold OpGoes
        go_simp
        obtain ⟨hB, hx, hy, hG, hM, ⟨hz_x0, hz_x1, hz_x2, hz_x3, hz_x4, hz⟩, hz_o, ⟨hw__x0, hw__x1, hw__x2, hw__x3, hw__x4, hw__x5, hw__x6, hw__x7, hw__x8, hw__x9, hw__x10, hw__x11, hw_⟩, hw__o⟩ := HC.out
        exact hK _ _ ⟨⟨hB, hx, hy, hG, hM, ⟨_, _, _, _, _, hz⟩, fun h => hz_o (by simpa [upd] using h), ⟨_, _, _, _, _, _, _, _, _, _, _, _, hw_⟩, fun h => hw__o (by simpa [upd] using h)⟩, rfl, Below.refl _ _⟩
      · -- 3: Op.move t176
        go_light
        intro L σ W' hcl hL hC hw
        have e2 : σ 2 = .bool false := hw 2 (by kernel_rfl)
        clear hw
        have HC := Lib.hid hC
        clear hC
        clear hcl hL
        refine OpGoes.step fun K hK => ?_
        unfold OpGoes
        go_simp
        obtain ⟨hB, hx, hy, hG, hM, ⟨hz_x0, hz_x1, hz_x2, hz_x3, hz_x4, hz⟩, hz_o, ⟨hw__x0, hw__x1, hw__x2, hw__x3, hw__x4, hw__x5, hw__x6, hw__x7, hw__x8, hw__x9, hw__x10, hw__x11, hw_⟩, hw__o⟩ := HC.out
        exact hK _ _ ⟨⟨hB, hx, hy, hG, hM, ⟨_, _, _, _, _, hz⟩, fun h => hz_o (by simpa [upd] using h), ⟨_, _, _, _, _, _, _, _, _, _, _, _, hw_⟩, fun h => hw__o (by simpa [upd] using h)⟩, rfl, Below.refl _ _⟩
      · -- 4: Op.load 41 t3   [guarded: some (3, true)]
        go_light
        intro L σ W' hcl hL hC hw
        have e3 : σ 3 = .bool false := hw 3 (by kernel_rfl)
        clear hw
        have HC := Lib.hid hC
        clear hC
        clear hcl hL
        refine OpGoes.step fun K hK => ?_
        unfold OpGoes
        go_simp
        obtain ⟨hB, hx, hy, hG, hM, ⟨hz_x0, hz_x1, hz_x2, hz_x3, hz_x4, hz⟩, hz_o, ⟨hw__x0, hw__x1, hw__x2, hw__x3, hw__x4, hw__x5, hw__x6, hw__x7, hw__x8, hw__x9, hw__x10, hw__x11, hw_⟩, hw__o⟩ := HC.out
        exact hK _ _ ⟨⟨hB, hx, hy, hG, hM, ⟨_, _, _, _, _, hz⟩, fun h => hz_o (by simpa [upd] using h), ⟨_, _, _, _, _, _, _, _, _, _, _, _, hw_⟩, fun h => hw__o (by simpa [upd] using h)⟩, rfl, Below.refl _ _⟩
      · -- 5: Op.call { value (Operand.func 25), args := #[t178], argTypes := #[41] }   [guarded: some (3, true)]
        go_light
        intro L σ W' hcl hL hC hw
        have e3 : σ 3 = .bool false := hw 3 (by kernel_rfl)
        have e4 : σ 4 = undef := hw 4 (by kernel_rfl)
        clear hw
        have HC := Lib.hid hC
        clear hC
        clear hcl hL
        refine OpGoes.step fun K hK => ?_
        unfold OpGoes
        go_simp
        obtain ⟨hB, hx, hy, hG, hM, ⟨hz_x0, hz_x1, hz_x2, hz_x3, hz_x4, hz⟩, hz_o, ⟨hw__x0, hw__x1, hw__x2, hw__x3, hw__x4, hw__x5, hw__x6, hw__x7, hw__x8, hw__x9, hw__x10, hw__x11, hw_⟩, hw__o⟩ := HC.out
        exact hK _ _ ⟨⟨hB, hx, hy, hG, hM, ⟨_, _, _, _, _, hz⟩, fun h => hz_o (by simpa [upd] using h), ⟨_, _, _, _, _, _, _, _, _, _, _, _, hw_⟩, fun h => hw__o (by simpa [upd] using h)⟩, rfl, Below.refl _ _⟩
      · -- 6: Op.pick t177 t179 (const (Value.bool false))
        go_light
        intro L σ W' hcl hL hC hw
        have e3 : σ 3 = .bool false := hw 3 (by kernel_rfl)
        have e5 : σ 5 = undef := hw 5 (by kernel_rfl)
        clear hw
        have HC := Lib.hid hC
        clear hC
        clear hcl hL
        refine OpGoes.step fun K hK => ?_
        unfold OpGoes
        go_simp
        obtain ⟨hB, hx, hy, hG, hM, ⟨hz_x0, hz_x1, hz_x2, hz_x3, hz_x4, hz⟩, hz_o, ⟨hw__x0, hw__x1, hw__x2, hw__x3, hw__x4, hw__x5, hw__x6, hw__x7, hw__x8, hw__x9, hw__x10, hw__x11, hw_⟩, hw__o⟩ := HC.out
        exact hK _ _ ⟨⟨hB, hx, hy, hG, hM, ⟨_, _, _, _, _, hz⟩, fun h => hz_o (by simpa [upd] using h), ⟨_, _, _, _, _, _, _, _, _, _, _, _, hw_⟩, fun h => hw__o (by simpa [upd] using h)⟩, rfl, Below.refl _ _⟩
      · -- 7: Op.store 75 t4 t174
        go_light
        intro L σ W' hcl hL hC hw hne
        have e0 : σ 0 = .agg #[.int .i64 q.1.rd, .int .i64 q.1.mo, .slice A5 n5 c5, .int .i64 q.1.fi, .int .i64 q.1.la] := hw 0 (by kernel_rfl)
        clear hw hne
        have HC := Lib.hid hC
        obtain ⟨hB, hx, hy, hG, hM, ⟨hz_x0, hz_x1, hz_x2, hz_x3, hz_x4, hz⟩, hz_o, ⟨hw__x0, hw__x1, hw__x2, hw__x3, hw__x4, hw__x5, hw__x6, hw__x7, hw__x8, hw__x9, hw__x10, hw__x11, hw_⟩, hw__o⟩ := hC
        clear hcl hL
        have kc_ := hz.cell
        have kf_ := hz.frozen
        clear hB hx hy hG hM hz hz_o hw_ hw__o
        refine OpGoes.step fun K hK => ?_
        unfold OpGoes
        go_simp
        obtain ⟨hB, hx, hy, hG, hM, ⟨hz_x0, hz_x1, hz_x2, hz_x3, hz_x4, hz⟩, hz_o, ⟨hw__x0, hw__x1, hw__x2, hw__x3, hw__x4, hw__x5, hw__x6, hw__x7, hw__x8, hw__x9, hw__x10, hw__x11, hw_⟩, hw__o⟩ := HC.out
        have hset := sets_all (us := [.int .i64 q.1.rd, .int .i64 q.1.mo, .slice A5 n5 c5, .int .i64 q.1.fi, .int .i64 q.1.la]) hz rfl
        refine hK undef (setCells W' (w.heap.size + 1 + 1) 0 [.int .i64 q.1.rd, .int .i64 q.1.mo, .slice A5 n5 c5, .int .i64 q.1.fi, .int .i64 q.1.la]) ⟨⟨(Below.setCells (by omega) [.int .i64 q.1.rd, .int .i64 q.1.mo, .slice A5 n5 c5, .int .i64 q.1.fi, .int .i64 q.1.la] 0 hB), (BoxAt.sets_ne [.int .i64 q.1.rd, .int .i64 q.1.mo, .slice A5 n5 c5, .int .i64 q.1.fi, .int .i64 q.1.la] 0 hx (by omega)), (BoxAt.sets_ne [.int .i64 q.1.rd, .int .i64 q.1.mo, .slice A5 n5 c5, .int .i64 q.1.fi, .int .i64 q.1.la] 0 hy (by omega)), (RgsW.sts hG (by omega) [.int .i64 q.1.rd, .int .i64 q.1.mo, .slice A5 n5 c5, .int .i64 q.1.fi, .int .i64 q.1.la] 0), (size_sts hM [.int .i64 q.1.rd, .int .i64 q.1.mo, .slice A5 n5 c5, .int .i64 q.1.fi, .int .i64 q.1.la] 0), ⟨_, _, _, _, _, hset⟩, fun h => absurd h (by simp [upd]), ⟨_, _, _, _, _, _, _, _, _, _, _, _, (BoxAt.sets_ne [.int .i64 q.1.rd, .int .i64 q.1.mo, .slice A5 n5 c5, .int .i64 q.1.fi, .int .i64 q.1.la] 0 hw_ (by omega))⟩, fun h => (BoxAt.sets_ne [.int .i64 q.1.rd, .int .i64 q.1.mo, .slice A5 n5 c5, .int .i64 q.1.fi, .int .i64 q.1.la] 0 (hw__o (by simpa [upd] using h)) (by omega))⟩, hset, Nat.le_of_eq (sets_size _ _ _).symm, fun j hj hn hR => ?_⟩
        match j, hj, hn, hR with
        | 0, _, _, hR => exact (show σ 0 = .agg #[.int .i64 q.1.rd, .int .i64 q.1.mo, .slice A5 n5 c5, .int .i64 q.1.fi, .int .i64 q.1.la] from hR)
        | 1, _, _, hR => exact (show σ 1 = .agg #[.int .i64 h2.at_, .int .i64 h2.v, .int .i64 h2.r, .int .i64 h2.t, .bool h2.seen.s, .int .i64 h2.seen.n, .bool h2.seen.f, .int .i64 h2.seen.v, .int .i64 h2.tr, .int .i64 h2.sp, .bool h2.ag, .int .i64 h2.re] from hR)
        | 2, _, _, hR => exact (show σ 2 = .bool false from hR)
        | 3, _, _, hR => exact (show σ 3 = .bool false from hR)
        | 4, _, _, hR => exact (show σ 4 = undef from hR)
        | 5, _, _, hR => exact (show σ 5 = undef from hR)
        | 6, _, _, hR => exact (show σ 6 = .bool false from hR)
        | 7, hj, _, _ => exact absurd rfl hj
        | 8, _, _, hR => exact (BoxAt.sets_ne [.int .i64 q.1.rd, .int .i64 q.1.mo, .slice A5 n5 c5, .int .i64 q.1.fi, .int .i64 q.1.la] 0 hR (by omega))
        | 9, _, _, hR => exact (show σ 9 = .bool false from hR)
        | _ + 10, _, _, _ => exact trivial
      · -- 8: Op.store 41 t5 t175
        go_light
        intro L σ W' hcl hL hC hw hne
        have e1 : σ 1 = .agg #[.int .i64 h2.at_, .int .i64 h2.v, .int .i64 h2.r, .int .i64 h2.t, .bool h2.seen.s, .int .i64 h2.seen.n, .bool h2.seen.f, .int .i64 h2.seen.v, .int .i64 h2.tr, .int .i64 h2.sp, .bool h2.ag, .int .i64 h2.re] := hw 1 (by kernel_rfl)
        clear hw hne
        have HC := Lib.hid hC
        obtain ⟨hB, hx, hy, hG, hM, ⟨hz_x0, hz_x1, hz_x2, hz_x3, hz_x4, hz⟩, hz_o, ⟨hw__x0, hw__x1, hw__x2, hw__x3, hw__x4, hw__x5, hw__x6, hw__x7, hw__x8, hw__x9, hw__x10, hw__x11, hw_⟩, hw__o⟩ := hC
        clear hcl hL
        have kc_ := hw_.cell
        have kf_ := hw_.frozen
        clear hB hx hy hG hM hz hz_o hw_ hw__o
        refine OpGoes.step fun K hK => ?_
        unfold OpGoes
        go_simp
        obtain ⟨hB, hx, hy, hG, hM, ⟨hz_x0, hz_x1, hz_x2, hz_x3, hz_x4, hz⟩, hz_o, ⟨hw__x0, hw__x1, hw__x2, hw__x3, hw__x4, hw__x5, hw__x6, hw__x7, hw__x8, hw__x9, hw__x10, hw__x11, hw_⟩, hw__o⟩ := HC.out
        have hset := sets_all (us := [.int .i64 h2.at_, .int .i64 h2.v, .int .i64 h2.r, .int .i64 h2.t, .bool h2.seen.s, .int .i64 h2.seen.n, .bool h2.seen.f, .int .i64 h2.seen.v, .int .i64 h2.tr, .int .i64 h2.sp, .bool h2.ag, .int .i64 h2.re]) hw_ rfl
        refine hK undef (setCells W' (w.heap.size + 1 + 1 + 1) 0 [.int .i64 h2.at_, .int .i64 h2.v, .int .i64 h2.r, .int .i64 h2.t, .bool h2.seen.s, .int .i64 h2.seen.n, .bool h2.seen.f, .int .i64 h2.seen.v, .int .i64 h2.tr, .int .i64 h2.sp, .bool h2.ag, .int .i64 h2.re]) ⟨⟨(Below.setCells (by omega) [.int .i64 h2.at_, .int .i64 h2.v, .int .i64 h2.r, .int .i64 h2.t, .bool h2.seen.s, .int .i64 h2.seen.n, .bool h2.seen.f, .int .i64 h2.seen.v, .int .i64 h2.tr, .int .i64 h2.sp, .bool h2.ag, .int .i64 h2.re] 0 hB), (BoxAt.sets_ne [.int .i64 h2.at_, .int .i64 h2.v, .int .i64 h2.r, .int .i64 h2.t, .bool h2.seen.s, .int .i64 h2.seen.n, .bool h2.seen.f, .int .i64 h2.seen.v, .int .i64 h2.tr, .int .i64 h2.sp, .bool h2.ag, .int .i64 h2.re] 0 hx (by omega)), (BoxAt.sets_ne [.int .i64 h2.at_, .int .i64 h2.v, .int .i64 h2.r, .int .i64 h2.t, .bool h2.seen.s, .int .i64 h2.seen.n, .bool h2.seen.f, .int .i64 h2.seen.v, .int .i64 h2.tr, .int .i64 h2.sp, .bool h2.ag, .int .i64 h2.re] 0 hy (by omega)), (RgsW.sts hG (by omega) [.int .i64 h2.at_, .int .i64 h2.v, .int .i64 h2.r, .int .i64 h2.t, .bool h2.seen.s, .int .i64 h2.seen.n, .bool h2.seen.f, .int .i64 h2.seen.v, .int .i64 h2.tr, .int .i64 h2.sp, .bool h2.ag, .int .i64 h2.re] 0), (size_sts hM [.int .i64 h2.at_, .int .i64 h2.v, .int .i64 h2.r, .int .i64 h2.t, .bool h2.seen.s, .int .i64 h2.seen.n, .bool h2.seen.f, .int .i64 h2.seen.v, .int .i64 h2.tr, .int .i64 h2.sp, .bool h2.ag, .int .i64 h2.re] 0), ⟨_, _, _, _, _, (BoxAt.sets_ne [.int .i64 h2.at_, .int .i64 h2.v, .int .i64 h2.r, .int .i64 h2.t, .bool h2.seen.s, .int .i64 h2.seen.n, .bool h2.seen.f, .int .i64 h2.seen.v, .int .i64 h2.tr, .int .i64 h2.sp, .bool h2.ag, .int .i64 h2.re] 0 hz (by omega))⟩, fun h => (BoxAt.sets_ne [.int .i64 h2.at_, .int .i64 h2.v, .int .i64 h2.r, .int .i64 h2.t, .bool h2.seen.s, .int .i64 h2.seen.n, .bool h2.seen.f, .int .i64 h2.seen.v, .int .i64 h2.tr, .int .i64 h2.sp, .bool h2.ag, .int .i64 h2.re] 0 (hz_o (by simpa [upd] using h)) (by omega)), ⟨_, _, _, _, _, _, _, _, _, _, _, _, hset⟩, fun h => absurd h (by simp [upd])⟩, hset, Nat.le_of_eq (sets_size _ _ _).symm, fun j hj hn hR => ?_⟩
        match j, hj, hn, hR with
        | 0, _, _, hR => exact (show σ 0 = .agg #[.int .i64 q.1.rd, .int .i64 q.1.mo, .slice A5 n5 c5, .int .i64 q.1.fi, .int .i64 q.1.la] from hR)
        | 1, _, _, hR => exact (show σ 1 = .agg #[.int .i64 h2.at_, .int .i64 h2.v, .int .i64 h2.r, .int .i64 h2.t, .bool h2.seen.s, .int .i64 h2.seen.n, .bool h2.seen.f, .int .i64 h2.seen.v, .int .i64 h2.tr, .int .i64 h2.sp, .bool h2.ag, .int .i64 h2.re] from hR)
        | 2, _, _, hR => exact (show σ 2 = .bool false from hR)
        | 3, _, _, hR => exact (show σ 3 = .bool false from hR)
        | 4, _, _, hR => exact (show σ 4 = undef from hR)
        | 5, _, _, hR => exact (show σ 5 = undef from hR)
        | 6, _, _, hR => exact (show σ 6 = .bool false from hR)
        | 7, _, _, hR => exact (BoxAt.sets_ne [.int .i64 h2.at_, .int .i64 h2.v, .int .i64 h2.r, .int .i64 h2.t, .bool h2.seen.s, .int .i64 h2.seen.n, .bool h2.seen.f, .int .i64 h2.seen.v, .int .i64 h2.tr, .int .i64 h2.sp, .bool h2.ag, .int .i64 h2.re] 0 hR (by omega))
        | 8, hj, _, _ => exact absurd rfl hj
        | 9, _, _, hR => exact (show σ 9 = .bool false from hR)
        | _ + 10, _, _, _ => exact trivial
      · -- 9: Op.assign t180
        go_light
        intro L σ W' hcl hL hC hw
        have e6 : σ 6 = .bool false := hw 6 (by kernel_rfl)
        clear hw
        have HC := Lib.hid hC
        clear hC
        clear hcl hL
        refine OpGoes.step fun K hK => ?_
        unfold OpGoes
        go_simp
        obtain ⟨hB, hx, hy, hG, hM, ⟨hz_x0, hz_x1, hz_x2, hz_x3, hz_x4, hz⟩, hz_o, ⟨hw__x0, hw__x1, hw__x2, hw__x3, hw__x4, hw__x5, hw__x6, hw__x7, hw__x8, hw__x9, hw__x10, hw__x11, hw_⟩, hw__o⟩ := HC.out
        exact hK _ _ ⟨⟨hB, hx, hy, hG, hM, ⟨_, _, _, _, _, hz⟩, fun h => hz_o (by simpa [upd] using h), ⟨_, _, _, _, _, _, _, _, _, _, _, _, hw_⟩, fun h => hw__o (by simpa [upd] using h)⟩, rfl, Below.refl _ _⟩
      · intro σ L W' hall hC hR
        obtain ⟨hB, hx, hy, hG, hM, ⟨hz_x0, hz_x1, hz_x2, hz_x3, hz_x4, hz⟩, hz_o, ⟨hw__x0, hw__x1, hw__x2, hw__x3, hw__x4, hw__x5, hw__x6, hw__x7, hw__x8, hw__x9, hw__x10, hw__x11, hw_⟩, hw__o⟩ := hC
        have s7 : BoxAt W' (w.heap.size + 1 + 1) #[.int .i64 q.1.rd, .int .i64 q.1.mo, .slice A5 n5 c5, .int .i64 q.1.fi, .int .i64 q.1.la] 75 := hR 7 (by decide)
        have s8 : BoxAt W' (w.heap.size + 1 + 1 + 1) #[.int .i64 h2.at_, .int .i64 h2.v, .int .i64 h2.r, .int .i64 h2.t, .bool h2.seen.s, .int .i64 h2.seen.n, .bool h2.seen.f, .int .i64 h2.seen.v, .int .i64 h2.tr, .int .i64 h2.sp, .bool h2.ag, .int .i64 h2.re] 41 := hR 8 (by decide)
        have e9 : σ 9 = .bool false := hR 9 (by decide)
        clear hR
        simp only [lexAll]
        go_simp
        go_step
        have k7 := s7.cell
        have k8 := s8.cell
        go_wp2
        refine bodyPost_ret (v := .tuple #[stV q.1 A5 n5 c5, hdV h2, .bool (false)]) (by simp [results, Try.results91, go_sem, k7, k8, stV, hdV]) rfl ⟨A5, n5, c5, by rw [HV.out], ?_, hB⟩
        rw [HV.out]
        exact hG.cut.mono (by omega) (Nat.le_refl _)

  · rw [hcl] at c2
    go_wp2_with fail
    clear kx ky fy c2
    refine (sputTicket_any s (some ⟨b, 0, none⟩) n cap lo hi r _ hs0 (Nat.le_trans hh hB.size) (by have := HNT.out.2.1; have := HLN.out; omega) HNT.out.len).mono ?_
    rintro e w1 ⟨A5, n5, c5, rfl, hG5, hb5⟩
    replace hx := hx.below hb5 hx.lt
    replace hy := hy.below hb5 hy.lt
    replace hz := hz.below hb5 hz.lt
    replace hw_ := hw_.below hb5 hw_.lt
    have h5 := hb5.size
    replace hB := bstep hB hB.size hb5
    clear hb5
    generalize hq5 : putTicket s r = q at *
    have HQ5 := Lib.hid hq5; clear hq5
    have HCL := Lib.hid hcl; clear hcl
    unfold stV
    have kx := hx.cell
    have fx := hx.frozen
    have ky := hy.cell
    have fy := hy.frozen
    by_cases hq0 : 0 ≤ q.2
    · have hq0d : decide (0 ≤ q.2) = true := by simpa using hq0
      have HQ0 := Lib.hid hq0d
      go_upto_region 50 with fail
      clear hq0d
      have HV := Lib.hid (show put4 s ⟨4, v, r, t, seen, tr, sp, ag, re⟩ = (q.1, (⟨10, v, r, q.2, seen, tr, sp, ag, re⟩ : Hd), ((⟨10, v, r, q.2, seen, tr, sp, ag, re⟩ : Hd)).ok) by simp only [put4, HQ5.out, HAT.out, HCL.out, fin, HQ0.out]; rfl)
      refine wp_abs (fun W' => Below w.heap.size w W' ∧ BoxAt W' w.heap.size #[.int .i64 (q.1).rd, .int .i64 (q.1).mo, .slice A5 n5 c5, .int .i64 (q.1).fi, .int .i64 (q.1).la] 75 ∧ BoxAt W' (w.heap.size + 1) #[.int .i64 ((⟨10, v, r, q.2, seen, tr, sp, ag, re⟩ : Hd)).at_, .int .i64 ((⟨10, v, r, q.2, seen, tr, sp, ag, re⟩ : Hd)).v, .int .i64 ((⟨10, v, r, q.2, seen, tr, sp, ag, re⟩ : Hd)).r, .int .i64 ((⟨10, v, r, q.2, seen, tr, sp, ag, re⟩ : Hd)).t, .bool ((⟨10, v, r, q.2, seen, tr, sp, ag, re⟩ : Hd)).seen.s, .int .i64 ((⟨10, v, r, q.2, seen, tr, sp, ag, re⟩ : Hd)).seen.n, .bool ((⟨10, v, r, q.2, seen, tr, sp, ag, re⟩ : Hd)).seen.f, .int .i64 ((⟨10, v, r, q.2, seen, tr, sp, ag, re⟩ : Hd)).seen.v, .int .i64 ((⟨10, v, r, q.2, seen, tr, sp, ag, re⟩ : Hd)).tr, .int .i64 ((⟨10, v, r, q.2, seen, tr, sp, ag, re⟩ : Hd)).sp, .bool ((⟨10, v, r, q.2, seen, tr, sp, ag, re⟩ : Hd)).ag, .int .i64 ((⟨10, v, r, q.2, seen, tr, sp, ag, re⟩ : Hd)).re] 41 ∧ BoxAt W' (w.heap.size + 1 + 1) #[.int .i64 0, .int .i64 0, .slice none 0 0, .int .i64 0, .int .i64 0] 75 ∧ BoxAt W' (w.heap.size + 1 + 1 + 1) #[.int .i64 0, .int .i64 0, .int .i64 0, .int .i64 0, .bool false, .int .i64 0, .bool false, .int .i64 0, .int .i64 0, .int .i64 0, .bool false, .int .i64 0] 41 ∧ RgsW W0.heap.size w1.heap.size W' A5 n5 c5 (q.1).rs ∧ w1.heap.size ≤ W'.heap.size) ⟨(((((((((hB.setCell (by dsimp only; omega) _).setCell (by dsimp only; omega) _).setCell (by dsimp only; omega) _).setCell (by dsimp only; omega) _).setCell (by dsimp only; omega) _)).setCell (by dsimp only; omega) _).setCell (by dsimp only; omega) _).setCell (by dsimp only; omega) _), ((((sets_all (us := [.int .i64 q.1.rd, .int .i64 q.1.mo, .slice A5 n5 c5, .int .i64 q.1.fi, .int .i64 q.1.la]) hx rfl).set_ne (by omega) _ _).set_ne (by omega) _ _).set_ne (by omega) _ _), by simpa using (((((((((hy.set_ne (by omega) _ _).set_ne (by omega) _ _).set_ne (by omega) _ _).set_ne (by omega) _ _).set_ne (by omega) _ _)).set 3 (.int .i64 q.2)).set 0 (.int .i64 5)).set 0 (.int .i64 10)), (((((((((hz.set_ne (by omega) _ _).set_ne (by omega) _ _).set_ne (by omega) _ _).set_ne (by omega) _ _).set_ne (by omega) _ _)).set_ne (by omega) _ _).set_ne (by omega) _ _).set_ne (by omega) _ _), (((((((((hw_.set_ne (by omega) _ _).set_ne (by omega) _ _).set_ne (by omega) _ _).set_ne (by omega) _ _).set_ne (by omega) _ _)).set_ne (by omega) _ _).set_ne (by omega) _ _).set_ne (by omega) _ _), (((((((((hG5.st (.inl (by omega)) _ _).st (.inl (by omega)) _ _).st (.inl (by omega)) _ _).st (.inl (by omega)) _ _).st (.inl (by omega)) _ _)).st (.inl (by omega)) _ _).st (.inl (by omega)) _ _).st (.inl (by omega)) _ _), by simp⟩ ?_
      have hQR : w.heap.size + 4 ≤ W0.heap.size := by omega
      clear kx fx ky fy hB hx hy hz hw_ hG5
      generalize hq2 : (⟨10, v, r, q.2, seen, tr, sp, ag, re⟩ : Hd) = h2 at *
      clear hq2
      rintro W ⟨hB, hx, hy, hz, hw_, hG, hhi⟩
      have lw := hw_.lt
      obtain ⟨M, hMe⟩ : ∃ M, M = W.heap.size := ⟨_, rfl⟩
      have hM : M ≤ W.heap.size := by omega
      have hM2 : W.heap.size ≤ M := by omega
      have hhi2 : w1.heap.size ≤ M := by omega
      clear hMe hM2
      refine wp_region2 (fun w w' => Below w.heap.size w w') (fun _ _ h => h.size) (fun L W' => Below w.heap.size w W' ∧ BoxAt W' w.heap.size #[.int .i64 q.1.rd, .int .i64 q.1.mo, .slice A5 n5 c5, .int .i64 q.1.fi, .int .i64 q.1.la] 75 ∧ BoxAt W' (w.heap.size + 1) #[.int .i64 h2.at_, .int .i64 h2.v, .int .i64 h2.r, .int .i64 h2.t, .bool h2.seen.s, .int .i64 h2.seen.n, .bool h2.seen.f, .int .i64 h2.seen.v, .int .i64 h2.tr, .int .i64 h2.sp, .bool h2.ag, .int .i64 h2.re] 41 ∧ RgsW W0.heap.size w1.heap.size W' A5 n5 c5 q.1.rs ∧ M ≤ W'.heap.size ∧ (∃ x0 x1 x2 x3 x4, BoxAt W' (w.heap.size + 1 + 1) #[x0, x1, x2, x3, x4] 75) ∧ (L 7 = false → BoxAt W' (w.heap.size + 1 + 1) #[.int .i64 0, .int .i64 0, .slice none 0 0, .int .i64 0, .int .i64 0] 75) ∧ (∃ x0 x1 x2 x3 x4 x5 x6 x7 x8 x9 x10 x11, BoxAt W' (w.heap.size + 1 + 1 + 1) #[x0, x1, x2, x3, x4, x5, x6, x7, x8, x9, x10, x11] 41) ∧ (L 8 = false → BoxAt W' (w.heap.size + 1 + 1 + 1) #[.int .i64 0, .int .i64 0, .int .i64 0, .int .i64 0, .bool false, .int .i64 0, .bool false, .int .i64 0, .int .i64 0, .int .i64 0, .bool false, .int .i64 0] 41)) (p6TR q.1 w.heap.size n5 c5 A5 h2) p6TK p6TS (by kernel_rfl) (by kernel_rfl) ?_ ?_ ?_
        (.grow rfl ?_ <| .grow rfl ?_ <| .grow rfl ?_ <| .grow rfl ?_ <| .grow rfl ?_ <| .grow rfl ?_ <| .grow rfl ?_ <| .store rfl ?_ <| .store rfl ?_ <| .grow rfl ?_ <| .nil) ?_
      · intro j σ τ w h hR
        match j, h, hR with
        | 0, h, hR => exact (h 0 (List.mem_singleton.2 rfl)).symm.trans hR
        | 1, h, hR => exact (h 1 (List.mem_singleton.2 rfl)).symm.trans hR
        | 2, h, hR => exact (h 2 (List.mem_singleton.2 rfl)).symm.trans hR
        | 3, h, hR => exact (h 3 (List.mem_singleton.2 rfl)).symm.trans hR
        | 4, h, hR => exact (h 4 (List.mem_singleton.2 rfl)).symm.trans hR
        | 5, h, hR => exact (h 5 (List.mem_singleton.2 rfl)).symm.trans hR
        | 6, h, hR => exact (h 6 (List.mem_singleton.2 rfl)).symm.trans hR
        | 7, _, hR => exact hR
        | 8, _, hR => exact hR
        | 9, h, hR => exact (h 9 (List.mem_singleton.2 rfl)).symm.trans hR
        | _ + 10, _, _ => exact trivial
      · intro j σ w w' hb hR
        match j, hR with
        | 0, hR => exact hR
        | 1, hR => exact hR
        | 2, hR => exact hR
        | 3, hR => exact hR
        | 4, hR => exact hR
        | 5, hR => exact hR
        | 6, hR => exact hR
        | 7, hR => exact hR.below hb hR.lt
        | 8, hR => exact hR.below hb hR.lt
        | 9, hR => exact hR
        | _ + 10, _ => exact trivial
      · exact ⟨hB.drew, hx, hy, hG, hM, ⟨_, _, _, _, _, hz⟩, fun _ => hz, ⟨_, _, _, _, _, _, _, _, _, _, _, _, hw_⟩, fun _ => hw_⟩
      · -- 0: Op.load 75 t2
        go_light
        intro L σ W' hcl hL hC hw
        clear hw
        have HC := Lib.hid hC
        obtain ⟨hB, hx, hy, hG, hM, ⟨hz_x0, hz_x1, hz_x2, hz_x3, hz_x4, hz⟩, hz_o, ⟨hw__x0, hw__x1, hw__x2, hw__x3, hw__x4, hw__x5, hw__x6, hw__x7, hw__x8, hw__x9, hw__x10, hw__x11, hw_⟩, hw__o⟩ := hC
        have ks := hx.cell
        clear hcl hL
        clear hB hx hy hG hM hz hz_o hw_ hw__o
        refine OpGoes.step fun K hK => ?_
        unfold OpGoes
        go_simp
        obtain ⟨hB, hx, hy, hG, hM, ⟨hz_x0, hz_x1, hz_x2, hz_x3, hz_x4, hz⟩, hz_o, ⟨hw__x0, hw__x1, hw__x2, hw__x3, hw__x4, hw__x5, hw__x6, hw__x7, hw__x8, hw__x9, hw__x10, hw__x11, hw_⟩, hw__o⟩ := HC.out
        exact hK _ _ ⟨⟨hB, hx, hy, hG, hM, ⟨_, _, _, _, _, hz⟩, fun h => hz_o (by simpa [upd] using h), ⟨_, _, _, _, _, _, _, _, _, _, _, _, hw_⟩, fun h => hw__o (by simpa [upd] using h)⟩, rfl, Below.refl _ _⟩
      · -- 1: Op.load 41 t3
        go_light
        intro L σ W' hcl hL hC hw
        clear hw
        have HC := Lib.hid hC
        obtain ⟨hB, hx, hy, hG, hM, ⟨hz_x0, hz_x1, hz_x2, hz_x3, hz_x4, hz⟩, hz_o, ⟨hw__x0, hw__x1, hw__x2, hw__x3, hw__x4, hw__x5, hw__x6, hw__x7, hw__x8, hw__x9, hw__x10, hw__x11, hw_⟩, hw__o⟩ := hC
        have kh := hy.cell
        clear hcl hL
        clear hB hx hy hG hM hz hz_o hw_ hw__o
        refine OpGoes.step fun K hK => ?_
        unfold OpGoes
        go_simp
        obtain ⟨hB, hx, hy, hG, hM, ⟨hz_x0, hz_x1, hz_x2, hz_x3, hz_x4, hz⟩, hz_o, ⟨hw__x0, hw__x1, hw__x2, hw__x3, hw__x4, hw__x5, hw__x6, hw__x7, hw__x8, hw__x9, hw__x10, hw__x11, hw_⟩, hw__o⟩ := HC.out
        exact hK _ _ ⟨⟨hB, hx, hy, hG, hM, ⟨_, _, _, _, _, hz⟩, fun h => hz_o (by simpa [upd] using h), ⟨_, _, _, _, _, _, _, _, _, _, _, _, hw_⟩, fun h => hw__o (by simpa [upd] using h)⟩, rfl, Below.refl _ _⟩
      · -- 2: Op.move t9
        go_light
        intro L σ W' hcl hL hC hw
        clear hw
        have HC := Lib.hid hC
        clear hC
        clear hcl hL
        refine OpGoes.step fun K hK => ?_
        unfold OpGoes
        go_simp
        obtain ⟨hB, hx, hy, hG, hM, ⟨hz_x0, hz_x1, hz_x2, hz_x3, hz_x4, hz⟩, hz_o, ⟨hw__x0, hw__x1, hw__x2, hw__x3, hw__x4, hw__x5, hw__x6, hw__x7, hw__x8, hw__x9, hw__x10, hw__x11, hw_⟩, hw__o⟩ := HC.out
        exact hK _ _ ⟨⟨hB, hx, hy, hG, hM, ⟨_, _, _, _, _, hz⟩, fun h => hz_o (by simpa [upd] using h), ⟨_, _, _, _, _, _, _, _, _, _, _, _, hw_⟩, fun h => hw__o (by simpa [upd] using h)⟩, rfl, Below.refl _ _⟩
      · -- 3: Op.move t176
        go_light
        intro L σ W' hcl hL hC hw
        have e2 : σ 2 = .bool true := hw 2 (by kernel_rfl)
        clear hw
        have HC := Lib.hid hC
        clear hC
        clear hcl hL
        refine OpGoes.step fun K hK => ?_
        unfold OpGoes
        go_simp
        obtain ⟨hB, hx, hy, hG, hM, ⟨hz_x0, hz_x1, hz_x2, hz_x3, hz_x4, hz⟩, hz_o, ⟨hw__x0, hw__x1, hw__x2, hw__x3, hw__x4, hw__x5, hw__x6, hw__x7, hw__x8, hw__x9, hw__x10, hw__x11, hw_⟩, hw__o⟩ := HC.out
        exact hK _ _ ⟨⟨hB, hx, hy, hG, hM, ⟨_, _, _, _, _, hz⟩, fun h => hz_o (by simpa [upd] using h), ⟨_, _, _, _, _, _, _, _, _, _, _, _, hw_⟩, fun h => hw__o (by simpa [upd] using h)⟩, rfl, Below.refl _ _⟩
      · -- 4: Op.load 41 t3   [guarded: some (3, true)]
        go_light
        intro L σ W' hcl hL hC hw
        have e3 : σ 3 = .bool true := hw 3 (by kernel_rfl)
        clear hw
        have HC := Lib.hid hC
        obtain ⟨hB, hx, hy, hG, hM, ⟨hz_x0, hz_x1, hz_x2, hz_x3, hz_x4, hz⟩, hz_o, ⟨hw__x0, hw__x1, hw__x2, hw__x3, hw__x4, hw__x5, hw__x6, hw__x7, hw__x8, hw__x9, hw__x10, hw__x11, hw_⟩, hw__o⟩ := hC
        have kh := hy.cell
        clear hcl hL
        clear hB hx hy hG hM hz hz_o hw_ hw__o
        refine OpGoes.step fun K hK => ?_
        unfold OpGoes
        go_simp
        obtain ⟨hB, hx, hy, hG, hM, ⟨hz_x0, hz_x1, hz_x2, hz_x3, hz_x4, hz⟩, hz_o, ⟨hw__x0, hw__x1, hw__x2, hw__x3, hw__x4, hw__x5, hw__x6, hw__x7, hw__x8, hw__x9, hw__x10, hw__x11, hw_⟩, hw__o⟩ := HC.out
        exact hK _ _ ⟨⟨hB, hx, hy, hG, hM, ⟨_, _, _, _, _, hz⟩, fun h => hz_o (by simpa [upd] using h), ⟨_, _, _, _, _, _, _, _, _, _, _, _, hw_⟩, fun h => hw__o (by simpa [upd] using h)⟩, rfl, Below.refl _ _⟩
      · -- 5: Op.call { value (Operand.func 25), args := #[t178], argTypes := #[41] }   [guarded: some (3, true)]
        go_light
        intro L σ W' hcl hL hC hw
        have e3 : σ 3 = .bool true := hw 3 (by kernel_rfl)
        have e4 : σ 4 = .agg #[.int .i64 h2.at_, .int .i64 h2.v, .int .i64 h2.r, .int .i64 h2.t, .bool h2.seen.s, .int .i64 h2.seen.n, .bool h2.seen.f, .int .i64 h2.seen.v, .int .i64 h2.tr, .int .i64 h2.sp, .bool h2.ag, .int .i64 h2.re] := hw 4 (by kernel_rfl)
        clear hw
        have HC := Lib.hid hC
        clear hC
        clear hcl hL
        refine OpGoes.step fun K hK => ?_
        unfold OpGoes
        go_simp
        obtain ⟨hB, hx, hy, hG, hM, ⟨hz_x0, hz_x1, hz_x2, hz_x3, hz_x4, hz⟩, hz_o, ⟨hw__x0, hw__x1, hw__x2, hw__x3, hw__x4, hw__x5, hw__x6, hw__x7, hw__x8, hw__x9, hw__x10, hw__x11, hw_⟩, hw__o⟩ := HC.out
        refine (shandOk_any h2 _).mono ?_
        rintro e w1 ⟨rfl, hb1⟩
        exact ⟨_, rfl, hK _ _ ⟨⟨bstep hB hB.size hb1, hx.below hb1 hx.lt, hy.below hb1 hy.lt, hG.below hb1 (Nat.le_trans hhi2 hM), Nat.le_trans hM hb1.size, ⟨_, _, _, _, _, hz.below hb1 hz.lt⟩, fun h => (hz_o (by simpa [upd] using h)).below hb1 (hz_o (by simpa [upd] using h)).lt, ⟨_, _, _, _, _, _, _, _, _, _, _, _, hw_.below hb1 hw_.lt⟩, fun h => (hw__o (by simpa [upd] using h)).below hb1 (hw__o (by simpa [upd] using h)).lt⟩, rfl, hb1⟩⟩
      · -- 6: Op.pick t177 t179 (const (Value.bool false))
        go_light
        intro L σ W' hcl hL hC hw
        have e3 : σ 3 = .bool true := hw 3 (by kernel_rfl)
        have e5 : σ 5 = .bool h2.ok := hw 5 (by kernel_rfl)
        clear hw
        have HC := Lib.hid hC
        clear hC
        clear hcl hL
        refine OpGoes.step fun K hK => ?_
        unfold OpGoes
        go_simp
        obtain ⟨hB, hx, hy, hG, hM, ⟨hz_x0, hz_x1, hz_x2, hz_x3, hz_x4, hz⟩, hz_o, ⟨hw__x0, hw__x1, hw__x2, hw__x3, hw__x4, hw__x5, hw__x6, hw__x7, hw__x8, hw__x9, hw__x10, hw__x11, hw_⟩, hw__o⟩ := HC.out
        exact hK _ _ ⟨⟨hB, hx, hy, hG, hM, ⟨_, _, _, _, _, hz⟩, fun h => hz_o (by simpa [upd] using h), ⟨_, _, _, _, _, _, _, _, _, _, _, _, hw_⟩, fun h => hw__o (by simpa [upd] using h)⟩, rfl, Below.refl _ _⟩
      · -- 7: Op.store 75 t4 t174
        go_light
        intro L σ W' hcl hL hC hw hne
        have e0 : σ 0 = .agg #[.int .i64 q.1.rd, .int .i64 q.1.mo, .slice A5 n5 c5, .int .i64 q.1.fi, .int .i64 q.1.la] := hw 0 (by kernel_rfl)
        clear hw hne
        have HC := Lib.hid hC
        obtain ⟨hB, hx, hy, hG, hM, ⟨hz_x0, hz_x1, hz_x2, hz_x3, hz_x4, hz⟩, hz_o, ⟨hw__x0, hw__x1, hw__x2, hw__x3, hw__x4, hw__x5, hw__x6, hw__x7, hw__x8, hw__x9, hw__x10, hw__x11, hw_⟩, hw__o⟩ := hC
        clear hcl hL
        have kc_ := hz.cell
        have kf_ := hz.frozen
        clear hB hx hy hG hM hz hz_o hw_ hw__o
        refine OpGoes.step fun K hK => ?_
        unfold OpGoes
        go_simp
        obtain ⟨hB, hx, hy, hG, hM, ⟨hz_x0, hz_x1, hz_x2, hz_x3, hz_x4, hz⟩, hz_o, ⟨hw__x0, hw__x1, hw__x2, hw__x3, hw__x4, hw__x5, hw__x6, hw__x7, hw__x8, hw__x9, hw__x10, hw__x11, hw_⟩, hw__o⟩ := HC.out
        have hset := sets_all (us := [.int .i64 q.1.rd, .int .i64 q.1.mo, .slice A5 n5 c5, .int .i64 q.1.fi, .int .i64 q.1.la]) hz rfl
        refine hK undef (setCells W' (w.heap.size + 1 + 1) 0 [.int .i64 q.1.rd, .int .i64 q.1.mo, .slice A5 n5 c5, .int .i64 q.1.fi, .int .i64 q.1.la]) ⟨⟨(Below.setCells (by omega) [.int .i64 q.1.rd, .int .i64 q.1.mo, .slice A5 n5 c5, .int .i64 q.1.fi, .int .i64 q.1.la] 0 hB), (BoxAt.sets_ne [.int .i64 q.1.rd, .int .i64 q.1.mo, .slice A5 n5 c5, .int .i64 q.1.fi, .int .i64 q.1.la] 0 hx (by omega)), (BoxAt.sets_ne [.int .i64 q.1.rd, .int .i64 q.1.mo, .slice A5 n5 c5, .int .i64 q.1.fi, .int .i64 q.1.la] 0 hy (by omega)), (RgsW.sts hG (by omega) [.int .i64 q.1.rd, .int .i64 q.1.mo, .slice A5 n5 c5, .int .i64 q.1.fi, .int .i64 q.1.la] 0), (size_sts hM [.int .i64 q.1.rd, .int .i64 q.1.mo, .slice A5 n5 c5, .int .i64 q.1.fi, .int .i64 q.1.la] 0), ⟨_, _, _, _, _, hset⟩, fun h => absurd h (by simp [upd]), ⟨_, _, _, _, _, _, _, _, _, _, _, _, (BoxAt.sets_ne [.int .i64 q.1.rd, .int .i64 q.1.mo, .slice A5 n5 c5, .int .i64 q.1.fi, .int .i64 q.1.la] 0 hw_ (by omega))⟩, fun h => (BoxAt.sets_ne [.int .i64 q.1.rd, .int .i64 q.1.mo, .slice A5 n5 c5, .int .i64 q.1.fi, .int .i64 q.1.la] 0 (hw__o (by simpa [upd] using h)) (by omega))⟩, hset, Nat.le_of_eq (sets_size _ _ _).symm, fun j hj hn hR => ?_⟩
        match j, hj, hn, hR with
        | 0, _, _, hR => exact (show σ 0 = .agg #[.int .i64 q.1.rd, .int .i64 q.1.mo, .slice A5 n5 c5, .int .i64 q.1.fi, .int .i64 q.1.la] from hR)
        | 1, _, _, hR => exact (show σ 1 = .agg #[.int .i64 h2.at_, .int .i64 h2.v, .int .i64 h2.r, .int .i64 h2.t, .bool h2.seen.s, .int .i64 h2.seen.n, .bool h2.seen.f, .int .i64 h2.seen.v, .int .i64 h2.tr, .int .i64 h2.sp, .bool h2.ag, .int .i64 h2.re] from hR)
        | 2, _, _, hR => exact (show σ 2 = .bool true from hR)
        | 3, _, _, hR => exact (show σ 3 = .bool true from hR)
        | 4, _, _, hR => exact (show σ 4 = .agg #[.int .i64 h2.at_, .int .i64 h2.v, .int .i64 h2.r, .int .i64 h2.t, .bool h2.seen.s, .int .i64 h2.seen.n, .bool h2.seen.f, .int .i64 h2.seen.v, .int .i64 h2.tr, .int .i64 h2.sp, .bool h2.ag, .int .i64 h2.re] from hR)
        | 5, _, _, hR => exact (show σ 5 = .bool h2.ok from hR)
        | 6, _, _, hR => exact (show σ 6 = .bool h2.ok from hR)
        | 7, hj, _, _ => exact absurd rfl hj
        | 8, _, _, hR => exact (BoxAt.sets_ne [.int .i64 q.1.rd, .int .i64 q.1.mo, .slice A5 n5 c5, .int .i64 q.1.fi, .int .i64 q.1.la] 0 hR (by omega))
        | 9, _, _, hR => exact (show σ 9 = .bool h2.ok from hR)
        | _ + 10, _, _, _ => exact trivial
      · -- 8: Op.store 41 t5 t175
        go_light
        intro L σ W' hcl hL hC hw hne
        have e1 : σ 1 = .agg #[.int .i64 h2.at_, .int .i64 h2.v, .int .i64 h2.r, .int .i64 h2.t, .bool h2.seen.s, .int .i64 h2.seen.n, .bool h2.seen.f, .int .i64 h2.seen.v, .int .i64 h2.tr, .int .i64 h2.sp, .bool h2.ag, .int .i64 h2.re] := hw 1 (by kernel_rfl)
        clear hw hne
        have HC := Lib.hid hC
        obtain ⟨hB, hx, hy, hG, hM, ⟨hz_x0, hz_x1, hz_x2, hz_x3, hz_x4, hz⟩, hz_o, ⟨hw__x0, hw__x1, hw__x2, hw__x3, hw__x4, hw__x5, hw__x6, hw__x7, hw__x8, hw__x9, hw__x10, hw__x11, hw_⟩, hw__o⟩ := hC
        clear hcl hL
        have kc_ := hw_.cell
        have kf_ := hw_.frozen
        clear hB hx hy hG hM hz hz_o hw_ hw__o
        refine OpGoes.step fun K hK => ?_
        unfold OpGoes
        go_simp
        obtain ⟨hB, hx, hy, hG, hM, ⟨hz_x0, hz_x1, hz_x2, hz_x3, hz_x4, hz⟩, hz_o, ⟨hw__x0, hw__x1, hw__x2, hw__x3, hw__x4, hw__x5, hw__x6, hw__x7, hw__x8, hw__x9, hw__x10, hw__x11, hw_⟩, hw__o⟩ := HC.out
        have hset := sets_all (us := [.int .i64 h2.at_, .int .i64 h2.v, .int .i64 h2.r, .int .i64 h2.t, .bool h2.seen.s, .int .i64 h2.seen.n, .bool h2.seen.f, .int .i64 h2.seen.v, .int .i64 h2.tr, .int .i64 h2.sp, .bool h2.ag, .int .i64 h2.re]) hw_ rfl
        refine hK undef (setCells W' (w.heap.size + 1 + 1 + 1) 0 [.int .i64 h2.at_, .int .i64 h2.v, .int .i64 h2.r, .int .i64 h2.t, .bool h2.seen.s, .int .i64 h2.seen.n, .bool h2.seen.f, .int .i64 h2.seen.v, .int .i64 h2.tr, .int .i64 h2.sp, .bool h2.ag, .int .i64 h2.re]) ⟨⟨(Below.setCells (by omega) [.int .i64 h2.at_, .int .i64 h2.v, .int .i64 h2.r, .int .i64 h2.t, .bool h2.seen.s, .int .i64 h2.seen.n, .bool h2.seen.f, .int .i64 h2.seen.v, .int .i64 h2.tr, .int .i64 h2.sp, .bool h2.ag, .int .i64 h2.re] 0 hB), (BoxAt.sets_ne [.int .i64 h2.at_, .int .i64 h2.v, .int .i64 h2.r, .int .i64 h2.t, .bool h2.seen.s, .int .i64 h2.seen.n, .bool h2.seen.f, .int .i64 h2.seen.v, .int .i64 h2.tr, .int .i64 h2.sp, .bool h2.ag, .int .i64 h2.re] 0 hx (by omega)), (BoxAt.sets_ne [.int .i64 h2.at_, .int .i64 h2.v, .int .i64 h2.r, .int .i64 h2.t, .bool h2.seen.s, .int .i64 h2.seen.n, .bool h2.seen.f, .int .i64 h2.seen.v, .int .i64 h2.tr, .int .i64 h2.sp, .bool h2.ag, .int .i64 h2.re] 0 hy (by omega)), (RgsW.sts hG (by omega) [.int .i64 h2.at_, .int .i64 h2.v, .int .i64 h2.r, .int .i64 h2.t, .bool h2.seen.s, .int .i64 h2.seen.n, .bool h2.seen.f, .int .i64 h2.seen.v, .int .i64 h2.tr, .int .i64 h2.sp, .bool h2.ag, .int .i64 h2.re] 0), (size_sts hM [.int .i64 h2.at_, .int .i64 h2.v, .int .i64 h2.r, .int .i64 h2.t, .bool h2.seen.s, .int .i64 h2.seen.n, .bool h2.seen.f, .int .i64 h2.seen.v, .int .i64 h2.tr, .int .i64 h2.sp, .bool h2.ag, .int .i64 h2.re] 0), ⟨_, _, _, _, _, (BoxAt.sets_ne [.int .i64 h2.at_, .int .i64 h2.v, .int .i64 h2.r, .int .i64 h2.t, .bool h2.seen.s, .int .i64 h2.seen.n, .bool h2.seen.f, .int .i64 h2.seen.v, .int .i64 h2.tr, .int .i64 h2.sp, .bool h2.ag, .int .i64 h2.re] 0 hz (by omega))⟩, fun h => (BoxAt.sets_ne [.int .i64 h2.at_, .int .i64 h2.v, .int .i64 h2.r, .int .i64 h2.t, .bool h2.seen.s, .int .i64 h2.seen.n, .bool h2.seen.f, .int .i64 h2.seen.v, .int .i64 h2.tr, .int .i64 h2.sp, .bool h2.ag, .int .i64 h2.re] 0 (hz_o (by simpa [upd] using h)) (by omega)), ⟨_, _, _, _, _, _, _, _, _, _, _, _, hset⟩, fun h => absurd h (by simp [upd])⟩, hset, Nat.le_of_eq (sets_size _ _ _).symm, fun j hj hn hR => ?_⟩
        match j, hj, hn, hR with
        | 0, _, _, hR => exact (show σ 0 = .agg #[.int .i64 q.1.rd, .int .i64 q.1.mo, .slice A5 n5 c5, .int .i64 q.1.fi, .int .i64 q.1.la] from hR)
        | 1, _, _, hR => exact (show σ 1 = .agg #[.int .i64 h2.at_, .int .i64 h2.v, .int .i64 h2.r, .int .i64 h2.t, .bool h2.seen.s, .int .i64 h2.seen.n, .bool h2.seen.f, .int .i64 h2.seen.v, .int .i64 h2.tr, .int .i64 h2.sp, .bool h2.ag, .int .i64 h2.re] from hR)
        | 2, _, _, hR => exact (show σ 2 = .bool true from hR)
        | 3, _, _, hR => exact (show σ 3 = .bool true from hR)
        | 4, _, _, hR => exact (show σ 4 = .agg #[.int .i64 h2.at_, .int .i64 h2.v, .int .i64 h2.r, .int .i64 h2.t, .bool h2.seen.s, .int .i64 h2.seen.n, .bool h2.seen.f, .int .i64 h2.seen.v, .int .i64 h2.tr, .int .i64 h2.sp, .bool h2.ag, .int .i64 h2.re] from hR)
        | 5, _, _, hR => exact (show σ 5 = .bool h2.ok from hR)
        | 6, _, _, hR => exact (show σ 6 = .bool h2.ok from hR)
        | 7, _, _, hR => exact (BoxAt.sets_ne [.int .i64 h2.at_, .int .i64 h2.v, .int .i64 h2.r, .int .i64 h2.t, .bool h2.seen.s, .int .i64 h2.seen.n, .bool h2.seen.f, .int .i64 h2.seen.v, .int .i64 h2.tr, .int .i64 h2.sp, .bool h2.ag, .int .i64 h2.re] 0 hR (by omega))
        | 8, hj, _, _ => exact absurd rfl hj
        | 9, _, _, hR => exact (show σ 9 = .bool h2.ok from hR)
        | _ + 10, _, _, _ => exact trivial
      · -- 9: Op.assign t180
        go_light
        intro L σ W' hcl hL hC hw
        have e6 : σ 6 = .bool h2.ok := hw 6 (by kernel_rfl)
        clear hw
        have HC := Lib.hid hC
        clear hC
        clear hcl hL
        refine OpGoes.step fun K hK => ?_
        unfold OpGoes
        go_simp
        obtain ⟨hB, hx, hy, hG, hM, ⟨hz_x0, hz_x1, hz_x2, hz_x3, hz_x4, hz⟩, hz_o, ⟨hw__x0, hw__x1, hw__x2, hw__x3, hw__x4, hw__x5, hw__x6, hw__x7, hw__x8, hw__x9, hw__x10, hw__x11, hw_⟩, hw__o⟩ := HC.out
        exact hK _ _ ⟨⟨hB, hx, hy, hG, hM, ⟨_, _, _, _, _, hz⟩, fun h => hz_o (by simpa [upd] using h), ⟨_, _, _, _, _, _, _, _, _, _, _, _, hw_⟩, fun h => hw__o (by simpa [upd] using h)⟩, rfl, Below.refl _ _⟩
      · intro σ L W' hall hC hR
        obtain ⟨hB, hx, hy, hG, hM, ⟨hz_x0, hz_x1, hz_x2, hz_x3, hz_x4, hz⟩, hz_o, ⟨hw__x0, hw__x1, hw__x2, hw__x3, hw__x4, hw__x5, hw__x6, hw__x7, hw__x8, hw__x9, hw__x10, hw__x11, hw_⟩, hw__o⟩ := hC
        have s7 : BoxAt W' (w.heap.size + 1 + 1) #[.int .i64 q.1.rd, .int .i64 q.1.mo, .slice A5 n5 c5, .int .i64 q.1.fi, .int .i64 q.1.la] 75 := hR 7 (by decide)
        have s8 : BoxAt W' (w.heap.size + 1 + 1 + 1) #[.int .i64 h2.at_, .int .i64 h2.v, .int .i64 h2.r, .int .i64 h2.t, .bool h2.seen.s, .int .i64 h2.seen.n, .bool h2.seen.f, .int .i64 h2.seen.v, .int .i64 h2.tr, .int .i64 h2.sp, .bool h2.ag, .int .i64 h2.re] 41 := hR 8 (by decide)
        have e9 : σ 9 = .bool h2.ok := hR 9 (by decide)
        clear hR
        simp only [lexAll]
        go_simp
        go_step
        have k7 := s7.cell
        have k8 := s8.cell
        go_wp2
        refine bodyPost_ret (v := .tuple #[stV q.1 A5 n5 c5, hdV h2, .bool (h2.ok)]) (by simp [results, Try.results91, go_sem, k7, k8, stV, hdV]) rfl ⟨A5, n5, c5, by rw [HV.out], ?_, hB⟩
        rw [HV.out]
        exact hG.cut.mono (by omega) (Nat.le_refl _)

    · have hq0d : decide (0 ≤ q.2) = false := by simpa using hq0
      have HQ0 := Lib.hid hq0d
      go_upto_region 50 with fail
      clear hq0d
      have HV := Lib.hid (show put4 s ⟨4, v, r, t, seen, tr, sp, ag, re⟩ = (q.1, (⟨10, v, r, q.2, seen, tr, sp, ag, re⟩ : Hd), false) by simp only [put4, HQ5.out, HAT.out, HCL.out, fin, HQ0.out]; rfl)
      refine wp_abs (fun W' => Below w.heap.size w W' ∧ BoxAt W' w.heap.size #[.int .i64 (q.1).rd, .int .i64 (q.1).mo, .slice A5 n5 c5, .int .i64 (q.1).fi, .int .i64 (q.1).la] 75 ∧ BoxAt W' (w.heap.size + 1) #[.int .i64 ((⟨10, v, r, q.2, seen, tr, sp, ag, re⟩ : Hd)).at_, .int .i64 ((⟨10, v, r, q.2, seen, tr, sp, ag, re⟩ : Hd)).v, .int .i64 ((⟨10, v, r, q.2, seen, tr, sp, ag, re⟩ : Hd)).r, .int .i64 ((⟨10, v, r, q.2, seen, tr, sp, ag, re⟩ : Hd)).t, .bool ((⟨10, v, r, q.2, seen, tr, sp, ag, re⟩ : Hd)).seen.s, .int .i64 ((⟨10, v, r, q.2, seen, tr, sp, ag, re⟩ : Hd)).seen.n, .bool ((⟨10, v, r, q.2, seen, tr, sp, ag, re⟩ : Hd)).seen.f, .int .i64 ((⟨10, v, r, q.2, seen, tr, sp, ag, re⟩ : Hd)).seen.v, .int .i64 ((⟨10, v, r, q.2, seen, tr, sp, ag, re⟩ : Hd)).tr, .int .i64 ((⟨10, v, r, q.2, seen, tr, sp, ag, re⟩ : Hd)).sp, .bool ((⟨10, v, r, q.2, seen, tr, sp, ag, re⟩ : Hd)).ag, .int .i64 ((⟨10, v, r, q.2, seen, tr, sp, ag, re⟩ : Hd)).re] 41 ∧ BoxAt W' (w.heap.size + 1 + 1) #[.int .i64 0, .int .i64 0, .slice none 0 0, .int .i64 0, .int .i64 0] 75 ∧ BoxAt W' (w.heap.size + 1 + 1 + 1) #[.int .i64 0, .int .i64 0, .int .i64 0, .int .i64 0, .bool false, .int .i64 0, .bool false, .int .i64 0, .int .i64 0, .int .i64 0, .bool false, .int .i64 0] 41 ∧ RgsW W0.heap.size w1.heap.size W' A5 n5 c5 (q.1).rs ∧ w1.heap.size ≤ W'.heap.size) ⟨(((((((((hB.setCell (by dsimp only; omega) _).setCell (by dsimp only; omega) _).setCell (by dsimp only; omega) _).setCell (by dsimp only; omega) _).setCell (by dsimp only; omega) _)).setCell (by dsimp only; omega) _).setCell (by dsimp only; omega) _).setCell (by dsimp only; omega) _), ((((sets_all (us := [.int .i64 q.1.rd, .int .i64 q.1.mo, .slice A5 n5 c5, .int .i64 q.1.fi, .int .i64 q.1.la]) hx rfl).set_ne (by omega) _ _).set_ne (by omega) _ _).set_ne (by omega) _ _), by simpa using (((((((((hy.set_ne (by omega) _ _).set_ne (by omega) _ _).set_ne (by omega) _ _).set_ne (by omega) _ _).set_ne (by omega) _ _)).set 3 (.int .i64 q.2)).set 0 (.int .i64 5)).set 0 (.int .i64 10)), (((((((((hz.set_ne (by omega) _ _).set_ne (by omega) _ _).set_ne (by omega) _ _).set_ne (by omega) _ _).set_ne (by omega) _ _)).set_ne (by omega) _ _).set_ne (by omega) _ _).set_ne (by omega) _ _), (((((((((hw_.set_ne (by omega) _ _).set_ne (by omega) _ _).set_ne (by omega) _ _).set_ne (by omega) _ _).set_ne (by omega) _ _)).set_ne (by omega) _ _).set_ne (by omega) _ _).set_ne (by omega) _ _), (((((((((hG5.st (.inl (by omega)) _ _).st (.inl (by omega)) _ _).st (.inl (by omega)) _ _).st (.inl (by omega)) _ _).st (.inl (by omega)) _ _)).st (.inl (by omega)) _ _).st (.inl (by omega)) _ _).st (.inl (by omega)) _ _), by simp⟩ ?_
      have hQR : w.heap.size + 4 ≤ W0.heap.size := by omega
      clear kx fx ky fy hB hx hy hz hw_ hG5
      generalize hq2 : (⟨10, v, r, q.2, seen, tr, sp, ag, re⟩ : Hd) = h2 at *
      clear hq2
      rintro W ⟨hB, hx, hy, hz, hw_, hG, hhi⟩
      have lw := hw_.lt
      obtain ⟨M, hMe⟩ : ∃ M, M = W.heap.size := ⟨_, rfl⟩
      have hM : M ≤ W.heap.size := by omega
      have hM2 : W.heap.size ≤ M := by omega
      have hhi2 : w1.heap.size ≤ M := by omega
      clear hMe hM2
      refine wp_region2 (fun w w' => Below w.heap.size w w') (fun _ _ h => h.size) (fun L W' => Below w.heap.size w W' ∧ BoxAt W' w.heap.size #[.int .i64 q.1.rd, .int .i64 q.1.mo, .slice A5 n5 c5, .int .i64 q.1.fi, .int .i64 q.1.la] 75 ∧ BoxAt W' (w.heap.size + 1) #[.int .i64 h2.at_, .int .i64 h2.v, .int .i64 h2.r, .int .i64 h2.t, .bool h2.seen.s, .int .i64 h2.seen.n, .bool h2.seen.f, .int .i64 h2.seen.v, .int .i64 h2.tr, .int .i64 h2.sp, .bool h2.ag, .int .i64 h2.re] 41 ∧ RgsW W0.heap.size w1.heap.size W' A5 n5 c5 q.1.rs ∧ M ≤ W'.heap.size ∧ (∃ x0 x1 x2 x3 x4, BoxAt W' (w.heap.size + 1 + 1) #[x0, x1, x2, x3, x4] 75) ∧ (L 7 = false → BoxAt W' (w.heap.size + 1 + 1) #[.int .i64 0, .int .i64 0, .slice none 0 0, .int .i64 0, .int .i64 0] 75) ∧ (∃ x0 x1 x2 x3 x4 x5 x6 x7 x8 x9 x10 x11, BoxAt W' (w.heap.size + 1 + 1 + 1) #[x0, x1, x2, x3, x4, x5, x6, x7, x8, x9, x10, x11] 41) ∧ (L 8 = false → BoxAt W' (w.heap.size + 1 + 1 + 1) #[.int .i64 0, .int .i64 0, .int .i64 0, .int .i64 0, .bool false, .int .i64 0, .bool false, .int .i64 0, .int .i64 0, .int .i64 0, .bool false, .int .i64 0] 41)) (p6FR q.1 w.heap.size n5 c5 A5 h2) p6FK p6FS (by kernel_rfl) (by kernel_rfl) ?_ ?_ ?_
        (.grow rfl ?_ <| .grow rfl ?_ <| .grow rfl ?_ <| .grow rfl ?_ <| .grow rfl ?_ <| .grow rfl ?_ <| .grow rfl ?_ <| .store rfl ?_ <| .store rfl ?_ <| .grow rfl ?_ <| .nil) ?_
      · intro j σ τ w h hR
        match j, h, hR with
        | 0, h, hR => exact (h 0 (List.mem_singleton.2 rfl)).symm.trans hR
        | 1, h, hR => exact (h 1 (List.mem_singleton.2 rfl)).symm.trans hR
        | 2, h, hR => exact (h 2 (List.mem_singleton.2 rfl)).symm.trans hR
        | 3, h, hR => exact (h 3 (List.mem_singleton.2 rfl)).symm.trans hR
        | 4, h, hR => exact (h 4 (List.mem_singleton.2 rfl)).symm.trans hR
        | 5, h, hR => exact (h 5 (List.mem_singleton.2 rfl)).symm.trans hR
        | 6, h, hR => exact (h 6 (List.mem_singleton.2 rfl)).symm.trans hR
        | 7, _, hR => exact hR
        | 8, _, hR => exact hR
        | 9, h, hR => exact (h 9 (List.mem_singleton.2 rfl)).symm.trans hR
        | _ + 10, _, _ => exact trivial
      · intro j σ w w' hb hR
        match j, hR with
        | 0, hR => exact hR
        | 1, hR => exact hR
        | 2, hR => exact hR
        | 3, hR => exact hR
        | 4, hR => exact hR
        | 5, hR => exact hR
        | 6, hR => exact hR
        | 7, hR => exact hR.below hb hR.lt
        | 8, hR => exact hR.below hb hR.lt
        | 9, hR => exact hR
        | _ + 10, _ => exact trivial
      · exact ⟨hB.drew, hx, hy, hG, hM, ⟨_, _, _, _, _, hz⟩, fun _ => hz, ⟨_, _, _, _, _, _, _, _, _, _, _, _, hw_⟩, fun _ => hw_⟩
      · -- 0: Op.load 75 t2
        go_light
        intro L σ W' hcl hL hC hw
        clear hw
        have HC := Lib.hid hC
        obtain ⟨hB, hx, hy, hG, hM, ⟨hz_x0, hz_x1, hz_x2, hz_x3, hz_x4, hz⟩, hz_o, ⟨hw__x0, hw__x1, hw__x2, hw__x3, hw__x4, hw__x5, hw__x6, hw__x7, hw__x8, hw__x9, hw__x10, hw__x11, hw_⟩, hw__o⟩ := hC
        have ks := hx.cell
        clear hcl hL
        clear hB hx hy hG hM hz hz_o hw_ hw__o
        refine OpGoes.step fun K hK => ?_
        unfold OpGoes
        go_simp
        obtain ⟨hB, hx, hy, hG, hM, ⟨hz_x0, hz_x1, hz_x2, hz_x3, hz_x4, hz⟩, hz_o, ⟨hw__x0, hw__x1, hw__x2, hw__x3, hw__x4, hw__x5, hw__x6, hw__x7, hw__x8, hw__x9, hw__x10, hw__x11, hw_⟩, hw__o⟩ := HC.out
        exact hK _ _ ⟨⟨hB, hx, hy, hG, hM, ⟨_, _, _, _, _, hz⟩, fun h => hz_o (by simpa [upd] using h), ⟨_, _, _, _, _, _, _, _, _, _, _, _, hw_⟩, fun h => hw__o (by simpa [upd] using h)⟩, rfl, Below.refl _ _⟩
      · -- 1: Op.load 41 t3
        go_light
        intro L σ W' hcl hL hC hw
        clear hw
        have HC := Lib.hid hC
        obtain ⟨hB, hx, hy, hG, hM, ⟨hz_x0, hz_x1, hz_x2, hz_x3, hz_x4, hz⟩, hz_o, ⟨hw__x0, hw__x1, hw__x2, hw__x3, hw__x4, hw__x5, hw__x6, hw__x7, hw__x8, hw__x9, hw__x10, hw__x11, hw_⟩, hw__o⟩ := hC
        have kh := hy.cell
        clear hcl hL
        clear hB hx hy hG hM hz hz_o hw_ hw__o
        refine OpGoes.step fun K hK => ?_
        unfold OpGoes
        go_simp
        obtain ⟨hB, hx, hy, hG, hM, ⟨hz_x0, hz_x1, hz_x2, hz_x3, hz_x4, hz⟩, hz_o, ⟨hw__x0, hw__x1, hw__x2, hw__x3, hw__x4, hw__x5, hw__x6, hw__x7, hw__x8, hw__x9, hw__x10, hw__x11, hw_⟩, hw__o⟩ := HC.out
        exact hK _ _ ⟨⟨hB, hx, hy, hG, hM, ⟨_, _, _, _, _, hz⟩, fun h => hz_o (by simpa [upd] using h), ⟨_, _, _, _, _, _, _, _, _, _, _, _, hw_⟩, fun h => hw__o (by simpa [upd] using h)⟩, rfl, Below.refl _ _⟩
      · -- 2: Op.move t9
        go_light
        intro L σ W' hcl hL hC hw
        clear hw
        have HC := Lib.hid hC
        clear hC
        clear hcl hL
        refine OpGoes.step fun K hK => ?_
        unfold OpGoes
        go_simp
        obtain ⟨hB, hx, hy, hG, hM, ⟨hz_x0, hz_x1, hz_x2, hz_x3, hz_x4, hz⟩, hz_o, ⟨hw__x0, hw__x1, hw__x2, hw__x3, hw__x4, hw__x5, hw__x6, hw__x7, hw__x8, hw__x9, hw__x10, hw__x11, hw_⟩, hw__o⟩ := HC.out
        exact hK _ _ ⟨⟨hB, hx, hy, hG, hM, ⟨_, _, _, _, _, hz⟩, fun h => hz_o (by simpa [upd] using h), ⟨_, _, _, _, _, _, _, _, _, _, _, _, hw_⟩, fun h => hw__o (by simpa [upd] using h)⟩, rfl, Below.refl _ _⟩
      · -- 3: Op.move t176
        go_light
        intro L σ W' hcl hL hC hw
        have e2 : σ 2 = .bool false := hw 2 (by kernel_rfl)
        clear hw
        have HC := Lib.hid hC
        clear hC
        clear hcl hL
        refine OpGoes.step fun K hK => ?_
        unfold OpGoes
        go_simp
        obtain ⟨hB, hx, hy, hG, hM, ⟨hz_x0, hz_x1, hz_x2, hz_x3, hz_x4, hz⟩, hz_o, ⟨hw__x0, hw__x1, hw__x2, hw__x3, hw__x4, hw__x5, hw__x6, hw__x7, hw__x8, hw__x9, hw__x10, hw__x11, hw_⟩, hw__o⟩ := HC.out
        exact hK _ _ ⟨⟨hB, hx, hy, hG, hM, ⟨_, _, _, _, _, hz⟩, fun h => hz_o (by simpa [upd] using h), ⟨_, _, _, _, _, _, _, _, _, _, _, _, hw_⟩, fun h => hw__o (by simpa [upd] using h)⟩, rfl, Below.refl _ _⟩
      · -- 4: Op.load 41 t3   [guarded: some (3, true)]
        go_light
        intro L σ W' hcl hL hC hw
        have e3 : σ 3 = .bool false := hw 3 (by kernel_rfl)
        clear hw
        have HC := Lib.hid hC
        clear hC
        clear hcl hL
        refine OpGoes.step fun K hK => ?_
        unfold OpGoes
        go_simp
        obtain ⟨hB, hx, hy, hG, hM, ⟨hz_x0, hz_x1, hz_x2, hz_x3, hz_x4, hz⟩, hz_o, ⟨hw__x0, hw__x1, hw__x2, hw__x3, hw__x4, hw__x5, hw__x6, hw__x7, hw__x8, hw__x9, hw__x10, hw__x11, hw_⟩, hw__o⟩ := HC.out
        exact hK _ _ ⟨⟨hB, hx, hy, hG, hM, ⟨_, _, _, _, _, hz⟩, fun h => hz_o (by simpa [upd] using h), ⟨_, _, _, _, _, _, _, _, _, _, _, _, hw_⟩, fun h => hw__o (by simpa [upd] using h)⟩, rfl, Below.refl _ _⟩
      · -- 5: Op.call { value (Operand.func 25), args := #[t178], argTypes := #[41] }   [guarded: some (3, true)]
        go_light
        intro L σ W' hcl hL hC hw
        have e3 : σ 3 = .bool false := hw 3 (by kernel_rfl)
        have e4 : σ 4 = undef := hw 4 (by kernel_rfl)
        clear hw
        have HC := Lib.hid hC
        clear hC
        clear hcl hL
        refine OpGoes.step fun K hK => ?_
        unfold OpGoes
        go_simp
        obtain ⟨hB, hx, hy, hG, hM, ⟨hz_x0, hz_x1, hz_x2, hz_x3, hz_x4, hz⟩, hz_o, ⟨hw__x0, hw__x1, hw__x2, hw__x3, hw__x4, hw__x5, hw__x6, hw__x7, hw__x8, hw__x9, hw__x10, hw__x11, hw_⟩, hw__o⟩ := HC.out
        exact hK _ _ ⟨⟨hB, hx, hy, hG, hM, ⟨_, _, _, _, _, hz⟩, fun h => hz_o (by simpa [upd] using h), ⟨_, _, _, _, _, _, _, _, _, _, _, _, hw_⟩, fun h => hw__o (by simpa [upd] using h)⟩, rfl, Below.refl _ _⟩
      · -- 6: Op.pick t177 t179 (const (Value.bool false))
        go_light
        intro L σ W' hcl hL hC hw
        have e3 : σ 3 = .bool false := hw 3 (by kernel_rfl)
        have e5 : σ 5 = undef := hw 5 (by kernel_rfl)
        clear hw
        have HC := Lib.hid hC
        clear hC
        clear hcl hL
        refine OpGoes.step fun K hK => ?_
        unfold OpGoes
        go_simp
        obtain ⟨hB, hx, hy, hG, hM, ⟨hz_x0, hz_x1, hz_x2, hz_x3, hz_x4, hz⟩, hz_o, ⟨hw__x0, hw__x1, hw__x2, hw__x3, hw__x4, hw__x5, hw__x6, hw__x7, hw__x8, hw__x9, hw__x10, hw__x11, hw_⟩, hw__o⟩ := HC.out
        exact hK _ _ ⟨⟨hB, hx, hy, hG, hM, ⟨_, _, _, _, _, hz⟩, fun h => hz_o (by simpa [upd] using h), ⟨_, _, _, _, _, _, _, _, _, _, _, _, hw_⟩, fun h => hw__o (by simpa [upd] using h)⟩, rfl, Below.refl _ _⟩
      · -- 7: Op.store 75 t4 t174
        go_light
        intro L σ W' hcl hL hC hw hne
        have e0 : σ 0 = .agg #[.int .i64 q.1.rd, .int .i64 q.1.mo, .slice A5 n5 c5, .int .i64 q.1.fi, .int .i64 q.1.la] := hw 0 (by kernel_rfl)
        clear hw hne
        have HC := Lib.hid hC
        obtain ⟨hB, hx, hy, hG, hM, ⟨hz_x0, hz_x1, hz_x2, hz_x3, hz_x4, hz⟩, hz_o, ⟨hw__x0, hw__x1, hw__x2, hw__x3, hw__x4, hw__x5, hw__x6, hw__x7, hw__x8, hw__x9, hw__x10, hw__x11, hw_⟩, hw__o⟩ := hC
        clear hcl hL
        have kc_ := hz.cell
        have kf_ := hz.frozen
        clear hB hx hy hG hM hz hz_o hw_ hw__o
        refine OpGoes.step fun K hK => ?_
        unfold OpGoes
        go_simp
        obtain ⟨hB, hx, hy, hG, hM, ⟨hz_x0, hz_x1, hz_x2, hz_x3, hz_x4, hz⟩, hz_o, ⟨hw__x0, hw__x1, hw__x2, hw__x3, hw__x4, hw__x5, hw__x6, hw__x7, hw__x8, hw__x9, hw__x10, hw__x11, hw_⟩, hw__o⟩ := HC.out
        have hset := sets_all (us := [.int .i64 q.1.rd, .int .i64 q.1.mo, .slice A5 n5 c5, .int .i64 q.1.fi, .int .i64 q.1.la]) hz rfl
        refine hK undef (setCells W' (w.heap.size + 1 + 1) 0 [.int .i64 q.1.rd, .int .i64 q.1.mo, .slice A5 n5 c5, .int .i64 q.1.fi, .int .i64 q.1.la]) ⟨⟨(Below.setCells (by omega) [.int .i64 q.1.rd, .int .i64 q.1.mo, .slice A5 n5 c5, .int .i64 q.1.fi, .int .i64 q.1.la] 0 hB), (BoxAt.sets_ne [.int .i64 q.1.rd, .int .i64 q.1.mo, .slice A5 n5 c5, .int .i64 q.1.fi, .int .i64 q.1.la] 0 hx (by omega)), (BoxAt.sets_ne [.int .i64 q.1.rd, .int .i64 q.1.mo, .slice A5 n5 c5, .int .i64 q.1.fi, .int .i64 q.1.la] 0 hy (by omega)), (RgsW.sts hG (by omega) [.int .i64 q.1.rd, .int .i64 q.1.mo, .slice A5 n5 c5, .int .i64 q.1.fi, .int .i64 q.1.la] 0), (size_sts hM [.int .i64 q.1.rd, .int .i64 q.1.mo, .slice A5 n5 c5, .int .i64 q.1.fi, .int .i64 q.1.la] 0), ⟨_, _, _, _, _, hset⟩, fun h => absurd h (by simp [upd]), ⟨_, _, _, _, _, _, _, _, _, _, _, _, (BoxAt.sets_ne [.int .i64 q.1.rd, .int .i64 q.1.mo, .slice A5 n5 c5, .int .i64 q.1.fi, .int .i64 q.1.la] 0 hw_ (by omega))⟩, fun h => (BoxAt.sets_ne [.int .i64 q.1.rd, .int .i64 q.1.mo, .slice A5 n5 c5, .int .i64 q.1.fi, .int .i64 q.1.la] 0 (hw__o (by simpa [upd] using h)) (by omega))⟩, hset, Nat.le_of_eq (sets_size _ _ _).symm, fun j hj hn hR => ?_⟩
        match j, hj, hn, hR with
        | 0, _, _, hR => exact (show σ 0 = .agg #[.int .i64 q.1.rd, .int .i64 q.1.mo, .slice A5 n5 c5, .int .i64 q.1.fi, .int .i64 q.1.la] from hR)
        | 1, _, _, hR => exact (show σ 1 = .agg #[.int .i64 h2.at_, .int .i64 h2.v, .int .i64 h2.r, .int .i64 h2.t, .bool h2.seen.s, .int .i64 h2.seen.n, .bool h2.seen.f, .int .i64 h2.seen.v, .int .i64 h2.tr, .int .i64 h2.sp, .bool h2.ag, .int .i64 h2.re] from hR)
        | 2, _, _, hR => exact (show σ 2 = .bool false from hR)
        | 3, _, _, hR => exact (show σ 3 = .bool false from hR)
        | 4, _, _, hR => exact (show σ 4 = undef from hR)
        | 5, _, _, hR => exact (show σ 5 = undef from hR)
        | 6, _, _, hR => exact (show σ 6 = .bool false from hR)
        | 7, hj, _, _ => exact absurd rfl hj
        | 8, _, _, hR => exact (BoxAt.sets_ne [.int .i64 q.1.rd, .int .i64 q.1.mo, .slice A5 n5 c5, .int .i64 q.1.fi, .int .i64 q.1.la] 0 hR (by omega))
        | 9, _, _, hR => exact (show σ 9 = .bool false from hR)
        | _ + 10, _, _, _ => exact trivial
      · -- 8: Op.store 41 t5 t175
        go_light
        intro L σ W' hcl hL hC hw hne
        have e1 : σ 1 = .agg #[.int .i64 h2.at_, .int .i64 h2.v, .int .i64 h2.r, .int .i64 h2.t, .bool h2.seen.s, .int .i64 h2.seen.n, .bool h2.seen.f, .int .i64 h2.seen.v, .int .i64 h2.tr, .int .i64 h2.sp, .bool h2.ag, .int .i64 h2.re] := hw 1 (by kernel_rfl)
        clear hw hne
        have HC := Lib.hid hC
        obtain ⟨hB, hx, hy, hG, hM, ⟨hz_x0, hz_x1, hz_x2, hz_x3, hz_x4, hz⟩, hz_o, ⟨hw__x0, hw__x1, hw__x2, hw__x3, hw__x4, hw__x5, hw__x6, hw__x7, hw__x8, hw__x9, hw__x10, hw__x11, hw_⟩, hw__o⟩ := hC
        clear hcl hL
        have kc_ := hw_.cell
        have kf_ := hw_.frozen
        clear hB hx hy hG hM hz hz_o hw_ hw__o
        refine OpGoes.step fun K hK => ?_
        unfold OpGoes
        go_simp
        obtain ⟨hB, hx, hy, hG, hM, ⟨hz_x0, hz_x1, hz_x2, hz_x3, hz_x4, hz⟩, hz_o, ⟨hw__x0, hw__x1, hw__x2, hw__x3, hw__x4, hw__x5, hw__x6, hw__x7, hw__x8, hw__x9, hw__x10, hw__x11, hw_⟩, hw__o⟩ := HC.out
        have hset := sets_all (us := [.int .i64 h2.at_, .int .i64 h2.v, .int .i64 h2.r, .int .i64 h2.t, .bool h2.seen.s, .int .i64 h2.seen.n, .bool h2.seen.f, .int .i64 h2.seen.v, .int .i64 h2.tr, .int .i64 h2.sp, .bool h2.ag, .int .i64 h2.re]) hw_ rfl
        refine hK undef (setCells W' (w.heap.size + 1 + 1 + 1) 0 [.int .i64 h2.at_, .int .i64 h2.v, .int .i64 h2.r, .int .i64 h2.t, .bool h2.seen.s, .int .i64 h2.seen.n, .bool h2.seen.f, .int .i64 h2.seen.v, .int .i64 h2.tr, .int .i64 h2.sp, .bool h2.ag, .int .i64 h2.re]) ⟨⟨(Below.setCells (by omega) [.int .i64 h2.at_, .int .i64 h2.v, .int .i64 h2.r, .int .i64 h2.t, .bool h2.seen.s, .int .i64 h2.seen.n, .bool h2.seen.f, .int .i64 h2.seen.v, .int .i64 h2.tr, .int .i64 h2.sp, .bool h2.ag, .int .i64 h2.re] 0 hB), (BoxAt.sets_ne [.int .i64 h2.at_, .int .i64 h2.v, .int .i64 h2.r, .int .i64 h2.t, .bool h2.seen.s, .int .i64 h2.seen.n, .bool h2.seen.f, .int .i64 h2.seen.v, .int .i64 h2.tr, .int .i64 h2.sp, .bool h2.ag, .int .i64 h2.re] 0 hx (by omega)), (BoxAt.sets_ne [.int .i64 h2.at_, .int .i64 h2.v, .int .i64 h2.r, .int .i64 h2.t, .bool h2.seen.s, .int .i64 h2.seen.n, .bool h2.seen.f, .int .i64 h2.seen.v, .int .i64 h2.tr, .int .i64 h2.sp, .bool h2.ag, .int .i64 h2.re] 0 hy (by omega)), (RgsW.sts hG (by omega) [.int .i64 h2.at_, .int .i64 h2.v, .int .i64 h2.r, .int .i64 h2.t, .bool h2.seen.s, .int .i64 h2.seen.n, .bool h2.seen.f, .int .i64 h2.seen.v, .int .i64 h2.tr, .int .i64 h2.sp, .bool h2.ag, .int .i64 h2.re] 0), (size_sts hM [.int .i64 h2.at_, .int .i64 h2.v, .int .i64 h2.r, .int .i64 h2.t, .bool h2.seen.s, .int .i64 h2.seen.n, .bool h2.seen.f, .int .i64 h2.seen.v, .int .i64 h2.tr, .int .i64 h2.sp, .bool h2.ag, .int .i64 h2.re] 0), ⟨_, _, _, _, _, (BoxAt.sets_ne [.int .i64 h2.at_, .int .i64 h2.v, .int .i64 h2.r, .int .i64 h2.t, .bool h2.seen.s, .int .i64 h2.seen.n, .bool h2.seen.f, .int .i64 h2.seen.v, .int .i64 h2.tr, .int .i64 h2.sp, .bool h2.ag, .int .i64 h2.re] 0 hz (by omega))⟩, fun h => (BoxAt.sets_ne [.int .i64 h2.at_, .int .i64 h2.v, .int .i64 h2.r, .int .i64 h2.t, .bool h2.seen.s, .int .i64 h2.seen.n, .bool h2.seen.f, .int .i64 h2.seen.v, .int .i64 h2.tr, .int .i64 h2.sp, .bool h2.ag, .int .i64 h2.re] 0 (hz_o (by simpa [upd] using h)) (by omega)), ⟨_, _, _, _, _, _, _, _, _, _, _, _, hset⟩, fun h => absurd h (by simp [upd])⟩, hset, Nat.le_of_eq (sets_size _ _ _).symm, fun j hj hn hR => ?_⟩
        match j, hj, hn, hR with
        | 0, _, _, hR => exact (show σ 0 = .agg #[.int .i64 q.1.rd, .int .i64 q.1.mo, .slice A5 n5 c5, .int .i64 q.1.fi, .int .i64 q.1.la] from hR)
        | 1, _, _, hR => exact (show σ 1 = .agg #[.int .i64 h2.at_, .int .i64 h2.v, .int .i64 h2.r, .int .i64 h2.t, .bool h2.seen.s, .int .i64 h2.seen.n, .bool h2.seen.f, .int .i64 h2.seen.v, .int .i64 h2.tr, .int .i64 h2.sp, .bool h2.ag, .int .i64 h2.re] from hR)
        | 2, _, _, hR => exact (show σ 2 = .bool false from hR)
        | 3, _, _, hR => exact (show σ 3 = .bool false from hR)
        | 4, _, _, hR => exact (show σ 4 = undef from hR)
        | 5, _, _, hR => exact (show σ 5 = undef from hR)
        | 6, _, _, hR => exact (show σ 6 = .bool false from hR)
        | 7, _, _, hR => exact (BoxAt.sets_ne [.int .i64 h2.at_, .int .i64 h2.v, .int .i64 h2.r, .int .i64 h2.t, .bool h2.seen.s, .int .i64 h2.seen.n, .bool h2.seen.f, .int .i64 h2.seen.v, .int .i64 h2.tr, .int .i64 h2.sp, .bool h2.ag, .int .i64 h2.re] 0 hR (by omega))
        | 8, hj, _, _ => exact absurd rfl hj
        | 9, _, _, hR => exact (show σ 9 = .bool false from hR)
        | _ + 10, _, _, _ => exact trivial
      · -- 9: Op.assign t180
        go_light
        intro L σ W' hcl hL hC hw
        have e6 : σ 6 = .bool false := hw 6 (by kernel_rfl)
        clear hw
        have HC := Lib.hid hC
        clear hC
        clear hcl hL
        refine OpGoes.step fun K hK => ?_
        unfold OpGoes
        go_simp
        obtain ⟨hB, hx, hy, hG, hM, ⟨hz_x0, hz_x1, hz_x2, hz_x3, hz_x4, hz⟩, hz_o, ⟨hw__x0, hw__x1, hw__x2, hw__x3, hw__x4, hw__x5, hw__x6, hw__x7, hw__x8, hw__x9, hw__x10, hw__x11, hw_⟩, hw__o⟩ := HC.out
        exact hK _ _ ⟨⟨hB, hx, hy, hG, hM, ⟨_, _, _, _, _, hz⟩, fun h => hz_o (by simpa [upd] using h), ⟨_, _, _, _, _, _, _, _, _, _, _, _, hw_⟩, fun h => hw__o (by simpa [upd] using h)⟩, rfl, Below.refl _ _⟩
      · intro σ L W' hall hC hR
        obtain ⟨hB, hx, hy, hG, hM, ⟨hz_x0, hz_x1, hz_x2, hz_x3, hz_x4, hz⟩, hz_o, ⟨hw__x0, hw__x1, hw__x2, hw__x3, hw__x4, hw__x5, hw__x6, hw__x7, hw__x8, hw__x9, hw__x10, hw__x11, hw_⟩, hw__o⟩ := hC
        have s7 : BoxAt W' (w.heap.size + 1 + 1) #[.int .i64 q.1.rd, .int .i64 q.1.mo, .slice A5 n5 c5, .int .i64 q.1.fi, .int .i64 q.1.la] 75 := hR 7 (by decide)
        have s8 : BoxAt W' (w.heap.size + 1 + 1 + 1) #[.int .i64 h2.at_, .int .i64 h2.v, .int .i64 h2.r, .int .i64 h2.t, .bool h2.seen.s, .int .i64 h2.seen.n, .bool h2.seen.f, .int .i64 h2.seen.v, .int .i64 h2.tr, .int .i64 h2.sp, .bool h2.ag, .int .i64 h2.re] 41 := hR 8 (by decide)
        have e9 : σ 9 = .bool false := hR 9 (by decide)
        clear hR
        simp only [lexAll]
        go_simp
        go_step
        have k7 := s7.cell
        have k8 := s8.cell
        go_wp2
        refine bodyPost_ret (v := .tuple #[stV q.1 A5 n5 c5, hdV h2, .bool (false)]) (by simp [results, Try.results91, go_sem, k7, k8, stV, hdV]) rfl ⟨A5, n5, c5, by rw [HV.out], ?_, hB⟩
        rw [HV.out]
        exact hG.cut.mono (by omega) (Nat.le_refl _)

end Go.Proofs.Ytbdgkmamieagfaa

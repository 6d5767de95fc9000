/-
  The walk of a step of one who puts, of the model: a ring of its own is set up anew.
-/
import Derived.Test.YtbdgkmamieagfaaMake
namespace Go.Proofs.Ytbdgkmamieagfaa
set_option linter.unusedSimpArgs false
set_option linter.unusedVariables false
open Go.RowKit
set_option linter.unusedVariables false
attribute [local go_sem] OpUpon
attribute [local go_sem ↓] Go.wp_at_zero Go.wp_at_succ

theorem rgs_seed {Q M : Nat} {w : World} {b n c i : Nat} {rows : List Rw} {L : List Rg} {a' : Rw} {r' : Rg} (hR : RwsO Q w b n c (rows.set i a')) (hC : CopyOf Q w rows L) (hl : L.length = n) (hi : i < n)
    (e1 : a'.h = r'.h) (e2 : a'.t = r'.t) (e3 : a'.c = r'.c) (e4 : a'.x = r'.x) {g : Nat} (hg : a'.A = some ⟨g, 0, none⟩) (hp : PlsO M w g a'.n a'.cap r'.ps) (hM : Q ≤ M) : RgsW Q w.heap.size w (some ⟨b, 0, none⟩) n c (L.set i r') := by
  have hrl : rows.length = n := by have := hR.1; simpa using this
  refine ⟨by simpa using hl, fun _ => ⟨b, _, rfl, Own.lt hR, hR, fun j a ha => ?_⟩⟩
  by_cases hj : i = j
  · subst hj
    rw [List.getElem?_set_self (by omega)] at ha
    injection ha with ha
    subst ha
    exact ⟨r', List.getElem?_set_self (by omega), e1, e2, e3, e4, hp.1, fun _ => ⟨g, hg, Own.lt hp, hp.mono hM⟩⟩
  · rw [List.getElem?_set_ne hj] at ha ⊢
    obtain ⟨r, hr, h1, h2, h3, h4, h5, g2, hg2, ho⟩ := hC.1 j a ha
    exact ⟨r, hr, h1, h2, h3, h4, ho.1, fun _ => ⟨g2, hg2, Own.lt ho, ho⟩⟩

def mk8R (s : St) (N Q M b1 n c1 q : Nat) (rows : List Rw) (v r t : Int) (seen : Pl) (tr sp : Int) (ag : Bool) (re : Int) (j : Nat) (σ : Nat → Value) (w : World) : Prop :=
  match j with
  | 0 => σ 0 = .pointer (some ⟨N, 2, none⟩)
  | 1 => σ 1 = .slice (some ⟨b1, 0, none⟩) n c1
  | 2 => σ 2 = .pointer (some ⟨(N + 1), 9, none⟩)
  | 3 => σ 3 = .int .i64 sp
  | 4 => σ 4 = .pointer (some ⟨N, 0, none⟩)
  | 5 => σ 5 = .int .i64 s.rd
  | 6 => σ 6 = .pointer (some ⟨(N + 1), 1, none⟩)
  | 7 => σ 7 = .int .i64 v
  | 8 => ∃ (g cg : Nat), σ 8 = .agg #[.int .i64 0, .int .i64 1, .bool false, .int .i64 ((-1)), .slice (some ⟨g, 0, none⟩) q cg] ∧ PlsO M w g q cg (seeded q v)
  | 9 => σ 9 = .pointer (some ⟨b1, sp.toNat * 5, none⟩)
  | 10 => ∃ (g cg : Nat), RwsO Q w b1 n c1 (rows.set sp.toNat (⟨0, 1, false, -1, some ⟨g, 0, none⟩, q, cg⟩ : Rw)) ∧ PlsO M w g q cg (seeded q v)
  | _ => True

def mk8S (j : Nat) : List Nat := [[0], [1], [2], [3], [4], [5], [6], [7], [8], [9], [10]].getD j [j]
def mk8K (j : Nat) : Nat := [0, 0, 0, 0, 0, 0, 0, 0, 0, 0, 1].getD j 0

def mkE2R (s2 : St) (N X Y n2 c2 : Nat) (A2 : Option Addr) (h2 : Hd) (j : Nat) (σ : Nat → Value) (w : World) : Prop :=
  match j with
  | 0 => σ 0 = .agg #[.int .i64 s2.rd, .int .i64 s2.mo, .slice A2 n2 c2, .int .i64 s2.fi, .int .i64 s2.la]
  | 1 => σ 1 = .agg #[.int .i64 h2.at_, .int .i64 h2.v, .int .i64 h2.r, .int .i64 h2.t, .bool h2.seen.s, .int .i64 h2.seen.n, .bool h2.seen.f, .int .i64 h2.seen.v, .int .i64 h2.tr, .int .i64 h2.sp, .bool h2.ag, .int .i64 h2.re]
  | 2 => BoxAt w (N + 1 + 1) #[.int .i64 s2.rd, .int .i64 s2.mo, .slice A2 n2 c2, .int .i64 s2.fi, .int .i64 s2.la] 75
  | 3 => BoxAt w (N + 1 + 1 + 1) #[.int .i64 h2.at_, .int .i64 h2.v, .int .i64 h2.r, .int .i64 h2.t, .bool h2.seen.s, .int .i64 h2.seen.n, .bool h2.seen.f, .int .i64 h2.seen.v, .int .i64 h2.tr, .int .i64 h2.sp, .bool h2.ag, .int .i64 h2.re] 41
  | 4 => σ 4 = .bool false
  | _ => True

def mkE2S (j : Nat) : List Nat := [[0], [1], [2], [3], [4]].getD j [j]
def mkE2K (j : Nat) : Nat := [0, 0, 1, 1, 0].getD j 0

def mkF2R (s2 : St) (N X Y n2 c2 : Nat) (A2 : Option Addr) (h2 : Hd) (j : Nat) (σ : Nat → Value) (w : World) : Prop :=
  match j with
  | 0 => σ 0 = .agg #[.int .i64 s2.rd, .int .i64 s2.mo, .slice A2 n2 c2, .int .i64 s2.fi, .int .i64 s2.la]
  | 1 => σ 1 = .agg #[.int .i64 h2.at_, .int .i64 h2.v, .int .i64 h2.r, .int .i64 h2.t, .bool h2.seen.s, .int .i64 h2.seen.n, .bool h2.seen.f, .int .i64 h2.seen.v, .int .i64 h2.tr, .int .i64 h2.sp, .bool h2.ag, .int .i64 h2.re]
  | 2 => BoxAt w (N + 1 + 1) #[.int .i64 s2.rd, .int .i64 s2.mo, .slice A2 n2 c2, .int .i64 s2.fi, .int .i64 s2.la] 75
  | 3 => BoxAt w (N + 1 + 1 + 1) #[.int .i64 h2.at_, .int .i64 h2.v, .int .i64 h2.r, .int .i64 h2.t, .bool h2.seen.s, .int .i64 h2.seen.n, .bool h2.seen.f, .int .i64 h2.seen.v, .int .i64 h2.tr, .int .i64 h2.sp, .bool h2.ag, .int .i64 h2.re] 41
  | 4 => σ 4 = .bool true
  | _ => True

def mkF2S (j : Nat) : List Nat := [[0], [1], [2], [3], [4]].getD j [j]
def mkF2K (j : Nat) : Nat := [0, 0, 1, 1, 0].getD j 0

set_option maxRecDepth 100000 in
set_option maxHeartbeats 4000000 in
theorem l6Make_10b (s : St) (A : Option Addr) (n cap lo hi : Nat) (v r t : Int) (seen : Pl) (tr sp : Int) (ag : Bool) (re : Int) (w : World) (hs : RgsW lo hi w A n cap s.rs) (hh : hi ≤ w.heap.size) (hlo : lo ≤ w.heap.size) (hok : stOk s = true) (hsp : 0 ≤ sp) :
    Calls Try.prog 99 #[stV s A n cap, hdV ⟨10, v, r, t, seen, tr, sp, ag, re⟩] w (RetSHB lo (make10 s ⟨10, v, r, t, seen, tr, sp, ag, re⟩) w) := by
  have HOK := Lib.hid hok
  have HLN := Lib.hid hs.1
  have HNT := Lib.hid (stOk_neat hok)
  clear hok
  have HSP := Lib.hid hsp
  have hrd := stOk_rd HOK.out
  unfold stV hdV
  dsimp only
  go_enter Try.func99, Try.ntmps99
  go_upto_region 3 with fail
  refine wp_abs (fun W => Below w.heap.size w W ∧ BoxAt W w.heap.size #[.int .i64 s.rd, .int .i64 s.mo, .slice A n cap, .int .i64 s.fi, .int .i64 s.la] 75 ∧ BoxAt W (w.heap.size + 1) #[.int .i64 10, .int .i64 v, .int .i64 r, .int .i64 t, .bool seen.s, .int .i64 seen.n, .bool seen.f, .int .i64 seen.v, .int .i64 tr, .int .i64 sp, .bool ag, .int .i64 re] 41 ∧ BoxAt W (w.heap.size + 1 + 1) #[.int .i64 0, .int .i64 0, .slice none 0 0, .int .i64 0, .int .i64 0] 75 ∧ BoxAt W (w.heap.size + 1 + 1 + 1) #[.int .i64 0, .int .i64 0, .int .i64 0, .int .i64 0, .bool false, .int .i64 0, .bool false, .int .i64 0, .int .i64 0, .int .i64 0, .bool false, .int .i64 0] 41) ⟨(((((Below.refl _ _).alloc (Nat.le_refl _) _).alloc (by simp) _).alloc (by simp; omega) _).alloc (by simp; omega) _), (((BoxAt.new _ _ _).alloc _).alloc _).alloc _, ((BoxAt.new' (by simp)).alloc _).alloc _, (BoxAt.new' (by simp)).alloc _, BoxAt.new' (by simp)⟩ ?_
  rintro W0 ⟨hB, hx, hy, hz, hw_⟩
  have lw0 := hw_.lt
  have hs0 := hs.below hB hh
  have kx := hx.cell
  have ky := hy.cell
  have fy := hy.frozen
  go_upto_region 5 with fail
  refine wp_abs (fun W => Below w.heap.size w W ∧ BoxAt W w.heap.size #[.int .i64 s.rd, .int .i64 s.mo, .slice A n cap, .int .i64 s.fi, .int .i64 s.la] 75 ∧ BoxAt W (w.heap.size + 1) #[.int .i64 11, .int .i64 v, .int .i64 r, .int .i64 t, .bool seen.s, .int .i64 seen.n, .bool seen.f, .int .i64 seen.v, .int .i64 tr, .int .i64 sp, .bool ag, .int .i64 re] 41 ∧ BoxAt W (w.heap.size + 1 + 1) #[.int .i64 0, .int .i64 0, .slice none 0 0, .int .i64 0, .int .i64 0] 75 ∧ BoxAt W (w.heap.size + 1 + 1 + 1) #[.int .i64 0, .int .i64 0, .int .i64 0, .int .i64 0, .bool false, .int .i64 0, .bool false, .int .i64 0, .int .i64 0, .int .i64 0, .bool false, .int .i64 0] 41) ⟨hB.setCell (by dsimp only; omega) _, hx.set_ne (by omega) _ _, by simpa using hy.set 0 (.int .i64 11), hz.set_ne (by omega) _ _, hw_.set_ne (by omega) _ _⟩ ?_
  clear hB hx hy hz hw_ lw0 hs0 kx ky fy
  rintro W0 ⟨hB, hx, hy, hz, hw_⟩
  have lw0 := hw_.lt
  have hs0 := hs.below hB hh
  have kx := hx.cell
  have ky := hy.cell
  have fy := hy.frozen
  go_wp2_with fail
  clear kx ky fy
  refine (l4Ring_any s A n cap sp _ HLN.out (by have := HNT.out.2.1; have := HLN.out; omega)).mono ?_
  rintro e w1 ⟨rfl, hb1⟩
  replace hx := hx.below hb1 hx.lt
  replace hy := hy.below hb1 hy.lt
  replace hz := hz.below hb1 hz.lt
  replace hw_ := hw_.below hb1 hw_.lt
  replace hB := bstep hB hB.size hb1
  clear hb1 hs0 lw0
  have hs0 := hs.below hB hh
  have lw0 := hw_.lt
  have kx := hx.cell
  have fx := hx.frozen
  have ky := hy.cell
  cases hrb : ringB s sp
  · have HRB := Lib.hid hrb; clear hrb
    go_upto_region 6 with fail
    have HV := Lib.hid (show make10 s ⟨10, v, r, t, seen, tr, sp, ag, re⟩ = (s, (⟨11, v, r, t, seen, tr, sp, ag, re⟩ : Hd), false) by unfold make10; dsimp only; rw [if_pos HSP.out, HRB.out]; rfl)
    refine wp_abs (fun W' => Below w.heap.size w W' ∧ BoxAt W' w.heap.size #[.int .i64 s.rd, .int .i64 s.mo, .slice A n cap, .int .i64 s.fi, .int .i64 s.la] 75 ∧ BoxAt W' (w.heap.size + 1) #[.int .i64 ((⟨11, v, r, t, seen, tr, sp, ag, re⟩ : Hd)).at_, .int .i64 ((⟨11, v, r, t, seen, tr, sp, ag, re⟩ : Hd)).v, .int .i64 ((⟨11, v, r, t, seen, tr, sp, ag, re⟩ : Hd)).r, .int .i64 ((⟨11, v, r, t, seen, tr, sp, ag, re⟩ : Hd)).t, .bool ((⟨11, v, r, t, seen, tr, sp, ag, re⟩ : Hd)).seen.s, .int .i64 ((⟨11, v, r, t, seen, tr, sp, ag, re⟩ : Hd)).seen.n, .bool ((⟨11, v, r, t, seen, tr, sp, ag, re⟩ : Hd)).seen.f, .int .i64 ((⟨11, v, r, t, seen, tr, sp, ag, re⟩ : Hd)).seen.v, .int .i64 ((⟨11, v, r, t, seen, tr, sp, ag, re⟩ : Hd)).tr, .int .i64 ((⟨11, v, r, t, seen, tr, sp, ag, re⟩ : Hd)).sp, .bool ((⟨11, v, r, t, seen, tr, sp, ag, re⟩ : Hd)).ag, .int .i64 ((⟨11, v, r, t, seen, tr, sp, ag, re⟩ : Hd)).re] 41 ∧ BoxAt W' (w.heap.size + 1 + 1) #[.int .i64 0, .int .i64 0, .slice none 0 0, .int .i64 0, .int .i64 0] 75 ∧ BoxAt W' (w.heap.size + 1 + 1 + 1) #[.int .i64 0, .int .i64 0, .int .i64 0, .int .i64 0, .bool false, .int .i64 0, .bool false, .int .i64 0, .int .i64 0, .int .i64 0, .bool false, .int .i64 0] 41 ∧ RgsW lo hi W' A n cap (s).rs ∧ hi ≤ W'.heap.size) ⟨hB, hx, hy, hz, hw_, hs0, by omega⟩ ?_
    clear kx fx ky hB hx hy hz hw_ hs0
    generalize hq2 : (⟨11, v, r, t, seen, tr, sp, ag, re⟩ : Hd) = h2 at *
    clear hq2
    rintro W ⟨hB, hx, hy, hz, hw_, hG, hhi⟩
    have lw := hw_.lt
    obtain ⟨M, hMe⟩ : ∃ M, M = W.heap.size := ⟨_, rfl⟩
    have hM : M ≤ W.heap.size := by omega
    have hhi2 : hi ≤ M := by omega
    clear hMe
    refine wp_region2 (fun w w' => Below w.heap.size w w') (fun _ _ h => h.size) (fun L W' => Below w.heap.size w W' ∧ BoxAt W' w.heap.size #[.int .i64 s.rd, .int .i64 s.mo, .slice A n cap, .int .i64 s.fi, .int .i64 s.la] 75 ∧ BoxAt W' (w.heap.size + 1) #[.int .i64 h2.at_, .int .i64 h2.v, .int .i64 h2.r, .int .i64 h2.t, .bool h2.seen.s, .int .i64 h2.seen.n, .bool h2.seen.f, .int .i64 h2.seen.v, .int .i64 h2.tr, .int .i64 h2.sp, .bool h2.ag, .int .i64 h2.re] 41 ∧ RgsW lo hi W' A n cap s.rs ∧ M ≤ W'.heap.size ∧ (∃ x0 x1 x2 x3 x4, BoxAt W' (w.heap.size + 1 + 1) #[x0, x1, x2, x3, x4] 75) ∧ (L 2 = false → BoxAt W' (w.heap.size + 1 + 1) #[.int .i64 0, .int .i64 0, .slice none 0 0, .int .i64 0, .int .i64 0] 75) ∧ (∃ x0 x1 x2 x3 x4 x5 x6 x7 x8 x9 x10 x11, BoxAt W' (w.heap.size + 1 + 1 + 1) #[x0, x1, x2, x3, x4, x5, x6, x7, x8, x9, x10, x11] 41) ∧ (L 3 = false → BoxAt W' (w.heap.size + 1 + 1 + 1) #[.int .i64 0, .int .i64 0, .int .i64 0, .int .i64 0, .bool false, .int .i64 0, .bool false, .int .i64 0, .int .i64 0, .int .i64 0, .bool false, .int .i64 0] 41)) (mkE2R s w.heap.size w.heap.size (w.heap.size + 1) n cap A h2) mkE2K mkE2S (by kernel_rfl) (by kernel_rfl) ?_ ?_ ?_
      (.grow rfl ?_ <| .grow rfl ?_ <| .store rfl ?_ <| .store rfl ?_ <| .grow rfl ?_ <| .nil) ?_
    · intro j σ τ w h hR
      match j, h, hR with
      | 0, h, hR => exact (h 0 (List.mem_singleton.2 rfl)).symm.trans hR
      | 1, h, hR => exact (h 1 (List.mem_singleton.2 rfl)).symm.trans hR
      | 2, _, hR => exact hR
      | 3, _, hR => exact hR
      | 4, h, hR => exact (h 4 (List.mem_singleton.2 rfl)).symm.trans hR
      | _ + 5, _, _ => exact trivial
    · intro j σ w w' hb hR
      match j, hR with
      | 0, hR => exact hR
      | 1, hR => exact hR
      | 2, hR => exact hR.below hb hR.lt
      | 3, hR => exact hR.below hb hR.lt
      | 4, hR => exact hR
      | _ + 5, _ => exact trivial
    · exact ⟨hB.drew, hx, hy, hG, hM, ⟨_, _, _, _, _, hz⟩, fun _ => hz, ⟨_, _, _, _, _, _, _, _, _, _, _, _, hw_⟩, fun _ => hw_⟩
    · -- 0: Op.load 75 t2
      go_light
      intro L σ W' hcl hL hC hw
      clear hw
      have HC := Lib.hid hC
      obtain ⟨hB, hx, hy, hG, hM, ⟨hz_x0, hz_x1, hz_x2, hz_x3, hz_x4, hz⟩, hz_o, ⟨hw__x0, hw__x1, hw__x2, hw__x3, hw__x4, hw__x5, hw__x6, hw__x7, hw__x8, hw__x9, hw__x10, hw__x11, hw_⟩, hw__o⟩ := hC
      have ks := hx.cell
      clear hcl hL
      clear hB hx hy hG hM hz hz_o hw_ hw__o
      refine OpGoes.step fun K hK => ?_
      unfold OpGoes
      go_simp
      obtain ⟨hB, hx, hy, hG, hM, ⟨hz_x0, hz_x1, hz_x2, hz_x3, hz_x4, hz⟩, hz_o, ⟨hw__x0, hw__x1, hw__x2, hw__x3, hw__x4, hw__x5, hw__x6, hw__x7, hw__x8, hw__x9, hw__x10, hw__x11, hw_⟩, hw__o⟩ := HC.out
      exact hK _ _ ⟨⟨hB, hx, hy, hG, hM, ⟨_, _, _, _, _, hz⟩, fun h => hz_o (by simpa [upd] using h), ⟨_, _, _, _, _, _, _, _, _, _, _, _, hw_⟩, fun h => hw__o (by simpa [upd] using h)⟩, rfl, Below.refl _ _⟩
    · -- 1: Op.load 41 t3
      go_light
      intro L σ W' hcl hL hC hw
      clear hw
      have HC := Lib.hid hC
      obtain ⟨hB, hx, hy, hG, hM, ⟨hz_x0, hz_x1, hz_x2, hz_x3, hz_x4, hz⟩, hz_o, ⟨hw__x0, hw__x1, hw__x2, hw__x3, hw__x4, hw__x5, hw__x6, hw__x7, hw__x8, hw__x9, hw__x10, hw__x11, hw_⟩, hw__o⟩ := hC
      have kh := hy.cell
      clear hcl hL
      clear hB hx hy hG hM hz hz_o hw_ hw__o
      refine OpGoes.step fun K hK => ?_
      unfold OpGoes
      go_simp
      obtain ⟨hB, hx, hy, hG, hM, ⟨hz_x0, hz_x1, hz_x2, hz_x3, hz_x4, hz⟩, hz_o, ⟨hw__x0, hw__x1, hw__x2, hw__x3, hw__x4, hw__x5, hw__x6, hw__x7, hw__x8, hw__x9, hw__x10, hw__x11, hw_⟩, hw__o⟩ := HC.out
      exact hK _ _ ⟨⟨hB, hx, hy, hG, hM, ⟨_, _, _, _, _, hz⟩, fun h => hz_o (by simpa [upd] using h), ⟨_, _, _, _, _, _, _, _, _, _, _, _, hw_⟩, fun h => hw__o (by simpa [upd] using h)⟩, rfl, Below.refl _ _⟩
    · -- 2: Op.store 75 t4 t26
      go_light
      intro L σ W' hcl hL hC hw hne
      have e0 : σ 0 = .agg #[.int .i64 s.rd, .int .i64 s.mo, .slice A n cap, .int .i64 s.fi, .int .i64 s.la] := hw 0 (by kernel_rfl)
      clear hw hne
      have HC := Lib.hid hC
      obtain ⟨hB, hx, hy, hG, hM, ⟨hz_x0, hz_x1, hz_x2, hz_x3, hz_x4, hz⟩, hz_o, ⟨hw__x0, hw__x1, hw__x2, hw__x3, hw__x4, hw__x5, hw__x6, hw__x7, hw__x8, hw__x9, hw__x10, hw__x11, hw_⟩, hw__o⟩ := hC
      clear hcl hL
      have kc_ := hz.cell
      have kf_ := hz.frozen
      clear hB hx hy hG hM hz hz_o hw_ hw__o
      refine OpGoes.step fun K hK => ?_
      unfold OpGoes
      go_simp
      obtain ⟨hB, hx, hy, hG, hM, ⟨hz_x0, hz_x1, hz_x2, hz_x3, hz_x4, hz⟩, hz_o, ⟨hw__x0, hw__x1, hw__x2, hw__x3, hw__x4, hw__x5, hw__x6, hw__x7, hw__x8, hw__x9, hw__x10, hw__x11, hw_⟩, hw__o⟩ := HC.out
      have hset := sets_all (us := [.int .i64 s.rd, .int .i64 s.mo, .slice A n cap, .int .i64 s.fi, .int .i64 s.la]) hz rfl
      refine hK undef (setCells W' (w.heap.size + 1 + 1) 0 [.int .i64 s.rd, .int .i64 s.mo, .slice A n cap, .int .i64 s.fi, .int .i64 s.la]) ⟨⟨(Below.setCells (by omega) [.int .i64 s.rd, .int .i64 s.mo, .slice A n cap, .int .i64 s.fi, .int .i64 s.la] 0 hB), (BoxAt.sets_ne [.int .i64 s.rd, .int .i64 s.mo, .slice A n cap, .int .i64 s.fi, .int .i64 s.la] 0 hx (by omega)), (BoxAt.sets_ne [.int .i64 s.rd, .int .i64 s.mo, .slice A n cap, .int .i64 s.fi, .int .i64 s.la] 0 hy (by omega)), (RgsW.sts hG (by omega) [.int .i64 s.rd, .int .i64 s.mo, .slice A n cap, .int .i64 s.fi, .int .i64 s.la] 0), (size_sts hM [.int .i64 s.rd, .int .i64 s.mo, .slice A n cap, .int .i64 s.fi, .int .i64 s.la] 0), ⟨_, _, _, _, _, hset⟩, fun h => absurd h (by simp [upd]), ⟨_, _, _, _, _, _, _, _, _, _, _, _, (BoxAt.sets_ne [.int .i64 s.rd, .int .i64 s.mo, .slice A n cap, .int .i64 s.fi, .int .i64 s.la] 0 hw_ (by omega))⟩, fun h => (BoxAt.sets_ne [.int .i64 s.rd, .int .i64 s.mo, .slice A n cap, .int .i64 s.fi, .int .i64 s.la] 0 (hw__o (by simpa [upd] using h)) (by omega))⟩, hset, Nat.le_of_eq (sets_size _ _ _).symm, fun j hj hn hR => ?_⟩
      match j, hj, hn, hR with
      | 0, _, _, hR => exact (show σ 0 = .agg #[.int .i64 s.rd, .int .i64 s.mo, .slice A n cap, .int .i64 s.fi, .int .i64 s.la] from hR)
      | 1, _, _, hR => exact (show σ 1 = .agg #[.int .i64 h2.at_, .int .i64 h2.v, .int .i64 h2.r, .int .i64 h2.t, .bool h2.seen.s, .int .i64 h2.seen.n, .bool h2.seen.f, .int .i64 h2.seen.v, .int .i64 h2.tr, .int .i64 h2.sp, .bool h2.ag, .int .i64 h2.re] from hR)
      | 2, hj, _, _ => exact absurd rfl hj
      | 3, _, _, hR => exact (BoxAt.sets_ne [.int .i64 s.rd, .int .i64 s.mo, .slice A n cap, .int .i64 s.fi, .int .i64 s.la] 0 hR (by omega))
      | 4, _, _, hR => exact (show σ 4 = .bool false from hR)
      | _ + 5, _, _, _ => exact trivial
    · -- 3: Op.store 41 t5 t27
      go_light
      intro L σ W' hcl hL hC hw hne
      have e1 : σ 1 = .agg #[.int .i64 h2.at_, .int .i64 h2.v, .int .i64 h2.r, .int .i64 h2.t, .bool h2.seen.s, .int .i64 h2.seen.n, .bool h2.seen.f, .int .i64 h2.seen.v, .int .i64 h2.tr, .int .i64 h2.sp, .bool h2.ag, .int .i64 h2.re] := hw 1 (by kernel_rfl)
      clear hw hne
      have HC := Lib.hid hC
      obtain ⟨hB, hx, hy, hG, hM, ⟨hz_x0, hz_x1, hz_x2, hz_x3, hz_x4, hz⟩, hz_o, ⟨hw__x0, hw__x1, hw__x2, hw__x3, hw__x4, hw__x5, hw__x6, hw__x7, hw__x8, hw__x9, hw__x10, hw__x11, hw_⟩, hw__o⟩ := hC
      clear hcl hL
      have kc_ := hw_.cell
      have kf_ := hw_.frozen
      clear hB hx hy hG hM hz hz_o hw_ hw__o
      refine OpGoes.step fun K hK => ?_
      unfold OpGoes
      go_simp
      obtain ⟨hB, hx, hy, hG, hM, ⟨hz_x0, hz_x1, hz_x2, hz_x3, hz_x4, hz⟩, hz_o, ⟨hw__x0, hw__x1, hw__x2, hw__x3, hw__x4, hw__x5, hw__x6, hw__x7, hw__x8, hw__x9, hw__x10, hw__x11, hw_⟩, hw__o⟩ := HC.out
      have hset := sets_all (us := [.int .i64 h2.at_, .int .i64 h2.v, .int .i64 h2.r, .int .i64 h2.t, .bool h2.seen.s, .int .i64 h2.seen.n, .bool h2.seen.f, .int .i64 h2.seen.v, .int .i64 h2.tr, .int .i64 h2.sp, .bool h2.ag, .int .i64 h2.re]) hw_ rfl
      refine hK undef (setCells W' (w.heap.size + 1 + 1 + 1) 0 [.int .i64 h2.at_, .int .i64 h2.v, .int .i64 h2.r, .int .i64 h2.t, .bool h2.seen.s, .int .i64 h2.seen.n, .bool h2.seen.f, .int .i64 h2.seen.v, .int .i64 h2.tr, .int .i64 h2.sp, .bool h2.ag, .int .i64 h2.re]) ⟨⟨(Below.setCells (by omega) [.int .i64 h2.at_, .int .i64 h2.v, .int .i64 h2.r, .int .i64 h2.t, .bool h2.seen.s, .int .i64 h2.seen.n, .bool h2.seen.f, .int .i64 h2.seen.v, .int .i64 h2.tr, .int .i64 h2.sp, .bool h2.ag, .int .i64 h2.re] 0 hB), (BoxAt.sets_ne [.int .i64 h2.at_, .int .i64 h2.v, .int .i64 h2.r, .int .i64 h2.t, .bool h2.seen.s, .int .i64 h2.seen.n, .bool h2.seen.f, .int .i64 h2.seen.v, .int .i64 h2.tr, .int .i64 h2.sp, .bool h2.ag, .int .i64 h2.re] 0 hx (by omega)), (BoxAt.sets_ne [.int .i64 h2.at_, .int .i64 h2.v, .int .i64 h2.r, .int .i64 h2.t, .bool h2.seen.s, .int .i64 h2.seen.n, .bool h2.seen.f, .int .i64 h2.seen.v, .int .i64 h2.tr, .int .i64 h2.sp, .bool h2.ag, .int .i64 h2.re] 0 hy (by omega)), (RgsW.sts hG (by omega) [.int .i64 h2.at_, .int .i64 h2.v, .int .i64 h2.r, .int .i64 h2.t, .bool h2.seen.s, .int .i64 h2.seen.n, .bool h2.seen.f, .int .i64 h2.seen.v, .int .i64 h2.tr, .int .i64 h2.sp, .bool h2.ag, .int .i64 h2.re] 0), (size_sts hM [.int .i64 h2.at_, .int .i64 h2.v, .int .i64 h2.r, .int .i64 h2.t, .bool h2.seen.s, .int .i64 h2.seen.n, .bool h2.seen.f, .int .i64 h2.seen.v, .int .i64 h2.tr, .int .i64 h2.sp, .bool h2.ag, .int .i64 h2.re] 0), ⟨_, _, _, _, _, (BoxAt.sets_ne [.int .i64 h2.at_, .int .i64 h2.v, .int .i64 h2.r, .int .i64 h2.t, .bool h2.seen.s, .int .i64 h2.seen.n, .bool h2.seen.f, .int .i64 h2.seen.v, .int .i64 h2.tr, .int .i64 h2.sp, .bool h2.ag, .int .i64 h2.re] 0 hz (by omega))⟩, fun h => (BoxAt.sets_ne [.int .i64 h2.at_, .int .i64 h2.v, .int .i64 h2.r, .int .i64 h2.t, .bool h2.seen.s, .int .i64 h2.seen.n, .bool h2.seen.f, .int .i64 h2.seen.v, .int .i64 h2.tr, .int .i64 h2.sp, .bool h2.ag, .int .i64 h2.re] 0 (hz_o (by simpa [upd] using h)) (by omega)), ⟨_, _, _, _, _, _, _, _, _, _, _, _, hset⟩, fun h => absurd h (by simp [upd])⟩, hset, Nat.le_of_eq (sets_size _ _ _).symm, fun j hj hn hR => ?_⟩
      match j, hj, hn, hR with
      | 0, _, _, hR => exact (show σ 0 = .agg #[.int .i64 s.rd, .int .i64 s.mo, .slice A n cap, .int .i64 s.fi, .int .i64 s.la] from hR)
      | 1, _, _, hR => exact (show σ 1 = .agg #[.int .i64 h2.at_, .int .i64 h2.v, .int .i64 h2.r, .int .i64 h2.t, .bool h2.seen.s, .int .i64 h2.seen.n, .bool h2.seen.f, .int .i64 h2.seen.v, .int .i64 h2.tr, .int .i64 h2.sp, .bool h2.ag, .int .i64 h2.re] from hR)
      | 2, _, _, hR => exact (BoxAt.sets_ne [.int .i64 h2.at_, .int .i64 h2.v, .int .i64 h2.r, .int .i64 h2.t, .bool h2.seen.s, .int .i64 h2.seen.n, .bool h2.seen.f, .int .i64 h2.seen.v, .int .i64 h2.tr, .int .i64 h2.sp, .bool h2.ag, .int .i64 h2.re] 0 hR (by omega))
      | 3, hj, _, _ => exact absurd rfl hj
      | 4, _, _, hR => exact (show σ 4 = .bool false from hR)
      | _ + 5, _, _, _ => exact trivial
    · -- 4: Op.assign (const (Value.bool false))
      go_light
      intro L σ W' hcl hL hC hw
      clear hw
      have HC := Lib.hid hC
      clear hC
      clear hcl hL
      refine OpGoes.step fun K hK => ?_
      unfold OpGoes
      go_simp
      obtain ⟨hB, hx, hy, hG, hM, ⟨hz_x0, hz_x1, hz_x2, hz_x3, hz_x4, hz⟩, hz_o, ⟨hw__x0, hw__x1, hw__x2, hw__x3, hw__x4, hw__x5, hw__x6, hw__x7, hw__x8, hw__x9, hw__x10, hw__x11, hw_⟩, hw__o⟩ := HC.out
      exact hK _ _ ⟨⟨hB, hx, hy, hG, hM, ⟨_, _, _, _, _, hz⟩, fun h => hz_o (by simpa [upd] using h), ⟨_, _, _, _, _, _, _, _, _, _, _, _, hw_⟩, fun h => hw__o (by simpa [upd] using h)⟩, rfl, Below.refl _ _⟩
    · intro σ L W' hall hC hR
      obtain ⟨hB, hx, hy, hG, hM, ⟨hz_x0, hz_x1, hz_x2, hz_x3, hz_x4, hz⟩, hz_o, ⟨hw__x0, hw__x1, hw__x2, hw__x3, hw__x4, hw__x5, hw__x6, hw__x7, hw__x8, hw__x9, hw__x10, hw__x11, hw_⟩, hw__o⟩ := hC
      have sv2 : BoxAt W' (w.heap.size + 1 + 1) #[.int .i64 s.rd, .int .i64 s.mo, .slice A n cap, .int .i64 s.fi, .int .i64 s.la] 75 := hR 2 (by decide)
      have sv3 : BoxAt W' (w.heap.size + 1 + 1 + 1) #[.int .i64 h2.at_, .int .i64 h2.v, .int .i64 h2.r, .int .i64 h2.t, .bool h2.seen.s, .int .i64 h2.seen.n, .bool h2.seen.f, .int .i64 h2.seen.v, .int .i64 h2.tr, .int .i64 h2.sp, .bool h2.ag, .int .i64 h2.re] 41 := hR 3 (by decide)
      have e4 : σ 4 = .bool false := hR 4 (by decide)
      clear hR
      simp only [lexAll]
      go_simp
      go_step
      have k7 := sv2.cell
      have k8 := sv3.cell
      go_wp2
      refine bodyPost_ret (v := .tuple #[stV s A n cap, hdV h2, .bool false]) (by simp [results, Try.results99, go_sem, k7, k8, stV, hdV, Hd.rest, Hd.zero]) rfl ⟨A, n, cap, by rw [HV.out], ?_, hB⟩
      rw [HV.out]
      exact hG.cut.mono (by omega) (Nat.le_refl _)
  · have HRB := Lib.hid hrb
    have hspn : sp < (n : Int) := by
      simp only [ringB, inB, Bool.and_eq_true, decide_eq_true_eq] at hrb
      have := HLN.out
      omega
    clear hrb
    go_wp2_with fail
    clear kx fx ky
    refine (l3Copy_any s A n cap lo hi _ hs0 (Nat.le_trans hh hB.size) (by have := HNT.out.1; have := HLN.out; omega) (by have := HNT.out.2.1; have := HLN.out; omega) HNT.out.cp).mono ?_
    rintro e w2 ⟨b1, c1, rows, rfl, hR, hC, hb2⟩
    unfold stV
    replace hx := hx.below hb2 hx.lt
    replace hy := hy.below hb2 hy.lt
    replace hz := hz.below hb2 hz.lt
    replace hw_ := hw_.below hb2 hw_.lt
    have h2 := hb2.size
    replace hB := bstep hB hB.size hb2
    clear hb2 hs0
    have kx := hx.cell
    have fx := hx.frozen
    have hQ4 : w.heap.size + 4 ≤ w1.heap.size := by omega
    have hb1Q := hR.2.1
    have hb1l := Own.lt hR
    go_upto_region 8 with fail
    refine wp_abs (fun W => Below w.heap.size w W ∧ BoxAt W w.heap.size #[.int .i64 s.rd, .int .i64 s.mo, .slice (some ⟨b1, 0, none⟩) n c1, .int .i64 s.fi, .int .i64 s.la] 75 ∧ BoxAt W (w.heap.size + 1) #[.int .i64 11, .int .i64 v, .int .i64 r, .int .i64 t, .bool seen.s, .int .i64 seen.n, .bool seen.f, .int .i64 seen.v, .int .i64 tr, .int .i64 sp, .bool ag, .int .i64 re] 41 ∧ BoxAt W (w.heap.size + 1 + 1) #[.int .i64 0, .int .i64 0, .slice none 0 0, .int .i64 0, .int .i64 0] 75 ∧ BoxAt W (w.heap.size + 1 + 1 + 1) #[.int .i64 0, .int .i64 0, .int .i64 0, .int .i64 0, .bool false, .int .i64 0, .bool false, .int .i64 0, .int .i64 0, .int .i64 0, .bool false, .int .i64 0] 41 ∧ RwsO w1.heap.size W b1 n c1 rows ∧ CopyOf w1.heap.size W rows s.rs ∧ w2.heap.size ≤ W.heap.size) ⟨(((((hB.setCell (by dsimp only; omega) _).setCell (by dsimp only; omega) _).setCell (by dsimp only; omega) _).setCell (by dsimp only; omega) _).setCell (by dsimp only; omega) _), sets_all (us := [.int .i64 s.rd, .int .i64 s.mo, .slice (some ⟨b1, 0, none⟩) n c1, .int .i64 s.fi, .int .i64 s.la]) hx rfl, (((((hy.set_ne (by omega) _ _).set_ne (by omega) _ _).set_ne (by omega) _ _).set_ne (by omega) _ _).set_ne (by omega) _ _), (((((hz.set_ne (by omega) _ _).set_ne (by omega) _ _).set_ne (by omega) _ _).set_ne (by omega) _ _).set_ne (by omega) _ _), (((((hw_.set_ne (by omega) _ _).set_ne (by omega) _ _).set_ne (by omega) _ _).set_ne (by omega) _ _).set_ne (by omega) _ _), Own.sets_ne hR (show b1 ≠ w.heap.size by omega) [.int .i64 s.rd, .int .i64 s.mo, .slice (some ⟨b1, 0, none⟩) n c1, .int .i64 s.fi, .int .i64 s.la] 0, CopyOf.setCells [.int .i64 s.rd, .int .i64 s.mo, .slice (some ⟨b1, 0, none⟩) n c1, .int .i64 s.fi, .int .i64 s.la] 0 hx (by decide) hC, by simp⟩ ?_
    clear kx fx hB hx hy hz hw_ hR hC
    obtain ⟨Q, hQe⟩ : ∃ Q, w1.heap.size = Q := ⟨_, rfl⟩
    rw [hQe] at hQ4 hb1Q h2 ⊢
    obtain ⟨M, hMe⟩ : ∃ M, w2.heap.size = M := ⟨_, rfl⟩
    rw [hMe] at h2 hb1l ⊢
    clear hQe hMe
    rintro W2 ⟨hB, hx, hy, hz, hw_, hRw, hC, hM⟩
    obtain ⟨q, hq⟩ : ∃ q : Nat, s.rd = q := ⟨s.rd.toNat, by omega⟩
    have HQR := Lib.hid (show s.rd.toNat = q by omega)
    have HCON := Lib.hid (show ∀ W : World, Calls Try.prog 49 #[.int .i64 s.rd, .int .i64 v] W (RetRg 0 1 false (-1) q (seeded q v) W) from fun W => by rw [hq]; exact l2Seed_any q v W (by omega) (by omega))
    unfold RetRg rgV at HCON
    clear hq
    have lw3 := hw_.lt
    go_cut [39] (fun _ W' => Below w.heap.size w W' ∧ BoxAt W' w.heap.size #[.int .i64 s.rd, .int .i64 s.mo, .slice (some ⟨b1, 0, none⟩) n c1, .int .i64 s.fi, .int .i64 s.la] 75 ∧ BoxAt W' (w.heap.size + 1) #[.int .i64 11, .int .i64 v, .int .i64 r, .int .i64 t, .bool seen.s, .int .i64 seen.n, .bool seen.f, .int .i64 seen.v, .int .i64 tr, .int .i64 sp, .bool ag, .int .i64 re] 41 ∧ BoxAt W' (w.heap.size + 1 + 1) #[.int .i64 0, .int .i64 0, .slice none 0 0, .int .i64 0, .int .i64 0] 75 ∧ BoxAt W' (w.heap.size + 1 + 1 + 1) #[.int .i64 0, .int .i64 0, .int .i64 0, .int .i64 0, .bool false, .int .i64 0, .bool false, .int .i64 0, .int .i64 0, .int .i64 0, .bool false, .int .i64 0] 41 ∧ RgsW Q W'.heap.size W' (some ⟨b1, 0, none⟩) n c1 (s.rs.set sp.toNat ⟨0, 1, false, -1, seeded q v⟩))
    case first =>
      refine wp_region2 (fun w w' => Below w.heap.size w w') (fun _ _ h => h.size) (fun L W' => Below w.heap.size w W' ∧ BoxAt W' w.heap.size #[.int .i64 s.rd, .int .i64 s.mo, .slice (some ⟨b1, 0, none⟩) n c1, .int .i64 s.fi, .int .i64 s.la] 75 ∧ BoxAt W' (w.heap.size + 1) #[.int .i64 11, .int .i64 v, .int .i64 r, .int .i64 t, .bool seen.s, .int .i64 seen.n, .bool seen.f, .int .i64 seen.v, .int .i64 tr, .int .i64 sp, .bool ag, .int .i64 re] 41 ∧ BoxAt W' (w.heap.size + 1 + 1) #[.int .i64 0, .int .i64 0, .slice none 0 0, .int .i64 0, .int .i64 0] 75 ∧ BoxAt W' (w.heap.size + 1 + 1 + 1) #[.int .i64 0, .int .i64 0, .int .i64 0, .int .i64 0, .bool false, .int .i64 0, .bool false, .int .i64 0, .int .i64 0, .int .i64 0, .bool false, .int .i64 0] 41 ∧ CopyOf Q W' rows s.rs ∧ M ≤ W'.heap.size ∧ (L 10 = false → RwsO Q W' b1 n c1 rows)) (mk8R s w.heap.size Q M b1 n c1 q rows v r t seen tr sp ag re) mk8K mk8S (by kernel_rfl) (by kernel_rfl) ?_ ?_ ?_
        (.grow rfl ?_ <| .grow rfl ?_ <| .grow rfl ?_ <| .grow rfl ?_ <| .grow rfl ?_ <| .grow rfl ?_ <| .grow rfl ?_ <| .grow rfl ?_ <| .grow rfl ?_ <| .grow rfl ?_ <| .store rfl ?_ <| .nil) ?_
      · intro j σ τ w h hR
        match j, h, hR with
        | 0, h, hR => exact (h 0 (List.mem_singleton.2 rfl)).symm.trans hR
        | 1, h, hR => exact (h 1 (List.mem_singleton.2 rfl)).symm.trans hR
        | 2, h, hR => exact (h 2 (List.mem_singleton.2 rfl)).symm.trans hR
        | 3, h, hR => exact (h 3 (List.mem_singleton.2 rfl)).symm.trans hR
        | 4, h, hR => exact (h 4 (List.mem_singleton.2 rfl)).symm.trans hR
        | 5, h, hR => exact (h 5 (List.mem_singleton.2 rfl)).symm.trans hR
        | 6, h, hR => exact (h 6 (List.mem_singleton.2 rfl)).symm.trans hR
        | 7, h, hR => exact (h 7 (List.mem_singleton.2 rfl)).symm.trans hR
        | 8, h, hR => obtain ⟨g, cg, e, hp⟩ := hR; exact ⟨g, cg, (h 8 (List.mem_singleton.2 rfl)).symm.trans e, hp⟩
        | 9, h, hR => exact (h 9 (List.mem_singleton.2 rfl)).symm.trans hR
        | 10, h, hR => exact hR
        | _ + 11, _, _ => exact trivial
      · intro j σ w w' hb hR
        match j, hR with
        | 0, hR => exact hR
        | 1, hR => exact hR
        | 2, hR => exact hR
        | 3, hR => exact hR
        | 4, hR => exact hR
        | 5, hR => exact hR
        | 6, hR => exact hR
        | 7, hR => exact hR
        | 8, hR => obtain ⟨g, cg, e, hp⟩ := hR; exact ⟨g, cg, e, hp.below hb⟩
        | 9, hR => exact hR
        | 10, hR => obtain ⟨g, cg, hp⟩ := hR; exact ⟨g, cg, Own.below hp.1 hb, hp.2.below hb⟩
        | _ + 11, _ => exact trivial
      · exact ⟨hB.drew, hx, hy, hz, hw_, hC, hM, fun _ => hRw⟩
      · -- 0: Op.fieldAddr 75 t2 2
        go_light
        intro L σ W' hcl hL hC hw
        clear hw
        have HC := Lib.hid hC
        clear hC
        clear hcl hL
        refine OpGoes.step fun K hK => ?_
        unfold OpGoes
        go_simp
        obtain ⟨hB, hx, hy, hz, hw_, hC, hM, hRw⟩ := HC.out
        exact hK _ _ ⟨⟨hB, hx, hy, hz, hw_, hC, hM, fun h => (hRw (by simpa [upd] using h))⟩, rfl, Below.refl _ _⟩
      · -- 1: Op.load 73 t30
        go_light
        intro L σ W' hcl hL hC hw
        have e0 : σ 0 = .pointer (some ⟨w.heap.size, 2, none⟩) := hw 0 (by kernel_rfl)
        clear hw
        have HC := Lib.hid hC
        obtain ⟨hB, hx, hy, hz, hw_, hC, hM, hRw⟩ := hC
        have ks := hx.cell
        clear hcl hL
        clear hB hx hy hz hw_ hC hM hRw
        refine OpGoes.step fun K hK => ?_
        unfold OpGoes
        go_simp
        obtain ⟨hB, hx, hy, hz, hw_, hC, hM, hRw⟩ := HC.out
        exact hK _ _ ⟨⟨hB, hx, hy, hz, hw_, hC, hM, fun h => (hRw (by simpa [upd] using h))⟩, rfl, Below.refl _ _⟩
      · -- 2: Op.fieldAddr 41 t3 6
        go_light
        intro L σ W' hcl hL hC hw
        clear hw
        have HC := Lib.hid hC
        clear hC
        clear hcl hL
        refine OpGoes.step fun K hK => ?_
        unfold OpGoes
        go_simp
        obtain ⟨hB, hx, hy, hz, hw_, hC, hM, hRw⟩ := HC.out
        exact hK _ _ ⟨⟨hB, hx, hy, hz, hw_, hC, hM, fun h => (hRw (by simpa [upd] using h))⟩, rfl, Below.refl _ _⟩
      · -- 3: Op.load 2 t32
        go_light
        intro L σ W' hcl hL hC hw
        have e2 : σ 2 = .pointer (some ⟨(w.heap.size + 1), 9, none⟩) := hw 2 (by kernel_rfl)
        clear hw
        have HC := Lib.hid hC
        obtain ⟨hB, hx, hy, hz, hw_, hC, hM, hRw⟩ := hC
        have kh := hy.cell
        clear hcl hL
        clear hB hx hy hz hw_ hC hM hRw
        refine OpGoes.step fun K hK => ?_
        unfold OpGoes
        go_simp
        obtain ⟨hB, hx, hy, hz, hw_, hC, hM, hRw⟩ := HC.out
        exact hK _ _ ⟨⟨hB, hx, hy, hz, hw_, hC, hM, fun h => (hRw (by simpa [upd] using h))⟩, rfl, Below.refl _ _⟩
      · -- 4: Op.fieldAddr 75 t2 0
        go_light
        intro L σ W' hcl hL hC hw
        clear hw
        have HC := Lib.hid hC
        clear hC
        clear hcl hL
        refine OpGoes.step fun K hK => ?_
        unfold OpGoes
        go_simp
        obtain ⟨hB, hx, hy, hz, hw_, hC, hM, hRw⟩ := HC.out
        exact hK _ _ ⟨⟨hB, hx, hy, hz, hw_, hC, hM, fun h => (hRw (by simpa [upd] using h))⟩, rfl, Below.refl _ _⟩
      · -- 5: Op.load 2 t34
        go_light
        intro L σ W' hcl hL hC hw
        have e4 : σ 4 = .pointer (some ⟨w.heap.size, 0, none⟩) := hw 4 (by kernel_rfl)
        clear hw
        have HC := Lib.hid hC
        obtain ⟨hB, hx, hy, hz, hw_, hC, hM, hRw⟩ := hC
        have ks := hx.cell
        clear hcl hL
        clear hB hx hy hz hw_ hC hM hRw
        refine OpGoes.step fun K hK => ?_
        unfold OpGoes
        go_simp
        obtain ⟨hB, hx, hy, hz, hw_, hC, hM, hRw⟩ := HC.out
        exact hK _ _ ⟨⟨hB, hx, hy, hz, hw_, hC, hM, fun h => (hRw (by simpa [upd] using h))⟩, rfl, Below.refl _ _⟩
      · -- 6: Op.fieldAddr 41 t3 1
        go_light
        intro L σ W' hcl hL hC hw
        clear hw
        have HC := Lib.hid hC
        clear hC
        clear hcl hL
        refine OpGoes.step fun K hK => ?_
        unfold OpGoes
        go_simp
        obtain ⟨hB, hx, hy, hz, hw_, hC, hM, hRw⟩ := HC.out
        exact hK _ _ ⟨⟨hB, hx, hy, hz, hw_, hC, hM, fun h => (hRw (by simpa [upd] using h))⟩, rfl, Below.refl _ _⟩
      · -- 7: Op.load 2 t36
        go_light
        intro L σ W' hcl hL hC hw
        have e6 : σ 6 = .pointer (some ⟨(w.heap.size + 1), 1, none⟩) := hw 6 (by kernel_rfl)
        clear hw
        have HC := Lib.hid hC
        obtain ⟨hB, hx, hy, hz, hw_, hC, hM, hRw⟩ := hC
        have kh := hy.cell
        clear hcl hL
        clear hB hx hy hz hw_ hC hM hRw
        refine OpGoes.step fun K hK => ?_
        unfold OpGoes
        go_simp
        obtain ⟨hB, hx, hy, hz, hw_, hC, hM, hRw⟩ := HC.out
        exact hK _ _ ⟨⟨hB, hx, hy, hz, hw_, hC, hM, fun h => (hRw (by simpa [upd] using h))⟩, rfl, Below.refl _ _⟩
      · -- 8: Op.call { value (Operand.func 49), args := #[t35, t37], argTypes := #[2, 2] }
        go_light
        intro L σ W' hcl hL hC hw
        have e5 : σ 5 = .int .i64 s.rd := hw 5 (by kernel_rfl)
        have e7 : σ 7 = .int .i64 v := hw 7 (by kernel_rfl)
        clear hw
        have HC := Lib.hid hC
        clear hC
        clear hcl hL
        refine OpGoes.step fun K hK => ?_
        unfold OpGoes
        go_simp
        obtain ⟨hB, hx, hy, hz, hw_, hC, hM, hRw⟩ := HC.out
        refine (HCON.out _).mono ?_
        rintro e w1 ⟨g, cg, rfl, hO8, hb1⟩
        exact ⟨_, rfl, hK _ _ ⟨⟨bstep hB hB.size hb1, hx.below hb1 hx.lt, hy.below hb1 hy.lt, hz.below hb1 hz.lt, hw_.below hb1 hw_.lt, hC.below hb1, Nat.le_trans hM hb1.size, fun h => Own.below (hRw (by simpa [upd] using h)) hb1⟩, ⟨g, cg, rfl, hO8.mono hM⟩, hb1⟩⟩
      · -- 9: Op.indexAddr 73 t31 t33
        go_light
        intro L σ W' hcl hL hC hw
        have e1 : σ 1 = .slice (some ⟨b1, 0, none⟩) n c1 := hw 1 (by kernel_rfl)
        have e3 : σ 3 = .int .i64 sp := hw 3 (by kernel_rfl)
        clear hw
        have HC := Lib.hid hC
        obtain ⟨hB, hx, hy, hz, hw_, hC, hM, hRw⟩ := hC
        have b1_ : (0 : Int) ≤ sp := by omega
        have b2_ : sp < (n : Int) := by omega
        clear hcl hL
        clear hB hx hy hz hw_ hC hM hRw
        refine OpGoes.step fun K hK => ?_
        unfold OpGoes
        go_simp
        obtain ⟨hB, hx, hy, hz, hw_, hC, hM, hRw⟩ := HC.out
        exact hK _ _ ⟨⟨hB, hx, hy, hz, hw_, hC, hM, fun h => (hRw (by simpa [upd] using h))⟩, rfl, Below.refl _ _⟩
      · -- 10: Op.store 27 t39 t38
        go_light
        intro L σ W' hcl hL hC hw hne
        obtain ⟨g, cg, e8, hp8⟩ : ∃ (g cg : Nat), σ 8 = .agg #[.int .i64 0, .int .i64 1, .bool false, .int .i64 ((-1)), .slice (some ⟨g, 0, none⟩) q cg] ∧ PlsO M W' g q cg (seeded q v) := hw 8 (by kernel_rfl)
        have e9 : σ 9 = .pointer (some ⟨b1, sp.toNat * 5, none⟩) := hw 9 (by kernel_rfl)
        clear hw hne
        obtain ⟨hB, hx, hy, hz, hw_, hC, hM, hRw⟩ := hC
        have hR10 := (hRw hL)
        obtain ⟨a0, ha0⟩ : ∃ a0, rows[sp.toNat]? = some a0 := ⟨_, List.getElem?_eq_getElem (by have := hR10.1; omega)⟩
        have d0 := Own.cell_ Rw.cs_len hR10 (j := 0) ha0 rfl
        have d1 := Own.cell_ Rw.cs_len hR10 (j := 1) ha0 rfl
        have d2 := Own.cell_ Rw.cs_len hR10 (j := 2) ha0 rfl
        have d3 := Own.cell_ Rw.cs_len hR10 (j := 3) ha0 rfl
        have d4 := Own.cell_ Rw.cs_len hR10 (j := 4) ha0 rfl
        rw [Nat.add_zero] at d0
        have df := Own.frozen_ hR10
        have HB_ := Lib.hid hB
        have HX_ := Lib.hid hx
        have HY_ := Lib.hid hy
        have HZ_ := Lib.hid hz
        have HW_ := Lib.hid hw_
        have HC_ := Lib.hid hC
        have HM_ := Lib.hid hM
        have HR_ := Lib.hid hR10
        have HP_ := Lib.hid hp8
        have hb1w := hR10.2.1
        clear hB hx hy hz hw_ hC hM hRw hR10 ha0 hp8
        clear hcl hL
        refine OpGoes.step fun K hK => ?_
        unfold OpGoes
        go_simp
        have hset := Own.setEl HR_.out Rw.cs_len (by omega) (i := sp.toNat) (by omega) (⟨0, 1, false, -1, some ⟨g, 0, none⟩, q, cg⟩ : Rw)
        obtain ⟨csb, hbb⟩ : ∃ cs, BoxAt W' b1 cs 27 := by obtain ⟨_, _, _, _, cur, hb, _⟩ := HR_.out; exact ⟨cur, hb⟩
        refine hK _ _ ⟨⟨(((((HB_.out.setCell (by dsimp only; omega) _).setCell (by dsimp only; omega) _).setCell (by dsimp only; omega) _).setCell (by dsimp only; omega) _).setCell (by dsimp only; omega) _), (((((HX_.out.set_ne (by omega) _ _).set_ne (by omega) _ _).set_ne (by omega) _ _).set_ne (by omega) _ _).set_ne (by omega) _ _), (((((HY_.out.set_ne (by omega) _ _).set_ne (by omega) _ _).set_ne (by omega) _ _).set_ne (by omega) _ _).set_ne (by omega) _ _), (((((HZ_.out.set_ne (by omega) _ _).set_ne (by omega) _ _).set_ne (by omega) _ _).set_ne (by omega) _ _).set_ne (by omega) _ _), (((((HW_.out.set_ne (by omega) _ _).set_ne (by omega) _ _).set_ne (by omega) _ _).set_ne (by omega) _ _).set_ne (by omega) _ _), CopyOf.setCells (⟨0, 1, false, -1, some ⟨g, 0, none⟩, q, cg⟩ : Rw).cs (sp.toNat * 5) hbb (by decide) HC_.out, by simpa using HM_.out, fun h => absurd h (by simp [upd])⟩, ⟨g, cg, hset, (((((HP_.out.set_ne (by have := HP_.out.ge; omega) _ _).set_ne (by have := HP_.out.ge; omega) _ _).set_ne (by have := HP_.out.ge; omega) _ _).set_ne (by have := HP_.out.ge; omega) _ _).set_ne (by have := HP_.out.ge; omega) _ _)⟩, by simp, fun j hj hn hR => ?_⟩
        match j, hj, hn, hR with
        | 0, _, _, hR => exact (show σ 0 = .pointer (some ⟨w.heap.size, 2, none⟩) from hR)
        | 1, _, _, hR => exact (show σ 1 = .slice (some ⟨b1, 0, none⟩) n c1 from hR)
        | 2, _, _, hR => exact (show σ 2 = .pointer (some ⟨(w.heap.size + 1), 9, none⟩) from hR)
        | 3, _, _, hR => exact (show σ 3 = .int .i64 sp from hR)
        | 4, _, _, hR => exact (show σ 4 = .pointer (some ⟨w.heap.size, 0, none⟩) from hR)
        | 5, _, _, hR => exact (show σ 5 = .int .i64 s.rd from hR)
        | 6, _, _, hR => exact (show σ 6 = .pointer (some ⟨(w.heap.size + 1), 1, none⟩) from hR)
        | 7, _, _, hR => exact (show σ 7 = .int .i64 v from hR)
        | 8, _, _, hR => obtain ⟨g, cg, e, hp⟩ := hR; exact ⟨g, cg, e, (((((hp.set_ne (by have := hp.ge; omega) _ _).set_ne (by have := hp.ge; omega) _ _).set_ne (by have := hp.ge; omega) _ _).set_ne (by have := hp.ge; omega) _ _).set_ne (by have := hp.ge; omega) _ _)⟩
        | 9, _, _, hR => exact (show σ 9 = .pointer (some ⟨b1, sp.toNat * 5, none⟩) from hR)
        | 10, hj, _, _ => exact absurd rfl hj
        | _ + 11, _, _, _ => exact trivial
      · intro σ L W' hall hC hR
        obtain ⟨hB, hx, hy, hz, hw_, hC, hM, hRw⟩ := hC
        obtain ⟨g, cg, hset, hp10⟩ : ∃ (g cg : Nat), RwsO Q W' b1 n c1 (rows.set sp.toNat (⟨0, 1, false, -1, some ⟨g, 0, none⟩, q, cg⟩ : Rw)) ∧ PlsO M W' g q cg (seeded q v) := hR 10 (by decide)
        clear hR
        simp only [lexAll]
        go_simp
        go_step
        go_meet
        exact ⟨hB, hx, hy, hz, hw_, rgs_seed hset hC HLN.out (by omega) rfl rfl rfl rfl rfl hp10 (by omega)⟩
    case rest =>
      clear hB hx hy hz hw_ hRw hC hM
      obtain ⟨hB, hx, hy, hz, hw_, hG⟩ := hcut
      have hTU : s.turn sp (fun _ => Rg.seed s.rd.toNat v) = { s with rs := s.rs.set sp.toNat ⟨0, 1, false, -1, seeded q v⟩ } := by
        obtain ⟨r0, hr0⟩ : ∃ r0, s.rs[sp.toNat]? = some r0 := ⟨_, List.getElem?_eq_getElem (by have := HLN.out; omega)⟩
        rw [St.turn_some hr0, HQR.out]
        rfl
      have HTU := Lib.hid hTU; clear hTU
      go_upto_region 9 with fail
      have HV := Lib.hid (show make10 s ⟨10, v, r, t, seen, tr, sp, ag, re⟩ = (({ s with rs := s.rs.set sp.toNat ⟨0, 1, false, -1, seeded q v⟩ } : St), (⟨11, v, r, t, seen, tr, sp, ag, re⟩ : Hd), true) by unfold make10; dsimp only; rw [if_pos HSP.out, HRB.out, HTU.out]; rfl)
      refine wp_abs (fun W' => Below w.heap.size w W' ∧ BoxAt W' w.heap.size #[.int .i64 ({ s with rs := s.rs.set sp.toNat ⟨0, 1, false, -1, seeded q v⟩ } : St).rd, .int .i64 ({ s with rs := s.rs.set sp.toNat ⟨0, 1, false, -1, seeded q v⟩ } : St).mo, .slice (some ⟨b1, 0, none⟩) n c1, .int .i64 ({ s with rs := s.rs.set sp.toNat ⟨0, 1, false, -1, seeded q v⟩ } : St).fi, .int .i64 ({ s with rs := s.rs.set sp.toNat ⟨0, 1, false, -1, seeded q v⟩ } : St).la] 75 ∧ BoxAt W' (w.heap.size + 1) #[.int .i64 ((⟨11, v, r, t, seen, tr, sp, ag, re⟩ : Hd)).at_, .int .i64 ((⟨11, v, r, t, seen, tr, sp, ag, re⟩ : Hd)).v, .int .i64 ((⟨11, v, r, t, seen, tr, sp, ag, re⟩ : Hd)).r, .int .i64 ((⟨11, v, r, t, seen, tr, sp, ag, re⟩ : Hd)).t, .bool ((⟨11, v, r, t, seen, tr, sp, ag, re⟩ : Hd)).seen.s, .int .i64 ((⟨11, v, r, t, seen, tr, sp, ag, re⟩ : Hd)).seen.n, .bool ((⟨11, v, r, t, seen, tr, sp, ag, re⟩ : Hd)).seen.f, .int .i64 ((⟨11, v, r, t, seen, tr, sp, ag, re⟩ : Hd)).seen.v, .int .i64 ((⟨11, v, r, t, seen, tr, sp, ag, re⟩ : Hd)).tr, .int .i64 ((⟨11, v, r, t, seen, tr, sp, ag, re⟩ : Hd)).sp, .bool ((⟨11, v, r, t, seen, tr, sp, ag, re⟩ : Hd)).ag, .int .i64 ((⟨11, v, r, t, seen, tr, sp, ag, re⟩ : Hd)).re] 41 ∧ BoxAt W' (w.heap.size + 1 + 1) #[.int .i64 0, .int .i64 0, .slice none 0 0, .int .i64 0, .int .i64 0] 75 ∧ BoxAt W' (w.heap.size + 1 + 1 + 1) #[.int .i64 0, .int .i64 0, .int .i64 0, .int .i64 0, .bool false, .int .i64 0, .bool false, .int .i64 0, .int .i64 0, .int .i64 0, .bool false, .int .i64 0] 41 ∧ RgsW Q wc.heap.size W' (some ⟨b1, 0, none⟩) n c1 ({ s with rs := s.rs.set sp.toNat ⟨0, 1, false, -1, seeded q v⟩ } : St).rs ∧ wc.heap.size ≤ W'.heap.size) ⟨hB, hx, hy, hz, hw_, hG, Nat.le_refl _⟩ ?_
      clear hB hx hy hz hw_ hG
      generalize hq2 : (⟨11, v, r, t, seen, tr, sp, ag, re⟩ : Hd) = h2 at *
      clear hq2
      rintro W ⟨hB, hx, hy, hz, hw_, hG, hhi⟩
      have lw := hw_.lt
      obtain ⟨M, hMe⟩ : ∃ M, M = W.heap.size := ⟨_, rfl⟩
      have hM : M ≤ W.heap.size := by omega
      have hhi2 : wc.heap.size ≤ M := by omega
      clear hMe
      refine wp_region2 (fun w w' => Below w.heap.size w w') (fun _ _ h => h.size) (fun L W' => Below w.heap.size w W' ∧ BoxAt W' w.heap.size #[.int .i64 ({ s with rs := s.rs.set sp.toNat ⟨0, 1, false, -1, seeded q v⟩ } : St).rd, .int .i64 ({ s with rs := s.rs.set sp.toNat ⟨0, 1, false, -1, seeded q v⟩ } : St).mo, .slice (some ⟨b1, 0, none⟩) n c1, .int .i64 ({ s with rs := s.rs.set sp.toNat ⟨0, 1, false, -1, seeded q v⟩ } : St).fi, .int .i64 ({ s with rs := s.rs.set sp.toNat ⟨0, 1, false, -1, seeded q v⟩ } : St).la] 75 ∧ BoxAt W' (w.heap.size + 1) #[.int .i64 h2.at_, .int .i64 h2.v, .int .i64 h2.r, .int .i64 h2.t, .bool h2.seen.s, .int .i64 h2.seen.n, .bool h2.seen.f, .int .i64 h2.seen.v, .int .i64 h2.tr, .int .i64 h2.sp, .bool h2.ag, .int .i64 h2.re] 41 ∧ RgsW Q wc.heap.size W' (some ⟨b1, 0, none⟩) n c1 ({ s with rs := s.rs.set sp.toNat ⟨0, 1, false, -1, seeded q v⟩ } : St).rs ∧ M ≤ W'.heap.size ∧ (∃ x0 x1 x2 x3 x4, BoxAt W' (w.heap.size + 1 + 1) #[x0, x1, x2, x3, x4] 75) ∧ (L 2 = false → BoxAt W' (w.heap.size + 1 + 1) #[.int .i64 0, .int .i64 0, .slice none 0 0, .int .i64 0, .int .i64 0] 75) ∧ (∃ x0 x1 x2 x3 x4 x5 x6 x7 x8 x9 x10 x11, BoxAt W' (w.heap.size + 1 + 1 + 1) #[x0, x1, x2, x3, x4, x5, x6, x7, x8, x9, x10, x11] 41) ∧ (L 3 = false → BoxAt W' (w.heap.size + 1 + 1 + 1) #[.int .i64 0, .int .i64 0, .int .i64 0, .int .i64 0, .bool false, .int .i64 0, .bool false, .int .i64 0, .int .i64 0, .int .i64 0, .bool false, .int .i64 0] 41)) (mkF2R ({ s with rs := s.rs.set sp.toNat ⟨0, 1, false, -1, seeded q v⟩ } : St) w.heap.size w.heap.size (w.heap.size + 1) n c1 (some ⟨b1, 0, none⟩) h2) mkF2K mkF2S (by kernel_rfl) (by kernel_rfl) ?_ ?_ ?_
        (.grow rfl ?_ <| .grow rfl ?_ <| .store rfl ?_ <| .store rfl ?_ <| .grow rfl ?_ <| .nil) ?_
      · intro j σ τ w h hR
        match j, h, hR with
        | 0, h, hR => exact (h 0 (List.mem_singleton.2 rfl)).symm.trans hR
        | 1, h, hR => exact (h 1 (List.mem_singleton.2 rfl)).symm.trans hR
        | 2, _, hR => exact hR
        | 3, _, hR => exact hR
        | 4, h, hR => exact (h 4 (List.mem_singleton.2 rfl)).symm.trans hR
        | _ + 5, _, _ => exact trivial
      · intro j σ w w' hb hR
        match j, hR with
        | 0, hR => exact hR
        | 1, hR => exact hR
        | 2, hR => exact hR.below hb hR.lt
        | 3, hR => exact hR.below hb hR.lt
        | 4, hR => exact hR
        | _ + 5, _ => exact trivial
      · exact ⟨hB.drew, hx, hy, hG, hM, ⟨_, _, _, _, _, hz⟩, fun _ => hz, ⟨_, _, _, _, _, _, _, _, _, _, _, _, hw_⟩, fun _ => hw_⟩
      · -- 0: Op.load 75 t2
        go_light
        intro L σ W' hcl hL hC hw
        clear hw
        have HC := Lib.hid hC
        obtain ⟨hB, hx, hy, hG, hM, ⟨hz_x0, hz_x1, hz_x2, hz_x3, hz_x4, hz⟩, hz_o, ⟨hw__x0, hw__x1, hw__x2, hw__x3, hw__x4, hw__x5, hw__x6, hw__x7, hw__x8, hw__x9, hw__x10, hw__x11, hw_⟩, hw__o⟩ := hC
        have ks := hx.cell
        clear hcl hL
        clear hB hx hy hG hM hz hz_o hw_ hw__o
        refine OpGoes.step fun K hK => ?_
        unfold OpGoes
        go_simp
        obtain ⟨hB, hx, hy, hG, hM, ⟨hz_x0, hz_x1, hz_x2, hz_x3, hz_x4, hz⟩, hz_o, ⟨hw__x0, hw__x1, hw__x2, hw__x3, hw__x4, hw__x5, hw__x6, hw__x7, hw__x8, hw__x9, hw__x10, hw__x11, hw_⟩, hw__o⟩ := HC.out
        exact hK _ _ ⟨⟨hB, hx, hy, hG, hM, ⟨_, _, _, _, _, hz⟩, fun h => hz_o (by simpa [upd] using h), ⟨_, _, _, _, _, _, _, _, _, _, _, _, hw_⟩, fun h => hw__o (by simpa [upd] using h)⟩, rfl, Below.refl _ _⟩
      · -- 1: Op.load 41 t3
        go_light
        intro L σ W' hcl hL hC hw
        clear hw
        have HC := Lib.hid hC
        obtain ⟨hB, hx, hy, hG, hM, ⟨hz_x0, hz_x1, hz_x2, hz_x3, hz_x4, hz⟩, hz_o, ⟨hw__x0, hw__x1, hw__x2, hw__x3, hw__x4, hw__x5, hw__x6, hw__x7, hw__x8, hw__x9, hw__x10, hw__x11, hw_⟩, hw__o⟩ := hC
        have kh := hy.cell
        clear hcl hL
        clear hB hx hy hG hM hz hz_o hw_ hw__o
        refine OpGoes.step fun K hK => ?_
        unfold OpGoes
        go_simp
        obtain ⟨hB, hx, hy, hG, hM, ⟨hz_x0, hz_x1, hz_x2, hz_x3, hz_x4, hz⟩, hz_o, ⟨hw__x0, hw__x1, hw__x2, hw__x3, hw__x4, hw__x5, hw__x6, hw__x7, hw__x8, hw__x9, hw__x10, hw__x11, hw_⟩, hw__o⟩ := HC.out
        exact hK _ _ ⟨⟨hB, hx, hy, hG, hM, ⟨_, _, _, _, _, hz⟩, fun h => hz_o (by simpa [upd] using h), ⟨_, _, _, _, _, _, _, _, _, _, _, _, hw_⟩, fun h => hw__o (by simpa [upd] using h)⟩, rfl, Below.refl _ _⟩
      · -- 2: Op.store 75 t4 t40
        go_light
        intro L σ W' hcl hL hC hw hne
        have e0 : σ 0 = .agg #[.int .i64 ({ s with rs := s.rs.set sp.toNat ⟨0, 1, false, -1, seeded q v⟩ } : St).rd, .int .i64 ({ s with rs := s.rs.set sp.toNat ⟨0, 1, false, -1, seeded q v⟩ } : St).mo, .slice (some ⟨b1, 0, none⟩) n c1, .int .i64 ({ s with rs := s.rs.set sp.toNat ⟨0, 1, false, -1, seeded q v⟩ } : St).fi, .int .i64 ({ s with rs := s.rs.set sp.toNat ⟨0, 1, false, -1, seeded q v⟩ } : St).la] := hw 0 (by kernel_rfl)
        clear hw hne
        have HC := Lib.hid hC
        obtain ⟨hB, hx, hy, hG, hM, ⟨hz_x0, hz_x1, hz_x2, hz_x3, hz_x4, hz⟩, hz_o, ⟨hw__x0, hw__x1, hw__x2, hw__x3, hw__x4, hw__x5, hw__x6, hw__x7, hw__x8, hw__x9, hw__x10, hw__x11, hw_⟩, hw__o⟩ := hC
        clear hcl hL
        have kc_ := hz.cell
        have kf_ := hz.frozen
        clear hB hx hy hG hM hz hz_o hw_ hw__o
        refine OpGoes.step fun K hK => ?_
        unfold OpGoes
        go_simp
        obtain ⟨hB, hx, hy, hG, hM, ⟨hz_x0, hz_x1, hz_x2, hz_x3, hz_x4, hz⟩, hz_o, ⟨hw__x0, hw__x1, hw__x2, hw__x3, hw__x4, hw__x5, hw__x6, hw__x7, hw__x8, hw__x9, hw__x10, hw__x11, hw_⟩, hw__o⟩ := HC.out
        have hset := sets_all (us := [.int .i64 ({ s with rs := s.rs.set sp.toNat ⟨0, 1, false, -1, seeded q v⟩ } : St).rd, .int .i64 ({ s with rs := s.rs.set sp.toNat ⟨0, 1, false, -1, seeded q v⟩ } : St).mo, .slice (some ⟨b1, 0, none⟩) n c1, .int .i64 ({ s with rs := s.rs.set sp.toNat ⟨0, 1, false, -1, seeded q v⟩ } : St).fi, .int .i64 ({ s with rs := s.rs.set sp.toNat ⟨0, 1, false, -1, seeded q v⟩ } : St).la]) hz rfl
        refine hK undef (setCells W' (w.heap.size + 1 + 1) 0 [.int .i64 ({ s with rs := s.rs.set sp.toNat ⟨0, 1, false, -1, seeded q v⟩ } : St).rd, .int .i64 ({ s with rs := s.rs.set sp.toNat ⟨0, 1, false, -1, seeded q v⟩ } : St).mo, .slice (some ⟨b1, 0, none⟩) n c1, .int .i64 ({ s with rs := s.rs.set sp.toNat ⟨0, 1, false, -1, seeded q v⟩ } : St).fi, .int .i64 ({ s with rs := s.rs.set sp.toNat ⟨0, 1, false, -1, seeded q v⟩ } : St).la]) ⟨⟨(Below.setCells (by omega) [.int .i64 ({ s with rs := s.rs.set sp.toNat ⟨0, 1, false, -1, seeded q v⟩ } : St).rd, .int .i64 ({ s with rs := s.rs.set sp.toNat ⟨0, 1, false, -1, seeded q v⟩ } : St).mo, .slice (some ⟨b1, 0, none⟩) n c1, .int .i64 ({ s with rs := s.rs.set sp.toNat ⟨0, 1, false, -1, seeded q v⟩ } : St).fi, .int .i64 ({ s with rs := s.rs.set sp.toNat ⟨0, 1, false, -1, seeded q v⟩ } : St).la] 0 hB), (BoxAt.sets_ne [.int .i64 ({ s with rs := s.rs.set sp.toNat ⟨0, 1, false, -1, seeded q v⟩ } : St).rd, .int .i64 ({ s with rs := s.rs.set sp.toNat ⟨0, 1, false, -1, seeded q v⟩ } : St).mo, .slice (some ⟨b1, 0, none⟩) n c1, .int .i64 ({ s with rs := s.rs.set sp.toNat ⟨0, 1, false, -1, seeded q v⟩ } : St).fi, .int .i64 ({ s with rs := s.rs.set sp.toNat ⟨0, 1, false, -1, seeded q v⟩ } : St).la] 0 hx (by omega)), (BoxAt.sets_ne [.int .i64 ({ s with rs := s.rs.set sp.toNat ⟨0, 1, false, -1, seeded q v⟩ } : St).rd, .int .i64 ({ s with rs := s.rs.set sp.toNat ⟨0, 1, false, -1, seeded q v⟩ } : St).mo, .slice (some ⟨b1, 0, none⟩) n c1, .int .i64 ({ s with rs := s.rs.set sp.toNat ⟨0, 1, false, -1, seeded q v⟩ } : St).fi, .int .i64 ({ s with rs := s.rs.set sp.toNat ⟨0, 1, false, -1, seeded q v⟩ } : St).la] 0 hy (by omega)), (RgsW.sts hG (by omega) [.int .i64 ({ s with rs := s.rs.set sp.toNat ⟨0, 1, false, -1, seeded q v⟩ } : St).rd, .int .i64 ({ s with rs := s.rs.set sp.toNat ⟨0, 1, false, -1, seeded q v⟩ } : St).mo, .slice (some ⟨b1, 0, none⟩) n c1, .int .i64 ({ s with rs := s.rs.set sp.toNat ⟨0, 1, false, -1, seeded q v⟩ } : St).fi, .int .i64 ({ s with rs := s.rs.set sp.toNat ⟨0, 1, false, -1, seeded q v⟩ } : St).la] 0), (size_sts hM [.int .i64 ({ s with rs := s.rs.set sp.toNat ⟨0, 1, false, -1, seeded q v⟩ } : St).rd, .int .i64 ({ s with rs := s.rs.set sp.toNat ⟨0, 1, false, -1, seeded q v⟩ } : St).mo, .slice (some ⟨b1, 0, none⟩) n c1, .int .i64 ({ s with rs := s.rs.set sp.toNat ⟨0, 1, false, -1, seeded q v⟩ } : St).fi, .int .i64 ({ s with rs := s.rs.set sp.toNat ⟨0, 1, false, -1, seeded q v⟩ } : St).la] 0), ⟨_, _, _, _, _, hset⟩, fun h => absurd h (by simp [upd]), ⟨_, _, _, _, _, _, _, _, _, _, _, _, (BoxAt.sets_ne [.int .i64 ({ s with rs := s.rs.set sp.toNat ⟨0, 1, false, -1, seeded q v⟩ } : St).rd, .int .i64 ({ s with rs := s.rs.set sp.toNat ⟨0, 1, false, -1, seeded q v⟩ } : St).mo, .slice (some ⟨b1, 0, none⟩) n c1, .int .i64 ({ s with rs := s.rs.set sp.toNat ⟨0, 1, false, -1, seeded q v⟩ } : St).fi, .int .i64 ({ s with rs := s.rs.set sp.toNat ⟨0, 1, false, -1, seeded q v⟩ } : St).la] 0 hw_ (by omega))⟩, fun h => (BoxAt.sets_ne [.int .i64 ({ s with rs := s.rs.set sp.toNat ⟨0, 1, false, -1, seeded q v⟩ } : St).rd, .int .i64 ({ s with rs := s.rs.set sp.toNat ⟨0, 1, false, -1, seeded q v⟩ } : St).mo, .slice (some ⟨b1, 0, none⟩) n c1, .int .i64 ({ s with rs := s.rs.set sp.toNat ⟨0, 1, false, -1, seeded q v⟩ } : St).fi, .int .i64 ({ s with rs := s.rs.set sp.toNat ⟨0, 1, false, -1, seeded q v⟩ } : St).la] 0 (hw__o (by simpa [upd] using h)) (by omega))⟩, hset, Nat.le_of_eq (sets_size _ _ _).symm, fun j hj hn hR => ?_⟩
        match j, hj, hn, hR with
        | 0, _, _, hR => exact (show σ 0 = .agg #[.int .i64 ({ s with rs := s.rs.set sp.toNat ⟨0, 1, false, -1, seeded q v⟩ } : St).rd, .int .i64 ({ s with rs := s.rs.set sp.toNat ⟨0, 1, false, -1, seeded q v⟩ } : St).mo, .slice (some ⟨b1, 0, none⟩) n c1, .int .i64 ({ s with rs := s.rs.set sp.toNat ⟨0, 1, false, -1, seeded q v⟩ } : St).fi, .int .i64 ({ s with rs := s.rs.set sp.toNat ⟨0, 1, false, -1, seeded q v⟩ } : St).la] from hR)
        | 1, _, _, hR => exact (show σ 1 = .agg #[.int .i64 h2.at_, .int .i64 h2.v, .int .i64 h2.r, .int .i64 h2.t, .bool h2.seen.s, .int .i64 h2.seen.n, .bool h2.seen.f, .int .i64 h2.seen.v, .int .i64 h2.tr, .int .i64 h2.sp, .bool h2.ag, .int .i64 h2.re] from hR)
        | 2, hj, _, _ => exact absurd rfl hj
        | 3, _, _, hR => exact (BoxAt.sets_ne [.int .i64 ({ s with rs := s.rs.set sp.toNat ⟨0, 1, false, -1, seeded q v⟩ } : St).rd, .int .i64 ({ s with rs := s.rs.set sp.toNat ⟨0, 1, false, -1, seeded q v⟩ } : St).mo, .slice (some ⟨b1, 0, none⟩) n c1, .int .i64 ({ s with rs := s.rs.set sp.toNat ⟨0, 1, false, -1, seeded q v⟩ } : St).fi, .int .i64 ({ s with rs := s.rs.set sp.toNat ⟨0, 1, false, -1, seeded q v⟩ } : St).la] 0 hR (by omega))
        | 4, _, _, hR => exact (show σ 4 = .bool true from hR)
        | _ + 5, _, _, _ => exact trivial
      · -- 3: Op.store 41 t5 t41
        go_light
        intro L σ W' hcl hL hC hw hne
        have e1 : σ 1 = .agg #[.int .i64 h2.at_, .int .i64 h2.v, .int .i64 h2.r, .int .i64 h2.t, .bool h2.seen.s, .int .i64 h2.seen.n, .bool h2.seen.f, .int .i64 h2.seen.v, .int .i64 h2.tr, .int .i64 h2.sp, .bool h2.ag, .int .i64 h2.re] := hw 1 (by kernel_rfl)
        clear hw hne
        have HC := Lib.hid hC
        obtain ⟨hB, hx, hy, hG, hM, ⟨hz_x0, hz_x1, hz_x2, hz_x3, hz_x4, hz⟩, hz_o, ⟨hw__x0, hw__x1, hw__x2, hw__x3, hw__x4, hw__x5, hw__x6, hw__x7, hw__x8, hw__x9, hw__x10, hw__x11, hw_⟩, hw__o⟩ := hC
        clear hcl hL
        have kc_ := hw_.cell
        have kf_ := hw_.frozen
        clear hB hx hy hG hM hz hz_o hw_ hw__o
        refine OpGoes.step fun K hK => ?_
        unfold OpGoes
        go_simp
        obtain ⟨hB, hx, hy, hG, hM, ⟨hz_x0, hz_x1, hz_x2, hz_x3, hz_x4, hz⟩, hz_o, ⟨hw__x0, hw__x1, hw__x2, hw__x3, hw__x4, hw__x5, hw__x6, hw__x7, hw__x8, hw__x9, hw__x10, hw__x11, hw_⟩, hw__o⟩ := HC.out
        have hset := sets_all (us := [.int .i64 h2.at_, .int .i64 h2.v, .int .i64 h2.r, .int .i64 h2.t, .bool h2.seen.s, .int .i64 h2.seen.n, .bool h2.seen.f, .int .i64 h2.seen.v, .int .i64 h2.tr, .int .i64 h2.sp, .bool h2.ag, .int .i64 h2.re]) hw_ rfl
        refine hK undef (setCells W' (w.heap.size + 1 + 1 + 1) 0 [.int .i64 h2.at_, .int .i64 h2.v, .int .i64 h2.r, .int .i64 h2.t, .bool h2.seen.s, .int .i64 h2.seen.n, .bool h2.seen.f, .int .i64 h2.seen.v, .int .i64 h2.tr, .int .i64 h2.sp, .bool h2.ag, .int .i64 h2.re]) ⟨⟨(Below.setCells (by omega) [.int .i64 h2.at_, .int .i64 h2.v, .int .i64 h2.r, .int .i64 h2.t, .bool h2.seen.s, .int .i64 h2.seen.n, .bool h2.seen.f, .int .i64 h2.seen.v, .int .i64 h2.tr, .int .i64 h2.sp, .bool h2.ag, .int .i64 h2.re] 0 hB), (BoxAt.sets_ne [.int .i64 h2.at_, .int .i64 h2.v, .int .i64 h2.r, .int .i64 h2.t, .bool h2.seen.s, .int .i64 h2.seen.n, .bool h2.seen.f, .int .i64 h2.seen.v, .int .i64 h2.tr, .int .i64 h2.sp, .bool h2.ag, .int .i64 h2.re] 0 hx (by omega)), (BoxAt.sets_ne [.int .i64 h2.at_, .int .i64 h2.v, .int .i64 h2.r, .int .i64 h2.t, .bool h2.seen.s, .int .i64 h2.seen.n, .bool h2.seen.f, .int .i64 h2.seen.v, .int .i64 h2.tr, .int .i64 h2.sp, .bool h2.ag, .int .i64 h2.re] 0 hy (by omega)), (RgsW.sts hG (by omega) [.int .i64 h2.at_, .int .i64 h2.v, .int .i64 h2.r, .int .i64 h2.t, .bool h2.seen.s, .int .i64 h2.seen.n, .bool h2.seen.f, .int .i64 h2.seen.v, .int .i64 h2.tr, .int .i64 h2.sp, .bool h2.ag, .int .i64 h2.re] 0), (size_sts hM [.int .i64 h2.at_, .int .i64 h2.v, .int .i64 h2.r, .int .i64 h2.t, .bool h2.seen.s, .int .i64 h2.seen.n, .bool h2.seen.f, .int .i64 h2.seen.v, .int .i64 h2.tr, .int .i64 h2.sp, .bool h2.ag, .int .i64 h2.re] 0), ⟨_, _, _, _, _, (BoxAt.sets_ne [.int .i64 h2.at_, .int .i64 h2.v, .int .i64 h2.r, .int .i64 h2.t, .bool h2.seen.s, .int .i64 h2.seen.n, .bool h2.seen.f, .int .i64 h2.seen.v, .int .i64 h2.tr, .int .i64 h2.sp, .bool h2.ag, .int .i64 h2.re] 0 hz (by omega))⟩, fun h => (BoxAt.sets_ne [.int .i64 h2.at_, .int .i64 h2.v, .int .i64 h2.r, .int .i64 h2.t, .bool h2.seen.s, .int .i64 h2.seen.n, .bool h2.seen.f, .int .i64 h2.seen.v, .int .i64 h2.tr, .int .i64 h2.sp, .bool h2.ag, .int .i64 h2.re] 0 (hz_o (by simpa [upd] using h)) (by omega)), ⟨_, _, _, _, _, _, _, _, _, _, _, _, hset⟩, fun h => absurd h (by simp [upd])⟩, hset, Nat.le_of_eq (sets_size _ _ _).symm, fun j hj hn hR => ?_⟩
        match j, hj, hn, hR with
        | 0, _, _, hR => exact (show σ 0 = .agg #[.int .i64 ({ s with rs := s.rs.set sp.toNat ⟨0, 1, false, -1, seeded q v⟩ } : St).rd, .int .i64 ({ s with rs := s.rs.set sp.toNat ⟨0, 1, false, -1, seeded q v⟩ } : St).mo, .slice (some ⟨b1, 0, none⟩) n c1, .int .i64 ({ s with rs := s.rs.set sp.toNat ⟨0, 1, false, -1, seeded q v⟩ } : St).fi, .int .i64 ({ s with rs := s.rs.set sp.toNat ⟨0, 1, false, -1, seeded q v⟩ } : St).la] from hR)
        | 1, _, _, hR => exact (show σ 1 = .agg #[.int .i64 h2.at_, .int .i64 h2.v, .int .i64 h2.r, .int .i64 h2.t, .bool h2.seen.s, .int .i64 h2.seen.n, .bool h2.seen.f, .int .i64 h2.seen.v, .int .i64 h2.tr, .int .i64 h2.sp, .bool h2.ag, .int .i64 h2.re] from hR)
        | 2, _, _, hR => exact (BoxAt.sets_ne [.int .i64 h2.at_, .int .i64 h2.v, .int .i64 h2.r, .int .i64 h2.t, .bool h2.seen.s, .int .i64 h2.seen.n, .bool h2.seen.f, .int .i64 h2.seen.v, .int .i64 h2.tr, .int .i64 h2.sp, .bool h2.ag, .int .i64 h2.re] 0 hR (by omega))
        | 3, hj, _, _ => exact absurd rfl hj
        | 4, _, _, hR => exact (show σ 4 = .bool true from hR)
        | _ + 5, _, _, _ => exact trivial
      · -- 4: Op.assign (const (Value.bool true))
        go_light
        intro L σ W' hcl hL hC hw
        clear hw
        have HC := Lib.hid hC
        clear hC
        clear hcl hL
        refine OpGoes.step fun K hK => ?_
        unfold OpGoes
        go_simp
        obtain ⟨hB, hx, hy, hG, hM, ⟨hz_x0, hz_x1, hz_x2, hz_x3, hz_x4, hz⟩, hz_o, ⟨hw__x0, hw__x1, hw__x2, hw__x3, hw__x4, hw__x5, hw__x6, hw__x7, hw__x8, hw__x9, hw__x10, hw__x11, hw_⟩, hw__o⟩ := HC.out
        exact hK _ _ ⟨⟨hB, hx, hy, hG, hM, ⟨_, _, _, _, _, hz⟩, fun h => hz_o (by simpa [upd] using h), ⟨_, _, _, _, _, _, _, _, _, _, _, _, hw_⟩, fun h => hw__o (by simpa [upd] using h)⟩, rfl, Below.refl _ _⟩
      · intro σ L W' hall hC hR
        obtain ⟨hB, hx, hy, hG, hM, ⟨hz_x0, hz_x1, hz_x2, hz_x3, hz_x4, hz⟩, hz_o, ⟨hw__x0, hw__x1, hw__x2, hw__x3, hw__x4, hw__x5, hw__x6, hw__x7, hw__x8, hw__x9, hw__x10, hw__x11, hw_⟩, hw__o⟩ := hC
        have sv2 : BoxAt W' (w.heap.size + 1 + 1) #[.int .i64 ({ s with rs := s.rs.set sp.toNat ⟨0, 1, false, -1, seeded q v⟩ } : St).rd, .int .i64 ({ s with rs := s.rs.set sp.toNat ⟨0, 1, false, -1, seeded q v⟩ } : St).mo, .slice (some ⟨b1, 0, none⟩) n c1, .int .i64 ({ s with rs := s.rs.set sp.toNat ⟨0, 1, false, -1, seeded q v⟩ } : St).fi, .int .i64 ({ s with rs := s.rs.set sp.toNat ⟨0, 1, false, -1, seeded q v⟩ } : St).la] 75 := hR 2 (by decide)
        have sv3 : BoxAt W' (w.heap.size + 1 + 1 + 1) #[.int .i64 h2.at_, .int .i64 h2.v, .int .i64 h2.r, .int .i64 h2.t, .bool h2.seen.s, .int .i64 h2.seen.n, .bool h2.seen.f, .int .i64 h2.seen.v, .int .i64 h2.tr, .int .i64 h2.sp, .bool h2.ag, .int .i64 h2.re] 41 := hR 3 (by decide)
        have e4 : σ 4 = .bool true := hR 4 (by decide)
        clear hR
        simp only [lexAll]
        go_simp
        go_step
        have k7 := sv2.cell
        have k8 := sv3.cell
        go_wp2
        refine bodyPost_ret (v := .tuple #[stV ({ s with rs := s.rs.set sp.toNat ⟨0, 1, false, -1, seeded q v⟩ } : St) (some ⟨b1, 0, none⟩) n c1, hdV h2, .bool true]) (by simp [results, Try.results99, go_sem, k7, k8, stV, hdV, Hd.rest, Hd.zero]) rfl ⟨some ⟨b1, 0, none⟩, n, c1, by rw [HV.out], ?_, hB⟩
        rw [HV.out]
        exact hG.cut.mono (by omega) (Nat.le_refl _)

end Go.Proofs.Ytbdgkmamieagfaa

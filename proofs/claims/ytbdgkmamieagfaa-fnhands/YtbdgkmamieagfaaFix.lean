/-
  The walk of a step of one who takes, of the model: where nothing is on the ring.
-/
import Derived.Test.YtbdgkmamieagfaaTake1
namespace Go.Proofs.Ytbdgkmamieagfaa
set_option linter.unusedSimpArgs false
set_option linter.unusedVariables false
open Go.RowKit
set_option linter.unusedVariables false
attribute [local go_sem] OpUpon
attribute [local go_sem ↓] Go.wp_at_zero Go.wp_at_succ

def take21 (s : St) (h : Hd) : St × Hd × Bool := if (s.at h.r).c || decide (h.tr ≤ (s.at h.r).t) then (s, { h with at_ := 23 }, true) else (s, { h with t := (s.at h.r).t, at_ := 22 }, true)
def take22 (s : St) (h : Hd) : St × Hd × Bool := ((raiseTail s h.r h.t h.tr).1, { h with at_ := if (raiseTail s h.r h.t h.tr).2 then 23 else 20 }, true)
def take23 (s : St) (h : Hd) : St × Hd × Bool := if h.ag then (s, { h with at_ := 24 }, true) else if (s.at h.r).x < 0 then (s, h.rest 3, true) else (s, { h with ag := true, at_ := 14 }, true)
def take24 (s : St) (h : Hd) : St × Hd × Bool := ((swing s false h.r (s.at h.r).x).1, { h with ag := false, at_ := 13 }, true)

def fxAR (s2 : St) (N X Y n2 c2 : Nat) (A2 : Option Addr) (h2 : Hd) (j : Nat) (σ : Nat → Value) (w : World) : Prop :=
  match j with
  | 0 => σ 0 = .agg #[.int .i64 s2.rd, .int .i64 s2.mo, .slice A2 n2 c2, .int .i64 s2.fi, .int .i64 s2.la]
  | 1 => σ 1 = .agg #[.int .i64 h2.at_, .int .i64 h2.v, .int .i64 h2.r, .int .i64 h2.t, .bool h2.seen.s, .int .i64 h2.seen.n, .bool h2.seen.f, .int .i64 h2.seen.v, .int .i64 h2.tr, .int .i64 h2.sp, .bool h2.ag, .int .i64 h2.re]
  | 2 => BoxAt w (N + 1 + 1) #[.int .i64 s2.rd, .int .i64 s2.mo, .slice A2 n2 c2, .int .i64 s2.fi, .int .i64 s2.la] 75
  | 3 => BoxAt w (N + 1 + 1 + 1) #[.int .i64 h2.at_, .int .i64 h2.v, .int .i64 h2.r, .int .i64 h2.t, .bool h2.seen.s, .int .i64 h2.seen.n, .bool h2.seen.f, .int .i64 h2.seen.v, .int .i64 h2.tr, .int .i64 h2.sp, .bool h2.ag, .int .i64 h2.re] 41
  | 4 => σ 4 = .bool true
  | _ => True

def fxAS (j : Nat) : List Nat := [[0], [1], [2], [3], [4]].getD j [j]
def fxAK (j : Nat) : Nat := [0, 0, 1, 1, 0].getD j 0

def fxBR (s2 : St) (N X Y n2 c2 : Nat) (A2 : Option Addr) (h2 : Hd) (j : Nat) (σ : Nat → Value) (w : World) : Prop :=
  match j with
  | 0 => σ 0 = .agg #[.int .i64 s2.rd, .int .i64 s2.mo, .slice A2 n2 c2, .int .i64 s2.fi, .int .i64 s2.la]
  | 1 => σ 1 = .agg #[.int .i64 h2.at_, .int .i64 h2.v, .int .i64 h2.r, .int .i64 h2.t, .bool h2.seen.s, .int .i64 h2.seen.n, .bool h2.seen.f, .int .i64 h2.seen.v, .int .i64 h2.tr, .int .i64 h2.sp, .bool h2.ag, .int .i64 h2.re]
  | 2 => BoxAt w (N + 1 + 1) #[.int .i64 s2.rd, .int .i64 s2.mo, .slice A2 n2 c2, .int .i64 s2.fi, .int .i64 s2.la] 75
  | 3 => BoxAt w (N + 1 + 1 + 1) #[.int .i64 h2.at_, .int .i64 h2.v, .int .i64 h2.r, .int .i64 h2.t, .bool h2.seen.s, .int .i64 h2.seen.n, .bool h2.seen.f, .int .i64 h2.seen.v, .int .i64 h2.tr, .int .i64 h2.sp, .bool h2.ag, .int .i64 h2.re] 41
  | 4 => σ 4 = .bool true
  | _ => True

def fxBS (j : Nat) : List Nat := [[0], [1], [2], [3], [4]].getD j [j]
def fxBK (j : Nat) : Nat := [0, 0, 1, 1, 0].getD j 0

def fxCR (s2 : St) (N X Y n2 c2 : Nat) (A2 : Option Addr) (h2 : Hd) (j : Nat) (σ : Nat → Value) (w : World) : Prop :=
  match j with
  | 0 => σ 0 = .agg #[.int .i64 s2.rd, .int .i64 s2.mo, .slice A2 n2 c2, .int .i64 s2.fi, .int .i64 s2.la]
  | 1 => σ 1 = .agg #[.int .i64 h2.at_, .int .i64 h2.v, .int .i64 h2.r, .int .i64 h2.t, .bool h2.seen.s, .int .i64 h2.seen.n, .bool h2.seen.f, .int .i64 h2.seen.v, .int .i64 h2.tr, .int .i64 h2.sp, .bool h2.ag, .int .i64 h2.re]
  | 2 => σ 2 = .agg #[.int .i64 0, .int .i64 0, .int .i64 0, .int .i64 0, .bool false, .int .i64 0, .bool false, .int .i64 0, .int .i64 0, .int .i64 h2.sp, .bool false, .int .i64 3]
  | 3 => BoxAt w (N + 1 + 1) #[.int .i64 s2.rd, .int .i64 s2.mo, .slice A2 n2 c2, .int .i64 s2.fi, .int .i64 s2.la] 75
  | 4 => BoxAt w (N + 1 + 1 + 1) #[.int .i64 0, .int .i64 0, .int .i64 0, .int .i64 0, .bool false, .int .i64 0, .bool false, .int .i64 0, .int .i64 0, .int .i64 h2.sp, .bool false, .int .i64 3] 41
  | 5 => σ 5 = .bool true
  | _ => True

def fxCS (j : Nat) : List Nat := [[0], [1], [2], [3], [4], [5]].getD j [j]
def fxCK (j : Nat) : Nat := [0, 0, 0, 1, 1, 0].getD j 0

def fxDR (s2 : St) (N X Y n2 c2 : Nat) (A2 : Option Addr) (h2 : Hd) (j : Nat) (σ : Nat → Value) (w : World) : Prop :=
  match j with
  | 0 => σ 0 = .agg #[.int .i64 s2.rd, .int .i64 s2.mo, .slice A2 n2 c2, .int .i64 s2.fi, .int .i64 s2.la]
  | 1 => σ 1 = .agg #[.int .i64 h2.at_, .int .i64 h2.v, .int .i64 h2.r, .int .i64 h2.t, .bool h2.seen.s, .int .i64 h2.seen.n, .bool h2.seen.f, .int .i64 h2.seen.v, .int .i64 h2.tr, .int .i64 h2.sp, .bool h2.ag, .int .i64 h2.re]
  | 2 => BoxAt w (N + 1 + 1) #[.int .i64 s2.rd, .int .i64 s2.mo, .slice A2 n2 c2, .int .i64 s2.fi, .int .i64 s2.la] 75
  | 3 => BoxAt w (N + 1 + 1 + 1) #[.int .i64 h2.at_, .int .i64 h2.v, .int .i64 h2.r, .int .i64 h2.t, .bool h2.seen.s, .int .i64 h2.seen.n, .bool h2.seen.f, .int .i64 h2.seen.v, .int .i64 h2.tr, .int .i64 h2.sp, .bool h2.ag, .int .i64 h2.re] 41
  | 4 => σ 4 = .bool true
  | _ => True

def fxDS (j : Nat) : List Nat := [[0], [1], [2], [3], [4]].getD j [j]
def fxDK (j : Nat) : Nat := [0, 0, 1, 1, 0].getD j 0

set_option maxRecDepth 100000 in
set_option maxHeartbeats 4000000 in
theorem l7Fix_21 (s : St) (A : Option Addr) (n cap lo hi : Nat) (v r t : Int) (seen : Pl) (tr sp : Int) (ag : Bool) (re : Int) (w : World) (hs : RgsW lo hi w A n cap s.rs) (hh : hi ≤ w.heap.size) (hlo : lo ≤ w.heap.size) (hok : stOk s = true) (hrb : ringB s r = true) :
    Calls Try.prog 103 #[stV s A n cap, hdV ⟨21, v, r, t, seen, tr, sp, ag, re⟩] w (RetSHB lo (take21 s ⟨21, v, r, t, seen, tr, sp, ag, re⟩) w) := by
  have HOK := Lib.hid hok
  have HRB := Lib.hid hrb
  have HLN := Lib.hid hs.1
  have HNT := Lib.hid (stOk_neat hok)
  obtain ⟨z0, z1, z2⟩ := ringB_at HLN.out hrb
  clear hok hrb
  unfold stV hdV
  dsimp only
  go_enter Try.func103, Try.ntmps103
  go_upto_region 1 with fail
  refine wp_abs (fun W => Below w.heap.size w W ∧ BoxAt W w.heap.size #[.int .i64 s.rd, .int .i64 s.mo, .slice A n cap, .int .i64 s.fi, .int .i64 s.la] 75 ∧ BoxAt W (w.heap.size + 1) #[.int .i64 21, .int .i64 v, .int .i64 r, .int .i64 t, .bool seen.s, .int .i64 seen.n, .bool seen.f, .int .i64 seen.v, .int .i64 tr, .int .i64 sp, .bool ag, .int .i64 re] 41 ∧ BoxAt W (w.heap.size + 1 + 1) #[.int .i64 0, .int .i64 0, .slice none 0 0, .int .i64 0, .int .i64 0] 75 ∧ BoxAt W (w.heap.size + 1 + 1 + 1) #[.int .i64 0, .int .i64 0, .int .i64 0, .int .i64 0, .bool false, .int .i64 0, .bool false, .int .i64 0, .int .i64 0, .int .i64 0, .bool false, .int .i64 0] 41) ⟨(((((Below.refl _ _).alloc (Nat.le_refl _) _).alloc (by simp) _).alloc (by simp; omega) _).alloc (by simp; omega) _), (((BoxAt.new _ _ _).alloc _).alloc _).alloc _, ((BoxAt.new' (by simp)).alloc _).alloc _, (BoxAt.new' (by simp)).alloc _, BoxAt.new' (by simp)⟩ ?_
  rintro W0 ⟨hB, hx, hy, hz, hw_⟩
  have lw0 := hw_.lt
  have hs0 := hs.below hB hh
  have kx := hx.cell
  have ky := hy.cell
  have fy := hy.frozen
  obtain ⟨b, rg, A', n', cap', rfl, hlb, hbh, hri, c0, c1', c2, c3, c4, hpw⟩ := hs0.at_ z2
  have HAT := Lib.hid (St.at_some (s := s) (z := r) hri)
  have hnum := stOk_nums HOK.out rg (List.mem_of_getElem? hri)
  clear hri
  go_upto_region 3 with fail
  refine wp_abs (fun W => Below w.heap.size w W ∧ BoxAt W w.heap.size #[.int .i64 s.rd, .int .i64 s.mo, .slice (some ⟨b, 0, none⟩) n cap, .int .i64 s.fi, .int .i64 s.la] 75 ∧ BoxAt W (w.heap.size + 1) #[.int .i64 21, .int .i64 v, .int .i64 r, .int .i64 t, .bool seen.s, .int .i64 seen.n, .bool seen.f, .int .i64 seen.v, .int .i64 tr, .int .i64 sp, .bool ag, .int .i64 re] 41 ∧ BoxAt W (w.heap.size + 1 + 1) #[.int .i64 0, .int .i64 0, .slice none 0 0, .int .i64 0, .int .i64 0] 75 ∧ BoxAt W (w.heap.size + 1 + 1 + 1) #[.int .i64 0, .int .i64 0, .int .i64 0, .int .i64 0, .bool false, .int .i64 0, .bool false, .int .i64 0, .int .i64 0, .int .i64 0, .bool false, .int .i64 0] 41 ∧ BoxAt W W0.heap.size #[.int .i64 rg.h, .int .i64 rg.t, .bool rg.c, .int .i64 rg.x, .slice A' n' cap'] 27) ⟨hB.alloc hB.size _, hx.alloc _, hy.alloc _, hz.alloc _, hw_.alloc _, BoxAt.new _ _ _⟩ ?_
  clear kx ky fy hB hx hy hz hw_ hs0 c0 c1' c2 c3 c4 hpw
  generalize W0.heap.size = Z at *
  rintro W0 ⟨hB, hx, hy, hz, hw_, hZ⟩
  have lZ := hZ.lt
  have lw2 := hw_.lt
  have hs0 := hs.below hB hh
  have kx := hx.cell
  have ky := hy.cell
  have fy := hy.frozen
  have kZ := hZ.cell
  cases hc0 : rg.c
  · rw [hc0] at kZ
    by_cases h1 : tr ≤ rg.t
    · have HC := Lib.hid (show ((s.at r).c || decide (tr ≤ (s.at r).t)) = true by rw [HAT.out]; simp [h1])
      go_upto_region 7 with fail
      have HV := Lib.hid (show take21 s ⟨21, v, r, t, seen, tr, sp, ag, re⟩ = (s, (⟨23, v, r, t, seen, tr, sp, ag, re⟩ : Hd), true) by simp only [take21, HC.out, if_true])
      refine wp_abs (fun W' => Below w.heap.size w W' ∧ BoxAt W' w.heap.size #[.int .i64 s.rd, .int .i64 s.mo, .slice (some ⟨b, 0, none⟩) n cap, .int .i64 s.fi, .int .i64 s.la] 75 ∧ BoxAt W' (w.heap.size + 1) #[.int .i64 ((⟨23, v, r, t, seen, tr, sp, ag, re⟩ : Hd)).at_, .int .i64 ((⟨23, v, r, t, seen, tr, sp, ag, re⟩ : Hd)).v, .int .i64 ((⟨23, v, r, t, seen, tr, sp, ag, re⟩ : Hd)).r, .int .i64 ((⟨23, v, r, t, seen, tr, sp, ag, re⟩ : Hd)).t, .bool ((⟨23, v, r, t, seen, tr, sp, ag, re⟩ : Hd)).seen.s, .int .i64 ((⟨23, v, r, t, seen, tr, sp, ag, re⟩ : Hd)).seen.n, .bool ((⟨23, v, r, t, seen, tr, sp, ag, re⟩ : Hd)).seen.f, .int .i64 ((⟨23, v, r, t, seen, tr, sp, ag, re⟩ : Hd)).seen.v, .int .i64 ((⟨23, v, r, t, seen, tr, sp, ag, re⟩ : Hd)).tr, .int .i64 ((⟨23, v, r, t, seen, tr, sp, ag, re⟩ : Hd)).sp, .bool ((⟨23, v, r, t, seen, tr, sp, ag, re⟩ : Hd)).ag, .int .i64 ((⟨23, v, r, t, seen, tr, sp, ag, re⟩ : Hd)).re] 41 ∧ BoxAt W' (w.heap.size + 1 + 1) #[.int .i64 0, .int .i64 0, .slice none 0 0, .int .i64 0, .int .i64 0] 75 ∧ BoxAt W' (w.heap.size + 1 + 1 + 1) #[.int .i64 0, .int .i64 0, .int .i64 0, .int .i64 0, .bool false, .int .i64 0, .bool false, .int .i64 0, .int .i64 0, .int .i64 0, .bool false, .int .i64 0] 41 ∧ RgsW lo hi W' (some ⟨b, 0, none⟩) n cap (s).rs ∧ hi ≤ W'.heap.size) ⟨(hB.setCell (by dsimp only; omega) _), (hx.set_ne (by omega) _ _), by simpa using (hy.set 0 (.int .i64 23)), (hz.set_ne (by omega) _ _), (hw_.set_ne (by omega) _ _), (hs0.st (.inr (by omega)) _ _), by simp; omega⟩ ?_
      clear kx ky fy kZ hB hx hy hz hw_ hs0 hZ
      generalize hq2 : (⟨23, v, r, t, seen, tr, sp, ag, re⟩ : Hd) = h2 at *
      clear hq2
      rintro W ⟨hB, hx, hy, hz, hw_, hG, hhi⟩
      have lw := hw_.lt
      obtain ⟨M, hMe⟩ : ∃ M, M = W.heap.size := ⟨_, rfl⟩
      have hM : M ≤ W.heap.size := by omega
      have hhi2 : hi ≤ M := by omega
      clear hMe
      refine wp_region2 (fun w w' => Below w.heap.size w w') (fun _ _ h => h.size) (fun L W' => Below w.heap.size w W' ∧ BoxAt W' w.heap.size #[.int .i64 s.rd, .int .i64 s.mo, .slice (some ⟨b, 0, none⟩) n cap, .int .i64 s.fi, .int .i64 s.la] 75 ∧ BoxAt W' (w.heap.size + 1) #[.int .i64 h2.at_, .int .i64 h2.v, .int .i64 h2.r, .int .i64 h2.t, .bool h2.seen.s, .int .i64 h2.seen.n, .bool h2.seen.f, .int .i64 h2.seen.v, .int .i64 h2.tr, .int .i64 h2.sp, .bool h2.ag, .int .i64 h2.re] 41 ∧ RgsW lo hi W' (some ⟨b, 0, none⟩) n cap s.rs ∧ M ≤ W'.heap.size ∧ (∃ x0 x1 x2 x3 x4, BoxAt W' (w.heap.size + 1 + 1) #[x0, x1, x2, x3, x4] 75) ∧ (L 2 = false → BoxAt W' (w.heap.size + 1 + 1) #[.int .i64 0, .int .i64 0, .slice none 0 0, .int .i64 0, .int .i64 0] 75) ∧ (∃ x0 x1 x2 x3 x4 x5 x6 x7 x8 x9 x10 x11, BoxAt W' (w.heap.size + 1 + 1 + 1) #[x0, x1, x2, x3, x4, x5, x6, x7, x8, x9, x10, x11] 41) ∧ (L 3 = false → BoxAt W' (w.heap.size + 1 + 1 + 1) #[.int .i64 0, .int .i64 0, .int .i64 0, .int .i64 0, .bool false, .int .i64 0, .bool false, .int .i64 0, .int .i64 0, .int .i64 0, .bool false, .int .i64 0] 41)) (fxAR s w.heap.size w.heap.size (w.heap.size + 1) n cap (some ⟨b, 0, none⟩) h2) fxAK fxAS (by kernel_rfl) (by kernel_rfl) ?_ ?_ ?_
        (.grow rfl ?_ <| .grow rfl ?_ <| .store rfl ?_ <| .store rfl ?_ <| .grow rfl ?_ <| .nil) ?_
      · intro j σ τ w h hR
        match j, h, hR with
        | 0, h, hR => exact (h 0 (List.mem_singleton.2 rfl)).symm.trans hR
        | 1, h, hR => exact (h 1 (List.mem_singleton.2 rfl)).symm.trans hR
        | 2, _, hR => exact hR
        | 3, _, hR => exact hR
        | 4, h, hR => exact (h 4 (List.mem_singleton.2 rfl)).symm.trans hR
        | _ + 5, _, _ => exact trivial
      · intro j σ w w' hb hR
        match j, hR with
        | 0, hR => exact hR
        | 1, hR => exact hR
        | 2, hR => exact hR.below hb hR.lt
        | 3, hR => exact hR.below hb hR.lt
        | 4, hR => exact hR
        | _ + 5, _ => exact trivial
      · exact ⟨hB.drew, hx, hy, hG, hM, ⟨_, _, _, _, _, hz⟩, fun _ => hz, ⟨_, _, _, _, _, _, _, _, _, _, _, _, hw_⟩, fun _ => hw_⟩
      · -- 0: Op.load 75 t2
        go_light
        intro L σ W' hcl hL hC hw
        clear hw
        have HC := Lib.hid hC
        obtain ⟨hB, hx, hy, hG, hM, ⟨hz_x0, hz_x1, hz_x2, hz_x3, hz_x4, hz⟩, hz_o, ⟨hw__x0, hw__x1, hw__x2, hw__x3, hw__x4, hw__x5, hw__x6, hw__x7, hw__x8, hw__x9, hw__x10, hw__x11, hw_⟩, hw__o⟩ := hC
        have ks := hx.cell
        clear hcl hL
        clear hB hx hy hG hM hz hz_o hw_ hw__o
        refine OpGoes.step fun K hK => ?_
        unfold OpGoes
        go_simp
        obtain ⟨hB, hx, hy, hG, hM, ⟨hz_x0, hz_x1, hz_x2, hz_x3, hz_x4, hz⟩, hz_o, ⟨hw__x0, hw__x1, hw__x2, hw__x3, hw__x4, hw__x5, hw__x6, hw__x7, hw__x8, hw__x9, hw__x10, hw__x11, hw_⟩, hw__o⟩ := HC.out
        exact hK _ _ ⟨⟨hB, hx, hy, hG, hM, ⟨_, _, _, _, _, hz⟩, fun h => hz_o (by simpa [upd] using h), ⟨_, _, _, _, _, _, _, _, _, _, _, _, hw_⟩, fun h => hw__o (by simpa [upd] using h)⟩, rfl, Below.refl _ _⟩
      · -- 1: Op.load 41 t3
        go_light
        intro L σ W' hcl hL hC hw
        clear hw
        have HC := Lib.hid hC
        obtain ⟨hB, hx, hy, hG, hM, ⟨hz_x0, hz_x1, hz_x2, hz_x3, hz_x4, hz⟩, hz_o, ⟨hw__x0, hw__x1, hw__x2, hw__x3, hw__x4, hw__x5, hw__x6, hw__x7, hw__x8, hw__x9, hw__x10, hw__x11, hw_⟩, hw__o⟩ := hC
        have kh := hy.cell
        clear hcl hL
        clear hB hx hy hG hM hz hz_o hw_ hw__o
        refine OpGoes.step fun K hK => ?_
        unfold OpGoes
        go_simp
        obtain ⟨hB, hx, hy, hG, hM, ⟨hz_x0, hz_x1, hz_x2, hz_x3, hz_x4, hz⟩, hz_o, ⟨hw__x0, hw__x1, hw__x2, hw__x3, hw__x4, hw__x5, hw__x6, hw__x7, hw__x8, hw__x9, hw__x10, hw__x11, hw_⟩, hw__o⟩ := HC.out
        exact hK _ _ ⟨⟨hB, hx, hy, hG, hM, ⟨_, _, _, _, _, hz⟩, fun h => hz_o (by simpa [upd] using h), ⟨_, _, _, _, _, _, _, _, _, _, _, _, hw_⟩, fun h => hw__o (by simpa [upd] using h)⟩, rfl, Below.refl _ _⟩
      · -- 2: Op.store 75 t4 t32
        go_light
        intro L σ W' hcl hL hC hw hne
        have e0 : σ 0 = .agg #[.int .i64 s.rd, .int .i64 s.mo, .slice (some ⟨b, 0, none⟩) n cap, .int .i64 s.fi, .int .i64 s.la] := hw 0 (by kernel_rfl)
        clear hw hne
        have HC := Lib.hid hC
        obtain ⟨hB, hx, hy, hG, hM, ⟨hz_x0, hz_x1, hz_x2, hz_x3, hz_x4, hz⟩, hz_o, ⟨hw__x0, hw__x1, hw__x2, hw__x3, hw__x4, hw__x5, hw__x6, hw__x7, hw__x8, hw__x9, hw__x10, hw__x11, hw_⟩, hw__o⟩ := hC
        clear hcl hL
        have kc_ := hz.cell
        have kf_ := hz.frozen
        clear hB hx hy hG hM hz hz_o hw_ hw__o
        refine OpGoes.step fun K hK => ?_
        unfold OpGoes
        go_simp
        obtain ⟨hB, hx, hy, hG, hM, ⟨hz_x0, hz_x1, hz_x2, hz_x3, hz_x4, hz⟩, hz_o, ⟨hw__x0, hw__x1, hw__x2, hw__x3, hw__x4, hw__x5, hw__x6, hw__x7, hw__x8, hw__x9, hw__x10, hw__x11, hw_⟩, hw__o⟩ := HC.out
        have hset := sets_all (us := [.int .i64 s.rd, .int .i64 s.mo, .slice (some ⟨b, 0, none⟩) n cap, .int .i64 s.fi, .int .i64 s.la]) hz rfl
        refine hK undef (setCells W' (w.heap.size + 1 + 1) 0 [.int .i64 s.rd, .int .i64 s.mo, .slice (some ⟨b, 0, none⟩) n cap, .int .i64 s.fi, .int .i64 s.la]) ⟨⟨(Below.setCells (by omega) [.int .i64 s.rd, .int .i64 s.mo, .slice (some ⟨b, 0, none⟩) n cap, .int .i64 s.fi, .int .i64 s.la] 0 hB), (BoxAt.sets_ne [.int .i64 s.rd, .int .i64 s.mo, .slice (some ⟨b, 0, none⟩) n cap, .int .i64 s.fi, .int .i64 s.la] 0 hx (by omega)), (BoxAt.sets_ne [.int .i64 s.rd, .int .i64 s.mo, .slice (some ⟨b, 0, none⟩) n cap, .int .i64 s.fi, .int .i64 s.la] 0 hy (by omega)), (RgsW.sts hG (by omega) [.int .i64 s.rd, .int .i64 s.mo, .slice (some ⟨b, 0, none⟩) n cap, .int .i64 s.fi, .int .i64 s.la] 0), (size_sts hM [.int .i64 s.rd, .int .i64 s.mo, .slice (some ⟨b, 0, none⟩) n cap, .int .i64 s.fi, .int .i64 s.la] 0), ⟨_, _, _, _, _, hset⟩, fun h => absurd h (by simp [upd]), ⟨_, _, _, _, _, _, _, _, _, _, _, _, (BoxAt.sets_ne [.int .i64 s.rd, .int .i64 s.mo, .slice (some ⟨b, 0, none⟩) n cap, .int .i64 s.fi, .int .i64 s.la] 0 hw_ (by omega))⟩, fun h => (BoxAt.sets_ne [.int .i64 s.rd, .int .i64 s.mo, .slice (some ⟨b, 0, none⟩) n cap, .int .i64 s.fi, .int .i64 s.la] 0 (hw__o (by simpa [upd] using h)) (by omega))⟩, hset, Nat.le_of_eq (sets_size _ _ _).symm, fun j hj hn hR => ?_⟩
        match j, hj, hn, hR with
        | 0, _, _, hR => exact (show σ 0 = .agg #[.int .i64 s.rd, .int .i64 s.mo, .slice (some ⟨b, 0, none⟩) n cap, .int .i64 s.fi, .int .i64 s.la] from hR)
        | 1, _, _, hR => exact (show σ 1 = .agg #[.int .i64 h2.at_, .int .i64 h2.v, .int .i64 h2.r, .int .i64 h2.t, .bool h2.seen.s, .int .i64 h2.seen.n, .bool h2.seen.f, .int .i64 h2.seen.v, .int .i64 h2.tr, .int .i64 h2.sp, .bool h2.ag, .int .i64 h2.re] from hR)
        | 2, hj, _, _ => exact absurd rfl hj
        | 3, _, _, hR => exact (BoxAt.sets_ne [.int .i64 s.rd, .int .i64 s.mo, .slice (some ⟨b, 0, none⟩) n cap, .int .i64 s.fi, .int .i64 s.la] 0 hR (by omega))
        | 4, _, _, hR => exact (show σ 4 = .bool true from hR)
        | _ + 5, _, _, _ => exact trivial
      · -- 3: Op.store 41 t5 t33
        go_light
        intro L σ W' hcl hL hC hw hne
        have e1 : σ 1 = .agg #[.int .i64 h2.at_, .int .i64 h2.v, .int .i64 h2.r, .int .i64 h2.t, .bool h2.seen.s, .int .i64 h2.seen.n, .bool h2.seen.f, .int .i64 h2.seen.v, .int .i64 h2.tr, .int .i64 h2.sp, .bool h2.ag, .int .i64 h2.re] := hw 1 (by kernel_rfl)
        clear hw hne
        have HC := Lib.hid hC
        obtain ⟨hB, hx, hy, hG, hM, ⟨hz_x0, hz_x1, hz_x2, hz_x3, hz_x4, hz⟩, hz_o, ⟨hw__x0, hw__x1, hw__x2, hw__x3, hw__x4, hw__x5, hw__x6, hw__x7, hw__x8, hw__x9, hw__x10, hw__x11, hw_⟩, hw__o⟩ := hC
        clear hcl hL
        have kc_ := hw_.cell
        have kf_ := hw_.frozen
        clear hB hx hy hG hM hz hz_o hw_ hw__o
        refine OpGoes.step fun K hK => ?_
        unfold OpGoes
        go_simp
        obtain ⟨hB, hx, hy, hG, hM, ⟨hz_x0, hz_x1, hz_x2, hz_x3, hz_x4, hz⟩, hz_o, ⟨hw__x0, hw__x1, hw__x2, hw__x3, hw__x4, hw__x5, hw__x6, hw__x7, hw__x8, hw__x9, hw__x10, hw__x11, hw_⟩, hw__o⟩ := HC.out
        have hset := sets_all (us := [.int .i64 h2.at_, .int .i64 h2.v, .int .i64 h2.r, .int .i64 h2.t, .bool h2.seen.s, .int .i64 h2.seen.n, .bool h2.seen.f, .int .i64 h2.seen.v, .int .i64 h2.tr, .int .i64 h2.sp, .bool h2.ag, .int .i64 h2.re]) hw_ rfl
        refine hK undef (setCells W' (w.heap.size + 1 + 1 + 1) 0 [.int .i64 h2.at_, .int .i64 h2.v, .int .i64 h2.r, .int .i64 h2.t, .bool h2.seen.s, .int .i64 h2.seen.n, .bool h2.seen.f, .int .i64 h2.seen.v, .int .i64 h2.tr, .int .i64 h2.sp, .bool h2.ag, .int .i64 h2.re]) ⟨⟨(Below.setCells (by omega) [.int .i64 h2.at_, .int .i64 h2.v, .int .i64 h2.r, .int .i64 h2.t, .bool h2.seen.s, .int .i64 h2.seen.n, .bool h2.seen.f, .int .i64 h2.seen.v, .int .i64 h2.tr, .int .i64 h2.sp, .bool h2.ag, .int .i64 h2.re] 0 hB), (BoxAt.sets_ne [.int .i64 h2.at_, .int .i64 h2.v, .int .i64 h2.r, .int .i64 h2.t, .bool h2.seen.s, .int .i64 h2.seen.n, .bool h2.seen.f, .int .i64 h2.seen.v, .int .i64 h2.tr, .int .i64 h2.sp, .bool h2.ag, .int .i64 h2.re] 0 hx (by omega)), (BoxAt.sets_ne [.int .i64 h2.at_, .int .i64 h2.v, .int .i64 h2.r, .int .i64 h2.t, .bool h2.seen.s, .int .i64 h2.seen.n, .bool h2.seen.f, .int .i64 h2.seen.v, .int .i64 h2.tr, .int .i64 h2.sp, .bool h2.ag, .int .i64 h2.re] 0 hy (by omega)), (RgsW.sts hG (by omega) [.int .i64 h2.at_, .int .i64 h2.v, .int .i64 h2.r, .int .i64 h2.t, .bool h2.seen.s, .int .i64 h2.seen.n, .bool h2.seen.f, .int .i64 h2.seen.v, .int .i64 h2.tr, .int .i64 h2.sp, .bool h2.ag, .int .i64 h2.re] 0), (size_sts hM [.int .i64 h2.at_, .int .i64 h2.v, .int .i64 h2.r, .int .i64 h2.t, .bool h2.seen.s, .int .i64 h2.seen.n, .bool h2.seen.f, .int .i64 h2.seen.v, .int .i64 h2.tr, .int .i64 h2.sp, .bool h2.ag, .int .i64 h2.re] 0), ⟨_, _, _, _, _, (BoxAt.sets_ne [.int .i64 h2.at_, .int .i64 h2.v, .int .i64 h2.r, .int .i64 h2.t, .bool h2.seen.s, .int .i64 h2.seen.n, .bool h2.seen.f, .int .i64 h2.seen.v, .int .i64 h2.tr, .int .i64 h2.sp, .bool h2.ag, .int .i64 h2.re] 0 hz (by omega))⟩, fun h => (BoxAt.sets_ne [.int .i64 h2.at_, .int .i64 h2.v, .int .i64 h2.r, .int .i64 h2.t, .bool h2.seen.s, .int .i64 h2.seen.n, .bool h2.seen.f, .int .i64 h2.seen.v, .int .i64 h2.tr, .int .i64 h2.sp, .bool h2.ag, .int .i64 h2.re] 0 (hz_o (by simpa [upd] using h)) (by omega)), ⟨_, _, _, _, _, _, _, _, _, _, _, _, hset⟩, fun h => absurd h (by simp [upd])⟩, hset, Nat.le_of_eq (sets_size _ _ _).symm, fun j hj hn hR => ?_⟩
        match j, hj, hn, hR with
        | 0, _, _, hR => exact (show σ 0 = .agg #[.int .i64 s.rd, .int .i64 s.mo, .slice (some ⟨b, 0, none⟩) n cap, .int .i64 s.fi, .int .i64 s.la] from hR)
        | 1, _, _, hR => exact (show σ 1 = .agg #[.int .i64 h2.at_, .int .i64 h2.v, .int .i64 h2.r, .int .i64 h2.t, .bool h2.seen.s, .int .i64 h2.seen.n, .bool h2.seen.f, .int .i64 h2.seen.v, .int .i64 h2.tr, .int .i64 h2.sp, .bool h2.ag, .int .i64 h2.re] from hR)
        | 2, _, _, hR => exact (BoxAt.sets_ne [.int .i64 h2.at_, .int .i64 h2.v, .int .i64 h2.r, .int .i64 h2.t, .bool h2.seen.s, .int .i64 h2.seen.n, .bool h2.seen.f, .int .i64 h2.seen.v, .int .i64 h2.tr, .int .i64 h2.sp, .bool h2.ag, .int .i64 h2.re] 0 hR (by omega))
        | 3, hj, _, _ => exact absurd rfl hj
        | 4, _, _, hR => exact (show σ 4 = .bool true from hR)
        | _ + 5, _, _, _ => exact trivial
      · -- 4: Op.assign (const (Value.bool true))
        go_light
        intro L σ W' hcl hL hC hw
        clear hw
        have HC := Lib.hid hC
        clear hC
        clear hcl hL
        refine OpGoes.step fun K hK => ?_
        unfold OpGoes
        go_simp
        obtain ⟨hB, hx, hy, hG, hM, ⟨hz_x0, hz_x1, hz_x2, hz_x3, hz_x4, hz⟩, hz_o, ⟨hw__x0, hw__x1, hw__x2, hw__x3, hw__x4, hw__x5, hw__x6, hw__x7, hw__x8, hw__x9, hw__x10, hw__x11, hw_⟩, hw__o⟩ := HC.out
        exact hK _ _ ⟨⟨hB, hx, hy, hG, hM, ⟨_, _, _, _, _, hz⟩, fun h => hz_o (by simpa [upd] using h), ⟨_, _, _, _, _, _, _, _, _, _, _, _, hw_⟩, fun h => hw__o (by simpa [upd] using h)⟩, rfl, Below.refl _ _⟩
      · intro σ L W' hall hC hR
        obtain ⟨hB, hx, hy, hG, hM, ⟨hz_x0, hz_x1, hz_x2, hz_x3, hz_x4, hz⟩, hz_o, ⟨hw__x0, hw__x1, hw__x2, hw__x3, hw__x4, hw__x5, hw__x6, hw__x7, hw__x8, hw__x9, hw__x10, hw__x11, hw_⟩, hw__o⟩ := hC
        have sv2 : BoxAt W' (w.heap.size + 1 + 1) #[.int .i64 s.rd, .int .i64 s.mo, .slice (some ⟨b, 0, none⟩) n cap, .int .i64 s.fi, .int .i64 s.la] 75 := hR 2 (by decide)
        have sv3 : BoxAt W' (w.heap.size + 1 + 1 + 1) #[.int .i64 h2.at_, .int .i64 h2.v, .int .i64 h2.r, .int .i64 h2.t, .bool h2.seen.s, .int .i64 h2.seen.n, .bool h2.seen.f, .int .i64 h2.seen.v, .int .i64 h2.tr, .int .i64 h2.sp, .bool h2.ag, .int .i64 h2.re] 41 := hR 3 (by decide)
        have e4 : σ 4 = .bool true := hR 4 (by decide)
        clear hR
        simp only [lexAll]
        go_simp
        go_step
        have k7 := sv2.cell
        have k8 := sv3.cell
        go_wp2
        refine bodyPost_ret (v := .tuple #[stV s (some ⟨b, 0, none⟩) n cap, hdV h2, .bool true]) (by simp [results, Try.results103, go_sem, k7, k8, stV, hdV, Hd.rest, Hd.zero]) rfl ⟨some ⟨b, 0, none⟩, n, cap, by rw [HV.out], ?_, hB⟩
        rw [HV.out]
        exact hG.cut.mono (by omega) (Nat.le_refl _)
    · have HC := Lib.hid (show ((s.at r).c || decide (tr ≤ (s.at r).t)) = false by rw [HAT.out]; simp [h1, hc0])
      go_upto_region 26 with fail
      have HV := Lib.hid (show take21 s ⟨21, v, r, t, seen, tr, sp, ag, re⟩ = (s, (⟨22, v, r, rg.t, seen, tr, sp, ag, re⟩ : Hd), true) by simp only [take21, HC.out]; rw [HAT.out]; rfl)
      refine wp_abs (fun W' => Below w.heap.size w W' ∧ BoxAt W' w.heap.size #[.int .i64 s.rd, .int .i64 s.mo, .slice (some ⟨b, 0, none⟩) n cap, .int .i64 s.fi, .int .i64 s.la] 75 ∧ BoxAt W' (w.heap.size + 1) #[.int .i64 ((⟨22, v, r, rg.t, seen, tr, sp, ag, re⟩ : Hd)).at_, .int .i64 ((⟨22, v, r, rg.t, seen, tr, sp, ag, re⟩ : Hd)).v, .int .i64 ((⟨22, v, r, rg.t, seen, tr, sp, ag, re⟩ : Hd)).r, .int .i64 ((⟨22, v, r, rg.t, seen, tr, sp, ag, re⟩ : Hd)).t, .bool ((⟨22, v, r, rg.t, seen, tr, sp, ag, re⟩ : Hd)).seen.s, .int .i64 ((⟨22, v, r, rg.t, seen, tr, sp, ag, re⟩ : Hd)).seen.n, .bool ((⟨22, v, r, rg.t, seen, tr, sp, ag, re⟩ : Hd)).seen.f, .int .i64 ((⟨22, v, r, rg.t, seen, tr, sp, ag, re⟩ : Hd)).seen.v, .int .i64 ((⟨22, v, r, rg.t, seen, tr, sp, ag, re⟩ : Hd)).tr, .int .i64 ((⟨22, v, r, rg.t, seen, tr, sp, ag, re⟩ : Hd)).sp, .bool ((⟨22, v, r, rg.t, seen, tr, sp, ag, re⟩ : Hd)).ag, .int .i64 ((⟨22, v, r, rg.t, seen, tr, sp, ag, re⟩ : Hd)).re] 41 ∧ BoxAt W' (w.heap.size + 1 + 1) #[.int .i64 0, .int .i64 0, .slice none 0 0, .int .i64 0, .int .i64 0] 75 ∧ BoxAt W' (w.heap.size + 1 + 1 + 1) #[.int .i64 0, .int .i64 0, .int .i64 0, .int .i64 0, .bool false, .int .i64 0, .bool false, .int .i64 0, .int .i64 0, .int .i64 0, .bool false, .int .i64 0] 41 ∧ RgsW lo hi W' (some ⟨b, 0, none⟩) n cap (s).rs ∧ hi ≤ W'.heap.size) ⟨((hB.setCell (by dsimp only; omega) _).setCell (by dsimp only; omega) _), ((hx.set_ne (by omega) _ _).set_ne (by omega) _ _), by simpa using ((hy.set 3 (.int .i64 rg.t)).set 0 (.int .i64 22)), ((hz.set_ne (by omega) _ _).set_ne (by omega) _ _), ((hw_.set_ne (by omega) _ _).set_ne (by omega) _ _), ((hs0.st (.inr (by omega)) _ _).st (.inr (by omega)) _ _), by simp; omega⟩ ?_
      clear kx ky fy kZ hB hx hy hz hw_ hs0 hZ
      generalize hq2 : (⟨22, v, r, rg.t, seen, tr, sp, ag, re⟩ : Hd) = h2 at *
      clear hq2
      rintro W ⟨hB, hx, hy, hz, hw_, hG, hhi⟩
      have lw := hw_.lt
      obtain ⟨M, hMe⟩ : ∃ M, M = W.heap.size := ⟨_, rfl⟩
      have hM : M ≤ W.heap.size := by omega
      have hhi2 : hi ≤ M := by omega
      clear hMe
      refine wp_region2 (fun w w' => Below w.heap.size w w') (fun _ _ h => h.size) (fun L W' => Below w.heap.size w W' ∧ BoxAt W' w.heap.size #[.int .i64 s.rd, .int .i64 s.mo, .slice (some ⟨b, 0, none⟩) n cap, .int .i64 s.fi, .int .i64 s.la] 75 ∧ BoxAt W' (w.heap.size + 1) #[.int .i64 h2.at_, .int .i64 h2.v, .int .i64 h2.r, .int .i64 h2.t, .bool h2.seen.s, .int .i64 h2.seen.n, .bool h2.seen.f, .int .i64 h2.seen.v, .int .i64 h2.tr, .int .i64 h2.sp, .bool h2.ag, .int .i64 h2.re] 41 ∧ RgsW lo hi W' (some ⟨b, 0, none⟩) n cap s.rs ∧ M ≤ W'.heap.size ∧ (∃ x0 x1 x2 x3 x4, BoxAt W' (w.heap.size + 1 + 1) #[x0, x1, x2, x3, x4] 75) ∧ (L 2 = false → BoxAt W' (w.heap.size + 1 + 1) #[.int .i64 0, .int .i64 0, .slice none 0 0, .int .i64 0, .int .i64 0] 75) ∧ (∃ x0 x1 x2 x3 x4 x5 x6 x7 x8 x9 x10 x11, BoxAt W' (w.heap.size + 1 + 1 + 1) #[x0, x1, x2, x3, x4, x5, x6, x7, x8, x9, x10, x11] 41) ∧ (L 3 = false → BoxAt W' (w.heap.size + 1 + 1 + 1) #[.int .i64 0, .int .i64 0, .int .i64 0, .int .i64 0, .bool false, .int .i64 0, .bool false, .int .i64 0, .int .i64 0, .int .i64 0, .bool false, .int .i64 0] 41)) (fxDR s w.heap.size w.heap.size (w.heap.size + 1) n cap (some ⟨b, 0, none⟩) h2) fxDK fxDS (by kernel_rfl) (by kernel_rfl) ?_ ?_ ?_
        (.grow rfl ?_ <| .grow rfl ?_ <| .store rfl ?_ <| .store rfl ?_ <| .grow rfl ?_ <| .nil) ?_
      · intro j σ τ w h hR
        match j, h, hR with
        | 0, h, hR => exact (h 0 (List.mem_singleton.2 rfl)).symm.trans hR
        | 1, h, hR => exact (h 1 (List.mem_singleton.2 rfl)).symm.trans hR
        | 2, _, hR => exact hR
        | 3, _, hR => exact hR
        | 4, h, hR => exact (h 4 (List.mem_singleton.2 rfl)).symm.trans hR
        | _ + 5, _, _ => exact trivial
      · intro j σ w w' hb hR
        match j, hR with
        | 0, hR => exact hR
        | 1, hR => exact hR
        | 2, hR => exact hR.below hb hR.lt
        | 3, hR => exact hR.below hb hR.lt
        | 4, hR => exact hR
        | _ + 5, _ => exact trivial
      · exact ⟨hB.drew, hx, hy, hG, hM, ⟨_, _, _, _, _, hz⟩, fun _ => hz, ⟨_, _, _, _, _, _, _, _, _, _, _, _, hw_⟩, fun _ => hw_⟩
      · -- 0: Op.load 75 t2
        go_light
        intro L σ W' hcl hL hC hw
        clear hw
        have HC := Lib.hid hC
        obtain ⟨hB, hx, hy, hG, hM, ⟨hz_x0, hz_x1, hz_x2, hz_x3, hz_x4, hz⟩, hz_o, ⟨hw__x0, hw__x1, hw__x2, hw__x3, hw__x4, hw__x5, hw__x6, hw__x7, hw__x8, hw__x9, hw__x10, hw__x11, hw_⟩, hw__o⟩ := hC
        have ks := hx.cell
        clear hcl hL
        clear hB hx hy hG hM hz hz_o hw_ hw__o
        refine OpGoes.step fun K hK => ?_
        unfold OpGoes
        go_simp
        obtain ⟨hB, hx, hy, hG, hM, ⟨hz_x0, hz_x1, hz_x2, hz_x3, hz_x4, hz⟩, hz_o, ⟨hw__x0, hw__x1, hw__x2, hw__x3, hw__x4, hw__x5, hw__x6, hw__x7, hw__x8, hw__x9, hw__x10, hw__x11, hw_⟩, hw__o⟩ := HC.out
        exact hK _ _ ⟨⟨hB, hx, hy, hG, hM, ⟨_, _, _, _, _, hz⟩, fun h => hz_o (by simpa [upd] using h), ⟨_, _, _, _, _, _, _, _, _, _, _, _, hw_⟩, fun h => hw__o (by simpa [upd] using h)⟩, rfl, Below.refl _ _⟩
      · -- 1: Op.load 41 t3
        go_light
        intro L σ W' hcl hL hC hw
        clear hw
        have HC := Lib.hid hC
        obtain ⟨hB, hx, hy, hG, hM, ⟨hz_x0, hz_x1, hz_x2, hz_x3, hz_x4, hz⟩, hz_o, ⟨hw__x0, hw__x1, hw__x2, hw__x3, hw__x4, hw__x5, hw__x6, hw__x7, hw__x8, hw__x9, hw__x10, hw__x11, hw_⟩, hw__o⟩ := hC
        have kh := hy.cell
        clear hcl hL
        clear hB hx hy hG hM hz hz_o hw_ hw__o
        refine OpGoes.step fun K hK => ?_
        unfold OpGoes
        go_simp
        obtain ⟨hB, hx, hy, hG, hM, ⟨hz_x0, hz_x1, hz_x2, hz_x3, hz_x4, hz⟩, hz_o, ⟨hw__x0, hw__x1, hw__x2, hw__x3, hw__x4, hw__x5, hw__x6, hw__x7, hw__x8, hw__x9, hw__x10, hw__x11, hw_⟩, hw__o⟩ := HC.out
        exact hK _ _ ⟨⟨hB, hx, hy, hG, hM, ⟨_, _, _, _, _, hz⟩, fun h => hz_o (by simpa [upd] using h), ⟨_, _, _, _, _, _, _, _, _, _, _, _, hw_⟩, fun h => hw__o (by simpa [upd] using h)⟩, rfl, Below.refl _ _⟩
      · -- 2: Op.store 75 t4 t81
        go_light
        intro L σ W' hcl hL hC hw hne
        have e0 : σ 0 = .agg #[.int .i64 s.rd, .int .i64 s.mo, .slice (some ⟨b, 0, none⟩) n cap, .int .i64 s.fi, .int .i64 s.la] := hw 0 (by kernel_rfl)
        clear hw hne
        have HC := Lib.hid hC
        obtain ⟨hB, hx, hy, hG, hM, ⟨hz_x0, hz_x1, hz_x2, hz_x3, hz_x4, hz⟩, hz_o, ⟨hw__x0, hw__x1, hw__x2, hw__x3, hw__x4, hw__x5, hw__x6, hw__x7, hw__x8, hw__x9, hw__x10, hw__x11, hw_⟩, hw__o⟩ := hC
        clear hcl hL
        have kc_ := hz.cell
        have kf_ := hz.frozen
        clear hB hx hy hG hM hz hz_o hw_ hw__o
        refine OpGoes.step fun K hK => ?_
        unfold OpGoes
        go_simp
        obtain ⟨hB, hx, hy, hG, hM, ⟨hz_x0, hz_x1, hz_x2, hz_x3, hz_x4, hz⟩, hz_o, ⟨hw__x0, hw__x1, hw__x2, hw__x3, hw__x4, hw__x5, hw__x6, hw__x7, hw__x8, hw__x9, hw__x10, hw__x11, hw_⟩, hw__o⟩ := HC.out
        have hset := sets_all (us := [.int .i64 s.rd, .int .i64 s.mo, .slice (some ⟨b, 0, none⟩) n cap, .int .i64 s.fi, .int .i64 s.la]) hz rfl
        refine hK undef (setCells W' (w.heap.size + 1 + 1) 0 [.int .i64 s.rd, .int .i64 s.mo, .slice (some ⟨b, 0, none⟩) n cap, .int .i64 s.fi, .int .i64 s.la]) ⟨⟨(Below.setCells (by omega) [.int .i64 s.rd, .int .i64 s.mo, .slice (some ⟨b, 0, none⟩) n cap, .int .i64 s.fi, .int .i64 s.la] 0 hB), (BoxAt.sets_ne [.int .i64 s.rd, .int .i64 s.mo, .slice (some ⟨b, 0, none⟩) n cap, .int .i64 s.fi, .int .i64 s.la] 0 hx (by omega)), (BoxAt.sets_ne [.int .i64 s.rd, .int .i64 s.mo, .slice (some ⟨b, 0, none⟩) n cap, .int .i64 s.fi, .int .i64 s.la] 0 hy (by omega)), (RgsW.sts hG (by omega) [.int .i64 s.rd, .int .i64 s.mo, .slice (some ⟨b, 0, none⟩) n cap, .int .i64 s.fi, .int .i64 s.la] 0), (size_sts hM [.int .i64 s.rd, .int .i64 s.mo, .slice (some ⟨b, 0, none⟩) n cap, .int .i64 s.fi, .int .i64 s.la] 0), ⟨_, _, _, _, _, hset⟩, fun h => absurd h (by simp [upd]), ⟨_, _, _, _, _, _, _, _, _, _, _, _, (BoxAt.sets_ne [.int .i64 s.rd, .int .i64 s.mo, .slice (some ⟨b, 0, none⟩) n cap, .int .i64 s.fi, .int .i64 s.la] 0 hw_ (by omega))⟩, fun h => (BoxAt.sets_ne [.int .i64 s.rd, .int .i64 s.mo, .slice (some ⟨b, 0, none⟩) n cap, .int .i64 s.fi, .int .i64 s.la] 0 (hw__o (by simpa [upd] using h)) (by omega))⟩, hset, Nat.le_of_eq (sets_size _ _ _).symm, fun j hj hn hR => ?_⟩
        match j, hj, hn, hR with
        | 0, _, _, hR => exact (show σ 0 = .agg #[.int .i64 s.rd, .int .i64 s.mo, .slice (some ⟨b, 0, none⟩) n cap, .int .i64 s.fi, .int .i64 s.la] from hR)
        | 1, _, _, hR => exact (show σ 1 = .agg #[.int .i64 h2.at_, .int .i64 h2.v, .int .i64 h2.r, .int .i64 h2.t, .bool h2.seen.s, .int .i64 h2.seen.n, .bool h2.seen.f, .int .i64 h2.seen.v, .int .i64 h2.tr, .int .i64 h2.sp, .bool h2.ag, .int .i64 h2.re] from hR)
        | 2, hj, _, _ => exact absurd rfl hj
        | 3, _, _, hR => exact (BoxAt.sets_ne [.int .i64 s.rd, .int .i64 s.mo, .slice (some ⟨b, 0, none⟩) n cap, .int .i64 s.fi, .int .i64 s.la] 0 hR (by omega))
        | 4, _, _, hR => exact (show σ 4 = .bool true from hR)
        | _ + 5, _, _, _ => exact trivial
      · -- 3: Op.store 41 t5 t82
        go_light
        intro L σ W' hcl hL hC hw hne
        have e1 : σ 1 = .agg #[.int .i64 h2.at_, .int .i64 h2.v, .int .i64 h2.r, .int .i64 h2.t, .bool h2.seen.s, .int .i64 h2.seen.n, .bool h2.seen.f, .int .i64 h2.seen.v, .int .i64 h2.tr, .int .i64 h2.sp, .bool h2.ag, .int .i64 h2.re] := hw 1 (by kernel_rfl)
        clear hw hne
        have HC := Lib.hid hC
        obtain ⟨hB, hx, hy, hG, hM, ⟨hz_x0, hz_x1, hz_x2, hz_x3, hz_x4, hz⟩, hz_o, ⟨hw__x0, hw__x1, hw__x2, hw__x3, hw__x4, hw__x5, hw__x6, hw__x7, hw__x8, hw__x9, hw__x10, hw__x11, hw_⟩, hw__o⟩ := hC
        clear hcl hL
        have kc_ := hw_.cell
        have kf_ := hw_.frozen
        clear hB hx hy hG hM hz hz_o hw_ hw__o
        refine OpGoes.step fun K hK => ?_
        unfold OpGoes
        go_simp
        obtain ⟨hB, hx, hy, hG, hM, ⟨hz_x0, hz_x1, hz_x2, hz_x3, hz_x4, hz⟩, hz_o, ⟨hw__x0, hw__x1, hw__x2, hw__x3, hw__x4, hw__x5, hw__x6, hw__x7, hw__x8, hw__x9, hw__x10, hw__x11, hw_⟩, hw__o⟩ := HC.out
        have hset := sets_all (us := [.int .i64 h2.at_, .int .i64 h2.v, .int .i64 h2.r, .int .i64 h2.t, .bool h2.seen.s, .int .i64 h2.seen.n, .bool h2.seen.f, .int .i64 h2.seen.v, .int .i64 h2.tr, .int .i64 h2.sp, .bool h2.ag, .int .i64 h2.re]) hw_ rfl
        refine hK undef (setCells W' (w.heap.size + 1 + 1 + 1) 0 [.int .i64 h2.at_, .int .i64 h2.v, .int .i64 h2.r, .int .i64 h2.t, .bool h2.seen.s, .int .i64 h2.seen.n, .bool h2.seen.f, .int .i64 h2.seen.v, .int .i64 h2.tr, .int .i64 h2.sp, .bool h2.ag, .int .i64 h2.re]) ⟨⟨(Below.setCells (by omega) [.int .i64 h2.at_, .int .i64 h2.v, .int .i64 h2.r, .int .i64 h2.t, .bool h2.seen.s, .int .i64 h2.seen.n, .bool h2.seen.f, .int .i64 h2.seen.v, .int .i64 h2.tr, .int .i64 h2.sp, .bool h2.ag, .int .i64 h2.re] 0 hB), (BoxAt.sets_ne [.int .i64 h2.at_, .int .i64 h2.v, .int .i64 h2.r, .int .i64 h2.t, .bool h2.seen.s, .int .i64 h2.seen.n, .bool h2.seen.f, .int .i64 h2.seen.v, .int .i64 h2.tr, .int .i64 h2.sp, .bool h2.ag, .int .i64 h2.re] 0 hx (by omega)), (BoxAt.sets_ne [.int .i64 h2.at_, .int .i64 h2.v, .int .i64 h2.r, .int .i64 h2.t, .bool h2.seen.s, .int .i64 h2.seen.n, .bool h2.seen.f, .int .i64 h2.seen.v, .int .i64 h2.tr, .int .i64 h2.sp, .bool h2.ag, .int .i64 h2.re] 0 hy (by omega)), (RgsW.sts hG (by omega) [.int .i64 h2.at_, .int .i64 h2.v, .int .i64 h2.r, .int .i64 h2.t, .bool h2.seen.s, .int .i64 h2.seen.n, .bool h2.seen.f, .int .i64 h2.seen.v, .int .i64 h2.tr, .int .i64 h2.sp, .bool h2.ag, .int .i64 h2.re] 0), (size_sts hM [.int .i64 h2.at_, .int .i64 h2.v, .int .i64 h2.r, .int .i64 h2.t, .bool h2.seen.s, .int .i64 h2.seen.n, .bool h2.seen.f, .int .i64 h2.seen.v, .int .i64 h2.tr, .int .i64 h2.sp, .bool h2.ag, .int .i64 h2.re] 0), ⟨_, _, _, _, _, (BoxAt.sets_ne [.int .i64 h2.at_, .int .i64 h2.v, .int .i64 h2.r, .int .i64 h2.t, .bool h2.seen.s, .int .i64 h2.seen.n, .bool h2.seen.f, .int .i64 h2.seen.v, .int .i64 h2.tr, .int .i64 h2.sp, .bool h2.ag, .int .i64 h2.re] 0 hz (by omega))⟩, fun h => (BoxAt.sets_ne [.int .i64 h2.at_, .int .i64 h2.v, .int .i64 h2.r, .int .i64 h2.t, .bool h2.seen.s, .int .i64 h2.seen.n, .bool h2.seen.f, .int .i64 h2.seen.v, .int .i64 h2.tr, .int .i64 h2.sp, .bool h2.ag, .int .i64 h2.re] 0 (hz_o (by simpa [upd] using h)) (by omega)), ⟨_, _, _, _, _, _, _, _, _, _, _, _, hset⟩, fun h => absurd h (by simp [upd])⟩, hset, Nat.le_of_eq (sets_size _ _ _).symm, fun j hj hn hR => ?_⟩
        match j, hj, hn, hR with
        | 0, _, _, hR => exact (show σ 0 = .agg #[.int .i64 s.rd, .int .i64 s.mo, .slice (some ⟨b, 0, none⟩) n cap, .int .i64 s.fi, .int .i64 s.la] from hR)
        | 1, _, _, hR => exact (show σ 1 = .agg #[.int .i64 h2.at_, .int .i64 h2.v, .int .i64 h2.r, .int .i64 h2.t, .bool h2.seen.s, .int .i64 h2.seen.n, .bool h2.seen.f, .int .i64 h2.seen.v, .int .i64 h2.tr, .int .i64 h2.sp, .bool h2.ag, .int .i64 h2.re] from hR)
        | 2, _, _, hR => exact (BoxAt.sets_ne [.int .i64 h2.at_, .int .i64 h2.v, .int .i64 h2.r, .int .i64 h2.t, .bool h2.seen.s, .int .i64 h2.seen.n, .bool h2.seen.f, .int .i64 h2.seen.v, .int .i64 h2.tr, .int .i64 h2.sp, .bool h2.ag, .int .i64 h2.re] 0 hR (by omega))
        | 3, hj, _, _ => exact absurd rfl hj
        | 4, _, _, hR => exact (show σ 4 = .bool true from hR)
        | _ + 5, _, _, _ => exact trivial
      · -- 4: Op.assign (const (Value.bool true))
        go_light
        intro L σ W' hcl hL hC hw
        clear hw
        have HC := Lib.hid hC
        clear hC
        clear hcl hL
        refine OpGoes.step fun K hK => ?_
        unfold OpGoes
        go_simp
        obtain ⟨hB, hx, hy, hG, hM, ⟨hz_x0, hz_x1, hz_x2, hz_x3, hz_x4, hz⟩, hz_o, ⟨hw__x0, hw__x1, hw__x2, hw__x3, hw__x4, hw__x5, hw__x6, hw__x7, hw__x8, hw__x9, hw__x10, hw__x11, hw_⟩, hw__o⟩ := HC.out
        exact hK _ _ ⟨⟨hB, hx, hy, hG, hM, ⟨_, _, _, _, _, hz⟩, fun h => hz_o (by simpa [upd] using h), ⟨_, _, _, _, _, _, _, _, _, _, _, _, hw_⟩, fun h => hw__o (by simpa [upd] using h)⟩, rfl, Below.refl _ _⟩
      · intro σ L W' hall hC hR
        obtain ⟨hB, hx, hy, hG, hM, ⟨hz_x0, hz_x1, hz_x2, hz_x3, hz_x4, hz⟩, hz_o, ⟨hw__x0, hw__x1, hw__x2, hw__x3, hw__x4, hw__x5, hw__x6, hw__x7, hw__x8, hw__x9, hw__x10, hw__x11, hw_⟩, hw__o⟩ := hC
        have sv2 : BoxAt W' (w.heap.size + 1 + 1) #[.int .i64 s.rd, .int .i64 s.mo, .slice (some ⟨b, 0, none⟩) n cap, .int .i64 s.fi, .int .i64 s.la] 75 := hR 2 (by decide)
        have sv3 : BoxAt W' (w.heap.size + 1 + 1 + 1) #[.int .i64 h2.at_, .int .i64 h2.v, .int .i64 h2.r, .int .i64 h2.t, .bool h2.seen.s, .int .i64 h2.seen.n, .bool h2.seen.f, .int .i64 h2.seen.v, .int .i64 h2.tr, .int .i64 h2.sp, .bool h2.ag, .int .i64 h2.re] 41 := hR 3 (by decide)
        have e4 : σ 4 = .bool true := hR 4 (by decide)
        clear hR
        simp only [lexAll]
        go_simp
        go_step
        have k7 := sv2.cell
        have k8 := sv3.cell
        go_wp2
        refine bodyPost_ret (v := .tuple #[stV s (some ⟨b, 0, none⟩) n cap, hdV h2, .bool true]) (by simp [results, Try.results103, go_sem, k7, k8, stV, hdV, Hd.rest, Hd.zero]) rfl ⟨some ⟨b, 0, none⟩, n, cap, by rw [HV.out], ?_, hB⟩
        rw [HV.out]
        exact hG.cut.mono (by omega) (Nat.le_refl _)
  · rw [hc0] at kZ
    have HC := Lib.hid (show ((s.at r).c || decide (tr ≤ (s.at r).t)) = true by rw [HAT.out]; simp [hc0])
    go_upto_region 7 with fail
    have HV := Lib.hid (show take21 s ⟨21, v, r, t, seen, tr, sp, ag, re⟩ = (s, (⟨23, v, r, t, seen, tr, sp, ag, re⟩ : Hd), true) by simp only [take21, HC.out, if_true])
    refine wp_abs (fun W' => Below w.heap.size w W' ∧ BoxAt W' w.heap.size #[.int .i64 s.rd, .int .i64 s.mo, .slice (some ⟨b, 0, none⟩) n cap, .int .i64 s.fi, .int .i64 s.la] 75 ∧ BoxAt W' (w.heap.size + 1) #[.int .i64 ((⟨23, v, r, t, seen, tr, sp, ag, re⟩ : Hd)).at_, .int .i64 ((⟨23, v, r, t, seen, tr, sp, ag, re⟩ : Hd)).v, .int .i64 ((⟨23, v, r, t, seen, tr, sp, ag, re⟩ : Hd)).r, .int .i64 ((⟨23, v, r, t, seen, tr, sp, ag, re⟩ : Hd)).t, .bool ((⟨23, v, r, t, seen, tr, sp, ag, re⟩ : Hd)).seen.s, .int .i64 ((⟨23, v, r, t, seen, tr, sp, ag, re⟩ : Hd)).seen.n, .bool ((⟨23, v, r, t, seen, tr, sp, ag, re⟩ : Hd)).seen.f, .int .i64 ((⟨23, v, r, t, seen, tr, sp, ag, re⟩ : Hd)).seen.v, .int .i64 ((⟨23, v, r, t, seen, tr, sp, ag, re⟩ : Hd)).tr, .int .i64 ((⟨23, v, r, t, seen, tr, sp, ag, re⟩ : Hd)).sp, .bool ((⟨23, v, r, t, seen, tr, sp, ag, re⟩ : Hd)).ag, .int .i64 ((⟨23, v, r, t, seen, tr, sp, ag, re⟩ : Hd)).re] 41 ∧ BoxAt W' (w.heap.size + 1 + 1) #[.int .i64 0, .int .i64 0, .slice none 0 0, .int .i64 0, .int .i64 0] 75 ∧ BoxAt W' (w.heap.size + 1 + 1 + 1) #[.int .i64 0, .int .i64 0, .int .i64 0, .int .i64 0, .bool false, .int .i64 0, .bool false, .int .i64 0, .int .i64 0, .int .i64 0, .bool false, .int .i64 0] 41 ∧ RgsW lo hi W' (some ⟨b, 0, none⟩) n cap (s).rs ∧ hi ≤ W'.heap.size) ⟨(hB.setCell (by dsimp only; omega) _), (hx.set_ne (by omega) _ _), by simpa using (hy.set 0 (.int .i64 23)), (hz.set_ne (by omega) _ _), (hw_.set_ne (by omega) _ _), (hs0.st (.inr (by omega)) _ _), by simp; omega⟩ ?_
    clear kx ky fy kZ hB hx hy hz hw_ hs0 hZ
    generalize hq2 : (⟨23, v, r, t, seen, tr, sp, ag, re⟩ : Hd) = h2 at *
    clear hq2
    rintro W ⟨hB, hx, hy, hz, hw_, hG, hhi⟩
    have lw := hw_.lt
    obtain ⟨M, hMe⟩ : ∃ M, M = W.heap.size := ⟨_, rfl⟩
    have hM : M ≤ W.heap.size := by omega
    have hhi2 : hi ≤ M := by omega
    clear hMe
    refine wp_region2 (fun w w' => Below w.heap.size w w') (fun _ _ h => h.size) (fun L W' => Below w.heap.size w W' ∧ BoxAt W' w.heap.size #[.int .i64 s.rd, .int .i64 s.mo, .slice (some ⟨b, 0, none⟩) n cap, .int .i64 s.fi, .int .i64 s.la] 75 ∧ BoxAt W' (w.heap.size + 1) #[.int .i64 h2.at_, .int .i64 h2.v, .int .i64 h2.r, .int .i64 h2.t, .bool h2.seen.s, .int .i64 h2.seen.n, .bool h2.seen.f, .int .i64 h2.seen.v, .int .i64 h2.tr, .int .i64 h2.sp, .bool h2.ag, .int .i64 h2.re] 41 ∧ RgsW lo hi W' (some ⟨b, 0, none⟩) n cap s.rs ∧ M ≤ W'.heap.size ∧ (∃ x0 x1 x2 x3 x4, BoxAt W' (w.heap.size + 1 + 1) #[x0, x1, x2, x3, x4] 75) ∧ (L 2 = false → BoxAt W' (w.heap.size + 1 + 1) #[.int .i64 0, .int .i64 0, .slice none 0 0, .int .i64 0, .int .i64 0] 75) ∧ (∃ x0 x1 x2 x3 x4 x5 x6 x7 x8 x9 x10 x11, BoxAt W' (w.heap.size + 1 + 1 + 1) #[x0, x1, x2, x3, x4, x5, x6, x7, x8, x9, x10, x11] 41) ∧ (L 3 = false → BoxAt W' (w.heap.size + 1 + 1 + 1) #[.int .i64 0, .int .i64 0, .int .i64 0, .int .i64 0, .bool false, .int .i64 0, .bool false, .int .i64 0, .int .i64 0, .int .i64 0, .bool false, .int .i64 0] 41)) (fxAR s w.heap.size w.heap.size (w.heap.size + 1) n cap (some ⟨b, 0, none⟩) h2) fxAK fxAS (by kernel_rfl) (by kernel_rfl) ?_ ?_ ?_
      (.grow rfl ?_ <| .grow rfl ?_ <| .store rfl ?_ <| .store rfl ?_ <| .grow rfl ?_ <| .nil) ?_
    · intro j σ τ w h hR
      match j, h, hR with
      | 0, h, hR => exact (h 0 (List.mem_singleton.2 rfl)).symm.trans hR
      | 1, h, hR => exact (h 1 (List.mem_singleton.2 rfl)).symm.trans hR
      | 2, _, hR => exact hR
      | 3, _, hR => exact hR
      | 4, h, hR => exact (h 4 (List.mem_singleton.2 rfl)).symm.trans hR
      | _ + 5, _, _ => exact trivial
    · intro j σ w w' hb hR
      match j, hR with
      | 0, hR => exact hR
      | 1, hR => exact hR
      | 2, hR => exact hR.below hb hR.lt
      | 3, hR => exact hR.below hb hR.lt
      | 4, hR => exact hR
      | _ + 5, _ => exact trivial
    · exact ⟨hB.drew, hx, hy, hG, hM, ⟨_, _, _, _, _, hz⟩, fun _ => hz, ⟨_, _, _, _, _, _, _, _, _, _, _, _, hw_⟩, fun _ => hw_⟩
    · -- 0: Op.load 75 t2
      go_light
      intro L σ W' hcl hL hC hw
      clear hw
      have HC := Lib.hid hC
      obtain ⟨hB, hx, hy, hG, hM, ⟨hz_x0, hz_x1, hz_x2, hz_x3, hz_x4, hz⟩, hz_o, ⟨hw__x0, hw__x1, hw__x2, hw__x3, hw__x4, hw__x5, hw__x6, hw__x7, hw__x8, hw__x9, hw__x10, hw__x11, hw_⟩, hw__o⟩ := hC
      have ks := hx.cell
      clear hcl hL
      clear hB hx hy hG hM hz hz_o hw_ hw__o
      refine OpGoes.step fun K hK => ?_
      unfold OpGoes
      go_simp
      obtain ⟨hB, hx, hy, hG, hM, ⟨hz_x0, hz_x1, hz_x2, hz_x3, hz_x4, hz⟩, hz_o, ⟨hw__x0, hw__x1, hw__x2, hw__x3, hw__x4, hw__x5, hw__x6, hw__x7, hw__x8, hw__x9, hw__x10, hw__x11, hw_⟩, hw__o⟩ := HC.out
      exact hK _ _ ⟨⟨hB, hx, hy, hG, hM, ⟨_, _, _, _, _, hz⟩, fun h => hz_o (by simpa [upd] using h), ⟨_, _, _, _, _, _, _, _, _, _, _, _, hw_⟩, fun h => hw__o (by simpa [upd] using h)⟩, rfl, Below.refl _ _⟩
    · -- 1: Op.load 41 t3
      go_light
      intro L σ W' hcl hL hC hw
      clear hw
      have HC := Lib.hid hC
      obtain ⟨hB, hx, hy, hG, hM, ⟨hz_x0, hz_x1, hz_x2, hz_x3, hz_x4, hz⟩, hz_o, ⟨hw__x0, hw__x1, hw__x2, hw__x3, hw__x4, hw__x5, hw__x6, hw__x7, hw__x8, hw__x9, hw__x10, hw__x11, hw_⟩, hw__o⟩ := hC
      have kh := hy.cell
      clear hcl hL
      clear hB hx hy hG hM hz hz_o hw_ hw__o
      refine OpGoes.step fun K hK => ?_
      unfold OpGoes
      go_simp
      obtain ⟨hB, hx, hy, hG, hM, ⟨hz_x0, hz_x1, hz_x2, hz_x3, hz_x4, hz⟩, hz_o, ⟨hw__x0, hw__x1, hw__x2, hw__x3, hw__x4, hw__x5, hw__x6, hw__x7, hw__x8, hw__x9, hw__x10, hw__x11, hw_⟩, hw__o⟩ := HC.out
      exact hK _ _ ⟨⟨hB, hx, hy, hG, hM, ⟨_, _, _, _, _, hz⟩, fun h => hz_o (by simpa [upd] using h), ⟨_, _, _, _, _, _, _, _, _, _, _, _, hw_⟩, fun h => hw__o (by simpa [upd] using h)⟩, rfl, Below.refl _ _⟩
    · -- 2: Op.store 75 t4 t32
      go_light
      intro L σ W' hcl hL hC hw hne
      have e0 : σ 0 = .agg #[.int .i64 s.rd, .int .i64 s.mo, .slice (some ⟨b, 0, none⟩) n cap, .int .i64 s.fi, .int .i64 s.la] := hw 0 (by kernel_rfl)
      clear hw hne
      have HC := Lib.hid hC
      obtain ⟨hB, hx, hy, hG, hM, ⟨hz_x0, hz_x1, hz_x2, hz_x3, hz_x4, hz⟩, hz_o, ⟨hw__x0, hw__x1, hw__x2, hw__x3, hw__x4, hw__x5, hw__x6, hw__x7, hw__x8, hw__x9, hw__x10, hw__x11, hw_⟩, hw__o⟩ := hC
      clear hcl hL
      have kc_ := hz.cell
      have kf_ := hz.frozen
      clear hB hx hy hG hM hz hz_o hw_ hw__o
      refine OpGoes.step fun K hK => ?_
      unfold OpGoes
      go_simp
      obtain ⟨hB, hx, hy, hG, hM, ⟨hz_x0, hz_x1, hz_x2, hz_x3, hz_x4, hz⟩, hz_o, ⟨hw__x0, hw__x1, hw__x2, hw__x3, hw__x4, hw__x5, hw__x6, hw__x7, hw__x8, hw__x9, hw__x10, hw__x11, hw_⟩, hw__o⟩ := HC.out
      have hset := sets_all (us := [.int .i64 s.rd, .int .i64 s.mo, .slice (some ⟨b, 0, none⟩) n cap, .int .i64 s.fi, .int .i64 s.la]) hz rfl
      refine hK undef (setCells W' (w.heap.size + 1 + 1) 0 [.int .i64 s.rd, .int .i64 s.mo, .slice (some ⟨b, 0, none⟩) n cap, .int .i64 s.fi, .int .i64 s.la]) ⟨⟨(Below.setCells (by omega) [.int .i64 s.rd, .int .i64 s.mo, .slice (some ⟨b, 0, none⟩) n cap, .int .i64 s.fi, .int .i64 s.la] 0 hB), (BoxAt.sets_ne [.int .i64 s.rd, .int .i64 s.mo, .slice (some ⟨b, 0, none⟩) n cap, .int .i64 s.fi, .int .i64 s.la] 0 hx (by omega)), (BoxAt.sets_ne [.int .i64 s.rd, .int .i64 s.mo, .slice (some ⟨b, 0, none⟩) n cap, .int .i64 s.fi, .int .i64 s.la] 0 hy (by omega)), (RgsW.sts hG (by omega) [.int .i64 s.rd, .int .i64 s.mo, .slice (some ⟨b, 0, none⟩) n cap, .int .i64 s.fi, .int .i64 s.la] 0), (size_sts hM [.int .i64 s.rd, .int .i64 s.mo, .slice (some ⟨b, 0, none⟩) n cap, .int .i64 s.fi, .int .i64 s.la] 0), ⟨_, _, _, _, _, hset⟩, fun h => absurd h (by simp [upd]), ⟨_, _, _, _, _, _, _, _, _, _, _, _, (BoxAt.sets_ne [.int .i64 s.rd, .int .i64 s.mo, .slice (some ⟨b, 0, none⟩) n cap, .int .i64 s.fi, .int .i64 s.la] 0 hw_ (by omega))⟩, fun h => (BoxAt.sets_ne [.int .i64 s.rd, .int .i64 s.mo, .slice (some ⟨b, 0, none⟩) n cap, .int .i64 s.fi, .int .i64 s.la] 0 (hw__o (by simpa [upd] using h)) (by omega))⟩, hset, Nat.le_of_eq (sets_size _ _ _).symm, fun j hj hn hR => ?_⟩
      match j, hj, hn, hR with
      | 0, _, _, hR => exact (show σ 0 = .agg #[.int .i64 s.rd, .int .i64 s.mo, .slice (some ⟨b, 0, none⟩) n cap, .int .i64 s.fi, .int .i64 s.la] from hR)
      | 1, _, _, hR => exact (show σ 1 = .agg #[.int .i64 h2.at_, .int .i64 h2.v, .int .i64 h2.r, .int .i64 h2.t, .bool h2.seen.s, .int .i64 h2.seen.n, .bool h2.seen.f, .int .i64 h2.seen.v, .int .i64 h2.tr, .int .i64 h2.sp, .bool h2.ag, .int .i64 h2.re] from hR)
      | 2, hj, _, _ => exact absurd rfl hj
      | 3, _, _, hR => exact (BoxAt.sets_ne [.int .i64 s.rd, .int .i64 s.mo, .slice (some ⟨b, 0, none⟩) n cap, .int .i64 s.fi, .int .i64 s.la] 0 hR (by omega))
      | 4, _, _, hR => exact (show σ 4 = .bool true from hR)
      | _ + 5, _, _, _ => exact trivial
    · -- 3: Op.store 41 t5 t33
      go_light
      intro L σ W' hcl hL hC hw hne
      have e1 : σ 1 = .agg #[.int .i64 h2.at_, .int .i64 h2.v, .int .i64 h2.r, .int .i64 h2.t, .bool h2.seen.s, .int .i64 h2.seen.n, .bool h2.seen.f, .int .i64 h2.seen.v, .int .i64 h2.tr, .int .i64 h2.sp, .bool h2.ag, .int .i64 h2.re] := hw 1 (by kernel_rfl)
      clear hw hne
      have HC := Lib.hid hC
      obtain ⟨hB, hx, hy, hG, hM, ⟨hz_x0, hz_x1, hz_x2, hz_x3, hz_x4, hz⟩, hz_o, ⟨hw__x0, hw__x1, hw__x2, hw__x3, hw__x4, hw__x5, hw__x6, hw__x7, hw__x8, hw__x9, hw__x10, hw__x11, hw_⟩, hw__o⟩ := hC
      clear hcl hL
      have kc_ := hw_.cell
      have kf_ := hw_.frozen
      clear hB hx hy hG hM hz hz_o hw_ hw__o
      refine OpGoes.step fun K hK => ?_
      unfold OpGoes
      go_simp
      obtain ⟨hB, hx, hy, hG, hM, ⟨hz_x0, hz_x1, hz_x2, hz_x3, hz_x4, hz⟩, hz_o, ⟨hw__x0, hw__x1, hw__x2, hw__x3, hw__x4, hw__x5, hw__x6, hw__x7, hw__x8, hw__x9, hw__x10, hw__x11, hw_⟩, hw__o⟩ := HC.out
      have hset := sets_all (us := [.int .i64 h2.at_, .int .i64 h2.v, .int .i64 h2.r, .int .i64 h2.t, .bool h2.seen.s, .int .i64 h2.seen.n, .bool h2.seen.f, .int .i64 h2.seen.v, .int .i64 h2.tr, .int .i64 h2.sp, .bool h2.ag, .int .i64 h2.re]) hw_ rfl
      refine hK undef (setCells W' (w.heap.size + 1 + 1 + 1) 0 [.int .i64 h2.at_, .int .i64 h2.v, .int .i64 h2.r, .int .i64 h2.t, .bool h2.seen.s, .int .i64 h2.seen.n, .bool h2.seen.f, .int .i64 h2.seen.v, .int .i64 h2.tr, .int .i64 h2.sp, .bool h2.ag, .int .i64 h2.re]) ⟨⟨(Below.setCells (by omega) [.int .i64 h2.at_, .int .i64 h2.v, .int .i64 h2.r, .int .i64 h2.t, .bool h2.seen.s, .int .i64 h2.seen.n, .bool h2.seen.f, .int .i64 h2.seen.v, .int .i64 h2.tr, .int .i64 h2.sp, .bool h2.ag, .int .i64 h2.re] 0 hB), (BoxAt.sets_ne [.int .i64 h2.at_, .int .i64 h2.v, .int .i64 h2.r, .int .i64 h2.t, .bool h2.seen.s, .int .i64 h2.seen.n, .bool h2.seen.f, .int .i64 h2.seen.v, .int .i64 h2.tr, .int .i64 h2.sp, .bool h2.ag, .int .i64 h2.re] 0 hx (by omega)), (BoxAt.sets_ne [.int .i64 h2.at_, .int .i64 h2.v, .int .i64 h2.r, .int .i64 h2.t, .bool h2.seen.s, .int .i64 h2.seen.n, .bool h2.seen.f, .int .i64 h2.seen.v, .int .i64 h2.tr, .int .i64 h2.sp, .bool h2.ag, .int .i64 h2.re] 0 hy (by omega)), (RgsW.sts hG (by omega) [.int .i64 h2.at_, .int .i64 h2.v, .int .i64 h2.r, .int .i64 h2.t, .bool h2.seen.s, .int .i64 h2.seen.n, .bool h2.seen.f, .int .i64 h2.seen.v, .int .i64 h2.tr, .int .i64 h2.sp, .bool h2.ag, .int .i64 h2.re] 0), (size_sts hM [.int .i64 h2.at_, .int .i64 h2.v, .int .i64 h2.r, .int .i64 h2.t, .bool h2.seen.s, .int .i64 h2.seen.n, .bool h2.seen.f, .int .i64 h2.seen.v, .int .i64 h2.tr, .int .i64 h2.sp, .bool h2.ag, .int .i64 h2.re] 0), ⟨_, _, _, _, _, (BoxAt.sets_ne [.int .i64 h2.at_, .int .i64 h2.v, .int .i64 h2.r, .int .i64 h2.t, .bool h2.seen.s, .int .i64 h2.seen.n, .bool h2.seen.f, .int .i64 h2.seen.v, .int .i64 h2.tr, .int .i64 h2.sp, .bool h2.ag, .int .i64 h2.re] 0 hz (by omega))⟩, fun h => (BoxAt.sets_ne [.int .i64 h2.at_, .int .i64 h2.v, .int .i64 h2.r, .int .i64 h2.t, .bool h2.seen.s, .int .i64 h2.seen.n, .bool h2.seen.f, .int .i64 h2.seen.v, .int .i64 h2.tr, .int .i64 h2.sp, .bool h2.ag, .int .i64 h2.re] 0 (hz_o (by simpa [upd] using h)) (by omega)), ⟨_, _, _, _, _, _, _, _, _, _, _, _, hset⟩, fun h => absurd h (by simp [upd])⟩, hset, Nat.le_of_eq (sets_size _ _ _).symm, fun j hj hn hR => ?_⟩
      match j, hj, hn, hR with
      | 0, _, _, hR => exact (show σ 0 = .agg #[.int .i64 s.rd, .int .i64 s.mo, .slice (some ⟨b, 0, none⟩) n cap, .int .i64 s.fi, .int .i64 s.la] from hR)
      | 1, _, _, hR => exact (show σ 1 = .agg #[.int .i64 h2.at_, .int .i64 h2.v, .int .i64 h2.r, .int .i64 h2.t, .bool h2.seen.s, .int .i64 h2.seen.n, .bool h2.seen.f, .int .i64 h2.seen.v, .int .i64 h2.tr, .int .i64 h2.sp, .bool h2.ag, .int .i64 h2.re] from hR)
      | 2, _, _, hR => exact (BoxAt.sets_ne [.int .i64 h2.at_, .int .i64 h2.v, .int .i64 h2.r, .int .i64 h2.t, .bool h2.seen.s, .int .i64 h2.seen.n, .bool h2.seen.f, .int .i64 h2.seen.v, .int .i64 h2.tr, .int .i64 h2.sp, .bool h2.ag, .int .i64 h2.re] 0 hR (by omega))
      | 3, hj, _, _ => exact absurd rfl hj
      | 4, _, _, hR => exact (show σ 4 = .bool true from hR)
      | _ + 5, _, _, _ => exact trivial
    · -- 4: Op.assign (const (Value.bool true))
      go_light
      intro L σ W' hcl hL hC hw
      clear hw
      have HC := Lib.hid hC
      clear hC
      clear hcl hL
      refine OpGoes.step fun K hK => ?_
      unfold OpGoes
      go_simp
      obtain ⟨hB, hx, hy, hG, hM, ⟨hz_x0, hz_x1, hz_x2, hz_x3, hz_x4, hz⟩, hz_o, ⟨hw__x0, hw__x1, hw__x2, hw__x3, hw__x4, hw__x5, hw__x6, hw__x7, hw__x8, hw__x9, hw__x10, hw__x11, hw_⟩, hw__o⟩ := HC.out
      exact hK _ _ ⟨⟨hB, hx, hy, hG, hM, ⟨_, _, _, _, _, hz⟩, fun h => hz_o (by simpa [upd] using h), ⟨_, _, _, _, _, _, _, _, _, _, _, _, hw_⟩, fun h => hw__o (by simpa [upd] using h)⟩, rfl, Below.refl _ _⟩
    · intro σ L W' hall hC hR
      obtain ⟨hB, hx, hy, hG, hM, ⟨hz_x0, hz_x1, hz_x2, hz_x3, hz_x4, hz⟩, hz_o, ⟨hw__x0, hw__x1, hw__x2, hw__x3, hw__x4, hw__x5, hw__x6, hw__x7, hw__x8, hw__x9, hw__x10, hw__x11, hw_⟩, hw__o⟩ := hC
      have sv2 : BoxAt W' (w.heap.size + 1 + 1) #[.int .i64 s.rd, .int .i64 s.mo, .slice (some ⟨b, 0, none⟩) n cap, .int .i64 s.fi, .int .i64 s.la] 75 := hR 2 (by decide)
      have sv3 : BoxAt W' (w.heap.size + 1 + 1 + 1) #[.int .i64 h2.at_, .int .i64 h2.v, .int .i64 h2.r, .int .i64 h2.t, .bool h2.seen.s, .int .i64 h2.seen.n, .bool h2.seen.f, .int .i64 h2.seen.v, .int .i64 h2.tr, .int .i64 h2.sp, .bool h2.ag, .int .i64 h2.re] 41 := hR 3 (by decide)
      have e4 : σ 4 = .bool true := hR 4 (by decide)
      clear hR
      simp only [lexAll]
      go_simp
      go_step
      have k7 := sv2.cell
      have k8 := sv3.cell
      go_wp2
      refine bodyPost_ret (v := .tuple #[stV s (some ⟨b, 0, none⟩) n cap, hdV h2, .bool true]) (by simp [results, Try.results103, go_sem, k7, k8, stV, hdV, Hd.rest, Hd.zero]) rfl ⟨some ⟨b, 0, none⟩, n, cap, by rw [HV.out], ?_, hB⟩
      rw [HV.out]
      exact hG.cut.mono (by omega) (Nat.le_refl _)
set_option maxRecDepth 100000 in
set_option maxHeartbeats 4000000 in
theorem l7Fix_23 (s : St) (A : Option Addr) (n cap lo hi : Nat) (v r t : Int) (seen : Pl) (tr sp : Int) (ag : Bool) (re : Int) (w : World) (hs : RgsW lo hi w A n cap s.rs) (hh : hi ≤ w.heap.size) (hlo : lo ≤ w.heap.size) (hok : stOk s = true) (hrb : ringB s r = true) :
    Calls Try.prog 103 #[stV s A n cap, hdV ⟨23, v, r, t, seen, tr, sp, ag, re⟩] w (RetSHB lo (take23 s ⟨23, v, r, t, seen, tr, sp, ag, re⟩) w) := by
  have HOK := Lib.hid hok
  have HRB := Lib.hid hrb
  have HLN := Lib.hid hs.1
  have HNT := Lib.hid (stOk_neat hok)
  obtain ⟨z0, z1, z2⟩ := ringB_at HLN.out hrb
  clear hok hrb
  unfold stV hdV
  dsimp only
  go_enter Try.func103, Try.ntmps103
  go_upto_region 1 with fail
  refine wp_abs (fun W => Below w.heap.size w W ∧ BoxAt W w.heap.size #[.int .i64 s.rd, .int .i64 s.mo, .slice A n cap, .int .i64 s.fi, .int .i64 s.la] 75 ∧ BoxAt W (w.heap.size + 1) #[.int .i64 23, .int .i64 v, .int .i64 r, .int .i64 t, .bool seen.s, .int .i64 seen.n, .bool seen.f, .int .i64 seen.v, .int .i64 tr, .int .i64 sp, .bool ag, .int .i64 re] 41 ∧ BoxAt W (w.heap.size + 1 + 1) #[.int .i64 0, .int .i64 0, .slice none 0 0, .int .i64 0, .int .i64 0] 75 ∧ BoxAt W (w.heap.size + 1 + 1 + 1) #[.int .i64 0, .int .i64 0, .int .i64 0, .int .i64 0, .bool false, .int .i64 0, .bool false, .int .i64 0, .int .i64 0, .int .i64 0, .bool false, .int .i64 0] 41) ⟨(((((Below.refl _ _).alloc (Nat.le_refl _) _).alloc (by simp) _).alloc (by simp; omega) _).alloc (by simp; omega) _), (((BoxAt.new _ _ _).alloc _).alloc _).alloc _, ((BoxAt.new' (by simp)).alloc _).alloc _, (BoxAt.new' (by simp)).alloc _, BoxAt.new' (by simp)⟩ ?_
  rintro W0 ⟨hB, hx, hy, hz, hw_⟩
  have lw0 := hw_.lt
  have hs0 := hs.below hB hh
  have kx := hx.cell
  have ky := hy.cell
  have fy := hy.frozen
  obtain ⟨b, rg, A', n', cap', rfl, hlb, hbh, hri, c0, c1', c2, c3, c4, hpw⟩ := hs0.at_ z2
  have HAT := Lib.hid (St.at_some (s := s) (z := r) hri)
  have hnum := stOk_nums HOK.out rg (List.mem_of_getElem? hri)
  clear hri
  go_upto_region 3 with fail
  refine wp_abs (fun W => Below w.heap.size w W ∧ BoxAt W w.heap.size #[.int .i64 s.rd, .int .i64 s.mo, .slice (some ⟨b, 0, none⟩) n cap, .int .i64 s.fi, .int .i64 s.la] 75 ∧ BoxAt W (w.heap.size + 1) #[.int .i64 23, .int .i64 v, .int .i64 r, .int .i64 t, .bool seen.s, .int .i64 seen.n, .bool seen.f, .int .i64 seen.v, .int .i64 tr, .int .i64 sp, .bool ag, .int .i64 re] 41 ∧ BoxAt W (w.heap.size + 1 + 1) #[.int .i64 0, .int .i64 0, .slice none 0 0, .int .i64 0, .int .i64 0] 75 ∧ BoxAt W (w.heap.size + 1 + 1 + 1) #[.int .i64 0, .int .i64 0, .int .i64 0, .int .i64 0, .bool false, .int .i64 0, .bool false, .int .i64 0, .int .i64 0, .int .i64 0, .bool false, .int .i64 0] 41 ∧ BoxAt W W0.heap.size #[.int .i64 rg.h, .int .i64 rg.t, .bool rg.c, .int .i64 rg.x, .slice A' n' cap'] 27) ⟨hB.alloc hB.size _, hx.alloc _, hy.alloc _, hz.alloc _, hw_.alloc _, BoxAt.new _ _ _⟩ ?_
  clear kx ky fy hB hx hy hz hw_ hs0 c0 c1' c2 c3 c4 hpw
  generalize W0.heap.size = Z at *
  rintro W0 ⟨hB, hx, hy, hz, hw_, hZ⟩
  have lZ := hZ.lt
  have lw2 := hw_.lt
  have hs0 := hs.below hB hh
  have kx := hx.cell
  have ky := hy.cell
  have fy := hy.frozen
  have kZ := hZ.cell
  cases ag
  · by_cases h1 : rg.x < 0
    · have HC := Lib.hid (show ((s.at r).x < 0) = True by rw [HAT.out]; simp [h1])
      go_upto_region 19 with fail
      have HV := Lib.hid (show take23 s ⟨23, v, r, t, seen, tr, sp, false, re⟩ = (s, ((⟨23, v, r, t, seen, tr, sp, false, re⟩ : Hd)).rest 3, true) by simp only [take23, HC.out, if_true]; rfl)
      refine wp_abs (fun W' => Below w.heap.size w W' ∧ BoxAt W' w.heap.size #[.int .i64 s.rd, .int .i64 s.mo, .slice (some ⟨b, 0, none⟩) n cap, .int .i64 s.fi, .int .i64 s.la] 75 ∧ BoxAt W' (w.heap.size + 1) #[.int .i64 ((⟨23, v, r, t, seen, tr, sp, false, re⟩ : Hd)).at_, .int .i64 ((⟨23, v, r, t, seen, tr, sp, false, re⟩ : Hd)).v, .int .i64 ((⟨23, v, r, t, seen, tr, sp, false, re⟩ : Hd)).r, .int .i64 ((⟨23, v, r, t, seen, tr, sp, false, re⟩ : Hd)).t, .bool ((⟨23, v, r, t, seen, tr, sp, false, re⟩ : Hd)).seen.s, .int .i64 ((⟨23, v, r, t, seen, tr, sp, false, re⟩ : Hd)).seen.n, .bool ((⟨23, v, r, t, seen, tr, sp, false, re⟩ : Hd)).seen.f, .int .i64 ((⟨23, v, r, t, seen, tr, sp, false, re⟩ : Hd)).seen.v, .int .i64 ((⟨23, v, r, t, seen, tr, sp, false, re⟩ : Hd)).tr, .int .i64 ((⟨23, v, r, t, seen, tr, sp, false, re⟩ : Hd)).sp, .bool ((⟨23, v, r, t, seen, tr, sp, false, re⟩ : Hd)).ag, .int .i64 ((⟨23, v, r, t, seen, tr, sp, false, re⟩ : Hd)).re] 41 ∧ BoxAt W' (w.heap.size + 1 + 1) #[.int .i64 0, .int .i64 0, .slice none 0 0, .int .i64 0, .int .i64 0] 75 ∧ BoxAt W' (w.heap.size + 1 + 1 + 1) #[.int .i64 0, .int .i64 0, .int .i64 0, .int .i64 0, .bool false, .int .i64 0, .bool false, .int .i64 0, .int .i64 0, .int .i64 0, .bool false, .int .i64 0] 41 ∧ RgsW lo hi W' (some ⟨b, 0, none⟩) n cap (s).rs ∧ hi ≤ W'.heap.size) ⟨hB, hx, by simpa using hy, hz, hw_, hs0, by omega⟩ ?_
      clear kx ky fy kZ hB hx hy hz hw_ hs0 hZ
      generalize hq2 : (⟨23, v, r, t, seen, tr, sp, false, re⟩ : Hd) = h2 at *
      clear hq2
      rintro W ⟨hB, hx, hy, hz, hw_, hG, hhi⟩
      have lw := hw_.lt
      obtain ⟨M, hMe⟩ : ∃ M, M = W.heap.size := ⟨_, rfl⟩
      have hM : M ≤ W.heap.size := by omega
      have hhi2 : hi ≤ M := by omega
      clear hMe
      refine wp_region2 (fun w w' => Below w.heap.size w w') (fun _ _ h => h.size) (fun L W' => Below w.heap.size w W' ∧ BoxAt W' w.heap.size #[.int .i64 s.rd, .int .i64 s.mo, .slice (some ⟨b, 0, none⟩) n cap, .int .i64 s.fi, .int .i64 s.la] 75 ∧ BoxAt W' (w.heap.size + 1) #[.int .i64 h2.at_, .int .i64 h2.v, .int .i64 h2.r, .int .i64 h2.t, .bool h2.seen.s, .int .i64 h2.seen.n, .bool h2.seen.f, .int .i64 h2.seen.v, .int .i64 h2.tr, .int .i64 h2.sp, .bool h2.ag, .int .i64 h2.re] 41 ∧ RgsW lo hi W' (some ⟨b, 0, none⟩) n cap s.rs ∧ M ≤ W'.heap.size ∧ (∃ x0 x1 x2 x3 x4, BoxAt W' (w.heap.size + 1 + 1) #[x0, x1, x2, x3, x4] 75) ∧ (L 3 = false → BoxAt W' (w.heap.size + 1 + 1) #[.int .i64 0, .int .i64 0, .slice none 0 0, .int .i64 0, .int .i64 0] 75) ∧ (∃ x0 x1 x2 x3 x4 x5 x6 x7 x8 x9 x10 x11, BoxAt W' (w.heap.size + 1 + 1 + 1) #[x0, x1, x2, x3, x4, x5, x6, x7, x8, x9, x10, x11] 41) ∧ (L 4 = false → BoxAt W' (w.heap.size + 1 + 1 + 1) #[.int .i64 0, .int .i64 0, .int .i64 0, .int .i64 0, .bool false, .int .i64 0, .bool false, .int .i64 0, .int .i64 0, .int .i64 0, .bool false, .int .i64 0] 41)) (fxCR s w.heap.size w.heap.size (w.heap.size + 1) n cap (some ⟨b, 0, none⟩) h2) fxCK fxCS (by kernel_rfl) (by kernel_rfl) ?_ ?_ ?_
        (.grow rfl ?_ <| .grow rfl ?_ <| .grow rfl ?_ <| .store rfl ?_ <| .store rfl ?_ <| .grow rfl ?_ <| .nil) ?_
      · intro j σ τ w h hR
        match j, h, hR with
        | 0, h, hR => exact (h 0 (List.mem_singleton.2 rfl)).symm.trans hR
        | 1, h, hR => exact (h 1 (List.mem_singleton.2 rfl)).symm.trans hR
        | 2, h, hR => exact (h 2 (List.mem_singleton.2 rfl)).symm.trans hR
        | 3, _, hR => exact hR
        | 4, _, hR => exact hR
        | 5, h, hR => exact (h 5 (List.mem_singleton.2 rfl)).symm.trans hR
        | _ + 6, _, _ => exact trivial
      · intro j σ w w' hb hR
        match j, hR with
        | 0, hR => exact hR
        | 1, hR => exact hR
        | 2, hR => exact hR
        | 3, hR => exact hR.below hb hR.lt
        | 4, hR => exact hR.below hb hR.lt
        | 5, hR => exact hR
        | _ + 6, _ => exact trivial
      · exact ⟨hB.drew, hx, hy, hG, hM, ⟨_, _, _, _, _, hz⟩, fun _ => hz, ⟨_, _, _, _, _, _, _, _, _, _, _, _, hw_⟩, fun _ => hw_⟩
      · -- 0: Op.load 75 t2
        go_light
        intro L σ W' hcl hL hC hw
        clear hw
        have HC := Lib.hid hC
        obtain ⟨hB, hx, hy, hG, hM, ⟨hz_x0, hz_x1, hz_x2, hz_x3, hz_x4, hz⟩, hz_o, ⟨hw__x0, hw__x1, hw__x2, hw__x3, hw__x4, hw__x5, hw__x6, hw__x7, hw__x8, hw__x9, hw__x10, hw__x11, hw_⟩, hw__o⟩ := hC
        have ks := hx.cell
        clear hcl hL
        clear hB hx hy hG hM hz hz_o hw_ hw__o
        refine OpGoes.step fun K hK => ?_
        unfold OpGoes
        go_simp
        obtain ⟨hB, hx, hy, hG, hM, ⟨hz_x0, hz_x1, hz_x2, hz_x3, hz_x4, hz⟩, hz_o, ⟨hw__x0, hw__x1, hw__x2, hw__x3, hw__x4, hw__x5, hw__x6, hw__x7, hw__x8, hw__x9, hw__x10, hw__x11, hw_⟩, hw__o⟩ := HC.out
        exact hK _ _ ⟨⟨hB, hx, hy, hG, hM, ⟨_, _, _, _, _, hz⟩, fun h => hz_o (by simpa [upd] using h), ⟨_, _, _, _, _, _, _, _, _, _, _, _, hw_⟩, fun h => hw__o (by simpa [upd] using h)⟩, rfl, Below.refl _ _⟩
      · -- 1: Op.load 41 t3
        go_light
        intro L σ W' hcl hL hC hw
        clear hw
        have HC := Lib.hid hC
        obtain ⟨hB, hx, hy, hG, hM, ⟨hz_x0, hz_x1, hz_x2, hz_x3, hz_x4, hz⟩, hz_o, ⟨hw__x0, hw__x1, hw__x2, hw__x3, hw__x4, hw__x5, hw__x6, hw__x7, hw__x8, hw__x9, hw__x10, hw__x11, hw_⟩, hw__o⟩ := hC
        have kh := hy.cell
        clear hcl hL
        clear hB hx hy hG hM hz hz_o hw_ hw__o
        refine OpGoes.step fun K hK => ?_
        unfold OpGoes
        go_simp
        obtain ⟨hB, hx, hy, hG, hM, ⟨hz_x0, hz_x1, hz_x2, hz_x3, hz_x4, hz⟩, hz_o, ⟨hw__x0, hw__x1, hw__x2, hw__x3, hw__x4, hw__x5, hw__x6, hw__x7, hw__x8, hw__x9, hw__x10, hw__x11, hw_⟩, hw__o⟩ := HC.out
        exact hK _ _ ⟨⟨hB, hx, hy, hG, hM, ⟨_, _, _, _, _, hz⟩, fun h => hz_o (by simpa [upd] using h), ⟨_, _, _, _, _, _, _, _, _, _, _, _, hw_⟩, fun h => hw__o (by simpa [upd] using h)⟩, rfl, Below.refl _ _⟩
      · -- 2: Op.call { value (Operand.func 97), args := #[t65, const (3:i64)], argTypes := #[41, 2] }
        go_light
        intro L σ W' hcl hL hC hw
        have e1 : σ 1 = .agg #[.int .i64 h2.at_, .int .i64 h2.v, .int .i64 h2.r, .int .i64 h2.t, .bool h2.seen.s, .int .i64 h2.seen.n, .bool h2.seen.f, .int .i64 h2.seen.v, .int .i64 h2.tr, .int .i64 h2.sp, .bool h2.ag, .int .i64 h2.re] := hw 1 (by kernel_rfl)
        clear hw
        have HC := Lib.hid hC
        clear hC
        clear hcl hL
        refine OpGoes.step fun K hK => ?_
        unfold OpGoes
        go_simp
        obtain ⟨hB, hx, hy, hG, hM, ⟨hz_x0, hz_x1, hz_x2, hz_x3, hz_x4, hz⟩, hz_o, ⟨hw__x0, hw__x1, hw__x2, hw__x3, hw__x4, hw__x5, hw__x6, hw__x7, hw__x8, hw__x9, hw__x10, hw__x11, hw_⟩, hw__o⟩ := HC.out
        refine (l6Rest_any h2 3 _).mono ?_
        rintro e w1 ⟨rfl, hb1⟩
        exact ⟨_, rfl, hK _ _ ⟨⟨bstep hB hB.size hb1, hx.below hb1 hx.lt, hy.below hb1 hy.lt, hG.below hb1 (Nat.le_trans hhi2 hM), Nat.le_trans hM hb1.size, ⟨_, _, _, _, _, hz.below hb1 hz.lt⟩, fun h => (hz_o (by simpa [upd] using h)).below hb1 (hz_o (by simpa [upd] using h)).lt, ⟨_, _, _, _, _, _, _, _, _, _, _, _, hw_.below hb1 hw_.lt⟩, fun h => (hw__o (by simpa [upd] using h)).below hb1 (hw__o (by simpa [upd] using h)).lt⟩, rfl, hb1⟩⟩
      · -- 3: Op.store 75 t4 t64
        go_light
        intro L σ W' hcl hL hC hw hne
        have e0 : σ 0 = .agg #[.int .i64 s.rd, .int .i64 s.mo, .slice (some ⟨b, 0, none⟩) n cap, .int .i64 s.fi, .int .i64 s.la] := hw 0 (by kernel_rfl)
        clear hw hne
        have HC := Lib.hid hC
        obtain ⟨hB, hx, hy, hG, hM, ⟨hz_x0, hz_x1, hz_x2, hz_x3, hz_x4, hz⟩, hz_o, ⟨hw__x0, hw__x1, hw__x2, hw__x3, hw__x4, hw__x5, hw__x6, hw__x7, hw__x8, hw__x9, hw__x10, hw__x11, hw_⟩, hw__o⟩ := hC
        clear hcl hL
        have kc_ := hz.cell
        have kf_ := hz.frozen
        clear hB hx hy hG hM hz hz_o hw_ hw__o
        refine OpGoes.step fun K hK => ?_
        unfold OpGoes
        go_simp
        obtain ⟨hB, hx, hy, hG, hM, ⟨hz_x0, hz_x1, hz_x2, hz_x3, hz_x4, hz⟩, hz_o, ⟨hw__x0, hw__x1, hw__x2, hw__x3, hw__x4, hw__x5, hw__x6, hw__x7, hw__x8, hw__x9, hw__x10, hw__x11, hw_⟩, hw__o⟩ := HC.out
        have hset := sets_all (us := [.int .i64 s.rd, .int .i64 s.mo, .slice (some ⟨b, 0, none⟩) n cap, .int .i64 s.fi, .int .i64 s.la]) hz rfl
        refine hK undef (setCells W' (w.heap.size + 1 + 1) 0 [.int .i64 s.rd, .int .i64 s.mo, .slice (some ⟨b, 0, none⟩) n cap, .int .i64 s.fi, .int .i64 s.la]) ⟨⟨(Below.setCells (by omega) [.int .i64 s.rd, .int .i64 s.mo, .slice (some ⟨b, 0, none⟩) n cap, .int .i64 s.fi, .int .i64 s.la] 0 hB), (BoxAt.sets_ne [.int .i64 s.rd, .int .i64 s.mo, .slice (some ⟨b, 0, none⟩) n cap, .int .i64 s.fi, .int .i64 s.la] 0 hx (by omega)), (BoxAt.sets_ne [.int .i64 s.rd, .int .i64 s.mo, .slice (some ⟨b, 0, none⟩) n cap, .int .i64 s.fi, .int .i64 s.la] 0 hy (by omega)), (RgsW.sts hG (by omega) [.int .i64 s.rd, .int .i64 s.mo, .slice (some ⟨b, 0, none⟩) n cap, .int .i64 s.fi, .int .i64 s.la] 0), (size_sts hM [.int .i64 s.rd, .int .i64 s.mo, .slice (some ⟨b, 0, none⟩) n cap, .int .i64 s.fi, .int .i64 s.la] 0), ⟨_, _, _, _, _, hset⟩, fun h => absurd h (by simp [upd]), ⟨_, _, _, _, _, _, _, _, _, _, _, _, (BoxAt.sets_ne [.int .i64 s.rd, .int .i64 s.mo, .slice (some ⟨b, 0, none⟩) n cap, .int .i64 s.fi, .int .i64 s.la] 0 hw_ (by omega))⟩, fun h => (BoxAt.sets_ne [.int .i64 s.rd, .int .i64 s.mo, .slice (some ⟨b, 0, none⟩) n cap, .int .i64 s.fi, .int .i64 s.la] 0 (hw__o (by simpa [upd] using h)) (by omega))⟩, hset, Nat.le_of_eq (sets_size _ _ _).symm, fun j hj hn hR => ?_⟩
        match j, hj, hn, hR with
        | 0, _, _, hR => exact (show σ 0 = .agg #[.int .i64 s.rd, .int .i64 s.mo, .slice (some ⟨b, 0, none⟩) n cap, .int .i64 s.fi, .int .i64 s.la] from hR)
        | 1, _, _, hR => exact (show σ 1 = .agg #[.int .i64 h2.at_, .int .i64 h2.v, .int .i64 h2.r, .int .i64 h2.t, .bool h2.seen.s, .int .i64 h2.seen.n, .bool h2.seen.f, .int .i64 h2.seen.v, .int .i64 h2.tr, .int .i64 h2.sp, .bool h2.ag, .int .i64 h2.re] from hR)
        | 2, _, _, hR => exact (show σ 2 = .agg #[.int .i64 0, .int .i64 0, .int .i64 0, .int .i64 0, .bool false, .int .i64 0, .bool false, .int .i64 0, .int .i64 0, .int .i64 h2.sp, .bool false, .int .i64 3] from hR)
        | 3, hj, _, _ => exact absurd rfl hj
        | 4, _, _, hR => exact (BoxAt.sets_ne [.int .i64 s.rd, .int .i64 s.mo, .slice (some ⟨b, 0, none⟩) n cap, .int .i64 s.fi, .int .i64 s.la] 0 hR (by omega))
        | 5, _, _, hR => exact (show σ 5 = .bool true from hR)
        | _ + 6, _, _, _ => exact trivial
      · -- 4: Op.store 41 t5 t66
        go_light
        intro L σ W' hcl hL hC hw hne
        have e2 : σ 2 = .agg #[.int .i64 0, .int .i64 0, .int .i64 0, .int .i64 0, .bool false, .int .i64 0, .bool false, .int .i64 0, .int .i64 0, .int .i64 h2.sp, .bool false, .int .i64 3] := hw 2 (by kernel_rfl)
        clear hw hne
        have HC := Lib.hid hC
        obtain ⟨hB, hx, hy, hG, hM, ⟨hz_x0, hz_x1, hz_x2, hz_x3, hz_x4, hz⟩, hz_o, ⟨hw__x0, hw__x1, hw__x2, hw__x3, hw__x4, hw__x5, hw__x6, hw__x7, hw__x8, hw__x9, hw__x10, hw__x11, hw_⟩, hw__o⟩ := hC
        clear hcl hL
        have kc_ := hw_.cell
        have kf_ := hw_.frozen
        clear hB hx hy hG hM hz hz_o hw_ hw__o
        refine OpGoes.step fun K hK => ?_
        unfold OpGoes
        go_simp
        obtain ⟨hB, hx, hy, hG, hM, ⟨hz_x0, hz_x1, hz_x2, hz_x3, hz_x4, hz⟩, hz_o, ⟨hw__x0, hw__x1, hw__x2, hw__x3, hw__x4, hw__x5, hw__x6, hw__x7, hw__x8, hw__x9, hw__x10, hw__x11, hw_⟩, hw__o⟩ := HC.out
        have hset := sets_all (us := [.int .i64 0, .int .i64 0, .int .i64 0, .int .i64 0, .bool false, .int .i64 0, .bool false, .int .i64 0, .int .i64 0, .int .i64 h2.sp, .bool false, .int .i64 3]) hw_ rfl
        refine hK undef (setCells W' (w.heap.size + 1 + 1 + 1) 0 [.int .i64 0, .int .i64 0, .int .i64 0, .int .i64 0, .bool false, .int .i64 0, .bool false, .int .i64 0, .int .i64 0, .int .i64 h2.sp, .bool false, .int .i64 3]) ⟨⟨(Below.setCells (by omega) [.int .i64 0, .int .i64 0, .int .i64 0, .int .i64 0, .bool false, .int .i64 0, .bool false, .int .i64 0, .int .i64 0, .int .i64 h2.sp, .bool false, .int .i64 3] 0 hB), (BoxAt.sets_ne [.int .i64 0, .int .i64 0, .int .i64 0, .int .i64 0, .bool false, .int .i64 0, .bool false, .int .i64 0, .int .i64 0, .int .i64 h2.sp, .bool false, .int .i64 3] 0 hx (by omega)), (BoxAt.sets_ne [.int .i64 0, .int .i64 0, .int .i64 0, .int .i64 0, .bool false, .int .i64 0, .bool false, .int .i64 0, .int .i64 0, .int .i64 h2.sp, .bool false, .int .i64 3] 0 hy (by omega)), (RgsW.sts hG (by omega) [.int .i64 0, .int .i64 0, .int .i64 0, .int .i64 0, .bool false, .int .i64 0, .bool false, .int .i64 0, .int .i64 0, .int .i64 h2.sp, .bool false, .int .i64 3] 0), (size_sts hM [.int .i64 0, .int .i64 0, .int .i64 0, .int .i64 0, .bool false, .int .i64 0, .bool false, .int .i64 0, .int .i64 0, .int .i64 h2.sp, .bool false, .int .i64 3] 0), ⟨_, _, _, _, _, (BoxAt.sets_ne [.int .i64 0, .int .i64 0, .int .i64 0, .int .i64 0, .bool false, .int .i64 0, .bool false, .int .i64 0, .int .i64 0, .int .i64 h2.sp, .bool false, .int .i64 3] 0 hz (by omega))⟩, fun h => (BoxAt.sets_ne [.int .i64 0, .int .i64 0, .int .i64 0, .int .i64 0, .bool false, .int .i64 0, .bool false, .int .i64 0, .int .i64 0, .int .i64 h2.sp, .bool false, .int .i64 3] 0 (hz_o (by simpa [upd] using h)) (by omega)), ⟨_, _, _, _, _, _, _, _, _, _, _, _, hset⟩, fun h => absurd h (by simp [upd])⟩, hset, Nat.le_of_eq (sets_size _ _ _).symm, fun j hj hn hR => ?_⟩
        match j, hj, hn, hR with
        | 0, _, _, hR => exact (show σ 0 = .agg #[.int .i64 s.rd, .int .i64 s.mo, .slice (some ⟨b, 0, none⟩) n cap, .int .i64 s.fi, .int .i64 s.la] from hR)
        | 1, _, _, hR => exact (show σ 1 = .agg #[.int .i64 h2.at_, .int .i64 h2.v, .int .i64 h2.r, .int .i64 h2.t, .bool h2.seen.s, .int .i64 h2.seen.n, .bool h2.seen.f, .int .i64 h2.seen.v, .int .i64 h2.tr, .int .i64 h2.sp, .bool h2.ag, .int .i64 h2.re] from hR)
        | 2, _, _, hR => exact (show σ 2 = .agg #[.int .i64 0, .int .i64 0, .int .i64 0, .int .i64 0, .bool false, .int .i64 0, .bool false, .int .i64 0, .int .i64 0, .int .i64 h2.sp, .bool false, .int .i64 3] from hR)
        | 3, _, _, hR => exact (BoxAt.sets_ne [.int .i64 0, .int .i64 0, .int .i64 0, .int .i64 0, .bool false, .int .i64 0, .bool false, .int .i64 0, .int .i64 0, .int .i64 h2.sp, .bool false, .int .i64 3] 0 hR (by omega))
        | 4, hj, _, _ => exact absurd rfl hj
        | 5, _, _, hR => exact (show σ 5 = .bool true from hR)
        | _ + 6, _, _, _ => exact trivial
      · -- 5: Op.assign (const (Value.bool true))
        go_light
        intro L σ W' hcl hL hC hw
        clear hw
        have HC := Lib.hid hC
        clear hC
        clear hcl hL
        refine OpGoes.step fun K hK => ?_
        unfold OpGoes
        go_simp
        obtain ⟨hB, hx, hy, hG, hM, ⟨hz_x0, hz_x1, hz_x2, hz_x3, hz_x4, hz⟩, hz_o, ⟨hw__x0, hw__x1, hw__x2, hw__x3, hw__x4, hw__x5, hw__x6, hw__x7, hw__x8, hw__x9, hw__x10, hw__x11, hw_⟩, hw__o⟩ := HC.out
        exact hK _ _ ⟨⟨hB, hx, hy, hG, hM, ⟨_, _, _, _, _, hz⟩, fun h => hz_o (by simpa [upd] using h), ⟨_, _, _, _, _, _, _, _, _, _, _, _, hw_⟩, fun h => hw__o (by simpa [upd] using h)⟩, rfl, Below.refl _ _⟩
      · intro σ L W' hall hC hR
        obtain ⟨hB, hx, hy, hG, hM, ⟨hz_x0, hz_x1, hz_x2, hz_x3, hz_x4, hz⟩, hz_o, ⟨hw__x0, hw__x1, hw__x2, hw__x3, hw__x4, hw__x5, hw__x6, hw__x7, hw__x8, hw__x9, hw__x10, hw__x11, hw_⟩, hw__o⟩ := hC
        have sv3 : BoxAt W' (w.heap.size + 1 + 1) #[.int .i64 s.rd, .int .i64 s.mo, .slice (some ⟨b, 0, none⟩) n cap, .int .i64 s.fi, .int .i64 s.la] 75 := hR 3 (by decide)
        have sv4 : BoxAt W' (w.heap.size + 1 + 1 + 1) #[.int .i64 0, .int .i64 0, .int .i64 0, .int .i64 0, .bool false, .int .i64 0, .bool false, .int .i64 0, .int .i64 0, .int .i64 h2.sp, .bool false, .int .i64 3] 41 := hR 4 (by decide)
        have e5 : σ 5 = .bool true := hR 5 (by decide)
        clear hR
        simp only [lexAll]
        go_simp
        go_step
        have k7 := sv3.cell
        have k8 := sv4.cell
        go_wp2
        refine bodyPost_ret (v := .tuple #[stV s (some ⟨b, 0, none⟩) n cap, hdV (h2.rest 3), .bool true]) (by simp [results, Try.results103, go_sem, k7, k8, stV, hdV, Hd.rest, Hd.zero]) rfl ⟨some ⟨b, 0, none⟩, n, cap, by rw [HV.out], ?_, hB⟩
        rw [HV.out]
        exact hG.cut.mono (by omega) (Nat.le_refl _)
    · have HC := Lib.hid (show ((s.at r).x < 0) = False by rw [HAT.out]; simp [h1])
      go_upto_region 26 with fail
      have HV := Lib.hid (show take23 s ⟨23, v, r, t, seen, tr, sp, false, re⟩ = (s, (⟨14, v, r, t, seen, tr, sp, true, re⟩ : Hd), true) by simp only [take23, HC.out, if_false]; rfl)
      refine wp_abs (fun W' => Below w.heap.size w W' ∧ BoxAt W' w.heap.size #[.int .i64 s.rd, .int .i64 s.mo, .slice (some ⟨b, 0, none⟩) n cap, .int .i64 s.fi, .int .i64 s.la] 75 ∧ BoxAt W' (w.heap.size + 1) #[.int .i64 ((⟨14, v, r, t, seen, tr, sp, true, re⟩ : Hd)).at_, .int .i64 ((⟨14, v, r, t, seen, tr, sp, true, re⟩ : Hd)).v, .int .i64 ((⟨14, v, r, t, seen, tr, sp, true, re⟩ : Hd)).r, .int .i64 ((⟨14, v, r, t, seen, tr, sp, true, re⟩ : Hd)).t, .bool ((⟨14, v, r, t, seen, tr, sp, true, re⟩ : Hd)).seen.s, .int .i64 ((⟨14, v, r, t, seen, tr, sp, true, re⟩ : Hd)).seen.n, .bool ((⟨14, v, r, t, seen, tr, sp, true, re⟩ : Hd)).seen.f, .int .i64 ((⟨14, v, r, t, seen, tr, sp, true, re⟩ : Hd)).seen.v, .int .i64 ((⟨14, v, r, t, seen, tr, sp, true, re⟩ : Hd)).tr, .int .i64 ((⟨14, v, r, t, seen, tr, sp, true, re⟩ : Hd)).sp, .bool ((⟨14, v, r, t, seen, tr, sp, true, re⟩ : Hd)).ag, .int .i64 ((⟨14, v, r, t, seen, tr, sp, true, re⟩ : Hd)).re] 41 ∧ BoxAt W' (w.heap.size + 1 + 1) #[.int .i64 0, .int .i64 0, .slice none 0 0, .int .i64 0, .int .i64 0] 75 ∧ BoxAt W' (w.heap.size + 1 + 1 + 1) #[.int .i64 0, .int .i64 0, .int .i64 0, .int .i64 0, .bool false, .int .i64 0, .bool false, .int .i64 0, .int .i64 0, .int .i64 0, .bool false, .int .i64 0] 41 ∧ RgsW lo hi W' (some ⟨b, 0, none⟩) n cap (s).rs ∧ hi ≤ W'.heap.size) ⟨((hB.setCell (by dsimp only; omega) _).setCell (by dsimp only; omega) _), ((hx.set_ne (by omega) _ _).set_ne (by omega) _ _), by simpa using ((hy.set 10 (.bool true)).set 0 (.int .i64 14)), ((hz.set_ne (by omega) _ _).set_ne (by omega) _ _), ((hw_.set_ne (by omega) _ _).set_ne (by omega) _ _), ((hs0.st (.inr (by omega)) _ _).st (.inr (by omega)) _ _), by simp; omega⟩ ?_
      clear kx ky fy kZ hB hx hy hz hw_ hs0 hZ
      generalize hq2 : (⟨14, v, r, t, seen, tr, sp, true, re⟩ : Hd) = h2 at *
      clear hq2
      rintro W ⟨hB, hx, hy, hz, hw_, hG, hhi⟩
      have lw := hw_.lt
      obtain ⟨M, hMe⟩ : ∃ M, M = W.heap.size := ⟨_, rfl⟩
      have hM : M ≤ W.heap.size := by omega
      have hhi2 : hi ≤ M := by omega
      clear hMe
      refine wp_region2 (fun w w' => Below w.heap.size w w') (fun _ _ h => h.size) (fun L W' => Below w.heap.size w W' ∧ BoxAt W' w.heap.size #[.int .i64 s.rd, .int .i64 s.mo, .slice (some ⟨b, 0, none⟩) n cap, .int .i64 s.fi, .int .i64 s.la] 75 ∧ BoxAt W' (w.heap.size + 1) #[.int .i64 h2.at_, .int .i64 h2.v, .int .i64 h2.r, .int .i64 h2.t, .bool h2.seen.s, .int .i64 h2.seen.n, .bool h2.seen.f, .int .i64 h2.seen.v, .int .i64 h2.tr, .int .i64 h2.sp, .bool h2.ag, .int .i64 h2.re] 41 ∧ RgsW lo hi W' (some ⟨b, 0, none⟩) n cap s.rs ∧ M ≤ W'.heap.size ∧ (∃ x0 x1 x2 x3 x4, BoxAt W' (w.heap.size + 1 + 1) #[x0, x1, x2, x3, x4] 75) ∧ (L 2 = false → BoxAt W' (w.heap.size + 1 + 1) #[.int .i64 0, .int .i64 0, .slice none 0 0, .int .i64 0, .int .i64 0] 75) ∧ (∃ x0 x1 x2 x3 x4 x5 x6 x7 x8 x9 x10 x11, BoxAt W' (w.heap.size + 1 + 1 + 1) #[x0, x1, x2, x3, x4, x5, x6, x7, x8, x9, x10, x11] 41) ∧ (L 3 = false → BoxAt W' (w.heap.size + 1 + 1 + 1) #[.int .i64 0, .int .i64 0, .int .i64 0, .int .i64 0, .bool false, .int .i64 0, .bool false, .int .i64 0, .int .i64 0, .int .i64 0, .bool false, .int .i64 0] 41)) (fxDR s w.heap.size w.heap.size (w.heap.size + 1) n cap (some ⟨b, 0, none⟩) h2) fxDK fxDS (by kernel_rfl) (by kernel_rfl) ?_ ?_ ?_
        (.grow rfl ?_ <| .grow rfl ?_ <| .store rfl ?_ <| .store rfl ?_ <| .grow rfl ?_ <| .nil) ?_
      · intro j σ τ w h hR
        match j, h, hR with
        | 0, h, hR => exact (h 0 (List.mem_singleton.2 rfl)).symm.trans hR
        | 1, h, hR => exact (h 1 (List.mem_singleton.2 rfl)).symm.trans hR
        | 2, _, hR => exact hR
        | 3, _, hR => exact hR
        | 4, h, hR => exact (h 4 (List.mem_singleton.2 rfl)).symm.trans hR
        | _ + 5, _, _ => exact trivial
      · intro j σ w w' hb hR
        match j, hR with
        | 0, hR => exact hR
        | 1, hR => exact hR
        | 2, hR => exact hR.below hb hR.lt
        | 3, hR => exact hR.below hb hR.lt
        | 4, hR => exact hR
        | _ + 5, _ => exact trivial
      · exact ⟨hB.drew, hx, hy, hG, hM, ⟨_, _, _, _, _, hz⟩, fun _ => hz, ⟨_, _, _, _, _, _, _, _, _, _, _, _, hw_⟩, fun _ => hw_⟩
      · -- 0: Op.load 75 t2
        go_light
        intro L σ W' hcl hL hC hw
        clear hw
        have HC := Lib.hid hC
        obtain ⟨hB, hx, hy, hG, hM, ⟨hz_x0, hz_x1, hz_x2, hz_x3, hz_x4, hz⟩, hz_o, ⟨hw__x0, hw__x1, hw__x2, hw__x3, hw__x4, hw__x5, hw__x6, hw__x7, hw__x8, hw__x9, hw__x10, hw__x11, hw_⟩, hw__o⟩ := hC
        have ks := hx.cell
        clear hcl hL
        clear hB hx hy hG hM hz hz_o hw_ hw__o
        refine OpGoes.step fun K hK => ?_
        unfold OpGoes
        go_simp
        obtain ⟨hB, hx, hy, hG, hM, ⟨hz_x0, hz_x1, hz_x2, hz_x3, hz_x4, hz⟩, hz_o, ⟨hw__x0, hw__x1, hw__x2, hw__x3, hw__x4, hw__x5, hw__x6, hw__x7, hw__x8, hw__x9, hw__x10, hw__x11, hw_⟩, hw__o⟩ := HC.out
        exact hK _ _ ⟨⟨hB, hx, hy, hG, hM, ⟨_, _, _, _, _, hz⟩, fun h => hz_o (by simpa [upd] using h), ⟨_, _, _, _, _, _, _, _, _, _, _, _, hw_⟩, fun h => hw__o (by simpa [upd] using h)⟩, rfl, Below.refl _ _⟩
      · -- 1: Op.load 41 t3
        go_light
        intro L σ W' hcl hL hC hw
        clear hw
        have HC := Lib.hid hC
        obtain ⟨hB, hx, hy, hG, hM, ⟨hz_x0, hz_x1, hz_x2, hz_x3, hz_x4, hz⟩, hz_o, ⟨hw__x0, hw__x1, hw__x2, hw__x3, hw__x4, hw__x5, hw__x6, hw__x7, hw__x8, hw__x9, hw__x10, hw__x11, hw_⟩, hw__o⟩ := hC
        have kh := hy.cell
        clear hcl hL
        clear hB hx hy hG hM hz hz_o hw_ hw__o
        refine OpGoes.step fun K hK => ?_
        unfold OpGoes
        go_simp
        obtain ⟨hB, hx, hy, hG, hM, ⟨hz_x0, hz_x1, hz_x2, hz_x3, hz_x4, hz⟩, hz_o, ⟨hw__x0, hw__x1, hw__x2, hw__x3, hw__x4, hw__x5, hw__x6, hw__x7, hw__x8, hw__x9, hw__x10, hw__x11, hw_⟩, hw__o⟩ := HC.out
        exact hK _ _ ⟨⟨hB, hx, hy, hG, hM, ⟨_, _, _, _, _, hz⟩, fun h => hz_o (by simpa [upd] using h), ⟨_, _, _, _, _, _, _, _, _, _, _, _, hw_⟩, fun h => hw__o (by simpa [upd] using h)⟩, rfl, Below.refl _ _⟩
      · -- 2: Op.store 75 t4 t81
        go_light
        intro L σ W' hcl hL hC hw hne
        have e0 : σ 0 = .agg #[.int .i64 s.rd, .int .i64 s.mo, .slice (some ⟨b, 0, none⟩) n cap, .int .i64 s.fi, .int .i64 s.la] := hw 0 (by kernel_rfl)
        clear hw hne
        have HC := Lib.hid hC
        obtain ⟨hB, hx, hy, hG, hM, ⟨hz_x0, hz_x1, hz_x2, hz_x3, hz_x4, hz⟩, hz_o, ⟨hw__x0, hw__x1, hw__x2, hw__x3, hw__x4, hw__x5, hw__x6, hw__x7, hw__x8, hw__x9, hw__x10, hw__x11, hw_⟩, hw__o⟩ := hC
        clear hcl hL
        have kc_ := hz.cell
        have kf_ := hz.frozen
        clear hB hx hy hG hM hz hz_o hw_ hw__o
        refine OpGoes.step fun K hK => ?_
        unfold OpGoes
        go_simp
        obtain ⟨hB, hx, hy, hG, hM, ⟨hz_x0, hz_x1, hz_x2, hz_x3, hz_x4, hz⟩, hz_o, ⟨hw__x0, hw__x1, hw__x2, hw__x3, hw__x4, hw__x5, hw__x6, hw__x7, hw__x8, hw__x9, hw__x10, hw__x11, hw_⟩, hw__o⟩ := HC.out
        have hset := sets_all (us := [.int .i64 s.rd, .int .i64 s.mo, .slice (some ⟨b, 0, none⟩) n cap, .int .i64 s.fi, .int .i64 s.la]) hz rfl
        refine hK undef (setCells W' (w.heap.size + 1 + 1) 0 [.int .i64 s.rd, .int .i64 s.mo, .slice (some ⟨b, 0, none⟩) n cap, .int .i64 s.fi, .int .i64 s.la]) ⟨⟨(Below.setCells (by omega) [.int .i64 s.rd, .int .i64 s.mo, .slice (some ⟨b, 0, none⟩) n cap, .int .i64 s.fi, .int .i64 s.la] 0 hB), (BoxAt.sets_ne [.int .i64 s.rd, .int .i64 s.mo, .slice (some ⟨b, 0, none⟩) n cap, .int .i64 s.fi, .int .i64 s.la] 0 hx (by omega)), (BoxAt.sets_ne [.int .i64 s.rd, .int .i64 s.mo, .slice (some ⟨b, 0, none⟩) n cap, .int .i64 s.fi, .int .i64 s.la] 0 hy (by omega)), (RgsW.sts hG (by omega) [.int .i64 s.rd, .int .i64 s.mo, .slice (some ⟨b, 0, none⟩) n cap, .int .i64 s.fi, .int .i64 s.la] 0), (size_sts hM [.int .i64 s.rd, .int .i64 s.mo, .slice (some ⟨b, 0, none⟩) n cap, .int .i64 s.fi, .int .i64 s.la] 0), ⟨_, _, _, _, _, hset⟩, fun h => absurd h (by simp [upd]), ⟨_, _, _, _, _, _, _, _, _, _, _, _, (BoxAt.sets_ne [.int .i64 s.rd, .int .i64 s.mo, .slice (some ⟨b, 0, none⟩) n cap, .int .i64 s.fi, .int .i64 s.la] 0 hw_ (by omega))⟩, fun h => (BoxAt.sets_ne [.int .i64 s.rd, .int .i64 s.mo, .slice (some ⟨b, 0, none⟩) n cap, .int .i64 s.fi, .int .i64 s.la] 0 (hw__o (by simpa [upd] using h)) (by omega))⟩, hset, Nat.le_of_eq (sets_size _ _ _).symm, fun j hj hn hR => ?_⟩
        match j, hj, hn, hR with
        | 0, _, _, hR => exact (show σ 0 = .agg #[.int .i64 s.rd, .int .i64 s.mo, .slice (some ⟨b, 0, none⟩) n cap, .int .i64 s.fi, .int .i64 s.la] from hR)
        | 1, _, _, hR => exact (show σ 1 = .agg #[.int .i64 h2.at_, .int .i64 h2.v, .int .i64 h2.r, .int .i64 h2.t, .bool h2.seen.s, .int .i64 h2.seen.n, .bool h2.seen.f, .int .i64 h2.seen.v, .int .i64 h2.tr, .int .i64 h2.sp, .bool h2.ag, .int .i64 h2.re] from hR)
        | 2, hj, _, _ => exact absurd rfl hj
        | 3, _, _, hR => exact (BoxAt.sets_ne [.int .i64 s.rd, .int .i64 s.mo, .slice (some ⟨b, 0, none⟩) n cap, .int .i64 s.fi, .int .i64 s.la] 0 hR (by omega))
        | 4, _, _, hR => exact (show σ 4 = .bool true from hR)
        | _ + 5, _, _, _ => exact trivial
      · -- 3: Op.store 41 t5 t82
        go_light
        intro L σ W' hcl hL hC hw hne
        have e1 : σ 1 = .agg #[.int .i64 h2.at_, .int .i64 h2.v, .int .i64 h2.r, .int .i64 h2.t, .bool h2.seen.s, .int .i64 h2.seen.n, .bool h2.seen.f, .int .i64 h2.seen.v, .int .i64 h2.tr, .int .i64 h2.sp, .bool h2.ag, .int .i64 h2.re] := hw 1 (by kernel_rfl)
        clear hw hne
        have HC := Lib.hid hC
        obtain ⟨hB, hx, hy, hG, hM, ⟨hz_x0, hz_x1, hz_x2, hz_x3, hz_x4, hz⟩, hz_o, ⟨hw__x0, hw__x1, hw__x2, hw__x3, hw__x4, hw__x5, hw__x6, hw__x7, hw__x8, hw__x9, hw__x10, hw__x11, hw_⟩, hw__o⟩ := hC
        clear hcl hL
        have kc_ := hw_.cell
        have kf_ := hw_.frozen
        clear hB hx hy hG hM hz hz_o hw_ hw__o
        refine OpGoes.step fun K hK => ?_
        unfold OpGoes
        go_simp
        obtain ⟨hB, hx, hy, hG, hM, ⟨hz_x0, hz_x1, hz_x2, hz_x3, hz_x4, hz⟩, hz_o, ⟨hw__x0, hw__x1, hw__x2, hw__x3, hw__x4, hw__x5, hw__x6, hw__x7, hw__x8, hw__x9, hw__x10, hw__x11, hw_⟩, hw__o⟩ := HC.out
        have hset := sets_all (us := [.int .i64 h2.at_, .int .i64 h2.v, .int .i64 h2.r, .int .i64 h2.t, .bool h2.seen.s, .int .i64 h2.seen.n, .bool h2.seen.f, .int .i64 h2.seen.v, .int .i64 h2.tr, .int .i64 h2.sp, .bool h2.ag, .int .i64 h2.re]) hw_ rfl
        refine hK undef (setCells W' (w.heap.size + 1 + 1 + 1) 0 [.int .i64 h2.at_, .int .i64 h2.v, .int .i64 h2.r, .int .i64 h2.t, .bool h2.seen.s, .int .i64 h2.seen.n, .bool h2.seen.f, .int .i64 h2.seen.v, .int .i64 h2.tr, .int .i64 h2.sp, .bool h2.ag, .int .i64 h2.re]) ⟨⟨(Below.setCells (by omega) [.int .i64 h2.at_, .int .i64 h2.v, .int .i64 h2.r, .int .i64 h2.t, .bool h2.seen.s, .int .i64 h2.seen.n, .bool h2.seen.f, .int .i64 h2.seen.v, .int .i64 h2.tr, .int .i64 h2.sp, .bool h2.ag, .int .i64 h2.re] 0 hB), (BoxAt.sets_ne [.int .i64 h2.at_, .int .i64 h2.v, .int .i64 h2.r, .int .i64 h2.t, .bool h2.seen.s, .int .i64 h2.seen.n, .bool h2.seen.f, .int .i64 h2.seen.v, .int .i64 h2.tr, .int .i64 h2.sp, .bool h2.ag, .int .i64 h2.re] 0 hx (by omega)), (BoxAt.sets_ne [.int .i64 h2.at_, .int .i64 h2.v, .int .i64 h2.r, .int .i64 h2.t, .bool h2.seen.s, .int .i64 h2.seen.n, .bool h2.seen.f, .int .i64 h2.seen.v, .int .i64 h2.tr, .int .i64 h2.sp, .bool h2.ag, .int .i64 h2.re] 0 hy (by omega)), (RgsW.sts hG (by omega) [.int .i64 h2.at_, .int .i64 h2.v, .int .i64 h2.r, .int .i64 h2.t, .bool h2.seen.s, .int .i64 h2.seen.n, .bool h2.seen.f, .int .i64 h2.seen.v, .int .i64 h2.tr, .int .i64 h2.sp, .bool h2.ag, .int .i64 h2.re] 0), (size_sts hM [.int .i64 h2.at_, .int .i64 h2.v, .int .i64 h2.r, .int .i64 h2.t, .bool h2.seen.s, .int .i64 h2.seen.n, .bool h2.seen.f, .int .i64 h2.seen.v, .int .i64 h2.tr, .int .i64 h2.sp, .bool h2.ag, .int .i64 h2.re] 0), ⟨_, _, _, _, _, (BoxAt.sets_ne [.int .i64 h2.at_, .int .i64 h2.v, .int .i64 h2.r, .int .i64 h2.t, .bool h2.seen.s, .int .i64 h2.seen.n, .bool h2.seen.f, .int .i64 h2.seen.v, .int .i64 h2.tr, .int .i64 h2.sp, .bool h2.ag, .int .i64 h2.re] 0 hz (by omega))⟩, fun h => (BoxAt.sets_ne [.int .i64 h2.at_, .int .i64 h2.v, .int .i64 h2.r, .int .i64 h2.t, .bool h2.seen.s, .int .i64 h2.seen.n, .bool h2.seen.f, .int .i64 h2.seen.v, .int .i64 h2.tr, .int .i64 h2.sp, .bool h2.ag, .int .i64 h2.re] 0 (hz_o (by simpa [upd] using h)) (by omega)), ⟨_, _, _, _, _, _, _, _, _, _, _, _, hset⟩, fun h => absurd h (by simp [upd])⟩, hset, Nat.le_of_eq (sets_size _ _ _).symm, fun j hj hn hR => ?_⟩
        match j, hj, hn, hR with
        | 0, _, _, hR => exact (show σ 0 = .agg #[.int .i64 s.rd, .int .i64 s.mo, .slice (some ⟨b, 0, none⟩) n cap, .int .i64 s.fi, .int .i64 s.la] from hR)
        | 1, _, _, hR => exact (show σ 1 = .agg #[.int .i64 h2.at_, .int .i64 h2.v, .int .i64 h2.r, .int .i64 h2.t, .bool h2.seen.s, .int .i64 h2.seen.n, .bool h2.seen.f, .int .i64 h2.seen.v, .int .i64 h2.tr, .int .i64 h2.sp, .bool h2.ag, .int .i64 h2.re] from hR)
        | 2, _, _, hR => exact (BoxAt.sets_ne [.int .i64 h2.at_, .int .i64 h2.v, .int .i64 h2.r, .int .i64 h2.t, .bool h2.seen.s, .int .i64 h2.seen.n, .bool h2.seen.f, .int .i64 h2.seen.v, .int .i64 h2.tr, .int .i64 h2.sp, .bool h2.ag, .int .i64 h2.re] 0 hR (by omega))
        | 3, hj, _, _ => exact absurd rfl hj
        | 4, _, _, hR => exact (show σ 4 = .bool true from hR)
        | _ + 5, _, _, _ => exact trivial
      · -- 4: Op.assign (const (Value.bool true))
        go_light
        intro L σ W' hcl hL hC hw
        clear hw
        have HC := Lib.hid hC
        clear hC
        clear hcl hL
        refine OpGoes.step fun K hK => ?_
        unfold OpGoes
        go_simp
        obtain ⟨hB, hx, hy, hG, hM, ⟨hz_x0, hz_x1, hz_x2, hz_x3, hz_x4, hz⟩, hz_o, ⟨hw__x0, hw__x1, hw__x2, hw__x3, hw__x4, hw__x5, hw__x6, hw__x7, hw__x8, hw__x9, hw__x10, hw__x11, hw_⟩, hw__o⟩ := HC.out
        exact hK _ _ ⟨⟨hB, hx, hy, hG, hM, ⟨_, _, _, _, _, hz⟩, fun h => hz_o (by simpa [upd] using h), ⟨_, _, _, _, _, _, _, _, _, _, _, _, hw_⟩, fun h => hw__o (by simpa [upd] using h)⟩, rfl, Below.refl _ _⟩
      · intro σ L W' hall hC hR
        obtain ⟨hB, hx, hy, hG, hM, ⟨hz_x0, hz_x1, hz_x2, hz_x3, hz_x4, hz⟩, hz_o, ⟨hw__x0, hw__x1, hw__x2, hw__x3, hw__x4, hw__x5, hw__x6, hw__x7, hw__x8, hw__x9, hw__x10, hw__x11, hw_⟩, hw__o⟩ := hC
        have sv2 : BoxAt W' (w.heap.size + 1 + 1) #[.int .i64 s.rd, .int .i64 s.mo, .slice (some ⟨b, 0, none⟩) n cap, .int .i64 s.fi, .int .i64 s.la] 75 := hR 2 (by decide)
        have sv3 : BoxAt W' (w.heap.size + 1 + 1 + 1) #[.int .i64 h2.at_, .int .i64 h2.v, .int .i64 h2.r, .int .i64 h2.t, .bool h2.seen.s, .int .i64 h2.seen.n, .bool h2.seen.f, .int .i64 h2.seen.v, .int .i64 h2.tr, .int .i64 h2.sp, .bool h2.ag, .int .i64 h2.re] 41 := hR 3 (by decide)
        have e4 : σ 4 = .bool true := hR 4 (by decide)
        clear hR
        simp only [lexAll]
        go_simp
        go_step
        have k7 := sv2.cell
        have k8 := sv3.cell
        go_wp2
        refine bodyPost_ret (v := .tuple #[stV s (some ⟨b, 0, none⟩) n cap, hdV h2, .bool true]) (by simp [results, Try.results103, go_sem, k7, k8, stV, hdV, Hd.rest, Hd.zero]) rfl ⟨some ⟨b, 0, none⟩, n, cap, by rw [HV.out], ?_, hB⟩
        rw [HV.out]
        exact hG.cut.mono (by omega) (Nat.le_refl _)
  · go_upto_region 17 with fail
    have HV := Lib.hid (show take23 s ⟨23, v, r, t, seen, tr, sp, true, re⟩ = (s, (⟨24, v, r, t, seen, tr, sp, true, re⟩ : Hd), true) by simp only [take23, if_true])
    refine wp_abs (fun W' => Below w.heap.size w W' ∧ BoxAt W' w.heap.size #[.int .i64 s.rd, .int .i64 s.mo, .slice (some ⟨b, 0, none⟩) n cap, .int .i64 s.fi, .int .i64 s.la] 75 ∧ BoxAt W' (w.heap.size + 1) #[.int .i64 ((⟨24, v, r, t, seen, tr, sp, true, re⟩ : Hd)).at_, .int .i64 ((⟨24, v, r, t, seen, tr, sp, true, re⟩ : Hd)).v, .int .i64 ((⟨24, v, r, t, seen, tr, sp, true, re⟩ : Hd)).r, .int .i64 ((⟨24, v, r, t, seen, tr, sp, true, re⟩ : Hd)).t, .bool ((⟨24, v, r, t, seen, tr, sp, true, re⟩ : Hd)).seen.s, .int .i64 ((⟨24, v, r, t, seen, tr, sp, true, re⟩ : Hd)).seen.n, .bool ((⟨24, v, r, t, seen, tr, sp, true, re⟩ : Hd)).seen.f, .int .i64 ((⟨24, v, r, t, seen, tr, sp, true, re⟩ : Hd)).seen.v, .int .i64 ((⟨24, v, r, t, seen, tr, sp, true, re⟩ : Hd)).tr, .int .i64 ((⟨24, v, r, t, seen, tr, sp, true, re⟩ : Hd)).sp, .bool ((⟨24, v, r, t, seen, tr, sp, true, re⟩ : Hd)).ag, .int .i64 ((⟨24, v, r, t, seen, tr, sp, true, re⟩ : Hd)).re] 41 ∧ BoxAt W' (w.heap.size + 1 + 1) #[.int .i64 0, .int .i64 0, .slice none 0 0, .int .i64 0, .int .i64 0] 75 ∧ BoxAt W' (w.heap.size + 1 + 1 + 1) #[.int .i64 0, .int .i64 0, .int .i64 0, .int .i64 0, .bool false, .int .i64 0, .bool false, .int .i64 0, .int .i64 0, .int .i64 0, .bool false, .int .i64 0] 41 ∧ RgsW lo hi W' (some ⟨b, 0, none⟩) n cap (s).rs ∧ hi ≤ W'.heap.size) ⟨(hB.setCell (by dsimp only; omega) _), (hx.set_ne (by omega) _ _), by simpa using (hy.set 0 (.int .i64 24)), (hz.set_ne (by omega) _ _), (hw_.set_ne (by omega) _ _), (hs0.st (.inr (by omega)) _ _), by simp; omega⟩ ?_
    clear kx ky fy kZ hB hx hy hz hw_ hs0 hZ
    generalize hq2 : (⟨24, v, r, t, seen, tr, sp, true, re⟩ : Hd) = h2 at *
    clear hq2
    rintro W ⟨hB, hx, hy, hz, hw_, hG, hhi⟩
    have lw := hw_.lt
    obtain ⟨M, hMe⟩ : ∃ M, M = W.heap.size := ⟨_, rfl⟩
    have hM : M ≤ W.heap.size := by omega
    have hhi2 : hi ≤ M := by omega
    clear hMe
    refine wp_region2 (fun w w' => Below w.heap.size w w') (fun _ _ h => h.size) (fun L W' => Below w.heap.size w W' ∧ BoxAt W' w.heap.size #[.int .i64 s.rd, .int .i64 s.mo, .slice (some ⟨b, 0, none⟩) n cap, .int .i64 s.fi, .int .i64 s.la] 75 ∧ BoxAt W' (w.heap.size + 1) #[.int .i64 h2.at_, .int .i64 h2.v, .int .i64 h2.r, .int .i64 h2.t, .bool h2.seen.s, .int .i64 h2.seen.n, .bool h2.seen.f, .int .i64 h2.seen.v, .int .i64 h2.tr, .int .i64 h2.sp, .bool h2.ag, .int .i64 h2.re] 41 ∧ RgsW lo hi W' (some ⟨b, 0, none⟩) n cap s.rs ∧ M ≤ W'.heap.size ∧ (∃ x0 x1 x2 x3 x4, BoxAt W' (w.heap.size + 1 + 1) #[x0, x1, x2, x3, x4] 75) ∧ (L 2 = false → BoxAt W' (w.heap.size + 1 + 1) #[.int .i64 0, .int .i64 0, .slice none 0 0, .int .i64 0, .int .i64 0] 75) ∧ (∃ x0 x1 x2 x3 x4 x5 x6 x7 x8 x9 x10 x11, BoxAt W' (w.heap.size + 1 + 1 + 1) #[x0, x1, x2, x3, x4, x5, x6, x7, x8, x9, x10, x11] 41) ∧ (L 3 = false → BoxAt W' (w.heap.size + 1 + 1 + 1) #[.int .i64 0, .int .i64 0, .int .i64 0, .int .i64 0, .bool false, .int .i64 0, .bool false, .int .i64 0, .int .i64 0, .int .i64 0, .bool false, .int .i64 0] 41)) (fxBR s w.heap.size w.heap.size (w.heap.size + 1) n cap (some ⟨b, 0, none⟩) h2) fxBK fxBS (by kernel_rfl) (by kernel_rfl) ?_ ?_ ?_
      (.grow rfl ?_ <| .grow rfl ?_ <| .store rfl ?_ <| .store rfl ?_ <| .grow rfl ?_ <| .nil) ?_
    · intro j σ τ w h hR
      match j, h, hR with
      | 0, h, hR => exact (h 0 (List.mem_singleton.2 rfl)).symm.trans hR
      | 1, h, hR => exact (h 1 (List.mem_singleton.2 rfl)).symm.trans hR
      | 2, _, hR => exact hR
      | 3, _, hR => exact hR
      | 4, h, hR => exact (h 4 (List.mem_singleton.2 rfl)).symm.trans hR
      | _ + 5, _, _ => exact trivial
    · intro j σ w w' hb hR
      match j, hR with
      | 0, hR => exact hR
      | 1, hR => exact hR
      | 2, hR => exact hR.below hb hR.lt
      | 3, hR => exact hR.below hb hR.lt
      | 4, hR => exact hR
      | _ + 5, _ => exact trivial
    · exact ⟨hB.drew, hx, hy, hG, hM, ⟨_, _, _, _, _, hz⟩, fun _ => hz, ⟨_, _, _, _, _, _, _, _, _, _, _, _, hw_⟩, fun _ => hw_⟩
    · -- 0: Op.load 75 t2
      go_light
      intro L σ W' hcl hL hC hw
      clear hw
      have HC := Lib.hid hC
      obtain ⟨hB, hx, hy, hG, hM, ⟨hz_x0, hz_x1, hz_x2, hz_x3, hz_x4, hz⟩, hz_o, ⟨hw__x0, hw__x1, hw__x2, hw__x3, hw__x4, hw__x5, hw__x6, hw__x7, hw__x8, hw__x9, hw__x10, hw__x11, hw_⟩, hw__o⟩ := hC
      have ks := hx.cell
      clear hcl hL
      clear hB hx hy hG hM hz hz_o hw_ hw__o
      refine OpGoes.step fun K hK => ?_
      unfold OpGoes
      go_simp
      obtain ⟨hB, hx, hy, hG, hM, ⟨hz_x0, hz_x1, hz_x2, hz_x3, hz_x4, hz⟩, hz_o, ⟨hw__x0, hw__x1, hw__x2, hw__x3, hw__x4, hw__x5, hw__x6, hw__x7, hw__x8, hw__x9, hw__x10, hw__x11, hw_⟩, hw__o⟩ := HC.out
      exact hK _ _ ⟨⟨hB, hx, hy, hG, hM, ⟨_, _, _, _, _, hz⟩, fun h => hz_o (by simpa [upd] using h), ⟨_, _, _, _, _, _, _, _, _, _, _, _, hw_⟩, fun h => hw__o (by simpa [upd] using h)⟩, rfl, Below.refl _ _⟩
    · -- 1: Op.load 41 t3
      go_light
      intro L σ W' hcl hL hC hw
      clear hw
      have HC := Lib.hid hC
      obtain ⟨hB, hx, hy, hG, hM, ⟨hz_x0, hz_x1, hz_x2, hz_x3, hz_x4, hz⟩, hz_o, ⟨hw__x0, hw__x1, hw__x2, hw__x3, hw__x4, hw__x5, hw__x6, hw__x7, hw__x8, hw__x9, hw__x10, hw__x11, hw_⟩, hw__o⟩ := hC
      have kh := hy.cell
      clear hcl hL
      clear hB hx hy hG hM hz hz_o hw_ hw__o
      refine OpGoes.step fun K hK => ?_
      unfold OpGoes
      go_simp
      obtain ⟨hB, hx, hy, hG, hM, ⟨hz_x0, hz_x1, hz_x2, hz_x3, hz_x4, hz⟩, hz_o, ⟨hw__x0, hw__x1, hw__x2, hw__x3, hw__x4, hw__x5, hw__x6, hw__x7, hw__x8, hw__x9, hw__x10, hw__x11, hw_⟩, hw__o⟩ := HC.out
      exact hK _ _ ⟨⟨hB, hx, hy, hG, hM, ⟨_, _, _, _, _, hz⟩, fun h => hz_o (by simpa [upd] using h), ⟨_, _, _, _, _, _, _, _, _, _, _, _, hw_⟩, fun h => hw__o (by simpa [upd] using h)⟩, rfl, Below.refl _ _⟩
    · -- 2: Op.store 75 t4 t59
      go_light
      intro L σ W' hcl hL hC hw hne
      have e0 : σ 0 = .agg #[.int .i64 s.rd, .int .i64 s.mo, .slice (some ⟨b, 0, none⟩) n cap, .int .i64 s.fi, .int .i64 s.la] := hw 0 (by kernel_rfl)
      clear hw hne
      have HC := Lib.hid hC
      obtain ⟨hB, hx, hy, hG, hM, ⟨hz_x0, hz_x1, hz_x2, hz_x3, hz_x4, hz⟩, hz_o, ⟨hw__x0, hw__x1, hw__x2, hw__x3, hw__x4, hw__x5, hw__x6, hw__x7, hw__x8, hw__x9, hw__x10, hw__x11, hw_⟩, hw__o⟩ := hC
      clear hcl hL
      have kc_ := hz.cell
      have kf_ := hz.frozen
      clear hB hx hy hG hM hz hz_o hw_ hw__o
      refine OpGoes.step fun K hK => ?_
      unfold OpGoes
      go_simp
      obtain ⟨hB, hx, hy, hG, hM, ⟨hz_x0, hz_x1, hz_x2, hz_x3, hz_x4, hz⟩, hz_o, ⟨hw__x0, hw__x1, hw__x2, hw__x3, hw__x4, hw__x5, hw__x6, hw__x7, hw__x8, hw__x9, hw__x10, hw__x11, hw_⟩, hw__o⟩ := HC.out
      have hset := sets_all (us := [.int .i64 s.rd, .int .i64 s.mo, .slice (some ⟨b, 0, none⟩) n cap, .int .i64 s.fi, .int .i64 s.la]) hz rfl
      refine hK undef (setCells W' (w.heap.size + 1 + 1) 0 [.int .i64 s.rd, .int .i64 s.mo, .slice (some ⟨b, 0, none⟩) n cap, .int .i64 s.fi, .int .i64 s.la]) ⟨⟨(Below.setCells (by omega) [.int .i64 s.rd, .int .i64 s.mo, .slice (some ⟨b, 0, none⟩) n cap, .int .i64 s.fi, .int .i64 s.la] 0 hB), (BoxAt.sets_ne [.int .i64 s.rd, .int .i64 s.mo, .slice (some ⟨b, 0, none⟩) n cap, .int .i64 s.fi, .int .i64 s.la] 0 hx (by omega)), (BoxAt.sets_ne [.int .i64 s.rd, .int .i64 s.mo, .slice (some ⟨b, 0, none⟩) n cap, .int .i64 s.fi, .int .i64 s.la] 0 hy (by omega)), (RgsW.sts hG (by omega) [.int .i64 s.rd, .int .i64 s.mo, .slice (some ⟨b, 0, none⟩) n cap, .int .i64 s.fi, .int .i64 s.la] 0), (size_sts hM [.int .i64 s.rd, .int .i64 s.mo, .slice (some ⟨b, 0, none⟩) n cap, .int .i64 s.fi, .int .i64 s.la] 0), ⟨_, _, _, _, _, hset⟩, fun h => absurd h (by simp [upd]), ⟨_, _, _, _, _, _, _, _, _, _, _, _, (BoxAt.sets_ne [.int .i64 s.rd, .int .i64 s.mo, .slice (some ⟨b, 0, none⟩) n cap, .int .i64 s.fi, .int .i64 s.la] 0 hw_ (by omega))⟩, fun h => (BoxAt.sets_ne [.int .i64 s.rd, .int .i64 s.mo, .slice (some ⟨b, 0, none⟩) n cap, .int .i64 s.fi, .int .i64 s.la] 0 (hw__o (by simpa [upd] using h)) (by omega))⟩, hset, Nat.le_of_eq (sets_size _ _ _).symm, fun j hj hn hR => ?_⟩
      match j, hj, hn, hR with
      | 0, _, _, hR => exact (show σ 0 = .agg #[.int .i64 s.rd, .int .i64 s.mo, .slice (some ⟨b, 0, none⟩) n cap, .int .i64 s.fi, .int .i64 s.la] from hR)
      | 1, _, _, hR => exact (show σ 1 = .agg #[.int .i64 h2.at_, .int .i64 h2.v, .int .i64 h2.r, .int .i64 h2.t, .bool h2.seen.s, .int .i64 h2.seen.n, .bool h2.seen.f, .int .i64 h2.seen.v, .int .i64 h2.tr, .int .i64 h2.sp, .bool h2.ag, .int .i64 h2.re] from hR)
      | 2, hj, _, _ => exact absurd rfl hj
      | 3, _, _, hR => exact (BoxAt.sets_ne [.int .i64 s.rd, .int .i64 s.mo, .slice (some ⟨b, 0, none⟩) n cap, .int .i64 s.fi, .int .i64 s.la] 0 hR (by omega))
      | 4, _, _, hR => exact (show σ 4 = .bool true from hR)
      | _ + 5, _, _, _ => exact trivial
    · -- 3: Op.store 41 t5 t60
      go_light
      intro L σ W' hcl hL hC hw hne
      have e1 : σ 1 = .agg #[.int .i64 h2.at_, .int .i64 h2.v, .int .i64 h2.r, .int .i64 h2.t, .bool h2.seen.s, .int .i64 h2.seen.n, .bool h2.seen.f, .int .i64 h2.seen.v, .int .i64 h2.tr, .int .i64 h2.sp, .bool h2.ag, .int .i64 h2.re] := hw 1 (by kernel_rfl)
      clear hw hne
      have HC := Lib.hid hC
      obtain ⟨hB, hx, hy, hG, hM, ⟨hz_x0, hz_x1, hz_x2, hz_x3, hz_x4, hz⟩, hz_o, ⟨hw__x0, hw__x1, hw__x2, hw__x3, hw__x4, hw__x5, hw__x6, hw__x7, hw__x8, hw__x9, hw__x10, hw__x11, hw_⟩, hw__o⟩ := hC
      clear hcl hL
      have kc_ := hw_.cell
      have kf_ := hw_.frozen
      clear hB hx hy hG hM hz hz_o hw_ hw__o
      refine OpGoes.step fun K hK => ?_
      unfold OpGoes
      go_simp
      obtain ⟨hB, hx, hy, hG, hM, ⟨hz_x0, hz_x1, hz_x2, hz_x3, hz_x4, hz⟩, hz_o, ⟨hw__x0, hw__x1, hw__x2, hw__x3, hw__x4, hw__x5, hw__x6, hw__x7, hw__x8, hw__x9, hw__x10, hw__x11, hw_⟩, hw__o⟩ := HC.out
      have hset := sets_all (us := [.int .i64 h2.at_, .int .i64 h2.v, .int .i64 h2.r, .int .i64 h2.t, .bool h2.seen.s, .int .i64 h2.seen.n, .bool h2.seen.f, .int .i64 h2.seen.v, .int .i64 h2.tr, .int .i64 h2.sp, .bool h2.ag, .int .i64 h2.re]) hw_ rfl
      refine hK undef (setCells W' (w.heap.size + 1 + 1 + 1) 0 [.int .i64 h2.at_, .int .i64 h2.v, .int .i64 h2.r, .int .i64 h2.t, .bool h2.seen.s, .int .i64 h2.seen.n, .bool h2.seen.f, .int .i64 h2.seen.v, .int .i64 h2.tr, .int .i64 h2.sp, .bool h2.ag, .int .i64 h2.re]) ⟨⟨(Below.setCells (by omega) [.int .i64 h2.at_, .int .i64 h2.v, .int .i64 h2.r, .int .i64 h2.t, .bool h2.seen.s, .int .i64 h2.seen.n, .bool h2.seen.f, .int .i64 h2.seen.v, .int .i64 h2.tr, .int .i64 h2.sp, .bool h2.ag, .int .i64 h2.re] 0 hB), (BoxAt.sets_ne [.int .i64 h2.at_, .int .i64 h2.v, .int .i64 h2.r, .int .i64 h2.t, .bool h2.seen.s, .int .i64 h2.seen.n, .bool h2.seen.f, .int .i64 h2.seen.v, .int .i64 h2.tr, .int .i64 h2.sp, .bool h2.ag, .int .i64 h2.re] 0 hx (by omega)), (BoxAt.sets_ne [.int .i64 h2.at_, .int .i64 h2.v, .int .i64 h2.r, .int .i64 h2.t, .bool h2.seen.s, .int .i64 h2.seen.n, .bool h2.seen.f, .int .i64 h2.seen.v, .int .i64 h2.tr, .int .i64 h2.sp, .bool h2.ag, .int .i64 h2.re] 0 hy (by omega)), (RgsW.sts hG (by omega) [.int .i64 h2.at_, .int .i64 h2.v, .int .i64 h2.r, .int .i64 h2.t, .bool h2.seen.s, .int .i64 h2.seen.n, .bool h2.seen.f, .int .i64 h2.seen.v, .int .i64 h2.tr, .int .i64 h2.sp, .bool h2.ag, .int .i64 h2.re] 0), (size_sts hM [.int .i64 h2.at_, .int .i64 h2.v, .int .i64 h2.r, .int .i64 h2.t, .bool h2.seen.s, .int .i64 h2.seen.n, .bool h2.seen.f, .int .i64 h2.seen.v, .int .i64 h2.tr, .int .i64 h2.sp, .bool h2.ag, .int .i64 h2.re] 0), ⟨_, _, _, _, _, (BoxAt.sets_ne [.int .i64 h2.at_, .int .i64 h2.v, .int .i64 h2.r, .int .i64 h2.t, .bool h2.seen.s, .int .i64 h2.seen.n, .bool h2.seen.f, .int .i64 h2.seen.v, .int .i64 h2.tr, .int .i64 h2.sp, .bool h2.ag, .int .i64 h2.re] 0 hz (by omega))⟩, fun h => (BoxAt.sets_ne [.int .i64 h2.at_, .int .i64 h2.v, .int .i64 h2.r, .int .i64 h2.t, .bool h2.seen.s, .int .i64 h2.seen.n, .bool h2.seen.f, .int .i64 h2.seen.v, .int .i64 h2.tr, .int .i64 h2.sp, .bool h2.ag, .int .i64 h2.re] 0 (hz_o (by simpa [upd] using h)) (by omega)), ⟨_, _, _, _, _, _, _, _, _, _, _, _, hset⟩, fun h => absurd h (by simp [upd])⟩, hset, Nat.le_of_eq (sets_size _ _ _).symm, fun j hj hn hR => ?_⟩
      match j, hj, hn, hR with
      | 0, _, _, hR => exact (show σ 0 = .agg #[.int .i64 s.rd, .int .i64 s.mo, .slice (some ⟨b, 0, none⟩) n cap, .int .i64 s.fi, .int .i64 s.la] from hR)
      | 1, _, _, hR => exact (show σ 1 = .agg #[.int .i64 h2.at_, .int .i64 h2.v, .int .i64 h2.r, .int .i64 h2.t, .bool h2.seen.s, .int .i64 h2.seen.n, .bool h2.seen.f, .int .i64 h2.seen.v, .int .i64 h2.tr, .int .i64 h2.sp, .bool h2.ag, .int .i64 h2.re] from hR)
      | 2, _, _, hR => exact (BoxAt.sets_ne [.int .i64 h2.at_, .int .i64 h2.v, .int .i64 h2.r, .int .i64 h2.t, .bool h2.seen.s, .int .i64 h2.seen.n, .bool h2.seen.f, .int .i64 h2.seen.v, .int .i64 h2.tr, .int .i64 h2.sp, .bool h2.ag, .int .i64 h2.re] 0 hR (by omega))
      | 3, hj, _, _ => exact absurd rfl hj
      | 4, _, _, hR => exact (show σ 4 = .bool true from hR)
      | _ + 5, _, _, _ => exact trivial
    · -- 4: Op.assign (const (Value.bool true))
      go_light
      intro L σ W' hcl hL hC hw
      clear hw
      have HC := Lib.hid hC
      clear hC
      clear hcl hL
      refine OpGoes.step fun K hK => ?_
      unfold OpGoes
      go_simp
      obtain ⟨hB, hx, hy, hG, hM, ⟨hz_x0, hz_x1, hz_x2, hz_x3, hz_x4, hz⟩, hz_o, ⟨hw__x0, hw__x1, hw__x2, hw__x3, hw__x4, hw__x5, hw__x6, hw__x7, hw__x8, hw__x9, hw__x10, hw__x11, hw_⟩, hw__o⟩ := HC.out
      exact hK _ _ ⟨⟨hB, hx, hy, hG, hM, ⟨_, _, _, _, _, hz⟩, fun h => hz_o (by simpa [upd] using h), ⟨_, _, _, _, _, _, _, _, _, _, _, _, hw_⟩, fun h => hw__o (by simpa [upd] using h)⟩, rfl, Below.refl _ _⟩
    · intro σ L W' hall hC hR
      obtain ⟨hB, hx, hy, hG, hM, ⟨hz_x0, hz_x1, hz_x2, hz_x3, hz_x4, hz⟩, hz_o, ⟨hw__x0, hw__x1, hw__x2, hw__x3, hw__x4, hw__x5, hw__x6, hw__x7, hw__x8, hw__x9, hw__x10, hw__x11, hw_⟩, hw__o⟩ := hC
      have sv2 : BoxAt W' (w.heap.size + 1 + 1) #[.int .i64 s.rd, .int .i64 s.mo, .slice (some ⟨b, 0, none⟩) n cap, .int .i64 s.fi, .int .i64 s.la] 75 := hR 2 (by decide)
      have sv3 : BoxAt W' (w.heap.size + 1 + 1 + 1) #[.int .i64 h2.at_, .int .i64 h2.v, .int .i64 h2.r, .int .i64 h2.t, .bool h2.seen.s, .int .i64 h2.seen.n, .bool h2.seen.f, .int .i64 h2.seen.v, .int .i64 h2.tr, .int .i64 h2.sp, .bool h2.ag, .int .i64 h2.re] 41 := hR 3 (by decide)
      have e4 : σ 4 = .bool true := hR 4 (by decide)
      clear hR
      simp only [lexAll]
      go_simp
      go_step
      have k7 := sv2.cell
      have k8 := sv3.cell
      go_wp2
      refine bodyPost_ret (v := .tuple #[stV s (some ⟨b, 0, none⟩) n cap, hdV h2, .bool true]) (by simp [results, Try.results103, go_sem, k7, k8, stV, hdV, Hd.rest, Hd.zero]) rfl ⟨some ⟨b, 0, none⟩, n, cap, by rw [HV.out], ?_, hB⟩
      rw [HV.out]
      exact hG.cut.mono (by omega) (Nat.le_refl _)
set_option maxRecDepth 100000 in
set_option maxHeartbeats 4000000 in
theorem l7Fix_24 (s : St) (A : Option Addr) (n cap lo hi : Nat) (v r t : Int) (seen : Pl) (tr sp : Int) (ag : Bool) (re : Int) (w : World) (hs : RgsW lo hi w A n cap s.rs) (hh : hi ≤ w.heap.size) (hlo : lo ≤ w.heap.size) (hok : stOk s = true) (hrb : ringB s r = true) :
    Calls Try.prog 103 #[stV s A n cap, hdV ⟨24, v, r, t, seen, tr, sp, ag, re⟩] w (RetSHB lo (take24 s ⟨24, v, r, t, seen, tr, sp, ag, re⟩) w) := by
  have HOK := Lib.hid hok
  have HRB := Lib.hid hrb
  have HLN := Lib.hid hs.1
  have HNT := Lib.hid (stOk_neat hok)
  obtain ⟨z0, z1, z2⟩ := ringB_at HLN.out hrb
  clear hok hrb
  unfold stV hdV
  dsimp only
  go_enter Try.func103, Try.ntmps103
  go_upto_region 1 with fail
  refine wp_abs (fun W => Below w.heap.size w W ∧ BoxAt W w.heap.size #[.int .i64 s.rd, .int .i64 s.mo, .slice A n cap, .int .i64 s.fi, .int .i64 s.la] 75 ∧ BoxAt W (w.heap.size + 1) #[.int .i64 24, .int .i64 v, .int .i64 r, .int .i64 t, .bool seen.s, .int .i64 seen.n, .bool seen.f, .int .i64 seen.v, .int .i64 tr, .int .i64 sp, .bool ag, .int .i64 re] 41 ∧ BoxAt W (w.heap.size + 1 + 1) #[.int .i64 0, .int .i64 0, .slice none 0 0, .int .i64 0, .int .i64 0] 75 ∧ BoxAt W (w.heap.size + 1 + 1 + 1) #[.int .i64 0, .int .i64 0, .int .i64 0, .int .i64 0, .bool false, .int .i64 0, .bool false, .int .i64 0, .int .i64 0, .int .i64 0, .bool false, .int .i64 0] 41) ⟨(((((Below.refl _ _).alloc (Nat.le_refl _) _).alloc (by simp) _).alloc (by simp; omega) _).alloc (by simp; omega) _), (((BoxAt.new _ _ _).alloc _).alloc _).alloc _, ((BoxAt.new' (by simp)).alloc _).alloc _, (BoxAt.new' (by simp)).alloc _, BoxAt.new' (by simp)⟩ ?_
  rintro W0 ⟨hB, hx, hy, hz, hw_⟩
  have lw0 := hw_.lt
  have hs0 := hs.below hB hh
  have kx := hx.cell
  have ky := hy.cell
  have fy := hy.frozen
  obtain ⟨b, rg, A', n', cap', rfl, hlb, hbh, hri, c0, c1', c2, c3, c4, hpw⟩ := hs0.at_ z2
  have HAT := Lib.hid (St.at_some (s := s) (z := r) hri)
  have hnum := stOk_nums HOK.out rg (List.mem_of_getElem? hri)
  clear hri
  go_upto_region 3 with fail
  refine wp_abs (fun W => Below w.heap.size w W ∧ BoxAt W w.heap.size #[.int .i64 s.rd, .int .i64 s.mo, .slice (some ⟨b, 0, none⟩) n cap, .int .i64 s.fi, .int .i64 s.la] 75 ∧ BoxAt W (w.heap.size + 1) #[.int .i64 24, .int .i64 v, .int .i64 r, .int .i64 t, .bool seen.s, .int .i64 seen.n, .bool seen.f, .int .i64 seen.v, .int .i64 tr, .int .i64 sp, .bool ag, .int .i64 re] 41 ∧ BoxAt W (w.heap.size + 1 + 1) #[.int .i64 0, .int .i64 0, .slice none 0 0, .int .i64 0, .int .i64 0] 75 ∧ BoxAt W (w.heap.size + 1 + 1 + 1) #[.int .i64 0, .int .i64 0, .int .i64 0, .int .i64 0, .bool false, .int .i64 0, .bool false, .int .i64 0, .int .i64 0, .int .i64 0, .bool false, .int .i64 0] 41 ∧ BoxAt W W0.heap.size #[.int .i64 rg.h, .int .i64 rg.t, .bool rg.c, .int .i64 rg.x, .slice A' n' cap'] 27) ⟨hB.alloc hB.size _, hx.alloc _, hy.alloc _, hz.alloc _, hw_.alloc _, BoxAt.new _ _ _⟩ ?_
  clear kx ky fy hB hx hy hz hw_ hs0 c0 c1' c2 c3 c4 hpw
  generalize W0.heap.size = Z at *
  rintro W0 ⟨hB, hx, hy, hz, hw_, hZ⟩
  have lZ := hZ.lt
  have lw2 := hw_.lt
  have hs0 := hs.below hB hh
  have kx := hx.cell
  have ky := hy.cell
  have fy := hy.frozen
  have kZ := hZ.cell
  go_wp2_with fail
  clear kx ky fy kZ
  refine (sswing_any s (some ⟨b, 0, none⟩) n cap lo hi false r rg.x _ hs0 (Nat.le_trans hh hB.size) (by have := HNT.out.2.1; have := HLN.out; omega) HNT.out.len).mono ?_
  rintro e w1 ⟨A5, n5, c5, rfl, hG5, hb5⟩
  replace hx := hx.below hb5 hx.lt
  replace hy := hy.below hb5 hy.lt
  replace hz := hz.below hb5 hz.lt
  replace hw_ := hw_.below hb5 hw_.lt
  have h5 := hb5.size
  replace hB := bstep hB hB.size hb5
  clear hb5
  generalize hq5 : swing s false r rg.x = q at *
  have HQ5 := Lib.hid hq5; clear hq5
  unfold stV
  have kx := hx.cell
  have fx := hx.frozen
  have ky := hy.cell
  have fy := hy.frozen
  have hZ4 : w.heap.size + 4 ≤ W0.heap.size := by omega
  go_upto_region 26 with fail
  have HV := Lib.hid (show take24 s ⟨24, v, r, t, seen, tr, sp, ag, re⟩ = (q.1, (⟨13, v, r, t, seen, tr, sp, false, re⟩ : Hd), true) by simp only [take24, HAT.out, HQ5.out])
  refine wp_abs (fun W' => Below w.heap.size w W' ∧ BoxAt W' w.heap.size #[.int .i64 q.1.rd, .int .i64 q.1.mo, .slice A5 n5 c5, .int .i64 q.1.fi, .int .i64 q.1.la] 75 ∧ BoxAt W' (w.heap.size + 1) #[.int .i64 ((⟨13, v, r, t, seen, tr, sp, false, re⟩ : Hd)).at_, .int .i64 ((⟨13, v, r, t, seen, tr, sp, false, re⟩ : Hd)).v, .int .i64 ((⟨13, v, r, t, seen, tr, sp, false, re⟩ : Hd)).r, .int .i64 ((⟨13, v, r, t, seen, tr, sp, false, re⟩ : Hd)).t, .bool ((⟨13, v, r, t, seen, tr, sp, false, re⟩ : Hd)).seen.s, .int .i64 ((⟨13, v, r, t, seen, tr, sp, false, re⟩ : Hd)).seen.n, .bool ((⟨13, v, r, t, seen, tr, sp, false, re⟩ : Hd)).seen.f, .int .i64 ((⟨13, v, r, t, seen, tr, sp, false, re⟩ : Hd)).seen.v, .int .i64 ((⟨13, v, r, t, seen, tr, sp, false, re⟩ : Hd)).tr, .int .i64 ((⟨13, v, r, t, seen, tr, sp, false, re⟩ : Hd)).sp, .bool ((⟨13, v, r, t, seen, tr, sp, false, re⟩ : Hd)).ag, .int .i64 ((⟨13, v, r, t, seen, tr, sp, false, re⟩ : Hd)).re] 41 ∧ BoxAt W' (w.heap.size + 1 + 1) #[.int .i64 0, .int .i64 0, .slice none 0 0, .int .i64 0, .int .i64 0] 75 ∧ BoxAt W' (w.heap.size + 1 + 1 + 1) #[.int .i64 0, .int .i64 0, .int .i64 0, .int .i64 0, .bool false, .int .i64 0, .bool false, .int .i64 0, .int .i64 0, .int .i64 0, .bool false, .int .i64 0] 41 ∧ RgsW W0.heap.size w1.heap.size W' A5 n5 c5 (q.1).rs ∧ w1.heap.size ≤ W'.heap.size) ⟨((((((((hB.setCell (by dsimp only; omega) _).setCell (by dsimp only; omega) _).setCell (by dsimp only; omega) _).setCell (by dsimp only; omega) _).setCell (by dsimp only; omega) _)).setCell (by dsimp only; omega) _).setCell (by dsimp only; omega) _), (((sets_all (us := [.int .i64 q.1.rd, .int .i64 q.1.mo, .slice A5 n5 c5, .int .i64 q.1.fi, .int .i64 q.1.la]) hx rfl).set_ne (by omega) _ _).set_ne (by omega) _ _), by simpa using ((((((((hy.set_ne (by omega) _ _).set_ne (by omega) _ _).set_ne (by omega) _ _).set_ne (by omega) _ _).set_ne (by omega) _ _)).set 10 (.bool false)).set 0 (.int .i64 13)), ((((((((hz.set_ne (by omega) _ _).set_ne (by omega) _ _).set_ne (by omega) _ _).set_ne (by omega) _ _).set_ne (by omega) _ _)).set_ne (by omega) _ _).set_ne (by omega) _ _), ((((((((hw_.set_ne (by omega) _ _).set_ne (by omega) _ _).set_ne (by omega) _ _).set_ne (by omega) _ _).set_ne (by omega) _ _)).set_ne (by omega) _ _).set_ne (by omega) _ _), ((((((((hG5.st (.inl (by omega)) _ _).st (.inl (by omega)) _ _).st (.inl (by omega)) _ _).st (.inl (by omega)) _ _).st (.inl (by omega)) _ _)).st (.inl (by omega)) _ _).st (.inl (by omega)) _ _), by simp⟩ ?_
  clear kx fx ky fy hB hx hy hz hw_ hG5 hZ hs0
  generalize hq2 : (⟨13, v, r, t, seen, tr, sp, false, re⟩ : Hd) = h2 at *
  clear hq2
  rintro W ⟨hB, hx, hy, hz, hw_, hG, hhi⟩
  have lw := hw_.lt
  obtain ⟨M, hMe⟩ : ∃ M, M = W.heap.size := ⟨_, rfl⟩
  have hM : M ≤ W.heap.size := by omega
  have hhi2 : w1.heap.size ≤ M := by omega
  clear hMe
  refine wp_region2 (fun w w' => Below w.heap.size w w') (fun _ _ h => h.size) (fun L W' => Below w.heap.size w W' ∧ BoxAt W' w.heap.size #[.int .i64 q.1.rd, .int .i64 q.1.mo, .slice A5 n5 c5, .int .i64 q.1.fi, .int .i64 q.1.la] 75 ∧ BoxAt W' (w.heap.size + 1) #[.int .i64 h2.at_, .int .i64 h2.v, .int .i64 h2.r, .int .i64 h2.t, .bool h2.seen.s, .int .i64 h2.seen.n, .bool h2.seen.f, .int .i64 h2.seen.v, .int .i64 h2.tr, .int .i64 h2.sp, .bool h2.ag, .int .i64 h2.re] 41 ∧ RgsW W0.heap.size w1.heap.size W' A5 n5 c5 q.1.rs ∧ M ≤ W'.heap.size ∧ (∃ x0 x1 x2 x3 x4, BoxAt W' (w.heap.size + 1 + 1) #[x0, x1, x2, x3, x4] 75) ∧ (L 2 = false → BoxAt W' (w.heap.size + 1 + 1) #[.int .i64 0, .int .i64 0, .slice none 0 0, .int .i64 0, .int .i64 0] 75) ∧ (∃ x0 x1 x2 x3 x4 x5 x6 x7 x8 x9 x10 x11, BoxAt W' (w.heap.size + 1 + 1 + 1) #[x0, x1, x2, x3, x4, x5, x6, x7, x8, x9, x10, x11] 41) ∧ (L 3 = false → BoxAt W' (w.heap.size + 1 + 1 + 1) #[.int .i64 0, .int .i64 0, .int .i64 0, .int .i64 0, .bool false, .int .i64 0, .bool false, .int .i64 0, .int .i64 0, .int .i64 0, .bool false, .int .i64 0] 41)) (fxDR q.1 w.heap.size w.heap.size (w.heap.size + 1) n5 c5 A5 h2) fxDK fxDS (by kernel_rfl) (by kernel_rfl) ?_ ?_ ?_
    (.grow rfl ?_ <| .grow rfl ?_ <| .store rfl ?_ <| .store rfl ?_ <| .grow rfl ?_ <| .nil) ?_
  · intro j σ τ w h hR
    match j, h, hR with
    | 0, h, hR => exact (h 0 (List.mem_singleton.2 rfl)).symm.trans hR
    | 1, h, hR => exact (h 1 (List.mem_singleton.2 rfl)).symm.trans hR
    | 2, _, hR => exact hR
    | 3, _, hR => exact hR
    | 4, h, hR => exact (h 4 (List.mem_singleton.2 rfl)).symm.trans hR
    | _ + 5, _, _ => exact trivial
  · intro j σ w w' hb hR
    match j, hR with
    | 0, hR => exact hR
    | 1, hR => exact hR
    | 2, hR => exact hR.below hb hR.lt
    | 3, hR => exact hR.below hb hR.lt
    | 4, hR => exact hR
    | _ + 5, _ => exact trivial
  · exact ⟨hB.drew, hx, hy, hG, hM, ⟨_, _, _, _, _, hz⟩, fun _ => hz, ⟨_, _, _, _, _, _, _, _, _, _, _, _, hw_⟩, fun _ => hw_⟩
  · -- 0: Op.load 75 t2
    go_light
    intro L σ W' hcl hL hC hw
    clear hw
    have HC := Lib.hid hC
    obtain ⟨hB, hx, hy, hG, hM, ⟨hz_x0, hz_x1, hz_x2, hz_x3, hz_x4, hz⟩, hz_o, ⟨hw__x0, hw__x1, hw__x2, hw__x3, hw__x4, hw__x5, hw__x6, hw__x7, hw__x8, hw__x9, hw__x10, hw__x11, hw_⟩, hw__o⟩ := hC
    have ks := hx.cell
    clear hcl hL
    clear hB hx hy hG hM hz hz_o hw_ hw__o
    refine OpGoes.step fun K hK => ?_
    unfold OpGoes
    go_simp
    obtain ⟨hB, hx, hy, hG, hM, ⟨hz_x0, hz_x1, hz_x2, hz_x3, hz_x4, hz⟩, hz_o, ⟨hw__x0, hw__x1, hw__x2, hw__x3, hw__x4, hw__x5, hw__x6, hw__x7, hw__x8, hw__x9, hw__x10, hw__x11, hw_⟩, hw__o⟩ := HC.out
    exact hK _ _ ⟨⟨hB, hx, hy, hG, hM, ⟨_, _, _, _, _, hz⟩, fun h => hz_o (by simpa [upd] using h), ⟨_, _, _, _, _, _, _, _, _, _, _, _, hw_⟩, fun h => hw__o (by simpa [upd] using h)⟩, rfl, Below.refl _ _⟩
  · -- 1: Op.load 41 t3
    go_light
    intro L σ W' hcl hL hC hw
    clear hw
    have HC := Lib.hid hC
    obtain ⟨hB, hx, hy, hG, hM, ⟨hz_x0, hz_x1, hz_x2, hz_x3, hz_x4, hz⟩, hz_o, ⟨hw__x0, hw__x1, hw__x2, hw__x3, hw__x4, hw__x5, hw__x6, hw__x7, hw__x8, hw__x9, hw__x10, hw__x11, hw_⟩, hw__o⟩ := hC
    have kh := hy.cell
    clear hcl hL
    clear hB hx hy hG hM hz hz_o hw_ hw__o
    refine OpGoes.step fun K hK => ?_
    unfold OpGoes
    go_simp
    obtain ⟨hB, hx, hy, hG, hM, ⟨hz_x0, hz_x1, hz_x2, hz_x3, hz_x4, hz⟩, hz_o, ⟨hw__x0, hw__x1, hw__x2, hw__x3, hw__x4, hw__x5, hw__x6, hw__x7, hw__x8, hw__x9, hw__x10, hw__x11, hw_⟩, hw__o⟩ := HC.out
    exact hK _ _ ⟨⟨hB, hx, hy, hG, hM, ⟨_, _, _, _, _, hz⟩, fun h => hz_o (by simpa [upd] using h), ⟨_, _, _, _, _, _, _, _, _, _, _, _, hw_⟩, fun h => hw__o (by simpa [upd] using h)⟩, rfl, Below.refl _ _⟩
  · -- 2: Op.store 75 t4 t81
    go_light
    intro L σ W' hcl hL hC hw hne
    have e0 : σ 0 = .agg #[.int .i64 q.1.rd, .int .i64 q.1.mo, .slice A5 n5 c5, .int .i64 q.1.fi, .int .i64 q.1.la] := hw 0 (by kernel_rfl)
    clear hw hne
    have HC := Lib.hid hC
    obtain ⟨hB, hx, hy, hG, hM, ⟨hz_x0, hz_x1, hz_x2, hz_x3, hz_x4, hz⟩, hz_o, ⟨hw__x0, hw__x1, hw__x2, hw__x3, hw__x4, hw__x5, hw__x6, hw__x7, hw__x8, hw__x9, hw__x10, hw__x11, hw_⟩, hw__o⟩ := hC
    clear hcl hL
    have kc_ := hz.cell
    have kf_ := hz.frozen
    clear hB hx hy hG hM hz hz_o hw_ hw__o
    refine OpGoes.step fun K hK => ?_
    unfold OpGoes
    go_simp
    obtain ⟨hB, hx, hy, hG, hM, ⟨hz_x0, hz_x1, hz_x2, hz_x3, hz_x4, hz⟩, hz_o, ⟨hw__x0, hw__x1, hw__x2, hw__x3, hw__x4, hw__x5, hw__x6, hw__x7, hw__x8, hw__x9, hw__x10, hw__x11, hw_⟩, hw__o⟩ := HC.out
    have hset := sets_all (us := [.int .i64 q.1.rd, .int .i64 q.1.mo, .slice A5 n5 c5, .int .i64 q.1.fi, .int .i64 q.1.la]) hz rfl
    refine hK undef (setCells W' (w.heap.size + 1 + 1) 0 [.int .i64 q.1.rd, .int .i64 q.1.mo, .slice A5 n5 c5, .int .i64 q.1.fi, .int .i64 q.1.la]) ⟨⟨(Below.setCells (by omega) [.int .i64 q.1.rd, .int .i64 q.1.mo, .slice A5 n5 c5, .int .i64 q.1.fi, .int .i64 q.1.la] 0 hB), (BoxAt.sets_ne [.int .i64 q.1.rd, .int .i64 q.1.mo, .slice A5 n5 c5, .int .i64 q.1.fi, .int .i64 q.1.la] 0 hx (by omega)), (BoxAt.sets_ne [.int .i64 q.1.rd, .int .i64 q.1.mo, .slice A5 n5 c5, .int .i64 q.1.fi, .int .i64 q.1.la] 0 hy (by omega)), (RgsW.sts hG (by omega) [.int .i64 q.1.rd, .int .i64 q.1.mo, .slice A5 n5 c5, .int .i64 q.1.fi, .int .i64 q.1.la] 0), (size_sts hM [.int .i64 q.1.rd, .int .i64 q.1.mo, .slice A5 n5 c5, .int .i64 q.1.fi, .int .i64 q.1.la] 0), ⟨_, _, _, _, _, hset⟩, fun h => absurd h (by simp [upd]), ⟨_, _, _, _, _, _, _, _, _, _, _, _, (BoxAt.sets_ne [.int .i64 q.1.rd, .int .i64 q.1.mo, .slice A5 n5 c5, .int .i64 q.1.fi, .int .i64 q.1.la] 0 hw_ (by omega))⟩, fun h => (BoxAt.sets_ne [.int .i64 q.1.rd, .int .i64 q.1.mo, .slice A5 n5 c5, .int .i64 q.1.fi, .int .i64 q.1.la] 0 (hw__o (by simpa [upd] using h)) (by omega))⟩, hset, Nat.le_of_eq (sets_size _ _ _).symm, fun j hj hn hR => ?_⟩
    match j, hj, hn, hR with
    | 0, _, _, hR => exact (show σ 0 = .agg #[.int .i64 q.1.rd, .int .i64 q.1.mo, .slice A5 n5 c5, .int .i64 q.1.fi, .int .i64 q.1.la] from hR)
    | 1, _, _, hR => exact (show σ 1 = .agg #[.int .i64 h2.at_, .int .i64 h2.v, .int .i64 h2.r, .int .i64 h2.t, .bool h2.seen.s, .int .i64 h2.seen.n, .bool h2.seen.f, .int .i64 h2.seen.v, .int .i64 h2.tr, .int .i64 h2.sp, .bool h2.ag, .int .i64 h2.re] from hR)
    | 2, hj, _, _ => exact absurd rfl hj
    | 3, _, _, hR => exact (BoxAt.sets_ne [.int .i64 q.1.rd, .int .i64 q.1.mo, .slice A5 n5 c5, .int .i64 q.1.fi, .int .i64 q.1.la] 0 hR (by omega))
    | 4, _, _, hR => exact (show σ 4 = .bool true from hR)
    | _ + 5, _, _, _ => exact trivial
  · -- 3: Op.store 41 t5 t82
    go_light
    intro L σ W' hcl hL hC hw hne
    have e1 : σ 1 = .agg #[.int .i64 h2.at_, .int .i64 h2.v, .int .i64 h2.r, .int .i64 h2.t, .bool h2.seen.s, .int .i64 h2.seen.n, .bool h2.seen.f, .int .i64 h2.seen.v, .int .i64 h2.tr, .int .i64 h2.sp, .bool h2.ag, .int .i64 h2.re] := hw 1 (by kernel_rfl)
    clear hw hne
    have HC := Lib.hid hC
    obtain ⟨hB, hx, hy, hG, hM, ⟨hz_x0, hz_x1, hz_x2, hz_x3, hz_x4, hz⟩, hz_o, ⟨hw__x0, hw__x1, hw__x2, hw__x3, hw__x4, hw__x5, hw__x6, hw__x7, hw__x8, hw__x9, hw__x10, hw__x11, hw_⟩, hw__o⟩ := hC
    clear hcl hL
    have kc_ := hw_.cell
    have kf_ := hw_.frozen
    clear hB hx hy hG hM hz hz_o hw_ hw__o
    refine OpGoes.step fun K hK => ?_
    unfold OpGoes
    go_simp
    obtain ⟨hB, hx, hy, hG, hM, ⟨hz_x0, hz_x1, hz_x2, hz_x3, hz_x4, hz⟩, hz_o, ⟨hw__x0, hw__x1, hw__x2, hw__x3, hw__x4, hw__x5, hw__x6, hw__x7, hw__x8, hw__x9, hw__x10, hw__x11, hw_⟩, hw__o⟩ := HC.out
    have hset := sets_all (us := [.int .i64 h2.at_, .int .i64 h2.v, .int .i64 h2.r, .int .i64 h2.t, .bool h2.seen.s, .int .i64 h2.seen.n, .bool h2.seen.f, .int .i64 h2.seen.v, .int .i64 h2.tr, .int .i64 h2.sp, .bool h2.ag, .int .i64 h2.re]) hw_ rfl
    refine hK undef (setCells W' (w.heap.size + 1 + 1 + 1) 0 [.int .i64 h2.at_, .int .i64 h2.v, .int .i64 h2.r, .int .i64 h2.t, .bool h2.seen.s, .int .i64 h2.seen.n, .bool h2.seen.f, .int .i64 h2.seen.v, .int .i64 h2.tr, .int .i64 h2.sp, .bool h2.ag, .int .i64 h2.re]) ⟨⟨(Below.setCells (by omega) [.int .i64 h2.at_, .int .i64 h2.v, .int .i64 h2.r, .int .i64 h2.t, .bool h2.seen.s, .int .i64 h2.seen.n, .bool h2.seen.f, .int .i64 h2.seen.v, .int .i64 h2.tr, .int .i64 h2.sp, .bool h2.ag, .int .i64 h2.re] 0 hB), (BoxAt.sets_ne [.int .i64 h2.at_, .int .i64 h2.v, .int .i64 h2.r, .int .i64 h2.t, .bool h2.seen.s, .int .i64 h2.seen.n, .bool h2.seen.f, .int .i64 h2.seen.v, .int .i64 h2.tr, .int .i64 h2.sp, .bool h2.ag, .int .i64 h2.re] 0 hx (by omega)), (BoxAt.sets_ne [.int .i64 h2.at_, .int .i64 h2.v, .int .i64 h2.r, .int .i64 h2.t, .bool h2.seen.s, .int .i64 h2.seen.n, .bool h2.seen.f, .int .i64 h2.seen.v, .int .i64 h2.tr, .int .i64 h2.sp, .bool h2.ag, .int .i64 h2.re] 0 hy (by omega)), (RgsW.sts hG (by omega) [.int .i64 h2.at_, .int .i64 h2.v, .int .i64 h2.r, .int .i64 h2.t, .bool h2.seen.s, .int .i64 h2.seen.n, .bool h2.seen.f, .int .i64 h2.seen.v, .int .i64 h2.tr, .int .i64 h2.sp, .bool h2.ag, .int .i64 h2.re] 0), (size_sts hM [.int .i64 h2.at_, .int .i64 h2.v, .int .i64 h2.r, .int .i64 h2.t, .bool h2.seen.s, .int .i64 h2.seen.n, .bool h2.seen.f, .int .i64 h2.seen.v, .int .i64 h2.tr, .int .i64 h2.sp, .bool h2.ag, .int .i64 h2.re] 0), ⟨_, _, _, _, _, (BoxAt.sets_ne [.int .i64 h2.at_, .int .i64 h2.v, .int .i64 h2.r, .int .i64 h2.t, .bool h2.seen.s, .int .i64 h2.seen.n, .bool h2.seen.f, .int .i64 h2.seen.v, .int .i64 h2.tr, .int .i64 h2.sp, .bool h2.ag, .int .i64 h2.re] 0 hz (by omega))⟩, fun h => (BoxAt.sets_ne [.int .i64 h2.at_, .int .i64 h2.v, .int .i64 h2.r, .int .i64 h2.t, .bool h2.seen.s, .int .i64 h2.seen.n, .bool h2.seen.f, .int .i64 h2.seen.v, .int .i64 h2.tr, .int .i64 h2.sp, .bool h2.ag, .int .i64 h2.re] 0 (hz_o (by simpa [upd] using h)) (by omega)), ⟨_, _, _, _, _, _, _, _, _, _, _, _, hset⟩, fun h => absurd h (by simp [upd])⟩, hset, Nat.le_of_eq (sets_size _ _ _).symm, fun j hj hn hR => ?_⟩
    match j, hj, hn, hR with
    | 0, _, _, hR => exact (show σ 0 = .agg #[.int .i64 q.1.rd, .int .i64 q.1.mo, .slice A5 n5 c5, .int .i64 q.1.fi, .int .i64 q.1.la] from hR)
    | 1, _, _, hR => exact (show σ 1 = .agg #[.int .i64 h2.at_, .int .i64 h2.v, .int .i64 h2.r, .int .i64 h2.t, .bool h2.seen.s, .int .i64 h2.seen.n, .bool h2.seen.f, .int .i64 h2.seen.v, .int .i64 h2.tr, .int .i64 h2.sp, .bool h2.ag, .int .i64 h2.re] from hR)
    | 2, _, _, hR => exact (BoxAt.sets_ne [.int .i64 h2.at_, .int .i64 h2.v, .int .i64 h2.r, .int .i64 h2.t, .bool h2.seen.s, .int .i64 h2.seen.n, .bool h2.seen.f, .int .i64 h2.seen.v, .int .i64 h2.tr, .int .i64 h2.sp, .bool h2.ag, .int .i64 h2.re] 0 hR (by omega))
    | 3, hj, _, _ => exact absurd rfl hj
    | 4, _, _, hR => exact (show σ 4 = .bool true from hR)
    | _ + 5, _, _, _ => exact trivial
  · -- 4: Op.assign (const (Value.bool true))
    go_light
    intro L σ W' hcl hL hC hw
    clear hw
    have HC := Lib.hid hC
    clear hC
    clear hcl hL
    refine OpGoes.step fun K hK => ?_
    unfold OpGoes
    go_simp
    obtain ⟨hB, hx, hy, hG, hM, ⟨hz_x0, hz_x1, hz_x2, hz_x3, hz_x4, hz⟩, hz_o, ⟨hw__x0, hw__x1, hw__x2, hw__x3, hw__x4, hw__x5, hw__x6, hw__x7, hw__x8, hw__x9, hw__x10, hw__x11, hw_⟩, hw__o⟩ := HC.out
    exact hK _ _ ⟨⟨hB, hx, hy, hG, hM, ⟨_, _, _, _, _, hz⟩, fun h => hz_o (by simpa [upd] using h), ⟨_, _, _, _, _, _, _, _, _, _, _, _, hw_⟩, fun h => hw__o (by simpa [upd] using h)⟩, rfl, Below.refl _ _⟩
  · intro σ L W' hall hC hR
    obtain ⟨hB, hx, hy, hG, hM, ⟨hz_x0, hz_x1, hz_x2, hz_x3, hz_x4, hz⟩, hz_o, ⟨hw__x0, hw__x1, hw__x2, hw__x3, hw__x4, hw__x5, hw__x6, hw__x7, hw__x8, hw__x9, hw__x10, hw__x11, hw_⟩, hw__o⟩ := hC
    have sv2 : BoxAt W' (w.heap.size + 1 + 1) #[.int .i64 q.1.rd, .int .i64 q.1.mo, .slice A5 n5 c5, .int .i64 q.1.fi, .int .i64 q.1.la] 75 := hR 2 (by decide)
    have sv3 : BoxAt W' (w.heap.size + 1 + 1 + 1) #[.int .i64 h2.at_, .int .i64 h2.v, .int .i64 h2.r, .int .i64 h2.t, .bool h2.seen.s, .int .i64 h2.seen.n, .bool h2.seen.f, .int .i64 h2.seen.v, .int .i64 h2.tr, .int .i64 h2.sp, .bool h2.ag, .int .i64 h2.re] 41 := hR 3 (by decide)
    have e4 : σ 4 = .bool true := hR 4 (by decide)
    clear hR
    simp only [lexAll]
    go_simp
    go_step
    have k7 := sv2.cell
    have k8 := sv3.cell
    go_wp2
    refine bodyPost_ret (v := .tuple #[stV q.1 A5 n5 c5, hdV h2, .bool true]) (by simp [results, Try.results103, go_sem, k7, k8, stV, hdV, Hd.rest, Hd.zero]) rfl ⟨A5, n5, c5, by rw [HV.out], ?_, hB⟩
    rw [HV.out]
    exact hG.cut.mono (by omega) (Nat.le_refl _)
set_option maxRecDepth 100000 in
set_option maxHeartbeats 4000000 in
theorem l7Fix_22 (s : St) (A : Option Addr) (n cap lo hi : Nat) (v r t : Int) (seen : Pl) (tr sp : Int) (ag : Bool) (re : Int) (w : World) (hs : RgsW lo hi w A n cap s.rs) (hh : hi ≤ w.heap.size) (hlo : lo ≤ w.heap.size) (hok : stOk s = true) (hrb : ringB s r = true) :
    Calls Try.prog 103 #[stV s A n cap, hdV ⟨22, v, r, t, seen, tr, sp, ag, re⟩] w (RetSHB lo (take22 s ⟨22, v, r, t, seen, tr, sp, ag, re⟩) w) := by
  have HOK := Lib.hid hok
  have HRB := Lib.hid hrb
  have HLN := Lib.hid hs.1
  have HNT := Lib.hid (stOk_neat hok)
  obtain ⟨z0, z1, z2⟩ := ringB_at HLN.out hrb
  clear hok hrb
  unfold stV hdV
  dsimp only
  go_enter Try.func103, Try.ntmps103
  go_upto_region 1 with fail
  refine wp_abs (fun W => Below w.heap.size w W ∧ BoxAt W w.heap.size #[.int .i64 s.rd, .int .i64 s.mo, .slice A n cap, .int .i64 s.fi, .int .i64 s.la] 75 ∧ BoxAt W (w.heap.size + 1) #[.int .i64 22, .int .i64 v, .int .i64 r, .int .i64 t, .bool seen.s, .int .i64 seen.n, .bool seen.f, .int .i64 seen.v, .int .i64 tr, .int .i64 sp, .bool ag, .int .i64 re] 41 ∧ BoxAt W (w.heap.size + 1 + 1) #[.int .i64 0, .int .i64 0, .slice none 0 0, .int .i64 0, .int .i64 0] 75 ∧ BoxAt W (w.heap.size + 1 + 1 + 1) #[.int .i64 0, .int .i64 0, .int .i64 0, .int .i64 0, .bool false, .int .i64 0, .bool false, .int .i64 0, .int .i64 0, .int .i64 0, .bool false, .int .i64 0] 41) ⟨(((((Below.refl _ _).alloc (Nat.le_refl _) _).alloc (by simp) _).alloc (by simp; omega) _).alloc (by simp; omega) _), (((BoxAt.new _ _ _).alloc _).alloc _).alloc _, ((BoxAt.new' (by simp)).alloc _).alloc _, (BoxAt.new' (by simp)).alloc _, BoxAt.new' (by simp)⟩ ?_
  rintro W0 ⟨hB, hx, hy, hz, hw_⟩
  have lw0 := hw_.lt
  have hs0 := hs.below hB hh
  have kx := hx.cell
  have ky := hy.cell
  have fy := hy.frozen
  obtain ⟨b, rg, A', n', cap', rfl, hlb, hbh, hri, c0, c1', c2, c3, c4, hpw⟩ := hs0.at_ z2
  have HAT := Lib.hid (St.at_some (s := s) (z := r) hri)
  have hnum := stOk_nums HOK.out rg (List.mem_of_getElem? hri)
  clear hri
  go_upto_region 3 with fail
  refine wp_abs (fun W => Below w.heap.size w W ∧ BoxAt W w.heap.size #[.int .i64 s.rd, .int .i64 s.mo, .slice (some ⟨b, 0, none⟩) n cap, .int .i64 s.fi, .int .i64 s.la] 75 ∧ BoxAt W (w.heap.size + 1) #[.int .i64 22, .int .i64 v, .int .i64 r, .int .i64 t, .bool seen.s, .int .i64 seen.n, .bool seen.f, .int .i64 seen.v, .int .i64 tr, .int .i64 sp, .bool ag, .int .i64 re] 41 ∧ BoxAt W (w.heap.size + 1 + 1) #[.int .i64 0, .int .i64 0, .slice none 0 0, .int .i64 0, .int .i64 0] 75 ∧ BoxAt W (w.heap.size + 1 + 1 + 1) #[.int .i64 0, .int .i64 0, .int .i64 0, .int .i64 0, .bool false, .int .i64 0, .bool false, .int .i64 0, .int .i64 0, .int .i64 0, .bool false, .int .i64 0] 41 ∧ BoxAt W W0.heap.size #[.int .i64 rg.h, .int .i64 rg.t, .bool rg.c, .int .i64 rg.x, .slice A' n' cap'] 27) ⟨hB.alloc hB.size _, hx.alloc _, hy.alloc _, hz.alloc _, hw_.alloc _, BoxAt.new _ _ _⟩ ?_
  clear kx ky fy hB hx hy hz hw_ hs0 c0 c1' c2 c3 c4 hpw
  generalize W0.heap.size = Z at *
  rintro W0 ⟨hB, hx, hy, hz, hw_, hZ⟩
  have lZ := hZ.lt
  have lw2 := hw_.lt
  have hs0 := hs.below hB hh
  have kx := hx.cell
  have ky := hy.cell
  have fy := hy.frozen
  have kZ := hZ.cell
  go_wp2_with fail
  clear kx ky fy kZ
  refine (sraiseTail_any s (some ⟨b, 0, none⟩) n cap lo hi r t tr _ hs0 (Nat.le_trans hh hB.size) (by have := HNT.out.2.1; have := HLN.out; omega) HNT.out.len).mono ?_
  rintro e w1 ⟨A5, n5, c5, rfl, hG5, hb5⟩
  replace hx := hx.below hb5 hx.lt
  replace hy := hy.below hb5 hy.lt
  replace hz := hz.below hb5 hz.lt
  replace hw_ := hw_.below hb5 hw_.lt
  have h5 := hb5.size
  replace hB := bstep hB hB.size hb5
  clear hb5
  generalize hq5 : raiseTail s r t tr = q at *
  have HQ5 := Lib.hid hq5; clear hq5
  unfold stV
  have kx := hx.cell
  have fx := hx.frozen
  have ky := hy.cell
  have fy := hy.frozen
  have hZ4 : w.heap.size + 4 ≤ W0.heap.size := by omega
  go_upto_region 12 with fail
  refine wp_abs (fun W => Below w.heap.size w W ∧ BoxAt W w.heap.size #[.int .i64 s.rd, .int .i64 s.mo, .slice (some ⟨b, 0, none⟩) n cap, .int .i64 s.fi, .int .i64 s.la] 75 ∧ BoxAt W (w.heap.size + 1) #[.int .i64 22, .int .i64 v, .int .i64 r, .int .i64 t, .bool seen.s, .int .i64 seen.n, .bool seen.f, .int .i64 seen.v, .int .i64 tr, .int .i64 sp, .bool ag, .int .i64 re] 41 ∧ BoxAt W (w.heap.size + 1 + 1) #[.int .i64 0, .int .i64 0, .slice none 0 0, .int .i64 0, .int .i64 0] 75 ∧ BoxAt W (w.heap.size + 1 + 1 + 1) #[.int .i64 0, .int .i64 0, .int .i64 0, .int .i64 0, .bool false, .int .i64 0, .bool false, .int .i64 0, .int .i64 0, .int .i64 0, .bool false, .int .i64 0] 41 ∧ BoxAt W w1.heap.size #[.int .i64 q.1.rd, .int .i64 q.1.mo, .slice A5 n5 c5, .int .i64 q.1.fi, .int .i64 q.1.la] 75 ∧ RgsW W0.heap.size w1.heap.size W A5 n5 c5 q.1.rs ∧ w1.heap.size ≤ W.heap.size) ⟨hB.alloc hB.size _, hx.alloc _, hy.alloc _, hz.alloc _, hw_.alloc _, BoxAt.new _ _ _, hG5.al (Nat.le_refl _) _, by simp⟩ ?_
  clear kx fx ky fy hB hx hy hz hw_ hG5
  rintro W2 ⟨hB, hx, hy, hz, hw_, hX, hG5, hS⟩
  have kx := hx.cell
  have fx := hx.frozen
  have ky := hy.cell
  have fy := hy.frozen
  have kX := hX.cell
  cases hq2 : q.2
  · have HQ2 := Lib.hid hq2; clear hq2
    go_wp2_with fail
    refine (l7Then_any _ _ _ _).mono ?_
    rintro e w' ⟨rfl, rfl⟩
    dsimp only
    go_upto_region 26 with fail
    have HV := Lib.hid (show take22 s ⟨22, v, r, t, seen, tr, sp, ag, re⟩ = (q.1, (⟨20, v, r, t, seen, tr, sp, ag, re⟩ : Hd), true) by simp only [take22, HQ5.out, HQ2.out]; rfl)
    refine wp_abs (fun W' => Below w.heap.size w W' ∧ BoxAt W' w.heap.size #[.int .i64 q.1.rd, .int .i64 q.1.mo, .slice A5 n5 c5, .int .i64 q.1.fi, .int .i64 q.1.la] 75 ∧ BoxAt W' (w.heap.size + 1) #[.int .i64 ((⟨20, v, r, t, seen, tr, sp, ag, re⟩ : Hd)).at_, .int .i64 ((⟨20, v, r, t, seen, tr, sp, ag, re⟩ : Hd)).v, .int .i64 ((⟨20, v, r, t, seen, tr, sp, ag, re⟩ : Hd)).r, .int .i64 ((⟨20, v, r, t, seen, tr, sp, ag, re⟩ : Hd)).t, .bool ((⟨20, v, r, t, seen, tr, sp, ag, re⟩ : Hd)).seen.s, .int .i64 ((⟨20, v, r, t, seen, tr, sp, ag, re⟩ : Hd)).seen.n, .bool ((⟨20, v, r, t, seen, tr, sp, ag, re⟩ : Hd)).seen.f, .int .i64 ((⟨20, v, r, t, seen, tr, sp, ag, re⟩ : Hd)).seen.v, .int .i64 ((⟨20, v, r, t, seen, tr, sp, ag, re⟩ : Hd)).tr, .int .i64 ((⟨20, v, r, t, seen, tr, sp, ag, re⟩ : Hd)).sp, .bool ((⟨20, v, r, t, seen, tr, sp, ag, re⟩ : Hd)).ag, .int .i64 ((⟨20, v, r, t, seen, tr, sp, ag, re⟩ : Hd)).re] 41 ∧ BoxAt W' (w.heap.size + 1 + 1) #[.int .i64 0, .int .i64 0, .slice none 0 0, .int .i64 0, .int .i64 0] 75 ∧ BoxAt W' (w.heap.size + 1 + 1 + 1) #[.int .i64 0, .int .i64 0, .int .i64 0, .int .i64 0, .bool false, .int .i64 0, .bool false, .int .i64 0, .int .i64 0, .int .i64 0, .bool false, .int .i64 0] 41 ∧ RgsW W0.heap.size w1.heap.size W' A5 n5 c5 (q.1).rs ∧ w1.heap.size ≤ W'.heap.size) ⟨(((((((hB.setCell (by dsimp only; omega) _).setCell (by dsimp only; omega) _).setCell (by dsimp only; omega) _).setCell (by dsimp only; omega) _).setCell (by dsimp only; omega) _)).setCell (by dsimp only; omega) _), ((sets_all (us := [.int .i64 q.1.rd, .int .i64 q.1.mo, .slice A5 n5 c5, .int .i64 q.1.fi, .int .i64 q.1.la]) hx rfl).set_ne (by omega) _ _), by simpa using (((((((hy.set_ne (by omega) _ _).set_ne (by omega) _ _).set_ne (by omega) _ _).set_ne (by omega) _ _).set_ne (by omega) _ _)).set 0 (.int .i64 20)), (((((((hz.set_ne (by omega) _ _).set_ne (by omega) _ _).set_ne (by omega) _ _).set_ne (by omega) _ _).set_ne (by omega) _ _)).set_ne (by omega) _ _), (((((((hw_.set_ne (by omega) _ _).set_ne (by omega) _ _).set_ne (by omega) _ _).set_ne (by omega) _ _).set_ne (by omega) _ _)).set_ne (by omega) _ _), (((((((hG5.st (.inl (by omega)) _ _).st (.inl (by omega)) _ _).st (.inl (by omega)) _ _).st (.inl (by omega)) _ _).st (.inl (by omega)) _ _)).st (.inl (by omega)) _ _), by simpa using hS⟩ ?_
    clear kx fx ky fy kX hB hx hy hz hw_ hX hG5 hZ hs0
    generalize hq2 : (⟨20, v, r, t, seen, tr, sp, ag, re⟩ : Hd) = h2 at *
    clear hq2
    rintro W ⟨hB, hx, hy, hz, hw_, hG, hhi⟩
    have lw := hw_.lt
    obtain ⟨M, hMe⟩ : ∃ M, M = W.heap.size := ⟨_, rfl⟩
    have hM : M ≤ W.heap.size := by omega
    have hhi2 : w1.heap.size ≤ M := by omega
    clear hMe
    refine wp_region2 (fun w w' => Below w.heap.size w w') (fun _ _ h => h.size) (fun L W' => Below w.heap.size w W' ∧ BoxAt W' w.heap.size #[.int .i64 q.1.rd, .int .i64 q.1.mo, .slice A5 n5 c5, .int .i64 q.1.fi, .int .i64 q.1.la] 75 ∧ BoxAt W' (w.heap.size + 1) #[.int .i64 h2.at_, .int .i64 h2.v, .int .i64 h2.r, .int .i64 h2.t, .bool h2.seen.s, .int .i64 h2.seen.n, .bool h2.seen.f, .int .i64 h2.seen.v, .int .i64 h2.tr, .int .i64 h2.sp, .bool h2.ag, .int .i64 h2.re] 41 ∧ RgsW W0.heap.size w1.heap.size W' A5 n5 c5 q.1.rs ∧ M ≤ W'.heap.size ∧ (∃ x0 x1 x2 x3 x4, BoxAt W' (w.heap.size + 1 + 1) #[x0, x1, x2, x3, x4] 75) ∧ (L 2 = false → BoxAt W' (w.heap.size + 1 + 1) #[.int .i64 0, .int .i64 0, .slice none 0 0, .int .i64 0, .int .i64 0] 75) ∧ (∃ x0 x1 x2 x3 x4 x5 x6 x7 x8 x9 x10 x11, BoxAt W' (w.heap.size + 1 + 1 + 1) #[x0, x1, x2, x3, x4, x5, x6, x7, x8, x9, x10, x11] 41) ∧ (L 3 = false → BoxAt W' (w.heap.size + 1 + 1 + 1) #[.int .i64 0, .int .i64 0, .int .i64 0, .int .i64 0, .bool false, .int .i64 0, .bool false, .int .i64 0, .int .i64 0, .int .i64 0, .bool false, .int .i64 0] 41)) (fxDR q.1 w.heap.size w.heap.size (w.heap.size + 1) n5 c5 A5 h2) fxDK fxDS (by kernel_rfl) (by kernel_rfl) ?_ ?_ ?_
      (.grow rfl ?_ <| .grow rfl ?_ <| .store rfl ?_ <| .store rfl ?_ <| .grow rfl ?_ <| .nil) ?_
    · intro j σ τ w h hR
      match j, h, hR with
      | 0, h, hR => exact (h 0 (List.mem_singleton.2 rfl)).symm.trans hR
      | 1, h, hR => exact (h 1 (List.mem_singleton.2 rfl)).symm.trans hR
      | 2, _, hR => exact hR
      | 3, _, hR => exact hR
      | 4, h, hR => exact (h 4 (List.mem_singleton.2 rfl)).symm.trans hR
      | _ + 5, _, _ => exact trivial
    · intro j σ w w' hb hR
      match j, hR with
      | 0, hR => exact hR
      | 1, hR => exact hR
      | 2, hR => exact hR.below hb hR.lt
      | 3, hR => exact hR.below hb hR.lt
      | 4, hR => exact hR
      | _ + 5, _ => exact trivial
    · exact ⟨hB.drew, hx, hy, hG, hM, ⟨_, _, _, _, _, hz⟩, fun _ => hz, ⟨_, _, _, _, _, _, _, _, _, _, _, _, hw_⟩, fun _ => hw_⟩
    · -- 0: Op.load 75 t2
      go_light
      intro L σ W' hcl hL hC hw
      clear hw
      have HC := Lib.hid hC
      obtain ⟨hB, hx, hy, hG, hM, ⟨hz_x0, hz_x1, hz_x2, hz_x3, hz_x4, hz⟩, hz_o, ⟨hw__x0, hw__x1, hw__x2, hw__x3, hw__x4, hw__x5, hw__x6, hw__x7, hw__x8, hw__x9, hw__x10, hw__x11, hw_⟩, hw__o⟩ := hC
      have ks := hx.cell
      clear hcl hL
      clear hB hx hy hG hM hz hz_o hw_ hw__o
      refine OpGoes.step fun K hK => ?_
      unfold OpGoes
      go_simp
      obtain ⟨hB, hx, hy, hG, hM, ⟨hz_x0, hz_x1, hz_x2, hz_x3, hz_x4, hz⟩, hz_o, ⟨hw__x0, hw__x1, hw__x2, hw__x3, hw__x4, hw__x5, hw__x6, hw__x7, hw__x8, hw__x9, hw__x10, hw__x11, hw_⟩, hw__o⟩ := HC.out
      exact hK _ _ ⟨⟨hB, hx, hy, hG, hM, ⟨_, _, _, _, _, hz⟩, fun h => hz_o (by simpa [upd] using h), ⟨_, _, _, _, _, _, _, _, _, _, _, _, hw_⟩, fun h => hw__o (by simpa [upd] using h)⟩, rfl, Below.refl _ _⟩
    · -- 1: Op.load 41 t3
      go_light
      intro L σ W' hcl hL hC hw
      clear hw
      have HC := Lib.hid hC
      obtain ⟨hB, hx, hy, hG, hM, ⟨hz_x0, hz_x1, hz_x2, hz_x3, hz_x4, hz⟩, hz_o, ⟨hw__x0, hw__x1, hw__x2, hw__x3, hw__x4, hw__x5, hw__x6, hw__x7, hw__x8, hw__x9, hw__x10, hw__x11, hw_⟩, hw__o⟩ := hC
      have kh := hy.cell
      clear hcl hL
      clear hB hx hy hG hM hz hz_o hw_ hw__o
      refine OpGoes.step fun K hK => ?_
      unfold OpGoes
      go_simp
      obtain ⟨hB, hx, hy, hG, hM, ⟨hz_x0, hz_x1, hz_x2, hz_x3, hz_x4, hz⟩, hz_o, ⟨hw__x0, hw__x1, hw__x2, hw__x3, hw__x4, hw__x5, hw__x6, hw__x7, hw__x8, hw__x9, hw__x10, hw__x11, hw_⟩, hw__o⟩ := HC.out
      exact hK _ _ ⟨⟨hB, hx, hy, hG, hM, ⟨_, _, _, _, _, hz⟩, fun h => hz_o (by simpa [upd] using h), ⟨_, _, _, _, _, _, _, _, _, _, _, _, hw_⟩, fun h => hw__o (by simpa [upd] using h)⟩, rfl, Below.refl _ _⟩
    · -- 2: Op.store 75 t4 t81
      go_light
      intro L σ W' hcl hL hC hw hne
      have e0 : σ 0 = .agg #[.int .i64 q.1.rd, .int .i64 q.1.mo, .slice A5 n5 c5, .int .i64 q.1.fi, .int .i64 q.1.la] := hw 0 (by kernel_rfl)
      clear hw hne
      have HC := Lib.hid hC
      obtain ⟨hB, hx, hy, hG, hM, ⟨hz_x0, hz_x1, hz_x2, hz_x3, hz_x4, hz⟩, hz_o, ⟨hw__x0, hw__x1, hw__x2, hw__x3, hw__x4, hw__x5, hw__x6, hw__x7, hw__x8, hw__x9, hw__x10, hw__x11, hw_⟩, hw__o⟩ := hC
      clear hcl hL
      have kc_ := hz.cell
      have kf_ := hz.frozen
      clear hB hx hy hG hM hz hz_o hw_ hw__o
      refine OpGoes.step fun K hK => ?_
      unfold OpGoes
      go_simp
      obtain ⟨hB, hx, hy, hG, hM, ⟨hz_x0, hz_x1, hz_x2, hz_x3, hz_x4, hz⟩, hz_o, ⟨hw__x0, hw__x1, hw__x2, hw__x3, hw__x4, hw__x5, hw__x6, hw__x7, hw__x8, hw__x9, hw__x10, hw__x11, hw_⟩, hw__o⟩ := HC.out
      have hset := sets_all (us := [.int .i64 q.1.rd, .int .i64 q.1.mo, .slice A5 n5 c5, .int .i64 q.1.fi, .int .i64 q.1.la]) hz rfl
      refine hK undef (setCells W' (w.heap.size + 1 + 1) 0 [.int .i64 q.1.rd, .int .i64 q.1.mo, .slice A5 n5 c5, .int .i64 q.1.fi, .int .i64 q.1.la]) ⟨⟨(Below.setCells (by omega) [.int .i64 q.1.rd, .int .i64 q.1.mo, .slice A5 n5 c5, .int .i64 q.1.fi, .int .i64 q.1.la] 0 hB), (BoxAt.sets_ne [.int .i64 q.1.rd, .int .i64 q.1.mo, .slice A5 n5 c5, .int .i64 q.1.fi, .int .i64 q.1.la] 0 hx (by omega)), (BoxAt.sets_ne [.int .i64 q.1.rd, .int .i64 q.1.mo, .slice A5 n5 c5, .int .i64 q.1.fi, .int .i64 q.1.la] 0 hy (by omega)), (RgsW.sts hG (by omega) [.int .i64 q.1.rd, .int .i64 q.1.mo, .slice A5 n5 c5, .int .i64 q.1.fi, .int .i64 q.1.la] 0), (size_sts hM [.int .i64 q.1.rd, .int .i64 q.1.mo, .slice A5 n5 c5, .int .i64 q.1.fi, .int .i64 q.1.la] 0), ⟨_, _, _, _, _, hset⟩, fun h => absurd h (by simp [upd]), ⟨_, _, _, _, _, _, _, _, _, _, _, _, (BoxAt.sets_ne [.int .i64 q.1.rd, .int .i64 q.1.mo, .slice A5 n5 c5, .int .i64 q.1.fi, .int .i64 q.1.la] 0 hw_ (by omega))⟩, fun h => (BoxAt.sets_ne [.int .i64 q.1.rd, .int .i64 q.1.mo, .slice A5 n5 c5, .int .i64 q.1.fi, .int .i64 q.1.la] 0 (hw__o (by simpa [upd] using h)) (by omega))⟩, hset, Nat.le_of_eq (sets_size _ _ _).symm, fun j hj hn hR => ?_⟩
      match j, hj, hn, hR with
      | 0, _, _, hR => exact (show σ 0 = .agg #[.int .i64 q.1.rd, .int .i64 q.1.mo, .slice A5 n5 c5, .int .i64 q.1.fi, .int .i64 q.1.la] from hR)
      | 1, _, _, hR => exact (show σ 1 = .agg #[.int .i64 h2.at_, .int .i64 h2.v, .int .i64 h2.r, .int .i64 h2.t, .bool h2.seen.s, .int .i64 h2.seen.n, .bool h2.seen.f, .int .i64 h2.seen.v, .int .i64 h2.tr, .int .i64 h2.sp, .bool h2.ag, .int .i64 h2.re] from hR)
      | 2, hj, _, _ => exact absurd rfl hj
      | 3, _, _, hR => exact (BoxAt.sets_ne [.int .i64 q.1.rd, .int .i64 q.1.mo, .slice A5 n5 c5, .int .i64 q.1.fi, .int .i64 q.1.la] 0 hR (by omega))
      | 4, _, _, hR => exact (show σ 4 = .bool true from hR)
      | _ + 5, _, _, _ => exact trivial
    · -- 3: Op.store 41 t5 t82
      go_light
      intro L σ W' hcl hL hC hw hne
      have e1 : σ 1 = .agg #[.int .i64 h2.at_, .int .i64 h2.v, .int .i64 h2.r, .int .i64 h2.t, .bool h2.seen.s, .int .i64 h2.seen.n, .bool h2.seen.f, .int .i64 h2.seen.v, .int .i64 h2.tr, .int .i64 h2.sp, .bool h2.ag, .int .i64 h2.re] := hw 1 (by kernel_rfl)
      clear hw hne
      have HC := Lib.hid hC
      obtain ⟨hB, hx, hy, hG, hM, ⟨hz_x0, hz_x1, hz_x2, hz_x3, hz_x4, hz⟩, hz_o, ⟨hw__x0, hw__x1, hw__x2, hw__x3, hw__x4, hw__x5, hw__x6, hw__x7, hw__x8, hw__x9, hw__x10, hw__x11, hw_⟩, hw__o⟩ := hC
      clear hcl hL
      have kc_ := hw_.cell
      have kf_ := hw_.frozen
      clear hB hx hy hG hM hz hz_o hw_ hw__o
      refine OpGoes.step fun K hK => ?_
      unfold OpGoes
      go_simp
      obtain ⟨hB, hx, hy, hG, hM, ⟨hz_x0, hz_x1, hz_x2, hz_x3, hz_x4, hz⟩, hz_o, ⟨hw__x0, hw__x1, hw__x2, hw__x3, hw__x4, hw__x5, hw__x6, hw__x7, hw__x8, hw__x9, hw__x10, hw__x11, hw_⟩, hw__o⟩ := HC.out
      have hset := sets_all (us := [.int .i64 h2.at_, .int .i64 h2.v, .int .i64 h2.r, .int .i64 h2.t, .bool h2.seen.s, .int .i64 h2.seen.n, .bool h2.seen.f, .int .i64 h2.seen.v, .int .i64 h2.tr, .int .i64 h2.sp, .bool h2.ag, .int .i64 h2.re]) hw_ rfl
      refine hK undef (setCells W' (w.heap.size + 1 + 1 + 1) 0 [.int .i64 h2.at_, .int .i64 h2.v, .int .i64 h2.r, .int .i64 h2.t, .bool h2.seen.s, .int .i64 h2.seen.n, .bool h2.seen.f, .int .i64 h2.seen.v, .int .i64 h2.tr, .int .i64 h2.sp, .bool h2.ag, .int .i64 h2.re]) ⟨⟨(Below.setCells (by omega) [.int .i64 h2.at_, .int .i64 h2.v, .int .i64 h2.r, .int .i64 h2.t, .bool h2.seen.s, .int .i64 h2.seen.n, .bool h2.seen.f, .int .i64 h2.seen.v, .int .i64 h2.tr, .int .i64 h2.sp, .bool h2.ag, .int .i64 h2.re] 0 hB), (BoxAt.sets_ne [.int .i64 h2.at_, .int .i64 h2.v, .int .i64 h2.r, .int .i64 h2.t, .bool h2.seen.s, .int .i64 h2.seen.n, .bool h2.seen.f, .int .i64 h2.seen.v, .int .i64 h2.tr, .int .i64 h2.sp, .bool h2.ag, .int .i64 h2.re] 0 hx (by omega)), (BoxAt.sets_ne [.int .i64 h2.at_, .int .i64 h2.v, .int .i64 h2.r, .int .i64 h2.t, .bool h2.seen.s, .int .i64 h2.seen.n, .bool h2.seen.f, .int .i64 h2.seen.v, .int .i64 h2.tr, .int .i64 h2.sp, .bool h2.ag, .int .i64 h2.re] 0 hy (by omega)), (RgsW.sts hG (by omega) [.int .i64 h2.at_, .int .i64 h2.v, .int .i64 h2.r, .int .i64 h2.t, .bool h2.seen.s, .int .i64 h2.seen.n, .bool h2.seen.f, .int .i64 h2.seen.v, .int .i64 h2.tr, .int .i64 h2.sp, .bool h2.ag, .int .i64 h2.re] 0), (size_sts hM [.int .i64 h2.at_, .int .i64 h2.v, .int .i64 h2.r, .int .i64 h2.t, .bool h2.seen.s, .int .i64 h2.seen.n, .bool h2.seen.f, .int .i64 h2.seen.v, .int .i64 h2.tr, .int .i64 h2.sp, .bool h2.ag, .int .i64 h2.re] 0), ⟨_, _, _, _, _, (BoxAt.sets_ne [.int .i64 h2.at_, .int .i64 h2.v, .int .i64 h2.r, .int .i64 h2.t, .bool h2.seen.s, .int .i64 h2.seen.n, .bool h2.seen.f, .int .i64 h2.seen.v, .int .i64 h2.tr, .int .i64 h2.sp, .bool h2.ag, .int .i64 h2.re] 0 hz (by omega))⟩, fun h => (BoxAt.sets_ne [.int .i64 h2.at_, .int .i64 h2.v, .int .i64 h2.r, .int .i64 h2.t, .bool h2.seen.s, .int .i64 h2.seen.n, .bool h2.seen.f, .int .i64 h2.seen.v, .int .i64 h2.tr, .int .i64 h2.sp, .bool h2.ag, .int .i64 h2.re] 0 (hz_o (by simpa [upd] using h)) (by omega)), ⟨_, _, _, _, _, _, _, _, _, _, _, _, hset⟩, fun h => absurd h (by simp [upd])⟩, hset, Nat.le_of_eq (sets_size _ _ _).symm, fun j hj hn hR => ?_⟩
      match j, hj, hn, hR with
      | 0, _, _, hR => exact (show σ 0 = .agg #[.int .i64 q.1.rd, .int .i64 q.1.mo, .slice A5 n5 c5, .int .i64 q.1.fi, .int .i64 q.1.la] from hR)
      | 1, _, _, hR => exact (show σ 1 = .agg #[.int .i64 h2.at_, .int .i64 h2.v, .int .i64 h2.r, .int .i64 h2.t, .bool h2.seen.s, .int .i64 h2.seen.n, .bool h2.seen.f, .int .i64 h2.seen.v, .int .i64 h2.tr, .int .i64 h2.sp, .bool h2.ag, .int .i64 h2.re] from hR)
      | 2, _, _, hR => exact (BoxAt.sets_ne [.int .i64 h2.at_, .int .i64 h2.v, .int .i64 h2.r, .int .i64 h2.t, .bool h2.seen.s, .int .i64 h2.seen.n, .bool h2.seen.f, .int .i64 h2.seen.v, .int .i64 h2.tr, .int .i64 h2.sp, .bool h2.ag, .int .i64 h2.re] 0 hR (by omega))
      | 3, hj, _, _ => exact absurd rfl hj
      | 4, _, _, hR => exact (show σ 4 = .bool true from hR)
      | _ + 5, _, _, _ => exact trivial
    · -- 4: Op.assign (const (Value.bool true))
      go_light
      intro L σ W' hcl hL hC hw
      clear hw
      have HC := Lib.hid hC
      clear hC
      clear hcl hL
      refine OpGoes.step fun K hK => ?_
      unfold OpGoes
      go_simp
      obtain ⟨hB, hx, hy, hG, hM, ⟨hz_x0, hz_x1, hz_x2, hz_x3, hz_x4, hz⟩, hz_o, ⟨hw__x0, hw__x1, hw__x2, hw__x3, hw__x4, hw__x5, hw__x6, hw__x7, hw__x8, hw__x9, hw__x10, hw__x11, hw_⟩, hw__o⟩ := HC.out
      exact hK _ _ ⟨⟨hB, hx, hy, hG, hM, ⟨_, _, _, _, _, hz⟩, fun h => hz_o (by simpa [upd] using h), ⟨_, _, _, _, _, _, _, _, _, _, _, _, hw_⟩, fun h => hw__o (by simpa [upd] using h)⟩, rfl, Below.refl _ _⟩
    · intro σ L W' hall hC hR
      obtain ⟨hB, hx, hy, hG, hM, ⟨hz_x0, hz_x1, hz_x2, hz_x3, hz_x4, hz⟩, hz_o, ⟨hw__x0, hw__x1, hw__x2, hw__x3, hw__x4, hw__x5, hw__x6, hw__x7, hw__x8, hw__x9, hw__x10, hw__x11, hw_⟩, hw__o⟩ := hC
      have sv2 : BoxAt W' (w.heap.size + 1 + 1) #[.int .i64 q.1.rd, .int .i64 q.1.mo, .slice A5 n5 c5, .int .i64 q.1.fi, .int .i64 q.1.la] 75 := hR 2 (by decide)
      have sv3 : BoxAt W' (w.heap.size + 1 + 1 + 1) #[.int .i64 h2.at_, .int .i64 h2.v, .int .i64 h2.r, .int .i64 h2.t, .bool h2.seen.s, .int .i64 h2.seen.n, .bool h2.seen.f, .int .i64 h2.seen.v, .int .i64 h2.tr, .int .i64 h2.sp, .bool h2.ag, .int .i64 h2.re] 41 := hR 3 (by decide)
      have e4 : σ 4 = .bool true := hR 4 (by decide)
      clear hR
      simp only [lexAll]
      go_simp
      go_step
      have k7 := sv2.cell
      have k8 := sv3.cell
      go_wp2
      refine bodyPost_ret (v := .tuple #[stV q.1 A5 n5 c5, hdV h2, .bool true]) (by simp [results, Try.results103, go_sem, k7, k8, stV, hdV, Hd.rest, Hd.zero]) rfl ⟨A5, n5, c5, by rw [HV.out], ?_, hB⟩
      rw [HV.out]
      exact hG.cut.mono (by omega) (Nat.le_refl _)
  · have HQ2 := Lib.hid hq2; clear hq2
    go_wp2_with fail
    refine (l7Then_any _ _ _ _).mono ?_
    rintro e w' ⟨rfl, rfl⟩
    dsimp only
    go_upto_region 26 with fail
    have HV := Lib.hid (show take22 s ⟨22, v, r, t, seen, tr, sp, ag, re⟩ = (q.1, (⟨23, v, r, t, seen, tr, sp, ag, re⟩ : Hd), true) by simp only [take22, HQ5.out, HQ2.out]; rfl)
    refine wp_abs (fun W' => Below w.heap.size w W' ∧ BoxAt W' w.heap.size #[.int .i64 q.1.rd, .int .i64 q.1.mo, .slice A5 n5 c5, .int .i64 q.1.fi, .int .i64 q.1.la] 75 ∧ BoxAt W' (w.heap.size + 1) #[.int .i64 ((⟨23, v, r, t, seen, tr, sp, ag, re⟩ : Hd)).at_, .int .i64 ((⟨23, v, r, t, seen, tr, sp, ag, re⟩ : Hd)).v, .int .i64 ((⟨23, v, r, t, seen, tr, sp, ag, re⟩ : Hd)).r, .int .i64 ((⟨23, v, r, t, seen, tr, sp, ag, re⟩ : Hd)).t, .bool ((⟨23, v, r, t, seen, tr, sp, ag, re⟩ : Hd)).seen.s, .int .i64 ((⟨23, v, r, t, seen, tr, sp, ag, re⟩ : Hd)).seen.n, .bool ((⟨23, v, r, t, seen, tr, sp, ag, re⟩ : Hd)).seen.f, .int .i64 ((⟨23, v, r, t, seen, tr, sp, ag, re⟩ : Hd)).seen.v, .int .i64 ((⟨23, v, r, t, seen, tr, sp, ag, re⟩ : Hd)).tr, .int .i64 ((⟨23, v, r, t, seen, tr, sp, ag, re⟩ : Hd)).sp, .bool ((⟨23, v, r, t, seen, tr, sp, ag, re⟩ : Hd)).ag, .int .i64 ((⟨23, v, r, t, seen, tr, sp, ag, re⟩ : Hd)).re] 41 ∧ BoxAt W' (w.heap.size + 1 + 1) #[.int .i64 0, .int .i64 0, .slice none 0 0, .int .i64 0, .int .i64 0] 75 ∧ BoxAt W' (w.heap.size + 1 + 1 + 1) #[.int .i64 0, .int .i64 0, .int .i64 0, .int .i64 0, .bool false, .int .i64 0, .bool false, .int .i64 0, .int .i64 0, .int .i64 0, .bool false, .int .i64 0] 41 ∧ RgsW W0.heap.size w1.heap.size W' A5 n5 c5 (q.1).rs ∧ w1.heap.size ≤ W'.heap.size) ⟨(((((((hB.setCell (by dsimp only; omega) _).setCell (by dsimp only; omega) _).setCell (by dsimp only; omega) _).setCell (by dsimp only; omega) _).setCell (by dsimp only; omega) _)).setCell (by dsimp only; omega) _), ((sets_all (us := [.int .i64 q.1.rd, .int .i64 q.1.mo, .slice A5 n5 c5, .int .i64 q.1.fi, .int .i64 q.1.la]) hx rfl).set_ne (by omega) _ _), by simpa using (((((((hy.set_ne (by omega) _ _).set_ne (by omega) _ _).set_ne (by omega) _ _).set_ne (by omega) _ _).set_ne (by omega) _ _)).set 0 (.int .i64 23)), (((((((hz.set_ne (by omega) _ _).set_ne (by omega) _ _).set_ne (by omega) _ _).set_ne (by omega) _ _).set_ne (by omega) _ _)).set_ne (by omega) _ _), (((((((hw_.set_ne (by omega) _ _).set_ne (by omega) _ _).set_ne (by omega) _ _).set_ne (by omega) _ _).set_ne (by omega) _ _)).set_ne (by omega) _ _), (((((((hG5.st (.inl (by omega)) _ _).st (.inl (by omega)) _ _).st (.inl (by omega)) _ _).st (.inl (by omega)) _ _).st (.inl (by omega)) _ _)).st (.inl (by omega)) _ _), by simpa using hS⟩ ?_
    clear kx fx ky fy kX hB hx hy hz hw_ hX hG5 hZ hs0
    generalize hq2 : (⟨23, v, r, t, seen, tr, sp, ag, re⟩ : Hd) = h2 at *
    clear hq2
    rintro W ⟨hB, hx, hy, hz, hw_, hG, hhi⟩
    have lw := hw_.lt
    obtain ⟨M, hMe⟩ : ∃ M, M = W.heap.size := ⟨_, rfl⟩
    have hM : M ≤ W.heap.size := by omega
    have hhi2 : w1.heap.size ≤ M := by omega
    clear hMe
    refine wp_region2 (fun w w' => Below w.heap.size w w') (fun _ _ h => h.size) (fun L W' => Below w.heap.size w W' ∧ BoxAt W' w.heap.size #[.int .i64 q.1.rd, .int .i64 q.1.mo, .slice A5 n5 c5, .int .i64 q.1.fi, .int .i64 q.1.la] 75 ∧ BoxAt W' (w.heap.size + 1) #[.int .i64 h2.at_, .int .i64 h2.v, .int .i64 h2.r, .int .i64 h2.t, .bool h2.seen.s, .int .i64 h2.seen.n, .bool h2.seen.f, .int .i64 h2.seen.v, .int .i64 h2.tr, .int .i64 h2.sp, .bool h2.ag, .int .i64 h2.re] 41 ∧ RgsW W0.heap.size w1.heap.size W' A5 n5 c5 q.1.rs ∧ M ≤ W'.heap.size ∧ (∃ x0 x1 x2 x3 x4, BoxAt W' (w.heap.size + 1 + 1) #[x0, x1, x2, x3, x4] 75) ∧ (L 2 = false → BoxAt W' (w.heap.size + 1 + 1) #[.int .i64 0, .int .i64 0, .slice none 0 0, .int .i64 0, .int .i64 0] 75) ∧ (∃ x0 x1 x2 x3 x4 x5 x6 x7 x8 x9 x10 x11, BoxAt W' (w.heap.size + 1 + 1 + 1) #[x0, x1, x2, x3, x4, x5, x6, x7, x8, x9, x10, x11] 41) ∧ (L 3 = false → BoxAt W' (w.heap.size + 1 + 1 + 1) #[.int .i64 0, .int .i64 0, .int .i64 0, .int .i64 0, .bool false, .int .i64 0, .bool false, .int .i64 0, .int .i64 0, .int .i64 0, .bool false, .int .i64 0] 41)) (fxDR q.1 w.heap.size w.heap.size (w.heap.size + 1) n5 c5 A5 h2) fxDK fxDS (by kernel_rfl) (by kernel_rfl) ?_ ?_ ?_
      (.grow rfl ?_ <| .grow rfl ?_ <| .store rfl ?_ <| .store rfl ?_ <| .grow rfl ?_ <| .nil) ?_
    · intro j σ τ w h hR
      match j, h, hR with
      | 0, h, hR => exact (h 0 (List.mem_singleton.2 rfl)).symm.trans hR
      | 1, h, hR => exact (h 1 (List.mem_singleton.2 rfl)).symm.trans hR
      | 2, _, hR => exact hR
      | 3, _, hR => exact hR
      | 4, h, hR => exact (h 4 (List.mem_singleton.2 rfl)).symm.trans hR
      | _ + 5, _, _ => exact trivial
    · intro j σ w w' hb hR
      match j, hR with
      | 0, hR => exact hR
      | 1, hR => exact hR
      | 2, hR => exact hR.below hb hR.lt
      | 3, hR => exact hR.below hb hR.lt
      | 4, hR => exact hR
      | _ + 5, _ => exact trivial
    · exact ⟨hB.drew, hx, hy, hG, hM, ⟨_, _, _, _, _, hz⟩, fun _ => hz, ⟨_, _, _, _, _, _, _, _, _, _, _, _, hw_⟩, fun _ => hw_⟩
    · -- 0: Op.load 75 t2
      go_light
      intro L σ W' hcl hL hC hw
      clear hw
      have HC := Lib.hid hC
      obtain ⟨hB, hx, hy, hG, hM, ⟨hz_x0, hz_x1, hz_x2, hz_x3, hz_x4, hz⟩, hz_o, ⟨hw__x0, hw__x1, hw__x2, hw__x3, hw__x4, hw__x5, hw__x6, hw__x7, hw__x8, hw__x9, hw__x10, hw__x11, hw_⟩, hw__o⟩ := hC
      have ks := hx.cell
      clear hcl hL
      clear hB hx hy hG hM hz hz_o hw_ hw__o
      refine OpGoes.step fun K hK => ?_
      unfold OpGoes
      go_simp
      obtain ⟨hB, hx, hy, hG, hM, ⟨hz_x0, hz_x1, hz_x2, hz_x3, hz_x4, hz⟩, hz_o, ⟨hw__x0, hw__x1, hw__x2, hw__x3, hw__x4, hw__x5, hw__x6, hw__x7, hw__x8, hw__x9, hw__x10, hw__x11, hw_⟩, hw__o⟩ := HC.out
      exact hK _ _ ⟨⟨hB, hx, hy, hG, hM, ⟨_, _, _, _, _, hz⟩, fun h => hz_o (by simpa [upd] using h), ⟨_, _, _, _, _, _, _, _, _, _, _, _, hw_⟩, fun h => hw__o (by simpa [upd] using h)⟩, rfl, Below.refl _ _⟩
    · -- 1: Op.load 41 t3
      go_light
      intro L σ W' hcl hL hC hw
      clear hw
      have HC := Lib.hid hC
      obtain ⟨hB, hx, hy, hG, hM, ⟨hz_x0, hz_x1, hz_x2, hz_x3, hz_x4, hz⟩, hz_o, ⟨hw__x0, hw__x1, hw__x2, hw__x3, hw__x4, hw__x5, hw__x6, hw__x7, hw__x8, hw__x9, hw__x10, hw__x11, hw_⟩, hw__o⟩ := hC
      have kh := hy.cell
      clear hcl hL
      clear hB hx hy hG hM hz hz_o hw_ hw__o
      refine OpGoes.step fun K hK => ?_
      unfold OpGoes
      go_simp
      obtain ⟨hB, hx, hy, hG, hM, ⟨hz_x0, hz_x1, hz_x2, hz_x3, hz_x4, hz⟩, hz_o, ⟨hw__x0, hw__x1, hw__x2, hw__x3, hw__x4, hw__x5, hw__x6, hw__x7, hw__x8, hw__x9, hw__x10, hw__x11, hw_⟩, hw__o⟩ := HC.out
      exact hK _ _ ⟨⟨hB, hx, hy, hG, hM, ⟨_, _, _, _, _, hz⟩, fun h => hz_o (by simpa [upd] using h), ⟨_, _, _, _, _, _, _, _, _, _, _, _, hw_⟩, fun h => hw__o (by simpa [upd] using h)⟩, rfl, Below.refl _ _⟩
    · -- 2: Op.store 75 t4 t81
      go_light
      intro L σ W' hcl hL hC hw hne
      have e0 : σ 0 = .agg #[.int .i64 q.1.rd, .int .i64 q.1.mo, .slice A5 n5 c5, .int .i64 q.1.fi, .int .i64 q.1.la] := hw 0 (by kernel_rfl)
      clear hw hne
      have HC := Lib.hid hC
      obtain ⟨hB, hx, hy, hG, hM, ⟨hz_x0, hz_x1, hz_x2, hz_x3, hz_x4, hz⟩, hz_o, ⟨hw__x0, hw__x1, hw__x2, hw__x3, hw__x4, hw__x5, hw__x6, hw__x7, hw__x8, hw__x9, hw__x10, hw__x11, hw_⟩, hw__o⟩ := hC
      clear hcl hL
      have kc_ := hz.cell
      have kf_ := hz.frozen
      clear hB hx hy hG hM hz hz_o hw_ hw__o
      refine OpGoes.step fun K hK => ?_
      unfold OpGoes
      go_simp
      obtain ⟨hB, hx, hy, hG, hM, ⟨hz_x0, hz_x1, hz_x2, hz_x3, hz_x4, hz⟩, hz_o, ⟨hw__x0, hw__x1, hw__x2, hw__x3, hw__x4, hw__x5, hw__x6, hw__x7, hw__x8, hw__x9, hw__x10, hw__x11, hw_⟩, hw__o⟩ := HC.out
      have hset := sets_all (us := [.int .i64 q.1.rd, .int .i64 q.1.mo, .slice A5 n5 c5, .int .i64 q.1.fi, .int .i64 q.1.la]) hz rfl
      refine hK undef (setCells W' (w.heap.size + 1 + 1) 0 [.int .i64 q.1.rd, .int .i64 q.1.mo, .slice A5 n5 c5, .int .i64 q.1.fi, .int .i64 q.1.la]) ⟨⟨(Below.setCells (by omega) [.int .i64 q.1.rd, .int .i64 q.1.mo, .slice A5 n5 c5, .int .i64 q.1.fi, .int .i64 q.1.la] 0 hB), (BoxAt.sets_ne [.int .i64 q.1.rd, .int .i64 q.1.mo, .slice A5 n5 c5, .int .i64 q.1.fi, .int .i64 q.1.la] 0 hx (by omega)), (BoxAt.sets_ne [.int .i64 q.1.rd, .int .i64 q.1.mo, .slice A5 n5 c5, .int .i64 q.1.fi, .int .i64 q.1.la] 0 hy (by omega)), (RgsW.sts hG (by omega) [.int .i64 q.1.rd, .int .i64 q.1.mo, .slice A5 n5 c5, .int .i64 q.1.fi, .int .i64 q.1.la] 0), (size_sts hM [.int .i64 q.1.rd, .int .i64 q.1.mo, .slice A5 n5 c5, .int .i64 q.1.fi, .int .i64 q.1.la] 0), ⟨_, _, _, _, _, hset⟩, fun h => absurd h (by simp [upd]), ⟨_, _, _, _, _, _, _, _, _, _, _, _, (BoxAt.sets_ne [.int .i64 q.1.rd, .int .i64 q.1.mo, .slice A5 n5 c5, .int .i64 q.1.fi, .int .i64 q.1.la] 0 hw_ (by omega))⟩, fun h => (BoxAt.sets_ne [.int .i64 q.1.rd, .int .i64 q.1.mo, .slice A5 n5 c5, .int .i64 q.1.fi, .int .i64 q.1.la] 0 (hw__o (by simpa [upd] using h)) (by omega))⟩, hset, Nat.le_of_eq (sets_size _ _ _).symm, fun j hj hn hR => ?_⟩
      match j, hj, hn, hR with
      | 0, _, _, hR => exact (show σ 0 = .agg #[.int .i64 q.1.rd, .int .i64 q.1.mo, .slice A5 n5 c5, .int .i64 q.1.fi, .int .i64 q.1.la] from hR)
      | 1, _, _, hR => exact (show σ 1 = .agg #[.int .i64 h2.at_, .int .i64 h2.v, .int .i64 h2.r, .int .i64 h2.t, .bool h2.seen.s, .int .i64 h2.seen.n, .bool h2.seen.f, .int .i64 h2.seen.v, .int .i64 h2.tr, .int .i64 h2.sp, .bool h2.ag, .int .i64 h2.re] from hR)
      | 2, hj, _, _ => exact absurd rfl hj
      | 3, _, _, hR => exact (BoxAt.sets_ne [.int .i64 q.1.rd, .int .i64 q.1.mo, .slice A5 n5 c5, .int .i64 q.1.fi, .int .i64 q.1.la] 0 hR (by omega))
      | 4, _, _, hR => exact (show σ 4 = .bool true from hR)
      | _ + 5, _, _, _ => exact trivial
    · -- 3: Op.store 41 t5 t82
      go_light
      intro L σ W' hcl hL hC hw hne
      have e1 : σ 1 = .agg #[.int .i64 h2.at_, .int .i64 h2.v, .int .i64 h2.r, .int .i64 h2.t, .bool h2.seen.s, .int .i64 h2.seen.n, .bool h2.seen.f, .int .i64 h2.seen.v, .int .i64 h2.tr, .int .i64 h2.sp, .bool h2.ag, .int .i64 h2.re] := hw 1 (by kernel_rfl)
      clear hw hne
      have HC := Lib.hid hC
      obtain ⟨hB, hx, hy, hG, hM, ⟨hz_x0, hz_x1, hz_x2, hz_x3, hz_x4, hz⟩, hz_o, ⟨hw__x0, hw__x1, hw__x2, hw__x3, hw__x4, hw__x5, hw__x6, hw__x7, hw__x8, hw__x9, hw__x10, hw__x11, hw_⟩, hw__o⟩ := hC
      clear hcl hL
      have kc_ := hw_.cell
      have kf_ := hw_.frozen
      clear hB hx hy hG hM hz hz_o hw_ hw__o
      refine OpGoes.step fun K hK => ?_
      unfold OpGoes
      go_simp
      obtain ⟨hB, hx, hy, hG, hM, ⟨hz_x0, hz_x1, hz_x2, hz_x3, hz_x4, hz⟩, hz_o, ⟨hw__x0, hw__x1, hw__x2, hw__x3, hw__x4, hw__x5, hw__x6, hw__x7, hw__x8, hw__x9, hw__x10, hw__x11, hw_⟩, hw__o⟩ := HC.out
      have hset := sets_all (us := [.int .i64 h2.at_, .int .i64 h2.v, .int .i64 h2.r, .int .i64 h2.t, .bool h2.seen.s, .int .i64 h2.seen.n, .bool h2.seen.f, .int .i64 h2.seen.v, .int .i64 h2.tr, .int .i64 h2.sp, .bool h2.ag, .int .i64 h2.re]) hw_ rfl
      refine hK undef (setCells W' (w.heap.size + 1 + 1 + 1) 0 [.int .i64 h2.at_, .int .i64 h2.v, .int .i64 h2.r, .int .i64 h2.t, .bool h2.seen.s, .int .i64 h2.seen.n, .bool h2.seen.f, .int .i64 h2.seen.v, .int .i64 h2.tr, .int .i64 h2.sp, .bool h2.ag, .int .i64 h2.re]) ⟨⟨(Below.setCells (by omega) [.int .i64 h2.at_, .int .i64 h2.v, .int .i64 h2.r, .int .i64 h2.t, .bool h2.seen.s, .int .i64 h2.seen.n, .bool h2.seen.f, .int .i64 h2.seen.v, .int .i64 h2.tr, .int .i64 h2.sp, .bool h2.ag, .int .i64 h2.re] 0 hB), (BoxAt.sets_ne [.int .i64 h2.at_, .int .i64 h2.v, .int .i64 h2.r, .int .i64 h2.t, .bool h2.seen.s, .int .i64 h2.seen.n, .bool h2.seen.f, .int .i64 h2.seen.v, .int .i64 h2.tr, .int .i64 h2.sp, .bool h2.ag, .int .i64 h2.re] 0 hx (by omega)), (BoxAt.sets_ne [.int .i64 h2.at_, .int .i64 h2.v, .int .i64 h2.r, .int .i64 h2.t, .bool h2.seen.s, .int .i64 h2.seen.n, .bool h2.seen.f, .int .i64 h2.seen.v, .int .i64 h2.tr, .int .i64 h2.sp, .bool h2.ag, .int .i64 h2.re] 0 hy (by omega)), (RgsW.sts hG (by omega) [.int .i64 h2.at_, .int .i64 h2.v, .int .i64 h2.r, .int .i64 h2.t, .bool h2.seen.s, .int .i64 h2.seen.n, .bool h2.seen.f, .int .i64 h2.seen.v, .int .i64 h2.tr, .int .i64 h2.sp, .bool h2.ag, .int .i64 h2.re] 0), (size_sts hM [.int .i64 h2.at_, .int .i64 h2.v, .int .i64 h2.r, .int .i64 h2.t, .bool h2.seen.s, .int .i64 h2.seen.n, .bool h2.seen.f, .int .i64 h2.seen.v, .int .i64 h2.tr, .int .i64 h2.sp, .bool h2.ag, .int .i64 h2.re] 0), ⟨_, _, _, _, _, (BoxAt.sets_ne [.int .i64 h2.at_, .int .i64 h2.v, .int .i64 h2.r, .int .i64 h2.t, .bool h2.seen.s, .int .i64 h2.seen.n, .bool h2.seen.f, .int .i64 h2.seen.v, .int .i64 h2.tr, .int .i64 h2.sp, .bool h2.ag, .int .i64 h2.re] 0 hz (by omega))⟩, fun h => (BoxAt.sets_ne [.int .i64 h2.at_, .int .i64 h2.v, .int .i64 h2.r, .int .i64 h2.t, .bool h2.seen.s, .int .i64 h2.seen.n, .bool h2.seen.f, .int .i64 h2.seen.v, .int .i64 h2.tr, .int .i64 h2.sp, .bool h2.ag, .int .i64 h2.re] 0 (hz_o (by simpa [upd] using h)) (by omega)), ⟨_, _, _, _, _, _, _, _, _, _, _, _, hset⟩, fun h => absurd h (by simp [upd])⟩, hset, Nat.le_of_eq (sets_size _ _ _).symm, fun j hj hn hR => ?_⟩
      match j, hj, hn, hR with
      | 0, _, _, hR => exact (show σ 0 = .agg #[.int .i64 q.1.rd, .int .i64 q.1.mo, .slice A5 n5 c5, .int .i64 q.1.fi, .int .i64 q.1.la] from hR)
      | 1, _, _, hR => exact (show σ 1 = .agg #[.int .i64 h2.at_, .int .i64 h2.v, .int .i64 h2.r, .int .i64 h2.t, .bool h2.seen.s, .int .i64 h2.seen.n, .bool h2.seen.f, .int .i64 h2.seen.v, .int .i64 h2.tr, .int .i64 h2.sp, .bool h2.ag, .int .i64 h2.re] from hR)
      | 2, _, _, hR => exact (BoxAt.sets_ne [.int .i64 h2.at_, .int .i64 h2.v, .int .i64 h2.r, .int .i64 h2.t, .bool h2.seen.s, .int .i64 h2.seen.n, .bool h2.seen.f, .int .i64 h2.seen.v, .int .i64 h2.tr, .int .i64 h2.sp, .bool h2.ag, .int .i64 h2.re] 0 hR (by omega))
      | 3, hj, _, _ => exact absurd rfl hj
      | 4, _, _, hR => exact (show σ 4 = .bool true from hR)
      | _ + 5, _, _, _ => exact trivial
    · -- 4: Op.assign (const (Value.bool true))
      go_light
      intro L σ W' hcl hL hC hw
      clear hw
      have HC := Lib.hid hC
      clear hC
      clear hcl hL
      refine OpGoes.step fun K hK => ?_
      unfold OpGoes
      go_simp
      obtain ⟨hB, hx, hy, hG, hM, ⟨hz_x0, hz_x1, hz_x2, hz_x3, hz_x4, hz⟩, hz_o, ⟨hw__x0, hw__x1, hw__x2, hw__x3, hw__x4, hw__x5, hw__x6, hw__x7, hw__x8, hw__x9, hw__x10, hw__x11, hw_⟩, hw__o⟩ := HC.out
      exact hK _ _ ⟨⟨hB, hx, hy, hG, hM, ⟨_, _, _, _, _, hz⟩, fun h => hz_o (by simpa [upd] using h), ⟨_, _, _, _, _, _, _, _, _, _, _, _, hw_⟩, fun h => hw__o (by simpa [upd] using h)⟩, rfl, Below.refl _ _⟩
    · intro σ L W' hall hC hR
      obtain ⟨hB, hx, hy, hG, hM, ⟨hz_x0, hz_x1, hz_x2, hz_x3, hz_x4, hz⟩, hz_o, ⟨hw__x0, hw__x1, hw__x2, hw__x3, hw__x4, hw__x5, hw__x6, hw__x7, hw__x8, hw__x9, hw__x10, hw__x11, hw_⟩, hw__o⟩ := hC
      have sv2 : BoxAt W' (w.heap.size + 1 + 1) #[.int .i64 q.1.rd, .int .i64 q.1.mo, .slice A5 n5 c5, .int .i64 q.1.fi, .int .i64 q.1.la] 75 := hR 2 (by decide)
      have sv3 : BoxAt W' (w.heap.size + 1 + 1 + 1) #[.int .i64 h2.at_, .int .i64 h2.v, .int .i64 h2.r, .int .i64 h2.t, .bool h2.seen.s, .int .i64 h2.seen.n, .bool h2.seen.f, .int .i64 h2.seen.v, .int .i64 h2.tr, .int .i64 h2.sp, .bool h2.ag, .int .i64 h2.re] 41 := hR 3 (by decide)
      have e4 : σ 4 = .bool true := hR 4 (by decide)
      clear hR
      simp only [lexAll]
      go_simp
      go_step
      have k7 := sv2.cell
      have k8 := sv3.cell
      go_wp2
      refine bodyPost_ret (v := .tuple #[stV q.1 A5 n5 c5, hdV h2, .bool true]) (by simp [results, Try.results103, go_sem, k7, k8, stV, hdV, Hd.rest, Hd.zero]) rfl ⟨A5, n5, c5, by rw [HV.out], ?_, hB⟩
      rw [HV.out]
      exact hG.cut.mono (by omega) (Nat.le_refl _)

end Go.Proofs.Ytbdgkmamieagfaa

/-
  The walk of a step of one who puts, of the model: the look.
-/
import Derived.Test.YtbdgkmamieagfaaPut7
namespace Go.Proofs.Ytbdgkmamieagfaa
set_option linter.unusedSimpArgs false
set_option linter.unusedVariables false
open Go.RowKit
set_option linter.unusedVariables false
attribute [local go_sem] OpUpon
attribute [local go_sem ↓] Go.wp_at_zero Go.wp_at_succ

def lookAt (s : St) (h : Hd) : Pl := (s.at h.r).ps.getD (h.t % s.rd).toNat ⟨false, 0, false, 0⟩
def put5 (s : St) (h : Hd) : St × Hd × Bool := fin true s { h with seen := lookAt s h, at_ := if mayPut (lookAt s h) h.t then (if (lookAt s h).s then 7 else 6) else 8 }

def p5AR (s : St) (N b n cap pb : Nat) (rg : Rg) (p : Pl) (v r t : Int) (seen : Pl) (tr sp : Int) (ag : Bool) (re : Int) (n' cap' : Nat) (j : Nat) (σ : Nat → Value) (w : World) : Prop :=
  match j with
  | 0 => σ 0 = .pointer (some ⟨N, 2, none⟩)
  | 1 => σ 1 = .slice (some ⟨b, 0, none⟩) n cap
  | 2 => σ 2 = .int .i64 r
  | 3 => σ 3 = .pointer (some ⟨b, r.toNat * 5, none⟩)
  | 4 => σ 4 = .pointer (some ⟨b, r.toNat * 5 + 4, none⟩)
  | 5 => σ 5 = .slice (some ⟨pb, 0, none⟩) n' cap'
  | 6 => σ 6 = .int .i64 t
  | 7 => σ 7 = .pointer (some ⟨N, 0, none⟩)
  | 8 => σ 8 = .int .i64 s.rd
  | 9 => σ 9 = .int .i64 (t % s.rd)
  | 10 => σ 10 = .pointer (some ⟨pb, (t % s.rd).toNat * 4, none⟩)
  | 11 => σ 11 = .agg #[.bool p.s, .int .i64 p.n, .bool p.f, .int .i64 p.v]
  | 12 => σ 12 = .pointer (some ⟨(N + 1), 4, none⟩)
  | 13 => BoxAt w (N + 1) #[.int .i64 5, .int .i64 v, .int .i64 r, .int .i64 t, .bool p.s, .int .i64 p.n, .bool p.f, .int .i64 p.v, .int .i64 tr, .int .i64 sp, .bool ag, .int .i64 re] 41
  | _ => True

def p5AS (j : Nat) : List Nat := [[0], [1], [2], [3], [4], [5], [6], [7], [8], [9], [10], [11], [12], [13]].getD j [j]
def p5AK (j : Nat) : Nat := [0, 0, 0, 0, 0, 0, 0, 0, 0, 0, 0, 0, 0, 1].getD j 0

set_option maxRecDepth 100000 in
set_option maxHeartbeats 4000000 in
theorem l6Put_5 (s : St) (A : Option Addr) (n cap lo hi : Nat) (v r t : Int) (seen : Pl) (tr sp : Int) (ag : Bool) (re : Int) (w : World) (hs : RgsW lo hi w A n cap s.rs) (hh : hi ≤ w.heap.size) (hlo : lo ≤ w.heap.size) (hok : stOk s = true) (hrb : ringB s r = true) (ht : 0 ≤ t ∧ t ≤ 1000000) :
    Calls Try.prog 91 #[stV s A n cap, hdV ⟨5, v, r, t, seen, tr, sp, ag, re⟩] w (RetSHB lo (put5 s ⟨5, v, r, t, seen, tr, sp, ag, re⟩) w) := by
  have HOK := Lib.hid hok
  have HRB := Lib.hid hrb
  have HLN := Lib.hid hs.1
  have HNT := Lib.hid (stOk_neat hok)
  obtain ⟨z0, z1, z2⟩ := ringB_at HLN.out hrb
  clear hok hrb
  obtain ⟨t0, t1⟩ := ht
  unfold stV hdV
  dsimp only
  go_enter Try.func91, Try.ntmps91
  go_upto_region 26 with fail
  refine wp_abs (fun W => Below w.heap.size w W ∧ BoxAt W w.heap.size #[.int .i64 s.rd, .int .i64 s.mo, .slice A n cap, .int .i64 s.fi, .int .i64 s.la] 75 ∧ BoxAt W (w.heap.size + 1) #[.int .i64 5, .int .i64 v, .int .i64 r, .int .i64 t, .bool seen.s, .int .i64 seen.n, .bool seen.f, .int .i64 seen.v, .int .i64 tr, .int .i64 sp, .bool ag, .int .i64 re] 41 ∧ BoxAt W (w.heap.size + 1 + 1) #[.int .i64 0, .int .i64 0, .slice none 0 0, .int .i64 0, .int .i64 0] 75 ∧ BoxAt W (w.heap.size + 1 + 1 + 1) #[.int .i64 0, .int .i64 0, .int .i64 0, .int .i64 0, .bool false, .int .i64 0, .bool false, .int .i64 0, .int .i64 0, .int .i64 0, .bool false, .int .i64 0] 41) ⟨(((((Below.refl _ _).alloc (Nat.le_refl _) _).alloc (by simp) _).alloc (by simp; omega) _).alloc (by simp; omega) _), (((BoxAt.new _ _ _).alloc _).alloc _).alloc _, ((BoxAt.new' (by simp)).alloc _).alloc _, (BoxAt.new' (by simp)).alloc _, BoxAt.new' (by simp)⟩ ?_
  rintro W0 ⟨hB, hx, hy, hz, hw_⟩
  have lw0 := hw_.lt
  have hs0 := hs.below hB hh
  have kx := hx.cell
  have ky := hy.cell
  have fy := hy.frozen
  obtain ⟨b, rg, A', n', cap', rfl, hlb, hbh, hri, c0, c1', c2, c3, c4, hpw⟩ := hs0.at_ z2
  have HAT := Lib.hid (St.at_some (s := s) (z := r) hri)
  have hrd := stOk_rd HOK.out
  have hrp := stOk_places HOK.out rg (List.mem_of_getElem? hri)
  have hn' : n' = rg.ps.length := hpw.1.symm
  obtain ⟨pb, rfl, hpbh, hpo⟩ := hpw.2 (by omega)
  have hm0 := Int.emod_nonneg t (show s.rd ≠ 0 by omega)
  have hm1 := Int.emod_lt_of_pos t (show 0 < s.rd by omega)
  have hkl : (t % s.rd).toNat < rg.ps.length := by omega
  obtain ⟨p, hpx⟩ : ∃ p, rg.ps[(t % s.rd).toNat]? = some p := ⟨_, List.getElem?_eq_getElem hkl⟩
  have he : PlE 0 W0 pb ((t % s.rd).toNat * 4) p := PlE.of_cells fun j u hu => Own.cell_ Pl.cs_len hpo hpx hu
  have hc : RgC W0 b r.toNat rg (some ⟨pb, 0, none⟩) n' cap' := ⟨c0, c1', c2, c3, c4⟩
  have hat0 : t % s.rd < (n' : Int) := by omega
  have hbl2 : b < w.heap.size ∧ pb < w.heap.size := by omega
  have HLK := Lib.hid (show lookAt s ⟨5, v, r, t, seen, tr, sp, ag, re⟩ = p by simp [lookAt, HAT.out, hpx])
  clear hri c0 c1' c2 c3 c4 hpx hpw hpo kx ky fy hs0 hn' hrp
  go_cut [91] (fun _ W' => Below w.heap.size w W' ∧ BoxAt W' w.heap.size #[.int .i64 s.rd, .int .i64 s.mo, .slice (some ⟨b, 0, none⟩) n cap, .int .i64 s.fi, .int .i64 s.la] 75 ∧ BoxAt W' (w.heap.size + 1) #[.int .i64 5, .int .i64 v, .int .i64 r, .int .i64 t, .bool p.s, .int .i64 p.n, .bool p.f, .int .i64 p.v, .int .i64 tr, .int .i64 sp, .bool ag, .int .i64 re] 41 ∧ BoxAt W' (w.heap.size + 1 + 1) #[.int .i64 0, .int .i64 0, .slice none 0 0, .int .i64 0, .int .i64 0] 75 ∧ BoxAt W' (w.heap.size + 1 + 1 + 1) #[.int .i64 0, .int .i64 0, .int .i64 0, .int .i64 0, .bool false, .int .i64 0, .bool false, .int .i64 0, .int .i64 0, .int .i64 0, .bool false, .int .i64 0] 41)
  case first =>
    refine wp_region2 (fun w w' => Below w.heap.size w w') (fun _ _ h => h.size) (fun L W' => Below w.heap.size w W' ∧ BoxAt W' w.heap.size #[.int .i64 s.rd, .int .i64 s.mo, .slice (some ⟨b, 0, none⟩) n cap, .int .i64 s.fi, .int .i64 s.la] 75 ∧ BoxAt W' (w.heap.size + 1 + 1) #[.int .i64 0, .int .i64 0, .slice none 0 0, .int .i64 0, .int .i64 0] 75 ∧ BoxAt W' (w.heap.size + 1 + 1 + 1) #[.int .i64 0, .int .i64 0, .int .i64 0, .int .i64 0, .bool false, .int .i64 0, .bool false, .int .i64 0, .int .i64 0, .int .i64 0, .bool false, .int .i64 0] 41 ∧ RgC W' b r.toNat rg (some ⟨pb, 0, none⟩) n' cap' ∧ PlE 0 W' pb ((t % s.rd).toNat * 4) p ∧ (∃ x0 x1 x2 x3, BoxAt W' (w.heap.size + 1) #[.int .i64 5, .int .i64 v, .int .i64 r, .int .i64 t, x0, x1, x2, x3, .int .i64 tr, .int .i64 sp, .bool ag, .int .i64 re] 41) ∧ (L 13 = false → BoxAt W' (w.heap.size + 1) #[.int .i64 5, .int .i64 v, .int .i64 r, .int .i64 t, .bool seen.s, .int .i64 seen.n, .bool seen.f, .int .i64 seen.v, .int .i64 tr, .int .i64 sp, .bool ag, .int .i64 re] 41)) (p5AR s w.heap.size b n cap pb rg p v r t seen tr sp ag re n' cap') p5AK p5AS (by kernel_rfl) (by kernel_rfl) ?_ ?_ ?_
      (.grow rfl ?_ <| .grow rfl ?_ <| .grow rfl ?_ <| .grow rfl ?_ <| .grow rfl ?_ <| .grow rfl ?_ <| .grow rfl ?_ <| .grow rfl ?_ <| .grow rfl ?_ <| .grow rfl ?_ <| .grow rfl ?_ <| .grow rfl ?_ <| .grow rfl ?_ <| .store rfl ?_ <| .nil) ?_
    · intro j σ τ w h hR
      match j, h, hR with
      | 0, h, hR => exact (h 0 (List.mem_singleton.2 rfl)).symm.trans hR
      | 1, h, hR => exact (h 1 (List.mem_singleton.2 rfl)).symm.trans hR
      | 2, h, hR => exact (h 2 (List.mem_singleton.2 rfl)).symm.trans hR
      | 3, h, hR => exact (h 3 (List.mem_singleton.2 rfl)).symm.trans hR
      | 4, h, hR => exact (h 4 (List.mem_singleton.2 rfl)).symm.trans hR
      | 5, h, hR => exact (h 5 (List.mem_singleton.2 rfl)).symm.trans hR
      | 6, h, hR => exact (h 6 (List.mem_singleton.2 rfl)).symm.trans hR
      | 7, h, hR => exact (h 7 (List.mem_singleton.2 rfl)).symm.trans hR
      | 8, h, hR => exact (h 8 (List.mem_singleton.2 rfl)).symm.trans hR
      | 9, h, hR => exact (h 9 (List.mem_singleton.2 rfl)).symm.trans hR
      | 10, h, hR => exact (h 10 (List.mem_singleton.2 rfl)).symm.trans hR
      | 11, h, hR => exact (h 11 (List.mem_singleton.2 rfl)).symm.trans hR
      | 12, h, hR => exact (h 12 (List.mem_singleton.2 rfl)).symm.trans hR
      | 13, _, hR => exact hR
      | _ + 14, _, _ => exact trivial
    · intro j σ w w' hb hR
      match j, hR with
      | 0, hR => exact hR
      | 1, hR => exact hR
      | 2, hR => exact hR
      | 3, hR => exact hR
      | 4, hR => exact hR
      | 5, hR => exact hR
      | 6, hR => exact hR
      | 7, hR => exact hR
      | 8, hR => exact hR
      | 9, hR => exact hR
      | 10, hR => exact hR
      | 11, hR => exact hR
      | 12, hR => exact hR
      | 13, hR => exact hR.below hb hR.lt
      | _ + 14, _ => exact trivial
    · exact ⟨hB.drew, hx, hz, hw_, hc, he, ⟨_, _, _, _, hy⟩, fun _ => hy⟩
    · -- 0: Op.fieldAddr 75 t2 2
      go_light
      intro L σ W' hcl hL hC hw
      clear hw
      have HC := Lib.hid hC
      clear hC
      clear hcl hL
      refine OpGoes.step fun K hK => ?_
      unfold OpGoes
      go_simp
      obtain ⟨hB, hx, hz, hw_, hc, he, ⟨hy_x0, hy_x1, hy_x2, hy_x3, hy⟩, hy_o⟩ := HC.out
      exact hK _ _ ⟨⟨hB, hx, hz, hw_, hc, he, ⟨_, _, _, _, hy⟩, fun h => hy_o (by simpa [upd] using h)⟩, rfl, Below.refl _ _⟩
    · -- 1: Op.load 73 t79
      go_light
      intro L σ W' hcl hL hC hw
      have e0 : σ 0 = .pointer (some ⟨w.heap.size, 2, none⟩) := hw 0 (by kernel_rfl)
      clear hw
      have HC := Lib.hid hC
      obtain ⟨hB, hx, hz, hw_, hc, he, ⟨hy_x0, hy_x1, hy_x2, hy_x3, hy⟩, hy_o⟩ := hC
      have ks := hx.cell
      clear hcl hL
      clear hB hx hz hw_ hc he hy hy_o
      refine OpGoes.step fun K hK => ?_
      unfold OpGoes
      go_simp
      obtain ⟨hB, hx, hz, hw_, hc, he, ⟨hy_x0, hy_x1, hy_x2, hy_x3, hy⟩, hy_o⟩ := HC.out
      exact hK _ _ ⟨⟨hB, hx, hz, hw_, hc, he, ⟨_, _, _, _, hy⟩, fun h => hy_o (by simpa [upd] using h)⟩, rfl, Below.refl _ _⟩
    · -- 2: Op.move t7
      go_light
      intro L σ W' hcl hL hC hw
      clear hw
      have HC := Lib.hid hC
      clear hC
      clear hcl hL
      refine OpGoes.step fun K hK => ?_
      unfold OpGoes
      go_simp
      obtain ⟨hB, hx, hz, hw_, hc, he, ⟨hy_x0, hy_x1, hy_x2, hy_x3, hy⟩, hy_o⟩ := HC.out
      exact hK _ _ ⟨⟨hB, hx, hz, hw_, hc, he, ⟨_, _, _, _, hy⟩, fun h => hy_o (by simpa [upd] using h)⟩, rfl, Below.refl _ _⟩
    · -- 3: Op.indexAddr 73 t80 t81
      go_light
      intro L σ W' hcl hL hC hw
      have e1 : σ 1 = .slice (some ⟨b, 0, none⟩) n cap := hw 1 (by kernel_rfl)
      have e2 : σ 2 = .int .i64 r := hw 2 (by kernel_rfl)
      clear hw
      have HC := Lib.hid hC
      clear hC
      clear hcl hL
      refine OpGoes.step fun K hK => ?_
      unfold OpGoes
      go_simp
      obtain ⟨hB, hx, hz, hw_, hc, he, ⟨hy_x0, hy_x1, hy_x2, hy_x3, hy⟩, hy_o⟩ := HC.out
      exact hK _ _ ⟨⟨hB, hx, hz, hw_, hc, he, ⟨_, _, _, _, hy⟩, fun h => hy_o (by simpa [upd] using h)⟩, rfl, Below.refl _ _⟩
    · -- 4: Op.fieldAddr 27 t82 4
      go_light
      intro L σ W' hcl hL hC hw
      have e3 : σ 3 = .pointer (some ⟨b, r.toNat * 5, none⟩) := hw 3 (by kernel_rfl)
      clear hw
      have HC := Lib.hid hC
      clear hC
      clear hcl hL
      refine OpGoes.step fun K hK => ?_
      unfold OpGoes
      go_simp
      obtain ⟨hB, hx, hz, hw_, hc, he, ⟨hy_x0, hy_x1, hy_x2, hy_x3, hy⟩, hy_o⟩ := HC.out
      exact hK _ _ ⟨⟨hB, hx, hz, hw_, hc, he, ⟨_, _, _, _, hy⟩, fun h => hy_o (by simpa [upd] using h)⟩, rfl, Below.refl _ _⟩
    · -- 5: Op.load 25 t83
      go_light
      intro L σ W' hcl hL hC hw
      have e4 : σ 4 = .pointer (some ⟨b, r.toNat * 5 + 4, none⟩) := hw 4 (by kernel_rfl)
      clear hw
      have HC := Lib.hid hC
      obtain ⟨hB, hx, hz, hw_, hc, he, ⟨hy_x0, hy_x1, hy_x2, hy_x3, hy⟩, hy_o⟩ := hC
      have hc0 := hc
      obtain ⟨c0, c1_, c2, c3, c4⟩ := hc0
      clear hcl hL
      clear hB hx hz hw_ hc he hy hy_o
      refine OpGoes.step fun K hK => ?_
      unfold OpGoes
      go_simp
      obtain ⟨hB, hx, hz, hw_, hc, he, ⟨hy_x0, hy_x1, hy_x2, hy_x3, hy⟩, hy_o⟩ := HC.out
      exact hK _ _ ⟨⟨hB, hx, hz, hw_, hc, he, ⟨_, _, _, _, hy⟩, fun h => hy_o (by simpa [upd] using h)⟩, rfl, Below.refl _ _⟩
    · -- 6: Op.move t8
      go_light
      intro L σ W' hcl hL hC hw
      clear hw
      have HC := Lib.hid hC
      clear hC
      clear hcl hL
      refine OpGoes.step fun K hK => ?_
      unfold OpGoes
      go_simp
      obtain ⟨hB, hx, hz, hw_, hc, he, ⟨hy_x0, hy_x1, hy_x2, hy_x3, hy⟩, hy_o⟩ := HC.out
      exact hK _ _ ⟨⟨hB, hx, hz, hw_, hc, he, ⟨_, _, _, _, hy⟩, fun h => hy_o (by simpa [upd] using h)⟩, rfl, Below.refl _ _⟩
    · -- 7: Op.fieldAddr 75 t2 0
      go_light
      intro L σ W' hcl hL hC hw
      clear hw
      have HC := Lib.hid hC
      clear hC
      clear hcl hL
      refine OpGoes.step fun K hK => ?_
      unfold OpGoes
      go_simp
      obtain ⟨hB, hx, hz, hw_, hc, he, ⟨hy_x0, hy_x1, hy_x2, hy_x3, hy⟩, hy_o⟩ := HC.out
      exact hK _ _ ⟨⟨hB, hx, hz, hw_, hc, he, ⟨_, _, _, _, hy⟩, fun h => hy_o (by simpa [upd] using h)⟩, rfl, Below.refl _ _⟩
    · -- 8: Op.load 2 t86
      go_light
      intro L σ W' hcl hL hC hw
      have e7 : σ 7 = .pointer (some ⟨w.heap.size, 0, none⟩) := hw 7 (by kernel_rfl)
      clear hw
      have HC := Lib.hid hC
      obtain ⟨hB, hx, hz, hw_, hc, he, ⟨hy_x0, hy_x1, hy_x2, hy_x3, hy⟩, hy_o⟩ := hC
      have ks := hx.cell
      clear hcl hL
      clear hB hx hz hw_ hc he hy hy_o
      refine OpGoes.step fun K hK => ?_
      unfold OpGoes
      go_simp
      obtain ⟨hB, hx, hz, hw_, hc, he, ⟨hy_x0, hy_x1, hy_x2, hy_x3, hy⟩, hy_o⟩ := HC.out
      exact hK _ _ ⟨⟨hB, hx, hz, hw_, hc, he, ⟨_, _, _, _, hy⟩, fun h => hy_o (by simpa [upd] using h)⟩, rfl, Below.refl _ _⟩
    · -- 9: Op.binOp BinOp.rem 2 t85 t87 2
      go_light
      intro L σ W' hcl hL hC hw
      have e6 : σ 6 = .int .i64 t := hw 6 (by kernel_rfl)
      have e8 : σ 8 = .int .i64 s.rd := hw 8 (by kernel_rfl)
      clear hw
      have HC := Lib.hid hC
      obtain ⟨hB, hx, hz, hw_, hc, he, ⟨hy_x0, hy_x1, hy_x2, hy_x3, hy⟩, hy_o⟩ := hC
      have nz_ : ¬ s.rd = 0 := by omega
      have rm_ : t.tmod s.rd = t % s.rd := Int.tmod_eq_emod_of_nonneg t0
      have wr_ : IntKind.i64.wrap (t % s.rd) = t % s.rd := by rw [IntKind.wrap_i64]; omega
      clear hcl hL
      clear hB hx hz hw_ hc he hy hy_o
      refine OpGoes.step fun K hK => ?_
      unfold OpGoes
      go_simp
      obtain ⟨hB, hx, hz, hw_, hc, he, ⟨hy_x0, hy_x1, hy_x2, hy_x3, hy⟩, hy_o⟩ := HC.out
      exact hK _ _ ⟨⟨hB, hx, hz, hw_, hc, he, ⟨_, _, _, _, hy⟩, fun h => hy_o (by simpa [upd] using h)⟩, rfl, Below.refl _ _⟩
    · -- 10: Op.indexAddr 25 t84 t88
      go_light
      intro L σ W' hcl hL hC hw
      have e5 : σ 5 = .slice (some ⟨pb, 0, none⟩) n' cap' := hw 5 (by kernel_rfl)
      have e9 : σ 9 = .int .i64 (t % s.rd) := hw 9 (by kernel_rfl)
      clear hw
      have HC := Lib.hid hC
      obtain ⟨hB, hx, hz, hw_, hc, he, ⟨hy_x0, hy_x1, hy_x2, hy_x3, hy⟩, hy_o⟩ := hC
      clear hcl hL
      clear hB hx hz hw_ hc he hy hy_o
      refine OpGoes.step fun K hK => ?_
      unfold OpGoes
      go_simp
      obtain ⟨hB, hx, hz, hw_, hc, he, ⟨hy_x0, hy_x1, hy_x2, hy_x3, hy⟩, hy_o⟩ := HC.out
      exact hK _ _ ⟨⟨hB, hx, hz, hw_, hc, he, ⟨_, _, _, _, hy⟩, fun h => hy_o (by simpa [upd] using h)⟩, rfl, Below.refl _ _⟩
    · -- 11: Op.load 39 t89
      go_light
      intro L σ W' hcl hL hC hw
      have e10 : σ 10 = .pointer (some ⟨pb, (t % s.rd).toNat * 4, none⟩) := hw 10 (by kernel_rfl)
      clear hw
      have HC := Lib.hid hC
      obtain ⟨hB, hx, hz, hw_, hc, he, ⟨hy_x0, hy_x1, hy_x2, hy_x3, hy⟩, hy_o⟩ := hC
      have he0 := he
      obtain ⟨d0, d1, d2, d3⟩ := he0
      clear hcl hL
      clear hB hx hz hw_ hc he hy hy_o
      refine OpGoes.step fun K hK => ?_
      unfold OpGoes
      go_simp
      obtain ⟨hB, hx, hz, hw_, hc, he, ⟨hy_x0, hy_x1, hy_x2, hy_x3, hy⟩, hy_o⟩ := HC.out
      exact hK _ _ ⟨⟨hB, hx, hz, hw_, hc, he, ⟨_, _, _, _, hy⟩, fun h => hy_o (by simpa [upd] using h)⟩, rfl, Below.refl _ _⟩
    · -- 12: Op.fieldAddr 41 t3 4
      go_light
      intro L σ W' hcl hL hC hw
      clear hw
      have HC := Lib.hid hC
      clear hC
      clear hcl hL
      refine OpGoes.step fun K hK => ?_
      unfold OpGoes
      go_simp
      obtain ⟨hB, hx, hz, hw_, hc, he, ⟨hy_x0, hy_x1, hy_x2, hy_x3, hy⟩, hy_o⟩ := HC.out
      exact hK _ _ ⟨⟨hB, hx, hz, hw_, hc, he, ⟨_, _, _, _, hy⟩, fun h => hy_o (by simpa [upd] using h)⟩, rfl, Below.refl _ _⟩
    · -- 13: Op.store 39 t91 t90
      go_light
      intro L σ W' hcl hL hC hw hne
      have e11 : σ 11 = .agg #[.bool p.s, .int .i64 p.n, .bool p.f, .int .i64 p.v] := hw 11 (by kernel_rfl)
      have e12 : σ 12 = .pointer (some ⟨(w.heap.size + 1), 4, none⟩) := hw 12 (by kernel_rfl)
      clear hw hne
      have HC := Lib.hid hC
      obtain ⟨hB, hx, hz, hw_, hc, he, ⟨hy_x0, hy_x1, hy_x2, hy_x3, hy⟩, hy_o⟩ := hC
      clear hcl hL
      have kc_ := hy.cell
      have kf_ := hy.frozen
      clear hB hx hz hw_ hc he hy hy_o
      refine OpGoes.step fun K hK => ?_
      unfold OpGoes
      go_simp
      obtain ⟨hB, hx, hz, hw_, hc, he, ⟨hy_x0, hy_x1, hy_x2, hy_x3, hy⟩, hy_o⟩ := HC.out
      have hset := ((((hy.set 4 (.bool p.s)).set 5 (.int .i64 p.n)).set 6 (.bool p.f)).set 7 (.int .i64 p.v))
      simp only [List.setIfInBounds_toArray, List.set_cons_zero, List.set_cons_succ] at hset
      refine hK _ _ ⟨⟨((((hB.setCell (by dsimp only; omega) _).setCell (by dsimp only; omega) _).setCell (by dsimp only; omega) _).setCell (by dsimp only; omega) _), ((((hx.set_ne (by omega) _ _).set_ne (by omega) _ _).set_ne (by omega) _ _).set_ne (by omega) _ _), ((((hz.set_ne (by omega) _ _).set_ne (by omega) _ _).set_ne (by omega) _ _).set_ne (by omega) _ _), ((((hw_.set_ne (by omega) _ _).set_ne (by omega) _ _).set_ne (by omega) _ _).set_ne (by omega) _ _), ((((hc.set_ne (by omega) _ _).set_ne (by omega) _ _).set_ne (by omega) _ _).set_ne (by omega) _ _), ((((he.set_ne (by omega) _ _).set_ne (by omega) _ _).set_ne (by omega) _ _).set_ne (by omega) _ _), ⟨_, _, _, _, hset⟩, fun h => absurd h (by simp [upd])⟩, hset, by simp, fun j hj hn hR => ?_⟩
      match j, hj, hn, hR with
      | 0, _, _, hR => exact (show σ 0 = .pointer (some ⟨w.heap.size, 2, none⟩) from hR)
      | 1, _, _, hR => exact (show σ 1 = .slice (some ⟨b, 0, none⟩) n cap from hR)
      | 2, _, _, hR => exact (show σ 2 = .int .i64 r from hR)
      | 3, _, _, hR => exact (show σ 3 = .pointer (some ⟨b, r.toNat * 5, none⟩) from hR)
      | 4, _, _, hR => exact (show σ 4 = .pointer (some ⟨b, r.toNat * 5 + 4, none⟩) from hR)
      | 5, _, _, hR => exact (show σ 5 = .slice (some ⟨pb, 0, none⟩) n' cap' from hR)
      | 6, _, _, hR => exact (show σ 6 = .int .i64 t from hR)
      | 7, _, _, hR => exact (show σ 7 = .pointer (some ⟨w.heap.size, 0, none⟩) from hR)
      | 8, _, _, hR => exact (show σ 8 = .int .i64 s.rd from hR)
      | 9, _, _, hR => exact (show σ 9 = .int .i64 (t % s.rd) from hR)
      | 10, _, _, hR => exact (show σ 10 = .pointer (some ⟨pb, (t % s.rd).toNat * 4, none⟩) from hR)
      | 11, _, _, hR => exact (show σ 11 = .agg #[.bool p.s, .int .i64 p.n, .bool p.f, .int .i64 p.v] from hR)
      | 12, _, _, hR => exact (show σ 12 = .pointer (some ⟨(w.heap.size + 1), 4, none⟩) from hR)
      | 13, hj, _, _ => exact absurd rfl hj
      | _ + 14, _, _, _ => exact trivial
    · intro σ L W' hall hC hR
      obtain ⟨hB, hx, hz, hw_, hc, he, ⟨hy_x0, hy_x1, hy_x2, hy_x3, hy⟩, hy_o⟩ := hC
      have s13 : BoxAt W' (w.heap.size + 1) #[.int .i64 5, .int .i64 v, .int .i64 r, .int .i64 t, .bool p.s, .int .i64 p.n, .bool p.f, .int .i64 p.v, .int .i64 tr, .int .i64 sp, .bool ag, .int .i64 re] 41 := hR 13 (by decide)
      clear hR
      simp only [lexAll]
      go_simp
      go_step
      go_meet
      exact ⟨hB, hx, s13, hz, hw_⟩
  case rest =>
    clear hB hx hy hz hw_ hc he
    obtain ⟨hB, hx, hy, hz, hw_⟩ := hcut
    have ky := hy.cell
    go_wp2_with fail
    refine (smayPut_any p t _).mono ?_
    rintro e w1 ⟨rfl, hb1⟩
    replace hx := hx.below hb1 hx.lt
    replace hy := hy.below hb1 hy.lt
    replace hz := hz.below hb1 hz.lt
    replace hw_ := hw_.below hb1 hw_.lt
    replace hB := bstep hB hB.size hb1
    clear hb1 ky
    have hs0 := hs.below hB hh
    have lwc := hw_.lt
    have ky := hy.cell
    have fy := hy.frozen
    cases hmp : mayPut p t
    · go_upto_region 50 with fail
      have HV := Lib.hid (show put5 s ⟨5, v, r, t, seen, tr, sp, ag, re⟩ = (s, (⟨8, v, r, t, p, tr, sp, ag, re⟩ : Hd), ((⟨8, v, r, t, p, tr, sp, ag, re⟩ : Hd)).ok) by simp only [put5, HLK.out, hmp]; rfl)
      refine wp_abs (fun W' => Below w.heap.size w W' ∧ BoxAt W' w.heap.size #[.int .i64 s.rd, .int .i64 s.mo, .slice (some ⟨b, 0, none⟩) n cap, .int .i64 s.fi, .int .i64 s.la] 75 ∧ BoxAt W' (w.heap.size + 1) #[.int .i64 ((⟨8, v, r, t, p, tr, sp, ag, re⟩ : Hd)).at_, .int .i64 ((⟨8, v, r, t, p, tr, sp, ag, re⟩ : Hd)).v, .int .i64 ((⟨8, v, r, t, p, tr, sp, ag, re⟩ : Hd)).r, .int .i64 ((⟨8, v, r, t, p, tr, sp, ag, re⟩ : Hd)).t, .bool ((⟨8, v, r, t, p, tr, sp, ag, re⟩ : Hd)).seen.s, .int .i64 ((⟨8, v, r, t, p, tr, sp, ag, re⟩ : Hd)).seen.n, .bool ((⟨8, v, r, t, p, tr, sp, ag, re⟩ : Hd)).seen.f, .int .i64 ((⟨8, v, r, t, p, tr, sp, ag, re⟩ : Hd)).seen.v, .int .i64 ((⟨8, v, r, t, p, tr, sp, ag, re⟩ : Hd)).tr, .int .i64 ((⟨8, v, r, t, p, tr, sp, ag, re⟩ : Hd)).sp, .bool ((⟨8, v, r, t, p, tr, sp, ag, re⟩ : Hd)).ag, .int .i64 ((⟨8, v, r, t, p, tr, sp, ag, re⟩ : Hd)).re] 41 ∧ BoxAt W' (w.heap.size + 1 + 1) #[.int .i64 0, .int .i64 0, .slice none 0 0, .int .i64 0, .int .i64 0] 75 ∧ BoxAt W' (w.heap.size + 1 + 1 + 1) #[.int .i64 0, .int .i64 0, .int .i64 0, .int .i64 0, .bool false, .int .i64 0, .bool false, .int .i64 0, .int .i64 0, .int .i64 0, .bool false, .int .i64 0] 41 ∧ RgsW lo hi W' (some ⟨b, 0, none⟩) n cap (s).rs ∧ hi ≤ W'.heap.size) ⟨(hB.setCell (by dsimp only; omega) _), (hx.set_ne (by omega) _ _), by simpa using (hy.set 0 (.int .i64 8)), (hz.set_ne (by omega) _ _), (hw_.set_ne (by omega) _ _), (hs0.st (.inr (by omega)) _ _), by simp; omega⟩ ?_
      clear ky fy hB hx hy hz hw_ hs0
      generalize hq2 : (⟨8, v, r, t, p, tr, sp, ag, re⟩ : Hd) = h2 at *
      clear hq2
      rintro W ⟨hB, hx, hy, hz, hw_, hG, hhi⟩
      have lw := hw_.lt
      obtain ⟨M, hMe⟩ : ∃ M, M = W.heap.size := ⟨_, rfl⟩
      have hM : M ≤ W.heap.size := by omega
      have hM2 : W.heap.size ≤ M := by omega
      have hhi2 : hi ≤ M := by omega
      clear hMe hM2
      refine wp_region2 (fun w w' => Below w.heap.size w w') (fun _ _ h => h.size) (fun L W' => Below w.heap.size w W' ∧ BoxAt W' w.heap.size #[.int .i64 s.rd, .int .i64 s.mo, .slice (some ⟨b, 0, none⟩) n cap, .int .i64 s.fi, .int .i64 s.la] 75 ∧ BoxAt W' (w.heap.size + 1) #[.int .i64 h2.at_, .int .i64 h2.v, .int .i64 h2.r, .int .i64 h2.t, .bool h2.seen.s, .int .i64 h2.seen.n, .bool h2.seen.f, .int .i64 h2.seen.v, .int .i64 h2.tr, .int .i64 h2.sp, .bool h2.ag, .int .i64 h2.re] 41 ∧ RgsW lo hi W' (some ⟨b, 0, none⟩) n cap s.rs ∧ M ≤ W'.heap.size ∧ (∃ x0 x1 x2 x3 x4, BoxAt W' (w.heap.size + 1 + 1) #[x0, x1, x2, x3, x4] 75) ∧ (L 7 = false → BoxAt W' (w.heap.size + 1 + 1) #[.int .i64 0, .int .i64 0, .slice none 0 0, .int .i64 0, .int .i64 0] 75) ∧ (∃ x0 x1 x2 x3 x4 x5 x6 x7 x8 x9 x10 x11, BoxAt W' (w.heap.size + 1 + 1 + 1) #[x0, x1, x2, x3, x4, x5, x6, x7, x8, x9, x10, x11] 41) ∧ (L 8 = false → BoxAt W' (w.heap.size + 1 + 1 + 1) #[.int .i64 0, .int .i64 0, .int .i64 0, .int .i64 0, .bool false, .int .i64 0, .bool false, .int .i64 0, .int .i64 0, .int .i64 0, .bool false, .int .i64 0] 41)) (p6TR s w.heap.size n cap (some ⟨b, 0, none⟩) h2) p6TK p6TS (by kernel_rfl) (by kernel_rfl) ?_ ?_ ?_
        (.grow rfl ?_ <| .grow rfl ?_ <| .grow rfl ?_ <| .grow rfl ?_ <| .grow rfl ?_ <| .grow rfl ?_ <| .grow rfl ?_ <| .store rfl ?_ <| .store rfl ?_ <| .grow rfl ?_ <| .nil) ?_
      · intro j σ τ w h hR
        match j, h, hR with
        | 0, h, hR => exact (h 0 (List.mem_singleton.2 rfl)).symm.trans hR
        | 1, h, hR => exact (h 1 (List.mem_singleton.2 rfl)).symm.trans hR
        | 2, h, hR => exact (h 2 (List.mem_singleton.2 rfl)).symm.trans hR
        | 3, h, hR => exact (h 3 (List.mem_singleton.2 rfl)).symm.trans hR
        | 4, h, hR => exact (h 4 (List.mem_singleton.2 rfl)).symm.trans hR
        | 5, h, hR => exact (h 5 (List.mem_singleton.2 rfl)).symm.trans hR
        | 6, h, hR => exact (h 6 (List.mem_singleton.2 rfl)).symm.trans hR
        | 7, _, hR => exact hR
        | 8, _, hR => exact hR
        | 9, h, hR => exact (h 9 (List.mem_singleton.2 rfl)).symm.trans hR
        | _ + 10, _, _ => exact trivial
      · intro j σ w w' hb hR
        match j, hR with
        | 0, hR => exact hR
        | 1, hR => exact hR
        | 2, hR => exact hR
        | 3, hR => exact hR
        | 4, hR => exact hR
        | 5, hR => exact hR
        | 6, hR => exact hR
        | 7, hR => exact hR.below hb hR.lt
        | 8, hR => exact hR.below hb hR.lt
        | 9, hR => exact hR
        | _ + 10, _ => exact trivial
      · exact ⟨hB.drew, hx, hy, hG, hM, ⟨_, _, _, _, _, hz⟩, fun _ => hz, ⟨_, _, _, _, _, _, _, _, _, _, _, _, hw_⟩, fun _ => hw_⟩
      · -- 0: Op.load 75 t2
        go_light
        intro L σ W' hcl hL hC hw
        clear hw
        have HC := Lib.hid hC
        obtain ⟨hB, hx, hy, hG, hM, ⟨hz_x0, hz_x1, hz_x2, hz_x3, hz_x4, hz⟩, hz_o, ⟨hw__x0, hw__x1, hw__x2, hw__x3, hw__x4, hw__x5, hw__x6, hw__x7, hw__x8, hw__x9, hw__x10, hw__x11, hw_⟩, hw__o⟩ := hC
        have ks := hx.cell
        clear hcl hL
        clear hB hx hy hG hM hz hz_o hw_ hw__o
        refine OpGoes.step fun K hK => ?_
        unfold OpGoes
        go_simp
        obtain ⟨hB, hx, hy, hG, hM, ⟨hz_x0, hz_x1, hz_x2, hz_x3, hz_x4, hz⟩, hz_o, ⟨hw__x0, hw__x1, hw__x2, hw__x3, hw__x4, hw__x5, hw__x6, hw__x7, hw__x8, hw__x9, hw__x10, hw__x11, hw_⟩, hw__o⟩ := HC.out
        exact hK _ _ ⟨⟨hB, hx, hy, hG, hM, ⟨_, _, _, _, _, hz⟩, fun h => hz_o (by simpa [upd] using h), ⟨_, _, _, _, _, _, _, _, _, _, _, _, hw_⟩, fun h => hw__o (by simpa [upd] using h)⟩, rfl, Below.refl _ _⟩
      · -- 1: Op.load 41 t3
        go_light
        intro L σ W' hcl hL hC hw
        clear hw
        have HC := Lib.hid hC
        obtain ⟨hB, hx, hy, hG, hM, ⟨hz_x0, hz_x1, hz_x2, hz_x3, hz_x4, hz⟩, hz_o, ⟨hw__x0, hw__x1, hw__x2, hw__x3, hw__x4, hw__x5, hw__x6, hw__x7, hw__x8, hw__x9, hw__x10, hw__x11, hw_⟩, hw__o⟩ := hC
        have kh := hy.cell
        clear hcl hL
        clear hB hx hy hG hM hz hz_o hw_ hw__o
        refine OpGoes.step fun K hK => ?_
        unfold OpGoes
        go_simp
        obtain ⟨hB, hx, hy, hG, hM, ⟨hz_x0, hz_x1, hz_x2, hz_x3, hz_x4, hz⟩, hz_o, ⟨hw__x0, hw__x1, hw__x2, hw__x3, hw__x4, hw__x5, hw__x6, hw__x7, hw__x8, hw__x9, hw__x10, hw__x11, hw_⟩, hw__o⟩ := HC.out
        exact hK _ _ ⟨⟨hB, hx, hy, hG, hM, ⟨_, _, _, _, _, hz⟩, fun h => hz_o (by simpa [upd] using h), ⟨_, _, _, _, _, _, _, _, _, _, _, _, hw_⟩, fun h => hw__o (by simpa [upd] using h)⟩, rfl, Below.refl _ _⟩
      · -- 2: Op.move t9
        go_light
        intro L σ W' hcl hL hC hw
        clear hw
        have HC := Lib.hid hC
        clear hC
        clear hcl hL
        refine OpGoes.step fun K hK => ?_
        unfold OpGoes
        go_simp
        obtain ⟨hB, hx, hy, hG, hM, ⟨hz_x0, hz_x1, hz_x2, hz_x3, hz_x4, hz⟩, hz_o, ⟨hw__x0, hw__x1, hw__x2, hw__x3, hw__x4, hw__x5, hw__x6, hw__x7, hw__x8, hw__x9, hw__x10, hw__x11, hw_⟩, hw__o⟩ := HC.out
        exact hK _ _ ⟨⟨hB, hx, hy, hG, hM, ⟨_, _, _, _, _, hz⟩, fun h => hz_o (by simpa [upd] using h), ⟨_, _, _, _, _, _, _, _, _, _, _, _, hw_⟩, fun h => hw__o (by simpa [upd] using h)⟩, rfl, Below.refl _ _⟩
      · -- 3: Op.move t176
        go_light
        intro L σ W' hcl hL hC hw
        have e2 : σ 2 = .bool true := hw 2 (by kernel_rfl)
        clear hw
        have HC := Lib.hid hC
        clear hC
        clear hcl hL
        refine OpGoes.step fun K hK => ?_
        unfold OpGoes
        go_simp
        obtain ⟨hB, hx, hy, hG, hM, ⟨hz_x0, hz_x1, hz_x2, hz_x3, hz_x4, hz⟩, hz_o, ⟨hw__x0, hw__x1, hw__x2, hw__x3, hw__x4, hw__x5, hw__x6, hw__x7, hw__x8, hw__x9, hw__x10, hw__x11, hw_⟩, hw__o⟩ := HC.out
        exact hK _ _ ⟨⟨hB, hx, hy, hG, hM, ⟨_, _, _, _, _, hz⟩, fun h => hz_o (by simpa [upd] using h), ⟨_, _, _, _, _, _, _, _, _, _, _, _, hw_⟩, fun h => hw__o (by simpa [upd] using h)⟩, rfl, Below.refl _ _⟩
      · -- 4: Op.load 41 t3   [guarded: some (3, true)]
        go_light
        intro L σ W' hcl hL hC hw
        have e3 : σ 3 = .bool true := hw 3 (by kernel_rfl)
        clear hw
        have HC := Lib.hid hC
        obtain ⟨hB, hx, hy, hG, hM, ⟨hz_x0, hz_x1, hz_x2, hz_x3, hz_x4, hz⟩, hz_o, ⟨hw__x0, hw__x1, hw__x2, hw__x3, hw__x4, hw__x5, hw__x6, hw__x7, hw__x8, hw__x9, hw__x10, hw__x11, hw_⟩, hw__o⟩ := hC
        have kh := hy.cell
        clear hcl hL
        clear hB hx hy hG hM hz hz_o hw_ hw__o
        refine OpGoes.step fun K hK => ?_
        unfold OpGoes
        go_simp
        obtain ⟨hB, hx, hy, hG, hM, ⟨hz_x0, hz_x1, hz_x2, hz_x3, hz_x4, hz⟩, hz_o, ⟨hw__x0, hw__x1, hw__x2, hw__x3, hw__x4, hw__x5, hw__x6, hw__x7, hw__x8, hw__x9, hw__x10, hw__x11, hw_⟩, hw__o⟩ := HC.out
        exact hK _ _ ⟨⟨hB, hx, hy, hG, hM, ⟨_, _, _, _, _, hz⟩, fun h => hz_o (by simpa [upd] using h), ⟨_, _, _, _, _, _, _, _, _, _, _, _, hw_⟩, fun h => hw__o (by simpa [upd] using h)⟩, rfl, Below.refl _ _⟩
      · -- 5: Op.call { value (Operand.func 25), args := #[t178], argTypes := #[41] }   [guarded: some (3, true)]
        go_light
        intro L σ W' hcl hL hC hw
        have e3 : σ 3 = .bool true := hw 3 (by kernel_rfl)
        have e4 : σ 4 = .agg #[.int .i64 h2.at_, .int .i64 h2.v, .int .i64 h2.r, .int .i64 h2.t, .bool h2.seen.s, .int .i64 h2.seen.n, .bool h2.seen.f, .int .i64 h2.seen.v, .int .i64 h2.tr, .int .i64 h2.sp, .bool h2.ag, .int .i64 h2.re] := hw 4 (by kernel_rfl)
        clear hw
        have HC := Lib.hid hC
        clear hC
        clear hcl hL
        refine OpGoes.step fun K hK => ?_
        unfold OpGoes
        go_simp
        obtain ⟨hB, hx, hy, hG, hM, ⟨hz_x0, hz_x1, hz_x2, hz_x3, hz_x4, hz⟩, hz_o, ⟨hw__x0, hw__x1, hw__x2, hw__x3, hw__x4, hw__x5, hw__x6, hw__x7, hw__x8, hw__x9, hw__x10, hw__x11, hw_⟩, hw__o⟩ := HC.out
        refine (shandOk_any h2 _).mono ?_
        rintro e w1 ⟨rfl, hb1⟩
        exact ⟨_, rfl, hK _ _ ⟨⟨bstep hB hB.size hb1, hx.below hb1 hx.lt, hy.below hb1 hy.lt, hG.below hb1 (Nat.le_trans hhi2 hM), Nat.le_trans hM hb1.size, ⟨_, _, _, _, _, hz.below hb1 hz.lt⟩, fun h => (hz_o (by simpa [upd] using h)).below hb1 (hz_o (by simpa [upd] using h)).lt, ⟨_, _, _, _, _, _, _, _, _, _, _, _, hw_.below hb1 hw_.lt⟩, fun h => (hw__o (by simpa [upd] using h)).below hb1 (hw__o (by simpa [upd] using h)).lt⟩, rfl, hb1⟩⟩
      · -- 6: Op.pick t177 t179 (const (Value.bool false))
        go_light
        intro L σ W' hcl hL hC hw
        have e3 : σ 3 = .bool true := hw 3 (by kernel_rfl)
        have e5 : σ 5 = .bool h2.ok := hw 5 (by kernel_rfl)
        clear hw
        have HC := Lib.hid hC
        clear hC
        clear hcl hL
        refine OpGoes.step fun K hK => ?_
        unfold OpGoes
        go_simp
        obtain ⟨hB, hx, hy, hG, hM, ⟨hz_x0, hz_x1, hz_x2, hz_x3, hz_x4, hz⟩, hz_o, ⟨hw__x0, hw__x1, hw__x2, hw__x3, hw__x4, hw__x5, hw__x6, hw__x7, hw__x8, hw__x9, hw__x10, hw__x11, hw_⟩, hw__o⟩ := HC.out
        exact hK _ _ ⟨⟨hB, hx, hy, hG, hM, ⟨_, _, _, _, _, hz⟩, fun h => hz_o (by simpa [upd] using h), ⟨_, _, _, _, _, _, _, _, _, _, _, _, hw_⟩, fun h => hw__o (by simpa [upd] using h)⟩, rfl, Below.refl _ _⟩
      · -- 7: Op.store 75 t4 t174
        go_light
        intro L σ W' hcl hL hC hw hne
        have e0 : σ 0 = .agg #[.int .i64 s.rd, .int .i64 s.mo, .slice (some ⟨b, 0, none⟩) n cap, .int .i64 s.fi, .int .i64 s.la] := hw 0 (by kernel_rfl)
        clear hw hne
        have HC := Lib.hid hC
        obtain ⟨hB, hx, hy, hG, hM, ⟨hz_x0, hz_x1, hz_x2, hz_x3, hz_x4, hz⟩, hz_o, ⟨hw__x0, hw__x1, hw__x2, hw__x3, hw__x4, hw__x5, hw__x6, hw__x7, hw__x8, hw__x9, hw__x10, hw__x11, hw_⟩, hw__o⟩ := hC
        clear hcl hL
        have kc_ := hz.cell
        have kf_ := hz.frozen
        clear hB hx hy hG hM hz hz_o hw_ hw__o
        refine OpGoes.step fun K hK => ?_
        unfold OpGoes
        go_simp
        obtain ⟨hB, hx, hy, hG, hM, ⟨hz_x0, hz_x1, hz_x2, hz_x3, hz_x4, hz⟩, hz_o, ⟨hw__x0, hw__x1, hw__x2, hw__x3, hw__x4, hw__x5, hw__x6, hw__x7, hw__x8, hw__x9, hw__x10, hw__x11, hw_⟩, hw__o⟩ := HC.out
        have hset := sets_all (us := [.int .i64 s.rd, .int .i64 s.mo, .slice (some ⟨b, 0, none⟩) n cap, .int .i64 s.fi, .int .i64 s.la]) hz rfl
        refine hK undef (setCells W' (w.heap.size + 1 + 1) 0 [.int .i64 s.rd, .int .i64 s.mo, .slice (some ⟨b, 0, none⟩) n cap, .int .i64 s.fi, .int .i64 s.la]) ⟨⟨(Below.setCells (by omega) [.int .i64 s.rd, .int .i64 s.mo, .slice (some ⟨b, 0, none⟩) n cap, .int .i64 s.fi, .int .i64 s.la] 0 hB), (BoxAt.sets_ne [.int .i64 s.rd, .int .i64 s.mo, .slice (some ⟨b, 0, none⟩) n cap, .int .i64 s.fi, .int .i64 s.la] 0 hx (by omega)), (BoxAt.sets_ne [.int .i64 s.rd, .int .i64 s.mo, .slice (some ⟨b, 0, none⟩) n cap, .int .i64 s.fi, .int .i64 s.la] 0 hy (by omega)), (RgsW.sts hG (by omega) [.int .i64 s.rd, .int .i64 s.mo, .slice (some ⟨b, 0, none⟩) n cap, .int .i64 s.fi, .int .i64 s.la] 0), (size_sts hM [.int .i64 s.rd, .int .i64 s.mo, .slice (some ⟨b, 0, none⟩) n cap, .int .i64 s.fi, .int .i64 s.la] 0), ⟨_, _, _, _, _, hset⟩, fun h => absurd h (by simp [upd]), ⟨_, _, _, _, _, _, _, _, _, _, _, _, (BoxAt.sets_ne [.int .i64 s.rd, .int .i64 s.mo, .slice (some ⟨b, 0, none⟩) n cap, .int .i64 s.fi, .int .i64 s.la] 0 hw_ (by omega))⟩, fun h => (BoxAt.sets_ne [.int .i64 s.rd, .int .i64 s.mo, .slice (some ⟨b, 0, none⟩) n cap, .int .i64 s.fi, .int .i64 s.la] 0 (hw__o (by simpa [upd] using h)) (by omega))⟩, hset, Nat.le_of_eq (sets_size _ _ _).symm, fun j hj hn hR => ?_⟩
        match j, hj, hn, hR with
        | 0, _, _, hR => exact (show σ 0 = .agg #[.int .i64 s.rd, .int .i64 s.mo, .slice (some ⟨b, 0, none⟩) n cap, .int .i64 s.fi, .int .i64 s.la] from hR)
        | 1, _, _, hR => exact (show σ 1 = .agg #[.int .i64 h2.at_, .int .i64 h2.v, .int .i64 h2.r, .int .i64 h2.t, .bool h2.seen.s, .int .i64 h2.seen.n, .bool h2.seen.f, .int .i64 h2.seen.v, .int .i64 h2.tr, .int .i64 h2.sp, .bool h2.ag, .int .i64 h2.re] from hR)
        | 2, _, _, hR => exact (show σ 2 = .bool true from hR)
        | 3, _, _, hR => exact (show σ 3 = .bool true from hR)
        | 4, _, _, hR => exact (show σ 4 = .agg #[.int .i64 h2.at_, .int .i64 h2.v, .int .i64 h2.r, .int .i64 h2.t, .bool h2.seen.s, .int .i64 h2.seen.n, .bool h2.seen.f, .int .i64 h2.seen.v, .int .i64 h2.tr, .int .i64 h2.sp, .bool h2.ag, .int .i64 h2.re] from hR)
        | 5, _, _, hR => exact (show σ 5 = .bool h2.ok from hR)
        | 6, _, _, hR => exact (show σ 6 = .bool h2.ok from hR)
        | 7, hj, _, _ => exact absurd rfl hj
        | 8, _, _, hR => exact (BoxAt.sets_ne [.int .i64 s.rd, .int .i64 s.mo, .slice (some ⟨b, 0, none⟩) n cap, .int .i64 s.fi, .int .i64 s.la] 0 hR (by omega))
        | 9, _, _, hR => exact (show σ 9 = .bool h2.ok from hR)
        | _ + 10, _, _, _ => exact trivial
      · -- 8: Op.store 41 t5 t175
        go_light
        intro L σ W' hcl hL hC hw hne
        have e1 : σ 1 = .agg #[.int .i64 h2.at_, .int .i64 h2.v, .int .i64 h2.r, .int .i64 h2.t, .bool h2.seen.s, .int .i64 h2.seen.n, .bool h2.seen.f, .int .i64 h2.seen.v, .int .i64 h2.tr, .int .i64 h2.sp, .bool h2.ag, .int .i64 h2.re] := hw 1 (by kernel_rfl)
        clear hw hne
        have HC := Lib.hid hC
        obtain ⟨hB, hx, hy, hG, hM, ⟨hz_x0, hz_x1, hz_x2, hz_x3, hz_x4, hz⟩, hz_o, ⟨hw__x0, hw__x1, hw__x2, hw__x3, hw__x4, hw__x5, hw__x6, hw__x7, hw__x8, hw__x9, hw__x10, hw__x11, hw_⟩, hw__o⟩ := hC
        clear hcl hL
        have kc_ := hw_.cell
        have kf_ := hw_.frozen
        clear hB hx hy hG hM hz hz_o hw_ hw__o
        refine OpGoes.step fun K hK => ?_
        unfold OpGoes
        go_simp
        obtain ⟨hB, hx, hy, hG, hM, ⟨hz_x0, hz_x1, hz_x2, hz_x3, hz_x4, hz⟩, hz_o, ⟨hw__x0, hw__x1, hw__x2, hw__x3, hw__x4, hw__x5, hw__x6, hw__x7, hw__x8, hw__x9, hw__x10, hw__x11, hw_⟩, hw__o⟩ := HC.out
        have hset := sets_all (us := [.int .i64 h2.at_, .int .i64 h2.v, .int .i64 h2.r, .int .i64 h2.t, .bool h2.seen.s, .int .i64 h2.seen.n, .bool h2.seen.f, .int .i64 h2.seen.v, .int .i64 h2.tr, .int .i64 h2.sp, .bool h2.ag, .int .i64 h2.re]) hw_ rfl
        refine hK undef (setCells W' (w.heap.size + 1 + 1 + 1) 0 [.int .i64 h2.at_, .int .i64 h2.v, .int .i64 h2.r, .int .i64 h2.t, .bool h2.seen.s, .int .i64 h2.seen.n, .bool h2.seen.f, .int .i64 h2.seen.v, .int .i64 h2.tr, .int .i64 h2.sp, .bool h2.ag, .int .i64 h2.re]) ⟨⟨(Below.setCells (by omega) [.int .i64 h2.at_, .int .i64 h2.v, .int .i64 h2.r, .int .i64 h2.t, .bool h2.seen.s, .int .i64 h2.seen.n, .bool h2.seen.f, .int .i64 h2.seen.v, .int .i64 h2.tr, .int .i64 h2.sp, .bool h2.ag, .int .i64 h2.re] 0 hB), (BoxAt.sets_ne [.int .i64 h2.at_, .int .i64 h2.v, .int .i64 h2.r, .int .i64 h2.t, .bool h2.seen.s, .int .i64 h2.seen.n, .bool h2.seen.f, .int .i64 h2.seen.v, .int .i64 h2.tr, .int .i64 h2.sp, .bool h2.ag, .int .i64 h2.re] 0 hx (by omega)), (BoxAt.sets_ne [.int .i64 h2.at_, .int .i64 h2.v, .int .i64 h2.r, .int .i64 h2.t, .bool h2.seen.s, .int .i64 h2.seen.n, .bool h2.seen.f, .int .i64 h2.seen.v, .int .i64 h2.tr, .int .i64 h2.sp, .bool h2.ag, .int .i64 h2.re] 0 hy (by omega)), (RgsW.sts hG (by omega) [.int .i64 h2.at_, .int .i64 h2.v, .int .i64 h2.r, .int .i64 h2.t, .bool h2.seen.s, .int .i64 h2.seen.n, .bool h2.seen.f, .int .i64 h2.seen.v, .int .i64 h2.tr, .int .i64 h2.sp, .bool h2.ag, .int .i64 h2.re] 0), (size_sts hM [.int .i64 h2.at_, .int .i64 h2.v, .int .i64 h2.r, .int .i64 h2.t, .bool h2.seen.s, .int .i64 h2.seen.n, .bool h2.seen.f, .int .i64 h2.seen.v, .int .i64 h2.tr, .int .i64 h2.sp, .bool h2.ag, .int .i64 h2.re] 0), ⟨_, _, _, _, _, (BoxAt.sets_ne [.int .i64 h2.at_, .int .i64 h2.v, .int .i64 h2.r, .int .i64 h2.t, .bool h2.seen.s, .int .i64 h2.seen.n, .bool h2.seen.f, .int .i64 h2.seen.v, .int .i64 h2.tr, .int .i64 h2.sp, .bool h2.ag, .int .i64 h2.re] 0 hz (by omega))⟩, fun h => (BoxAt.sets_ne [.int .i64 h2.at_, .int .i64 h2.v, .int .i64 h2.r, .int .i64 h2.t, .bool h2.seen.s, .int .i64 h2.seen.n, .bool h2.seen.f, .int .i64 h2.seen.v, .int .i64 h2.tr, .int .i64 h2.sp, .bool h2.ag, .int .i64 h2.re] 0 (hz_o (by simpa [upd] using h)) (by omega)), ⟨_, _, _, _, _, _, _, _, _, _, _, _, hset⟩, fun h => absurd h (by simp [upd])⟩, hset, Nat.le_of_eq (sets_size _ _ _).symm, fun j hj hn hR => ?_⟩
        match j, hj, hn, hR with
        | 0, _, _, hR => exact (show σ 0 = .agg #[.int .i64 s.rd, .int .i64 s.mo, .slice (some ⟨b, 0, none⟩) n cap, .int .i64 s.fi, .int .i64 s.la] from hR)
        | 1, _, _, hR => exact (show σ 1 = .agg #[.int .i64 h2.at_, .int .i64 h2.v, .int .i64 h2.r, .int .i64 h2.t, .bool h2.seen.s, .int .i64 h2.seen.n, .bool h2.seen.f, .int .i64 h2.seen.v, .int .i64 h2.tr, .int .i64 h2.sp, .bool h2.ag, .int .i64 h2.re] from hR)
        | 2, _, _, hR => exact (show σ 2 = .bool true from hR)
        | 3, _, _, hR => exact (show σ 3 = .bool true from hR)
        | 4, _, _, hR => exact (show σ 4 = .agg #[.int .i64 h2.at_, .int .i64 h2.v, .int .i64 h2.r, .int .i64 h2.t, .bool h2.seen.s, .int .i64 h2.seen.n, .bool h2.seen.f, .int .i64 h2.seen.v, .int .i64 h2.tr, .int .i64 h2.sp, .bool h2.ag, .int .i64 h2.re] from hR)
        | 5, _, _, hR => exact (show σ 5 = .bool h2.ok from hR)
        | 6, _, _, hR => exact (show σ 6 = .bool h2.ok from hR)
        | 7, _, _, hR => exact (BoxAt.sets_ne [.int .i64 h2.at_, .int .i64 h2.v, .int .i64 h2.r, .int .i64 h2.t, .bool h2.seen.s, .int .i64 h2.seen.n, .bool h2.seen.f, .int .i64 h2.seen.v, .int .i64 h2.tr, .int .i64 h2.sp, .bool h2.ag, .int .i64 h2.re] 0 hR (by omega))
        | 8, hj, _, _ => exact absurd rfl hj
        | 9, _, _, hR => exact (show σ 9 = .bool h2.ok from hR)
        | _ + 10, _, _, _ => exact trivial
      · -- 9: Op.assign t180
        go_light
        intro L σ W' hcl hL hC hw
        have e6 : σ 6 = .bool h2.ok := hw 6 (by kernel_rfl)
        clear hw
        have HC := Lib.hid hC
        clear hC
        clear hcl hL
        refine OpGoes.step fun K hK => ?_
        unfold OpGoes
        go_simp
        obtain ⟨hB, hx, hy, hG, hM, ⟨hz_x0, hz_x1, hz_x2, hz_x3, hz_x4, hz⟩, hz_o, ⟨hw__x0, hw__x1, hw__x2, hw__x3, hw__x4, hw__x5, hw__x6, hw__x7, hw__x8, hw__x9, hw__x10, hw__x11, hw_⟩, hw__o⟩ := HC.out
        exact hK _ _ ⟨⟨hB, hx, hy, hG, hM, ⟨_, _, _, _, _, hz⟩, fun h => hz_o (by simpa [upd] using h), ⟨_, _, _, _, _, _, _, _, _, _, _, _, hw_⟩, fun h => hw__o (by simpa [upd] using h)⟩, rfl, Below.refl _ _⟩
      · intro σ L W' hall hC hR
        obtain ⟨hB, hx, hy, hG, hM, ⟨hz_x0, hz_x1, hz_x2, hz_x3, hz_x4, hz⟩, hz_o, ⟨hw__x0, hw__x1, hw__x2, hw__x3, hw__x4, hw__x5, hw__x6, hw__x7, hw__x8, hw__x9, hw__x10, hw__x11, hw_⟩, hw__o⟩ := hC
        have s7 : BoxAt W' (w.heap.size + 1 + 1) #[.int .i64 s.rd, .int .i64 s.mo, .slice (some ⟨b, 0, none⟩) n cap, .int .i64 s.fi, .int .i64 s.la] 75 := hR 7 (by decide)
        have s8 : BoxAt W' (w.heap.size + 1 + 1 + 1) #[.int .i64 h2.at_, .int .i64 h2.v, .int .i64 h2.r, .int .i64 h2.t, .bool h2.seen.s, .int .i64 h2.seen.n, .bool h2.seen.f, .int .i64 h2.seen.v, .int .i64 h2.tr, .int .i64 h2.sp, .bool h2.ag, .int .i64 h2.re] 41 := hR 8 (by decide)
        have e9 : σ 9 = .bool h2.ok := hR 9 (by decide)
        clear hR
        simp only [lexAll]
        go_simp
        go_step
        have k7 := s7.cell
        have k8 := s8.cell
        go_wp2
        refine bodyPost_ret (v := .tuple #[stV s (some ⟨b, 0, none⟩) n cap, hdV h2, .bool (h2.ok)]) (by simp [results, Try.results91, go_sem, k7, k8, stV, hdV]) rfl ⟨some ⟨b, 0, none⟩, n, cap, by rw [HV.out], ?_, hB⟩
        rw [HV.out]
        exact hG.cut.mono (by omega) (Nat.le_refl _)

    · cases hsf : p.s
      · go_upto_region 50 with fail
        have HV := Lib.hid (show put5 s ⟨5, v, r, t, seen, tr, sp, ag, re⟩ = (s, (⟨6, v, r, t, p, tr, sp, ag, re⟩ : Hd), ((⟨6, v, r, t, p, tr, sp, ag, re⟩ : Hd)).ok) by simp only [put5, HLK.out, hmp, hsf]; rfl)
        refine wp_abs (fun W' => Below w.heap.size w W' ∧ BoxAt W' w.heap.size #[.int .i64 s.rd, .int .i64 s.mo, .slice (some ⟨b, 0, none⟩) n cap, .int .i64 s.fi, .int .i64 s.la] 75 ∧ BoxAt W' (w.heap.size + 1) #[.int .i64 ((⟨6, v, r, t, p, tr, sp, ag, re⟩ : Hd)).at_, .int .i64 ((⟨6, v, r, t, p, tr, sp, ag, re⟩ : Hd)).v, .int .i64 ((⟨6, v, r, t, p, tr, sp, ag, re⟩ : Hd)).r, .int .i64 ((⟨6, v, r, t, p, tr, sp, ag, re⟩ : Hd)).t, .bool ((⟨6, v, r, t, p, tr, sp, ag, re⟩ : Hd)).seen.s, .int .i64 ((⟨6, v, r, t, p, tr, sp, ag, re⟩ : Hd)).seen.n, .bool ((⟨6, v, r, t, p, tr, sp, ag, re⟩ : Hd)).seen.f, .int .i64 ((⟨6, v, r, t, p, tr, sp, ag, re⟩ : Hd)).seen.v, .int .i64 ((⟨6, v, r, t, p, tr, sp, ag, re⟩ : Hd)).tr, .int .i64 ((⟨6, v, r, t, p, tr, sp, ag, re⟩ : Hd)).sp, .bool ((⟨6, v, r, t, p, tr, sp, ag, re⟩ : Hd)).ag, .int .i64 ((⟨6, v, r, t, p, tr, sp, ag, re⟩ : Hd)).re] 41 ∧ BoxAt W' (w.heap.size + 1 + 1) #[.int .i64 0, .int .i64 0, .slice none 0 0, .int .i64 0, .int .i64 0] 75 ∧ BoxAt W' (w.heap.size + 1 + 1 + 1) #[.int .i64 0, .int .i64 0, .int .i64 0, .int .i64 0, .bool false, .int .i64 0, .bool false, .int .i64 0, .int .i64 0, .int .i64 0, .bool false, .int .i64 0] 41 ∧ RgsW lo hi W' (some ⟨b, 0, none⟩) n cap (s).rs ∧ hi ≤ W'.heap.size) ⟨(hB.setCell (by dsimp only; omega) _), (hx.set_ne (by omega) _ _), by simpa using (hy.set 0 (.int .i64 6)), (hz.set_ne (by omega) _ _), (hw_.set_ne (by omega) _ _), (hs0.st (.inr (by omega)) _ _), by simp; omega⟩ ?_
        clear ky fy hB hx hy hz hw_ hs0
        generalize hq2 : (⟨6, v, r, t, p, tr, sp, ag, re⟩ : Hd) = h2 at *
        clear hq2
        rintro W ⟨hB, hx, hy, hz, hw_, hG, hhi⟩
        have lw := hw_.lt
        obtain ⟨M, hMe⟩ : ∃ M, M = W.heap.size := ⟨_, rfl⟩
        have hM : M ≤ W.heap.size := by omega
        have hM2 : W.heap.size ≤ M := by omega
        have hhi2 : hi ≤ M := by omega
        clear hMe hM2
        refine wp_region2 (fun w w' => Below w.heap.size w w') (fun _ _ h => h.size) (fun L W' => Below w.heap.size w W' ∧ BoxAt W' w.heap.size #[.int .i64 s.rd, .int .i64 s.mo, .slice (some ⟨b, 0, none⟩) n cap, .int .i64 s.fi, .int .i64 s.la] 75 ∧ BoxAt W' (w.heap.size + 1) #[.int .i64 h2.at_, .int .i64 h2.v, .int .i64 h2.r, .int .i64 h2.t, .bool h2.seen.s, .int .i64 h2.seen.n, .bool h2.seen.f, .int .i64 h2.seen.v, .int .i64 h2.tr, .int .i64 h2.sp, .bool h2.ag, .int .i64 h2.re] 41 ∧ RgsW lo hi W' (some ⟨b, 0, none⟩) n cap s.rs ∧ M ≤ W'.heap.size ∧ (∃ x0 x1 x2 x3 x4, BoxAt W' (w.heap.size + 1 + 1) #[x0, x1, x2, x3, x4] 75) ∧ (L 7 = false → BoxAt W' (w.heap.size + 1 + 1) #[.int .i64 0, .int .i64 0, .slice none 0 0, .int .i64 0, .int .i64 0] 75) ∧ (∃ x0 x1 x2 x3 x4 x5 x6 x7 x8 x9 x10 x11, BoxAt W' (w.heap.size + 1 + 1 + 1) #[x0, x1, x2, x3, x4, x5, x6, x7, x8, x9, x10, x11] 41) ∧ (L 8 = false → BoxAt W' (w.heap.size + 1 + 1 + 1) #[.int .i64 0, .int .i64 0, .int .i64 0, .int .i64 0, .bool false, .int .i64 0, .bool false, .int .i64 0, .int .i64 0, .int .i64 0, .bool false, .int .i64 0] 41)) (p6TR s w.heap.size n cap (some ⟨b, 0, none⟩) h2) p6TK p6TS (by kernel_rfl) (by kernel_rfl) ?_ ?_ ?_
          (.grow rfl ?_ <| .grow rfl ?_ <| .grow rfl ?_ <| .grow rfl ?_ <| .grow rfl ?_ <| .grow rfl ?_ <| .grow rfl ?_ <| .store rfl ?_ <| .store rfl ?_ <| .grow rfl ?_ <| .nil) ?_
        · intro j σ τ w h hR
          match j, h, hR with
          | 0, h, hR => exact (h 0 (List.mem_singleton.2 rfl)).symm.trans hR
          | 1, h, hR => exact (h 1 (List.mem_singleton.2 rfl)).symm.trans hR
          | 2, h, hR => exact (h 2 (List.mem_singleton.2 rfl)).symm.trans hR
          | 3, h, hR => exact (h 3 (List.mem_singleton.2 rfl)).symm.trans hR
          | 4, h, hR => exact (h 4 (List.mem_singleton.2 rfl)).symm.trans hR
          | 5, h, hR => exact (h 5 (List.mem_singleton.2 rfl)).symm.trans hR
          | 6, h, hR => exact (h 6 (List.mem_singleton.2 rfl)).symm.trans hR
          | 7, _, hR => exact hR
          | 8, _, hR => exact hR
          | 9, h, hR => exact (h 9 (List.mem_singleton.2 rfl)).symm.trans hR
          | _ + 10, _, _ => exact trivial
        · intro j σ w w' hb hR
          match j, hR with
          | 0, hR => exact hR
          | 1, hR => exact hR
          | 2, hR => exact hR
          | 3, hR => exact hR
          | 4, hR => exact hR
          | 5, hR => exact hR
          | 6, hR => exact hR
          | 7, hR => exact hR.below hb hR.lt
          | 8, hR => exact hR.below hb hR.lt
          | 9, hR => exact hR
          | _ + 10, _ => exact trivial
        · exact ⟨hB.drew, hx, hy, hG, hM, ⟨_, _, _, _, _, hz⟩, fun _ => hz, ⟨_, _, _, _, _, _, _, _, _, _, _, _, hw_⟩, fun _ => hw_⟩
        · -- 0: Op.load 75 t2
          go_light
          intro L σ W' hcl hL hC hw
          clear hw
          have HC := Lib.hid hC
          obtain ⟨hB, hx, hy, hG, hM, ⟨hz_x0, hz_x1, hz_x2, hz_x3, hz_x4, hz⟩, hz_o, ⟨hw__x0, hw__x1, hw__x2, hw__x3, hw__x4, hw__x5, hw__x6, hw__x7, hw__x8, hw__x9, hw__x10, hw__x11, hw_⟩, hw__o⟩ := hC
          have ks := hx.cell
          clear hcl hL
          clear hB hx hy hG hM hz hz_o hw_ hw__o
          refine OpGoes.step fun K hK => ?_
          unfold OpGoes
          go_simp
          obtain ⟨hB, hx, hy, hG, hM, ⟨hz_x0, hz_x1, hz_x2, hz_x3, hz_x4, hz⟩, hz_o, ⟨hw__x0, hw__x1, hw__x2, hw__x3, hw__x4, hw__x5, hw__x6, hw__x7, hw__x8, hw__x9, hw__x10, hw__x11, hw_⟩, hw__o⟩ := HC.out
          exact hK _ _ ⟨⟨hB, hx, hy, hG, hM, ⟨_, _, _, _, _, hz⟩, fun h => hz_o (by simpa [upd] using h), ⟨_, _, _, _, _, _, _, _, _, _, _, _, hw_⟩, fun h => hw__o (by simpa [upd] using h)⟩, rfl, Below.refl _ _⟩
        · -- 1: Op.load 41 t3
          go_light
          intro L σ W' hcl hL hC hw
          clear hw
          have HC := Lib.hid hC
          obtain ⟨hB, hx, hy, hG, hM, ⟨hz_x0, hz_x1, hz_x2, hz_x3, hz_x4, hz⟩, hz_o, ⟨hw__x0, hw__x1, hw__x2, hw__x3, hw__x4, hw__x5, hw__x6, hw__x7, hw__x8, hw__x9, hw__x10, hw__x11, hw_⟩, hw__o⟩ := hC
          have kh := hy.cell
          clear hcl hL
          clear hB hx hy hG hM hz hz_o hw_ hw__o
          refine OpGoes.step fun K hK => ?_
          unfold OpGoes
          go_simp
          obtain ⟨hB, hx, hy, hG, hM, ⟨hz_x0, hz_x1, hz_x2, hz_x3, hz_x4, hz⟩, hz_o, ⟨hw__x0, hw__x1, hw__x2, hw__x3, hw__x4, hw__x5, hw__x6, hw__x7, hw__x8, hw__x9, hw__x10, hw__x11, hw_⟩, hw__o⟩ := HC.out
          exact hK _ _ ⟨⟨hB, hx, hy, hG, hM, ⟨_, _, _, _, _, hz⟩, fun h => hz_o (by simpa [upd] using h), ⟨_, _, _, _, _, _, _, _, _, _, _, _, hw_⟩, fun h => hw__o (by simpa [upd] using h)⟩, rfl, Below.refl _ _⟩
        · -- 2: Op.move t9
          go_light
          intro L σ W' hcl hL hC hw
          clear hw
          have HC := Lib.hid hC
          clear hC
          clear hcl hL
          refine OpGoes.step fun K hK => ?_
          unfold OpGoes
          go_simp
          obtain ⟨hB, hx, hy, hG, hM, ⟨hz_x0, hz_x1, hz_x2, hz_x3, hz_x4, hz⟩, hz_o, ⟨hw__x0, hw__x1, hw__x2, hw__x3, hw__x4, hw__x5, hw__x6, hw__x7, hw__x8, hw__x9, hw__x10, hw__x11, hw_⟩, hw__o⟩ := HC.out
          exact hK _ _ ⟨⟨hB, hx, hy, hG, hM, ⟨_, _, _, _, _, hz⟩, fun h => hz_o (by simpa [upd] using h), ⟨_, _, _, _, _, _, _, _, _, _, _, _, hw_⟩, fun h => hw__o (by simpa [upd] using h)⟩, rfl, Below.refl _ _⟩
        · -- 3: Op.move t176
          go_light
          intro L σ W' hcl hL hC hw
          have e2 : σ 2 = .bool true := hw 2 (by kernel_rfl)
          clear hw
          have HC := Lib.hid hC
          clear hC
          clear hcl hL
          refine OpGoes.step fun K hK => ?_
          unfold OpGoes
          go_simp
          obtain ⟨hB, hx, hy, hG, hM, ⟨hz_x0, hz_x1, hz_x2, hz_x3, hz_x4, hz⟩, hz_o, ⟨hw__x0, hw__x1, hw__x2, hw__x3, hw__x4, hw__x5, hw__x6, hw__x7, hw__x8, hw__x9, hw__x10, hw__x11, hw_⟩, hw__o⟩ := HC.out
          exact hK _ _ ⟨⟨hB, hx, hy, hG, hM, ⟨_, _, _, _, _, hz⟩, fun h => hz_o (by simpa [upd] using h), ⟨_, _, _, _, _, _, _, _, _, _, _, _, hw_⟩, fun h => hw__o (by simpa [upd] using h)⟩, rfl, Below.refl _ _⟩
        · -- 4: Op.load 41 t3   [guarded: some (3, true)]
          go_light
          intro L σ W' hcl hL hC hw
          have e3 : σ 3 = .bool true := hw 3 (by kernel_rfl)
          clear hw
          have HC := Lib.hid hC
          obtain ⟨hB, hx, hy, hG, hM, ⟨hz_x0, hz_x1, hz_x2, hz_x3, hz_x4, hz⟩, hz_o, ⟨hw__x0, hw__x1, hw__x2, hw__x3, hw__x4, hw__x5, hw__x6, hw__x7, hw__x8, hw__x9, hw__x10, hw__x11, hw_⟩, hw__o⟩ := hC
          have kh := hy.cell
          clear hcl hL
          clear hB hx hy hG hM hz hz_o hw_ hw__o
          refine OpGoes.step fun K hK => ?_
          unfold OpGoes
          go_simp
          obtain ⟨hB, hx, hy, hG, hM, ⟨hz_x0, hz_x1, hz_x2, hz_x3, hz_x4, hz⟩, hz_o, ⟨hw__x0, hw__x1, hw__x2, hw__x3, hw__x4, hw__x5, hw__x6, hw__x7, hw__x8, hw__x9, hw__x10, hw__x11, hw_⟩, hw__o⟩ := HC.out
          exact hK _ _ ⟨⟨hB, hx, hy, hG, hM, ⟨_, _, _, _, _, hz⟩, fun h => hz_o (by simpa [upd] using h), ⟨_, _, _, _, _, _, _, _, _, _, _, _, hw_⟩, fun h => hw__o (by simpa [upd] using h)⟩, rfl, Below.refl _ _⟩
        · -- 5: Op.call { value (Operand.func 25), args := #[t178], argTypes := #[41] }   [guarded: some (3, true)]
          go_light
          intro L σ W' hcl hL hC hw
          have e3 : σ 3 = .bool true := hw 3 (by kernel_rfl)
          have e4 : σ 4 = .agg #[.int .i64 h2.at_, .int .i64 h2.v, .int .i64 h2.r, .int .i64 h2.t, .bool h2.seen.s, .int .i64 h2.seen.n, .bool h2.seen.f, .int .i64 h2.seen.v, .int .i64 h2.tr, .int .i64 h2.sp, .bool h2.ag, .int .i64 h2.re] := hw 4 (by kernel_rfl)
          clear hw
          have HC := Lib.hid hC
          clear hC
          clear hcl hL
          refine OpGoes.step fun K hK => ?_
          unfold OpGoes
          go_simp
          obtain ⟨hB, hx, hy, hG, hM, ⟨hz_x0, hz_x1, hz_x2, hz_x3, hz_x4, hz⟩, hz_o, ⟨hw__x0, hw__x1, hw__x2, hw__x3, hw__x4, hw__x5, hw__x6, hw__x7, hw__x8, hw__x9, hw__x10, hw__x11, hw_⟩, hw__o⟩ := HC.out
          refine (shandOk_any h2 _).mono ?_
          rintro e w1 ⟨rfl, hb1⟩
          exact ⟨_, rfl, hK _ _ ⟨⟨bstep hB hB.size hb1, hx.below hb1 hx.lt, hy.below hb1 hy.lt, hG.below hb1 (Nat.le_trans hhi2 hM), Nat.le_trans hM hb1.size, ⟨_, _, _, _, _, hz.below hb1 hz.lt⟩, fun h => (hz_o (by simpa [upd] using h)).below hb1 (hz_o (by simpa [upd] using h)).lt, ⟨_, _, _, _, _, _, _, _, _, _, _, _, hw_.below hb1 hw_.lt⟩, fun h => (hw__o (by simpa [upd] using h)).below hb1 (hw__o (by simpa [upd] using h)).lt⟩, rfl, hb1⟩⟩
        · -- 6: Op.pick t177 t179 (const (Value.bool false))
          go_light
          intro L σ W' hcl hL hC hw
          have e3 : σ 3 = .bool true := hw 3 (by kernel_rfl)
          have e5 : σ 5 = .bool h2.ok := hw 5 (by kernel_rfl)
          clear hw
          have HC := Lib.hid hC
          clear hC
          clear hcl hL
          refine OpGoes.step fun K hK => ?_
          unfold OpGoes
          go_simp
          obtain ⟨hB, hx, hy, hG, hM, ⟨hz_x0, hz_x1, hz_x2, hz_x3, hz_x4, hz⟩, hz_o, ⟨hw__x0, hw__x1, hw__x2, hw__x3, hw__x4, hw__x5, hw__x6, hw__x7, hw__x8, hw__x9, hw__x10, hw__x11, hw_⟩, hw__o⟩ := HC.out
          exact hK _ _ ⟨⟨hB, hx, hy, hG, hM, ⟨_, _, _, _, _, hz⟩, fun h => hz_o (by simpa [upd] using h), ⟨_, _, _, _, _, _, _, _, _, _, _, _, hw_⟩, fun h => hw__o (by simpa [upd] using h)⟩, rfl, Below.refl _ _⟩
        · -- 7: Op.store 75 t4 t174
          go_light
          intro L σ W' hcl hL hC hw hne
          have e0 : σ 0 = .agg #[.int .i64 s.rd, .int .i64 s.mo, .slice (some ⟨b, 0, none⟩) n cap, .int .i64 s.fi, .int .i64 s.la] := hw 0 (by kernel_rfl)
          clear hw hne
          have HC := Lib.hid hC
          obtain ⟨hB, hx, hy, hG, hM, ⟨hz_x0, hz_x1, hz_x2, hz_x3, hz_x4, hz⟩, hz_o, ⟨hw__x0, hw__x1, hw__x2, hw__x3, hw__x4, hw__x5, hw__x6, hw__x7, hw__x8, hw__x9, hw__x10, hw__x11, hw_⟩, hw__o⟩ := hC
          clear hcl hL
          have kc_ := hz.cell
          have kf_ := hz.frozen
          clear hB hx hy hG hM hz hz_o hw_ hw__o
          refine OpGoes.step fun K hK => ?_
          unfold OpGoes
          go_simp
          obtain ⟨hB, hx, hy, hG, hM, ⟨hz_x0, hz_x1, hz_x2, hz_x3, hz_x4, hz⟩, hz_o, ⟨hw__x0, hw__x1, hw__x2, hw__x3, hw__x4, hw__x5, hw__x6, hw__x7, hw__x8, hw__x9, hw__x10, hw__x11, hw_⟩, hw__o⟩ := HC.out
          have hset := sets_all (us := [.int .i64 s.rd, .int .i64 s.mo, .slice (some ⟨b, 0, none⟩) n cap, .int .i64 s.fi, .int .i64 s.la]) hz rfl
          refine hK undef (setCells W' (w.heap.size + 1 + 1) 0 [.int .i64 s.rd, .int .i64 s.mo, .slice (some ⟨b, 0, none⟩) n cap, .int .i64 s.fi, .int .i64 s.la]) ⟨⟨(Below.setCells (by omega) [.int .i64 s.rd, .int .i64 s.mo, .slice (some ⟨b, 0, none⟩) n cap, .int .i64 s.fi, .int .i64 s.la] 0 hB), (BoxAt.sets_ne [.int .i64 s.rd, .int .i64 s.mo, .slice (some ⟨b, 0, none⟩) n cap, .int .i64 s.fi, .int .i64 s.la] 0 hx (by omega)), (BoxAt.sets_ne [.int .i64 s.rd, .int .i64 s.mo, .slice (some ⟨b, 0, none⟩) n cap, .int .i64 s.fi, .int .i64 s.la] 0 hy (by omega)), (RgsW.sts hG (by omega) [.int .i64 s.rd, .int .i64 s.mo, .slice (some ⟨b, 0, none⟩) n cap, .int .i64 s.fi, .int .i64 s.la] 0), (size_sts hM [.int .i64 s.rd, .int .i64 s.mo, .slice (some ⟨b, 0, none⟩) n cap, .int .i64 s.fi, .int .i64 s.la] 0), ⟨_, _, _, _, _, hset⟩, fun h => absurd h (by simp [upd]), ⟨_, _, _, _, _, _, _, _, _, _, _, _, (BoxAt.sets_ne [.int .i64 s.rd, .int .i64 s.mo, .slice (some ⟨b, 0, none⟩) n cap, .int .i64 s.fi, .int .i64 s.la] 0 hw_ (by omega))⟩, fun h => (BoxAt.sets_ne [.int .i64 s.rd, .int .i64 s.mo, .slice (some ⟨b, 0, none⟩) n cap, .int .i64 s.fi, .int .i64 s.la] 0 (hw__o (by simpa [upd] using h)) (by omega))⟩, hset, Nat.le_of_eq (sets_size _ _ _).symm, fun j hj hn hR => ?_⟩
          match j, hj, hn, hR with
          | 0, _, _, hR => exact (show σ 0 = .agg #[.int .i64 s.rd, .int .i64 s.mo, .slice (some ⟨b, 0, none⟩) n cap, .int .i64 s.fi, .int .i64 s.la] from hR)
          | 1, _, _, hR => exact (show σ 1 = .agg #[.int .i64 h2.at_, .int .i64 h2.v, .int .i64 h2.r, .int .i64 h2.t, .bool h2.seen.s, .int .i64 h2.seen.n, .bool h2.seen.f, .int .i64 h2.seen.v, .int .i64 h2.tr, .int .i64 h2.sp, .bool h2.ag, .int .i64 h2.re] from hR)
          | 2, _, _, hR => exact (show σ 2 = .bool true from hR)
          | 3, _, _, hR => exact (show σ 3 = .bool true from hR)
          | 4, _, _, hR => exact (show σ 4 = .agg #[.int .i64 h2.at_, .int .i64 h2.v, .int .i64 h2.r, .int .i64 h2.t, .bool h2.seen.s, .int .i64 h2.seen.n, .bool h2.seen.f, .int .i64 h2.seen.v, .int .i64 h2.tr, .int .i64 h2.sp, .bool h2.ag, .int .i64 h2.re] from hR)
          | 5, _, _, hR => exact (show σ 5 = .bool h2.ok from hR)
          | 6, _, _, hR => exact (show σ 6 = .bool h2.ok from hR)
          | 7, hj, _, _ => exact absurd rfl hj
          | 8, _, _, hR => exact (BoxAt.sets_ne [.int .i64 s.rd, .int .i64 s.mo, .slice (some ⟨b, 0, none⟩) n cap, .int .i64 s.fi, .int .i64 s.la] 0 hR (by omega))
          | 9, _, _, hR => exact (show σ 9 = .bool h2.ok from hR)
          | _ + 10, _, _, _ => exact trivial
        · -- 8: Op.store 41 t5 t175
          go_light
          intro L σ W' hcl hL hC hw hne
          have e1 : σ 1 = .agg #[.int .i64 h2.at_, .int .i64 h2.v, .int .i64 h2.r, .int .i64 h2.t, .bool h2.seen.s, .int .i64 h2.seen.n, .bool h2.seen.f, .int .i64 h2.seen.v, .int .i64 h2.tr, .int .i64 h2.sp, .bool h2.ag, .int .i64 h2.re] := hw 1 (by kernel_rfl)
          clear hw hne
          have HC := Lib.hid hC
          obtain ⟨hB, hx, hy, hG, hM, ⟨hz_x0, hz_x1, hz_x2, hz_x3, hz_x4, hz⟩, hz_o, ⟨hw__x0, hw__x1, hw__x2, hw__x3, hw__x4, hw__x5, hw__x6, hw__x7, hw__x8, hw__x9, hw__x10, hw__x11, hw_⟩, hw__o⟩ := hC
          clear hcl hL
          have kc_ := hw_.cell
          have kf_ := hw_.frozen
          clear hB hx hy hG hM hz hz_o hw_ hw__o
          refine OpGoes.step fun K hK => ?_
          unfold OpGoes
          go_simp
          obtain ⟨hB, hx, hy, hG, hM, ⟨hz_x0, hz_x1, hz_x2, hz_x3, hz_x4, hz⟩, hz_o, ⟨hw__x0, hw__x1, hw__x2, hw__x3, hw__x4, hw__x5, hw__x6, hw__x7, hw__x8, hw__x9, hw__x10, hw__x11, hw_⟩, hw__o⟩ := HC.out
          have hset := sets_all (us := [.int .i64 h2.at_, .int .i64 h2.v, .int .i64 h2.r, .int .i64 h2.t, .bool h2.seen.s, .int .i64 h2.seen.n, .bool h2.seen.f, .int .i64 h2.seen.v, .int .i64 h2.tr, .int .i64 h2.sp, .bool h2.ag, .int .i64 h2.re]) hw_ rfl
          refine hK undef (setCells W' (w.heap.size + 1 + 1 + 1) 0 [.int .i64 h2.at_, .int .i64 h2.v, .int .i64 h2.r, .int .i64 h2.t, .bool h2.seen.s, .int .i64 h2.seen.n, .bool h2.seen.f, .int .i64 h2.seen.v, .int .i64 h2.tr, .int .i64 h2.sp, .bool h2.ag, .int .i64 h2.re]) ⟨⟨(Below.setCells (by omega) [.int .i64 h2.at_, .int .i64 h2.v, .int .i64 h2.r, .int .i64 h2.t, .bool h2.seen.s, .int .i64 h2.seen.n, .bool h2.seen.f, .int .i64 h2.seen.v, .int .i64 h2.tr, .int .i64 h2.sp, .bool h2.ag, .int .i64 h2.re] 0 hB), (BoxAt.sets_ne [.int .i64 h2.at_, .int .i64 h2.v, .int .i64 h2.r, .int .i64 h2.t, .bool h2.seen.s, .int .i64 h2.seen.n, .bool h2.seen.f, .int .i64 h2.seen.v, .int .i64 h2.tr, .int .i64 h2.sp, .bool h2.ag, .int .i64 h2.re] 0 hx (by omega)), (BoxAt.sets_ne [.int .i64 h2.at_, .int .i64 h2.v, .int .i64 h2.r, .int .i64 h2.t, .bool h2.seen.s, .int .i64 h2.seen.n, .bool h2.seen.f, .int .i64 h2.seen.v, .int .i64 h2.tr, .int .i64 h2.sp, .bool h2.ag, .int .i64 h2.re] 0 hy (by omega)), (RgsW.sts hG (by omega) [.int .i64 h2.at_, .int .i64 h2.v, .int .i64 h2.r, .int .i64 h2.t, .bool h2.seen.s, .int .i64 h2.seen.n, .bool h2.seen.f, .int .i64 h2.seen.v, .int .i64 h2.tr, .int .i64 h2.sp, .bool h2.ag, .int .i64 h2.re] 0), (size_sts hM [.int .i64 h2.at_, .int .i64 h2.v, .int .i64 h2.r, .int .i64 h2.t, .bool h2.seen.s, .int .i64 h2.seen.n, .bool h2.seen.f, .int .i64 h2.seen.v, .int .i64 h2.tr, .int .i64 h2.sp, .bool h2.ag, .int .i64 h2.re] 0), ⟨_, _, _, _, _, (BoxAt.sets_ne [.int .i64 h2.at_, .int .i64 h2.v, .int .i64 h2.r, .int .i64 h2.t, .bool h2.seen.s, .int .i64 h2.seen.n, .bool h2.seen.f, .int .i64 h2.seen.v, .int .i64 h2.tr, .int .i64 h2.sp, .bool h2.ag, .int .i64 h2.re] 0 hz (by omega))⟩, fun h => (BoxAt.sets_ne [.int .i64 h2.at_, .int .i64 h2.v, .int .i64 h2.r, .int .i64 h2.t, .bool h2.seen.s, .int .i64 h2.seen.n, .bool h2.seen.f, .int .i64 h2.seen.v, .int .i64 h2.tr, .int .i64 h2.sp, .bool h2.ag, .int .i64 h2.re] 0 (hz_o (by simpa [upd] using h)) (by omega)), ⟨_, _, _, _, _, _, _, _, _, _, _, _, hset⟩, fun h => absurd h (by simp [upd])⟩, hset, Nat.le_of_eq (sets_size _ _ _).symm, fun j hj hn hR => ?_⟩
          match j, hj, hn, hR with
          | 0, _, _, hR => exact (show σ 0 = .agg #[.int .i64 s.rd, .int .i64 s.mo, .slice (some ⟨b, 0, none⟩) n cap, .int .i64 s.fi, .int .i64 s.la] from hR)
          | 1, _, _, hR => exact (show σ 1 = .agg #[.int .i64 h2.at_, .int .i64 h2.v, .int .i64 h2.r, .int .i64 h2.t, .bool h2.seen.s, .int .i64 h2.seen.n, .bool h2.seen.f, .int .i64 h2.seen.v, .int .i64 h2.tr, .int .i64 h2.sp, .bool h2.ag, .int .i64 h2.re] from hR)
          | 2, _, _, hR => exact (show σ 2 = .bool true from hR)
          | 3, _, _, hR => exact (show σ 3 = .bool true from hR)
          | 4, _, _, hR => exact (show σ 4 = .agg #[.int .i64 h2.at_, .int .i64 h2.v, .int .i64 h2.r, .int .i64 h2.t, .bool h2.seen.s, .int .i64 h2.seen.n, .bool h2.seen.f, .int .i64 h2.seen.v, .int .i64 h2.tr, .int .i64 h2.sp, .bool h2.ag, .int .i64 h2.re] from hR)
          | 5, _, _, hR => exact (show σ 5 = .bool h2.ok from hR)
          | 6, _, _, hR => exact (show σ 6 = .bool h2.ok from hR)
          | 7, _, _, hR => exact (BoxAt.sets_ne [.int .i64 h2.at_, .int .i64 h2.v, .int .i64 h2.r, .int .i64 h2.t, .bool h2.seen.s, .int .i64 h2.seen.n, .bool h2.seen.f, .int .i64 h2.seen.v, .int .i64 h2.tr, .int .i64 h2.sp, .bool h2.ag, .int .i64 h2.re] 0 hR (by omega))
          | 8, hj, _, _ => exact absurd rfl hj
          | 9, _, _, hR => exact (show σ 9 = .bool h2.ok from hR)
          | _ + 10, _, _, _ => exact trivial
        · -- 9: Op.assign t180
          go_light
          intro L σ W' hcl hL hC hw
          have e6 : σ 6 = .bool h2.ok := hw 6 (by kernel_rfl)
          clear hw
          have HC := Lib.hid hC
          clear hC
          clear hcl hL
          refine OpGoes.step fun K hK => ?_
          unfold OpGoes
          go_simp
          obtain ⟨hB, hx, hy, hG, hM, ⟨hz_x0, hz_x1, hz_x2, hz_x3, hz_x4, hz⟩, hz_o, ⟨hw__x0, hw__x1, hw__x2, hw__x3, hw__x4, hw__x5, hw__x6, hw__x7, hw__x8, hw__x9, hw__x10, hw__x11, hw_⟩, hw__o⟩ := HC.out
          exact hK _ _ ⟨⟨hB, hx, hy, hG, hM, ⟨_, _, _, _, _, hz⟩, fun h => hz_o (by simpa [upd] using h), ⟨_, _, _, _, _, _, _, _, _, _, _, _, hw_⟩, fun h => hw__o (by simpa [upd] using h)⟩, rfl, Below.refl _ _⟩
        · intro σ L W' hall hC hR
          obtain ⟨hB, hx, hy, hG, hM, ⟨hz_x0, hz_x1, hz_x2, hz_x3, hz_x4, hz⟩, hz_o, ⟨hw__x0, hw__x1, hw__x2, hw__x3, hw__x4, hw__x5, hw__x6, hw__x7, hw__x8, hw__x9, hw__x10, hw__x11, hw_⟩, hw__o⟩ := hC
          have s7 : BoxAt W' (w.heap.size + 1 + 1) #[.int .i64 s.rd, .int .i64 s.mo, .slice (some ⟨b, 0, none⟩) n cap, .int .i64 s.fi, .int .i64 s.la] 75 := hR 7 (by decide)
          have s8 : BoxAt W' (w.heap.size + 1 + 1 + 1) #[.int .i64 h2.at_, .int .i64 h2.v, .int .i64 h2.r, .int .i64 h2.t, .bool h2.seen.s, .int .i64 h2.seen.n, .bool h2.seen.f, .int .i64 h2.seen.v, .int .i64 h2.tr, .int .i64 h2.sp, .bool h2.ag, .int .i64 h2.re] 41 := hR 8 (by decide)
          have e9 : σ 9 = .bool h2.ok := hR 9 (by decide)
          clear hR
          simp only [lexAll]
          go_simp
          go_step
          have k7 := s7.cell
          have k8 := s8.cell
          go_wp2
          refine bodyPost_ret (v := .tuple #[stV s (some ⟨b, 0, none⟩) n cap, hdV h2, .bool (h2.ok)]) (by simp [results, Try.results91, go_sem, k7, k8, stV, hdV]) rfl ⟨some ⟨b, 0, none⟩, n, cap, by rw [HV.out], ?_, hB⟩
          rw [HV.out]
          exact hG.cut.mono (by omega) (Nat.le_refl _)

      · go_upto_region 50 with fail
        have HV := Lib.hid (show put5 s ⟨5, v, r, t, seen, tr, sp, ag, re⟩ = (s, (⟨7, v, r, t, p, tr, sp, ag, re⟩ : Hd), ((⟨7, v, r, t, p, tr, sp, ag, re⟩ : Hd)).ok) by simp only [put5, HLK.out, hmp, hsf]; rfl)
        refine wp_abs (fun W' => Below w.heap.size w W' ∧ BoxAt W' w.heap.size #[.int .i64 s.rd, .int .i64 s.mo, .slice (some ⟨b, 0, none⟩) n cap, .int .i64 s.fi, .int .i64 s.la] 75 ∧ BoxAt W' (w.heap.size + 1) #[.int .i64 ((⟨7, v, r, t, p, tr, sp, ag, re⟩ : Hd)).at_, .int .i64 ((⟨7, v, r, t, p, tr, sp, ag, re⟩ : Hd)).v, .int .i64 ((⟨7, v, r, t, p, tr, sp, ag, re⟩ : Hd)).r, .int .i64 ((⟨7, v, r, t, p, tr, sp, ag, re⟩ : Hd)).t, .bool ((⟨7, v, r, t, p, tr, sp, ag, re⟩ : Hd)).seen.s, .int .i64 ((⟨7, v, r, t, p, tr, sp, ag, re⟩ : Hd)).seen.n, .bool ((⟨7, v, r, t, p, tr, sp, ag, re⟩ : Hd)).seen.f, .int .i64 ((⟨7, v, r, t, p, tr, sp, ag, re⟩ : Hd)).seen.v, .int .i64 ((⟨7, v, r, t, p, tr, sp, ag, re⟩ : Hd)).tr, .int .i64 ((⟨7, v, r, t, p, tr, sp, ag, re⟩ : Hd)).sp, .bool ((⟨7, v, r, t, p, tr, sp, ag, re⟩ : Hd)).ag, .int .i64 ((⟨7, v, r, t, p, tr, sp, ag, re⟩ : Hd)).re] 41 ∧ BoxAt W' (w.heap.size + 1 + 1) #[.int .i64 0, .int .i64 0, .slice none 0 0, .int .i64 0, .int .i64 0] 75 ∧ BoxAt W' (w.heap.size + 1 + 1 + 1) #[.int .i64 0, .int .i64 0, .int .i64 0, .int .i64 0, .bool false, .int .i64 0, .bool false, .int .i64 0, .int .i64 0, .int .i64 0, .bool false, .int .i64 0] 41 ∧ RgsW lo hi W' (some ⟨b, 0, none⟩) n cap (s).rs ∧ hi ≤ W'.heap.size) ⟨(hB.setCell (by dsimp only; omega) _), (hx.set_ne (by omega) _ _), by simpa using (hy.set 0 (.int .i64 7)), (hz.set_ne (by omega) _ _), (hw_.set_ne (by omega) _ _), (hs0.st (.inr (by omega)) _ _), by simp; omega⟩ ?_
        clear ky fy hB hx hy hz hw_ hs0
        generalize hq2 : (⟨7, v, r, t, p, tr, sp, ag, re⟩ : Hd) = h2 at *
        clear hq2
        rintro W ⟨hB, hx, hy, hz, hw_, hG, hhi⟩
        have lw := hw_.lt
        obtain ⟨M, hMe⟩ : ∃ M, M = W.heap.size := ⟨_, rfl⟩
        have hM : M ≤ W.heap.size := by omega
        have hM2 : W.heap.size ≤ M := by omega
        have hhi2 : hi ≤ M := by omega
        clear hMe hM2
        refine wp_region2 (fun w w' => Below w.heap.size w w') (fun _ _ h => h.size) (fun L W' => Below w.heap.size w W' ∧ BoxAt W' w.heap.size #[.int .i64 s.rd, .int .i64 s.mo, .slice (some ⟨b, 0, none⟩) n cap, .int .i64 s.fi, .int .i64 s.la] 75 ∧ BoxAt W' (w.heap.size + 1) #[.int .i64 h2.at_, .int .i64 h2.v, .int .i64 h2.r, .int .i64 h2.t, .bool h2.seen.s, .int .i64 h2.seen.n, .bool h2.seen.f, .int .i64 h2.seen.v, .int .i64 h2.tr, .int .i64 h2.sp, .bool h2.ag, .int .i64 h2.re] 41 ∧ RgsW lo hi W' (some ⟨b, 0, none⟩) n cap s.rs ∧ M ≤ W'.heap.size ∧ (∃ x0 x1 x2 x3 x4, BoxAt W' (w.heap.size + 1 + 1) #[x0, x1, x2, x3, x4] 75) ∧ (L 7 = false → BoxAt W' (w.heap.size + 1 + 1) #[.int .i64 0, .int .i64 0, .slice none 0 0, .int .i64 0, .int .i64 0] 75) ∧ (∃ x0 x1 x2 x3 x4 x5 x6 x7 x8 x9 x10 x11, BoxAt W' (w.heap.size + 1 + 1 + 1) #[x0, x1, x2, x3, x4, x5, x6, x7, x8, x9, x10, x11] 41) ∧ (L 8 = false → BoxAt W' (w.heap.size + 1 + 1 + 1) #[.int .i64 0, .int .i64 0, .int .i64 0, .int .i64 0, .bool false, .int .i64 0, .bool false, .int .i64 0, .int .i64 0, .int .i64 0, .bool false, .int .i64 0] 41)) (p6TR s w.heap.size n cap (some ⟨b, 0, none⟩) h2) p6TK p6TS (by kernel_rfl) (by kernel_rfl) ?_ ?_ ?_
          (.grow rfl ?_ <| .grow rfl ?_ <| .grow rfl ?_ <| .grow rfl ?_ <| .grow rfl ?_ <| .grow rfl ?_ <| .grow rfl ?_ <| .store rfl ?_ <| .store rfl ?_ <| .grow rfl ?_ <| .nil) ?_
        · intro j σ τ w h hR
          match j, h, hR with
          | 0, h, hR => exact (h 0 (List.mem_singleton.2 rfl)).symm.trans hR
          | 1, h, hR => exact (h 1 (List.mem_singleton.2 rfl)).symm.trans hR
          | 2, h, hR => exact (h 2 (List.mem_singleton.2 rfl)).symm.trans hR
          | 3, h, hR => exact (h 3 (List.mem_singleton.2 rfl)).symm.trans hR
          | 4, h, hR => exact (h 4 (List.mem_singleton.2 rfl)).symm.trans hR
          | 5, h, hR => exact (h 5 (List.mem_singleton.2 rfl)).symm.trans hR
          | 6, h, hR => exact (h 6 (List.mem_singleton.2 rfl)).symm.trans hR
          | 7, _, hR => exact hR
          | 8, _, hR => exact hR
          | 9, h, hR => exact (h 9 (List.mem_singleton.2 rfl)).symm.trans hR
          | _ + 10, _, _ => exact trivial
        · intro j σ w w' hb hR
          match j, hR with
          | 0, hR => exact hR
          | 1, hR => exact hR
          | 2, hR => exact hR
          | 3, hR => exact hR
          | 4, hR => exact hR
          | 5, hR => exact hR
          | 6, hR => exact hR
          | 7, hR => exact hR.below hb hR.lt
          | 8, hR => exact hR.below hb hR.lt
          | 9, hR => exact hR
          | _ + 10, _ => exact trivial
        · exact ⟨hB.drew, hx, hy, hG, hM, ⟨_, _, _, _, _, hz⟩, fun _ => hz, ⟨_, _, _, _, _, _, _, _, _, _, _, _, hw_⟩, fun _ => hw_⟩
        · -- 0: Op.load 75 t2
          go_light
          intro L σ W' hcl hL hC hw
          clear hw
          have HC := Lib.hid hC
          obtain ⟨hB, hx, hy, hG, hM, ⟨hz_x0, hz_x1, hz_x2, hz_x3, hz_x4, hz⟩, hz_o, ⟨hw__x0, hw__x1, hw__x2, hw__x3, hw__x4, hw__x5, hw__x6, hw__x7, hw__x8, hw__x9, hw__x10, hw__x11, hw_⟩, hw__o⟩ := hC
          have ks := hx.cell
          clear hcl hL
          clear hB hx hy hG hM hz hz_o hw_ hw__o
          refine OpGoes.step fun K hK => ?_
          unfold OpGoes
          go_simp
          obtain ⟨hB, hx, hy, hG, hM, ⟨hz_x0, hz_x1, hz_x2, hz_x3, hz_x4, hz⟩, hz_o, ⟨hw__x0, hw__x1, hw__x2, hw__x3, hw__x4, hw__x5, hw__x6, hw__x7, hw__x8, hw__x9, hw__x10, hw__x11, hw_⟩, hw__o⟩ := HC.out
          exact hK _ _ ⟨⟨hB, hx, hy, hG, hM, ⟨_, _, _, _, _, hz⟩, fun h => hz_o (by simpa [upd] using h), ⟨_, _, _, _, _, _, _, _, _, _, _, _, hw_⟩, fun h => hw__o (by simpa [upd] using h)⟩, rfl, Below.refl _ _⟩
        · -- 1: Op.load 41 t3
          go_light
          intro L σ W' hcl hL hC hw
          clear hw
          have HC := Lib.hid hC
          obtain ⟨hB, hx, hy, hG, hM, ⟨hz_x0, hz_x1, hz_x2, hz_x3, hz_x4, hz⟩, hz_o, ⟨hw__x0, hw__x1, hw__x2, hw__x3, hw__x4, hw__x5, hw__x6, hw__x7, hw__x8, hw__x9, hw__x10, hw__x11, hw_⟩, hw__o⟩ := hC
          have kh := hy.cell
          clear hcl hL
          clear hB hx hy hG hM hz hz_o hw_ hw__o
          refine OpGoes.step fun K hK => ?_
          unfold OpGoes
          go_simp
          obtain ⟨hB, hx, hy, hG, hM, ⟨hz_x0, hz_x1, hz_x2, hz_x3, hz_x4, hz⟩, hz_o, ⟨hw__x0, hw__x1, hw__x2, hw__x3, hw__x4, hw__x5, hw__x6, hw__x7, hw__x8, hw__x9, hw__x10, hw__x11, hw_⟩, hw__o⟩ := HC.out
          exact hK _ _ ⟨⟨hB, hx, hy, hG, hM, ⟨_, _, _, _, _, hz⟩, fun h => hz_o (by simpa [upd] using h), ⟨_, _, _, _, _, _, _, _, _, _, _, _, hw_⟩, fun h => hw__o (by simpa [upd] using h)⟩, rfl, Below.refl _ _⟩
        · -- 2: Op.move t9
          go_light
          intro L σ W' hcl hL hC hw
          clear hw
          have HC := Lib.hid hC
          clear hC
          clear hcl hL
          refine OpGoes.step fun K hK => ?_
          unfold OpGoes
          go_simp
          obtain ⟨hB, hx, hy, hG, hM, ⟨hz_x0, hz_x1, hz_x2, hz_x3, hz_x4, hz⟩, hz_o, ⟨hw__x0, hw__x1, hw__x2, hw__x3, hw__x4, hw__x5, hw__x6, hw__x7, hw__x8, hw__x9, hw__x10, hw__x11, hw_⟩, hw__o⟩ := HC.out
          exact hK _ _ ⟨⟨hB, hx, hy, hG, hM, ⟨_, _, _, _, _, hz⟩, fun h => hz_o (by simpa [upd] using h), ⟨_, _, _, _, _, _, _, _, _, _, _, _, hw_⟩, fun h => hw__o (by simpa [upd] using h)⟩, rfl, Below.refl _ _⟩
        · -- 3: Op.move t176
          go_light
          intro L σ W' hcl hL hC hw
          have e2 : σ 2 = .bool true := hw 2 (by kernel_rfl)
          clear hw
          have HC := Lib.hid hC
          clear hC
          clear hcl hL
          refine OpGoes.step fun K hK => ?_
          unfold OpGoes
          go_simp
          obtain ⟨hB, hx, hy, hG, hM, ⟨hz_x0, hz_x1, hz_x2, hz_x3, hz_x4, hz⟩, hz_o, ⟨hw__x0, hw__x1, hw__x2, hw__x3, hw__x4, hw__x5, hw__x6, hw__x7, hw__x8, hw__x9, hw__x10, hw__x11, hw_⟩, hw__o⟩ := HC.out
          exact hK _ _ ⟨⟨hB, hx, hy, hG, hM, ⟨_, _, _, _, _, hz⟩, fun h => hz_o (by simpa [upd] using h), ⟨_, _, _, _, _, _, _, _, _, _, _, _, hw_⟩, fun h => hw__o (by simpa [upd] using h)⟩, rfl, Below.refl _ _⟩
        · -- 4: Op.load 41 t3   [guarded: some (3, true)]
          go_light
          intro L σ W' hcl hL hC hw
          have e3 : σ 3 = .bool true := hw 3 (by kernel_rfl)
          clear hw
          have HC := Lib.hid hC
          obtain ⟨hB, hx, hy, hG, hM, ⟨hz_x0, hz_x1, hz_x2, hz_x3, hz_x4, hz⟩, hz_o, ⟨hw__x0, hw__x1, hw__x2, hw__x3, hw__x4, hw__x5, hw__x6, hw__x7, hw__x8, hw__x9, hw__x10, hw__x11, hw_⟩, hw__o⟩ := hC
          have kh := hy.cell
          clear hcl hL
          clear hB hx hy hG hM hz hz_o hw_ hw__o
          refine OpGoes.step fun K hK => ?_
          unfold OpGoes
          go_simp
          obtain ⟨hB, hx, hy, hG, hM, ⟨hz_x0, hz_x1, hz_x2, hz_x3, hz_x4, hz⟩, hz_o, ⟨hw__x0, hw__x1, hw__x2, hw__x3, hw__x4, hw__x5, hw__x6, hw__x7, hw__x8, hw__x9, hw__x10, hw__x11, hw_⟩, hw__o⟩ := HC.out
          exact hK _ _ ⟨⟨hB, hx, hy, hG, hM, ⟨_, _, _, _, _, hz⟩, fun h => hz_o (by simpa [upd] using h), ⟨_, _, _, _, _, _, _, _, _, _, _, _, hw_⟩, fun h => hw__o (by simpa [upd] using h)⟩, rfl, Below.refl _ _⟩
        · -- 5: Op.call { value (Operand.func 25), args := #[t178], argTypes := #[41] }   [guarded: some (3, true)]
          go_light
          intro L σ W' hcl hL hC hw
          have e3 : σ 3 = .bool true := hw 3 (by kernel_rfl)
          have e4 : σ 4 = .agg #[.int .i64 h2.at_, .int .i64 h2.v, .int .i64 h2.r, .int .i64 h2.t, .bool h2.seen.s, .int .i64 h2.seen.n, .bool h2.seen.f, .int .i64 h2.seen.v, .int .i64 h2.tr, .int .i64 h2.sp, .bool h2.ag, .int .i64 h2.re] := hw 4 (by kernel_rfl)
          clear hw
          have HC := Lib.hid hC
          clear hC
          clear hcl hL
          refine OpGoes.step fun K hK => ?_
          unfold OpGoes
          go_simp
          obtain ⟨hB, hx, hy, hG, hM, ⟨hz_x0, hz_x1, hz_x2, hz_x3, hz_x4, hz⟩, hz_o, ⟨hw__x0, hw__x1, hw__x2, hw__x3, hw__x4, hw__x5, hw__x6, hw__x7, hw__x8, hw__x9, hw__x10, hw__x11, hw_⟩, hw__o⟩ := HC.out
          refine (shandOk_any h2 _).mono ?_
          rintro e w1 ⟨rfl, hb1⟩
          exact ⟨_, rfl, hK _ _ ⟨⟨bstep hB hB.size hb1, hx.below hb1 hx.lt, hy.below hb1 hy.lt, hG.below hb1 (Nat.le_trans hhi2 hM), Nat.le_trans hM hb1.size, ⟨_, _, _, _, _, hz.below hb1 hz.lt⟩, fun h => (hz_o (by simpa [upd] using h)).below hb1 (hz_o (by simpa [upd] using h)).lt, ⟨_, _, _, _, _, _, _, _, _, _, _, _, hw_.below hb1 hw_.lt⟩, fun h => (hw__o (by simpa [upd] using h)).below hb1 (hw__o (by simpa [upd] using h)).lt⟩, rfl, hb1⟩⟩
        · -- 6: Op.pick t177 t179 (const (Value.bool false))
          go_light
          intro L σ W' hcl hL hC hw
          have e3 : σ 3 = .bool true := hw 3 (by kernel_rfl)
          have e5 : σ 5 = .bool h2.ok := hw 5 (by kernel_rfl)
          clear hw
          have HC := Lib.hid hC
          clear hC
          clear hcl hL
          refine OpGoes.step fun K hK => ?_
          unfold OpGoes
          go_simp
          obtain ⟨hB, hx, hy, hG, hM, ⟨hz_x0, hz_x1, hz_x2, hz_x3, hz_x4, hz⟩, hz_o, ⟨hw__x0, hw__x1, hw__x2, hw__x3, hw__x4, hw__x5, hw__x6, hw__x7, hw__x8, hw__x9, hw__x10, hw__x11, hw_⟩, hw__o⟩ := HC.out
          exact hK _ _ ⟨⟨hB, hx, hy, hG, hM, ⟨_, _, _, _, _, hz⟩, fun h => hz_o (by simpa [upd] using h), ⟨_, _, _, _, _, _, _, _, _, _, _, _, hw_⟩, fun h => hw__o (by simpa [upd] using h)⟩, rfl, Below.refl _ _⟩
        · -- 7: Op.store 75 t4 t174
          go_light
          intro L σ W' hcl hL hC hw hne
          have e0 : σ 0 = .agg #[.int .i64 s.rd, .int .i64 s.mo, .slice (some ⟨b, 0, none⟩) n cap, .int .i64 s.fi, .int .i64 s.la] := hw 0 (by kernel_rfl)
          clear hw hne
          have HC := Lib.hid hC
          obtain ⟨hB, hx, hy, hG, hM, ⟨hz_x0, hz_x1, hz_x2, hz_x3, hz_x4, hz⟩, hz_o, ⟨hw__x0, hw__x1, hw__x2, hw__x3, hw__x4, hw__x5, hw__x6, hw__x7, hw__x8, hw__x9, hw__x10, hw__x11, hw_⟩, hw__o⟩ := hC
          clear hcl hL
          have kc_ := hz.cell
          have kf_ := hz.frozen
          clear hB hx hy hG hM hz hz_o hw_ hw__o
          refine OpGoes.step fun K hK => ?_
          unfold OpGoes
          go_simp
          obtain ⟨hB, hx, hy, hG, hM, ⟨hz_x0, hz_x1, hz_x2, hz_x3, hz_x4, hz⟩, hz_o, ⟨hw__x0, hw__x1, hw__x2, hw__x3, hw__x4, hw__x5, hw__x6, hw__x7, hw__x8, hw__x9, hw__x10, hw__x11, hw_⟩, hw__o⟩ := HC.out
          have hset := sets_all (us := [.int .i64 s.rd, .int .i64 s.mo, .slice (some ⟨b, 0, none⟩) n cap, .int .i64 s.fi, .int .i64 s.la]) hz rfl
          refine hK undef (setCells W' (w.heap.size + 1 + 1) 0 [.int .i64 s.rd, .int .i64 s.mo, .slice (some ⟨b, 0, none⟩) n cap, .int .i64 s.fi, .int .i64 s.la]) ⟨⟨(Below.setCells (by omega) [.int .i64 s.rd, .int .i64 s.mo, .slice (some ⟨b, 0, none⟩) n cap, .int .i64 s.fi, .int .i64 s.la] 0 hB), (BoxAt.sets_ne [.int .i64 s.rd, .int .i64 s.mo, .slice (some ⟨b, 0, none⟩) n cap, .int .i64 s.fi, .int .i64 s.la] 0 hx (by omega)), (BoxAt.sets_ne [.int .i64 s.rd, .int .i64 s.mo, .slice (some ⟨b, 0, none⟩) n cap, .int .i64 s.fi, .int .i64 s.la] 0 hy (by omega)), (RgsW.sts hG (by omega) [.int .i64 s.rd, .int .i64 s.mo, .slice (some ⟨b, 0, none⟩) n cap, .int .i64 s.fi, .int .i64 s.la] 0), (size_sts hM [.int .i64 s.rd, .int .i64 s.mo, .slice (some ⟨b, 0, none⟩) n cap, .int .i64 s.fi, .int .i64 s.la] 0), ⟨_, _, _, _, _, hset⟩, fun h => absurd h (by simp [upd]), ⟨_, _, _, _, _, _, _, _, _, _, _, _, (BoxAt.sets_ne [.int .i64 s.rd, .int .i64 s.mo, .slice (some ⟨b, 0, none⟩) n cap, .int .i64 s.fi, .int .i64 s.la] 0 hw_ (by omega))⟩, fun h => (BoxAt.sets_ne [.int .i64 s.rd, .int .i64 s.mo, .slice (some ⟨b, 0, none⟩) n cap, .int .i64 s.fi, .int .i64 s.la] 0 (hw__o (by simpa [upd] using h)) (by omega))⟩, hset, Nat.le_of_eq (sets_size _ _ _).symm, fun j hj hn hR => ?_⟩
          match j, hj, hn, hR with
          | 0, _, _, hR => exact (show σ 0 = .agg #[.int .i64 s.rd, .int .i64 s.mo, .slice (some ⟨b, 0, none⟩) n cap, .int .i64 s.fi, .int .i64 s.la] from hR)
          | 1, _, _, hR => exact (show σ 1 = .agg #[.int .i64 h2.at_, .int .i64 h2.v, .int .i64 h2.r, .int .i64 h2.t, .bool h2.seen.s, .int .i64 h2.seen.n, .bool h2.seen.f, .int .i64 h2.seen.v, .int .i64 h2.tr, .int .i64 h2.sp, .bool h2.ag, .int .i64 h2.re] from hR)
          | 2, _, _, hR => exact (show σ 2 = .bool true from hR)
          | 3, _, _, hR => exact (show σ 3 = .bool true from hR)
          | 4, _, _, hR => exact (show σ 4 = .agg #[.int .i64 h2.at_, .int .i64 h2.v, .int .i64 h2.r, .int .i64 h2.t, .bool h2.seen.s, .int .i64 h2.seen.n, .bool h2.seen.f, .int .i64 h2.seen.v, .int .i64 h2.tr, .int .i64 h2.sp, .bool h2.ag, .int .i64 h2.re] from hR)
          | 5, _, _, hR => exact (show σ 5 = .bool h2.ok from hR)
          | 6, _, _, hR => exact (show σ 6 = .bool h2.ok from hR)
          | 7, hj, _, _ => exact absurd rfl hj
          | 8, _, _, hR => exact (BoxAt.sets_ne [.int .i64 s.rd, .int .i64 s.mo, .slice (some ⟨b, 0, none⟩) n cap, .int .i64 s.fi, .int .i64 s.la] 0 hR (by omega))
          | 9, _, _, hR => exact (show σ 9 = .bool h2.ok from hR)
          | _ + 10, _, _, _ => exact trivial
        · -- 8: Op.store 41 t5 t175
          go_light
          intro L σ W' hcl hL hC hw hne
          have e1 : σ 1 = .agg #[.int .i64 h2.at_, .int .i64 h2.v, .int .i64 h2.r, .int .i64 h2.t, .bool h2.seen.s, .int .i64 h2.seen.n, .bool h2.seen.f, .int .i64 h2.seen.v, .int .i64 h2.tr, .int .i64 h2.sp, .bool h2.ag, .int .i64 h2.re] := hw 1 (by kernel_rfl)
          clear hw hne
          have HC := Lib.hid hC
          obtain ⟨hB, hx, hy, hG, hM, ⟨hz_x0, hz_x1, hz_x2, hz_x3, hz_x4, hz⟩, hz_o, ⟨hw__x0, hw__x1, hw__x2, hw__x3, hw__x4, hw__x5, hw__x6, hw__x7, hw__x8, hw__x9, hw__x10, hw__x11, hw_⟩, hw__o⟩ := hC
          clear hcl hL
          have kc_ := hw_.cell
          have kf_ := hw_.frozen
          clear hB hx hy hG hM hz hz_o hw_ hw__o
          refine OpGoes.step fun K hK => ?_
          unfold OpGoes
          go_simp
          obtain ⟨hB, hx, hy, hG, hM, ⟨hz_x0, hz_x1, hz_x2, hz_x3, hz_x4, hz⟩, hz_o, ⟨hw__x0, hw__x1, hw__x2, hw__x3, hw__x4, hw__x5, hw__x6, hw__x7, hw__x8, hw__x9, hw__x10, hw__x11, hw_⟩, hw__o⟩ := HC.out
          have hset := sets_all (us := [.int .i64 h2.at_, .int .i64 h2.v, .int .i64 h2.r, .int .i64 h2.t, .bool h2.seen.s, .int .i64 h2.seen.n, .bool h2.seen.f, .int .i64 h2.seen.v, .int .i64 h2.tr, .int .i64 h2.sp, .bool h2.ag, .int .i64 h2.re]) hw_ rfl
          refine hK undef (setCells W' (w.heap.size + 1 + 1 + 1) 0 [.int .i64 h2.at_, .int .i64 h2.v, .int .i64 h2.r, .int .i64 h2.t, .bool h2.seen.s, .int .i64 h2.seen.n, .bool h2.seen.f, .int .i64 h2.seen.v, .int .i64 h2.tr, .int .i64 h2.sp, .bool h2.ag, .int .i64 h2.re]) ⟨⟨(Below.setCells (by omega) [.int .i64 h2.at_, .int .i64 h2.v, .int .i64 h2.r, .int .i64 h2.t, .bool h2.seen.s, .int .i64 h2.seen.n, .bool h2.seen.f, .int .i64 h2.seen.v, .int .i64 h2.tr, .int .i64 h2.sp, .bool h2.ag, .int .i64 h2.re] 0 hB), (BoxAt.sets_ne [.int .i64 h2.at_, .int .i64 h2.v, .int .i64 h2.r, .int .i64 h2.t, .bool h2.seen.s, .int .i64 h2.seen.n, .bool h2.seen.f, .int .i64 h2.seen.v, .int .i64 h2.tr, .int .i64 h2.sp, .bool h2.ag, .int .i64 h2.re] 0 hx (by omega)), (BoxAt.sets_ne [.int .i64 h2.at_, .int .i64 h2.v, .int .i64 h2.r, .int .i64 h2.t, .bool h2.seen.s, .int .i64 h2.seen.n, .bool h2.seen.f, .int .i64 h2.seen.v, .int .i64 h2.tr, .int .i64 h2.sp, .bool h2.ag, .int .i64 h2.re] 0 hy (by omega)), (RgsW.sts hG (by omega) [.int .i64 h2.at_, .int .i64 h2.v, .int .i64 h2.r, .int .i64 h2.t, .bool h2.seen.s, .int .i64 h2.seen.n, .bool h2.seen.f, .int .i64 h2.seen.v, .int .i64 h2.tr, .int .i64 h2.sp, .bool h2.ag, .int .i64 h2.re] 0), (size_sts hM [.int .i64 h2.at_, .int .i64 h2.v, .int .i64 h2.r, .int .i64 h2.t, .bool h2.seen.s, .int .i64 h2.seen.n, .bool h2.seen.f, .int .i64 h2.seen.v, .int .i64 h2.tr, .int .i64 h2.sp, .bool h2.ag, .int .i64 h2.re] 0), ⟨_, _, _, _, _, (BoxAt.sets_ne [.int .i64 h2.at_, .int .i64 h2.v, .int .i64 h2.r, .int .i64 h2.t, .bool h2.seen.s, .int .i64 h2.seen.n, .bool h2.seen.f, .int .i64 h2.seen.v, .int .i64 h2.tr, .int .i64 h2.sp, .bool h2.ag, .int .i64 h2.re] 0 hz (by omega))⟩, fun h => (BoxAt.sets_ne [.int .i64 h2.at_, .int .i64 h2.v, .int .i64 h2.r, .int .i64 h2.t, .bool h2.seen.s, .int .i64 h2.seen.n, .bool h2.seen.f, .int .i64 h2.seen.v, .int .i64 h2.tr, .int .i64 h2.sp, .bool h2.ag, .int .i64 h2.re] 0 (hz_o (by simpa [upd] using h)) (by omega)), ⟨_, _, _, _, _, _, _, _, _, _, _, _, hset⟩, fun h => absurd h (by simp [upd])⟩, hset, Nat.le_of_eq (sets_size _ _ _).symm, fun j hj hn hR => ?_⟩
          match j, hj, hn, hR with
          | 0, _, _, hR => exact (show σ 0 = .agg #[.int .i64 s.rd, .int .i64 s.mo, .slice (some ⟨b, 0, none⟩) n cap, .int .i64 s.fi, .int .i64 s.la] from hR)
          | 1, _, _, hR => exact (show σ 1 = .agg #[.int .i64 h2.at_, .int .i64 h2.v, .int .i64 h2.r, .int .i64 h2.t, .bool h2.seen.s, .int .i64 h2.seen.n, .bool h2.seen.f, .int .i64 h2.seen.v, .int .i64 h2.tr, .int .i64 h2.sp, .bool h2.ag, .int .i64 h2.re] from hR)
          | 2, _, _, hR => exact (show σ 2 = .bool true from hR)
          | 3, _, _, hR => exact (show σ 3 = .bool true from hR)
          | 4, _, _, hR => exact (show σ 4 = .agg #[.int .i64 h2.at_, .int .i64 h2.v, .int .i64 h2.r, .int .i64 h2.t, .bool h2.seen.s, .int .i64 h2.seen.n, .bool h2.seen.f, .int .i64 h2.seen.v, .int .i64 h2.tr, .int .i64 h2.sp, .bool h2.ag, .int .i64 h2.re] from hR)
          | 5, _, _, hR => exact (show σ 5 = .bool h2.ok from hR)
          | 6, _, _, hR => exact (show σ 6 = .bool h2.ok from hR)
          | 7, _, _, hR => exact (BoxAt.sets_ne [.int .i64 h2.at_, .int .i64 h2.v, .int .i64 h2.r, .int .i64 h2.t, .bool h2.seen.s, .int .i64 h2.seen.n, .bool h2.seen.f, .int .i64 h2.seen.v, .int .i64 h2.tr, .int .i64 h2.sp, .bool h2.ag, .int .i64 h2.re] 0 hR (by omega))
          | 8, hj, _, _ => exact absurd rfl hj
          | 9, _, _, hR => exact (show σ 9 = .bool h2.ok from hR)
          | _ + 10, _, _, _ => exact trivial
        · -- 9: Op.assign t180
          go_light
          intro L σ W' hcl hL hC hw
          have e6 : σ 6 = .bool h2.ok := hw 6 (by kernel_rfl)
          clear hw
          have HC := Lib.hid hC
          clear hC
          clear hcl hL
          refine OpGoes.step fun K hK => ?_
          unfold OpGoes
          go_simp
          obtain ⟨hB, hx, hy, hG, hM, ⟨hz_x0, hz_x1, hz_x2, hz_x3, hz_x4, hz⟩, hz_o, ⟨hw__x0, hw__x1, hw__x2, hw__x3, hw__x4, hw__x5, hw__x6, hw__x7, hw__x8, hw__x9, hw__x10, hw__x11, hw_⟩, hw__o⟩ := HC.out
          exact hK _ _ ⟨⟨hB, hx, hy, hG, hM, ⟨_, _, _, _, _, hz⟩, fun h => hz_o (by simpa [upd] using h), ⟨_, _, _, _, _, _, _, _, _, _, _, _, hw_⟩, fun h => hw__o (by simpa [upd] using h)⟩, rfl, Below.refl _ _⟩
        · intro σ L W' hall hC hR
          obtain ⟨hB, hx, hy, hG, hM, ⟨hz_x0, hz_x1, hz_x2, hz_x3, hz_x4, hz⟩, hz_o, ⟨hw__x0, hw__x1, hw__x2, hw__x3, hw__x4, hw__x5, hw__x6, hw__x7, hw__x8, hw__x9, hw__x10, hw__x11, hw_⟩, hw__o⟩ := hC
          have s7 : BoxAt W' (w.heap.size + 1 + 1) #[.int .i64 s.rd, .int .i64 s.mo, .slice (some ⟨b, 0, none⟩) n cap, .int .i64 s.fi, .int .i64 s.la] 75 := hR 7 (by decide)
          have s8 : BoxAt W' (w.heap.size + 1 + 1 + 1) #[.int .i64 h2.at_, .int .i64 h2.v, .int .i64 h2.r, .int .i64 h2.t, .bool h2.seen.s, .int .i64 h2.seen.n, .bool h2.seen.f, .int .i64 h2.seen.v, .int .i64 h2.tr, .int .i64 h2.sp, .bool h2.ag, .int .i64 h2.re] 41 := hR 8 (by decide)
          have e9 : σ 9 = .bool h2.ok := hR 9 (by decide)
          clear hR
          simp only [lexAll]
          go_simp
          go_step
          have k7 := s7.cell
          have k8 := s8.cell
          go_wp2
          refine bodyPost_ret (v := .tuple #[stV s (some ⟨b, 0, none⟩) n cap, hdV h2, .bool (h2.ok)]) (by simp [results, Try.results91, go_sem, k7, k8, stV, hdV]) rfl ⟨some ⟨b, 0, none⟩, n, cap, by rw [HV.out], ?_, hB⟩
          rw [HV.out]
          exact hG.cut.mono (by omega) (Nat.le_refl _)


end Go.Proofs.Ytbdgkmamieagfaa

/-
  AddRing of the program.
-/
import Derived.Test.YtbpjhdoldodlnaaDoorRingS
import Derived.Test.YtbpjhdoldodlnaaDoorTicA
namespace Go.Proofs.YtbpjhdoldodlnaaDoor
open Go.RowKit
set_option linter.unusedVariables false
attribute [local go_sem] OpUpon
attribute [local go_sem ↓] Go.wp_at_zero Go.wp_at_succ

theorem PlsO.setsT {N : Nat} {g n cap : Nat} {l : List Pl} {k : Nat} {w : World} {cs : Array Value} {t : TypeId} (h : PlsO N w g n cap l) (hk : BoxAt w k cs t) (ht : t ≠ 39) : ∀ (us : List Value) (o : Nat), PlsO N (setCells w k o us) g n cap l
  | [], _ => h
  | u :: us, o => by
    obtain ⟨cg, hg⟩ := own_box h
    exact PlsO.setsT (Own.set_ne h (box_ne hg hk (fun e => ht e.symm)) _ _) (hk.set o u) ht us (o + 1)
/-- The rings of the copy lie below X. -/
def RgU (M X : Nat) (W : World) (b n m : Nat) (L : List Rg) : Prop := RgsD M X W (some ⟨b, 0, none⟩) n m L ∧ X ≤ W.heap.size
theorem RgU.below {M X : Nat} {W W' : World} {b n m : Nat} {L : List Rg} (h : RgU M X W b n m L) (hb : Below W.heap.size W W') : RgU M X W' b n m L := ⟨h.1.below hb h.2, Nat.le_trans h.2 hb.size⟩
theorem RgU.sets {M X : Nat} {b n m : Nat} {L : List Rg} {k : Nat} {W : World} (h : RgU M X W b n m L) (hk : X ≤ k) : ∀ (us : List Value) (o : Nat), RgU M X (setCells W k o us) b n m L
  | [], _ => h
  | u :: us, o => RgU.sets ⟨h.1.setD (.inr hk) o u, by simpa using h.2⟩ hk us (o + 1)
theorem Till.sets {M T : Nat} {a b : World} {k : Nat} (h : Till M T a b) (hk : M ≤ k ∨ k = T) : ∀ (us : List Value) (o : Nat), Till M T a (Go.Proofs.YtbpjhdoldodlnaaDoor.setCells b k o us)
  | [], _ => h
  | u :: us, o => Till.sets (h.set hk o u) hk us (o + 1)
theorem Till.grown {M T : Nat} {a b c : World} (h : Till M T a b) {row : Option Nat} (hg : b.grownBy c row) (hr : ∀ g, row = some g → M ≤ g) (hM : M ≤ b.heap.size) : Till M T a c :=
  ⟨hg.os.trans h.os, hg.tape.trans h.tape, hg.output.trans h.output, Nat.le_trans h.size hg.size, fun j hj hT => (hg.block j (by omega) (fun e => by have := hr j e.symm; omega)).trans (h.block j hj hT)⟩

theorem DOf.app {lo hi : Nat} {w : World} {rows : List Rw} {L : List Rg} (h : DOf lo hi w rows L) (L' : List Rg) : DOf lo hi w rows (L ++ L') :=
  ⟨fun j a ha => by
    obtain ⟨r, hr, x⟩ := h.1 j a ha
    exact ⟨r, by rw [List.getElem?_append_left (List.getElem?_eq_some_iff.1 hr).1]; exact hr, x⟩, h.2⟩
theorem DOf.grown {lo hi : Nat} {w w' : World} {rows : List Rw} {L : List Rg} (h : DOf lo hi w rows L) {b n c m N : Nat} {xs : List Value} (ho : w.ownsRow N 55 m (.slice (some ⟨b, 0, none⟩) n c) n xs) (hg : w.grownBy w' (some b)) : DOf lo hi w' rows L :=
  h.keep fun g cs _ _ hgb => hg.block g hgb.lt (by
    intro e
    injection e with e
    subst e
    rcases ho.2 with ⟨h1, _⟩ | ⟨g', cap', cur, hv, _, hb, _⟩
    · cases h1
    · injection hv with h1
      injection h1 with h1
      injection h1 with h1
      subst h1
      exact box_ne hgb hb (by decide) rfl)

def arYR (s : St) (X b n m V_ N M1 q : Nat) (v : Int) (j : Nat) (σ : Nat → Value) (w : World) : Prop :=
  match j with
  | 0 => σ 0 = .pointer (some ⟨X, 0, none⟩)
  | 1 => σ 1 = .pointer (some ⟨X, 0, none⟩)
  | 2 => σ 2 = .pointer (some ⟨X, 0, none⟩)
  | 3 => σ 3 = .int .i64 s.rd
  | 4 => σ 4 = .int .i64 v
  | 5 => ∃ (gr cr : Nat), σ 5 = .tuple #[.agg #[.int .i64 0, .int .i64 1, .bool false, .int .i64 ((-1)), .slice (some ⟨gr, 0, none⟩) q cr], .bool true] ∧ PlsO M1 w gr q cr (seeded q v)
  | 6 => ∃ (gr cr : Nat), σ 6 = .tuple #[.agg #[.int .i64 0, .int .i64 1, .bool false, .int .i64 ((-1)), .slice (some ⟨gr, 0, none⟩) q cr], .bool true] ∧ PlsO M1 w gr q cr (seeded q v)
  | 7 => ∃ (gr cr : Nat), σ 7 = .agg #[.int .i64 0, .int .i64 1, .bool false, .int .i64 ((-1)), .slice (some ⟨gr, 0, none⟩) q cr] ∧ PlsO M1 w gr q cr (seeded q v)
  | 8 => σ 8 = .bool true
  | 9 => ∃ g9, σ 9 = .pointer (some ⟨g9, 0, none⟩) ∧ M1 ≤ g9 ∧ ∃ x0 x1 x2 x3 x4, BoxAt w g9 #[x0, x1, x2, x3, x4] 55
  | 10 => ∃ (g9 : Nat) (gr cr : Nat), σ 9 = .pointer (some ⟨g9, 0, none⟩) ∧ M1 ≤ g9 ∧ BoxAt w g9 #[.int .i64 0, .int .i64 1, .bool false, .int .i64 ((-1)), .slice (some ⟨gr, 0, none⟩) q cr] 55 ∧ PlsO M1 w gr q cr (seeded q v)
  | 11 => σ 11 = .bool true
  | _ => True

def arYS (j : Nat) : List Nat := [[0], [1], [2], [3], [4], [5], [6], [7], [8], [9], [9], [11]].getD j [j]
def arYK (j : Nat) : Nat := [0, 0, 0, 0, 0, 0, 0, 0, 0, 2, 1, 0].getD j 0

def arNR (s : St) (X b n m V_ N M1 q : Nat) (v : Int) (j : Nat) (σ : Nat → Value) (w : World) : Prop :=
  match j with
  | 0 => σ 0 = .pointer (some ⟨X, 0, none⟩)
  | 1 => σ 1 = .pointer (some ⟨X, 0, none⟩)
  | 2 => σ 2 = .pointer (some ⟨X, 0, none⟩)
  | 3 => σ 3 = .int .i64 s.rd
  | 4 => σ 4 = .int .i64 v
  | 5 => σ 5 = .tuple #[.agg #[.int .i64 0, .int .i64 0, .bool false, .int .i64 0, .slice none 0 0], .bool false]
  | 6 => σ 6 = .tuple #[.agg #[.int .i64 0, .int .i64 0, .bool false, .int .i64 0, .slice none 0 0], .bool false]
  | 7 => σ 7 = .agg #[.int .i64 0, .int .i64 0, .bool false, .int .i64 0, .slice none 0 0]
  | 8 => σ 8 = .bool false
  | 9 => ∃ g9, σ 9 = .pointer (some ⟨g9, 0, none⟩) ∧ M1 ≤ g9 ∧ ∃ x0 x1 x2 x3 x4, BoxAt w g9 #[x0, x1, x2, x3, x4] 55
  | 10 => ∃ g9, σ 9 = .pointer (some ⟨g9, 0, none⟩) ∧ M1 ≤ g9 ∧ BoxAt w g9 #[.int .i64 0, .int .i64 0, .bool false, .int .i64 0, .slice none 0 0] 55
  | 11 => σ 11 = .bool false
  | _ => True

def arNS (j : Nat) : List Nat := [[0], [1], [2], [3], [4], [5], [6], [7], [8], [9], [9], [11]].getD j [j]
def arNK (j : Nat) : Nat := [0, 0, 0, 0, 0, 0, 0, 0, 0, 2, 1, 0].getD j 0

def arD4R (s : St) (X b n m g9 gr q cr N M M1 M2 : Nat) (v : Int) (rows : List Rw) (j : Nat) (σ : Nat → Value) (w : World) : Prop :=
  match j with
  | 0 => σ 0 = .pointer (some ⟨X, 0, none⟩)
  | 1 => σ 1 = .pointer (some ⟨X, 0, none⟩)
  | 2 => σ 2 = .pointer (some ⟨X, 0, none⟩)
  | 3 => σ 3 = .pointer (some ⟨X, 2, none⟩)
  | 4 => σ 4 = .slice (some ⟨b, 0, none⟩) n m
  | 5 => σ 5 = .agg #[.int .i64 0, .int .i64 1, .bool false, .int .i64 ((-1)), .slice (some ⟨gr, 0, none⟩) q cr]
  | 6 => ∃ (g2 : Nat), σ 6 = .slice (some ⟨g2, 0, none⟩) 1 1 ∧ BoxAt w g2 #[.int .i64 0, .int .i64 1, .bool false, .int .i64 ((-1)), .slice (some ⟨gr, 0, none⟩) q cr] 55 ∧ M2 ≤ g2
  | 7 => ∃ (bb cc : Nat), σ 7 = .slice (some ⟨bb, 0, none⟩) (n + 1) cc ∧ w.ownsRow M 55 5 (.slice (some ⟨bb, 0, none⟩) (n + 1) cc) (n + 1) ((rows ++ [(⟨0, 1, false, -1, some ⟨gr, 0, none⟩, q, cr⟩ : Rw)]).flatMap Rw.cs) ∧ (bb = b ∨ M2 ≤ bb)
  | 8 => σ 8 = .pointer (some ⟨X, 0, none⟩)
  | 9 => σ 9 = .pointer (some ⟨X, 2, none⟩)
  | 10 => ∃ (bb cc : Nat), BoxAt w X #[.int .i64 s.rd, .int .i64 s.mo, .slice (some ⟨bb, 0, none⟩) (n + 1) cc, .int .i64 s.fi, .int .i64 s.la] 28 ∧ w.ownsRow M 55 5 (.slice (some ⟨bb, 0, none⟩) (n + 1) cc) (n + 1) ((rows ++ [(⟨0, 1, false, -1, some ⟨gr, 0, none⟩, q, cr⟩ : Rw)]).flatMap Rw.cs) ∧ (bb = b ∨ M2 ≤ bb)
  | _ => True

def arD4S (j : Nat) : List Nat := [[0], [1], [2], [3], [4], [5], [6], [7], [8], [9], [10]].getD j [j]
def arD4K (j : Nat) : Nat := [0, 0, 0, 0, 0, 0, 0, 1, 0, 0, 1].getD j 0

set_option maxRecDepth 100000 in
set_option maxHeartbeats 4000000 in
theorem iadd1 (s : St) (v : Int) (n V_ B : Nat) (a0 aV : Addr) (T : Nat) (w : World) (hok : stOk s = true) (hV0 : BoxAt w V_ #[.int .i64 v] 2) (hSV : Sent B w 1 aV) (hNV : aV ≠ a0) (hBw : B ≤ w.heap.size) (hn2 : n ≤ 1048576) :
    Changes (addC v) s n a0 T (fun _ => True) 56 [.pointer (some ⟨V_, 0, none⟩)] w := by
  intro W X b m M hbb hNM hMX hXW hX hRg
  obtain ⟨i0, hi0, hz0, hz1, hz2⟩ := info_parts ring_info
  have HI := Lib.hid hi0
  have HZ0 := Lib.hid hz0
  have HZ1 := Lib.hid hz1
  have HZ2 := Lib.hid hz2
  clear hi0 hz0 hz1 hz2
  obtain ⟨q, hq, hq2, hq8⟩ : ∃ q : Nat, s.rd = q ∧ 2 ≤ q ∧ q ≤ 8 := by
    have := stOk_rd hok
    exact ⟨s.rd.toNat, by omega, by omega, by omega⟩
  have HRD := Lib.hid hq.symm
  have HRO := Lib.hid (show roundB (q : Int) = true by simp [roundB]; omega)
  have hqn : s.rd.toNat = q := by omega
  have hn1 : 1 ≤ n := by have := (stOk_neat hok).1; have := hRg.1; omega
  have HLN := Lib.hid hRg.1
  obtain ⟨N, hN⟩ : ∃ N, N = w.heap.size := ⟨_, rfl⟩
  have hN1 : w.heap.size ≤ N := by omega
  have hNw : N ≤ w.heap.size := by omega
  have HN := Lib.hid hN
  have hMW : M ≤ W.heap.size := by omega
  replace hbb : Below N w W := hbb.mono (by omega)
  have hV1 := hV0.below hbb (by have := hV0.lt; omega)
  have lV := hV0.lt
  replace hRg : RgU M X W b n m s.rs := ⟨hRg, by omega⟩
  have hti : Till M T W W := .refl _ _ _
  obtain ⟨M1, hMe⟩ : ∃ M1, M1 = W.heap.size := ⟨_, rfl⟩
  have hM1 : M1 ≤ W.heap.size := by omega
  have hM1X : X < M1 := by omega
  unfold sC at hX
  clear hN hV0 hMe hok hq
  show Calls Tryd.prog 56 #[.pointer (some ⟨X, 0, none⟩), .pointer (some ⟨V_, 0, none⟩)] W _
  cases hvb : valB v
  · have HVB := Lib.hid hvb
    have HCN := Lib.hid (show addC v s = none by simp [addC, hvb])
    clear hvb
    go_enter Tryd.func56, Tryd.ntmps56
    go_upto_region 1 with fail
    go_cut [5] (fun s5 W' => Below N w W' ∧ Till M T W W' ∧ s5 = .bool false)
    case first =>
      refine wp_region2 (fun w w' => Below w.heap.size w w') (fun _ _ h => h.size) (fun L W' => Below N w W' ∧ BoxAt W' X #[.int .i64 s.rd, .int .i64 s.mo, .slice (some ⟨b, 0, none⟩) n m, .int .i64 s.fi, .int .i64 s.la] 28 ∧ RgU M X W' b n m s.rs ∧ Till M T W W' ∧ BoxAt W' V_ #[.int .i64 v] 2 ∧ M1 ≤ W'.heap.size) (arNR s X b n m V_ N M1 q v) arNK arNS (by kernel_rfl) (by kernel_rfl) ?_ ?_ ?_
        (.grow rfl ?_ <| .grow rfl ?_ <| .grow rfl ?_ <| .grow rfl ?_ <| .grow rfl ?_ <| .grow rfl ?_ <| .grow rfl ?_ <| .grow rfl ?_ <| .grow rfl ?_ <| .make rfl ?_ <| .store rfl ?_ <| .grow rfl ?_ <| .nil) ?_
      · intro j σ τ w h hR
        match j, h, hR with
        | 0, h, hR => exact (h 0 (List.mem_singleton.2 rfl)).symm.trans hR
        | 1, h, hR => exact (h 1 (List.mem_singleton.2 rfl)).symm.trans hR
        | 2, h, hR => exact (h 2 (List.mem_singleton.2 rfl)).symm.trans hR
        | 3, h, hR => exact (h 3 (List.mem_singleton.2 rfl)).symm.trans hR
        | 4, h, hR => exact (h 4 (List.mem_singleton.2 rfl)).symm.trans hR
        | 5, h, hR => exact (h 5 (List.mem_singleton.2 rfl)).symm.trans hR
        | 6, h, hR => exact (h 6 (List.mem_singleton.2 rfl)).symm.trans hR
        | 7, h, hR => exact (h 7 (List.mem_singleton.2 rfl)).symm.trans hR
        | 8, h, hR => exact (h 8 (List.mem_singleton.2 rfl)).symm.trans hR
        | 9, h, hR => obtain ⟨g, e, hp⟩ := hR; exact ⟨g, (h 9 (List.mem_singleton.2 rfl)).symm.trans e, hp⟩
        | 10, h, hR => obtain ⟨g, e, hp⟩ := hR; exact ⟨g, (h 9 (List.mem_singleton.2 rfl)).symm.trans e, hp⟩
        | 11, h, hR => exact (h 11 (List.mem_singleton.2 rfl)).symm.trans hR
        | _ + 12, _, _ => exact trivial
      · intro j σ w w' hb hR
        match j, hR with
        | 0, hR => exact hR
        | 1, hR => exact hR
        | 2, hR => exact hR
        | 3, hR => exact hR
        | 4, hR => exact hR
        | 5, hR => exact hR
        | 6, hR => exact hR
        | 7, hR => exact hR
        | 8, hR => exact hR
        | 9, hR => obtain ⟨g, e, hg, x0, x1, x2, x3, x4, hx⟩ := hR; exact ⟨g, e, hg, x0, x1, x2, x3, x4, hx.below hb hx.lt⟩
        | 10, hR => obtain ⟨g, e, hg, hx⟩ := hR; exact ⟨g, e, hg, hx.below hb hx.lt⟩
        | 11, hR => exact hR
        | _ + 12, _ => exact trivial
      · exact ⟨hbb.drew, hX, hRg, hti.drewN _, hV1, hM1⟩
      · -- 0: Op.move t0
        go_light
        intro L σ W' hcl hL hC hw
        clear hw
        have HC := Lib.hid hC
        clear hC
        clear hcl hL
        refine OpGoes.step fun K hK => ?_
        unfold OpGoes
        go_simp
        obtain ⟨hbb, hX, hRg, hti, hV1, hM1⟩ := HC.out
        exact hK _ _ ⟨⟨hbb, hX, hRg, hti, hV1, hM1⟩, rfl, Below.refl _ _⟩
      · -- 1: Op.nilCheck t7
        go_light
        intro L σ W' hcl hL hC hw
        have e0 : σ 0 = .pointer (some ⟨X, 0, none⟩) := hw 0 (by kernel_rfl)
        clear hw
        have HC := Lib.hid hC
        clear hC
        clear hcl hL
        refine OpGoes.step fun K hK => ?_
        unfold OpGoes
        go_simp
        obtain ⟨hbb, hX, hRg, hti, hV1, hM1⟩ := HC.out
        exact hK _ _ ⟨⟨hbb, hX, hRg, hti, hV1, hM1⟩, rfl, Below.refl _ _⟩
      · -- 2: Op.fieldAddr 28 t8 0
        go_light
        intro L σ W' hcl hL hC hw
        have e1 : σ 1 = .pointer (some ⟨X, 0, none⟩) := hw 1 (by kernel_rfl)
        clear hw
        have HC := Lib.hid hC
        clear hC
        clear hcl hL
        refine OpGoes.step fun K hK => ?_
        unfold OpGoes
        go_simp
        obtain ⟨hbb, hX, hRg, hti, hV1, hM1⟩ := HC.out
        exact hK _ _ ⟨⟨hbb, hX, hRg, hti, hV1, hM1⟩, rfl, Below.refl _ _⟩
      · -- 3: Op.load 2 t9
        go_light
        intro L σ W' hcl hL hC hw
        have e2 : σ 2 = .pointer (some ⟨X, 0, none⟩) := hw 2 (by kernel_rfl)
        clear hw
        have HC := Lib.hid hC
        obtain ⟨hbb, hX, hRg, hti, hV1, hM1⟩ := hC
        have kX := hX.cell
        clear hcl hL
        clear hbb hX hRg hti hV1 hM1
        refine OpGoes.step fun K hK => ?_
        unfold OpGoes
        go_simp
        obtain ⟨hbb, hX, hRg, hti, hV1, hM1⟩ := HC.out
        exact hK _ _ ⟨⟨hbb, hX, hRg, hti, hV1, hM1⟩, rfl, Below.refl _ _⟩
      · -- 4: Op.load 2 t1
        go_light
        intro L σ W' hcl hL hC hw
        clear hw
        have HC := Lib.hid hC
        obtain ⟨hbb, hX, hRg, hti, hV1, hM1⟩ := hC
        have kV := hV1.cell
        clear hcl hL
        clear hbb hX hRg hti hV1 hM1
        refine OpGoes.step fun K hK => ?_
        unfold OpGoes
        go_simp
        obtain ⟨hbb, hX, hRg, hti, hV1, hM1⟩ := HC.out
        exact hK _ _ ⟨⟨hbb, hX, hRg, hti, hV1, hM1⟩, rfl, Below.refl _ _⟩
      · -- 5: Op.call { value (Operand.func 57), args := #[t10, t11], argTypes := #[2, 2] }
        go_light
        intro L σ W' hcl hL hC hw
        have e3 : σ 3 = .int .i64 s.rd := hw 3 (by kernel_rfl)
        have e4 : σ 4 = .int .i64 v := hw 4 (by kernel_rfl)
        clear hw
        have HC := Lib.hid hC
        clear hC
        clear hcl hL
        refine OpGoes.step fun K hK => ?_
        unfold OpGoes
        go_simp
        obtain ⟨hbb, hX, hRg, hti, hV1, hM1⟩ := HC.out
        refine ((HRD.out ▸ iseeded_no2 q v _ HRO.out hq8 HVB.out : Calls Tryd.prog 57 #[.int .i64 s.rd, .int .i64 v] _ _)).mono ?_
        rintro e w1 ⟨rfl, hb1⟩
        exact ⟨_, rfl, hK _ _ ⟨⟨bstep hbb (Nat.le_trans hNw hbb.size) hb1, hX.below hb1 hX.lt, hRg.below hb1, hti.trans (.of_below hb1 (Nat.le_trans hMW hti.size)), hV1.below hb1 hV1.lt, Nat.le_trans hM1 hb1.size⟩, rfl, hb1⟩⟩
      · -- 6: Op.move t12
        go_light
        intro L σ W' hcl hL hC hw
        have e5 : σ 5 = .tuple #[.agg #[.int .i64 0, .int .i64 0, .bool false, .int .i64 0, .slice none 0 0], .bool false] := hw 5 (by kernel_rfl)
        clear hw
        have HC := Lib.hid hC
        clear hC
        clear hcl hL
        refine OpGoes.step fun K hK => ?_
        unfold OpGoes
        go_simp
        obtain ⟨hbb, hX, hRg, hti, hV1, hM1⟩ := HC.out
        exact hK _ _ ⟨⟨hbb, hX, hRg, hti, hV1, hM1⟩, rfl, Below.refl _ _⟩
      · -- 7: Op.extract t6 0
        go_light
        intro L σ W' hcl hL hC hw
        have e6 : σ 6 = .tuple #[.agg #[.int .i64 0, .int .i64 0, .bool false, .int .i64 0, .slice none 0 0], .bool false] := hw 6 (by kernel_rfl)
        clear hw
        have HC := Lib.hid hC
        clear hC
        clear hcl hL
        refine OpGoes.step fun K hK => ?_
        unfold OpGoes
        go_simp
        obtain ⟨hbb, hX, hRg, hti, hV1, hM1⟩ := HC.out
        exact hK _ _ ⟨⟨hbb, hX, hRg, hti, hV1, hM1⟩, rfl, Below.refl _ _⟩
      · -- 8: Op.extract t6 1
        go_light
        intro L σ W' hcl hL hC hw
        have e6 : σ 6 = .tuple #[.agg #[.int .i64 0, .int .i64 0, .bool false, .int .i64 0, .slice none 0 0], .bool false] := hw 6 (by kernel_rfl)
        clear hw
        have HC := Lib.hid hC
        clear hC
        clear hcl hL
        refine OpGoes.step fun K hK => ?_
        unfold OpGoes
        go_simp
        obtain ⟨hbb, hX, hRg, hti, hV1, hM1⟩ := HC.out
        exact hK _ _ ⟨⟨hbb, hX, hRg, hti, hV1, hM1⟩, rfl, Below.refl _ _⟩
      · -- 9: Op.alloc 55
        go_light
        intro L σ W' hcl hL hC hw
        clear hw
        have HC := Lib.hid hC
        clear hC
        clear hcl hL
        refine OpGoes.step fun K hK => ?_
        unfold OpGoes
        go_simp
        obtain ⟨hbb, hX, hRg, hti, hV1, hM1⟩ := HC.out
        have hb1 : Below W'.heap.size W' (W'.alloc (.cells #[.int .i64 0, .int .i64 0, .bool false, .int .i64 0, .slice none 0 0] 55)) := (Below.refl _ _).alloc (Nat.le_refl _) _
        exact hK _ _ ⟨⟨bstep hbb (Nat.le_trans hNw hbb.size) hb1, hX.below hb1 hX.lt, hRg.below hb1, hti.trans (.of_below hb1 (Nat.le_trans hMW hti.size)), hV1.below hb1 hV1.lt, Nat.le_trans hM1 hb1.size⟩, ⟨_, rfl, hM1, _, _, _, _, _, BoxAt.new _ _ _⟩, hb1, rfl, by simp⟩
      · -- 10: Op.store 55 t4 t13
        go_light
        intro L σ W' hcl hL hC hw hne
        have e7 : σ 7 = .agg #[.int .i64 0, .int .i64 0, .bool false, .int .i64 0, .slice none 0 0] := hw 7 (by kernel_rfl)
        obtain ⟨g9, e9, hg9, x0, x1, x2, x3, x4, hbox9⟩ : ∃ g9, σ 9 = .pointer (some ⟨g9, 0, none⟩) ∧ M1 ≤ g9 ∧ ∃ x0 x1 x2 x3 x4, BoxAt W' g9 #[x0, x1, x2, x3, x4] 55 := hw 9 (by kernel_rfl)
        clear hw hne
        have HC := Lib.hid hC
        clear hC
        clear hcl hL
        have kc_ := hbox9.cell
        have kf_ := hbox9.frozen
        refine OpGoes.step fun K hK => ?_
        unfold OpGoes
        go_simp
        obtain ⟨hbb, hX, hRg, hti, hV1, hM1⟩ := HC.out
        have hset := sets_all (us := [.int .i64 0, .int .i64 0, .bool false, .int .i64 0, .slice none 0 0]) hbox9 rfl
        refine hK undef (setCells W' g9 0 [.int .i64 0, .int .i64 0, .bool false, .int .i64 0, .slice none 0 0]) ⟨⟨(Below.setCells (by omega) [.int .i64 0, .int .i64 0, .bool false, .int .i64 0, .slice none 0 0] 0 hbb), (BoxAt.sets_ne [.int .i64 0, .int .i64 0, .bool false, .int .i64 0, .slice none 0 0] 0 hX (by omega)), (RgU.sets hRg (by omega) [.int .i64 0, .int .i64 0, .bool false, .int .i64 0, .slice none 0 0] 0), (Till.sets hti (.inl (by omega)) [.int .i64 0, .int .i64 0, .bool false, .int .i64 0, .slice none 0 0] 0), (BoxAt.sets_ne [.int .i64 0, .int .i64 0, .bool false, .int .i64 0, .slice none 0 0] 0 hV1 (by omega)), (size_sts hM1 [.int .i64 0, .int .i64 0, .bool false, .int .i64 0, .slice none 0 0] 0)⟩, ⟨g9, e9, hg9, hset⟩, Nat.le_of_eq (sets_size _ _ _).symm, fun j hj hn hR => ?_⟩
        match j, hj, hn, hR with
        | 0, _, _, hR => exact (show σ 0 = .pointer (some ⟨X, 0, none⟩) from hR)
        | 1, _, _, hR => exact (show σ 1 = .pointer (some ⟨X, 0, none⟩) from hR)
        | 2, _, _, hR => exact (show σ 2 = .pointer (some ⟨X, 0, none⟩) from hR)
        | 3, _, _, hR => exact (show σ 3 = .int .i64 s.rd from hR)
        | 4, _, _, hR => exact (show σ 4 = .int .i64 v from hR)
        | 5, _, _, hR => exact (show σ 5 = .tuple #[.agg #[.int .i64 0, .int .i64 0, .bool false, .int .i64 0, .slice none 0 0], .bool false] from hR)
        | 6, _, _, hR => exact (show σ 6 = .tuple #[.agg #[.int .i64 0, .int .i64 0, .bool false, .int .i64 0, .slice none 0 0], .bool false] from hR)
        | 7, _, _, hR => exact (show σ 7 = .agg #[.int .i64 0, .int .i64 0, .bool false, .int .i64 0, .slice none 0 0] from hR)
        | 8, _, _, hR => exact (show σ 8 = .bool false from hR)
        | 9, _, _, _ => exact ⟨g9, e9, hg9, _, _, _, _, _, hset⟩
        | 10, hj, _, _ => exact absurd rfl hj
        | 11, _, _, hR => exact (show σ 11 = .bool false from hR)
        | _ + 12, _, _, _ => exact trivial
      · -- 11: Op.assign t14
        go_light
        intro L σ W' hcl hL hC hw
        have e8 : σ 8 = .bool false := hw 8 (by kernel_rfl)
        clear hw
        have HC := Lib.hid hC
        clear hC
        clear hcl hL
        refine OpGoes.step fun K hK => ?_
        unfold OpGoes
        go_simp
        obtain ⟨hbb, hX, hRg, hti, hV1, hM1⟩ := HC.out
        exact hK _ _ ⟨⟨hbb, hX, hRg, hti, hV1, hM1⟩, rfl, Below.refl _ _⟩
      · intro σ L W' hall hC hR
        obtain ⟨hbb, hX, hRg, hti, hV1, hM1⟩ := hC
        obtain ⟨g9, e9, hg10, s10⟩ : ∃ g9, σ 9 = .pointer (some ⟨g9, 0, none⟩) ∧ M1 ≤ g9 ∧ BoxAt W' g9 #[.int .i64 0, .int .i64 0, .bool false, .int .i64 0, .slice none 0 0] 55 := hR 10 (by decide)
        have e11 : σ 11 = .bool false := hR 11 (by decide)
        clear hR
        simp only [lexAll]
        go_simp
        go_step
        go_meet
        exact ⟨hbb, hti, rfl⟩

    case rest =>
      clear hbb hti hX hRg hV1 hM1
      obtain ⟨hbb, hti, rfl⟩ := hcut
      obtain ⟨hg0, hq0, hg1, cq, tq, hQ0⟩ := hSV.keep (W' := wc) (fun j hj => hbb.block j (by omega))
      go_wp2
      go_ret
      exact .mkNo HCN.out hti hNV (by omega) ⟨cq, tq, hQ0⟩
  · have HVB := Lib.hid hvb
    have HCY := Lib.hid (show addC v s = some { s with rs := s.rs ++ [Rg.seed q v] } by simp [addC, hvb, hqn])
    clear hvb
    go_enter Tryd.func56, Tryd.ntmps56
    go_upto_region 1 with fail
    go_cut [4, 5] (fun s4 s5 W' => Below N w W' ∧ BoxAt W' X #[.int .i64 s.rd, .int .i64 s.mo, .slice (some ⟨b, 0, none⟩) n m, .int .i64 s.fi, .int .i64 s.la] 28 ∧ RgU M X W' b n m s.rs ∧ Till M T W W' ∧ ∃ g9 gr cr, s4 = .pointer (some ⟨g9, 0, none⟩) ∧ M1 ≤ g9 ∧ BoxAt W' g9 #[.int .i64 0, .int .i64 1, .bool false, .int .i64 ((-1)), .slice (some ⟨gr, 0, none⟩) q cr] 55 ∧ PlsO M1 W' gr q cr (seeded q v) ∧ s5 = .bool true)
    case first =>
      refine wp_region2 (fun w w' => Below w.heap.size w w') (fun _ _ h => h.size) (fun L W' => Below N w W' ∧ BoxAt W' X #[.int .i64 s.rd, .int .i64 s.mo, .slice (some ⟨b, 0, none⟩) n m, .int .i64 s.fi, .int .i64 s.la] 28 ∧ RgU M X W' b n m s.rs ∧ Till M T W W' ∧ BoxAt W' V_ #[.int .i64 v] 2 ∧ M1 ≤ W'.heap.size) (arYR s X b n m V_ N M1 q v) arYK arYS (by kernel_rfl) (by kernel_rfl) ?_ ?_ ?_
        (.grow rfl ?_ <| .grow rfl ?_ <| .grow rfl ?_ <| .grow rfl ?_ <| .grow rfl ?_ <| .grow rfl ?_ <| .grow rfl ?_ <| .grow rfl ?_ <| .grow rfl ?_ <| .make rfl ?_ <| .store rfl ?_ <| .grow rfl ?_ <| .nil) ?_
      · intro j σ τ w h hR
        match j, h, hR with
        | 0, h, hR => exact (h 0 (List.mem_singleton.2 rfl)).symm.trans hR
        | 1, h, hR => exact (h 1 (List.mem_singleton.2 rfl)).symm.trans hR
        | 2, h, hR => exact (h 2 (List.mem_singleton.2 rfl)).symm.trans hR
        | 3, h, hR => exact (h 3 (List.mem_singleton.2 rfl)).symm.trans hR
        | 4, h, hR => exact (h 4 (List.mem_singleton.2 rfl)).symm.trans hR
        | 5, h, hR => obtain ⟨gr, cr, e, hp⟩ := hR; exact ⟨gr, cr, (h 5 (List.mem_singleton.2 rfl)).symm.trans e, hp⟩
        | 6, h, hR => obtain ⟨gr, cr, e, hp⟩ := hR; exact ⟨gr, cr, (h 6 (List.mem_singleton.2 rfl)).symm.trans e, hp⟩
        | 7, h, hR => obtain ⟨gr, cr, e, hp⟩ := hR; exact ⟨gr, cr, (h 7 (List.mem_singleton.2 rfl)).symm.trans e, hp⟩
        | 8, h, hR => exact (h 8 (List.mem_singleton.2 rfl)).symm.trans hR
        | 9, h, hR => obtain ⟨g, e, hp⟩ := hR; exact ⟨g, (h 9 (List.mem_singleton.2 rfl)).symm.trans e, hp⟩
        | 10, h, hR => obtain ⟨g, gr, cr, e, hp⟩ := hR; exact ⟨g, gr, cr, (h 9 (List.mem_singleton.2 rfl)).symm.trans e, hp⟩
        | 11, h, hR => exact (h 11 (List.mem_singleton.2 rfl)).symm.trans hR
        | _ + 12, _, _ => exact trivial
      · intro j σ w w' hb hR
        match j, hR with
        | 0, hR => exact hR
        | 1, hR => exact hR
        | 2, hR => exact hR
        | 3, hR => exact hR
        | 4, hR => exact hR
        | 5, hR => obtain ⟨gr, cr, e, hp⟩ := hR; exact ⟨gr, cr, e, hp.below hb⟩
        | 6, hR => obtain ⟨gr, cr, e, hp⟩ := hR; exact ⟨gr, cr, e, hp.below hb⟩
        | 7, hR => obtain ⟨gr, cr, e, hp⟩ := hR; exact ⟨gr, cr, e, hp.below hb⟩
        | 8, hR => exact hR
        | 9, hR => obtain ⟨g, e, hg, x0, x1, x2, x3, x4, hx⟩ := hR; exact ⟨g, e, hg, x0, x1, x2, x3, x4, hx.below hb hx.lt⟩
        | 10, hR => obtain ⟨g, gr, cr, e, hg, hx, hp⟩ := hR; exact ⟨g, gr, cr, e, hg, hx.below hb hx.lt, hp.below hb⟩
        | 11, hR => exact hR
        | _ + 12, _ => exact trivial
      · exact ⟨hbb.drew, hX, hRg, hti.drewN _, hV1, hM1⟩
      · -- 0: Op.move t0
        go_light
        intro L σ W' hcl hL hC hw
        clear hw
        have HC := Lib.hid hC
        clear hC
        clear hcl hL
        refine OpGoes.step fun K hK => ?_
        unfold OpGoes
        go_simp
        obtain ⟨hbb, hX, hRg, hti, hV1, hM1⟩ := HC.out
        exact hK _ _ ⟨⟨hbb, hX, hRg, hti, hV1, hM1⟩, rfl, Below.refl _ _⟩
      · -- 1: Op.nilCheck t7
        go_light
        intro L σ W' hcl hL hC hw
        have e0 : σ 0 = .pointer (some ⟨X, 0, none⟩) := hw 0 (by kernel_rfl)
        clear hw
        have HC := Lib.hid hC
        clear hC
        clear hcl hL
        refine OpGoes.step fun K hK => ?_
        unfold OpGoes
        go_simp
        obtain ⟨hbb, hX, hRg, hti, hV1, hM1⟩ := HC.out
        exact hK _ _ ⟨⟨hbb, hX, hRg, hti, hV1, hM1⟩, rfl, Below.refl _ _⟩
      · -- 2: Op.fieldAddr 28 t8 0
        go_light
        intro L σ W' hcl hL hC hw
        have e1 : σ 1 = .pointer (some ⟨X, 0, none⟩) := hw 1 (by kernel_rfl)
        clear hw
        have HC := Lib.hid hC
        clear hC
        clear hcl hL
        refine OpGoes.step fun K hK => ?_
        unfold OpGoes
        go_simp
        obtain ⟨hbb, hX, hRg, hti, hV1, hM1⟩ := HC.out
        exact hK _ _ ⟨⟨hbb, hX, hRg, hti, hV1, hM1⟩, rfl, Below.refl _ _⟩
      · -- 3: Op.load 2 t9
        go_light
        intro L σ W' hcl hL hC hw
        have e2 : σ 2 = .pointer (some ⟨X, 0, none⟩) := hw 2 (by kernel_rfl)
        clear hw
        have HC := Lib.hid hC
        obtain ⟨hbb, hX, hRg, hti, hV1, hM1⟩ := hC
        have kX := hX.cell
        clear hcl hL
        clear hbb hX hRg hti hV1 hM1
        refine OpGoes.step fun K hK => ?_
        unfold OpGoes
        go_simp
        obtain ⟨hbb, hX, hRg, hti, hV1, hM1⟩ := HC.out
        exact hK _ _ ⟨⟨hbb, hX, hRg, hti, hV1, hM1⟩, rfl, Below.refl _ _⟩
      · -- 4: Op.load 2 t1
        go_light
        intro L σ W' hcl hL hC hw
        clear hw
        have HC := Lib.hid hC
        obtain ⟨hbb, hX, hRg, hti, hV1, hM1⟩ := hC
        have kV := hV1.cell
        clear hcl hL
        clear hbb hX hRg hti hV1 hM1
        refine OpGoes.step fun K hK => ?_
        unfold OpGoes
        go_simp
        obtain ⟨hbb, hX, hRg, hti, hV1, hM1⟩ := HC.out
        exact hK _ _ ⟨⟨hbb, hX, hRg, hti, hV1, hM1⟩, rfl, Below.refl _ _⟩
      · -- 5: Op.call { value (Operand.func 57), args := #[t10, t11], argTypes := #[2, 2] }
        go_light
        intro L σ W' hcl hL hC hw
        have e3 : σ 3 = .int .i64 s.rd := hw 3 (by kernel_rfl)
        have e4 : σ 4 = .int .i64 v := hw 4 (by kernel_rfl)
        clear hw
        have HC := Lib.hid hC
        clear hC
        clear hcl hL
        refine OpGoes.step fun K hK => ?_
        unfold OpGoes
        go_simp
        obtain ⟨hbb, hX, hRg, hti, hV1, hM1⟩ := HC.out
        refine ((HRD.out ▸ iseeded_yes q v _ HRO.out (by omega) hq8 HVB.out : Calls Tryd.prog 57 #[.int .i64 s.rd, .int .i64 v] _ _)).mono ?_
        rintro e w1 ⟨gr, cr, rfl, hO5, hb1⟩
        exact ⟨_, rfl, hK _ _ ⟨⟨bstep hbb (Nat.le_trans hNw hbb.size) hb1, hX.below hb1 hX.lt, hRg.below hb1, hti.trans (.of_below hb1 (Nat.le_trans hMW hti.size)), hV1.below hb1 hV1.lt, Nat.le_trans hM1 hb1.size⟩, ⟨gr, cr, rfl, hO5.mono hM1⟩, hb1⟩⟩
      · -- 6: Op.move t12
        go_light
        intro L σ W' hcl hL hC hw
        obtain ⟨gr, cr, e5, hp5⟩ : ∃ (gr cr : Nat), σ 5 = .tuple #[.agg #[.int .i64 0, .int .i64 1, .bool false, .int .i64 ((-1)), .slice (some ⟨gr, 0, none⟩) q cr], .bool true] ∧ PlsO M1 W' gr q cr (seeded q v) := hw 5 (by kernel_rfl)
        clear hw
        have HC := Lib.hid hC
        clear hC
        clear hcl hL
        refine OpGoes.step fun K hK => ?_
        unfold OpGoes
        go_simp
        obtain ⟨hbb, hX, hRg, hti, hV1, hM1⟩ := HC.out
        exact hK _ _ ⟨⟨hbb, hX, hRg, hti, hV1, hM1⟩, ⟨gr, cr, rfl, hp5⟩, Below.refl _ _⟩
      · -- 7: Op.extract t6 0
        go_light
        intro L σ W' hcl hL hC hw
        obtain ⟨gr, cr, e6, hp6⟩ : ∃ (gr cr : Nat), σ 6 = .tuple #[.agg #[.int .i64 0, .int .i64 1, .bool false, .int .i64 ((-1)), .slice (some ⟨gr, 0, none⟩) q cr], .bool true] ∧ PlsO M1 W' gr q cr (seeded q v) := hw 6 (by kernel_rfl)
        clear hw
        have HC := Lib.hid hC
        clear hC
        clear hcl hL
        refine OpGoes.step fun K hK => ?_
        unfold OpGoes
        go_simp
        obtain ⟨hbb, hX, hRg, hti, hV1, hM1⟩ := HC.out
        exact hK _ _ ⟨⟨hbb, hX, hRg, hti, hV1, hM1⟩, ⟨gr, cr, rfl, hp6⟩, Below.refl _ _⟩
      · -- 8: Op.extract t6 1
        go_light
        intro L σ W' hcl hL hC hw
        obtain ⟨gr, cr, e6, hp6⟩ : ∃ (gr cr : Nat), σ 6 = .tuple #[.agg #[.int .i64 0, .int .i64 1, .bool false, .int .i64 ((-1)), .slice (some ⟨gr, 0, none⟩) q cr], .bool true] ∧ PlsO M1 W' gr q cr (seeded q v) := hw 6 (by kernel_rfl)
        clear hw
        have HC := Lib.hid hC
        clear hC
        clear hcl hL
        refine OpGoes.step fun K hK => ?_
        unfold OpGoes
        go_simp
        obtain ⟨hbb, hX, hRg, hti, hV1, hM1⟩ := HC.out
        exact hK _ _ ⟨⟨hbb, hX, hRg, hti, hV1, hM1⟩, rfl, Below.refl _ _⟩
      · -- 9: Op.alloc 55
        go_light
        intro L σ W' hcl hL hC hw
        clear hw
        have HC := Lib.hid hC
        clear hC
        clear hcl hL
        refine OpGoes.step fun K hK => ?_
        unfold OpGoes
        go_simp
        obtain ⟨hbb, hX, hRg, hti, hV1, hM1⟩ := HC.out
        have hb1 : Below W'.heap.size W' (W'.alloc (.cells #[.int .i64 0, .int .i64 0, .bool false, .int .i64 0, .slice none 0 0] 55)) := (Below.refl _ _).alloc (Nat.le_refl _) _
        exact hK _ _ ⟨⟨bstep hbb (Nat.le_trans hNw hbb.size) hb1, hX.below hb1 hX.lt, hRg.below hb1, hti.trans (.of_below hb1 (Nat.le_trans hMW hti.size)), hV1.below hb1 hV1.lt, Nat.le_trans hM1 hb1.size⟩, ⟨_, rfl, hM1, _, _, _, _, _, BoxAt.new _ _ _⟩, hb1, rfl, by simp⟩
      · -- 10: Op.store 55 t4 t13
        go_light
        intro L σ W' hcl hL hC hw hne
        obtain ⟨gr, cr, e7, hp7⟩ : ∃ (gr cr : Nat), σ 7 = .agg #[.int .i64 0, .int .i64 1, .bool false, .int .i64 ((-1)), .slice (some ⟨gr, 0, none⟩) q cr] ∧ PlsO M1 W' gr q cr (seeded q v) := hw 7 (by kernel_rfl)
        obtain ⟨g9, e9, hg9, x0, x1, x2, x3, x4, hbox9⟩ : ∃ g9, σ 9 = .pointer (some ⟨g9, 0, none⟩) ∧ M1 ≤ g9 ∧ ∃ x0 x1 x2 x3 x4, BoxAt W' g9 #[x0, x1, x2, x3, x4] 55 := hw 9 (by kernel_rfl)
        clear hw hne
        have HC := Lib.hid hC
        clear hC
        clear hcl hL
        have kc_ := hbox9.cell
        have kf_ := hbox9.frozen
        refine OpGoes.step fun K hK => ?_
        unfold OpGoes
        go_simp
        obtain ⟨hbb, hX, hRg, hti, hV1, hM1⟩ := HC.out
        have hset := sets_all (us := [.int .i64 0, .int .i64 1, .bool false, .int .i64 ((-1)), .slice (some ⟨gr, 0, none⟩) q cr]) hbox9 rfl
        refine hK undef (setCells W' g9 0 [.int .i64 0, .int .i64 1, .bool false, .int .i64 ((-1)), .slice (some ⟨gr, 0, none⟩) q cr]) ⟨⟨(Below.setCells (by omega) [.int .i64 0, .int .i64 1, .bool false, .int .i64 ((-1)), .slice (some ⟨gr, 0, none⟩) q cr] 0 hbb), (BoxAt.sets_ne [.int .i64 0, .int .i64 1, .bool false, .int .i64 ((-1)), .slice (some ⟨gr, 0, none⟩) q cr] 0 hX (by omega)), (RgU.sets hRg (by omega) [.int .i64 0, .int .i64 1, .bool false, .int .i64 ((-1)), .slice (some ⟨gr, 0, none⟩) q cr] 0), (Till.sets hti (.inl (by omega)) [.int .i64 0, .int .i64 1, .bool false, .int .i64 ((-1)), .slice (some ⟨gr, 0, none⟩) q cr] 0), (BoxAt.sets_ne [.int .i64 0, .int .i64 1, .bool false, .int .i64 ((-1)), .slice (some ⟨gr, 0, none⟩) q cr] 0 hV1 (by omega)), (size_sts hM1 [.int .i64 0, .int .i64 1, .bool false, .int .i64 ((-1)), .slice (some ⟨gr, 0, none⟩) q cr] 0)⟩, ⟨g9, gr, cr, e9, hg9, hset, (PlsO.setsT hp7 hbox9 (by decide) [.int .i64 0, .int .i64 1, .bool false, .int .i64 ((-1)), .slice (some ⟨gr, 0, none⟩) q cr] 0)⟩, Nat.le_of_eq (sets_size _ _ _).symm, fun j hj hn hR => ?_⟩
        match j, hj, hn, hR with
        | 0, _, _, hR => exact (show σ 0 = .pointer (some ⟨X, 0, none⟩) from hR)
        | 1, _, _, hR => exact (show σ 1 = .pointer (some ⟨X, 0, none⟩) from hR)
        | 2, _, _, hR => exact (show σ 2 = .pointer (some ⟨X, 0, none⟩) from hR)
        | 3, _, _, hR => exact (show σ 3 = .int .i64 s.rd from hR)
        | 4, _, _, hR => exact (show σ 4 = .int .i64 v from hR)
        | 5, _, _, hR => obtain ⟨gr_x, cr_x, e, hp⟩ := hR; exact ⟨gr_x, cr_x, e, (PlsO.setsT hp hbox9 (by decide) [.int .i64 0, .int .i64 1, .bool false, .int .i64 ((-1)), .slice (some ⟨gr, 0, none⟩) q cr] 0)⟩
        | 6, _, _, hR => obtain ⟨gr_x, cr_x, e, hp⟩ := hR; exact ⟨gr_x, cr_x, e, (PlsO.setsT hp hbox9 (by decide) [.int .i64 0, .int .i64 1, .bool false, .int .i64 ((-1)), .slice (some ⟨gr, 0, none⟩) q cr] 0)⟩
        | 7, _, _, hR => obtain ⟨gr_x, cr_x, e, hp⟩ := hR; exact ⟨gr_x, cr_x, e, (PlsO.setsT hp hbox9 (by decide) [.int .i64 0, .int .i64 1, .bool false, .int .i64 ((-1)), .slice (some ⟨gr, 0, none⟩) q cr] 0)⟩
        | 8, _, _, hR => exact (show σ 8 = .bool true from hR)
        | 9, _, _, _ => exact ⟨g9, e9, hg9, _, _, _, _, _, hset⟩
        | 10, hj, _, _ => exact absurd rfl hj
        | 11, _, _, hR => exact (show σ 11 = .bool true from hR)
        | _ + 12, _, _, _ => exact trivial
      · -- 11: Op.assign t14
        go_light
        intro L σ W' hcl hL hC hw
        have e8 : σ 8 = .bool true := hw 8 (by kernel_rfl)
        clear hw
        have HC := Lib.hid hC
        clear hC
        clear hcl hL
        refine OpGoes.step fun K hK => ?_
        unfold OpGoes
        go_simp
        obtain ⟨hbb, hX, hRg, hti, hV1, hM1⟩ := HC.out
        exact hK _ _ ⟨⟨hbb, hX, hRg, hti, hV1, hM1⟩, rfl, Below.refl _ _⟩
      · intro σ L W' hall hC hR
        obtain ⟨hbb, hX, hRg, hti, hV1, hM1⟩ := hC
        obtain ⟨g9, gr, cr, e9, hg10, s10, hp10⟩ : ∃ (g9 : Nat) (gr cr : Nat), σ 9 = .pointer (some ⟨g9, 0, none⟩) ∧ M1 ≤ g9 ∧ BoxAt W' g9 #[.int .i64 0, .int .i64 1, .bool false, .int .i64 ((-1)), .slice (some ⟨gr, 0, none⟩) q cr] 55 ∧ PlsO M1 W' gr q cr (seeded q v) := hR 10 (by decide)
        have e11 : σ 11 = .bool true := hR 11 (by decide)
        clear hR
        simp only [lexAll]
        go_simp
        go_step
        go_meet
        exact ⟨hbb, hX, hRg, hti, g9, gr, cr, rfl, hg10, s10, hp10, rfl⟩

    case rest =>
      clear hbb hti hX hRg hV1 hM1
      obtain ⟨hbb, hX, hRg, hti, g9, gr, cr, rfl, hg9, hr9, hP, rfl⟩ := hcut
      obtain ⟨b', rows, e, hbX, ho, hD⟩ := hRg.1.2 (by omega)
      obtain rfl : b = b' := by injection e with e; injection e
      have hMb := ho.2.1
      have hrl : rows.length = n := ho.1
      have hO := Own.own ho Rw.cs_len
      have hPg := hP.ge
      obtain ⟨M2, hMe⟩ : ∃ M2, M2 = wc.heap.size := ⟨_, rfl⟩
      have hM2 : M2 ≤ wc.heap.size := by omega
      have l9 := hr9.lt
      have lg := Own.lt hP
      have hM2X : X < M2 ∧ g9 < M2 ∧ gr < M2 := by omega
      clear hMe ho e hRg
      go_upto_region 4 with fail
      refine wp_region2 (fun w w' => Below w.heap.size w w') (fun _ _ h => h.size) (fun L W' => Below N w W' ∧ Till M T W W' ∧ DOf M X W' rows s.rs ∧ PlsO M1 W' gr q cr (seeded q v) ∧ BoxAt W' g9 #[.int .i64 0, .int .i64 1, .bool false, .int .i64 ((-1)), .slice (some ⟨gr, 0, none⟩) q cr] 55 ∧ M2 ≤ W'.heap.size ∧ (L 7 = false → W'.ownsRow M 55 5 (.slice (some ⟨b, 0, none⟩) n m) n (rows.flatMap Rw.cs)) ∧ (∃ x0, BoxAt W' X #[.int .i64 s.rd, .int .i64 s.mo, x0, .int .i64 s.fi, .int .i64 s.la] 28) ∧ (L 10 = false → BoxAt W' X #[.int .i64 s.rd, .int .i64 s.mo, .slice (some ⟨b, 0, none⟩) n m, .int .i64 s.fi, .int .i64 s.la] 28)) (arD4R s X b n m g9 gr q cr N M M1 M2 v rows) arD4K arD4S (by kernel_rfl) (by kernel_rfl) ?_ ?_ ?_
        (.grow rfl ?_ <| .grow rfl ?_ <| .grow rfl ?_ <| .grow rfl ?_ <| .grow rfl ?_ <| .grow rfl ?_ <| .grow rfl ?_ <| .store rfl ?_ <| .grow rfl ?_ <| .grow rfl ?_ <| .store rfl ?_ <| .nil) ?_
      · intro j σ τ w h hR
        match j, h, hR with
        | 0, h, hR => exact (h 0 (List.mem_singleton.2 rfl)).symm.trans hR
        | 1, h, hR => exact (h 1 (List.mem_singleton.2 rfl)).symm.trans hR
        | 2, h, hR => exact (h 2 (List.mem_singleton.2 rfl)).symm.trans hR
        | 3, h, hR => exact (h 3 (List.mem_singleton.2 rfl)).symm.trans hR
        | 4, h, hR => exact (h 4 (List.mem_singleton.2 rfl)).symm.trans hR
        | 5, h, hR => exact (h 5 (List.mem_singleton.2 rfl)).symm.trans hR
        | 6, h, hR => obtain ⟨g2, e, hp⟩ := hR; exact ⟨g2, (h 6 (List.mem_singleton.2 rfl)).symm.trans e, hp⟩
        | 7, h, hR => obtain ⟨bb, cc, e, hp⟩ := hR; exact ⟨bb, cc, (h 7 (List.mem_singleton.2 rfl)).symm.trans e, hp⟩
        | 8, h, hR => exact (h 8 (List.mem_singleton.2 rfl)).symm.trans hR
        | 9, h, hR => exact (h 9 (List.mem_singleton.2 rfl)).symm.trans hR
        | 10, _, hR => exact hR
        | _ + 11, _, _ => exact trivial
      · intro j σ w w' hb hR
        match j, hR with
        | 0, hR => exact hR
        | 1, hR => exact hR
        | 2, hR => exact hR
        | 3, hR => exact hR
        | 4, hR => exact hR
        | 5, hR => exact hR
        | 6, hR => obtain ⟨g2, e, hp⟩ := hR; exact ⟨g2, e, ⟨hp.1.below hb hp.1.lt, hp.2⟩⟩
        | 7, hR => obtain ⟨bb, cc, e, hp⟩ := hR; exact ⟨bb, cc, e, ⟨own_keep hp.1 hb, hp.2⟩⟩
        | 8, hR => exact hR
        | 9, hR => exact hR
        | 10, hR => obtain ⟨bb, cc, hx, hp⟩ := hR; exact ⟨bb, cc, hx.below hb hx.lt, ⟨own_keep hp.1 hb, hp.2⟩⟩
        | _ + 11, _ => exact trivial
      · exact ⟨hbb.drew, hti.drewN _, hD, hP, hr9, hM2, fun _ => hO, ⟨_, hX⟩, fun _ => hX⟩
      · -- 0: Op.move t0
        go_light
        intro L σ W' hcl hL hC hw
        clear hw
        have HC := Lib.hid hC
        clear hC
        clear hcl hL
        refine OpGoes.step fun K hK => ?_
        unfold OpGoes
        go_simp
        obtain ⟨hbb, hti, hD, hP, hr9, hM2, hO, ⟨hX_x0, hX⟩, hX_o⟩ := HC.out
        exact hK _ _ ⟨⟨hbb, hti, hD, hP, hr9, hM2, fun h => (hO (by simpa [upd] using h)), ⟨_, hX⟩, fun h => hX_o (by simpa [upd] using h)⟩, rfl, Below.refl _ _⟩
      · -- 1: Op.move t0
        go_light
        intro L σ W' hcl hL hC hw
        clear hw
        have HC := Lib.hid hC
        clear hC
        clear hcl hL
        refine OpGoes.step fun K hK => ?_
        unfold OpGoes
        go_simp
        obtain ⟨hbb, hti, hD, hP, hr9, hM2, hO, ⟨hX_x0, hX⟩, hX_o⟩ := HC.out
        exact hK _ _ ⟨⟨hbb, hti, hD, hP, hr9, hM2, fun h => (hO (by simpa [upd] using h)), ⟨_, hX⟩, fun h => hX_o (by simpa [upd] using h)⟩, rfl, Below.refl _ _⟩
      · -- 2: Op.nilCheck t19
        go_light
        intro L σ W' hcl hL hC hw
        have e1 : σ 1 = .pointer (some ⟨X, 0, none⟩) := hw 1 (by kernel_rfl)
        clear hw
        have HC := Lib.hid hC
        clear hC
        clear hcl hL
        refine OpGoes.step fun K hK => ?_
        unfold OpGoes
        go_simp
        obtain ⟨hbb, hti, hD, hP, hr9, hM2, hO, ⟨hX_x0, hX⟩, hX_o⟩ := HC.out
        exact hK _ _ ⟨⟨hbb, hti, hD, hP, hr9, hM2, fun h => (hO (by simpa [upd] using h)), ⟨_, hX⟩, fun h => hX_o (by simpa [upd] using h)⟩, rfl, Below.refl _ _⟩
      · -- 3: Op.fieldAddr 28 t20 2
        go_light
        intro L σ W' hcl hL hC hw
        have e2 : σ 2 = .pointer (some ⟨X, 0, none⟩) := hw 2 (by kernel_rfl)
        clear hw
        have HC := Lib.hid hC
        clear hC
        clear hcl hL
        refine OpGoes.step fun K hK => ?_
        unfold OpGoes
        go_simp
        obtain ⟨hbb, hti, hD, hP, hr9, hM2, hO, ⟨hX_x0, hX⟩, hX_o⟩ := HC.out
        exact hK _ _ ⟨⟨hbb, hti, hD, hP, hr9, hM2, fun h => (hO (by simpa [upd] using h)), ⟨_, hX⟩, fun h => hX_o (by simpa [upd] using h)⟩, rfl, Below.refl _ _⟩
      · -- 4: Op.load 26 t21
        go_light
        intro L σ W' hcl hL hC hw
        have e3 : σ 3 = .pointer (some ⟨X, 2, none⟩) := hw 3 (by kernel_rfl)
        clear hw
        have HC := Lib.hid hC
        obtain ⟨hbb, hti, hD, hP, hr9, hM2, hO, ⟨hX_x0, hX⟩, hX_o⟩ := hC
        have kX := (hX_o (hcl.not (j := 10) (k := 7) (by kernel_rfl) (hcl.not (j := 7) (k := 4) (by kernel_rfl) hL))).cell
        clear hcl hL
        clear hbb hti hD hP hr9 hM2 hO hX hX_o
        refine OpGoes.step fun K hK => ?_
        unfold OpGoes
        go_simp
        obtain ⟨hbb, hti, hD, hP, hr9, hM2, hO, ⟨hX_x0, hX⟩, hX_o⟩ := HC.out
        exact hK _ _ ⟨⟨hbb, hti, hD, hP, hr9, hM2, fun h => (hO (by simpa [upd] using h)), ⟨_, hX⟩, fun h => hX_o (by simpa [upd] using h)⟩, rfl, Below.refl _ _⟩
      · -- 5: Op.load 55 t4
        go_light
        intro L σ W' hcl hL hC hw
        clear hw
        have HC := Lib.hid hC
        obtain ⟨hbb, hti, hD, hP, hr9, hM2, hO, ⟨hX_x0, hX⟩, hX_o⟩ := hC
        have kr := hr9.cell
        clear hcl hL
        clear hbb hti hD hP hr9 hM2 hO hX hX_o
        refine OpGoes.step fun K hK => ?_
        unfold OpGoes
        go_simp
        obtain ⟨hbb, hti, hD, hP, hr9, hM2, hO, ⟨hX_x0, hX⟩, hX_o⟩ := HC.out
        exact hK _ _ ⟨⟨hbb, hti, hD, hP, hr9, hM2, fun h => (hO (by simpa [upd] using h)), ⟨_, hX⟩, fun h => hX_o (by simpa [upd] using h)⟩, rfl, Below.refl _ _⟩
      · -- 6: Op.buildSlice 26 1 #[(0, t23)]
        go_light
        intro L σ W' hcl hL hC hw
        have e5 : σ 5 = .agg #[.int .i64 0, .int .i64 1, .bool false, .int .i64 ((-1)), .slice (some ⟨gr, 0, none⟩) q cr] := hw 5 (by kernel_rfl)
        clear hw
        have HC := Lib.hid hC
        clear hC
        clear hcl hL
        refine OpGoes.step fun K hK => ?_
        unfold OpGoes
        go_simp
        obtain ⟨hbb, hti, hD, hP, hr9, hM2, hO, ⟨hX_x0, hX⟩, hX_o⟩ := HC.out
        have hb1 : Below W'.heap.size W' (W'.alloc (.cells #[.int .i64 0, .int .i64 1, .bool false, .int .i64 ((-1)), .slice (some ⟨gr, 0, none⟩) q cr] 55)) := (Below.refl _ _).alloc (Nat.le_refl _) _
        exact hK _ _ ⟨⟨bstep hbb (Nat.le_trans hNw hbb.size) hb1, hti.trans (.of_below hb1 (Nat.le_trans hMW hti.size)), hD.keep (fun g _ _ _ hg => hb1.block g hg.lt), hP.below hb1, hr9.below hb1 hr9.lt, Nat.le_trans hM2 hb1.size, fun h => own_keep (hO (by simpa [upd] using h)) hb1, ⟨_, hX.below hb1 hX.lt⟩, fun h => (hX_o (by simpa [upd] using h)).below hb1 (hX_o (by simpa [upd] using h)).lt⟩, ⟨W'.heap.size, rfl, BoxAt.new _ _ _, hM2⟩, hb1⟩
      · -- 7: Op.call { builtin append, args := #[t22, t24], argTypes := #[26, 26] }
        go_light
        intro L σ W' hcl hL hC hw hne
        have e4 : σ 4 = .slice (some ⟨b, 0, none⟩) n m := hw 4 (by kernel_rfl)
        obtain ⟨g2, e6, hp6⟩ : ∃ (g2 : Nat), σ 6 = .slice (some ⟨g2, 0, none⟩) 1 1 ∧ BoxAt W' g2 #[.int .i64 0, .int .i64 1, .bool false, .int .i64 ((-1)), .slice (some ⟨gr, 0, none⟩) q cr] 55 ∧ M2 ≤ g2 := hw 6 (by kernel_rfl)
        clear hw hne
        obtain ⟨hbb, hti, hD, hP, hr9, hM2, hO, ⟨hX_x0, hX⟩, hX_o⟩ := hC
        have hO9 := (hO hL)
        have ll := hO9.lt b rfl
        clear hcl hL
        refine OpGoes.append_own rfl (.tmp 22) (.tmp 24) _ rfl M 55 i0 _ 5 56 Tryd.underlying26 HI.out HZ0.out HZ1.out HZ2.out rfl (by omega) (.slice (some ⟨b, 0, none⟩) n m) n _ (by go_simp) hO9 ⟨g2, 0, none⟩ 1 1 [.int .i64 0, .int .i64 1, .bool false, .int .i64 ((-1)), .slice (some ⟨gr, 0, none⟩) q cr] (by go_simp) rfl (news_box hp6.1) (by intro u hu; simp at hu; rcases hu with rfl | rfl | rfl | rfl | rfl <;> rfl) (by unfold maxLen; omega) (by omega) (by omega) ?_
        intro v' w' hO' hg hat
        obtain ⟨bb, cc, rfl, hP'⟩ := Own.of_row (f := Rw.cs) (l := rows ++ [(⟨0, 1, false, -1, some ⟨gr, 0, none⟩, q, cr⟩ : Rw)]) (n := n + 1) (by rw [List.flatMap_append]; exact hO') (by simp [hrl]) (by omega)
        have hbb2 : bb = b ∨ M2 ≤ bb := by
          rcases hat with e | e
          · have := own_blk (e.symm.trans rfl : (Value.slice (some ⟨b, 0, none⟩) n m).ownBlock = some bb); omega
          · have := own_blk (n := n + 1) (c := cc) e; omega
        refine ⟨⟨Below.grown hbb hg (Nat.le_trans hNw hbb.size) (fun k hk => by have := own_blk hk; omega), hti.grown hg (fun k hk => by have := own_blk hk; omega) (by omega), hD.grown hO9 hg, hP.grown hg (by intro e; have := own_blk e.symm; omega), hr9.grown2 hg (fun e => by have := own_blk e; omega), Nat.le_trans hM2 hg.size, fun h => absurd h (by simp [upd]), ⟨_, hX.grown2 hg (fun e => by have := own_blk e; omega)⟩, fun h => (hX_o (by simpa [upd] using h)).grown2 hg (fun e => by have := own_blk e; omega)⟩, ⟨bb, cc, rfl, hP'.own Rw.cs_len, hbb2⟩, hg.size, fun j hj hn hR => ?_⟩
        match j, hj, hn, hR with
        | 0, _, _, hR => exact (show σ 0 = .pointer (some ⟨X, 0, none⟩) from hR)
        | 1, _, _, hR => exact (show σ 1 = .pointer (some ⟨X, 0, none⟩) from hR)
        | 2, _, _, hR => exact (show σ 2 = .pointer (some ⟨X, 0, none⟩) from hR)
        | 3, _, _, hR => exact (show σ 3 = .pointer (some ⟨X, 2, none⟩) from hR)
        | 4, _, _, hR => exact (show σ 4 = .slice (some ⟨b, 0, none⟩) n m from hR)
        | 5, _, _, hR => exact (show σ 5 = .agg #[.int .i64 0, .int .i64 1, .bool false, .int .i64 ((-1)), .slice (some ⟨gr, 0, none⟩) q cr] from hR)
        | 6, _, _, hR => obtain ⟨g2, e, hp⟩ := hR; exact ⟨g2, e, ⟨hp.1.grown2 hg (fun e => by have := own_blk e; have := hp.2; omega), hp.2⟩⟩
        | 7, hj, _, _ => exact absurd rfl hj
        | 8, _, _, hR => exact (show σ 8 = .pointer (some ⟨X, 0, none⟩) from hR)
        | 9, _, _, hR => exact (show σ 9 = .pointer (some ⟨X, 2, none⟩) from hR)
        | 10, _, hn, _ => exact absurd (hn.symm.trans (show waits _ _ _ = true by kernel_rfl)) (by decide)
        | _ + 11, _, _, _ => exact trivial
      · -- 8: Op.nilCheck t18
        go_light
        intro L σ W' hcl hL hC hw
        have e0 : σ 0 = .pointer (some ⟨X, 0, none⟩) := hw 0 (by kernel_rfl)
        clear hw
        have HC := Lib.hid hC
        clear hC
        clear hcl hL
        refine OpGoes.step fun K hK => ?_
        unfold OpGoes
        go_simp
        obtain ⟨hbb, hti, hD, hP, hr9, hM2, hO, ⟨hX_x0, hX⟩, hX_o⟩ := HC.out
        exact hK _ _ ⟨⟨hbb, hti, hD, hP, hr9, hM2, fun h => (hO (by simpa [upd] using h)), ⟨_, hX⟩, fun h => hX_o (by simpa [upd] using h)⟩, rfl, Below.refl _ _⟩
      · -- 9: Op.fieldAddr 28 t26 2
        go_light
        intro L σ W' hcl hL hC hw
        have e8 : σ 8 = .pointer (some ⟨X, 0, none⟩) := hw 8 (by kernel_rfl)
        clear hw
        have HC := Lib.hid hC
        clear hC
        clear hcl hL
        refine OpGoes.step fun K hK => ?_
        unfold OpGoes
        go_simp
        obtain ⟨hbb, hti, hD, hP, hr9, hM2, hO, ⟨hX_x0, hX⟩, hX_o⟩ := HC.out
        exact hK _ _ ⟨⟨hbb, hti, hD, hP, hr9, hM2, fun h => (hO (by simpa [upd] using h)), ⟨_, hX⟩, fun h => hX_o (by simpa [upd] using h)⟩, rfl, Below.refl _ _⟩
      · -- 10: Op.store 26 t27 t25
        go_light
        intro L σ W' hcl hL hC hw hne
        obtain ⟨bb, cc, e7, hp7⟩ : ∃ (bb cc : Nat), σ 7 = .slice (some ⟨bb, 0, none⟩) (n + 1) cc ∧ W'.ownsRow M 55 5 (.slice (some ⟨bb, 0, none⟩) (n + 1) cc) (n + 1) ((rows ++ [(⟨0, 1, false, -1, some ⟨gr, 0, none⟩, q, cr⟩ : Rw)]).flatMap Rw.cs) ∧ (bb = b ∨ M2 ≤ bb) := hw 7 (by kernel_rfl)
        have e9 : σ 9 = .pointer (some ⟨X, 2, none⟩) := hw 9 (by kernel_rfl)
        clear hw hne
        have HC := Lib.hid hC
        obtain ⟨hbb, hti, hD, hP, hr9, hM2, hO, ⟨hX_x0, hX⟩, hX_o⟩ := hC
        clear hcl hL
        have kc_ := hX.cell
        have kf_ := hX.frozen
        clear hbb hti hD hP hr9 hM2 hO hX hX_o
        refine OpGoes.step fun K hK => ?_
        unfold OpGoes
        go_simp
        obtain ⟨hbb, hti, hD, hP, hr9, hM2, hO, ⟨hX_x0, hX⟩, hX_o⟩ := HC.out
        have hset := (hX.set 2 (.slice (some ⟨bb, 0, none⟩) (n + 1) cc))
        simp only [List.setIfInBounds_toArray, List.set_cons_zero, List.set_cons_succ] at hset
        refine hK _ _ ⟨⟨(hbb.setCell (by dsimp only; omega) _), (hti.set (.inl (by omega)) _ _), (DOf.keep hD (fun g' _ _ _ hg => Below.heap_setCell _ ⟨X, 2, none⟩ _ g' (box_ne hg hX (by decide)))), (hP.set_ne (by omega) _ _), (hr9.set_ne (by omega) _ _), (size_st hM2), fun h => (own_st (hO (by simpa [upd] using h)) (by omega) _ _), ⟨_, hset⟩, fun h => absurd h (by simp [upd])⟩, ⟨bb, cc, hset, (⟨own_st hp7.1 (by have := hp7.2; omega) _ _, hp7.2⟩)⟩, by simp, fun j hj hn hR => ?_⟩
        match j, hj, hn, hR with
        | 0, _, _, hR => exact (show σ 0 = .pointer (some ⟨X, 0, none⟩) from hR)
        | 1, _, _, hR => exact (show σ 1 = .pointer (some ⟨X, 0, none⟩) from hR)
        | 2, _, _, hR => exact (show σ 2 = .pointer (some ⟨X, 0, none⟩) from hR)
        | 3, _, _, hR => exact (show σ 3 = .pointer (some ⟨X, 2, none⟩) from hR)
        | 4, _, _, hR => exact (show σ 4 = .slice (some ⟨b, 0, none⟩) n m from hR)
        | 5, _, _, hR => exact (show σ 5 = .agg #[.int .i64 0, .int .i64 1, .bool false, .int .i64 ((-1)), .slice (some ⟨gr, 0, none⟩) q cr] from hR)
        | 6, _, _, hR => obtain ⟨g2_x, e, hp⟩ := hR; exact ⟨g2_x, e, (⟨hp.1.set_ne (by have := hp.2; omega) _ _, hp.2⟩)⟩
        | 7, _, _, hR => obtain ⟨bb_x, cc_x, e, hp⟩ := hR; exact ⟨bb_x, cc_x, e, (⟨own_st hp.1 (by have := hp.2; omega) _ _, hp.2⟩)⟩
        | 8, _, _, hR => exact (show σ 8 = .pointer (some ⟨X, 0, none⟩) from hR)
        | 9, _, _, hR => exact (show σ 9 = .pointer (some ⟨X, 2, none⟩) from hR)
        | 10, hj, _, _ => exact absurd rfl hj
        | _ + 11, _, _, _ => exact trivial
      · intro σ L W' hall hC hR
        obtain ⟨hbb, hti, hD, hP, hr9, hM2, hO, ⟨hX_x0, hX⟩, hX_o⟩ := hC
        obtain ⟨bb, cc, s10, hp10⟩ : ∃ (bb cc : Nat), BoxAt W' X #[.int .i64 s.rd, .int .i64 s.mo, .slice (some ⟨bb, 0, none⟩) (n + 1) cc, .int .i64 s.fi, .int .i64 s.la] 28 ∧ W'.ownsRow M 55 5 (.slice (some ⟨bb, 0, none⟩) (n + 1) cc) (n + 1) ((rows ++ [(⟨0, 1, false, -1, some ⟨gr, 0, none⟩, q, cr⟩ : Rw)]).flatMap Rw.cs) ∧ (bb = b ∨ M2 ≤ bb) := hR 10 (by decide)
        clear hR
        simp only [lexAll]
        go_simp
        go_step
        go_wp2
        go_ret
        have hR' := Own.of_own hp10.1 (by simp [hrl])
        have hbM : M ≤ bb := by omega
        have lbb := Own.lt hR'
        have hPl := Own.lt hP
        refine .mkYes (t := { s with rs := s.rs ++ [Rg.seed q v] }) (b := bb) (n := n + 1) (cap := cc) HCY.out hti trivial s10 ⟨by simp [HLN.out], fun _ => ⟨bb, rows ++ [(⟨0, 1, false, -1, some ⟨gr, 0, none⟩, q, cr⟩ : Rw)], rfl, lbb, hR', ?_⟩⟩
        refine DOf.snoc (M := M1) (a := (⟨0, 1, false, -1, some ⟨gr, 0, none⟩, q, cr⟩ : Rw)) (r := Rg.seed q v) ((hD.app [Rg.seed q v]).mono (Nat.le_refl _) (by omega)) ?_ ⟨rfl, rfl, rfl, rfl, gr, rfl, hPl, hP⟩ (by omega) (by omega)
        rw [hrl, ← HLN.out, List.getElem?_append_right (Nat.le_refl _)]
        simp


theorem mild_add {s t : St} {v : Int} (hok : stOk s = true) (ht : addC v s = some t) : Mild t := by
  have hn := stOk_neat hok
  have hrd := stOk_rd hok
  unfold addC at ht
  split at ht
  · injection ht with ht
    subst ht
    refine ⟨by simp; have := hn.2.1; omega, fun r hr => ?_⟩
    rcases List.mem_append.1 hr with hr | hr
    · have := (hn.2.2 r hr).2; omega
    · obtain rfl := List.mem_singleton.1 hr
      simp [Rg.seed, fresh_len]; omega
  · cases ht

end Go.Proofs.YtbpjhdoldodlnaaDoor

/-
  The walk of StoreOk of the model.
-/
import Derived.Test.YtbdgkmamieagfaaStoreA
import Derived.Test.YtbdgkmamieagfaaGrow2
import Derived.Deep.Light
namespace Go.Proofs.Ytbdgkmamieagfaa
set_option linter.unusedSimpArgs false
set_option linter.unusedVariables false
open Go.RowKit
set_option linter.unusedVariables false
attribute [local go_sem] OpUpon
attribute [local go_sem ↓] Go.wp_at_zero Go.wp_at_succ

/-- The five cells of the ring at i. -/
def RgC (w : World) (b i : Nat) (r : Rg) (A : Option Addr) (n cap : Nat) : Prop :=
  w.cell? ⟨b, i * 5, none⟩ = some (.int .i64 r.h) ∧ w.cell? ⟨b, i * 5 + 1, none⟩ = some (.int .i64 r.t) ∧ w.cell? ⟨b, i * 5 + 2, none⟩ = some (.bool r.c) ∧ w.cell? ⟨b, i * 5 + 3, none⟩ = some (.int .i64 r.x) ∧ w.cell? ⟨b, i * 5 + 4, none⟩ = some (.slice A n cap)
theorem RgC.below {w w' : World} {b i : Nat} {r : Rg} {A : Option Addr} {n cap : Nat} (h : RgC w b i r A n cap) (hb : Below w.heap.size w w') : RgC w' b i r A n cap :=
  have hl : b < w.heap.size := World.block_lt_of_cell? w _ h.1
  ⟨(hb.cell (p := ⟨b, _, none⟩) hl).trans h.1, (hb.cell (p := ⟨b, _, none⟩) hl).trans h.2.1, (hb.cell (p := ⟨b, _, none⟩) hl).trans h.2.2.1, (hb.cell (p := ⟨b, _, none⟩) hl).trans h.2.2.2.1, (hb.cell (p := ⟨b, _, none⟩) hl).trans h.2.2.2.2⟩

theorem sringOk_is (r : Rg) (A : Option Addr) (n cap : Nat) (z : Bool) (w : World) (hl : PlsR 0 w A n r.ps) (hn : n ≤ 1048576) (h : r.ok = z) :
    Calls Try.prog 15 #[.agg #[.int .i64 r.h, .int .i64 r.t, .bool r.c, .int .i64 r.x, .slice A n cap]] w (RetBelow (.bool z) w) := by
  rw [← h]; exact sringOk_any r.h r.t r.c r.x A n cap r.ps w hl hn

def stAR (s : St) (SB b i n cap : Nat) (r : Rg) (A' : Option Addr) (n' cap' : Nat) (j : Nat) (σ : Nat → Value) (w : World) : Prop :=
  match j with
  | 0 => σ 0 = .pointer (some ⟨SB, 2, none⟩)
  | 1 => σ 1 = .slice (some ⟨b, 0, none⟩) n cap
  | 2 => σ 2 = .int .i64 ((i : Int))
  | 3 => σ 3 = .pointer (some ⟨b, i * 5, none⟩)
  | 4 => σ 4 = .agg #[.int .i64 r.h, .int .i64 r.t, .bool r.c, .int .i64 r.x, .slice A' n' cap']
  | 5 => σ 5 = .bool false
  | 6 => σ 6 = .bool true
  | 7 => σ 7 = .bool true
  | 8 => σ 8 = undef
  | 9 => σ 9 = undef
  | 10 => σ 10 = undef
  | 11 => σ 11 = undef
  | 12 => σ 12 = undef
  | 13 => σ 13 = undef
  | 14 => σ 14 = undef
  | 15 => σ 15 = undef
  | 16 => σ 16 = undef
  | 17 => σ 17 = undef
  | 18 => σ 18 = .bool true
  | 19 => σ 19 = .bool true
  | 20 => σ 20 = undef
  | 21 => σ 21 = undef
  | 22 => σ 22 = undef
  | 23 => σ 23 = undef
  | 24 => σ 24 = undef
  | 25 => σ 25 = undef
  | 26 => σ 26 = undef
  | 27 => σ 27 = undef
  | 28 => σ 28 = .bool true
  | _ => True

def stAS (j : Nat) : List Nat := [[0], [1], [2], [3], [4], [5], [6], [7], [8], [9], [10], [11], [12], [13], [14], [15], [16], [17], [18], [19], [20], [21], [22], [23], [24], [25], [26], [27], [28]].getD j [j]
def stAK (j : Nat) : Nat := [0, 0, 0, 0, 0, 0, 0, 0, 0, 0, 0, 0, 0, 0, 0, 0, 0, 0, 0, 0, 0, 0, 0, 0, 0, 0, 0, 0, 0].getD j 0

def stBR (s : St) (SB b i n cap : Nat) (r : Rg) (A' : Option Addr) (n' cap' : Nat) (j : Nat) (σ : Nat → Value) (w : World) : Prop :=
  match j with
  | 0 => σ 0 = .pointer (some ⟨SB, 2, none⟩)
  | 1 => σ 1 = .slice (some ⟨b, 0, none⟩) n cap
  | 2 => σ 2 = .int .i64 ((i : Int))
  | 3 => σ 3 = .pointer (some ⟨b, i * 5, none⟩)
  | 4 => σ 4 = .agg #[.int .i64 r.h, .int .i64 r.t, .bool r.c, .int .i64 r.x, .slice A' n' cap']
  | 5 => σ 5 = .bool true
  | 6 => σ 6 = .bool false
  | 7 => σ 7 = .bool false
  | 8 => σ 8 = .pointer (some ⟨SB, 2, none⟩)
  | 9 => σ 9 = .slice (some ⟨b, 0, none⟩) n cap
  | 10 => σ 10 = .int .i64 ((i : Int))
  | 11 => σ 11 = .pointer (some ⟨b, i * 5, none⟩)
  | 12 => σ 12 = .pointer (some ⟨b, i * 5 + 4, none⟩)
  | 13 => σ 13 = .slice A' n' cap'
  | 14 => σ 14 = .int .i64 ((n' : Int))
  | 15 => σ 15 = .pointer (some ⟨SB, 0, none⟩)
  | 16 => σ 16 = .int .i64 s.rd
  | 17 => σ 17 = .bool true
  | 18 => σ 18 = .bool true
  | 19 => σ 19 = .bool true
  | 20 => σ 20 = undef
  | 21 => σ 21 = undef
  | 22 => σ 22 = undef
  | 23 => σ 23 = undef
  | 24 => σ 24 = undef
  | 25 => σ 25 = undef
  | 26 => σ 26 = undef
  | 27 => σ 27 = undef
  | 28 => σ 28 = .bool true
  | _ => True

def stBS (j : Nat) : List Nat := [[0], [1], [2], [3], [4], [5], [6], [7], [8], [9], [10], [11], [12], [13], [14], [15], [16], [17], [18], [19], [20], [21], [22], [23], [24], [25], [26], [27], [28]].getD j [j]
def stBK (j : Nat) : Nat := [0, 0, 0, 0, 0, 0, 0, 0, 0, 0, 0, 0, 0, 0, 0, 0, 0, 0, 0, 0, 0, 0, 0, 0, 0, 0, 0, 0, 0].getD j 0

def stCR (s : St) (SB b i n cap : Nat) (r : Rg) (A' : Option Addr) (n' cap' : Nat) (j : Nat) (σ : Nat → Value) (w : World) : Prop :=
  match j with
  | 0 => σ 0 = .pointer (some ⟨SB, 2, none⟩)
  | 1 => σ 1 = .slice (some ⟨b, 0, none⟩) n cap
  | 2 => σ 2 = .int .i64 ((i : Int))
  | 3 => σ 3 = .pointer (some ⟨b, i * 5, none⟩)
  | 4 => σ 4 = .agg #[.int .i64 r.h, .int .i64 r.t, .bool r.c, .int .i64 r.x, .slice A' n' cap']
  | 5 => σ 5 = .bool true
  | 6 => σ 6 = .bool false
  | 7 => σ 7 = .bool false
  | 8 => σ 8 = .pointer (some ⟨SB, 2, none⟩)
  | 9 => σ 9 = .slice (some ⟨b, 0, none⟩) n cap
  | 10 => σ 10 = .int .i64 ((i : Int))
  | 11 => σ 11 = .pointer (some ⟨b, i * 5, none⟩)
  | 12 => σ 12 = .pointer (some ⟨b, i * 5 + 4, none⟩)
  | 13 => σ 13 = .slice A' n' cap'
  | 14 => σ 14 = .int .i64 ((n' : Int))
  | 15 => σ 15 = .pointer (some ⟨SB, 0, none⟩)
  | 16 => σ 16 = .int .i64 s.rd
  | 17 => σ 17 = .bool false
  | 18 => σ 18 = .bool false
  | 19 => σ 19 = .bool false
  | 20 => σ 20 = .pointer (some ⟨SB, 2, none⟩)
  | 21 => σ 21 = .slice (some ⟨b, 0, none⟩) n cap
  | 22 => σ 22 = .int .i64 ((i : Int))
  | 23 => σ 23 = .pointer (some ⟨b, i * 5, none⟩)
  | 24 => σ 24 = .pointer (some ⟨b, i * 5 + 3, none⟩)
  | 25 => σ 25 = .int .i64 r.x
  | 26 => σ 26 = .int .i64 ((n : Int))
  | 27 => σ 27 = .bool true
  | 28 => σ 28 = .bool true
  | _ => True

def stCS (j : Nat) : List Nat := [[0], [1], [2], [3], [4], [5], [6], [7], [8], [9], [10], [11], [12], [13], [14], [15], [16], [17], [18], [19], [20], [21], [22], [23], [24], [25], [26], [27], [28]].getD j [j]
def stCK (j : Nat) : Nat := [0, 0, 0, 0, 0, 0, 0, 0, 0, 0, 0, 0, 0, 0, 0, 0, 0, 0, 0, 0, 0, 0, 0, 0, 0, 0, 0, 0, 0].getD j 0

def stDR (s : St) (SB b i n cap : Nat) (r : Rg) (A' : Option Addr) (n' cap' : Nat) (j : Nat) (σ : Nat → Value) (w : World) : Prop :=
  match j with
  | 0 => σ 0 = .pointer (some ⟨SB, 2, none⟩)
  | 1 => σ 1 = .slice (some ⟨b, 0, none⟩) n cap
  | 2 => σ 2 = .int .i64 ((i : Int))
  | 3 => σ 3 = .pointer (some ⟨b, i * 5, none⟩)
  | 4 => σ 4 = .agg #[.int .i64 r.h, .int .i64 r.t, .bool r.c, .int .i64 r.x, .slice A' n' cap']
  | 5 => σ 5 = .bool true
  | 6 => σ 6 = .bool false
  | 7 => σ 7 = .bool false
  | 8 => σ 8 = .pointer (some ⟨SB, 2, none⟩)
  | 9 => σ 9 = .slice (some ⟨b, 0, none⟩) n cap
  | 10 => σ 10 = .int .i64 ((i : Int))
  | 11 => σ 11 = .pointer (some ⟨b, i * 5, none⟩)
  | 12 => σ 12 = .pointer (some ⟨b, i * 5 + 4, none⟩)
  | 13 => σ 13 = .slice A' n' cap'
  | 14 => σ 14 = .int .i64 ((n' : Int))
  | 15 => σ 15 = .pointer (some ⟨SB, 0, none⟩)
  | 16 => σ 16 = .int .i64 s.rd
  | 17 => σ 17 = .bool false
  | 18 => σ 18 = .bool false
  | 19 => σ 19 = .bool false
  | 20 => σ 20 = .pointer (some ⟨SB, 2, none⟩)
  | 21 => σ 21 = .slice (some ⟨b, 0, none⟩) n cap
  | 22 => σ 22 = .int .i64 ((i : Int))
  | 23 => σ 23 = .pointer (some ⟨b, i * 5, none⟩)
  | 24 => σ 24 = .pointer (some ⟨b, i * 5 + 3, none⟩)
  | 25 => σ 25 = .int .i64 r.x
  | 26 => σ 26 = .int .i64 ((n : Int))
  | 27 => σ 27 = .bool false
  | 28 => σ 28 = .bool false
  | _ => True

def stDS (j : Nat) : List Nat := [[0], [1], [2], [3], [4], [5], [6], [7], [8], [9], [10], [11], [12], [13], [14], [15], [16], [17], [18], [19], [20], [21], [22], [23], [24], [25], [26], [27], [28]].getD j [j]
def stDK (j : Nat) : Nat := [0, 0, 0, 0, 0, 0, 0, 0, 0, 0, 0, 0, 0, 0, 0, 0, 0, 0, 0, 0, 0, 0, 0, 0, 0, 0, 0, 0, 0].getD j 0

theorem stOk_head {s : St} (h : stHead s = false) : stOk s = false := by simp [stOk, h]
theorem stOk_ring {s : St} {i : Nat} {r : Rg} (hr : s.rs[i]? = some r) (h : inSt s.rd s.rs.length r = false) : stOk s = false := by
  have : s.rs.all (inSt s.rd s.rs.length) = false := by rw [List.all_eq_false]; exact ⟨r, List.mem_of_getElem? hr, by simp [h]⟩
  simp [stOk, this]
theorem stOk_chain {s : St} {i : Nat} (hi : i < s.rs.length) (h : (chain s.rs s.rs.length (i : Int)).isSome = false) : stOk s = false := by
  have : ((List.range s.rs.length).all fun (i : Nat) => (chain s.rs s.rs.length (i : Int)).isSome) = false := by rw [List.all_eq_false]; exact ⟨i, List.mem_range.2 hi, by rw [h]; simp⟩
  simp only [stOk, this, Bool.and_false]

set_option maxRecDepth 100000 in
set_option maxHeartbeats 2000000 in
theorem sstoreOk_any (s : St) (A : Option Addr) (n cap : Nat) (lo hi : Nat) (w : World) (hr0 : RgsW lo hi w A n cap s.rs) (hh : hi ≤ w.heap.size) (hm : n ≤ 1048576) (hpn0 : ∀ r ∈ s.rs, r.ps.length ≤ 1048576) :
    Calls Try.prog 79 #[stV s A n cap] w (RetBelow (.bool (stOk s)) w) := by
  have hlen := hr0.1
  have HL := Lib.hid hlen
  have HPN := Lib.hid hpn0; clear hpn0
  have HB0 := Lib.hid (fun o => (Below.refl w.heap.size w).alloc (Nat.le_refl _) o)
  unfold stV
  go_enter Try.func79, Try.ntmps79
  go_wp2_with fail
  refine (l1In_any _ _ _ _).mono ?_
  rintro e w' ⟨rfl, rfl⟩
  cases h1 : inB s.rd 2 8
  · go_wp2
    go_ret
    exact .mk (by rw [stOk_head (by simp [stHead, show roundB s.rd = false from h1])]; rfl) (HB0.out _)
  go_wp2_with fail
  refine (l1In_any _ _ _ _).mono ?_
  rintro e w' ⟨rfl, rfl⟩
  cases h2 : inB s.mo 1 16
  · go_wp2
    go_ret
    exact .mk (by rw [stOk_head (by simp [stHead, h2])]; rfl) (HB0.out _)
  go_wp2_with fail
  refine (l1In_any _ _ _ _).mono ?_
  rintro e w' ⟨rfl, rfl⟩
  cases h3 : inB n 1 s.mo
  · go_wp2
    go_ret
    exact .mk (by rw [stOk_head (by simp [stHead, HL.out, h3])]; rfl) (HB0.out _)
  have hn1 : 1 ≤ n ∧ n ≤ 16 := by simp [inB] at h2 h3; omega
  obtain ⟨hn1, hn16⟩ := hn1
  go_wp2_with fail
  refine (l1In_any _ _ _ _).mono ?_
  rintro e w' ⟨rfl, rfl⟩
  cases h4 : inB s.fi 0 ((n : Int) - 1)
  · go_wp2
    go_ret
    exact .mk (by rw [stOk_head (by simp [stHead, HL.out, h4])]; rfl) (HB0.out _)
  go_wp2_with fail
  refine (l1In_any _ _ _ _).mono ?_
  rintro e w' ⟨rfl, rfl⟩
  cases h5 : inB s.la 0 ((n : Int) - 1)
  · go_wp2
    go_ret
    exact .mk (by rw [stOk_head (by simp [stHead, HL.out, h5])]; rfl) (HB0.out _)
  have HH := Lib.hid (show stHead s = true by simp [stHead, HL.out, h3, h4, h5, h2, show roundB s.rd = true from h1])
  clear h1 h2 h3 h4 h5 hlen
  obtain ⟨b, rows, rfl, hbh, hro, hall⟩ := hr0.2 (by omega)
  clear rows hro hall
  go_wp2
  go_loopw [4] (fun s4 W => ∃ i : Nat, i ≤ n ∧ s4 = .int .i64 i ∧ Below w.heap.size w W ∧ BoxAt W w.heap.size #[.int .i64 s.rd, .int .i64 s.mo, .slice (some ⟨b, 0, none⟩) n cap, .int .i64 s.fi, .int .i64 s.la] 75 ∧ ∀ (j : Nat) r, j < i → s.rs[j]? = some r → inSt s.rd n r = true) (fun s4 _ => n - (intOf s4).toNat)
  case atStart => exact ⟨0, Nat.zero_le _, rfl, HB0.out _, BoxAt.new _ _ _, fun j r h => absurd h (by omega)⟩
  case round =>
    obtain ⟨i, hin, rfl, hB, hs, hal⟩ := hrel
    have HAL := Lib.hid hal; clear hal
    have ks := hs.cell
    by_cases hlt : i < n
    · obtain ⟨b', r, A', n', cap', hbe, hlb, hbh', hri, c0, c1, c2, c3, c4, hpw⟩ := (hr0.below hB hh).at_ hlt
      obtain rfl : b = b' := by injection hbe with hbe; injection hbe
      clear hbe
      have hpn : n' ≤ 1048576 := by rw [← hpw.1]; exact HPN.out r (List.mem_of_getElem? hri)
      have hp := hpw.r
      have HPL := Lib.hid hpw.1
      have HRI := Lib.hid hri
      have hc : RgC wr b i r A' n' cap' := ⟨c0, c1, c2, c3, c4⟩
      clear c0 c1 c2 c3 c4 hri hpw
      have g1 : (i : Int) < (n : Int) := by omega
      have g2 : (0 : Int) ≤ (i : Int) := by omega
      cases hok : r.ok
      · go_upto_region 7 with fail
        go_cut [77] (fun u77 W' => BoxAt W' w.heap.size #[.int .i64 s.rd, .int .i64 s.mo, .slice (some ⟨b, 0, none⟩) n cap, .int .i64 s.fi, .int .i64 s.la] 75 ∧ Below w.heap.size w W' ∧ u77 = .bool true)
        case first =>
          refine wp_region2 (fun w w' => Below w.heap.size w w') (fun _ _ h => h.size) (fun L W' => BoxAt W' w.heap.size #[.int .i64 s.rd, .int .i64 s.mo, .slice (some ⟨b, 0, none⟩) n cap, .int .i64 s.fi, .int .i64 s.la] 75 ∧ RgC W' b i r A' n' cap' ∧ PlsR 0 W' A' n' r.ps ∧ Below w.heap.size w W') (stAR s w.heap.size b i n cap r A' n' cap') stAK stAS (by kernel_rfl) (by kernel_rfl) ?_ ?_ ?_
            (.grow rfl ?_ <| .grow rfl ?_ <| .grow rfl ?_ <| .grow rfl ?_ <| .grow rfl ?_ <| .grow rfl ?_ <| .grow rfl ?_ <| .grow rfl ?_ <| .grow rfl ?_ <| .grow rfl ?_ <| .grow rfl ?_ <| .grow rfl ?_ <| .grow rfl ?_ <| .grow rfl ?_ <| .grow rfl ?_ <| .grow rfl ?_ <| .grow rfl ?_ <| .grow rfl ?_ <| .grow rfl ?_ <| .grow rfl ?_ <| .grow rfl ?_ <| .grow rfl ?_ <| .grow rfl ?_ <| .grow rfl ?_ <| .grow rfl ?_ <| .grow rfl ?_ <| .grow rfl ?_ <| .grow rfl ?_ <| .grow rfl ?_ <| .nil) ?_
          · intro j σ τ w h hR
            match j, h, hR with
            | 0, h, hR => exact (h 0 (List.mem_singleton.2 rfl)).symm.trans hR
            | 1, h, hR => exact (h 1 (List.mem_singleton.2 rfl)).symm.trans hR
            | 2, h, hR => exact (h 2 (List.mem_singleton.2 rfl)).symm.trans hR
            | 3, h, hR => exact (h 3 (List.mem_singleton.2 rfl)).symm.trans hR
            | 4, h, hR => exact (h 4 (List.mem_singleton.2 rfl)).symm.trans hR
            | 5, h, hR => exact (h 5 (List.mem_singleton.2 rfl)).symm.trans hR
            | 6, h, hR => exact (h 6 (List.mem_singleton.2 rfl)).symm.trans hR
            | 7, h, hR => exact (h 7 (List.mem_singleton.2 rfl)).symm.trans hR
            | 8, h, hR => exact (h 8 (List.mem_singleton.2 rfl)).symm.trans hR
            | 9, h, hR => exact (h 9 (List.mem_singleton.2 rfl)).symm.trans hR
            | 10, h, hR => exact (h 10 (List.mem_singleton.2 rfl)).symm.trans hR
            | 11, h, hR => exact (h 11 (List.mem_singleton.2 rfl)).symm.trans hR
            | 12, h, hR => exact (h 12 (List.mem_singleton.2 rfl)).symm.trans hR
            | 13, h, hR => exact (h 13 (List.mem_singleton.2 rfl)).symm.trans hR
            | 14, h, hR => exact (h 14 (List.mem_singleton.2 rfl)).symm.trans hR
            | 15, h, hR => exact (h 15 (List.mem_singleton.2 rfl)).symm.trans hR
            | 16, h, hR => exact (h 16 (List.mem_singleton.2 rfl)).symm.trans hR
            | 17, h, hR => exact (h 17 (List.mem_singleton.2 rfl)).symm.trans hR
            | 18, h, hR => exact (h 18 (List.mem_singleton.2 rfl)).symm.trans hR
            | 19, h, hR => exact (h 19 (List.mem_singleton.2 rfl)).symm.trans hR
            | 20, h, hR => exact (h 20 (List.mem_singleton.2 rfl)).symm.trans hR
            | 21, h, hR => exact (h 21 (List.mem_singleton.2 rfl)).symm.trans hR
            | 22, h, hR => exact (h 22 (List.mem_singleton.2 rfl)).symm.trans hR
            | 23, h, hR => exact (h 23 (List.mem_singleton.2 rfl)).symm.trans hR
            | 24, h, hR => exact (h 24 (List.mem_singleton.2 rfl)).symm.trans hR
            | 25, h, hR => exact (h 25 (List.mem_singleton.2 rfl)).symm.trans hR
            | 26, h, hR => exact (h 26 (List.mem_singleton.2 rfl)).symm.trans hR
            | 27, h, hR => exact (h 27 (List.mem_singleton.2 rfl)).symm.trans hR
            | 28, h, hR => exact (h 28 (List.mem_singleton.2 rfl)).symm.trans hR
            | _ + 29, _, _ => exact trivial
          · intro j σ w w' hb hR
            match j, hR with
            | 0, hR => exact hR
            | 1, hR => exact hR
            | 2, hR => exact hR
            | 3, hR => exact hR
            | 4, hR => exact hR
            | 5, hR => exact hR
            | 6, hR => exact hR
            | 7, hR => exact hR
            | 8, hR => exact hR
            | 9, hR => exact hR
            | 10, hR => exact hR
            | 11, hR => exact hR
            | 12, hR => exact hR
            | 13, hR => exact hR
            | 14, hR => exact hR
            | 15, hR => exact hR
            | 16, hR => exact hR
            | 17, hR => exact hR
            | 18, hR => exact hR
            | 19, hR => exact hR
            | 20, hR => exact hR
            | 21, hR => exact hR
            | 22, hR => exact hR
            | 23, hR => exact hR
            | 24, hR => exact hR
            | 25, hR => exact hR
            | 26, hR => exact hR
            | 27, hR => exact hR
            | 28, hR => exact hR
            | _ + 29, _ => exact trivial
          · exact ⟨hs, hc, hp, hB.drew⟩
          · -- 0: Op.fieldAddr 75 t1 2
            go_light
            intro L σ W' hcl hL hC hw
            clear hw
            have HC := Lib.hid hC
            clear hC
            clear hcl hL
            refine OpGoes.step fun K hK => ?_
            unfold OpGoes
            go_simp
            obtain ⟨hs, hc, hp, hB⟩ := HC.out
            exact hK _ _ ⟨⟨hs, hc, hp, hB⟩, rfl, Below.refl _ _⟩
          · -- 1: Op.load 73 t49
            go_light
            intro L σ W' hcl hL hC hw
            have e0 : σ 0 = .pointer (some ⟨w.heap.size, 2, none⟩) := hw 0 (by kernel_rfl)
            clear hw
            have HC := Lib.hid hC
            obtain ⟨hs, hc, hp, hB⟩ := hC
            have ks := hs.cell
            clear hcl hL
            clear hs hc hp hB
            refine OpGoes.step fun K hK => ?_
            unfold OpGoes
            go_simp
            obtain ⟨hs, hc, hp, hB⟩ := HC.out
            exact hK _ _ ⟨⟨hs, hc, hp, hB⟩, rfl, Below.refl _ _⟩
          · -- 2: Op.move t4
            go_light
            intro L σ W' hcl hL hC hw
            clear hw
            have HC := Lib.hid hC
            clear hC
            clear hcl hL
            refine OpGoes.step fun K hK => ?_
            unfold OpGoes
            go_simp
            obtain ⟨hs, hc, hp, hB⟩ := HC.out
            exact hK _ _ ⟨⟨hs, hc, hp, hB⟩, rfl, Below.refl _ _⟩
          · -- 3: Op.indexAddr 73 t50 t51
            go_light
            intro L σ W' hcl hL hC hw
            have e1 : σ 1 = .slice (some ⟨b, 0, none⟩) n cap := hw 1 (by kernel_rfl)
            have e2 : σ 2 = .int .i64 ((i : Int)) := hw 2 (by kernel_rfl)
            clear hw
            have HC := Lib.hid hC
            clear hC
            clear hcl hL
            refine OpGoes.step fun K hK => ?_
            unfold OpGoes
            go_simp
            obtain ⟨hs, hc, hp, hB⟩ := HC.out
            exact hK _ _ ⟨⟨hs, hc, hp, hB⟩, rfl, Below.refl _ _⟩
          · -- 4: Op.load 27 t52
            go_light
            intro L σ W' hcl hL hC hw
            have e3 : σ 3 = .pointer (some ⟨b, i * 5, none⟩) := hw 3 (by kernel_rfl)
            clear hw
            have HC := Lib.hid hC
            obtain ⟨hs, hc, hp, hB⟩ := hC
            have hc0 := hc
            obtain ⟨c0, c1, c2, c3, c4⟩ := hc0
            clear hcl hL
            clear hs hc hp hB
            refine OpGoes.step fun K hK => ?_
            unfold OpGoes
            go_simp
            obtain ⟨hs, hc, hp, hB⟩ := HC.out
            exact hK _ _ ⟨⟨hs, hc, hp, hB⟩, rfl, Below.refl _ _⟩
          · -- 5: Op.call { value (Operand.func 15), args := #[t53], argTypes := #[27] }
            go_light
            intro L σ W' hcl hL hC hw
            have e4 : σ 4 = .agg #[.int .i64 r.h, .int .i64 r.t, .bool r.c, .int .i64 r.x, .slice A' n' cap'] := hw 4 (by kernel_rfl)
            clear hw
            have HC := Lib.hid hC
            clear hC
            clear hcl hL
            refine OpGoes.step fun K hK => ?_
            unfold OpGoes
            go_simp
            obtain ⟨hs, hc, hp, hB⟩ := HC.out
            refine (sringOk_is r A' n' cap' false _ hp hpn hok).mono ?_
            rintro e w1 ⟨rfl, hb1⟩
            exact ⟨_, rfl, hK _ _ ⟨⟨hs.below hb1 hs.lt, hc.below hb1, hp.below hb1, bstep hB hB.size hb1⟩, rfl, hb1⟩⟩
          · -- 6: Op.unOp UnOp.not 4 t54
            go_light
            intro L σ W' hcl hL hC hw
            have e5 : σ 5 = .bool false := hw 5 (by kernel_rfl)
            clear hw
            have HC := Lib.hid hC
            clear hC
            clear hcl hL
            refine OpGoes.step fun K hK => ?_
            unfold OpGoes
            go_simp
            obtain ⟨hs, hc, hp, hB⟩ := HC.out
            exact hK _ _ ⟨⟨hs, hc, hp, hB⟩, rfl, Below.refl _ _⟩
          · -- 7: Op.move t55
            go_light
            intro L σ W' hcl hL hC hw
            have e6 : σ 6 = .bool true := hw 6 (by kernel_rfl)
            clear hw
            have HC := Lib.hid hC
            clear hC
            clear hcl hL
            refine OpGoes.step fun K hK => ?_
            unfold OpGoes
            go_simp
            obtain ⟨hs, hc, hp, hB⟩ := HC.out
            exact hK _ _ ⟨⟨hs, hc, hp, hB⟩, rfl, Below.refl _ _⟩
          · -- 8: Op.fieldAddr 75 t1 2   [guarded: some (7, false)]
            go_light
            intro L σ W' hcl hL hC hw
            have e7 : σ 7 = .bool true := hw 7 (by kernel_rfl)
            clear hw
            have HC := Lib.hid hC
            clear hC
            clear hcl hL
            refine OpGoes.step fun K hK => ?_
            unfold OpGoes
            go_simp
            obtain ⟨hs, hc, hp, hB⟩ := HC.out
            exact hK _ _ ⟨⟨hs, hc, hp, hB⟩, rfl, Below.refl _ _⟩
          · -- 9: Op.load 73 t57   [guarded: some (7, false)]
            go_light
            intro L σ W' hcl hL hC hw
            have e7 : σ 7 = .bool true := hw 7 (by kernel_rfl)
            have e8 : σ 8 = undef := hw 8 (by kernel_rfl)
            clear hw
            have HC := Lib.hid hC
            clear hC
            clear hcl hL
            refine OpGoes.step fun K hK => ?_
            unfold OpGoes
            go_simp
            obtain ⟨hs, hc, hp, hB⟩ := HC.out
            exact hK _ _ ⟨⟨hs, hc, hp, hB⟩, rfl, Below.refl _ _⟩
          · -- 10: Op.move t4   [guarded: some (7, false)]
            go_light
            intro L σ W' hcl hL hC hw
            have e7 : σ 7 = .bool true := hw 7 (by kernel_rfl)
            clear hw
            have HC := Lib.hid hC
            clear hC
            clear hcl hL
            refine OpGoes.step fun K hK => ?_
            unfold OpGoes
            go_simp
            obtain ⟨hs, hc, hp, hB⟩ := HC.out
            exact hK _ _ ⟨⟨hs, hc, hp, hB⟩, rfl, Below.refl _ _⟩
          · -- 11: Op.indexAddr 73 t58 t59   [guarded: some (7, false)]
            go_light
            intro L σ W' hcl hL hC hw
            have e7 : σ 7 = .bool true := hw 7 (by kernel_rfl)
            have e9 : σ 9 = undef := hw 9 (by kernel_rfl)
            have e10 : σ 10 = undef := hw 10 (by kernel_rfl)
            clear hw
            have HC := Lib.hid hC
            clear hC
            clear hcl hL
            refine OpGoes.step fun K hK => ?_
            unfold OpGoes
            go_simp
            obtain ⟨hs, hc, hp, hB⟩ := HC.out
            exact hK _ _ ⟨⟨hs, hc, hp, hB⟩, rfl, Below.refl _ _⟩
          · -- 12: Op.fieldAddr 27 t60 4   [guarded: some (7, false)]
            go_light
            intro L σ W' hcl hL hC hw
            have e7 : σ 7 = .bool true := hw 7 (by kernel_rfl)
            have e11 : σ 11 = undef := hw 11 (by kernel_rfl)
            clear hw
            have HC := Lib.hid hC
            clear hC
            clear hcl hL
            refine OpGoes.step fun K hK => ?_
            unfold OpGoes
            go_simp
            obtain ⟨hs, hc, hp, hB⟩ := HC.out
            exact hK _ _ ⟨⟨hs, hc, hp, hB⟩, rfl, Below.refl _ _⟩
          · -- 13: Op.load 25 t61   [guarded: some (7, false)]
            go_light
            intro L σ W' hcl hL hC hw
            have e7 : σ 7 = .bool true := hw 7 (by kernel_rfl)
            have e12 : σ 12 = undef := hw 12 (by kernel_rfl)
            clear hw
            have HC := Lib.hid hC
            clear hC
            clear hcl hL
            refine OpGoes.step fun K hK => ?_
            unfold OpGoes
            go_simp
            obtain ⟨hs, hc, hp, hB⟩ := HC.out
            exact hK _ _ ⟨⟨hs, hc, hp, hB⟩, rfl, Below.refl _ _⟩
          · -- 14: Op.call { builtin len, args := #[t62], argTypes := #[25] }   [guarded: some (7, false)]
            go_light
            intro L σ W' hcl hL hC hw
            have e7 : σ 7 = .bool true := hw 7 (by kernel_rfl)
            have e13 : σ 13 = undef := hw 13 (by kernel_rfl)
            clear hw
            have HC := Lib.hid hC
            clear hC
            clear hcl hL
            refine OpGoes.step fun K hK => ?_
            unfold OpGoes
            go_simp
            obtain ⟨hs, hc, hp, hB⟩ := HC.out
            exact hK _ _ ⟨⟨hs, hc, hp, hB⟩, rfl, Below.refl _ _⟩
          · -- 15: Op.fieldAddr 75 t1 0   [guarded: some (7, false)]
            go_light
            intro L σ W' hcl hL hC hw
            have e7 : σ 7 = .bool true := hw 7 (by kernel_rfl)
            clear hw
            have HC := Lib.hid hC
            clear hC
            clear hcl hL
            refine OpGoes.step fun K hK => ?_
            unfold OpGoes
            go_simp
            obtain ⟨hs, hc, hp, hB⟩ := HC.out
            exact hK _ _ ⟨⟨hs, hc, hp, hB⟩, rfl, Below.refl _ _⟩
          · -- 16: Op.load 2 t64   [guarded: some (7, false)]
            go_light
            intro L σ W' hcl hL hC hw
            have e7 : σ 7 = .bool true := hw 7 (by kernel_rfl)
            have e15 : σ 15 = undef := hw 15 (by kernel_rfl)
            clear hw
            have HC := Lib.hid hC
            clear hC
            clear hcl hL
            refine OpGoes.step fun K hK => ?_
            unfold OpGoes
            go_simp
            obtain ⟨hs, hc, hp, hB⟩ := HC.out
            exact hK _ _ ⟨⟨hs, hc, hp, hB⟩, rfl, Below.refl _ _⟩
          · -- 17: Op.binOp BinOp.neq 2 t63 t65 2   [guarded: some (7, false)]
            go_light
            intro L σ W' hcl hL hC hw
            have e7 : σ 7 = .bool true := hw 7 (by kernel_rfl)
            have e14 : σ 14 = undef := hw 14 (by kernel_rfl)
            have e16 : σ 16 = undef := hw 16 (by kernel_rfl)
            clear hw
            have HC := Lib.hid hC
            clear hC
            clear hcl hL
            refine OpGoes.step fun K hK => ?_
            unfold OpGoes
            go_simp
            obtain ⟨hs, hc, hp, hB⟩ := HC.out
            exact hK _ _ ⟨⟨hs, hc, hp, hB⟩, rfl, Below.refl _ _⟩
          · -- 18: Op.pick t56 (const (Value.bool true)) t66
            go_light
            intro L σ W' hcl hL hC hw
            have e7 : σ 7 = .bool true := hw 7 (by kernel_rfl)
            have e17 : σ 17 = undef := hw 17 (by kernel_rfl)
            clear hw
            have HC := Lib.hid hC
            clear hC
            clear hcl hL
            refine OpGoes.step fun K hK => ?_
            unfold OpGoes
            go_simp
            obtain ⟨hs, hc, hp, hB⟩ := HC.out
            exact hK _ _ ⟨⟨hs, hc, hp, hB⟩, rfl, Below.refl _ _⟩
          · -- 19: Op.move t67
            go_light
            intro L σ W' hcl hL hC hw
            have e18 : σ 18 = .bool true := hw 18 (by kernel_rfl)
            clear hw
            have HC := Lib.hid hC
            clear hC
            clear hcl hL
            refine OpGoes.step fun K hK => ?_
            unfold OpGoes
            go_simp
            obtain ⟨hs, hc, hp, hB⟩ := HC.out
            exact hK _ _ ⟨⟨hs, hc, hp, hB⟩, rfl, Below.refl _ _⟩
          · -- 20: Op.fieldAddr 75 t1 2   [guarded: some (19, false)]
            go_light
            intro L σ W' hcl hL hC hw
            have e19 : σ 19 = .bool true := hw 19 (by kernel_rfl)
            clear hw
            have HC := Lib.hid hC
            clear hC
            clear hcl hL
            refine OpGoes.step fun K hK => ?_
            unfold OpGoes
            go_simp
            obtain ⟨hs, hc, hp, hB⟩ := HC.out
            exact hK _ _ ⟨⟨hs, hc, hp, hB⟩, rfl, Below.refl _ _⟩
          · -- 21: Op.load 73 t69   [guarded: some (19, false)]
            go_light
            intro L σ W' hcl hL hC hw
            have e19 : σ 19 = .bool true := hw 19 (by kernel_rfl)
            have e20 : σ 20 = undef := hw 20 (by kernel_rfl)
            clear hw
            have HC := Lib.hid hC
            clear hC
            clear hcl hL
            refine OpGoes.step fun K hK => ?_
            unfold OpGoes
            go_simp
            obtain ⟨hs, hc, hp, hB⟩ := HC.out
            exact hK _ _ ⟨⟨hs, hc, hp, hB⟩, rfl, Below.refl _ _⟩
          · -- 22: Op.move t4   [guarded: some (19, false)]
            go_light
            intro L σ W' hcl hL hC hw
            have e19 : σ 19 = .bool true := hw 19 (by kernel_rfl)
            clear hw
            have HC := Lib.hid hC
            clear hC
            clear hcl hL
            refine OpGoes.step fun K hK => ?_
            unfold OpGoes
            go_simp
            obtain ⟨hs, hc, hp, hB⟩ := HC.out
            exact hK _ _ ⟨⟨hs, hc, hp, hB⟩, rfl, Below.refl _ _⟩
          · -- 23: Op.indexAddr 73 t70 t71   [guarded: some (19, false)]
            go_light
            intro L σ W' hcl hL hC hw
            have e19 : σ 19 = .bool true := hw 19 (by kernel_rfl)
            have e21 : σ 21 = undef := hw 21 (by kernel_rfl)
            have e22 : σ 22 = undef := hw 22 (by kernel_rfl)
            clear hw
            have HC := Lib.hid hC
            clear hC
            clear hcl hL
            refine OpGoes.step fun K hK => ?_
            unfold OpGoes
            go_simp
            obtain ⟨hs, hc, hp, hB⟩ := HC.out
            exact hK _ _ ⟨⟨hs, hc, hp, hB⟩, rfl, Below.refl _ _⟩
          · -- 24: Op.fieldAddr 27 t72 3   [guarded: some (19, false)]
            go_light
            intro L σ W' hcl hL hC hw
            have e19 : σ 19 = .bool true := hw 19 (by kernel_rfl)
            have e23 : σ 23 = undef := hw 23 (by kernel_rfl)
            clear hw
            have HC := Lib.hid hC
            clear hC
            clear hcl hL
            refine OpGoes.step fun K hK => ?_
            unfold OpGoes
            go_simp
            obtain ⟨hs, hc, hp, hB⟩ := HC.out
            exact hK _ _ ⟨⟨hs, hc, hp, hB⟩, rfl, Below.refl _ _⟩
          · -- 25: Op.load 2 t73   [guarded: some (19, false)]
            go_light
            intro L σ W' hcl hL hC hw
            have e19 : σ 19 = .bool true := hw 19 (by kernel_rfl)
            have e24 : σ 24 = undef := hw 24 (by kernel_rfl)
            clear hw
            have HC := Lib.hid hC
            clear hC
            clear hcl hL
            refine OpGoes.step fun K hK => ?_
            unfold OpGoes
            go_simp
            obtain ⟨hs, hc, hp, hB⟩ := HC.out
            exact hK _ _ ⟨⟨hs, hc, hp, hB⟩, rfl, Below.refl _ _⟩
          · -- 26: Op.move t3   [guarded: some (19, false)]
            go_light
            intro L σ W' hcl hL hC hw
            have e19 : σ 19 = .bool true := hw 19 (by kernel_rfl)
            clear hw
            have HC := Lib.hid hC
            clear hC
            clear hcl hL
            refine OpGoes.step fun K hK => ?_
            unfold OpGoes
            go_simp
            obtain ⟨hs, hc, hp, hB⟩ := HC.out
            exact hK _ _ ⟨⟨hs, hc, hp, hB⟩, rfl, Below.refl _ _⟩
          · -- 27: Op.binOp BinOp.geq 2 t74 t75 2   [guarded: some (19, false)]
            go_light
            intro L σ W' hcl hL hC hw
            have e19 : σ 19 = .bool true := hw 19 (by kernel_rfl)
            have e25 : σ 25 = undef := hw 25 (by kernel_rfl)
            have e26 : σ 26 = undef := hw 26 (by kernel_rfl)
            clear hw
            have HC := Lib.hid hC
            clear hC
            clear hcl hL
            refine OpGoes.step fun K hK => ?_
            unfold OpGoes
            go_simp
            obtain ⟨hs, hc, hp, hB⟩ := HC.out
            exact hK _ _ ⟨⟨hs, hc, hp, hB⟩, rfl, Below.refl _ _⟩
          · -- 28: Op.pick t68 (const (Value.bool true)) t76
            go_light
            intro L σ W' hcl hL hC hw
            have e19 : σ 19 = .bool true := hw 19 (by kernel_rfl)
            have e27 : σ 27 = undef := hw 27 (by kernel_rfl)
            clear hw
            have HC := Lib.hid hC
            clear hC
            clear hcl hL
            refine OpGoes.step fun K hK => ?_
            unfold OpGoes
            go_simp
            obtain ⟨hs, hc, hp, hB⟩ := HC.out
            exact hK _ _ ⟨⟨hs, hc, hp, hB⟩, rfl, Below.refl _ _⟩
          · intro σ L W' hall hC hR
            obtain ⟨hs, hc, hp, hB⟩ := hC
            have e28 : σ 28 = .bool true := hR 28 (by decide)
            clear hR
            simp only [lexAll]
            go_simp
            go_step
            go_meet
            exact ⟨hs, hB, rfl⟩
        case rest =>
          obtain ⟨hs, hB, rfl⟩ := hcut
          go_wp2
          go_ret
          exact .mk (by rw [stOk_ring HRI.out (by simp [inSt, hok])]; rfl) hB
      · have HOK := Lib.hid hok
        cases hq : ((n' : Int) == s.rd)
        · have hq' : ((n' : Int) != s.rd) = true := by simpa using hq
          go_upto_region 7 with fail
          go_cut [77] (fun u77 W' => BoxAt W' w.heap.size #[.int .i64 s.rd, .int .i64 s.mo, .slice (some ⟨b, 0, none⟩) n cap, .int .i64 s.fi, .int .i64 s.la] 75 ∧ Below w.heap.size w W' ∧ u77 = .bool true)
          case first =>
            refine wp_region2 (fun w w' => Below w.heap.size w w') (fun _ _ h => h.size) (fun L W' => BoxAt W' w.heap.size #[.int .i64 s.rd, .int .i64 s.mo, .slice (some ⟨b, 0, none⟩) n cap, .int .i64 s.fi, .int .i64 s.la] 75 ∧ RgC W' b i r A' n' cap' ∧ PlsR 0 W' A' n' r.ps ∧ Below w.heap.size w W') (stBR s w.heap.size b i n cap r A' n' cap') stBK stBS (by kernel_rfl) (by kernel_rfl) ?_ ?_ ?_
              (.grow rfl ?_ <| .grow rfl ?_ <| .grow rfl ?_ <| .grow rfl ?_ <| .grow rfl ?_ <| .grow rfl ?_ <| .grow rfl ?_ <| .grow rfl ?_ <| .grow rfl ?_ <| .grow rfl ?_ <| .grow rfl ?_ <| .grow rfl ?_ <| .grow rfl ?_ <| .grow rfl ?_ <| .grow rfl ?_ <| .grow rfl ?_ <| .grow rfl ?_ <| .grow rfl ?_ <| .grow rfl ?_ <| .grow rfl ?_ <| .grow rfl ?_ <| .grow rfl ?_ <| .grow rfl ?_ <| .grow rfl ?_ <| .grow rfl ?_ <| .grow rfl ?_ <| .grow rfl ?_ <| .grow rfl ?_ <| .grow rfl ?_ <| .nil) ?_
            · intro j σ τ w h hR
              match j, h, hR with
              | 0, h, hR => exact (h 0 (List.mem_singleton.2 rfl)).symm.trans hR
              | 1, h, hR => exact (h 1 (List.mem_singleton.2 rfl)).symm.trans hR
              | 2, h, hR => exact (h 2 (List.mem_singleton.2 rfl)).symm.trans hR
              | 3, h, hR => exact (h 3 (List.mem_singleton.2 rfl)).symm.trans hR
              | 4, h, hR => exact (h 4 (List.mem_singleton.2 rfl)).symm.trans hR
              | 5, h, hR => exact (h 5 (List.mem_singleton.2 rfl)).symm.trans hR
              | 6, h, hR => exact (h 6 (List.mem_singleton.2 rfl)).symm.trans hR
              | 7, h, hR => exact (h 7 (List.mem_singleton.2 rfl)).symm.trans hR
              | 8, h, hR => exact (h 8 (List.mem_singleton.2 rfl)).symm.trans hR
              | 9, h, hR => exact (h 9 (List.mem_singleton.2 rfl)).symm.trans hR
              | 10, h, hR => exact (h 10 (List.mem_singleton.2 rfl)).symm.trans hR
              | 11, h, hR => exact (h 11 (List.mem_singleton.2 rfl)).symm.trans hR
              | 12, h, hR => exact (h 12 (List.mem_singleton.2 rfl)).symm.trans hR
              | 13, h, hR => exact (h 13 (List.mem_singleton.2 rfl)).symm.trans hR
              | 14, h, hR => exact (h 14 (List.mem_singleton.2 rfl)).symm.trans hR
              | 15, h, hR => exact (h 15 (List.mem_singleton.2 rfl)).symm.trans hR
              | 16, h, hR => exact (h 16 (List.mem_singleton.2 rfl)).symm.trans hR
              | 17, h, hR => exact (h 17 (List.mem_singleton.2 rfl)).symm.trans hR
              | 18, h, hR => exact (h 18 (List.mem_singleton.2 rfl)).symm.trans hR
              | 19, h, hR => exact (h 19 (List.mem_singleton.2 rfl)).symm.trans hR
              | 20, h, hR => exact (h 20 (List.mem_singleton.2 rfl)).symm.trans hR
              | 21, h, hR => exact (h 21 (List.mem_singleton.2 rfl)).symm.trans hR
              | 22, h, hR => exact (h 22 (List.mem_singleton.2 rfl)).symm.trans hR
              | 23, h, hR => exact (h 23 (List.mem_singleton.2 rfl)).symm.trans hR
              | 24, h, hR => exact (h 24 (List.mem_singleton.2 rfl)).symm.trans hR
              | 25, h, hR => exact (h 25 (List.mem_singleton.2 rfl)).symm.trans hR
              | 26, h, hR => exact (h 26 (List.mem_singleton.2 rfl)).symm.trans hR
              | 27, h, hR => exact (h 27 (List.mem_singleton.2 rfl)).symm.trans hR
              | 28, h, hR => exact (h 28 (List.mem_singleton.2 rfl)).symm.trans hR
              | _ + 29, _, _ => exact trivial
            · intro j σ w w' hb hR
              match j, hR with
              | 0, hR => exact hR
              | 1, hR => exact hR
              | 2, hR => exact hR
              | 3, hR => exact hR
              | 4, hR => exact hR
              | 5, hR => exact hR
              | 6, hR => exact hR
              | 7, hR => exact hR
              | 8, hR => exact hR
              | 9, hR => exact hR
              | 10, hR => exact hR
              | 11, hR => exact hR
              | 12, hR => exact hR
              | 13, hR => exact hR
              | 14, hR => exact hR
              | 15, hR => exact hR
              | 16, hR => exact hR
              | 17, hR => exact hR
              | 18, hR => exact hR
              | 19, hR => exact hR
              | 20, hR => exact hR
              | 21, hR => exact hR
              | 22, hR => exact hR
              | 23, hR => exact hR
              | 24, hR => exact hR
              | 25, hR => exact hR
              | 26, hR => exact hR
              | 27, hR => exact hR
              | 28, hR => exact hR
              | _ + 29, _ => exact trivial
            · exact ⟨hs, hc, hp, hB.drew⟩
            · -- 0: Op.fieldAddr 75 t1 2
              go_light
              intro L σ W' hcl hL hC hw
              clear hw
              have HC := Lib.hid hC
              clear hC
              clear hcl hL
              refine OpGoes.step fun K hK => ?_
              unfold OpGoes
              go_simp
              obtain ⟨hs, hc, hp, hB⟩ := HC.out
              exact hK _ _ ⟨⟨hs, hc, hp, hB⟩, rfl, Below.refl _ _⟩
            · -- 1: Op.load 73 t49
              go_light
              intro L σ W' hcl hL hC hw
              have e0 : σ 0 = .pointer (some ⟨w.heap.size, 2, none⟩) := hw 0 (by kernel_rfl)
              clear hw
              have HC := Lib.hid hC
              obtain ⟨hs, hc, hp, hB⟩ := hC
              have ks := hs.cell
              clear hcl hL
              clear hs hc hp hB
              refine OpGoes.step fun K hK => ?_
              unfold OpGoes
              go_simp
              obtain ⟨hs, hc, hp, hB⟩ := HC.out
              exact hK _ _ ⟨⟨hs, hc, hp, hB⟩, rfl, Below.refl _ _⟩
            · -- 2: Op.move t4
              go_light
              intro L σ W' hcl hL hC hw
              clear hw
              have HC := Lib.hid hC
              clear hC
              clear hcl hL
              refine OpGoes.step fun K hK => ?_
              unfold OpGoes
              go_simp
              obtain ⟨hs, hc, hp, hB⟩ := HC.out
              exact hK _ _ ⟨⟨hs, hc, hp, hB⟩, rfl, Below.refl _ _⟩
            · -- 3: Op.indexAddr 73 t50 t51
              go_light
              intro L σ W' hcl hL hC hw
              have e1 : σ 1 = .slice (some ⟨b, 0, none⟩) n cap := hw 1 (by kernel_rfl)
              have e2 : σ 2 = .int .i64 ((i : Int)) := hw 2 (by kernel_rfl)
              clear hw
              have HC := Lib.hid hC
              clear hC
              clear hcl hL
              refine OpGoes.step fun K hK => ?_
              unfold OpGoes
              go_simp
              obtain ⟨hs, hc, hp, hB⟩ := HC.out
              exact hK _ _ ⟨⟨hs, hc, hp, hB⟩, rfl, Below.refl _ _⟩
            · -- 4: Op.load 27 t52
              go_light
              intro L σ W' hcl hL hC hw
              have e3 : σ 3 = .pointer (some ⟨b, i * 5, none⟩) := hw 3 (by kernel_rfl)
              clear hw
              have HC := Lib.hid hC
              obtain ⟨hs, hc, hp, hB⟩ := hC
              have hc0 := hc
              obtain ⟨c0, c1, c2, c3, c4⟩ := hc0
              clear hcl hL
              clear hs hc hp hB
              refine OpGoes.step fun K hK => ?_
              unfold OpGoes
              go_simp
              obtain ⟨hs, hc, hp, hB⟩ := HC.out
              exact hK _ _ ⟨⟨hs, hc, hp, hB⟩, rfl, Below.refl _ _⟩
            · -- 5: Op.call { value (Operand.func 15), args := #[t53], argTypes := #[27] }
              go_light
              intro L σ W' hcl hL hC hw
              have e4 : σ 4 = .agg #[.int .i64 r.h, .int .i64 r.t, .bool r.c, .int .i64 r.x, .slice A' n' cap'] := hw 4 (by kernel_rfl)
              clear hw
              have HC := Lib.hid hC
              clear hC
              clear hcl hL
              refine OpGoes.step fun K hK => ?_
              unfold OpGoes
              go_simp
              obtain ⟨hs, hc, hp, hB⟩ := HC.out
              refine (sringOk_is r A' n' cap' true _ hp hpn hok).mono ?_
              rintro e w1 ⟨rfl, hb1⟩
              exact ⟨_, rfl, hK _ _ ⟨⟨hs.below hb1 hs.lt, hc.below hb1, hp.below hb1, bstep hB hB.size hb1⟩, rfl, hb1⟩⟩
            · -- 6: Op.unOp UnOp.not 4 t54
              go_light
              intro L σ W' hcl hL hC hw
              have e5 : σ 5 = .bool true := hw 5 (by kernel_rfl)
              clear hw
              have HC := Lib.hid hC
              clear hC
              clear hcl hL
              refine OpGoes.step fun K hK => ?_
              unfold OpGoes
              go_simp
              obtain ⟨hs, hc, hp, hB⟩ := HC.out
              exact hK _ _ ⟨⟨hs, hc, hp, hB⟩, rfl, Below.refl _ _⟩
            · -- 7: Op.move t55
              go_light
              intro L σ W' hcl hL hC hw
              have e6 : σ 6 = .bool false := hw 6 (by kernel_rfl)
              clear hw
              have HC := Lib.hid hC
              clear hC
              clear hcl hL
              refine OpGoes.step fun K hK => ?_
              unfold OpGoes
              go_simp
              obtain ⟨hs, hc, hp, hB⟩ := HC.out
              exact hK _ _ ⟨⟨hs, hc, hp, hB⟩, rfl, Below.refl _ _⟩
            · -- 8: Op.fieldAddr 75 t1 2   [guarded: some (7, false)]
              go_light
              intro L σ W' hcl hL hC hw
              have e7 : σ 7 = .bool false := hw 7 (by kernel_rfl)
              clear hw
              have HC := Lib.hid hC
              clear hC
              clear hcl hL
              refine OpGoes.step fun K hK => ?_
              unfold OpGoes
              go_simp
              obtain ⟨hs, hc, hp, hB⟩ := HC.out
              exact hK _ _ ⟨⟨hs, hc, hp, hB⟩, rfl, Below.refl _ _⟩
            · -- 9: Op.load 73 t57   [guarded: some (7, false)]
              go_light
              intro L σ W' hcl hL hC hw
              have e7 : σ 7 = .bool false := hw 7 (by kernel_rfl)
              have e8 : σ 8 = .pointer (some ⟨w.heap.size, 2, none⟩) := hw 8 (by kernel_rfl)
              clear hw
              have HC := Lib.hid hC
              obtain ⟨hs, hc, hp, hB⟩ := hC
              have ks := hs.cell
              clear hcl hL
              clear hs hc hp hB
              refine OpGoes.step fun K hK => ?_
              unfold OpGoes
              go_simp
              obtain ⟨hs, hc, hp, hB⟩ := HC.out
              exact hK _ _ ⟨⟨hs, hc, hp, hB⟩, rfl, Below.refl _ _⟩
            · -- 10: Op.move t4   [guarded: some (7, false)]
              go_light
              intro L σ W' hcl hL hC hw
              have e7 : σ 7 = .bool false := hw 7 (by kernel_rfl)
              clear hw
              have HC := Lib.hid hC
              clear hC
              clear hcl hL
              refine OpGoes.step fun K hK => ?_
              unfold OpGoes
              go_simp
              obtain ⟨hs, hc, hp, hB⟩ := HC.out
              exact hK _ _ ⟨⟨hs, hc, hp, hB⟩, rfl, Below.refl _ _⟩
            · -- 11: Op.indexAddr 73 t58 t59   [guarded: some (7, false)]
              go_light
              intro L σ W' hcl hL hC hw
              have e7 : σ 7 = .bool false := hw 7 (by kernel_rfl)
              have e9 : σ 9 = .slice (some ⟨b, 0, none⟩) n cap := hw 9 (by kernel_rfl)
              have e10 : σ 10 = .int .i64 ((i : Int)) := hw 10 (by kernel_rfl)
              clear hw
              have HC := Lib.hid hC
              clear hC
              clear hcl hL
              refine OpGoes.step fun K hK => ?_
              unfold OpGoes
              go_simp
              obtain ⟨hs, hc, hp, hB⟩ := HC.out
              exact hK _ _ ⟨⟨hs, hc, hp, hB⟩, rfl, Below.refl _ _⟩
            · -- 12: Op.fieldAddr 27 t60 4   [guarded: some (7, false)]
              go_light
              intro L σ W' hcl hL hC hw
              have e7 : σ 7 = .bool false := hw 7 (by kernel_rfl)
              have e11 : σ 11 = .pointer (some ⟨b, i * 5, none⟩) := hw 11 (by kernel_rfl)
              clear hw
              have HC := Lib.hid hC
              clear hC
              clear hcl hL
              refine OpGoes.step fun K hK => ?_
              unfold OpGoes
              go_simp
              obtain ⟨hs, hc, hp, hB⟩ := HC.out
              exact hK _ _ ⟨⟨hs, hc, hp, hB⟩, rfl, Below.refl _ _⟩
            · -- 13: Op.load 25 t61   [guarded: some (7, false)]
              go_light
              intro L σ W' hcl hL hC hw
              have e7 : σ 7 = .bool false := hw 7 (by kernel_rfl)
              have e12 : σ 12 = .pointer (some ⟨b, i * 5 + 4, none⟩) := hw 12 (by kernel_rfl)
              clear hw
              have HC := Lib.hid hC
              obtain ⟨hs, hc, hp, hB⟩ := hC
              have hc0 := hc
              obtain ⟨c0, c1, c2, c3, c4⟩ := hc0
              clear hcl hL
              clear hs hc hp hB
              refine OpGoes.step fun K hK => ?_
              unfold OpGoes
              go_simp
              obtain ⟨hs, hc, hp, hB⟩ := HC.out
              exact hK _ _ ⟨⟨hs, hc, hp, hB⟩, rfl, Below.refl _ _⟩
            · -- 14: Op.call { builtin len, args := #[t62], argTypes := #[25] }   [guarded: some (7, false)]
              go_light
              intro L σ W' hcl hL hC hw
              have e7 : σ 7 = .bool false := hw 7 (by kernel_rfl)
              have e13 : σ 13 = .slice A' n' cap' := hw 13 (by kernel_rfl)
              clear hw
              have HC := Lib.hid hC
              clear hC
              clear hcl hL
              refine OpGoes.step fun K hK => ?_
              unfold OpGoes
              go_simp
              obtain ⟨hs, hc, hp, hB⟩ := HC.out
              exact hK _ _ ⟨⟨hs, hc, hp, hB⟩, rfl, Below.refl _ _⟩
            · -- 15: Op.fieldAddr 75 t1 0   [guarded: some (7, false)]
              go_light
              intro L σ W' hcl hL hC hw
              have e7 : σ 7 = .bool false := hw 7 (by kernel_rfl)
              clear hw
              have HC := Lib.hid hC
              clear hC
              clear hcl hL
              refine OpGoes.step fun K hK => ?_
              unfold OpGoes
              go_simp
              obtain ⟨hs, hc, hp, hB⟩ := HC.out
              exact hK _ _ ⟨⟨hs, hc, hp, hB⟩, rfl, Below.refl _ _⟩
            · -- 16: Op.load 2 t64   [guarded: some (7, false)]
              go_light
              intro L σ W' hcl hL hC hw
              have e7 : σ 7 = .bool false := hw 7 (by kernel_rfl)
              have e15 : σ 15 = .pointer (some ⟨w.heap.size, 0, none⟩) := hw 15 (by kernel_rfl)
              clear hw
              have HC := Lib.hid hC
              obtain ⟨hs, hc, hp, hB⟩ := hC
              have ks := hs.cell
              clear hcl hL
              clear hs hc hp hB
              refine OpGoes.step fun K hK => ?_
              unfold OpGoes
              go_simp
              obtain ⟨hs, hc, hp, hB⟩ := HC.out
              exact hK _ _ ⟨⟨hs, hc, hp, hB⟩, rfl, Below.refl _ _⟩
            · -- 17: Op.binOp BinOp.neq 2 t63 t65 2   [guarded: some (7, false)]
              go_light
              intro L σ W' hcl hL hC hw
              have e7 : σ 7 = .bool false := hw 7 (by kernel_rfl)
              have e14 : σ 14 = .int .i64 ((n' : Int)) := hw 14 (by kernel_rfl)
              have e16 : σ 16 = .int .i64 s.rd := hw 16 (by kernel_rfl)
              clear hw
              have HC := Lib.hid hC
              obtain ⟨hs, hc, hp, hB⟩ := hC
              clear hcl hL
              clear hs hc hp hB
              refine OpGoes.step fun K hK => ?_
              unfold OpGoes
              go_simp
              obtain ⟨hs, hc, hp, hB⟩ := HC.out
              exact hK _ _ ⟨⟨hs, hc, hp, hB⟩, rfl, Below.refl _ _⟩
            · -- 18: Op.pick t56 (const (Value.bool true)) t66
              go_light
              intro L σ W' hcl hL hC hw
              have e7 : σ 7 = .bool false := hw 7 (by kernel_rfl)
              have e17 : σ 17 = .bool true := hw 17 (by kernel_rfl)
              clear hw
              have HC := Lib.hid hC
              clear hC
              clear hcl hL
              refine OpGoes.step fun K hK => ?_
              unfold OpGoes
              go_simp
              obtain ⟨hs, hc, hp, hB⟩ := HC.out
              exact hK _ _ ⟨⟨hs, hc, hp, hB⟩, rfl, Below.refl _ _⟩
            · -- 19: Op.move t67
              go_light
              intro L σ W' hcl hL hC hw
              have e18 : σ 18 = .bool true := hw 18 (by kernel_rfl)
              clear hw
              have HC := Lib.hid hC
              clear hC
              clear hcl hL
              refine OpGoes.step fun K hK => ?_
              unfold OpGoes
              go_simp
              obtain ⟨hs, hc, hp, hB⟩ := HC.out
              exact hK _ _ ⟨⟨hs, hc, hp, hB⟩, rfl, Below.refl _ _⟩
            · -- 20: Op.fieldAddr 75 t1 2   [guarded: some (19, false)]
              go_light
              intro L σ W' hcl hL hC hw
              have e19 : σ 19 = .bool true := hw 19 (by kernel_rfl)
              clear hw
              have HC := Lib.hid hC
              clear hC
              clear hcl hL
              refine OpGoes.step fun K hK => ?_
              unfold OpGoes
              go_simp
              obtain ⟨hs, hc, hp, hB⟩ := HC.out
              exact hK _ _ ⟨⟨hs, hc, hp, hB⟩, rfl, Below.refl _ _⟩
            · -- 21: Op.load 73 t69   [guarded: some (19, false)]
              go_light
              intro L σ W' hcl hL hC hw
              have e19 : σ 19 = .bool true := hw 19 (by kernel_rfl)
              have e20 : σ 20 = undef := hw 20 (by kernel_rfl)
              clear hw
              have HC := Lib.hid hC
              clear hC
              clear hcl hL
              refine OpGoes.step fun K hK => ?_
              unfold OpGoes
              go_simp
              obtain ⟨hs, hc, hp, hB⟩ := HC.out
              exact hK _ _ ⟨⟨hs, hc, hp, hB⟩, rfl, Below.refl _ _⟩
            · -- 22: Op.move t4   [guarded: some (19, false)]
              go_light
              intro L σ W' hcl hL hC hw
              have e19 : σ 19 = .bool true := hw 19 (by kernel_rfl)
              clear hw
              have HC := Lib.hid hC
              clear hC
              clear hcl hL
              refine OpGoes.step fun K hK => ?_
              unfold OpGoes
              go_simp
              obtain ⟨hs, hc, hp, hB⟩ := HC.out
              exact hK _ _ ⟨⟨hs, hc, hp, hB⟩, rfl, Below.refl _ _⟩
            · -- 23: Op.indexAddr 73 t70 t71   [guarded: some (19, false)]
              go_light
              intro L σ W' hcl hL hC hw
              have e19 : σ 19 = .bool true := hw 19 (by kernel_rfl)
              have e21 : σ 21 = undef := hw 21 (by kernel_rfl)
              have e22 : σ 22 = undef := hw 22 (by kernel_rfl)
              clear hw
              have HC := Lib.hid hC
              clear hC
              clear hcl hL
              refine OpGoes.step fun K hK => ?_
              unfold OpGoes
              go_simp
              obtain ⟨hs, hc, hp, hB⟩ := HC.out
              exact hK _ _ ⟨⟨hs, hc, hp, hB⟩, rfl, Below.refl _ _⟩
            · -- 24: Op.fieldAddr 27 t72 3   [guarded: some (19, false)]
              go_light
              intro L σ W' hcl hL hC hw
              have e19 : σ 19 = .bool true := hw 19 (by kernel_rfl)
              have e23 : σ 23 = undef := hw 23 (by kernel_rfl)
              clear hw
              have HC := Lib.hid hC
              clear hC
              clear hcl hL
              refine OpGoes.step fun K hK => ?_
              unfold OpGoes
              go_simp
              obtain ⟨hs, hc, hp, hB⟩ := HC.out
              exact hK _ _ ⟨⟨hs, hc, hp, hB⟩, rfl, Below.refl _ _⟩
            · -- 25: Op.load 2 t73   [guarded: some (19, false)]
              go_light
              intro L σ W' hcl hL hC hw
              have e19 : σ 19 = .bool true := hw 19 (by kernel_rfl)
              have e24 : σ 24 = undef := hw 24 (by kernel_rfl)
              clear hw
              have HC := Lib.hid hC
              clear hC
              clear hcl hL
              refine OpGoes.step fun K hK => ?_
              unfold OpGoes
              go_simp
              obtain ⟨hs, hc, hp, hB⟩ := HC.out
              exact hK _ _ ⟨⟨hs, hc, hp, hB⟩, rfl, Below.refl _ _⟩
            · -- 26: Op.move t3   [guarded: some (19, false)]
              go_light
              intro L σ W' hcl hL hC hw
              have e19 : σ 19 = .bool true := hw 19 (by kernel_rfl)
              clear hw
              have HC := Lib.hid hC
              clear hC
              clear hcl hL
              refine OpGoes.step fun K hK => ?_
              unfold OpGoes
              go_simp
              obtain ⟨hs, hc, hp, hB⟩ := HC.out
              exact hK _ _ ⟨⟨hs, hc, hp, hB⟩, rfl, Below.refl _ _⟩
            · -- 27: Op.binOp BinOp.geq 2 t74 t75 2   [guarded: some (19, false)]
              go_light
              intro L σ W' hcl hL hC hw
              have e19 : σ 19 = .bool true := hw 19 (by kernel_rfl)
              have e25 : σ 25 = undef := hw 25 (by kernel_rfl)
              have e26 : σ 26 = undef := hw 26 (by kernel_rfl)
              clear hw
              have HC := Lib.hid hC
              clear hC
              clear hcl hL
              refine OpGoes.step fun K hK => ?_
              unfold OpGoes
              go_simp
              obtain ⟨hs, hc, hp, hB⟩ := HC.out
              exact hK _ _ ⟨⟨hs, hc, hp, hB⟩, rfl, Below.refl _ _⟩
            · -- 28: Op.pick t68 (const (Value.bool true)) t76
              go_light
              intro L σ W' hcl hL hC hw
              have e19 : σ 19 = .bool true := hw 19 (by kernel_rfl)
              have e27 : σ 27 = undef := hw 27 (by kernel_rfl)
              clear hw
              have HC := Lib.hid hC
              clear hC
              clear hcl hL
              refine OpGoes.step fun K hK => ?_
              unfold OpGoes
              go_simp
              obtain ⟨hs, hc, hp, hB⟩ := HC.out
              exact hK _ _ ⟨⟨hs, hc, hp, hB⟩, rfl, Below.refl _ _⟩
            · intro σ L W' hall hC hR
              obtain ⟨hs, hc, hp, hB⟩ := hC
              have e28 : σ 28 = .bool true := hR 28 (by decide)
              clear hR
              simp only [lexAll]
              go_simp
              go_step
              go_meet
              exact ⟨hs, hB, rfl⟩
          case rest =>
            obtain ⟨hs, hB, rfl⟩ := hcut
            have HQ := Lib.hid hq; clear hq hq'
            go_wp2
            go_ret
            exact .mk (by rw [stOk_ring HRI.out (by simp only [inSt, HPL.out, HQ.out, Bool.and_false, Bool.false_and])]; rfl) hB
        · have HQ := Lib.hid hq
          have hq' : ((n' : Int) != s.rd) = false := by simpa using hq
          by_cases hge : (n : Int) ≤ r.x
          · have hge' : decide ((n : Int) ≤ r.x) = true := by simpa using hge
            go_upto_region 7 with fail
            go_cut [77] (fun u77 W' => BoxAt W' w.heap.size #[.int .i64 s.rd, .int .i64 s.mo, .slice (some ⟨b, 0, none⟩) n cap, .int .i64 s.fi, .int .i64 s.la] 75 ∧ Below w.heap.size w W' ∧ u77 = .bool true)
            case first =>
              refine wp_region2 (fun w w' => Below w.heap.size w w') (fun _ _ h => h.size) (fun L W' => BoxAt W' w.heap.size #[.int .i64 s.rd, .int .i64 s.mo, .slice (some ⟨b, 0, none⟩) n cap, .int .i64 s.fi, .int .i64 s.la] 75 ∧ RgC W' b i r A' n' cap' ∧ PlsR 0 W' A' n' r.ps ∧ Below w.heap.size w W') (stCR s w.heap.size b i n cap r A' n' cap') stCK stCS (by kernel_rfl) (by kernel_rfl) ?_ ?_ ?_
                (.grow rfl ?_ <| .grow rfl ?_ <| .grow rfl ?_ <| .grow rfl ?_ <| .grow rfl ?_ <| .grow rfl ?_ <| .grow rfl ?_ <| .grow rfl ?_ <| .grow rfl ?_ <| .grow rfl ?_ <| .grow rfl ?_ <| .grow rfl ?_ <| .grow rfl ?_ <| .grow rfl ?_ <| .grow rfl ?_ <| .grow rfl ?_ <| .grow rfl ?_ <| .grow rfl ?_ <| .grow rfl ?_ <| .grow rfl ?_ <| .grow rfl ?_ <| .grow rfl ?_ <| .grow rfl ?_ <| .grow rfl ?_ <| .grow rfl ?_ <| .grow rfl ?_ <| .grow rfl ?_ <| .grow rfl ?_ <| .grow rfl ?_ <| .nil) ?_
              · intro j σ τ w h hR
                match j, h, hR with
                | 0, h, hR => exact (h 0 (List.mem_singleton.2 rfl)).symm.trans hR
                | 1, h, hR => exact (h 1 (List.mem_singleton.2 rfl)).symm.trans hR
                | 2, h, hR => exact (h 2 (List.mem_singleton.2 rfl)).symm.trans hR
                | 3, h, hR => exact (h 3 (List.mem_singleton.2 rfl)).symm.trans hR
                | 4, h, hR => exact (h 4 (List.mem_singleton.2 rfl)).symm.trans hR
                | 5, h, hR => exact (h 5 (List.mem_singleton.2 rfl)).symm.trans hR
                | 6, h, hR => exact (h 6 (List.mem_singleton.2 rfl)).symm.trans hR
                | 7, h, hR => exact (h 7 (List.mem_singleton.2 rfl)).symm.trans hR
                | 8, h, hR => exact (h 8 (List.mem_singleton.2 rfl)).symm.trans hR
                | 9, h, hR => exact (h 9 (List.mem_singleton.2 rfl)).symm.trans hR
                | 10, h, hR => exact (h 10 (List.mem_singleton.2 rfl)).symm.trans hR
                | 11, h, hR => exact (h 11 (List.mem_singleton.2 rfl)).symm.trans hR
                | 12, h, hR => exact (h 12 (List.mem_singleton.2 rfl)).symm.trans hR
                | 13, h, hR => exact (h 13 (List.mem_singleton.2 rfl)).symm.trans hR
                | 14, h, hR => exact (h 14 (List.mem_singleton.2 rfl)).symm.trans hR
                | 15, h, hR => exact (h 15 (List.mem_singleton.2 rfl)).symm.trans hR
                | 16, h, hR => exact (h 16 (List.mem_singleton.2 rfl)).symm.trans hR
                | 17, h, hR => exact (h 17 (List.mem_singleton.2 rfl)).symm.trans hR
                | 18, h, hR => exact (h 18 (List.mem_singleton.2 rfl)).symm.trans hR
                | 19, h, hR => exact (h 19 (List.mem_singleton.2 rfl)).symm.trans hR
                | 20, h, hR => exact (h 20 (List.mem_singleton.2 rfl)).symm.trans hR
                | 21, h, hR => exact (h 21 (List.mem_singleton.2 rfl)).symm.trans hR
                | 22, h, hR => exact (h 22 (List.mem_singleton.2 rfl)).symm.trans hR
                | 23, h, hR => exact (h 23 (List.mem_singleton.2 rfl)).symm.trans hR
                | 24, h, hR => exact (h 24 (List.mem_singleton.2 rfl)).symm.trans hR
                | 25, h, hR => exact (h 25 (List.mem_singleton.2 rfl)).symm.trans hR
                | 26, h, hR => exact (h 26 (List.mem_singleton.2 rfl)).symm.trans hR
                | 27, h, hR => exact (h 27 (List.mem_singleton.2 rfl)).symm.trans hR
                | 28, h, hR => exact (h 28 (List.mem_singleton.2 rfl)).symm.trans hR
                | _ + 29, _, _ => exact trivial
              · intro j σ w w' hb hR
                match j, hR with
                | 0, hR => exact hR
                | 1, hR => exact hR
                | 2, hR => exact hR
                | 3, hR => exact hR
                | 4, hR => exact hR
                | 5, hR => exact hR
                | 6, hR => exact hR
                | 7, hR => exact hR
                | 8, hR => exact hR
                | 9, hR => exact hR
                | 10, hR => exact hR
                | 11, hR => exact hR
                | 12, hR => exact hR
                | 13, hR => exact hR
                | 14, hR => exact hR
                | 15, hR => exact hR
                | 16, hR => exact hR
                | 17, hR => exact hR
                | 18, hR => exact hR
                | 19, hR => exact hR
                | 20, hR => exact hR
                | 21, hR => exact hR
                | 22, hR => exact hR
                | 23, hR => exact hR
                | 24, hR => exact hR
                | 25, hR => exact hR
                | 26, hR => exact hR
                | 27, hR => exact hR
                | 28, hR => exact hR
                | _ + 29, _ => exact trivial
              · exact ⟨hs, hc, hp, hB.drew⟩
              · -- 0: Op.fieldAddr 75 t1 2
                go_light
                intro L σ W' hcl hL hC hw
                clear hw
                have HC := Lib.hid hC
                clear hC
                clear hcl hL
                refine OpGoes.step fun K hK => ?_
                unfold OpGoes
                go_simp
                obtain ⟨hs, hc, hp, hB⟩ := HC.out
                exact hK _ _ ⟨⟨hs, hc, hp, hB⟩, rfl, Below.refl _ _⟩
              · -- 1: Op.load 73 t49
                go_light
                intro L σ W' hcl hL hC hw
                have e0 : σ 0 = .pointer (some ⟨w.heap.size, 2, none⟩) := hw 0 (by kernel_rfl)
                clear hw
                have HC := Lib.hid hC
                obtain ⟨hs, hc, hp, hB⟩ := hC
                have ks := hs.cell
                clear hcl hL
                clear hs hc hp hB
                refine OpGoes.step fun K hK => ?_
                unfold OpGoes
                go_simp
                obtain ⟨hs, hc, hp, hB⟩ := HC.out
                exact hK _ _ ⟨⟨hs, hc, hp, hB⟩, rfl, Below.refl _ _⟩
              · -- 2: Op.move t4
                go_light
                intro L σ W' hcl hL hC hw
                clear hw
                have HC := Lib.hid hC
                clear hC
                clear hcl hL
                refine OpGoes.step fun K hK => ?_
                unfold OpGoes
                go_simp
                obtain ⟨hs, hc, hp, hB⟩ := HC.out
                exact hK _ _ ⟨⟨hs, hc, hp, hB⟩, rfl, Below.refl _ _⟩
              · -- 3: Op.indexAddr 73 t50 t51
                go_light
                intro L σ W' hcl hL hC hw
                have e1 : σ 1 = .slice (some ⟨b, 0, none⟩) n cap := hw 1 (by kernel_rfl)
                have e2 : σ 2 = .int .i64 ((i : Int)) := hw 2 (by kernel_rfl)
                clear hw
                have HC := Lib.hid hC
                clear hC
                clear hcl hL
                refine OpGoes.step fun K hK => ?_
                unfold OpGoes
                go_simp
                obtain ⟨hs, hc, hp, hB⟩ := HC.out
                exact hK _ _ ⟨⟨hs, hc, hp, hB⟩, rfl, Below.refl _ _⟩
              · -- 4: Op.load 27 t52
                go_light
                intro L σ W' hcl hL hC hw
                have e3 : σ 3 = .pointer (some ⟨b, i * 5, none⟩) := hw 3 (by kernel_rfl)
                clear hw
                have HC := Lib.hid hC
                obtain ⟨hs, hc, hp, hB⟩ := hC
                have hc0 := hc
                obtain ⟨c0, c1, c2, c3, c4⟩ := hc0
                clear hcl hL
                clear hs hc hp hB
                refine OpGoes.step fun K hK => ?_
                unfold OpGoes
                go_simp
                obtain ⟨hs, hc, hp, hB⟩ := HC.out
                exact hK _ _ ⟨⟨hs, hc, hp, hB⟩, rfl, Below.refl _ _⟩
              · -- 5: Op.call { value (Operand.func 15), args := #[t53], argTypes := #[27] }
                go_light
                intro L σ W' hcl hL hC hw
                have e4 : σ 4 = .agg #[.int .i64 r.h, .int .i64 r.t, .bool r.c, .int .i64 r.x, .slice A' n' cap'] := hw 4 (by kernel_rfl)
                clear hw
                have HC := Lib.hid hC
                clear hC
                clear hcl hL
                refine OpGoes.step fun K hK => ?_
                unfold OpGoes
                go_simp
                obtain ⟨hs, hc, hp, hB⟩ := HC.out
                refine (sringOk_is r A' n' cap' true _ hp hpn hok).mono ?_
                rintro e w1 ⟨rfl, hb1⟩
                exact ⟨_, rfl, hK _ _ ⟨⟨hs.below hb1 hs.lt, hc.below hb1, hp.below hb1, bstep hB hB.size hb1⟩, rfl, hb1⟩⟩
              · -- 6: Op.unOp UnOp.not 4 t54
                go_light
                intro L σ W' hcl hL hC hw
                have e5 : σ 5 = .bool true := hw 5 (by kernel_rfl)
                clear hw
                have HC := Lib.hid hC
                clear hC
                clear hcl hL
                refine OpGoes.step fun K hK => ?_
                unfold OpGoes
                go_simp
                obtain ⟨hs, hc, hp, hB⟩ := HC.out
                exact hK _ _ ⟨⟨hs, hc, hp, hB⟩, rfl, Below.refl _ _⟩
              · -- 7: Op.move t55
                go_light
                intro L σ W' hcl hL hC hw
                have e6 : σ 6 = .bool false := hw 6 (by kernel_rfl)
                clear hw
                have HC := Lib.hid hC
                clear hC
                clear hcl hL
                refine OpGoes.step fun K hK => ?_
                unfold OpGoes
                go_simp
                obtain ⟨hs, hc, hp, hB⟩ := HC.out
                exact hK _ _ ⟨⟨hs, hc, hp, hB⟩, rfl, Below.refl _ _⟩
              · -- 8: Op.fieldAddr 75 t1 2   [guarded: some (7, false)]
                go_light
                intro L σ W' hcl hL hC hw
                have e7 : σ 7 = .bool false := hw 7 (by kernel_rfl)
                clear hw
                have HC := Lib.hid hC
                clear hC
                clear hcl hL
                refine OpGoes.step fun K hK => ?_
                unfold OpGoes
                go_simp
                obtain ⟨hs, hc, hp, hB⟩ := HC.out
                exact hK _ _ ⟨⟨hs, hc, hp, hB⟩, rfl, Below.refl _ _⟩
              · -- 9: Op.load 73 t57   [guarded: some (7, false)]
                go_light
                intro L σ W' hcl hL hC hw
                have e7 : σ 7 = .bool false := hw 7 (by kernel_rfl)
                have e8 : σ 8 = .pointer (some ⟨w.heap.size, 2, none⟩) := hw 8 (by kernel_rfl)
                clear hw
                have HC := Lib.hid hC
                obtain ⟨hs, hc, hp, hB⟩ := hC
                have ks := hs.cell
                clear hcl hL
                clear hs hc hp hB
                refine OpGoes.step fun K hK => ?_
                unfold OpGoes
                go_simp
                obtain ⟨hs, hc, hp, hB⟩ := HC.out
                exact hK _ _ ⟨⟨hs, hc, hp, hB⟩, rfl, Below.refl _ _⟩
              · -- 10: Op.move t4   [guarded: some (7, false)]
                go_light
                intro L σ W' hcl hL hC hw
                have e7 : σ 7 = .bool false := hw 7 (by kernel_rfl)
                clear hw
                have HC := Lib.hid hC
                clear hC
                clear hcl hL
                refine OpGoes.step fun K hK => ?_
                unfold OpGoes
                go_simp
                obtain ⟨hs, hc, hp, hB⟩ := HC.out
                exact hK _ _ ⟨⟨hs, hc, hp, hB⟩, rfl, Below.refl _ _⟩
              · -- 11: Op.indexAddr 73 t58 t59   [guarded: some (7, false)]
                go_light
                intro L σ W' hcl hL hC hw
                have e7 : σ 7 = .bool false := hw 7 (by kernel_rfl)
                have e9 : σ 9 = .slice (some ⟨b, 0, none⟩) n cap := hw 9 (by kernel_rfl)
                have e10 : σ 10 = .int .i64 ((i : Int)) := hw 10 (by kernel_rfl)
                clear hw
                have HC := Lib.hid hC
                clear hC
                clear hcl hL
                refine OpGoes.step fun K hK => ?_
                unfold OpGoes
                go_simp
                obtain ⟨hs, hc, hp, hB⟩ := HC.out
                exact hK _ _ ⟨⟨hs, hc, hp, hB⟩, rfl, Below.refl _ _⟩
              · -- 12: Op.fieldAddr 27 t60 4   [guarded: some (7, false)]
                go_light
                intro L σ W' hcl hL hC hw
                have e7 : σ 7 = .bool false := hw 7 (by kernel_rfl)
                have e11 : σ 11 = .pointer (some ⟨b, i * 5, none⟩) := hw 11 (by kernel_rfl)
                clear hw
                have HC := Lib.hid hC
                clear hC
                clear hcl hL
                refine OpGoes.step fun K hK => ?_
                unfold OpGoes
                go_simp
                obtain ⟨hs, hc, hp, hB⟩ := HC.out
                exact hK _ _ ⟨⟨hs, hc, hp, hB⟩, rfl, Below.refl _ _⟩
              · -- 13: Op.load 25 t61   [guarded: some (7, false)]
                go_light
                intro L σ W' hcl hL hC hw
                have e7 : σ 7 = .bool false := hw 7 (by kernel_rfl)
                have e12 : σ 12 = .pointer (some ⟨b, i * 5 + 4, none⟩) := hw 12 (by kernel_rfl)
                clear hw
                have HC := Lib.hid hC
                obtain ⟨hs, hc, hp, hB⟩ := hC
                have hc0 := hc
                obtain ⟨c0, c1, c2, c3, c4⟩ := hc0
                clear hcl hL
                clear hs hc hp hB
                refine OpGoes.step fun K hK => ?_
                unfold OpGoes
                go_simp
                obtain ⟨hs, hc, hp, hB⟩ := HC.out
                exact hK _ _ ⟨⟨hs, hc, hp, hB⟩, rfl, Below.refl _ _⟩
              · -- 14: Op.call { builtin len, args := #[t62], argTypes := #[25] }   [guarded: some (7, false)]
                go_light
                intro L σ W' hcl hL hC hw
                have e7 : σ 7 = .bool false := hw 7 (by kernel_rfl)
                have e13 : σ 13 = .slice A' n' cap' := hw 13 (by kernel_rfl)
                clear hw
                have HC := Lib.hid hC
                clear hC
                clear hcl hL
                refine OpGoes.step fun K hK => ?_
                unfold OpGoes
                go_simp
                obtain ⟨hs, hc, hp, hB⟩ := HC.out
                exact hK _ _ ⟨⟨hs, hc, hp, hB⟩, rfl, Below.refl _ _⟩
              · -- 15: Op.fieldAddr 75 t1 0   [guarded: some (7, false)]
                go_light
                intro L σ W' hcl hL hC hw
                have e7 : σ 7 = .bool false := hw 7 (by kernel_rfl)
                clear hw
                have HC := Lib.hid hC
                clear hC
                clear hcl hL
                refine OpGoes.step fun K hK => ?_
                unfold OpGoes
                go_simp
                obtain ⟨hs, hc, hp, hB⟩ := HC.out
                exact hK _ _ ⟨⟨hs, hc, hp, hB⟩, rfl, Below.refl _ _⟩
              · -- 16: Op.load 2 t64   [guarded: some (7, false)]
                go_light
                intro L σ W' hcl hL hC hw
                have e7 : σ 7 = .bool false := hw 7 (by kernel_rfl)
                have e15 : σ 15 = .pointer (some ⟨w.heap.size, 0, none⟩) := hw 15 (by kernel_rfl)
                clear hw
                have HC := Lib.hid hC
                obtain ⟨hs, hc, hp, hB⟩ := hC
                have ks := hs.cell
                clear hcl hL
                clear hs hc hp hB
                refine OpGoes.step fun K hK => ?_
                unfold OpGoes
                go_simp
                obtain ⟨hs, hc, hp, hB⟩ := HC.out
                exact hK _ _ ⟨⟨hs, hc, hp, hB⟩, rfl, Below.refl _ _⟩
              · -- 17: Op.binOp BinOp.neq 2 t63 t65 2   [guarded: some (7, false)]
                go_light
                intro L σ W' hcl hL hC hw
                have e7 : σ 7 = .bool false := hw 7 (by kernel_rfl)
                have e14 : σ 14 = .int .i64 ((n' : Int)) := hw 14 (by kernel_rfl)
                have e16 : σ 16 = .int .i64 s.rd := hw 16 (by kernel_rfl)
                clear hw
                have HC := Lib.hid hC
                clear hC
                clear hcl hL
                refine OpGoes.step fun K hK => ?_
                unfold OpGoes
                go_simp
                obtain ⟨hs, hc, hp, hB⟩ := HC.out
                exact hK _ _ ⟨⟨hs, hc, hp, hB⟩, rfl, Below.refl _ _⟩
              · -- 18: Op.pick t56 (const (Value.bool true)) t66
                go_light
                intro L σ W' hcl hL hC hw
                have e7 : σ 7 = .bool false := hw 7 (by kernel_rfl)
                have e17 : σ 17 = .bool false := hw 17 (by kernel_rfl)
                clear hw
                have HC := Lib.hid hC
                clear hC
                clear hcl hL
                refine OpGoes.step fun K hK => ?_
                unfold OpGoes
                go_simp
                obtain ⟨hs, hc, hp, hB⟩ := HC.out
                exact hK _ _ ⟨⟨hs, hc, hp, hB⟩, rfl, Below.refl _ _⟩
              · -- 19: Op.move t67
                go_light
                intro L σ W' hcl hL hC hw
                have e18 : σ 18 = .bool false := hw 18 (by kernel_rfl)
                clear hw
                have HC := Lib.hid hC
                clear hC
                clear hcl hL
                refine OpGoes.step fun K hK => ?_
                unfold OpGoes
                go_simp
                obtain ⟨hs, hc, hp, hB⟩ := HC.out
                exact hK _ _ ⟨⟨hs, hc, hp, hB⟩, rfl, Below.refl _ _⟩
              · -- 20: Op.fieldAddr 75 t1 2   [guarded: some (19, false)]
                go_light
                intro L σ W' hcl hL hC hw
                have e19 : σ 19 = .bool false := hw 19 (by kernel_rfl)
                clear hw
                have HC := Lib.hid hC
                clear hC
                clear hcl hL
                refine OpGoes.step fun K hK => ?_
                unfold OpGoes
                go_simp
                obtain ⟨hs, hc, hp, hB⟩ := HC.out
                exact hK _ _ ⟨⟨hs, hc, hp, hB⟩, rfl, Below.refl _ _⟩
              · -- 21: Op.load 73 t69   [guarded: some (19, false)]
                go_light
                intro L σ W' hcl hL hC hw
                have e19 : σ 19 = .bool false := hw 19 (by kernel_rfl)
                have e20 : σ 20 = .pointer (some ⟨w.heap.size, 2, none⟩) := hw 20 (by kernel_rfl)
                clear hw
                have HC := Lib.hid hC
                obtain ⟨hs, hc, hp, hB⟩ := hC
                have ks := hs.cell
                clear hcl hL
                clear hs hc hp hB
                refine OpGoes.step fun K hK => ?_
                unfold OpGoes
                go_simp
                obtain ⟨hs, hc, hp, hB⟩ := HC.out
                exact hK _ _ ⟨⟨hs, hc, hp, hB⟩, rfl, Below.refl _ _⟩
              · -- 22: Op.move t4   [guarded: some (19, false)]
                go_light
                intro L σ W' hcl hL hC hw
                have e19 : σ 19 = .bool false := hw 19 (by kernel_rfl)
                clear hw
                have HC := Lib.hid hC
                clear hC
                clear hcl hL
                refine OpGoes.step fun K hK => ?_
                unfold OpGoes
                go_simp
                obtain ⟨hs, hc, hp, hB⟩ := HC.out
                exact hK _ _ ⟨⟨hs, hc, hp, hB⟩, rfl, Below.refl _ _⟩
              · -- 23: Op.indexAddr 73 t70 t71   [guarded: some (19, false)]
                go_light
                intro L σ W' hcl hL hC hw
                have e19 : σ 19 = .bool false := hw 19 (by kernel_rfl)
                have e21 : σ 21 = .slice (some ⟨b, 0, none⟩) n cap := hw 21 (by kernel_rfl)
                have e22 : σ 22 = .int .i64 ((i : Int)) := hw 22 (by kernel_rfl)
                clear hw
                have HC := Lib.hid hC
                clear hC
                clear hcl hL
                refine OpGoes.step fun K hK => ?_
                unfold OpGoes
                go_simp
                obtain ⟨hs, hc, hp, hB⟩ := HC.out
                exact hK _ _ ⟨⟨hs, hc, hp, hB⟩, rfl, Below.refl _ _⟩
              · -- 24: Op.fieldAddr 27 t72 3   [guarded: some (19, false)]
                go_light
                intro L σ W' hcl hL hC hw
                have e19 : σ 19 = .bool false := hw 19 (by kernel_rfl)
                have e23 : σ 23 = .pointer (some ⟨b, i * 5, none⟩) := hw 23 (by kernel_rfl)
                clear hw
                have HC := Lib.hid hC
                clear hC
                clear hcl hL
                refine OpGoes.step fun K hK => ?_
                unfold OpGoes
                go_simp
                obtain ⟨hs, hc, hp, hB⟩ := HC.out
                exact hK _ _ ⟨⟨hs, hc, hp, hB⟩, rfl, Below.refl _ _⟩
              · -- 25: Op.load 2 t73   [guarded: some (19, false)]
                go_light
                intro L σ W' hcl hL hC hw
                have e19 : σ 19 = .bool false := hw 19 (by kernel_rfl)
                have e24 : σ 24 = .pointer (some ⟨b, i * 5 + 3, none⟩) := hw 24 (by kernel_rfl)
                clear hw
                have HC := Lib.hid hC
                obtain ⟨hs, hc, hp, hB⟩ := hC
                have hc0 := hc
                obtain ⟨c0, c1, c2, c3, c4⟩ := hc0
                clear hcl hL
                clear hs hc hp hB
                refine OpGoes.step fun K hK => ?_
                unfold OpGoes
                go_simp
                obtain ⟨hs, hc, hp, hB⟩ := HC.out
                exact hK _ _ ⟨⟨hs, hc, hp, hB⟩, rfl, Below.refl _ _⟩
              · -- 26: Op.move t3   [guarded: some (19, false)]
                go_light
                intro L σ W' hcl hL hC hw
                have e19 : σ 19 = .bool false := hw 19 (by kernel_rfl)
                clear hw
                have HC := Lib.hid hC
                clear hC
                clear hcl hL
                refine OpGoes.step fun K hK => ?_
                unfold OpGoes
                go_simp
                obtain ⟨hs, hc, hp, hB⟩ := HC.out
                exact hK _ _ ⟨⟨hs, hc, hp, hB⟩, rfl, Below.refl _ _⟩
              · -- 27: Op.binOp BinOp.geq 2 t74 t75 2   [guarded: some (19, false)]
                go_light
                intro L σ W' hcl hL hC hw
                have e19 : σ 19 = .bool false := hw 19 (by kernel_rfl)
                have e25 : σ 25 = .int .i64 r.x := hw 25 (by kernel_rfl)
                have e26 : σ 26 = .int .i64 ((n : Int)) := hw 26 (by kernel_rfl)
                clear hw
                have HC := Lib.hid hC
                clear hC
                clear hcl hL
                refine OpGoes.step fun K hK => ?_
                unfold OpGoes
                go_simp
                obtain ⟨hs, hc, hp, hB⟩ := HC.out
                exact hK _ _ ⟨⟨hs, hc, hp, hB⟩, rfl, Below.refl _ _⟩
              · -- 28: Op.pick t68 (const (Value.bool true)) t76
                go_light
                intro L σ W' hcl hL hC hw
                have e19 : σ 19 = .bool false := hw 19 (by kernel_rfl)
                have e27 : σ 27 = .bool true := hw 27 (by kernel_rfl)
                clear hw
                have HC := Lib.hid hC
                clear hC
                clear hcl hL
                refine OpGoes.step fun K hK => ?_
                unfold OpGoes
                go_simp
                obtain ⟨hs, hc, hp, hB⟩ := HC.out
                exact hK _ _ ⟨⟨hs, hc, hp, hB⟩, rfl, Below.refl _ _⟩
              · intro σ L W' hall hC hR
                obtain ⟨hs, hc, hp, hB⟩ := hC
                have e28 : σ 28 = .bool true := hR 28 (by decide)
                clear hR
                simp only [lexAll]
                go_simp
                go_step
                go_meet
                exact ⟨hs, hB, rfl⟩
            case rest =>
              obtain ⟨hs, hB, rfl⟩ := hcut
              go_wp2
              go_ret
              exact .mk (by rw [stOk_ring HRI.out (by simp [inSt, HL.out]; omega)]; rfl) hB
          · have hge' : decide ((n : Int) ≤ r.x) = false := by simpa using hge
            go_upto_region 7 with fail
            go_cut [77] (fun u77 W' => BoxAt W' w.heap.size #[.int .i64 s.rd, .int .i64 s.mo, .slice (some ⟨b, 0, none⟩) n cap, .int .i64 s.fi, .int .i64 s.la] 75 ∧ Below w.heap.size w W' ∧ u77 = .bool false)
            case first =>
              refine wp_region2 (fun w w' => Below w.heap.size w w') (fun _ _ h => h.size) (fun L W' => BoxAt W' w.heap.size #[.int .i64 s.rd, .int .i64 s.mo, .slice (some ⟨b, 0, none⟩) n cap, .int .i64 s.fi, .int .i64 s.la] 75 ∧ RgC W' b i r A' n' cap' ∧ PlsR 0 W' A' n' r.ps ∧ Below w.heap.size w W') (stDR s w.heap.size b i n cap r A' n' cap') stDK stDS (by kernel_rfl) (by kernel_rfl) ?_ ?_ ?_
                (.grow rfl ?_ <| .grow rfl ?_ <| .grow rfl ?_ <| .grow rfl ?_ <| .grow rfl ?_ <| .grow rfl ?_ <| .grow rfl ?_ <| .grow rfl ?_ <| .grow rfl ?_ <| .grow rfl ?_ <| .grow rfl ?_ <| .grow rfl ?_ <| .grow rfl ?_ <| .grow rfl ?_ <| .grow rfl ?_ <| .grow rfl ?_ <| .grow rfl ?_ <| .grow rfl ?_ <| .grow rfl ?_ <| .grow rfl ?_ <| .grow rfl ?_ <| .grow rfl ?_ <| .grow rfl ?_ <| .grow rfl ?_ <| .grow rfl ?_ <| .grow rfl ?_ <| .grow rfl ?_ <| .grow rfl ?_ <| .grow rfl ?_ <| .nil) ?_
              · intro j σ τ w h hR
                match j, h, hR with
                | 0, h, hR => exact (h 0 (List.mem_singleton.2 rfl)).symm.trans hR
                | 1, h, hR => exact (h 1 (List.mem_singleton.2 rfl)).symm.trans hR
                | 2, h, hR => exact (h 2 (List.mem_singleton.2 rfl)).symm.trans hR
                | 3, h, hR => exact (h 3 (List.mem_singleton.2 rfl)).symm.trans hR
                | 4, h, hR => exact (h 4 (List.mem_singleton.2 rfl)).symm.trans hR
                | 5, h, hR => exact (h 5 (List.mem_singleton.2 rfl)).symm.trans hR
                | 6, h, hR => exact (h 6 (List.mem_singleton.2 rfl)).symm.trans hR
                | 7, h, hR => exact (h 7 (List.mem_singleton.2 rfl)).symm.trans hR
                | 8, h, hR => exact (h 8 (List.mem_singleton.2 rfl)).symm.trans hR
                | 9, h, hR => exact (h 9 (List.mem_singleton.2 rfl)).symm.trans hR
                | 10, h, hR => exact (h 10 (List.mem_singleton.2 rfl)).symm.trans hR
                | 11, h, hR => exact (h 11 (List.mem_singleton.2 rfl)).symm.trans hR
                | 12, h, hR => exact (h 12 (List.mem_singleton.2 rfl)).symm.trans hR
                | 13, h, hR => exact (h 13 (List.mem_singleton.2 rfl)).symm.trans hR
                | 14, h, hR => exact (h 14 (List.mem_singleton.2 rfl)).symm.trans hR
                | 15, h, hR => exact (h 15 (List.mem_singleton.2 rfl)).symm.trans hR
                | 16, h, hR => exact (h 16 (List.mem_singleton.2 rfl)).symm.trans hR
                | 17, h, hR => exact (h 17 (List.mem_singleton.2 rfl)).symm.trans hR
                | 18, h, hR => exact (h 18 (List.mem_singleton.2 rfl)).symm.trans hR
                | 19, h, hR => exact (h 19 (List.mem_singleton.2 rfl)).symm.trans hR
                | 20, h, hR => exact (h 20 (List.mem_singleton.2 rfl)).symm.trans hR
                | 21, h, hR => exact (h 21 (List.mem_singleton.2 rfl)).symm.trans hR
                | 22, h, hR => exact (h 22 (List.mem_singleton.2 rfl)).symm.trans hR
                | 23, h, hR => exact (h 23 (List.mem_singleton.2 rfl)).symm.trans hR
                | 24, h, hR => exact (h 24 (List.mem_singleton.2 rfl)).symm.trans hR
                | 25, h, hR => exact (h 25 (List.mem_singleton.2 rfl)).symm.trans hR
                | 26, h, hR => exact (h 26 (List.mem_singleton.2 rfl)).symm.trans hR
                | 27, h, hR => exact (h 27 (List.mem_singleton.2 rfl)).symm.trans hR
                | 28, h, hR => exact (h 28 (List.mem_singleton.2 rfl)).symm.trans hR
                | _ + 29, _, _ => exact trivial
              · intro j σ w w' hb hR
                match j, hR with
                | 0, hR => exact hR
                | 1, hR => exact hR
                | 2, hR => exact hR
                | 3, hR => exact hR
                | 4, hR => exact hR
                | 5, hR => exact hR
                | 6, hR => exact hR
                | 7, hR => exact hR
                | 8, hR => exact hR
                | 9, hR => exact hR
                | 10, hR => exact hR
                | 11, hR => exact hR
                | 12, hR => exact hR
                | 13, hR => exact hR
                | 14, hR => exact hR
                | 15, hR => exact hR
                | 16, hR => exact hR
                | 17, hR => exact hR
                | 18, hR => exact hR
                | 19, hR => exact hR
                | 20, hR => exact hR
                | 21, hR => exact hR
                | 22, hR => exact hR
                | 23, hR => exact hR
                | 24, hR => exact hR
                | 25, hR => exact hR
                | 26, hR => exact hR
                | 27, hR => exact hR
                | 28, hR => exact hR
                | _ + 29, _ => exact trivial
              · exact ⟨hs, hc, hp, hB.drew⟩
              · -- 0: Op.fieldAddr 75 t1 2
                go_light
                intro L σ W' hcl hL hC hw
                clear hw
                have HC := Lib.hid hC
                clear hC
                clear hcl hL
                refine OpGoes.step fun K hK => ?_
                unfold OpGoes
                go_simp
                obtain ⟨hs, hc, hp, hB⟩ := HC.out
                exact hK _ _ ⟨⟨hs, hc, hp, hB⟩, rfl, Below.refl _ _⟩
              · -- 1: Op.load 73 t49
                go_light
                intro L σ W' hcl hL hC hw
                have e0 : σ 0 = .pointer (some ⟨w.heap.size, 2, none⟩) := hw 0 (by kernel_rfl)
                clear hw
                have HC := Lib.hid hC
                obtain ⟨hs, hc, hp, hB⟩ := hC
                have ks := hs.cell
                clear hcl hL
                clear hs hc hp hB
                refine OpGoes.step fun K hK => ?_
                unfold OpGoes
                go_simp
                obtain ⟨hs, hc, hp, hB⟩ := HC.out
                exact hK _ _ ⟨⟨hs, hc, hp, hB⟩, rfl, Below.refl _ _⟩
              · -- 2: Op.move t4
                go_light
                intro L σ W' hcl hL hC hw
                clear hw
                have HC := Lib.hid hC
                clear hC
                clear hcl hL
                refine OpGoes.step fun K hK => ?_
                unfold OpGoes
                go_simp
                obtain ⟨hs, hc, hp, hB⟩ := HC.out
                exact hK _ _ ⟨⟨hs, hc, hp, hB⟩, rfl, Below.refl _ _⟩
              · -- 3: Op.indexAddr 73 t50 t51
                go_light
                intro L σ W' hcl hL hC hw
                have e1 : σ 1 = .slice (some ⟨b, 0, none⟩) n cap := hw 1 (by kernel_rfl)
                have e2 : σ 2 = .int .i64 ((i : Int)) := hw 2 (by kernel_rfl)
                clear hw
                have HC := Lib.hid hC
                clear hC
                clear hcl hL
                refine OpGoes.step fun K hK => ?_
                unfold OpGoes
                go_simp
                obtain ⟨hs, hc, hp, hB⟩ := HC.out
                exact hK _ _ ⟨⟨hs, hc, hp, hB⟩, rfl, Below.refl _ _⟩
              · -- 4: Op.load 27 t52
                go_light
                intro L σ W' hcl hL hC hw
                have e3 : σ 3 = .pointer (some ⟨b, i * 5, none⟩) := hw 3 (by kernel_rfl)
                clear hw
                have HC := Lib.hid hC
                obtain ⟨hs, hc, hp, hB⟩ := hC
                have hc0 := hc
                obtain ⟨c0, c1, c2, c3, c4⟩ := hc0
                clear hcl hL
                clear hs hc hp hB
                refine OpGoes.step fun K hK => ?_
                unfold OpGoes
                go_simp
                obtain ⟨hs, hc, hp, hB⟩ := HC.out
                exact hK _ _ ⟨⟨hs, hc, hp, hB⟩, rfl, Below.refl _ _⟩
              · -- 5: Op.call { value (Operand.func 15), args := #[t53], argTypes := #[27] }
                go_light
                intro L σ W' hcl hL hC hw
                have e4 : σ 4 = .agg #[.int .i64 r.h, .int .i64 r.t, .bool r.c, .int .i64 r.x, .slice A' n' cap'] := hw 4 (by kernel_rfl)
                clear hw
                have HC := Lib.hid hC
                clear hC
                clear hcl hL
                refine OpGoes.step fun K hK => ?_
                unfold OpGoes
                go_simp
                obtain ⟨hs, hc, hp, hB⟩ := HC.out
                refine (sringOk_is r A' n' cap' true _ hp hpn hok).mono ?_
                rintro e w1 ⟨rfl, hb1⟩
                exact ⟨_, rfl, hK _ _ ⟨⟨hs.below hb1 hs.lt, hc.below hb1, hp.below hb1, bstep hB hB.size hb1⟩, rfl, hb1⟩⟩
              · -- 6: Op.unOp UnOp.not 4 t54
                go_light
                intro L σ W' hcl hL hC hw
                have e5 : σ 5 = .bool true := hw 5 (by kernel_rfl)
                clear hw
                have HC := Lib.hid hC
                clear hC
                clear hcl hL
                refine OpGoes.step fun K hK => ?_
                unfold OpGoes
                go_simp
                obtain ⟨hs, hc, hp, hB⟩ := HC.out
                exact hK _ _ ⟨⟨hs, hc, hp, hB⟩, rfl, Below.refl _ _⟩
              · -- 7: Op.move t55
                go_light
                intro L σ W' hcl hL hC hw
                have e6 : σ 6 = .bool false := hw 6 (by kernel_rfl)
                clear hw
                have HC := Lib.hid hC
                clear hC
                clear hcl hL
                refine OpGoes.step fun K hK => ?_
                unfold OpGoes
                go_simp
                obtain ⟨hs, hc, hp, hB⟩ := HC.out
                exact hK _ _ ⟨⟨hs, hc, hp, hB⟩, rfl, Below.refl _ _⟩
              · -- 8: Op.fieldAddr 75 t1 2   [guarded: some (7, false)]
                go_light
                intro L σ W' hcl hL hC hw
                have e7 : σ 7 = .bool false := hw 7 (by kernel_rfl)
                clear hw
                have HC := Lib.hid hC
                clear hC
                clear hcl hL
                refine OpGoes.step fun K hK => ?_
                unfold OpGoes
                go_simp
                obtain ⟨hs, hc, hp, hB⟩ := HC.out
                exact hK _ _ ⟨⟨hs, hc, hp, hB⟩, rfl, Below.refl _ _⟩
              · -- 9: Op.load 73 t57   [guarded: some (7, false)]
                go_light
                intro L σ W' hcl hL hC hw
                have e7 : σ 7 = .bool false := hw 7 (by kernel_rfl)
                have e8 : σ 8 = .pointer (some ⟨w.heap.size, 2, none⟩) := hw 8 (by kernel_rfl)
                clear hw
                have HC := Lib.hid hC
                obtain ⟨hs, hc, hp, hB⟩ := hC
                have ks := hs.cell
                clear hcl hL
                clear hs hc hp hB
                refine OpGoes.step fun K hK => ?_
                unfold OpGoes
                go_simp
                obtain ⟨hs, hc, hp, hB⟩ := HC.out
                exact hK _ _ ⟨⟨hs, hc, hp, hB⟩, rfl, Below.refl _ _⟩
              · -- 10: Op.move t4   [guarded: some (7, false)]
                go_light
                intro L σ W' hcl hL hC hw
                have e7 : σ 7 = .bool false := hw 7 (by kernel_rfl)
                clear hw
                have HC := Lib.hid hC
                clear hC
                clear hcl hL
                refine OpGoes.step fun K hK => ?_
                unfold OpGoes
                go_simp
                obtain ⟨hs, hc, hp, hB⟩ := HC.out
                exact hK _ _ ⟨⟨hs, hc, hp, hB⟩, rfl, Below.refl _ _⟩
              · -- 11: Op.indexAddr 73 t58 t59   [guarded: some (7, false)]
                go_light
                intro L σ W' hcl hL hC hw
                have e7 : σ 7 = .bool false := hw 7 (by kernel_rfl)
                have e9 : σ 9 = .slice (some ⟨b, 0, none⟩) n cap := hw 9 (by kernel_rfl)
                have e10 : σ 10 = .int .i64 ((i : Int)) := hw 10 (by kernel_rfl)
                clear hw
                have HC := Lib.hid hC
                clear hC
                clear hcl hL
                refine OpGoes.step fun K hK => ?_
                unfold OpGoes
                go_simp
                obtain ⟨hs, hc, hp, hB⟩ := HC.out
                exact hK _ _ ⟨⟨hs, hc, hp, hB⟩, rfl, Below.refl _ _⟩
              · -- 12: Op.fieldAddr 27 t60 4   [guarded: some (7, false)]
                go_light
                intro L σ W' hcl hL hC hw
                have e7 : σ 7 = .bool false := hw 7 (by kernel_rfl)
                have e11 : σ 11 = .pointer (some ⟨b, i * 5, none⟩) := hw 11 (by kernel_rfl)
                clear hw
                have HC := Lib.hid hC
                clear hC
                clear hcl hL
                refine OpGoes.step fun K hK => ?_
                unfold OpGoes
                go_simp
                obtain ⟨hs, hc, hp, hB⟩ := HC.out
                exact hK _ _ ⟨⟨hs, hc, hp, hB⟩, rfl, Below.refl _ _⟩
              · -- 13: Op.load 25 t61   [guarded: some (7, false)]
                go_light
                intro L σ W' hcl hL hC hw
                have e7 : σ 7 = .bool false := hw 7 (by kernel_rfl)
                have e12 : σ 12 = .pointer (some ⟨b, i * 5 + 4, none⟩) := hw 12 (by kernel_rfl)
                clear hw
                have HC := Lib.hid hC
                obtain ⟨hs, hc, hp, hB⟩ := hC
                have hc0 := hc
                obtain ⟨c0, c1, c2, c3, c4⟩ := hc0
                clear hcl hL
                clear hs hc hp hB
                refine OpGoes.step fun K hK => ?_
                unfold OpGoes
                go_simp
                obtain ⟨hs, hc, hp, hB⟩ := HC.out
                exact hK _ _ ⟨⟨hs, hc, hp, hB⟩, rfl, Below.refl _ _⟩
              · -- 14: Op.call { builtin len, args := #[t62], argTypes := #[25] }   [guarded: some (7, false)]
                go_light
                intro L σ W' hcl hL hC hw
                have e7 : σ 7 = .bool false := hw 7 (by kernel_rfl)
                have e13 : σ 13 = .slice A' n' cap' := hw 13 (by kernel_rfl)
                clear hw
                have HC := Lib.hid hC
                clear hC
                clear hcl hL
                refine OpGoes.step fun K hK => ?_
                unfold OpGoes
                go_simp
                obtain ⟨hs, hc, hp, hB⟩ := HC.out
                exact hK _ _ ⟨⟨hs, hc, hp, hB⟩, rfl, Below.refl _ _⟩
              · -- 15: Op.fieldAddr 75 t1 0   [guarded: some (7, false)]
                go_light
                intro L σ W' hcl hL hC hw
                have e7 : σ 7 = .bool false := hw 7 (by kernel_rfl)
                clear hw
                have HC := Lib.hid hC
                clear hC
                clear hcl hL
                refine OpGoes.step fun K hK => ?_
                unfold OpGoes
                go_simp
                obtain ⟨hs, hc, hp, hB⟩ := HC.out
                exact hK _ _ ⟨⟨hs, hc, hp, hB⟩, rfl, Below.refl _ _⟩
              · -- 16: Op.load 2 t64   [guarded: some (7, false)]
                go_light
                intro L σ W' hcl hL hC hw
                have e7 : σ 7 = .bool false := hw 7 (by kernel_rfl)
                have e15 : σ 15 = .pointer (some ⟨w.heap.size, 0, none⟩) := hw 15 (by kernel_rfl)
                clear hw
                have HC := Lib.hid hC
                obtain ⟨hs, hc, hp, hB⟩ := hC
                have ks := hs.cell
                clear hcl hL
                clear hs hc hp hB
                refine OpGoes.step fun K hK => ?_
                unfold OpGoes
                go_simp
                obtain ⟨hs, hc, hp, hB⟩ := HC.out
                exact hK _ _ ⟨⟨hs, hc, hp, hB⟩, rfl, Below.refl _ _⟩
              · -- 17: Op.binOp BinOp.neq 2 t63 t65 2   [guarded: some (7, false)]
                go_light
                intro L σ W' hcl hL hC hw
                have e7 : σ 7 = .bool false := hw 7 (by kernel_rfl)
                have e14 : σ 14 = .int .i64 ((n' : Int)) := hw 14 (by kernel_rfl)
                have e16 : σ 16 = .int .i64 s.rd := hw 16 (by kernel_rfl)
                clear hw
                have HC := Lib.hid hC
                clear hC
                clear hcl hL
                refine OpGoes.step fun K hK => ?_
                unfold OpGoes
                go_simp
                obtain ⟨hs, hc, hp, hB⟩ := HC.out
                exact hK _ _ ⟨⟨hs, hc, hp, hB⟩, rfl, Below.refl _ _⟩
              · -- 18: Op.pick t56 (const (Value.bool true)) t66
                go_light
                intro L σ W' hcl hL hC hw
                have e7 : σ 7 = .bool false := hw 7 (by kernel_rfl)
                have e17 : σ 17 = .bool false := hw 17 (by kernel_rfl)
                clear hw
                have HC := Lib.hid hC
                clear hC
                clear hcl hL
                refine OpGoes.step fun K hK => ?_
                unfold OpGoes
                go_simp
                obtain ⟨hs, hc, hp, hB⟩ := HC.out
                exact hK _ _ ⟨⟨hs, hc, hp, hB⟩, rfl, Below.refl _ _⟩
              · -- 19: Op.move t67
                go_light
                intro L σ W' hcl hL hC hw
                have e18 : σ 18 = .bool false := hw 18 (by kernel_rfl)
                clear hw
                have HC := Lib.hid hC
                clear hC
                clear hcl hL
                refine OpGoes.step fun K hK => ?_
                unfold OpGoes
                go_simp
                obtain ⟨hs, hc, hp, hB⟩ := HC.out
                exact hK _ _ ⟨⟨hs, hc, hp, hB⟩, rfl, Below.refl _ _⟩
              · -- 20: Op.fieldAddr 75 t1 2   [guarded: some (19, false)]
                go_light
                intro L σ W' hcl hL hC hw
                have e19 : σ 19 = .bool false := hw 19 (by kernel_rfl)
                clear hw
                have HC := Lib.hid hC
                clear hC
                clear hcl hL
                refine OpGoes.step fun K hK => ?_
                unfold OpGoes
                go_simp
                obtain ⟨hs, hc, hp, hB⟩ := HC.out
                exact hK _ _ ⟨⟨hs, hc, hp, hB⟩, rfl, Below.refl _ _⟩
              · -- 21: Op.load 73 t69   [guarded: some (19, false)]
                go_light
                intro L σ W' hcl hL hC hw
                have e19 : σ 19 = .bool false := hw 19 (by kernel_rfl)
                have e20 : σ 20 = .pointer (some ⟨w.heap.size, 2, none⟩) := hw 20 (by kernel_rfl)
                clear hw
                have HC := Lib.hid hC
                obtain ⟨hs, hc, hp, hB⟩ := hC
                have ks := hs.cell
                clear hcl hL
                clear hs hc hp hB
                refine OpGoes.step fun K hK => ?_
                unfold OpGoes
                go_simp
                obtain ⟨hs, hc, hp, hB⟩ := HC.out
                exact hK _ _ ⟨⟨hs, hc, hp, hB⟩, rfl, Below.refl _ _⟩
              · -- 22: Op.move t4   [guarded: some (19, false)]
                go_light
                intro L σ W' hcl hL hC hw
                have e19 : σ 19 = .bool false := hw 19 (by kernel_rfl)
                clear hw
                have HC := Lib.hid hC
                clear hC
                clear hcl hL
                refine OpGoes.step fun K hK => ?_
                unfold OpGoes
                go_simp
                obtain ⟨hs, hc, hp, hB⟩ := HC.out
                exact hK _ _ ⟨⟨hs, hc, hp, hB⟩, rfl, Below.refl _ _⟩
              · -- 23: Op.indexAddr 73 t70 t71   [guarded: some (19, false)]
                go_light
                intro L σ W' hcl hL hC hw
                have e19 : σ 19 = .bool false := hw 19 (by kernel_rfl)
                have e21 : σ 21 = .slice (some ⟨b, 0, none⟩) n cap := hw 21 (by kernel_rfl)
                have e22 : σ 22 = .int .i64 ((i : Int)) := hw 22 (by kernel_rfl)
                clear hw
                have HC := Lib.hid hC
                clear hC
                clear hcl hL
                refine OpGoes.step fun K hK => ?_
                unfold OpGoes
                go_simp
                obtain ⟨hs, hc, hp, hB⟩ := HC.out
                exact hK _ _ ⟨⟨hs, hc, hp, hB⟩, rfl, Below.refl _ _⟩
              · -- 24: Op.fieldAddr 27 t72 3   [guarded: some (19, false)]
                go_light
                intro L σ W' hcl hL hC hw
                have e19 : σ 19 = .bool false := hw 19 (by kernel_rfl)
                have e23 : σ 23 = .pointer (some ⟨b, i * 5, none⟩) := hw 23 (by kernel_rfl)
                clear hw
                have HC := Lib.hid hC
                clear hC
                clear hcl hL
                refine OpGoes.step fun K hK => ?_
                unfold OpGoes
                go_simp
                obtain ⟨hs, hc, hp, hB⟩ := HC.out
                exact hK _ _ ⟨⟨hs, hc, hp, hB⟩, rfl, Below.refl _ _⟩
              · -- 25: Op.load 2 t73   [guarded: some (19, false)]
                go_light
                intro L σ W' hcl hL hC hw
                have e19 : σ 19 = .bool false := hw 19 (by kernel_rfl)
                have e24 : σ 24 = .pointer (some ⟨b, i * 5 + 3, none⟩) := hw 24 (by kernel_rfl)
                clear hw
                have HC := Lib.hid hC
                obtain ⟨hs, hc, hp, hB⟩ := hC
                have hc0 := hc
                obtain ⟨c0, c1, c2, c3, c4⟩ := hc0
                clear hcl hL
                clear hs hc hp hB
                refine OpGoes.step fun K hK => ?_
                unfold OpGoes
                go_simp
                obtain ⟨hs, hc, hp, hB⟩ := HC.out
                exact hK _ _ ⟨⟨hs, hc, hp, hB⟩, rfl, Below.refl _ _⟩
              · -- 26: Op.move t3   [guarded: some (19, false)]
                go_light
                intro L σ W' hcl hL hC hw
                have e19 : σ 19 = .bool false := hw 19 (by kernel_rfl)
                clear hw
                have HC := Lib.hid hC
                clear hC
                clear hcl hL
                refine OpGoes.step fun K hK => ?_
                unfold OpGoes
                go_simp
                obtain ⟨hs, hc, hp, hB⟩ := HC.out
                exact hK _ _ ⟨⟨hs, hc, hp, hB⟩, rfl, Below.refl _ _⟩
              · -- 27: Op.binOp BinOp.geq 2 t74 t75 2   [guarded: some (19, false)]
                go_light
                intro L σ W' hcl hL hC hw
                have e19 : σ 19 = .bool false := hw 19 (by kernel_rfl)
                have e25 : σ 25 = .int .i64 r.x := hw 25 (by kernel_rfl)
                have e26 : σ 26 = .int .i64 ((n : Int)) := hw 26 (by kernel_rfl)
                clear hw
                have HC := Lib.hid hC
                clear hC
                clear hcl hL
                refine OpGoes.step fun K hK => ?_
                unfold OpGoes
                go_simp
                obtain ⟨hs, hc, hp, hB⟩ := HC.out
                exact hK _ _ ⟨⟨hs, hc, hp, hB⟩, rfl, Below.refl _ _⟩
              · -- 28: Op.pick t68 (const (Value.bool true)) t76
                go_light
                intro L σ W' hcl hL hC hw
                have e19 : σ 19 = .bool false := hw 19 (by kernel_rfl)
                have e27 : σ 27 = .bool false := hw 27 (by kernel_rfl)
                clear hw
                have HC := Lib.hid hC
                clear hC
                clear hcl hL
                refine OpGoes.step fun K hK => ?_
                unfold OpGoes
                go_simp
                obtain ⟨hs, hc, hp, hB⟩ := HC.out
                exact hK _ _ ⟨⟨hs, hc, hp, hB⟩, rfl, Below.refl _ _⟩
              · intro σ L W' hall hC hR
                obtain ⟨hs, hc, hp, hB⟩ := hC
                have e28 : σ 28 = .bool false := hR 28 (by decide)
                clear hR
                simp only [lexAll]
                go_simp
                go_step
                go_meet
                exact ⟨hs, hB, rfl⟩
            case rest =>
              obtain ⟨hs, hB, rfl⟩ := hcut
              clear hq hok hq' hge'
              go_wp2
              go_roundw
              case rel =>
                refine ⟨i + 1, by omega, by go_num, hB, hs, fun j r' hj hr' => ?_⟩
                by_cases hji : j < i
                · exact HAL.out j r' hji hr'
                · obtain rfl : j = i := by omega
                  obtain rfl : r = r' := by have := HRI.out; rw [hr'] at this; injection this with this; exact this.symm
                  have := HQ.out
                  simp only [inSt, HOK.out, HPL.out, this, Bool.true_and, decide_eq_true_eq]
                  omega
              case measure => simp [intOf]; omega
    · have g1 : ¬ (i : Int) < (n : Int) := by omega
      obtain rfl : n = i := by omega
      have HIN := Lib.hid (show s.rs.all (inSt s.rd s.rs.length) = true by
        rw [List.all_eq_true]
        intro r hr
        obtain ⟨j, hj⟩ := List.mem_iff_getElem?.1 hr
        rw [HL.out]
        exact HAL.out j r (by have := (List.getElem?_eq_some_iff.1 hj).1; rw [HL.out] at this; exact this) hj)
      have HXX := Lib.hid (show ∀ r ∈ s.rs, r.x < n by
        intro r hr
        have := List.all_eq_true.1 HIN.out r hr
        simp [inSt, HL.out] at this
        exact this.2)
      clear HAL hlt g1
      go_wp2
      go_loopw [5] (fun s5 W => ∃ k : Nat, k ≤ n ∧ s5 = .int .i64 k ∧ Below w.heap.size w W ∧ BoxAt W w.heap.size #[.int .i64 s.rd, .int .i64 s.mo, .slice (some ⟨b, 0, none⟩) n cap, .int .i64 s.fi, .int .i64 s.la] 75 ∧ ∀ j : Nat, j < k → (chain s.rs n (j : Int)).isSome = true) (fun s5 _ => n - (intOf s5).toNat)
      case atStart => exact ⟨0, Nat.zero_le _, rfl, hB, hs, fun j h => absurd h (by omega)⟩
      case round =>
        clear ks hB hs
        obtain ⟨k, hk, rfl, hB, hs, hal⟩ := hrel
        have HAL := Lib.hid hal; clear hal
        have ks := hs.cell
        by_cases hlt : k < n
        · have g1 : (k : Int) < (n : Int) := by omega
          have g2 : (0 : Int) ≤ (k : Int) := by omega
          go_wp2_with fail
          refine (l3Chain_any s (some ⟨b, 0, none⟩) n cap k lo hi _ (hr0.below hB hh) (Nat.le_trans hh hB.size) hm (by omega) HXX.out).mono ?_
          rintro e w1 ⟨v, rfl, _, hb1⟩
          have hs1 := hs.below hb1 hs.lt
          have hB1 := bstep hB hB.size hb1
          clear ks hs hB hb1
          cases hch : (chain s.rs n (k : Int)).isSome
          · go_wp2
            go_ret
            exact .mk (by rw [stOk_chain (i := k) (by rw [HL.out]; exact hlt) (by rw [HL.out]; exact hch)]; rfl) hB1
          · have HCH := Lib.hid hch; clear hch
            go_wp2
            go_roundw
            case rel =>
              refine ⟨k + 1, by omega, by go_num, hB1, hs1, fun j hj => ?_⟩
              by_cases hjk : j < k
              · exact HAL.out j hjk
              · obtain rfl : j = k := by omega
                exact HCH.out
            case measure => simp [intOf]; omega
        · have g1 : ¬ (k : Int) < (n : Int) := by omega
          obtain rfl : n = k := by omega
          have HOK := Lib.hid (show stOk s = true by
            simp only [stOk, HH.out, HIN.out, Bool.true_and, List.all_eq_true]
            intro j hj
            rw [HL.out] at hj ⊢
            exact HAL.out j (List.mem_range.1 hj))
          go_wp2
          go_ret
          exact .mk (by rw [HOK.out]; rfl) hB

end Go.Proofs.Ytbdgkmamieagfaa

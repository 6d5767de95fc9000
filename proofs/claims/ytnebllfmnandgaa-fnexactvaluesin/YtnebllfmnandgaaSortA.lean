/-
  Places sorted by their number: as the program's library does it, step by step; what comes of it as a plain function.
-/
import Derived.Test.YtnebllfmnandgaaLawB
import Derived.Test.YtnebllfmnandgaaGrowA
import Derived.Deep.Light
namespace Go.Proofs.Ytnebllfmnandgaa
open Go.RowKit
set_option linter.unusedVariables false
attribute [local go_sem] OpUpon
attribute [local go_sem ↓] Go.wp_at_zero Go.wp_at_succ

/-- Place number j goes down as long as the one ahead of it has a greater number. -/
def sinkP : Nat → List Pl → List Pl
  | 0, l => l
  | j + 1, l => match l[j + 1]?, l[j]? with
    | some p, some q => if p.n < q.n then sinkP j ((l.set (j + 1) q).set j p) else l
    | _, _ => l
theorem sinkP_lt {l : List Pl} {j : Nat} {p q : Pl} (hp : l[j + 1]? = some p) (hq : l[j]? = some q) (h : p.n < q.n) : sinkP (j + 1) l = sinkP j ((l.set (j + 1) q).set j p) := by
  conv => lhs; unfold sinkP
  simp only [hp, hq, h, if_true]
theorem sinkP_ge {l : List Pl} {j : Nat} {p q : Pl} (hp : l[j + 1]? = some p) (hq : l[j]? = some q) (h : ¬ p.n < q.n) : sinkP (j + 1) l = l := by
  unfold sinkP
  simp only [hp, hq, h, if_false]
theorem sinkP_len : ∀ (j : Nat) (l : List Pl), (sinkP j l).length = l.length
  | 0, _ => rfl
  | j + 1, l => by
    unfold sinkP
    split
    · split
      · rw [sinkP_len j]; simp
      · rfl
    · rfl
/-- Sorted as far as place number k. -/
def sortTo (l : List Pl) : Nat → List Pl
  | 0 => l
  | k + 1 => if k = 0 then l else sinkP k (sortTo l k)
theorem sortTo_one (l : List Pl) : sortTo l 1 = l := by simp [sortTo]
theorem sortTo_succ (l : List Pl) {k : Nat} (h : 1 ≤ k) : sortTo l (k + 1) = sinkP k (sortTo l k) := by
  conv => lhs; unfold sortTo
  rw [if_neg (by omega)]
theorem sortTo_len (l : List Pl) : ∀ k : Nat, (sortTo l k).length = l.length
  | 0 => rfl
  | k + 1 => by
    unfold sortTo
    split
    · rfl
    · rw [sinkP_len, sortTo_len l k]

def cmpI (a b : Int) : Int := if a < b then -1 else if b < a then 1 else 0
theorem cmpI_lt (a b : Int) : decide (cmpI a b < 0) = decide (a < b) := by
  unfold cmpI
  split
  · rename_i h; simp [h]
  · split
    · rename_i h h'; simp [h]
    · rename_i h h'; simp [h]

set_option maxHeartbeats 400000 in
theorem isNaN_any (z : Int) (w : World) : Calls Try.prog 111 #[.int .i64 z] w (Quiet1 (.bool false) w) := by
  go_enter Try.func111, Try.ntmps111
  go_wp2
  go_ret
  exact ⟨by simp, rfl⟩

set_option maxHeartbeats 400000 in
theorem compare_any (a b : Int) (w : World) : Calls Try.prog 94 #[.int .i64 a, .int .i64 b] w (Quiet1 (.int .i64 (cmpI a b)) w) := by
  by_cases h1 : a < b
  · have HC := Lib.hid (show cmpI a b = -1 by simp [cmpI, h1])
    go_enter Try.func94, Try.ntmps94
    go_wp2_with fail
    refine (isNaN_any _ _).mono ?_
    rintro e w' ⟨rfl, rfl⟩
    go_wp2_with fail
    refine (isNaN_any _ _).mono ?_
    rintro e w' ⟨rfl, rfl⟩
    go_wp2
    go_ret
    exact ⟨by rw [HC.out]; rfl, rfl⟩
  · by_cases h2 : b < a
    · have HC := Lib.hid (show cmpI a b = 1 by simp [cmpI, h1, h2])
      have h1' : b ≤ a := by omega
      go_enter Try.func94, Try.ntmps94
      go_wp2_with fail
      refine (isNaN_any _ _).mono ?_
      rintro e w' ⟨rfl, rfl⟩
      go_wp2_with fail
      refine (isNaN_any _ _).mono ?_
      rintro e w' ⟨rfl, rfl⟩
      go_wp2
      go_ret
      exact ⟨by rw [HC.out]; rfl, rfl⟩
    · have HC := Lib.hid (show cmpI a b = 0 by simp [cmpI, h1, h2])
      go_enter Try.func94, Try.ntmps94
      go_wp2_with fail
      refine (isNaN_any _ _).mono ?_
      rintro e w' ⟨rfl, rfl⟩
      go_wp2_with fail
      refine (isNaN_any _ _).mono ?_
      rintro e w' ⟨rfl, rfl⟩
      go_wp2
      go_ret
      exact ⟨by rw [HC.out]; rfl, rfl⟩

set_option maxHeartbeats 400000 in
theorem byNo_any (p q : Pl) (w : World) : Calls Try.prog 85 #[.agg #[.bool p.s, .int .i64 p.n, .bool p.f, .int .i64 p.v], .agg #[.bool q.s, .int .i64 q.n, .bool q.f, .int .i64 q.v]] w (RetBelow (.int .i64 (cmpI p.n q.n)) w) := by
  go_enter Try.func85, Try.ntmps85
  go_wp2_with fail
  refine (compare_any _ _ _).mono ?_
  rintro e w' ⟨rfl, rfl⟩
  go_wp2
  go_ret
  exact .mk rfl (((Below.refl _ _).alloc (Nat.le_refl _) _).alloc (by simp) _)

theorem pls_at {lo : Nat} {w : World} {g n cap : Nat} {l : List Pl} (h : PlsO lo w g n cap l) {i : Nat} {p : Pl} (hp : l[i]? = some p) :
    w.cell? ⟨g, i * 4, none⟩ = some (.bool p.s) ∧ w.cell? ⟨g, i * 4 + 1, none⟩ = some (.int .i64 p.n) ∧ w.cell? ⟨g, i * 4 + 2, none⟩ = some (.bool p.f) ∧ w.cell? ⟨g, i * 4 + 3, none⟩ = some (.int .i64 p.v) :=
  ⟨Own.cell_ Pl.cs_len h (j := 0) hp rfl, Own.cell_ Pl.cs_len h (j := 1) hp rfl, Own.cell_ Pl.cs_len h (j := 2) hp rfl, Own.cell_ Pl.cs_len h (j := 3) hp rfl⟩

def insLaR (g n cap jj : Nat) (p q : Pl) (j : Nat) (σ : Nat → Value) (w : World) : Prop :=
  match j with
  | 0 => σ 0 = .int .i64 ((jj : Int))
  | 1 => σ 1 = .int .i64 0
  | 2 => σ 2 = .bool true
  | 3 => σ 3 = .bool true
  | 4 => σ 4 = .func (.func 85) #[] #[]
  | 5 => σ 5 = .slice (some ⟨g, 0, none⟩) n cap
  | 6 => σ 6 = .int .i64 ((jj : Int))
  | 7 => σ 7 = .pointer (some ⟨g, jj * 4, none⟩)
  | 8 => σ 8 = .agg #[.bool p.s, .int .i64 p.n, .bool p.f, .int .i64 p.v]
  | 9 => σ 9 = .slice (some ⟨g, 0, none⟩) n cap
  | 10 => σ 10 = .int .i64 ((jj : Int))
  | 11 => σ 11 = .int .i64 ((jj : Int) - 1)
  | 12 => σ 12 = .pointer (some ⟨g, (jj - 1) * 4, none⟩)
  | 13 => σ 13 = .agg #[.bool q.s, .int .i64 q.n, .bool q.f, .int .i64 q.v]
  | 14 => σ 14 = .int .i64 (cmpI p.n q.n)
  | 15 => σ 15 = .bool true
  | 16 => σ 16 = .bool true
  | _ => True

def insLaS (j : Nat) : List Nat := [[0], [1], [2], [3], [4], [5], [6], [7], [8], [9], [10], [11], [12], [13], [14], [15], [16]].getD j [j]
def insLaK (j : Nat) : Nat := [0, 0, 0, 0, 0, 0, 0, 0, 0, 0, 0, 0, 0, 0, 0, 0, 0].getD j 0

def insLbR (g n cap jj : Nat) (p q : Pl) (j : Nat) (σ : Nat → Value) (w : World) : Prop :=
  match j with
  | 0 => σ 0 = .int .i64 ((jj : Int))
  | 1 => σ 1 = .int .i64 0
  | 2 => σ 2 = .bool true
  | 3 => σ 3 = .bool true
  | 4 => σ 4 = .func (.func 85) #[] #[]
  | 5 => σ 5 = .slice (some ⟨g, 0, none⟩) n cap
  | 6 => σ 6 = .int .i64 ((jj : Int))
  | 7 => σ 7 = .pointer (some ⟨g, jj * 4, none⟩)
  | 8 => σ 8 = .agg #[.bool p.s, .int .i64 p.n, .bool p.f, .int .i64 p.v]
  | 9 => σ 9 = .slice (some ⟨g, 0, none⟩) n cap
  | 10 => σ 10 = .int .i64 ((jj : Int))
  | 11 => σ 11 = .int .i64 ((jj : Int) - 1)
  | 12 => σ 12 = .pointer (some ⟨g, (jj - 1) * 4, none⟩)
  | 13 => σ 13 = .agg #[.bool q.s, .int .i64 q.n, .bool q.f, .int .i64 q.v]
  | 14 => σ 14 = .int .i64 (cmpI p.n q.n)
  | 15 => σ 15 = .bool false
  | 16 => σ 16 = .bool false
  | _ => True

def insLbS (j : Nat) : List Nat := [[0], [1], [2], [3], [4], [5], [6], [7], [8], [9], [10], [11], [12], [13], [14], [15], [16]].getD j [j]
def insLbK (j : Nat) : Nat := [0, 0, 0, 0, 0, 0, 0, 0, 0, 0, 0, 0, 0, 0, 0, 0, 0].getD j 0

def insLcR (g n cap : Nat) (j : Nat) (σ : Nat → Value) (w : World) : Prop :=
  match j with
  | 0 => σ 0 = .int .i64 0
  | 1 => σ 1 = .int .i64 0
  | 2 => σ 2 = .bool false
  | 3 => σ 3 = .bool false
  | 4 => σ 4 = undef
  | 5 => σ 5 = undef
  | 6 => σ 6 = undef
  | 7 => σ 7 = undef
  | 8 => σ 8 = undef
  | 9 => σ 9 = undef
  | 10 => σ 10 = undef
  | 11 => σ 11 = undef
  | 12 => σ 12 = undef
  | 13 => σ 13 = undef
  | 14 => σ 14 = undef
  | 15 => σ 15 = undef
  | 16 => σ 16 = .bool false
  | _ => True

def insLcS (j : Nat) : List Nat := [[0], [1], [2], [3], [4], [5], [6], [7], [8], [9], [10], [11], [12], [13], [14], [15], [16]].getD j [j]
def insLcK (j : Nat) : Nat := [0, 0, 0, 0, 0, 0, 0, 0, 0, 0, 0, 0, 0, 0, 0, 0, 0].getD j 0

def insSR (g n cap jj : Nat) (p q : Pl) (k : Nat) (σ : Nat → Value) (_w : World) : Prop :=
  match k with
  | 0 => σ 0 = .slice (some ⟨g, 0, none⟩) n cap
  | 1 => σ 1 = .int .i64 jj
  | 2 => σ 2 = .slice (some ⟨g, 0, none⟩) n cap
  | 3 => σ 3 = .int .i64 jj
  | 4 => σ 4 = .int .i64 ((jj : Int) - 1)
  | 5 => σ 5 = .slice (some ⟨g, 0, none⟩) n cap
  | 6 => σ 6 = .int .i64 jj
  | 7 => σ 7 = .int .i64 ((jj : Int) - 1)
  | 8 => σ 8 = .pointer (some ⟨g, (jj - 1) * 4, none⟩)
  | 9 => σ 9 = .agg #[.bool q.s, .int .i64 q.n, .bool q.f, .int .i64 q.v]
  | 10 => σ 10 = .slice (some ⟨g, 0, none⟩) n cap
  | 11 => σ 11 = .int .i64 jj
  | 12 => σ 12 = .pointer (some ⟨g, jj * 4, none⟩)
  | 13 => σ 13 = .agg #[.bool p.s, .int .i64 p.n, .bool p.f, .int .i64 p.v]
  | 14 => σ 14 = .pointer (some ⟨g, jj * 4, none⟩)
  | 15 => True
  | 16 => σ 16 = .pointer (some ⟨g, (jj - 1) * 4, none⟩)
  | 17 => True
  | _ => True

def insSS (j : Nat) : List Nat := [j]
def insSK (j : Nat) : Nat := [0, 0, 0, 0, 0, 0, 0, 0, 0, 0, 0, 0, 0, 0, 0, 1, 0, 1].getD j 0
/-- The places, while they are swapped. -/
def insST (cur : List Pl) (jj j1 : Nat) (p q : Pl) (a b : Bool) : List Pl := bif b then (bif a then cur.set jj q else cur).set j1 p else bif a then cur.set jj q else cur

/-- The places are sorted; all else is as it was. -/
def Sorts (lo g n cap : Nat) (l : List Pl) (w : World) (e : Ending) (w' : World) : Prop := (∃ v, e = .returned v) ∧ But g w w' ∧ PlsO lo w' g n cap (sortTo l n)

set_option maxRecDepth 100000 in
set_option maxHeartbeats 4000000 in
theorem insertion_any (lo g n cap : Nat) (l : List Pl) (w : World) (h : PlsO lo w g n cap l) (h1 : 1 ≤ n) (h12 : n ≤ 12) :
    Calls Try.prog 101 #[.slice (some ⟨g, 0, none⟩) n cap, .int .i64 0, .int .i64 n, .func (.func 85) #[] #[]] w (Sorts lo g n cap l w) := by
  go_enter Try.func101, Try.ntmps101
  go_wp2
  go_loopw [8] (fun s8 W => ∃ k : Nat, 1 ≤ k ∧ k ≤ n ∧ s8 = .int .i64 k ∧ But g w W ∧ PlsO lo W g n cap (sortTo l k)) (fun s8 _ => n - (intOf s8).toNat)
  case atStart => exact ⟨1, Nat.le_refl _, h1, by go_num, But.refl _ _, by rw [sortTo_one]; exact h⟩
  case round =>
    obtain ⟨k, hk1, hkn, rfl, hB, hO⟩ := hrel
    by_cases hlt : k < n
    · have g1 : (k : Int) < (n : Int) := by omega
      have HS := Lib.hid (sortTo_succ l hk1)
      go_wp2_with fail
      obtain ⟨wo, rfl⟩ : ∃ wo : World, wo = wr := ⟨_, rfl⟩
      go_loopw [9] (fun s9 W => ∃ (j : Nat) (cur : List Pl), j ≤ k ∧ s9 = .int .i64 j ∧ But g w W ∧ PlsO lo W g n cap cur ∧ sinkP j cur = sinkP k (sortTo l k)) (fun s9 _ => (intOf s9).toNat)
      case atStart => exact ⟨k, _, Nat.le_refl _, rfl, hB, hO, rfl⟩
      case round =>
        clear hB hO
        obtain ⟨jj, cur, hjk, rfl, hB, hO, hs⟩ := hrel
        have HSK := Lib.hid hs; clear hs
        rcases Nat.eq_zero_or_pos jj with h0 | h0
        · subst h0
          have HE := Lib.hid (show cur = sinkP k (sortTo l k) from HSK.out)
          go_upto_region 4 with fail
          go_cut [34] from 18 to 52 (fun u W' => But g w W' ∧ PlsO lo W' g n cap cur ∧ u = .bool false)
          case first =>
            refine wp_region2 (fun w w' => Below w.heap.size w w') (fun _ _ h => h.size) (fun L W' => But g w W' ∧ PlsO lo W' g n cap cur) (insLcR g n cap) insLcK insLcS (by kernel_rfl) (by kernel_rfl) ?_ ?_ ?_
              (.grow rfl ?_ <| .grow rfl ?_ <| .grow rfl ?_ <| .grow rfl ?_ <| .grow rfl ?_ <| .grow rfl ?_ <| .grow rfl ?_ <| .grow rfl ?_ <| .grow rfl ?_ <| .grow rfl ?_ <| .grow rfl ?_ <| .grow rfl ?_ <| .grow rfl ?_ <| .grow rfl ?_ <| .grow rfl ?_ <| .grow rfl ?_ <| .grow rfl ?_ <| .nil) ?_
            · intro j σ τ w h hR
              match j, h, hR with
              | 0, h, hR => exact (h 0 (List.mem_singleton.2 rfl)).symm.trans hR
              | 1, h, hR => exact (h 1 (List.mem_singleton.2 rfl)).symm.trans hR
              | 2, h, hR => exact (h 2 (List.mem_singleton.2 rfl)).symm.trans hR
              | 3, h, hR => exact (h 3 (List.mem_singleton.2 rfl)).symm.trans hR
              | 4, h, hR => exact (h 4 (List.mem_singleton.2 rfl)).symm.trans hR
              | 5, h, hR => exact (h 5 (List.mem_singleton.2 rfl)).symm.trans hR
              | 6, h, hR => exact (h 6 (List.mem_singleton.2 rfl)).symm.trans hR
              | 7, h, hR => exact (h 7 (List.mem_singleton.2 rfl)).symm.trans hR
              | 8, h, hR => exact (h 8 (List.mem_singleton.2 rfl)).symm.trans hR
              | 9, h, hR => exact (h 9 (List.mem_singleton.2 rfl)).symm.trans hR
              | 10, h, hR => exact (h 10 (List.mem_singleton.2 rfl)).symm.trans hR
              | 11, h, hR => exact (h 11 (List.mem_singleton.2 rfl)).symm.trans hR
              | 12, h, hR => exact (h 12 (List.mem_singleton.2 rfl)).symm.trans hR
              | 13, h, hR => exact (h 13 (List.mem_singleton.2 rfl)).symm.trans hR
              | 14, h, hR => exact (h 14 (List.mem_singleton.2 rfl)).symm.trans hR
              | 15, h, hR => exact (h 15 (List.mem_singleton.2 rfl)).symm.trans hR
              | 16, h, hR => exact (h 16 (List.mem_singleton.2 rfl)).symm.trans hR
              | _ + 17, _, _ => exact trivial
            · intro j σ w w' hb hR
              match j, hR with
              | 0, hR => exact hR
              | 1, hR => exact hR
              | 2, hR => exact hR
              | 3, hR => exact hR
              | 4, hR => exact hR
              | 5, hR => exact hR
              | 6, hR => exact hR
              | 7, hR => exact hR
              | 8, hR => exact hR
              | 9, hR => exact hR
              | 10, hR => exact hR
              | 11, hR => exact hR
              | 12, hR => exact hR
              | 13, hR => exact hR
              | 14, hR => exact hR
              | 15, hR => exact hR
              | 16, hR => exact hR
              | _ + 17, _ => exact trivial
            · exact ⟨⟨hB.os, hB.tape, hB.output, hB.size, hB.block⟩, hO⟩
            · -- 0: Op.move t9
              go_light
              intro L σ W' hcl hL hC hw
              clear hw
              have HC := Lib.hid hC
              clear hC
              clear hcl hL
              refine OpGoes.step fun K hK => ?_
              unfold OpGoes
              go_simp
              obtain ⟨hB, hO⟩ := HC.out
              exact hK _ _ ⟨⟨hB, hO⟩, rfl, Below.refl _ _⟩
            · -- 1: Op.move t1
              go_light
              intro L σ W' hcl hL hC hw
              clear hw
              have HC := Lib.hid hC
              clear hC
              clear hcl hL
              refine OpGoes.step fun K hK => ?_
              unfold OpGoes
              go_simp
              obtain ⟨hB, hO⟩ := HC.out
              exact hK _ _ ⟨⟨hB, hO⟩, rfl, Below.refl _ _⟩
            · -- 2: Op.binOp BinOp.gtr 3 t18 t19 3
              go_light
              intro L σ W' hcl hL hC hw
              have e0 : σ 0 = .int .i64 0 := hw 0 (by kernel_rfl)
              have e1 : σ 1 = .int .i64 0 := hw 1 (by kernel_rfl)
              clear hw
              have HC := Lib.hid hC
              clear hC
              clear hcl hL
              refine OpGoes.step fun K hK => ?_
              unfold OpGoes
              go_simp
              obtain ⟨hB, hO⟩ := HC.out
              exact hK _ _ ⟨⟨hB, hO⟩, rfl, Below.refl _ _⟩
            · -- 3: Op.move t20
              go_light
              intro L σ W' hcl hL hC hw
              have e2 : σ 2 = .bool false := hw 2 (by kernel_rfl)
              clear hw
              have HC := Lib.hid hC
              clear hC
              clear hcl hL
              refine OpGoes.step fun K hK => ?_
              unfold OpGoes
              go_simp
              obtain ⟨hB, hO⟩ := HC.out
              exact hK _ _ ⟨⟨hB, hO⟩, rfl, Below.refl _ _⟩
            · -- 4: Op.move t3   [guarded: some (3, true)]
              go_light
              intro L σ W' hcl hL hC hw
              have e3 : σ 3 = .bool false := hw 3 (by kernel_rfl)
              clear hw
              have HC := Lib.hid hC
              clear hC
              clear hcl hL
              refine OpGoes.step fun K hK => ?_
              unfold OpGoes
              go_simp
              obtain ⟨hB, hO⟩ := HC.out
              exact hK _ _ ⟨⟨hB, hO⟩, rfl, Below.refl _ _⟩
            · -- 5: Op.move t0   [guarded: some (3, true)]
              go_light
              intro L σ W' hcl hL hC hw
              have e3 : σ 3 = .bool false := hw 3 (by kernel_rfl)
              clear hw
              have HC := Lib.hid hC
              clear hC
              clear hcl hL
              refine OpGoes.step fun K hK => ?_
              unfold OpGoes
              go_simp
              obtain ⟨hB, hO⟩ := HC.out
              exact hK _ _ ⟨⟨hB, hO⟩, rfl, Below.refl _ _⟩
            · -- 6: Op.move t9   [guarded: some (3, true)]
              go_light
              intro L σ W' hcl hL hC hw
              have e3 : σ 3 = .bool false := hw 3 (by kernel_rfl)
              clear hw
              have HC := Lib.hid hC
              clear hC
              clear hcl hL
              refine OpGoes.step fun K hK => ?_
              unfold OpGoes
              go_simp
              obtain ⟨hB, hO⟩ := HC.out
              exact hK _ _ ⟨⟨hB, hO⟩, rfl, Below.refl _ _⟩
            · -- 7: Op.indexAddr 25 t23 t24   [guarded: some (3, true)]
              go_light
              intro L σ W' hcl hL hC hw
              have e3 : σ 3 = .bool false := hw 3 (by kernel_rfl)
              have e5 : σ 5 = undef := hw 5 (by kernel_rfl)
              have e6 : σ 6 = undef := hw 6 (by kernel_rfl)
              clear hw
              have HC := Lib.hid hC
              clear hC
              clear hcl hL
              refine OpGoes.step fun K hK => ?_
              unfold OpGoes
              go_simp
              obtain ⟨hB, hO⟩ := HC.out
              exact hK _ _ ⟨⟨hB, hO⟩, rfl, Below.refl _ _⟩
            · -- 8: Op.load 39 t25   [guarded: some (3, true)]
              go_light
              intro L σ W' hcl hL hC hw
              have e3 : σ 3 = .bool false := hw 3 (by kernel_rfl)
              have e7 : σ 7 = undef := hw 7 (by kernel_rfl)
              clear hw
              have HC := Lib.hid hC
              clear hC
              clear hcl hL
              refine OpGoes.step fun K hK => ?_
              unfold OpGoes
              go_simp
              obtain ⟨hB, hO⟩ := HC.out
              exact hK _ _ ⟨⟨hB, hO⟩, rfl, Below.refl _ _⟩
            · -- 9: Op.move t0   [guarded: some (3, true)]
              go_light
              intro L σ W' hcl hL hC hw
              have e3 : σ 3 = .bool false := hw 3 (by kernel_rfl)
              clear hw
              have HC := Lib.hid hC
              clear hC
              clear hcl hL
              refine OpGoes.step fun K hK => ?_
              unfold OpGoes
              go_simp
              obtain ⟨hB, hO⟩ := HC.out
              exact hK _ _ ⟨⟨hB, hO⟩, rfl, Below.refl _ _⟩
            · -- 10: Op.move t9   [guarded: some (3, true)]
              go_light
              intro L σ W' hcl hL hC hw
              have e3 : σ 3 = .bool false := hw 3 (by kernel_rfl)
              clear hw
              have HC := Lib.hid hC
              clear hC
              clear hcl hL
              refine OpGoes.step fun K hK => ?_
              unfold OpGoes
              go_simp
              obtain ⟨hB, hO⟩ := HC.out
              exact hK _ _ ⟨⟨hB, hO⟩, rfl, Below.refl _ _⟩
            · -- 11: Op.binOp BinOp.sub 3 t28 (const (1:i64)) 3   [guarded: some (3, true)]
              go_light
              intro L σ W' hcl hL hC hw
              have e3 : σ 3 = .bool false := hw 3 (by kernel_rfl)
              have e10 : σ 10 = undef := hw 10 (by kernel_rfl)
              clear hw
              have HC := Lib.hid hC
              clear hC
              clear hcl hL
              refine OpGoes.step fun K hK => ?_
              unfold OpGoes
              go_simp
              obtain ⟨hB, hO⟩ := HC.out
              exact hK _ _ ⟨⟨hB, hO⟩, rfl, Below.refl _ _⟩
            · -- 12: Op.indexAddr 25 t27 t29   [guarded: some (3, true)]
              go_light
              intro L σ W' hcl hL hC hw
              have e3 : σ 3 = .bool false := hw 3 (by kernel_rfl)
              have e9 : σ 9 = undef := hw 9 (by kernel_rfl)
              have e11 : σ 11 = undef := hw 11 (by kernel_rfl)
              clear hw
              have HC := Lib.hid hC
              clear hC
              clear hcl hL
              refine OpGoes.step fun K hK => ?_
              unfold OpGoes
              go_simp
              obtain ⟨hB, hO⟩ := HC.out
              exact hK _ _ ⟨⟨hB, hO⟩, rfl, Below.refl _ _⟩
            · -- 13: Op.load 39 t30   [guarded: some (3, true)]
              go_light
              intro L σ W' hcl hL hC hw
              have e3 : σ 3 = .bool false := hw 3 (by kernel_rfl)
              have e12 : σ 12 = undef := hw 12 (by kernel_rfl)
              clear hw
              have HC := Lib.hid hC
              clear hC
              clear hcl hL
              refine OpGoes.step fun K hK => ?_
              unfold OpGoes
              go_simp
              obtain ⟨hB, hO⟩ := HC.out
              exact hK _ _ ⟨⟨hB, hO⟩, rfl, Below.refl _ _⟩
            · -- 14: Op.call { value t22, args := #[t26, t31], argTypes := #[39, 39] }   [guarded: some (3, true)]
              go_light
              intro L σ W' hcl hL hC hw
              have e3 : σ 3 = .bool false := hw 3 (by kernel_rfl)
              have e4 : σ 4 = undef := hw 4 (by kernel_rfl)
              have e8 : σ 8 = undef := hw 8 (by kernel_rfl)
              have e13 : σ 13 = undef := hw 13 (by kernel_rfl)
              clear hw
              have HC := Lib.hid hC
              clear hC
              clear hcl hL
              refine OpGoes.step fun K hK => ?_
              unfold OpGoes
              go_simp
              obtain ⟨hB, hO⟩ := HC.out
              exact hK _ _ ⟨⟨hB, hO⟩, rfl, Below.refl _ _⟩
            · -- 15: Op.binOp BinOp.lss 3 t32 (const (0:i64)) 3   [guarded: some (3, true)]
              go_light
              intro L σ W' hcl hL hC hw
              have e3 : σ 3 = .bool false := hw 3 (by kernel_rfl)
              have e14 : σ 14 = undef := hw 14 (by kernel_rfl)
              clear hw
              have HC := Lib.hid hC
              clear hC
              clear hcl hL
              refine OpGoes.step fun K hK => ?_
              unfold OpGoes
              go_simp
              obtain ⟨hB, hO⟩ := HC.out
              exact hK _ _ ⟨⟨hB, hO⟩, rfl, Below.refl _ _⟩
            · -- 16: Op.pick t21 t33 (const (Value.bool false))
              go_light
              intro L σ W' hcl hL hC hw
              have e3 : σ 3 = .bool false := hw 3 (by kernel_rfl)
              have e15 : σ 15 = undef := hw 15 (by kernel_rfl)
              clear hw
              have HC := Lib.hid hC
              clear hC
              clear hcl hL
              refine OpGoes.step fun K hK => ?_
              unfold OpGoes
              go_simp
              obtain ⟨hB, hO⟩ := HC.out
              exact hK _ _ ⟨⟨hB, hO⟩, rfl, Below.refl _ _⟩
            · intro σ L W' hall hC hR
              obtain ⟨hB, hO⟩ := hC
              have e16 : σ 16 = .bool false := hR 16 (by decide)
              clear hR
              simp only [lexAll]
              go_simp
              go_step
              go_meet
              exact ⟨hB, hO, rfl⟩
          case rest =>
            clear hB hO
            obtain ⟨hB, hO, rfl⟩ := hcut
            go_wp2
            go_roundw
            case rel => exact ⟨k + 1, by omega, by omega, by go_num, hB, by rw [HS.out, ← HE.out]; exact hO⟩
            case measure => simp [intOf]; omega
        · obtain ⟨j1, hj1⟩ : ∃ j1, jj = j1 + 1 := ⟨jj - 1, by omega⟩
          have HJ1 := Lib.hid (show jj - 1 = j1 by omega)
          have hcl := hO.1
          have hj1n : j1 < n := by omega
          obtain ⟨p, hp⟩ : ∃ p, cur[jj]? = some p := ⟨_, List.getElem?_eq_getElem (by omega)⟩
          obtain ⟨q, hq⟩ : ∃ q, cur[j1]? = some q := ⟨_, List.getElem?_eq_getElem (by omega)⟩
          have HP := Lib.hid hp
          have HQ := Lib.hid hq
          clear hp hq hcl
          have HJE := Lib.hid hj1
          clear hj1
          by_cases hpq : p.n < q.n
          · have HD := Lib.hid (show decide (p.n < q.n) = true by simpa using hpq)
            have HSI := Lib.hid (show sinkP jj cur = sinkP j1 ((cur.set jj q).set j1 p) by have hj1 := HJE.out; subst hj1; exact sinkP_lt HP.out HQ.out hpq)
            go_upto_region 4 with fail
            go_cut [34] from 18 to 52 (fun u W' => But g w W' ∧ PlsO lo W' g n cap cur ∧ u = .bool true)
            case first =>
              refine wp_region2 (fun w w' => Below w.heap.size w w') (fun _ _ h => h.size) (fun L W' => But g w W' ∧ PlsO lo W' g n cap cur) (insLaR g n cap jj p q) insLaK insLaS (by kernel_rfl) (by kernel_rfl) ?_ ?_ ?_
                (.grow rfl ?_ <| .grow rfl ?_ <| .grow rfl ?_ <| .grow rfl ?_ <| .grow rfl ?_ <| .grow rfl ?_ <| .grow rfl ?_ <| .grow rfl ?_ <| .grow rfl ?_ <| .grow rfl ?_ <| .grow rfl ?_ <| .grow rfl ?_ <| .grow rfl ?_ <| .grow rfl ?_ <| .grow rfl ?_ <| .grow rfl ?_ <| .grow rfl ?_ <| .nil) ?_
              · intro j σ τ w h hR
                match j, h, hR with
                | 0, h, hR => exact (h 0 (List.mem_singleton.2 rfl)).symm.trans hR
                | 1, h, hR => exact (h 1 (List.mem_singleton.2 rfl)).symm.trans hR
                | 2, h, hR => exact (h 2 (List.mem_singleton.2 rfl)).symm.trans hR
                | 3, h, hR => exact (h 3 (List.mem_singleton.2 rfl)).symm.trans hR
                | 4, h, hR => exact (h 4 (List.mem_singleton.2 rfl)).symm.trans hR
                | 5, h, hR => exact (h 5 (List.mem_singleton.2 rfl)).symm.trans hR
                | 6, h, hR => exact (h 6 (List.mem_singleton.2 rfl)).symm.trans hR
                | 7, h, hR => exact (h 7 (List.mem_singleton.2 rfl)).symm.trans hR
                | 8, h, hR => exact (h 8 (List.mem_singleton.2 rfl)).symm.trans hR
                | 9, h, hR => exact (h 9 (List.mem_singleton.2 rfl)).symm.trans hR
                | 10, h, hR => exact (h 10 (List.mem_singleton.2 rfl)).symm.trans hR
                | 11, h, hR => exact (h 11 (List.mem_singleton.2 rfl)).symm.trans hR
                | 12, h, hR => exact (h 12 (List.mem_singleton.2 rfl)).symm.trans hR
                | 13, h, hR => exact (h 13 (List.mem_singleton.2 rfl)).symm.trans hR
                | 14, h, hR => exact (h 14 (List.mem_singleton.2 rfl)).symm.trans hR
                | 15, h, hR => exact (h 15 (List.mem_singleton.2 rfl)).symm.trans hR
                | 16, h, hR => exact (h 16 (List.mem_singleton.2 rfl)).symm.trans hR
                | _ + 17, _, _ => exact trivial
              · intro j σ w w' hb hR
                match j, hR with
                | 0, hR => exact hR
                | 1, hR => exact hR
                | 2, hR => exact hR
                | 3, hR => exact hR
                | 4, hR => exact hR
                | 5, hR => exact hR
                | 6, hR => exact hR
                | 7, hR => exact hR
                | 8, hR => exact hR
                | 9, hR => exact hR
                | 10, hR => exact hR
                | 11, hR => exact hR
                | 12, hR => exact hR
                | 13, hR => exact hR
                | 14, hR => exact hR
                | 15, hR => exact hR
                | 16, hR => exact hR
                | _ + 17, _ => exact trivial
              · exact ⟨⟨hB.os, hB.tape, hB.output, hB.size, hB.block⟩, hO⟩
              · -- 0: Op.move t9
                go_light
                intro L σ W' hcl hL hC hw
                clear hw
                have HC := Lib.hid hC
                clear hC
                clear hcl hL
                refine OpGoes.step fun K hK => ?_
                unfold OpGoes
                go_simp
                obtain ⟨hB, hO⟩ := HC.out
                exact hK _ _ ⟨⟨hB, hO⟩, rfl, Below.refl _ _⟩
              · -- 1: Op.move t1
                go_light
                intro L σ W' hcl hL hC hw
                clear hw
                have HC := Lib.hid hC
                clear hC
                clear hcl hL
                refine OpGoes.step fun K hK => ?_
                unfold OpGoes
                go_simp
                obtain ⟨hB, hO⟩ := HC.out
                exact hK _ _ ⟨⟨hB, hO⟩, rfl, Below.refl _ _⟩
              · -- 2: Op.binOp BinOp.gtr 3 t18 t19 3
                go_light
                intro L σ W' hcl hL hC hw
                have e0 : σ 0 = .int .i64 ((jj : Int)) := hw 0 (by kernel_rfl)
                have e1 : σ 1 = .int .i64 0 := hw 1 (by kernel_rfl)
                clear hw
                have HC := Lib.hid hC
                obtain ⟨hB, hO⟩ := hC
                have b0_ : (0 : Int) < (jj : Int) := by omega
                clear hcl hL
                clear hB hO
                refine OpGoes.step fun K hK => ?_
                unfold OpGoes
                go_simp
                obtain ⟨hB, hO⟩ := HC.out
                exact hK _ _ ⟨⟨hB, hO⟩, rfl, Below.refl _ _⟩
              · -- 3: Op.move t20
                go_light
                intro L σ W' hcl hL hC hw
                have e2 : σ 2 = .bool true := hw 2 (by kernel_rfl)
                clear hw
                have HC := Lib.hid hC
                clear hC
                clear hcl hL
                refine OpGoes.step fun K hK => ?_
                unfold OpGoes
                go_simp
                obtain ⟨hB, hO⟩ := HC.out
                exact hK _ _ ⟨⟨hB, hO⟩, rfl, Below.refl _ _⟩
              · -- 4: Op.move t3   [guarded: some (3, true)]
                go_light
                intro L σ W' hcl hL hC hw
                have e3 : σ 3 = .bool true := hw 3 (by kernel_rfl)
                clear hw
                have HC := Lib.hid hC
                clear hC
                clear hcl hL
                refine OpGoes.step fun K hK => ?_
                unfold OpGoes
                go_simp
                obtain ⟨hB, hO⟩ := HC.out
                exact hK _ _ ⟨⟨hB, hO⟩, rfl, Below.refl _ _⟩
              · -- 5: Op.move t0   [guarded: some (3, true)]
                go_light
                intro L σ W' hcl hL hC hw
                have e3 : σ 3 = .bool true := hw 3 (by kernel_rfl)
                clear hw
                have HC := Lib.hid hC
                clear hC
                clear hcl hL
                refine OpGoes.step fun K hK => ?_
                unfold OpGoes
                go_simp
                obtain ⟨hB, hO⟩ := HC.out
                exact hK _ _ ⟨⟨hB, hO⟩, rfl, Below.refl _ _⟩
              · -- 6: Op.move t9   [guarded: some (3, true)]
                go_light
                intro L σ W' hcl hL hC hw
                have e3 : σ 3 = .bool true := hw 3 (by kernel_rfl)
                clear hw
                have HC := Lib.hid hC
                clear hC
                clear hcl hL
                refine OpGoes.step fun K hK => ?_
                unfold OpGoes
                go_simp
                obtain ⟨hB, hO⟩ := HC.out
                exact hK _ _ ⟨⟨hB, hO⟩, rfl, Below.refl _ _⟩
              · -- 7: Op.indexAddr 25 t23 t24   [guarded: some (3, true)]
                go_light
                intro L σ W' hcl hL hC hw
                have e3 : σ 3 = .bool true := hw 3 (by kernel_rfl)
                have e5 : σ 5 = .slice (some ⟨g, 0, none⟩) n cap := hw 5 (by kernel_rfl)
                have e6 : σ 6 = .int .i64 ((jj : Int)) := hw 6 (by kernel_rfl)
                clear hw
                have HC := Lib.hid hC
                obtain ⟨hB, hO⟩ := hC
                have b1_ : (0 : Int) ≤ (jj : Int) := by omega
                have b2_ : (jj : Int) < (n : Int) := by omega
                clear hcl hL
                clear hB hO
                refine OpGoes.step fun K hK => ?_
                unfold OpGoes
                go_simp
                obtain ⟨hB, hO⟩ := HC.out
                exact hK _ _ ⟨⟨hB, hO⟩, rfl, Below.refl _ _⟩
              · -- 8: Op.load 39 t25   [guarded: some (3, true)]
                go_light
                intro L σ W' hcl hL hC hw
                have e3 : σ 3 = .bool true := hw 3 (by kernel_rfl)
                have e7 : σ 7 = .pointer (some ⟨g, jj * 4, none⟩) := hw 7 (by kernel_rfl)
                clear hw
                have HC := Lib.hid hC
                obtain ⟨hB, hO⟩ := hC
                obtain ⟨d0, d1, d2, d3⟩ := pls_at hO HP.out
                clear hcl hL
                clear hB hO
                refine OpGoes.step fun K hK => ?_
                unfold OpGoes
                go_simp
                obtain ⟨hB, hO⟩ := HC.out
                exact hK _ _ ⟨⟨hB, hO⟩, rfl, Below.refl _ _⟩
              · -- 9: Op.move t0   [guarded: some (3, true)]
                go_light
                intro L σ W' hcl hL hC hw
                have e3 : σ 3 = .bool true := hw 3 (by kernel_rfl)
                clear hw
                have HC := Lib.hid hC
                clear hC
                clear hcl hL
                refine OpGoes.step fun K hK => ?_
                unfold OpGoes
                go_simp
                obtain ⟨hB, hO⟩ := HC.out
                exact hK _ _ ⟨⟨hB, hO⟩, rfl, Below.refl _ _⟩
              · -- 10: Op.move t9   [guarded: some (3, true)]
                go_light
                intro L σ W' hcl hL hC hw
                have e3 : σ 3 = .bool true := hw 3 (by kernel_rfl)
                clear hw
                have HC := Lib.hid hC
                clear hC
                clear hcl hL
                refine OpGoes.step fun K hK => ?_
                unfold OpGoes
                go_simp
                obtain ⟨hB, hO⟩ := HC.out
                exact hK _ _ ⟨⟨hB, hO⟩, rfl, Below.refl _ _⟩
              · -- 11: Op.binOp BinOp.sub 3 t28 (const (1:i64)) 3   [guarded: some (3, true)]
                go_light
                intro L σ W' hcl hL hC hw
                have e3 : σ 3 = .bool true := hw 3 (by kernel_rfl)
                have e10 : σ 10 = .int .i64 ((jj : Int)) := hw 10 (by kernel_rfl)
                clear hw
                have HC := Lib.hid hC
                obtain ⟨hB, hO⟩ := hC
                have wr_ : IntKind.i64.wrap ((jj : Int) - 1) = (jj : Int) - 1 := by rw [IntKind.wrap_i64]; omega
                clear hcl hL
                clear hB hO
                refine OpGoes.step fun K hK => ?_
                unfold OpGoes
                go_simp
                obtain ⟨hB, hO⟩ := HC.out
                exact hK _ _ ⟨⟨hB, hO⟩, rfl, Below.refl _ _⟩
              · -- 12: Op.indexAddr 25 t27 t29   [guarded: some (3, true)]
                go_light
                intro L σ W' hcl hL hC hw
                have e3 : σ 3 = .bool true := hw 3 (by kernel_rfl)
                have e9 : σ 9 = .slice (some ⟨g, 0, none⟩) n cap := hw 9 (by kernel_rfl)
                have e11 : σ 11 = .int .i64 ((jj : Int) - 1) := hw 11 (by kernel_rfl)
                clear hw
                have HC := Lib.hid hC
                obtain ⟨hB, hO⟩ := hC
                have b1_ : (1 : Int) ≤ (jj : Int) := by omega
                have b2_ : (jj : Int) - 1 < (n : Int) := by omega
                clear hcl hL
                clear hB hO
                refine OpGoes.step fun K hK => ?_
                unfold OpGoes
                go_simp
                obtain ⟨hB, hO⟩ := HC.out
                exact hK _ _ ⟨⟨hB, hO⟩, rfl, Below.refl _ _⟩
              · -- 13: Op.load 39 t30   [guarded: some (3, true)]
                go_light
                intro L σ W' hcl hL hC hw
                have e3 : σ 3 = .bool true := hw 3 (by kernel_rfl)
                have e12 : σ 12 = .pointer (some ⟨g, (jj - 1) * 4, none⟩) := hw 12 (by kernel_rfl)
                clear hw
                have HC := Lib.hid hC
                obtain ⟨hB, hO⟩ := hC
                obtain ⟨d0, d1, d2, d3⟩ := pls_at hO HQ.out
                rw [← HJ1.out] at d0 d1 d2 d3
                clear hcl hL
                clear hB hO
                refine OpGoes.step fun K hK => ?_
                unfold OpGoes
                go_simp
                obtain ⟨hB, hO⟩ := HC.out
                exact hK _ _ ⟨⟨hB, hO⟩, rfl, Below.refl _ _⟩
              · -- 14: Op.call { value t22, args := #[t26, t31], argTypes := #[39, 39] }   [guarded: some (3, true)]
                go_light
                intro L σ W' hcl hL hC hw
                have e3 : σ 3 = .bool true := hw 3 (by kernel_rfl)
                have e4 : σ 4 = .func (.func 85) #[] #[] := hw 4 (by kernel_rfl)
                have e8 : σ 8 = .agg #[.bool p.s, .int .i64 p.n, .bool p.f, .int .i64 p.v] := hw 8 (by kernel_rfl)
                have e13 : σ 13 = .agg #[.bool q.s, .int .i64 q.n, .bool q.f, .int .i64 q.v] := hw 13 (by kernel_rfl)
                clear hw
                have HC := Lib.hid hC
                clear hC
                clear hcl hL
                refine OpGoes.step fun K hK => ?_
                unfold OpGoes
                go_simp
                obtain ⟨hB, hO⟩ := HC.out
                refine (byNo_any p q _).mono ?_
                rintro e w1 ⟨rfl, hb1⟩
                exact ⟨_, rfl, hK _ _ ⟨⟨hB.trans (But.of_below hb1), hO.below hb1⟩, rfl, hb1⟩⟩
              · -- 15: Op.binOp BinOp.lss 3 t32 (const (0:i64)) 3   [guarded: some (3, true)]
                go_light
                intro L σ W' hcl hL hC hw
                have e3 : σ 3 = .bool true := hw 3 (by kernel_rfl)
                have e14 : σ 14 = .int .i64 (cmpI p.n q.n) := hw 14 (by kernel_rfl)
                clear hw
                have HC := Lib.hid hC
                obtain ⟨hB, hO⟩ := hC
                have lt_ : decide (cmpI p.n q.n < 0) = true := by rw [cmpI_lt]; exact HD.out
                clear hcl hL
                clear hB hO
                refine OpGoes.step fun K hK => ?_
                unfold OpGoes
                go_simp
                obtain ⟨hB, hO⟩ := HC.out
                exact hK _ _ ⟨⟨hB, hO⟩, rfl, Below.refl _ _⟩
              · -- 16: Op.pick t21 t33 (const (Value.bool false))
                go_light
                intro L σ W' hcl hL hC hw
                have e3 : σ 3 = .bool true := hw 3 (by kernel_rfl)
                have e15 : σ 15 = .bool true := hw 15 (by kernel_rfl)
                clear hw
                have HC := Lib.hid hC
                clear hC
                clear hcl hL
                refine OpGoes.step fun K hK => ?_
                unfold OpGoes
                go_simp
                obtain ⟨hB, hO⟩ := HC.out
                exact hK _ _ ⟨⟨hB, hO⟩, rfl, Below.refl _ _⟩
              · intro σ L W' hall hC hR
                obtain ⟨hB, hO⟩ := hC
                have e16 : σ 16 = .bool true := hR 16 (by decide)
                clear hR
                simp only [lexAll]
                go_simp
                go_step
                go_meet
                exact ⟨hB, hO, rfl⟩
            case rest =>
              clear hB hO
              obtain ⟨hB, hO, rfl⟩ := hcut
              go_upto_region 6 with fail
              refine wp_region2 (fun w w' => w.heap.size ≤ w'.heap.size) (fun _ _ h => h) (fun L W' => But g w W' ∧ PlsO lo W' g n cap (insST cur jj j1 p q (L 15) (L 17))) (insSR g n cap jj p q) insSK insSS (by kernel_rfl) (by kernel_rfl) ?_ ?_ ?_
                (.grow rfl ?_ <| .grow rfl ?_ <| .grow rfl ?_ <| .grow rfl ?_ <| .grow rfl ?_ <| .grow rfl ?_ <| .grow rfl ?_ <| .grow rfl ?_ <| .grow rfl ?_ <| .grow rfl ?_ <| .grow rfl ?_ <| .grow rfl ?_ <| .grow rfl ?_ <| .grow rfl ?_ <| .grow rfl ?_ <| .store rfl ?_ <| .grow rfl ?_ <| .store rfl ?_ <| .nil) ?_
              · intro j σ τ w h hR
                match j, h, hR with
                | 0, h, hR => exact (h 0 (List.mem_singleton.2 rfl)).symm.trans hR
                | 1, h, hR => exact (h 1 (List.mem_singleton.2 rfl)).symm.trans hR
                | 2, h, hR => exact (h 2 (List.mem_singleton.2 rfl)).symm.trans hR
                | 3, h, hR => exact (h 3 (List.mem_singleton.2 rfl)).symm.trans hR
                | 4, h, hR => exact (h 4 (List.mem_singleton.2 rfl)).symm.trans hR
                | 5, h, hR => exact (h 5 (List.mem_singleton.2 rfl)).symm.trans hR
                | 6, h, hR => exact (h 6 (List.mem_singleton.2 rfl)).symm.trans hR
                | 7, h, hR => exact (h 7 (List.mem_singleton.2 rfl)).symm.trans hR
                | 8, h, hR => exact (h 8 (List.mem_singleton.2 rfl)).symm.trans hR
                | 9, h, hR => exact (h 9 (List.mem_singleton.2 rfl)).symm.trans hR
                | 10, h, hR => exact (h 10 (List.mem_singleton.2 rfl)).symm.trans hR
                | 11, h, hR => exact (h 11 (List.mem_singleton.2 rfl)).symm.trans hR
                | 12, h, hR => exact (h 12 (List.mem_singleton.2 rfl)).symm.trans hR
                | 13, h, hR => exact (h 13 (List.mem_singleton.2 rfl)).symm.trans hR
                | 14, h, hR => exact (h 14 (List.mem_singleton.2 rfl)).symm.trans hR
                | 15, h, hR => exact trivial
                | 16, h, hR => exact (h 16 (List.mem_singleton.2 rfl)).symm.trans hR
                | 17, h, hR => exact trivial
                | _ + 18, _, _ => exact trivial
              · intro j σ w w' hb hR
                match j, hR with
                | 0, hR => exact hR
                | 1, hR => exact hR
                | 2, hR => exact hR
                | 3, hR => exact hR
                | 4, hR => exact hR
                | 5, hR => exact hR
                | 6, hR => exact hR
                | 7, hR => exact hR
                | 8, hR => exact hR
                | 9, hR => exact hR
                | 10, hR => exact hR
                | 11, hR => exact hR
                | 12, hR => exact hR
                | 13, hR => exact hR
                | 14, hR => exact hR
                | 15, hR => exact hR
                | 16, hR => exact hR
                | 17, hR => exact hR
                | _ + 18, _ => exact trivial
              · exact ⟨⟨hB.os, hB.tape, hB.output, hB.size, hB.block⟩, hO⟩
              · -- 0: Op.move t0
                go_light
                intro L σ W' hcl hL hC hw
                obtain ⟨hB, hO⟩ := hC
                have HB_ := Lib.hid hB
                have HO_ := Lib.hid hO
                clear hcl hw hB hO hL
                refine OpGoes.step fun K hK => ?_
                unfold OpGoes
                go_simp
                exact hK _ _ ⟨⟨HB_.out, by simpa [upd] using HO_.out⟩, rfl, Nat.le_refl _⟩
              · -- 1: Op.move t9
                go_light
                intro L σ W' hcl hL hC hw
                obtain ⟨hB, hO⟩ := hC
                have HB_ := Lib.hid hB
                have HO_ := Lib.hid hO
                clear hcl hw hB hO hL
                refine OpGoes.step fun K hK => ?_
                unfold OpGoes
                go_simp
                exact hK _ _ ⟨⟨HB_.out, by simpa [upd] using HO_.out⟩, rfl, Nat.le_refl _⟩
              · -- 2: Op.move t0
                go_light
                intro L σ W' hcl hL hC hw
                obtain ⟨hB, hO⟩ := hC
                have HB_ := Lib.hid hB
                have HO_ := Lib.hid hO
                clear hcl hw hB hO hL
                refine OpGoes.step fun K hK => ?_
                unfold OpGoes
                go_simp
                exact hK _ _ ⟨⟨HB_.out, by simpa [upd] using HO_.out⟩, rfl, Nat.le_refl _⟩
              · -- 3: Op.move t9
                go_light
                intro L σ W' hcl hL hC hw
                obtain ⟨hB, hO⟩ := hC
                have HB_ := Lib.hid hB
                have HO_ := Lib.hid hO
                clear hcl hw hB hO hL
                refine OpGoes.step fun K hK => ?_
                unfold OpGoes
                go_simp
                exact hK _ _ ⟨⟨HB_.out, by simpa [upd] using HO_.out⟩, rfl, Nat.le_refl _⟩
              · -- 4: Op.binOp BinOp.sub 3 t40 (const (1:i64)) 3
                go_light
                intro L σ W' hcl hL hC hw
                have e3 : σ 3 = .int .i64 jj := hw 3 (by kernel_rfl)
                obtain ⟨hB, hO⟩ := hC
                have wr_ : IntKind.i64.wrap ((jj : Int) - 1) = (jj : Int) - 1 := by rw [IntKind.wrap_i64]; omega
                have HB_ := Lib.hid hB
                have HO_ := Lib.hid hO
                clear hcl hw hB hO hL
                refine OpGoes.step fun K hK => ?_
                unfold OpGoes
                go_simp
                exact hK _ _ ⟨⟨HB_.out, by simpa [upd] using HO_.out⟩, rfl, Nat.le_refl _⟩
              · -- 5: Op.move t0
                go_light
                intro L σ W' hcl hL hC hw
                obtain ⟨hB, hO⟩ := hC
                have HB_ := Lib.hid hB
                have HO_ := Lib.hid hO
                clear hcl hw hB hO hL
                refine OpGoes.step fun K hK => ?_
                unfold OpGoes
                go_simp
                exact hK _ _ ⟨⟨HB_.out, by simpa [upd] using HO_.out⟩, rfl, Nat.le_refl _⟩
              · -- 6: Op.move t9
                go_light
                intro L σ W' hcl hL hC hw
                obtain ⟨hB, hO⟩ := hC
                have HB_ := Lib.hid hB
                have HO_ := Lib.hid hO
                clear hcl hw hB hO hL
                refine OpGoes.step fun K hK => ?_
                unfold OpGoes
                go_simp
                exact hK _ _ ⟨⟨HB_.out, by simpa [upd] using HO_.out⟩, rfl, Nat.le_refl _⟩
              · -- 7: Op.binOp BinOp.sub 3 t43 (const (1:i64)) 3
                go_light
                intro L σ W' hcl hL hC hw
                have e6 : σ 6 = .int .i64 jj := hw 6 (by kernel_rfl)
                obtain ⟨hB, hO⟩ := hC
                have wr_ : IntKind.i64.wrap ((jj : Int) - 1) = (jj : Int) - 1 := by rw [IntKind.wrap_i64]; omega
                have HB_ := Lib.hid hB
                have HO_ := Lib.hid hO
                clear hcl hw hB hO hL
                refine OpGoes.step fun K hK => ?_
                unfold OpGoes
                go_simp
                exact hK _ _ ⟨⟨HB_.out, by simpa [upd] using HO_.out⟩, rfl, Nat.le_refl _⟩
              · -- 8: Op.indexAddr 25 t42 t44
                go_light
                intro L σ W' hcl hL hC hw
                have e5 : σ 5 = .slice (some ⟨g, 0, none⟩) n cap := hw 5 (by kernel_rfl)
                have e7 : σ 7 = .int .i64 ((jj : Int) - 1) := hw 7 (by kernel_rfl)
                obtain ⟨hB, hO⟩ := hC
                have b1_ : (1 : Int) ≤ (jj : Int) := by omega
                have b2_ : (jj : Int) - 1 < (n : Int) := by omega
                have HB_ := Lib.hid hB
                have HO_ := Lib.hid hO
                clear hcl hw hB hO hL
                refine OpGoes.step fun K hK => ?_
                unfold OpGoes
                go_simp
                exact hK _ _ ⟨⟨HB_.out, by simpa [upd] using HO_.out⟩, rfl, Nat.le_refl _⟩
              · -- 9: Op.load 39 t45
                go_light
                intro L σ W' hcl hL hC hw
                have e8 : σ 8 = .pointer (some ⟨g, (jj - 1) * 4, none⟩) := hw 8 (by kernel_rfl)
                obtain ⟨hB, hO⟩ := hC
                have n15 : L 15 = false := hcl.not (j := 15) (k := 9) (by kernel_rfl) hL
                have n17 : L 17 = false := hcl.not (j := 17) (k := 9) (by kernel_rfl) hL
                have hO2 : PlsO lo W' g n cap cur := by have := hO; rw [n15, n17] at this; exact this
                obtain ⟨d0, d1, d2, d3⟩ := pls_at hO2 HQ.out
                rw [← HJ1.out] at d0 d1 d2 d3
                have HB_ := Lib.hid hB
                have HO_ := Lib.hid hO
                clear hcl hw hB hO hL
                refine OpGoes.step fun K hK => ?_
                unfold OpGoes
                go_simp
                exact hK _ _ ⟨⟨HB_.out, by simpa [upd] using HO_.out⟩, rfl, Nat.le_refl _⟩
              · -- 10: Op.move t0
                go_light
                intro L σ W' hcl hL hC hw
                obtain ⟨hB, hO⟩ := hC
                have HB_ := Lib.hid hB
                have HO_ := Lib.hid hO
                clear hcl hw hB hO hL
                refine OpGoes.step fun K hK => ?_
                unfold OpGoes
                go_simp
                exact hK _ _ ⟨⟨HB_.out, by simpa [upd] using HO_.out⟩, rfl, Nat.le_refl _⟩
              · -- 11: Op.move t9
                go_light
                intro L σ W' hcl hL hC hw
                obtain ⟨hB, hO⟩ := hC
                have HB_ := Lib.hid hB
                have HO_ := Lib.hid hO
                clear hcl hw hB hO hL
                refine OpGoes.step fun K hK => ?_
                unfold OpGoes
                go_simp
                exact hK _ _ ⟨⟨HB_.out, by simpa [upd] using HO_.out⟩, rfl, Nat.le_refl _⟩
              · -- 12: Op.indexAddr 25 t47 t48
                go_light
                intro L σ W' hcl hL hC hw
                have e10 : σ 10 = .slice (some ⟨g, 0, none⟩) n cap := hw 10 (by kernel_rfl)
                have e11 : σ 11 = .int .i64 jj := hw 11 (by kernel_rfl)
                obtain ⟨hB, hO⟩ := hC
                have b1_ : (0 : Int) ≤ (jj : Int) := by omega
                have b2_ : (jj : Int) < (n : Int) := by omega
                have HB_ := Lib.hid hB
                have HO_ := Lib.hid hO
                clear hcl hw hB hO hL
                refine OpGoes.step fun K hK => ?_
                unfold OpGoes
                go_simp
                exact hK _ _ ⟨⟨HB_.out, by simpa [upd] using HO_.out⟩, rfl, Nat.le_refl _⟩
              · -- 13: Op.load 39 t49
                go_light
                intro L σ W' hcl hL hC hw
                have e12 : σ 12 = .pointer (some ⟨g, jj * 4, none⟩) := hw 12 (by kernel_rfl)
                obtain ⟨hB, hO⟩ := hC
                have n15 : L 15 = false := hcl.not (j := 15) (k := 13) (by kernel_rfl) hL
                have n17 : L 17 = false := hcl.not (j := 17) (k := 13) (by kernel_rfl) hL
                have hO2 : PlsO lo W' g n cap cur := by have := hO; rw [n15, n17] at this; exact this
                obtain ⟨d0, d1, d2, d3⟩ := pls_at hO2 HP.out
                have HB_ := Lib.hid hB
                have HO_ := Lib.hid hO
                clear hcl hw hB hO hL
                refine OpGoes.step fun K hK => ?_
                unfold OpGoes
                go_simp
                exact hK _ _ ⟨⟨HB_.out, by simpa [upd] using HO_.out⟩, rfl, Nat.le_refl _⟩
              · -- 14: Op.indexAddr 25 t37 t38
                go_light
                intro L σ W' hcl hL hC hw
                have e0 : σ 0 = .slice (some ⟨g, 0, none⟩) n cap := hw 0 (by kernel_rfl)
                have e1 : σ 1 = .int .i64 jj := hw 1 (by kernel_rfl)
                obtain ⟨hB, hO⟩ := hC
                have b1_ : (0 : Int) ≤ (jj : Int) := by omega
                have b2_ : (jj : Int) < (n : Int) := by omega
                have HB_ := Lib.hid hB
                have HO_ := Lib.hid hO
                clear hcl hw hB hO hL
                refine OpGoes.step fun K hK => ?_
                unfold OpGoes
                go_simp
                exact hK _ _ ⟨⟨HB_.out, by simpa [upd] using HO_.out⟩, rfl, Nat.le_refl _⟩
              · -- 15: Op.store 39 t51 t46
                go_light
                intro L σ W' hcl hL hC hw hne
                have e9 : σ 9 = .agg #[.bool q.s, .int .i64 q.n, .bool q.f, .int .i64 q.v] := hw 9 (by kernel_rfl)
                have e14 : σ 14 = .pointer (some ⟨g, jj * 4, none⟩) := hw 14 (by kernel_rfl)
                obtain ⟨hB, hO⟩ := hC
                have hlen : (insST cur jj j1 p q (L 15) (L 17)).length = n := hO.1
                obtain ⟨x, hx⟩ : ∃ x, (insST cur jj j1 p q (L 15) (L 17))[jj]? = some x := ⟨_, List.getElem?_eq_getElem (by omega)⟩
                obtain ⟨d0, d1, d2, d3⟩ := pls_at hO hx
                have df := Own.frozen_ hO
                have n17 : L 17 = false := hcl.not (j := 17) (k := 15) (by kernel_rfl) hL
                have HB_ := Lib.hid hB
                have HO_ := Lib.hid hO
                have HL_ := Lib.hid hL
                clear hcl hw hne hB hO hlen hx hL
                refine OpGoes.step fun K hK => ?_
                unfold OpGoes
                go_simp
                refine hK _ _ ⟨⟨(((HB_.out.set _ _).set _ _).set _ _).set _ _, ?_⟩, trivial, by simp, fun i hi hn hR => ?_⟩
                · have := Own.setEl HO_.out Pl.cs_len (by omega) (i := jj) (by omega) q
                  have e : insST cur jj j1 p q (upd L 15 true 15) (upd L 15 true 17) = (insST cur jj j1 p q (L 15) (L 17)).set jj q := by
                    simp [upd, insST, n17, HL_.out]
                  rw [e]
                  exact this
                · match i, hi, hn, hR with
                  | 0, _, _, hR => exact (show σ 0 = .slice (some ⟨g, 0, none⟩) n cap from hR)
                  | 1, _, _, hR => exact (show σ 1 = .int .i64 jj from hR)
                  | 2, _, _, hR => exact (show σ 2 = .slice (some ⟨g, 0, none⟩) n cap from hR)
                  | 3, _, _, hR => exact (show σ 3 = .int .i64 jj from hR)
                  | 4, _, _, hR => exact (show σ 4 = .int .i64 ((jj : Int) - 1) from hR)
                  | 5, _, _, hR => exact (show σ 5 = .slice (some ⟨g, 0, none⟩) n cap from hR)
                  | 6, _, _, hR => exact (show σ 6 = .int .i64 jj from hR)
                  | 7, _, _, hR => exact (show σ 7 = .int .i64 ((jj : Int) - 1) from hR)
                  | 8, _, _, hR => exact (show σ 8 = .pointer (some ⟨g, (jj - 1) * 4, none⟩) from hR)
                  | 9, _, _, hR => exact (show σ 9 = .agg #[.bool q.s, .int .i64 q.n, .bool q.f, .int .i64 q.v] from hR)
                  | 10, _, _, hR => exact (show σ 10 = .slice (some ⟨g, 0, none⟩) n cap from hR)
                  | 11, _, _, hR => exact (show σ 11 = .int .i64 jj from hR)
                  | 12, _, _, hR => exact (show σ 12 = .pointer (some ⟨g, jj * 4, none⟩) from hR)
                  | 13, _, _, hR => exact (show σ 13 = .agg #[.bool p.s, .int .i64 p.n, .bool p.f, .int .i64 p.v] from hR)
                  | 14, _, _, hR => exact (show σ 14 = .pointer (some ⟨g, jj * 4, none⟩) from hR)
                  | 15, _, _, hR => exact trivial
                  | 16, _, _, hR => exact (show σ 16 = .pointer (some ⟨g, (jj - 1) * 4, none⟩) from hR)
                  | 17, _, _, hR => exact trivial
                  | _ + 18, _, _, _ => exact trivial
              · -- 16: Op.indexAddr 25 t39 t41
                go_light
                intro L σ W' hcl hL hC hw
                have e2 : σ 2 = .slice (some ⟨g, 0, none⟩) n cap := hw 2 (by kernel_rfl)
                have e4 : σ 4 = .int .i64 ((jj : Int) - 1) := hw 4 (by kernel_rfl)
                obtain ⟨hB, hO⟩ := hC
                have b1_ : (1 : Int) ≤ (jj : Int) := by omega
                have b2_ : (jj : Int) - 1 < (n : Int) := by omega
                have HB_ := Lib.hid hB
                have HO_ := Lib.hid hO
                clear hcl hw hB hO hL
                refine OpGoes.step fun K hK => ?_
                unfold OpGoes
                go_simp
                exact hK _ _ ⟨⟨HB_.out, by simpa [upd] using HO_.out⟩, rfl, Nat.le_refl _⟩
              · -- 17: Op.store 39 t52 t50
                go_light
                intro L σ W' hcl hL hC hw hne
                have e13 : σ 13 = .agg #[.bool p.s, .int .i64 p.n, .bool p.f, .int .i64 p.v] := hw 13 (by kernel_rfl)
                have e16 : σ 16 = .pointer (some ⟨g, (jj - 1) * 4, none⟩) := hw 16 (by kernel_rfl)
                obtain ⟨hB, hO⟩ := hC
                have hlen : (insST cur jj j1 p q (L 15) (L 17)).length = n := hO.1
                obtain ⟨x, hx⟩ : ∃ x, (insST cur jj j1 p q (L 15) (L 17))[j1]? = some x := ⟨_, List.getElem?_eq_getElem (by omega)⟩
                obtain ⟨d0, d1, d2, d3⟩ := pls_at hO hx
                rw [← HJ1.out] at d0 d1 d2 d3
                have df := Own.frozen_ hO
                have HB_ := Lib.hid hB
                have HO_ := Lib.hid hO
                have HL_ := Lib.hid hL
                clear hcl hw hne hB hO hlen hx hL
                refine OpGoes.step fun K hK => ?_
                unfold OpGoes
                go_simp
                refine hK _ _ ⟨⟨(((HB_.out.set _ _).set _ _).set _ _).set _ _, ?_⟩, trivial, by simp, fun i hi hn hR => ?_⟩
                · have := Own.setEl HO_.out Pl.cs_len (by omega) (i := j1) (by omega) p
                  have e : insST cur jj j1 p q (upd L 17 true 15) (upd L 17 true 17) = (insST cur jj j1 p q (L 15) (L 17)).set j1 p := by
                    simp [upd, insST, HL_.out]
                  rw [e, HJ1.out]
                  exact this
                · match i, hi, hn, hR with
                  | 0, _, _, hR => exact (show σ 0 = .slice (some ⟨g, 0, none⟩) n cap from hR)
                  | 1, _, _, hR => exact (show σ 1 = .int .i64 jj from hR)
                  | 2, _, _, hR => exact (show σ 2 = .slice (some ⟨g, 0, none⟩) n cap from hR)
                  | 3, _, _, hR => exact (show σ 3 = .int .i64 jj from hR)
                  | 4, _, _, hR => exact (show σ 4 = .int .i64 ((jj : Int) - 1) from hR)
                  | 5, _, _, hR => exact (show σ 5 = .slice (some ⟨g, 0, none⟩) n cap from hR)
                  | 6, _, _, hR => exact (show σ 6 = .int .i64 jj from hR)
                  | 7, _, _, hR => exact (show σ 7 = .int .i64 ((jj : Int) - 1) from hR)
                  | 8, _, _, hR => exact (show σ 8 = .pointer (some ⟨g, (jj - 1) * 4, none⟩) from hR)
                  | 9, _, _, hR => exact (show σ 9 = .agg #[.bool q.s, .int .i64 q.n, .bool q.f, .int .i64 q.v] from hR)
                  | 10, _, _, hR => exact (show σ 10 = .slice (some ⟨g, 0, none⟩) n cap from hR)
                  | 11, _, _, hR => exact (show σ 11 = .int .i64 jj from hR)
                  | 12, _, _, hR => exact (show σ 12 = .pointer (some ⟨g, jj * 4, none⟩) from hR)
                  | 13, _, _, hR => exact (show σ 13 = .agg #[.bool p.s, .int .i64 p.n, .bool p.f, .int .i64 p.v] from hR)
                  | 14, _, _, hR => exact (show σ 14 = .pointer (some ⟨g, jj * 4, none⟩) from hR)
                  | 15, _, _, hR => exact trivial
                  | 16, _, _, hR => exact (show σ 16 = .pointer (some ⟨g, (jj - 1) * 4, none⟩) from hR)
                  | 17, _, _, hR => exact trivial
                  | _ + 18, _, _, _ => exact trivial
              · intro σ L W' hall hC hR
                obtain ⟨hB, hO⟩ := hC
                have n15 : L 15 = true := hall 15 (by decide)
                have n17 : L 17 = true := hall 17 (by decide)
                rw [n15, n17] at hO
                clear hR hall
                simp only [lexAll]
                go_simp
                go_step
                go_wp2
                go_roundw
                case rel => exact ⟨j1, _, by have := HJE.out; omega, by have := HJE.out; simp; omega, hB, hO, by rw [← HSK.out, HSI.out]; rfl⟩
                case measure => have := HJE.out; simp [intOf]; omega
          · have HD := Lib.hid (show decide (p.n < q.n) = false by simpa using hpq)
            have HSI := Lib.hid (show sinkP jj cur = cur by have hj1 := HJE.out; subst hj1; exact sinkP_ge HP.out HQ.out hpq)
            go_upto_region 4 with fail
            go_cut [34] from 18 to 52 (fun u W' => But g w W' ∧ PlsO lo W' g n cap cur ∧ u = .bool false)
            case first =>
              refine wp_region2 (fun w w' => Below w.heap.size w w') (fun _ _ h => h.size) (fun L W' => But g w W' ∧ PlsO lo W' g n cap cur) (insLbR g n cap jj p q) insLbK insLbS (by kernel_rfl) (by kernel_rfl) ?_ ?_ ?_
                (.grow rfl ?_ <| .grow rfl ?_ <| .grow rfl ?_ <| .grow rfl ?_ <| .grow rfl ?_ <| .grow rfl ?_ <| .grow rfl ?_ <| .grow rfl ?_ <| .grow rfl ?_ <| .grow rfl ?_ <| .grow rfl ?_ <| .grow rfl ?_ <| .grow rfl ?_ <| .grow rfl ?_ <| .grow rfl ?_ <| .grow rfl ?_ <| .grow rfl ?_ <| .nil) ?_
              · intro j σ τ w h hR
                match j, h, hR with
                | 0, h, hR => exact (h 0 (List.mem_singleton.2 rfl)).symm.trans hR
                | 1, h, hR => exact (h 1 (List.mem_singleton.2 rfl)).symm.trans hR
                | 2, h, hR => exact (h 2 (List.mem_singleton.2 rfl)).symm.trans hR
                | 3, h, hR => exact (h 3 (List.mem_singleton.2 rfl)).symm.trans hR
                | 4, h, hR => exact (h 4 (List.mem_singleton.2 rfl)).symm.trans hR
                | 5, h, hR => exact (h 5 (List.mem_singleton.2 rfl)).symm.trans hR
                | 6, h, hR => exact (h 6 (List.mem_singleton.2 rfl)).symm.trans hR
                | 7, h, hR => exact (h 7 (List.mem_singleton.2 rfl)).symm.trans hR
                | 8, h, hR => exact (h 8 (List.mem_singleton.2 rfl)).symm.trans hR
                | 9, h, hR => exact (h 9 (List.mem_singleton.2 rfl)).symm.trans hR
                | 10, h, hR => exact (h 10 (List.mem_singleton.2 rfl)).symm.trans hR
                | 11, h, hR => exact (h 11 (List.mem_singleton.2 rfl)).symm.trans hR
                | 12, h, hR => exact (h 12 (List.mem_singleton.2 rfl)).symm.trans hR
                | 13, h, hR => exact (h 13 (List.mem_singleton.2 rfl)).symm.trans hR
                | 14, h, hR => exact (h 14 (List.mem_singleton.2 rfl)).symm.trans hR
                | 15, h, hR => exact (h 15 (List.mem_singleton.2 rfl)).symm.trans hR
                | 16, h, hR => exact (h 16 (List.mem_singleton.2 rfl)).symm.trans hR
                | _ + 17, _, _ => exact trivial
              · intro j σ w w' hb hR
                match j, hR with
                | 0, hR => exact hR
                | 1, hR => exact hR
                | 2, hR => exact hR
                | 3, hR => exact hR
                | 4, hR => exact hR
                | 5, hR => exact hR
                | 6, hR => exact hR
                | 7, hR => exact hR
                | 8, hR => exact hR
                | 9, hR => exact hR
                | 10, hR => exact hR
                | 11, hR => exact hR
                | 12, hR => exact hR
                | 13, hR => exact hR
                | 14, hR => exact hR
                | 15, hR => exact hR
                | 16, hR => exact hR
                | _ + 17, _ => exact trivial
              · exact ⟨⟨hB.os, hB.tape, hB.output, hB.size, hB.block⟩, hO⟩
              · -- 0: Op.move t9
                go_light
                intro L σ W' hcl hL hC hw
                clear hw
                have HC := Lib.hid hC
                clear hC
                clear hcl hL
                refine OpGoes.step fun K hK => ?_
                unfold OpGoes
                go_simp
                obtain ⟨hB, hO⟩ := HC.out
                exact hK _ _ ⟨⟨hB, hO⟩, rfl, Below.refl _ _⟩
              · -- 1: Op.move t1
                go_light
                intro L σ W' hcl hL hC hw
                clear hw
                have HC := Lib.hid hC
                clear hC
                clear hcl hL
                refine OpGoes.step fun K hK => ?_
                unfold OpGoes
                go_simp
                obtain ⟨hB, hO⟩ := HC.out
                exact hK _ _ ⟨⟨hB, hO⟩, rfl, Below.refl _ _⟩
              · -- 2: Op.binOp BinOp.gtr 3 t18 t19 3
                go_light
                intro L σ W' hcl hL hC hw
                have e0 : σ 0 = .int .i64 ((jj : Int)) := hw 0 (by kernel_rfl)
                have e1 : σ 1 = .int .i64 0 := hw 1 (by kernel_rfl)
                clear hw
                have HC := Lib.hid hC
                obtain ⟨hB, hO⟩ := hC
                have b0_ : (0 : Int) < (jj : Int) := by omega
                clear hcl hL
                clear hB hO
                refine OpGoes.step fun K hK => ?_
                unfold OpGoes
                go_simp
                obtain ⟨hB, hO⟩ := HC.out
                exact hK _ _ ⟨⟨hB, hO⟩, rfl, Below.refl _ _⟩
              · -- 3: Op.move t20
                go_light
                intro L σ W' hcl hL hC hw
                have e2 : σ 2 = .bool true := hw 2 (by kernel_rfl)
                clear hw
                have HC := Lib.hid hC
                clear hC
                clear hcl hL
                refine OpGoes.step fun K hK => ?_
                unfold OpGoes
                go_simp
                obtain ⟨hB, hO⟩ := HC.out
                exact hK _ _ ⟨⟨hB, hO⟩, rfl, Below.refl _ _⟩
              · -- 4: Op.move t3   [guarded: some (3, true)]
                go_light
                intro L σ W' hcl hL hC hw
                have e3 : σ 3 = .bool true := hw 3 (by kernel_rfl)
                clear hw
                have HC := Lib.hid hC
                clear hC
                clear hcl hL
                refine OpGoes.step fun K hK => ?_
                unfold OpGoes
                go_simp
                obtain ⟨hB, hO⟩ := HC.out
                exact hK _ _ ⟨⟨hB, hO⟩, rfl, Below.refl _ _⟩
              · -- 5: Op.move t0   [guarded: some (3, true)]
                go_light
                intro L σ W' hcl hL hC hw
                have e3 : σ 3 = .bool true := hw 3 (by kernel_rfl)
                clear hw
                have HC := Lib.hid hC
                clear hC
                clear hcl hL
                refine OpGoes.step fun K hK => ?_
                unfold OpGoes
                go_simp
                obtain ⟨hB, hO⟩ := HC.out
                exact hK _ _ ⟨⟨hB, hO⟩, rfl, Below.refl _ _⟩
              · -- 6: Op.move t9   [guarded: some (3, true)]
                go_light
                intro L σ W' hcl hL hC hw
                have e3 : σ 3 = .bool true := hw 3 (by kernel_rfl)
                clear hw
                have HC := Lib.hid hC
                clear hC
                clear hcl hL
                refine OpGoes.step fun K hK => ?_
                unfold OpGoes
                go_simp
                obtain ⟨hB, hO⟩ := HC.out
                exact hK _ _ ⟨⟨hB, hO⟩, rfl, Below.refl _ _⟩
              · -- 7: Op.indexAddr 25 t23 t24   [guarded: some (3, true)]
                go_light
                intro L σ W' hcl hL hC hw
                have e3 : σ 3 = .bool true := hw 3 (by kernel_rfl)
                have e5 : σ 5 = .slice (some ⟨g, 0, none⟩) n cap := hw 5 (by kernel_rfl)
                have e6 : σ 6 = .int .i64 ((jj : Int)) := hw 6 (by kernel_rfl)
                clear hw
                have HC := Lib.hid hC
                obtain ⟨hB, hO⟩ := hC
                have b1_ : (0 : Int) ≤ (jj : Int) := by omega
                have b2_ : (jj : Int) < (n : Int) := by omega
                clear hcl hL
                clear hB hO
                refine OpGoes.step fun K hK => ?_
                unfold OpGoes
                go_simp
                obtain ⟨hB, hO⟩ := HC.out
                exact hK _ _ ⟨⟨hB, hO⟩, rfl, Below.refl _ _⟩
              · -- 8: Op.load 39 t25   [guarded: some (3, true)]
                go_light
                intro L σ W' hcl hL hC hw
                have e3 : σ 3 = .bool true := hw 3 (by kernel_rfl)
                have e7 : σ 7 = .pointer (some ⟨g, jj * 4, none⟩) := hw 7 (by kernel_rfl)
                clear hw
                have HC := Lib.hid hC
                obtain ⟨hB, hO⟩ := hC
                obtain ⟨d0, d1, d2, d3⟩ := pls_at hO HP.out
                clear hcl hL
                clear hB hO
                refine OpGoes.step fun K hK => ?_
                unfold OpGoes
                go_simp
                obtain ⟨hB, hO⟩ := HC.out
                exact hK _ _ ⟨⟨hB, hO⟩, rfl, Below.refl _ _⟩
              · -- 9: Op.move t0   [guarded: some (3, true)]
                go_light
                intro L σ W' hcl hL hC hw
                have e3 : σ 3 = .bool true := hw 3 (by kernel_rfl)
                clear hw
                have HC := Lib.hid hC
                clear hC
                clear hcl hL
                refine OpGoes.step fun K hK => ?_
                unfold OpGoes
                go_simp
                obtain ⟨hB, hO⟩ := HC.out
                exact hK _ _ ⟨⟨hB, hO⟩, rfl, Below.refl _ _⟩
              · -- 10: Op.move t9   [guarded: some (3, true)]
                go_light
                intro L σ W' hcl hL hC hw
                have e3 : σ 3 = .bool true := hw 3 (by kernel_rfl)
                clear hw
                have HC := Lib.hid hC
                clear hC
                clear hcl hL
                refine OpGoes.step fun K hK => ?_
                unfold OpGoes
                go_simp
                obtain ⟨hB, hO⟩ := HC.out
                exact hK _ _ ⟨⟨hB, hO⟩, rfl, Below.refl _ _⟩
              · -- 11: Op.binOp BinOp.sub 3 t28 (const (1:i64)) 3   [guarded: some (3, true)]
                go_light
                intro L σ W' hcl hL hC hw
                have e3 : σ 3 = .bool true := hw 3 (by kernel_rfl)
                have e10 : σ 10 = .int .i64 ((jj : Int)) := hw 10 (by kernel_rfl)
                clear hw
                have HC := Lib.hid hC
                obtain ⟨hB, hO⟩ := hC
                have wr_ : IntKind.i64.wrap ((jj : Int) - 1) = (jj : Int) - 1 := by rw [IntKind.wrap_i64]; omega
                clear hcl hL
                clear hB hO
                refine OpGoes.step fun K hK => ?_
                unfold OpGoes
                go_simp
                obtain ⟨hB, hO⟩ := HC.out
                exact hK _ _ ⟨⟨hB, hO⟩, rfl, Below.refl _ _⟩
              · -- 12: Op.indexAddr 25 t27 t29   [guarded: some (3, true)]
                go_light
                intro L σ W' hcl hL hC hw
                have e3 : σ 3 = .bool true := hw 3 (by kernel_rfl)
                have e9 : σ 9 = .slice (some ⟨g, 0, none⟩) n cap := hw 9 (by kernel_rfl)
                have e11 : σ 11 = .int .i64 ((jj : Int) - 1) := hw 11 (by kernel_rfl)
                clear hw
                have HC := Lib.hid hC
                obtain ⟨hB, hO⟩ := hC
                have b1_ : (1 : Int) ≤ (jj : Int) := by omega
                have b2_ : (jj : Int) - 1 < (n : Int) := by omega
                clear hcl hL
                clear hB hO
                refine OpGoes.step fun K hK => ?_
                unfold OpGoes
                go_simp
                obtain ⟨hB, hO⟩ := HC.out
                exact hK _ _ ⟨⟨hB, hO⟩, rfl, Below.refl _ _⟩
              · -- 13: Op.load 39 t30   [guarded: some (3, true)]
                go_light
                intro L σ W' hcl hL hC hw
                have e3 : σ 3 = .bool true := hw 3 (by kernel_rfl)
                have e12 : σ 12 = .pointer (some ⟨g, (jj - 1) * 4, none⟩) := hw 12 (by kernel_rfl)
                clear hw
                have HC := Lib.hid hC
                obtain ⟨hB, hO⟩ := hC
                obtain ⟨d0, d1, d2, d3⟩ := pls_at hO HQ.out
                rw [← HJ1.out] at d0 d1 d2 d3
                clear hcl hL
                clear hB hO
                refine OpGoes.step fun K hK => ?_
                unfold OpGoes
                go_simp
                obtain ⟨hB, hO⟩ := HC.out
                exact hK _ _ ⟨⟨hB, hO⟩, rfl, Below.refl _ _⟩
              · -- 14: Op.call { value t22, args := #[t26, t31], argTypes := #[39, 39] }   [guarded: some (3, true)]
                go_light
                intro L σ W' hcl hL hC hw
                have e3 : σ 3 = .bool true := hw 3 (by kernel_rfl)
                have e4 : σ 4 = .func (.func 85) #[] #[] := hw 4 (by kernel_rfl)
                have e8 : σ 8 = .agg #[.bool p.s, .int .i64 p.n, .bool p.f, .int .i64 p.v] := hw 8 (by kernel_rfl)
                have e13 : σ 13 = .agg #[.bool q.s, .int .i64 q.n, .bool q.f, .int .i64 q.v] := hw 13 (by kernel_rfl)
                clear hw
                have HC := Lib.hid hC
                clear hC
                clear hcl hL
                refine OpGoes.step fun K hK => ?_
                unfold OpGoes
                go_simp
                obtain ⟨hB, hO⟩ := HC.out
                refine (byNo_any p q _).mono ?_
                rintro e w1 ⟨rfl, hb1⟩
                exact ⟨_, rfl, hK _ _ ⟨⟨hB.trans (But.of_below hb1), hO.below hb1⟩, rfl, hb1⟩⟩
              · -- 15: Op.binOp BinOp.lss 3 t32 (const (0:i64)) 3   [guarded: some (3, true)]
                go_light
                intro L σ W' hcl hL hC hw
                have e3 : σ 3 = .bool true := hw 3 (by kernel_rfl)
                have e14 : σ 14 = .int .i64 (cmpI p.n q.n) := hw 14 (by kernel_rfl)
                clear hw
                have HC := Lib.hid hC
                obtain ⟨hB, hO⟩ := hC
                have lt_ : decide (cmpI p.n q.n < 0) = false := by rw [cmpI_lt]; exact HD.out
                clear hcl hL
                clear hB hO
                refine OpGoes.step fun K hK => ?_
                unfold OpGoes
                go_simp
                obtain ⟨hB, hO⟩ := HC.out
                exact hK _ _ ⟨⟨hB, hO⟩, rfl, Below.refl _ _⟩
              · -- 16: Op.pick t21 t33 (const (Value.bool false))
                go_light
                intro L σ W' hcl hL hC hw
                have e3 : σ 3 = .bool true := hw 3 (by kernel_rfl)
                have e15 : σ 15 = .bool false := hw 15 (by kernel_rfl)
                clear hw
                have HC := Lib.hid hC
                clear hC
                clear hcl hL
                refine OpGoes.step fun K hK => ?_
                unfold OpGoes
                go_simp
                obtain ⟨hB, hO⟩ := HC.out
                exact hK _ _ ⟨⟨hB, hO⟩, rfl, Below.refl _ _⟩
              · intro σ L W' hall hC hR
                obtain ⟨hB, hO⟩ := hC
                have e16 : σ 16 = .bool false := hR 16 (by decide)
                clear hR
                simp only [lexAll]
                go_simp
                go_step
                go_meet
                exact ⟨hB, hO, rfl⟩
            case rest =>
              clear hB hO
              obtain ⟨hB, hO, rfl⟩ := hcut
              go_wp2
              go_roundw
              case rel => exact ⟨k + 1, by omega, by omega, by go_num, hB, by rw [HS.out, ← HSK.out, HSI.out]; exact hO⟩
              case measure => simp [intOf]; omega
    · have g1 : ¬ (k : Int) < (n : Int) := by omega
      obtain rfl : k = n := by omega
      go_wp2
      go_end0
      exact ⟨⟨_, rfl⟩, hB, hO⟩

end Go.Proofs.Ytnebllfmnandgaa

/-
  The model's count of orders: whether one may be the next of a set.
-/
import Derived.Test.YtdfbbekolcpbmaaOrdB
import Derived.Test.YtdfbbekolcpbmaaGrowV
import Derived.Deep.Light
import Derived.Laws.BitsLemmas
namespace Go.Proofs.Ytdfbbekolcpbmaa
set_option linter.unusedSimpArgs false
set_option linter.unusedVariables false
open Go.RowKit
set_option linter.unusedVariables false
attribute [local go_sem] OpUpon
attribute [local go_sem ↓] Go.wp_at_zero Go.wp_at_succ

theorem bit_val (m k : Nat) (hm : m < 65536) : bits BinOp.and IntKind.i64 ((m : Int) / 2 ^ k) 1 = ((m / 2 ^ k % 2 : Nat) : Int) := by
  have e : ((m : Int) / 2 ^ k) = ((m / 2 ^ k : Nat) : Int) := by push_cast; rfl
  have hle : m / 2 ^ k ≤ m := Nat.div_le_self _ _
  rw [e]
  generalize m / 2 ^ k = q at hle
  have h := bits_mask .i64 31 (by decide) (fun n h0 h1 => by rw [IntKind.wrap_i64]; omega) 1 (by decide) (q : Int) (by omega) (by omega)
  have e1 : ((2 : Int) ^ 1 - 1) = 1 := by decide
  rw [e1] at h
  rw [h]
  omega
theorem bit_yes {m k : Nat} (hm : m < 65536) (h : m / 2 ^ k % 2 = 1) : (bits BinOp.and IntKind.i64 ((m : Int) / 2 ^ k) 1 == 1) = true := by rw [bit_val m k hm, h]; rfl
theorem bit_no {m k : Nat} (hm : m < 65536) (h : ¬ m / 2 ^ k % 2 = 1) : (bits BinOp.and IntKind.i64 ((m : Int) / 2 ^ k) 1 == 1) = false := by rw [bit_val m k hm, show m / 2 ^ k % 2 = 0 by omega]; rfl

set_option maxHeartbeats 400000 in
theorem sahead_any (x y : Ev) (w : World) : Calls Try.prog 25 #[.agg #[.int .i64 x.who, .bool x.put, .int .i64 x.v, .int .i64 x.re, .int .i64 x.b, .int .i64 x.e], .agg #[.int .i64 y.who, .bool y.put, .int .i64 y.v, .int .i64 y.re, .int .i64 y.b, .int .i64 y.e]] w (RetBelow (.bool (decide (x.e < y.b))) w) := by
  by_cases h : x.e < y.b
  all_goals
    go_enter Try.func25, Try.ntmps25
    go_wp2
    go_ret
    exact .mk (by simp [h]) (((Below.refl _ _).alloc (Nat.le_refl _) _).alloc (by simp) _)

theorem ev_cells {w : World} {b o n i : Nat} {l : List Ev} {y : Ev} (h : EvsR w (some ⟨b, o, none⟩) n l) (hi : i < n) (hy : l[i]? = some y) : EvE 0 w b (o + i * 6) y := by
  obtain ⟨b', o', y', e, _, hy', hE⟩ := SlE.at_ h hi
  injection e with e
  injection e with e1 e2
  rw [hy] at hy'
  injection hy' with hy'
  rw [hy', e1, e2]
  exact hE

/-- Whether one at k may be the next of the set m. -/
def maskNext (l : List Ev) (m k : Nat) (x : Ev) : Bool := decide (m / 2 ^ k % 2 = 1) && nextB (pick l m) x
theorem maskNext_no {l : List Ev} {m k i : Nat} {x o : Ev} (hb : m / 2 ^ i % 2 = 1) (hi : i < l.length) (ho : l[i]? = some o) (ha : o.e < x.b) : maskNext l m k x = false := by
  unfold maskNext
  rw [nextB_no (o := o) (i := rank m i) (by rw [pick_at l m i hb hi]; exact ho) ha, Bool.and_false]
theorem maskNext_end {l : List Ev} {m k : Nat} {x : Ev} (hx : l[k]? = some x) (hs : x.b ≤ x.e) (h : ∀ (j : Nat) o, j < l.length → l[j]? = some o → m / 2 ^ j % 2 = 1 → j ≠ k → x.b ≤ o.e) : maskNext l m k x = decide (m / 2 ^ k % 2 = 1) := by
  unfold maskNext
  rw [nextB_yes (fun j o hj ho => ?_), Bool.and_true]
  obtain ⟨i, hi, hb, hox, _⟩ := pick_from l m j o ho
  by_cases e : i = k
  · subst e
    rw [hx] at hox; injection hox with hox; subst hox; omega
  · have := h i o hi hox hb e; omega

def nxAV (l : List Ev) (x y : Ev) (b o n cap m k i : Nat) : List Sl := [.v (.int .i64 ((m : Int))),
  .v (.int .i64 ((i : Int))),
  .v (.int .u64 (i : Int)),
  .v (.int .i64 (((m : Int) / 2 ^ i))),
  .v (.int .i64 ((bits BinOp.and IntKind.i64 ((m : Int) / 2 ^ i) 1))),
  .v (.bool false),
  .v (.bool false),
  .v undef,
  .v undef,
  .v undef,
  .v (.bool false),
  .v (.bool false),
  .v undef,
  .v undef,
  .v undef,
  .v undef,
  .v undef,
  .v undef,
  .v undef,
  .v undef,
  .v undef,
  .v (.bool false)]

def nxBV (l : List Ev) (x y : Ev) (b o n cap m k i : Nat) : List Sl := [.v (.int .i64 ((m : Int))),
  .v (.int .i64 ((i : Int))),
  .v (.int .u64 (i : Int)),
  .v (.int .i64 (((m : Int) / 2 ^ i))),
  .v (.int .i64 ((bits BinOp.and IntKind.i64 ((m : Int) / 2 ^ i) 1))),
  .v (.bool true),
  .v (.bool true),
  .v (.int .i64 ((i : Int))),
  .v (.int .i64 ((k : Int))),
  .v (.bool false),
  .v (.bool false),
  .v (.bool false),
  .v undef,
  .v undef,
  .v undef,
  .v undef,
  .v undef,
  .v undef,
  .v undef,
  .v undef,
  .v undef,
  .v (.bool false)]

def nxCV (l : List Ev) (x y : Ev) (b o n cap m k i : Nat) : List Sl := [.v (.int .i64 ((m : Int))),
  .v (.int .i64 ((i : Int))),
  .v (.int .u64 (i : Int)),
  .v (.int .i64 (((m : Int) / 2 ^ i))),
  .v (.int .i64 ((bits BinOp.and IntKind.i64 ((m : Int) / 2 ^ i) 1))),
  .v (.bool true),
  .v (.bool true),
  .v (.int .i64 ((i : Int))),
  .v (.int .i64 ((k : Int))),
  .v (.bool true),
  .v (.bool true),
  .v (.bool true),
  .v (.slice (some ⟨b, o, none⟩) n cap),
  .v (.int .i64 ((i : Int))),
  .v (.pointer (some ⟨b, o + i * 6, none⟩)),
  .v (.agg #[.int .i64 y.who, .bool y.put, .int .i64 y.v, .int .i64 y.re, .int .i64 y.b, .int .i64 y.e]),
  .v (.slice (some ⟨b, o, none⟩) n cap),
  .v (.int .i64 ((k : Int))),
  .v (.pointer (some ⟨b, o + k * 6, none⟩)),
  .v (.agg #[.int .i64 x.who, .bool x.put, .int .i64 x.v, .int .i64 x.re, .int .i64 x.b, .int .i64 x.e]),
  .v (.bool ((decide (y.e < x.b)))),
  .v (.bool ((decide (y.e < x.b))))]

set_option maxRecDepth 100000 in
set_option maxHeartbeats 2000000 in
theorem snext_any (l : List Ev) (x : Ev) (b o n cap m k : Nat) (w : World) (hl : EvsR w (some ⟨b, o, none⟩) n l) (hn : n ≤ 16) (hm : m < 65536) (hk : k < n) (hx : l[k]? = some x) (hs : x.b ≤ x.e) :
    Calls Try.prog 19 #[.slice (some ⟨b, o, none⟩) n cap, .int .i64 (m : Int), .int .i64 (k : Int)] w (RetBelow (.bool (maskNext l m k x)) w) := by
  have HL := Lib.hid hl.1
  have HX := Lib.hid hx
  have HSX := Lib.hid hs
  clear hx hs
  have hl0 := hl
  go_enter Try.func19, Try.ntmps19
  go_wp2
  go_loopw [7] (fun s7 W => ∃ i : Nat, i ≤ n ∧ s7 = .int .i64 i ∧ Below w.heap.size w W ∧ ∀ (j : Nat) o, j < i → l[j]? = some o → m / 2 ^ j % 2 = 1 → j ≠ k → x.b ≤ o.e) (fun s7 _ => n - (intOf s7).toNat)
  case atStart => exact ⟨0, Nat.zero_le _, rfl, Below.refl _ _, fun j o h => absurd h (by omega)⟩
  case round =>
    obtain ⟨i, hin, rfl, hB, hal⟩ := hrel
    have HAL := Lib.hid hal; clear hal
    by_cases hiN : i < n
    · have hl := hl0.below hB
      have hkN := hk
      obtain ⟨y, hy⟩ : ∃ y, l[i]? = some y := ⟨_, List.getElem?_eq_getElem (by rw [HL.out]; exact hiN)⟩
      have HY := Lib.hid hy
      clear hy
      have hwu : IntKind.u64.wrap (i : Int) = (i : Int) := by rw [IntKind.wrap_u64]; omega
      have h1 : (0 : Int) ≤ (i : Int) := by omega
      have h2 : (i : Int) < (n : Int) := by omega
      have h3 : (0 : Int) ≤ (k : Int) := by omega
      have h4 : (k : Int) < (n : Int) := by omega
      by_cases hbi : m / 2 ^ i % 2 = 1
      · have HB := Lib.hid hbi
        have hbit := bit_yes hm hbi
        clear hbi
        by_cases hik : i = k
        · have HE := Lib.hid hik
          have hne : ((i : Int) != (k : Int)) = false := by simp [hik]
          clear hik
          go_wp2_with fail
          refine wp_region2v (fun w w' => Below w.heap.size w w') (fun _ _ h => h.size) (fun _ => Below.refl _ _) (fun L W' => Below w.heap.size w W' ∧ EvsR W' (some ⟨b, o, none⟩) n l) (nxBV l x y b o n cap m k i) (fun _ => 0) [] (by kernel_rfl) (by kernel_rfl) ?_ ?_ ?_
            (.still rfl ?a0 <| .still rfl ?a1 <| .still rfl ?a2 <| .still rfl ?a3 <| .still rfl ?a4 <| .still rfl ?a5 <| .still rfl ?a6 <| .still rfl ?a7 <| .still rfl ?a8 <| .still rfl ?a9 <| .still rfl ?a10 <| .still rfl ?a11 <| .still rfl ?a12 <| .still rfl ?a13 <| .still rfl ?a14 <| .still rfl ?a15 <| .still rfl ?a16 <| .still rfl ?a17 <| .still rfl ?a18 <| .still rfl ?a19 <| .still rfl ?a20 <| .still rfl ?a21 <| .nil) ?_ ?_
          · exact trivial
          · exact trivial
          · exact ⟨hB.drew, hl⟩
          case a0 | a1 | a3 | a4 | a6 | a7 | a8 | a10 | a11 | a12 | a13 | a14 | a15 | a16 | a17 | a18 | a19 | a20 | a21 =>
            go_light
            intro L σ W' hcl hL hC hw
            try have e0 := wT hw 0 rfl
            try have e2 := wT hw 2 rfl
            try have e3 := wT hw 3 rfl
            try have e5 := wT hw 5 rfl
            try have e6 := wT hw 6 rfl
            try have e9 := wT hw 9 rfl
            try have e10 := wT hw 10 rfl
            try have e11 := wT hw 11 rfl
            try have e12 := wT hw 12 rfl
            try have e13 := wT hw 13 rfl
            try have e14 := wT hw 14 rfl
            try have e15 := wT hw 15 rfl
            try have e16 := wT hw 16 rfl
            try have e17 := wT hw 17 rfl
            try have e18 := wT hw 18 rfl
            try have e19 := wT hw 19 rfl
            try have e20 := wT hw 20 rfl
            clear hw hcl hL hC
            refine OpGoes.step fun K hK => ?_
            unfold OpGoes
            go_simp
            exact hK _ _ ⟨rfl, rfl⟩
          case a2 =>
            go_light
            intro L σ W' hcl hL hC hw
            have e1 := wV hw 1 rfl
            have qw := hwu
            clear hw hcl hL hC
            refine OpGoes.step fun K hK => ?_
            unfold OpGoes
            go_simp
            exact hK _ _ ⟨rfl, rfl⟩
          case a5 =>
            go_light
            intro L σ W' hcl hL hC hw
            have e4 := wV hw 4 rfl
            have qb := hbit
            clear hw hcl hL hC
            refine OpGoes.step fun K hK => ?_
            unfold OpGoes
            go_simp
            exact hK _ _ ⟨rfl, rfl⟩
          case a9 =>
            go_light
            intro L σ W' hcl hL hC hw
            have e6 := wV hw 6 rfl
            have e7 := wV hw 7 rfl
            have e8 := wV hw 8 rfl
            have qn := hne
            clear hw hcl hL hC
            refine OpGoes.step fun K hK => ?_
            unfold OpGoes
            go_simp
            exact hK _ _ ⟨rfl, rfl⟩
          · intro L L' W' hLL hC
            obtain ⟨hB, hl⟩ := hC
            exact ⟨hB, hl⟩
          · intro σ L W' hall hC hRR
            obtain ⟨hB, hl⟩ := hC
            have e21 := dV hRR 21 rfl
            clear hRR
            simp only [lexAll]
            go_simp
            go_step
            go_wp2
            go_roundw
            case rel =>
              refine ⟨i + 1, by omega, by go_num, hB, fun j o hj ho hb hn' => ?_⟩
              by_cases e : j = i
              · subst e
                exact absurd HE.out hn'
              · exact HAL.out j o (by omega) ho hb hn'
            case measure => simp [intOf]; omega
        · have hne : ((i : Int) != (k : Int)) = true := by simp; omega
          clear hik
          go_wp2_with fail
          refine wp_region2v (fun w w' => Below w.heap.size w w') (fun _ _ h => h.size) (fun _ => Below.refl _ _) (fun L W' => Below w.heap.size w W' ∧ EvsR W' (some ⟨b, o, none⟩) n l) (nxCV l x y b o n cap m k i) (fun _ => 0) [] (by kernel_rfl) (by kernel_rfl) ?_ ?_ ?_
            (.still rfl ?a0 <| .still rfl ?a1 <| .still rfl ?a2 <| .still rfl ?a3 <| .still rfl ?a4 <| .still rfl ?a5 <| .still rfl ?a6 <| .still rfl ?a7 <| .still rfl ?a8 <| .still rfl ?a9 <| .still rfl ?a10 <| .still rfl ?a11 <| .still rfl ?a12 <| .still rfl ?a13 <| .still rfl ?a14 <| .still rfl ?a15 <| .still rfl ?a16 <| .still rfl ?a17 <| .still rfl ?a18 <| .still rfl ?a19 <| .grow rfl ?a20 <| .still rfl ?a21 <| .nil) ?_ ?_
          · exact trivial
          · exact trivial
          · exact ⟨hB.drew, hl⟩
          case a0 | a1 | a3 | a4 | a6 | a7 | a8 | a10 | a11 | a12 | a13 | a16 | a17 | a21 =>
            go_light
            intro L σ W' hcl hL hC hw
            try have e0 := wT hw 0 rfl
            try have e2 := wT hw 2 rfl
            try have e3 := wT hw 3 rfl
            try have e5 := wT hw 5 rfl
            try have e6 := wT hw 6 rfl
            try have e9 := wT hw 9 rfl
            try have e10 := wT hw 10 rfl
            try have e11 := wT hw 11 rfl
            try have e20 := wT hw 20 rfl
            clear hw hcl hL hC
            refine OpGoes.step fun K hK => ?_
            unfold OpGoes
            go_simp
            exact hK _ _ ⟨rfl, rfl⟩
          case a15 =>
            go_light
            intro L σ W' hcl hL hC hw
            have e11 := wV hw 11 rfl
            have e14 := wV hw 14 rfl
            obtain ⟨d0, d1, d2, d3, d4, d5⟩ := ev_cells hC.2 hiN HY.out
            clear hw hcl hL hC
            refine OpGoes.step fun K hK => ?_
            unfold OpGoes
            go_simp
            exact hK _ _ ⟨rfl, rfl⟩
          case a19 =>
            go_light
            intro L σ W' hcl hL hC hw
            have e11 := wV hw 11 rfl
            have e18 := wV hw 18 rfl
            obtain ⟨d0, d1, d2, d3, d4, d5⟩ := ev_cells hC.2 hkN HX.out
            clear hw hcl hL hC
            refine OpGoes.step fun K hK => ?_
            unfold OpGoes
            go_simp
            exact hK _ _ ⟨rfl, rfl⟩
          case a2 =>
            go_light
            intro L σ W' hcl hL hC hw
            have e1 := wV hw 1 rfl
            have qw := hwu
            clear hw hcl hL hC
            refine OpGoes.step fun K hK => ?_
            unfold OpGoes
            go_simp
            exact hK _ _ ⟨rfl, rfl⟩
          case a5 =>
            go_light
            intro L σ W' hcl hL hC hw
            have e4 := wV hw 4 rfl
            have qb := hbit
            clear hw hcl hL hC
            refine OpGoes.step fun K hK => ?_
            unfold OpGoes
            go_simp
            exact hK _ _ ⟨rfl, rfl⟩
          case a9 =>
            go_light
            intro L σ W' hcl hL hC hw
            have e6 := wV hw 6 rfl
            have e7 := wV hw 7 rfl
            have e8 := wV hw 8 rfl
            have qn := hne
            clear hw hcl hL hC
            refine OpGoes.step fun K hK => ?_
            unfold OpGoes
            go_simp
            exact hK _ _ ⟨rfl, rfl⟩
          case a14 =>
            go_light
            intro L σ W' hcl hL hC hw
            have e11 := wV hw 11 rfl
            have e12 := wV hw 12 rfl
            have e13 := wV hw 13 rfl
            have g1 := h1
            have g2 := h2
            clear hw hcl hL hC
            refine OpGoes.step fun K hK => ?_
            unfold OpGoes
            go_simp
            exact hK _ _ ⟨rfl, rfl⟩
          case a18 =>
            go_light
            intro L σ W' hcl hL hC hw
            have e11 := wV hw 11 rfl
            have e16 := wV hw 16 rfl
            have e17 := wV hw 17 rfl
            have g1 := h3
            have g2 := h4
            clear hw hcl hL hC
            refine OpGoes.step fun K hK => ?_
            unfold OpGoes
            go_simp
            exact hK _ _ ⟨rfl, rfl⟩
          case a20 =>
            go_light
            intro L σ W' hcl hL hC hw
            have e11 := wV hw 11 rfl
            have e15 := wV hw 15 rfl
            have e19 := wV hw 19 rfl
            clear hw
            have HC := Lib.hid hC
            clear hC
            clear hcl hL
            refine OpGoes.step fun K hK => ?_
            unfold OpGoes
            go_simp
            obtain ⟨hB, hl⟩ := HC.out
            refine (sahead_any y x _).mono ?_
            rintro e w1 ⟨rfl, hb1⟩
            exact ⟨_, rfl, hK _ _ ⟨⟨bstep hB hB.size hb1, hl.below hb1⟩, rfl, hb1⟩⟩
          · intro L L' W' hLL hC
            obtain ⟨hB, hl⟩ := hC
            exact ⟨hB, hl⟩
          · intro σ L W' hall hC hRR
            obtain ⟨hB, hl⟩ := hC
            have e21 := dV hRR 21 rfl
            clear hRR
            simp only [lexAll]
            go_simp
            go_step
            by_cases hok : y.e < x.b
            · have hd : decide (y.e < x.b) = true := by simp [hok]
              rw [hd]
              have HR := Lib.hid (maskNext_no (k := k) HB.out (by rw [HL.out]; exact hiN) HY.out hok)
              clear hok hd
              go_wp2
              go_ret
              exact .mk (by rw [HR.out]; rfl) hB
            · have hd : decide (y.e < x.b) = false := by simp [hok]
              rw [hd]
              have HOK := Lib.hid (show x.b ≤ y.e by omega)
              clear hok hd
              go_wp2
              go_roundw
              case rel =>
                refine ⟨i + 1, by omega, by go_num, hB, fun j o hj ho hb hn' => ?_⟩
                by_cases e : j = i
                · subst e
                  rw [HY.out] at ho; injection ho with ho; subst ho; exact HOK.out
                · exact HAL.out j o (by omega) ho hb hn'
              case measure => simp [intOf]; omega
      · have HB := Lib.hid hbi
        have hbit := bit_no hm hbi
        clear hbi
        go_wp2_with fail
        refine wp_region2v (fun w w' => Below w.heap.size w w') (fun _ _ h => h.size) (fun _ => Below.refl _ _) (fun L W' => Below w.heap.size w W' ∧ EvsR W' (some ⟨b, o, none⟩) n l) (nxAV l x y b o n cap m k i) (fun _ => 0) [] (by kernel_rfl) (by kernel_rfl) ?_ ?_ ?_
          (.still rfl ?a0 <| .still rfl ?a1 <| .still rfl ?a2 <| .still rfl ?a3 <| .still rfl ?a4 <| .still rfl ?a5 <| .still rfl ?a6 <| .still rfl ?a7 <| .still rfl ?a8 <| .still rfl ?a9 <| .still rfl ?a10 <| .still rfl ?a11 <| .still rfl ?a12 <| .still rfl ?a13 <| .still rfl ?a14 <| .still rfl ?a15 <| .still rfl ?a16 <| .still rfl ?a17 <| .still rfl ?a18 <| .still rfl ?a19 <| .still rfl ?a20 <| .still rfl ?a21 <| .nil) ?_ ?_
        · exact trivial
        · exact trivial
        · exact ⟨hB.drew, hl⟩
        case a0 | a1 | a3 | a4 | a6 | a7 | a8 | a9 | a10 | a11 | a12 | a13 | a14 | a15 | a16 | a17 | a18 | a19 | a20 | a21 =>
          go_light
          intro L σ W' hcl hL hC hw
          try have e0 := wT hw 0 rfl
          try have e2 := wT hw 2 rfl
          try have e3 := wT hw 3 rfl
          try have e5 := wT hw 5 rfl
          try have e6 := wT hw 6 rfl
          try have e7 := wT hw 7 rfl
          try have e8 := wT hw 8 rfl
          try have e9 := wT hw 9 rfl
          try have e10 := wT hw 10 rfl
          try have e11 := wT hw 11 rfl
          try have e12 := wT hw 12 rfl
          try have e13 := wT hw 13 rfl
          try have e14 := wT hw 14 rfl
          try have e15 := wT hw 15 rfl
          try have e16 := wT hw 16 rfl
          try have e17 := wT hw 17 rfl
          try have e18 := wT hw 18 rfl
          try have e19 := wT hw 19 rfl
          try have e20 := wT hw 20 rfl
          clear hw hcl hL hC
          refine OpGoes.step fun K hK => ?_
          unfold OpGoes
          go_simp
          exact hK _ _ ⟨rfl, rfl⟩
        case a2 =>
          go_light
          intro L σ W' hcl hL hC hw
          have e1 := wV hw 1 rfl
          have qw := hwu
          clear hw hcl hL hC
          refine OpGoes.step fun K hK => ?_
          unfold OpGoes
          go_simp
          exact hK _ _ ⟨rfl, rfl⟩
        case a5 =>
          go_light
          intro L σ W' hcl hL hC hw
          have e4 := wV hw 4 rfl
          have qb := hbit
          clear hw hcl hL hC
          refine OpGoes.step fun K hK => ?_
          unfold OpGoes
          go_simp
          exact hK _ _ ⟨rfl, rfl⟩
        · intro L L' W' hLL hC
          obtain ⟨hB, hl⟩ := hC
          exact ⟨hB, hl⟩
        · intro σ L W' hall hC hRR
          obtain ⟨hB, hl⟩ := hC
          have e21 := dV hRR 21 rfl
          clear hRR
          simp only [lexAll]
          go_simp
          go_step
          go_wp2
          go_roundw
          case rel =>
            refine ⟨i + 1, by omega, by go_num, hB, fun j o hj ho hb hn' => ?_⟩
            by_cases e : j = i
            · subst e
              exact absurd hb HB.out
            · exact HAL.out j o (by omega) ho hb hn'
          case measure => simp [intOf]; omega
    · have g1 : ¬ (i : Int) < (n : Int) := by omega
      obtain rfl : n = i := by omega
      have HR := Lib.hid (maskNext_end HX.out HSX.out (by rw [HL.out]; exact HAL.out))
      by_cases hbk : m / 2 ^ k % 2 = 1
      · have HB := Lib.hid hbk
        have hbit := bit_yes hm hbk
        clear hbk
        go_wp2
        go_ret
        exact .mk (by rw [HR.out]; simp [HB.out]) hB
      · have HB := Lib.hid hbk
        have hbit := bit_no hm hbk
        clear hbk
        go_wp2
        go_ret
        exact .mk (by rw [HR.out]; simp [HB.out]) hB

end Go.Proofs.Ytdfbbekolcpbmaa

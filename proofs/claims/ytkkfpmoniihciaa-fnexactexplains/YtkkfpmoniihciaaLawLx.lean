/-
  The walk of the law on Explains.
-/
import Derived.Test.YtkkfpmoniihciaaLinC
import Derived.Deep.Light
namespace Go.Proofs.Ytkkfpmoniihciaa
set_option linter.unusedSimpArgs false
set_option linter.unusedVariables false
open Go.RowKit Go.ChangeShapes Go.WideShapes Go.ChangeAt Go.Joins
set_option linter.unusedVariables false
attribute [local go_sem] OpUpon

attribute [local go_sem ↓] Go.wp_at_zero Go.wp_at_succ

theorem explains_len (l : List Int) (x : Ev) : (explains l x).1.length ≤ l.length + 1 := by
  have h1 : (linePut l x.v).1.length ≤ l.length + 1 := by
    unfold linePut
    cases lineOk l
    · simp
    · cases valB x.v && !decide (l.length = 40) <;> simp
  have h2 : (lineTake l).1.length ≤ l.length := by
    unfold lineTake
    cases lineOk l
    · simp
    · cases l <;> simp
  unfold explains
  cases lineOk l
  · simp
  · cases evOk x
    · simp
    · cases x.put
      · cases x.re == 4
        · simp
        · cases (lineTake l).2.2 && (lineTake l).2.1 == x.v
          · simp
          · simp; omega
      · cases x.re == 1
        · simp
        · exact h1

def lxIV (l V : List Int) (x : Ev) (b : Bool) (A : Option Addr) (cap MM BX : Nat) : List Sl := [.v (.slice A l.length cap),
  .e fun σ w => ∃ (X1 : Option Addr) (d1 : Nat), σ 1 = .slice X1 l.length d1 ∧ IntsW MM w.heap.size w X1 l.length d1 l,
  .v (.agg #[.int .i64 x.who, .bool x.put, .int .i64 x.v, .int .i64 x.re, .int .i64 x.b, .int .i64 x.e]),
  .v (.agg #[.int .i64 x.who, .bool x.put, .int .i64 x.v, .int .i64 x.re, .int .i64 x.b, .int .i64 x.e]),
  .e fun σ w => ∃ (X2 : Option Addr) (d2 : Nat), σ 4 = .tuple #[.slice X2 V.length d2, .bool b] ∧ IntsW MM w.heap.size w X2 V.length d2 V,
  .e fun σ w => ∃ (X2 : Option Addr) (d2 : Nat), σ 5 = .tuple #[.slice X2 V.length d2, .bool b] ∧ IntsW MM w.heap.size w X2 V.length d2 V,
  .e fun σ w => ∃ (X2 : Option Addr) (d2 : Nat), σ 6 = .slice X2 V.length d2 ∧ IntsW MM w.heap.size w X2 V.length d2 V,
  .v (.bool b),
  .e fun σ w => ∃ (X2 : Option Addr) (d2 : Nat), σ 8 = .slice X2 V.length d2 ∧ IntsW MM w.heap.size w X2 V.length d2 V,
  .v (.bool b)]

def lxSV (l V : List Int) (x : Ev) (b : Bool) (A : Option Addr) (cap MM BX : Nat) : List Sl := [.v (.slice A l.length cap),
  .e fun σ w => ∃ (X1 : Option Addr) (d1 : Nat), σ 1 = .slice X1 l.length d1 ∧ IntsW MM w.heap.size w X1 l.length d1 l,
  .v (.agg #[.int .i64 x.who, .bool x.put, .int .i64 x.v, .int .i64 x.re, .int .i64 x.b, .int .i64 x.e]),
  .v (.agg #[.int .i64 x.who, .bool x.put, .int .i64 x.v, .int .i64 x.re, .int .i64 x.b, .int .i64 x.e]),
  .e fun σ w => ∃ (X2 : Option Addr) (d2 : Nat), σ 4 = .tuple #[.slice X2 V.length d2, .bool b] ∧ IntsW MM w.heap.size w X2 V.length d2 V,
  .e fun σ w => ∃ (X2 : Option Addr) (d2 : Nat), σ 5 = .tuple #[.slice X2 V.length d2, .bool b] ∧ IntsW MM w.heap.size w X2 V.length d2 V,
  .e fun σ w => ∃ (X2 : Option Addr) (d2 : Nat), σ 6 = .slice X2 V.length d2 ∧ IntsW MM w.heap.size w X2 V.length d2 V,
  .v (.bool b),
  .e fun σ w => ∃ (X2 : Option Addr) (d2 : Nat), σ 8 = .slice X2 V.length d2 ∧ IntsW MM w.heap.size w X2 V.length d2 V,
  .v (.bool b)]

set_option maxRecDepth 100000 in
set_option maxHeartbeats 4000000 in
theorem exactExplains_any (l : List Int) (x : Ev) (A : Option Addr) (n cap : Nat) (w : World) (hl0 : IntsR w A n l) (hn : n ≤ maxLen) :
    Calls Try.prog 8 #[.slice A n cap, .agg #[.int .i64 x.who, .bool x.put, .int .i64 x.v, .int .i64 x.re, .int .i64 x.b, .int .i64 x.e]] w (RetBelow (.bool true) w) := by
  by_cases hbig : ¬ n ≤ 1048576
  · have hbg : (n : Int) > 1048576 := by omega
    go_enter Try.func8, Try.ntmps8
    go_wp2
    go_ret
    exact .mk rfl ((Below.refl _ _).alloc (Nat.le_refl _) _)
  have hn1 : n ≤ 1048576 := by omega
  clear hbig
  have hln := hl0.1
  obtain rfl : l.length = n := hln
  have hbg : ¬ (l.length : Int) > 1048576 := by omega
  obtain ⟨V, b, hq⟩ : ∃ (V : List Int) (b : Bool), explains l x = (V, b) := ⟨_, _, rfl⟩
  have hVn : V.length ≤ 1073741824 := by have h1 := explains_len l x; rw [hq] at h1; simp only at h1; omega
  have HS : ∀ A c lo hi W, IntsW lo hi W A l.length c l → hi ≤ W.heap.size → Calls Try.prog 21 #[.slice A l.length c, .agg #[.int .i64 x.who, .bool x.put, .int .i64 x.v, .int .i64 x.re, .int .i64 x.b, .int .i64 x.e]] W (fun e w' => ∃ A' c', e = .returned (.tuple #[.slice A' V.length c', .bool b]) ∧ IntsW W.heap.size w'.heap.size w' A' V.length c' V ∧ Below W.heap.size W w') := fun A c lo hi W h hh => by have h1 := sexplains_any l x A l.length c lo hi W h hh hn1; rw [hq] at h1; exact h1
  have HP : ∀ A c lo hi W, IntsW lo hi W A l.length c l → hi ≤ W.heap.size → Calls Try.prog 20 #[.slice A l.length c, .agg #[.int .i64 x.who, .bool x.put, .int .i64 x.v, .int .i64 x.re, .int .i64 x.b, .int .i64 x.e]] W (fun e w' => ∃ A' c', e = .returned (.tuple #[.slice A' V.length c', .bool b]) ∧ IntsW W.heap.size w'.heap.size w' A' V.length c' V ∧ Below W.heap.size W w') := fun A c lo hi W h hh => by have h1 := iexplains_any l x A l.length c lo hi W h hh hn1; rw [hq] at h1; exact h1
  clear hq
  replace HS := Lib.hid HS
  replace HP := Lib.hid HP
  go_enter Try.func8, Try.ntmps8
  go_upto_region 3 with fail
  refine wp_abs (fun W => Below w.heap.size w W ∧ BoxAt W w.heap.size #[.int .i64 x.who, .bool x.put, .int .i64 x.v, .int .i64 x.re, .int .i64 x.b, .int .i64 x.e] 42) ⟨(Below.refl _ _).alloc (Nat.le_refl _) _, BoxAt.new _ _ _⟩ ?_
  rintro W0 ⟨hB, hx⟩
  obtain ⟨MM, hMe⟩ : ∃ MM, MM = W0.heap.size := ⟨_, rfl⟩
  have hMM : MM ≤ W0.heap.size := by omega
  have hbx : w.heap.size < MM := by have := hx.lt; omega
  clear hMe
  refine wp_region2v (fun w w' => Below w.heap.size w w') (fun _ _ h => h.size) (fun _ => Below.refl _ _) (fun L W' => Below w.heap.size w W' ∧ MM ≤ W'.heap.size ∧ BoxAt W' w.heap.size #[.int .i64 x.who, .bool x.put, .int .i64 x.v, .int .i64 x.re, .int .i64 x.b, .int .i64 x.e] 42) (lxSV l V x b A cap MM w.heap.size) (fun _ => 0) [] (by kernel_rfl) (by kernel_rfl) ?_ ?_ ?_
    (.still rfl ?a0 <| .grow rfl ?a1 <| .still rfl ?a2 <| .grow rfl ?a3 <| .grow rfl ?a4 <| .still rfl ?a5 <| .still rfl ?a6 <| .still rfl ?a7 <| .still rfl ?a8 <| .still rfl ?a9 <| .nil) ?_ ?_
  · exact ⟨fun _ _ _ h ⟨X1, d1, e, hp⟩ => ⟨X1, d1, (h 1 (List.mem_singleton.2 rfl)).symm.trans e, hp⟩, fun _ _ _ h ⟨X2, d2, e, hp⟩ => ⟨X2, d2, (h 4 (List.mem_singleton.2 rfl)).symm.trans e, hp⟩, fun _ _ _ h ⟨X2, d2, e, hp⟩ => ⟨X2, d2, (h 5 (List.mem_singleton.2 rfl)).symm.trans e, hp⟩, fun _ _ _ h ⟨X2, d2, e, hp⟩ => ⟨X2, d2, (h 6 (List.mem_singleton.2 rfl)).symm.trans e, hp⟩, fun _ _ _ h ⟨X2, d2, e, hp⟩ => ⟨X2, d2, (h 8 (List.mem_singleton.2 rfl)).symm.trans e, hp⟩, trivial⟩
  · exact ⟨fun σ w w' hb ⟨X1, d1, e, hp⟩ => ⟨X1, d1, e, hp.belowS hb⟩, fun σ w w' hb ⟨X2, d2, e, hp⟩ => ⟨X2, d2, e, hp.belowS hb⟩, fun σ w w' hb ⟨X2, d2, e, hp⟩ => ⟨X2, d2, e, hp.belowS hb⟩, fun σ w w' hb ⟨X2, d2, e, hp⟩ => ⟨X2, d2, e, hp.belowS hb⟩, fun σ w w' hb ⟨X2, d2, e, hp⟩ => ⟨X2, d2, e, hp.belowS hb⟩, trivial⟩
  · exact ⟨hB.drew, hMM, hx⟩
  case a0 | a9 =>
    go_light
    intro L σ W' hcl hL hC hw
    try have e7 := wT hw 7 rfl
    clear hw hcl hL hC
    refine OpGoes.step fun K hK => ?_
    unfold OpGoes
    go_simp
    exact hK _ _ ⟨rfl, rfl⟩
  case a2 =>
    go_light
    intro L σ W' hcl hL hC hw
    have kxx := hC.2.2.cell
    clear hw hcl hL hC
    refine OpGoes.step fun K hK => ?_
    unfold OpGoes
    go_simp
    exact hK _ _ ⟨rfl, rfl⟩
  case a1 =>
    go_light
    intro L σ W' hcl hL hC hw
    have e0 := wV hw 0 rfl
    clear hw
    have HC := Lib.hid hC
    clear hC
    clear hcl hL
    refine OpGoes.step fun K hK => ?_
    unfold OpGoes
    go_simp
    obtain ⟨hB, hMM, hx⟩ := HC.out
    refine (toInt64S_any A l.length cap l _ (hl0.below hB) hn1).mono ?_
    rintro e w1 ⟨X1, d1, rfl, hX1, hb1⟩
    exact ⟨_, rfl, hK _ _ ⟨⟨bstep hB hB.size hb1, Nat.le_trans hMM hb1.size, hx.below hb1 hx.lt⟩, ⟨X1, d1, rfl, SlW.mono hX1 hMM (Nat.le_refl _)⟩, hb1⟩⟩
  case a3 =>
    go_light
    intro L σ W' hcl hL hC hw
    have e2 := wV hw 2 rfl
    clear hw
    have HC := Lib.hid hC
    clear hC
    clear hcl hL
    refine OpGoes.step fun K hK => ?_
    unfold OpGoes
    go_simp
    obtain ⟨hB, hMM, hx⟩ := HC.out
    refine (toEvent_any x _).mono ?_
    rintro e w1 ⟨rfl, hb1⟩
    exact ⟨_, rfl, hK _ _ ⟨⟨bstep hB hB.size hb1, Nat.le_trans hMM hb1.size, hx.below hb1 hx.lt⟩, rfl, hb1⟩⟩
  case a4 =>
    go_light
    intro L σ W' hcl hL hC hw
    obtain ⟨X1, d1, e1, hp1⟩ := wE hw 1 rfl
    have e3 := wV hw 3 rfl
    clear hw
    have HC := Lib.hid hC
    clear hC
    clear hcl hL
    refine OpGoes.step fun K hK => ?_
    unfold OpGoes
    go_simp
    obtain ⟨hB, hMM, hx⟩ := HC.out
    refine (HS.out X1 d1 _ _ _ hp1 (Nat.le_refl _)).mono ?_
    rintro e w1 ⟨X2, d2, rfl, hX2, hb1⟩
    exact ⟨_, rfl, hK _ _ ⟨⟨bstep hB hB.size hb1, Nat.le_trans hMM hb1.size, hx.below hb1 hx.lt⟩, ⟨X2, d2, rfl, SlW.mono hX2 hMM (Nat.le_refl _)⟩, hb1⟩⟩
  case a5 =>
    go_light
    intro L σ W' hcl hL hC hw
    obtain ⟨X2, d2, e4, hp4⟩ := wE hw 4 rfl
    clear hw hcl hL hC
    refine OpGoes.step fun K hK => ?_
    unfold OpGoes
    go_simp
    exact hK _ _ ⟨rfl, ⟨X2, d2, rfl, hp4⟩⟩
  case a6 =>
    go_light
    intro L σ W' hcl hL hC hw
    obtain ⟨X2, d2, e5, hp5⟩ := wE hw 5 rfl
    clear hw hcl hL hC
    refine OpGoes.step fun K hK => ?_
    unfold OpGoes
    go_simp
    exact hK _ _ ⟨rfl, ⟨X2, d2, rfl, hp5⟩⟩
  case a7 =>
    go_light
    intro L σ W' hcl hL hC hw
    obtain ⟨X2, d2, e5, hp5⟩ := wE hw 5 rfl
    clear hw hcl hL hC
    refine OpGoes.step fun K hK => ?_
    unfold OpGoes
    go_simp
    exact hK _ _ ⟨rfl, rfl⟩
  case a8 =>
    go_light
    intro L σ W' hcl hL hC hw
    obtain ⟨X2, d2, e6, hp6⟩ := wE hw 6 rfl
    clear hw hcl hL hC
    refine OpGoes.step fun K hK => ?_
    unfold OpGoes
    go_simp
    exact hK _ _ ⟨rfl, ⟨X2, d2, rfl, hp6⟩⟩
  · intro L L' W' hLL hC
    obtain ⟨hB, hMM, hx⟩ := hC
    exact ⟨hB, hMM, hx⟩
  · intro σ L W' hall hC hRR
    obtain ⟨hB, hMM, hx⟩ := hC
    obtain ⟨X2, d2, e8, hp8⟩ := dE hRR 8 rfl
    have e9 := dV hRR 9 rfl
    clear hRR
    simp only [lexAll]
    go_simp
    go_step
    rename World => v0
    rename Option Addr => WA
    have hW := hp8
    clear hp8
    clear e8 e9
    have kx := hx.cell
    go_wp2_with fail
    refine (toInt64S_any A l.length cap l _ (hl0.below hB) hn1).mono ?_
    rintro e w1 ⟨X1, d1, rfl, hX1, hb1⟩
    have l1 := hb1.size
    replace hW := SlW.below hW hb1 (by omega)
    replace hB := bstep hB hB.size hb1
    replace hx := hx.below hb1 hx.lt
    clear hb1 kx
    have kx := hx.cell
    go_wp2_with fail
    refine (toEvent_any x _).mono ?_
    rintro e w2 ⟨rfl, hb2⟩
    have l2 := hb2.size
    replace hW := SlW.below hW hb2 (by omega)
    replace hX1 := SlW.below hX1 hb2 (by omega)
    replace hB := bstep hB hB.size hb2
    replace hx := hx.below hb2 hx.lt
    clear hb2 kx
    have kx := hx.cell
    go_wp2_with fail
    refine (HP.out X1 d1 _ _ _ hX1 (by omega)).mono ?_
    rintro e w3 ⟨G, gc, rfl, hG, hb3⟩
    have l3 := hb3.size
    replace hW := SlW.below hW hb3 (by omega)
    replace hX1 := SlW.below hX1 hb3 (by omega)
    replace hB := bstep hB hB.size hb3
    replace hx := hx.below hb3 hx.lt
    clear hb3 kx
    have kx := hx.cell
    go_wp2_with fail
    refine (eqInt64S_same G WA V.length gc d2 V _ (IntsW.r hG) (IntsW.r hW) hVn).mono ?_
    rintro e w4 ⟨rfl, hb4⟩
    have l4 := hb4.size
    replace hW := SlW.below hW hb4 (by omega)
    replace hX1 := SlW.below hX1 hb4 (by omega)
    replace hG := SlW.below hG hb4 (by omega)
    replace hB := bstep hB hB.size hb4
    replace hx := hx.below hb4 hx.lt
    clear hb4 kx
    have kx := hx.cell
    go_wp2_with fail
    refine (toInt64S_any A l.length cap l _ (hl0.below hB) hn1).mono ?_
    rintro e w5 ⟨X5, d5, rfl, hX5, hb5⟩
    have l5 := hb5.size
    replace hW := SlW.below hW hb5 (by omega)
    replace hX1 := SlW.below hX1 hb5 (by omega)
    replace hG := SlW.below hG hb5 (by omega)
    replace hB := bstep hB hB.size hb5
    replace hx := hx.below hb5 hx.lt
    clear hb5 kx
    have kx := hx.cell
    go_wp2_with fail
    refine (eqInt64S_same X1 X5 l.length d1 d5 l _ (IntsW.r hX1) (IntsW.r hX5) (by omega)).mono ?_
    rintro e w6 ⟨rfl, hb6⟩
    have l6 := hb6.size
    replace hW := SlW.below hW hb6 (by omega)
    replace hX1 := SlW.below hX1 hb6 (by omega)
    replace hG := SlW.below hG hb6 (by omega)
    replace hX5 := SlW.below hX5 hb6 (by omega)
    replace hB := bstep hB hB.size hb6
    replace hx := hx.below hb6 hx.lt
    clear hb6 kx
    have kx := hx.cell
    clear hX5
    go_wp2_with fail
    refine (markInt64S_w _ _ X1 l.length d1 l 1 _ hX1 (by omega) (by omega) (by omega)).mono ?_
    rintro e w7 ⟨rfl, hb7, hM7⟩
    have l7 := hb7.size
    replace hW := SlW.in_ hW hb7
    replace hG := SlW.in_ hG hb7
    replace hB := hB.trans (hb7.below (by omega) hB.size)
    replace hx := hb7.box hx (.inl (by omega))
    clear hb7 kx
    have kx := hx.cell
    clear hM7 hX1
    have hz7 : 0 ≤ 1 + (l.length : Int) := by omega
    generalize 1 + (l.length : Int) = z7 at *
    go_wp2_with fail
    refine (eqInt64S_same G WA V.length gc d2 V _ (IntsW.r hG) (IntsW.r hW) hVn).mono ?_
    rintro e w8 ⟨rfl, hb8⟩
    have l8 := hb8.size
    replace hW := SlW.below hW hb8 (by omega)
    replace hG := SlW.below hG hb8 (by omega)
    replace hB := bstep hB hB.size hb8
    replace hx := hx.below hb8 hx.lt
    clear hb8 kx
    have kx := hx.cell
    go_wp2_with fail
    refine (markInt64S_w _ _ G V.length gc V 1 _ hG hVn (by omega) (by omega)).mono ?_
    rintro e w9 ⟨rfl, hb9, hM⟩
    have l9 := hb9.size
    replace hW := SlW.in_ hW hb9
    replace hB := hB.trans (hb9.below (by omega) hB.size)
    replace hx := hb9.box hx (.inl (by omega))
    clear hb9 kx
    have kx := hx.cell
    clear hG
    have hzm : 0 ≤ 1 + (V.length : Int) := by omega
    generalize hzq : 1 + (V.length : Int) = zm at *
    have HZQ := Lib.hid hzq; clear hzq
    go_wp2_with fail
    refine (heldInt64S_any G V.length gc 1 _ (IntsW.r hM) hVn (by omega) (by omega)).mono ?_
    rw [HZQ.out]
    rintro e w10 ⟨rfl, hb10⟩
    have l10 := hb10.size
    replace hW := SlW.below hW hb10 (by omega)
    replace hM := SlW.below hM hb10 (by omega)
    replace hB := bstep hB hB.size hb10
    replace hx := hx.below hb10 hx.lt
    clear hb10 kx
    have kx := hx.cell
    go_upto_region 22 with fail
    obtain ⟨lo1, hi1, hh1, hW1⟩ : ∃ lo hi, hi ≤ w10.heap.size ∧ IntsW lo hi w10 WA V.length d2 V := ⟨_, _, by omega, hW⟩
    obtain ⟨lo2, hi2, hh2, hM1⟩ : ∃ lo hi, hi ≤ w10.heap.size ∧ IntsW lo hi w10 G V.length gc (imarks 1 V.length) := ⟨_, _, by omega, hM⟩
    clear hW hM hMM
    obtain ⟨MM, hMe⟩ : ∃ MM, MM = w10.heap.size := ⟨_, rfl⟩
    have hMM : MM ≤ w10.heap.size := by omega
    have hwM : w.heap.size < MM := by have := hx.lt; omega
    clear hMe
    refine wp_region2v (fun w w' => Below w.heap.size w w') (fun _ _ h => h.size) (fun _ => Below.refl _ _) (fun L W' => Below w.heap.size w W' ∧ MM ≤ W'.heap.size ∧ BoxAt W' w.heap.size #[.int .i64 x.who, .bool x.put, .int .i64 x.v, .int .i64 x.re, .int .i64 x.b, .int .i64 x.e] 42 ∧ hi1 ≤ W'.heap.size ∧ IntsW lo1 hi1 W' WA V.length d2 V ∧ hi2 ≤ W'.heap.size ∧ IntsW lo2 hi2 W' G V.length gc (imarks 1 V.length)) (lxIV l V x b A cap MM w.heap.size) (fun _ => 0) [] (by kernel_rfl) (by kernel_rfl) ?_ ?_ ?_
      (.still rfl ?a0 <| .grow rfl ?a1 <| .still rfl ?a2 <| .grow rfl ?a3 <| .grow rfl ?a4 <| .still rfl ?a5 <| .still rfl ?a6 <| .still rfl ?a7 <| .still rfl ?a8 <| .still rfl ?a9 <| .nil) ?_ ?_
    · exact ⟨fun _ _ _ h ⟨X1, d1, e, hp⟩ => ⟨X1, d1, (h 1 (List.mem_singleton.2 rfl)).symm.trans e, hp⟩, fun _ _ _ h ⟨X2, d2, e, hp⟩ => ⟨X2, d2, (h 4 (List.mem_singleton.2 rfl)).symm.trans e, hp⟩, fun _ _ _ h ⟨X2, d2, e, hp⟩ => ⟨X2, d2, (h 5 (List.mem_singleton.2 rfl)).symm.trans e, hp⟩, fun _ _ _ h ⟨X2, d2, e, hp⟩ => ⟨X2, d2, (h 6 (List.mem_singleton.2 rfl)).symm.trans e, hp⟩, fun _ _ _ h ⟨X2, d2, e, hp⟩ => ⟨X2, d2, (h 8 (List.mem_singleton.2 rfl)).symm.trans e, hp⟩, trivial⟩
    · exact ⟨fun σ w w' hb ⟨X1, d1, e, hp⟩ => ⟨X1, d1, e, hp.belowS hb⟩, fun σ w w' hb ⟨X2, d2, e, hp⟩ => ⟨X2, d2, e, hp.belowS hb⟩, fun σ w w' hb ⟨X2, d2, e, hp⟩ => ⟨X2, d2, e, hp.belowS hb⟩, fun σ w w' hb ⟨X2, d2, e, hp⟩ => ⟨X2, d2, e, hp.belowS hb⟩, fun σ w w' hb ⟨X2, d2, e, hp⟩ => ⟨X2, d2, e, hp.belowS hb⟩, trivial⟩
    · exact ⟨hB.drew, hMM, hx, hh1, hW1, hh2, hM1⟩
    case a0 | a9 =>
      go_light
      intro L σ W' hcl hL hC hw
      try have e7 := wT hw 7 rfl
      clear hw hcl hL hC
      refine OpGoes.step fun K hK => ?_
      unfold OpGoes
      go_simp
      exact hK _ _ ⟨rfl, rfl⟩
    case a2 =>
      go_light
      intro L σ W' hcl hL hC hw
      have kxx := hC.2.2.1.cell
      clear hw hcl hL hC
      refine OpGoes.step fun K hK => ?_
      unfold OpGoes
      go_simp
      exact hK _ _ ⟨rfl, rfl⟩
    case a1 =>
      go_light
      intro L σ W' hcl hL hC hw
      have e0 := wV hw 0 rfl
      clear hw
      have HC := Lib.hid hC
      clear hC
      clear hcl hL
      refine OpGoes.step fun K hK => ?_
      unfold OpGoes
      go_simp
      obtain ⟨hB, hMM, hx, hh1, hW1, hh2, hM1⟩ := HC.out
      refine (toInt64S_any A l.length cap l _ (hl0.below hB) hn1).mono ?_
      rintro e w1 ⟨X1, d1, rfl, hX1, hb1⟩
      exact ⟨_, rfl, hK _ _ ⟨⟨bstep hB hB.size hb1, Nat.le_trans hMM hb1.size, hx.below hb1 hx.lt, Nat.le_trans hh1 hb1.size, SlW.below hW1 hb1 hh1, Nat.le_trans hh2 hb1.size, SlW.below hM1 hb1 hh2⟩, ⟨X1, d1, rfl, SlW.mono hX1 hMM (Nat.le_refl _)⟩, hb1⟩⟩
    case a3 =>
      go_light
      intro L σ W' hcl hL hC hw
      have e2 := wV hw 2 rfl
      clear hw
      have HC := Lib.hid hC
      clear hC
      clear hcl hL
      refine OpGoes.step fun K hK => ?_
      unfold OpGoes
      go_simp
      obtain ⟨hB, hMM, hx, hh1, hW1, hh2, hM1⟩ := HC.out
      refine (toEvent_any x _).mono ?_
      rintro e w1 ⟨rfl, hb1⟩
      exact ⟨_, rfl, hK _ _ ⟨⟨bstep hB hB.size hb1, Nat.le_trans hMM hb1.size, hx.below hb1 hx.lt, Nat.le_trans hh1 hb1.size, SlW.below hW1 hb1 hh1, Nat.le_trans hh2 hb1.size, SlW.below hM1 hb1 hh2⟩, rfl, hb1⟩⟩
    case a4 =>
      go_light
      intro L σ W' hcl hL hC hw
      obtain ⟨X1, d1, e1, hp1⟩ := wE hw 1 rfl
      have e3 := wV hw 3 rfl
      clear hw
      have HC := Lib.hid hC
      clear hC
      clear hcl hL
      refine OpGoes.step fun K hK => ?_
      unfold OpGoes
      go_simp
      obtain ⟨hB, hMM, hx, hh1, hW1, hh2, hM1⟩ := HC.out
      refine (HP.out X1 d1 _ _ _ hp1 (Nat.le_refl _)).mono ?_
      rintro e w1 ⟨X2, d2, rfl, hX2, hb1⟩
      exact ⟨_, rfl, hK _ _ ⟨⟨bstep hB hB.size hb1, Nat.le_trans hMM hb1.size, hx.below hb1 hx.lt, Nat.le_trans hh1 hb1.size, SlW.below hW1 hb1 hh1, Nat.le_trans hh2 hb1.size, SlW.below hM1 hb1 hh2⟩, ⟨X2, d2, rfl, SlW.mono hX2 hMM (Nat.le_refl _)⟩, hb1⟩⟩
    case a5 =>
      go_light
      intro L σ W' hcl hL hC hw
      obtain ⟨X2, d2, e4, hp4⟩ := wE hw 4 rfl
      clear hw hcl hL hC
      refine OpGoes.step fun K hK => ?_
      unfold OpGoes
      go_simp
      exact hK _ _ ⟨rfl, ⟨X2, d2, rfl, hp4⟩⟩
    case a6 =>
      go_light
      intro L σ W' hcl hL hC hw
      obtain ⟨X2, d2, e5, hp5⟩ := wE hw 5 rfl
      clear hw hcl hL hC
      refine OpGoes.step fun K hK => ?_
      unfold OpGoes
      go_simp
      exact hK _ _ ⟨rfl, ⟨X2, d2, rfl, hp5⟩⟩
    case a7 =>
      go_light
      intro L σ W' hcl hL hC hw
      obtain ⟨X2, d2, e5, hp5⟩ := wE hw 5 rfl
      clear hw hcl hL hC
      refine OpGoes.step fun K hK => ?_
      unfold OpGoes
      go_simp
      exact hK _ _ ⟨rfl, rfl⟩
    case a8 =>
      go_light
      intro L σ W' hcl hL hC hw
      obtain ⟨X2, d2, e6, hp6⟩ := wE hw 6 rfl
      clear hw hcl hL hC
      refine OpGoes.step fun K hK => ?_
      unfold OpGoes
      go_simp
      exact hK _ _ ⟨rfl, ⟨X2, d2, rfl, hp6⟩⟩
    · intro L L' W' hLL hC
      obtain ⟨hB, hMM, hx, hh1, hW1, hh2, hM1⟩ := hC
      exact ⟨hB, hMM, hx, hh1, hW1, hh2, hM1⟩
    · intro σ L W' hall hC hRR
      obtain ⟨hB, hMM, hx, hh1, hW1, hh2, hM1⟩ := hC
      obtain ⟨X2, d2, e8, hp8⟩ := dE hRR 8 rfl
      have e9 := dV hRR 9 rfl
      clear hRR
      simp only [lexAll]
      go_simp
      go_step
      rename World => v1
      rename Option Addr => HA
      rename Nat => hc
      have hH := hp8
      clear hp8 e8 e9
      have kx := hx.cell
      go_wp2_with fail
      refine (eqInt64S_same HA WA V.length hc d2 V _ (IntsW.r hH) (IntsW.r hW1) hVn).mono ?_
      rintro e w11 ⟨rfl, hb11⟩
      have l11 := hb11.size
      replace hW1 := SlW.below hW1 hb11 (by omega)
      replace hM1 := SlW.below hM1 hb11 (by omega)
      replace hH := SlW.below hH hb11 (by omega)
      replace hB := bstep hB hB.size hb11
      replace hx := hx.below hb11 hx.lt
      clear hb11 kx
      have kx := hx.cell
      go_wp2_with fail
      refine (heldInt64S_any G V.length gc 1 _ (IntsW.r hM1) hVn (by omega) (by omega)).mono ?_
      rw [HZQ.out]
      rintro e w12 ⟨rfl, hb12⟩
      have l12 := hb12.size
      replace hW1 := SlW.below hW1 hb12 (by omega)
      replace hM1 := SlW.below hM1 hb12 (by omega)
      replace hH := SlW.below hH hb12 (by omega)
      replace hB := bstep hB hB.size hb12
      replace hx := hx.below hb12 hx.lt
      clear hb12 kx
      have kx := hx.cell
      go_wp2
      go_ret
      exact .mk rfl hB

end Go.Proofs.Ytkkfpmoniihciaa

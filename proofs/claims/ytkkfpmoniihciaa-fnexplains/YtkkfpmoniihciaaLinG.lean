/-
  The walk of the law on what a line explains.
-/
import Derived.Test.YtkkfpmoniihciaaLinF
import Derived.Deep.Light
namespace Go.Proofs.Ytkkfpmoniihciaa
set_option linter.unusedSimpArgs false
set_option linter.unusedVariables false
open Go.RowKit
set_option linter.unusedVariables false
attribute [local go_sem ↓] Go.wp_at_zero Go.wp_at_succ

theorem iexplains_x {l V : List Int} {x : Ev} {b : Bool} (hq : explains l x = (V, b)) (A : Option Addr) (n cap : Nat) (w : World) (h : LnX w A n cap l) (hn : n ≤ 1048576) :
    Calls Try.prog 20 #[.slice A n cap, .agg #[.int .i64 x.who, .bool x.put, .int .i64 x.v, .int .i64 x.re, .int .i64 x.b, .int .i64 x.e]] w (RetXB V b w) := by
  obtain ⟨lo, hi, hh, hW⟩ := h
  exact (iexplains_any l x A n cap lo hi w hW hh hn).mono fun e w' h => RetXB.of hq h

theorem sexplains_x {l V : List Int} {x : Ev} {b : Bool} (hq : explains l x = (V, b)) (A : Option Addr) (n cap : Nat) (w : World) (h : LnX w A n cap l) (hn : n ≤ 1048576) :
    Calls Try.prog 21 #[.slice A n cap, .agg #[.int .i64 x.who, .bool x.put, .int .i64 x.v, .int .i64 x.re, .int .i64 x.b, .int .i64 x.e]] w (RetXB V b w) := by
  obtain ⟨lo, hi, hh, hW⟩ := h
  exact (sexplains_any l x A n cap lo hi w hW hh hn).mono fun e w' h => RetXB.of hq h

theorem ex_len (l : List Int) (x : Ev) : (explains l x).1.length ≤ l.length + 1 := by
  have h1 : (linePut l x.v).1.length ≤ l.length + 1 := by
    unfold linePut
    cases lineOk l
    · simp
    · cases valB x.v && !decide (l.length = 40) <;> simp
  have h2 : (lineTake l).1.length ≤ l.length := by
    unfold lineTake
    cases lineOk l
    · simp
    · cases l <;> simp
  unfold explains
  cases lineOk l
  · simp
  · cases evOk x
    · simp
    · cases x.put
      · cases x.re == 4
        · simp
        · cases (lineTake l).2.2 && (lineTake l).2.1 == x.v
          · simp
          · simp; omega
      · cases x.re == 1
        · simp
        · exact h1
theorem ex_false {l V : List Int} {x : Ev} (h : explains l x = (V, false)) (hl : lineOk l = true) : V = l := by
  cases he : evOk x
  · rw [ex_ev hl he] at h; injection h with h _; exact h.symm
  · rcases ev_shape he with ⟨hp, hr | hr⟩ | ⟨hp, hr | hr⟩
    · rw [ex1 hl he hp hr] at h; exact put_no h hl
    · rw [ex2 hl he hp hr] at h; injection h with _ h; cases h
    · rw [ex4 hl he hp hr] at h
      cases hc : (lineTake l).2.2 && (lineTake l).2.1 == x.v
      · rw [hc] at h; injection h with h _; exact h.symm
      · rw [hc] at h; injection h with _ h; cases h
    · rw [ex3 hl he hp hr] at h; injection h with h _; exact h.symm
/-- What may happen at a line. -/
theorem ex_true {l V : List Int} {x : Ev} (h : explains l x = (V, true)) : (x.re = 1 ∧ V = l ++ [x.v]) ∨ (x.re = 2 ∧ V = l) ∨ (x.re = 4 ∧ l = x.v :: V) ∨ (x.re = 3 ∧ V = [] ∧ l = []) := by
  cases hl : lineOk l
  · rw [ex_no hl] at h; injection h with _ h; cases h
  · cases he : evOk x
    · rw [ex_ev hl he] at h; injection h with _ h; cases h
    · rcases ev_shape he with ⟨hp, hr | hr⟩ | ⟨hp, hr | hr⟩
      · rw [ex1 hl he hp hr] at h; exact .inl ⟨hr, (put_yes h).1⟩
      · rw [ex2 hl he hp hr] at h; injection h with h _; exact .inr (.inl ⟨hr, h.symm⟩)
      · rw [ex4 hl he hp hr] at h
        obtain ⟨Y, z, f, hT⟩ : ∃ (Y : List Int) (z : Int) (f : Bool), lineTake l = (Y, z, f) := ⟨_, _, _, rfl⟩
        rw [hT] at h
        cases f
        · injection h with _ h; cases h
        · cases hz : z == x.v
          · simp [hz] at h
          · simp [hz] at h
            have := take_yes hT
            rw [h, eq_of_beq hz] at this
            exact .inr (.inr (.inl ⟨hr, this⟩))
      · rw [ex3 hl he hp hr] at h
        injection h with h h2
        have : l = [] := by
          have := of_decide_eq_true h2
          exact List.eq_nil_of_length_eq_zero this
        exact .inr (.inr (.inr ⟨hr, by rw [← h, this], this⟩))
theorem IntsR.front {w : World} {A : Option Addr} {l : List Int} {v : Int} {n : Nat} (h : IntsR w A n (l ++ [v])) : IntsR w A l.length l := by
  have hn := h.1
  refine ⟨rfl, fun h0 => ?_⟩
  obtain ⟨b, o, e, h1, hx⟩ := h.2 (by simp at hn; omega)
  exact ⟨b, o, e, h1, fun i x hi => hx i x (by rw [List.getElem?_append_left (List.getElem?_eq_some_iff.1 hi).1]; exact hi)⟩

def xpAV (l : List Int) (x : Ev) (A : Option Addr) (c c2 bV N : Nat) : List Sl := [.v (.slice (some ⟨bV, 0, none⟩) (l.length + 1) c2),
  .v (.int .i64 (((l.length + 1) : Int))),
  .v (.slice A l.length c),
  .v (.int .i64 ((l.length : Int))),
  .v (.int .i64 ((l.length : Int) + 1)),
  .v (.bool true),
  .v (.bool true),
  .v (.slice (some ⟨bV, 0, none⟩) (l.length + 1) c2),
  .v (.slice A l.length c),
  .v (.int .i64 ((l.length : Int))),
  .v (.pointer (some ⟨bV, l.length, none⟩)),
  .v (.int .i64 x.v),
  .v (.pointer (some ⟨N, 2, none⟩)),
  .v (.int .i64 x.v),
  .v (.bool true),
  .v (.bool true),
  .v (.bool true),
  .v (.slice (some ⟨bV, 0, none⟩) (l.length + 1) c2),
  .v (.slice A l.length c),
  .v (.int .i64 ((l.length : Int))),
  .v (.slice (some ⟨bV, 0, none⟩) l.length c2),
  .v (.slice A l.length c),
  .v (.bool true),
  .v (.bool true),
  .v (.bool true)]

def xpBV (V : List Int) (x : Ev) (A2 : Option Addr) (c c2 bl N : Nat) : List Sl := [.v (.slice A2 V.length c2),
  .v (.int .i64 ((V.length : Int))),
  .v (.slice (some ⟨bl, 0, none⟩) (V.length + 1) c),
  .v (.int .i64 (((V.length + 1) : Int))),
  .v (.int .i64 ((V.length : Int))),
  .v (.bool true),
  .v (.bool true),
  .v (.slice (some ⟨bl, 0, none⟩) (V.length + 1) c),
  .v (.pointer (some ⟨bl, 0, none⟩)),
  .v (.int .i64 x.v),
  .v (.pointer (some ⟨N, 2, none⟩)),
  .v (.int .i64 x.v),
  .v (.bool true),
  .v (.bool true),
  .v (.bool true),
  .v (.slice A2 V.length c2),
  .v (.slice (some ⟨bl, 0, none⟩) (V.length + 1) c),
  .e fun σ w => ∃ (A1 : Option Addr), σ 17 = .slice A1 V.length (c - 1) ∧ IntsR w A1 V.length V,
  .v (.bool true),
  .v (.bool true),
  .v (.bool true)]

set_option maxRecDepth 100000 in
set_option maxHeartbeats 8000000 in
theorem fnExplains_any (a0 : Option Addr) (len cap : Nat) (w : World) (hc : CodeOk w.heap.size w a0 len) :
    Calls Try.prog 4 #[.slice a0 len cap] w (RetBelow (.bool true) w) := by
  by_cases hbg : 4096 < (len : Int)
  · have hbg' : decide (4096 < (len : Int)) = true := decide_eq_true hbg
    go_enter Try.func4, Try.ntmps4
    go_wp2_with fail
    refine (big_any _ _ _ _).mono ?_
    rintro e w' ⟨rfl, rfl⟩
    go_wp2
    go_ret
    exact .mk rfl (Below.refl _ _)
  · have hbg' : decide (4096 < (len : Int)) = false := decide_eq_false hbg
    go_enter Try.func4, Try.ntmps4
    go_wp2_with fail
    refine (big_any _ _ _ _).mono ?_
    rintro e w' ⟨rfl, rfl⟩
    go_wp2_with fail
    refine (drawExplains_any a0 len cap _ hc).mono ?_
    rintro e w1 ⟨l, A, c, x, rfl, hl44, hW, hB⟩
    have hl := LnX.of hW
    clear hW
    obtain ⟨V, b, hq⟩ : ∃ (V : List Int) (b : Bool), explains l x = (V, b) := ⟨_, _, rfl⟩
    have hVn : V.length ≤ 45 := by have h1 := ex_len l x; rw [hq] at h1; simp only at h1; omega
    have HQ := Lib.hid hq; clear hq
    unfold Ev.V
    go_wp2_with fail
    refine calls_abs (fun W => Below w.heap.size w W ∧ LnX W A l.length c l ∧ BoxAt W w1.heap.size #[.int .i64 x.who, .bool x.put, .int .i64 x.v, .int .i64 x.re, .int .i64 x.b, .int .i64 x.e] 35) ⟨hB.alloc hB.size _, hl.below ((Below.refl _ _).alloc (Nat.le_refl _) _), BoxAt.new _ _ _⟩ ?_
    generalize w1.heap.size = N at *
    clear hB hl
    rintro W ⟨hB, hl, hx⟩
    refine (iexplains_x HQ.out A l.length c _ hl (by omega)).mono ?_
    rintro e w2 ⟨A2, c2, rfl, hV, hb⟩
    replace hl := hl.below hb
    replace hx := hx.below hb hx.lt
    replace hB := bstep hB hB.size hb
    clear hb
    have kx := hx.cell
    go_wp2_with fail
    refine (sexplains_x HQ.out A l.length c _ hl (by omega)).mono ?_
    rintro e w3 ⟨A3, c3, rfl, hV2, hb⟩
    replace hl := hl.below hb
    replace hx := hx.below hb hx.lt
    replace hV := hV.below hb
    replace hB := bstep hB hB.size hb
    clear hb
    clear kx
    have kx := hx.cell
    go_wp2_with fail
    refine (likeInts_same A2 A3 V.length c2 c3 V _ hV.r hV2.r (by omega)).mono ?_
    rintro e w4 ⟨rfl, hb⟩
    replace hl := hl.below hb
    replace hx := hx.below hb hx.lt
    replace hV := hV.below hb
    replace hB := bstep hB hB.size hb
    clear hb
    clear kx
    have kx := hx.cell
    clear hV2
    cases b
    · obtain ⟨o, ho⟩ : ∃ o, lineOk l = o := ⟨_, rfl⟩
      have HO := Lib.hid ho
      go_wp2_with fail
      refine (slineOk_any l A l.length c _ hl.r (by omega)).mono ?_
      rintro e w5 ⟨rfl, hb⟩
      rw [ho]
      clear ho
      replace hl := hl.below hb
      replace hx := hx.below hb hx.lt
      replace hV := hV.below hb
      replace hB := bstep hB hB.size hb
      clear hb
      clear kx
      have kx := hx.cell
      cases o
      · have e := HQ.out
        rw [ex_no HO.out] at e
        injection e with e _
        subst e
        go_wp2
        go_ret
        exact .mk rfl hB
      · obtain rfl := ex_false HQ.out HO.out
        go_wp2_with fail
        refine (likeInts_same A2 A _ c2 c _ _ hV.r hl.r (by omega)).mono ?_
        rintro e w6 ⟨rfl, hb⟩
        replace hl := hl.below hb
        replace hx := hx.below hb hx.lt
        replace hV := hV.below hb
        replace hB := bstep hB hB.size hb
        clear hb
        go_wp2
        go_ret
        exact .mk rfl hB
    · rcases ex_true HQ.out with ⟨hr, hVe⟩ | ⟨hr, hVe⟩ | ⟨hr, hVe⟩ | ⟨hr, hVe, hle⟩
      · have hVl : V.length = l.length + 1 := by rw [hVe]; simp
        rw [hr] at kx hx
        have hP : IntsR w4 A2 l.length l := by have := hV.r; rw [hVe] at this; exact this.front
        have hcV := hV.ln.2.2
        obtain ⟨lo, hi, hh, hW⟩ := hV
        obtain ⟨bV, v, rfl, _, _, hv, hcv⟩ := SlW.at_ hW ic_len (i := l.length) (by omega)
        obtain rfl : x.v = v := by rw [hVe] at hv; simp at hv; exact hv
        have hxv : CellsAt w4 bV l.length [.int .i64 x.v] := fun j u hu => by have := hcv j u hu; rw [Nat.mul_one] at this; exact this
        rw [hVl] at hcV ⊢
        clear hW hh hv hcv hVe hVl hVn hr HQ
        have hlr := hl.r
        go_upto_region 12 with fail
        have ew : IntKind.i64.wrap ((l.length : Int) + 1) = (l.length : Int) + 1 := by rw [IntKind.wrap_i64]; omega
        have g1 : (0 : Int) ≤ (l.length : Int) := by omega
        have g2 : (l.length : Int) < (l.length : Int) + 1 := by omega
        have g3 : (l.length : Int) ≤ (c2 : Int) := by omega
        have g4 : l.length ≤ c2 := by omega
        refine wp_region2v (fun w w' => Below w.heap.size w w') (fun _ _ h => h.size) (fun _ => Below.refl _ _) (fun L W' => Below w.heap.size w W' ∧ BoxAt W' N #[.int .i64 x.who, .bool x.put, .int .i64 x.v, .int .i64 1, .int .i64 x.b, .int .i64 x.e] 35 ∧ IntsR W' (some ⟨bV, 0, none⟩) l.length l ∧ IntsR W' A l.length l ∧ CellsAt W' bV l.length [.int .i64 x.v]) (xpAV l x A c c2 bV N) (fun _ => 0) [] (by kernel_rfl) (by kernel_rfl) ?_ ?_ ?_
          (.still rfl ?a0 <| .still rfl ?a1 <| .still rfl ?a2 <| .still rfl ?a3 <| .still rfl ?a4 <| .still rfl ?a5 <| .still rfl ?a6 <| .still rfl ?a7 <| .still rfl ?a8 <| .still rfl ?a9 <| .still rfl ?a10 <| .still rfl ?a11 <| .still rfl ?a12 <| .still rfl ?a13 <| .still rfl ?a14 <| .still rfl ?a15 <| .still rfl ?a16 <| .still rfl ?a17 <| .still rfl ?a18 <| .still rfl ?a19 <| .still rfl ?a20 <| .still rfl ?a21 <| .grow rfl ?a22 <| .still rfl ?a23 <| .still rfl ?a24 <| .nil) ?_ ?_
        · exact trivial
        · exact trivial
        · exact ⟨hB.drew, hx, hP, hlr, hxv⟩
        case a0 | a1 | a2 | a3 | a4 | a5 | a6 | a7 | a8 | a9 | a10 | a12 | a14 | a15 | a16 | a17 | a18 | a19 | a20 | a21 | a23 | a24 =>
          go_light
          intro L σ W' hcl hL hC hw
          try have e0 := wT hw 0 rfl
          try have e1 := wT hw 1 rfl
          try have e2 := wT hw 2 rfl
          try have e3 := wT hw 3 rfl
          try have e4 := wT hw 4 rfl
          try have e5 := wT hw 5 rfl
          try have e6 := wT hw 6 rfl
          try have e7 := wT hw 7 rfl
          try have e8 := wT hw 8 rfl
          try have e9 := wT hw 9 rfl
          try have e11 := wT hw 11 rfl
          try have e13 := wT hw 13 rfl
          try have e14 := wT hw 14 rfl
          try have e15 := wT hw 15 rfl
          try have e16 := wT hw 16 rfl
          try have e17 := wT hw 17 rfl
          try have e18 := wT hw 18 rfl
          try have e19 := wT hw 19 rfl
          try have e22 := wT hw 22 rfl
          try have e23 := wT hw 23 rfl
          clear hw hcl hL hC
          refine OpGoes.step fun K hK => ?_
          unfold OpGoes
          go_simp
          exact hK _ _ ⟨rfl, rfl⟩
        case a11 =>
          go_light
          intro L σ W' hcl hL hC hw
          have e6 := wV hw 6 rfl
          have e10 := wV hw 10 rfl
          have dv := hC.2.2.2.2 0 _ rfl
          rw [Nat.add_zero] at dv
          clear hw hcl hL hC
          refine OpGoes.step fun K hK => ?_
          unfold OpGoes
          go_simp
          exact hK _ _ ⟨rfl, rfl⟩
        case a13 =>
          go_light
          intro L σ W' hcl hL hC hw
          have e6 := wV hw 6 rfl
          have e12 := wV hw 12 rfl
          have kxx := hC.2.1.cell
          clear hw hcl hL hC
          refine OpGoes.step fun K hK => ?_
          unfold OpGoes
          go_simp
          exact hK _ _ ⟨rfl, rfl⟩
        case a22 =>
          go_light
          intro L σ W' hcl hL hC hw
          have e16 := wV hw 16 rfl
          have e20 := wV hw 20 rfl
          have e21 := wV hw 21 rfl
          clear hw
          have HC := Lib.hid hC
          clear hC
          clear hcl hL
          refine OpGoes.step fun K hK => ?_
          unfold OpGoes
          go_simp
          obtain ⟨hB, hx, hP, hlr, hxv⟩ := HC.out
          refine (likeInts_same (some ⟨bV, 0, none⟩) A l.length c2 c l _ hP hlr (by omega)).mono ?_
          rintro e w1 ⟨rfl, hb1⟩
          exact ⟨_, rfl, hK _ _ ⟨⟨bstep hB hB.size hb1, hx.below hb1 hx.lt, hP.below hb1, hlr.below hb1, hxv.below hb1⟩, rfl, hb1⟩⟩
        · intro L L' W' hLL hC
          obtain ⟨hB, hx, hP, hlr, hxv⟩ := hC
          exact ⟨hB, hx, hP, hlr, hxv⟩
        · intro σ L W' hall hC hRR
          obtain ⟨hB, hx, hP, hlr, hxv⟩ := hC
          have e24 := dV hRR 24 rfl
          clear hRR
          simp only [lexAll]
          go_simp
          go_wp2
          go_ret
          exact .mk rfl hB
      · rw [hr] at kx hx
        subst hVe
        go_wp2_with fail
        refine (likeInts_same A2 A _ c2 c _ _ hV.r hl.r (by omega)).mono ?_
        rintro e w6 ⟨rfl, hb⟩
        replace hl := hl.below hb
        replace hx := hx.below hb hx.lt
        replace hV := hV.below hb
        replace hB := bstep hB hB.size hb
        clear hb
        go_wp2
        go_ret
        exact .mk rfl hB
      · have hll : l.length = V.length + 1 := by rw [hVe]; simp
        rw [hr] at kx hx
        obtain ⟨lo, hi, hh, hW⟩ := hl
        obtain ⟨bl, v, rfl, _, _, hv, hcv⟩ := SlW.at_ hW ic_len (i := 0) (by omega)
        obtain rfl : x.v = v := by rw [hVe] at hv; simp at hv; exact hv
        have hxv : CellsAt w4 bl 0 [.int .i64 x.v] := fun j u hu => by have := hcv j u hu; rw [Nat.zero_mul] at this; exact this
        have hlr : IntsR w4 (some ⟨bl, 0, none⟩) (V.length + 1) (x.v :: V) := by have := hW.r; rw [hll, hVe] at this; exact this
        have hcl : V.length + 1 ≤ c := by have := hW.ln.2.2; omega
        have hVr := hV.r
        rw [hll] at hl44 ⊢
        clear hW hh hv hcv hVe hll hVn hr HQ
        go_upto_region 14 with fail
        have ew : IntKind.i64.wrap (V.length : Int) = (V.length : Int) := by rw [IntKind.wrap_i64]; omega
        have ew2 : IntKind.i64.wrap ((V.length : Int) + 1 - 1) = (V.length : Int) := by rw [IntKind.wrap_i64]; omega
        have g1 : (0 : Int) ≤ (V.length : Int) + 1 := by omega
        have g2 : (0 : Int) < (V.length : Int) + 1 := by omega
        have g3 : (1 : Int) ≤ (V.length : Int) + 1 := by omega
        have g4 : 0 < V.length + 1 := by omega
        refine wp_region2v (fun w w' => Below w.heap.size w w') (fun _ _ h => h.size) (fun _ => Below.refl _ _) (fun L W' => Below w.heap.size w W' ∧ BoxAt W' N #[.int .i64 x.who, .bool x.put, .int .i64 x.v, .int .i64 4, .int .i64 x.b, .int .i64 x.e] 35 ∧ IntsR W' A2 V.length V ∧ IntsR W' (some ⟨bl, 0, none⟩) (V.length + 1) (x.v :: V) ∧ CellsAt W' bl 0 [.int .i64 x.v]) (xpBV V x A2 c c2 bl N) (fun _ => 0) [] (by kernel_rfl) (by kernel_rfl) ?_ ?_ ?_
          (.still rfl ?a0 <| .still rfl ?a1 <| .still rfl ?a2 <| .still rfl ?a3 <| .still rfl ?a4 <| .still rfl ?a5 <| .still rfl ?a6 <| .still rfl ?a7 <| .still rfl ?a8 <| .still rfl ?a9 <| .still rfl ?a10 <| .still rfl ?a11 <| .still rfl ?a12 <| .still rfl ?a13 <| .still rfl ?a14 <| .still rfl ?a15 <| .still rfl ?a16 <| .grow rfl ?a17 <| .grow rfl ?a18 <| .still rfl ?a19 <| .still rfl ?a20 <| .nil) ?_ ?_
        · exact ⟨fun _ _ _ h ⟨A1, e, hp⟩ => ⟨A1, (h 17 (List.mem_singleton.2 rfl)).symm.trans e, hp⟩, trivial⟩
        · exact ⟨fun σ w w' hb ⟨A1, e, hp⟩ => ⟨A1, e, hp.below hb⟩, trivial⟩
        · exact ⟨hB.drew, hx, hVr, hlr, hxv⟩
        case a0 | a1 | a2 | a3 | a4 | a5 | a6 | a7 | a8 | a10 | a12 | a13 | a14 | a15 | a16 | a19 | a20 =>
          go_light
          intro L σ W' hcl hL hC hw
          try have e0 := wT hw 0 rfl
          try have e1 := wT hw 1 rfl
          try have e2 := wT hw 2 rfl
          try have e3 := wT hw 3 rfl
          try have e4 := wT hw 4 rfl
          try have e5 := wT hw 5 rfl
          try have e6 := wT hw 6 rfl
          try have e7 := wT hw 7 rfl
          try have e9 := wT hw 9 rfl
          try have e11 := wT hw 11 rfl
          try have e12 := wT hw 12 rfl
          try have e13 := wT hw 13 rfl
          try have e14 := wT hw 14 rfl
          try have e18 := wT hw 18 rfl
          try have e19 := wT hw 19 rfl
          clear hw hcl hL hC
          refine OpGoes.step fun K hK => ?_
          unfold OpGoes
          go_simp
          exact hK _ _ ⟨rfl, rfl⟩
        case a9 =>
          go_light
          intro L σ W' hcl hL hC hw
          have e6 := wV hw 6 rfl
          have e8 := wV hw 8 rfl
          have dv := hC.2.2.2.2 0 _ rfl
          rw [Nat.add_zero] at dv
          clear hw hcl hL hC
          refine OpGoes.step fun K hK => ?_
          unfold OpGoes
          go_simp
          exact hK _ _ ⟨rfl, rfl⟩
        case a11 =>
          go_light
          intro L σ W' hcl hL hC hw
          have e6 := wV hw 6 rfl
          have e10 := wV hw 10 rfl
          have kxx := hC.2.1.cell
          clear hw hcl hL hC
          refine OpGoes.step fun K hK => ?_
          unfold OpGoes
          go_simp
          exact hK _ _ ⟨rfl, rfl⟩
        case a17 =>
          go_light
          intro L σ W' hcl hL hC hw
          have e14 := wV hw 14 rfl
          have e16 := wV hw 16 rfl
          clear hw
          obtain ⟨hB, hx, hVr, hlr, hxv⟩ := hC
          clear hcl hL
          refine OpGoes.step fun K hK => ?_
          unfold OpGoes
          go_simp
          refine hK _ _ ⟨⟨hB, hx, hVr, hlr, hxv⟩, ⟨_, rfl, ?_⟩, Below.refl _ _⟩
          have ht : ∀ B, (c = 1 ∧ B = some ⟨bl, 0, none⟩) ∨ B = some ⟨bl, 1, none⟩ → IntsR W' B V.length V := fun B hB' => by
            have := hlr.drop (k := 1) (B := B) fun b o e hk => by
              injection e with e
              injection e with e1 e2
              subst e1 e2
              rcases hB' with ⟨h0, _⟩ | h1
              · omega
              · exact h1
            simpa using this
          by_cases hcp : c = 1
          · exact ht _ (.inl ⟨hcp, by simp [hcp]⟩)
          · exact ht _ (.inr (by simp [hcp, Addr.add]))
        case a18 =>
          go_light
          intro L σ W' hcl hL hC hw
          have e14 := wV hw 14 rfl
          have e15 := wV hw 15 rfl
          obtain ⟨A1, e17, hp17⟩ := wE hw 17 rfl
          clear hw
          have HC := Lib.hid hC
          clear hC
          clear hcl hL
          refine OpGoes.step fun K hK => ?_
          unfold OpGoes
          go_simp
          obtain ⟨hB, hx, hVr, hlr, hxv⟩ := HC.out
          refine (likeInts_same A2 A1 V.length c2 (c - 1) V _ hVr hp17 (by omega)).mono ?_
          rintro e w1 ⟨rfl, hb1⟩
          exact ⟨_, rfl, hK _ _ ⟨⟨bstep hB hB.size hb1, hx.below hb1 hx.lt, hVr.below hb1, hlr.below hb1, hxv.below hb1⟩, rfl, hb1⟩⟩
        · intro L L' W' hLL hC
          obtain ⟨hB, hx, hVr, hlr, hxv⟩ := hC
          exact ⟨hB, hx, hVr, hlr, hxv⟩
        · intro σ L W' hall hC hRR
          obtain ⟨hB, hx, hVr, hlr, hxv⟩ := hC
          have e20 := dV hRR 20 rfl
          clear hRR
          simp only [lexAll]
          go_simp
          go_wp2
          go_ret
          exact .mk rfl hB
      · rw [hr] at kx hx
        subst hVe hle
        go_wp2
        go_ret
        exact .mk rfl hB

end Go.Proofs.Ytkkfpmoniihciaa

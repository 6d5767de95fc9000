/-
  The walk of a new crew, of the program.
-/
import Derived.Test.YtomfaabifpndbaaGreatCpyD
import Derived.Test.YtomfaabifpndbaaGreatCpyF
import Derived.Test.YtomfaabifpndbaaGreatCrewH
import Derived.Test.YtomfaabifpndbaaGreatCrewI
namespace Go.Proofs.YtomfaabifpndbaaGreat
set_option linter.unusedSimpArgs false
set_option linter.unusedVariables false
open Go.RowKit
set_option linter.unusedVariables false
attribute [local go_sem] OpUpon
attribute [local go_sem ↓] Go.wp_at_zero Go.wp_at_succ

/-- One hand at rest in a block of its own. -/
def HdB (lo : Nat) (w : World) (g : Nat) : Prop := BoxAt w g #[.int .i64 resting.at_, .int .i64 resting.v, .int .i64 resting.r, .int .i64 resting.t, .bool resting.seen.s, .int .i64 resting.seen.n, .bool resting.seen.f, .int .i64 resting.seen.v, .int .i64 resting.tr, .int .i64 resting.sp, .bool resting.ag, .int .i64 resting.re] 58 ∧ lo ≤ g
/-- What a new crew has made. -/
def NwN (lo : Nat) (w : World) (A5 : Option Addr) (c5 g9 n : Nat) : Prop := HdsN lo w A5 n c5 (List.replicate n resting) ∧ IntN lo w (some ⟨g9, 0, none⟩) n n (List.replicate n 0)
section
variable {lo : Nat} {w w' : World} {A5 : Option Addr} {n c5 g g9 : Nat} {L : List Hd}
theorem HdB.belowN (h : HdB lo w g) (hb : Below w.heap.size w w') : HdB lo w' g := ⟨h.1.below hb h.1.lt, h.2⟩
theorem HdB.setsC (h : HdB lo w g) {b : Nat} {cs : Array Value} (hk : BoxAt w b cs 31) (us : List Value) (o : Nat) : HdB lo (setCells w b o us) g := ⟨h.1.sets_ne us o (box_neM h.1 hk (by decide)), h.2⟩
theorem HdB.sl (h : HdB lo w g) : SlW Hd.cs 12 58 lo w.heap.size w (some ⟨g, 0, none⟩) 1 1 [resting] := ⟨rfl, .inr ⟨g, rfl, h.1.lt, rfl, h.2, Nat.le_refl _, by unfold maxLen; omega, _, h.1, rfl, rfl⟩⟩
theorem HdsN.setsC (h : HdsN lo w A5 n c5 L) {b : Nat} {cs : Array Value} (hk : BoxAt w b cs 31) (us : List Value) (o : Nat) : HdsN lo (setCells w b o us) A5 n c5 L :=
  SlW.mono (SlW.keepT h (.sets hk (by decide) us o)) (Nat.le_refl _) (Nat.le_of_eq (sets_size us o w).symm)
theorem NwN.belowN (h : NwN lo w A5 c5 g9 n) (hb : Below w.heap.size w w') : NwN lo w' A5 c5 g9 n := ⟨h.1.belowN hb, h.2.belowN hb⟩
theorem NwN.setsC (h : NwN lo w A5 c5 g9 n) {b : Nat} {cs : Array Value} (hk : BoxAt w b cs 31) (us : List Value) (o : Nat) : NwN lo (setCells w b o us) A5 c5 g9 n := ⟨h.1.setsC hk us o, h.2.setsC hk us o⟩
end

theorem newC0_fit (rd mo : Int) (js : List (List Int)) (hn : js.length ≤ 1048576) (hml : ∀ l ∈ js, l.length ≤ 1048576) : CrFit (newC0 rd mo js) := by
  have hns : Neat (newStore rd mo).1 ∨ (newStore rd mo).1 = .zero := newStore_neat rd mo
  refine ⟨?_, ?_, ?_, hn, hml, ?_, by show (0 : Nat) ≤ _; omega⟩
  · show (newStore rd mo).1.rs.length ≤ _
    rcases hns with h | h
    · have := h.2.1; omega
    · rw [h]; decide
  · show ∀ r ∈ (newStore rd mo).1.rs, r.ps.length ≤ _
    rcases hns with h | h
    · exact h.len
    · rw [h]; intro r hr; cases hr
  · show (List.replicate js.length resting).length ≤ _
    rw [List.length_replicate]; exact hn
  · show (List.replicate js.length (0 : Int)).length ≤ _
    rw [List.length_replicate]; exact hn

theorem newCrew_eq (rd mo : Int) (js : List (List Int)) : newCrew rd mo js = bif crOk (newC0 rd mo js) then (newC0 rd mo js, true) else (.zero, false) := by
  unfold newCrew
  cases h : (newStore rd mo).2
  · have e : (newStore rd mo).1 = .zero := by
      revert h; unfold newStore; split
      · intro h; cases h
      · intro _; rfl
    have : crOk (newC0 rd mo js) = false := by
      unfold crOk crHead newC0
      rw [e]; rfl
    rw [this]; rfl
  · cases crOk (newC0 rd mo js) <;> rfl

def RetCrZB (q : Cr × Bool) (w : World) (e : Ending) (w' : World) : Prop := ∃ y l1 l2 l3 l4, e = .returned (.tuple #[crV q.1 y, .bool q.2]) ∧ CrZ w' q.1 y w.heap.size l1 l2 l3 l4 w'.heap.size ∧ Below w.heap.size w w'

def icAV (q : St × Bool) (A A1 : Option Addr) (n cap n1 c1 S1 M : Nat) (js : List (List Int)) : List Sl := [.v (.agg #[.int .i64 q.1.rd, .int .i64 q.1.mo, .slice A1 n1 c1, .int .i64 q.1.fi, .int .i64 q.1.la]),
  .v (.agg #[.int .i64 resting.at_, .int .i64 resting.v, .int .i64 resting.r, .int .i64 resting.t, .bool resting.seen.s, .int .i64 resting.seen.n, .bool resting.seen.f, .int .i64 resting.seen.v, .int .i64 resting.tr, .int .i64 resting.sp, .bool resting.ag, .int .i64 resting.re]),
  .e fun σ w => ∃ (g2 : Nat), σ 2 = .slice (some ⟨g2, 0, none⟩) 1 1 ∧ HdB M w g2,
  .v (.slice A n cap),
  .v (.int .i64 ((n : Int))),
  .e fun σ w => ∃ (A5 : Option Addr) (c5 : Nat), σ 5 = .slice A5 n c5 ∧ HdsN M w A5 n c5 (List.replicate n resting),
  .v (.slice A n cap),
  .v (.slice A n cap),
  .v (.int .i64 ((n : Int))),
  .e fun σ w => ∃ (g9 : Nat), σ 9 = .slice (some ⟨g9, 0, none⟩) n n ∧ IntN M w (some ⟨g9, 0, none⟩) n n (List.replicate n 0),
  .e fun σ w => ∃ (A5 : Option Addr) (c5 g9 : Nat), σ 10 = .agg #[.int .i64 q.1.rd, .int .i64 q.1.mo, .slice A1 n1 c1, .int .i64 q.1.fi, .int .i64 q.1.la, .slice A5 n c5, .slice A n cap, .slice (some ⟨g9, 0, none⟩) n n, .int .i64 0, .slice none 0 0] ∧ NwN M w A5 c5 g9 n,
  .e fun σ w => ∃ g11, σ 11 = .pointer (some ⟨g11, 0, none⟩) ∧ M ≤ g11 ∧ ∃ x0 x1 x2 x3 x4 x5 x6 x7 x8 x9, BoxAt w g11 #[x0, x1, x2, x3, x4, x5, x6, x7, x8, x9] 31,
  .e fun σ w => ∃ (g11 : Nat) (A5 : Option Addr) (c5 g9 : Nat), σ 11 = .pointer (some ⟨g11, 0, none⟩) ∧ M ≤ g11 ∧ BoxAt w g11 #[.int .i64 q.1.rd, .int .i64 q.1.mo, .slice A1 n1 c1, .int .i64 q.1.fi, .int .i64 q.1.la, .slice A5 n c5, .slice A n cap, .slice (some ⟨g9, 0, none⟩) n n, .int .i64 0, .slice none 0 0] 31 ∧ NwN M w A5 c5 g9 n]

set_option maxRecDepth 100000 in
set_option maxHeartbeats 4000000 in
theorem inewCrew_z (rd mo : Int) (js : List (List Int)) (A : Option Addr) (n cap lo hi : Nat) (w : World) (hl : ListsW lo hi w A n cap js) (hh : hi ≤ w.heap.size) (hn : n ≤ 1048576) (hml : ∀ l ∈ js, l.length ≤ 1048576) :
    Calls Tryz.prog 8 #[.int .i64 rd, .int .i64 mo, .slice A n cap] w (RetCrZB (newCrew rd mo js) w) := by
  obtain ⟨i0, hi0, hz0, hz1, hz2⟩ := info_parts int_info
  have hmk : ∀ W : World, (Instr.makeSlice 28 (.int .i64 (n : Int)) (.int .i64 (n : Int))).run Tryz.prog W = .ok (.slice (some ⟨W.heap.size, 0, none⟩) n n) (W.alloc (.cells (madeCells #[.int .i64 0] n) 2)) := by
    intro W
    have := run_make (P := Tryz.prog) W 28 2 i0 _ Tryz.underlying28 hi0 hz0 .i64 .i64 n n (by omega) (by omega) (by rw [hz2]; omega) (by omega)
    rw [hz1] at this
    simpa [Value.cells] using this
  clear hi0 hz0 hz1 hz2
  have HML := Lib.hid hml; clear hml
  have HLL := Lib.hid hl.len
  go_enter Tryz.func8, Tryz.ntmps8
  go_wp2_with fail
  refine calls_abs (fun W => Below w.heap.size w W ∧ BoxAt W w.heap.size #[.int .i64 0, .int .i64 0, .slice none 0 0, .int .i64 0, .int .i64 0, .slice none 0 0, .slice none 0 0, .slice none 0 0, .int .i64 0, .slice none 0 0] 31) ⟨(Below.refl _ _).alloc (Nat.le_refl _) _, BoxAt.new _ _ _⟩ ?_
  rintro W0 ⟨hB, hz⟩
  refine (inewStore_any rd mo _).mono ?_
  rintro e w1 ⟨A1, n1, c1, rfl, hGD, hb1⟩
  have hG := hGD.toW
  clear hGD
  have hs0 := hB.size
  have hs1 := hb1.size
  have lz0 := hz.lt
  replace hz := hz.below hb1 hz.lt
  replace hB := bstep hB hB.size hb1
  clear hb1
  generalize hqe : newStore rd mo = q at *
  have HQ := Lib.hid hqe; clear hqe
  unfold stV
  go_upto_region 2 with fail
  refine wp_abs (fun W => Below w.heap.size w W ∧ BoxAt W w.heap.size #[.int .i64 0, .int .i64 0, .slice none 0 0, .int .i64 0, .int .i64 0, .slice none 0 0, .slice none 0 0, .slice none 0 0, .int .i64 0, .slice none 0 0] 31 ∧ BoxAt W w1.heap.size #[.int .i64 q.1.rd, .int .i64 q.1.mo, .slice A1 n1 c1, .int .i64 q.1.fi, .int .i64 q.1.la] 26 ∧ RgsW w.heap.size w1.heap.size W A1 n1 c1 q.1.rs) ⟨hB.alloc hB.size _, hz.alloc _, BoxAt.new _ _ _, (hG.mono hs0 (Nat.le_refl _)).al (Nat.le_refl _) _⟩ ?_
  clear hB hz hG
  rintro W1 ⟨hB, hz, hs, hG⟩
  generalize w1.heap.size = S1 at *
  have lS := hs.lt
  replace hl := hl.below hB hh
  have hhi : hi ≤ W1.heap.size := Nat.le_trans hh hB.size
  obtain ⟨M, hMe⟩ : ∃ M, M = W1.heap.size := ⟨_, rfl⟩
  have hM : M ≤ W1.heap.size := by omega
  have hSM : S1 ≤ M := by omega
  have hSM2 : S1 < M := by omega
  have hNM : w.heap.size < M := by omega
  clear hMe
  refine wp_region2v (fun w w' => Below w.heap.size w w') (fun _ _ h => h.size) (fun _ => Below.refl _ _) (fun L W' => Below w.heap.size w W' ∧ BoxAt W' w.heap.size #[.int .i64 0, .int .i64 0, .slice none 0 0, .int .i64 0, .int .i64 0, .slice none 0 0, .slice none 0 0, .slice none 0 0, .int .i64 0, .slice none 0 0] 31 ∧ BoxAt W' S1 #[.int .i64 q.1.rd, .int .i64 q.1.mo, .slice A1 n1 c1, .int .i64 q.1.fi, .int .i64 q.1.la] 26 ∧ RgsW w.heap.size S1 W' A1 n1 c1 q.1.rs ∧ ListsW lo hi W' A n cap js ∧ hi ≤ W'.heap.size ∧ M ≤ W'.heap.size) (icAV q A A1 n cap n1 c1 S1 M js) (fun j => [0, 0, 0, 0, 0, 0, 0, 0, 0, 0, 0, 2, 1].getD j 0) [(12, 11)] (by kernel_rfl) (by kernel_rfl) ?_ ?_ ?_
    (.still rfl ?a0 <| .grow rfl ?a1 <| .grow rfl ?a2 <| .still rfl ?a3 <| .still rfl ?a4 <| .grow rfl ?a5 <| .still rfl ?a6 <| .still rfl ?a7 <| .still rfl ?a8 <| .grow rfl ?a9 <| .grow rfl ?a10 <| .make rfl ?a11 <| .store rfl ?a12 <| .nil) ?_ ?_
  · exact ⟨fun _ _ _ h ⟨g2, e, hp⟩ => ⟨g2, (h 2 (List.mem_singleton.2 rfl)).symm.trans e, hp⟩, fun _ _ _ h ⟨A5, c5, e, hp⟩ => ⟨A5, c5, (h 5 (List.mem_singleton.2 rfl)).symm.trans e, hp⟩, fun _ _ _ h ⟨g9, e, hp⟩ => ⟨g9, (h 9 (List.mem_singleton.2 rfl)).symm.trans e, hp⟩, fun _ _ _ h ⟨A5, c5, g9, e, hp⟩ => ⟨A5, c5, g9, (h 10 (List.mem_singleton.2 rfl)).symm.trans e, hp⟩, fun _ _ _ h ⟨g, e, hp⟩ => ⟨g, (h 11 (List.mem_singleton.2 rfl)).symm.trans e, hp⟩, fun _ _ _ h ⟨g, A5, c5, g9, e, hp⟩ => ⟨g, A5, c5, g9, (h 11 (List.mem_singleton.2 rfl)).symm.trans e, hp⟩, trivial⟩
  · exact ⟨fun σ w w' hb ⟨g2, e, hp⟩ => ⟨g2, e, hp.belowN hb⟩, fun σ w w' hb ⟨A5, c5, e, hp⟩ => ⟨A5, c5, e, hp.belowN hb⟩, fun σ w w' hb ⟨g9, e, hp⟩ => ⟨g9, e, hp.belowN hb⟩, fun σ w w' hb ⟨A5, c5, g9, e, hp⟩ => ⟨A5, c5, g9, e, hp.belowN hb⟩, fun σ w w' hb ⟨g, e, hg, x0, x1, x2, x3, x4, x5, x6, x7, x8, x9, hx⟩ => ⟨g, e, hg, x0, x1, x2, x3, x4, x5, x6, x7, x8, x9, hx.below hb hx.lt⟩, fun σ w w' hb ⟨g, A5, c5, g9, e, hg, hx, hp⟩ => ⟨g, A5, c5, g9, e, hg, hx.below hb hx.lt, hp.belowN hb⟩, trivial⟩
  · exact ⟨hB.drew, hz, hs, hG, hl, hhi, hM⟩
  case a0 =>
    go_light
    intro L σ W' hcl hL hC hw
    have ks := hC.2.2.1.cell
    clear hw hcl hL hC
    refine OpGoes.step fun K hK => ?_
    unfold OpGoes
    go_simp
    exact hK _ _ ⟨rfl, rfl⟩
  case a3 | a4 | a6 | a7 | a8 =>
    go_light
    intro L σ W' hcl hL hC hw
    try have e3 := wT hw 3 rfl
    try have e7 := wT hw 7 rfl
    clear hw hcl hL hC
    refine OpGoes.step fun K hK => ?_
    unfold OpGoes
    go_simp
    exact hK _ _ ⟨rfl, rfl⟩
  case a1 =>
    go_light
    intro L σ W' hcl hL hC hw
    clear hw
    have HC := Lib.hid hC
    clear hC
    clear hcl hL
    refine OpGoes.step fun K hK => ?_
    unfold OpGoes
    go_simp
    obtain ⟨hB, hz, hs, hG, hl, hhi, hM⟩ := HC.out
    refine (iresting_any _).mono ?_
    rintro e w1 ⟨rfl, hb1⟩
    exact ⟨_, rfl, hK _ _ ⟨⟨bstep hB hB.size hb1, hz.below hb1 hz.lt, hs.below hb1 hs.lt, hG.below hb1 (Nat.le_trans hSM hM), hl.below hb1 hhi, Nat.le_trans hhi hb1.size, Nat.le_trans hM hb1.size⟩, rfl, hb1⟩⟩
  case a2 =>
    go_light
    intro L σ W' hcl hL hC hw
    have e1 := wV hw 1 rfl
    clear hw
    have HC := Lib.hid hC
    clear hC
    clear hcl hL
    refine OpGoes.step fun K hK => ?_
    unfold OpGoes
    go_simp
    obtain ⟨hB, hz, hs, hG, hl, hhi, hM⟩ := HC.out
    have hb1 : Below W'.heap.size W' (W'.alloc (.cells #[.int .i64 resting.at_, .int .i64 resting.v, .int .i64 resting.r, .int .i64 resting.t, .bool resting.seen.s, .int .i64 resting.seen.n, .bool resting.seen.f, .int .i64 resting.seen.v, .int .i64 resting.tr, .int .i64 resting.sp, .bool resting.ag, .int .i64 resting.re] 58)) := (Below.refl _ _).alloc (Nat.le_refl _) _
    exact hK _ _ ⟨⟨bstep hB hB.size hb1, hz.below hb1 hz.lt, hs.below hb1 hs.lt, hG.below hb1 (Nat.le_trans hSM hM), hl.below hb1 hhi, Nat.le_trans hhi hb1.size, Nat.le_trans hM hb1.size⟩, ⟨W'.heap.size, rfl, BoxAt.new _ _ _, hM⟩, hb1⟩
  case a5 =>
    go_light
    intro L σ W' hcl hL hC hw
    obtain ⟨g2, e2, hp2⟩ := wE hw 2 rfl
    have e4 := wV hw 4 rfl
    clear hw
    have HC := Lib.hid hC
    clear hC
    clear hcl hL
    refine OpGoes.step fun K hK => ?_
    unfold OpGoes
    go_simp
    obtain ⟨hB, hz, hs, hG, hl, hhi, hM⟩ := HC.out
    refine (irepeat_hd resting g2 1 M _ _ (HdB.sl hp2) n (Nat.le_refl _) hn).mono ?_
    rintro e w1 ⟨A5, c5, rfl, hO5, hb1⟩
    exact ⟨_, rfl, hK _ _ ⟨⟨bstep hB hB.size hb1, hz.below hb1 hz.lt, hs.below hb1 hs.lt, hG.below hb1 (Nat.le_trans hSM hM), hl.below hb1 hhi, Nat.le_trans hhi hb1.size, Nat.le_trans hM hb1.size⟩, ⟨A5, c5, rfl, SlW.mono hO5 hM (Nat.le_refl _)⟩, hb1⟩⟩
  case a9 =>
    go_light
    intro L σ W' hcl hL hC hw
    have e8 := wV hw 8 rfl
    clear hw
    have HC := Lib.hid hC
    clear hC
    clear hcl hL
    refine OpGoes.step fun K hK => ?_
    unfold OpGoes
    go_simp
    obtain ⟨hB, hz, hs, hG, hl, hhi, hM⟩ := HC.out
    have hb1 : Below W'.heap.size W' (W'.alloc (.cells (madeCells #[.int .i64 0] n) 2)) := (Below.refl _ _).alloc (Nat.le_refl _) _
    refine hK _ _ ⟨⟨bstep hB hB.size hb1, hz.below hb1 hz.lt, hs.below hb1 hs.lt, hG.below hb1 (Nat.le_trans hSM hM), hl.below hb1 hhi, Nat.le_trans hhi hb1.size, Nat.le_trans hM hb1.size⟩, ⟨W'.heap.size, rfl, ?_⟩, hb1⟩
    exact ⟨by simp, .inr ⟨W'.heap.size, rfl, by simp, Own.mono (by have := Own.made (e := 2) ic_len (by omega) (0 : Int) #[.int .i64 0] rfl (Nat.le_refl W'.heap.size) n (by unfold maxLen; omega); rwa [Nat.mul_one] at this) hM⟩⟩
  case a10 =>
    go_light
    intro L σ W' hcl hL hC hw
    have e0 := wV hw 0 rfl
    obtain ⟨A5, c5, e5, hp5⟩ := wE hw 5 rfl
    have e6 := wV hw 6 rfl
    obtain ⟨g9, e9, hp9⟩ := wE hw 9 rfl
    clear hw
    have HC := Lib.hid hC
    clear hC
    clear hcl hL
    refine OpGoes.step fun K hK => ?_
    unfold OpGoes
    go_simp
    obtain ⟨hB, hz, hs, hG, hl, hhi, hM⟩ := HC.out
    exact hK _ _ ⟨⟨hB, hz, hs, hG, hl, hhi, hM⟩, ⟨A5, c5, g9, rfl, hp5, hp9⟩, Below.refl _ _⟩
  case a11 =>
    go_light
    intro L σ W' hcl hL hC hw
    clear hw
    have HC := Lib.hid hC
    clear hC
    clear hcl hL
    refine OpGoes.step fun K hK => ?_
    unfold OpGoes
    go_simp
    obtain ⟨hB, hz, hs, hG, hl, hhi, hM⟩ := HC.out
    have hb1 : Below W'.heap.size W' (W'.alloc (.cells #[.int .i64 0, .int .i64 0, .slice none 0 0, .int .i64 0, .int .i64 0, .slice none 0 0, .slice none 0 0, .slice none 0 0, .int .i64 0, .slice none 0 0] 31)) := (Below.refl _ _).alloc (Nat.le_refl _) _
    exact hK _ _ ⟨⟨bstep hB hB.size hb1, hz.below hb1 hz.lt, hs.below hb1 hs.lt, hG.below hb1 (Nat.le_trans hSM hM), hl.below hb1 hhi, Nat.le_trans hhi hb1.size, Nat.le_trans hM hb1.size⟩, ⟨_, rfl, hM, _, _, _, _, _, _, _, _, _, _, BoxAt.new _ _ _⟩, hb1, rfl, by simp⟩
  case a12 =>
    go_light
    intro L σ W' hcl hL hC hw hne
    obtain ⟨A5, c5, g9, e10, hp10⟩ := wE hw 10 rfl
    obtain ⟨g11, e11, hg11, x0, x1, x2, x3, x4, x5, x6, x7, x8, x9, hbox11⟩ := wE hw 11 rfl
    clear hw hne
    have HC := Lib.hid hC
    clear hC
    clear hcl hL
    have kc_ := hbox11.cell
    have kf_ := hbox11.frozen
    refine OpGoes.step fun K hK => ?_
    unfold OpGoes
    go_simp
    obtain ⟨hB, hz, hs, hG, hl, hhi, hM⟩ := HC.out
    have hset := sets_all (us := [.int .i64 q.1.rd, .int .i64 q.1.mo, .slice A1 n1 c1, .int .i64 q.1.fi, .int .i64 q.1.la, .slice A5 n c5, .slice A n cap, .slice (some ⟨g9, 0, none⟩) n n, .int .i64 0, .slice none 0 0]) hbox11 rfl
    refine hK undef (setCells W' g11 0 [.int .i64 q.1.rd, .int .i64 q.1.mo, .slice A1 n1 c1, .int .i64 q.1.fi, .int .i64 q.1.la, .slice A5 n c5, .slice A n cap, .slice (some ⟨g9, 0, none⟩) n n, .int .i64 0, .slice none 0 0]) ⟨⟨(Below.setCells (by omega) _ 0 hB), (BoxAt.sets_ne _ 0 hz (by omega)), (BoxAt.sets_ne _ 0 hs (by omega)), ((RgsW.setsT hG hbox11 (by decide) (by decide) _ 0)), (ListsW.setsT hl hbox11 (by decide) (by decide) _ 0), (size_sts hhi _ 0), (size_sts hM _ 0)⟩, ⟨g11, A5, c5, g9, e11, hg11, hset, (NwN.setsC hp10 hbox11 _ 0)⟩, Nat.le_of_eq (sets_size _ _ _).symm, keepV ?_⟩
    exact ⟨fun _ _ ⟨g2_x, e, hp⟩ => ⟨g2_x, e, (HdB.setsC hp hbox11 _ 0)⟩, fun _ _ ⟨A5_x, c5_x, e, hp⟩ => ⟨A5_x, c5_x, e, (HdsN.setsC hp hbox11 _ 0)⟩, fun _ _ ⟨g9_x, e, hp⟩ => ⟨g9_x, e, (IntN.setsC hp hbox11 _ 0)⟩, fun _ _ ⟨A5_x, c5_x, g9_x, e, hp⟩ => ⟨A5_x, c5_x, g9_x, e, (NwN.setsC hp hbox11 _ 0)⟩, fun _ _ _ => ⟨g11, e11, hg11, _, _, _, _, _, _, _, _, _, _, hset⟩, fun h => absurd rfl h, trivial⟩
  · intro L L' W' hLL hC
    obtain ⟨hB, hz, hs, hG, hl, hhi, hM⟩ := hC
    exact ⟨hB, hz, hs, hG, hl, hhi, hM⟩
  · intro σ L W' hall hC hRR
    obtain ⟨hB, hz, hs, hG, hl, hhi, hM⟩ := hC
    obtain ⟨g11, A5, c5, g9, e11, hg12, s12, hp12⟩ := dE hRR 12 rfl
    clear hRR hs hmk
    simp only [lexAll]
    go_simp
    go_step
    generalize hC11 : g11 = C7 at *
    have HCW := Lib.hid (show CrW 0 W'.heap.size W' (newC0 rd mo js) (⟨⟨A1, n1, c1⟩, ⟨A5, n, c5⟩, ⟨A, n, cap⟩, ⟨some ⟨g9, 0, none⟩, n, n⟩, ⟨none, 0, 0⟩⟩ : CrL) by
      refine ⟨?_, ?_, ?_, ?_, SlW.nil⟩
      · show RgsW _ _ _ _ _ _ (newStore rd mo).1.rs
        rw [HQ.out]; exact hG.mono (Nat.zero_le _) (by omega)
      · show HdsW _ _ _ _ _ _ (List.replicate js.length resting)
        rw [HLL.out]; exact SlW.mono hp12.1 (Nat.zero_le _) (Nat.le_refl _)
      · exact ListsW.mono hl (Nat.zero_le _) hhi
      · show IntsW _ _ _ _ _ _ (List.replicate js.length 0)
        rw [HLL.out]; exact SlW.mono hp12.2 (Nat.zero_le _) (Nat.le_refl _))
    have HFIT := Lib.hid (newC0_fit rd mo js (by rw [HLL.out]; exact hn) HML.out)
    have HCA := Lib.hid (show (newC0 rd mo js).st = q.1 by show (newStore rd mo).1 = q.1; rw [HQ.out])
    have hcon := icrewOk_any (newC0 rd mo js) (⟨⟨A1, n1, c1⟩, ⟨A5, n, c5⟩, ⟨A, n, cap⟩, ⟨some ⟨g9, 0, none⟩, n, n⟩, ⟨none, 0, 0⟩⟩ : CrL) 0 W'.heap.size W' HCW.out (Nat.le_refl _) HFIT.out
    unfold crV at hcon
    rw [HCA.out] at hcon
    have HCO := Lib.hid hcon; clear hcon
    have hc := s12; clear s12
    have kc := hc.cell
    go_wp2_with fail
    clear kc
    refine (HCO.out).mono ?_
    rintro e w8 ⟨rfl, hb8⟩
    have h78 := hb8.size
    have hC8 := HCW.out.below hb8 (Nat.le_refl _)
    replace hC8 : CrW 0 w8.heap.size w8 (newC0 rd mo js) (⟨⟨A1, n1, c1⟩, ⟨A5, n, c5⟩, ⟨A, n, cap⟩, ⟨some ⟨g9, 0, none⟩, n, n⟩, ⟨none, 0, 0⟩⟩ : CrL) := hC8.mono (Nat.le_refl _) h78
    replace hz := hz.below hb8 hz.lt
    replace hc := hc.below hb8 hc.lt
    replace hB := bstep hB hB.size hb8
    clear hb8 hG hl hp12
    have kc := hc.cell
    have kz := hz.cell
    have fz := hz.frozen
    cases hcr : crOk (newC0 rd mo js)
    · have HV := Lib.hid (show newCrew rd mo js = (.zero, false) by rw [newCrew_eq, hcr]; rfl)
      go_wp2
      refine bodyPost_ret (v := .tuple #[crV .zero (⟨⟨none, 0, 0⟩, ⟨none, 0, 0⟩, ⟨none, 0, 0⟩, ⟨none, 0, 0⟩, ⟨none, 0, 0⟩⟩ : CrL), .bool false]) (by simp [results, Tryz.results8, go_sem, kz, crV, Cr.zero, St.zero]) rfl ⟨(⟨⟨none, 0, 0⟩, ⟨none, 0, 0⟩, ⟨none, 0, 0⟩, ⟨none, 0, 0⟩, ⟨none, 0, 0⟩⟩ : CrL), w.heap.size, w.heap.size, w.heap.size, w.heap.size, by rw [HV.out], ?_, ?_⟩
      · rw [HV.out]
        exact ⟨RgsD.nil, SlW.nil, ⟨[], SlW.nil, ⟨rfl, fun i a l h => by simp at h⟩, fun i j a b h => by simp at h⟩, SlW.nil, SlW.nil, Nat.le_refl _, Nat.le_refl _, Nat.le_refl _, Nat.le_refl _, by simp; omega⟩
      · exact Below.setCells (by omega) (crCs .zero (⟨⟨none, 0, 0⟩, ⟨none, 0, 0⟩, ⟨none, 0, 0⟩, ⟨none, 0, 0⟩, ⟨none, 0, 0⟩⟩ : CrL)) 0 hB
    · have HV := Lib.hid (show newCrew rd mo js = (newC0 rd mo js, true) by rw [newCrew_eq, hcr]; rfl)
      have hst := stOk_neat (crOk_neat hcr).s
      have hcp := icopyCrew_z (newC0 rd mo js) (⟨⟨A1, n1, c1⟩, ⟨A5, n, c5⟩, ⟨A, n, cap⟩, ⟨some ⟨g9, 0, none⟩, n, n⟩, ⟨none, 0, 0⟩⟩ : CrL) 0 w8.heap.size w8 hC8 (Nat.le_refl _) HFIT.out hst.1 (fun r hr => (hst.2.2 r hr).1)
      unfold crV at hcp
      rw [HCA.out] at hcp
      have HCP := Lib.hid hcp; clear hcp hst
      go_wp2_with fail
      refine (HCP.out).mono ?_
      rintro e w9 ⟨⟨⟨xA, xN, xK⟩, ⟨hA, hN, hK⟩, ⟨jA, jN, jK⟩, ⟨bA, bN, bK⟩, ⟨eA, eN, eK⟩⟩, l1, l2, l3, l4, rfl, hZ, hb9⟩
      have h89 := hb9.size
      have lz := hz.lt
      replace hz := hz.below hb9 hz.lt
      replace hB := bstep hB hB.size hb9
      clear hb9 kc kz fz
      have kz := hz.cell
      have fz := hz.frozen
      unfold crV
      dsimp only
      go_wp2
      have hS : CrZ (setCells w9 w.heap.size 0 (crCs (newC0 rd mo js) (⟨⟨xA, xN, xK⟩, ⟨hA, hN, hK⟩, ⟨jA, jN, jK⟩, ⟨bA, bN, bK⟩, ⟨eA, eN, eK⟩⟩ : CrL))) (newC0 rd mo js) (⟨⟨xA, xN, xK⟩, ⟨hA, hN, hK⟩, ⟨jA, jN, jK⟩, ⟨bA, bN, bK⟩, ⟨eA, eN, eK⟩⟩ : CrL) w8.heap.size l1 l2 l3 l4 w9.heap.size := hZ.keep (fun j h1 h2 => sets_block (by omega) _ 0 _)
      have k0 := hS.k0
      refine bodyPost_ret (v := .tuple #[crV (newC0 rd mo js) (⟨⟨xA, xN, xK⟩, ⟨hA, hN, hK⟩, ⟨jA, jN, jK⟩, ⟨bA, bN, bK⟩, ⟨eA, eN, eK⟩⟩ : CrL), .bool true]) (by simp [results, Tryz.results8, go_sem, kz, crV]) rfl ⟨(⟨⟨xA, xN, xK⟩, ⟨hA, hN, hK⟩, ⟨jA, jN, jK⟩, ⟨bA, bN, bK⟩, ⟨eA, eN, eK⟩⟩ : CrL), l1, l2, l3, l4, by rw [HV.out], ?_, ?_⟩
      · rw [HV.out]
        exact ⟨RgsD.mono hS.s (by omega) (Nat.le_refl _), hS.h, hS.j, hS.b, SlW.mono hS.e (Nat.le_refl _) (by simp), by omega, hS.k1, hS.k2, hS.k3, by have := hS.k4; simp; omega⟩
      · exact Below.setCells (by omega) (crCs (newC0 rd mo js) (⟨⟨xA, xN, xK⟩, ⟨hA, hN, hK⟩, ⟨jA, jN, jK⟩, ⟨bA, bN, bK⟩, ⟨eA, eN, eK⟩⟩ : CrL)) 0 hB
end Go.Proofs.YtomfaabifpndbaaGreat

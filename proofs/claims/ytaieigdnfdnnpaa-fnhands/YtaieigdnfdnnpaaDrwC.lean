/-
  The draw of a crew.
-/
import Derived.Test.YtaieigdnfdnnpaaDrwA
namespace Go.Proofs.Ytaieigdnfdnnpaa
set_option linter.unusedSimpArgs false
set_option linter.unusedVariables false
open Go.RowKit
set_option linter.unusedVariables false
attribute [local go_sem] OpUpon
attribute [local go_sem ↓] Go.wp_at_zero Go.wp_at_succ

theorem But.setsNew {k g : Nat} {a : World} : ∀ {b : World}, But k a b → a.heap.size ≤ g → ∀ (us : List Value) (o : Nat), But k a (Go.Proofs.Ytaieigdnfdnnpaa.setCells b g o us)
  | _, h, _, [], _ => h
  | _, h, hg, u :: us, o => But.setsNew (h.setNew hg o u) hg us (o + 1)
theorem But.drew {k : Nat} {a b : World} (h : But k a b) : But k a b.drew := ⟨h.os, h.tape, h.output, h.size, h.block⟩
theorem CurAt.sets {k g : Nat} {w : World} {a0 : Option Addr} {len cap : Nat} (h : CurAt w k a0 len cap) (hne : k ≠ g) (us : List Value) (o : Nat) : CurAt (setCells w g o us) k a0 len cap := by
  obtain ⟨j, x, hi, hb⟩ := h
  exact ⟨j, x, hi, BoxAt.sets_ne us o hb hne⟩
theorem CurAt.belowC {k : Nat} {w w' : World} {a0 : Option Addr} {len cap : Nat} (h : CurAt w k a0 len cap) (hb : Below w.heap.size w w') : CurAt w' k a0 len cap := by
  obtain ⟨j, x, hi, hx⟩ := h
  exact ⟨j, x, hi, hx.below hb hx.lt⟩
theorem CrN.butN {lo k : Nat} {w w' : World} {c : Cr} {y : CrL} (h : CrN lo w c y) (hb : But k w w') (hk : k < lo) : CrN lo w' c y := CrW.mono (CrW.keep h (.but hb (.inl hk) (Nat.le_refl _))) (Nat.le_refl _) hb.size
theorem IntN.butN {lo k : Nat} {w w' : World} {A : Option Addr} {n cap : Nat} {m : List Int} (h : IntN lo w A n cap m) (hb : But k w w') (hk : k < lo) : IntN lo w' A n cap m := SlW.mono (SlW.keep h (.but hb (.inl hk) (Nat.le_refl _))) (Nat.le_refl _) hb.size
theorem turnsB (k : Nat) (c : Cr) (y : CrL) (lo hi : Nat) (l : List Int) (A : Option Addr) (n cap lo2 hi2 : Nat) (w : World) (hW0 : CrW lo hi w c y) (hh : hi ≤ w.heap.size) (hf : CrFit c) (hl : IntsW lo2 hi2 w A n cap l) (hh2 : hi2 ≤ w.heap.size) (hn : n ≤ 1048576) :
    Calls Try.prog 71 #[crV c y, .slice A n cap] w (fun e w' => ∃ y', e = .returned (crV (turnsC c l) y') ∧ CrW w.heap.size w'.heap.size w' (turnsC c l) y' ∧ Below w.heap.size w w' ∧ But k w w') := by
  refine (sturns_any c y lo hi l A n cap lo2 hi2 w hW0 hh hf hl hh2 hn).mono ?_
  rintro e w' ⟨y', rfl, h1, hb⟩
  exact ⟨y', rfl, h1, hb, .of_below hb⟩

theorem freshStore_ok {rd mo : Int} (h1 : rd = 2 ∨ rd = 3) (m1 : 1 ≤ mo) (m2 : mo ≤ 4) : newStore rd mo = (⟨rd, mo, [Rg.fresh rd.toNat], 0, 0⟩, true) ∧ stOk ⟨rd, mo, [Rg.fresh rd.toNat], 0, 0⟩ = true := by
  have hmo : inB mo 1 16 = true := by unfold inB; simp; omega
  have hmo2 : inB 1 1 mo = true := by unfold inB; simp; omega
  rcases h1 with rfl | rfl
  · refine ⟨by unfold newStore; rw [hmo]; rfl, ?_⟩
    have hch : chain [Rg.fresh 2] 1 0 = some [0] := by rw [chain_succ (r := Rg.fresh 2) (by omega) rfl, chain_neg (by decide)]; rfl
    unfold stOk stHead
    have e1 : inSt 2 1 (Rg.fresh 2) = true := by decide
    simp [hmo, hmo2, hch, e1, roundB]
    decide
  · refine ⟨by unfold newStore; rw [hmo]; rfl, ?_⟩
    have hch : chain [Rg.fresh 3] 1 0 = some [0] := by rw [chain_succ (r := Rg.fresh 3) (by omega) rfl, chain_neg (by decide)]; rfl
    unfold stOk stHead
    have e1 : inSt 3 1 (Rg.fresh 3) = true := by decide
    simp [hmo, hmo2, hch, e1, roundB]
    decide

theorem newC0_ok {rd mo : Int} {js : List (List Int)} (h1 : rd = 2 ∨ rd = 3) (m1 : 1 ≤ mo) (m2 : mo ≤ 4) (hj1 : 1 ≤ js.length) (hj3 : js.length ≤ 3) (hjs : ∀ l ∈ js, jobsOk l = true) : newCrew rd mo js = (newC0 rd mo js, true) ∧ crOk (newC0 rd mo js) = true := by
  obtain ⟨e1, e2⟩ := freshStore_ok h1 m1 m2
  have hst : stOk (newC0 rd mo js).st = true := by show stOk (newStore rd mo).1 = true; rw [e1]; exact e2
  have hok : crOk (newC0 rd mo js) = true := by
    unfold crOk crHead
    rw [hst]
    have l1 : (newC0 rd mo js).hs.length = js.length := by simp [newC0]
    have l2 : (newC0 rd mo js).js.length = js.length := rfl
    have l3 : (newC0 rd mo js).bs.length = js.length := by simp [newC0]
    rw [l1, l2, l3]
    have hb : inB (js.length : Int) 1 4 = true := by unfold inB; simp; omega
    rw [hb]
    have hes : storyOk (newC0 rd mo js).es = true := rfl
    have hck : inB (newC0 rd mo js).ck 0 2000 = true := by show inB 0 0 2000 = true; decide
    rw [hes, hck]
    simp only [beq_self_eq_true, Bool.and_self, Bool.true_and, List.all_eq_true, List.mem_range]
    intro i hi
    unfold crAt
    have g1 : (newC0 rd mo js).hs.getD i .zero = resting := by
      show (List.replicate js.length resting).getD i .zero = resting
      rw [List.getD_eq_getElem?_getD, List.getElem?_replicate, if_pos hi]; rfl
    have g2 : (newC0 rd mo js).bs.getD i 0 = 0 := by
      show (List.replicate js.length (0 : Int)).getD i 0 = 0
      rw [List.getD_eq_getElem?_getD, List.getElem?_replicate, if_pos hi]; rfl
    have g3 : jobsOk ((newC0 rd mo js).js.getD i []) = true := by
      show jobsOk (js.getD i []) = true
      rw [List.getD_eq_getElem?_getD, List.getElem?_eq_getElem hi]
      exact hjs _ (List.getElem_mem hi)
    rw [g1, g2, g3]
    have g4 : fits (newC0 rd mo js).st resting = true := by
      unfold fits
      rw [hst]
      have : resting.ok = true := by decide
      rw [this]; rfl
    rw [g4]
    show (true && true && inB 0 0 0) = true
    decide
  refine ⟨?_, hok⟩
  unfold newCrew
  rw [hok, e1]
  rfl

/-- A crew is drawn. -/
def DrawsC (k : Nat) (a0 : Option Addr) (len cap : Nat) (w : World) (e : Ending) (w' : World) : Prop :=
  ∃ (c : Cr) (y : CrL), e = .returned (crV c y) ∧ crOk c = true ∧ CrN w.heap.size w' c y ∧ But k w w' ∧ CurAt w' k a0 len cap

def ldRV (d : Cr) (y1 : CrL) (N X k : Nat) : List Sl := [.v (.agg #[.int .i64 d.st.rd, .int .i64 d.st.mo, .slice y1.s.A y1.s.n y1.s.cap, .int .i64 d.st.fi, .int .i64 d.st.la, .slice y1.h.A y1.h.n y1.h.cap, .slice y1.j.A y1.j.n y1.j.cap, .slice y1.b.A y1.b.n y1.b.cap, .int .i64 d.ck, .slice y1.e.A y1.e.n y1.e.cap]),
  .v (.pointer (some ⟨k, 0, none⟩)),
  .v (.pointer (some ⟨X, 5, none⟩)),
  .v (.slice y1.h.A y1.h.n y1.h.cap),
  .v (.int .i64 ((y1.h.n : Int))),
  .e fun σ w => ∃ (l5 : List Int) (A5 : Option Addr) (c5 : Nat), σ 5 = .slice A5 l5.length c5 ∧ IntN N w A5 l5.length c5 l5 ∧ l5.length ≤ 60,
  .e fun σ w => ∃ (l5 : List Int) (y6 : CrL), σ 6 = .agg #[.int .i64 ((turnsC d l5).st.rd), .int .i64 ((turnsC d l5).st.mo), .slice y6.s.A y6.s.n y6.s.cap, .int .i64 ((turnsC d l5).st.fi), .int .i64 ((turnsC d l5).st.la), .slice y6.h.A y6.h.n y6.h.cap, .slice y6.j.A y6.j.n y6.j.cap, .slice y6.b.A y6.b.n y6.b.cap, .int .i64 ((turnsC d l5).ck), .slice y6.e.A y6.e.n y6.e.cap] ∧ CrN N w (turnsC d l5) y6 ∧ l5.length ≤ 60,
  .e fun σ w => ∃ (l5 : List Int) (y6 : CrL), BoxAt w N #[.int .i64 ((turnsC d l5).st.rd), .int .i64 ((turnsC d l5).st.mo), .slice y6.s.A y6.s.n y6.s.cap, .int .i64 ((turnsC d l5).st.fi), .int .i64 ((turnsC d l5).st.la), .slice y6.h.A y6.h.n y6.h.cap, .slice y6.j.A y6.j.n y6.j.cap, .slice y6.b.A y6.b.n y6.b.cap, .int .i64 ((turnsC d l5).ck), .slice y6.e.A y6.e.n y6.e.cap] 88 ∧ CrN N w (turnsC d l5) y6 ∧ l5.length ≤ 60]

set_option maxRecDepth 100000 in
set_option maxHeartbeats 2000000 in
theorem l10Draw_any (K0 k : Nat) (a0 : Option Addr) (len cap : Nat) (w : World) (hc : CodeOk K0 w a0 len) (hkk : K0 ≤ k) (hN0 : K0 ≤ w.heap.size) (hcur : CurAt w k a0 len cap) :
    Calls Try.prog 67 #[.pointer (some ⟨k, 0, none⟩)] w (DrawsC k a0 len cap w) := by
  have hkN := hcur.lt
  go_enter Try.func67, Try.ntmps67
  go_wp2_with fail
  refine calls_abs (fun W => But k w W ∧ CurAt W k a0 len cap ∧ BoxAt W w.heap.size #[.int .i64 0, .int .i64 0, .slice none 0 0, .int .i64 0, .int .i64 0, .slice none 0 0, .slice none 0 0, .slice none 0 0, .int .i64 0, .slice none 0 0] 88) ⟨(But.refl _ _).alloc _, hcur.alloc _, BoxAt.new _ _ _⟩ ?_
  clear hcur
  rintro W0 ⟨hB, hcur, hz⟩
  refine (l1Below_any K0 k a0 len cap _ _ (hc.below (hB.below hkk hN0)) hkk (Nat.le_trans hN0 hB.size) hcur (by omega)).mono ?_
  rintro e w1 ⟨x, ⟨x0, x1⟩, rfl, hb1, hcur1⟩
  replace hz := hb1.box hz (by omega)
  replace hB := hB.trans hb1
  clear hb1 hcur
  go_wp2_with fail
  refine (l1Below_any K0 k a0 len cap _ _ (hc.below (hB.below hkk hN0)) hkk (Nat.le_trans hN0 hB.size) hcur1 (by omega)).mono ?_
  rintro e w2 ⟨y, ⟨y0, y1⟩, rfl, hb1, hcur⟩
  replace hz := hb1.box hz (by omega)
  replace hB := hB.trans hb1
  clear hb1 hcur1
  go_wp2_with fail
  refine (l10DrawJobs_any K0 k a0 len cap _ (hc.below (hB.below hkk hN0)) hkk (Nat.le_trans hN0 hB.size) hcur).mono ?_
  rintro e w3 ⟨js, A, c, rfl, hj1, hj3, hjs, hL, hb1, hcur1⟩
  obtain ⟨hnew, hnok⟩ := newC0_ok (rd := 2 + x) (mo := 1 + y) (js := js) (by omega) (by omega) (by omega) hj1 hj3 hjs
  have hml : ∀ l ∈ js, l.length ≤ 1048576 := fun l hl => by
    have := hjs l hl
    simp only [jobsOk, Bool.and_eq_true, decide_eq_true_eq] at this
    omega
  replace hz := hb1.box hz (by omega)
  have hws := hB.size
  replace hB := hB.trans hb1
  clear hb1 hcur
  have HNEW := Lib.hid hnew
  have HDK0 := Lib.hid hnok
  clear hnew hnok hjs
  go_wp2_with fail
  refine (snewCrew_any (2 + x) (1 + y) js A js.length c _ _ _ hL (Nat.le_refl _) (by omega) hml).mono ?_
  rintro e w4 ⟨y1_, rfl, hC, hb1⟩
  rw [HNEW.out] at hC ⊢
  replace hcur1 := hcur1.belowC hb1
  replace hz := hz.below hb1 hz.lt
  have hws3 := hB.size
  replace hB := hB.trans (.of_below hb1)
  have lz := hz.lt
  clear hb1 hL hml
  obtain ⟨d, hd⟩ : ∃ d, d = newC0 (2 + x) (1 + y) js := ⟨_, rfl⟩
  rw [← hd] at hC ⊢
  have HHL := Lib.hid (show 1 ≤ y1_.h.n by have q : d.hs.length = y1_.h.n := hC.h.1; rw [← q, hd]; simp [newC0]; omega)
  have HDK := Lib.hid (show crOk d = true by rw [hd]; exact HDK0.out)
  have HFIT := Lib.hid ((crOk_neat HDK.out).fit)
  clear HNEW HDK0 hd
  unfold crV
  dsimp only
  go_upto_region 2 with fail
  refine wp_abs (fun W => But k w W ∧ CurAt W k a0 len cap ∧ BoxAt W w.heap.size #[.int .i64 0, .int .i64 0, .slice none 0 0, .int .i64 0, .int .i64 0, .slice none 0 0, .slice none 0 0, .slice none 0 0, .int .i64 0, .slice none 0 0] 88 ∧ BoxAt W w4.heap.size #[.int .i64 d.st.rd, .int .i64 d.st.mo, .slice y1_.s.A y1_.s.n y1_.s.cap, .int .i64 d.st.fi, .int .i64 d.st.la, .slice y1_.h.A y1_.h.n y1_.h.cap, .slice y1_.j.A y1_.j.n y1_.j.cap, .slice y1_.b.A y1_.b.n y1_.b.cap, .int .i64 d.ck, .slice y1_.e.A y1_.e.n y1_.e.cap] 88 ∧ CrN w.heap.size W d y1_ ∧ w4.heap.size < W.heap.size) ⟨hB.alloc _, hcur1.alloc _, hz.alloc _, BoxAt.new _ _ _, CrN.belowN (CrW.mono hC (by omega) (Nat.le_refl _)) ((Below.refl _ _).alloc (Nat.le_refl _) _), by simp⟩ ?_
  clear hB hcur1 hz hC
  rintro W5 ⟨hB, hcur, hz, hx, hC, hM⟩
  generalize w4.heap.size = X at *
  refine wp_region2v (fun w w' => But k w w') (fun _ _ h => h.size) (fun _ => But.refl _ _) (fun L W' => But k w W' ∧ CurAt W' k a0 len cap ∧ BoxAt W' X #[.int .i64 d.st.rd, .int .i64 d.st.mo, .slice y1_.s.A y1_.s.n y1_.s.cap, .int .i64 d.st.fi, .int .i64 d.st.la, .slice y1_.h.A y1_.h.n y1_.h.cap, .slice y1_.j.A y1_.j.n y1_.j.cap, .slice y1_.b.A y1_.b.n y1_.b.cap, .int .i64 d.ck, .slice y1_.e.A y1_.e.n y1_.e.cap] 88 ∧ CrN w.heap.size W' d y1_ ∧ X < W'.heap.size ∧ (∃ x0 x1 x2 x3 x4 x5 x6 x7 x8 x9, BoxAt W' w.heap.size #[x0, x1, x2, x3, x4, x5, x6, x7, x8, x9] 88) ∧ (L 7 = false → BoxAt W' w.heap.size #[.int .i64 0, .int .i64 0, .slice none 0 0, .int .i64 0, .int .i64 0, .slice none 0 0, .slice none 0 0, .slice none 0 0, .int .i64 0, .slice none 0 0] 88)) (ldRV d y1_ w.heap.size X k) (fun j => [0, 0, 0, 0, 0, 0, 0, 1].getD j 0) [] (by kernel_rfl) (by kernel_rfl) ?_ ?_ ?_
    (.still rfl ?a0 <| .still rfl ?a1 <| .still rfl ?a2 <| .still rfl ?a3 <| .still rfl ?a4 <| .grow rfl ?a5 <| .grow rfl ?a6 <| .store rfl ?a7 <| .nil) ?_ ?_
  · exact ⟨fun _ _ _ h ⟨l5, A5, c5, e, hp⟩ => ⟨l5, A5, c5, (h 5 (List.mem_singleton.2 rfl)).symm.trans e, hp⟩, fun _ _ _ h ⟨l5, y6, e, hp⟩ => ⟨l5, y6, (h 6 (List.mem_singleton.2 rfl)).symm.trans e, hp⟩, fun _ _ _ _ h => h, trivial⟩
  · exact ⟨fun σ w w' hb ⟨l5, A5, c5, e, hp⟩ => ⟨l5, A5, c5, e, ⟨hp.1.butN hb hkN, hp.2⟩⟩, fun σ w w' hb ⟨l5, y6, e, hp⟩ => ⟨l5, y6, e, ⟨hp.1.butN hb hkN, hp.2⟩⟩, fun σ w w' hb ⟨l5, y6, hx, hp⟩ => ⟨l5, y6, hb.box hx (by omega), ⟨hp.1.butN hb hkN, hp.2⟩⟩, trivial⟩
  · exact ⟨hB.drew, hcur, hx, hC.drew, hM, ⟨_, _, _, _, _, _, _, _, _, _, hz⟩, fun _ => hz⟩
  case a0 | a3 =>
    go_light
    intro L σ W' hcl hL hC hw
    try have e2 := wT hw 2 rfl
    have kx := hC.2.2.1.cell
    clear hw hcl hL hC
    refine OpGoes.step fun K hK => ?_
    unfold OpGoes
    go_simp
    exact hK _ _ ⟨rfl, rfl⟩
  case a1 | a2 | a4 =>
    go_light
    intro L σ W' hcl hL hC hw
    try have e3 := wT hw 3 rfl
    clear hw hcl hL hC
    refine OpGoes.step fun K hK => ?_
    unfold OpGoes
    go_simp
    exact hK _ _ ⟨rfl, rfl⟩
  case a5 =>
    go_light
    intro L σ W' hcl hL hC hw
    have e1 := wV hw 1 rfl
    have e4 := wV hw 4 rfl
    clear hw
    have HC := Lib.hid hC
    clear hC
    clear hcl hL
    refine OpGoes.step fun K hK => ?_
    unfold OpGoes
    go_simp
    obtain ⟨hB, hcur, hx, hC, hM, ⟨_, _, _, _, _, _, _, _, _, _, hz⟩, hz_o⟩ := HC.out
    refine (l10DrawTurns_any K0 k a0 len cap _ 60 _ (hc.below (hB.below hkk hN0)) hkk (Nat.le_trans hN0 hB.size) hcur (by have := HHL.out; omega) (by omega) (by omega)).mono ?_
    rintro e w1 ⟨l5, A5, c5, rfl, hl5, hI5, hb1, hcur1⟩
    exact ⟨_, rfl, hK _ _ ⟨⟨hB.trans hb1, hcur1, hb1.box hx (by omega), hC.butN hb1 hkN, Nat.lt_of_lt_of_le hM hb1.size, ⟨_, _, _, _, _, _, _, _, _, _, hb1.box hz (by omega)⟩, fun h => hb1.box (hz_o (by simpa [upd] using h)) (by omega)⟩, ⟨l5, A5, c5, rfl, SlW.mono hI5 (by omega) (Nat.le_refl _), hl5⟩, hb1⟩⟩
  case a6 =>
    go_light
    intro L σ W' hcl hL hC hw
    have e0 := wV hw 0 rfl
    obtain ⟨l5, A5, c5, e5, hp5⟩ := wE hw 5 rfl
    clear hw
    have HC := Lib.hid hC
    clear hC
    clear hcl hL
    refine OpGoes.step fun K hK => ?_
    unfold OpGoes
    go_simp
    obtain ⟨hB, hcur, hx, hC, hM, ⟨_, _, _, _, _, _, _, _, _, _, hz⟩, hz_o⟩ := HC.out
    refine (turnsB k d y1_ w.heap.size _ l5 A5 l5.length c5 w.heap.size _ _ hC (Nat.le_refl _) HFIT.out hp5.1 (Nat.le_refl _) (by have := hp5.2; omega)).mono ?_
    rintro e w1 ⟨y6, rfl, hC6, hbel, hb1⟩
    exact ⟨_, rfl, hK _ _ ⟨⟨hB.trans hb1, hcur.belowC hbel, hb1.box hx (by omega), hC.butN hb1 hkN, Nat.lt_of_lt_of_le hM hb1.size, ⟨_, _, _, _, _, _, _, _, _, _, hz.below hbel hz.lt⟩, fun h => (hz_o (by simpa [upd] using h)).below hbel (hz_o (by simpa [upd] using h)).lt⟩, ⟨l5, y6, rfl, CrW.mono hC6 (by omega) (Nat.le_refl _), hp5.2⟩, hb1⟩⟩
  case a7 =>
    go_light
    intro L σ W' hcl hL hC hw hne
    obtain ⟨l5, y6, e6, hp6⟩ := wE hw 6 rfl
    clear hw hne
    have HC := Lib.hid hC
    obtain ⟨hB, hcur, hx, hC, hM, ⟨_, _, _, _, _, _, _, _, _, _, hz⟩, hz_o⟩ := hC
    clear hcl hL
    have kc_ := hz.cell
    have kf_ := hz.frozen
    clear hB hcur hx hC hM hz hz_o
    refine OpGoes.step fun K hK => ?_
    unfold OpGoes
    go_simp
    obtain ⟨hB, hcur, hx, hC, hM, ⟨_, _, _, _, _, _, _, _, _, _, hz⟩, hz_o⟩ := HC.out
    have hset := sets_all (us := [.int .i64 ((turnsC d l5).st.rd), .int .i64 ((turnsC d l5).st.mo), .slice y6.s.A y6.s.n y6.s.cap, .int .i64 ((turnsC d l5).st.fi), .int .i64 ((turnsC d l5).st.la), .slice y6.h.A y6.h.n y6.h.cap, .slice y6.j.A y6.j.n y6.j.cap, .slice y6.b.A y6.b.n y6.b.cap, .int .i64 ((turnsC d l5).ck), .slice y6.e.A y6.e.n y6.e.cap]) hz rfl
    refine hK undef (setCells W' w.heap.size 0 [.int .i64 ((turnsC d l5).st.rd), .int .i64 ((turnsC d l5).st.mo), .slice y6.s.A y6.s.n y6.s.cap, .int .i64 ((turnsC d l5).st.fi), .int .i64 ((turnsC d l5).st.la), .slice y6.h.A y6.h.n y6.h.cap, .slice y6.j.A y6.j.n y6.j.cap, .slice y6.b.A y6.b.n y6.b.cap, .int .i64 ((turnsC d l5).ck), .slice y6.e.A y6.e.n y6.e.cap]) ⟨⟨(But.setsNew hB (by omega) _ 0), (CurAt.sets hcur (by omega) _ 0), (BoxAt.sets_ne _ 0 hx (by omega)), (CrN.setsC hC hz _ 0), (size_sts hM _ 0), ⟨_, _, _, _, _, _, _, _, _, _, hset⟩, fun h => absurd h (by simp [upd])⟩, ⟨l5, y6, hset, ⟨CrN.setsC hp6.1 hz _ 0, hp6.2⟩⟩, Nat.le_of_eq (sets_size _ _ _).symm, keepV ?_⟩
    exact ⟨fun _ _ ⟨l5_x, A5_x, c5_x, e, hp⟩ => ⟨l5_x, A5_x, c5_x, e, ⟨IntN.setsC hp.1 hz _ 0, hp.2⟩⟩, fun _ _ ⟨l5_x, y6_x, e, hp⟩ => ⟨l5_x, y6_x, e, ⟨CrN.setsC hp.1 hz _ 0, hp.2⟩⟩, fun h => absurd rfl h, trivial⟩
  · intro L L' W' hLL hC
    obtain ⟨hB, hcur, hx, hC, hM, ⟨_, _, _, _, _, _, _, _, _, _, hz⟩, hz_o⟩ := hC
    exact ⟨hB, hcur, hx, hC, hM, ⟨_, _, _, _, _, _, _, _, _, _, hz⟩, fun h => hz_o (hLL _ h)⟩
  · intro σ L W' hall hC hRR
    obtain ⟨hB, hcur, hx, hC, hM, ⟨_, _, _, _, _, _, _, _, _, _, hz⟩, hz_o⟩ := hC
    obtain ⟨l5, y6, s7, hp7⟩ := dE hRR 7 rfl
    clear hRR
    simp only [lexAll]
    go_simp
    go_step
    have kz := s7.cell
    go_wp2
    refine bodyPost_ret (v := crV (turnsC d l5) y6) (by simp [results, Try.results67, go_sem, kz, crV]) rfl ⟨turnsC d l5, y6, rfl, ?_, hp7.1, hB, hcur⟩
    unfold turnsC
    rw [HDK.out, decide_eq_true (by have := hp7.2; omega)]
    exact turnsS_ok HDK.out l5
end Go.Proofs.Ytaieigdnfdnnpaa

/-
  The draw of a store and a hand.
-/
namespace Go.Proofs.Ytaieigdnfdnnpaa
set_option linter.unusedSimpArgs false
set_option linter.unusedVariables false
open Go.RowKit
set_option linter.unusedVariables false
attribute [local go_sem] OpUpon
attribute [local go_sem ↓] Go.wp_at_zero Go.wp_at_succ

theorem CrN.stsN {lo b : Nat} {w : World} {c : Cr} {y : CrL} (h : CrN lo w c y) (hb : b < lo) (us : List Value) (o : Nat) : CrN lo (setCells w b o us) c y := CrW.mono (CrW.sts h (.inl hb) us o) (Nat.le_refl _) (Nat.le_of_eq (sets_size us o w).symm)

/-- A right store and a hand are drawn. -/
def DrawsSH (k : Nat) (a0 : Option Addr) (len cap : Nat) (w : World) (e : Ending) (w' : World) : Prop :=
  ∃ (s : St) (A : Option Addr) (n c : Nat) (h : Hd), e = .returned (.tuple #[stV s A n c, hdV h]) ∧ stOk s = true ∧ RgsW w.heap.size w'.heap.size w' A n c s.rs ∧ But k w w' ∧ CurAt w' k a0 len cap

def lhRV (d : Cr) (N X k n mS kS kH gH : Nat) (sA : Option Addr) (jS bS eS : Slc) : List Sl := [.v (.pointer (some ⟨X, 0, none⟩)),
  .v (.agg #[.int .i64 d.st.rd, .int .i64 d.st.mo, .slice sA mS kS, .int .i64 d.st.fi, .int .i64 d.st.la]),
  .v (.pointer (some ⟨X, 5, none⟩)),
  .v (.slice (some ⟨gH, 0, none⟩) n kH),
  .v (.pointer (some ⟨k, 0, none⟩)),
  .v (.pointer (some ⟨X, 5, none⟩)),
  .v (.slice (some ⟨gH, 0, none⟩) n kH),
  .v (.int .i64 ((n : Int))),
  .e fun σ w => ∃ (x8 : Int), σ 8 = .int .i64 x8 ∧ (0 ≤ x8 ∧ x8 < (n : Int)),
  .e fun σ w => ∃ (x8 : Int), σ 9 = .pointer (some ⟨gH, x8.toNat * 12, none⟩) ∧ (0 ≤ x8 ∧ x8 < (n : Int)),
  .e fun σ w => ∃ (h10 : Hd), σ 10 = .agg #[.int .i64 h10.at_, .int .i64 h10.v, .int .i64 h10.r, .int .i64 h10.t, .bool h10.seen.s, .int .i64 h10.seen.n, .bool h10.seen.f, .int .i64 h10.seen.v, .int .i64 h10.tr, .int .i64 h10.sp, .bool h10.ag, .int .i64 h10.re] ∧ True,
  .e fun σ w => BoxAt w N #[.int .i64 d.st.rd, .int .i64 d.st.mo, .slice sA mS kS, .int .i64 d.st.fi, .int .i64 d.st.la] 72,
  .e fun σ w => ∃ (h10 : Hd), BoxAt w (N + 1) #[.int .i64 h10.at_, .int .i64 h10.v, .int .i64 h10.r, .int .i64 h10.t, .bool h10.seen.s, .int .i64 h10.seen.n, .bool h10.seen.f, .int .i64 h10.seen.v, .int .i64 h10.tr, .int .i64 h10.sp, .bool h10.ag, .int .i64 h10.re] 27 ∧ True]

set_option maxRecDepth 100000 in
set_option maxHeartbeats 2000000 in
theorem l5Draw_any (K0 k : Nat) (a0 : Option Addr) (len cap : Nat) (w : World) (hc : CodeOk K0 w a0 len) (hkk : K0 ≤ k) (hN0 : K0 ≤ w.heap.size) (hcur : CurAt w k a0 len cap) :
    Calls Try.prog 66 #[.pointer (some ⟨k, 0, none⟩)] w (DrawsSH k a0 len cap w) := by
  have hkN := hcur.lt
  go_enter Try.func66, Try.ntmps66
  go_wp2_with fail
  refine calls_abs (fun W => But k w W ∧ CurAt W k a0 len cap ∧ BoxAt W w.heap.size #[.int .i64 0, .int .i64 0, .slice none 0 0, .int .i64 0, .int .i64 0] 72 ∧ BoxAt W (w.heap.size + 1) #[.int .i64 0, .int .i64 0, .int .i64 0, .int .i64 0, .bool false, .int .i64 0, .bool false, .int .i64 0, .int .i64 0, .int .i64 0, .bool false, .int .i64 0] 27) ⟨((But.refl _ _).alloc _).alloc _, (hcur.alloc _).alloc _, (BoxAt.new _ _ _).alloc _, BoxAt.new' (by simp)⟩ ?_
  clear hcur
  rintro W0 ⟨hB, hcur, hz, hy⟩
  refine (l10Draw_any K0 k a0 len cap _ (hc.below (hB.below hkk hN0)) hkk (Nat.le_trans hN0 hB.size) hcur).mono ?_
  rintro e w1 ⟨d, y, rfl, hdk, hC, hb1, hcur1⟩
  have ly := hy.lt
  have HDK := Lib.hid hdk; clear hdk
  replace hz := hb1.box hz (by omega)
  replace hy := hb1.box hy (by omega)
  have hs1 := hb1.size
  replace hB := hB.trans hb1
  clear hb1 hcur
  replace hC : CrN (w.heap.size + 2) w1 d y := CrW.mono hC (by omega) (Nat.le_refl _)
  obtain ⟨⟨sA, mS, kS⟩, ⟨hA, n, kH⟩, jS, bS, eS⟩ := y
  have hn1 : 1 ≤ n := by have q : d.hs.length = n := hC.h.1; have := (crOk_neat HDK.out).h.1; omega
  have hn4 : n ≤ 4 := by have q : d.hs.length = n := hC.h.1; have := (crOk_neat HDK.out).h.2; omega
  obtain ⟨gH, -, hA', -, -, -, -⟩ := SlW.at_ hC.h Hd.cs_len (i := 0) (by show 0 < n; omega)
  dsimp only at hA'
  subst hA'
  unfold crV
  dsimp only
  go_upto_region 2 with fail
  refine wp_abs (fun W => But k w W ∧ CurAt W k a0 len cap ∧ BoxAt W w.heap.size #[.int .i64 0, .int .i64 0, .slice none 0 0, .int .i64 0, .int .i64 0] 72 ∧ BoxAt W (w.heap.size + 1) #[.int .i64 0, .int .i64 0, .int .i64 0, .int .i64 0, .bool false, .int .i64 0, .bool false, .int .i64 0, .int .i64 0, .int .i64 0, .bool false, .int .i64 0] 27 ∧ BoxAt W w1.heap.size #[.int .i64 d.st.rd, .int .i64 d.st.mo, .slice sA mS kS, .int .i64 d.st.fi, .int .i64 d.st.la, .slice (some ⟨gH, 0, none⟩) n kH, .slice jS.A jS.n jS.cap, .slice bS.A bS.n bS.cap, .int .i64 d.ck, .slice eS.A eS.n eS.cap] 88 ∧ CrN (w.heap.size + 2) W d (⟨⟨sA, mS, kS⟩, ⟨some ⟨gH, 0, none⟩, n, kH⟩, jS, bS, eS⟩ : CrL) ∧ w1.heap.size < W.heap.size) ⟨hB.alloc _, hcur1.alloc _, hz.alloc _, hy.alloc _, BoxAt.new _ _ _, hC.belowN ((Below.refl _ _).alloc (Nat.le_refl _) _), by simp⟩ ?_
  clear hB hcur1 hz hy hC
  rintro W5 ⟨hB, hcur, hz, hy, hx, hC, hM⟩
  generalize w1.heap.size = X at *
  refine wp_region2v (fun w w' => But k w w') (fun _ _ h => h.size) (fun _ => But.refl _ _) (fun L W' => But k w W' ∧ CurAt W' k a0 len cap ∧ BoxAt W' X #[.int .i64 d.st.rd, .int .i64 d.st.mo, .slice sA mS kS, .int .i64 d.st.fi, .int .i64 d.st.la, .slice (some ⟨gH, 0, none⟩) n kH, .slice jS.A jS.n jS.cap, .slice bS.A bS.n bS.cap, .int .i64 d.ck, .slice eS.A eS.n eS.cap] 88 ∧ CrN (w.heap.size + 2) W' d (⟨⟨sA, mS, kS⟩, ⟨some ⟨gH, 0, none⟩, n, kH⟩, jS, bS, eS⟩ : CrL) ∧ X < W'.heap.size ∧ (∃ x0 x1 x2 x3 x4, BoxAt W' w.heap.size #[x0, x1, x2, x3, x4] 72) ∧ (L 11 = false → BoxAt W' w.heap.size #[.int .i64 0, .int .i64 0, .slice none 0 0, .int .i64 0, .int .i64 0] 72) ∧ (∃ x0 x1 x2 x3 x4 x5 x6 x7 x8 x9 x10 x11, BoxAt W' (w.heap.size + 1) #[x0, x1, x2, x3, x4, x5, x6, x7, x8, x9, x10, x11] 27) ∧ (L 12 = false → BoxAt W' (w.heap.size + 1) #[.int .i64 0, .int .i64 0, .int .i64 0, .int .i64 0, .bool false, .int .i64 0, .bool false, .int .i64 0, .int .i64 0, .int .i64 0, .bool false, .int .i64 0] 27)) (lhRV d w.heap.size X k n mS kS kH gH sA jS bS eS) (fun j => [0, 0, 0, 0, 0, 0, 0, 0, 0, 0, 0, 1, 1].getD j 0) [] (by kernel_rfl) (by kernel_rfl) ?_ ?_ ?_
    (.still rfl ?a0 <| .still rfl ?a1 <| .still rfl ?a2 <| .still rfl ?a3 <| .still rfl ?a4 <| .still rfl ?a5 <| .still rfl ?a6 <| .still rfl ?a7 <| .grow rfl ?a8 <| .still rfl ?a9 <| .grow rfl ?a10 <| .store rfl ?a11 <| .store rfl ?a12 <| .nil) ?_ ?_
  · exact ⟨fun _ _ _ h ⟨x8, e, hp⟩ => ⟨x8, (h 8 (List.mem_singleton.2 rfl)).symm.trans e, hp⟩, fun _ _ _ h ⟨x8, e, hp⟩ => ⟨x8, (h 9 (List.mem_singleton.2 rfl)).symm.trans e, hp⟩, fun _ _ _ h ⟨h10, e, hp⟩ => ⟨h10, (h 10 (List.mem_singleton.2 rfl)).symm.trans e, hp⟩, fun _ _ _ _ h => h, fun _ _ _ _ h => h, trivial⟩
  · exact ⟨fun σ w w' hb ⟨x8, e, hp⟩ => ⟨x8, e, hp⟩, fun σ w w' hb ⟨x8, e, hp⟩ => ⟨x8, e, hp⟩, fun σ w w' hb ⟨h10, e, hp⟩ => ⟨h10, e, hp⟩, fun σ w w' hb hR => hb.box hR (by omega), fun σ w w' hb ⟨h10, hx, hp⟩ => ⟨h10, hb.box hx (by omega), hp⟩, trivial⟩
  · exact ⟨hB.drew, hcur, hx, hC.drew, hM, ⟨_, _, _, _, _, hz⟩, fun _ => hz, ⟨_, _, _, _, _, _, _, _, _, _, _, _, hy⟩, fun _ => hy⟩
  case a0 | a2 | a4 | a5 | a7 =>
    go_light
    intro L σ W' hcl hL hC hw
    try have e6 := wT hw 6 rfl
    clear hw hcl hL hC
    refine OpGoes.step fun K hK => ?_
    unfold OpGoes
    go_simp
    exact hK _ _ ⟨rfl, rfl⟩
  case a1 | a3 | a6 =>
    go_light
    intro L σ W' hcl hL hC hw
    try have e0 := wT hw 0 rfl
    try have e2 := wT hw 2 rfl
    try have e5 := wT hw 5 rfl
    have kx := hC.2.2.1.cell
    clear hw hcl hL hC
    refine OpGoes.step fun K hK => ?_
    unfold OpGoes
    go_simp
    exact hK _ _ ⟨rfl, rfl⟩
  case a8 =>
    go_light
    intro L σ W' hcl hL hC hw
    have e4 := wV hw 4 rfl
    have e7 := wV hw 7 rfl
    clear hw
    have HC := Lib.hid hC
    clear hC
    clear hcl hL
    refine OpGoes.step fun K hK => ?_
    unfold OpGoes
    go_simp
    obtain ⟨hB, hcur, hx, hC, hM, ⟨_, _, _, _, _, hz⟩, hz_o, ⟨_, _, _, _, _, _, _, _, _, _, _, _, hy⟩, hy_o⟩ := HC.out
    refine (l1Below_any K0 k a0 len cap _ _ (hc.below (hB.below hkk hN0)) hkk (Nat.le_trans hN0 hB.size) hcur (by omega)).mono ?_
    rintro e w1 ⟨x8, hx8, rfl, hb1, hcur1⟩
    exact ⟨_, rfl, hK _ _ ⟨⟨hB.trans hb1, hcur1, hb1.box hx (by omega), hC.butN hb1 (by omega), Nat.lt_of_lt_of_le hM hb1.size, ⟨_, _, _, _, _, hb1.box hz (by omega)⟩, fun h => hb1.box (hz_o (by simpa [upd] using h)) (by omega), ⟨_, _, _, _, _, _, _, _, _, _, _, _, hb1.box hy (by omega)⟩, fun h => hb1.box (hy_o (by simpa [upd] using h)) (by omega)⟩, ⟨x8, rfl, hx8⟩, hb1⟩⟩
  case a9 =>
    go_light
    intro L σ W' hcl hL hC hw
    have e3 := wV hw 3 rfl
    obtain ⟨x8, e8, hp8⟩ := wE hw 8 rfl
    have q1 := hp8.1
    have q2 := hp8.2
    clear hw hcl hL hC
    refine OpGoes.step fun K hK => ?_
    unfold OpGoes
    go_simp
    exact hK _ _ ⟨rfl, ⟨x8, rfl, hp8⟩⟩
  case a10 =>
    go_light
    intro L σ W' hcl hL hC hw
    obtain ⟨x8, e9, hp9⟩ := wE hw 9 rfl
    clear hw
    obtain ⟨hB, hcur, hx, hC, hM, ⟨_, _, _, _, _, hz⟩, hz_o, ⟨_, _, _, _, _, _, _, _, _, _, _, _, hy⟩, hy_o⟩ := hC
    obtain ⟨q1, q2⟩ := hp9
    obtain ⟨gX, h10, eA, -, -, -, hcc⟩ := SlW.at_ hC.h Hd.cs_len (i := x8.toNat) (by show x8.toNat < n; omega)
    dsimp only at eA
    injection eA with eA
    injection eA with eA
    subst eA
    have d0 := hcc 0 _ rfl
    have d1 := hcc 1 _ rfl
    have d2 := hcc 2 _ rfl
    have d3 := hcc 3 _ rfl
    have d4 := hcc 4 _ rfl
    have d5 := hcc 5 _ rfl
    have d6 := hcc 6 _ rfl
    have d7 := hcc 7 _ rfl
    have d8 := hcc 8 _ rfl
    have d9 := hcc 9 _ rfl
    have d10 := hcc 10 _ rfl
    have d11 := hcc 11 _ rfl
    rw [Nat.add_zero] at d0
    clear hcc
    clear hcl hL
    refine OpGoes.step fun K hK => ?_
    unfold OpGoes
    go_simp
    exact hK _ _ ⟨⟨hB, hcur, hx, hC, hM, ⟨_, _, _, _, _, hz⟩, fun h => hz_o (by simpa [upd] using h), ⟨_, _, _, _, _, _, _, _, _, _, _, _, hy⟩, fun h => hy_o (by simpa [upd] using h)⟩, ⟨h10, rfl, trivial⟩, But.refl _ _⟩
  case a11 =>
    go_light
    intro L σ W' hcl hL hC hw hne
    have e1 := wV hw 1 rfl
    clear hw hne
    have HC := Lib.hid hC
    obtain ⟨hB, hcur, hx, hC, hM, ⟨_, _, _, _, _, hz⟩, hz_o, ⟨_, _, _, _, _, _, _, _, _, _, _, _, hy⟩, hy_o⟩ := hC
    clear hcl hL
    have kc_ := hz.cell
    have kf_ := hz.frozen
    clear hB hcur hx hC hM hz hz_o hy hy_o
    refine OpGoes.step fun K hK => ?_
    unfold OpGoes
    go_simp
    obtain ⟨hB, hcur, hx, hC, hM, ⟨_, _, _, _, _, hz⟩, hz_o, ⟨_, _, _, _, _, _, _, _, _, _, _, _, hy⟩, hy_o⟩ := HC.out
    have hset := sets_all (us := [.int .i64 d.st.rd, .int .i64 d.st.mo, .slice sA mS kS, .int .i64 d.st.fi, .int .i64 d.st.la]) hz rfl
    refine hK undef (setCells W' w.heap.size 0 [.int .i64 d.st.rd, .int .i64 d.st.mo, .slice sA mS kS, .int .i64 d.st.fi, .int .i64 d.st.la]) ⟨⟨(But.setsNew hB (by omega) _ 0), (CurAt.sets hcur (by omega) _ 0), (BoxAt.sets_ne _ 0 hx (by omega)), (CrN.stsN hC (by omega) _ 0), (size_sts hM _ 0), ⟨_, _, _, _, _, hset⟩, fun h => absurd h (by simp [upd]), ⟨_, _, _, _, _, _, _, _, _, _, _, _, (BoxAt.sets_ne _ 0 hy (by omega))⟩, fun h => (BoxAt.sets_ne _ 0 (hy_o (by simpa [upd] using h)) (by omega))⟩, hset, Nat.le_of_eq (sets_size _ _ _).symm, keepV ?_⟩
    exact ⟨fun _ _ ⟨x8_x, e, hp⟩ => ⟨x8_x, e, (((((hp)))))⟩, fun _ _ ⟨x8_x, e, hp⟩ => ⟨x8_x, e, (((((hp)))))⟩, fun _ _ ⟨h10_x, e, hp⟩ => ⟨h10_x, e, (((((hp)))))⟩, fun h => absurd rfl h, fun _ _ ⟨h10, hx, hp⟩ => ⟨h10, (BoxAt.sets_ne _ 0 hx (by omega)), (((((hp)))))⟩, trivial⟩
  case a12 =>
    go_light
    intro L σ W' hcl hL hC hw hne
    obtain ⟨h10, e10, hp10⟩ := wE hw 10 rfl
    clear hw hne
    have HC := Lib.hid hC
    obtain ⟨hB, hcur, hx, hC, hM, ⟨_, _, _, _, _, hz⟩, hz_o, ⟨_, _, _, _, _, _, _, _, _, _, _, _, hy⟩, hy_o⟩ := hC
    clear hcl hL
    have kc_ := hy.cell
    have kf_ := hy.frozen
    clear hB hcur hx hC hM hz hz_o hy hy_o
    refine OpGoes.step fun K hK => ?_
    unfold OpGoes
    go_simp
    obtain ⟨hB, hcur, hx, hC, hM, ⟨_, _, _, _, _, hz⟩, hz_o, ⟨_, _, _, _, _, _, _, _, _, _, _, _, hy⟩, hy_o⟩ := HC.out
    have hset := sets_all (us := [.int .i64 h10.at_, .int .i64 h10.v, .int .i64 h10.r, .int .i64 h10.t, .bool h10.seen.s, .int .i64 h10.seen.n, .bool h10.seen.f, .int .i64 h10.seen.v, .int .i64 h10.tr, .int .i64 h10.sp, .bool h10.ag, .int .i64 h10.re]) hy rfl
    refine hK undef (setCells W' (w.heap.size + 1) 0 [.int .i64 h10.at_, .int .i64 h10.v, .int .i64 h10.r, .int .i64 h10.t, .bool h10.seen.s, .int .i64 h10.seen.n, .bool h10.seen.f, .int .i64 h10.seen.v, .int .i64 h10.tr, .int .i64 h10.sp, .bool h10.ag, .int .i64 h10.re]) ⟨⟨(But.setsNew hB (by omega) _ 0), (CurAt.sets hcur (by omega) _ 0), (BoxAt.sets_ne _ 0 hx (by omega)), (CrN.stsN hC (by omega) _ 0), (size_sts hM _ 0), ⟨_, _, _, _, _, (BoxAt.sets_ne _ 0 hz (by omega))⟩, fun h => (BoxAt.sets_ne _ 0 (hz_o (by simpa [upd] using h)) (by omega)), ⟨_, _, _, _, _, _, _, _, _, _, _, _, hset⟩, fun h => absurd h (by simp [upd])⟩, ⟨h10, hset, ((((((((((((hp10))))))))))))⟩, Nat.le_of_eq (sets_size _ _ _).symm, keepV ?_⟩
    exact ⟨fun _ _ ⟨x8_x, e, hp⟩ => ⟨x8_x, e, ((((((((((((hp))))))))))))⟩, fun _ _ ⟨x8_x, e, hp⟩ => ⟨x8_x, e, ((((((((((((hp))))))))))))⟩, fun _ _ ⟨h10_x, e, hp⟩ => ⟨h10_x, e, ((((((((((((hp))))))))))))⟩, fun _ _ hR => (BoxAt.sets_ne _ 0 hR (by omega)), fun h => absurd rfl h, trivial⟩
  · intro L L' W' hLL hC
    obtain ⟨hB, hcur, hx, hC, hM, ⟨_, _, _, _, _, hz⟩, hz_o, ⟨_, _, _, _, _, _, _, _, _, _, _, _, hy⟩, hy_o⟩ := hC
    exact ⟨hB, hcur, hx, hC, hM, ⟨_, _, _, _, _, hz⟩, fun h => hz_o (hLL _ h), ⟨_, _, _, _, _, _, _, _, _, _, _, _, hy⟩, fun h => hy_o (hLL _ h)⟩
  · intro σ L W' hall hC hRR
    obtain ⟨hB, hcur, hx, hC, hM, ⟨_, _, _, _, _, hz⟩, hz_o, ⟨_, _, _, _, _, _, _, _, _, _, _, _, hy⟩, hy_o⟩ := hC
    have s11 := dE hRR 11 rfl
    obtain ⟨h10, s12, hp12⟩ := dE hRR 12 rfl
    clear hRR
    simp only [lexAll]
    go_simp
    go_step
    have kz := s11.cell
    have ky := s12.cell
    go_wp2
    refine bodyPost_ret (v := .tuple #[stV d.st sA mS kS, hdV h10]) (by simp [results, Try.results66, go_sem, kz, ky, stV, hdV]) rfl ⟨d.st, sA, mS, kS, h10, rfl, (crOk_neat HDK.out).s, RgsW.mono hC.s (by omega) (Nat.le_refl _), hB, hcur⟩
end Go.Proofs.Ytaieigdnfdnnpaa


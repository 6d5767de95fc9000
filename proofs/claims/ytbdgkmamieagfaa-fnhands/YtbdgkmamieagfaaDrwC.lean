/-
  The draw of a crew.
-/
import Derived.Test.YtbdgkmamieagfaaDrwB
namespace Go.Proofs.Ytbdgkmamieagfaa
set_option linter.unusedSimpArgs false
set_option linter.unusedVariables false
open Go.RowKit
set_option linter.unusedVariables false
attribute [local go_sem] OpUpon
attribute [local go_sem ↓] Go.wp_at_zero Go.wp_at_succ

theorem But.setsNew {k g : Nat} {a : World} : ∀ {b : World}, But k a b → a.heap.size ≤ g → ∀ (us : List Value) (o : Nat), But k a (Go.Proofs.Ytbdgkmamieagfaa.setCells b g o us)
  | _, h, _, [], _ => h
  | _, h, hg, u :: us, o => But.setsNew (h.setNew hg o u) hg us (o + 1)
theorem But.drew {k : Nat} {a b : World} (h : But k a b) : But k a b.drew := ⟨h.os, h.tape, h.output, h.size, h.block⟩
theorem CurAt.sets {k g : Nat} {w : World} {a0 : Option Addr} {len cap : Nat} (h : CurAt w k a0 len cap) (hne : k ≠ g) (us : List Value) (o : Nat) : CurAt (setCells w g o us) k a0 len cap := by
  obtain ⟨j, x, hi, hb⟩ := h
  exact ⟨j, x, hi, BoxAt.sets_ne us o hb hne⟩
theorem CurAt.belowC {k : Nat} {w w' : World} {a0 : Option Addr} {len cap : Nat} (h : CurAt w k a0 len cap) (hb : Below w.heap.size w w') : CurAt w' k a0 len cap := by
  obtain ⟨j, x, hi, hx⟩ := h
  exact ⟨j, x, hi, hx.below hb hx.lt⟩
theorem CrN.butN {lo k : Nat} {w w' : World} {c : Cr} {y : CrL} (h : CrN lo w c y) (hb : But k w w') (hk : k < lo) : CrN lo w' c y := CrW.mono (CrW.keep h (.but hb (.inl hk) (Nat.le_refl _))) (Nat.le_refl _) hb.size
theorem IntN.butN {lo k : Nat} {w w' : World} {A : Option Addr} {n cap : Nat} {m : List Int} (h : IntN lo w A n cap m) (hb : But k w w') (hk : k < lo) : IntN lo w' A n cap m := SlW.mono (SlW.keep h (.but hb (.inl hk) (Nat.le_refl _))) (Nat.le_refl _) hb.size
theorem turnsB (k : Nat) (c : Cr) (y : CrL) (lo hi : Nat) (l : List Int) (A : Option Addr) (n cap lo2 hi2 : Nat) (w : World) (hW0 : CrW lo hi w c y) (hh : hi ≤ w.heap.size) (hf : CrFit c) (hl : IntsW lo2 hi2 w A n cap l) (hh2 : hi2 ≤ w.heap.size) (hn : n ≤ 1048576) :
    Calls Try.prog 71 #[crV c y, .slice A n cap] w (fun e w' => ∃ y', e = .returned (crV (turnsC c l) y') ∧ CrW w.heap.size w'.heap.size w' (turnsC c l) y' ∧ Below w.heap.size w w' ∧ But k w w') := by
  refine (sturns_any c y lo hi l A n cap lo2 hi2 w hW0 hh hf hl hh2 hn).mono ?_
  rintro e w' ⟨y', rfl, h1, hb⟩
  exact ⟨y', rfl, h1, hb, .of_below hb⟩

theorem freshStore_ok {rd mo : Int} (h1 : rd = 2 ∨ rd = 3) (m1 : 1 ≤ mo) (m2 : mo ≤ 4) : newStore rd mo = (⟨rd, mo, [Rg.fresh rd.toNat], 0, 0⟩, true) ∧ stOk ⟨rd, mo, [Rg.fresh rd.toNat], 0, 0⟩ = true := by
  have hmo : inB mo 1 16 = true := by unfold inB; simp; omega
  have hmo2 : inB 1 1 mo = true := by unfold inB; simp; omega
  rcases h1 with rfl | rfl
  · refine ⟨by unfold newStore; rw [hmo]; rfl, ?_⟩
    have hch : chain [Rg.fresh 2] 1 0 = some [0] := by rw [chain_succ (r := Rg.fresh 2) (by omega) rfl, chain_neg (by decide)]; rfl
    unfold stOk stHead
    have e1 : inSt 2 1 (Rg.fresh 2) = true := by decide
    simp [hmo, hmo2, hch, e1, roundB]
    decide
  · refine ⟨by unfold newStore; rw [hmo]; rfl, ?_⟩
    have hch : chain [Rg.fresh 3] 1 0 = some [0] := by rw [chain_succ (r := Rg.fresh 3) (by omega) rfl, chain_neg (by decide)]; rfl
    unfold stOk stHead
    have e1 : inSt 3 1 (Rg.fresh 3) = true := by decide
    simp [hmo, hmo2, hch, e1, roundB]
    decide

theorem newC0_ok {rd mo : Int} {js : List (List Int)} (h1 : rd = 2 ∨ rd = 3) (m1 : 1 ≤ mo) (m2 : mo ≤ 4) (hj1 : 1 ≤ js.length) (hj3 : js.length ≤ 3) (hjs : ∀ l ∈ js, jobsOk l = true) : newCrew rd mo js = (newC0 rd mo js, true) ∧ crOk (newC0 rd mo js) = true := by
  obtain ⟨e1, e2⟩ := freshStore_ok h1 m1 m2
  have hst : stOk (newC0 rd mo js).st = true := by show stOk (newStore rd mo).1 = true; rw [e1]; exact e2
  have hok : crOk (newC0 rd mo js) = true := by
    unfold crOk crHead
    rw [hst]
    have l1 : (newC0 rd mo js).hs.length = js.length := by simp [newC0]
    have l2 : (newC0 rd mo js).js.length = js.length := rfl
    have l3 : (newC0 rd mo js).bs.length = js.length := by simp [newC0]
    rw [l1, l2, l3]
    have hb : inB (js.length : Int) 1 4 = true := by unfold inB; simp; omega
    rw [hb]
    have hes : storyOk (newC0 rd mo js).es = true := rfl
    have hck : inB (newC0 rd mo js).ck 0 2000 = true := by show inB 0 0 2000 = true; decide
    rw [hes, hck]
    simp only [beq_self_eq_true, Bool.and_self, Bool.true_and, List.all_eq_true, List.mem_range]
    intro i hi
    unfold crAt
    have g1 : (newC0 rd mo js).hs.getD i .zero = resting := by
      show (List.replicate js.length resting).getD i .zero = resting
      rw [List.getD_eq_getElem?_getD, List.getElem?_replicate, if_pos hi]; rfl
    have g2 : (newC0 rd mo js).bs.getD i 0 = 0 := by
      show (List.replicate js.length (0 : Int)).getD i 0 = 0
      rw [List.getD_eq_getElem?_getD, List.getElem?_replicate, if_pos hi]; rfl
    have g3 : jobsOk ((newC0 rd mo js).js.getD i []) = true := by
      show jobsOk (js.getD i []) = true
      rw [List.getD_eq_getElem?_getD, List.getElem?_eq_getElem hi]
      exact hjs _ (List.getElem_mem hi)
    rw [g1, g2, g3]
    have g4 : fits (newC0 rd mo js).st resting = true := by
      unfold fits
      rw [hst]
      have : resting.ok = true := by decide
      rw [this]; rfl
    rw [g4]
    show (true && true && inB 0 0 0) = true
    decide
  refine ⟨?_, hok⟩
  unfold newCrew
  rw [hok, e1]
  rfl

/-- A crew is drawn. -/
def DrawsC (k : Nat) (a0 : Option Addr) (len cap : Nat) (w : World) (e : Ending) (w' : World) : Prop :=
  ∃ (c : Cr) (y : CrL), e = .returned (crV c y) ∧ crOk c = true ∧ CrN w.heap.size w' c y ∧ But k w w' ∧ CurAt w' k a0 len cap

def ldRR (d : Cr) (y1 : CrL) (N X k : Nat) (j : Nat) (σ : Nat → Value) (w : World) : Prop :=
  match j with
  | 0 => σ 0 = .agg #[.int .i64 d.st.rd, .int .i64 d.st.mo, .slice y1.s.A y1.s.n y1.s.cap, .int .i64 d.st.fi, .int .i64 d.st.la, .slice y1.h.A y1.h.n y1.h.cap, .slice y1.j.A y1.j.n y1.j.cap, .slice y1.b.A y1.b.n y1.b.cap, .int .i64 d.ck, .slice y1.e.A y1.e.n y1.e.cap]
  | 1 => σ 1 = .pointer (some ⟨k, 0, none⟩)
  | 2 => σ 2 = .pointer (some ⟨X, 5, none⟩)
  | 3 => σ 3 = .slice y1.h.A y1.h.n y1.h.cap
  | 4 => σ 4 = .int .i64 ((y1.h.n : Int))
  | 5 => ∃ (l5 : List Int) (A5 : Option Addr) (c5 : Nat), σ 5 = .slice A5 l5.length c5 ∧ IntN N w A5 l5.length c5 l5 ∧ l5.length ≤ 60
  | 6 => ∃ (l5 : List Int) (y6 : CrL), σ 6 = .agg #[.int .i64 ((turnsC d l5).st.rd), .int .i64 ((turnsC d l5).st.mo), .slice y6.s.A y6.s.n y6.s.cap, .int .i64 ((turnsC d l5).st.fi), .int .i64 ((turnsC d l5).st.la), .slice y6.h.A y6.h.n y6.h.cap, .slice y6.j.A y6.j.n y6.j.cap, .slice y6.b.A y6.b.n y6.b.cap, .int .i64 ((turnsC d l5).ck), .slice y6.e.A y6.e.n y6.e.cap] ∧ CrN N w (turnsC d l5) y6 ∧ l5.length ≤ 60
  | 7 => ∃ (l5 : List Int) (y6 : CrL), BoxAt w N #[.int .i64 ((turnsC d l5).st.rd), .int .i64 ((turnsC d l5).st.mo), .slice y6.s.A y6.s.n y6.s.cap, .int .i64 ((turnsC d l5).st.fi), .int .i64 ((turnsC d l5).st.la), .slice y6.h.A y6.h.n y6.h.cap, .slice y6.j.A y6.j.n y6.j.cap, .slice y6.b.A y6.b.n y6.b.cap, .int .i64 ((turnsC d l5).ck), .slice y6.e.A y6.e.n y6.e.cap] 88 ∧ CrN N w (turnsC d l5) y6 ∧ l5.length ≤ 60
  | _ => True

def ldRS (j : Nat) : List Nat := [[0], [1], [2], [3], [4], [5], [6], [7]].getD j [j]
def ldRK (j : Nat) : Nat := [0, 0, 0, 0, 0, 0, 0, 1].getD j 0

set_option maxRecDepth 100000 in
set_option maxHeartbeats 2000000 in
theorem l10Draw_any (K0 k : Nat) (a0 : Option Addr) (len cap : Nat) (w : World) (hc : CodeOk K0 w a0 len) (hkk : K0 ≤ k) (hN0 : K0 ≤ w.heap.size) (hcur : CurAt w k a0 len cap) :
    Calls Try.prog 66 #[.pointer (some ⟨k, 0, none⟩)] w (DrawsC k a0 len cap w) := by
  have hkN := hcur.lt
  go_enter Try.func66, Try.ntmps66
  go_wp2_with fail
  refine calls_abs (fun W => But k w W ∧ CurAt W k a0 len cap ∧ BoxAt W w.heap.size #[.int .i64 0, .int .i64 0, .slice none 0 0, .int .i64 0, .int .i64 0, .slice none 0 0, .slice none 0 0, .slice none 0 0, .int .i64 0, .slice none 0 0] 88) ⟨(But.refl _ _).alloc _, hcur.alloc _, BoxAt.new _ _ _⟩ ?_
  clear hcur
  rintro W0 ⟨hB, hcur, hz⟩
  refine (l1Below_any K0 k a0 len cap _ _ (hc.below (hB.below hkk hN0)) hkk (Nat.le_trans hN0 hB.size) hcur (by omega)).mono ?_
  rintro e w1 ⟨x, ⟨x0, x1⟩, rfl, hb1, hcur1⟩
  replace hz := hb1.box hz (by omega)
  replace hB := hB.trans hb1
  clear hb1 hcur
  go_wp2_with fail
  refine (l1Below_any K0 k a0 len cap _ _ (hc.below (hB.below hkk hN0)) hkk (Nat.le_trans hN0 hB.size) hcur1 (by omega)).mono ?_
  rintro e w2 ⟨y, ⟨y0, y1⟩, rfl, hb1, hcur⟩
  replace hz := hb1.box hz (by omega)
  replace hB := hB.trans hb1
  clear hb1 hcur1
  go_wp2_with fail
  refine (l10DrawJobs_any K0 k a0 len cap _ (hc.below (hB.below hkk hN0)) hkk (Nat.le_trans hN0 hB.size) hcur).mono ?_
  rintro e w3 ⟨js, A, c, rfl, hj1, hj3, hjs, hL, hb1, hcur1⟩
  obtain ⟨hnew, hnok⟩ := newC0_ok (rd := 2 + x) (mo := 1 + y) (js := js) (by omega) (by omega) (by omega) hj1 hj3 hjs
  have hml : ∀ l ∈ js, l.length ≤ 1048576 := fun l hl => by
    have := hjs l hl
    simp only [jobsOk, Bool.and_eq_true, decide_eq_true_eq] at this
    omega
  replace hz := hb1.box hz (by omega)
  have hws := hB.size
  replace hB := hB.trans hb1
  clear hb1 hcur
  have HNEW := Lib.hid hnew
  have HDK0 := Lib.hid hnok
  clear hnew hnok hjs
  go_wp2_with fail
  refine (snewCrew_any (2 + x) (1 + y) js A js.length c _ _ _ hL (Nat.le_refl _) (by omega) hml).mono ?_
  rintro e w4 ⟨y1_, rfl, hC, hb1⟩
  rw [HNEW.out] at hC ⊢
  replace hcur1 := hcur1.belowC hb1
  replace hz := hz.below hb1 hz.lt
  have hws3 := hB.size
  replace hB := hB.trans (.of_below hb1)
  have lz := hz.lt
  clear hb1 hL hml
  obtain ⟨d, hd⟩ : ∃ d, d = newC0 (2 + x) (1 + y) js := ⟨_, rfl⟩
  rw [← hd] at hC ⊢
  have HHL := Lib.hid (show 1 ≤ y1_.h.n by have q : d.hs.length = y1_.h.n := hC.h.1; rw [← q, hd]; simp [newC0]; omega)
  have HDK := Lib.hid (show crOk d = true by rw [hd]; exact HDK0.out)
  have HFIT := Lib.hid ((crOk_neat HDK.out).fit)
  clear HNEW HDK0 hd
  unfold crV
  dsimp only
  go_upto_region 2 with fail
  refine wp_abs (fun W => But k w W ∧ CurAt W k a0 len cap ∧ BoxAt W w.heap.size #[.int .i64 0, .int .i64 0, .slice none 0 0, .int .i64 0, .int .i64 0, .slice none 0 0, .slice none 0 0, .slice none 0 0, .int .i64 0, .slice none 0 0] 88 ∧ BoxAt W w4.heap.size #[.int .i64 d.st.rd, .int .i64 d.st.mo, .slice y1_.s.A y1_.s.n y1_.s.cap, .int .i64 d.st.fi, .int .i64 d.st.la, .slice y1_.h.A y1_.h.n y1_.h.cap, .slice y1_.j.A y1_.j.n y1_.j.cap, .slice y1_.b.A y1_.b.n y1_.b.cap, .int .i64 d.ck, .slice y1_.e.A y1_.e.n y1_.e.cap] 88 ∧ CrN w.heap.size W d y1_ ∧ w4.heap.size < W.heap.size) ⟨hB.alloc _, hcur1.alloc _, hz.alloc _, BoxAt.new _ _ _, CrN.belowN (CrW.mono hC (by omega) (Nat.le_refl _)) ((Below.refl _ _).alloc (Nat.le_refl _) _), by simp⟩ ?_
  clear hB hcur1 hz hC
  rintro W5 ⟨hB, hcur, hz, hx, hC, hM⟩
  generalize w4.heap.size = X at *
  refine wp_region2 (fun w w' => But k w w') (fun _ _ h => h.size) (fun L W' => But k w W' ∧ CurAt W' k a0 len cap ∧ BoxAt W' X #[.int .i64 d.st.rd, .int .i64 d.st.mo, .slice y1_.s.A y1_.s.n y1_.s.cap, .int .i64 d.st.fi, .int .i64 d.st.la, .slice y1_.h.A y1_.h.n y1_.h.cap, .slice y1_.j.A y1_.j.n y1_.j.cap, .slice y1_.b.A y1_.b.n y1_.b.cap, .int .i64 d.ck, .slice y1_.e.A y1_.e.n y1_.e.cap] 88 ∧ CrN w.heap.size W' d y1_ ∧ X < W'.heap.size ∧ (∃ x0 x1 x2 x3 x4 x5 x6 x7 x8 x9, BoxAt W' w.heap.size #[x0, x1, x2, x3, x4, x5, x6, x7, x8, x9] 88) ∧ (L 7 = false → BoxAt W' w.heap.size #[.int .i64 0, .int .i64 0, .slice none 0 0, .int .i64 0, .int .i64 0, .slice none 0 0, .slice none 0 0, .slice none 0 0, .int .i64 0, .slice none 0 0] 88)) (ldRR d y1_ w.heap.size X k) ldRK ldRS (by kernel_rfl) (by kernel_rfl) ?_ ?_ ?_
    (.grow rfl ?_ <| .grow rfl ?_ <| .grow rfl ?_ <| .grow rfl ?_ <| .grow rfl ?_ <| .grow rfl ?_ <| .grow rfl ?_ <| .store rfl ?_ <| .nil) ?_
  · intro j σ τ w h hR
    match j, h, hR with
    | 0, h, hR => exact (h 0 (List.mem_singleton.2 rfl)).symm.trans hR
    | 1, h, hR => exact (h 1 (List.mem_singleton.2 rfl)).symm.trans hR
    | 2, h, hR => exact (h 2 (List.mem_singleton.2 rfl)).symm.trans hR
    | 3, h, hR => exact (h 3 (List.mem_singleton.2 rfl)).symm.trans hR
    | 4, h, hR => exact (h 4 (List.mem_singleton.2 rfl)).symm.trans hR
    | 5, h, hR => obtain ⟨l5, A5, c5, e, hp⟩ := hR; exact ⟨l5, A5, c5, (h 5 (List.mem_singleton.2 rfl)).symm.trans e, hp⟩
    | 6, h, hR => obtain ⟨l5, y6, e, hp⟩ := hR; exact ⟨l5, y6, (h 6 (List.mem_singleton.2 rfl)).symm.trans e, hp⟩
    | 7, _, hR => exact hR
    | _ + 8, _, _ => exact trivial
  · intro j σ w w' hb hR
    match j, hR with
    | 0, hR => exact hR
    | 1, hR => exact hR
    | 2, hR => exact hR
    | 3, hR => exact hR
    | 4, hR => exact hR
    | 5, hR => obtain ⟨l5, A5, c5, e, hp⟩ := hR; exact ⟨l5, A5, c5, e, ⟨hp.1.butN hb hkN, hp.2⟩⟩
    | 6, hR => obtain ⟨l5, y6, e, hp⟩ := hR; exact ⟨l5, y6, e, ⟨hp.1.butN hb hkN, hp.2⟩⟩
    | 7, hR => obtain ⟨l5, y6, hx, hp⟩ := hR; exact ⟨l5, y6, hb.box hx (by omega), ⟨hp.1.butN hb hkN, hp.2⟩⟩
    | _ + 8, _ => exact trivial
  · exact ⟨hB.drew, hcur, hx, hC.drew, hM, ⟨_, _, _, _, _, _, _, _, _, _, hz⟩, fun _ => hz⟩
  · -- 0: Op.load 88 t3
    go_light
    intro L σ W' hcl hL hC hw
    clear hw
    have HC := Lib.hid hC
    obtain ⟨hB, hcur, hx, hC, hM, ⟨hz_x0, hz_x1, hz_x2, hz_x3, hz_x4, hz_x5, hz_x6, hz_x7, hz_x8, hz_x9, hz⟩, hz_o⟩ := hC
    have kx := hx.cell
    clear hcl hL
    clear hB hcur hx hC hM hz hz_o
    refine OpGoes.step fun K hK => ?_
    unfold OpGoes
    go_simp
    obtain ⟨hB, hcur, hx, hC, hM, ⟨hz_x0, hz_x1, hz_x2, hz_x3, hz_x4, hz_x5, hz_x6, hz_x7, hz_x8, hz_x9, hz⟩, hz_o⟩ := HC.out
    exact hK _ _ ⟨⟨hB, hcur, hx, hC, hM, ⟨_, _, _, _, _, _, _, _, _, _, hz⟩, fun h => hz_o (by simpa [upd] using h)⟩, rfl, But.refl _ _⟩
  · -- 1: Op.move t0
    go_light
    intro L σ W' hcl hL hC hw
    clear hw
    have HC := Lib.hid hC
    clear hC
    clear hcl hL
    refine OpGoes.step fun K hK => ?_
    unfold OpGoes
    go_simp
    obtain ⟨hB, hcur, hx, hC, hM, ⟨hz_x0, hz_x1, hz_x2, hz_x3, hz_x4, hz_x5, hz_x6, hz_x7, hz_x8, hz_x9, hz⟩, hz_o⟩ := HC.out
    exact hK _ _ ⟨⟨hB, hcur, hx, hC, hM, ⟨_, _, _, _, _, _, _, _, _, _, hz⟩, fun h => hz_o (by simpa [upd] using h)⟩, rfl, But.refl _ _⟩
  · -- 2: Op.fieldAddr 88 t3 1
    go_light
    intro L σ W' hcl hL hC hw
    clear hw
    have HC := Lib.hid hC
    clear hC
    clear hcl hL
    refine OpGoes.step fun K hK => ?_
    unfold OpGoes
    go_simp
    obtain ⟨hB, hcur, hx, hC, hM, ⟨hz_x0, hz_x1, hz_x2, hz_x3, hz_x4, hz_x5, hz_x6, hz_x7, hz_x8, hz_x9, hz⟩, hz_o⟩ := HC.out
    exact hK _ _ ⟨⟨hB, hcur, hx, hC, hM, ⟨_, _, _, _, _, _, _, _, _, _, hz⟩, fun h => hz_o (by simpa [upd] using h)⟩, rfl, But.refl _ _⟩
  · -- 3: Op.load 84 t19
    go_light
    intro L σ W' hcl hL hC hw
    have e2 : σ 2 = .pointer (some ⟨X, 5, none⟩) := hw 2 (by kernel_rfl)
    clear hw
    have HC := Lib.hid hC
    obtain ⟨hB, hcur, hx, hC, hM, ⟨hz_x0, hz_x1, hz_x2, hz_x3, hz_x4, hz_x5, hz_x6, hz_x7, hz_x8, hz_x9, hz⟩, hz_o⟩ := hC
    have kx := hx.cell
    clear hcl hL
    clear hB hcur hx hC hM hz hz_o
    refine OpGoes.step fun K hK => ?_
    unfold OpGoes
    go_simp
    obtain ⟨hB, hcur, hx, hC, hM, ⟨hz_x0, hz_x1, hz_x2, hz_x3, hz_x4, hz_x5, hz_x6, hz_x7, hz_x8, hz_x9, hz⟩, hz_o⟩ := HC.out
    exact hK _ _ ⟨⟨hB, hcur, hx, hC, hM, ⟨_, _, _, _, _, _, _, _, _, _, hz⟩, fun h => hz_o (by simpa [upd] using h)⟩, rfl, But.refl _ _⟩
  · -- 4: Op.call { builtin len, args := #[t20], argTypes := #[84] }
    go_light
    intro L σ W' hcl hL hC hw
    have e3 : σ 3 = .slice y1_.h.A y1_.h.n y1_.h.cap := hw 3 (by kernel_rfl)
    clear hw
    have HC := Lib.hid hC
    clear hC
    clear hcl hL
    refine OpGoes.step fun K hK => ?_
    unfold OpGoes
    go_simp
    obtain ⟨hB, hcur, hx, hC, hM, ⟨hz_x0, hz_x1, hz_x2, hz_x3, hz_x4, hz_x5, hz_x6, hz_x7, hz_x8, hz_x9, hz⟩, hz_o⟩ := HC.out
    exact hK _ _ ⟨⟨hB, hcur, hx, hC, hM, ⟨_, _, _, _, _, _, _, _, _, _, hz⟩, fun h => hz_o (by simpa [upd] using h)⟩, rfl, But.refl _ _⟩
  · -- 5: Op.call { value (Operand.func 72), args := #[t18, t21, const (60:i64)], argTypes := #[50, 2, 2] }
    go_light
    intro L σ W' hcl hL hC hw
    have e1 : σ 1 = .pointer (some ⟨k, 0, none⟩) := hw 1 (by kernel_rfl)
    have e4 : σ 4 = .int .i64 ((y1_.h.n : Int)) := hw 4 (by kernel_rfl)
    clear hw
    have HC := Lib.hid hC
    clear hC
    clear hcl hL
    refine OpGoes.step fun K hK => ?_
    unfold OpGoes
    go_simp
    obtain ⟨hB, hcur, hx, hC, hM, ⟨hz_x0, hz_x1, hz_x2, hz_x3, hz_x4, hz_x5, hz_x6, hz_x7, hz_x8, hz_x9, hz⟩, hz_o⟩ := HC.out
    refine (l10DrawTurns_any K0 k a0 len cap _ 60 _ (hc.below (hB.below hkk hN0)) hkk (Nat.le_trans hN0 hB.size) hcur (by have := HHL.out; omega) (by omega) (by omega)).mono ?_
    rintro e w1 ⟨l5, A5, c5, rfl, hl5, hI5, hb1, hcur1⟩
    exact ⟨_, rfl, hK _ _ ⟨⟨hB.trans hb1, hcur1, hb1.box hx (by omega), hC.butN hb1 hkN, Nat.lt_of_lt_of_le hM hb1.size, ⟨_, _, _, _, _, _, _, _, _, _, hb1.box hz (by omega)⟩, fun h => hb1.box (hz_o (by simpa [upd] using h)) (by omega)⟩, ⟨l5, A5, c5, rfl, SlW.mono hI5 (by omega) (Nat.le_refl _), hl5⟩, hb1⟩⟩
  · -- 6: Op.call { value (Operand.func 71), args := #[t17, t22], argTypes := #[88, 59] }
    go_light
    intro L σ W' hcl hL hC hw
    have e0 : σ 0 = .agg #[.int .i64 d.st.rd, .int .i64 d.st.mo, .slice y1_.s.A y1_.s.n y1_.s.cap, .int .i64 d.st.fi, .int .i64 d.st.la, .slice y1_.h.A y1_.h.n y1_.h.cap, .slice y1_.j.A y1_.j.n y1_.j.cap, .slice y1_.b.A y1_.b.n y1_.b.cap, .int .i64 d.ck, .slice y1_.e.A y1_.e.n y1_.e.cap] := hw 0 (by kernel_rfl)
    obtain ⟨l5, A5, c5, e5, hp5⟩ : ∃ (l5 : List Int) (A5 : Option Addr) (c5 : Nat), σ 5 = .slice A5 l5.length c5 ∧ IntN w.heap.size W' A5 l5.length c5 l5 ∧ l5.length ≤ 60 := hw 5 (by kernel_rfl)
    clear hw
    have HC := Lib.hid hC
    clear hC
    clear hcl hL
    refine OpGoes.step fun K hK => ?_
    unfold OpGoes
    go_simp
    obtain ⟨hB, hcur, hx, hC, hM, ⟨hz_x0, hz_x1, hz_x2, hz_x3, hz_x4, hz_x5, hz_x6, hz_x7, hz_x8, hz_x9, hz⟩, hz_o⟩ := HC.out
    refine (turnsB k d y1_ w.heap.size _ l5 A5 l5.length c5 w.heap.size _ _ hC (Nat.le_refl _) HFIT.out hp5.1 (Nat.le_refl _) (by have := hp5.2; omega)).mono ?_
    rintro e w1 ⟨y6, rfl, hC6, hbel, hb1⟩
    exact ⟨_, rfl, hK _ _ ⟨⟨hB.trans hb1, hcur.belowC hbel, hb1.box hx (by omega), hC.butN hb1 hkN, Nat.lt_of_lt_of_le hM hb1.size, ⟨_, _, _, _, _, _, _, _, _, _, hz.below hbel hz.lt⟩, fun h => (hz_o (by simpa [upd] using h)).below hbel (hz_o (by simpa [upd] using h)).lt⟩, ⟨l5, y6, rfl, CrW.mono hC6 (by omega) (Nat.le_refl _), hp5.2⟩, hb1⟩⟩
  · -- 7: Op.store 88 t2 t23
    go_light
    intro L σ W' hcl hL hC hw hne
    obtain ⟨l5, y6, e6, hp6⟩ : ∃ (l5 : List Int) (y6 : CrL), σ 6 = .agg #[.int .i64 ((turnsC d l5).st.rd), .int .i64 ((turnsC d l5).st.mo), .slice y6.s.A y6.s.n y6.s.cap, .int .i64 ((turnsC d l5).st.fi), .int .i64 ((turnsC d l5).st.la), .slice y6.h.A y6.h.n y6.h.cap, .slice y6.j.A y6.j.n y6.j.cap, .slice y6.b.A y6.b.n y6.b.cap, .int .i64 ((turnsC d l5).ck), .slice y6.e.A y6.e.n y6.e.cap] ∧ CrN w.heap.size W' (turnsC d l5) y6 ∧ l5.length ≤ 60 := hw 6 (by kernel_rfl)
    clear hw hne
    have HC := Lib.hid hC
    obtain ⟨hB, hcur, hx, hC, hM, ⟨hz_x0, hz_x1, hz_x2, hz_x3, hz_x4, hz_x5, hz_x6, hz_x7, hz_x8, hz_x9, hz⟩, hz_o⟩ := hC
    clear hcl hL
    have kc_ := hz.cell
    have kf_ := hz.frozen
    clear hB hcur hx hC hM hz hz_o
    refine OpGoes.step fun K hK => ?_
    unfold OpGoes
    go_simp
    obtain ⟨hB, hcur, hx, hC, hM, ⟨hz_x0, hz_x1, hz_x2, hz_x3, hz_x4, hz_x5, hz_x6, hz_x7, hz_x8, hz_x9, hz⟩, hz_o⟩ := HC.out
    have hset := sets_all (us := [.int .i64 ((turnsC d l5).st.rd), .int .i64 ((turnsC d l5).st.mo), .slice y6.s.A y6.s.n y6.s.cap, .int .i64 ((turnsC d l5).st.fi), .int .i64 ((turnsC d l5).st.la), .slice y6.h.A y6.h.n y6.h.cap, .slice y6.j.A y6.j.n y6.j.cap, .slice y6.b.A y6.b.n y6.b.cap, .int .i64 ((turnsC d l5).ck), .slice y6.e.A y6.e.n y6.e.cap]) hz rfl
    refine hK undef (setCells W' w.heap.size 0 [.int .i64 ((turnsC d l5).st.rd), .int .i64 ((turnsC d l5).st.mo), .slice y6.s.A y6.s.n y6.s.cap, .int .i64 ((turnsC d l5).st.fi), .int .i64 ((turnsC d l5).st.la), .slice y6.h.A y6.h.n y6.h.cap, .slice y6.j.A y6.j.n y6.j.cap, .slice y6.b.A y6.b.n y6.b.cap, .int .i64 ((turnsC d l5).ck), .slice y6.e.A y6.e.n y6.e.cap]) ⟨⟨(But.setsNew hB (by omega) [.int .i64 ((turnsC d l5).st.rd), .int .i64 ((turnsC d l5).st.mo), .slice y6.s.A y6.s.n y6.s.cap, .int .i64 ((turnsC d l5).st.fi), .int .i64 ((turnsC d l5).st.la), .slice y6.h.A y6.h.n y6.h.cap, .slice y6.j.A y6.j.n y6.j.cap, .slice y6.b.A y6.b.n y6.b.cap, .int .i64 ((turnsC d l5).ck), .slice y6.e.A y6.e.n y6.e.cap] 0), (CurAt.sets hcur (by omega) [.int .i64 ((turnsC d l5).st.rd), .int .i64 ((turnsC d l5).st.mo), .slice y6.s.A y6.s.n y6.s.cap, .int .i64 ((turnsC d l5).st.fi), .int .i64 ((turnsC d l5).st.la), .slice y6.h.A y6.h.n y6.h.cap, .slice y6.j.A y6.j.n y6.j.cap, .slice y6.b.A y6.b.n y6.b.cap, .int .i64 ((turnsC d l5).ck), .slice y6.e.A y6.e.n y6.e.cap] 0), (BoxAt.sets_ne [.int .i64 ((turnsC d l5).st.rd), .int .i64 ((turnsC d l5).st.mo), .slice y6.s.A y6.s.n y6.s.cap, .int .i64 ((turnsC d l5).st.fi), .int .i64 ((turnsC d l5).st.la), .slice y6.h.A y6.h.n y6.h.cap, .slice y6.j.A y6.j.n y6.j.cap, .slice y6.b.A y6.b.n y6.b.cap, .int .i64 ((turnsC d l5).ck), .slice y6.e.A y6.e.n y6.e.cap] 0 hx (by omega)), (CrN.setsC hC hz [.int .i64 ((turnsC d l5).st.rd), .int .i64 ((turnsC d l5).st.mo), .slice y6.s.A y6.s.n y6.s.cap, .int .i64 ((turnsC d l5).st.fi), .int .i64 ((turnsC d l5).st.la), .slice y6.h.A y6.h.n y6.h.cap, .slice y6.j.A y6.j.n y6.j.cap, .slice y6.b.A y6.b.n y6.b.cap, .int .i64 ((turnsC d l5).ck), .slice y6.e.A y6.e.n y6.e.cap] 0), (size_sts hM [.int .i64 ((turnsC d l5).st.rd), .int .i64 ((turnsC d l5).st.mo), .slice y6.s.A y6.s.n y6.s.cap, .int .i64 ((turnsC d l5).st.fi), .int .i64 ((turnsC d l5).st.la), .slice y6.h.A y6.h.n y6.h.cap, .slice y6.j.A y6.j.n y6.j.cap, .slice y6.b.A y6.b.n y6.b.cap, .int .i64 ((turnsC d l5).ck), .slice y6.e.A y6.e.n y6.e.cap] 0), ⟨_, _, _, _, _, _, _, _, _, _, hset⟩, fun h => absurd h (by simp [upd])⟩, ⟨l5, y6, hset, ⟨CrN.setsC hp6.1 hz [.int .i64 ((turnsC d l5).st.rd), .int .i64 ((turnsC d l5).st.mo), .slice y6.s.A y6.s.n y6.s.cap, .int .i64 ((turnsC d l5).st.fi), .int .i64 ((turnsC d l5).st.la), .slice y6.h.A y6.h.n y6.h.cap, .slice y6.j.A y6.j.n y6.j.cap, .slice y6.b.A y6.b.n y6.b.cap, .int .i64 ((turnsC d l5).ck), .slice y6.e.A y6.e.n y6.e.cap] 0, hp6.2⟩⟩, Nat.le_of_eq (sets_size _ _ _).symm, fun j hj hn hR => ?_⟩
    match j, hj, hn, hR with
    | 0, _, _, hR => exact (show σ 0 = .agg #[.int .i64 d.st.rd, .int .i64 d.st.mo, .slice y1_.s.A y1_.s.n y1_.s.cap, .int .i64 d.st.fi, .int .i64 d.st.la, .slice y1_.h.A y1_.h.n y1_.h.cap, .slice y1_.j.A y1_.j.n y1_.j.cap, .slice y1_.b.A y1_.b.n y1_.b.cap, .int .i64 d.ck, .slice y1_.e.A y1_.e.n y1_.e.cap] from hR)
    | 1, _, _, hR => exact (show σ 1 = .pointer (some ⟨k, 0, none⟩) from hR)
    | 2, _, _, hR => exact (show σ 2 = .pointer (some ⟨X, 5, none⟩) from hR)
    | 3, _, _, hR => exact (show σ 3 = .slice y1_.h.A y1_.h.n y1_.h.cap from hR)
    | 4, _, _, hR => exact (show σ 4 = .int .i64 ((y1_.h.n : Int)) from hR)
    | 5, _, _, hR => obtain ⟨l5_x, A5_x, c5_x, e, hp⟩ := hR; exact ⟨l5_x, A5_x, c5_x, e, ⟨IntN.setsC hp.1 hz [.int .i64 ((turnsC d l5).st.rd), .int .i64 ((turnsC d l5).st.mo), .slice y6.s.A y6.s.n y6.s.cap, .int .i64 ((turnsC d l5).st.fi), .int .i64 ((turnsC d l5).st.la), .slice y6.h.A y6.h.n y6.h.cap, .slice y6.j.A y6.j.n y6.j.cap, .slice y6.b.A y6.b.n y6.b.cap, .int .i64 ((turnsC d l5).ck), .slice y6.e.A y6.e.n y6.e.cap] 0, hp.2⟩⟩
    | 6, _, _, hR => obtain ⟨l5_x, y6_x, e, hp⟩ := hR; exact ⟨l5_x, y6_x, e, ⟨CrN.setsC hp.1 hz [.int .i64 ((turnsC d l5).st.rd), .int .i64 ((turnsC d l5).st.mo), .slice y6.s.A y6.s.n y6.s.cap, .int .i64 ((turnsC d l5).st.fi), .int .i64 ((turnsC d l5).st.la), .slice y6.h.A y6.h.n y6.h.cap, .slice y6.j.A y6.j.n y6.j.cap, .slice y6.b.A y6.b.n y6.b.cap, .int .i64 ((turnsC d l5).ck), .slice y6.e.A y6.e.n y6.e.cap] 0, hp.2⟩⟩
    | 7, hj, _, _ => exact absurd rfl hj
    | _ + 8, _, _, _ => exact trivial
  · intro σ L W' hall hC hR
    obtain ⟨hB, hcur, hx, hC, hM, ⟨hz_x0, hz_x1, hz_x2, hz_x3, hz_x4, hz_x5, hz_x6, hz_x7, hz_x8, hz_x9, hz⟩, hz_o⟩ := hC
    obtain ⟨l5, y6, s7, hp7⟩ : ∃ (l5 : List Int) (y6 : CrL), BoxAt W' w.heap.size #[.int .i64 ((turnsC d l5).st.rd), .int .i64 ((turnsC d l5).st.mo), .slice y6.s.A y6.s.n y6.s.cap, .int .i64 ((turnsC d l5).st.fi), .int .i64 ((turnsC d l5).st.la), .slice y6.h.A y6.h.n y6.h.cap, .slice y6.j.A y6.j.n y6.j.cap, .slice y6.b.A y6.b.n y6.b.cap, .int .i64 ((turnsC d l5).ck), .slice y6.e.A y6.e.n y6.e.cap] 88 ∧ CrN w.heap.size W' (turnsC d l5) y6 ∧ l5.length ≤ 60 := hR 7 (by decide)
    clear hR
    simp only [lexAll]
    go_simp
    go_step
    have kz := s7.cell
    go_wp2
    refine bodyPost_ret (v := crV (turnsC d l5) y6) (by simp [results, Try.results66, go_sem, kz, crV]) rfl ⟨turnsC d l5, y6, rfl, ?_, hp7.1, hB, hcur⟩
    unfold turnsC
    rw [HDK.out, decide_eq_true (by have := hp7.2; omega)]
    exact turnsS_ok HDK.out l5
end Go.Proofs.Ytbdgkmamieagfaa

/-
  The walk of turns, of the model.
-/
import Derived.Test.YtbdgkmamieagfaaCrewF
namespace Go.Proofs.Ytbdgkmamieagfaa
set_option linter.unusedSimpArgs false
set_option linter.unusedVariables false
open Go.RowKit
set_option linter.unusedVariables false
attribute [local go_sem] OpUpon
attribute [local go_sem ↓] Go.wp_at_zero Go.wp_at_succ

def turnsS (c : Cr) (l : List Int) : Cr := l.foldl (fun c z => (turnS c z).1) c
def turnsC (c : Cr) (l : List Int) : Cr := if crOk c && decide (l.length ≤ 400) then turnsS c l else .zero
theorem turnsS_ok {c : Cr} (h : crOk c = true) (l : List Int) : crOk (turnsS c l) = true := by
  unfold turnsS
  induction l generalizing c with
  | nil => exact h
  | cons z l ih => exact ih (turnS_ok h z)
theorem turnsS_take {c : Cr} {l : List Int} {i : Nat} {z : Int} (h : l[i]? = some z) : (turnS (turnsS c (l.take i)) z).1 = turnsS c (l.take (i + 1)) := by
  unfold turnsS
  rw [List.take_add_one, h, List.foldl_append]
  rfl
/-- A crew's lists, anywhere from lo on. -/
def CrN (lo : Nat) (w : World) (c : Cr) (y : CrL) : Prop := CrW lo w.heap.size w c y
theorem CrN.belowN {lo : Nat} {w w' : World} {c : Cr} {y : CrL} (h : CrN lo w c y) (hb : Below w.heap.size w w') : CrN lo w' c y := CrW.mono (CrW.below h hb (Nat.le_refl _)) (Nat.le_refl _) hb.size
theorem CrN.setsC {lo : Nat} {w : World} {c : Cr} {y : CrL} (h : CrN lo w c y) {b : Nat} {cs : Array Value} (hk : BoxAt w b cs 88) (us : List Value) (o : Nat) : CrN lo (setCells w b o us) c y :=
  CrW.mono (CrW.setsC h hk us o) (Nat.le_refl _) (Nat.le_of_eq (sets_size us o w).symm)
theorem CrN.drew {lo : Nat} {w : World} {c : Cr} {y : CrL} (h : CrN lo w c y) : CrN lo w.drew c y := CrW.drew h

def tsRR (c d : Cr) (y y1 : CrL) (N O b n cap i : Nat) (z : Int) (j : Nat) (σ : Nat → Value) (w : World) : Prop :=
  match j with
  | 0 => σ 0 = .agg #[.int .i64 d.st.rd, .int .i64 d.st.mo, .slice y1.s.A y1.s.n y1.s.cap, .int .i64 d.st.fi, .int .i64 d.st.la, .slice y1.h.A y1.h.n y1.h.cap, .slice y1.j.A y1.j.n y1.j.cap, .slice y1.b.A y1.b.n y1.b.cap, .int .i64 d.ck, .slice y1.e.A y1.e.n y1.e.cap]
  | 1 => σ 1 = .slice (some ⟨b, 0, none⟩) n cap
  | 2 => σ 2 = .int .i64 ((i : Int))
  | 3 => σ 3 = .pointer (some ⟨b, i, none⟩)
  | 4 => σ 4 = .int .i64 z
  | 5 => ∃ (y2 : CrL), σ 5 = .tuple #[.agg #[.int .i64 ((turnS d z).1.st.rd), .int .i64 ((turnS d z).1.st.mo), .slice y2.s.A y2.s.n y2.s.cap, .int .i64 ((turnS d z).1.st.fi), .int .i64 ((turnS d z).1.st.la), .slice y2.h.A y2.h.n y2.h.cap, .slice y2.j.A y2.j.n y2.j.cap, .slice y2.b.A y2.b.n y2.b.cap, .int .i64 ((turnS d z).1.ck), .slice y2.e.A y2.e.n y2.e.cap], .bool ((turnS d z).2)] ∧ CrN (N + 2) w (turnS d z).1 y2
  | 6 => ∃ (y2 : CrL), σ 6 = .tuple #[.agg #[.int .i64 ((turnS d z).1.st.rd), .int .i64 ((turnS d z).1.st.mo), .slice y2.s.A y2.s.n y2.s.cap, .int .i64 ((turnS d z).1.st.fi), .int .i64 ((turnS d z).1.st.la), .slice y2.h.A y2.h.n y2.h.cap, .slice y2.j.A y2.j.n y2.j.cap, .slice y2.b.A y2.b.n y2.b.cap, .int .i64 ((turnS d z).1.ck), .slice y2.e.A y2.e.n y2.e.cap], .bool ((turnS d z).2)] ∧ CrN (N + 2) w (turnS d z).1 y2
  | 7 => ∃ (y2 : CrL), σ 7 = .agg #[.int .i64 ((turnS d z).1.st.rd), .int .i64 ((turnS d z).1.st.mo), .slice y2.s.A y2.s.n y2.s.cap, .int .i64 ((turnS d z).1.st.fi), .int .i64 ((turnS d z).1.st.la), .slice y2.h.A y2.h.n y2.h.cap, .slice y2.j.A y2.j.n y2.j.cap, .slice y2.b.A y2.b.n y2.b.cap, .int .i64 ((turnS d z).1.ck), .slice y2.e.A y2.e.n y2.e.cap] ∧ CrN (N + 2) w (turnS d z).1 y2
  | 8 => σ 8 = .bool ((turnS d z).2)
  | 9 => ∃ (y2 : CrL), BoxAt w O #[.int .i64 ((turnS d z).1.st.rd), .int .i64 ((turnS d z).1.st.mo), .slice y2.s.A y2.s.n y2.s.cap, .int .i64 ((turnS d z).1.st.fi), .int .i64 ((turnS d z).1.st.la), .slice y2.h.A y2.h.n y2.h.cap, .slice y2.j.A y2.j.n y2.j.cap, .slice y2.b.A y2.b.n y2.b.cap, .int .i64 ((turnS d z).1.ck), .slice y2.e.A y2.e.n y2.e.cap] 88 ∧ CrN (N + 2) w (turnS d z).1 y2
  | _ => True

def tsRS (j : Nat) : List Nat := [[0], [1], [2], [3], [4], [5], [6], [7], [8], [9]].getD j [j]
def tsRK (j : Nat) : Nat := [0, 0, 0, 0, 0, 0, 0, 0, 0, 1].getD j 0

set_option maxRecDepth 100000 in
set_option maxHeartbeats 4000000 in
theorem sturns_any (c : Cr) (y : CrL) (lo hi : Nat) (l : List Int) (A : Option Addr) (n cap lo2 hi2 : Nat) (w : World) (hW0 : CrW lo hi w c y) (hh : hi ≤ w.heap.size) (hf : CrFit c) (hl : IntsW lo2 hi2 w A n cap l) (hh2 : hi2 ≤ w.heap.size) (hn : n ≤ 1048576) :
    Calls Try.prog 71 #[crV c y, .slice A n cap] w (RetCr (turnsC c l) w) := by
  have HF := Lib.hid hf; clear hf
  have HLL := Lib.hid hl.1
  unfold crV
  go_enter Try.func71, Try.ntmps71
  go_wp2_with fail
  refine calls_abs (fun W => Below w.heap.size w W ∧ BoxAt W w.heap.size #[.int .i64 c.st.rd, .int .i64 c.st.mo, .slice y.s.A y.s.n y.s.cap, .int .i64 c.st.fi, .int .i64 c.st.la, .slice y.h.A y.h.n y.h.cap, .slice y.j.A y.j.n y.j.cap, .slice y.b.A y.b.n y.b.cap, .int .i64 c.ck, .slice y.e.A y.e.n y.e.cap] 88 ∧ BoxAt W (w.heap.size + 1) #[.int .i64 0, .int .i64 0, .slice none 0 0, .int .i64 0, .int .i64 0, .slice none 0 0, .slice none 0 0, .slice none 0 0, .int .i64 0, .slice none 0 0] 88) ⟨((Below.refl _ _).alloc (Nat.le_refl _) _).alloc (by simp) _, (BoxAt.new _ _ _).alloc _, BoxAt.new' (by simp)⟩ ?_
  rintro W0 ⟨hB, hx, hz⟩
  refine (screwOk_any c y lo hi _ (hW0.below hB hh) (Nat.le_trans hh hB.size) HF.out).mono ?_
  rintro e w1 ⟨rfl, hb1⟩
  replace hx := hx.below hb1 hx.lt
  replace hz := hz.below hb1 hz.lt
  replace hB := bstep hB hB.size hb1
  clear hb1
  have kx := hx.cell
  have kz := hz.cell
  have fz := hz.frozen
  cases hok : crOk c
  · have HV := Lib.hid (show turnsC c l = .zero by unfold turnsC; rw [hok]; rfl)
    go_wp2
    refine bodyPost_ret (v := crV .zero ⟨⟨none, 0, 0⟩, ⟨none, 0, 0⟩, ⟨none, 0, 0⟩, ⟨none, 0, 0⟩, ⟨none, 0, 0⟩⟩) (by simp [results, Try.results71, go_sem, kz, crV, Cr.zero, St.zero]) rfl ⟨⟨⟨none, 0, 0⟩, ⟨none, 0, 0⟩, ⟨none, 0, 0⟩, ⟨none, 0, 0⟩, ⟨none, 0, 0⟩⟩, by rw [HV.out], ?_, ?_⟩
    · rw [HV.out]
      exact ⟨RgsW.nil, SlW.nil, ListsW.nil, SlW.nil, SlW.nil⟩
    · exact Below.setCells (by omega) (crCs .zero ⟨⟨none, 0, 0⟩, ⟨none, 0, 0⟩, ⟨none, 0, 0⟩, ⟨none, 0, 0⟩, ⟨none, 0, 0⟩⟩) 0 hB
  by_cases h4 : n ≤ 400
  case neg =>
    have HV := Lib.hid (show turnsC c l = .zero by unfold turnsC; rw [HLL.out, decide_eq_false h4, Bool.and_false]; rfl)
    have h4' : (400 : Int) < (n : Int) := by omega
    have h4b : decide ((400 : Int) < (n : Int)) = true := decide_eq_true h4'
    go_wp2
    refine bodyPost_ret (v := crV .zero ⟨⟨none, 0, 0⟩, ⟨none, 0, 0⟩, ⟨none, 0, 0⟩, ⟨none, 0, 0⟩, ⟨none, 0, 0⟩⟩) (by simp [results, Try.results71, go_sem, kz, crV, Cr.zero, St.zero]) rfl ⟨⟨⟨none, 0, 0⟩, ⟨none, 0, 0⟩, ⟨none, 0, 0⟩, ⟨none, 0, 0⟩, ⟨none, 0, 0⟩⟩, by rw [HV.out], ?_, ?_⟩
    · rw [HV.out]
      exact ⟨RgsW.nil, SlW.nil, ListsW.nil, SlW.nil, SlW.nil⟩
    · exact Below.setCells (by omega) (crCs .zero ⟨⟨none, 0, 0⟩, ⟨none, 0, 0⟩, ⟨none, 0, 0⟩, ⟨none, 0, 0⟩, ⟨none, 0, 0⟩⟩) 0 hB
  have HV := Lib.hid (show turnsC c l = turnsS c l by unfold turnsC; rw [hok, HLL.out, decide_eq_true h4]; rfl)
  have HOK := Lib.hid hok
  have h4' : ¬ (400 : Int) < (n : Int) := by omega
  have h4b : decide ((400 : Int) < (n : Int)) = false := decide_eq_false h4'
  go_wp2_with fail
  clear kx kz fz
  refine (l10Copy_any c y lo hi _ (hW0.below hB hh) (Nat.le_trans hh hB.size) (crOk_neat HOK.out)).mono ?_
  rintro e w2 ⟨y1, l1, u1, l2, u2, rfl, hC1, hb2⟩
  have hQ : w.heap.size + 2 ≤ w1.heap.size := by have := hz.lt; omega
  have hC : CrN (w.heap.size + 2) w2 c y1 := CrW.mono hC1.crw hQ (Nat.le_refl _)
  replace hx := hx.below hb2 hx.lt
  replace hz := hz.below hb2 hz.lt
  replace hB := bstep hB hB.size hb2
  have hQ2 := hb2.size
  clear hb2 hC1 hok
  unfold crV
  go_wp2
  generalize hOe : w2.heap.size = O at *
  go_loopw [6] (fun s6 W => ∃ (i : Nat) (d : Cr) (y1 : CrL), i ≤ n ∧ s6 = .int .i64 i ∧ Below w.heap.size w W ∧ BoxAt W w.heap.size #[.int .i64 c.st.rd, .int .i64 c.st.mo, .slice y.s.A y.s.n y.s.cap, .int .i64 c.st.fi, .int .i64 c.st.la, .slice y.h.A y.h.n y.h.cap, .slice y.j.A y.j.n y.j.cap, .slice y.b.A y.b.n y.b.cap, .int .i64 c.ck, .slice y.e.A y.e.n y.e.cap] 88 ∧ BoxAt W (w.heap.size + 1) #[.int .i64 0, .int .i64 0, .slice none 0 0, .int .i64 0, .int .i64 0, .slice none 0 0, .slice none 0 0, .slice none 0 0, .int .i64 0, .slice none 0 0] 88 ∧ BoxAt W O #[.int .i64 d.st.rd, .int .i64 d.st.mo, .slice y1.s.A y1.s.n y1.s.cap, .int .i64 d.st.fi, .int .i64 d.st.la, .slice y1.h.A y1.h.n y1.h.cap, .slice y1.j.A y1.j.n y1.j.cap, .slice y1.b.A y1.b.n y1.b.cap, .int .i64 d.ck, .slice y1.e.A y1.e.n y1.e.cap] 88 ∧ CrN (w.heap.size + 2) W d y1 ∧ crOk d = true ∧ d = turnsS c (l.take i)) (fun s6 _ => n - (intOf s6).toNat)
  case atStart =>
    refine ⟨0, c, y1, Nat.zero_le _, rfl, hB.alloc (by omega) _, hx.alloc _, hz.alloc _, BoxAt.new' hOe.symm, hC.belowN ((Below.refl _ _).alloc (Nat.le_refl _) _), HOK.out, by simp [turnsS]⟩
  case round =>
    clear hB hx hz hC
    obtain ⟨i, d, y1, hin, rfl, hB, hx, hz, ho, hC, hdk, hde⟩ := hrel
    have HDK := Lib.hid hdk
    have HDE := Lib.hid hde
    clear hdk hde
    have hO1 := ho.lt
    have hM : w.heap.size + 2 ≤ wr.heap.size := by have := hB.size; omega
    by_cases hlt : i < n
    · obtain ⟨b, z, A', hbl, hbh, hli, hlc0⟩ := SlW.at_ (SlW.below hl hB hh2) ic_len hlt
      subst A'
      have HLI := Lib.hid hli; clear hli
      have hlc : CellsAt wr b i [.int .i64 z] := fun j u hu => by
        have := hlc0 j u hu
        rwa [Nat.mul_one] at this
      clear hlc0
      have g1 : (i : Int) < (n : Int) := by omega
      have g2 : (0 : Int) ≤ (i : Int) := by omega
      have hbw : b < w.heap.size := by omega
      go_upto_region 7 with fail
      refine wp_region2 (fun w w' => Below w.heap.size w w') (fun _ _ h => h.size) (fun L W' => Below w.heap.size w W' ∧ BoxAt W' w.heap.size #[.int .i64 c.st.rd, .int .i64 c.st.mo, .slice y.s.A y.s.n y.s.cap, .int .i64 c.st.fi, .int .i64 c.st.la, .slice y.h.A y.h.n y.h.cap, .slice y.j.A y.j.n y.j.cap, .slice y.b.A y.b.n y.b.cap, .int .i64 c.ck, .slice y.e.A y.e.n y.e.cap] 88 ∧ BoxAt W' (w.heap.size + 1) #[.int .i64 0, .int .i64 0, .slice none 0 0, .int .i64 0, .int .i64 0, .slice none 0 0, .slice none 0 0, .slice none 0 0, .int .i64 0, .slice none 0 0] 88 ∧ CrN (w.heap.size + 2) W' d y1 ∧ CellsAt W' b i [.int .i64 z] ∧ w.heap.size + 2 ≤ W'.heap.size ∧ (∃ x0 x1 x2 x3 x4 x5 x6 x7 x8 x9, BoxAt W' O #[x0, x1, x2, x3, x4, x5, x6, x7, x8, x9] 88) ∧ (L 9 = false → BoxAt W' O #[.int .i64 d.st.rd, .int .i64 d.st.mo, .slice y1.s.A y1.s.n y1.s.cap, .int .i64 d.st.fi, .int .i64 d.st.la, .slice y1.h.A y1.h.n y1.h.cap, .slice y1.j.A y1.j.n y1.j.cap, .slice y1.b.A y1.b.n y1.b.cap, .int .i64 d.ck, .slice y1.e.A y1.e.n y1.e.cap] 88)) (tsRR c d y y1 w.heap.size O b n cap i z) tsRK tsRS (by kernel_rfl) (by kernel_rfl) ?_ ?_ ?_
        (.grow rfl ?_ <| .grow rfl ?_ <| .grow rfl ?_ <| .grow rfl ?_ <| .grow rfl ?_ <| .grow rfl ?_ <| .grow rfl ?_ <| .grow rfl ?_ <| .grow rfl ?_ <| .store rfl ?_ <| .nil) ?_
      · intro j σ τ w h hR
        match j, h, hR with
        | 0, h, hR => exact (h 0 (List.mem_singleton.2 rfl)).symm.trans hR
        | 1, h, hR => exact (h 1 (List.mem_singleton.2 rfl)).symm.trans hR
        | 2, h, hR => exact (h 2 (List.mem_singleton.2 rfl)).symm.trans hR
        | 3, h, hR => exact (h 3 (List.mem_singleton.2 rfl)).symm.trans hR
        | 4, h, hR => exact (h 4 (List.mem_singleton.2 rfl)).symm.trans hR
        | 5, h, hR => obtain ⟨y2, e, hp⟩ := hR; exact ⟨y2, (h 5 (List.mem_singleton.2 rfl)).symm.trans e, hp⟩
        | 6, h, hR => obtain ⟨y2, e, hp⟩ := hR; exact ⟨y2, (h 6 (List.mem_singleton.2 rfl)).symm.trans e, hp⟩
        | 7, h, hR => obtain ⟨y2, e, hp⟩ := hR; exact ⟨y2, (h 7 (List.mem_singleton.2 rfl)).symm.trans e, hp⟩
        | 8, h, hR => exact (h 8 (List.mem_singleton.2 rfl)).symm.trans hR
        | 9, _, hR => exact hR
        | _ + 10, _, _ => exact trivial
      · intro j σ w w' hb hR
        match j, hR with
        | 0, hR => exact hR
        | 1, hR => exact hR
        | 2, hR => exact hR
        | 3, hR => exact hR
        | 4, hR => exact hR
        | 5, hR => obtain ⟨y2, e, hp⟩ := hR; exact ⟨y2, e, hp.belowN hb⟩
        | 6, hR => obtain ⟨y2, e, hp⟩ := hR; exact ⟨y2, e, hp.belowN hb⟩
        | 7, hR => obtain ⟨y2, e, hp⟩ := hR; exact ⟨y2, e, hp.belowN hb⟩
        | 8, hR => exact hR
        | 9, hR => obtain ⟨y2, hx, hp⟩ := hR; exact ⟨y2, hx.below hb hx.lt, hp.belowN hb⟩
        | _ + 10, _ => exact trivial
      · exact ⟨hB.drew, hx, hz, hC.drew, hlc, hM, ⟨_, _, _, _, _, _, _, _, _, _, ho⟩, fun _ => ho⟩
      · -- 0: Op.load 88 t5
        go_light
        intro L σ W' hcl hL hC hw
        clear hw
        have HC := Lib.hid hC
        obtain ⟨hB, hx, hz, hC, hlc, hM, ⟨ho_x0, ho_x1, ho_x2, ho_x3, ho_x4, ho_x5, ho_x6, ho_x7, ho_x8, ho_x9, ho⟩, ho_o⟩ := hC
        have ko := (ho_o (hcl.not (j := 9) (k := 7) (by kernel_rfl) (hcl.not (j := 7) (k := 6) (by kernel_rfl) (hcl.not (j := 6) (k := 5) (by kernel_rfl) (hcl.not (j := 5) (k := 0) (by kernel_rfl) hL))))).cell
        clear hcl hL
        clear hB hx hz hC hlc hM ho ho_o
        refine OpGoes.step fun K hK => ?_
        unfold OpGoes
        go_simp
        obtain ⟨hB, hx, hz, hC, hlc, hM, ⟨ho_x0, ho_x1, ho_x2, ho_x3, ho_x4, ho_x5, ho_x6, ho_x7, ho_x8, ho_x9, ho⟩, ho_o⟩ := HC.out
        exact hK _ _ ⟨⟨hB, hx, hz, hC, hlc, hM, ⟨_, _, _, _, _, _, _, _, _, _, ho⟩, fun h => ho_o (by simpa [upd] using h)⟩, rfl, Below.refl _ _⟩
      · -- 1: Op.move t1
        go_light
        intro L σ W' hcl hL hC hw
        clear hw
        have HC := Lib.hid hC
        clear hC
        clear hcl hL
        refine OpGoes.step fun K hK => ?_
        unfold OpGoes
        go_simp
        obtain ⟨hB, hx, hz, hC, hlc, hM, ⟨ho_x0, ho_x1, ho_x2, ho_x3, ho_x4, ho_x5, ho_x6, ho_x7, ho_x8, ho_x9, ho⟩, ho_o⟩ := HC.out
        exact hK _ _ ⟨⟨hB, hx, hz, hC, hlc, hM, ⟨_, _, _, _, _, _, _, _, _, _, ho⟩, fun h => ho_o (by simpa [upd] using h)⟩, rfl, Below.refl _ _⟩
      · -- 2: Op.move t6
        go_light
        intro L σ W' hcl hL hC hw
        clear hw
        have HC := Lib.hid hC
        clear hC
        clear hcl hL
        refine OpGoes.step fun K hK => ?_
        unfold OpGoes
        go_simp
        obtain ⟨hB, hx, hz, hC, hlc, hM, ⟨ho_x0, ho_x1, ho_x2, ho_x3, ho_x4, ho_x5, ho_x6, ho_x7, ho_x8, ho_x9, ho⟩, ho_o⟩ := HC.out
        exact hK _ _ ⟨⟨hB, hx, hz, hC, hlc, hM, ⟨_, _, _, _, _, _, _, _, _, _, ho⟩, fun h => ho_o (by simpa [upd] using h)⟩, rfl, Below.refl _ _⟩
      · -- 3: Op.indexAddr 59 t26 t27
        go_light
        intro L σ W' hcl hL hC hw
        have e1 : σ 1 = .slice (some ⟨b, 0, none⟩) n cap := hw 1 (by kernel_rfl)
        have e2 : σ 2 = .int .i64 ((i : Int)) := hw 2 (by kernel_rfl)
        clear hw
        have HC := Lib.hid hC
        clear hC
        clear hcl hL
        refine OpGoes.step fun K hK => ?_
        unfold OpGoes
        go_simp
        obtain ⟨hB, hx, hz, hC, hlc, hM, ⟨ho_x0, ho_x1, ho_x2, ho_x3, ho_x4, ho_x5, ho_x6, ho_x7, ho_x8, ho_x9, ho⟩, ho_o⟩ := HC.out
        exact hK _ _ ⟨⟨hB, hx, hz, hC, hlc, hM, ⟨_, _, _, _, _, _, _, _, _, _, ho⟩, fun h => ho_o (by simpa [upd] using h)⟩, rfl, Below.refl _ _⟩
      · -- 4: Op.load 2 t28
        go_light
        intro L σ W' hcl hL hC hw
        have e3 : σ 3 = .pointer (some ⟨b, i, none⟩) := hw 3 (by kernel_rfl)
        clear hw
        have HC := Lib.hid hC
        obtain ⟨hB, hx, hz, hC, hlc, hM, ⟨ho_x0, ho_x1, ho_x2, ho_x3, ho_x4, ho_x5, ho_x6, ho_x7, ho_x8, ho_x9, ho⟩, ho_o⟩ := hC
        have dz := hlc 0 _ rfl
        rw [Nat.add_zero] at dz
        clear hcl hL
        clear hB hx hz hC hlc hM ho ho_o
        refine OpGoes.step fun K hK => ?_
        unfold OpGoes
        go_simp
        obtain ⟨hB, hx, hz, hC, hlc, hM, ⟨ho_x0, ho_x1, ho_x2, ho_x3, ho_x4, ho_x5, ho_x6, ho_x7, ho_x8, ho_x9, ho⟩, ho_o⟩ := HC.out
        exact hK _ _ ⟨⟨hB, hx, hz, hC, hlc, hM, ⟨_, _, _, _, _, _, _, _, _, _, ho⟩, fun h => ho_o (by simpa [upd] using h)⟩, rfl, Below.refl _ _⟩
      · -- 5: Op.call { value (Operand.func 77), args := #[t25, t29], argTypes := #[88, 2] }
        go_light
        intro L σ W' hcl hL hC hw
        have e0 : σ 0 = .agg #[.int .i64 d.st.rd, .int .i64 d.st.mo, .slice y1.s.A y1.s.n y1.s.cap, .int .i64 d.st.fi, .int .i64 d.st.la, .slice y1.h.A y1.h.n y1.h.cap, .slice y1.j.A y1.j.n y1.j.cap, .slice y1.b.A y1.b.n y1.b.cap, .int .i64 d.ck, .slice y1.e.A y1.e.n y1.e.cap] := hw 0 (by kernel_rfl)
        have e4 : σ 4 = .int .i64 z := hw 4 (by kernel_rfl)
        clear hw
        have HC := Lib.hid hC
        clear hC
        clear hcl hL
        refine OpGoes.step fun K hK => ?_
        unfold OpGoes
        go_simp
        obtain ⟨hB, hx, hz, hC, hlc, hM, ⟨ho_x0, ho_x1, ho_x2, ho_x3, ho_x4, ho_x5, ho_x6, ho_x7, ho_x8, ho_x9, ho⟩, ho_o⟩ := HC.out
        refine (l10Turn_any d y1 (w.heap.size + 2) _ z _ hC (Nat.le_refl _) HDK.out).mono ?_
        rintro e w1 ⟨y2, rfl, hC2, hb1⟩
        exact ⟨_, rfl, hK _ _ ⟨⟨bstep hB hB.size hb1, hx.below hb1 hx.lt, hz.below hb1 hz.lt, hC.belowN hb1, hlc.below hb1, Nat.le_trans hM hb1.size, ⟨_, _, _, _, _, _, _, _, _, _, ho.below hb1 ho.lt⟩, fun h => (ho_o (by simpa [upd] using h)).below hb1 (ho_o (by simpa [upd] using h)).lt⟩, ⟨y2, rfl, CrW.mono hC2 hM (Nat.le_refl _)⟩, hb1⟩⟩
      · -- 6: Op.move t30
        go_light
        intro L σ W' hcl hL hC hw
        obtain ⟨y2, e5, hp5⟩ : ∃ (y2 : CrL), σ 5 = .tuple #[.agg #[.int .i64 ((turnS d z).1.st.rd), .int .i64 ((turnS d z).1.st.mo), .slice y2.s.A y2.s.n y2.s.cap, .int .i64 ((turnS d z).1.st.fi), .int .i64 ((turnS d z).1.st.la), .slice y2.h.A y2.h.n y2.h.cap, .slice y2.j.A y2.j.n y2.j.cap, .slice y2.b.A y2.b.n y2.b.cap, .int .i64 ((turnS d z).1.ck), .slice y2.e.A y2.e.n y2.e.cap], .bool ((turnS d z).2)] ∧ CrN (w.heap.size + 2) W' (turnS d z).1 y2 := hw 5 (by kernel_rfl)
        clear hw
        have HC := Lib.hid hC
        clear hC
        clear hcl hL
        refine OpGoes.step fun K hK => ?_
        unfold OpGoes
        go_simp
        obtain ⟨hB, hx, hz, hC, hlc, hM, ⟨ho_x0, ho_x1, ho_x2, ho_x3, ho_x4, ho_x5, ho_x6, ho_x7, ho_x8, ho_x9, ho⟩, ho_o⟩ := HC.out
        exact hK _ _ ⟨⟨hB, hx, hz, hC, hlc, hM, ⟨_, _, _, _, _, _, _, _, _, _, ho⟩, fun h => ho_o (by simpa [upd] using h)⟩, ⟨y2, rfl, hp5⟩, Below.refl _ _⟩
      · -- 7: Op.extract t24 0
        go_light
        intro L σ W' hcl hL hC hw
        obtain ⟨y2, e6, hp6⟩ : ∃ (y2 : CrL), σ 6 = .tuple #[.agg #[.int .i64 ((turnS d z).1.st.rd), .int .i64 ((turnS d z).1.st.mo), .slice y2.s.A y2.s.n y2.s.cap, .int .i64 ((turnS d z).1.st.fi), .int .i64 ((turnS d z).1.st.la), .slice y2.h.A y2.h.n y2.h.cap, .slice y2.j.A y2.j.n y2.j.cap, .slice y2.b.A y2.b.n y2.b.cap, .int .i64 ((turnS d z).1.ck), .slice y2.e.A y2.e.n y2.e.cap], .bool ((turnS d z).2)] ∧ CrN (w.heap.size + 2) W' (turnS d z).1 y2 := hw 6 (by kernel_rfl)
        clear hw
        have HC := Lib.hid hC
        clear hC
        clear hcl hL
        refine OpGoes.step fun K hK => ?_
        unfold OpGoes
        go_simp
        obtain ⟨hB, hx, hz, hC, hlc, hM, ⟨ho_x0, ho_x1, ho_x2, ho_x3, ho_x4, ho_x5, ho_x6, ho_x7, ho_x8, ho_x9, ho⟩, ho_o⟩ := HC.out
        exact hK _ _ ⟨⟨hB, hx, hz, hC, hlc, hM, ⟨_, _, _, _, _, _, _, _, _, _, ho⟩, fun h => ho_o (by simpa [upd] using h)⟩, ⟨y2, rfl, hp6⟩, Below.refl _ _⟩
      · -- 8: Op.extract t24 1
        go_light
        intro L σ W' hcl hL hC hw
        obtain ⟨y2, e6, hp6⟩ : ∃ (y2 : CrL), σ 6 = .tuple #[.agg #[.int .i64 ((turnS d z).1.st.rd), .int .i64 ((turnS d z).1.st.mo), .slice y2.s.A y2.s.n y2.s.cap, .int .i64 ((turnS d z).1.st.fi), .int .i64 ((turnS d z).1.st.la), .slice y2.h.A y2.h.n y2.h.cap, .slice y2.j.A y2.j.n y2.j.cap, .slice y2.b.A y2.b.n y2.b.cap, .int .i64 ((turnS d z).1.ck), .slice y2.e.A y2.e.n y2.e.cap], .bool ((turnS d z).2)] ∧ CrN (w.heap.size + 2) W' (turnS d z).1 y2 := hw 6 (by kernel_rfl)
        clear hw
        have HC := Lib.hid hC
        clear hC
        clear hcl hL
        refine OpGoes.step fun K hK => ?_
        unfold OpGoes
        go_simp
        obtain ⟨hB, hx, hz, hC, hlc, hM, ⟨ho_x0, ho_x1, ho_x2, ho_x3, ho_x4, ho_x5, ho_x6, ho_x7, ho_x8, ho_x9, ho⟩, ho_o⟩ := HC.out
        exact hK _ _ ⟨⟨hB, hx, hz, hC, hlc, hM, ⟨_, _, _, _, _, _, _, _, _, _, ho⟩, fun h => ho_o (by simpa [upd] using h)⟩, rfl, Below.refl _ _⟩
      · -- 9: Op.store 88 t5 t31
        go_light
        intro L σ W' hcl hL hC hw hne
        obtain ⟨y2, e7, hp7⟩ : ∃ (y2 : CrL), σ 7 = .agg #[.int .i64 ((turnS d z).1.st.rd), .int .i64 ((turnS d z).1.st.mo), .slice y2.s.A y2.s.n y2.s.cap, .int .i64 ((turnS d z).1.st.fi), .int .i64 ((turnS d z).1.st.la), .slice y2.h.A y2.h.n y2.h.cap, .slice y2.j.A y2.j.n y2.j.cap, .slice y2.b.A y2.b.n y2.b.cap, .int .i64 ((turnS d z).1.ck), .slice y2.e.A y2.e.n y2.e.cap] ∧ CrN (w.heap.size + 2) W' (turnS d z).1 y2 := hw 7 (by kernel_rfl)
        clear hw hne
        have HC := Lib.hid hC
        obtain ⟨hB, hx, hz, hC, hlc, hM, ⟨ho_x0, ho_x1, ho_x2, ho_x3, ho_x4, ho_x5, ho_x6, ho_x7, ho_x8, ho_x9, ho⟩, ho_o⟩ := hC
        clear hcl hL
        have kc_ := ho.cell
        have kf_ := ho.frozen
        clear hB hx hz hC hlc hM ho ho_o
        refine OpGoes.step fun K hK => ?_
        unfold OpGoes
        go_simp
        obtain ⟨hB, hx, hz, hC, hlc, hM, ⟨ho_x0, ho_x1, ho_x2, ho_x3, ho_x4, ho_x5, ho_x6, ho_x7, ho_x8, ho_x9, ho⟩, ho_o⟩ := HC.out
        have hset := sets_all (us := [.int .i64 ((turnS d z).1.st.rd), .int .i64 ((turnS d z).1.st.mo), .slice y2.s.A y2.s.n y2.s.cap, .int .i64 ((turnS d z).1.st.fi), .int .i64 ((turnS d z).1.st.la), .slice y2.h.A y2.h.n y2.h.cap, .slice y2.j.A y2.j.n y2.j.cap, .slice y2.b.A y2.b.n y2.b.cap, .int .i64 ((turnS d z).1.ck), .slice y2.e.A y2.e.n y2.e.cap]) ho rfl
        refine hK undef (setCells W' O 0 [.int .i64 ((turnS d z).1.st.rd), .int .i64 ((turnS d z).1.st.mo), .slice y2.s.A y2.s.n y2.s.cap, .int .i64 ((turnS d z).1.st.fi), .int .i64 ((turnS d z).1.st.la), .slice y2.h.A y2.h.n y2.h.cap, .slice y2.j.A y2.j.n y2.j.cap, .slice y2.b.A y2.b.n y2.b.cap, .int .i64 ((turnS d z).1.ck), .slice y2.e.A y2.e.n y2.e.cap]) ⟨⟨(Below.setCells (by omega) [.int .i64 ((turnS d z).1.st.rd), .int .i64 ((turnS d z).1.st.mo), .slice y2.s.A y2.s.n y2.s.cap, .int .i64 ((turnS d z).1.st.fi), .int .i64 ((turnS d z).1.st.la), .slice y2.h.A y2.h.n y2.h.cap, .slice y2.j.A y2.j.n y2.j.cap, .slice y2.b.A y2.b.n y2.b.cap, .int .i64 ((turnS d z).1.ck), .slice y2.e.A y2.e.n y2.e.cap] 0 hB), (BoxAt.sets_ne [.int .i64 ((turnS d z).1.st.rd), .int .i64 ((turnS d z).1.st.mo), .slice y2.s.A y2.s.n y2.s.cap, .int .i64 ((turnS d z).1.st.fi), .int .i64 ((turnS d z).1.st.la), .slice y2.h.A y2.h.n y2.h.cap, .slice y2.j.A y2.j.n y2.j.cap, .slice y2.b.A y2.b.n y2.b.cap, .int .i64 ((turnS d z).1.ck), .slice y2.e.A y2.e.n y2.e.cap] 0 hx (by omega)), (BoxAt.sets_ne [.int .i64 ((turnS d z).1.st.rd), .int .i64 ((turnS d z).1.st.mo), .slice y2.s.A y2.s.n y2.s.cap, .int .i64 ((turnS d z).1.st.fi), .int .i64 ((turnS d z).1.st.la), .slice y2.h.A y2.h.n y2.h.cap, .slice y2.j.A y2.j.n y2.j.cap, .slice y2.b.A y2.b.n y2.b.cap, .int .i64 ((turnS d z).1.ck), .slice y2.e.A y2.e.n y2.e.cap] 0 hz (by omega)), (CrN.setsC hC ho [.int .i64 ((turnS d z).1.st.rd), .int .i64 ((turnS d z).1.st.mo), .slice y2.s.A y2.s.n y2.s.cap, .int .i64 ((turnS d z).1.st.fi), .int .i64 ((turnS d z).1.st.la), .slice y2.h.A y2.h.n y2.h.cap, .slice y2.j.A y2.j.n y2.j.cap, .slice y2.b.A y2.b.n y2.b.cap, .int .i64 ((turnS d z).1.ck), .slice y2.e.A y2.e.n y2.e.cap] 0), (CellsAt.same hlc (sets_block (by omega) [.int .i64 ((turnS d z).1.st.rd), .int .i64 ((turnS d z).1.st.mo), .slice y2.s.A y2.s.n y2.s.cap, .int .i64 ((turnS d z).1.st.fi), .int .i64 ((turnS d z).1.st.la), .slice y2.h.A y2.h.n y2.h.cap, .slice y2.j.A y2.j.n y2.j.cap, .slice y2.b.A y2.b.n y2.b.cap, .int .i64 ((turnS d z).1.ck), .slice y2.e.A y2.e.n y2.e.cap] 0 _)), (size_sts hM [.int .i64 ((turnS d z).1.st.rd), .int .i64 ((turnS d z).1.st.mo), .slice y2.s.A y2.s.n y2.s.cap, .int .i64 ((turnS d z).1.st.fi), .int .i64 ((turnS d z).1.st.la), .slice y2.h.A y2.h.n y2.h.cap, .slice y2.j.A y2.j.n y2.j.cap, .slice y2.b.A y2.b.n y2.b.cap, .int .i64 ((turnS d z).1.ck), .slice y2.e.A y2.e.n y2.e.cap] 0), ⟨_, _, _, _, _, _, _, _, _, _, hset⟩, fun h => absurd h (by simp [upd])⟩, ⟨y2, hset, (CrN.setsC hp7 ho [.int .i64 ((turnS d z).1.st.rd), .int .i64 ((turnS d z).1.st.mo), .slice y2.s.A y2.s.n y2.s.cap, .int .i64 ((turnS d z).1.st.fi), .int .i64 ((turnS d z).1.st.la), .slice y2.h.A y2.h.n y2.h.cap, .slice y2.j.A y2.j.n y2.j.cap, .slice y2.b.A y2.b.n y2.b.cap, .int .i64 ((turnS d z).1.ck), .slice y2.e.A y2.e.n y2.e.cap] 0)⟩, Nat.le_of_eq (sets_size _ _ _).symm, fun j hj hn hR => ?_⟩
        match j, hj, hn, hR with
        | 0, _, _, hR => exact (show σ 0 = .agg #[.int .i64 d.st.rd, .int .i64 d.st.mo, .slice y1.s.A y1.s.n y1.s.cap, .int .i64 d.st.fi, .int .i64 d.st.la, .slice y1.h.A y1.h.n y1.h.cap, .slice y1.j.A y1.j.n y1.j.cap, .slice y1.b.A y1.b.n y1.b.cap, .int .i64 d.ck, .slice y1.e.A y1.e.n y1.e.cap] from hR)
        | 1, _, _, hR => exact (show σ 1 = .slice (some ⟨b, 0, none⟩) n cap from hR)
        | 2, _, _, hR => exact (show σ 2 = .int .i64 ((i : Int)) from hR)
        | 3, _, _, hR => exact (show σ 3 = .pointer (some ⟨b, i, none⟩) from hR)
        | 4, _, _, hR => exact (show σ 4 = .int .i64 z from hR)
        | 5, _, _, hR => obtain ⟨y2_x, e, hp⟩ := hR; exact ⟨y2_x, e, (CrN.setsC hp ho [.int .i64 ((turnS d z).1.st.rd), .int .i64 ((turnS d z).1.st.mo), .slice y2.s.A y2.s.n y2.s.cap, .int .i64 ((turnS d z).1.st.fi), .int .i64 ((turnS d z).1.st.la), .slice y2.h.A y2.h.n y2.h.cap, .slice y2.j.A y2.j.n y2.j.cap, .slice y2.b.A y2.b.n y2.b.cap, .int .i64 ((turnS d z).1.ck), .slice y2.e.A y2.e.n y2.e.cap] 0)⟩
        | 6, _, _, hR => obtain ⟨y2_x, e, hp⟩ := hR; exact ⟨y2_x, e, (CrN.setsC hp ho [.int .i64 ((turnS d z).1.st.rd), .int .i64 ((turnS d z).1.st.mo), .slice y2.s.A y2.s.n y2.s.cap, .int .i64 ((turnS d z).1.st.fi), .int .i64 ((turnS d z).1.st.la), .slice y2.h.A y2.h.n y2.h.cap, .slice y2.j.A y2.j.n y2.j.cap, .slice y2.b.A y2.b.n y2.b.cap, .int .i64 ((turnS d z).1.ck), .slice y2.e.A y2.e.n y2.e.cap] 0)⟩
        | 7, _, _, hR => obtain ⟨y2_x, e, hp⟩ := hR; exact ⟨y2_x, e, (CrN.setsC hp ho [.int .i64 ((turnS d z).1.st.rd), .int .i64 ((turnS d z).1.st.mo), .slice y2.s.A y2.s.n y2.s.cap, .int .i64 ((turnS d z).1.st.fi), .int .i64 ((turnS d z).1.st.la), .slice y2.h.A y2.h.n y2.h.cap, .slice y2.j.A y2.j.n y2.j.cap, .slice y2.b.A y2.b.n y2.b.cap, .int .i64 ((turnS d z).1.ck), .slice y2.e.A y2.e.n y2.e.cap] 0)⟩
        | 8, _, _, hR => exact (show σ 8 = .bool ((turnS d z).2) from hR)
        | 9, hj, _, _ => exact absurd rfl hj
        | _ + 10, _, _, _ => exact trivial
      · intro σ L W' hall hC hR
        obtain ⟨hB, hx, hz, hC, hlc, hM, ⟨ho_x0, ho_x1, ho_x2, ho_x3, ho_x4, ho_x5, ho_x6, ho_x7, ho_x8, ho_x9, ho⟩, ho_o⟩ := hC
        obtain ⟨y2, s9, hp9⟩ : ∃ (y2 : CrL), BoxAt W' O #[.int .i64 ((turnS d z).1.st.rd), .int .i64 ((turnS d z).1.st.mo), .slice y2.s.A y2.s.n y2.s.cap, .int .i64 ((turnS d z).1.st.fi), .int .i64 ((turnS d z).1.st.la), .slice y2.h.A y2.h.n y2.h.cap, .slice y2.j.A y2.j.n y2.j.cap, .slice y2.b.A y2.b.n y2.b.cap, .int .i64 ((turnS d z).1.ck), .slice y2.e.A y2.e.n y2.e.cap] 88 ∧ CrN (w.heap.size + 2) W' (turnS d z).1 y2 := hR 9 (by decide)
        clear hR
        simp only [lexAll]
        go_simp
        go_step
        go_wp2
        go_roundw
        case rel =>
          go_light
          refine ⟨i + 1, (turnS d z).1, y2, by omega, by go_num, hB, hx, hz, s9, hp9, turnS_ok HDK.out z, ?_⟩
          rw [HDE.out, turnsS_take HLI.out]
        case measure => simp [intOf]; omega
    · have g1 : ¬ (i : Int) < (n : Int) := by omega
      obtain rfl : n = i := by omega
      have HD := Lib.hid (show turnsS c l = d by rw [HDE.out, List.take_of_length_le (by rw [HLL.out]; exact Nat.le_refl _)])
      have ko := ho.cell
      have kz := hz.cell
      have fz := hz.frozen
      have lz := hz.lt
      go_wp2
      refine bodyPost_ret (v := crV d y1) (by simp [results, Try.results71, go_sem, kz, crV]) rfl ⟨y1, by rw [HV.out, HD.out], ?_, ?_⟩
      · rw [HV.out, HD.out]
        exact (CrW.sts hC (.inl (by omega)) (crCs d y1) 0).mono (by omega) (by simp)
      · exact Below.setCells (by omega) (crCs d y1) 0 hB

end Go.Proofs.Ytbdgkmamieagfaa

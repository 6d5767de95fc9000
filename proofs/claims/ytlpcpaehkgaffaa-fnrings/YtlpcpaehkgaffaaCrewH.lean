/-
  The walk of turns, of the model.
-/
import Derived.Test.YtlpcpaehkgaffaaCrewF
namespace Go.Proofs.Ytlpcpaehkgaffaa
set_option linter.unusedSimpArgs false
set_option linter.unusedVariables false
open Go.RowKit
set_option linter.unusedVariables false
attribute [local go_sem] OpUpon
attribute [local go_sem ↓] Go.wp_at_zero Go.wp_at_succ

def turnsS (c : Cr) (l : List Int) : Cr := l.foldl (fun c z => (turnS c z).1) c
def turnsC (c : Cr) (l : List Int) : Cr := if crOk c && decide (l.length ≤ 400) then turnsS c l else .zero
theorem turnsS_ok {c : Cr} (h : crOk c = true) (l : List Int) : crOk (turnsS c l) = true := by
  unfold turnsS
  induction l generalizing c with
  | nil => exact h
  | cons z l ih => exact ih (turnS_ok h z)
theorem turnsS_take {c : Cr} {l : List Int} {i : Nat} {z : Int} (h : l[i]? = some z) : (turnS (turnsS c (l.take i)) z).1 = turnsS c (l.take (i + 1)) := by
  unfold turnsS
  rw [List.take_add_one, h, List.foldl_append]
  rfl
/-- A crew's lists, anywhere from lo on. -/
def CrN (lo : Nat) (w : World) (c : Cr) (y : CrL) : Prop := CrW lo w.heap.size w c y
theorem CrN.belowN {lo : Nat} {w w' : World} {c : Cr} {y : CrL} (h : CrN lo w c y) (hb : Below w.heap.size w w') : CrN lo w' c y := CrW.mono (CrW.below h hb (Nat.le_refl _)) (Nat.le_refl _) hb.size
theorem CrN.setsC {lo : Nat} {w : World} {c : Cr} {y : CrL} (h : CrN lo w c y) {b : Nat} {cs : Array Value} (hk : BoxAt w b cs 73) (us : List Value) (o : Nat) : CrN lo (setCells w b o us) c y :=
  CrW.mono (CrW.setsC h hk us o) (Nat.le_refl _) (Nat.le_of_eq (sets_size us o w).symm)
theorem CrN.drew {lo : Nat} {w : World} {c : Cr} {y : CrL} (h : CrN lo w c y) : CrN lo w.drew c y := CrW.drew h

def tsRV (c d : Cr) (y y1 : CrL) (N O b n cap i : Nat) (z : Int) : List Sl := [.v (.agg #[.int .i64 d.st.rd, .int .i64 d.st.mo, .slice y1.s.A y1.s.n y1.s.cap, .int .i64 d.st.fi, .int .i64 d.st.la, .slice y1.h.A y1.h.n y1.h.cap, .slice y1.j.A y1.j.n y1.j.cap, .slice y1.b.A y1.b.n y1.b.cap, .int .i64 d.ck, .slice y1.e.A y1.e.n y1.e.cap]),
  .v (.slice (some ⟨b, 0, none⟩) n cap),
  .v (.int .i64 ((i : Int))),
  .v (.pointer (some ⟨b, i, none⟩)),
  .v (.int .i64 z),
  .e fun σ w => ∃ (y2 : CrL), σ 5 = .tuple #[.agg #[.int .i64 ((turnS d z).1.st.rd), .int .i64 ((turnS d z).1.st.mo), .slice y2.s.A y2.s.n y2.s.cap, .int .i64 ((turnS d z).1.st.fi), .int .i64 ((turnS d z).1.st.la), .slice y2.h.A y2.h.n y2.h.cap, .slice y2.j.A y2.j.n y2.j.cap, .slice y2.b.A y2.b.n y2.b.cap, .int .i64 ((turnS d z).1.ck), .slice y2.e.A y2.e.n y2.e.cap], .bool ((turnS d z).2)] ∧ CrN (N + 2) w (turnS d z).1 y2,
  .e fun σ w => ∃ (y2 : CrL), σ 6 = .tuple #[.agg #[.int .i64 ((turnS d z).1.st.rd), .int .i64 ((turnS d z).1.st.mo), .slice y2.s.A y2.s.n y2.s.cap, .int .i64 ((turnS d z).1.st.fi), .int .i64 ((turnS d z).1.st.la), .slice y2.h.A y2.h.n y2.h.cap, .slice y2.j.A y2.j.n y2.j.cap, .slice y2.b.A y2.b.n y2.b.cap, .int .i64 ((turnS d z).1.ck), .slice y2.e.A y2.e.n y2.e.cap], .bool ((turnS d z).2)] ∧ CrN (N + 2) w (turnS d z).1 y2,
  .e fun σ w => ∃ (y2 : CrL), σ 7 = .agg #[.int .i64 ((turnS d z).1.st.rd), .int .i64 ((turnS d z).1.st.mo), .slice y2.s.A y2.s.n y2.s.cap, .int .i64 ((turnS d z).1.st.fi), .int .i64 ((turnS d z).1.st.la), .slice y2.h.A y2.h.n y2.h.cap, .slice y2.j.A y2.j.n y2.j.cap, .slice y2.b.A y2.b.n y2.b.cap, .int .i64 ((turnS d z).1.ck), .slice y2.e.A y2.e.n y2.e.cap] ∧ CrN (N + 2) w (turnS d z).1 y2,
  .v (.bool ((turnS d z).2)),
  .e fun σ w => ∃ (y2 : CrL), BoxAt w O #[.int .i64 ((turnS d z).1.st.rd), .int .i64 ((turnS d z).1.st.mo), .slice y2.s.A y2.s.n y2.s.cap, .int .i64 ((turnS d z).1.st.fi), .int .i64 ((turnS d z).1.st.la), .slice y2.h.A y2.h.n y2.h.cap, .slice y2.j.A y2.j.n y2.j.cap, .slice y2.b.A y2.b.n y2.b.cap, .int .i64 ((turnS d z).1.ck), .slice y2.e.A y2.e.n y2.e.cap] 73 ∧ CrN (N + 2) w (turnS d z).1 y2]

set_option maxRecDepth 100000 in
set_option maxHeartbeats 4000000 in
theorem sturns_any (c : Cr) (y : CrL) (lo hi : Nat) (l : List Int) (A : Option Addr) (n cap lo2 hi2 : Nat) (w : World) (hW0 : CrW lo hi w c y) (hh : hi ≤ w.heap.size) (hf : CrFit c) (hl : IntsW lo2 hi2 w A n cap l) (hh2 : hi2 ≤ w.heap.size) (hn : n ≤ 1048576) :
    Calls Try.prog 48 #[crV c y, .slice A n cap] w (RetCr (turnsC c l) w) := by
  have HF := Lib.hid hf; clear hf
  have HLL := Lib.hid hl.1
  unfold crV
  go_enter Try.func48, Try.ntmps48
  go_wp2_with fail
  refine calls_abs (fun W => Below w.heap.size w W ∧ BoxAt W w.heap.size #[.int .i64 c.st.rd, .int .i64 c.st.mo, .slice y.s.A y.s.n y.s.cap, .int .i64 c.st.fi, .int .i64 c.st.la, .slice y.h.A y.h.n y.h.cap, .slice y.j.A y.j.n y.j.cap, .slice y.b.A y.b.n y.b.cap, .int .i64 c.ck, .slice y.e.A y.e.n y.e.cap] 73 ∧ BoxAt W (w.heap.size + 1) #[.int .i64 0, .int .i64 0, .slice none 0 0, .int .i64 0, .int .i64 0, .slice none 0 0, .slice none 0 0, .slice none 0 0, .int .i64 0, .slice none 0 0] 73) ⟨((Below.refl _ _).alloc (Nat.le_refl _) _).alloc (by simp) _, (BoxAt.new _ _ _).alloc _, BoxAt.new' (by simp)⟩ ?_
  rintro W0 ⟨hB, hx, hz⟩
  refine (screwOk_any c y lo hi _ (hW0.below hB hh) (Nat.le_trans hh hB.size) HF.out).mono ?_
  rintro e w1 ⟨rfl, hb1⟩
  replace hx := hx.below hb1 hx.lt
  replace hz := hz.below hb1 hz.lt
  replace hB := bstep hB hB.size hb1
  clear hb1
  have kx := hx.cell
  have kz := hz.cell
  have fz := hz.frozen
  cases hok : crOk c
  · have HV := Lib.hid (show turnsC c l = .zero by unfold turnsC; rw [hok]; rfl)
    go_wp2
    refine bodyPost_ret (v := crV .zero ⟨⟨none, 0, 0⟩, ⟨none, 0, 0⟩, ⟨none, 0, 0⟩, ⟨none, 0, 0⟩, ⟨none, 0, 0⟩⟩) (by simp [results, Try.results48, go_sem, kz, crV, Cr.zero, St.zero]) rfl ⟨⟨⟨none, 0, 0⟩, ⟨none, 0, 0⟩, ⟨none, 0, 0⟩, ⟨none, 0, 0⟩, ⟨none, 0, 0⟩⟩, by rw [HV.out], ?_, ?_⟩
    · rw [HV.out]
      exact ⟨RgsW.nil, SlW.nil, ListsW.nil, SlW.nil, SlW.nil⟩
    · exact Below.setCells (by omega) (crCs .zero ⟨⟨none, 0, 0⟩, ⟨none, 0, 0⟩, ⟨none, 0, 0⟩, ⟨none, 0, 0⟩, ⟨none, 0, 0⟩⟩) 0 hB
  by_cases h4 : n ≤ 400
  case neg =>
    have HV := Lib.hid (show turnsC c l = .zero by unfold turnsC; rw [HLL.out, decide_eq_false h4, Bool.and_false]; rfl)
    have h4' : (400 : Int) < (n : Int) := by omega
    have h4b : decide ((400 : Int) < (n : Int)) = true := decide_eq_true h4'
    go_wp2
    refine bodyPost_ret (v := crV .zero ⟨⟨none, 0, 0⟩, ⟨none, 0, 0⟩, ⟨none, 0, 0⟩, ⟨none, 0, 0⟩, ⟨none, 0, 0⟩⟩) (by simp [results, Try.results48, go_sem, kz, crV, Cr.zero, St.zero]) rfl ⟨⟨⟨none, 0, 0⟩, ⟨none, 0, 0⟩, ⟨none, 0, 0⟩, ⟨none, 0, 0⟩, ⟨none, 0, 0⟩⟩, by rw [HV.out], ?_, ?_⟩
    · rw [HV.out]
      exact ⟨RgsW.nil, SlW.nil, ListsW.nil, SlW.nil, SlW.nil⟩
    · exact Below.setCells (by omega) (crCs .zero ⟨⟨none, 0, 0⟩, ⟨none, 0, 0⟩, ⟨none, 0, 0⟩, ⟨none, 0, 0⟩, ⟨none, 0, 0⟩⟩) 0 hB
  have HV := Lib.hid (show turnsC c l = turnsS c l by unfold turnsC; rw [hok, HLL.out, decide_eq_true h4]; rfl)
  have HOK := Lib.hid hok
  have h4' : ¬ (400 : Int) < (n : Int) := by omega
  have h4b : decide ((400 : Int) < (n : Int)) = false := decide_eq_false h4'
  go_wp2_with fail
  clear kx kz fz
  refine (l10Copy_any c y lo hi _ (hW0.below hB hh) (Nat.le_trans hh hB.size) (crOk_neat HOK.out)).mono ?_
  rintro e w2 ⟨y1, l1, u1, l2, u2, rfl, hC1, hb2⟩
  have hQ : w.heap.size + 2 ≤ w1.heap.size := by have := hz.lt; omega
  have hC : CrN (w.heap.size + 2) w2 c y1 := CrW.mono hC1.crw hQ (Nat.le_refl _)
  replace hx := hx.below hb2 hx.lt
  replace hz := hz.below hb2 hz.lt
  replace hB := bstep hB hB.size hb2
  have hQ2 := hb2.size
  clear hb2 hC1 hok
  unfold crV
  go_wp2
  generalize hOe : w2.heap.size = O at *
  go_loopw [6] (fun s6 W => ∃ (i : Nat) (d : Cr) (y1 : CrL), i ≤ n ∧ s6 = .int .i64 i ∧ Below w.heap.size w W ∧ BoxAt W w.heap.size #[.int .i64 c.st.rd, .int .i64 c.st.mo, .slice y.s.A y.s.n y.s.cap, .int .i64 c.st.fi, .int .i64 c.st.la, .slice y.h.A y.h.n y.h.cap, .slice y.j.A y.j.n y.j.cap, .slice y.b.A y.b.n y.b.cap, .int .i64 c.ck, .slice y.e.A y.e.n y.e.cap] 73 ∧ BoxAt W (w.heap.size + 1) #[.int .i64 0, .int .i64 0, .slice none 0 0, .int .i64 0, .int .i64 0, .slice none 0 0, .slice none 0 0, .slice none 0 0, .int .i64 0, .slice none 0 0] 73 ∧ BoxAt W O #[.int .i64 d.st.rd, .int .i64 d.st.mo, .slice y1.s.A y1.s.n y1.s.cap, .int .i64 d.st.fi, .int .i64 d.st.la, .slice y1.h.A y1.h.n y1.h.cap, .slice y1.j.A y1.j.n y1.j.cap, .slice y1.b.A y1.b.n y1.b.cap, .int .i64 d.ck, .slice y1.e.A y1.e.n y1.e.cap] 73 ∧ CrN (w.heap.size + 2) W d y1 ∧ crOk d = true ∧ d = turnsS c (l.take i)) (fun s6 _ => n - (intOf s6).toNat)
  case atStart =>
    refine ⟨0, c, y1, Nat.zero_le _, rfl, hB.alloc (by omega) _, hx.alloc _, hz.alloc _, BoxAt.new' hOe.symm, hC.belowN ((Below.refl _ _).alloc (Nat.le_refl _) _), HOK.out, by simp [turnsS]⟩
  case round =>
    clear hB hx hz hC
    obtain ⟨i, d, y1, hin, rfl, hB, hx, hz, ho, hC, hdk, hde⟩ := hrel
    have HDK := Lib.hid hdk
    have HDE := Lib.hid hde
    clear hdk hde
    have hO1 := ho.lt
    have hM : w.heap.size + 2 ≤ wr.heap.size := by have := hB.size; omega
    by_cases hlt : i < n
    · obtain ⟨b, z, A', hbl, hbh, hli, hlc0⟩ := SlW.at_ (SlW.below hl hB hh2) ic_len hlt
      subst A'
      have HLI := Lib.hid hli; clear hli
      have hlc : CellsAt wr b i [.int .i64 z] := fun j u hu => by
        have := hlc0 j u hu
        rwa [Nat.mul_one] at this
      clear hlc0
      have g1 : (i : Int) < (n : Int) := by omega
      have g2 : (0 : Int) ≤ (i : Int) := by omega
      have hbw : b < w.heap.size := by omega
      go_upto_region 7 with fail
      refine wp_region2v (fun w w' => Below w.heap.size w w') (fun _ _ h => h.size) (fun _ => Below.refl _ _) (fun L W' => Below w.heap.size w W' ∧ BoxAt W' w.heap.size #[.int .i64 c.st.rd, .int .i64 c.st.mo, .slice y.s.A y.s.n y.s.cap, .int .i64 c.st.fi, .int .i64 c.st.la, .slice y.h.A y.h.n y.h.cap, .slice y.j.A y.j.n y.j.cap, .slice y.b.A y.b.n y.b.cap, .int .i64 c.ck, .slice y.e.A y.e.n y.e.cap] 73 ∧ BoxAt W' (w.heap.size + 1) #[.int .i64 0, .int .i64 0, .slice none 0 0, .int .i64 0, .int .i64 0, .slice none 0 0, .slice none 0 0, .slice none 0 0, .int .i64 0, .slice none 0 0] 73 ∧ CrN (w.heap.size + 2) W' d y1 ∧ CellsAt W' b i [.int .i64 z] ∧ w.heap.size + 2 ≤ W'.heap.size ∧ (∃ x0 x1 x2 x3 x4 x5 x6 x7 x8 x9, BoxAt W' O #[x0, x1, x2, x3, x4, x5, x6, x7, x8, x9] 73) ∧ (L 9 = false → BoxAt W' O #[.int .i64 d.st.rd, .int .i64 d.st.mo, .slice y1.s.A y1.s.n y1.s.cap, .int .i64 d.st.fi, .int .i64 d.st.la, .slice y1.h.A y1.h.n y1.h.cap, .slice y1.j.A y1.j.n y1.j.cap, .slice y1.b.A y1.b.n y1.b.cap, .int .i64 d.ck, .slice y1.e.A y1.e.n y1.e.cap] 73)) (tsRV c d y y1 w.heap.size O b n cap i z) (fun j => [0, 0, 0, 0, 0, 0, 0, 0, 0, 1].getD j 0) [] (by kernel_rfl) (by kernel_rfl) ?_ ?_ ?_
        (.still rfl ?a0 <| .still rfl ?a1 <| .still rfl ?a2 <| .still rfl ?a3 <| .still rfl ?a4 <| .grow rfl ?a5 <| .still rfl ?a6 <| .still rfl ?a7 <| .still rfl ?a8 <| .store rfl ?a9 <| .nil) ?_ ?_
      · exact ⟨fun _ _ _ h ⟨y2, e, hp⟩ => ⟨y2, (h 5 (List.mem_singleton.2 rfl)).symm.trans e, hp⟩, fun _ _ _ h ⟨y2, e, hp⟩ => ⟨y2, (h 6 (List.mem_singleton.2 rfl)).symm.trans e, hp⟩, fun _ _ _ h ⟨y2, e, hp⟩ => ⟨y2, (h 7 (List.mem_singleton.2 rfl)).symm.trans e, hp⟩, fun _ _ _ _ h => h, trivial⟩
      · exact ⟨fun σ w w' hb ⟨y2, e, hp⟩ => ⟨y2, e, hp.belowN hb⟩, fun σ w w' hb ⟨y2, e, hp⟩ => ⟨y2, e, hp.belowN hb⟩, fun σ w w' hb ⟨y2, e, hp⟩ => ⟨y2, e, hp.belowN hb⟩, fun σ w w' hb ⟨y2, hx, hp⟩ => ⟨y2, hx.below hb hx.lt, hp.belowN hb⟩, trivial⟩
      · exact ⟨hB.drew, hx, hz, hC.drew, hlc, hM, ⟨_, _, _, _, _, _, _, _, _, _, ho⟩, fun _ => ho⟩
      case a1 | a2 | a3 =>
        go_light
        intro L σ W' hcl hL hC hw
        try have e1 := wT hw 1 rfl
        try have e2 := wT hw 2 rfl
        clear hw hcl hL hC
        refine OpGoes.step fun K hK => ?_
        unfold OpGoes
        go_simp
        exact hK _ _ ⟨rfl, rfl⟩
      case a4 =>
        go_light
        intro L σ W' hcl hL hC hw
        have e3 := wV hw 3 rfl
        have dz := hC.2.2.2.2.1 0 _ rfl
        rw [Nat.add_zero] at dz
        clear hw hcl hL hC
        refine OpGoes.step fun K hK => ?_
        unfold OpGoes
        go_simp
        exact hK _ _ ⟨rfl, rfl⟩
      case a0 =>
        go_light
        intro L σ W' hcl hL hC hw
        have ko := (hC.2.2.2.2.2.2.2 (hcl.not (j := 9) (k := 7) (by kernel_rfl) (hcl.not (j := 7) (k := 6) (by kernel_rfl) (hcl.not (j := 6) (k := 5) (by kernel_rfl) (hcl.not (j := 5) (k := 0) (by kernel_rfl) hL))))).cell
        clear hw hcl hL hC
        refine OpGoes.step fun K hK => ?_
        unfold OpGoes
        go_simp
        exact hK _ _ ⟨rfl, rfl⟩
      case a5 =>
        go_light
        intro L σ W' hcl hL hC hw
        have e0 := wV hw 0 rfl
        have e4 := wV hw 4 rfl
        clear hw
        have HC := Lib.hid hC
        clear hC
        clear hcl hL
        refine OpGoes.step fun K hK => ?_
        unfold OpGoes
        go_simp
        obtain ⟨hB, hx, hz, hC, hlc, hM, ⟨_, _, _, _, _, _, _, _, _, _, ho⟩, ho_o⟩ := HC.out
        refine (l10Turn_any d y1 (w.heap.size + 2) _ z _ hC (Nat.le_refl _) HDK.out).mono ?_
        rintro e w1 ⟨y2, rfl, hC2, hb1⟩
        exact ⟨_, rfl, hK _ _ ⟨⟨bstep hB hB.size hb1, hx.below hb1 hx.lt, hz.below hb1 hz.lt, hC.belowN hb1, hlc.below hb1, Nat.le_trans hM hb1.size, ⟨_, _, _, _, _, _, _, _, _, _, ho.below hb1 ho.lt⟩, fun h => (ho_o (by simpa [upd] using h)).below hb1 (ho_o (by simpa [upd] using h)).lt⟩, ⟨y2, rfl, CrW.mono hC2 hM (Nat.le_refl _)⟩, hb1⟩⟩
      case a6 =>
        go_light
        intro L σ W' hcl hL hC hw
        obtain ⟨y2, e5, hp5⟩ := wE hw 5 rfl
        clear hw hcl hL hC
        refine OpGoes.step fun K hK => ?_
        unfold OpGoes
        go_simp
        exact hK _ _ ⟨rfl, ⟨y2, rfl, hp5⟩⟩
      case a7 =>
        go_light
        intro L σ W' hcl hL hC hw
        obtain ⟨y2, e6, hp6⟩ := wE hw 6 rfl
        clear hw hcl hL hC
        refine OpGoes.step fun K hK => ?_
        unfold OpGoes
        go_simp
        exact hK _ _ ⟨rfl, ⟨y2, rfl, hp6⟩⟩
      case a8 =>
        go_light
        intro L σ W' hcl hL hC hw
        obtain ⟨y2, e6, hp6⟩ := wE hw 6 rfl
        clear hw hcl hL hC
        refine OpGoes.step fun K hK => ?_
        unfold OpGoes
        go_simp
        exact hK _ _ ⟨rfl, rfl⟩
      case a9 =>
        go_light
        intro L σ W' hcl hL hC hw hne
        obtain ⟨y2, e7, hp7⟩ := wE hw 7 rfl
        clear hw hne
        have HC := Lib.hid hC
        obtain ⟨hB, hx, hz, hC, hlc, hM, ⟨_, _, _, _, _, _, _, _, _, _, ho⟩, ho_o⟩ := hC
        clear hcl hL
        have kc_ := ho.cell
        have kf_ := ho.frozen
        clear hB hx hz hC hlc hM ho ho_o
        refine OpGoes.step fun K hK => ?_
        unfold OpGoes
        go_simp
        obtain ⟨hB, hx, hz, hC, hlc, hM, ⟨_, _, _, _, _, _, _, _, _, _, ho⟩, ho_o⟩ := HC.out
        have hset := sets_all (us := [.int .i64 ((turnS d z).1.st.rd), .int .i64 ((turnS d z).1.st.mo), .slice y2.s.A y2.s.n y2.s.cap, .int .i64 ((turnS d z).1.st.fi), .int .i64 ((turnS d z).1.st.la), .slice y2.h.A y2.h.n y2.h.cap, .slice y2.j.A y2.j.n y2.j.cap, .slice y2.b.A y2.b.n y2.b.cap, .int .i64 ((turnS d z).1.ck), .slice y2.e.A y2.e.n y2.e.cap]) ho rfl
        refine hK undef (setCells W' O 0 [.int .i64 ((turnS d z).1.st.rd), .int .i64 ((turnS d z).1.st.mo), .slice y2.s.A y2.s.n y2.s.cap, .int .i64 ((turnS d z).1.st.fi), .int .i64 ((turnS d z).1.st.la), .slice y2.h.A y2.h.n y2.h.cap, .slice y2.j.A y2.j.n y2.j.cap, .slice y2.b.A y2.b.n y2.b.cap, .int .i64 ((turnS d z).1.ck), .slice y2.e.A y2.e.n y2.e.cap]) ⟨⟨(Below.setCells (by omega) _ 0 hB), (BoxAt.sets_ne _ 0 hx (by omega)), (BoxAt.sets_ne _ 0 hz (by omega)), (CrN.setsC hC ho _ 0), (CellsAt.same hlc (sets_block (by omega) _ 0 _)), (size_sts hM _ 0), ⟨_, _, _, _, _, _, _, _, _, _, hset⟩, fun h => absurd h (by simp [upd])⟩, ⟨y2, hset, (CrN.setsC hp7 ho _ 0)⟩, Nat.le_of_eq (sets_size _ _ _).symm, keepV ?_⟩
        exact ⟨fun _ _ ⟨y2_x, e, hp⟩ => ⟨y2_x, e, (CrN.setsC hp ho _ 0)⟩, fun _ _ ⟨y2_x, e, hp⟩ => ⟨y2_x, e, (CrN.setsC hp ho _ 0)⟩, fun _ _ ⟨y2_x, e, hp⟩ => ⟨y2_x, e, (CrN.setsC hp ho _ 0)⟩, fun h => absurd rfl h, trivial⟩
      · intro L L' W' hLL hC
        obtain ⟨hB, hx, hz, hC, hlc, hM, ⟨_, _, _, _, _, _, _, _, _, _, ho⟩, ho_o⟩ := hC
        exact ⟨hB, hx, hz, hC, hlc, hM, ⟨_, _, _, _, _, _, _, _, _, _, ho⟩, fun h => ho_o (hLL _ h)⟩
      · intro σ L W' hall hC hRR
        obtain ⟨hB, hx, hz, hC, hlc, hM, ⟨_, _, _, _, _, _, _, _, _, _, ho⟩, ho_o⟩ := hC
        obtain ⟨y2, s9, hp9⟩ := dE hRR 9 rfl
        clear hRR
        simp only [lexAll]
        go_simp
        go_step
        go_wp2
        go_roundw
        case rel =>
          go_light
          refine ⟨i + 1, (turnS d z).1, y2, by omega, by go_num, hB, hx, hz, s9, hp9, turnS_ok HDK.out z, ?_⟩
          rw [HDE.out, turnsS_take HLI.out]
        case measure => simp [intOf]; omega
    · have g1 : ¬ (i : Int) < (n : Int) := by omega
      obtain rfl : n = i := by omega
      have HD := Lib.hid (show turnsS c l = d by rw [HDE.out, List.take_of_length_le (by rw [HLL.out]; exact Nat.le_refl _)])
      have ko := ho.cell
      have kz := hz.cell
      have fz := hz.frozen
      have lz := hz.lt
      go_wp2
      refine bodyPost_ret (v := crV d y1) (by simp [results, Try.results48, go_sem, kz, crV]) rfl ⟨y1, by rw [HV.out, HD.out], ?_, ?_⟩
      · rw [HV.out, HD.out]
        exact (CrW.sts hC (.inl (by omega)) (crCs d y1) 0).mono (by omega) (by simp)
      · exact Below.setCells (by omega) (crCs d y1) 0 hB

end Go.Proofs.Ytlpcpaehkgaffaa

/-
  The walk of a new crew, of the model.
-/
namespace Go.Proofs.Ytlpcpaehkgaffaa
set_option linter.unusedSimpArgs false
set_option linter.unusedVariables false
open Go.RowKit
set_option linter.unusedVariables false
attribute [local go_sem] OpUpon
attribute [local go_sem ↓] Go.wp_at_zero Go.wp_at_succ

def newC0 (rd mo : Int) (js : List (List Int)) : Cr := ⟨(newStore rd mo).1, List.replicate js.length resting, js, List.replicate js.length 0, 0, []⟩
def newCrew (rd mo : Int) (js : List (List Int)) : Cr × Bool := if !(newStore rd mo).2 || !crOk (newC0 rd mo js) then (.zero, false) else (newC0 rd mo js, true)

def LstN (lo : Nat) (w : World) (A : Option Addr) (n cap : Nat) (L : List (List Int)) : Prop := ListsW lo w.heap.size w A n cap L
def IntN (lo : Nat) (w : World) (A : Option Addr) (n cap : Nat) (L : List Int) : Prop := IntsW lo w.heap.size w A n cap L
theorem newStore_neat (rd mo : Int) : Neat (newStore rd mo).1 ∨ (newStore rd mo).1 = .zero := by
  unfold newStore
  split
  · rename_i h
    left
    simp only [Bool.and_eq_true, roundB, decide_eq_true_eq] at h
    refine ⟨by simp, by simp, fun r hr => ?_⟩
    simp at hr
    subst hr
    have : (Rg.fresh rd.toNat).ps.length = rd.toNat := by simp [Rg.fresh, fresh]
    omega
  · exact .inr rfl

section
variable {lo : Nat} {w w' : World} {A : Option Addr} {n cap : Nat} {L : List (List Int)} {m : List Int}
theorem LstN.keepT (h : LstN lo w A n cap L) (k1 : KeepT 2 w w') (k2 : KeepT 49 w w') (hz : w.heap.size ≤ w'.heap.size) : LstN lo w' A n cap L := (ListsW.keepT h k1 k2).mono (Nat.le_refl _) hz
theorem IntN.keepT (h : IntN lo w A n cap m) (k1 : KeepT 2 w w') (hz : w.heap.size ≤ w'.heap.size) : IntN lo w' A n cap m := SlW.mono (SlW.keepT h k1) (Nat.le_refl _) hz
theorem LstN.belowN (h : LstN lo w A n cap L) (hb : Below w.heap.size w w') : LstN lo w' A n cap L := h.keepT (.below hb) (.below hb) hb.size
theorem IntN.belowN (h : IntN lo w A n cap m) (hb : Below w.heap.size w w') : IntN lo w' A n cap m := h.keepT (.below hb) hb.size
theorem LstN.setsC (h : LstN lo w A n cap L) {b : Nat} {cs : Array Value} (hk : BoxAt w b cs 73) (us : List Value) (o : Nat) : LstN lo (setCells w b o us) A n cap L := h.keepT (.sets hk (by decide) us o) (.sets hk (by decide) us o) (Nat.le_of_eq (sets_size us o w).symm)
theorem IntN.setsC (h : IntN lo w A n cap m) {b : Nat} {cs : Array Value} (hk : BoxAt w b cs 73) (us : List Value) (o : Nat) : IntN lo (setCells w b o us) A n cap m := h.keepT (.sets hk (by decide) us o) (Nat.le_of_eq (sets_size us o w).symm)
def TwoN (lo : Nat) (w : World) (A : Option Addr) (n cap : Nat) (L : List (List Int)) (g : Nat) : Prop := LstN lo w A n cap L ∧ IntN lo w (some ⟨g, 0, none⟩) n n (List.replicate n 0)
theorem TwoN.belowN {g : Nat} (h : TwoN lo w A n cap L g) (hb : Below w.heap.size w w') : TwoN lo w' A n cap L g := ⟨h.1.belowN hb, h.2.belowN hb⟩
theorem TwoN.setsC {g : Nat} (h : TwoN lo w A n cap L g) {b : Nat} {cs : Array Value} (hk : BoxAt w b cs 73) (us : List Value) (o : Nat) : TwoN lo (setCells w b o us) A n cap L g := ⟨h.1.setsC hk us o, h.2.setsC hk us o⟩
end

def ncAV (q : St × Bool) (A A1 : Option Addr) (n cap n1 c1 S1 M : Nat) (js : List (List Int)) : List Sl := [.v (.agg #[.int .i64 q.1.rd, .int .i64 q.1.mo, .slice A1 n1 c1, .int .i64 q.1.fi, .int .i64 q.1.la]),
  .v (.slice A n cap),
  .e fun σ w => ∃ (A2 : Option Addr) (c2 : Nat), σ 2 = .slice A2 n c2 ∧ LstN M w A2 n c2 js,
  .v (.slice A n cap),
  .v (.int .i64 ((n : Int))),
  .e fun σ w => ∃ (g5 : Nat), σ 5 = .slice (some ⟨g5, 0, none⟩) n n ∧ IntN M w (some ⟨g5, 0, none⟩) n n (List.replicate n 0),
  .e fun σ w => ∃ (A2 : Option Addr) (c2 g5 : Nat), σ 6 = .agg #[.int .i64 q.1.rd, .int .i64 q.1.mo, .slice A1 n1 c1, .int .i64 q.1.fi, .int .i64 q.1.la, .slice none 0 0, .slice A2 n c2, .slice (some ⟨g5, 0, none⟩) n n, .int .i64 0, .slice none 0 0] ∧ TwoN M w A2 n c2 js g5,
  .e fun σ w => ∃ g7, σ 7 = .pointer (some ⟨g7, 0, none⟩) ∧ M ≤ g7 ∧ ∃ x0 x1 x2 x3 x4 x5 x6 x7 x8 x9, BoxAt w g7 #[x0, x1, x2, x3, x4, x5, x6, x7, x8, x9] 73,
  .e fun σ w => ∃ (g7 : Nat) (A2 : Option Addr) (c2 g5 : Nat), σ 7 = .pointer (some ⟨g7, 0, none⟩) ∧ M ≤ g7 ∧ BoxAt w g7 #[.int .i64 q.1.rd, .int .i64 q.1.mo, .slice A1 n1 c1, .int .i64 q.1.fi, .int .i64 q.1.la, .slice none 0 0, .slice A2 n c2, .slice (some ⟨g5, 0, none⟩) n n, .int .i64 0, .slice none 0 0] 73 ∧ TwoN M w A2 n c2 js g5]

def ncBV (q : St × Bool) (A1 A2 B : Option Addr) (n n1 c1 c2 g5 i c C7 M : Nat) : List Sl := [.v (.pointer (some ⟨C7, 5, none⟩)),
  .v (.slice B i c),
  .v (.agg #[.int .i64 resting.at_, .int .i64 resting.v, .int .i64 resting.r, .int .i64 resting.t, .bool resting.seen.s, .int .i64 resting.seen.n, .bool resting.seen.f, .int .i64 resting.seen.v, .int .i64 resting.tr, .int .i64 resting.sp, .bool resting.ag, .int .i64 resting.re]),
  .e fun σ w => ∃ (g3 : Nat), σ 3 = .slice (some ⟨g3, 0, none⟩) 1 1 ∧ BoxAt w g3 #[.int .i64 resting.at_, .int .i64 resting.v, .int .i64 resting.r, .int .i64 resting.t, .bool resting.seen.s, .int .i64 resting.seen.n, .bool resting.seen.f, .int .i64 resting.seen.v, .int .i64 resting.tr, .int .i64 resting.sp, .bool resting.ag, .int .i64 resting.re] 84 ∧ M ≤ g3,
  .e fun σ w => ∃ (B2 : Option Addr) (cc : Nat), σ 4 = .slice B2 (i + 1) cc ∧ w.ownsRow (C7 + 1) 84 12 (.slice B2 (i + 1) cc) (i + 1) ((List.replicate (i + 1) resting).flatMap Hd.cs),
  .v (.pointer (some ⟨C7, 5, none⟩)),
  .e fun σ w => ∃ (B2 : Option Addr) (cc : Nat), BoxAt w C7 #[.int .i64 q.1.rd, .int .i64 q.1.mo, .slice A1 n1 c1, .int .i64 q.1.fi, .int .i64 q.1.la, .slice B2 (i + 1) cc, .slice A2 n c2, .slice (some ⟨g5, 0, none⟩) n n, .int .i64 0, .slice none 0 0] 73 ∧ w.ownsRow (C7 + 1) 84 12 (.slice B2 (i + 1) cc) (i + 1) ((List.replicate (i + 1) resting).flatMap Hd.cs)]

set_option maxRecDepth 100000 in
set_option maxHeartbeats 4000000 in
theorem snewCrew_any (rd mo : Int) (js : List (List Int)) (A : Option Addr) (n cap lo hi : Nat) (w : World) (hl : ListsW lo hi w A n cap js) (hh : hi ≤ w.heap.size) (hn : n ≤ 1048576) (hml : ∀ l ∈ js, l.length ≤ 1048576) :
    Calls Try.prog 46 #[.int .i64 rd, .int .i64 mo, .slice A n cap] w (RetCrB (newCrew rd mo js) w) := by
  obtain ⟨iH, hi0, hz0, hz1, hz2⟩ := info_parts hand_info
  have HI := Lib.hid hi0
  have HZ0 := Lib.hid hz0
  have HZ1 := Lib.hid hz1
  have HZ2 := Lib.hid hz2
  clear hi0 hz0 hz1 hz2
  obtain ⟨i0, hi0, hz0, hz1, hz2⟩ := info_parts int_info
  have hmk : ∀ W : World, (Instr.makeSlice 49 (.int .i64 (n : Int)) (.int .i64 (n : Int))).run Try.prog W = .ok (.slice (some ⟨W.heap.size, 0, none⟩) n n) (W.alloc (.cells (madeCells #[.int .i64 0] n) 2)) := by
    intro W
    have := run_make (P := Try.prog) W 49 2 i0 _ Try.underlying49 hi0 hz0 .i64 .i64 n n (by omega) (by omega) (by rw [hz2]; omega) (by omega)
    rw [hz1] at this
    simpa [Value.cells] using this
  clear hi0 hz0 hz1 hz2
  have HML := Lib.hid hml; clear hml
  have HLL := Lib.hid hl.len
  go_enter Try.func46, Try.ntmps46
  go_wp2_with fail
  refine calls_abs (fun W => Below w.heap.size w W ∧ BoxAt W w.heap.size #[.int .i64 0, .int .i64 0, .slice none 0 0, .int .i64 0, .int .i64 0, .slice none 0 0, .slice none 0 0, .slice none 0 0, .int .i64 0, .slice none 0 0] 73) ⟨(Below.refl _ _).alloc (Nat.le_refl _) _, BoxAt.new _ _ _⟩ ?_
  rintro W0 ⟨hB, hz⟩
  refine (snewStore_any rd mo _).mono ?_
  rintro e w1 ⟨A1, n1, c1, rfl, hG, hb1⟩
  have hs0 := hB.size
  have hs1 := hb1.size
  have lz0 := hz.lt
  replace hz := hz.below hb1 hz.lt
  replace hB := bstep hB hB.size hb1
  clear hb1
  generalize hqe : newStore rd mo = q at *
  have HQ := Lib.hid hqe; clear hqe
  unfold stV
  go_upto_region 2 with fail
  refine wp_abs (fun W => Below w.heap.size w W ∧ BoxAt W w.heap.size #[.int .i64 0, .int .i64 0, .slice none 0 0, .int .i64 0, .int .i64 0, .slice none 0 0, .slice none 0 0, .slice none 0 0, .int .i64 0, .slice none 0 0] 73 ∧ BoxAt W w1.heap.size #[.int .i64 q.1.rd, .int .i64 q.1.mo, .slice A1 n1 c1, .int .i64 q.1.fi, .int .i64 q.1.la] 62 ∧ RgsW w.heap.size w1.heap.size W A1 n1 c1 q.1.rs) ⟨hB.alloc hB.size _, hz.alloc _, BoxAt.new _ _ _, (hG.mono hs0 (Nat.le_refl _)).al (Nat.le_refl _) _⟩ ?_
  clear hB hz hG
  rintro W1 ⟨hB, hz, hs, hG⟩
  generalize w1.heap.size = S1 at *
  have lS := hs.lt
  replace hl := hl.below hB hh
  have hhi : hi ≤ W1.heap.size := Nat.le_trans hh hB.size
  obtain ⟨M, hMe⟩ : ∃ M, M = W1.heap.size := ⟨_, rfl⟩
  have hM : M ≤ W1.heap.size := by omega
  have hSM : S1 ≤ M := by omega
  have hSM2 : S1 < M := by omega
  have hNM : w.heap.size < M := by omega
  clear hMe
  refine wp_region2v (fun w w' => Below w.heap.size w w') (fun _ _ h => h.size) (fun _ => Below.refl _ _) (fun L W' => Below w.heap.size w W' ∧ BoxAt W' w.heap.size #[.int .i64 0, .int .i64 0, .slice none 0 0, .int .i64 0, .int .i64 0, .slice none 0 0, .slice none 0 0, .slice none 0 0, .int .i64 0, .slice none 0 0] 73 ∧ BoxAt W' S1 #[.int .i64 q.1.rd, .int .i64 q.1.mo, .slice A1 n1 c1, .int .i64 q.1.fi, .int .i64 q.1.la] 62 ∧ RgsW w.heap.size S1 W' A1 n1 c1 q.1.rs ∧ ListsW lo hi W' A n cap js ∧ hi ≤ W'.heap.size ∧ M ≤ W'.heap.size) (ncAV q A A1 n cap n1 c1 S1 M js) (fun j => [0, 0, 0, 0, 0, 0, 0, 2, 1].getD j 0) [(8, 7)] (by kernel_rfl) (by kernel_rfl) ?_ ?_ ?_
    (.still rfl ?a0 <| .still rfl ?a1 <| .grow rfl ?a2 <| .still rfl ?a3 <| .still rfl ?a4 <| .grow rfl ?a5 <| .grow rfl ?a6 <| .make rfl ?a7 <| .store rfl ?a8 <| .nil) ?_ ?_
  · exact ⟨fun _ _ _ h ⟨A2, c2, e, hp⟩ => ⟨A2, c2, (h 2 (List.mem_singleton.2 rfl)).symm.trans e, hp⟩, fun _ _ _ h ⟨g5, e, hp⟩ => ⟨g5, (h 5 (List.mem_singleton.2 rfl)).symm.trans e, hp⟩, fun _ _ _ h ⟨A2, c2, g5, e, hp⟩ => ⟨A2, c2, g5, (h 6 (List.mem_singleton.2 rfl)).symm.trans e, hp⟩, fun _ _ _ h ⟨g, e, hp⟩ => ⟨g, (h 7 (List.mem_singleton.2 rfl)).symm.trans e, hp⟩, fun _ _ _ h ⟨g, A2, c2, g5, e, hp⟩ => ⟨g, A2, c2, g5, (h 7 (List.mem_singleton.2 rfl)).symm.trans e, hp⟩, trivial⟩
  · exact ⟨fun σ w w' hb ⟨A2, c2, e, hp⟩ => ⟨A2, c2, e, hp.belowN hb⟩, fun σ w w' hb ⟨g5, e, hp⟩ => ⟨g5, e, hp.belowN hb⟩, fun σ w w' hb ⟨A2, c2, g5, e, hp⟩ => ⟨A2, c2, g5, e, hp.belowN hb⟩, fun σ w w' hb ⟨g, e, hg, x0, x1, x2, x3, x4, x5, x6, x7, x8, x9, hx⟩ => ⟨g, e, hg, x0, x1, x2, x3, x4, x5, x6, x7, x8, x9, hx.below hb hx.lt⟩, fun σ w w' hb ⟨g, A2, c2, g5, e, hg, hx, hp⟩ => ⟨g, A2, c2, g5, e, hg, hx.below hb hx.lt, hp.belowN hb⟩, trivial⟩
  · exact ⟨hB.drew, hz, hs, hG, hl, hhi, hM⟩
  case a0 =>
    go_light
    intro L σ W' hcl hL hC hw
    have ks := hC.2.2.1.cell
    clear hw hcl hL hC
    refine OpGoes.step fun K hK => ?_
    unfold OpGoes
    go_simp
    exact hK _ _ ⟨rfl, rfl⟩
  case a1 | a3 | a4 =>
    go_light
    intro L σ W' hcl hL hC hw
    try have e3 := wT hw 3 rfl
    clear hw hcl hL hC
    refine OpGoes.step fun K hK => ?_
    unfold OpGoes
    go_simp
    exact hK _ _ ⟨rfl, rfl⟩
  case a2 =>
    go_light
    intro L σ W' hcl hL hC hw
    have e1 := wV hw 1 rfl
    clear hw
    have HC := Lib.hid hC
    clear hC
    clear hcl hL
    refine OpGoes.step fun K hK => ?_
    unfold OpGoes
    go_simp
    obtain ⟨hB, hz, hs, hG, hl, hhi, hM⟩ := HC.out
    refine (l10ListsN js A n cap lo hi _ hl hhi hn HML.out).mono ?_
    rintro e w1 ⟨A2, c2, rfl, hO2, hb1⟩
    exact ⟨_, rfl, hK _ _ ⟨⟨bstep hB hB.size hb1, hz.below hb1 hz.lt, hs.below hb1 hs.lt, hG.below hb1 (Nat.le_trans hSM hM), hl.below hb1 hhi, Nat.le_trans hhi hb1.size, Nat.le_trans hM hb1.size⟩, ⟨A2, c2, rfl, ListsW.mono hO2 hM (Nat.le_refl _)⟩, hb1⟩⟩
  case a5 =>
    go_light
    intro L σ W' hcl hL hC hw
    have e4 := wV hw 4 rfl
    clear hw
    have HC := Lib.hid hC
    clear hC
    clear hcl hL
    refine OpGoes.step fun K hK => ?_
    unfold OpGoes
    go_simp
    obtain ⟨hB, hz, hs, hG, hl, hhi, hM⟩ := HC.out
    have hb1 : Below W'.heap.size W' (W'.alloc (.cells (madeCells #[.int .i64 0] n) 2)) := (Below.refl _ _).alloc (Nat.le_refl _) _
    refine hK _ _ ⟨⟨bstep hB hB.size hb1, hz.below hb1 hz.lt, hs.below hb1 hs.lt, hG.below hb1 (Nat.le_trans hSM hM), hl.below hb1 hhi, Nat.le_trans hhi hb1.size, Nat.le_trans hM hb1.size⟩, ⟨W'.heap.size, rfl, ?_⟩, hb1⟩
    exact ⟨by simp, .inr ⟨W'.heap.size, rfl, by simp, Own.mono (by have := Own.made (e := 2) ic_len (by omega) (0 : Int) #[.int .i64 0] rfl (Nat.le_refl W'.heap.size) n (by unfold maxLen; omega); rwa [Nat.mul_one] at this) hM⟩⟩
  case a6 =>
    go_light
    intro L σ W' hcl hL hC hw
    have e0 := wV hw 0 rfl
    obtain ⟨A2, c2, e2, hp2⟩ := wE hw 2 rfl
    obtain ⟨g5, e5, hp5⟩ := wE hw 5 rfl
    clear hw
    have HC := Lib.hid hC
    clear hC
    clear hcl hL
    refine OpGoes.step fun K hK => ?_
    unfold OpGoes
    go_simp
    obtain ⟨hB, hz, hs, hG, hl, hhi, hM⟩ := HC.out
    exact hK _ _ ⟨⟨hB, hz, hs, hG, hl, hhi, hM⟩, ⟨A2, c2, g5, rfl, hp2, hp5⟩, Below.refl _ _⟩
  case a7 =>
    go_light
    intro L σ W' hcl hL hC hw
    clear hw
    have HC := Lib.hid hC
    clear hC
    clear hcl hL
    refine OpGoes.step fun K hK => ?_
    unfold OpGoes
    go_simp
    obtain ⟨hB, hz, hs, hG, hl, hhi, hM⟩ := HC.out
    have hb1 : Below W'.heap.size W' (W'.alloc (.cells #[.int .i64 0, .int .i64 0, .slice none 0 0, .int .i64 0, .int .i64 0, .slice none 0 0, .slice none 0 0, .slice none 0 0, .int .i64 0, .slice none 0 0] 73)) := (Below.refl _ _).alloc (Nat.le_refl _) _
    exact hK _ _ ⟨⟨bstep hB hB.size hb1, hz.below hb1 hz.lt, hs.below hb1 hs.lt, hG.below hb1 (Nat.le_trans hSM hM), hl.below hb1 hhi, Nat.le_trans hhi hb1.size, Nat.le_trans hM hb1.size⟩, ⟨_, rfl, hM, _, _, _, _, _, _, _, _, _, _, BoxAt.new _ _ _⟩, hb1, rfl, by simp⟩
  case a8 =>
    go_light
    intro L σ W' hcl hL hC hw hne
    obtain ⟨A2, c2, g5, e6, hp6⟩ := wE hw 6 rfl
    obtain ⟨g7, e7, hg7, x0, x1, x2, x3, x4, x5, x6, x7, x8, x9, hbox7⟩ := wE hw 7 rfl
    clear hw hne
    have HC := Lib.hid hC
    clear hC
    clear hcl hL
    have kc_ := hbox7.cell
    have kf_ := hbox7.frozen
    refine OpGoes.step fun K hK => ?_
    unfold OpGoes
    go_simp
    obtain ⟨hB, hz, hs, hG, hl, hhi, hM⟩ := HC.out
    have hset := sets_all (us := [.int .i64 q.1.rd, .int .i64 q.1.mo, .slice A1 n1 c1, .int .i64 q.1.fi, .int .i64 q.1.la, .slice none 0 0, .slice A2 n c2, .slice (some ⟨g5, 0, none⟩) n n, .int .i64 0, .slice none 0 0]) hbox7 rfl
    refine hK undef (setCells W' g7 0 [.int .i64 q.1.rd, .int .i64 q.1.mo, .slice A1 n1 c1, .int .i64 q.1.fi, .int .i64 q.1.la, .slice none 0 0, .slice A2 n c2, .slice (some ⟨g5, 0, none⟩) n n, .int .i64 0, .slice none 0 0]) ⟨⟨(Below.setCells (by omega) _ 0 hB), (BoxAt.sets_ne _ 0 hz (by omega)), (BoxAt.sets_ne _ 0 hs (by omega)), ((RgsW.setsT hG hbox7 (by decide) (by decide) _ 0)), (ListsW.setsT hl hbox7 (by decide) (by decide) _ 0), (size_sts hhi _ 0), (size_sts hM _ 0)⟩, ⟨g7, A2, c2, g5, e7, hg7, hset, (TwoN.setsC hp6 hbox7 _ 0)⟩, Nat.le_of_eq (sets_size _ _ _).symm, keepV ?_⟩
    exact ⟨fun _ _ ⟨A2_x, c2_x, e, hp⟩ => ⟨A2_x, c2_x, e, (LstN.setsC hp hbox7 _ 0)⟩, fun _ _ ⟨g5_x, e, hp⟩ => ⟨g5_x, e, (IntN.setsC hp hbox7 _ 0)⟩, fun _ _ ⟨A2_x, c2_x, g5_x, e, hp⟩ => ⟨A2_x, c2_x, g5_x, e, (TwoN.setsC hp hbox7 _ 0)⟩, fun _ _ _ => ⟨g7, e7, hg7, _, _, _, _, _, _, _, _, _, _, hset⟩, fun h => absurd rfl h, trivial⟩
  · intro L L' W' hLL hC
    obtain ⟨hB, hz, hs, hG, hl, hhi, hM⟩ := hC
    exact ⟨hB, hz, hs, hG, hl, hhi, hM⟩
  · intro σ L W' hall hC hRR
    obtain ⟨hB, hz, hs, hG, hl, hhi, hM⟩ := hC
    obtain ⟨g7, A2, c2, g5, e7, hg8, s8, hp8⟩ := dE hRR 8 rfl
    clear hRR hs hl hhi hmk
    simp only [lexAll]
    go_simp
    go_step
    go_wp2
    generalize hC7 : g7 = C7 at *
    have hNC : w.heap.size < C7 := by omega
    have hJ : LstN w.heap.size W' A2 n c2 js := ListsW.mono hp8.1 (by omega) (Nat.le_refl _)
    have hI : IntN w.heap.size W' (some ⟨g5, 0, none⟩) n n (List.replicate n 0) := SlW.mono hp8.2 (by omega) (Nat.le_refl _)
    go_loopw [11] (fun s11 W => ∃ (i : Nat) (B : Option Addr) (c : Nat), i ≤ n ∧ s11 = .int .i64 i ∧ Below w.heap.size w W ∧ BoxAt W w.heap.size #[.int .i64 0, .int .i64 0, .slice none 0 0, .int .i64 0, .int .i64 0, .slice none 0 0, .slice none 0 0, .slice none 0 0, .int .i64 0, .slice none 0 0] 73 ∧ RgsW w.heap.size S1 W A1 n1 c1 q.1.rs ∧ LstN w.heap.size W A2 n c2 js ∧ IntN w.heap.size W (some ⟨g5, 0, none⟩) n n (List.replicate n 0) ∧ BoxAt W C7 #[.int .i64 q.1.rd, .int .i64 q.1.mo, .slice A1 n1 c1, .int .i64 q.1.fi, .int .i64 q.1.la, .slice B i c, .slice A2 n c2, .slice (some ⟨g5, 0, none⟩) n n, .int .i64 0, .slice none 0 0] 73 ∧ W.ownsRow (C7 + 1) 84 12 (.slice B i c) i ((List.replicate i resting).flatMap Hd.cs)) (fun s11 _ => n - (intOf s11).toNat)
    case atStart =>
      exact ⟨0, none, 0, Nat.zero_le _, rfl, hB, hz, hG, hJ, hI, s8, World.ownsRow_nil _ _ _ _⟩
    case round =>
      clear hB hz hG hJ hI s8 hM hp8
      obtain ⟨i, B, c, hin, rfl, hB, hz, hG, hJ, hI, hc, hO⟩ := hrel
      have lC := hc.lt
      by_cases hlt : i < n
      · have g1 : (i : Int) < (n : Int) := by omega
        have g2 : (0 : Int) ≤ (i : Int) := by omega
        obtain ⟨M, hMe⟩ : ∃ M, M = wr.heap.size := ⟨_, rfl⟩
        have hM : M ≤ wr.heap.size := by omega
        have hSM : S1 ≤ M := by omega
        have hCM : C7 < M := by omega
        have hNM2 : w.heap.size < M := by omega
        have hRB : ∀ k, (Value.slice B i c).ownBlock = some k → k < M := fun k hk => by have := (hO.lt k hk).2; omega
        clear hMe
        go_upto_region 6 with fail
        refine wp_region2v (fun w w' => Below w.heap.size w w') (fun _ _ h => h.size) (fun _ => Below.refl _ _) (fun L W' => Below w.heap.size w W' ∧ BoxAt W' w.heap.size #[.int .i64 0, .int .i64 0, .slice none 0 0, .int .i64 0, .int .i64 0, .slice none 0 0, .slice none 0 0, .slice none 0 0, .int .i64 0, .slice none 0 0] 73 ∧ RgsW w.heap.size S1 W' A1 n1 c1 q.1.rs ∧ LstN w.heap.size W' A2 n c2 js ∧ IntN w.heap.size W' (some ⟨g5, 0, none⟩) n n (List.replicate n 0) ∧ M ≤ W'.heap.size ∧ (L 4 = false → W'.ownsRow (C7 + 1) 84 12 (.slice B i c) i ((List.replicate i resting).flatMap Hd.cs)) ∧ (∃ x0, BoxAt W' C7 #[.int .i64 q.1.rd, .int .i64 q.1.mo, .slice A1 n1 c1, .int .i64 q.1.fi, .int .i64 q.1.la, x0, .slice A2 n c2, .slice (some ⟨g5, 0, none⟩) n n, .int .i64 0, .slice none 0 0] 73) ∧ (L 6 = false → BoxAt W' C7 #[.int .i64 q.1.rd, .int .i64 q.1.mo, .slice A1 n1 c1, .int .i64 q.1.fi, .int .i64 q.1.la, .slice B i c, .slice A2 n c2, .slice (some ⟨g5, 0, none⟩) n n, .int .i64 0, .slice none 0 0] 73)) (ncBV q A1 A2 B n n1 c1 c2 g5 i c C7 M) (fun j => [0, 0, 0, 0, 1, 0, 1].getD j 0) [] (by kernel_rfl) (by kernel_rfl) ?_ ?_ ?_
          (.still rfl ?a0 <| .still rfl ?a1 <| .grow rfl ?a2 <| .grow rfl ?a3 <| .store rfl ?a4 <| .still rfl ?a5 <| .store rfl ?a6 <| .nil) ?_ ?_
        · exact ⟨fun _ _ _ h ⟨g3, e, hp⟩ => ⟨g3, (h 3 (List.mem_singleton.2 rfl)).symm.trans e, hp⟩, fun _ _ _ h ⟨B2, cc, e, hp⟩ => ⟨B2, cc, (h 4 (List.mem_singleton.2 rfl)).symm.trans e, hp⟩, fun _ _ _ _ h => h, trivial⟩
        · exact ⟨fun σ w w' hb ⟨g3, e, hp⟩ => ⟨g3, e, ⟨hp.1.below hb hp.1.lt, hp.2⟩⟩, fun σ w w' hb ⟨B2, cc, e, hp⟩ => ⟨B2, cc, e, own_keep hp hb⟩, fun σ w w' hb ⟨B2, cc, hx, hp⟩ => ⟨B2, cc, hx.below hb hx.lt, own_keep hp hb⟩, trivial⟩
        · exact ⟨hB.drew, hz, hG, hJ, hI, hM, fun _ => hO, ⟨_, hc⟩, fun _ => hc⟩
        case a0 | a5 =>
          go_light
          intro L σ W' hcl hL hC hw
          clear hw hcl hL hC
          refine OpGoes.step fun K hK => ?_
          unfold OpGoes
          go_simp
          exact hK _ _ ⟨rfl, rfl⟩
        case a1 =>
          go_light
          intro L σ W' hcl hL hC hw
          have e0 := wV hw 0 rfl
          have kc := (hC.2.2.2.2.2.2.2.2 (hcl.not (j := 6) (k := 4) (by kernel_rfl) (hcl.not (j := 4) (k := 1) (by kernel_rfl) hL))).cell
          clear hw hcl hL hC
          refine OpGoes.step fun K hK => ?_
          unfold OpGoes
          go_simp
          exact hK _ _ ⟨rfl, rfl⟩
        case a2 =>
          go_light
          intro L σ W' hcl hL hC hw
          clear hw
          have HC := Lib.hid hC
          clear hC
          clear hcl hL
          refine OpGoes.step fun K hK => ?_
          unfold OpGoes
          go_simp
          obtain ⟨hB, hz, hG, hJ, hI, hM, hO, ⟨_, hc⟩, hc_o⟩ := HC.out
          refine (sresting_any _).mono ?_
          rintro e w1 ⟨rfl, hb1⟩
          exact ⟨_, rfl, hK _ _ ⟨⟨bstep hB hB.size hb1, hz.below hb1 hz.lt, hG.below hb1 (Nat.le_trans hSM hM), hJ.belowN hb1, hI.belowN hb1, Nat.le_trans hM hb1.size, fun h => own_keep (hO (by simpa [upd] using h)) hb1, ⟨_, hc.below hb1 hc.lt⟩, fun h => (hc_o (by simpa [upd] using h)).below hb1 (hc_o (by simpa [upd] using h)).lt⟩, rfl, hb1⟩⟩
        case a3 =>
          go_light
          intro L σ W' hcl hL hC hw
          have e2 := wV hw 2 rfl
          clear hw
          have HC := Lib.hid hC
          clear hC
          clear hcl hL
          refine OpGoes.step fun K hK => ?_
          unfold OpGoes
          go_simp
          obtain ⟨hB, hz, hG, hJ, hI, hM, hO, ⟨_, hc⟩, hc_o⟩ := HC.out
          have hb1 : Below W'.heap.size W' (W'.alloc (.cells #[.int .i64 resting.at_, .int .i64 resting.v, .int .i64 resting.r, .int .i64 resting.t, .bool resting.seen.s, .int .i64 resting.seen.n, .bool resting.seen.f, .int .i64 resting.seen.v, .int .i64 resting.tr, .int .i64 resting.sp, .bool resting.ag, .int .i64 resting.re] 84)) := (Below.refl _ _).alloc (Nat.le_refl _) _
          exact hK _ _ ⟨⟨bstep hB hB.size hb1, hz.below hb1 hz.lt, hG.below hb1 (Nat.le_trans hSM hM), hJ.belowN hb1, hI.belowN hb1, Nat.le_trans hM hb1.size, fun h => own_keep (hO (by simpa [upd] using h)) hb1, ⟨_, hc.below hb1 hc.lt⟩, fun h => (hc_o (by simpa [upd] using h)).below hb1 (hc_o (by simpa [upd] using h)).lt⟩, ⟨W'.heap.size, rfl, BoxAt.new _ _ _, hM⟩, hb1⟩
        case a4 =>
          go_light
          intro L σ W' hcl hL hC hw hne
          have e1 := wV hw 1 rfl
          obtain ⟨g3, e3, hp3⟩ := wE hw 3 rfl
          clear hw hne
          obtain ⟨hB, hz, hG, hJ, hI, hM, hO, ⟨_, hc⟩, hc_o⟩ := hC
          have hO4 := (hO hL)
          clear hcl hL
          refine OpGoes.append_own rfl (.tmp 32) (.tmp 34) _ rfl (C7 + 1) 84 iH _ 12 96 Try.underlying69 HI.out HZ0.out HZ1.out HZ2.out rfl (by omega) (.slice B i c) i _ (by go_simp) hO4 ⟨g3, 0, none⟩ 1 1 [.int .i64 resting.at_, .int .i64 resting.v, .int .i64 resting.r, .int .i64 resting.t, .bool resting.seen.s, .int .i64 resting.seen.n, .bool resting.seen.f, .int .i64 resting.seen.v, .int .i64 resting.tr, .int .i64 resting.sp, .bool resting.ag, .int .i64 resting.re] (by go_simp) rfl (news_box hp3.1) (by intro u hu; simp at hu; rcases hu with rfl | rfl | rfl | rfl | rfl | rfl | rfl | rfl | rfl | rfl | rfl | rfl <;> rfl) (by unfold maxLen; omega) (by omega) (by omega) ?_
          intro v' w' hO' hg hat
          have kT : ∀ T, 84 ≠ T → KeepT T W' w' := fun T hT => KeepT.grown hO4 hg hT
          obtain ⟨B2, cc, rfl, hP'⟩ := SlW.of_own (f := Hd.cs) (l := List.replicate i resting ++ [resting]) (n := i + 1) (by rw [List.flatMap_append]; exact hO') (by simp)
          have hP2 : SlW Hd.cs 12 84 (C7 + 1) w'.heap.size w' B2 (i + 1) cc (List.replicate (i + 1) resting) := by rw [List.replicate_succ']; exact hP'
          refine ⟨⟨Below.grown hB hg (Nat.le_trans (by omega) hM) (fun k hk => by have := (hO4.lt k hk).1; omega), hz.keepT (kT _ (by decide)), hG.keepT (kT _ (by decide)) (kT _ (by decide)), hJ.keepT (kT _ (by decide)) (kT _ (by decide)) hg.size, hI.keepT (kT _ (by decide)) hg.size, Nat.le_trans hM hg.size, fun h => absurd h (by simp [upd]), ⟨_, hc.keepT (kT _ (by decide))⟩, fun h => (hc_o (by simpa [upd] using h)).keepT (kT _ (by decide))⟩, ⟨B2, cc, rfl, SlW.own hP2 Hd.cs_len⟩, hg.size, fun j hj hn hR => ?_⟩
          refine keepV ?_ j hj hn hR
          exact ⟨fun _ _ ⟨g3, e, hp⟩ => ⟨g3, e, ⟨hp.1.grown2 hg (fun e => by have := hRB _ e; have := hp.2; omega), hp.2⟩⟩, fun h => absurd rfl h, fun _ h => absurd (h.symm.trans (show waits _ _ _ = true by kernel_rfl)) (by decide), trivial⟩
        case a6 =>
          go_light
          intro L σ W' hcl hL hC hw hne
          obtain ⟨B2, cc, e4, hp4⟩ := wE hw 4 rfl
          have e5 := wV hw 5 rfl
          clear hw hne
          have HC := Lib.hid hC
          obtain ⟨hB, hz, hG, hJ, hI, hM, hO, ⟨_, hc⟩, hc_o⟩ := hC
          clear hcl hL
          have kc_ := hc.cell
          have kf_ := hc.frozen
          clear hB hz hG hJ hI hM hO hc hc_o
          refine OpGoes.step fun K hK => ?_
          unfold OpGoes
          go_simp
          obtain ⟨hB, hz, hG, hJ, hI, hM, hO, ⟨_, hc⟩, hc_o⟩ := HC.out
          have hset := (hc.set 5 (.slice B2 (i + 1) cc))
          simp only [List.setIfInBounds_toArray, List.set_cons_zero, List.set_cons_succ] at hset
          refine hK _ _ ⟨⟨(hB.setCell (by dsimp only; omega) _), (hz.set_ne (by omega) _ _), (hG.keepT (.set hc (by decide) _ _) (.set hc (by decide) _ _)), (LstN.setsC hJ hc [_] _), (IntN.setsC hI hc [_] _), (size_st hM), fun h => (ownsRow_setCell_below (hO (by simpa [upd] using h)) (by dsimp only; omega) _), ⟨_, hset⟩, fun h => absurd h (by simp [upd])⟩, ⟨B2, cc, hset, (ownsRow_setCell_below hp4 (by dsimp only; omega) _)⟩, by simp, keepV ?_⟩
          exact ⟨fun _ _ ⟨g3_x, e, hp⟩ => ⟨g3_x, e, (⟨hp.1.set_ne (by have := hp.2; omega) _ _, hp.2⟩)⟩, fun _ _ ⟨B2_x, cc_x, e, hp⟩ => ⟨B2_x, cc_x, e, (ownsRow_setCell_below hp (by dsimp only; omega) _)⟩, fun h => absurd rfl h, trivial⟩
        · intro L L' W' hLL hC
          obtain ⟨hB, hz, hG, hJ, hI, hM, hO, ⟨_, hc⟩, hc_o⟩ := hC
          exact ⟨hB, hz, hG, hJ, hI, hM, fun h => hO (hLL _ h), ⟨_, hc⟩, fun h => hc_o (hLL _ h)⟩
        · intro σ L W' hall hC hRR
          obtain ⟨hB, hz, hG, hJ, hI, hM, hO, ⟨_, hc⟩, hc_o⟩ := hC
          obtain ⟨B2, cc, s6, hp6⟩ := dE hRR 6 rfl
          clear hRR
          simp only [lexAll]
          go_simp
          go_step
          go_wp2
          go_roundw
          case rel =>
            go_light
            exact ⟨i + 1, B2, cc, by omega, by go_num, hB, hz, hG, hJ, hI, s6, hp6⟩
          case measure => simp [intOf]; omega
      · have g1 : ¬ (i : Int) < (n : Int) := by omega
        obtain rfl : n = i := by omega
        have hH := SlW.of_own' (f := Hd.cs) hO (by simp)
        have HCW := Lib.hid (show CrW w.heap.size wr.heap.size wr (newC0 rd mo js) (⟨⟨A1, n1, c1⟩, ⟨B, n, c⟩, ⟨A2, n, c2⟩, ⟨some ⟨g5, 0, none⟩, n, n⟩, ⟨none, 0, 0⟩⟩ : CrL) by
          refine ⟨?_, ?_, ?_, ?_, SlW.nil⟩
          · show RgsW _ _ _ _ _ _ (newStore rd mo).1.rs
            rw [HQ.out]; exact hG.mono (Nat.le_refl _) (by omega)
          · show HdsW _ _ _ _ _ _ (List.replicate js.length resting)
            rw [HLL.out]; exact SlW.mono hH (by omega) (Nat.le_refl _)
          · exact hJ
          · show IntsW _ _ _ _ _ _ (List.replicate js.length 0)
            rw [HLL.out]; exact hI)
        cases hq2 : q.2
        · have HV := Lib.hid (show newCrew rd mo js = (.zero, false) by unfold newCrew; rw [HQ.out, hq2]; rfl)
          have kz := hz.cell
          have fz := hz.frozen
          go_wp2
          refine bodyPost_ret (v := .tuple #[crV .zero (⟨⟨none, 0, 0⟩, ⟨none, 0, 0⟩, ⟨none, 0, 0⟩, ⟨none, 0, 0⟩, ⟨none, 0, 0⟩⟩ : CrL), .bool false]) (by simp [results, Try.results46, go_sem, kz, crV, Cr.zero, St.zero]) rfl ⟨(⟨⟨none, 0, 0⟩, ⟨none, 0, 0⟩, ⟨none, 0, 0⟩, ⟨none, 0, 0⟩, ⟨none, 0, 0⟩⟩ : CrL), by rw [HV.out], ?_, ?_⟩
          · rw [HV.out]
            exact ⟨RgsW.nil, SlW.nil, ListsW.nil, SlW.nil, SlW.nil⟩
          · exact Below.setCells (by omega) (crCs .zero (⟨⟨none, 0, 0⟩, ⟨none, 0, 0⟩, ⟨none, 0, 0⟩, ⟨none, 0, 0⟩, ⟨none, 0, 0⟩⟩ : CrL)) 0 hB
        have HFIT := Lib.hid (show CrFit (newC0 rd mo js) from by
          have hns : Neat (newStore rd mo).1 ∨ (newStore rd mo).1 = .zero := newStore_neat rd mo
          refine ⟨?_, ?_, ?_, ?_, HML.out, ?_, by show (0 : Nat) ≤ _; omega⟩
          · show (newStore rd mo).1.rs.length ≤ _
            rcases hns with h | h
            · have := h.2.1; omega
            · rw [h]; decide
          · show ∀ r ∈ (newStore rd mo).1.rs, r.ps.length ≤ _
            rcases hns with h | h
            · exact h.len
            · rw [h]; intro r hr; cases hr
          · show (List.replicate js.length resting).length ≤ _
            rw [List.length_replicate, HLL.out]; exact hn
          · show js.length ≤ _
            rw [HLL.out]; exact hn
          · show (List.replicate js.length (0 : Int)).length ≤ _
            rw [List.length_replicate, HLL.out]; exact hn)
        have HCA := Lib.hid (show (newC0 rd mo js).st = q.1 by show (newStore rd mo).1 = q.1; rw [HQ.out])
        have hcon := screwOk_any (newC0 rd mo js) (⟨⟨A1, n1, c1⟩, ⟨B, n, c⟩, ⟨A2, n, c2⟩, ⟨some ⟨g5, 0, none⟩, n, n⟩, ⟨none, 0, 0⟩⟩ : CrL) w.heap.size wr.heap.size wr HCW.out (Nat.le_refl _) HFIT.out
        unfold crV at hcon
        rw [HCA.out] at hcon
        have HCO := Lib.hid hcon; clear hcon
        have kc := hc.cell
        go_wp2_with fail
        clear kc
        refine (HCO.out).mono ?_
        rintro e w8 ⟨rfl, hb8⟩
        have h78 := hb8.size
        have hC8 := HCW.out.below hb8 (Nat.le_refl _)
        replace hz := hz.below hb8 hz.lt
        replace hc := hc.below hb8 hc.lt
        replace hB := bstep hB hB.size hb8
        clear hb8 hG hJ hI hO hH
        have kc := hc.cell
        have kz := hz.cell
        have fz := hz.frozen
        cases hcr : crOk (newC0 rd mo js)
        · have HV := Lib.hid (show newCrew rd mo js = (.zero, false) by unfold newCrew; rw [hcr]; simp)
          go_wp2
          refine bodyPost_ret (v := .tuple #[crV .zero (⟨⟨none, 0, 0⟩, ⟨none, 0, 0⟩, ⟨none, 0, 0⟩, ⟨none, 0, 0⟩, ⟨none, 0, 0⟩⟩ : CrL), .bool false]) (by simp [results, Try.results46, go_sem, kz, crV, Cr.zero, St.zero]) rfl ⟨(⟨⟨none, 0, 0⟩, ⟨none, 0, 0⟩, ⟨none, 0, 0⟩, ⟨none, 0, 0⟩, ⟨none, 0, 0⟩⟩ : CrL), by rw [HV.out], ?_, ?_⟩
          · rw [HV.out]
            exact ⟨RgsW.nil, SlW.nil, ListsW.nil, SlW.nil, SlW.nil⟩
          · exact Below.setCells (by omega) (crCs .zero (⟨⟨none, 0, 0⟩, ⟨none, 0, 0⟩, ⟨none, 0, 0⟩, ⟨none, 0, 0⟩, ⟨none, 0, 0⟩⟩ : CrL)) 0 hB
        · have HV := Lib.hid (show newCrew rd mo js = (newC0 rd mo js, true) by unfold newCrew; rw [HQ.out, hq2, hcr]; rfl)
          go_wp2
          refine bodyPost_ret (v := .tuple #[crV (newC0 rd mo js) (⟨⟨A1, n1, c1⟩, ⟨B, n, c⟩, ⟨A2, n, c2⟩, ⟨some ⟨g5, 0, none⟩, n, n⟩, ⟨none, 0, 0⟩⟩ : CrL), .bool true]) (by unfold crV; rw [HCA.out]; simp [results, Try.results46, go_sem, kz, newC0]) rfl ⟨(⟨⟨A1, n1, c1⟩, ⟨B, n, c⟩, ⟨A2, n, c2⟩, ⟨some ⟨g5, 0, none⟩, n, n⟩, ⟨none, 0, 0⟩⟩ : CrL), by rw [HV.out], ?_, ?_⟩
          · rw [HV.out]
            exact (CrW.setsC hC8 hz [.int .i64 q.1.rd, .int .i64 q.1.mo, .slice A1 n1 c1, .int .i64 q.1.fi, .int .i64 q.1.la, .slice B n c, .slice A2 n c2, .slice (some ⟨g5, 0, none⟩) n n, .int .i64 0, .slice none 0 0] 0).mono (Nat.le_refl _) (by simp; omega)
          · exact Below.setCells (by omega) [.int .i64 q.1.rd, .int .i64 q.1.mo, .slice A1 n1 c1, .int .i64 q.1.fi, .int .i64 q.1.la, .slice B n c, .slice A2 n c2, .slice (some ⟨g5, 0, none⟩) n n, .int .i64 0, .slice none 0 0] 0 hB
end Go.Proofs.Ytlpcpaehkgaffaa


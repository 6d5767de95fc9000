/-
  The walk of turns, of the model.
-/
import Derived.Test.YtaieigdnfdnnpaaCrewF
namespace Go.Proofs.Ytaieigdnfdnnpaa
set_option linter.unusedSimpArgs false
set_option linter.unusedVariables false
open Go.RowKit
set_option linter.unusedVariables false
attribute [local go_sem] OpUpon
attribute [local go_sem ↓] Go.wp_at_zero Go.wp_at_succ

def turnsS (c : Cr) (l : List Int) : Cr := l.foldl (fun c z => (turnS c z).1) c
def turnsC (c : Cr) (l : List Int) : Cr := if crOk c && decide (l.length ≤ 400) then turnsS c l else .zero
theorem turnsS_ok {c : Cr} (h : crOk c = true) (l : List Int) : crOk (turnsS c l) = true := by
  unfold turnsS
  induction l generalizing c with
  | nil => exact h
  | cons z l ih => exact ih (turnS_ok h z)
theorem turnsS_take {c : Cr} {l : List Int} {i : Nat} {z : Int} (h : l[i]? = some z) : (turnS (turnsS c (l.take i)) z).1 = turnsS c (l.take (i + 1)) := by
  unfold turnsS
  rw [List.take_add_one, h, List.foldl_append]
  rfl
/-- A crew's lists, anywhere from lo on. -/
def CrN (lo : Nat) (w : World) (c : Cr) (y : CrL) : Prop := CrW lo w.heap.size w c y
theorem CrN.belowN {lo : Nat} {w w' : World} {c : Cr} {y : CrL} (h : CrN lo w c y) (hb : Below w.heap.size w w') : CrN lo w' c y := CrW.mono (CrW.below h hb (Nat.le_refl _)) (Nat.le_refl _) hb.size
theorem CrN.setsC {lo : Nat} {w : World} {c : Cr} {y : CrL} (h : CrN lo w c y) {b : Nat} {cs : Array Value} (hk : BoxAt w b cs 88) (us : List Value) (o : Nat) : CrN lo (setCells w b o us) c y :=
  CrW.mono (CrW.setsC h hk us o) (Nat.le_refl _) (Nat.le_of_eq (sets_size us o w).symm)
theorem CrN.drew {lo : Nat} {w : World} {c : Cr} {y : CrL} (h : CrN lo w c y) : CrN lo w.drew c y := CrW.drew h

def tsRV (c d : Cr) (y y1 : CrL) (N O b n cap i : Nat) (z : Int) : List Sl := [.v (.agg #[.int .i64 d.st.rd, .int .i64 d.st.mo, .slice y1.s.A y1.s.n y1.s.cap, .int .i64 d.st.fi, .int .i64 d.st.la, .slice y1.h.A y1.h.n y1.h.cap, .slice y1.j.A y1.j.n y1.j.cap, .slice y1.b.A y1.b.n y1.b.cap, .int .i64 d.ck, .slice y1.e.A y1.e.n y1.e.cap]),
  .v (.slice (some ⟨b, 0, none⟩) n cap),
  .v (.int .i64 ((i : Int))),
  .v (.pointer (some ⟨b, i, none⟩)),
  .v (.int .i64 z),
  .e fun σ w => ∃ (y2 : CrL), σ 5 = .tuple #[.agg #[.int .i64 ((turnS d z).1.st.rd), .int .i64 ((turnS d z).1.st.mo), .slice y2.s.A y2.s.n y2.s.cap, .int .i64 ((turnS d z).1.st.fi), .int .i64 ((turnS d z).1.st.la), .slice y2.h.A y2.h.n y2.h.cap, .slice y2.j.A y2.j.n y2.j.cap, .slice y2.b.A y2.b.n y2.b.cap, .int .i64 ((turnS d z).1.ck), .slice y2.e.A y2.e.n y2.e.cap], .bool ((turnS d z).2)] ∧ CrN (N + 2) w (turnS d z).1 y2,
  .e fun σ w => ∃ (y2 : CrL), σ 6 = .tuple #[.agg #[.int .i64 ((turnS d z).1.st.rd), .int .i64 ((turnS d z).1.st.mo), .slice y2.s.A y2.s.n y2.s.cap, .int .i64 ((turnS d z).1.st.fi), .int .i64 ((turnS d z).1.st.la), .slice y2.h.A y2.h.n y2.h.cap, .slice y2.j.A y2.j.n y2.j.cap, .slice y2.b.A y2.b.n y2.b.cap, .int .i64 ((turnS d z).1.ck), .slice y2.e.A y2.e.n y2.e.cap], .bool ((turnS d z).2)] ∧ CrN (N + 2) w (turnS d z).1 y2,
  .e fun σ w => ∃ (y2 : CrL), σ 7 = .agg #[.int .i64 ((turnS d z).1.st.rd), .int .i64 ((turnS d z).1.st.mo), .slice y2.s.A y2.s.n y2.s.cap, .int .i64 ((turnS d z).1.st.fi), .int .i64 ((turnS d z).1.st.la), .slice y2.h.A y2.h.n y2.h.cap, .slice y2.j.A y2.j.n y2.j.cap, .slice y2.b.A y2.b.n y2.b.cap, .int .i64 ((turnS d z).1.ck), .slice y2.e.A y2.e.n y2.e.cap] ∧ CrN (N + 2) w (turnS d z).1 y2,
  .v (.bool ((turnS d z).2)),
  .e fun σ w => ∃ (y2 : CrL), BoxAt w O #[.int .i64 ((turnS d z).1.st.rd), .int .i64 ((turnS d z).1.st.mo), .slice y2.s.A y2.s.n y2.s.cap, .int .i64 ((turnS d z).1.st.fi), .int .i64 ((turnS d z).1.st.la), .slice y2.h.A y2.h.n y2.h.cap, .slice y2.j.A y2.j.n y2.j.cap, .slice y2.b.A y2.b.n y2.b.cap, .int .i64 ((turnS d z).1.ck), .slice y2.e.A y2.e.n y2.e.cap] 88 ∧ CrN (N + 2) w (turnS d z).1 y2]

set_option maxRecDepth 100000 in
set_option maxHeartbeats 4000000 in
theorem sturns_any (c : Cr) (y : CrL) (lo hi : Nat) (l : List Int) (A : Option Addr) (n cap lo2 hi2 : Nat) (w : World) (hW0 : CrW lo hi w c y) (hh : hi ≤ w.heap.size) (hf : CrFit c) (hl : IntsW lo2 hi2 w A n cap l) (hh2 : hi2 ≤ w.heap.size) (hn : n ≤ 1048576) :
    Calls Try.prog 71 #[crV c y, .slice A n cap] w (RetCr (turnsC c l) w) := by
  have HF := Lib.hid hf; clear hf
  have HLL := Lib.hid hl.1
  unfold crV
  go_enter Try.func71, Try.ntmps71
  go_wp2_with fail
  refine calls_abs (fun W => Below w.heap.size w W ∧ BoxAt W w.heap.size #[.int .i64 c.st.rd, .int .i64 c.st.mo, .slice y.s.A y.s.n y.s.cap, .int .i64 c.st.fi, .int .i64 c.st.la, .slice y.h.A y.h.n y.h.cap, .slice y.j.A y.j.n y.j.cap, .slice y.b.A y.b.n y.b.cap, .int .i64 c.ck, .slice y.e.A y.e.n y.e.cap] 88 ∧ BoxAt W (w.heap.size + 1) #[.int .i64 0, .int .i64 0, .slice none 0 0, .int .i64 0, .int .i64 0, .slice none 0 0, .slice none 0 0, .slice none 0 0, .int .i64 0, .slice none 0 0] 88) ⟨((Below.refl _ _).alloc (Nat.le_refl _) _).alloc (by simp) _, (BoxAt.new _ _ _).alloc _, BoxAt.new' (by simp)⟩ ?_
  rintro W0 ⟨hB, hx, hz⟩
  refine (screwOk_any c y lo hi _ (hW0.below hB hh) (Nat.le_trans hh hB.size) HF.out).mono ?_
  rintro e w1 ⟨rfl, hb1⟩
  replace hx := hx.below hb1 hx.lt
  replace hz := hz.below hb1 hz.lt
  replace hB := bstep hB hB.size hb1
  clear hb1
  have kx := hx.cell
  have kz := hz.cell
  have fz := hz.frozen
  cases hok : crOk c
  · have HV := Lib.hid (show turnsC c l = .zero by unfold turnsC; rw [hok]; rfl)
    go_wp2
    refine bodyPost_ret (v := crV .zero ⟨⟨none, 0, 0⟩, ⟨none, 0, 0⟩, ⟨none, 0, 0⟩, ⟨none, 0, 0⟩, ⟨none, 0, 0⟩⟩) (by simp [results, Try.results71, go_sem, kz, crV, Cr.zero, St.zero]) rfl ⟨⟨⟨none, 0, 0⟩, ⟨none, 0, 0⟩, ⟨none, 0, 0⟩, ⟨none, 0, 0⟩, ⟨none, 0, 0⟩⟩, by rw [HV.out], ?_, ?_⟩
    · rw [HV.out]
      exact ⟨RgsW.nil, SlW.nil, ListsW.nil, SlW.nil, SlW.nil⟩
    · exact Below.setCells (by omega) (crCs .zero ⟨⟨none, 0, 0⟩, ⟨none, 0, 0⟩, ⟨none, 0, 0⟩, ⟨none, 0, 0⟩, ⟨none, 0, 0⟩⟩) 0 hB
  by_cases h4 : n ≤ 400
  case neg =>
    have HV := Lib.hid (show turnsC c l = .zero by unfold turnsC; rw [HLL.out, decide_eq_false h4, Bool.and_false]; rfl)
    have h4' : (400 : Int) < (n : Int) := by omega
    have h4b : decide ((400 : Int) < (n : Int)) = true := decide_eq_true h4'
    go_wp2
    refine bodyPost_ret (v := crV .zero ⟨⟨none, 0, 0⟩, ⟨none, 0, 0⟩, ⟨none, 0, 0⟩, ⟨none, 0, 0⟩, ⟨none, 0, 0⟩⟩) (by simp [results, Try.results71, go_sem, kz, crV, Cr.zero, St.zero]) rfl ⟨⟨⟨none, 0, 0⟩, ⟨none, 0, 0⟩, ⟨none, 0, 0⟩, ⟨none, 0, 0⟩, ⟨none, 0, 0⟩⟩, by rw [HV.out], ?_, ?_⟩
    · rw [HV.out]
      exact ⟨RgsW.nil, SlW.nil, ListsW.nil, SlW.nil, SlW.nil⟩
    · exact Below.setCells (by omega) (crCs .zero ⟨⟨none, 0, 0⟩, ⟨none, 0, 0⟩, ⟨none, 0, 0⟩, ⟨none, 0, 0⟩, ⟨none, 0, 0⟩⟩) 0 hB
  have HV := Lib.hid (show turnsC c l = turnsS c l by unfold turnsC; rw [hok, HLL.out, decide_eq_true h4]; rfl)
  have HOK := Lib.hid hok
  have h4' : ¬ (400 : Int) < (n : Int) := by omega
  have h4b : decide ((400 : Int) < (n : Int)) = false := decide_eq_false h4'
  go_wp2_with fail
  clear kx kz fz
  refine (l10Copy_any c y lo hi _ (hW0.below hB hh) (Nat.le_trans hh hB.size) (crOk_neat HOK.out)).mono ?_
  rintro e w2 ⟨y1, l1, u1, l2, u2, rfl, hC1, hb2⟩
  have hQ : w.heap.size + 2 ≤ w1.heap.size := by have := hz.lt; omega
  have hC : CrN (w.heap.size + 2) w2 c y1 := CrW.mono hC1.crw hQ (Nat.le_refl _)
  replace hx := hx.below hb2 hx.lt
  replace hz := hz.below hb2 hz.lt
  replace hB := bstep hB hB.size hb2
  have hQ2 := hb2.size
  clear hb2 hC1 hok
  unfold crV
  go_wp2
  generalize hOe : w2.heap.size = O at *
  go_loopw [6] (fun s6 W => ∃ (i : Nat) (d : Cr) (y1 : CrL), i ≤ n ∧ s6 = .int .i64 i ∧ Below w.heap.size w W ∧ BoxAt W w.heap.size #[.int .i64 c.st.rd, .int .i64 c.st.mo, .slice y.s.A y.s.n y.s.cap, .int .i64 c.st.fi, .int .i64 c.st.la, .slice y.h.A y.h.n y.h.cap, .slice y.j.A y.j.n y.j.cap, .slice y.b.A y.b.n y.b.cap, .int .i64 c.ck, .slice y.e.A y.e.n y.e.cap] 88 ∧ BoxAt W (w.heap.size + 1) #[.int .i64 0, .int .i64 0, .slice none 0 0, .int .i64 0, .int .i64 0, .slice none 0 0, .slice none 0 0, .slice none 0 0, .int .i64 0, .slice none 0 0] 88 ∧ BoxAt W O #[.int .i64 d.st.rd, .int .i64 d.st.mo, .slice y1.s.A y1.s.n y1.s.cap, .int .i64 d.st.fi, .int .i64 d.st.la, .slice y1.h.A y1.h.n y1.h.cap, .slice y1.j.A y1.j.n y1.j.cap, .slice y1.b.A y1.b.n y1.b.cap, .int .i64 d.ck, .slice y1.e.A y1.e.n y1.e.cap] 88 ∧ CrN (w.heap.size + 2) W d y1 ∧ crOk d = true ∧ d = turnsS c (l.take i)) (fun s6 _ => n - (intOf s6).toNat)
  case atStart =>
    refine ⟨0, c, y1, Nat.zero_le _, rfl, hB.alloc (by omega) _, hx.alloc _, hz.alloc _, BoxAt.new' hOe.symm, hC.belowN ((Below.refl _ _).alloc (Nat.le_refl _) _), HOK.out, by simp [turnsS]⟩
  case round =>
    clear hB hx hz hC
    obtain ⟨i, d, y1, hin, rfl, hB, hx, hz, ho, hC, hdk, hde⟩ := hrel
    have HDK := Lib.hid hdk
    have HDE := Lib.hid hde
    clear hdk hde
    have hO1 := ho.lt
    have hM : w.heap.size + 2 ≤ wr.heap.size := by have := hB.size; omega
    by_cases hlt : i < n
    · obtain ⟨b, z, A', hbl, hbh, hli, hlc0⟩ := SlW.at_ (SlW.below hl hB hh2) ic_len hlt
      subst A'
      have HLI := Lib.hid hli; clear hli
      have hlc : CellsAt wr b i [.int .i64 z] := fun j u hu => by
        have := hlc0 j u hu
        rwa [Nat.mul_one] at this
      clear hlc0
      have g1 : (i : Int) < (n : Int) := by omega
      have g2 : (0 : Int) ≤ (i : Int) := by omega
      have hbw : b < w.heap.size := by omega
      go_upto_region 7 with fail
      refine wp_region2v (fun w w' => Below w.heap.size w w') (fun _ _ h => h.size) (fun _ => Below.refl _ _) (fun L W' => Below w.heap.size w W' ∧ BoxAt W' w.heap.size #[.int .i64 c.st.rd, .int .i64 c.st.mo, .slice y.s.A y.s.n y.s.cap, .int .i64 c.st.fi, .int .i64 c.st.la, .slice y.h.A y.h.n y.h.cap, .slice y.j.A y.j.n y.j.cap, .slice y.b.A y.b.n y.b.cap, .int .i64 c.ck, .slice y.e.A y.e.n y.e.cap] 88 ∧ BoxAt W' (w.heap.size + 1) #[.int .i64 0, .int .i64 0, .slice none 0 0, .int .i64 0, .int .i64 0, .slice none 0 0, .slice none 0 0, .slice none 0 0, .int .i64 0, .slice none 0 0] 88 ∧ CrN (w.heap.size + 2) W' d y1 ∧ CellsAt W' b i [.int .i64 z] ∧ w.heap.size + 2 ≤ W'.heap.size ∧ (∃ x0 x1 x2 x3 x4 x5 x6 x7 x8 x9, BoxAt W' O #[x0, x1, x2, x3, x4, x5, x6, x7, x8, x9] 88) ∧ (L 9 = false → BoxAt W' O #[.int .i64 d.st.rd, .int .i64 d.st.mo, .slice y1.s.A y1.s.n y1.s.cap, .int .i64 d.st.fi, .int .i64 d.st.la, .slice y1.h.A y1.h.n y1.h.cap, .slice y1.j.A y1.j.n y1.j.cap, .slice y1.b.A y1.b.n y1.b.cap, .int .i64 d.ck, .slice y1.e.A y1.e.n y1.e.cap] 88)) (tsRV c d y y1 w.heap.size O b n cap i z) (fun j => [0, 0, 0, 0, 0, 0, 0, 0, 0, 1].getD j 0) [] (by kernel_rfl) (by kernel_rfl) ?_ ?_ ?_
        (.still rfl ?a0 <| .still rfl ?a1 <| .still rfl ?a2 <| .still rfl ?a3 <| .still rfl ?a4 <| .grow rfl ?a5 <| .still rfl ?a6 <| .still rfl ?a7 <| .still rfl ?a8 <| .store rfl ?a9 <| .nil) ?_ ?_
      · exact ⟨fun _ _ _ h ⟨y2, e, hp⟩ => ⟨y2, (h 5 (List.mem_singleton.2 rfl)).symm.trans e, hp⟩, fun _ _ _ h ⟨y2, e, hp⟩ => ⟨y2, (h 6 (List.mem_singleton.2 rfl)).symm.trans e, hp⟩, fun _ _ _ h ⟨y2, e, hp⟩ => ⟨y2, (h 7 (List.mem_singleton.2 rfl)).symm.trans e, hp⟩, fun _ _ _ _ h => h, trivial⟩
      · exact ⟨fun σ w w' hb ⟨y2, e, hp⟩ => ⟨y2, e, hp.belowN hb⟩, fun σ w w' hb ⟨y2, e, hp⟩ => ⟨y2, e, hp.belowN hb⟩, fun σ w w' hb ⟨y2, e, hp⟩ => ⟨y2, e, hp.belowN hb⟩, fun σ w w' hb ⟨y2, hx, hp⟩ => ⟨y2, hx.below hb hx.lt, hp.belowN hb⟩, trivial⟩
      · exact ⟨hB.drew, hx, hz, hC.drew, hlc, hM, ⟨_, _, _, _, _, _, _, _, _, _, ho⟩, fun _ => ho⟩
      case a1 | a2 | a3 =>
        go_light
        intro L σ W' hcl hL hC hw
        try have e1 := wT hw 1 rfl
        try have e2 := wT hw 2 rfl
        clear hw hcl hL hC
        refine OpGoes.step fun K hK => ?_
        unfold OpGoes
        go_simp
        exact hK _ _ ⟨rfl, rfl⟩
      case a4 =>
        go_light
        intro L σ W' hcl hL hC hw
        have e3 := wV hw 3 rfl
        have dz := hC.2.2.2.2.1 0 _ rfl
        rw [Nat.add_zero] at dz
        clear hw hcl hL hC
        refine OpGoes.step fun K hK => ?_
        unfold OpGoes
        go_simp
        exact hK _ _ ⟨rfl, rfl⟩
      case a0 =>
        go_light
        intro L σ W' hcl hL hC hw
        have ko := (hC.2.2.2.2.2.2.2 (hcl.not (j := 9) (k := 7) (by kernel_rfl) (hcl.not (j := 7) (k := 6) (by kernel_rfl) (hcl.not (j := 6) (k := 5) (by kernel_rfl) (hcl.not (j := 5) (k := 0) (by kernel_rfl) hL))))).cell
        clear hw hcl hL hC
        refine OpGoes.step fun K hK => ?_
        unfold OpGoes
        go_simp
        exact hK _ _ ⟨rfl, rfl⟩
      case a5 =>
        go_light
        intro L σ W' hcl hL hC hw
        have e0 := wV hw 0 rfl
        have e4 := wV hw 4 rfl
        clear hw
        have HC := Lib.hid hC
        clear hC
        clear hcl hL
        refine OpGoes.step fun K hK => ?_
        unfold OpGoes
        go_simp
        obtain ⟨hB, hx, hz, hC, hlc, hM, ⟨_, _, _, _, _, _, _, _, _, _, ho⟩, ho_o⟩ := HC.out
        refine (l10Turn_any d y1 (w.heap.size + 2) _ z _ hC (Nat.le_refl _) HDK.out).mono ?_
        rintro e w1 ⟨y2, rfl, hC2, hb1⟩
        exact ⟨_, rfl, hK _ _ ⟨⟨bstep hB hB.size hb1, hx.below hb1 hx.lt, hz.below hb1 hz.lt, hC.belowN hb1, hlc.below hb1, Nat.le_trans hM hb1.size, ⟨_, _, _, _, _, _, _, _, _, _, ho.below hb1 ho.lt⟩, fun h => (ho_o (by simpa [upd] using h)).below hb1 (ho_o (by simpa [upd] using h)).lt⟩, ⟨y2, rfl, CrW.mono hC2 hM (Nat.le_refl _)⟩, hb1⟩⟩
      case a6 =>
        go_light
        intro L σ W' hcl hL hC hw
        obtain ⟨y2, e5, hp5⟩ := wE hw 5 rfl
        clear hw hcl hL hC
        refine OpGoes.step fun K hK => ?_
        unfold OpGoes
        go_simp
        exact hK _ _ ⟨rfl, ⟨y2, rfl, hp5⟩⟩
      case a7 =>
        go_light
        intro L σ W' hcl hL hC hw
        obtain ⟨y2, e6, hp6⟩ := wE hw 6 rfl
        clear hw hcl hL hC
        refine OpGoes.step fun K hK => ?_
        unfold OpGoes
        go_simp
        exact hK _ _ ⟨rfl, ⟨y2, rfl, hp6⟩⟩
      case a8 =>
        go_light
        intro L σ W' hcl hL hC hw
        obtain ⟨y2, e6, hp6⟩ := wE hw 6 rfl
        clear hw hcl hL hC
        refine OpGoes.step fun K hK => ?_
        unfold OpGoes
        go_simp
        exact hK _ _ ⟨rfl, rfl⟩
      case a9 =>
        go_light
        intro L σ W' hcl hL hC hw hne
        obtain ⟨y2, e7, hp7⟩ := wE hw 7 rfl
        clear hw hne
        have HC := Lib.hid hC
        obtain ⟨hB, hx, hz, hC, hlc, hM, ⟨_, _, _, _, _, _, _, _, _, _, ho⟩, ho_o⟩ := hC
        clear hcl hL
        have kc_ := ho.cell
        have kf_ := ho.frozen
        clear hB hx hz hC hlc hM ho ho_o
        refine OpGoes.step fun K hK => ?_
        unfold OpGoes
        go_simp
        obtain ⟨hB, hx, hz, hC, hlc, hM, ⟨_, _, _, _, _, _, _, _, _, _, ho⟩, ho_o⟩ := HC.out
        have hset := sets_all (us := [.int .i64 ((turnS d z).1.st.rd), .int .i64 ((turnS d z).1.st.mo), .slice y2.s.A y2.s.n y2.s.cap, .int .i64 ((turnS d z).1.st.fi), .int .i64 ((turnS d z).1.st.la), .slice y2.h.A y2.h.n y2.h.cap, .slice y2.j.A y2.j.n y2.j.cap, .slice y2.b.A y2.b.n y2.b.cap, .int .i64 ((turnS d z).1.ck), .slice y2.e.A y2.e.n y2.e.cap]) ho rfl
        refine hK undef (setCells W' O 0 [.int .i64 ((turnS d z).1.st.rd), .int .i64 ((turnS d z).1.st.mo), .slice y2.s.A y2.s.n y2.s.cap, .int .i64 ((turnS d z).1.st.fi), .int .i64 ((turnS d z).1.st.la), .slice y2.h.A y2.h.n y2.h.cap, .slice y2.j.A y2.j.n y2.j.cap, .slice y2.b.A y2.b.n y2.b.cap, .int .i64 ((turnS d z).1.ck), .slice y2.e.A y2.e.n y2.e.cap]) ⟨⟨(Below.setCells (by omega) _ 0 hB), (BoxAt.sets_ne _ 0 hx (by omega)), (BoxAt.sets_ne _ 0 hz (by omega)), (CrN.setsC hC ho _ 0), (CellsAt.same hlc (sets_block (by omega) _ 0 _)), (size_sts hM _ 0), ⟨_, _, _, _, _, _, _, _, _, _, hset⟩, fun h => absurd h (by simp [upd])⟩, ⟨y2, hset, (CrN.setsC hp7 ho _ 0)⟩, Nat.le_of_eq (sets_size _ _ _).symm, keepV ?_⟩
        exact ⟨fun _ _ ⟨y2_x, e, hp⟩ => ⟨y2_x, e, (CrN.setsC hp ho _ 0)⟩, fun _ _ ⟨y2_x, e, hp⟩ => ⟨y2_x, e, (CrN.setsC hp ho _ 0)⟩, fun _ _ ⟨y2_x, e, hp⟩ => ⟨y2_x, e, (CrN.setsC hp ho _ 0)⟩, fun h => absurd rfl h, trivial⟩
      · intro L L' W' hLL hC
        obtain ⟨hB, hx, hz, hC, hlc, hM, ⟨_, _, _, _, _, _, _, _, _, _, ho⟩, ho_o⟩ := hC
        exact ⟨hB, hx, hz, hC, hlc, hM, ⟨_, _, _, _, _, _, _, _, _, _, ho⟩, fun h => ho_o (hLL _ h)⟩
      · intro σ L W' hall hC hRR
        obtain ⟨hB, hx, hz, hC, hlc, hM, ⟨_, _, _, _, _, _, _, _, _, _, ho⟩, ho_o⟩ := hC
        obtain ⟨y2, s9, hp9⟩ := dE hRR 9 rfl
        clear hRR
        simp only [lexAll]
        go_simp
        go_step
        go_wp2
        go_roundw
        case rel =>
          go_light
          refine ⟨i + 1, (turnS d z).1, y2, by omega, by go_num, hB, hx, hz, s9, hp9, turnS_ok HDK.out z, ?_⟩
          rw [HDE.out, turnsS_take HLI.out]
        case measure => simp [intOf]; omega
    · have g1 : ¬ (i : Int) < (n : Int) := by omega
      obtain rfl : n = i := by omega
      have HD := Lib.hid (show turnsS c l = d by rw [HDE.out, List.take_of_length_le (by rw [HLL.out]; exact Nat.le_refl _)])
      have ko := ho.cell
      have kz := hz.cell
      have fz := hz.frozen
      have lz := hz.lt
      go_wp2
      refine bodyPost_ret (v := crV d y1) (by simp [results, Try.results71, go_sem, kz, crV]) rfl ⟨y1, by rw [HV.out, HD.out], ?_, ?_⟩
      · rw [HV.out, HD.out]
        exact (CrW.sts hC (.inl (by omega)) (crCs d y1) 0).mono (by omega) (by simp)
      · exact Below.setCells (by omega) (crCs d y1) 0 hB

end Go.Proofs.Ytaieigdnfdnnpaa

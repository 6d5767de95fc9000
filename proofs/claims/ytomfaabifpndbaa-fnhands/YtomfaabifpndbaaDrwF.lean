/-
  The walk of turns, of the model.
-/
import Derived.Deep.QuietTactic
import Derived.BigQuiet
import Derived.Laws.Bits64
import Derived.Test.YtomfaabifpndbaaCrewF
import Derived.Test.YtomfaabifpndbaaMem
import Derived.Test.YtomfaabifpndbaaGrow
import Derived.Test.YtomfaabifpndbaaChecked
import Derived.Test.YtomfaabifpndbaaIntA
namespace Go.Proofs.Ytomfaabifpndbaa
set_option linter.unusedSimpArgs false
set_option linter.unusedVariables false
open Go.RowKit
set_option linter.unusedVariables false
attribute [local go_sem] OpUpon
attribute [local go_sem ↓] Go.wp_at_zero Go.wp_at_succ

def turnsS (c : Cr) (l : List Int) : Cr := l.foldl (fun c z => (turnS c z).1) c
def turnsC (c : Cr) (l : List Int) : Cr := if crOk c && decide (l.length ≤ 400) then turnsS c l else .zero
theorem turnsS_ok {c : Cr} (h : crOk c = true) (l : List Int) : crOk (turnsS c l) = true := by
  unfold turnsS
  induction l generalizing c with
  | nil => exact h
  | cons z l ih => exact ih (turnS_ok h z)
theorem turnsS_take {c : Cr} {l : List Int} {i : Nat} {z : Int} (h : l[i]? = some z) : (turnS (turnsS c (l.take i)) z).1 = turnsS c (l.take (i + 1)) := by
  unfold turnsS
  rw [List.take_add_one, h, List.foldl_append]
  rfl
/-- A crew's lists, anywhere from lo on. -/
def CrN (lo : Nat) (w : World) (c : Cr) (y : CrL) : Prop := CrW lo w.heap.size w c y
theorem CrN.belowN {lo : Nat} {w w' : World} {c : Cr} {y : CrL} (h : CrN lo w c y) (hb : Below w.heap.size w w') : CrN lo w' c y := CrW.mono (CrW.below h hb (Nat.le_refl _)) (Nat.le_refl _) hb.size
theorem CrN.setsC {lo : Nat} {w : World} {c : Cr} {y : CrL} (h : CrN lo w c y) {b : Nat} {cs : Array Value} (hk : BoxAt w b cs 53) (us : List Value) (o : Nat) : CrN lo (setCells w b o us) c y :=
  CrW.mono (CrW.setsC h hk us o) (Nat.le_refl _) (Nat.le_of_eq (sets_size us o w).symm)
theorem CrN.drew {lo : Nat} {w : World} {c : Cr} {y : CrL} (h : CrN lo w c y) : CrN lo w.drew c y := CrW.drew h

def tsRV (c d : Cr) (y y1 : CrL) (N O b n cap i : Nat) (z : Int) : List Sl := [.v (.agg #[.int .i64 d.st.rd, .int .i64 d.st.mo, .slice y1.s.A y1.s.n y1.s.cap, .int .i64 d.st.fi, .int .i64 d.st.la, .slice y1.h.A y1.h.n y1.h.cap, .slice y1.j.A y1.j.n y1.j.cap, .slice y1.b.A y1.b.n y1.b.cap, .int .i64 d.ck, .slice y1.e.A y1.e.n y1.e.cap]),
  .v (.slice (some ⟨b, 0, none⟩) n cap),
  .v (.int .i64 ((i : Int))),
  .v (.pointer (some ⟨b, i, none⟩)),
  .v (.int .i64 z),
  .e fun σ w => ∃ (y2 : CrL), σ 5 = .tuple #[.agg #[.int .i64 ((turnS d z).1.st.rd), .int .i64 ((turnS d z).1.st.mo), .slice y2.s.A y2.s.n y2.s.cap, .int .i64 ((turnS d z).1.st.fi), .int .i64 ((turnS d z).1.st.la), .slice y2.h.A y2.h.n y2.h.cap, .slice y2.j.A y2.j.n y2.j.cap, .slice y2.b.A y2.b.n y2.b.cap, .int .i64 ((turnS d z).1.ck), .slice y2.e.A y2.e.n y2.e.cap], .bool ((turnS d z).2)] ∧ CrN (N + 2) w (turnS d z).1 y2,
  .e fun σ w => ∃ (y2 : CrL), σ 6 = .tuple #[.agg #[.int .i64 ((turnS d z).1.st.rd), .int .i64 ((turnS d z).1.st.mo), .slice y2.s.A y2.s.n y2.s.cap, .int .i64 ((turnS d z).1.st.fi), .int .i64 ((turnS d z).1.st.la), .slice y2.h.A y2.h.n y2.h.cap, .slice y2.j.A y2.j.n y2.j.cap, .slice y2.b.A y2.b.n y2.b.cap, .int .i64 ((turnS d z).1.ck), .slice y2.e.A y2.e.n y2.e.cap], .bool ((turnS d z).2)] ∧ CrN (N + 2) w (turnS d z).1 y2,
  .e fun σ w => ∃ (y2 : CrL), σ 7 = .agg #[.int .i64 ((turnS d z).1.st.rd), .int .i64 ((turnS d z).1.st.mo), .slice y2.s.A y2.s.n y2.s.cap, .int .i64 ((turnS d z).1.st.fi), .int .i64 ((turnS d z).1.st.la), .slice y2.h.A y2.h.n y2.h.cap, .slice y2.j.A y2.j.n y2.j.cap, .slice y2.b.A y2.b.n y2.b.cap, .int .i64 ((turnS d z).1.ck), .slice y2.e.A y2.e.n y2.e.cap] ∧ CrN (N + 2) w (turnS d z).1 y2,
  .v (.bool ((turnS d z).2)),
  .e fun σ w => ∃ (y2 : CrL), BoxAt w O #[.int .i64 ((turnS d z).1.st.rd), .int .i64 ((turnS d z).1.st.mo), .slice y2.s.A y2.s.n y2.s.cap, .int .i64 ((turnS d z).1.st.fi), .int .i64 ((turnS d z).1.st.la), .slice y2.h.A y2.h.n y2.h.cap, .slice y2.j.A y2.j.n y2.j.cap, .slice y2.b.A y2.b.n y2.b.cap, .int .i64 ((turnS d z).1.ck), .slice y2.e.A y2.e.n y2.e.cap] 53 ∧ CrN (N + 2) w (turnS d z).1 y2]

set_option maxRecDepth 100000 in
set_option maxHeartbeats 4000000 in
theorem sturns_any (c : Cr) (y : CrL) (lo hi : Nat) (l : List Int) (A : Option Addr) (n cap lo2 hi2 : Nat) (w : World) (hW0 : CrW lo hi w c y) (hh : hi ≤ w.heap.size) (hf : CrFit c) (hl : IntsW lo2 hi2 w A n cap l) (hh2 : hi2 ≤ w.heap.size) (hn : n ≤ 1048576) :
    Calls Try.prog 106 #[crV c y, .slice A n cap] w (RetCr (turnsC c l) w) := by
  have HF := Lib.hid hf; clear hf
  have HLL := Lib.hid hl.1
  unfold crV
  go_enter Try.func106, Try.ntmps106
  go_wp2_with fail
  refine calls_abs (fun W => Below w.heap.size w W ∧ BoxAt W w.heap.size #[.int .i64 c.st.rd, .int .i64 c.st.mo, .slice y.s.A y.s.n y.s.cap, .int .i64 c.st.fi, .int .i64 c.st.la, .slice y.h.A y.h.n y.h.cap, .slice y.j.A y.j.n y.j.cap, .slice y.b.A y.b.n y.b.cap, .int .i64 c.ck, .slice y.e.A y.e.n y.e.cap] 53 ∧ BoxAt W (w.heap.size + 1) #[.int .i64 0, .int .i64 0, .slice none 0 0, .int .i64 0, .int .i64 0, .slice none 0 0, .slice none 0 0, .slice none 0 0, .int .i64 0, .slice none 0 0] 53) ⟨((Below.refl _ _).alloc (Nat.le_refl _) _).alloc (by simp) _, (BoxAt.new _ _ _).alloc _, BoxAt.new' (by simp)⟩ ?_
  rintro W0 ⟨hB, hx, hz⟩
  refine (screwOk_any c y lo hi _ (hW0.below hB hh) (Nat.le_trans hh hB.size) HF.out).mono ?_
  rintro e w1 ⟨rfl, hb1⟩
  replace hx := hx.below hb1 hx.lt
  replace hz := hz.below hb1 hz.lt
  replace hB := bstep hB hB.size hb1
  clear hb1
  have kx := hx.cell
  have kz := hz.cell
  have fz := hz.frozen
  cases hok : crOk c
  · have HV := Lib.hid (show turnsC c l = .zero by unfold turnsC; rw [hok]; rfl)
    go_wp2
    refine bodyPost_ret (v := crV .zero ⟨⟨none, 0, 0⟩, ⟨none, 0, 0⟩, ⟨none, 0, 0⟩, ⟨none, 0, 0⟩, ⟨none, 0, 0⟩⟩) (by simp [results, Try.results106, go_sem, kz, crV, Cr.zero, St.zero]) rfl ⟨⟨⟨none, 0, 0⟩, ⟨none, 0, 0⟩, ⟨none, 0, 0⟩, ⟨none, 0, 0⟩, ⟨none, 0, 0⟩⟩, by rw [HV.out], ?_, ?_⟩
    · rw [HV.out]
      exact ⟨RgsW.nil, SlW.nil, ListsW.nil, SlW.nil, SlW.nil⟩
    · exact Below.setCells (by omega) (crCs .zero ⟨⟨none, 0, 0⟩, ⟨none, 0, 0⟩, ⟨none, 0, 0⟩, ⟨none, 0, 0⟩, ⟨none, 0, 0⟩⟩) 0 hB
  by_cases h4 : n ≤ 400
  case neg =>
    have HV := Lib.hid (show turnsC c l = .zero by unfold turnsC; rw [HLL.out, decide_eq_false h4, Bool.and_false]; rfl)
    have h4' : (400 : Int) < (n : Int) := by omega
    have h4b : decide ((400 : Int) < (n : Int)) = true := decide_eq_true h4'
    go_wp2
    refine bodyPost_ret (v := crV .zero ⟨⟨none, 0, 0⟩, ⟨none, 0, 0⟩, ⟨none, 0, 0⟩, ⟨none, 0, 0⟩, ⟨none, 0, 0⟩⟩) (by simp [results, Try.results106, go_sem, kz, crV, Cr.zero, St.zero]) rfl ⟨⟨⟨none, 0, 0⟩, ⟨none, 0, 0⟩, ⟨none, 0, 0⟩, ⟨none, 0, 0⟩, ⟨none, 0, 0⟩⟩, by rw [HV.out], ?_, ?_⟩
    · rw [HV.out]
      exact ⟨RgsW.nil, SlW.nil, ListsW.nil, SlW.nil, SlW.nil⟩
    · exact Below.setCells (by omega) (crCs .zero ⟨⟨none, 0, 0⟩, ⟨none, 0, 0⟩, ⟨none, 0, 0⟩, ⟨none, 0, 0⟩, ⟨none, 0, 0⟩⟩) 0 hB
  have HV := Lib.hid (show turnsC c l = turnsS c l by unfold turnsC; rw [hok, HLL.out, decide_eq_true h4]; rfl)
  have HOK := Lib.hid hok
  have h4' : ¬ (400 : Int) < (n : Int) := by omega
  have h4b : decide ((400 : Int) < (n : Int)) = false := decide_eq_false h4'
  go_wp2_with fail
  clear kx kz fz
  refine (l10Copy_any c y lo hi _ (hW0.below hB hh) (Nat.le_trans hh hB.size) (crOk_neat HOK.out)).mono ?_
  rintro e w2 ⟨y1, l1, u1, l2, u2, rfl, hC1, hb2⟩
  have hQ : w.heap.size + 2 ≤ w1.heap.size := by have := hz.lt; omega
  have hC : CrN (w.heap.size + 2) w2 c y1 := CrW.mono hC1.crw hQ (Nat.le_refl _)
  replace hx := hx.below hb2 hx.lt
  replace hz := hz.below hb2 hz.lt
  replace hB := bstep hB hB.size hb2
  have hQ2 := hb2.size
  clear hb2 hC1 hok
  unfold crV
  go_wp2
  generalize hOe : w2.heap.size = O at *
  go_loopw [6] (fun s6 W => ∃ (i : Nat) (d : Cr) (y1 : CrL), i ≤ n ∧ s6 = .int .i64 i ∧ Below w.heap.size w W ∧ BoxAt W w.heap.size #[.int .i64 c.st.rd, .int .i64 c.st.mo, .slice y.s.A y.s.n y.s.cap, .int .i64 c.st.fi, .int .i64 c.st.la, .slice y.h.A y.h.n y.h.cap, .slice y.j.A y.j.n y.j.cap, .slice y.b.A y.b.n y.b.cap, .int .i64 c.ck, .slice y.e.A y.e.n y.e.cap] 53 ∧ BoxAt W (w.heap.size + 1) #[.int .i64 0, .int .i64 0, .slice none 0 0, .int .i64 0, .int .i64 0, .slice none 0 0, .slice none 0 0, .slice none 0 0, .int .i64 0, .slice none 0 0] 53 ∧ BoxAt W O #[.int .i64 d.st.rd, .int .i64 d.st.mo, .slice y1.s.A y1.s.n y1.s.cap, .int .i64 d.st.fi, .int .i64 d.st.la, .slice y1.h.A y1.h.n y1.h.cap, .slice y1.j.A y1.j.n y1.j.cap, .slice y1.b.A y1.b.n y1.b.cap, .int .i64 d.ck, .slice y1.e.A y1.e.n y1.e.cap] 53 ∧ CrN (w.heap.size + 2) W d y1 ∧ crOk d = true ∧ d = turnsS c (l.take i)) (fun s6 _ => n - (intOf s6).toNat)
  case atStart =>
    refine ⟨0, c, y1, Nat.zero_le _, rfl, hB.alloc (by omega) _, hx.alloc _, hz.alloc _, BoxAt.new' hOe.symm, hC.belowN ((Below.refl _ _).alloc (Nat.le_refl _) _), HOK.out, by simp [turnsS]⟩
  case round =>
    clear hB hx hz hC
    obtain ⟨i, d, y1, hin, rfl, hB, hx, hz, ho, hC, hdk, hde⟩ := hrel
    have HDK := Lib.hid hdk
    have HDE := Lib.hid hde
    clear hdk hde
    have hO1 := ho.lt
    have hM : w.heap.size + 2 ≤ wr.heap.size := by have := hB.size; omega
    by_cases hlt : i < n
    · obtain ⟨b, z, A', hbl, hbh, hli, hlc0⟩ := SlW.at_ (SlW.below hl hB hh2) ic_len hlt
      subst A'
      have HLI := Lib.hid hli; clear hli
      have hlc : CellsAt wr b i [.int .i64 z] := fun j u hu => by
        have := hlc0 j u hu
        rwa [Nat.mul_one] at this
      clear hlc0
      have g1 : (i : Int) < (n : Int) := by omega
      have g2 : (0 : Int) ≤ (i : Int) := by omega
      have hbw : b < w.heap.size := by omega
      go_upto_region 7 with fail
      refine wp_region2v (fun w w' => Below w.heap.size w w') (fun _ _ h => h.size) (fun _ => Below.refl _ _) (fun L W' => Below w.heap.size w W' ∧ BoxAt W' w.heap.size #[.int .i64 c.st.rd, .int .i64 c.st.mo, .slice y.s.A y.s.n y.s.cap, .int .i64 c.st.fi, .int .i64 c.st.la, .slice y.h.A y.h.n y.h.cap, .slice y.j.A y.j.n y.j.cap, .slice y.b.A y.b.n y.b.cap, .int .i64 c.ck, .slice y.e.A y.e.n y.e.cap] 53 ∧ BoxAt W' (w.heap.size + 1) #[.int .i64 0, .int .i64 0, .slice none 0 0, .int .i64 0, .int .i64 0, .slice none 0 0, .slice none 0 0, .slice none 0 0, .int .i64 0, .slice none 0 0] 53 ∧ CrN (w.heap.size + 2) W' d y1 ∧ CellsAt W' b i [.int .i64 z] ∧ w.heap.size + 2 ≤ W'.heap.size ∧ (∃ x0 x1 x2 x3 x4 x5 x6 x7 x8 x9, BoxAt W' O #[x0, x1, x2, x3, x4, x5, x6, x7, x8, x9] 53) ∧ (L 9 = false → BoxAt W' O #[.int .i64 d.st.rd, .int .i64 d.st.mo, .slice y1.s.A y1.s.n y1.s.cap, .int .i64 d.st.fi, .int .i64 d.st.la, .slice y1.h.A y1.h.n y1.h.cap, .slice y1.j.A y1.j.n y1.j.cap, .slice y1.b.A y1.b.n y1.b.cap, .int .i64 d.ck, .slice y1.e.A y1.e.n y1.e.cap] 53)) (tsRV c d y y1 w.heap.size O b n cap i z) (fun j => [0, 0, 0, 0, 0, 0, 0, 0, 0, 1].getD j 0) [] (by kernel_rfl) (by kernel_rfl) ?_ ?_ ?_
        (.still rfl ?a0 <| .still rfl ?a1 <| .still rfl ?a2 <| .still rfl ?a3 <| .still rfl ?a4 <| .grow rfl ?a5 <| .still rfl ?a6 <| .still rfl ?a7 <| .still rfl ?a8 <| .store rfl ?a9 <| .nil) ?_ ?_
      · exact ⟨fun _ _ _ h ⟨y2, e, hp⟩ => ⟨y2, (h 5 (List.mem_singleton.2 rfl)).symm.trans e, hp⟩, fun _ _ _ h ⟨y2, e, hp⟩ => ⟨y2, (h 6 (List.mem_singleton.2 rfl)).symm.trans e, hp⟩, fun _ _ _ h ⟨y2, e, hp⟩ => ⟨y2, (h 7 (List.mem_singleton.2 rfl)).symm.trans e, hp⟩, fun _ _ _ _ h => h, trivial⟩
      · exact ⟨fun σ w w' hb ⟨y2, e, hp⟩ => ⟨y2, e, hp.belowN hb⟩, fun σ w w' hb ⟨y2, e, hp⟩ => ⟨y2, e, hp.belowN hb⟩, fun σ w w' hb ⟨y2, e, hp⟩ => ⟨y2, e, hp.belowN hb⟩, fun σ w w' hb ⟨y2, hx, hp⟩ => ⟨y2, hx.below hb hx.lt, hp.belowN hb⟩, trivial⟩
      · exact ⟨hB.drew, hx, hz, hC.drew, hlc, hM, ⟨_, _, _, _, _, _, _, _, _, _, ho⟩, fun _ => ho⟩
      case a1 | a2 | a3 =>
        go_light
        intro L σ W' hcl hL hC hw
        try have e1 := wT hw 1 rfl
        try have e2 := wT hw 2 rfl
        clear hw hcl hL hC
        refine OpGoes.step fun K hK => ?_
        unfold OpGoes
        go_simp
        exact hK _ _ ⟨rfl, rfl⟩
      case a4 =>
        go_light
        intro L σ W' hcl hL hC hw
        have e3 := wV hw 3 rfl
        have dz := hC.2.2.2.2.1 0 _ rfl
        rw [Nat.add_zero] at dz
        clear hw hcl hL hC
        refine OpGoes.step fun K hK => ?_
        unfold OpGoes
        go_simp
        exact hK _ _ ⟨rfl, rfl⟩
      case a0 =>
        go_light
        intro L σ W' hcl hL hC hw
        have ko := (hC.2.2.2.2.2.2.2 (hcl.not (j := 9) (k := 7) (by kernel_rfl) (hcl.not (j := 7) (k := 6) (by kernel_rfl) (hcl.not (j := 6) (k := 5) (by kernel_rfl) (hcl.not (j := 5) (k := 0) (by kernel_rfl) hL))))).cell
        clear hw hcl hL hC
        refine OpGoes.step fun K hK => ?_
        unfold OpGoes
        go_simp
        exact hK _ _ ⟨rfl, rfl⟩
      case a5 =>
        go_light
        intro L σ W' hcl hL hC hw
        have e0 := wV hw 0 rfl
        have e4 := wV hw 4 rfl
        clear hw
        have HC := Lib.hid hC
        clear hC
        clear hcl hL
        refine OpGoes.step fun K hK => ?_
        unfold OpGoes
        go_simp
        obtain ⟨hB, hx, hz, hC, hlc, hM, ⟨_, _, _, _, _, _, _, _, _, _, ho⟩, ho_o⟩ := HC.out
        refine (l10Turn_any d y1 (w.heap.size + 2) _ z _ hC (Nat.le_refl _) HDK.out).mono ?_
        rintro e w1 ⟨y2, rfl, hC2, hb1⟩
        exact ⟨_, rfl, hK _ _ ⟨⟨bstep hB hB.size hb1, hx.below hb1 hx.lt, hz.below hb1 hz.lt, hC.belowN hb1, hlc.below hb1, Nat.le_trans hM hb1.size, ⟨_, _, _, _, _, _, _, _, _, _, ho.below hb1 ho.lt⟩, fun h => (ho_o (by simpa [upd] using h)).below hb1 (ho_o (by simpa [upd] using h)).lt⟩, ⟨y2, rfl, CrW.mono hC2 hM (Nat.le_refl _)⟩, hb1⟩⟩
      case a6 =>
        go_light
        intro L σ W' hcl hL hC hw
        obtain ⟨y2, e5, hp5⟩ := wE hw 5 rfl
        clear hw hcl hL hC
        refine OpGoes.step fun K hK => ?_
        unfold OpGoes
        go_simp
        exact hK _ _ ⟨rfl, ⟨y2, rfl, hp5⟩⟩
      case a7 =>
        go_light
        intro L σ W' hcl hL hC hw
        obtain ⟨y2, e6, hp6⟩ := wE hw 6 rfl
        clear hw hcl hL hC
        refine OpGoes.step fun K hK => ?_
        unfold OpGoes
        go_simp
        exact hK _ _ ⟨rfl, ⟨y2, rfl, hp6⟩⟩
      case a8 =>
        go_light
        intro L σ W' hcl hL hC hw
        obtain ⟨y2, e6, hp6⟩ := wE hw 6 rfl
        clear hw hcl hL hC
        refine OpGoes.step fun K hK => ?_
        unfold OpGoes
        go_simp
        exact hK _ _ ⟨rfl, rfl⟩
      case a9 =>
        go_light
        intro L σ W' hcl hL hC hw hne
        obtain ⟨y2, e7, hp7⟩ := wE hw 7 rfl
        clear hw hne
        have HC := Lib.hid hC
        obtain ⟨hB, hx, hz, hC, hlc, hM, ⟨_, _, _, _, _, _, _, _, _, _, ho⟩, ho_o⟩ := hC
        clear hcl hL
        have kc_ := ho.cell
        have kf_ := ho.frozen
        clear hB hx hz hC hlc hM ho ho_o
        refine OpGoes.step fun K hK => ?_
        unfold OpGoes
        go_simp
        obtain ⟨hB, hx, hz, hC, hlc, hM, ⟨_, _, _, _, _, _, _, _, _, _, ho⟩, ho_o⟩ := HC.out
        have hset := sets_all (us := [.int .i64 ((turnS d z).1.st.rd), .int .i64 ((turnS d z).1.st.mo), .slice y2.s.A y2.s.n y2.s.cap, .int .i64 ((turnS d z).1.st.fi), .int .i64 ((turnS d z).1.st.la), .slice y2.h.A y2.h.n y2.h.cap, .slice y2.j.A y2.j.n y2.j.cap, .slice y2.b.A y2.b.n y2.b.cap, .int .i64 ((turnS d z).1.ck), .slice y2.e.A y2.e.n y2.e.cap]) ho rfl
        refine hK undef (setCells W' O 0 [.int .i64 ((turnS d z).1.st.rd), .int .i64 ((turnS d z).1.st.mo), .slice y2.s.A y2.s.n y2.s.cap, .int .i64 ((turnS d z).1.st.fi), .int .i64 ((turnS d z).1.st.la), .slice y2.h.A y2.h.n y2.h.cap, .slice y2.j.A y2.j.n y2.j.cap, .slice y2.b.A y2.b.n y2.b.cap, .int .i64 ((turnS d z).1.ck), .slice y2.e.A y2.e.n y2.e.cap]) ⟨⟨(Below.setCells (by omega) _ 0 hB), (BoxAt.sets_ne _ 0 hx (by omega)), (BoxAt.sets_ne _ 0 hz (by omega)), (CrN.setsC hC ho _ 0), (CellsAt.same hlc (sets_block (by omega) _ 0 _)), (size_sts hM _ 0), ⟨_, _, _, _, _, _, _, _, _, _, hset⟩, fun h => absurd h (by simp [upd])⟩, ⟨y2, hset, (CrN.setsC hp7 ho _ 0)⟩, Nat.le_of_eq (sets_size _ _ _).symm, keepV ?_⟩
        exact ⟨fun _ _ ⟨y2_x, e, hp⟩ => ⟨y2_x, e, (CrN.setsC hp ho _ 0)⟩, fun _ _ ⟨y2_x, e, hp⟩ => ⟨y2_x, e, (CrN.setsC hp ho _ 0)⟩, fun _ _ ⟨y2_x, e, hp⟩ => ⟨y2_x, e, (CrN.setsC hp ho _ 0)⟩, fun h => absurd rfl h, trivial⟩
      · intro L L' W' hLL hC
        obtain ⟨hB, hx, hz, hC, hlc, hM, ⟨_, _, _, _, _, _, _, _, _, _, ho⟩, ho_o⟩ := hC
        exact ⟨hB, hx, hz, hC, hlc, hM, ⟨_, _, _, _, _, _, _, _, _, _, ho⟩, fun h => ho_o (hLL _ h)⟩
      · intro σ L W' hall hC hRR
        obtain ⟨hB, hx, hz, hC, hlc, hM, ⟨_, _, _, _, _, _, _, _, _, _, ho⟩, ho_o⟩ := hC
        obtain ⟨y2, s9, hp9⟩ := dE hRR 9 rfl
        clear hRR
        simp only [lexAll]
        go_simp
        go_step
        go_wp2
        go_roundw
        case rel =>
          go_light
          refine ⟨i + 1, (turnS d z).1, y2, by omega, by go_num, hB, hx, hz, s9, hp9, turnS_ok HDK.out z, ?_⟩
          rw [HDE.out, turnsS_take HLI.out]
        case measure => simp [intOf]; omega
    · have g1 : ¬ (i : Int) < (n : Int) := by omega
      obtain rfl : n = i := by omega
      have HD := Lib.hid (show turnsS c l = d by rw [HDE.out, List.take_of_length_le (by rw [HLL.out]; exact Nat.le_refl _)])
      have ko := ho.cell
      have kz := hz.cell
      have fz := hz.frozen
      have lz := hz.lt
      go_wp2
      refine bodyPost_ret (v := crV d y1) (by simp [results, Try.results106, go_sem, kz, crV]) rfl ⟨y1, by rw [HV.out, HD.out], ?_, ?_⟩
      · rw [HV.out, HD.out]
        exact (CrW.sts hC (.inl (by omega)) (crCs d y1) 0).mono (by omega) (by simp)
      · exact Below.setCells (by omega) (crCs d y1) 0 hB

end Go.Proofs.Ytomfaabifpndbaa

/-
  The walk of a new crew, of the model.
-/
namespace Go.Proofs.Ytomfaabifpndbaa
set_option linter.unusedSimpArgs false
set_option linter.unusedVariables false
open Go.RowKit
set_option linter.unusedVariables false
attribute [local go_sem] OpUpon
attribute [local go_sem ↓] Go.wp_at_zero Go.wp_at_succ

def newC0 (rd mo : Int) (js : List (List Int)) : Cr := ⟨(newStore rd mo).1, List.replicate js.length resting, js, List.replicate js.length 0, 0, []⟩
def newCrew (rd mo : Int) (js : List (List Int)) : Cr × Bool := if !(newStore rd mo).2 || !crOk (newC0 rd mo js) then (.zero, false) else (newC0 rd mo js, true)

def LstN (lo : Nat) (w : World) (A : Option Addr) (n cap : Nat) (L : List (List Int)) : Prop := ListsW lo w.heap.size w A n cap L
def IntN (lo : Nat) (w : World) (A : Option Addr) (n cap : Nat) (L : List Int) : Prop := IntsW lo w.heap.size w A n cap L
theorem newStore_neat (rd mo : Int) : Neat (newStore rd mo).1 ∨ (newStore rd mo).1 = .zero := by
  unfold newStore
  split
  · rename_i h
    left
    simp only [Bool.and_eq_true, roundB, decide_eq_true_eq] at h
    refine ⟨by simp, by simp, fun r hr => ?_⟩
    simp at hr
    subst hr
    have : (Rg.fresh rd.toNat).ps.length = rd.toNat := by simp [Rg.fresh, fresh]
    omega
  · exact .inr rfl

section
variable {lo : Nat} {w w' : World} {A : Option Addr} {n cap : Nat} {L : List (List Int)} {m : List Int}
theorem LstN.keepT (h : LstN lo w A n cap L) (k1 : KeepT 2 w w') (k2 : KeepT 41 w w') (hz : w.heap.size ≤ w'.heap.size) : LstN lo w' A n cap L := (ListsW.keepT h k1 k2).mono (Nat.le_refl _) hz
theorem IntN.keepT (h : IntN lo w A n cap m) (k1 : KeepT 2 w w') (hz : w.heap.size ≤ w'.heap.size) : IntN lo w' A n cap m := SlW.mono (SlW.keepT h k1) (Nat.le_refl _) hz
theorem LstN.belowN (h : LstN lo w A n cap L) (hb : Below w.heap.size w w') : LstN lo w' A n cap L := h.keepT (.below hb) (.below hb) hb.size
theorem IntN.belowN (h : IntN lo w A n cap m) (hb : Below w.heap.size w w') : IntN lo w' A n cap m := h.keepT (.below hb) hb.size
theorem LstN.setsC (h : LstN lo w A n cap L) {b : Nat} {cs : Array Value} (hk : BoxAt w b cs 53) (us : List Value) (o : Nat) : LstN lo (setCells w b o us) A n cap L := h.keepT (.sets hk (by decide) us o) (.sets hk (by decide) us o) (Nat.le_of_eq (sets_size us o w).symm)
theorem IntN.setsC (h : IntN lo w A n cap m) {b : Nat} {cs : Array Value} (hk : BoxAt w b cs 53) (us : List Value) (o : Nat) : IntN lo (setCells w b o us) A n cap m := h.keepT (.sets hk (by decide) us o) (Nat.le_of_eq (sets_size us o w).symm)
def TwoN (lo : Nat) (w : World) (A : Option Addr) (n cap : Nat) (L : List (List Int)) (g : Nat) : Prop := LstN lo w A n cap L ∧ IntN lo w (some ⟨g, 0, none⟩) n n (List.replicate n 0)
theorem TwoN.belowN {g : Nat} (h : TwoN lo w A n cap L g) (hb : Below w.heap.size w w') : TwoN lo w' A n cap L g := ⟨h.1.belowN hb, h.2.belowN hb⟩
theorem TwoN.setsC {g : Nat} (h : TwoN lo w A n cap L g) {b : Nat} {cs : Array Value} (hk : BoxAt w b cs 53) (us : List Value) (o : Nat) : TwoN lo (setCells w b o us) A n cap L g := ⟨h.1.setsC hk us o, h.2.setsC hk us o⟩
end

def ncAV (q : St × Bool) (A A1 : Option Addr) (n cap n1 c1 S1 M : Nat) (js : List (List Int)) : List Sl := [.v (.agg #[.int .i64 q.1.rd, .int .i64 q.1.mo, .slice A1 n1 c1, .int .i64 q.1.fi, .int .i64 q.1.la]),
  .v (.slice A n cap),
  .e fun σ w => ∃ (A2 : Option Addr) (c2 : Nat), σ 2 = .slice A2 n c2 ∧ LstN M w A2 n c2 js,
  .v (.slice A n cap),
  .v (.int .i64 ((n : Int))),
  .e fun σ w => ∃ (g5 : Nat), σ 5 = .slice (some ⟨g5, 0, none⟩) n n ∧ IntN M w (some ⟨g5, 0, none⟩) n n (List.replicate n 0),
  .e fun σ w => ∃ (A2 : Option Addr) (c2 g5 : Nat), σ 6 = .agg #[.int .i64 q.1.rd, .int .i64 q.1.mo, .slice A1 n1 c1, .int .i64 q.1.fi, .int .i64 q.1.la, .slice none 0 0, .slice A2 n c2, .slice (some ⟨g5, 0, none⟩) n n, .int .i64 0, .slice none 0 0] ∧ TwoN M w A2 n c2 js g5,
  .e fun σ w => ∃ g7, σ 7 = .pointer (some ⟨g7, 0, none⟩) ∧ M ≤ g7 ∧ ∃ x0 x1 x2 x3 x4 x5 x6 x7 x8 x9, BoxAt w g7 #[x0, x1, x2, x3, x4, x5, x6, x7, x8, x9] 53,
  .e fun σ w => ∃ (g7 : Nat) (A2 : Option Addr) (c2 g5 : Nat), σ 7 = .pointer (some ⟨g7, 0, none⟩) ∧ M ≤ g7 ∧ BoxAt w g7 #[.int .i64 q.1.rd, .int .i64 q.1.mo, .slice A1 n1 c1, .int .i64 q.1.fi, .int .i64 q.1.la, .slice none 0 0, .slice A2 n c2, .slice (some ⟨g5, 0, none⟩) n n, .int .i64 0, .slice none 0 0] 53 ∧ TwoN M w A2 n c2 js g5]

def ncBV (q : St × Bool) (A1 A2 B : Option Addr) (n n1 c1 c2 g5 i c C7 M : Nat) : List Sl := [.v (.pointer (some ⟨C7, 5, none⟩)),
  .v (.slice B i c),
  .v (.agg #[.int .i64 resting.at_, .int .i64 resting.v, .int .i64 resting.r, .int .i64 resting.t, .bool resting.seen.s, .int .i64 resting.seen.n, .bool resting.seen.f, .int .i64 resting.seen.v, .int .i64 resting.tr, .int .i64 resting.sp, .bool resting.ag, .int .i64 resting.re]),
  .e fun σ w => ∃ (g3 : Nat), σ 3 = .slice (some ⟨g3, 0, none⟩) 1 1 ∧ BoxAt w g3 #[.int .i64 resting.at_, .int .i64 resting.v, .int .i64 resting.r, .int .i64 resting.t, .bool resting.seen.s, .int .i64 resting.seen.n, .bool resting.seen.f, .int .i64 resting.seen.v, .int .i64 resting.tr, .int .i64 resting.sp, .bool resting.ag, .int .i64 resting.re] 27 ∧ M ≤ g3,
  .e fun σ w => ∃ (B2 : Option Addr) (cc : Nat), σ 4 = .slice B2 (i + 1) cc ∧ w.ownsRow (C7 + 1) 27 12 (.slice B2 (i + 1) cc) (i + 1) ((List.replicate (i + 1) resting).flatMap Hd.cs),
  .v (.pointer (some ⟨C7, 5, none⟩)),
  .e fun σ w => ∃ (B2 : Option Addr) (cc : Nat), BoxAt w C7 #[.int .i64 q.1.rd, .int .i64 q.1.mo, .slice A1 n1 c1, .int .i64 q.1.fi, .int .i64 q.1.la, .slice B2 (i + 1) cc, .slice A2 n c2, .slice (some ⟨g5, 0, none⟩) n n, .int .i64 0, .slice none 0 0] 53 ∧ w.ownsRow (C7 + 1) 27 12 (.slice B2 (i + 1) cc) (i + 1) ((List.replicate (i + 1) resting).flatMap Hd.cs)]

set_option maxRecDepth 100000 in
set_option maxHeartbeats 4000000 in
theorem snewCrew_any (rd mo : Int) (js : List (List Int)) (A : Option Addr) (n cap lo hi : Nat) (w : World) (hl : ListsW lo hi w A n cap js) (hh : hi ≤ w.heap.size) (hn : n ≤ 1048576) (hml : ∀ l ∈ js, l.length ≤ 1048576) :
    Calls Try.prog 104 #[.int .i64 rd, .int .i64 mo, .slice A n cap] w (RetCrB (newCrew rd mo js) w) := by
  obtain ⟨iH, hi0, hz0, hz1, hz2⟩ := info_parts hand_info
  have HI := Lib.hid hi0
  have HZ0 := Lib.hid hz0
  have HZ1 := Lib.hid hz1
  have HZ2 := Lib.hid hz2
  clear hi0 hz0 hz1 hz2
  obtain ⟨i0, hi0, hz0, hz1, hz2⟩ := info_parts int_info
  have hmk : ∀ W : World, (Instr.makeSlice 41 (.int .i64 (n : Int)) (.int .i64 (n : Int))).run Try.prog W = .ok (.slice (some ⟨W.heap.size, 0, none⟩) n n) (W.alloc (.cells (madeCells #[.int .i64 0] n) 2)) := by
    intro W
    have := run_make (P := Try.prog) W 41 2 i0 _ Try.underlying41 hi0 hz0 .i64 .i64 n n (by omega) (by omega) (by rw [hz2]; omega) (by omega)
    rw [hz1] at this
    simpa [Value.cells] using this
  clear hi0 hz0 hz1 hz2
  have HML := Lib.hid hml; clear hml
  have HLL := Lib.hid hl.len
  go_enter Try.func104, Try.ntmps104
  go_wp2_with fail
  refine calls_abs (fun W => Below w.heap.size w W ∧ BoxAt W w.heap.size #[.int .i64 0, .int .i64 0, .slice none 0 0, .int .i64 0, .int .i64 0, .slice none 0 0, .slice none 0 0, .slice none 0 0, .int .i64 0, .slice none 0 0] 53) ⟨(Below.refl _ _).alloc (Nat.le_refl _) _, BoxAt.new _ _ _⟩ ?_
  rintro W0 ⟨hB, hz⟩
  refine (snewStore_any rd mo _).mono ?_
  rintro e w1 ⟨A1, n1, c1, rfl, hG, hb1⟩
  have hs0 := hB.size
  have hs1 := hb1.size
  have lz0 := hz.lt
  replace hz := hz.below hb1 hz.lt
  replace hB := bstep hB hB.size hb1
  clear hb1
  generalize hqe : newStore rd mo = q at *
  have HQ := Lib.hid hqe; clear hqe
  unfold stV
  go_upto_region 2 with fail
  refine wp_abs (fun W => Below w.heap.size w W ∧ BoxAt W w.heap.size #[.int .i64 0, .int .i64 0, .slice none 0 0, .int .i64 0, .int .i64 0, .slice none 0 0, .slice none 0 0, .slice none 0 0, .int .i64 0, .slice none 0 0] 53 ∧ BoxAt W w1.heap.size #[.int .i64 q.1.rd, .int .i64 q.1.mo, .slice A1 n1 c1, .int .i64 q.1.fi, .int .i64 q.1.la] 49 ∧ RgsW w.heap.size w1.heap.size W A1 n1 c1 q.1.rs) ⟨hB.alloc hB.size _, hz.alloc _, BoxAt.new _ _ _, (hG.mono hs0 (Nat.le_refl _)).al (Nat.le_refl _) _⟩ ?_
  clear hB hz hG
  rintro W1 ⟨hB, hz, hs, hG⟩
  generalize w1.heap.size = S1 at *
  have lS := hs.lt
  replace hl := hl.below hB hh
  have hhi : hi ≤ W1.heap.size := Nat.le_trans hh hB.size
  obtain ⟨M, hMe⟩ : ∃ M, M = W1.heap.size := ⟨_, rfl⟩
  have hM : M ≤ W1.heap.size := by omega
  have hSM : S1 ≤ M := by omega
  have hSM2 : S1 < M := by omega
  have hNM : w.heap.size < M := by omega
  clear hMe
  refine wp_region2v (fun w w' => Below w.heap.size w w') (fun _ _ h => h.size) (fun _ => Below.refl _ _) (fun L W' => Below w.heap.size w W' ∧ BoxAt W' w.heap.size #[.int .i64 0, .int .i64 0, .slice none 0 0, .int .i64 0, .int .i64 0, .slice none 0 0, .slice none 0 0, .slice none 0 0, .int .i64 0, .slice none 0 0] 53 ∧ BoxAt W' S1 #[.int .i64 q.1.rd, .int .i64 q.1.mo, .slice A1 n1 c1, .int .i64 q.1.fi, .int .i64 q.1.la] 49 ∧ RgsW w.heap.size S1 W' A1 n1 c1 q.1.rs ∧ ListsW lo hi W' A n cap js ∧ hi ≤ W'.heap.size ∧ M ≤ W'.heap.size) (ncAV q A A1 n cap n1 c1 S1 M js) (fun j => [0, 0, 0, 0, 0, 0, 0, 2, 1].getD j 0) [(8, 7)] (by kernel_rfl) (by kernel_rfl) ?_ ?_ ?_
    (.still rfl ?a0 <| .still rfl ?a1 <| .grow rfl ?a2 <| .still rfl ?a3 <| .still rfl ?a4 <| .grow rfl ?a5 <| .grow rfl ?a6 <| .make rfl ?a7 <| .store rfl ?a8 <| .nil) ?_ ?_
  · exact ⟨fun _ _ _ h ⟨A2, c2, e, hp⟩ => ⟨A2, c2, (h 2 (List.mem_singleton.2 rfl)).symm.trans e, hp⟩, fun _ _ _ h ⟨g5, e, hp⟩ => ⟨g5, (h 5 (List.mem_singleton.2 rfl)).symm.trans e, hp⟩, fun _ _ _ h ⟨A2, c2, g5, e, hp⟩ => ⟨A2, c2, g5, (h 6 (List.mem_singleton.2 rfl)).symm.trans e, hp⟩, fun _ _ _ h ⟨g, e, hp⟩ => ⟨g, (h 7 (List.mem_singleton.2 rfl)).symm.trans e, hp⟩, fun _ _ _ h ⟨g, A2, c2, g5, e, hp⟩ => ⟨g, A2, c2, g5, (h 7 (List.mem_singleton.2 rfl)).symm.trans e, hp⟩, trivial⟩
  · exact ⟨fun σ w w' hb ⟨A2, c2, e, hp⟩ => ⟨A2, c2, e, hp.belowN hb⟩, fun σ w w' hb ⟨g5, e, hp⟩ => ⟨g5, e, hp.belowN hb⟩, fun σ w w' hb ⟨A2, c2, g5, e, hp⟩ => ⟨A2, c2, g5, e, hp.belowN hb⟩, fun σ w w' hb ⟨g, e, hg, x0, x1, x2, x3, x4, x5, x6, x7, x8, x9, hx⟩ => ⟨g, e, hg, x0, x1, x2, x3, x4, x5, x6, x7, x8, x9, hx.below hb hx.lt⟩, fun σ w w' hb ⟨g, A2, c2, g5, e, hg, hx, hp⟩ => ⟨g, A2, c2, g5, e, hg, hx.below hb hx.lt, hp.belowN hb⟩, trivial⟩
  · exact ⟨hB.drew, hz, hs, hG, hl, hhi, hM⟩
  case a0 =>
    go_light
    intro L σ W' hcl hL hC hw
    have ks := hC.2.2.1.cell
    clear hw hcl hL hC
    refine OpGoes.step fun K hK => ?_
    unfold OpGoes
    go_simp
    exact hK _ _ ⟨rfl, rfl⟩
  case a1 | a3 | a4 =>
    go_light
    intro L σ W' hcl hL hC hw
    try have e3 := wT hw 3 rfl
    clear hw hcl hL hC
    refine OpGoes.step fun K hK => ?_
    unfold OpGoes
    go_simp
    exact hK _ _ ⟨rfl, rfl⟩
  case a2 =>
    go_light
    intro L σ W' hcl hL hC hw
    have e1 := wV hw 1 rfl
    clear hw
    have HC := Lib.hid hC
    clear hC
    clear hcl hL
    refine OpGoes.step fun K hK => ?_
    unfold OpGoes
    go_simp
    obtain ⟨hB, hz, hs, hG, hl, hhi, hM⟩ := HC.out
    refine (l10ListsN js A n cap lo hi _ hl hhi hn HML.out).mono ?_
    rintro e w1 ⟨A2, c2, rfl, hO2, hb1⟩
    exact ⟨_, rfl, hK _ _ ⟨⟨bstep hB hB.size hb1, hz.below hb1 hz.lt, hs.below hb1 hs.lt, hG.below hb1 (Nat.le_trans hSM hM), hl.below hb1 hhi, Nat.le_trans hhi hb1.size, Nat.le_trans hM hb1.size⟩, ⟨A2, c2, rfl, ListsW.mono hO2 hM (Nat.le_refl _)⟩, hb1⟩⟩
  case a5 =>
    go_light
    intro L σ W' hcl hL hC hw
    have e4 := wV hw 4 rfl
    clear hw
    have HC := Lib.hid hC
    clear hC
    clear hcl hL
    refine OpGoes.step fun K hK => ?_
    unfold OpGoes
    go_simp
    obtain ⟨hB, hz, hs, hG, hl, hhi, hM⟩ := HC.out
    have hb1 : Below W'.heap.size W' (W'.alloc (.cells (madeCells #[.int .i64 0] n) 2)) := (Below.refl _ _).alloc (Nat.le_refl _) _
    refine hK _ _ ⟨⟨bstep hB hB.size hb1, hz.below hb1 hz.lt, hs.below hb1 hs.lt, hG.below hb1 (Nat.le_trans hSM hM), hl.below hb1 hhi, Nat.le_trans hhi hb1.size, Nat.le_trans hM hb1.size⟩, ⟨W'.heap.size, rfl, ?_⟩, hb1⟩
    exact ⟨by simp, .inr ⟨W'.heap.size, rfl, by simp, Own.mono (by have := Own.made (e := 2) ic_len (by omega) (0 : Int) #[.int .i64 0] rfl (Nat.le_refl W'.heap.size) n (by unfold maxLen; omega); rwa [Nat.mul_one] at this) hM⟩⟩
  case a6 =>
    go_light
    intro L σ W' hcl hL hC hw
    have e0 := wV hw 0 rfl
    obtain ⟨A2, c2, e2, hp2⟩ := wE hw 2 rfl
    obtain ⟨g5, e5, hp5⟩ := wE hw 5 rfl
    clear hw
    have HC := Lib.hid hC
    clear hC
    clear hcl hL
    refine OpGoes.step fun K hK => ?_
    unfold OpGoes
    go_simp
    obtain ⟨hB, hz, hs, hG, hl, hhi, hM⟩ := HC.out
    exact hK _ _ ⟨⟨hB, hz, hs, hG, hl, hhi, hM⟩, ⟨A2, c2, g5, rfl, hp2, hp5⟩, Below.refl _ _⟩
  case a7 =>
    go_light
    intro L σ W' hcl hL hC hw
    clear hw
    have HC := Lib.hid hC
    clear hC
    clear hcl hL
    refine OpGoes.step fun K hK => ?_
    unfold OpGoes
    go_simp
    obtain ⟨hB, hz, hs, hG, hl, hhi, hM⟩ := HC.out
    have hb1 : Below W'.heap.size W' (W'.alloc (.cells #[.int .i64 0, .int .i64 0, .slice none 0 0, .int .i64 0, .int .i64 0, .slice none 0 0, .slice none 0 0, .slice none 0 0, .int .i64 0, .slice none 0 0] 53)) := (Below.refl _ _).alloc (Nat.le_refl _) _
    exact hK _ _ ⟨⟨bstep hB hB.size hb1, hz.below hb1 hz.lt, hs.below hb1 hs.lt, hG.below hb1 (Nat.le_trans hSM hM), hl.below hb1 hhi, Nat.le_trans hhi hb1.size, Nat.le_trans hM hb1.size⟩, ⟨_, rfl, hM, _, _, _, _, _, _, _, _, _, _, BoxAt.new _ _ _⟩, hb1, rfl, by simp⟩
  case a8 =>
    go_light
    intro L σ W' hcl hL hC hw hne
    obtain ⟨A2, c2, g5, e6, hp6⟩ := wE hw 6 rfl
    obtain ⟨g7, e7, hg7, x0, x1, x2, x3, x4, x5, x6, x7, x8, x9, hbox7⟩ := wE hw 7 rfl
    clear hw hne
    have HC := Lib.hid hC
    clear hC
    clear hcl hL
    have kc_ := hbox7.cell
    have kf_ := hbox7.frozen
    refine OpGoes.step fun K hK => ?_
    unfold OpGoes
    go_simp
    obtain ⟨hB, hz, hs, hG, hl, hhi, hM⟩ := HC.out
    have hset := sets_all (us := [.int .i64 q.1.rd, .int .i64 q.1.mo, .slice A1 n1 c1, .int .i64 q.1.fi, .int .i64 q.1.la, .slice none 0 0, .slice A2 n c2, .slice (some ⟨g5, 0, none⟩) n n, .int .i64 0, .slice none 0 0]) hbox7 rfl
    refine hK undef (setCells W' g7 0 [.int .i64 q.1.rd, .int .i64 q.1.mo, .slice A1 n1 c1, .int .i64 q.1.fi, .int .i64 q.1.la, .slice none 0 0, .slice A2 n c2, .slice (some ⟨g5, 0, none⟩) n n, .int .i64 0, .slice none 0 0]) ⟨⟨(Below.setCells (by omega) _ 0 hB), (BoxAt.sets_ne _ 0 hz (by omega)), (BoxAt.sets_ne _ 0 hs (by omega)), ((RgsW.setsT hG hbox7 (by decide) (by decide) _ 0)), (ListsW.setsT hl hbox7 (by decide) (by decide) _ 0), (size_sts hhi _ 0), (size_sts hM _ 0)⟩, ⟨g7, A2, c2, g5, e7, hg7, hset, (TwoN.setsC hp6 hbox7 _ 0)⟩, Nat.le_of_eq (sets_size _ _ _).symm, keepV ?_⟩
    exact ⟨fun _ _ ⟨A2_x, c2_x, e, hp⟩ => ⟨A2_x, c2_x, e, (LstN.setsC hp hbox7 _ 0)⟩, fun _ _ ⟨g5_x, e, hp⟩ => ⟨g5_x, e, (IntN.setsC hp hbox7 _ 0)⟩, fun _ _ ⟨A2_x, c2_x, g5_x, e, hp⟩ => ⟨A2_x, c2_x, g5_x, e, (TwoN.setsC hp hbox7 _ 0)⟩, fun _ _ _ => ⟨g7, e7, hg7, _, _, _, _, _, _, _, _, _, _, hset⟩, fun h => absurd rfl h, trivial⟩
  · intro L L' W' hLL hC
    obtain ⟨hB, hz, hs, hG, hl, hhi, hM⟩ := hC
    exact ⟨hB, hz, hs, hG, hl, hhi, hM⟩
  · intro σ L W' hall hC hRR
    obtain ⟨hB, hz, hs, hG, hl, hhi, hM⟩ := hC
    obtain ⟨g7, A2, c2, g5, e7, hg8, s8, hp8⟩ := dE hRR 8 rfl
    clear hRR hs hl hhi hmk
    simp only [lexAll]
    go_simp
    go_step
    go_wp2
    generalize hC7 : g7 = C7 at *
    have hNC : w.heap.size < C7 := by omega
    have hJ : LstN w.heap.size W' A2 n c2 js := ListsW.mono hp8.1 (by omega) (Nat.le_refl _)
    have hI : IntN w.heap.size W' (some ⟨g5, 0, none⟩) n n (List.replicate n 0) := SlW.mono hp8.2 (by omega) (Nat.le_refl _)
    go_loopw [11] (fun s11 W => ∃ (i : Nat) (B : Option Addr) (c : Nat), i ≤ n ∧ s11 = .int .i64 i ∧ Below w.heap.size w W ∧ BoxAt W w.heap.size #[.int .i64 0, .int .i64 0, .slice none 0 0, .int .i64 0, .int .i64 0, .slice none 0 0, .slice none 0 0, .slice none 0 0, .int .i64 0, .slice none 0 0] 53 ∧ RgsW w.heap.size S1 W A1 n1 c1 q.1.rs ∧ LstN w.heap.size W A2 n c2 js ∧ IntN w.heap.size W (some ⟨g5, 0, none⟩) n n (List.replicate n 0) ∧ BoxAt W C7 #[.int .i64 q.1.rd, .int .i64 q.1.mo, .slice A1 n1 c1, .int .i64 q.1.fi, .int .i64 q.1.la, .slice B i c, .slice A2 n c2, .slice (some ⟨g5, 0, none⟩) n n, .int .i64 0, .slice none 0 0] 53 ∧ W.ownsRow (C7 + 1) 27 12 (.slice B i c) i ((List.replicate i resting).flatMap Hd.cs)) (fun s11 _ => n - (intOf s11).toNat)
    case atStart =>
      exact ⟨0, none, 0, Nat.zero_le _, rfl, hB, hz, hG, hJ, hI, s8, World.ownsRow_nil _ _ _ _⟩
    case round =>
      clear hB hz hG hJ hI s8 hM hp8
      obtain ⟨i, B, c, hin, rfl, hB, hz, hG, hJ, hI, hc, hO⟩ := hrel
      have lC := hc.lt
      by_cases hlt : i < n
      · have g1 : (i : Int) < (n : Int) := by omega
        have g2 : (0 : Int) ≤ (i : Int) := by omega
        obtain ⟨M, hMe⟩ : ∃ M, M = wr.heap.size := ⟨_, rfl⟩
        have hM : M ≤ wr.heap.size := by omega
        have hSM : S1 ≤ M := by omega
        have hCM : C7 < M := by omega
        have hNM2 : w.heap.size < M := by omega
        have hRB : ∀ k, (Value.slice B i c).ownBlock = some k → k < M := fun k hk => by have := (hO.lt k hk).2; omega
        clear hMe
        go_upto_region 6 with fail
        refine wp_region2v (fun w w' => Below w.heap.size w w') (fun _ _ h => h.size) (fun _ => Below.refl _ _) (fun L W' => Below w.heap.size w W' ∧ BoxAt W' w.heap.size #[.int .i64 0, .int .i64 0, .slice none 0 0, .int .i64 0, .int .i64 0, .slice none 0 0, .slice none 0 0, .slice none 0 0, .int .i64 0, .slice none 0 0] 53 ∧ RgsW w.heap.size S1 W' A1 n1 c1 q.1.rs ∧ LstN w.heap.size W' A2 n c2 js ∧ IntN w.heap.size W' (some ⟨g5, 0, none⟩) n n (List.replicate n 0) ∧ M ≤ W'.heap.size ∧ (L 4 = false → W'.ownsRow (C7 + 1) 27 12 (.slice B i c) i ((List.replicate i resting).flatMap Hd.cs)) ∧ (∃ x0, BoxAt W' C7 #[.int .i64 q.1.rd, .int .i64 q.1.mo, .slice A1 n1 c1, .int .i64 q.1.fi, .int .i64 q.1.la, x0, .slice A2 n c2, .slice (some ⟨g5, 0, none⟩) n n, .int .i64 0, .slice none 0 0] 53) ∧ (L 6 = false → BoxAt W' C7 #[.int .i64 q.1.rd, .int .i64 q.1.mo, .slice A1 n1 c1, .int .i64 q.1.fi, .int .i64 q.1.la, .slice B i c, .slice A2 n c2, .slice (some ⟨g5, 0, none⟩) n n, .int .i64 0, .slice none 0 0] 53)) (ncBV q A1 A2 B n n1 c1 c2 g5 i c C7 M) (fun j => [0, 0, 0, 0, 1, 0, 1].getD j 0) [] (by kernel_rfl) (by kernel_rfl) ?_ ?_ ?_
          (.still rfl ?a0 <| .still rfl ?a1 <| .grow rfl ?a2 <| .grow rfl ?a3 <| .store rfl ?a4 <| .still rfl ?a5 <| .store rfl ?a6 <| .nil) ?_ ?_
        · exact ⟨fun _ _ _ h ⟨g3, e, hp⟩ => ⟨g3, (h 3 (List.mem_singleton.2 rfl)).symm.trans e, hp⟩, fun _ _ _ h ⟨B2, cc, e, hp⟩ => ⟨B2, cc, (h 4 (List.mem_singleton.2 rfl)).symm.trans e, hp⟩, fun _ _ _ _ h => h, trivial⟩
        · exact ⟨fun σ w w' hb ⟨g3, e, hp⟩ => ⟨g3, e, ⟨hp.1.below hb hp.1.lt, hp.2⟩⟩, fun σ w w' hb ⟨B2, cc, e, hp⟩ => ⟨B2, cc, e, own_keep hp hb⟩, fun σ w w' hb ⟨B2, cc, hx, hp⟩ => ⟨B2, cc, hx.below hb hx.lt, own_keep hp hb⟩, trivial⟩
        · exact ⟨hB.drew, hz, hG, hJ, hI, hM, fun _ => hO, ⟨_, hc⟩, fun _ => hc⟩
        case a0 | a5 =>
          go_light
          intro L σ W' hcl hL hC hw
          clear hw hcl hL hC
          refine OpGoes.step fun K hK => ?_
          unfold OpGoes
          go_simp
          exact hK _ _ ⟨rfl, rfl⟩
        case a1 =>
          go_light
          intro L σ W' hcl hL hC hw
          have e0 := wV hw 0 rfl
          have kc := (hC.2.2.2.2.2.2.2.2 (hcl.not (j := 6) (k := 4) (by kernel_rfl) (hcl.not (j := 4) (k := 1) (by kernel_rfl) hL))).cell
          clear hw hcl hL hC
          refine OpGoes.step fun K hK => ?_
          unfold OpGoes
          go_simp
          exact hK _ _ ⟨rfl, rfl⟩
        case a2 =>
          go_light
          intro L σ W' hcl hL hC hw
          clear hw
          have HC := Lib.hid hC
          clear hC
          clear hcl hL
          refine OpGoes.step fun K hK => ?_
          unfold OpGoes
          go_simp
          obtain ⟨hB, hz, hG, hJ, hI, hM, hO, ⟨_, hc⟩, hc_o⟩ := HC.out
          refine (sresting_any _).mono ?_
          rintro e w1 ⟨rfl, hb1⟩
          exact ⟨_, rfl, hK _ _ ⟨⟨bstep hB hB.size hb1, hz.below hb1 hz.lt, hG.below hb1 (Nat.le_trans hSM hM), hJ.belowN hb1, hI.belowN hb1, Nat.le_trans hM hb1.size, fun h => own_keep (hO (by simpa [upd] using h)) hb1, ⟨_, hc.below hb1 hc.lt⟩, fun h => (hc_o (by simpa [upd] using h)).below hb1 (hc_o (by simpa [upd] using h)).lt⟩, rfl, hb1⟩⟩
        case a3 =>
          go_light
          intro L σ W' hcl hL hC hw
          have e2 := wV hw 2 rfl
          clear hw
          have HC := Lib.hid hC
          clear hC
          clear hcl hL
          refine OpGoes.step fun K hK => ?_
          unfold OpGoes
          go_simp
          obtain ⟨hB, hz, hG, hJ, hI, hM, hO, ⟨_, hc⟩, hc_o⟩ := HC.out
          have hb1 : Below W'.heap.size W' (W'.alloc (.cells #[.int .i64 resting.at_, .int .i64 resting.v, .int .i64 resting.r, .int .i64 resting.t, .bool resting.seen.s, .int .i64 resting.seen.n, .bool resting.seen.f, .int .i64 resting.seen.v, .int .i64 resting.tr, .int .i64 resting.sp, .bool resting.ag, .int .i64 resting.re] 27)) := (Below.refl _ _).alloc (Nat.le_refl _) _
          exact hK _ _ ⟨⟨bstep hB hB.size hb1, hz.below hb1 hz.lt, hG.below hb1 (Nat.le_trans hSM hM), hJ.belowN hb1, hI.belowN hb1, Nat.le_trans hM hb1.size, fun h => own_keep (hO (by simpa [upd] using h)) hb1, ⟨_, hc.below hb1 hc.lt⟩, fun h => (hc_o (by simpa [upd] using h)).below hb1 (hc_o (by simpa [upd] using h)).lt⟩, ⟨W'.heap.size, rfl, BoxAt.new _ _ _, hM⟩, hb1⟩
        case a4 =>
          go_light
          intro L σ W' hcl hL hC hw hne
          have e1 := wV hw 1 rfl
          obtain ⟨g3, e3, hp3⟩ := wE hw 3 rfl
          clear hw hne
          obtain ⟨hB, hz, hG, hJ, hI, hM, hO, ⟨_, hc⟩, hc_o⟩ := hC
          have hO4 := (hO hL)
          clear hcl hL
          refine OpGoes.append_own rfl (.tmp 32) (.tmp 34) _ rfl (C7 + 1) 27 iH _ 12 96 Try.underlying50 HI.out HZ0.out HZ1.out HZ2.out rfl (by omega) (.slice B i c) i _ (by go_simp) hO4 ⟨g3, 0, none⟩ 1 1 [.int .i64 resting.at_, .int .i64 resting.v, .int .i64 resting.r, .int .i64 resting.t, .bool resting.seen.s, .int .i64 resting.seen.n, .bool resting.seen.f, .int .i64 resting.seen.v, .int .i64 resting.tr, .int .i64 resting.sp, .bool resting.ag, .int .i64 resting.re] (by go_simp) rfl (news_box hp3.1) (by intro u hu; simp at hu; rcases hu with rfl | rfl | rfl | rfl | rfl | rfl | rfl | rfl | rfl | rfl | rfl | rfl <;> rfl) (by unfold maxLen; omega) (by omega) (by omega) ?_
          intro v' w' hO' hg hat
          have kT : ∀ T, 27 ≠ T → KeepT T W' w' := fun T hT => KeepT.grown hO4 hg hT
          obtain ⟨B2, cc, rfl, hP'⟩ := SlW.of_own (f := Hd.cs) (l := List.replicate i resting ++ [resting]) (n := i + 1) (by rw [List.flatMap_append]; exact hO') (by simp)
          have hP2 : SlW Hd.cs 12 27 (C7 + 1) w'.heap.size w' B2 (i + 1) cc (List.replicate (i + 1) resting) := by rw [List.replicate_succ']; exact hP'
          refine ⟨⟨Below.grown hB hg (Nat.le_trans (by omega) hM) (fun k hk => by have := (hO4.lt k hk).1; omega), hz.keepT (kT _ (by decide)), hG.keepT (kT _ (by decide)) (kT _ (by decide)), hJ.keepT (kT _ (by decide)) (kT _ (by decide)) hg.size, hI.keepT (kT _ (by decide)) hg.size, Nat.le_trans hM hg.size, fun h => absurd h (by simp [upd]), ⟨_, hc.keepT (kT _ (by decide))⟩, fun h => (hc_o (by simpa [upd] using h)).keepT (kT _ (by decide))⟩, ⟨B2, cc, rfl, SlW.own hP2 Hd.cs_len⟩, hg.size, fun j hj hn hR => ?_⟩
          refine keepV ?_ j hj hn hR
          exact ⟨fun _ _ ⟨g3, e, hp⟩ => ⟨g3, e, ⟨hp.1.grown2 hg (fun e => by have := hRB _ e; have := hp.2; omega), hp.2⟩⟩, fun h => absurd rfl h, fun _ h => absurd (h.symm.trans (show waits _ _ _ = true by kernel_rfl)) (by decide), trivial⟩
        case a6 =>
          go_light
          intro L σ W' hcl hL hC hw hne
          obtain ⟨B2, cc, e4, hp4⟩ := wE hw 4 rfl
          have e5 := wV hw 5 rfl
          clear hw hne
          have HC := Lib.hid hC
          obtain ⟨hB, hz, hG, hJ, hI, hM, hO, ⟨_, hc⟩, hc_o⟩ := hC
          clear hcl hL
          have kc_ := hc.cell
          have kf_ := hc.frozen
          clear hB hz hG hJ hI hM hO hc hc_o
          refine OpGoes.step fun K hK => ?_
          unfold OpGoes
          go_simp
          obtain ⟨hB, hz, hG, hJ, hI, hM, hO, ⟨_, hc⟩, hc_o⟩ := HC.out
          have hset := (hc.set 5 (.slice B2 (i + 1) cc))
          simp only [List.setIfInBounds_toArray, List.set_cons_zero, List.set_cons_succ] at hset
          refine hK _ _ ⟨⟨(hB.setCell (by dsimp only; omega) _), (hz.set_ne (by omega) _ _), (hG.keepT (.set hc (by decide) _ _) (.set hc (by decide) _ _)), (LstN.setsC hJ hc [_] _), (IntN.setsC hI hc [_] _), (size_st hM), fun h => (ownsRow_setCell_below (hO (by simpa [upd] using h)) (by dsimp only; omega) _), ⟨_, hset⟩, fun h => absurd h (by simp [upd])⟩, ⟨B2, cc, hset, (ownsRow_setCell_below hp4 (by dsimp only; omega) _)⟩, by simp, keepV ?_⟩
          exact ⟨fun _ _ ⟨g3_x, e, hp⟩ => ⟨g3_x, e, (⟨hp.1.set_ne (by have := hp.2; omega) _ _, hp.2⟩)⟩, fun _ _ ⟨B2_x, cc_x, e, hp⟩ => ⟨B2_x, cc_x, e, (ownsRow_setCell_below hp (by dsimp only; omega) _)⟩, fun h => absurd rfl h, trivial⟩
        · intro L L' W' hLL hC
          obtain ⟨hB, hz, hG, hJ, hI, hM, hO, ⟨_, hc⟩, hc_o⟩ := hC
          exact ⟨hB, hz, hG, hJ, hI, hM, fun h => hO (hLL _ h), ⟨_, hc⟩, fun h => hc_o (hLL _ h)⟩
        · intro σ L W' hall hC hRR
          obtain ⟨hB, hz, hG, hJ, hI, hM, hO, ⟨_, hc⟩, hc_o⟩ := hC
          obtain ⟨B2, cc, s6, hp6⟩ := dE hRR 6 rfl
          clear hRR
          simp only [lexAll]
          go_simp
          go_step
          go_wp2
          go_roundw
          case rel =>
            go_light
            exact ⟨i + 1, B2, cc, by omega, by go_num, hB, hz, hG, hJ, hI, s6, hp6⟩
          case measure => simp [intOf]; omega
      · have g1 : ¬ (i : Int) < (n : Int) := by omega
        obtain rfl : n = i := by omega
        have hH := SlW.of_own' (f := Hd.cs) hO (by simp)
        have HCW := Lib.hid (show CrW w.heap.size wr.heap.size wr (newC0 rd mo js) (⟨⟨A1, n1, c1⟩, ⟨B, n, c⟩, ⟨A2, n, c2⟩, ⟨some ⟨g5, 0, none⟩, n, n⟩, ⟨none, 0, 0⟩⟩ : CrL) by
          refine ⟨?_, ?_, ?_, ?_, SlW.nil⟩
          · show RgsW _ _ _ _ _ _ (newStore rd mo).1.rs
            rw [HQ.out]; exact hG.mono (Nat.le_refl _) (by omega)
          · show HdsW _ _ _ _ _ _ (List.replicate js.length resting)
            rw [HLL.out]; exact SlW.mono hH (by omega) (Nat.le_refl _)
          · exact hJ
          · show IntsW _ _ _ _ _ _ (List.replicate js.length 0)
            rw [HLL.out]; exact hI)
        cases hq2 : q.2
        · have HV := Lib.hid (show newCrew rd mo js = (.zero, false) by unfold newCrew; rw [HQ.out, hq2]; rfl)
          have kz := hz.cell
          have fz := hz.frozen
          go_wp2
          refine bodyPost_ret (v := .tuple #[crV .zero (⟨⟨none, 0, 0⟩, ⟨none, 0, 0⟩, ⟨none, 0, 0⟩, ⟨none, 0, 0⟩, ⟨none, 0, 0⟩⟩ : CrL), .bool false]) (by simp [results, Try.results104, go_sem, kz, crV, Cr.zero, St.zero]) rfl ⟨(⟨⟨none, 0, 0⟩, ⟨none, 0, 0⟩, ⟨none, 0, 0⟩, ⟨none, 0, 0⟩, ⟨none, 0, 0⟩⟩ : CrL), by rw [HV.out], ?_, ?_⟩
          · rw [HV.out]
            exact ⟨RgsW.nil, SlW.nil, ListsW.nil, SlW.nil, SlW.nil⟩
          · exact Below.setCells (by omega) (crCs .zero (⟨⟨none, 0, 0⟩, ⟨none, 0, 0⟩, ⟨none, 0, 0⟩, ⟨none, 0, 0⟩, ⟨none, 0, 0⟩⟩ : CrL)) 0 hB
        have HFIT := Lib.hid (show CrFit (newC0 rd mo js) from by
          have hns : Neat (newStore rd mo).1 ∨ (newStore rd mo).1 = .zero := newStore_neat rd mo
          refine ⟨?_, ?_, ?_, ?_, HML.out, ?_, by show (0 : Nat) ≤ _; omega⟩
          · show (newStore rd mo).1.rs.length ≤ _
            rcases hns with h | h
            · have := h.2.1; omega
            · rw [h]; decide
          · show ∀ r ∈ (newStore rd mo).1.rs, r.ps.length ≤ _
            rcases hns with h | h
            · exact h.len
            · rw [h]; intro r hr; cases hr
          · show (List.replicate js.length resting).length ≤ _
            rw [List.length_replicate, HLL.out]; exact hn
          · show js.length ≤ _
            rw [HLL.out]; exact hn
          · show (List.replicate js.length (0 : Int)).length ≤ _
            rw [List.length_replicate, HLL.out]; exact hn)
        have HCA := Lib.hid (show (newC0 rd mo js).st = q.1 by show (newStore rd mo).1 = q.1; rw [HQ.out])
        have hcon := screwOk_any (newC0 rd mo js) (⟨⟨A1, n1, c1⟩, ⟨B, n, c⟩, ⟨A2, n, c2⟩, ⟨some ⟨g5, 0, none⟩, n, n⟩, ⟨none, 0, 0⟩⟩ : CrL) w.heap.size wr.heap.size wr HCW.out (Nat.le_refl _) HFIT.out
        unfold crV at hcon
        rw [HCA.out] at hcon
        have HCO := Lib.hid hcon; clear hcon
        have kc := hc.cell
        go_wp2_with fail
        clear kc
        refine (HCO.out).mono ?_
        rintro e w8 ⟨rfl, hb8⟩
        have h78 := hb8.size
        have hC8 := HCW.out.below hb8 (Nat.le_refl _)
        replace hz := hz.below hb8 hz.lt
        replace hc := hc.below hb8 hc.lt
        replace hB := bstep hB hB.size hb8
        clear hb8 hG hJ hI hO hH
        have kc := hc.cell
        have kz := hz.cell
        have fz := hz.frozen
        cases hcr : crOk (newC0 rd mo js)
        · have HV := Lib.hid (show newCrew rd mo js = (.zero, false) by unfold newCrew; rw [hcr]; simp)
          go_wp2
          refine bodyPost_ret (v := .tuple #[crV .zero (⟨⟨none, 0, 0⟩, ⟨none, 0, 0⟩, ⟨none, 0, 0⟩, ⟨none, 0, 0⟩, ⟨none, 0, 0⟩⟩ : CrL), .bool false]) (by simp [results, Try.results104, go_sem, kz, crV, Cr.zero, St.zero]) rfl ⟨(⟨⟨none, 0, 0⟩, ⟨none, 0, 0⟩, ⟨none, 0, 0⟩, ⟨none, 0, 0⟩, ⟨none, 0, 0⟩⟩ : CrL), by rw [HV.out], ?_, ?_⟩
          · rw [HV.out]
            exact ⟨RgsW.nil, SlW.nil, ListsW.nil, SlW.nil, SlW.nil⟩
          · exact Below.setCells (by omega) (crCs .zero (⟨⟨none, 0, 0⟩, ⟨none, 0, 0⟩, ⟨none, 0, 0⟩, ⟨none, 0, 0⟩, ⟨none, 0, 0⟩⟩ : CrL)) 0 hB
        · have HV := Lib.hid (show newCrew rd mo js = (newC0 rd mo js, true) by unfold newCrew; rw [HQ.out, hq2, hcr]; rfl)
          go_wp2
          refine bodyPost_ret (v := .tuple #[crV (newC0 rd mo js) (⟨⟨A1, n1, c1⟩, ⟨B, n, c⟩, ⟨A2, n, c2⟩, ⟨some ⟨g5, 0, none⟩, n, n⟩, ⟨none, 0, 0⟩⟩ : CrL), .bool true]) (by unfold crV; rw [HCA.out]; simp [results, Try.results104, go_sem, kz, newC0]) rfl ⟨(⟨⟨A1, n1, c1⟩, ⟨B, n, c⟩, ⟨A2, n, c2⟩, ⟨some ⟨g5, 0, none⟩, n, n⟩, ⟨none, 0, 0⟩⟩ : CrL), by rw [HV.out], ?_, ?_⟩
          · rw [HV.out]
            exact (CrW.setsC hC8 hz [.int .i64 q.1.rd, .int .i64 q.1.mo, .slice A1 n1 c1, .int .i64 q.1.fi, .int .i64 q.1.la, .slice B n c, .slice A2 n c2, .slice (some ⟨g5, 0, none⟩) n n, .int .i64 0, .slice none 0 0] 0).mono (Nat.le_refl _) (by simp; omega)
          · exact Below.setCells (by omega) [.int .i64 q.1.rd, .int .i64 q.1.mo, .slice A1 n1 c1, .int .i64 q.1.fi, .int .i64 q.1.la, .slice B n c, .slice A2 n c2, .slice (some ⟨g5, 0, none⟩) n n, .int .i64 0, .slice none 0 0] 0 hB
end Go.Proofs.Ytomfaabifpndbaa

/-
  The draws: what the cursor over the bytes of a draw yields.
-/
namespace Go.Proofs.Ytomfaabifpndbaa
set_option linter.unusedSimpArgs false
set_option linter.unusedVariables false
open Go.RowKit Go.ChangeShapes Go.WideShapes Go.ChangeAt Go.Joins
set_option linter.unusedVariables false
attribute [local go_sem] OpUpon



/-- The bytes of a draw lie below N. -/
def CodeOk (N : Nat) (w : World) (a0 : Option Addr) (len : Nat) : Prop :=
  len ≤ maxLen ∧ (0 < len → ∃ b off, a0 = some ⟨b, off, none⟩ ∧ b < N ∧ b < w.heap.size ∧ ∀ i, i < len → ∃ z : Int, 0 ≤ z ∧ z ≤ 255 ∧ w.cell? ⟨b, off + i, none⟩ = some (.int .u8 z))

theorem CodeOk.below {N : Nat} {w w' : World} {a0 : Option Addr} {len : Nat} (h : CodeOk N w a0 len) (hb : Below N w w') : CodeOk N w' a0 len := by
  refine ⟨h.1, fun hl => ?_⟩
  obtain ⟨b, off, e, hN, hs, hc⟩ := h.2 hl
  refine ⟨b, off, e, hN, Nat.lt_of_lt_of_le hs hb.size, fun i hi => ?_⟩
  obtain ⟨z, h1, h2, h3⟩ := hc i hi
  exact ⟨z, h1, h2, by rw [hb.cell (p := ⟨b, off + i, none⟩) hN]; exact h3⟩

/-- Block k holds a cursor over those bytes. -/
def CurAt (w : World) (k : Nat) (a0 : Option Addr) (len cap : Nat) : Prop :=
  ∃ (i : Nat) (h : Int), i ≤ len ∧ BoxAt w k #[.slice a0 len cap, .int .i64 i, .int .i64 h] 91

/-- A draw yields a number of which P holds; all but the cursor's block is as it was. -/
def Draws (P : Int → Prop) (k : Nat) (a0 : Option Addr) (len cap : Nat) (w : World) (e : Ending) (w' : World) : Prop :=
  ∃ x : Int, P x ∧ e = .returned (.int .i64 x) ∧ But k w w' ∧ CurAt w' k a0 len cap

theorem and255 (x : Int) : 0 ≤ bits .and .i64 x 255 ∧ bits .and .i64 x 255 ≤ 255 := by
  have h : (BitVec.ofInt 64 x &&& BitVec.ofInt 64 255).toNat ≤ 255 := by
    rw [BitVec.toNat_and]
    exact Nat.le_trans Nat.and_le_right (by decide)
  have e : bits .and .i64 x 255 = ((BitVec.ofInt 64 x &&& BitVec.ofInt 64 255).toNat : Int) := by
    show IntKind.i64.wrap ((BitVec.ofInt 64 x &&& BitVec.ofInt 64 255).toNat : Int) = _
    rw [IntKind.wrap_i64]
    omega
  rw [e]
  omega

set_option maxHeartbeats 400000 in
theorem l1Byte_any (N k : Nat) (a0 : Option Addr) (len cap : Nat) (w : World) (hc : CodeOk N w a0 len) (hk : N ≤ k) (hcur : CurAt w k a0 len cap) :
    Calls Try.prog 67 #[.pointer (some ⟨k, 0, none⟩)] w (Draws (fun x => 0 ≤ x ∧ x ≤ 255) k a0 len cap w) := by
  obtain ⟨i, h, hi, hbox⟩ := hcur
  have kc := hbox.cell
  have kf := hbox.frozen
  go_enter Try.func67, Try.ntmps67
  go_wp2
  refine wp_abs (fun W => But k w W ∧ ∃ h', BoxAt W k #[.slice a0 len cap, .int .i64 i, .int .i64 h'] 91) ⟨(But.refl k w).set 2 _, _, by simpa using hbox.set 2 _⟩ ?_
  rintro W ⟨hB, h', hbox'⟩
  clear kc kf
  have kc := hbox'.cell
  have kf := hbox'.frozen
  go_quiet (fail)
  go_wp2
  have hX := and255 (bits BinOp.xor IntKind.i64 (h' / 8589934592) (h' / 35184372088832))
  generalize bits BinOp.and IntKind.i64 (bits BinOp.xor IntKind.i64 (h' / 8589934592) (h' / 35184372088832)) 255 = X at *
  obtain ⟨hX0, hX1⟩ := hX
  refine wp_abs (fun W' => But k w W' ∧ BoxAt W' k #[.slice a0 len cap, .int .i64 i, .int .i64 h'] 91) ⟨hB.drewN _, hbox'.drewN _⟩ ?_
  clear kc kf hbox hbox' hB
  rintro W1 ⟨hB, hbox⟩
  have kc := hbox.cell
  have kf := hbox.frozen
  by_cases hlt : i < len
  · have hm := hc.1
    unfold maxLen at hm
    have hlt' : (i : Int) < (len : Int) := by omega
    have hge' : (0 : Int) ≤ (i : Int) := by omega
    obtain ⟨b, off, rfl, hbN, hbs, hcs⟩ := hc.2 (by omega)
    obtain ⟨z, z0, z1, hz⟩ := hcs i hlt
    have hz' : W1.cell? ⟨b, off + i, none⟩ = some (.int .u8 z) := by
      rw [← hz]; unfold World.cell?; rw [hB.block b hbs (by omega)]
    go_quiet (fail)
    go_wp2
    go_quiet (fail)
    go_wp2
    go_ret
    refine ⟨_, and255 _, rfl, (hB.drewN _).set 1 _, i + 1, h', by omega, ?_⟩
    have := fun n => (BoxAt.drewN hbox n).set 1 (.int .i64 (i + 1))
    simpa using this _
  · have hlt' : ¬ (i : Int) < (len : Int) := by omega
    go_quiet (fail)
    go_wp2
    go_ret
    exact ⟨X, ⟨hX0, hX1⟩, rfl, hB.drewN _, i, h', hi, hbox.drewN _⟩

/-- Likewise a bool. -/
def DrawsB (k : Nat) (a0 : Option Addr) (len cap : Nat) (w : World) (e : Ending) (w' : World) : Prop :=
  ∃ x : Bool, e = .returned (.bool x) ∧ But k w w' ∧ CurAt w' k a0 len cap

/-- A new cursor. -/
def NewCur (a0 : Option Addr) (len cap : Nat) (w : World) (e : Ending) (w' : World) : Prop :=
  ∃ h : Int, e = .returned (.pointer (some ⟨w.heap.size, 0, none⟩)) ∧ w' = w.alloc (.cells #[.slice a0 len cap, .int .i64 0, .int .i64 h] 91)

set_option maxHeartbeats 400000 in
theorem l1New_any (N : Nat) (a0 : Option Addr) (len cap : Nat) (w : World) (hc : CodeOk N w a0 len) :
    Calls Try.prog 25 #[.slice a0 len cap] w (NewCur a0 len cap w) := by
  obtain ⟨hm, hcs⟩ := hc
  unfold maxLen at hm
  have HC := Lib.hid hcs; clear hcs
  go_enter Try.func25, Try.ntmps25
  go_wp2
  go_loop [3, 4] (fun s3 s4 => ∃ (h : Int) (i : Nat), i ≤ len ∧ s3 = .int .i64 h ∧ s4 = .int .i64 i) (fun _ s4 => len - (intOf s4).toNat)
  case atStart => exact ⟨_, 0, Nat.zero_le _, rfl, rfl⟩
  case round =>
    obtain ⟨h, i, hi, rfl, rfl⟩ := hrel
    by_cases hlt : i < len
    · obtain ⟨b, off, rfl, _, _, hz⟩ := HC.out (by omega)
      obtain ⟨z, z0, z1, hz⟩ := hz i hlt
      have h1 : (i : Int) < (len : Int) := by omega
      have h2 : (0 : Int) ≤ (i : Int) := by omega
      go_wp2
      go_round
      case rel => exact ⟨_, i + 1, by omega, rfl, by go_num⟩
      case measure => simp [intOf]; omega
    · have h1 : ¬ (i : Int) < (len : Int) := by omega
      go_wp2
      go_ret
      exact ⟨h, rfl, rfl⟩

set_option maxHeartbeats 400000 in
theorem l1Below_any (N k : Nat) (a0 : Option Addr) (len cap : Nat) (n : Int) (w : World) (hc : CodeOk N w a0 len) (hk : N ≤ k) (hN : N ≤ w.heap.size) (hcur : CurAt w k a0 len cap) (hn : 0 < n) :
    Calls Try.prog 28 #[.pointer (some ⟨k, 0, none⟩), .int .i64 n] w (Draws (fun x => 0 ≤ x ∧ x < n) k a0 len cap w) := by
  by_cases hs : n ≤ 256
  · go_enter Try.func28, Try.ntmps28
    go_wp2_with fail
    refine (l1Byte_any N k a0 len cap _ hc hk hcur).mono ?_
    rintro e w1 ⟨x, ⟨x0, x1⟩, rfl, hB, hcur1⟩
    go_wp2
    go_ret
    exact ⟨x % n, ⟨Int.emod_nonneg _ (by omega), Int.emod_lt_of_pos _ hn⟩, rfl, hB, hcur1⟩
  · have hp : ¬ n ≤ 0 := by omega
    go_enter Try.func28, Try.ntmps28
    go_wp2_with fail
    refine (l1Byte_any N k a0 len cap _ hc hk hcur).mono ?_
    rintro e w1 ⟨x, ⟨x0, x1⟩, rfl, hB1, hcur1⟩
    have hc1 := hc.below (hB1.below hk hN)
    have hN1 := Nat.le_trans hN hB1.size
    go_wp2_with fail
    refine (l1Byte_any N k a0 len cap _ hc1 hk hcur1).mono ?_
    rintro e w2 ⟨y, ⟨y0, y1⟩, rfl, hB2, hcur2⟩
    have hc2 := hc1.below (hB2.below hk hN1)
    have hN2 := Nat.le_trans hN1 hB2.size
    go_wp2_with fail
    refine (l1Byte_any N k a0 len cap _ hc2 hk hcur2).mono ?_
    rintro e w3 ⟨z, ⟨z0, z1⟩, rfl, hB3, hcur3⟩
    have hc3 := hc2.below (hB3.below hk hN2)
    go_wp2_with fail
    refine (l1Byte_any N k a0 len cap _ hc3 hk hcur3).mono ?_
    rintro e w4 ⟨v, ⟨v0, v1⟩, rfl, hB4, hcur4⟩
    go_wp2
    go_ret
    exact ⟨(x * 16777216 + y * 65536 + z * 256 + v) % n, ⟨Int.emod_nonneg _ (by omega), Int.emod_lt_of_pos _ hn⟩, rfl, ((hB1.trans hB2).trans hB3).trans hB4, hcur4⟩

set_option maxHeartbeats 400000 in
theorem l1Once_any (N k : Nat) (a0 : Option Addr) (len cap : Nat) (n : Int) (w : World) (hc : CodeOk N w a0 len) (hk : N ≤ k) (hN : N ≤ w.heap.size) (hcur : CurAt w k a0 len cap) (hn : 0 < n) :
    Calls Try.prog 26 #[.pointer (some ⟨k, 0, none⟩), .int .i64 n] w (DrawsB k a0 len cap w) := by
  go_enter Try.func26, Try.ntmps26
  go_wp2_with fail
  refine (l1Below_any N k a0 len cap n _ hc hk hN hcur hn).mono ?_
  rintro e w1 ⟨x, _, rfl, hB, hcur1⟩
  go_wp2
  go_ret
  exact ⟨_, rfl, hB, hcur1⟩

set_option maxHeartbeats 400000 in
theorem l1From_any (N k : Nat) (a0 : Option Addr) (len cap : Nat) (lo hi : Int) (w : World) (hc : CodeOk N w a0 len) (hk : N ≤ k) (hN : N ≤ w.heap.size) (hcur : CurAt w k a0 len cap) (h1 : lo ≤ hi) (h2 : -1000000000 ≤ lo) (h3 : hi ≤ 1000000000) :
    Calls Try.prog 27 #[.pointer (some ⟨k, 0, none⟩), .int .i64 lo, .int .i64 hi] w (Draws (fun x => lo ≤ x ∧ x ≤ hi) k a0 len cap w) := by
  go_enter Try.func27, Try.ntmps27
  go_wp2_with fail
  refine (l1Below_any N k a0 len cap _ _ hc hk hN hcur (by omega)).mono ?_
  rintro e w1 ⟨x, ⟨x0, x1⟩, rfl, hB, hcur1⟩
  go_wp2
  go_ret
  exact ⟨lo + x, ⟨by omega, by omega⟩, rfl, hB, hcur1⟩

/-- A place is drawn. -/
def DrawsP (k : Nat) (a0 : Option Addr) (len cap : Nat) (w : World) (e : Ending) (w' : World) : Prop :=
  ∃ (a c : Bool) (b d : Int), e = .returned (.agg #[.bool a, .int .i64 b, .bool c, .int .i64 d]) ∧ But k w w' ∧ CurAt w' k a0 len cap

theorem But.alloc {k : Nat} {a b : World} (h : But k a b) (o : Obj) : But k a (b.alloc o) :=
  ⟨h.os, h.tape, h.output, by have := h.size; simp; omega, fun j hj hk => by
    rw [← h.block j hj hk]
    exact ((Below.refl _ b).alloc (Nat.le_refl _) o).block j (Nat.lt_of_lt_of_le hj h.size)⟩
theorem But.setNew {k g : Nat} {a b : World} (h : But k a b) (hg : a.heap.size ≤ g) (i : Nat) (v : Value) : But k a (b.setCell ⟨g, i, none⟩ v) :=
  ⟨h.os, h.tape, h.output, by simpa using h.size, fun j hj hk => by
    rw [← h.block j hj hk]
    simp [World.setCell, Array.getElem?_modify, show g ≠ j by omega]⟩
theorem CurAt.alloc {k : Nat} {w : World} {a0 : Option Addr} {len cap : Nat} (h : CurAt w k a0 len cap) (o : Obj) : CurAt (w.alloc o) k a0 len cap := by
  obtain ⟨i, x, hi, hb⟩ := h
  exact ⟨i, x, hi, hb.alloc o⟩
theorem CurAt.set_ne {k g : Nat} {w : World} {a0 : Option Addr} {len cap : Nat} (h : CurAt w k a0 len cap) (hne : k ≠ g) (i : Nat) (v : Value) : CurAt (w.setCell ⟨g, i, none⟩ v) k a0 len cap := by
  obtain ⟨j, x, hi, hb⟩ := h
  exact ⟨j, x, hi, hb.set_ne hne i v⟩
theorem CurAt.lt {k : Nat} {w : World} {a0 : Option Addr} {len cap : Nat} (h : CurAt w k a0 len cap) : k < w.heap.size := by
  obtain ⟨j, x, hi, hb⟩ := h
  exact hb.lt
theorem CurAt.sn {k g : Nat} {w : World} {a0 : Option Addr} {len cap : Nat} (h : CurAt w k a0 len cap) {i : Nat} {v : Value} (hne : k ≠ g := by omega) : CurAt (w.setCell ⟨g, i, none⟩ v) k a0 len cap := h.set_ne hne i v

set_option maxHeartbeats 400000 in
theorem l1DrawPlace_any (N k : Nat) (a0 : Option Addr) (len cap : Nat) (w : World) (hc : CodeOk N w a0 len) (hk : N ≤ k) (hN : N ≤ w.heap.size) (hcur : CurAt w k a0 len cap) :
    Calls Try.prog 96 #[.pointer (some ⟨k, 0, none⟩)] w (DrawsP k a0 len cap w) := by
  have lk := hcur.lt
  go_enter Try.func96, Try.ntmps96
  go_wp2_with fail
  refine calls_abs (fun W => But k w W ∧ CurAt W k a0 len cap ∧ BoxAt W w.heap.size #[.bool false, .int .i64 0, .bool false, .int .i64 0] 25) ⟨(But.refl _ _).alloc _, hcur.alloc _, BoxAt.new _ _ _⟩ ?_
  rintro W0 ⟨hB0, hcur0, hx0⟩
  refine (l1Once_any N k a0 len cap _ _ (hc.below (hB0.below hk hN)) hk (Nat.le_trans hN hB0.size) hcur0 (by omega)).mono ?_
  rintro e w1 ⟨x, rfl, hB1, hcur1⟩
  replace hx0 := hB1.box hx0 (by omega)
  replace hB1 := hB0.trans hB1
  go_wp2_with fail
  refine (l1Below_any N k a0 len cap _ _ (hc.below (hB1.below hk hN)) hk (Nat.le_trans hN hB1.size) hcur1 (by omega)).mono ?_
  rintro e w2 ⟨y, ⟨y0, y1⟩, rfl, hB2, hcur2⟩
  replace hx0 := hB2.box hx0 (by omega)
  replace hB2 := hB1.trans hB2
  have hs2 := hB2.size
  have lx := hx0.lt
  go_wp2_with fail
  refine calls_abs (fun W => But k w W ∧ CurAt W k a0 len cap ∧ BoxAt W w.heap.size #[.bool false, .int .i64 0, .bool false, .int .i64 0] 25 ∧ BoxAt W w2.heap.size #[.bool (!x), .int .i64 y, .bool false, .int .i64 0] 25) ⟨hB2.alloc _, hcur2.alloc _, hx0.alloc _, BoxAt.new _ _ _⟩ ?_
  rintro W3 ⟨hB3, hcur3, hx3, hp3⟩
  refine (l1Once_any N k a0 len cap _ _ (hc.below (hB3.below hk hN)) hk (Nat.le_trans hN hB3.size) hcur3 (by omega)).mono ?_
  rintro e w4 ⟨z, rfl, hB4, hcur4⟩
  replace hx3 := hB4.box hx3 (by omega)
  replace hp3 := hB4.box hp3 (by omega)
  replace hB4 := hB3.trans hB4
  have kx := hx3.cell
  have kp := hp3.cell
  have fx := hx3.frozen
  have fp := hp3.frozen
  cases z
  · go_wp2
    refine bodyPost_ret (v := .agg #[.bool (!x), .int .i64 y, .bool false, .int .i64 0]) (by simp [results, Try.results96, go_sem, kx]) rfl ⟨_, _, _, _, rfl, ?_, ?_⟩
    · exact (((hB4.setNew (Nat.le_refl _) 0 _).setNew (Nat.le_refl _) 1 _).setNew (Nat.le_refl _) 2 _).setNew (Nat.le_refl _) 3 _
    · exact (((hcur4.set_ne (by omega) 0 _).set_ne (by omega) 1 _).set_ne (by omega) 2 _).set_ne (by omega) 3 _
  · go_wp2_with fail
    refine calls_abs (fun W => But k w W ∧ CurAt W k a0 len cap ∧ BoxAt W w.heap.size #[.bool false, .int .i64 0, .bool false, .int .i64 0] 25 ∧ BoxAt W w2.heap.size #[.bool (!x), .int .i64 y, .bool true, .int .i64 0] 25) ⟨hB4.setNew hs2 2 _, hcur4.set_ne (by omega) 2 _, hx3.set_ne (by omega) 2 _, by simpa using hp3.set 2 (.bool true)⟩ ?_
    clear kx kp fx fp hp3 hx3
    rintro W5 ⟨hB5, hcur5, hx5, hp5⟩
    refine (l1Below_any N k a0 len cap _ _ (hc.below (hB5.below hk hN)) hk (Nat.le_trans hN hB5.size) hcur5 (by omega)).mono ?_
    rintro e w6 ⟨u, ⟨u0, u1⟩, rfl, hB6, hcur6⟩
    replace hx5 := hB6.box hx5 (by omega)
    replace hp5 := hB6.box hp5 (by omega)
    replace hB6 := hB5.trans hB6
    have kx := hx5.cell
    have kp := hp5.cell
    have fx := hx5.frozen
    have fp := hp5.frozen
    have hne : w.heap.size ≠ w2.heap.size := by omega
    go_wp2
    refine bodyPost_ret (v := .agg #[.bool (!x), .int .i64 y, .bool true, .int .i64 (1 + u)]) (by simp [results, Try.results96, go_sem, kx]) rfl ⟨_, _, _, _, rfl, ?_, ?_⟩
    · exact ((((hB6.setNew hs2 3 _).setNew (Nat.le_refl _) 0 _).setNew (Nat.le_refl _) 1 _).setNew (Nat.le_refl _) 2 _).setNew (Nat.le_refl _) 3 _
    · exact ((((hcur6.set_ne (by omega) 3 _).set_ne (by omega) 0 _).set_ne (by omega) 1 _).set_ne (by omega) 2 _).set_ne (by omega) 3 _

set_option maxHeartbeats 1000000 in
theorem l1DrawAny_any (N k : Nat) (a0 : Option Addr) (len cap : Nat) (w : World) (hc : CodeOk N w a0 len) (hk : N ≤ k) (hN : N ≤ w.heap.size) (hcur : CurAt w k a0 len cap) :
    Calls Try.prog 85 #[.pointer (some ⟨k, 0, none⟩)] w (DrawsP k a0 len cap w) := by
  have lk := hcur.lt
  go_enter Try.func85, Try.ntmps85
  go_wp2_with fail
  refine calls_abs (fun W => But k w W ∧ CurAt W k a0 len cap ∧ BoxAt W w.heap.size #[.bool false, .int .i64 0, .bool false, .int .i64 0] 25) ⟨(But.refl _ _).alloc _, hcur.alloc _, BoxAt.new _ _ _⟩ ?_
  rintro W0 ⟨hB0, hcur0, hx0⟩
  refine (l1DrawPlace_any N k a0 len cap _ (hc.below (hB0.below hk hN)) hk (Nat.le_trans hN hB0.size) hcur0).mono ?_
  rintro e w2 ⟨a, c, b, d, rfl, hB2, hcur2⟩
  replace hx0 := hB2.box hx0 (by omega)
  replace hB2 := hB0.trans hB2
  have hs2 := hB2.size
  have lx := hx0.lt
  go_wp2_with fail
  refine calls_abs (fun W => But k w W ∧ CurAt W k a0 len cap ∧ BoxAt W w.heap.size #[.bool false, .int .i64 0, .bool false, .int .i64 0] 25 ∧ BoxAt W w2.heap.size #[.bool a, .int .i64 b, .bool c, .int .i64 d] 25) ⟨hB2.alloc _, hcur2.alloc _, hx0.alloc _, BoxAt.new _ _ _⟩ ?_
  rintro W3 ⟨hB3, hcur3, hx3, hp3⟩
  refine (l1Once_any N k a0 len cap _ _ (hc.below (hB3.below hk hN)) hk (Nat.le_trans hN hB3.size) hcur3 (by omega)).mono ?_
  rintro e w4 ⟨z, rfl, hB4, hcur4⟩
  replace hx3 := hB4.box hx3 (by omega)
  replace hp3 := hB4.box hp3 (by omega)
  replace hB4 := hB3.trans hB4
  have hne : w.heap.size ≠ w2.heap.size := by omega
  cases z
  · have kx := hx3.cell
    have kp := hp3.cell
    have fx := hx3.frozen
    go_wp2
    refine bodyPost_ret (v := .agg #[.bool a, .int .i64 b, .bool c, .int .i64 d]) (by simp [results, Try.results85, go_sem, kx]) rfl ⟨_, _, _, _, rfl, ?_, ?_⟩
    · exact (((hB4.setNew (Nat.le_refl _) 0 _).setNew (Nat.le_refl _) 1 _).setNew (Nat.le_refl _) 2 _).setNew (Nat.le_refl _) 3 _
    · exact (((hcur4.set_ne (by omega) 0 _).set_ne (by omega) 1 _).set_ne (by omega) 2 _).set_ne (by omega) 3 _
  · go_wp2_with fail
    refine (l1Below_any N k a0 len cap _ _ (hc.below (hB4.below hk hN)) hk (Nat.le_trans hN hB4.size) hcur4 (by omega)).mono ?_
    rintro e w5 ⟨y, ⟨y0, y1⟩, rfl, hB5, hcur5⟩
    replace hx3 := hB5.box hx3 (by omega)
    replace hp3 := hB5.box hp3 (by omega)
    replace hB5 := hB4.trans hB5
    have l5 := hp3.lt
    have lk5 := hcur5.lt
    have kx := hx3.cell
    have kp := hp3.cell
    have fx := hx3.frozen
    have fp := hp3.frozen
    have hy : y = 0 ∨ y = 1 ∨ y = 2 := by omega
    rcases hy with rfl | rfl | rfl
    · go_wp2_with fail
      refine calls_abs (fun W => But k w W ∧ CurAt W k a0 len cap ∧ BoxAt W w.heap.size #[.bool false, .int .i64 0, .bool false, .int .i64 0] 25 ∧ BoxAt W w2.heap.size #[.bool a, .int .i64 b, .bool c, .int .i64 d] 25 ∧ BoxAt W w5.heap.size #[.int .i64 (-1), .int .i64 (1000000), .int .i64 (1000001)] 2 ∧ w5.heap.size < W.heap.size) ⟨hB5.alloc _, hcur5.alloc _, hx3.alloc _, hp3.alloc _, BoxAt.new _ _ _, by simp⟩ ?_
      clear kx kp fx fp hx3 hp3
      rintro W6 ⟨hB6, hcur6, hx3, hp3, hl6, hs6⟩
      refine (l1Below_any N k a0 len cap _ _ (hc.below (hB6.below hk hN)) hk (Nat.le_trans hN hB6.size) hcur6 (by omega)).mono ?_
      rintro e w7 ⟨u, ⟨u0, u1⟩, rfl, hB7, hcur7⟩
      have hx7 := hB7.box hx3 (by omega)
      have hp7 := hB7.box hp3 (by omega)
      have hl7 := hB7.box hl6 (by omega)
      replace hB7 := hB6.trans hB7
      have kx := hx7.cell
      have kp := hp7.cell
      have kl := hl7.cell
      have fx := hx7.frozen
      have fp := hp7.frozen
      clear hx3 hp3 hl6 hx7 hp7 hl7 hB6 hcur6
      have hu : u = 0 ∨ u = 1 ∨ u = 2 := by omega
      rcases hu with rfl | rfl | rfl
      · go_wp2
        refine bodyPost_ret (v := .agg #[.bool a, .int .i64 (-1), .bool c, .int .i64 d]) (by simp [results, Try.results85, go_sem, kx]) rfl ⟨_, _, _, _, rfl, ?_, ?_⟩
        · exact ((((hB7.setNew hs2 1 _).setNew (Nat.le_refl _) 0 _).setNew (Nat.le_refl _) 1 _).setNew (Nat.le_refl _) 2 _).setNew (Nat.le_refl _) 3 _
        · exact ((((hcur7.set_ne (by omega) 1 _).set_ne (by omega) 0 _).set_ne (by omega) 1 _).set_ne (by omega) 2 _).set_ne (by omega) 3 _
      · go_wp2
        refine bodyPost_ret (v := .agg #[.bool a, .int .i64 (1000000), .bool c, .int .i64 d]) (by simp [results, Try.results85, go_sem, kx]) rfl ⟨_, _, _, _, rfl, ?_, ?_⟩
        · exact ((((hB7.setNew hs2 1 _).setNew (Nat.le_refl _) 0 _).setNew (Nat.le_refl _) 1 _).setNew (Nat.le_refl _) 2 _).setNew (Nat.le_refl _) 3 _
        · exact ((((hcur7.set_ne (by omega) 1 _).set_ne (by omega) 0 _).set_ne (by omega) 1 _).set_ne (by omega) 2 _).set_ne (by omega) 3 _
      · go_wp2
        refine bodyPost_ret (v := .agg #[.bool a, .int .i64 (1000001), .bool c, .int .i64 d]) (by simp [results, Try.results85, go_sem, kx]) rfl ⟨_, _, _, _, rfl, ?_, ?_⟩
        · exact ((((hB7.setNew hs2 1 _).setNew (Nat.le_refl _) 0 _).setNew (Nat.le_refl _) 1 _).setNew (Nat.le_refl _) 2 _).setNew (Nat.le_refl _) 3 _
        · exact ((((hcur7.set_ne (by omega) 1 _).set_ne (by omega) 0 _).set_ne (by omega) 1 _).set_ne (by omega) 2 _).set_ne (by omega) 3 _
    · go_wp2_with fail
      refine calls_abs (fun W => But k w W ∧ CurAt W k a0 len cap ∧ BoxAt W w.heap.size #[.bool false, .int .i64 0, .bool false, .int .i64 0] 25 ∧ BoxAt W w2.heap.size #[.bool a, .int .i64 b, .bool c, .int .i64 d] 25 ∧ BoxAt W w5.heap.size #[.int .i64 (0), .int .i64 (1000000), .int .i64 (1000001)] 2 ∧ w5.heap.size < W.heap.size) ⟨hB5.alloc _, hcur5.alloc _, hx3.alloc _, hp3.alloc _, BoxAt.new _ _ _, by simp⟩ ?_
      clear kx kp fx fp hx3 hp3
      rintro W6 ⟨hB6, hcur6, hx3, hp3, hl6, hs6⟩
      refine (l1Below_any N k a0 len cap _ _ (hc.below (hB6.below hk hN)) hk (Nat.le_trans hN hB6.size) hcur6 (by omega)).mono ?_
      rintro e w7 ⟨u, ⟨u0, u1⟩, rfl, hB7, hcur7⟩
      have hx7 := hB7.box hx3 (by omega)
      have hp7 := hB7.box hp3 (by omega)
      have hl7 := hB7.box hl6 (by omega)
      replace hB7 := hB6.trans hB7
      have kx := hx7.cell
      have kp := hp7.cell
      have kl := hl7.cell
      have fx := hx7.frozen
      have fp := hp7.frozen
      clear hx3 hp3 hl6 hx7 hp7 hl7 hB6 hcur6
      have hu : u = 0 ∨ u = 1 ∨ u = 2 := by omega
      rcases hu with rfl | rfl | rfl
      · go_wp2
        refine bodyPost_ret (v := .agg #[.bool a, .int .i64 b, .bool c, .int .i64 (0)]) (by simp [results, Try.results85, go_sem, kx]) rfl ⟨_, _, _, _, rfl, ?_, ?_⟩
        · exact ((((hB7.setNew hs2 3 _).setNew (Nat.le_refl _) 0 _).setNew (Nat.le_refl _) 1 _).setNew (Nat.le_refl _) 2 _).setNew (Nat.le_refl _) 3 _
        · exact ((((hcur7.set_ne (by omega) 3 _).set_ne (by omega) 0 _).set_ne (by omega) 1 _).set_ne (by omega) 2 _).set_ne (by omega) 3 _
      · go_wp2
        refine bodyPost_ret (v := .agg #[.bool a, .int .i64 b, .bool c, .int .i64 (1000000)]) (by simp [results, Try.results85, go_sem, kx]) rfl ⟨_, _, _, _, rfl, ?_, ?_⟩
        · exact ((((hB7.setNew hs2 3 _).setNew (Nat.le_refl _) 0 _).setNew (Nat.le_refl _) 1 _).setNew (Nat.le_refl _) 2 _).setNew (Nat.le_refl _) 3 _
        · exact ((((hcur7.set_ne (by omega) 3 _).set_ne (by omega) 0 _).set_ne (by omega) 1 _).set_ne (by omega) 2 _).set_ne (by omega) 3 _
      · go_wp2
        refine bodyPost_ret (v := .agg #[.bool a, .int .i64 b, .bool c, .int .i64 (1000001)]) (by simp [results, Try.results85, go_sem, kx]) rfl ⟨_, _, _, _, rfl, ?_, ?_⟩
        · exact ((((hB7.setNew hs2 3 _).setNew (Nat.le_refl _) 0 _).setNew (Nat.le_refl _) 1 _).setNew (Nat.le_refl _) 2 _).setNew (Nat.le_refl _) 3 _
        · exact ((((hcur7.set_ne (by omega) 3 _).set_ne (by omega) 0 _).set_ne (by omega) 1 _).set_ne (by omega) 2 _).set_ne (by omega) 3 _
    · -- the flag turns
      go_wp2
      refine bodyPost_ret (v := .agg #[.bool a, .int .i64 b, .bool (!c), .int .i64 d]) (by simp [results, Try.results85, go_sem, kx]) rfl ⟨_, _, _, _, rfl, ?_, ?_⟩
      · exact ((((hB5.setNew hs2 2 _).setNew (Nat.le_refl _) 0 _).setNew (Nat.le_refl _) 1 _).setNew (Nat.le_refl _) 2 _).setNew (Nat.le_refl _) 3 _
      · exact ((((hcur5.set_ne (by omega) 2 _).set_ne (by omega) 0 _).set_ne (by omega) 1 _).set_ne (by omega) 2 _).set_ne (by omega) 3 _

end Go.Proofs.Ytomfaabifpndbaa

/-
  What a drawing cursor leaves as it is.
-/
namespace Go.Proofs.Ytomfaabifpndbaa
set_option linter.unusedSimpArgs false
set_option linter.unusedVariables false
open Go.RowKit
set_option linter.unusedVariables false

theorem But.grown {k : Nat} {a b c : World} {row : Option Nat} (h : But k a b) (hg : b.grownBy c row) (hr : ∀ g, row = some g → a.heap.size ≤ g) : But k a c :=
  ⟨hg.os.trans h.os, hg.tape.trans h.tape, hg.output.trans h.output, Nat.le_trans h.size hg.size, fun j hj hk => (hg.block j (Nat.lt_of_lt_of_le hj h.size) (fun e => by have := hr j e.symm; omega)).trans (h.block j hj hk)⟩
theorem CurAt.grown {k : Nat} {w w' : World} {a0 : Option Addr} {len cap : Nat} {row : Option Nat} (h : CurAt w k a0 len cap) (hg : w.grownBy w' row) (hr : row ≠ some k) : CurAt w' k a0 len cap := by
  obtain ⟨i, x, hi, hb⟩ := h
  exact ⟨i, x, hi, hb.grown2 hg hr⟩
theorem own_but {k N : Nat} {e : TypeId} {s : Nat} {v : Value} {n : Nat} {xs : List Value} {w w' : World} (h : w.ownsRow N e s v n xs) (hb : But k w w') (hk : k < N) : w'.ownsRow N e s v n xs := by
  refine ⟨h.1, ?_⟩
  rcases h.2 with h' | ⟨g, cap, cur, hv, hg, hh, hr⟩
  · exact .inl h'
  · exact .inr ⟨g, cap, cur, hv, hg, (hb.block g (Array.getElem?_eq_some_iff.1 hh).1 (by omega)).trans hh, hr⟩
theorem KeepT.but {T : TypeId} {k : Nat} {w w' : World} {cs : Array Value} {t : TypeId} (hb : But k w w') (hk : BoxAt w k cs t) (ht : t ≠ T) : KeepT T w w' := fun g cs' hg => hb.block g hg.lt (by
  rintro rfl
  unfold BoxAt at hg hk
  rw [hg] at hk
  injection hk with hk
  injection hk with _ hk
  exact ht hk.symm)
theorem CurAt.box {k : Nat} {w : World} {a0 : Option Addr} {len cap : Nat} (h : CurAt w k a0 len cap) : ∃ cs, BoxAt w k cs 91 := by
  obtain ⟨i, x, hi, hb⟩ := h
  exact ⟨_, hb⟩
theorem But.setsNew {k g : Nat} {a : World} : ∀ {b : World}, But k a b → a.heap.size ≤ g → ∀ (us : List Value) (o : Nat), But k a (Go.Proofs.Ytomfaabifpndbaa.setCells b g o us)
  | _, h, _, [], _ => h
  | _, h, hg, u :: us, o => But.setsNew (h.setNew hg o u) hg us (o + 1)
theorem But.drew {k : Nat} {a b : World} (h : But k a b) : But k a b.drew := ⟨h.os, h.tape, h.output, h.size, h.block⟩
theorem CurAt.sets {k g : Nat} {w : World} {a0 : Option Addr} {len cap : Nat} (h : CurAt w k a0 len cap) (hne : k ≠ g) (us : List Value) (o : Nat) : CurAt (setCells w g o us) k a0 len cap := by
  obtain ⟨j, x, hi, hb⟩ := h
  exact ⟨j, x, hi, BoxAt.sets_ne us o hb hne⟩
theorem CurAt.belowC {k : Nat} {w w' : World} {a0 : Option Addr} {len cap : Nat} (h : CurAt w k a0 len cap) (hb : Below w.heap.size w w') : CurAt w' k a0 len cap := by
  obtain ⟨j, x, hi, hx⟩ := h
  exact ⟨j, x, hi, hx.below hb hx.lt⟩
theorem SameIn.butc {lo hi k : Nat} {w w' : World} (h : But k w w') (hk : k < lo) (hh : hi ≤ w.heap.size) : SameIn lo hi w w' := fun j h1 h2 => h.block j (by omega) (by omega)
theorem IntsO.butc {N k : Nat} {w w' : World} {v : Value} {l : List Int} (h : IntsO N w v l) (hb : But k w w') (hk : k < N) : IntsO N w' v l := own_but h hb hk

/-- Numbers are drawn: a list of them, of the call's own. -/
def DrawsL (m : Nat) (k : Nat) (a0 : Option Addr) (len cap : Nat) (w : World) (e : Ending) (w' : World) : Prop :=
  ∃ (l : List Int) (A : Option Addr) (c : Nat), e = .returned (.slice A l.length c) ∧ l.length ≤ m ∧ IntsW w.heap.size w'.heap.size w' A l.length c l ∧ But k w w' ∧ CurAt w' k a0 len cap

end Go.Proofs.Ytomfaabifpndbaa

/-
  The draws of turns and of jobs.
-/
namespace Go.Proofs.Ytomfaabifpndbaa
set_option linter.unusedSimpArgs false
set_option linter.unusedVariables false
open Go.RowKit
set_option linter.unusedVariables false
attribute [local go_sem ↓] Go.wp_at_zero Go.wp_at_succ

set_option maxRecDepth 100000 in
set_option maxHeartbeats 2000000 in
theorem l10DrawTurns_any (N k : Nat) (a0 : Option Addr) (len cap : Nat) (n : Int) (most : Nat) (w : World) (hc : CodeOk N w a0 len) (hk : N ≤ k) (hN : N ≤ w.heap.size) (hcur : CurAt w k a0 len cap) (hn : 0 < n) (hm0 : 0 < most) (hm1 : most ≤ 256) :
    Calls Try.prog 107 #[.pointer (some ⟨k, 0, none⟩), .int .i64 n, .int .i64 most] w (DrawsL most k a0 len cap w) := by
  obtain ⟨i0, hi0, hz0, hz1, hz2⟩ := info_parts int_info
  have HI := Lib.hid hi0
  have HZ0 := Lib.hid hz0
  have HZ1 := Lib.hid hz1
  have HZ2 := Lib.hid hz2
  clear hi0 hz0 hz1 hz2
  have lk := hcur.lt
  go_enter Try.func107, Try.ntmps107
  go_wp2_with fail
  refine calls_abs (fun W => But k w W ∧ CurAt W k a0 len cap ∧ W.ownsRow w.heap.size 2 1 (.slice (some ⟨w.heap.size, 0, none⟩) 0 0) 0 (([] : List Int).flatMap ic)) ⟨(But.refl _ _).alloc _, hcur.alloc _, own_made rfl (Nat.le_refl _)⟩ ?_
  rintro W0 ⟨hB, hcur0, hO⟩
  refine (l1Below_any N k a0 len cap _ _ (hc.below (hB.below hk hN)) hk (Nat.le_trans hN hB.size) hcur0 (by omega)).mono ?_
  rintro e w1 ⟨x, ⟨x0, x1⟩, rfl, hB1, hcur1⟩
  replace hO := own_but hO hB1 lk
  replace hB := hB.trans hB1
  clear hB1 hcur0
  go_wp2
  go_loopw [7, 8] (fun s7 s8 W => ∃ (l : List Int) (z : Int) (A : Option Addr) (c : Nat), s7 = .slice A l.length c ∧ s8 = .int .i64 z ∧ -1 ≤ z ∧ (l.length : Int) + z ≤ (most : Int) - 1 ∧ But k w W ∧ CurAt W k a0 len cap ∧ W.ownsRow w.heap.size 2 1 (.slice A l.length c) l.length (l.flatMap ic)) (fun _ s8 _ => (intOf s8).toNat)
  case atStart => exact ⟨[], x, some ⟨w.heap.size, 0, none⟩, 0, rfl, rfl, by omega, by simp; omega, hB, hcur1, hO⟩
  case round =>
    clear hB hcur1 hO
    obtain ⟨l, z, A, c, rfl, rfl, hz1, hz2, hB, hcur1, hO⟩ := hrel
    by_cases hzp : 0 < z
    · have hll : l.length < 256 := by omega
      go_wp2_with fail
      refine (l1Below_any N k a0 len cap _ _ (hc.below (hB.below hk hN)) hk (Nat.le_trans hN hB.size) hcur1 hn).mono ?_
      rintro e w2 ⟨v, ⟨v0, v1⟩, rfl, hB2, hcur2⟩
      replace hO := own_but hO hB2 lk
      replace hB := hB.trans hB2
      clear hB2 hcur1
      have hws := hB.size
      go_wp2_with (at_builtin; go_must (refine wpList_append_own_at _ rfl (.tmp 17) (.tmp 21) _ rfl w.heap.size 2 i0 _ 1 8 Try.underlying41 HI.out HZ0.out HZ1.out HZ2.out rfl (by omega) (.slice A l.length c) l.length _ rfl (hO.alloc _) ⟨w2.heap.size, 0, none⟩ 1 1 [.int .i64 v] rfl rfl (news_alloc _ _ _) (by intro u hu; simp at hu; subst hu; rfl) (by unfold maxLen; omega) (by omega) (by simp; omega) ?_; intro v' w' hO' hg' hz' hat'; clear hz' hat'; obtain ⟨g', cap'', rfl, hP'⟩ := Own.of_row (f := ic) (l := l ++ [v]) (by rw [List.flatMap_append]; exact hO') (by simp) (by omega); have hB' := But.grown (hB.alloc _) hg' (fun g hg => (hO.lt g hg).1); have hcur' := CurAt.grown (hcur2.alloc _) hg' (fun e => by have := (hO.lt k e).1; omega)))
      go_loopw [7, 8] (fun s7 s8 W => ∃ (l' : List Int) (z' : Int) (A : Option Addr) (c : Nat), s7 = .slice A l'.length c ∧ s8 = .int .i64 z' ∧ 0 ≤ z' ∧ z' ≤ z ∧ 1 ≤ l'.length ∧ (l'.length : Int) + z' ≤ (most : Int) ∧ But k w W ∧ CurAt W k a0 len cap ∧ W.ownsRow w.heap.size 2 1 (.slice A l'.length c) l'.length (l'.flatMap ic)) (fun _ s8 _ => (intOf s8).toNat)
      case atStart => exact ⟨l ++ [v], z, some ⟨g', 0, none⟩, cap'', by simp, rfl, by omega, by omega, by simp, by simp; omega, hB', hcur', by have := hP'.own ic_len; simpa using this⟩
      case round =>
        clear hB hcur2 hO hB' hcur' hP' hg' hO'
        obtain ⟨l', z', A', c', rfl, rfl, hy0, hy1, hy2, hy3, hB, hcur1, hO⟩ := hrel
        go_wp2_with fail
        refine (l1Once_any N k a0 len cap _ _ (hc.below (hB.below hk hN)) hk (Nat.le_trans hN hB.size) hcur1 (by omega)).mono ?_
        rintro e w3 ⟨b, rfl, hB3, hcur3⟩
        replace hO := own_but hO hB3 lk
        replace hB := hB.trans hB3
        clear hB3 hcur1
        have hws := hB.size
        cases b
        · go_wp2
          go_roundw
          case rel => exact ⟨l', z' - 1, A', c', rfl, rfl, by omega, by omega, hB, hcur3, hO⟩
          case measure => simp [intOf]; omega
        · by_cases hyp : 0 < z'
          · have hyd : decide (0 < z') = true := decide_eq_true hyp
            obtain ⟨g2, cap2, e2, hP2⟩ := Own.of_row (f := ic) hO rfl (by omega)
            injection e2 with e2 _ e3
            subst e2 e3
            have hl1 : l'.length - 1 < l'.length := by omega
            have hle : l'[l'.length - 1]? = some (l'[l'.length - 1]'hl1) := List.getElem?_eq_getElem hl1
            have kl := Own.cell_ ic_len hP2 (j := 0) hle rfl
            rw [Nat.mul_one, Nat.add_zero] at kl
            generalize l'[l'.length - 1]'hl1 = vv at *
            clear hle
            have hg1 : (0 : Int) ≤ (l'.length : Int) - 1 := by omega
            have hg2 : (l'.length : Int) - 1 < (l'.length : Int) := by omega
            have hnt : ((l'.length : Int) - 1).toNat = l'.length - 1 := by omega
            have hnn : (1 : Int) ≤ (l'.length : Int) := by omega
            go_wp2_with (at_builtin; go_must (refine wpList_append_own_at _ rfl (.tmp 29) (.tmp 36) _ rfl w.heap.size 2 i0 _ 1 8 Try.underlying41 HI.out HZ0.out HZ1.out HZ2.out rfl (by omega) (.slice (some ⟨g2, 0, none⟩) l'.length c') l'.length _ rfl (hO.alloc _) ⟨w3.heap.size, 0, none⟩ 1 1 [.int .i64 vv] rfl rfl (news_alloc _ _ _) (by intro u hu; simp at hu; subst hu; rfl) (by unfold maxLen; omega) (by omega) (by simp; omega) ?_; intro v' w' hO' hg' hz' hat'; clear hz' hat'; obtain ⟨g', cap'', rfl, hP'⟩ := Own.of_row (f := ic) (l := l' ++ [vv]) (by rw [List.flatMap_append]; exact hO') (by simp) (by omega); have hB' := But.grown (hB.alloc _) hg' (fun g hg => (hO.lt g hg).1); have hcur' := CurAt.grown (hcur3.alloc _) hg' (fun e => by have := (hO.lt k e).1; omega)))
            go_roundw
            case rel => exact ⟨l' ++ [vv], z' - 1, some ⟨g', 0, none⟩, cap'', by simp, rfl, by omega, by omega, by simp, by simp; omega, hB', hcur', by have := hP'.own ic_len; simpa using this⟩
            case measure => simp [intOf]; omega
          · have hyd : decide (0 < z') = false := decide_eq_false hyp
            go_wp2
            go_roundw
            case rel => exact ⟨l', z' - 1, A', c', rfl, rfl, by omega, by omega, hB, hcur3, hO⟩
            case measure => simp [intOf]; omega
    · have HO := Lib.hid hO; clear hO
      go_wp2
      go_ret
      exact ⟨l, A, c, rfl, by omega, SlW.of_own' (f := ic) HO.out rfl, hB, hcur1⟩

end Go.Proofs.Ytomfaabifpndbaa

/-
  The draw of jobs.
-/
namespace Go.Proofs.Ytomfaabifpndbaa
set_option linter.unusedSimpArgs false
set_option linter.unusedVariables false
open Go.RowKit
set_option linter.unusedVariables false
attribute [local go_sem ↓] Go.wp_at_zero Go.wp_at_succ

theorem SameIn.grown {lo M : Nat} {w w' : World} {row : Option Nat} (hg : w.grownBy w' row) (hr : ∀ g, row = some g → M ≤ g) (hM : M ≤ w.heap.size) : SameIn lo M w w' := fun j _ h2 => hg.block j (by omega) (fun e => by have := hr j e.symm; omega)
theorem own_keepT {N : Nat} {e : TypeId} {s : Nat} {v : Value} {n : Nat} {xs : List Value} {w w' : World} (h : w.ownsRow N e s v n xs) (hk : KeepT e w w') : w'.ownsRow N e s v n xs := by
  refine ⟨h.1, ?_⟩
  rcases h.2 with h' | ⟨g, cap, cur, hv, hg, hh, hr⟩
  · exact .inl h'
  · exact .inr ⟨g, cap, cur, hv, hg, (hk g cur hh).trans hh, hr⟩
theorem EachW.push {lo hi : Nat} {w : World} {rows : List Jw} {L : List (List Int)} {l : List Int} {a : Jw} (h : EachW lo hi w rows L) (ha : IntsW lo hi w a.A a.n a.cap l) : EachW lo hi w (rows ++ [a]) (L ++ [l]) := by
  refine ⟨by simp [h.1], fun j b m hb hm => ?_⟩
  by_cases hj : j < rows.length
  · rw [List.getElem?_append_left hj] at hb
    rw [List.getElem?_append_left (by have := h.1; omega)] at hm
    exact h.2 j b m hb hm
  · obtain rfl : j = rows.length := by
      have := (List.getElem?_eq_some_iff.1 hb).1
      simp at this; omega
    rw [List.getElem?_append_right (Nat.le_refl _)] at hb
    rw [List.getElem?_append_right (by have := h.1; omega)] at hm
    simp [h.1] at hb hm
    subst hb hm
    exact ha

/-- Jobs are drawn. -/
def DrawsJ (k : Nat) (a0 : Option Addr) (len cap : Nat) (w : World) (e : Ending) (w' : World) : Prop :=
  ∃ (js : List (List Int)) (A : Option Addr) (c : Nat), e = .returned (.slice A js.length c) ∧ 1 ≤ js.length ∧ js.length ≤ 3 ∧ (∀ l ∈ js, jobsOk l = true) ∧ ListsW w.heap.size w'.heap.size w' A js.length c js ∧ But k w w' ∧ CurAt w' k a0 len cap

set_option maxRecDepth 100000 in
set_option maxHeartbeats 2000000 in
theorem l10DrawJobs_any (N k : Nat) (a0 : Option Addr) (len cap : Nat) (w : World) (hc : CodeOk N w a0 len) (hk : N ≤ k) (hN : N ≤ w.heap.size) (hcur : CurAt w k a0 len cap) :
    Calls Try.prog 105 #[.pointer (some ⟨k, 0, none⟩)] w (DrawsJ k a0 len cap w) := by
  obtain ⟨i0, hi0, hz0, hz1, hz2⟩ := info_parts int_info
  have HI := Lib.hid hi0
  have HZ0 := Lib.hid hz0
  have HZ1 := Lib.hid hz1
  have HZ2 := Lib.hid hz2
  clear hi0 hz0 hz1 hz2
  obtain ⟨i1, hi0, hz0, hz1, hz2⟩ := info_parts list_info
  have LI := Lib.hid hi0
  have LZ0 := Lib.hid hz0
  have LZ1 := Lib.hid hz1
  have LZ2 := Lib.hid hz2
  clear hi0 hz0 hz1 hz2
  have lk := hcur.lt
  go_enter Try.func105, Try.ntmps105
  go_wp2_with fail
  refine calls_abs (fun W => But k w W ∧ CurAt W k a0 len cap ∧ W.ownsRow w.heap.size 41 1 (.slice (some ⟨w.heap.size, 0, none⟩) 0 0) 0 (([] : List Jw).flatMap Jw.cs)) ⟨(But.refl _ _).alloc _, hcur.alloc _, own_made rfl (Nat.le_refl _)⟩ ?_
  rintro W0 ⟨hB, hcur0, hO⟩
  refine (l1Below_any N k a0 len cap _ _ (hc.below (hB.below hk hN)) hk (Nat.le_trans hN hB.size) hcur0 (by omega)).mono ?_
  rintro e w1 ⟨x, ⟨x0, x1⟩, rfl, hB1, hcur1⟩
  replace hO := own_but hO hB1 lk
  replace hB := hB.trans hB1
  clear hB1 hcur0
  go_wp2
  go_loopw [3, 4, 5] (fun s3 s4 s5 W => ∃ (js : List (List Int)) (rows : List Jw) (z v : Int) (A : Option Addr) (c : Nat), s3 = .slice A js.length c ∧ s4 = .int .i64 v ∧ s5 = .int .i64 z ∧ 0 ≤ z ∧ (js.length : Int) + z ≤ 3 ∧ 1 ≤ (js.length : Int) + z ∧ 1 ≤ v ∧ v ≤ 1 + 3 * (js.length : Int) ∧ (∀ l ∈ js, jobsOk l = true) ∧ But k w W ∧ CurAt W k a0 len cap ∧ W.ownsRow w.heap.size 41 1 (.slice A js.length c) js.length (rows.flatMap Jw.cs) ∧ EachW w.heap.size W.heap.size W rows js) (fun _ _ s5 _ => (intOf s5).toNat)
  case atStart => exact ⟨[], [], 1 + x, 1, some ⟨w.heap.size, 0, none⟩, 0, rfl, rfl, rfl, by omega, by simp; omega, by simp; omega, by omega, by simp, by simp, hB, hcur1, hO, rfl, fun i a l h => by simp at h⟩
  case round =>
    clear hB hcur1 hO
    obtain ⟨js, rows, z, v, A, c, rfl, rfl, rfl, hz1, hz2, hz3, hv1, hv2, hjs, hB, hcur1, hO, hE⟩ := hrel
    have HJS := Lib.hid hjs; clear hjs
    by_cases hzp : 0 < z
    · have hws := hB.size
      have lk1 := hcur1.lt
      obtain ⟨M, hM⟩ : ∃ M, M = wr.heap.size := ⟨_, rfl⟩
      rw [← hM] at hE
      have hwM : w.heap.size ≤ M := by omega
      go_wp2_with fail
      refine calls_abs (fun W => But k w W ∧ CurAt W k a0 len cap ∧ W.ownsRow w.heap.size 41 1 (.slice A js.length c) js.length (rows.flatMap Jw.cs) ∧ EachW w.heap.size M W rows js ∧ W.ownsRow M 2 1 (.slice (some ⟨M, 0, none⟩) 0 0) 0 (([] : List Int).flatMap ic)) ⟨hB.alloc _, hcur1.alloc _, hO.alloc _, hE.keep (.alloc (by omega) _), own_made hM (by omega)⟩ ?_
      rw [← hM]
      clear hB hcur1 hO hE
      rintro W1 ⟨hB, hcur1, hO, hE, hL⟩
      have hM1 : M ≤ W1.heap.size := by have := (hL.lt M rfl).2; omega
      refine (l1Below_any N k a0 len cap _ _ (hc.below (hB.below hk hN)) hk (Nat.le_trans hN hB.size) hcur1 (by omega)).mono ?_
      rintro e w2 ⟨y, ⟨y0, y1⟩, rfl, hB2, hcur2⟩
      replace hO := own_but hO hB2 lk
      replace hL := own_but hL hB2 (by omega)
      replace hE := hE.keep (.but hB2 (.inl lk) hM1)
      have hM2 : M ≤ w2.heap.size := Nat.le_trans hM1 hB2.size
      replace hB := hB.trans hB2
      clear hB2 hcur1 hM1
      go_wp2
      go_loopw [4, 6, 7] (fun s4 s6 s7 W => ∃ (l : List Int) (y v' : Int) (B : Option Addr) (d : Nat), s6 = .slice B l.length d ∧ s4 = .int .i64 v' ∧ s7 = .int .i64 y ∧ 0 ≤ y ∧ (l.length : Int) + y ≤ 3 ∧ 1 ≤ v' ∧ v' ≤ 1 + 3 * (js.length : Int) + l.length ∧ l.all jobB = true ∧ But k w W ∧ CurAt W k a0 len cap ∧ W.ownsRow w.heap.size 41 1 (.slice A js.length c) js.length (rows.flatMap Jw.cs) ∧ EachW w.heap.size M W rows js ∧ W.ownsRow M 2 1 (.slice B l.length d) l.length (l.flatMap ic) ∧ M ≤ W.heap.size) (fun _ _ s7 _ => (intOf s7).toNat)
      case atStart => exact ⟨[], 1 + y, v, some ⟨M, 0, none⟩, 0, by rw [hM]; rfl, rfl, rfl, by omega, by simp; omega, hv1, by simp; omega, rfl, hB, hcur2, hO, hE, hL, hM2⟩
      case round =>
        clear hB hcur2 hO hE hL hM2
        obtain ⟨l, y, v', B, d, rfl, rfl, rfl, hy1, hy2, hv3, hv4, hal, hB, hcur2, hO, hE, hL, hM2⟩ := hrel
        have HAL := Lib.hid hal; clear hal
        by_cases hyp : 0 < y
        · go_wp2_with fail
          refine (l1Once_any N k a0 len cap _ _ (hc.below (hB.below hk hN)) hk (Nat.le_trans hN hB.size) hcur2 (by omega)).mono ?_
          rintro e w3 ⟨b, rfl, hB3, hcur3⟩
          replace hO := own_but hO hB3 lk
          replace hL := own_but hL hB3 (by omega)
          replace hE := hE.keep (.but hB3 (.inl lk) hM2)
          replace hM2 := Nat.le_trans hM2 hB3.size
          replace hB := hB.trans hB3
          clear hB3 hcur2
          cases b
          · have hws2 := hB.size
            have HJB := Lib.hid (show jobB (v') = true from by have := hv4; unfold jobB inB; simp; omega)
            go_wp2_with (at_builtin; go_must (refine wpList_append_own_at _ rfl (.tmp 29) (.tmp 31) _ rfl M 2 i0 _ 1 8 Try.underlying41 HI.out HZ0.out HZ1.out HZ2.out rfl (by omega) (.slice B l.length d) l.length _ rfl (hL.alloc _) ⟨w3.heap.size, 0, none⟩ 1 1 [.int .i64 (v')] rfl rfl (news_alloc _ _ _) (by intro u hu; simp at hu; subst hu; rfl) (by unfold maxLen; omega) (by omega) (by simp; omega) ?_; intro u' w' hL' hg' hz' hat'; clear hz' hat'; obtain ⟨g', cap'', rfl, hP'⟩ := Own.of_row (f := ic) (l := l ++ [v']) (by rw [List.flatMap_append]; exact hL') (by simp) (by omega); have hB' := But.grown (hB.alloc _) hg' (fun g hg => by have := (hL.lt g hg).1; omega); have hcur' := CurAt.grown (hcur3.alloc _) hg' (fun e => by have := (hL.lt k e).1; omega)))
            have hkk : KeepT 41 w3 w' := (KeepT.alloc w3 _).trans (KeepT.grown (hL.alloc _) hg' (by decide))
            have hsm : SameIn w.heap.size M w3 w' := (SameIn.alloc hM2 _).trans (SameIn.grown hg' (fun g hg => (hL.lt g hg).1) (by simp; omega))
            have hsz : w3.heap.size ≤ w'.heap.size := by have := hg'.size; simp at this; omega
            go_roundw
            case rel =>
              refine ⟨l ++ [v'], y - 1, v' + 1, some ⟨g', 0, none⟩, cap'', by simp, rfl, rfl, by omega, by simp; omega, by omega, by simp; omega, ?_, hB', hcur', own_keepT hO hkk, hE.keep hsm, by have := hP'.own ic_len; simpa using this, by omega⟩
              rw [List.all_append, HAL.out]
              simp [HJB.out]
            case measure => simp [intOf]; omega
          · have hws2 := hB.size
            have HJB := Lib.hid (show jobB (0) = true from by decide)
            go_wp2_with (at_builtin; go_must (refine wpList_append_own_at _ rfl (.tmp 26) (.tmp 27) _ rfl M 2 i0 _ 1 8 Try.underlying41 HI.out HZ0.out HZ1.out HZ2.out rfl (by omega) (.slice B l.length d) l.length _ rfl (hL.alloc _) ⟨w3.heap.size, 0, none⟩ 1 1 [.int .i64 (0)] rfl rfl (news_alloc _ _ _) (by intro u hu; simp at hu; subst hu; rfl) (by unfold maxLen; omega) (by omega) (by simp; omega) ?_; intro u' w' hL' hg' hz' hat'; clear hz' hat'; obtain ⟨g', cap'', rfl, hP'⟩ := Own.of_row (f := ic) (l := l ++ [0]) (by rw [List.flatMap_append]; exact hL') (by simp) (by omega); have hB' := But.grown (hB.alloc _) hg' (fun g hg => by have := (hL.lt g hg).1; omega); have hcur' := CurAt.grown (hcur3.alloc _) hg' (fun e => by have := (hL.lt k e).1; omega)))
            have hkk : KeepT 41 w3 w' := (KeepT.alloc w3 _).trans (KeepT.grown (hL.alloc _) hg' (by decide))
            have hsm : SameIn w.heap.size M w3 w' := (SameIn.alloc hM2 _).trans (SameIn.grown hg' (fun g hg => (hL.lt g hg).1) (by simp; omega))
            have hsz : w3.heap.size ≤ w'.heap.size := by have := hg'.size; simp at this; omega
            go_roundw
            case rel =>
              refine ⟨l ++ [0], y - 1, v', some ⟨g', 0, none⟩, cap'', by simp, rfl, rfl, by omega, by simp; omega, by omega, by simp; omega, ?_, hB', hcur', own_keepT hO hkk, hE.keep hsm, by have := hP'.own ic_len; simpa using this, by omega⟩
              rw [List.all_append, HAL.out]
              simp [HJB.out]
            case measure => simp [intOf]; omega
        · have HL := Lib.hid hL
          have hws2 := hB.size
          go_wp2_with (at_builtin; go_must (refine wpList_append_own_at _ rfl (.tmp 35) (.tmp 37) _ rfl w.heap.size 41 i1 _ 1 24 Try.underlying40 LI.out LZ0.out LZ1.out LZ2.out rfl (by omega) (.slice A js.length c) js.length _ rfl (hO.alloc _) ⟨wr.heap.size, 0, none⟩ 1 1 [.slice B l.length d] rfl rfl (news_alloc _ _ _) (by intro u hu; simp at hu; subst hu; rfl) (by unfold maxLen; omega) (by omega) (by simp; omega) ?_; intro u' w' hO' hg' hz' hat'; clear hz' hat'; obtain ⟨g', cap'', rfl, hP'⟩ := Own.of_row (f := Jw.cs) (l := rows ++ [(⟨B, l.length, d⟩ : Jw)]) (n := js.length + 1) (by rw [List.flatMap_append]; exact hO') (by simp [hE.1]) (by omega); have hB' := But.grown (hB.alloc _) hg' (fun g hg => (hO.lt g hg).1); have hcur' := CurAt.grown (hcur2.alloc _) hg' (fun e => by have := (hO.lt k e).1; omega)))
          have hkk : KeepT 2 wr w' := (KeepT.alloc wr _).trans (KeepT.grown (hO.alloc _) hg' (by decide))
          have hsz : wr.heap.size ≤ w'.heap.size := by have := hg'.size; simp at this; omega
          go_roundw
          case rel =>
            refine ⟨js ++ [l], rows ++ [⟨B, l.length, d⟩], z - 1, v', some ⟨g', 0, none⟩, cap'', by simp, rfl, rfl, by omega, by simp; omega, by simp; omega, hv3, by simp; omega, fun m hm => ?_, hB', hcur', by have := hP'.own Jw.cs_len; simpa using this, ?_⟩
            · rcases List.mem_append.1 hm with h1 | h1
              · exact HJS.out m h1
              · simp at h1
                subst h1
                unfold jobsOk
                rw [HAL.out, decide_eq_true (by omega)]; rfl
            · exact EachW.push ((hE.keepT hkk).mono (Nat.le_refl _) (by omega)) (SlW.mono (SlW.keepT (SlW.of_own' (f := ic) HL.out rfl) hkk) (by omega) hsz)
          case measure => simp [intOf]; omega
    · have HO := Lib.hid hO
      have HE := Lib.hid hE
      clear hO hE
      go_wp2
      go_ret
      refine ⟨js, A, c, rfl, by omega, by omega, HJS.out, ⟨rows, SlW.of_own' (f := Jw.cs) HO.out HE.out.1, HE.out⟩, hB, hcur1⟩

end Go.Proofs.Ytomfaabifpndbaa

/-
  The draw of a crew.
-/
namespace Go.Proofs.Ytomfaabifpndbaa
set_option linter.unusedSimpArgs false
set_option linter.unusedVariables false
open Go.RowKit
set_option linter.unusedVariables false
attribute [local go_sem] OpUpon
attribute [local go_sem ↓] Go.wp_at_zero Go.wp_at_succ

theorem CrN.butN {lo k : Nat} {w w' : World} {c : Cr} {y : CrL} (h : CrN lo w c y) (hb : But k w w') (hk : k < lo) : CrN lo w' c y := CrW.mono (CrW.keep h (.but hb (.inl hk) (Nat.le_refl _))) (Nat.le_refl _) hb.size
theorem IntN.butN {lo k : Nat} {w w' : World} {A : Option Addr} {n cap : Nat} {m : List Int} (h : IntN lo w A n cap m) (hb : But k w w') (hk : k < lo) : IntN lo w' A n cap m := SlW.mono (SlW.keep h (.but hb (.inl hk) (Nat.le_refl _))) (Nat.le_refl _) hb.size
theorem turnsB (k : Nat) (c : Cr) (y : CrL) (lo hi : Nat) (l : List Int) (A : Option Addr) (n cap lo2 hi2 : Nat) (w : World) (hW0 : CrW lo hi w c y) (hh : hi ≤ w.heap.size) (hf : CrFit c) (hl : IntsW lo2 hi2 w A n cap l) (hh2 : hi2 ≤ w.heap.size) (hn : n ≤ 1048576) :
    Calls Try.prog 106 #[crV c y, .slice A n cap] w (fun e w' => ∃ y', e = .returned (crV (turnsC c l) y') ∧ CrW w.heap.size w'.heap.size w' (turnsC c l) y' ∧ Below w.heap.size w w' ∧ But k w w') := by
  refine (sturns_any c y lo hi l A n cap lo2 hi2 w hW0 hh hf hl hh2 hn).mono ?_
  rintro e w' ⟨y', rfl, h1, hb⟩
  exact ⟨y', rfl, h1, hb, .of_below hb⟩

theorem freshStore_ok {rd mo : Int} (h1 : rd = 2 ∨ rd = 3) (m1 : 1 ≤ mo) (m2 : mo ≤ 4) : newStore rd mo = (⟨rd, mo, [Rg.fresh rd.toNat], 0, 0⟩, true) ∧ stOk ⟨rd, mo, [Rg.fresh rd.toNat], 0, 0⟩ = true := by
  have hmo : inB mo 1 16 = true := by unfold inB; simp; omega
  have hmo2 : inB 1 1 mo = true := by unfold inB; simp; omega
  rcases h1 with rfl | rfl
  · refine ⟨by unfold newStore; rw [hmo]; rfl, ?_⟩
    have hch : chain [Rg.fresh 2] 1 0 = some [0] := by rw [chain_succ (r := Rg.fresh 2) (by omega) rfl, chain_neg (by decide)]; rfl
    unfold stOk stHead
    have e1 : inSt 2 1 (Rg.fresh 2) = true := by decide
    simp [hmo, hmo2, hch, e1, roundB]
    decide
  · refine ⟨by unfold newStore; rw [hmo]; rfl, ?_⟩
    have hch : chain [Rg.fresh 3] 1 0 = some [0] := by rw [chain_succ (r := Rg.fresh 3) (by omega) rfl, chain_neg (by decide)]; rfl
    unfold stOk stHead
    have e1 : inSt 3 1 (Rg.fresh 3) = true := by decide
    simp [hmo, hmo2, hch, e1, roundB]
    decide

theorem newC0_ok {rd mo : Int} {js : List (List Int)} (h1 : rd = 2 ∨ rd = 3) (m1 : 1 ≤ mo) (m2 : mo ≤ 4) (hj1 : 1 ≤ js.length) (hj3 : js.length ≤ 3) (hjs : ∀ l ∈ js, jobsOk l = true) : newCrew rd mo js = (newC0 rd mo js, true) ∧ crOk (newC0 rd mo js) = true := by
  obtain ⟨e1, e2⟩ := freshStore_ok h1 m1 m2
  have hst : stOk (newC0 rd mo js).st = true := by show stOk (newStore rd mo).1 = true; rw [e1]; exact e2
  have hok : crOk (newC0 rd mo js) = true := by
    unfold crOk crHead
    rw [hst]
    have l1 : (newC0 rd mo js).hs.length = js.length := by simp [newC0]
    have l2 : (newC0 rd mo js).js.length = js.length := rfl
    have l3 : (newC0 rd mo js).bs.length = js.length := by simp [newC0]
    rw [l1, l2, l3]
    have hb : inB (js.length : Int) 1 4 = true := by unfold inB; simp; omega
    rw [hb]
    have hes : storyOk (newC0 rd mo js).es = true := rfl
    have hck : inB (newC0 rd mo js).ck 0 2000 = true := by show inB 0 0 2000 = true; decide
    rw [hes, hck]
    simp only [beq_self_eq_true, Bool.and_self, Bool.true_and, List.all_eq_true, List.mem_range]
    intro i hi
    unfold crAt
    have g1 : (newC0 rd mo js).hs.getD i .zero = resting := by
      show (List.replicate js.length resting).getD i .zero = resting
      rw [List.getD_eq_getElem?_getD, List.getElem?_replicate, if_pos hi]; rfl
    have g2 : (newC0 rd mo js).bs.getD i 0 = 0 := by
      show (List.replicate js.length (0 : Int)).getD i 0 = 0
      rw [List.getD_eq_getElem?_getD, List.getElem?_replicate, if_pos hi]; rfl
    have g3 : jobsOk ((newC0 rd mo js).js.getD i []) = true := by
      show jobsOk (js.getD i []) = true
      rw [List.getD_eq_getElem?_getD, List.getElem?_eq_getElem hi]
      exact hjs _ (List.getElem_mem hi)
    rw [g1, g2, g3]
    have g4 : fits (newC0 rd mo js).st resting = true := by
      unfold fits
      rw [hst]
      have : resting.ok = true := by decide
      rw [this]; rfl
    rw [g4]
    show (true && true && inB 0 0 0) = true
    decide
  refine ⟨?_, hok⟩
  unfold newCrew
  rw [hok, e1]
  rfl

/-- A crew is drawn. -/
def DrawsC (k : Nat) (a0 : Option Addr) (len cap : Nat) (w : World) (e : Ending) (w' : World) : Prop :=
  ∃ (c : Cr) (y : CrL), e = .returned (crV c y) ∧ crOk c = true ∧ CrN w.heap.size w' c y ∧ But k w w' ∧ CurAt w' k a0 len cap

def ldRV (d : Cr) (y1 : CrL) (N X k : Nat) : List Sl := [.v (.agg #[.int .i64 d.st.rd, .int .i64 d.st.mo, .slice y1.s.A y1.s.n y1.s.cap, .int .i64 d.st.fi, .int .i64 d.st.la, .slice y1.h.A y1.h.n y1.h.cap, .slice y1.j.A y1.j.n y1.j.cap, .slice y1.b.A y1.b.n y1.b.cap, .int .i64 d.ck, .slice y1.e.A y1.e.n y1.e.cap]),
  .v (.pointer (some ⟨k, 0, none⟩)),
  .v (.pointer (some ⟨X, 5, none⟩)),
  .v (.slice y1.h.A y1.h.n y1.h.cap),
  .v (.int .i64 ((y1.h.n : Int))),
  .e fun σ w => ∃ (l5 : List Int) (A5 : Option Addr) (c5 : Nat), σ 5 = .slice A5 l5.length c5 ∧ IntN N w A5 l5.length c5 l5 ∧ l5.length ≤ 60,
  .e fun σ w => ∃ (l5 : List Int) (y6 : CrL), σ 6 = .agg #[.int .i64 ((turnsC d l5).st.rd), .int .i64 ((turnsC d l5).st.mo), .slice y6.s.A y6.s.n y6.s.cap, .int .i64 ((turnsC d l5).st.fi), .int .i64 ((turnsC d l5).st.la), .slice y6.h.A y6.h.n y6.h.cap, .slice y6.j.A y6.j.n y6.j.cap, .slice y6.b.A y6.b.n y6.b.cap, .int .i64 ((turnsC d l5).ck), .slice y6.e.A y6.e.n y6.e.cap] ∧ CrN N w (turnsC d l5) y6 ∧ l5.length ≤ 60,
  .e fun σ w => ∃ (l5 : List Int) (y6 : CrL), BoxAt w N #[.int .i64 ((turnsC d l5).st.rd), .int .i64 ((turnsC d l5).st.mo), .slice y6.s.A y6.s.n y6.s.cap, .int .i64 ((turnsC d l5).st.fi), .int .i64 ((turnsC d l5).st.la), .slice y6.h.A y6.h.n y6.h.cap, .slice y6.j.A y6.j.n y6.j.cap, .slice y6.b.A y6.b.n y6.b.cap, .int .i64 ((turnsC d l5).ck), .slice y6.e.A y6.e.n y6.e.cap] 53 ∧ CrN N w (turnsC d l5) y6 ∧ l5.length ≤ 60]

set_option maxRecDepth 100000 in
set_option maxHeartbeats 2000000 in
theorem l10Draw_any (K0 k : Nat) (a0 : Option Addr) (len cap : Nat) (w : World) (hc : CodeOk K0 w a0 len) (hkk : K0 ≤ k) (hN0 : K0 ≤ w.heap.size) (hcur : CurAt w k a0 len cap) :
    Calls Try.prog 95 #[.pointer (some ⟨k, 0, none⟩)] w (DrawsC k a0 len cap w) := by
  have hkN := hcur.lt
  go_enter Try.func95, Try.ntmps95
  go_wp2_with fail
  refine calls_abs (fun W => But k w W ∧ CurAt W k a0 len cap ∧ BoxAt W w.heap.size #[.int .i64 0, .int .i64 0, .slice none 0 0, .int .i64 0, .int .i64 0, .slice none 0 0, .slice none 0 0, .slice none 0 0, .int .i64 0, .slice none 0 0] 53) ⟨(But.refl _ _).alloc _, hcur.alloc _, BoxAt.new _ _ _⟩ ?_
  clear hcur
  rintro W0 ⟨hB, hcur, hz⟩
  refine (l1Below_any K0 k a0 len cap _ _ (hc.below (hB.below hkk hN0)) hkk (Nat.le_trans hN0 hB.size) hcur (by omega)).mono ?_
  rintro e w1 ⟨x, ⟨x0, x1⟩, rfl, hb1, hcur1⟩
  replace hz := hb1.box hz (by omega)
  replace hB := hB.trans hb1
  clear hb1 hcur
  go_wp2_with fail
  refine (l1Below_any K0 k a0 len cap _ _ (hc.below (hB.below hkk hN0)) hkk (Nat.le_trans hN0 hB.size) hcur1 (by omega)).mono ?_
  rintro e w2 ⟨y, ⟨y0, y1⟩, rfl, hb1, hcur⟩
  replace hz := hb1.box hz (by omega)
  replace hB := hB.trans hb1
  clear hb1 hcur1
  go_wp2_with fail
  refine (l10DrawJobs_any K0 k a0 len cap _ (hc.below (hB.below hkk hN0)) hkk (Nat.le_trans hN0 hB.size) hcur).mono ?_
  rintro e w3 ⟨js, A, c, rfl, hj1, hj3, hjs, hL, hb1, hcur1⟩
  obtain ⟨hnew, hnok⟩ := newC0_ok (rd := 2 + x) (mo := 1 + y) (js := js) (by omega) (by omega) (by omega) hj1 hj3 hjs
  have hml : ∀ l ∈ js, l.length ≤ 1048576 := fun l hl => by
    have := hjs l hl
    simp only [jobsOk, Bool.and_eq_true, decide_eq_true_eq] at this
    omega
  replace hz := hb1.box hz (by omega)
  have hws := hB.size
  replace hB := hB.trans hb1
  clear hb1 hcur
  have HNEW := Lib.hid hnew
  have HDK0 := Lib.hid hnok
  clear hnew hnok hjs
  go_wp2_with fail
  refine (snewCrew_any (2 + x) (1 + y) js A js.length c _ _ _ hL (Nat.le_refl _) (by omega) hml).mono ?_
  rintro e w4 ⟨y1_, rfl, hC, hb1⟩
  rw [HNEW.out] at hC ⊢
  replace hcur1 := hcur1.belowC hb1
  replace hz := hz.below hb1 hz.lt
  have hws3 := hB.size
  replace hB := hB.trans (.of_below hb1)
  have lz := hz.lt
  clear hb1 hL hml
  obtain ⟨d, hd⟩ : ∃ d, d = newC0 (2 + x) (1 + y) js := ⟨_, rfl⟩
  rw [← hd] at hC ⊢
  have HHL := Lib.hid (show 1 ≤ y1_.h.n by have q : d.hs.length = y1_.h.n := hC.h.1; rw [← q, hd]; simp [newC0]; omega)
  have HDK := Lib.hid (show crOk d = true by rw [hd]; exact HDK0.out)
  have HFIT := Lib.hid ((crOk_neat HDK.out).fit)
  clear HNEW HDK0 hd
  unfold crV
  dsimp only
  go_upto_region 2 with fail
  refine wp_abs (fun W => But k w W ∧ CurAt W k a0 len cap ∧ BoxAt W w.heap.size #[.int .i64 0, .int .i64 0, .slice none 0 0, .int .i64 0, .int .i64 0, .slice none 0 0, .slice none 0 0, .slice none 0 0, .int .i64 0, .slice none 0 0] 53 ∧ BoxAt W w4.heap.size #[.int .i64 d.st.rd, .int .i64 d.st.mo, .slice y1_.s.A y1_.s.n y1_.s.cap, .int .i64 d.st.fi, .int .i64 d.st.la, .slice y1_.h.A y1_.h.n y1_.h.cap, .slice y1_.j.A y1_.j.n y1_.j.cap, .slice y1_.b.A y1_.b.n y1_.b.cap, .int .i64 d.ck, .slice y1_.e.A y1_.e.n y1_.e.cap] 53 ∧ CrN w.heap.size W d y1_ ∧ w4.heap.size < W.heap.size) ⟨hB.alloc _, hcur1.alloc _, hz.alloc _, BoxAt.new _ _ _, CrN.belowN (CrW.mono hC (by omega) (Nat.le_refl _)) ((Below.refl _ _).alloc (Nat.le_refl _) _), by simp⟩ ?_
  clear hB hcur1 hz hC
  rintro W5 ⟨hB, hcur, hz, hx, hC, hM⟩
  generalize w4.heap.size = X at *
  refine wp_region2v (fun w w' => But k w w') (fun _ _ h => h.size) (fun _ => But.refl _ _) (fun L W' => But k w W' ∧ CurAt W' k a0 len cap ∧ BoxAt W' X #[.int .i64 d.st.rd, .int .i64 d.st.mo, .slice y1_.s.A y1_.s.n y1_.s.cap, .int .i64 d.st.fi, .int .i64 d.st.la, .slice y1_.h.A y1_.h.n y1_.h.cap, .slice y1_.j.A y1_.j.n y1_.j.cap, .slice y1_.b.A y1_.b.n y1_.b.cap, .int .i64 d.ck, .slice y1_.e.A y1_.e.n y1_.e.cap] 53 ∧ CrN w.heap.size W' d y1_ ∧ X < W'.heap.size ∧ (∃ x0 x1 x2 x3 x4 x5 x6 x7 x8 x9, BoxAt W' w.heap.size #[x0, x1, x2, x3, x4, x5, x6, x7, x8, x9] 53) ∧ (L 7 = false → BoxAt W' w.heap.size #[.int .i64 0, .int .i64 0, .slice none 0 0, .int .i64 0, .int .i64 0, .slice none 0 0, .slice none 0 0, .slice none 0 0, .int .i64 0, .slice none 0 0] 53)) (ldRV d y1_ w.heap.size X k) (fun j => [0, 0, 0, 0, 0, 0, 0, 1].getD j 0) [] (by kernel_rfl) (by kernel_rfl) ?_ ?_ ?_
    (.still rfl ?a0 <| .still rfl ?a1 <| .still rfl ?a2 <| .still rfl ?a3 <| .still rfl ?a4 <| .grow rfl ?a5 <| .grow rfl ?a6 <| .store rfl ?a7 <| .nil) ?_ ?_
  · exact ⟨fun _ _ _ h ⟨l5, A5, c5, e, hp⟩ => ⟨l5, A5, c5, (h 5 (List.mem_singleton.2 rfl)).symm.trans e, hp⟩, fun _ _ _ h ⟨l5, y6, e, hp⟩ => ⟨l5, y6, (h 6 (List.mem_singleton.2 rfl)).symm.trans e, hp⟩, fun _ _ _ _ h => h, trivial⟩
  · exact ⟨fun σ w w' hb ⟨l5, A5, c5, e, hp⟩ => ⟨l5, A5, c5, e, ⟨hp.1.butN hb hkN, hp.2⟩⟩, fun σ w w' hb ⟨l5, y6, e, hp⟩ => ⟨l5, y6, e, ⟨hp.1.butN hb hkN, hp.2⟩⟩, fun σ w w' hb ⟨l5, y6, hx, hp⟩ => ⟨l5, y6, hb.box hx (by omega), ⟨hp.1.butN hb hkN, hp.2⟩⟩, trivial⟩
  · exact ⟨hB.drew, hcur, hx, hC.drew, hM, ⟨_, _, _, _, _, _, _, _, _, _, hz⟩, fun _ => hz⟩
  case a0 | a3 =>
    go_light
    intro L σ W' hcl hL hC hw
    try have e2 := wT hw 2 rfl
    have kx := hC.2.2.1.cell
    clear hw hcl hL hC
    refine OpGoes.step fun K hK => ?_
    unfold OpGoes
    go_simp
    exact hK _ _ ⟨rfl, rfl⟩
  case a1 | a2 | a4 =>
    go_light
    intro L σ W' hcl hL hC hw
    try have e3 := wT hw 3 rfl
    clear hw hcl hL hC
    refine OpGoes.step fun K hK => ?_
    unfold OpGoes
    go_simp
    exact hK _ _ ⟨rfl, rfl⟩
  case a5 =>
    go_light
    intro L σ W' hcl hL hC hw
    have e1 := wV hw 1 rfl
    have e4 := wV hw 4 rfl
    clear hw
    have HC := Lib.hid hC
    clear hC
    clear hcl hL
    refine OpGoes.step fun K hK => ?_
    unfold OpGoes
    go_simp
    obtain ⟨hB, hcur, hx, hC, hM, ⟨_, _, _, _, _, _, _, _, _, _, hz⟩, hz_o⟩ := HC.out
    refine (l10DrawTurns_any K0 k a0 len cap _ 60 _ (hc.below (hB.below hkk hN0)) hkk (Nat.le_trans hN0 hB.size) hcur (by have := HHL.out; omega) (by omega) (by omega)).mono ?_
    rintro e w1 ⟨l5, A5, c5, rfl, hl5, hI5, hb1, hcur1⟩
    exact ⟨_, rfl, hK _ _ ⟨⟨hB.trans hb1, hcur1, hb1.box hx (by omega), hC.butN hb1 hkN, Nat.lt_of_lt_of_le hM hb1.size, ⟨_, _, _, _, _, _, _, _, _, _, hb1.box hz (by omega)⟩, fun h => hb1.box (hz_o (by simpa [upd] using h)) (by omega)⟩, ⟨l5, A5, c5, rfl, SlW.mono hI5 (by omega) (Nat.le_refl _), hl5⟩, hb1⟩⟩
  case a6 =>
    go_light
    intro L σ W' hcl hL hC hw
    have e0 := wV hw 0 rfl
    obtain ⟨l5, A5, c5, e5, hp5⟩ := wE hw 5 rfl
    clear hw
    have HC := Lib.hid hC
    clear hC
    clear hcl hL
    refine OpGoes.step fun K hK => ?_
    unfold OpGoes
    go_simp
    obtain ⟨hB, hcur, hx, hC, hM, ⟨_, _, _, _, _, _, _, _, _, _, hz⟩, hz_o⟩ := HC.out
    refine (turnsB k d y1_ w.heap.size _ l5 A5 l5.length c5 w.heap.size _ _ hC (Nat.le_refl _) HFIT.out hp5.1 (Nat.le_refl _) (by have := hp5.2; omega)).mono ?_
    rintro e w1 ⟨y6, rfl, hC6, hbel, hb1⟩
    exact ⟨_, rfl, hK _ _ ⟨⟨hB.trans hb1, hcur.belowC hbel, hb1.box hx (by omega), hC.butN hb1 hkN, Nat.lt_of_lt_of_le hM hb1.size, ⟨_, _, _, _, _, _, _, _, _, _, hz.below hbel hz.lt⟩, fun h => (hz_o (by simpa [upd] using h)).below hbel (hz_o (by simpa [upd] using h)).lt⟩, ⟨l5, y6, rfl, CrW.mono hC6 (by omega) (Nat.le_refl _), hp5.2⟩, hb1⟩⟩
  case a7 =>
    go_light
    intro L σ W' hcl hL hC hw hne
    obtain ⟨l5, y6, e6, hp6⟩ := wE hw 6 rfl
    clear hw hne
    have HC := Lib.hid hC
    obtain ⟨hB, hcur, hx, hC, hM, ⟨_, _, _, _, _, _, _, _, _, _, hz⟩, hz_o⟩ := hC
    clear hcl hL
    have kc_ := hz.cell
    have kf_ := hz.frozen
    clear hB hcur hx hC hM hz hz_o
    refine OpGoes.step fun K hK => ?_
    unfold OpGoes
    go_simp
    obtain ⟨hB, hcur, hx, hC, hM, ⟨_, _, _, _, _, _, _, _, _, _, hz⟩, hz_o⟩ := HC.out
    have hset := sets_all (us := [.int .i64 ((turnsC d l5).st.rd), .int .i64 ((turnsC d l5).st.mo), .slice y6.s.A y6.s.n y6.s.cap, .int .i64 ((turnsC d l5).st.fi), .int .i64 ((turnsC d l5).st.la), .slice y6.h.A y6.h.n y6.h.cap, .slice y6.j.A y6.j.n y6.j.cap, .slice y6.b.A y6.b.n y6.b.cap, .int .i64 ((turnsC d l5).ck), .slice y6.e.A y6.e.n y6.e.cap]) hz rfl
    refine hK undef (setCells W' w.heap.size 0 [.int .i64 ((turnsC d l5).st.rd), .int .i64 ((turnsC d l5).st.mo), .slice y6.s.A y6.s.n y6.s.cap, .int .i64 ((turnsC d l5).st.fi), .int .i64 ((turnsC d l5).st.la), .slice y6.h.A y6.h.n y6.h.cap, .slice y6.j.A y6.j.n y6.j.cap, .slice y6.b.A y6.b.n y6.b.cap, .int .i64 ((turnsC d l5).ck), .slice y6.e.A y6.e.n y6.e.cap]) ⟨⟨(But.setsNew hB (by omega) _ 0), (CurAt.sets hcur (by omega) _ 0), (BoxAt.sets_ne _ 0 hx (by omega)), (CrN.setsC hC hz _ 0), (size_sts hM _ 0), ⟨_, _, _, _, _, _, _, _, _, _, hset⟩, fun h => absurd h (by simp [upd])⟩, ⟨l5, y6, hset, ⟨CrN.setsC hp6.1 hz _ 0, hp6.2⟩⟩, Nat.le_of_eq (sets_size _ _ _).symm, keepV ?_⟩
    exact ⟨fun _ _ ⟨l5_x, A5_x, c5_x, e, hp⟩ => ⟨l5_x, A5_x, c5_x, e, ⟨IntN.setsC hp.1 hz _ 0, hp.2⟩⟩, fun _ _ ⟨l5_x, y6_x, e, hp⟩ => ⟨l5_x, y6_x, e, ⟨CrN.setsC hp.1 hz _ 0, hp.2⟩⟩, fun h => absurd rfl h, trivial⟩
  · intro L L' W' hLL hC
    obtain ⟨hB, hcur, hx, hC, hM, ⟨_, _, _, _, _, _, _, _, _, _, hz⟩, hz_o⟩ := hC
    exact ⟨hB, hcur, hx, hC, hM, ⟨_, _, _, _, _, _, _, _, _, _, hz⟩, fun h => hz_o (hLL _ h)⟩
  · intro σ L W' hall hC hRR
    obtain ⟨hB, hcur, hx, hC, hM, ⟨_, _, _, _, _, _, _, _, _, _, hz⟩, hz_o⟩ := hC
    obtain ⟨l5, y6, s7, hp7⟩ := dE hRR 7 rfl
    clear hRR
    simp only [lexAll]
    go_simp
    go_step
    have kz := s7.cell
    go_wp2
    refine bodyPost_ret (v := crV (turnsC d l5) y6) (by simp [results, Try.results95, go_sem, kz, crV]) rfl ⟨turnsC d l5, y6, rfl, ?_, hp7.1, hB, hcur⟩
    unfold turnsC
    rw [HDK.out, decide_eq_true (by have := hp7.2; omega)]
    exact turnsS_ok HDK.out l5
end Go.Proofs.Ytomfaabifpndbaa

/-
  The draw of a store and a hand.
-/
namespace Go.Proofs.Ytomfaabifpndbaa
set_option linter.unusedSimpArgs false
set_option linter.unusedVariables false
open Go.RowKit
set_option linter.unusedVariables false
attribute [local go_sem] OpUpon
attribute [local go_sem ↓] Go.wp_at_zero Go.wp_at_succ

theorem CrN.stsN {lo b : Nat} {w : World} {c : Cr} {y : CrL} (h : CrN lo w c y) (hb : b < lo) (us : List Value) (o : Nat) : CrN lo (setCells w b o us) c y := CrW.mono (CrW.sts h (.inl hb) us o) (Nat.le_refl _) (Nat.le_of_eq (sets_size us o w).symm)

/-- A right store and a hand are drawn. -/
def DrawsSH (k : Nat) (a0 : Option Addr) (len cap : Nat) (w : World) (e : Ending) (w' : World) : Prop :=
  ∃ (s : St) (A : Option Addr) (n c : Nat) (h : Hd), e = .returned (.tuple #[stV s A n c, hdV h]) ∧ stOk s = true ∧ RgsW w.heap.size w'.heap.size w' A n c s.rs ∧ But k w w' ∧ CurAt w' k a0 len cap

def lhRV (d : Cr) (N X k n mS kS kH gH : Nat) (sA : Option Addr) (jS bS eS : Slc) : List Sl := [.v (.pointer (some ⟨X, 0, none⟩)),
  .v (.agg #[.int .i64 d.st.rd, .int .i64 d.st.mo, .slice sA mS kS, .int .i64 d.st.fi, .int .i64 d.st.la]),
  .v (.pointer (some ⟨X, 5, none⟩)),
  .v (.slice (some ⟨gH, 0, none⟩) n kH),
  .v (.pointer (some ⟨k, 0, none⟩)),
  .v (.pointer (some ⟨X, 5, none⟩)),
  .v (.slice (some ⟨gH, 0, none⟩) n kH),
  .v (.int .i64 ((n : Int))),
  .e fun σ w => ∃ (x8 : Int), σ 8 = .int .i64 x8 ∧ (0 ≤ x8 ∧ x8 < (n : Int)),
  .e fun σ w => ∃ (x8 : Int), σ 9 = .pointer (some ⟨gH, x8.toNat * 12, none⟩) ∧ (0 ≤ x8 ∧ x8 < (n : Int)),
  .e fun σ w => ∃ (h10 : Hd), σ 10 = .agg #[.int .i64 h10.at_, .int .i64 h10.v, .int .i64 h10.r, .int .i64 h10.t, .bool h10.seen.s, .int .i64 h10.seen.n, .bool h10.seen.f, .int .i64 h10.seen.v, .int .i64 h10.tr, .int .i64 h10.sp, .bool h10.ag, .int .i64 h10.re] ∧ True,
  .e fun σ w => BoxAt w N #[.int .i64 d.st.rd, .int .i64 d.st.mo, .slice sA mS kS, .int .i64 d.st.fi, .int .i64 d.st.la] 49,
  .e fun σ w => ∃ (h10 : Hd), BoxAt w (N + 1) #[.int .i64 h10.at_, .int .i64 h10.v, .int .i64 h10.r, .int .i64 h10.t, .bool h10.seen.s, .int .i64 h10.seen.n, .bool h10.seen.f, .int .i64 h10.seen.v, .int .i64 h10.tr, .int .i64 h10.sp, .bool h10.ag, .int .i64 h10.re] 27 ∧ True]

set_option maxRecDepth 100000 in
set_option maxHeartbeats 2000000 in
theorem l5Draw_any (K0 k : Nat) (a0 : Option Addr) (len cap : Nat) (w : World) (hc : CodeOk K0 w a0 len) (hkk : K0 ≤ k) (hN0 : K0 ≤ w.heap.size) (hcur : CurAt w k a0 len cap) :
    Calls Try.prog 84 #[.pointer (some ⟨k, 0, none⟩)] w (DrawsSH k a0 len cap w) := by
  have hkN := hcur.lt
  go_enter Try.func84, Try.ntmps84
  go_wp2_with fail
  refine calls_abs (fun W => But k w W ∧ CurAt W k a0 len cap ∧ BoxAt W w.heap.size #[.int .i64 0, .int .i64 0, .slice none 0 0, .int .i64 0, .int .i64 0] 49 ∧ BoxAt W (w.heap.size + 1) #[.int .i64 0, .int .i64 0, .int .i64 0, .int .i64 0, .bool false, .int .i64 0, .bool false, .int .i64 0, .int .i64 0, .int .i64 0, .bool false, .int .i64 0] 27) ⟨((But.refl _ _).alloc _).alloc _, (hcur.alloc _).alloc _, (BoxAt.new _ _ _).alloc _, BoxAt.new' (by simp)⟩ ?_
  clear hcur
  rintro W0 ⟨hB, hcur, hz, hy⟩
  refine (l10Draw_any K0 k a0 len cap _ (hc.below (hB.below hkk hN0)) hkk (Nat.le_trans hN0 hB.size) hcur).mono ?_
  rintro e w1 ⟨d, y, rfl, hdk, hC, hb1, hcur1⟩
  have ly := hy.lt
  have HDK := Lib.hid hdk; clear hdk
  replace hz := hb1.box hz (by omega)
  replace hy := hb1.box hy (by omega)
  have hs1 := hb1.size
  replace hB := hB.trans hb1
  clear hb1 hcur
  replace hC : CrN (w.heap.size + 2) w1 d y := CrW.mono hC (by omega) (Nat.le_refl _)
  obtain ⟨⟨sA, mS, kS⟩, ⟨hA, n, kH⟩, jS, bS, eS⟩ := y
  have hn1 : 1 ≤ n := by have q : d.hs.length = n := hC.h.1; have := (crOk_neat HDK.out).h.1; omega
  have hn4 : n ≤ 4 := by have q : d.hs.length = n := hC.h.1; have := (crOk_neat HDK.out).h.2; omega
  obtain ⟨gH, -, hA', -, -, -, -⟩ := SlW.at_ hC.h Hd.cs_len (i := 0) (by show 0 < n; omega)
  dsimp only at hA'
  subst hA'
  unfold crV
  dsimp only
  go_upto_region 2 with fail
  refine wp_abs (fun W => But k w W ∧ CurAt W k a0 len cap ∧ BoxAt W w.heap.size #[.int .i64 0, .int .i64 0, .slice none 0 0, .int .i64 0, .int .i64 0] 49 ∧ BoxAt W (w.heap.size + 1) #[.int .i64 0, .int .i64 0, .int .i64 0, .int .i64 0, .bool false, .int .i64 0, .bool false, .int .i64 0, .int .i64 0, .int .i64 0, .bool false, .int .i64 0] 27 ∧ BoxAt W w1.heap.size #[.int .i64 d.st.rd, .int .i64 d.st.mo, .slice sA mS kS, .int .i64 d.st.fi, .int .i64 d.st.la, .slice (some ⟨gH, 0, none⟩) n kH, .slice jS.A jS.n jS.cap, .slice bS.A bS.n bS.cap, .int .i64 d.ck, .slice eS.A eS.n eS.cap] 53 ∧ CrN (w.heap.size + 2) W d (⟨⟨sA, mS, kS⟩, ⟨some ⟨gH, 0, none⟩, n, kH⟩, jS, bS, eS⟩ : CrL) ∧ w1.heap.size < W.heap.size) ⟨hB.alloc _, hcur1.alloc _, hz.alloc _, hy.alloc _, BoxAt.new _ _ _, hC.belowN ((Below.refl _ _).alloc (Nat.le_refl _) _), by simp⟩ ?_
  clear hB hcur1 hz hy hC
  rintro W5 ⟨hB, hcur, hz, hy, hx, hC, hM⟩
  generalize w1.heap.size = X at *
  refine wp_region2v (fun w w' => But k w w') (fun _ _ h => h.size) (fun _ => But.refl _ _) (fun L W' => But k w W' ∧ CurAt W' k a0 len cap ∧ BoxAt W' X #[.int .i64 d.st.rd, .int .i64 d.st.mo, .slice sA mS kS, .int .i64 d.st.fi, .int .i64 d.st.la, .slice (some ⟨gH, 0, none⟩) n kH, .slice jS.A jS.n jS.cap, .slice bS.A bS.n bS.cap, .int .i64 d.ck, .slice eS.A eS.n eS.cap] 53 ∧ CrN (w.heap.size + 2) W' d (⟨⟨sA, mS, kS⟩, ⟨some ⟨gH, 0, none⟩, n, kH⟩, jS, bS, eS⟩ : CrL) ∧ X < W'.heap.size ∧ (∃ x0 x1 x2 x3 x4, BoxAt W' w.heap.size #[x0, x1, x2, x3, x4] 49) ∧ (L 11 = false → BoxAt W' w.heap.size #[.int .i64 0, .int .i64 0, .slice none 0 0, .int .i64 0, .int .i64 0] 49) ∧ (∃ x0 x1 x2 x3 x4 x5 x6 x7 x8 x9 x10 x11, BoxAt W' (w.heap.size + 1) #[x0, x1, x2, x3, x4, x5, x6, x7, x8, x9, x10, x11] 27) ∧ (L 12 = false → BoxAt W' (w.heap.size + 1) #[.int .i64 0, .int .i64 0, .int .i64 0, .int .i64 0, .bool false, .int .i64 0, .bool false, .int .i64 0, .int .i64 0, .int .i64 0, .bool false, .int .i64 0] 27)) (lhRV d w.heap.size X k n mS kS kH gH sA jS bS eS) (fun j => [0, 0, 0, 0, 0, 0, 0, 0, 0, 0, 0, 1, 1].getD j 0) [] (by kernel_rfl) (by kernel_rfl) ?_ ?_ ?_
    (.still rfl ?a0 <| .still rfl ?a1 <| .still rfl ?a2 <| .still rfl ?a3 <| .still rfl ?a4 <| .still rfl ?a5 <| .still rfl ?a6 <| .still rfl ?a7 <| .grow rfl ?a8 <| .still rfl ?a9 <| .grow rfl ?a10 <| .store rfl ?a11 <| .store rfl ?a12 <| .nil) ?_ ?_
  · exact ⟨fun _ _ _ h ⟨x8, e, hp⟩ => ⟨x8, (h 8 (List.mem_singleton.2 rfl)).symm.trans e, hp⟩, fun _ _ _ h ⟨x8, e, hp⟩ => ⟨x8, (h 9 (List.mem_singleton.2 rfl)).symm.trans e, hp⟩, fun _ _ _ h ⟨h10, e, hp⟩ => ⟨h10, (h 10 (List.mem_singleton.2 rfl)).symm.trans e, hp⟩, fun _ _ _ _ h => h, fun _ _ _ _ h => h, trivial⟩
  · exact ⟨fun σ w w' hb ⟨x8, e, hp⟩ => ⟨x8, e, hp⟩, fun σ w w' hb ⟨x8, e, hp⟩ => ⟨x8, e, hp⟩, fun σ w w' hb ⟨h10, e, hp⟩ => ⟨h10, e, hp⟩, fun σ w w' hb hR => hb.box hR (by omega), fun σ w w' hb ⟨h10, hx, hp⟩ => ⟨h10, hb.box hx (by omega), hp⟩, trivial⟩
  · exact ⟨hB.drew, hcur, hx, hC.drew, hM, ⟨_, _, _, _, _, hz⟩, fun _ => hz, ⟨_, _, _, _, _, _, _, _, _, _, _, _, hy⟩, fun _ => hy⟩
  case a0 | a2 | a4 | a5 | a7 =>
    go_light
    intro L σ W' hcl hL hC hw
    try have e6 := wT hw 6 rfl
    clear hw hcl hL hC
    refine OpGoes.step fun K hK => ?_
    unfold OpGoes
    go_simp
    exact hK _ _ ⟨rfl, rfl⟩
  case a1 | a3 | a6 =>
    go_light
    intro L σ W' hcl hL hC hw
    try have e0 := wT hw 0 rfl
    try have e2 := wT hw 2 rfl
    try have e5 := wT hw 5 rfl
    have kx := hC.2.2.1.cell
    clear hw hcl hL hC
    refine OpGoes.step fun K hK => ?_
    unfold OpGoes
    go_simp
    exact hK _ _ ⟨rfl, rfl⟩
  case a8 =>
    go_light
    intro L σ W' hcl hL hC hw
    have e4 := wV hw 4 rfl
    have e7 := wV hw 7 rfl
    clear hw
    have HC := Lib.hid hC
    clear hC
    clear hcl hL
    refine OpGoes.step fun K hK => ?_
    unfold OpGoes
    go_simp
    obtain ⟨hB, hcur, hx, hC, hM, ⟨_, _, _, _, _, hz⟩, hz_o, ⟨_, _, _, _, _, _, _, _, _, _, _, _, hy⟩, hy_o⟩ := HC.out
    refine (l1Below_any K0 k a0 len cap _ _ (hc.below (hB.below hkk hN0)) hkk (Nat.le_trans hN0 hB.size) hcur (by omega)).mono ?_
    rintro e w1 ⟨x8, hx8, rfl, hb1, hcur1⟩
    exact ⟨_, rfl, hK _ _ ⟨⟨hB.trans hb1, hcur1, hb1.box hx (by omega), hC.butN hb1 (by omega), Nat.lt_of_lt_of_le hM hb1.size, ⟨_, _, _, _, _, hb1.box hz (by omega)⟩, fun h => hb1.box (hz_o (by simpa [upd] using h)) (by omega), ⟨_, _, _, _, _, _, _, _, _, _, _, _, hb1.box hy (by omega)⟩, fun h => hb1.box (hy_o (by simpa [upd] using h)) (by omega)⟩, ⟨x8, rfl, hx8⟩, hb1⟩⟩
  case a9 =>
    go_light
    intro L σ W' hcl hL hC hw
    have e3 := wV hw 3 rfl
    obtain ⟨x8, e8, hp8⟩ := wE hw 8 rfl
    have q1 := hp8.1
    have q2 := hp8.2
    clear hw hcl hL hC
    refine OpGoes.step fun K hK => ?_
    unfold OpGoes
    go_simp
    exact hK _ _ ⟨rfl, ⟨x8, rfl, hp8⟩⟩
  case a10 =>
    go_light
    intro L σ W' hcl hL hC hw
    obtain ⟨x8, e9, hp9⟩ := wE hw 9 rfl
    clear hw
    obtain ⟨hB, hcur, hx, hC, hM, ⟨_, _, _, _, _, hz⟩, hz_o, ⟨_, _, _, _, _, _, _, _, _, _, _, _, hy⟩, hy_o⟩ := hC
    obtain ⟨q1, q2⟩ := hp9
    obtain ⟨gX, h10, eA, -, -, -, hcc⟩ := SlW.at_ hC.h Hd.cs_len (i := x8.toNat) (by show x8.toNat < n; omega)
    dsimp only at eA
    injection eA with eA
    injection eA with eA
    subst eA
    have d0 := hcc 0 _ rfl
    have d1 := hcc 1 _ rfl
    have d2 := hcc 2 _ rfl
    have d3 := hcc 3 _ rfl
    have d4 := hcc 4 _ rfl
    have d5 := hcc 5 _ rfl
    have d6 := hcc 6 _ rfl
    have d7 := hcc 7 _ rfl
    have d8 := hcc 8 _ rfl
    have d9 := hcc 9 _ rfl
    have d10 := hcc 10 _ rfl
    have d11 := hcc 11 _ rfl
    rw [Nat.add_zero] at d0
    clear hcc
    clear hcl hL
    refine OpGoes.step fun K hK => ?_
    unfold OpGoes
    go_simp
    exact hK _ _ ⟨⟨hB, hcur, hx, hC, hM, ⟨_, _, _, _, _, hz⟩, fun h => hz_o (by simpa [upd] using h), ⟨_, _, _, _, _, _, _, _, _, _, _, _, hy⟩, fun h => hy_o (by simpa [upd] using h)⟩, ⟨h10, rfl, trivial⟩, But.refl _ _⟩
  case a11 =>
    go_light
    intro L σ W' hcl hL hC hw hne
    have e1 := wV hw 1 rfl
    clear hw hne
    have HC := Lib.hid hC
    obtain ⟨hB, hcur, hx, hC, hM, ⟨_, _, _, _, _, hz⟩, hz_o, ⟨_, _, _, _, _, _, _, _, _, _, _, _, hy⟩, hy_o⟩ := hC
    clear hcl hL
    have kc_ := hz.cell
    have kf_ := hz.frozen
    clear hB hcur hx hC hM hz hz_o hy hy_o
    refine OpGoes.step fun K hK => ?_
    unfold OpGoes
    go_simp
    obtain ⟨hB, hcur, hx, hC, hM, ⟨_, _, _, _, _, hz⟩, hz_o, ⟨_, _, _, _, _, _, _, _, _, _, _, _, hy⟩, hy_o⟩ := HC.out
    have hset := sets_all (us := [.int .i64 d.st.rd, .int .i64 d.st.mo, .slice sA mS kS, .int .i64 d.st.fi, .int .i64 d.st.la]) hz rfl
    refine hK undef (setCells W' w.heap.size 0 [.int .i64 d.st.rd, .int .i64 d.st.mo, .slice sA mS kS, .int .i64 d.st.fi, .int .i64 d.st.la]) ⟨⟨(But.setsNew hB (by omega) _ 0), (CurAt.sets hcur (by omega) _ 0), (BoxAt.sets_ne _ 0 hx (by omega)), (CrN.stsN hC (by omega) _ 0), (size_sts hM _ 0), ⟨_, _, _, _, _, hset⟩, fun h => absurd h (by simp [upd]), ⟨_, _, _, _, _, _, _, _, _, _, _, _, (BoxAt.sets_ne _ 0 hy (by omega))⟩, fun h => (BoxAt.sets_ne _ 0 (hy_o (by simpa [upd] using h)) (by omega))⟩, hset, Nat.le_of_eq (sets_size _ _ _).symm, keepV ?_⟩
    exact ⟨fun _ _ ⟨x8_x, e, hp⟩ => ⟨x8_x, e, (((((hp)))))⟩, fun _ _ ⟨x8_x, e, hp⟩ => ⟨x8_x, e, (((((hp)))))⟩, fun _ _ ⟨h10_x, e, hp⟩ => ⟨h10_x, e, (((((hp)))))⟩, fun h => absurd rfl h, fun _ _ ⟨h10, hx, hp⟩ => ⟨h10, (BoxAt.sets_ne _ 0 hx (by omega)), (((((hp)))))⟩, trivial⟩
  case a12 =>
    go_light
    intro L σ W' hcl hL hC hw hne
    obtain ⟨h10, e10, hp10⟩ := wE hw 10 rfl
    clear hw hne
    have HC := Lib.hid hC
    obtain ⟨hB, hcur, hx, hC, hM, ⟨_, _, _, _, _, hz⟩, hz_o, ⟨_, _, _, _, _, _, _, _, _, _, _, _, hy⟩, hy_o⟩ := hC
    clear hcl hL
    have kc_ := hy.cell
    have kf_ := hy.frozen
    clear hB hcur hx hC hM hz hz_o hy hy_o
    refine OpGoes.step fun K hK => ?_
    unfold OpGoes
    go_simp
    obtain ⟨hB, hcur, hx, hC, hM, ⟨_, _, _, _, _, hz⟩, hz_o, ⟨_, _, _, _, _, _, _, _, _, _, _, _, hy⟩, hy_o⟩ := HC.out
    have hset := sets_all (us := [.int .i64 h10.at_, .int .i64 h10.v, .int .i64 h10.r, .int .i64 h10.t, .bool h10.seen.s, .int .i64 h10.seen.n, .bool h10.seen.f, .int .i64 h10.seen.v, .int .i64 h10.tr, .int .i64 h10.sp, .bool h10.ag, .int .i64 h10.re]) hy rfl
    refine hK undef (setCells W' (w.heap.size + 1) 0 [.int .i64 h10.at_, .int .i64 h10.v, .int .i64 h10.r, .int .i64 h10.t, .bool h10.seen.s, .int .i64 h10.seen.n, .bool h10.seen.f, .int .i64 h10.seen.v, .int .i64 h10.tr, .int .i64 h10.sp, .bool h10.ag, .int .i64 h10.re]) ⟨⟨(But.setsNew hB (by omega) _ 0), (CurAt.sets hcur (by omega) _ 0), (BoxAt.sets_ne _ 0 hx (by omega)), (CrN.stsN hC (by omega) _ 0), (size_sts hM _ 0), ⟨_, _, _, _, _, (BoxAt.sets_ne _ 0 hz (by omega))⟩, fun h => (BoxAt.sets_ne _ 0 (hz_o (by simpa [upd] using h)) (by omega)), ⟨_, _, _, _, _, _, _, _, _, _, _, _, hset⟩, fun h => absurd h (by simp [upd])⟩, ⟨h10, hset, ((((((((((((hp10))))))))))))⟩, Nat.le_of_eq (sets_size _ _ _).symm, keepV ?_⟩
    exact ⟨fun _ _ ⟨x8_x, e, hp⟩ => ⟨x8_x, e, ((((((((((((hp))))))))))))⟩, fun _ _ ⟨x8_x, e, hp⟩ => ⟨x8_x, e, ((((((((((((hp))))))))))))⟩, fun _ _ ⟨h10_x, e, hp⟩ => ⟨h10_x, e, ((((((((((((hp))))))))))))⟩, fun _ _ hR => (BoxAt.sets_ne _ 0 hR (by omega)), fun h => absurd rfl h, trivial⟩
  · intro L L' W' hLL hC
    obtain ⟨hB, hcur, hx, hC, hM, ⟨_, _, _, _, _, hz⟩, hz_o, ⟨_, _, _, _, _, _, _, _, _, _, _, _, hy⟩, hy_o⟩ := hC
    exact ⟨hB, hcur, hx, hC, hM, ⟨_, _, _, _, _, hz⟩, fun h => hz_o (hLL _ h), ⟨_, _, _, _, _, _, _, _, _, _, _, _, hy⟩, fun h => hy_o (hLL _ h)⟩
  · intro σ L W' hall hC hRR
    obtain ⟨hB, hcur, hx, hC, hM, ⟨_, _, _, _, _, hz⟩, hz_o, ⟨_, _, _, _, _, _, _, _, _, _, _, _, hy⟩, hy_o⟩ := hC
    have s11 := dE hRR 11 rfl
    obtain ⟨h10, s12, hp12⟩ := dE hRR 12 rfl
    clear hRR
    simp only [lexAll]
    go_simp
    go_step
    have kz := s11.cell
    have ky := s12.cell
    go_wp2
    refine bodyPost_ret (v := .tuple #[stV d.st sA mS kS, hdV h10]) (by simp [results, Try.results84, go_sem, kz, ky, stV, hdV]) rfl ⟨d.st, sA, mS, kS, h10, rfl, (crOk_neat HDK.out).s, RgsW.mono hC.s (by omega) (Nat.le_refl _), hB, hcur⟩
end Go.Proofs.Ytomfaabifpndbaa

/-
  The draw of a store and of any hand.
-/
namespace Go.Proofs.Ytomfaabifpndbaa
set_option linter.unusedSimpArgs false
set_option linter.unusedVariables false
open Go.RowKit
set_option linter.unusedVariables false
attribute [local go_sem] OpUpon
attribute [local go_sem ↓] Go.wp_at_zero Go.wp_at_succ

def daRV (s : St) (hnd : Hd) (N S4 n c : Nat) (A : Option Addr) : List Sl := [.v (.agg #[.int .i64 s.rd, .int .i64 s.mo, .slice A n c, .int .i64 s.fi, .int .i64 s.la]),
  .v (.agg #[.int .i64 hnd.at_, .int .i64 hnd.v, .int .i64 hnd.r, .int .i64 hnd.t, .bool hnd.seen.s, .int .i64 hnd.seen.n, .bool hnd.seen.f, .int .i64 hnd.seen.v, .int .i64 hnd.tr, .int .i64 hnd.sp, .bool hnd.ag, .int .i64 hnd.re]),
  .e fun σ w => BoxAt w N #[.int .i64 s.rd, .int .i64 s.mo, .slice A n c, .int .i64 s.fi, .int .i64 s.la] 49,
  .e fun σ w => BoxAt w (N + 1) #[.int .i64 hnd.at_, .int .i64 hnd.v, .int .i64 hnd.r, .int .i64 hnd.t, .bool hnd.seen.s, .int .i64 hnd.seen.n, .bool hnd.seen.f, .int .i64 hnd.seen.v, .int .i64 hnd.tr, .int .i64 hnd.sp, .bool hnd.ag, .int .i64 hnd.re] 27]

set_option maxRecDepth 100000 in
set_option maxHeartbeats 4000000 in
theorem l5DrawAny_any (K0 k : Nat) (a0 : Option Addr) (len cap : Nat) (w : World) (hc : CodeOk K0 w a0 len) (hkk : K0 ≤ k) (hN0 : K0 ≤ w.heap.size) (hcur : CurAt w k a0 len cap) :
    Calls Try.prog 66 #[.pointer (some ⟨k, 0, none⟩)] w (DrawsSH k a0 len cap w) := by
  have hkN := hcur.lt
  go_enter Try.func66, Try.ntmps66
  go_wp2_with fail
  refine calls_abs (fun W => But k w W ∧ CurAt W k a0 len cap ∧ BoxAt W w.heap.size #[.int .i64 0, .int .i64 0, .slice none 0 0, .int .i64 0, .int .i64 0] 49 ∧ BoxAt W (w.heap.size + 1) #[.int .i64 0, .int .i64 0, .int .i64 0, .int .i64 0, .bool false, .int .i64 0, .bool false, .int .i64 0, .int .i64 0, .int .i64 0, .bool false, .int .i64 0] 27) ⟨((But.refl _ _).alloc _).alloc _, (hcur.alloc _).alloc _, (BoxAt.new _ _ _).alloc _, BoxAt.new' (by simp)⟩ ?_
  clear hcur
  rintro W0 ⟨hB, hcur, hz, hy⟩
  refine (l5Draw_any K0 k a0 len cap _ (hc.below (hB.below hkk hN0)) hkk (Nat.le_trans hN0 hB.size) hcur).mono ?_
  rintro e w1 ⟨s, A, n, c, h, rfl, hso, hG, hb1, hcur1⟩
  have HSO := Lib.hid hso; clear hso
  have ly := hy.lt
  have hs1 := hb1.size
  replace hz := hb1.box hz (by omega)
  replace hy := hb1.box hy (by omega)
  replace hB := hB.trans hb1
  clear hb1 hcur
  unfold stV hdV
  go_wp2_with fail
  refine calls_abs (fun W => But k w W ∧ CurAt W k a0 len cap ∧ BoxAt W w.heap.size #[.int .i64 0, .int .i64 0, .slice none 0 0, .int .i64 0, .int .i64 0] 49 ∧ BoxAt W (w.heap.size + 1) #[.int .i64 0, .int .i64 0, .int .i64 0, .int .i64 0, .bool false, .int .i64 0, .bool false, .int .i64 0, .int .i64 0, .int .i64 0, .bool false, .int .i64 0] 27 ∧ BoxAt W w1.heap.size #[.int .i64 s.rd, .int .i64 s.mo, .slice A n c, .int .i64 s.fi, .int .i64 s.la] 49 ∧ BoxAt W (w1.heap.size + 1) #[.int .i64 h.at_, .int .i64 h.v, .int .i64 h.r, .int .i64 h.t, .bool h.seen.s, .int .i64 h.seen.n, .bool h.seen.f, .int .i64 h.seen.v, .int .i64 h.tr, .int .i64 h.sp, .bool h.ag, .int .i64 h.re] 27 ∧ RgsW (w.heap.size + 2) w1.heap.size W A n c s.rs ∧ w1.heap.size ≤ W.heap.size) ⟨(hB.alloc _).alloc _, (hcur1.alloc _).alloc _, (hz.alloc _).alloc _, (hy.alloc _).alloc _, (BoxAt.new _ _ _).alloc _, BoxAt.new' (by simp), ((hG.mono (by omega) (Nat.le_refl _)).al (Nat.le_refl _) _).al (by simp) _, by simp; omega⟩ ?_
  have hNS : w.heap.size + 2 ≤ w1.heap.size := by omega
  clear hB hcur1 hz hy hG
  generalize w1.heap.size = S4 at *
  rintro W1 ⟨hB, hcur0, hz, hy, hs, hh, hG, hS4⟩
  refine (l1Once_any K0 k a0 len cap _ _ (hc.below (hB.below hkk hN0)) hkk (Nat.le_trans hN0 hB.size) hcur0 (by omega)).mono ?_
  rintro e w2 ⟨x, rfl, hb1, hcur1⟩
  replace hz := hb1.box hz (by omega)
  replace hy := hb1.box hy (by omega)
  replace hs := hb1.box hs (by omega)
  replace hh := hb1.box hh (by omega)
  replace hG := hG.keep (.but hb1 (.inl (by omega)) hS4)
  replace hS4 := Nat.le_trans hS4 hb1.size
  replace hB := hB.trans hb1
  clear hb1 hcur0
  have hcur0 := hcur1
  clear hcur1
  go_upto_if 12 with fail
  go_cut [15] (fun u15 W' => ∃ h : Hd, But k w W' ∧ CurAt W' k a0 len cap ∧ BoxAt W' w.heap.size #[.int .i64 0, .int .i64 0, .slice none 0 0, .int .i64 0, .int .i64 0] 49 ∧ BoxAt W' (w.heap.size + 1) #[.int .i64 0, .int .i64 0, .int .i64 0, .int .i64 0, .bool false, .int .i64 0, .bool false, .int .i64 0, .int .i64 0, .int .i64 0, .bool false, .int .i64 0] 27 ∧ BoxAt W' S4 #[.int .i64 s.rd, .int .i64 s.mo, .slice A n c, .int .i64 s.fi, .int .i64 s.la] 49 ∧ BoxAt W' (S4 + 1) #[.int .i64 h.at_, .int .i64 h.v, .int .i64 h.r, .int .i64 h.t, .bool h.seen.s, .int .i64 h.seen.n, .bool h.seen.f, .int .i64 h.seen.v, .int .i64 h.tr, .int .i64 h.sp, .bool h.ag, .int .i64 h.re] 27 ∧ RgsW (w.heap.size + 2) S4 W' A n c s.rs ∧ S4 ≤ W'.heap.size)
  case first =>
    cases x
    · go_wp2
      go_meet
      exact ⟨h, hB, hcur0, hz, hy, hs, hh, hG, hS4⟩
    · go_wp2_with fail
      refine (l1Below_any K0 k a0 len cap _ _ (hc.below (hB.below hkk hN0)) hkk (Nat.le_trans hN0 hB.size) hcur0 (by omega)).mono ?_
      rintro e w3 ⟨y, ⟨y0, y1⟩, rfl, hb1, hcur1⟩
      replace hz := hb1.box hz (by omega)
      replace hy := hb1.box hy (by omega)
      replace hs := hb1.box hs (by omega)
      replace hh := hb1.box hh (by omega)
      replace hG := hG.keep (.but hb1 (.inl (by omega)) hS4)
      replace hS4 := Nat.le_trans hS4 hb1.size
      replace hB := hB.trans hb1
      clear hb1 hcur0
      have hcur0 := hcur1
      clear hcur1
      have kh := hh.cell
      have fh := hh.frozen
      have hy8 : y = 0 ∨ y = 1 ∨ y = 2 ∨ y = 3 ∨ y = 4 ∨ y = 5 ∨ y = 6 ∨ y = 7 := by omega
      rcases hy8 with rfl | rfl | rfl | rfl | rfl | rfl | rfl | rfl
      · go_wp2_with fail
        refine (l1From_any K0 k a0 len cap _ _ _ (hc.below (hB.below hkk hN0)) hkk (Nat.le_trans hN0 hB.size) hcur0 (by omega) (by omega) (by omega)).mono ?_
        rintro e w4 ⟨v, hv, rfl, hb1, hcur1⟩
        replace hz := hb1.box hz (by omega)
        replace hy := hb1.box hy (by omega)
        replace hs := hb1.box hs (by omega)
        replace hh := hb1.box hh (by omega)
        replace hG := hG.keep (.but hb1 (.inl (by omega)) hS4)
        replace hS4 := Nat.le_trans hS4 hb1.size
        replace hB := hB.trans hb1
        clear hb1 hcur0
        clear kh fh
        have hcur0 := hcur1
        have kh := hh.cell
        have fh := hh.frozen
        go_wp2
        go_meet
        exact ⟨{ h with at_ := v }, hB.setNew (by omega) _ _, hcur0.set_ne (by omega) _ _, hz.set_ne (by omega) _ _, hy.set_ne (by omega) _ _, hs.set_ne (by omega) _ _, by simpa using hh.set 0 (.int .i64 (v)), hG.st (.inr (by omega)) _ _, by simpa using hS4⟩
      · go_wp2_with fail
        have hL3 := hS4
        refine calls_abs (fun W => But k w W ∧ CurAt W k a0 len cap ∧ BoxAt W w.heap.size #[.int .i64 0, .int .i64 0, .slice none 0 0, .int .i64 0, .int .i64 0] 49 ∧ BoxAt W (w.heap.size + 1) #[.int .i64 0, .int .i64 0, .int .i64 0, .int .i64 0, .bool false, .int .i64 0, .bool false, .int .i64 0, .int .i64 0, .int .i64 0, .bool false, .int .i64 0] 27 ∧ BoxAt W S4 #[.int .i64 s.rd, .int .i64 s.mo, .slice A n c, .int .i64 s.fi, .int .i64 s.la] 49 ∧ BoxAt W (S4 + 1) #[.int .i64 h.at_, .int .i64 h.v, .int .i64 h.r, .int .i64 h.t, .bool h.seen.s, .int .i64 h.seen.n, .bool h.seen.f, .int .i64 h.seen.v, .int .i64 h.tr, .int .i64 h.sp, .bool h.ag, .int .i64 h.re] 27 ∧ RgsW (w.heap.size + 2) S4 W A n c s.rs ∧ BoxAt W w3.heap.size #[.int .i64 (-1), .int .i64 (0), .int .i64 (1000000), .int .i64 (1000001)] 2 ∧ S4 ≤ W.heap.size) ⟨hB.alloc _, hcur0.alloc _, hz.alloc _, hy.alloc _, hs.alloc _, hh.alloc _, hG.al hS4 _, BoxAt.new _ _ _, by simp; omega⟩ ?_
        have hl3 := hh.lt
        have hk3 := hcur0.lt
        clear hB hcur0 hz hy hs hh hG kh fh hS4
        rintro W4 ⟨hB, hcur0, hz, hy, hs, hh, hG, hlit, hS4⟩
        refine (l1Below_any K0 k a0 len cap _ _ (hc.below (hB.below hkk hN0)) hkk (Nat.le_trans hN0 hB.size) hcur0 (by omega)).mono ?_
        rintro e w4 ⟨u, ⟨u0, u1⟩, rfl, hb1, hcur1⟩
        replace hlit := hb1.box hlit (by omega)
        replace hz := hb1.box hz (by omega)
        replace hy := hb1.box hy (by omega)
        replace hs := hb1.box hs (by omega)
        replace hh := hb1.box hh (by omega)
        replace hG := hG.keep (.but hb1 (.inl (by omega)) hS4)
        replace hS4 := Nat.le_trans hS4 hb1.size
        replace hB := hB.trans hb1
        clear hb1 hcur0
        have hcur0 := hcur1
        have kh := hh.cell
        have fh := hh.frozen
        have kl := hlit.cell
        have hu : u = 0 ∨ u = 1 ∨ u = 2 ∨ u = 3 := by omega
        rcases hu with rfl | rfl | rfl | rfl
        · go_wp2
          go_meet
          exact ⟨{ h with v := (-1) }, hB.setNew (by omega) _ _, hcur0.set_ne (by omega) _ _, hz.set_ne (by omega) _ _, hy.set_ne (by omega) _ _, hs.set_ne (by omega) _ _, by simpa using hh.set 1 (.int .i64 ((-1))), hG.st (.inr (by omega)) _ _, by simpa using hS4⟩
        · go_wp2
          go_meet
          exact ⟨{ h with v := 0 }, hB.setNew (by omega) _ _, hcur0.set_ne (by omega) _ _, hz.set_ne (by omega) _ _, hy.set_ne (by omega) _ _, hs.set_ne (by omega) _ _, by simpa using hh.set 1 (.int .i64 (0)), hG.st (.inr (by omega)) _ _, by simpa using hS4⟩
        · go_wp2
          go_meet
          exact ⟨{ h with v := 1000000 }, hB.setNew (by omega) _ _, hcur0.set_ne (by omega) _ _, hz.set_ne (by omega) _ _, hy.set_ne (by omega) _ _, hs.set_ne (by omega) _ _, by simpa using hh.set 1 (.int .i64 (1000000)), hG.st (.inr (by omega)) _ _, by simpa using hS4⟩
        · go_wp2
          go_meet
          exact ⟨{ h with v := 1000001 }, hB.setNew (by omega) _ _, hcur0.set_ne (by omega) _ _, hz.set_ne (by omega) _ _, hy.set_ne (by omega) _ _, hs.set_ne (by omega) _ _, by simpa using hh.set 1 (.int .i64 (1000001)), hG.st (.inr (by omega)) _ _, by simpa using hS4⟩
      · go_wp2_with fail
        refine (l1From_any K0 k a0 len cap _ _ _ (hc.below (hB.below hkk hN0)) hkk (Nat.le_trans hN0 hB.size) hcur0 (by omega) (by omega) (by omega)).mono ?_
        rintro e w4 ⟨v, hv, rfl, hb1, hcur1⟩
        replace hz := hb1.box hz (by omega)
        replace hy := hb1.box hy (by omega)
        replace hs := hb1.box hs (by omega)
        replace hh := hb1.box hh (by omega)
        replace hG := hG.keep (.but hb1 (.inl (by omega)) hS4)
        replace hS4 := Nat.le_trans hS4 hb1.size
        replace hB := hB.trans hb1
        clear hb1 hcur0
        clear kh fh
        have hcur0 := hcur1
        have kh := hh.cell
        have fh := hh.frozen
        go_wp2
        go_meet
        exact ⟨{ h with r := v }, hB.setNew (by omega) _ _, hcur0.set_ne (by omega) _ _, hz.set_ne (by omega) _ _, hy.set_ne (by omega) _ _, hs.set_ne (by omega) _ _, by simpa using hh.set 2 (.int .i64 (v)), hG.st (.inr (by omega)) _ _, by simpa using hS4⟩
      · go_wp2_with fail
        have hL3 := hS4
        refine calls_abs (fun W => But k w W ∧ CurAt W k a0 len cap ∧ BoxAt W w.heap.size #[.int .i64 0, .int .i64 0, .slice none 0 0, .int .i64 0, .int .i64 0] 49 ∧ BoxAt W (w.heap.size + 1) #[.int .i64 0, .int .i64 0, .int .i64 0, .int .i64 0, .bool false, .int .i64 0, .bool false, .int .i64 0, .int .i64 0, .int .i64 0, .bool false, .int .i64 0] 27 ∧ BoxAt W S4 #[.int .i64 s.rd, .int .i64 s.mo, .slice A n c, .int .i64 s.fi, .int .i64 s.la] 49 ∧ BoxAt W (S4 + 1) #[.int .i64 h.at_, .int .i64 h.v, .int .i64 h.r, .int .i64 h.t, .bool h.seen.s, .int .i64 h.seen.n, .bool h.seen.f, .int .i64 h.seen.v, .int .i64 h.tr, .int .i64 h.sp, .bool h.ag, .int .i64 h.re] 27 ∧ RgsW (w.heap.size + 2) S4 W A n c s.rs ∧ BoxAt W w3.heap.size #[.int .i64 (-1), .int .i64 (0), .int .i64 (1000000), .int .i64 (1000001)] 2 ∧ S4 ≤ W.heap.size) ⟨hB.alloc _, hcur0.alloc _, hz.alloc _, hy.alloc _, hs.alloc _, hh.alloc _, hG.al hS4 _, BoxAt.new _ _ _, by simp; omega⟩ ?_
        have hl3 := hh.lt
        have hk3 := hcur0.lt
        clear hB hcur0 hz hy hs hh hG kh fh hS4
        rintro W4 ⟨hB, hcur0, hz, hy, hs, hh, hG, hlit, hS4⟩
        refine (l1Below_any K0 k a0 len cap _ _ (hc.below (hB.below hkk hN0)) hkk (Nat.le_trans hN0 hB.size) hcur0 (by omega)).mono ?_
        rintro e w4 ⟨u, ⟨u0, u1⟩, rfl, hb1, hcur1⟩
        replace hlit := hb1.box hlit (by omega)
        replace hz := hb1.box hz (by omega)
        replace hy := hb1.box hy (by omega)
        replace hs := hb1.box hs (by omega)
        replace hh := hb1.box hh (by omega)
        replace hG := hG.keep (.but hb1 (.inl (by omega)) hS4)
        replace hS4 := Nat.le_trans hS4 hb1.size
        replace hB := hB.trans hb1
        clear hb1 hcur0
        have hcur0 := hcur1
        have kh := hh.cell
        have fh := hh.frozen
        have kl := hlit.cell
        have hu : u = 0 ∨ u = 1 ∨ u = 2 ∨ u = 3 := by omega
        rcases hu with rfl | rfl | rfl | rfl
        · go_wp2
          go_meet
          exact ⟨{ h with t := (-1) }, hB.setNew (by omega) _ _, hcur0.set_ne (by omega) _ _, hz.set_ne (by omega) _ _, hy.set_ne (by omega) _ _, hs.set_ne (by omega) _ _, by simpa using hh.set 3 (.int .i64 ((-1))), hG.st (.inr (by omega)) _ _, by simpa using hS4⟩
        · go_wp2
          go_meet
          exact ⟨{ h with t := 0 }, hB.setNew (by omega) _ _, hcur0.set_ne (by omega) _ _, hz.set_ne (by omega) _ _, hy.set_ne (by omega) _ _, hs.set_ne (by omega) _ _, by simpa using hh.set 3 (.int .i64 (0)), hG.st (.inr (by omega)) _ _, by simpa using hS4⟩
        · go_wp2
          go_meet
          exact ⟨{ h with t := 1000000 }, hB.setNew (by omega) _ _, hcur0.set_ne (by omega) _ _, hz.set_ne (by omega) _ _, hy.set_ne (by omega) _ _, hs.set_ne (by omega) _ _, by simpa using hh.set 3 (.int .i64 (1000000)), hG.st (.inr (by omega)) _ _, by simpa using hS4⟩
        · go_wp2
          go_meet
          exact ⟨{ h with t := 1000001 }, hB.setNew (by omega) _ _, hcur0.set_ne (by omega) _ _, hz.set_ne (by omega) _ _, hy.set_ne (by omega) _ _, hs.set_ne (by omega) _ _, by simpa using hh.set 3 (.int .i64 (1000001)), hG.st (.inr (by omega)) _ _, by simpa using hS4⟩
      · go_wp2_with fail
        refine (l1DrawAny_any K0 k a0 len cap _ (hc.below (hB.below hkk hN0)) hkk (Nat.le_trans hN0 hB.size) hcur0).mono ?_
        rintro e w4 ⟨p1, p3, p2, p4, rfl, hb1, hcur1⟩
        replace hz := hb1.box hz (by omega)
        replace hy := hb1.box hy (by omega)
        replace hs := hb1.box hs (by omega)
        replace hh := hb1.box hh (by omega)
        replace hG := hG.keep (.but hb1 (.inl (by omega)) hS4)
        replace hS4 := Nat.le_trans hS4 hb1.size
        replace hB := hB.trans hb1
        clear hb1 hcur0
        clear kh fh
        have hcur0 := hcur1
        have kh := hh.cell
        have fh := hh.frozen
        go_wp2
        go_meet
        exact ⟨{ h with seen := ⟨p1, p2, p3, p4⟩ }, (((hB.setNew (by omega) _ _).setNew (by omega) _ _).setNew (by omega) _ _).setNew (by omega) _ _, (((hcur0.set_ne (by omega) _ _).set_ne (by omega) _ _).set_ne (by omega) _ _).set_ne (by omega) _ _, (((hz.set_ne (by omega) _ _).set_ne (by omega) _ _).set_ne (by omega) _ _).set_ne (by omega) _ _, (((hy.set_ne (by omega) _ _).set_ne (by omega) _ _).set_ne (by omega) _ _).set_ne (by omega) _ _, (((hs.set_ne (by omega) _ _).set_ne (by omega) _ _).set_ne (by omega) _ _).set_ne (by omega) _ _, by simpa using (((hh.set 4 (.bool p1)).set 5 (.int .i64 p2)).set 6 (.bool p3)).set 7 (.int .i64 p4), (((hG.st (.inr (by omega)) _ _).st (.inr (by omega)) _ _).st (.inr (by omega)) _ _).st (.inr (by omega)) _ _, by simpa using hS4⟩
      · go_wp2_with fail
        have hL3 := hS4
        refine calls_abs (fun W => But k w W ∧ CurAt W k a0 len cap ∧ BoxAt W w.heap.size #[.int .i64 0, .int .i64 0, .slice none 0 0, .int .i64 0, .int .i64 0] 49 ∧ BoxAt W (w.heap.size + 1) #[.int .i64 0, .int .i64 0, .int .i64 0, .int .i64 0, .bool false, .int .i64 0, .bool false, .int .i64 0, .int .i64 0, .int .i64 0, .bool false, .int .i64 0] 27 ∧ BoxAt W S4 #[.int .i64 s.rd, .int .i64 s.mo, .slice A n c, .int .i64 s.fi, .int .i64 s.la] 49 ∧ BoxAt W (S4 + 1) #[.int .i64 h.at_, .int .i64 h.v, .int .i64 h.r, .int .i64 h.t, .bool h.seen.s, .int .i64 h.seen.n, .bool h.seen.f, .int .i64 h.seen.v, .int .i64 h.tr, .int .i64 h.sp, .bool h.ag, .int .i64 h.re] 27 ∧ RgsW (w.heap.size + 2) S4 W A n c s.rs ∧ BoxAt W w3.heap.size #[.int .i64 (-1), .int .i64 (3), .int .i64 (1000000), .int .i64 (1000001)] 2 ∧ S4 ≤ W.heap.size) ⟨hB.alloc _, hcur0.alloc _, hz.alloc _, hy.alloc _, hs.alloc _, hh.alloc _, hG.al hS4 _, BoxAt.new _ _ _, by simp; omega⟩ ?_
        have hl3 := hh.lt
        have hk3 := hcur0.lt
        clear hB hcur0 hz hy hs hh hG kh fh hS4
        rintro W4 ⟨hB, hcur0, hz, hy, hs, hh, hG, hlit, hS4⟩
        refine (l1Below_any K0 k a0 len cap _ _ (hc.below (hB.below hkk hN0)) hkk (Nat.le_trans hN0 hB.size) hcur0 (by omega)).mono ?_
        rintro e w4 ⟨u, ⟨u0, u1⟩, rfl, hb1, hcur1⟩
        replace hlit := hb1.box hlit (by omega)
        replace hz := hb1.box hz (by omega)
        replace hy := hb1.box hy (by omega)
        replace hs := hb1.box hs (by omega)
        replace hh := hb1.box hh (by omega)
        replace hG := hG.keep (.but hb1 (.inl (by omega)) hS4)
        replace hS4 := Nat.le_trans hS4 hb1.size
        replace hB := hB.trans hb1
        clear hb1 hcur0
        have hcur0 := hcur1
        have kh := hh.cell
        have fh := hh.frozen
        have kl := hlit.cell
        have hu : u = 0 ∨ u = 1 ∨ u = 2 ∨ u = 3 := by omega
        rcases hu with rfl | rfl | rfl | rfl
        · go_wp2
          go_meet
          exact ⟨{ h with tr := (-1) }, hB.setNew (by omega) _ _, hcur0.set_ne (by omega) _ _, hz.set_ne (by omega) _ _, hy.set_ne (by omega) _ _, hs.set_ne (by omega) _ _, by simpa using hh.set 8 (.int .i64 ((-1))), hG.st (.inr (by omega)) _ _, by simpa using hS4⟩
        · go_wp2
          go_meet
          exact ⟨{ h with tr := 3 }, hB.setNew (by omega) _ _, hcur0.set_ne (by omega) _ _, hz.set_ne (by omega) _ _, hy.set_ne (by omega) _ _, hs.set_ne (by omega) _ _, by simpa using hh.set 8 (.int .i64 (3)), hG.st (.inr (by omega)) _ _, by simpa using hS4⟩
        · go_wp2
          go_meet
          exact ⟨{ h with tr := 1000000 }, hB.setNew (by omega) _ _, hcur0.set_ne (by omega) _ _, hz.set_ne (by omega) _ _, hy.set_ne (by omega) _ _, hs.set_ne (by omega) _ _, by simpa using hh.set 8 (.int .i64 (1000000)), hG.st (.inr (by omega)) _ _, by simpa using hS4⟩
        · go_wp2
          go_meet
          exact ⟨{ h with tr := 1000001 }, hB.setNew (by omega) _ _, hcur0.set_ne (by omega) _ _, hz.set_ne (by omega) _ _, hy.set_ne (by omega) _ _, hs.set_ne (by omega) _ _, by simpa using hh.set 8 (.int .i64 (1000001)), hG.st (.inr (by omega)) _ _, by simpa using hS4⟩
      · go_wp2_with fail
        refine (l1From_any K0 k a0 len cap _ _ _ (hc.below (hB.below hkk hN0)) hkk (Nat.le_trans hN0 hB.size) hcur0 (by omega) (by omega) (by omega)).mono ?_
        rintro e w4 ⟨v, hv, rfl, hb1, hcur1⟩
        replace hz := hb1.box hz (by omega)
        replace hy := hb1.box hy (by omega)
        replace hs := hb1.box hs (by omega)
        replace hh := hb1.box hh (by omega)
        replace hG := hG.keep (.but hb1 (.inl (by omega)) hS4)
        replace hS4 := Nat.le_trans hS4 hb1.size
        replace hB := hB.trans hb1
        clear hb1 hcur0
        clear kh fh
        have hcur0 := hcur1
        have kh := hh.cell
        have fh := hh.frozen
        go_wp2
        go_meet
        exact ⟨{ h with sp := v }, hB.setNew (by omega) _ _, hcur0.set_ne (by omega) _ _, hz.set_ne (by omega) _ _, hy.set_ne (by omega) _ _, hs.set_ne (by omega) _ _, by simpa using hh.set 9 (.int .i64 (v)), hG.st (.inr (by omega)) _ _, by simpa using hS4⟩
      · go_wp2_with fail
        refine (l1From_any K0 k a0 len cap _ _ _ (hc.below (hB.below hkk hN0)) hkk (Nat.le_trans hN0 hB.size) hcur0 (by omega) (by omega) (by omega)).mono ?_
        rintro e w4 ⟨v, hv, rfl, hb1, hcur1⟩
        replace hz := hb1.box hz (by omega)
        replace hy := hb1.box hy (by omega)
        replace hs := hb1.box hs (by omega)
        replace hh := hb1.box hh (by omega)
        replace hG := hG.keep (.but hb1 (.inl (by omega)) hS4)
        replace hS4 := Nat.le_trans hS4 hb1.size
        replace hB := hB.trans hb1
        clear hb1 hcur0
        clear kh fh
        have hcur0 := hcur1
        have kh := hh.cell
        have fh := hh.frozen
        go_wp2
        go_meet
        exact ⟨{ h with re := v }, hB.setNew (by omega) _ _, hcur0.set_ne (by omega) _ _, hz.set_ne (by omega) _ _, hy.set_ne (by omega) _ _, hs.set_ne (by omega) _ _, by simpa using hh.set 11 (.int .i64 (v)), hG.st (.inr (by omega)) _ _, by simpa using hS4⟩
  case rest =>
    clear hB hcur0 hz hy hs hh hG hS4
    obtain ⟨hnd, hB, hcur, hz, hy, hs, hh, hG, hS4⟩ := hcut
    go_upto_region 20 with fail
    refine wp_region2v (fun w w' => Below w.heap.size w w') (fun _ _ h => h.size) (fun _ => Below.refl _ _) (fun L W' => But k w W' ∧ CurAt W' k a0 len cap ∧ BoxAt W' S4 #[.int .i64 s.rd, .int .i64 s.mo, .slice A n c, .int .i64 s.fi, .int .i64 s.la] 49 ∧ BoxAt W' (S4 + 1) #[.int .i64 hnd.at_, .int .i64 hnd.v, .int .i64 hnd.r, .int .i64 hnd.t, .bool hnd.seen.s, .int .i64 hnd.seen.n, .bool hnd.seen.f, .int .i64 hnd.seen.v, .int .i64 hnd.tr, .int .i64 hnd.sp, .bool hnd.ag, .int .i64 hnd.re] 27 ∧ RgsW (w.heap.size + 2) S4 W' A n c s.rs ∧ (∃ x0 x1 x2 x3 x4, BoxAt W' w.heap.size #[x0, x1, x2, x3, x4] 49) ∧ (L 2 = false → BoxAt W' w.heap.size #[.int .i64 0, .int .i64 0, .slice none 0 0, .int .i64 0, .int .i64 0] 49) ∧ (∃ x0 x1 x2 x3 x4 x5 x6 x7 x8 x9 x10 x11, BoxAt W' (w.heap.size + 1) #[x0, x1, x2, x3, x4, x5, x6, x7, x8, x9, x10, x11] 27) ∧ (L 3 = false → BoxAt W' (w.heap.size + 1) #[.int .i64 0, .int .i64 0, .int .i64 0, .int .i64 0, .bool false, .int .i64 0, .bool false, .int .i64 0, .int .i64 0, .int .i64 0, .bool false, .int .i64 0] 27)) (daRV s hnd w.heap.size S4 n c A) (fun j => [0, 0, 1, 1].getD j 0) [] (by kernel_rfl) (by kernel_rfl) ?_ ?_ ?_
      (.still rfl ?a0 <| .still rfl ?a1 <| .store rfl ?a2 <| .store rfl ?a3 <| .nil) ?_ ?_
    · exact ⟨fun _ _ _ _ h => h, fun _ _ _ _ h => h, trivial⟩
    · exact ⟨fun σ w w' hb hR => hR.below hb hR.lt, fun σ w w' hb hR => hR.below hb hR.lt, trivial⟩
    · exact ⟨hB.drew, hcur, hs, hh, hG, ⟨_, _, _, _, _, hz⟩, fun _ => hz, ⟨_, _, _, _, _, _, _, _, _, _, _, _, hy⟩, fun _ => hy⟩
    case a0 =>
      go_light
      intro L σ W' hcl hL hC hw
      have ks := hC.2.2.1.cell
      clear hw hcl hL hC
      refine OpGoes.step fun K hK => ?_
      unfold OpGoes
      go_simp
      exact hK _ _ ⟨rfl, rfl⟩
    case a1 =>
      go_light
      intro L σ W' hcl hL hC hw
      have kh := hC.2.2.2.1.cell
      clear hw hcl hL hC
      refine OpGoes.step fun K hK => ?_
      unfold OpGoes
      go_simp
      exact hK _ _ ⟨rfl, rfl⟩
    case a2 =>
      go_light
      intro L σ W' hcl hL hC hw hne
      have e0 := wV hw 0 rfl
      clear hw hne
      have HC := Lib.hid hC
      obtain ⟨hB, hcur, hs, hh, hG, ⟨_, _, _, _, _, hz⟩, hz_o, ⟨_, _, _, _, _, _, _, _, _, _, _, _, hy⟩, hy_o⟩ := hC
      clear hcl hL
      have kc_ := hz.cell
      have kf_ := hz.frozen
      clear hB hcur hs hh hG hz hz_o hy hy_o
      refine OpGoes.step fun K hK => ?_
      unfold OpGoes
      go_simp
      obtain ⟨hB, hcur, hs, hh, hG, ⟨_, _, _, _, _, hz⟩, hz_o, ⟨_, _, _, _, _, _, _, _, _, _, _, _, hy⟩, hy_o⟩ := HC.out
      have hset := sets_all (us := [.int .i64 s.rd, .int .i64 s.mo, .slice A n c, .int .i64 s.fi, .int .i64 s.la]) hz rfl
      refine hK undef (setCells W' w.heap.size 0 [.int .i64 s.rd, .int .i64 s.mo, .slice A n c, .int .i64 s.fi, .int .i64 s.la]) ⟨⟨(But.setsNew hB (by omega) _ 0), (CurAt.sets hcur (by omega) _ 0), (BoxAt.sets_ne _ 0 hs (by omega)), (BoxAt.sets_ne _ 0 hh (by omega)), (RgsW.sts hG (by omega) _ 0), ⟨_, _, _, _, _, hset⟩, fun h => absurd h (by simp [upd]), ⟨_, _, _, _, _, _, _, _, _, _, _, _, (BoxAt.sets_ne _ 0 hy (by omega))⟩, fun h => (BoxAt.sets_ne _ 0 (hy_o (by simpa [upd] using h)) (by omega))⟩, hset, Nat.le_of_eq (sets_size _ _ _).symm, keepV ?_⟩
      exact ⟨fun h => absurd rfl h, fun _ _ hR => (BoxAt.sets_ne _ 0 hR (by omega)), trivial⟩
    case a3 =>
      go_light
      intro L σ W' hcl hL hC hw hne
      have e1 := wV hw 1 rfl
      clear hw hne
      have HC := Lib.hid hC
      obtain ⟨hB, hcur, hs, hh, hG, ⟨_, _, _, _, _, hz⟩, hz_o, ⟨_, _, _, _, _, _, _, _, _, _, _, _, hy⟩, hy_o⟩ := hC
      clear hcl hL
      have kc_ := hy.cell
      have kf_ := hy.frozen
      clear hB hcur hs hh hG hz hz_o hy hy_o
      refine OpGoes.step fun K hK => ?_
      unfold OpGoes
      go_simp
      obtain ⟨hB, hcur, hs, hh, hG, ⟨_, _, _, _, _, hz⟩, hz_o, ⟨_, _, _, _, _, _, _, _, _, _, _, _, hy⟩, hy_o⟩ := HC.out
      have hset := sets_all (us := [.int .i64 hnd.at_, .int .i64 hnd.v, .int .i64 hnd.r, .int .i64 hnd.t, .bool hnd.seen.s, .int .i64 hnd.seen.n, .bool hnd.seen.f, .int .i64 hnd.seen.v, .int .i64 hnd.tr, .int .i64 hnd.sp, .bool hnd.ag, .int .i64 hnd.re]) hy rfl
      refine hK undef (setCells W' (w.heap.size + 1) 0 [.int .i64 hnd.at_, .int .i64 hnd.v, .int .i64 hnd.r, .int .i64 hnd.t, .bool hnd.seen.s, .int .i64 hnd.seen.n, .bool hnd.seen.f, .int .i64 hnd.seen.v, .int .i64 hnd.tr, .int .i64 hnd.sp, .bool hnd.ag, .int .i64 hnd.re]) ⟨⟨(But.setsNew hB (by omega) _ 0), (CurAt.sets hcur (by omega) _ 0), (BoxAt.sets_ne _ 0 hs (by omega)), (BoxAt.sets_ne _ 0 hh (by omega)), (RgsW.sts hG (by omega) _ 0), ⟨_, _, _, _, _, (BoxAt.sets_ne _ 0 hz (by omega))⟩, fun h => (BoxAt.sets_ne _ 0 (hz_o (by simpa [upd] using h)) (by omega)), ⟨_, _, _, _, _, _, _, _, _, _, _, _, hset⟩, fun h => absurd h (by simp [upd])⟩, hset, Nat.le_of_eq (sets_size _ _ _).symm, keepV ?_⟩
      exact ⟨fun _ _ hR => (BoxAt.sets_ne _ 0 hR (by omega)), fun h => absurd rfl h, trivial⟩
    · intro L L' W' hLL hC
      obtain ⟨hB, hcur, hs, hh, hG, ⟨_, _, _, _, _, hz⟩, hz_o, ⟨_, _, _, _, _, _, _, _, _, _, _, _, hy⟩, hy_o⟩ := hC
      exact ⟨hB, hcur, hs, hh, hG, ⟨_, _, _, _, _, hz⟩, fun h => hz_o (hLL _ h), ⟨_, _, _, _, _, _, _, _, _, _, _, _, hy⟩, fun h => hy_o (hLL _ h)⟩
    · intro σ L W' hall hC hRR
      obtain ⟨hB, hcur, hs, hh, hG, ⟨_, _, _, _, _, hz⟩, hz_o, ⟨_, _, _, _, _, _, _, _, _, _, _, _, hy⟩, hy_o⟩ := hC
      have s2 := dE hRR 2 rfl
      have s3 := dE hRR 3 rfl
      clear hRR
      simp only [lexAll]
      go_simp
      go_step
      have kz := s2.cell
      have ky := s3.cell
      have lS := hh.lt
      go_wp2
      refine bodyPost_ret (v := .tuple #[stV s A n c, hdV hnd]) (by simp [results, Try.results66, go_sem, kz, ky, stV, hdV]) rfl ⟨s, A, n, c, hnd, rfl, HSO.out, RgsW.mono hG (by omega) (by omega), hB, hcur⟩
end Go.Proofs.Ytomfaabifpndbaa

/-
  The draws of chapter 5: any hand, any value.
-/
namespace Go.Proofs.Ytomfaabifpndbaa
set_option linter.unusedSimpArgs false
set_option linter.unusedVariables false
open Go.RowKit
set_option linter.unusedVariables false
attribute [local go_sem ↓] Go.wp_at_zero Go.wp_at_succ

theorem CodeOk.le {N M : Nat} {w : World} {a0 : Option Addr} {len : Nat} (h : CodeOk N w a0 len) (hM : N ≤ M) : CodeOk M w a0 len := by
  refine ⟨h.1, fun hl => ?_⟩
  obtain ⟨b, off, e, hn, hs, hc⟩ := h.2 hl
  exact ⟨b, off, e, by omega, hs, hc⟩

/-- A hand is drawn; old memory is as it was. -/
def DrawnH (w : World) (e : Ending) (w' : World) : Prop := ∃ h : Hd, e = .returned (hdV h) ∧ Below w.heap.size w w'
def DrawnHI (w : World) (e : Ending) (w' : World) : Prop := ∃ (h : Hd) (v : Int), e = .returned (.tuple #[hdV h, .int .i64 v]) ∧ Below w.heap.size w w'

set_option maxRecDepth 100000 in
set_option maxHeartbeats 1000000 in
theorem drawHandOk_any (a0 : Option Addr) (len cap : Nat) (w : World) (hc : CodeOk w.heap.size w a0 len) :
    Calls Try.prog 24 #[.slice a0 len cap] w (DrawnH w) := by
  go_enter Try.func24, Try.ntmps24
  go_wp2_with fail
  refine calls_abs (fun W => Below w.heap.size w W ∧ BoxAt W w.heap.size #[.int .i64 0, .int .i64 0, .int .i64 0, .int .i64 0, .bool false, .int .i64 0, .bool false, .int .i64 0, .int .i64 0, .int .i64 0, .bool false, .int .i64 0] 27) ⟨(Below.refl _ _).alloc (Nat.le_refl _) _, BoxAt.new _ _ _⟩ ?_
  rintro W0 ⟨hB, hx⟩
  have lx := hx.lt
  refine (l1New_any w.heap.size a0 len cap _ (hc.below hB)).mono ?_
  rintro e w1 ⟨h0, rfl, rfl⟩
  go_wp2_with fail
  generalize hk : W0.heap.size = k at *
  refine calls_abs (fun W => Below w.heap.size w W ∧ BoxAt W w.heap.size #[.int .i64 0, .int .i64 0, .int .i64 0, .int .i64 0, .bool false, .int .i64 0, .bool false, .int .i64 0, .int .i64 0, .int .i64 0, .bool false, .int .i64 0] 27 ∧ CurAt W k a0 len cap) ⟨hB.alloc hB.size _, hx.alloc _, 0, h0, Nat.zero_le _, by rw [← hk]; exact BoxAt.new _ _ _⟩ ?_
  clear hB hx
  rintro W1 ⟨hB, hx, hcur⟩
  refine (l5DrawAny_any w.heap.size k a0 len cap _ (hc.below hB) (by omega) hB.size hcur).mono ?_
  rintro e w2 ⟨s, A, n, c, h, rfl, -, -, hb1, -⟩
  replace hx := hb1.box hx (by omega)
  replace hB := hB.trans (hb1.below (by omega) hB.size)
  clear hb1 hcur
  have lx2 := hx.lt
  unfold stV hdV
  go_upto_region 3 with fail
  refine wp_abs (fun W => Below w.heap.size w W ∧ BoxAt W w.heap.size #[.int .i64 0, .int .i64 0, .int .i64 0, .int .i64 0, .bool false, .int .i64 0, .bool false, .int .i64 0, .int .i64 0, .int .i64 0, .bool false, .int .i64 0] 27 ∧ BoxAt W (w2.heap.size + 1) #[.int .i64 h.at_, .int .i64 h.v, .int .i64 h.r, .int .i64 h.t, .bool h.seen.s, .int .i64 h.seen.n, .bool h.seen.f, .int .i64 h.seen.v, .int .i64 h.tr, .int .i64 h.sp, .bool h.ag, .int .i64 h.re] 27) ⟨(hB.alloc hB.size _).alloc (by have := hB.size; simp; omega) _, (hx.alloc _).alloc _, BoxAt.new' (by simp)⟩ ?_
  clear hB hx
  rintro W3 ⟨hB, hx, hh⟩
  have kx := hx.cell
  have fx := hx.frozen
  have kh := hh.cell
  go_wp2
  refine bodyPost_ret (v := hdV h) (by simp [results, Try.results24, go_sem, kx, hdV]) rfl ⟨h, rfl, ?_⟩
  exact Below.setCells (Nat.le_refl _) [.int .i64 h.at_, .int .i64 h.v, .int .i64 h.r, .int .i64 h.t, .bool h.seen.s, .int .i64 h.seen.n, .bool h.seen.f, .int .i64 h.seen.v, .int .i64 h.tr, .int .i64 h.sp, .bool h.ag, .int .i64 h.re] 0 hB

set_option maxRecDepth 100000 in
set_option maxHeartbeats 1000000 in
theorem drawIsPutting_any (a0 : Option Addr) (len cap : Nat) (w : World) (hc : CodeOk w.heap.size w a0 len) :
    Calls Try.prog 10 #[.slice a0 len cap] w (DrawnH w) := by
  go_enter Try.func10, Try.ntmps10
  go_wp2_with fail
  refine calls_abs (fun W => Below w.heap.size w W ∧ BoxAt W w.heap.size #[.int .i64 0, .int .i64 0, .int .i64 0, .int .i64 0, .bool false, .int .i64 0, .bool false, .int .i64 0, .int .i64 0, .int .i64 0, .bool false, .int .i64 0] 27) ⟨(Below.refl _ _).alloc (Nat.le_refl _) _, BoxAt.new _ _ _⟩ ?_
  rintro W0 ⟨hB, hx⟩
  refine (drawHandOk_any a0 len cap _ ((hc.below hB).le hB.size)).mono ?_
  rintro e w2 ⟨h, rfl, hb1⟩
  replace hx := hx.below hb1 hx.lt
  replace hB := bstep hB hB.size hb1
  clear hb1
  unfold hdV
  have kx := hx.cell
  have fx := hx.frozen
  go_wp2
  refine bodyPost_ret (v := hdV h) (by simp [results, Try.results10, go_sem, kx, hdV]) rfl ⟨h, rfl, ?_⟩
  exact Below.setCells (Nat.le_refl _) [.int .i64 h.at_, .int .i64 h.v, .int .i64 h.r, .int .i64 h.t, .bool h.seen.s, .int .i64 h.seen.n, .bool h.seen.f, .int .i64 h.seen.v, .int .i64 h.tr, .int .i64 h.sp, .bool h.ag, .int .i64 h.re] 0 hB

set_option maxRecDepth 100000 in
set_option maxHeartbeats 2000000 in
theorem drawToPut_any (a0 : Option Addr) (len cap : Nat) (w : World) (hc : CodeOk w.heap.size w a0 len) :
    Calls Try.prog 6 #[.slice a0 len cap] w (DrawnHI w) := by
  go_enter Try.func6, Try.ntmps6
  go_wp2_with fail
  refine calls_abs (fun W => Below w.heap.size w W ∧ BoxAt W w.heap.size #[.int .i64 0, .int .i64 0, .int .i64 0, .int .i64 0, .bool false, .int .i64 0, .bool false, .int .i64 0, .int .i64 0, .int .i64 0, .bool false, .int .i64 0] 27) ⟨(Below.refl _ _).alloc (Nat.le_refl _) _, BoxAt.new _ _ _⟩ ?_
  rintro W0 ⟨hB, hx⟩
  refine (drawHandOk_any a0 len cap _ ((hc.below hB).le hB.size)).mono ?_
  rintro e w2 ⟨h, rfl, hb1⟩
  replace hx := hx.below hb1 hx.lt
  replace hB := bstep hB hB.size hb1
  clear hb1
  unfold hdV
  have lx2 := hx.lt
  go_wp2_with fail
  refine calls_abs (fun W => Below w.heap.size w W ∧ BoxAt W w.heap.size #[.int .i64 0, .int .i64 0, .int .i64 0, .int .i64 0, .bool false, .int .i64 0, .bool false, .int .i64 0, .int .i64 0, .int .i64 0, .bool false, .int .i64 0] 27 ∧ BoxAt W w2.heap.size #[.int .i64 h.at_, .int .i64 h.v, .int .i64 h.r, .int .i64 h.t, .bool h.seen.s, .int .i64 h.seen.n, .bool h.seen.f, .int .i64 h.seen.v, .int .i64 h.tr, .int .i64 h.sp, .bool h.ag, .int .i64 h.re] 27) ⟨hB.alloc hB.size _, hx.alloc _, BoxAt.new _ _ _⟩ ?_
  clear hB hx
  generalize w2.heap.size = H4 at *
  rintro W1 ⟨hB, hx, hh⟩
  refine (l1New_any w.heap.size a0 len cap _ (hc.below hB)).mono ?_
  rintro e w3 ⟨h0, rfl, rfl⟩
  have lh := hh.lt
  go_wp2_with fail
  generalize hk : W1.heap.size = k at *
  refine calls_abs (fun W => Below w.heap.size w W ∧ BoxAt W w.heap.size #[.int .i64 0, .int .i64 0, .int .i64 0, .int .i64 0, .bool false, .int .i64 0, .bool false, .int .i64 0, .int .i64 0, .int .i64 0, .bool false, .int .i64 0] 27 ∧ BoxAt W H4 #[.int .i64 h.at_, .int .i64 h.v, .int .i64 h.r, .int .i64 h.t, .bool h.seen.s, .int .i64 h.seen.n, .bool h.seen.f, .int .i64 h.seen.v, .int .i64 h.tr, .int .i64 h.sp, .bool h.ag, .int .i64 h.re] 27 ∧ CurAt W k a0 len cap) ⟨hB.alloc (by omega) _, hx.alloc _, hh.alloc _, 0, h0, Nat.zero_le _, by rw [← hk]; exact BoxAt.new _ _ _⟩ ?_
  clear hB hx hh
  rintro W2 ⟨hB, hx, hh, hcur⟩
  refine (l1Once_any w.heap.size k a0 len cap _ _ (hc.below hB) (by omega) hB.size hcur (by omega)).mono ?_
  rintro e w4 ⟨b, rfl, hb1, hcur1⟩
  replace hx := hb1.box hx (by omega)
  replace hh := hb1.box hh (by omega)
  replace hB := hB.trans (hb1.below (by omega) hB.size)
  clear hb1 hcur
  have hcur := hcur1
  clear hcur1
  go_upto_if 12 with fail
  go_cut [14] (fun u14 W' => ∃ h : Hd, Below w.heap.size w W' ∧ BoxAt W' w.heap.size #[.int .i64 0, .int .i64 0, .int .i64 0, .int .i64 0, .bool false, .int .i64 0, .bool false, .int .i64 0, .int .i64 0, .int .i64 0, .bool false, .int .i64 0] 27 ∧ BoxAt W' H4 #[.int .i64 h.at_, .int .i64 h.v, .int .i64 h.r, .int .i64 h.t, .bool h.seen.s, .int .i64 h.seen.n, .bool h.seen.f, .int .i64 h.seen.v, .int .i64 h.tr, .int .i64 h.sp, .bool h.ag, .int .i64 h.re] 27 ∧ CurAt W' k a0 len cap)
  case first =>
    cases b
    · go_wp2
      go_meet
      exact ⟨h, hB, hx, hh, hcur⟩
    · go_wp2_with fail
      refine (l1From_any w.heap.size k a0 len cap _ _ _ (hc.below hB) (by omega) hB.size hcur (by omega) (by omega) (by omega)).mono ?_
      rintro e w5 ⟨v, hv, rfl, hb1, hcur1⟩
      replace hx := hb1.box hx (by omega)
      replace hh := hb1.box hh (by omega)
      replace hB := hB.trans (hb1.below (by omega) hB.size)
      clear hb1 hcur
      have hcur := hcur1
      clear hcur1
      go_wp2_with fail
      refine (l1Below_any w.heap.size k a0 len cap _ _ (hc.below hB) (by omega) hB.size hcur (by omega)).mono ?_
      rintro e w6 ⟨u, hu, rfl, hb1, hcur1⟩
      replace hx := hb1.box hx (by omega)
      replace hh := hb1.box hh (by omega)
      replace hB := hB.trans (hb1.below (by omega) hB.size)
      clear hb1 hcur
      have hcur := hcur1
      clear hcur1
      have kh := hh.cell
      have fh := hh.frozen
      go_wp2
      go_meet
      refine ⟨{ Hd.zero with sp := v, re := u }, Below.setCells (by omega) [.int .i64 0, .int .i64 0, .int .i64 0, .int .i64 0, .bool false, .int .i64 0, .bool false, .int .i64 0, .int .i64 0, .int .i64 v, .bool false, .int .i64 u] 0 hB, BoxAt.sets_ne [.int .i64 0, .int .i64 0, .int .i64 0, .int .i64 0, .bool false, .int .i64 0, .bool false, .int .i64 0, .int .i64 0, .int .i64 v, .bool false, .int .i64 u] 0 hx (by omega), sets_all (us := [.int .i64 0, .int .i64 0, .int .i64 0, .int .i64 0, .bool false, .int .i64 0, .bool false, .int .i64 0, .int .i64 0, .int .i64 v, .bool false, .int .i64 u]) hh rfl, CurAt.sets hcur (by omega) [.int .i64 0, .int .i64 0, .int .i64 0, .int .i64 0, .bool false, .int .i64 0, .bool false, .int .i64 0, .int .i64 0, .int .i64 v, .bool false, .int .i64 u] 0⟩
  case rest =>
    clear hB hx hh hcur
    obtain ⟨h, hB, hx, hh, hcur⟩ := hcut
    have lh := hh.lt
    go_wp2_with fail
    refine (l1Below_any w.heap.size k a0 len cap _ _ (hc.below hB) (by omega) hB.size hcur (by omega)).mono ?_
    rintro e w5 ⟨v, hv, rfl, hb1, hcur1⟩
    replace hx := hb1.box hx (by omega)
    replace hh := hb1.box hh (by omega)
    replace hB := hB.trans (hb1.below (by omega) hB.size)
    clear hb1 hcur
    have hcur := hcur1
    clear hcur1
    go_wp2_with fail
    refine (l1Once_any w.heap.size k a0 len cap _ _ (hc.below hB) (by omega) hB.size hcur (by omega)).mono ?_
    rintro e w6 ⟨b, rfl, hb1, hcur1⟩
    replace hx := hb1.box hx (by omega)
    replace hh := hb1.box hh (by omega)
    replace hB := hB.trans (hb1.below (by omega) hB.size)
    clear hb1 hcur
    have hcur := hcur1
    clear hcur1
    go_upto_if 22 with fail
    go_cut [6] (fun u6 W' => ∃ z : Int, u6 = .int .i64 z ∧ Below w.heap.size w W' ∧ BoxAt W' w.heap.size #[.int .i64 0, .int .i64 0, .int .i64 0, .int .i64 0, .bool false, .int .i64 0, .bool false, .int .i64 0, .int .i64 0, .int .i64 0, .bool false, .int .i64 0] 27 ∧ BoxAt W' H4 #[.int .i64 h.at_, .int .i64 h.v, .int .i64 h.r, .int .i64 h.t, .bool h.seen.s, .int .i64 h.seen.n, .bool h.seen.f, .int .i64 h.seen.v, .int .i64 h.tr, .int .i64 h.sp, .bool h.ag, .int .i64 h.re] 27)
    case first =>
      cases b
      · go_wp2
        go_meet
        exact ⟨_, rfl, hB, hx, hh⟩
      · go_wp2_with fail
        have lk7 := hcur.lt
        refine calls_abs (fun W => Below w.heap.size w W ∧ BoxAt W w.heap.size #[.int .i64 0, .int .i64 0, .int .i64 0, .int .i64 0, .bool false, .int .i64 0, .bool false, .int .i64 0, .int .i64 0, .int .i64 0, .bool false, .int .i64 0] 27 ∧ BoxAt W H4 #[.int .i64 h.at_, .int .i64 h.v, .int .i64 h.r, .int .i64 h.t, .bool h.seen.s, .int .i64 h.seen.n, .bool h.seen.f, .int .i64 h.seen.v, .int .i64 h.tr, .int .i64 h.sp, .bool h.ag, .int .i64 h.re] 27 ∧ CurAt W k a0 len cap ∧ BoxAt W w6.heap.size #[.int .i64 0, .int .i64 1000000, .int .i64 1000001] 2) ⟨hB.alloc hB.size _, hx.alloc _, hh.alloc _, hcur.alloc _, BoxAt.new _ _ _⟩ ?_
        clear hB hx hh hcur
        rintro W7 ⟨hB, hx, hh, hcur, hlit⟩
        refine (l1Below_any w.heap.size k a0 len cap _ _ (hc.below hB) (by omega) hB.size hcur (by omega)).mono ?_
        rintro e w7 ⟨u, ⟨u0, u1⟩, rfl, hb1, hcur1⟩
        replace hlit := hb1.box hlit (by omega)
        replace hx := hb1.box hx (by omega)
        replace hh := hb1.box hh (by omega)
        replace hB := hB.trans (hb1.below (by omega) hB.size)
        clear hb1 hcur
        have hcur := hcur1
        clear hcur1
        have kl := hlit.cell
        have hu : u = 0 ∨ u = 1 ∨ u = 2 := by omega
        rcases hu with rfl | rfl | rfl
        all_goals
          go_wp2
          go_meet
          exact ⟨_, rfl, hB, hx, hh⟩
    case rest =>
      clear hB hx hh hcur
      obtain ⟨z, rfl, hB, hx, hh⟩ := hcut
      have kx := hx.cell
      have fx := hx.frozen
      have kh := hh.cell
      go_wp2
      refine bodyPost_ret (v := .tuple #[hdV h, .int .i64 z]) (by simp [results, Try.results6, go_sem, kx, hdV]) rfl ⟨h, z, rfl, ?_⟩
      exact Below.setCells (Nat.le_refl _) [.int .i64 h.at_, .int .i64 h.v, .int .i64 h.r, .int .i64 h.t, .bool h.seen.s, .int .i64 h.seen.n, .bool h.seen.f, .int .i64 h.seen.v, .int .i64 h.tr, .int .i64 h.sp, .bool h.ag, .int .i64 h.re] 0 hB

set_option maxRecDepth 100000 in
set_option maxHeartbeats 1000000 in
theorem drawToTake_any (a0 : Option Addr) (len cap : Nat) (w : World) (hc : CodeOk w.heap.size w a0 len) :
    Calls Try.prog 8 #[.slice a0 len cap] w (DrawnH w) := by
  go_enter Try.func8, Try.ntmps8
  go_wp2_with fail
  refine calls_abs (fun W => Below w.heap.size w W ∧ BoxAt W w.heap.size #[.int .i64 0, .int .i64 0, .int .i64 0, .int .i64 0, .bool false, .int .i64 0, .bool false, .int .i64 0, .int .i64 0, .int .i64 0, .bool false, .int .i64 0] 27) ⟨(Below.refl _ _).alloc (Nat.le_refl _) _, BoxAt.new _ _ _⟩ ?_
  rintro W0 ⟨hB, hx⟩
  refine (drawToPut_any a0 len cap _ ((hc.below hB).le hB.size)).mono ?_
  rintro e w2 ⟨h, v, rfl, hb1⟩
  replace hx := hx.below hb1 hx.lt
  replace hB := bstep hB hB.size hb1
  clear hb1
  have lx2 := hx.lt
  unfold hdV
  go_upto_region 2 with fail
  refine wp_abs (fun W => Below w.heap.size w W ∧ BoxAt W w.heap.size #[.int .i64 0, .int .i64 0, .int .i64 0, .int .i64 0, .bool false, .int .i64 0, .bool false, .int .i64 0, .int .i64 0, .int .i64 0, .bool false, .int .i64 0] 27 ∧ BoxAt W w2.heap.size #[.int .i64 h.at_, .int .i64 h.v, .int .i64 h.r, .int .i64 h.t, .bool h.seen.s, .int .i64 h.seen.n, .bool h.seen.f, .int .i64 h.seen.v, .int .i64 h.tr, .int .i64 h.sp, .bool h.ag, .int .i64 h.re] 27) ⟨hB.alloc hB.size _, hx.alloc _, BoxAt.new _ _ _⟩ ?_
  clear hB hx
  rintro W3 ⟨hB, hx, hh⟩
  have kx := hx.cell
  have fx := hx.frozen
  have kh := hh.cell
  go_wp2
  refine bodyPost_ret (v := hdV h) (by simp [results, Try.results8, go_sem, kx, hdV]) rfl ⟨h, rfl, ?_⟩
  exact Below.setCells (Nat.le_refl _) [.int .i64 h.at_, .int .i64 h.v, .int .i64 h.r, .int .i64 h.t, .bool h.seen.s, .int .i64 h.seen.n, .bool h.seen.f, .int .i64 h.seen.v, .int .i64 h.tr, .int .i64 h.sp, .bool h.ag, .int .i64 h.re] 0 hB

end Go.Proofs.Ytomfaabifpndbaa


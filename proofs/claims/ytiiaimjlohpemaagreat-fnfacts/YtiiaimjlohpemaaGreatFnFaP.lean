/-
 The law on facts holds: for every code that is drawn from, what is in a line has nothing twice, is in order, and was empty where it said so; and how many are under way is from one to all. No conditions.
-/
import Derived.Test.YtiiaimjlohpemaaGreatCrewF
import Derived.Test.YtiiaimjlohpemaaGreatDrwS
import Derived.Test.YtiiaimjlohpemaaGreatIntA
import Derived.Test.YtiiaimjlohpemaaGreatFacN
import Derived.Test.YtiiaimjlohpemaaGreatFacV
import Derived.Test.YtiiaimjlohpemaaGreatFacT
import Derived.Test.YtiiaimjlohpemaaGreatOrdT
import Derived.Test.YtiiaimjlohpemaaGreatChecked
import Derived.Test.YtiiaimjlohpemaaGreatRows
import Derived.Test.YtiiaimjlohpemaaGreatKit
import Derived.Test.YtiiaimjlohpemaaGreatRepB
namespace Go.Proofs.YtiiaimjlohpemaaGreat
set_option linter.unusedSimpArgs false
set_option linter.unusedVariables false
open Go.RowKit
set_option linter.unusedVariables false
attribute [local go_sem] OpUpon
attribute [local go_sem ↓] Go.wp_at_zero Go.wp_at_succ

def turnsS (c : Cr) (l : List Int) : Cr := l.foldl (fun c z => (turnS c z).1) c
def turnsC (c : Cr) (l : List Int) : Cr := if crOk c && decide (l.length ≤ 400) then turnsS c l else .zero
theorem turnsS_ok {c : Cr} (h : crOk c = true) (l : List Int) : crOk (turnsS c l) = true := by
 unfold turnsS
 induction l generalizing c with
 | nil => exact h
 | cons z l ih => exact ih (turnS_ok h z)
theorem turnsS_take {c : Cr} {l : List Int} {i : Nat} {z : Int} (h : l[i]? = some z) : (turnS (turnsS c (l.take i)) z).1 = turnsS c (l.take (i + 1)) := by
 unfold turnsS
 rw [List.take_add_one, h, List.foldl_append]
 rfl
/-- A crew's lists, anywhere from lo on. -/
def CrN (lo : Nat) (w : World) (c : Cr) (y : CrL) : Prop := CrW lo w.heap.size w c y
theorem CrN.belowN {lo : Nat} {w w' : World} {c : Cr} {y : CrL} (h : CrN lo w c y) (hb : Below w.heap.size w w') : CrN lo w' c y := CrW.mono (CrW.below h hb (Nat.le_refl _)) (Nat.le_refl _) hb.size
theorem CrN.setsC {lo : Nat} {w : World} {c : Cr} {y : CrL} (h : CrN lo w c y) {b : Nat} {cs : Array Value} (hk : BoxAt w b cs 68) (us : List Value) (o : Nat) : CrN lo (setCells w b o us) c y :=
 CrW.mono (CrW.setsC h hk us o) (Nat.le_refl _) (Nat.le_of_eq (sets_size us o w).symm)
theorem CrN.drew {lo : Nat} {w : World} {c : Cr} {y : CrL} (h : CrN lo w c y) : CrN lo w.drew c y := CrW.drew h

def tsRV (c d : Cr) (y y1 : CrL) (N O b n cap i : Nat) (z : Int) : List Sl := [.v (.agg #[d.st.rd, d.st.mo, .slice y1.s.A y1.s.n y1.s.cap, d.st.fi, d.st.la, .slice y1.h.A y1.h.n y1.h.cap, .slice y1.j.A y1.j.n y1.j.cap, .slice y1.b.A y1.b.n y1.b.cap, d.ck, .slice y1.e.A y1.e.n y1.e.cap]),
 .v (.slice (some ⟨b, 0, none⟩) n cap),
 .v (.int .i64 ((i : Int))),
 .v (.pointer (some ⟨b, i, none⟩)),
 .v z,
 .e fun σ w => ∃ (y2 : CrL), σ 5 = .tuple #[.agg #[.int .i64 ((turnS d z).1.st.rd), .int .i64 ((turnS d z).1.st.mo), .slice y2.s.A y2.s.n y2.s.cap, .int .i64 ((turnS d z).1.st.fi), .int .i64 ((turnS d z).1.st.la), .slice y2.h.A y2.h.n y2.h.cap, .slice y2.j.A y2.j.n y2.j.cap, .slice y2.b.A y2.b.n y2.b.cap, .int .i64 ((turnS d z).1.ck), .slice y2.e.A y2.e.n y2.e.cap], .bool ((turnS d z).2)] ∧ CrN (N + 2) w (turnS d z).1 y2,
 .e fun σ w => ∃ (y2 : CrL), σ 6 = .tuple #[.agg #[.int .i64 ((turnS d z).1.st.rd), .int .i64 ((turnS d z).1.st.mo), .slice y2.s.A y2.s.n y2.s.cap, .int .i64 ((turnS d z).1.st.fi), .int .i64 ((turnS d z).1.st.la), .slice y2.h.A y2.h.n y2.h.cap, .slice y2.j.A y2.j.n y2.j.cap, .slice y2.b.A y2.b.n y2.b.cap, .int .i64 ((turnS d z).1.ck), .slice y2.e.A y2.e.n y2.e.cap], .bool ((turnS d z).2)] ∧ CrN (N + 2) w (turnS d z).1 y2,
 .e fun σ w => ∃ (y2 : CrL), σ 7 = .agg #[.int .i64 ((turnS d z).1.st.rd), .int .i64 ((turnS d z).1.st.mo), .slice y2.s.A y2.s.n y2.s.cap, .int .i64 ((turnS d z).1.st.fi), .int .i64 ((turnS d z).1.st.la), .slice y2.h.A y2.h.n y2.h.cap, .slice y2.j.A y2.j.n y2.j.cap, .slice y2.b.A y2.b.n y2.b.cap, .int .i64 ((turnS d z).1.ck), .slice y2.e.A y2.e.n y2.e.cap] ∧ CrN (N + 2) w (turnS d z).1 y2,
 .v (.bool ((turnS d z).2)),
 .e fun σ w => ∃ (y2 : CrL), BoxAt w O #[.int .i64 ((turnS d z).1.st.rd), .int .i64 ((turnS d z).1.st.mo), .slice y2.s.A y2.s.n y2.s.cap, .int .i64 ((turnS d z).1.st.fi), .int .i64 ((turnS d z).1.st.la), .slice y2.h.A y2.h.n y2.h.cap, .slice y2.j.A y2.j.n y2.j.cap, .slice y2.b.A y2.b.n y2.b.cap, .int .i64 ((turnS d z).1.ck), .slice y2.e.A y2.e.n y2.e.cap] 68 ∧ CrN (N + 2) w (turnS d z).1 y2]

set_option maxRecDepth 100000 in
set_option maxHeartbeats 4000000 in
theorem sturns_any (c : Cr) (y : CrL) (lo hi : Nat) (l : List Int) (A : Option Addr) (n cap lo2 hi2 : Nat) (w : World) (hW0 : CrW lo hi w c y) (hh : hi ≤ w.heap.size) (hf : CrFit c) (hl : IntsW lo2 hi2 w A n cap l) (hh2 : hi2 ≤ w.heap.size) (hn : n ≤ 1048576) :
  Calls Tryz.prog 63 #[crV c y, .slice A n cap] w (RetCr (turnsC c l) w) := by
 have HF := Lib.hid hf; clear hf
 have HLL := Lib.hid hl.1
 unfold crV
 go_enter Tryz.func63, Tryz.ntmps63
 go_wp2_with fail
 refine calls_abs (fun W => Below w.heap.size w W ∧ BoxAt W w.heap.size #[c.st.rd, c.st.mo, .slice y.s.A y.s.n y.s.cap, c.st.fi, c.st.la, .slice y.h.A y.h.n y.h.cap, .slice y.j.A y.j.n y.j.cap, .slice y.b.A y.b.n y.b.cap, c.ck, .slice y.e.A y.e.n y.e.cap] 68 ∧ BoxAt W (w.heap.size + 1) #[.int .i64 0, .int .i64 0, .slice none 0 0, .int .i64 0, .int .i64 0, .slice none 0 0, .slice none 0 0, .slice none 0 0, .int .i64 0, .slice none 0 0] 68) ⟨((Below.refl _ _).alloc (Nat.le_refl _) _).alloc (by simp) _, (BoxAt.new _ _ _).alloc _, BoxAt.new' (by simp)⟩ ?_
 rintro W0 ⟨hB, hx, hz⟩
 refine (screwOk_any c y lo hi _ (hW0.below hB hh) (Nat.le_trans hh hB.size) HF.out).mono ?_
 rintro e w1 ⟨rfl, hb1⟩
 replace hx := hx.below hb1 hx.lt
 replace hz := hz.below hb1 hz.lt
 replace hB := bstep hB hB.size hb1
 clear hb1
 have kx := hx.cell
 have kz := hz.cell
 have fz := hz.frozen
 cases hok : crOk c
 ·
  have HV := Lib.hid (show turnsC c l = .zero by unfold turnsC; rw [hok]; rfl)
  go_wp2
  refine bodyPost_ret (v := crV .zero ⟨⟨none, 0, 0⟩, ⟨none, 0, 0⟩, ⟨none, 0, 0⟩, ⟨none, 0, 0⟩, ⟨none, 0, 0⟩⟩) (by simp [results, Tryz.results63, go_sem, kz, crV, Cr.zero, St.zero]) rfl ⟨⟨⟨none, 0, 0⟩, ⟨none, 0, 0⟩, ⟨none, 0, 0⟩, ⟨none, 0, 0⟩, ⟨none, 0, 0⟩⟩, by rw [HV.out], ?_, ?_⟩
  ·
   rw [HV.out]
   exact ⟨RgsW.nil, SlW.nil, ListsW.nil, SlW.nil, SlW.nil⟩
  · exact Below.setCells (by omega) (crCs .zero ⟨⟨none, 0, 0⟩, ⟨none, 0, 0⟩, ⟨none, 0, 0⟩, ⟨none, 0, 0⟩, ⟨none, 0, 0⟩⟩) 0 hB
 by_cases h4 : n ≤ 400
 case neg =>
  have HV := Lib.hid (show turnsC c l = .zero by unfold turnsC; rw [HLL.out, decide_eq_false h4, Bool.and_false]; rfl)
  have h4' : (400 : Int) < (n : Int) := by omega
  have h4b : decide ((400 : Int) < (n : Int)) = true := decide_eq_true h4'
  go_wp2
  refine bodyPost_ret (v := crV .zero ⟨⟨none, 0, 0⟩, ⟨none, 0, 0⟩, ⟨none, 0, 0⟩, ⟨none, 0, 0⟩, ⟨none, 0, 0⟩⟩) (by simp [results, Tryz.results63, go_sem, kz, crV, Cr.zero, St.zero]) rfl ⟨⟨⟨none, 0, 0⟩, ⟨none, 0, 0⟩, ⟨none, 0, 0⟩, ⟨none, 0, 0⟩, ⟨none, 0, 0⟩⟩, by rw [HV.out], ?_, ?_⟩
  ·
   rw [HV.out]
   exact ⟨RgsW.nil, SlW.nil, ListsW.nil, SlW.nil, SlW.nil⟩
  · exact Below.setCells (by omega) (crCs .zero ⟨⟨none, 0, 0⟩, ⟨none, 0, 0⟩, ⟨none, 0, 0⟩, ⟨none, 0, 0⟩, ⟨none, 0, 0⟩⟩) 0 hB
 have HV := Lib.hid (show turnsC c l = turnsS c l by unfold turnsC; rw [hok, HLL.out, decide_eq_true h4]; rfl)
 have HOK := Lib.hid hok
 have h4' : ¬ (400 : Int) < (n : Int) := by omega
 have h4b : decide ((400 : Int) < (n : Int)) = false := decide_eq_false h4'
 go_wp2_with fail
 clear kx kz fz
 refine (l10Copy_any c y lo hi _ (hW0.below hB hh) (Nat.le_trans hh hB.size) (crOk_neat HOK.out)).mono ?_
 rintro e w2 ⟨y1, l1, u1, l2, u2, rfl, hC1, hb2⟩
 have hQ : w.heap.size + 2 ≤ w1.heap.size := by have := hz.lt; omega
 have hC : CrN (w.heap.size + 2) w2 c y1 := CrW.mono hC1.crw hQ (Nat.le_refl _)
 replace hx := hx.below hb2 hx.lt
 replace hz := hz.below hb2 hz.lt
 replace hB := bstep hB hB.size hb2
 have hQ2 := hb2.size
 clear hb2 hC1 hok
 unfold crV
 go_wp2
 generalize hOe : w2.heap.size = O at *
 go_loopw [6] (fun s6 W => ∃ (i : Nat) (d : Cr) (y1 : CrL), i ≤ n ∧ s6 = .int .i64 i ∧ Below w.heap.size w W ∧ BoxAt W w.heap.size #[c.st.rd, c.st.mo, .slice y.s.A y.s.n y.s.cap, c.st.fi, c.st.la, .slice y.h.A y.h.n y.h.cap, .slice y.j.A y.j.n y.j.cap, .slice y.b.A y.b.n y.b.cap, c.ck, .slice y.e.A y.e.n y.e.cap] 68 ∧ BoxAt W (w.heap.size + 1) #[.int .i64 0, .int .i64 0, .slice none 0 0, .int .i64 0, .int .i64 0, .slice none 0 0, .slice none 0 0, .slice none 0 0, .int .i64 0, .slice none 0 0] 68 ∧ BoxAt W O #[d.st.rd, d.st.mo, .slice y1.s.A y1.s.n y1.s.cap, d.st.fi, d.st.la, .slice y1.h.A y1.h.n y1.h.cap, .slice y1.j.A y1.j.n y1.j.cap, .slice y1.b.A y1.b.n y1.b.cap, d.ck, .slice y1.e.A y1.e.n y1.e.cap] 68 ∧ CrN (w.heap.size + 2) W d y1 ∧ crOk d = true ∧ d = turnsS c (l.take i)) (fun s6 _ => n - (intOf s6).toNat)
 case atStart =>
  refine ⟨0, c, y1, Nat.zero_le _, rfl, hB.alloc (by omega) _, hx.alloc _, hz.alloc _, BoxAt.new' hOe.symm, hC.belowN ((Below.refl _ _).alloc (Nat.le_refl _) _), HOK.out, by simp [turnsS]⟩
 case round =>
  clear hB hx hz hC
  obtain ⟨i, d, y1, hin, rfl, hB, hx, hz, ho, hC, hdk, hde⟩ := hrel
  have HDK := Lib.hid hdk
  have HDE := Lib.hid hde
  clear hdk hde
  have hO1 := ho.lt
  have hM : w.heap.size + 2 ≤ wr.heap.size := by have := hB.size; omega
  by_cases hlt : i < n
  ·
   obtain ⟨b, z, A', hbl, hbh, hli, hlc0⟩ := SlW.at_ (SlW.below hl hB hh2) ic_len hlt
   subst A'
   have HLI := Lib.hid hli; clear hli
   have hlc : CellsAt wr b i [z] := fun j u hu => by
    have := hlc0 j u hu
    rwa [Nat.mul_one] at this
   clear hlc0
   have g1 : (i : Int) < (n : Int) := by omega
   have g2 : (0 : Int) ≤ (i : Int) := by omega
   have hbw : b < w.heap.size := by omega
   go_upto_region 7 with fail
   refine wp_region2v (fun w w' => Below w.heap.size w w') (fun _ _ h => h.size) (fun _ => Below.refl _ _) (fun L W' => Below w.heap.size w W' ∧ BoxAt W' w.heap.size #[c.st.rd, c.st.mo, .slice y.s.A y.s.n y.s.cap, c.st.fi, c.st.la, .slice y.h.A y.h.n y.h.cap, .slice y.j.A y.j.n y.j.cap, .slice y.b.A y.b.n y.b.cap, c.ck, .slice y.e.A y.e.n y.e.cap] 68 ∧ BoxAt W' (w.heap.size + 1) #[.int .i64 0, .int .i64 0, .slice none 0 0, .int .i64 0, .int .i64 0, .slice none 0 0, .slice none 0 0, .slice none 0 0, .int .i64 0, .slice none 0 0] 68 ∧ CrN (w.heap.size + 2) W' d y1 ∧ CellsAt W' b i [z] ∧ w.heap.size + 2 ≤ W'.heap.size ∧ (∃ x0 x1 x2 x3 x4 x5 x6 x7 x8 x9, BoxAt W' O #[x0, x1, x2, x3, x4, x5, x6, x7, x8, x9] 68) ∧ (L 9 = false → BoxAt W' O #[d.st.rd, d.st.mo, .slice y1.s.A y1.s.n y1.s.cap, d.st.fi, d.st.la, .slice y1.h.A y1.h.n y1.h.cap, .slice y1.j.A y1.j.n y1.j.cap, .slice y1.b.A y1.b.n y1.b.cap, d.ck, .slice y1.e.A y1.e.n y1.e.cap] 68)) (tsRV c d y y1 w.heap.size O b n cap i z) (fun j => [0, 0, 0, 0, 0, 0, 0, 0, 0, 1].getD j 0) [] (by kernel_rfl) (by kernel_rfl) ?_ ?_ ?_
    (.still rfl ?a0 <| .still rfl ?a1 <| .still rfl ?a2 <| .still rfl ?a3 <| .still rfl ?a4 <| .grow rfl ?a5 <| .still rfl ?a6 <| .still rfl ?a7 <| .still rfl ?a8 <| .store rfl ?a9 <| .nil) ?_ ?_
   · exact ⟨fun _ _ _ h ⟨y2, e, hp⟩ => ⟨y2, (h 5 (List.mem_singleton.2 rfl)).symm.trans e, hp⟩, fun _ _ _ h ⟨y2, e, hp⟩ => ⟨y2, (h 6 (List.mem_singleton.2 rfl)).symm.trans e, hp⟩, fun _ _ _ h ⟨y2, e, hp⟩ => ⟨y2, (h 7 (List.mem_singleton.2 rfl)).symm.trans e, hp⟩, fun _ _ _ _ h => h, trivial⟩
   · exact ⟨fun σ w w' hb ⟨y2, e, hp⟩ => ⟨y2, e, hp.belowN hb⟩, fun σ w w' hb ⟨y2, e, hp⟩ => ⟨y2, e, hp.belowN hb⟩, fun σ w w' hb ⟨y2, e, hp⟩ => ⟨y2, e, hp.belowN hb⟩, fun σ w w' hb ⟨y2, hx, hp⟩ => ⟨y2, hx.below hb hx.lt, hp.belowN hb⟩, trivial⟩
   · exact ⟨hB.drew, hx, hz, hC.drew, hlc, hM, ⟨_, _, _, _, _, _, _, _, _, _, ho⟩, fun _ => ho⟩
   case a1 | a2 | a3 =>
    go_light
    intro L σ W' hcl hL hC hw
    try have e1 := wT hw 1 rfl
    try have e2 := wT hw 2 rfl
    clear hw hcl hL hC
    refine OpGoes.go fun K hK => ?_
    go_simp
    exact hK _ _ ⟨rfl, rfl⟩
   case a4 =>
    go_light
    intro L σ W' hcl hL hC hw
    have e3 := wV hw 3 rfl
    have dz := hC.2.2.2.2.1 0 _ rfl
    rw [Nat.add_zero] at dz
    clear hw hcl hL hC
    refine OpGoes.go fun K hK => ?_
    go_simp
    exact hK _ _ ⟨rfl, rfl⟩
   case a0 =>
    go_light
    intro L σ W' hcl hL hC hw
    have ko := (hC.2.2.2.2.2.2.2 (hcl.not (j := 9) (k := 7) (by kernel_rfl) (hcl.not (j := 7) (k := 6) (by kernel_rfl) (hcl.not (j := 6) (k := 5) (by kernel_rfl) (hcl.not (j := 5) (k := 0) (by kernel_rfl) hL))))).cell
    clear hw hcl hL hC
    refine OpGoes.go fun K hK => ?_
    go_simp
    exact hK _ _ ⟨rfl, rfl⟩
   case a5 =>
    go_light
    intro L σ W' hcl hL hC hw
    have e0 := wV hw 0 rfl
    have e4 := wV hw 4 rfl
    clear hw
    have HC := Lib.hid hC
    clear hC
    clear hcl hL
    refine OpGoes.go fun K hK => ?_
    go_simp
    obtain ⟨hB, hx, hz, hC, hlc, hM, ⟨_, _, _, _, _, _, _, _, _, _, ho⟩, ho_o⟩ := HC.out
    refine (l10Turn_any d y1 (w.heap.size + 2) _ z _ hC (Nat.le_refl _) HDK.out).mono ?_
    rintro e w1 ⟨y2, rfl, hC2, hb1⟩
    exact ⟨_, rfl, hK _ _ ⟨⟨bstep hB hB.size hb1, hx.below hb1 hx.lt, hz.below hb1 hz.lt, hC.belowN hb1, hlc.below hb1, Nat.le_trans hM hb1.size, ⟨_, _, _, _, _, _, _, _, _, _, ho.below hb1 ho.lt⟩, fun h => (ho_o (by simpa [upd] using h)).below hb1 (ho_o (by simpa [upd] using h)).lt⟩, ⟨y2, rfl, CrW.mono hC2 hM (Nat.le_refl _)⟩, hb1⟩⟩
   case a6 =>
    go_light
    intro L σ W' hcl hL hC hw
    obtain ⟨y2, e5, hp5⟩ := wE hw 5 rfl
    clear hw hcl hL hC
    refine OpGoes.go fun K hK => ?_
    go_simp
    exact hK _ _ ⟨rfl, ⟨y2, rfl, hp5⟩⟩
   case a7 =>
    go_light
    intro L σ W' hcl hL hC hw
    obtain ⟨y2, e6, hp6⟩ := wE hw 6 rfl
    clear hw hcl hL hC
    refine OpGoes.go fun K hK => ?_
    go_simp
    exact hK _ _ ⟨rfl, ⟨y2, rfl, hp6⟩⟩
   case a8 =>
    go_light
    intro L σ W' hcl hL hC hw
    obtain ⟨y2, e6, hp6⟩ := wE hw 6 rfl
    clear hw hcl hL hC
    refine OpGoes.go fun K hK => ?_
    go_simp
    exact hK _ _ ⟨rfl, rfl⟩
   case a9 =>
    go_light
    intro L σ W' hcl hL hC hw hne
    obtain ⟨y2, e7, hp7⟩ := wE hw 7 rfl
    clear hw hne
    have HC := Lib.hid hC
    obtain ⟨hB, hx, hz, hC, hlc, hM, ⟨_, _, _, _, _, _, _, _, _, _, ho⟩, ho_o⟩ := hC
    clear hcl hL
    have kc_ := ho.cell
    have kf_ := ho.frozen
    clear hB hx hz hC hlc hM ho ho_o
    refine OpGoes.go fun K hK => ?_
    go_simp
    obtain ⟨hB, hx, hz, hC, hlc, hM, ⟨_, _, _, _, _, _, _, _, _, _, ho⟩, ho_o⟩ := HC.out
    have hset := sets_all (us := [.int .i64 ((turnS d z).1.st.rd), .int .i64 ((turnS d z).1.st.mo), .slice y2.s.A y2.s.n y2.s.cap, .int .i64 ((turnS d z).1.st.fi), .int .i64 ((turnS d z).1.st.la), .slice y2.h.A y2.h.n y2.h.cap, .slice y2.j.A y2.j.n y2.j.cap, .slice y2.b.A y2.b.n y2.b.cap, .int .i64 ((turnS d z).1.ck), .slice y2.e.A y2.e.n y2.e.cap]) ho rfl
    refine hK undef (setCells W' O 0 [.int .i64 ((turnS d z).1.st.rd), .int .i64 ((turnS d z).1.st.mo), .slice y2.s.A y2.s.n y2.s.cap, .int .i64 ((turnS d z).1.st.fi), .int .i64 ((turnS d z).1.st.la), .slice y2.h.A y2.h.n y2.h.cap, .slice y2.j.A y2.j.n y2.j.cap, .slice y2.b.A y2.b.n y2.b.cap, .int .i64 ((turnS d z).1.ck), .slice y2.e.A y2.e.n y2.e.cap]) ⟨⟨(Below.setCells (by omega) _ 0 hB), (BoxAt.sets_ne _ 0 hx (by omega)), (BoxAt.sets_ne _ 0 hz (by omega)), (CrN.setsC hC ho _ 0), (CellsAt.same hlc (sets_block (by omega) _ 0 _)), (size_sts hM _ 0), ⟨_, _, _, _, _, _, _, _, _, _, hset⟩, fun h => absurd h (by simp [upd])⟩, ⟨y2, hset, (CrN.setsC hp7 ho _ 0)⟩, Nat.le_of_eq (sets_size _ _ _).symm, keepV ?_⟩
    exact ⟨fun _ _ ⟨y2_x, e, hp⟩ => ⟨y2_x, e, (CrN.setsC hp ho _ 0)⟩, fun _ _ ⟨y2_x, e, hp⟩ => ⟨y2_x, e, (CrN.setsC hp ho _ 0)⟩, fun _ _ ⟨y2_x, e, hp⟩ => ⟨y2_x, e, (CrN.setsC hp ho _ 0)⟩, fun h => absurd rfl h, trivial⟩
   ·
    intro L L' W' hLL hC
    obtain ⟨hB, hx, hz, hC, hlc, hM, ⟨_, _, _, _, _, _, _, _, _, _, ho⟩, ho_o⟩ := hC
    exact ⟨hB, hx, hz, hC, hlc, hM, ⟨_, _, _, _, _, _, _, _, _, _, ho⟩, fun h => ho_o (hLL _ h)⟩
   ·
    intro σ L W' hall hC hRR
    obtain ⟨hB, hx, hz, hC, hlc, hM, ⟨_, _, _, _, _, _, _, _, _, _, ho⟩, ho_o⟩ := hC
    obtain ⟨y2, s9, hp9⟩ := dE hRR 9 rfl
    clear hRR
    simp only [lexAll]
    go_simp
    go_step
    go_wp2
    go_roundw
    case rel =>
     go_light
     refine ⟨i + 1, (turnS d z).1, y2, by omega, by go_num, hB, hx, hz, s9, hp9, turnS_ok HDK.out z, ?_⟩
     rw [HDE.out, turnsS_take HLI.out]
    case measure => simp [intOf]; omega
  ·
   have g1 : ¬ (i : Int) < (n : Int) := by omega
   obtain rfl : n = i := by omega
   have HD := Lib.hid (show turnsS c l = d by rw [HDE.out, List.take_of_length_le (by rw [HLL.out]; exact Nat.le_refl _)])
   have ko := ho.cell
   have kz := hz.cell
   have fz := hz.frozen
   have lz := hz.lt
   go_wp2
   refine bodyPost_ret (v := crV d y1) (by simp [results, Tryz.results63, go_sem, kz, crV]) rfl ⟨y1, by rw [HV.out, HD.out], ?_, ?_⟩
   ·
    rw [HV.out, HD.out]
    exact (CrW.sts hC (.inl (by omega)) (crCs d y1) 0).mono (by omega) (by simp)
   · exact Below.setCells (by omega) (crCs d y1) 0 hB

end Go.Proofs.YtiiaimjlohpemaaGreat

/-
 The walk of a new crew, of the model.
-/
namespace Go.Proofs.YtiiaimjlohpemaaGreat
set_option linter.unusedSimpArgs false
set_option linter.unusedVariables false
open Go.RowKit
set_option linter.unusedVariables false
attribute [local go_sem] OpUpon
attribute [local go_sem ↓] Go.wp_at_zero Go.wp_at_succ

def newC0 (rd mo : Int) (js : List (List Int)) : Cr := ⟨(newStore rd mo).1, List.replicate js.length resting, js, List.replicate js.length 0, 0, []⟩
def newCrew (rd mo : Int) (js : List (List Int)) : Cr × Bool := if !(newStore rd mo).2 || !crOk (newC0 rd mo js) then (.zero, false) else (newC0 rd mo js, true)

def LstN (lo : Nat) (w : World) (A : Option Addr) (n cap : Nat) (L : List (List Int)) : Prop := ListsW lo w.heap.size w A n cap L
def IntN (lo : Nat) (w : World) (A : Option Addr) (n cap : Nat) (L : List Int) : Prop := IntsW lo w.heap.size w A n cap L
theorem newStore_neat (rd mo : Int) : Neat (newStore rd mo).1 ∨ (newStore rd mo).1 = .zero := by
 unfold newStore
 split
 ·
  rename_i h
  left
  simp only [Bool.and_eq_true, roundB, decide_eq_true_eq] at h
  refine ⟨by simp, by simp, fun r hr => ?_⟩
  simp at hr
  subst hr
  have : (Rg.fresh rd.toNat).ps.length = rd.toNat := by simp [Rg.fresh, fresh]
  omega
 · exact .inr rfl

section
variable {lo : Nat} {w w' : World} {A : Option Addr} {n cap : Nat} {L : List (List Int)} {m : List Int}
theorem LstN.keepT (h : LstN lo w A n cap L) (k1 : KeepT 2 w w') (k2 : KeepT 42 w w') (hz : w.heap.size ≤ w'.heap.size) : LstN lo w' A n cap L := (ListsW.keepT h k1 k2).mono (Nat.le_refl _) hz
theorem IntN.keepT (h : IntN lo w A n cap m) (k1 : KeepT 2 w w') (hz : w.heap.size ≤ w'.heap.size) : IntN lo w' A n cap m := SlW.mono (SlW.keepT h k1) (Nat.le_refl _) hz
theorem LstN.belowN (h : LstN lo w A n cap L) (hb : Below w.heap.size w w') : LstN lo w' A n cap L := h.keepT (.below hb) (.below hb) hb.size
theorem IntN.belowN (h : IntN lo w A n cap m) (hb : Below w.heap.size w w') : IntN lo w' A n cap m := h.keepT (.below hb) hb.size
theorem LstN.setsC (h : LstN lo w A n cap L) {b : Nat} {cs : Array Value} (hk : BoxAt w b cs 68) (us : List Value) (o : Nat) : LstN lo (setCells w b o us) A n cap L := h.keepT (.sets hk (by decide) us o) (.sets hk (by decide) us o) (Nat.le_of_eq (sets_size us o w).symm)
theorem IntN.setsC (h : IntN lo w A n cap m) {b : Nat} {cs : Array Value} (hk : BoxAt w b cs 68) (us : List Value) (o : Nat) : IntN lo (setCells w b o us) A n cap m := h.keepT (.sets hk (by decide) us o) (Nat.le_of_eq (sets_size us o w).symm)
def TwoN (lo : Nat) (w : World) (A : Option Addr) (n cap : Nat) (L : List (List Int)) (g : Nat) : Prop := LstN lo w A n cap L ∧ IntN lo w (some ⟨g, 0, none⟩) n n (List.replicate n 0)
theorem TwoN.belowN {g : Nat} (h : TwoN lo w A n cap L g) (hb : Below w.heap.size w w') : TwoN lo w' A n cap L g := ⟨h.1.belowN hb, h.2.belowN hb⟩
theorem TwoN.setsC {g : Nat} (h : TwoN lo w A n cap L g) {b : Nat} {cs : Array Value} (hk : BoxAt w b cs 68) (us : List Value) (o : Nat) : TwoN lo (setCells w b o us) A n cap L g := ⟨h.1.setsC hk us o, h.2.setsC hk us o⟩
end

def ncAV (q : St × Bool) (A A1 : Option Addr) (n cap n1 c1 S1 M : Nat) (js : List (List Int)) : List Sl := [.v (.agg (aS q.1 A1 n1 c1)),
 .v (.slice A n cap),
 .e fun σ w => ∃ (A2 : Option Addr) (c2 : Nat), σ 2 = .slice A2 n c2 ∧ LstN M w A2 n c2 js,
 .v (.slice A n cap),
 .v (.int .i64 ((n : Int))),
 .e fun σ w => ∃ (g5 : Nat), σ 5 = .slice (some ⟨g5, 0, none⟩) n n ∧ IntN M w (some ⟨g5, 0, none⟩) n n (List.replicate n 0),
 .e fun σ w => ∃ (A2 : Option Addr) (c2 g5 : Nat), σ 6 = .agg #[q.1.rd, q.1.mo, .slice A1 n1 c1, q.1.fi, q.1.la, .slice none 0 0, .slice A2 n c2, .slice (some ⟨g5, 0, none⟩) n n, .int .i64 0, .slice none 0 0] ∧ TwoN M w A2 n c2 js g5,
 .e fun σ w => ∃ g7, σ 7 = pT g7 ∧ M ≤ g7 ∧ ∃ x0 x1 x2 x3 x4 x5 x6 x7 x8 x9, BoxAt w g7 #[x0, x1, x2, x3, x4, x5, x6, x7, x8, x9] 68,
 .e fun σ w => ∃ (g7 : Nat) (A2 : Option Addr) (c2 g5 : Nat), σ 7 = pT g7 ∧ M ≤ g7 ∧ BoxAt w g7 #[q.1.rd, q.1.mo, .slice A1 n1 c1, q.1.fi, q.1.la, .slice none 0 0, .slice A2 n c2, .slice (some ⟨g5, 0, none⟩) n n, .int .i64 0, .slice none 0 0] 68 ∧ TwoN M w A2 n c2 js g5]

def ncBV (q : St × Bool) (A1 A2 B : Option Addr) (n n1 c1 c2 g5 i c C7 M : Nat) : List Sl := [.v (.pointer (some ⟨C7, 5, none⟩)),
 .v (.slice B i c),
 .v (.agg (aH resting)),
 .e fun σ w => ∃ (g3 : Nat), σ 3 = .slice (some ⟨g3, 0, none⟩) 1 1 ∧ BoxAt w g3 (aH resting) 106 ∧ M ≤ g3,
 .e fun σ w => ∃ (B2 : Option Addr) (cc : Nat), σ 4 = .slice B2 (i + 1) cc ∧ w.ownsRow (C7 + 1) 106 12 (.slice B2 (i + 1) cc) (i + 1) ((List.replicate (i + 1) resting).flatMap Hd.cs),
 .v (.pointer (some ⟨C7, 5, none⟩)),
 .e fun σ w => ∃ (B2 : Option Addr) (cc : Nat), BoxAt w C7 #[q.1.rd, q.1.mo, .slice A1 n1 c1, q.1.fi, q.1.la, .slice B2 (i + 1) cc, .slice A2 n c2, .slice (some ⟨g5, 0, none⟩) n n, .int .i64 0, .slice none 0 0] 68 ∧ w.ownsRow (C7 + 1) 106 12 (.slice B2 (i + 1) cc) (i + 1) ((List.replicate (i + 1) resting).flatMap Hd.cs)]

set_option maxRecDepth 100000 in
set_option maxHeartbeats 4000000 in
theorem snewCrew_any (rd mo : Int) (js : List (List Int)) (A : Option Addr) (n cap lo hi : Nat) (w : World) (hl : ListsW lo hi w A n cap js) (hh : hi ≤ w.heap.size) (hn : n ≤ 1048576) (hml : ∀ l ∈ js, l.length ≤ 1048576) :
  Calls Tryz.prog 61 #[rd, mo, .slice A n cap] w (RetCrB (newCrew rd mo js) w) := by
 obtain ⟨iH, hi0, hz0, hz1, hz2⟩ := info_parts hand_info
 have HI := Lib.hid hi0
 have HZ0 := Lib.hid hz0
 have HZ1 := Lib.hid hz1
 have HZ2 := Lib.hid hz2
 clear hi0 hz0 hz1 hz2
 obtain ⟨i0, hi0, hz0, hz1, hz2⟩ := info_parts int_info
 have hmk : ∀ W : World, (Instr.makeSlice 42 (.int .i64 (n : Int)) (.int .i64 (n : Int))).run Tryz.prog W = .ok (.slice (some ⟨W.heap.size, 0, none⟩) n n) (W.alloc (.cells (madeCells #[.int .i64 0] n) 2)) := by
  intro W
  have := run_make (P := Tryz.prog) W 42 2 i0 _ Tryz.underlying42 hi0 hz0 .i64 .i64 n n (by omega) (by omega) (by rw [hz2]; omega) (by omega)
  rw [hz1] at this
  simpa [Value.cells] using this
 clear hi0 hz0 hz1 hz2
 have HML := Lib.hid hml; clear hml
 have HLL := Lib.hid hl.len
 go_enter Tryz.func61, Tryz.ntmps61
 go_wp2_with fail
 refine calls_abs (fun W => Below w.heap.size w W ∧ BoxAt W w.heap.size #[.int .i64 0, .int .i64 0, .slice none 0 0, .int .i64 0, .int .i64 0, .slice none 0 0, .slice none 0 0, .slice none 0 0, .int .i64 0, .slice none 0 0] 68) ⟨(Below.refl _ _).alloc (Nat.le_refl _) _, BoxAt.new _ _ _⟩ ?_
 rintro W0 ⟨hB, hz⟩
 refine (snewStore_any rd mo _).mono ?_
 rintro e w1 ⟨A1, n1, c1, rfl, hG, hb1⟩
 have hs0 := hB.size
 have hs1 := hb1.size
 have lz0 := hz.lt
 replace hz := hz.below hb1 hz.lt
 replace hB := bstep hB hB.size hb1
 clear hb1
 generalize hqe : newStore rd mo = q at *
 have HQ := Lib.hid hqe; clear hqe
 unfold stV
 go_upto_region 2 with fail
 refine wp_abs (fun W => Below w.heap.size w W ∧ BoxAt W w.heap.size #[.int .i64 0, .int .i64 0, .slice none 0 0, .int .i64 0, .int .i64 0, .slice none 0 0, .slice none 0 0, .slice none 0 0, .int .i64 0, .slice none 0 0] 68 ∧ BoxAt W w1.heap.size (aS q.1 A1 n1 c1) 64 ∧ RgsW w.heap.size w1.heap.size W A1 n1 c1 q.1.rs) ⟨hB.alloc hB.size _, hz.alloc _, BoxAt.new _ _ _, (hG.mono hs0 (Nat.le_refl _)).al (Nat.le_refl _) _⟩ ?_
 clear hB hz hG
 rintro W1 ⟨hB, hz, hs, hG⟩
 generalize w1.heap.size = S1 at *
 have lS := hs.lt
 replace hl := hl.below hB hh
 have hhi : hi ≤ W1.heap.size := Nat.le_trans hh hB.size
 obtain ⟨M, hMe⟩ : ∃ M, M = W1.heap.size := ⟨_, rfl⟩
 have hM : M ≤ W1.heap.size := by omega
 have hSM : S1 ≤ M := by omega
 have hSM2 : S1 < M := by omega
 have hNM : w.heap.size < M := by omega
 clear hMe
 refine wp_region2v (fun w w' => Below w.heap.size w w') (fun _ _ h => h.size) (fun _ => Below.refl _ _) (fun L W' => Below w.heap.size w W' ∧ BoxAt W' w.heap.size #[.int .i64 0, .int .i64 0, .slice none 0 0, .int .i64 0, .int .i64 0, .slice none 0 0, .slice none 0 0, .slice none 0 0, .int .i64 0, .slice none 0 0] 68 ∧ BoxAt W' S1 (aS q.1 A1 n1 c1) 64 ∧ RgsW w.heap.size S1 W' A1 n1 c1 q.1.rs ∧ ListsW lo hi W' A n cap js ∧ hi ≤ W'.heap.size ∧ M ≤ W'.heap.size) (ncAV q A A1 n cap n1 c1 S1 M js) (fun j => [0, 0, 0, 0, 0, 0, 0, 2, 1].getD j 0) [(8, 7)] (by kernel_rfl) (by kernel_rfl) ?_ ?_ ?_
  (.still rfl ?a0 <| .still rfl ?a1 <| .grow rfl ?a2 <| .still rfl ?a3 <| .still rfl ?a4 <| .grow rfl ?a5 <| .grow rfl ?a6 <| .make rfl ?a7 <| .store rfl ?a8 <| .nil) ?_ ?_
 · exact ⟨fun _ _ _ h ⟨A2, c2, e, hp⟩ => ⟨A2, c2, (h 2 (List.mem_singleton.2 rfl)).symm.trans e, hp⟩, fun _ _ _ h ⟨g5, e, hp⟩ => ⟨g5, (h 5 (List.mem_singleton.2 rfl)).symm.trans e, hp⟩, fun _ _ _ h ⟨A2, c2, g5, e, hp⟩ => ⟨A2, c2, g5, (h 6 (List.mem_singleton.2 rfl)).symm.trans e, hp⟩, fun _ _ _ h ⟨g, e, hp⟩ => ⟨g, (h 7 (List.mem_singleton.2 rfl)).symm.trans e, hp⟩, fun _ _ _ h ⟨g, A2, c2, g5, e, hp⟩ => ⟨g, A2, c2, g5, (h 7 (List.mem_singleton.2 rfl)).symm.trans e, hp⟩, trivial⟩
 · exact ⟨fun σ w w' hb ⟨A2, c2, e, hp⟩ => ⟨A2, c2, e, hp.belowN hb⟩, fun σ w w' hb ⟨g5, e, hp⟩ => ⟨g5, e, hp.belowN hb⟩, fun σ w w' hb ⟨A2, c2, g5, e, hp⟩ => ⟨A2, c2, g5, e, hp.belowN hb⟩, fun σ w w' hb ⟨g, e, hg, x0, x1, x2, x3, x4, x5, x6, x7, x8, x9, hx⟩ => ⟨g, e, hg, x0, x1, x2, x3, x4, x5, x6, x7, x8, x9, hx.below hb hx.lt⟩, fun σ w w' hb ⟨g, A2, c2, g5, e, hg, hx, hp⟩ => ⟨g, A2, c2, g5, e, hg, hx.below hb hx.lt, hp.belowN hb⟩, trivial⟩
 · exact ⟨hB.drew, hz, hs, hG, hl, hhi, hM⟩
 case a0 =>
  go_light
  intro L σ W' hcl hL hC hw
  have ks := hC.2.2.1.cell
  clear hw hcl hL hC
  refine OpGoes.go fun K hK => ?_
  go_simp
  exact hK _ _ ⟨rfl, rfl⟩
 case a1 | a3 | a4 =>
  go_light
  intro L σ W' hcl hL hC hw
  try have e3 := wT hw 3 rfl
  clear hw hcl hL hC
  refine OpGoes.go fun K hK => ?_
  go_simp
  exact hK _ _ ⟨rfl, rfl⟩
 case a2 =>
  go_light
  intro L σ W' hcl hL hC hw
  have e1 := wV hw 1 rfl
  clear hw
  have HC := Lib.hid hC
  clear hC
  clear hcl hL
  refine OpGoes.go fun K hK => ?_
  go_simp
  obtain ⟨hB, hz, hs, hG, hl, hhi, hM⟩ := HC.out
  refine (l10ListsN js A n cap lo hi _ hl hhi hn HML.out).mono ?_
  rintro e w1 ⟨A2, c2, rfl, hO2, hb1⟩
  exact ⟨_, rfl, hK _ _ ⟨⟨bstep hB hB.size hb1, hz.below hb1 hz.lt, hs.below hb1 hs.lt, hG.below hb1 (Nat.le_trans hSM hM), hl.below hb1 hhi, Nat.le_trans hhi hb1.size, Nat.le_trans hM hb1.size⟩, ⟨A2, c2, rfl, ListsW.mono hO2 hM (Nat.le_refl _)⟩, hb1⟩⟩
 case a5 =>
  go_light
  intro L σ W' hcl hL hC hw
  have e4 := wV hw 4 rfl
  clear hw
  have HC := Lib.hid hC
  clear hC
  clear hcl hL
  refine OpGoes.go fun K hK => ?_
  go_simp
  obtain ⟨hB, hz, hs, hG, hl, hhi, hM⟩ := HC.out
  have hb1 : Below W'.heap.size W' (W'.alloc (.cells (madeCells #[.int .i64 0] n) 2)) := (Below.refl _ _).alloc (Nat.le_refl _) _
  refine hK _ _ ⟨⟨bstep hB hB.size hb1, hz.below hb1 hz.lt, hs.below hb1 hs.lt, hG.below hb1 (Nat.le_trans hSM hM), hl.below hb1 hhi, Nat.le_trans hhi hb1.size, Nat.le_trans hM hb1.size⟩, ⟨W'.heap.size, rfl, ?_⟩, hb1⟩
  exact ⟨by simp, .inr ⟨W'.heap.size, rfl, by simp, Own.mono (by have := Own.made (e := 2) ic_len (by omega) (0 : Int) #[.int .i64 0] rfl (Nat.le_refl W'.heap.size) n (by unfold maxLen; omega); rwa [Nat.mul_one] at this) hM⟩⟩
 case a6 =>
  go_light
  intro L σ W' hcl hL hC hw
  have e0 := wV hw 0 rfl
  obtain ⟨A2, c2, e2, hp2⟩ := wE hw 2 rfl
  obtain ⟨g5, e5, hp5⟩ := wE hw 5 rfl
  clear hw
  have HC := Lib.hid hC
  clear hC
  clear hcl hL
  refine OpGoes.go fun K hK => ?_
  go_simp
  obtain ⟨hB, hz, hs, hG, hl, hhi, hM⟩ := HC.out
  exact hK _ _ ⟨⟨hB, hz, hs, hG, hl, hhi, hM⟩, ⟨A2, c2, g5, rfl, hp2, hp5⟩, Below.refl _ _⟩
 case a7 =>
  go_light
  intro L σ W' hcl hL hC hw
  clear hw
  have HC := Lib.hid hC
  clear hC
  clear hcl hL
  refine OpGoes.go fun K hK => ?_
  go_simp
  obtain ⟨hB, hz, hs, hG, hl, hhi, hM⟩ := HC.out
  have hb1 : Below W'.heap.size W' (W'.alloc (.cells #[.int .i64 0, .int .i64 0, .slice none 0 0, .int .i64 0, .int .i64 0, .slice none 0 0, .slice none 0 0, .slice none 0 0, .int .i64 0, .slice none 0 0] 68)) := (Below.refl _ _).alloc (Nat.le_refl _) _
  exact hK _ _ ⟨⟨bstep hB hB.size hb1, hz.below hb1 hz.lt, hs.below hb1 hs.lt, hG.below hb1 (Nat.le_trans hSM hM), hl.below hb1 hhi, Nat.le_trans hhi hb1.size, Nat.le_trans hM hb1.size⟩, ⟨_, rfl, hM, _, _, _, _, _, _, _, _, _, _, BoxAt.new _ _ _⟩, hb1, rfl, by simp⟩
 case a8 =>
  go_light
  intro L σ W' hcl hL hC hw hne
  obtain ⟨A2, c2, g5, e6, hp6⟩ := wE hw 6 rfl
  obtain ⟨g7, e7, hg7, x0, x1, x2, x3, x4, x5, x6, x7, x8, x9, hbox7⟩ := wE hw 7 rfl
  clear hw hne
  have HC := Lib.hid hC
  clear hC
  clear hcl hL
  have kc_ := hbox7.cell
  have kf_ := hbox7.frozen
  refine OpGoes.go fun K hK => ?_
  go_simp
  obtain ⟨hB, hz, hs, hG, hl, hhi, hM⟩ := HC.out
  have hset := sets_all (us := [q.1.rd, q.1.mo, .slice A1 n1 c1, q.1.fi, q.1.la, .slice none 0 0, .slice A2 n c2, .slice (some ⟨g5, 0, none⟩) n n, .int .i64 0, .slice none 0 0]) hbox7 rfl
  refine hK undef (setCells W' g7 0 [q.1.rd, q.1.mo, .slice A1 n1 c1, q.1.fi, q.1.la, .slice none 0 0, .slice A2 n c2, .slice (some ⟨g5, 0, none⟩) n n, .int .i64 0, .slice none 0 0]) ⟨⟨(Below.setCells (by omega) _ 0 hB), (BoxAt.sets_ne _ 0 hz (by omega)), (BoxAt.sets_ne _ 0 hs (by omega)), ((RgsW.setsT hG hbox7 (by decide) (by decide) _ 0)), (ListsW.setsT hl hbox7 (by decide) (by decide) _ 0), (size_sts hhi _ 0), (size_sts hM _ 0)⟩, ⟨g7, A2, c2, g5, e7, hg7, hset, (TwoN.setsC hp6 hbox7 _ 0)⟩, Nat.le_of_eq (sets_size _ _ _).symm, keepV ?_⟩
  exact ⟨fun _ _ ⟨A2_x, c2_x, e, hp⟩ => ⟨A2_x, c2_x, e, (LstN.setsC hp hbox7 _ 0)⟩, fun _ _ ⟨g5_x, e, hp⟩ => ⟨g5_x, e, (IntN.setsC hp hbox7 _ 0)⟩, fun _ _ ⟨A2_x, c2_x, g5_x, e, hp⟩ => ⟨A2_x, c2_x, g5_x, e, (TwoN.setsC hp hbox7 _ 0)⟩, fun _ _ _ => ⟨g7, e7, hg7, _, _, _, _, _, _, _, _, _, _, hset⟩, fun h => absurd rfl h, trivial⟩
 ·
  intro L L' W' hLL hC
  obtain ⟨hB, hz, hs, hG, hl, hhi, hM⟩ := hC
  exact ⟨hB, hz, hs, hG, hl, hhi, hM⟩
 ·
  intro σ L W' hall hC hRR
  obtain ⟨hB, hz, hs, hG, hl, hhi, hM⟩ := hC
  obtain ⟨g7, A2, c2, g5, e7, hg8, s8, hp8⟩ := dE hRR 8 rfl
  clear hRR hs hl hhi hmk
  simp only [lexAll]
  go_simp
  go_step
  go_wp2
  generalize hC7 : g7 = C7 at *
  have hNC : w.heap.size < C7 := by omega
  have hJ : LstN w.heap.size W' A2 n c2 js := ListsW.mono hp8.1 (by omega) (Nat.le_refl _)
  have hI : IntN w.heap.size W' (some ⟨g5, 0, none⟩) n n (List.replicate n 0) := SlW.mono hp8.2 (by omega) (Nat.le_refl _)
  go_loopw [11] (fun s11 W => ∃ (i : Nat) (B : Option Addr) (c : Nat), i ≤ n ∧ s11 = .int .i64 i ∧ Below w.heap.size w W ∧ BoxAt W w.heap.size #[.int .i64 0, .int .i64 0, .slice none 0 0, .int .i64 0, .int .i64 0, .slice none 0 0, .slice none 0 0, .slice none 0 0, .int .i64 0, .slice none 0 0] 68 ∧ RgsW w.heap.size S1 W A1 n1 c1 q.1.rs ∧ LstN w.heap.size W A2 n c2 js ∧ IntN w.heap.size W (some ⟨g5, 0, none⟩) n n (List.replicate n 0) ∧ BoxAt W C7 #[q.1.rd, q.1.mo, .slice A1 n1 c1, q.1.fi, q.1.la, .slice B i c, .slice A2 n c2, .slice (some ⟨g5, 0, none⟩) n n, .int .i64 0, .slice none 0 0] 68 ∧ W.ownsRow (C7 + 1) 106 12 (.slice B i c) i ((List.replicate i resting).flatMap Hd.cs)) (fun s11 _ => n - (intOf s11).toNat)
  case atStart =>
   exact ⟨0, none, 0, Nat.zero_le _, rfl, hB, hz, hG, hJ, hI, s8, World.ownsRow_nil _ _ _ _⟩
  case round =>
   clear hB hz hG hJ hI s8 hM hp8
   obtain ⟨i, B, c, hin, rfl, hB, hz, hG, hJ, hI, hc, hO⟩ := hrel
   have lC := hc.lt
   by_cases hlt : i < n
   ·
    have g1 : (i : Int) < (n : Int) := by omega
    have g2 : (0 : Int) ≤ (i : Int) := by omega
    obtain ⟨M, hMe⟩ : ∃ M, M = wr.heap.size := ⟨_, rfl⟩
    have hM : M ≤ wr.heap.size := by omega
    have hSM : S1 ≤ M := by omega
    have hCM : C7 < M := by omega
    have hNM2 : w.heap.size < M := by omega
    have hRB : ∀ k, (Value.slice B i c).ownBlock = some k → k < M := fun k hk => by have := (hO.lt k hk).2; omega
    clear hMe
    go_upto_region 6 with fail
    refine wp_region2v (fun w w' => Below w.heap.size w w') (fun _ _ h => h.size) (fun _ => Below.refl _ _) (fun L W' => Below w.heap.size w W' ∧ BoxAt W' w.heap.size #[.int .i64 0, .int .i64 0, .slice none 0 0, .int .i64 0, .int .i64 0, .slice none 0 0, .slice none 0 0, .slice none 0 0, .int .i64 0, .slice none 0 0] 68 ∧ RgsW w.heap.size S1 W' A1 n1 c1 q.1.rs ∧ LstN w.heap.size W' A2 n c2 js ∧ IntN w.heap.size W' (some ⟨g5, 0, none⟩) n n (List.replicate n 0) ∧ M ≤ W'.heap.size ∧ (L 4 = false → W'.ownsRow (C7 + 1) 106 12 (.slice B i c) i ((List.replicate i resting).flatMap Hd.cs)) ∧ (∃ x0, BoxAt W' C7 #[q.1.rd, q.1.mo, .slice A1 n1 c1, q.1.fi, q.1.la, x0, .slice A2 n c2, .slice (some ⟨g5, 0, none⟩) n n, .int .i64 0, .slice none 0 0] 68) ∧ (L 6 = false → BoxAt W' C7 #[q.1.rd, q.1.mo, .slice A1 n1 c1, q.1.fi, q.1.la, .slice B i c, .slice A2 n c2, .slice (some ⟨g5, 0, none⟩) n n, .int .i64 0, .slice none 0 0] 68)) (ncBV q A1 A2 B n n1 c1 c2 g5 i c C7 M) (fun j => [0, 0, 0, 0, 1, 0, 1].getD j 0) [] (by kernel_rfl) (by kernel_rfl) ?_ ?_ ?_
     (.still rfl ?a0 <| .still rfl ?a1 <| .grow rfl ?a2 <| .grow rfl ?a3 <| .store rfl ?a4 <| .still rfl ?a5 <| .store rfl ?a6 <| .nil) ?_ ?_
    · exact ⟨fun _ _ _ h ⟨g3, e, hp⟩ => ⟨g3, (h 3 (List.mem_singleton.2 rfl)).symm.trans e, hp⟩, fun _ _ _ h ⟨B2, cc, e, hp⟩ => ⟨B2, cc, (h 4 (List.mem_singleton.2 rfl)).symm.trans e, hp⟩, fun _ _ _ _ h => h, trivial⟩
    · exact ⟨fun σ w w' hb ⟨g3, e, hp⟩ => ⟨g3, e, ⟨hp.1.below hb hp.1.lt, hp.2⟩⟩, fun σ w w' hb ⟨B2, cc, e, hp⟩ => ⟨B2, cc, e, own_keep hp hb⟩, fun σ w w' hb ⟨B2, cc, hx, hp⟩ => ⟨B2, cc, hx.below hb hx.lt, own_keep hp hb⟩, trivial⟩
    · exact ⟨hB.drew, hz, hG, hJ, hI, hM, fun _ => hO, ⟨_, hc⟩, fun _ => hc⟩
    case a0 | a5 =>
     go_light
     intro L σ W' hcl hL hC hw
     clear hw hcl hL hC
     refine OpGoes.go fun K hK => ?_
     go_simp
     exact hK _ _ ⟨rfl, rfl⟩
    case a1 =>
     go_light
     intro L σ W' hcl hL hC hw
     have e0 := wV hw 0 rfl
     have kc := (hC.2.2.2.2.2.2.2.2 (hcl.not (j := 6) (k := 4) (by kernel_rfl) (hcl.not (j := 4) (k := 1) (by kernel_rfl) hL))).cell
     clear hw hcl hL hC
     refine OpGoes.go fun K hK => ?_
     go_simp
     exact hK _ _ ⟨rfl, rfl⟩
    case a2 =>
     go_light
     intro L σ W' hcl hL hC hw
     clear hw
     have HC := Lib.hid hC
     clear hC
     clear hcl hL
     refine OpGoes.go fun K hK => ?_
     go_simp
     obtain ⟨hB, hz, hG, hJ, hI, hM, hO, ⟨_, hc⟩, hc_o⟩ := HC.out
     refine (sresting_any _).mono ?_
     rintro e w1 ⟨rfl, hb1⟩
     exact ⟨_, rfl, hK _ _ ⟨⟨bstep hB hB.size hb1, hz.below hb1 hz.lt, hG.below hb1 (Nat.le_trans hSM hM), hJ.belowN hb1, hI.belowN hb1, Nat.le_trans hM hb1.size, fun h => own_keep (hO (by simpa [upd] using h)) hb1, ⟨_, hc.below hb1 hc.lt⟩, fun h => (hc_o (by simpa [upd] using h)).below hb1 (hc_o (by simpa [upd] using h)).lt⟩, rfl, hb1⟩⟩
    case a3 =>
     go_light
     intro L σ W' hcl hL hC hw
     have e2 := wV hw 2 rfl
     clear hw
     have HC := Lib.hid hC
     clear hC
     clear hcl hL
     refine OpGoes.go fun K hK => ?_
     go_simp
     obtain ⟨hB, hz, hG, hJ, hI, hM, hO, ⟨_, hc⟩, hc_o⟩ := HC.out
     have hb1 : Below W'.heap.size W' (W'.alloc (.cells (aH resting) 106)) := (Below.refl _ _).alloc (Nat.le_refl _) _
     exact hK _ _ ⟨⟨bstep hB hB.size hb1, hz.below hb1 hz.lt, hG.below hb1 (Nat.le_trans hSM hM), hJ.belowN hb1, hI.belowN hb1, Nat.le_trans hM hb1.size, fun h => own_keep (hO (by simpa [upd] using h)) hb1, ⟨_, hc.below hb1 hc.lt⟩, fun h => (hc_o (by simpa [upd] using h)).below hb1 (hc_o (by simpa [upd] using h)).lt⟩, ⟨W'.heap.size, rfl, BoxAt.new _ _ _, hM⟩, hb1⟩
    case a4 =>
     go_light
     intro L σ W' hcl hL hC hw hne
     have e1 := wV hw 1 rfl
     obtain ⟨g3, e3, hp3⟩ := wE hw 3 rfl
     clear hw hne
     obtain ⟨hB, hz, hG, hJ, hI, hM, hO, ⟨_, hc⟩, hc_o⟩ := hC
     have hO4 := (hO hL)
     clear hcl hL
     refine OpGoes.append_own rfl (.tmp 32) (.tmp 34) _ rfl (C7 + 1) 106 iH _ 12 96 Tryz.underlying65 HI.out HZ0.out HZ1.out HZ2.out rfl (by omega) (.slice B i c) i _ (by go_simp) hO4 ⟨g3, 0, none⟩ 1 1 (aH resting) (by go_simp) rfl (news_box hp3.1) (by intro u hu; simp at hu; rcases hu with rfl | rfl | rfl | rfl | rfl | rfl | rfl | rfl | rfl | rfl | rfl | rfl <;> rfl) (by unfold maxLen; omega) (by omega) (by omega) ?_
     intro v' w' hO' hg hat
     have kT : ∀ T, 106 ≠ T → KeepT T W' w' := fun T hT => KeepT.grown hO4 hg hT
     obtain ⟨B2, cc, rfl, hP'⟩ := SlW.of_own (f := Hd.cs) (l := List.replicate i resting ++ [resting]) (n := i + 1) (by rw [List.flatMap_append]; exact hO') (by simp)
     have hP2 : SlW Hd.cs 12 106 (C7 + 1) w'.heap.size w' B2 (i + 1) cc (List.replicate (i + 1) resting) := by rw [List.replicate_succ']; exact hP'
     refine ⟨⟨Below.grown hB hg (Nat.le_trans (by omega) hM) (fun k hk => by have := (hO4.lt k hk).1; omega), hz.keepT (kT _ (by decide)), hG.keepT (kT _ (by decide)) (kT _ (by decide)), hJ.keepT (kT _ (by decide)) (kT _ (by decide)) hg.size, hI.keepT (kT _ (by decide)) hg.size, Nat.le_trans hM hg.size, fun h => absurd h (by simp [upd]), ⟨_, hc.keepT (kT _ (by decide))⟩, fun h => (hc_o (by simpa [upd] using h)).keepT (kT _ (by decide))⟩, ⟨B2, cc, rfl, SlW.own hP2 Hd.cs_len⟩, hg.size, fun j hj hn hR => ?_⟩
     refine keepV ?_ j hj hn hR
     exact ⟨fun _ _ ⟨g3, e, hp⟩ => ⟨g3, e, ⟨hp.1.grown2 hg (fun e => by have := hRB _ e; have := hp.2; omega), hp.2⟩⟩, fun h => absurd rfl h, fun _ h => absurd (h.symm.trans (show waits _ _ _ = true by kernel_rfl)) (by decide), trivial⟩
    case a6 =>
     go_light
     intro L σ W' hcl hL hC hw hne
     obtain ⟨B2, cc, e4, hp4⟩ := wE hw 4 rfl
     have e5 := wV hw 5 rfl
     clear hw hne
     have HC := Lib.hid hC
     obtain ⟨hB, hz, hG, hJ, hI, hM, hO, ⟨_, hc⟩, hc_o⟩ := hC
     clear hcl hL
     have kc_ := hc.cell
     have kf_ := hc.frozen
     clear hB hz hG hJ hI hM hO hc hc_o
     refine OpGoes.go fun K hK => ?_
     go_simp
     obtain ⟨hB, hz, hG, hJ, hI, hM, hO, ⟨_, hc⟩, hc_o⟩ := HC.out
     have hset := (hc.set 5 (.slice B2 (i + 1) cc))
     simp only [List.setIfInBounds_toArray, List.set_cons_zero, List.set_cons_succ] at hset
     refine hK _ _ ⟨⟨(sc hB), (hz.sn), (hG.keepT (.set hc (by decide) _ _) (.set hc (by decide) _ _)), (LstN.setsC hJ hc [_] _), (IntN.setsC hI hc [_] _), (size_st hM), fun h => (ownsRow_setCell_below (hO (by simpa [upd] using h)) (by dsimp only; omega) _), ⟨_, hset⟩, fun h => absurd h (by simp [upd])⟩, ⟨B2, cc, hset, (ownsRow_setCell_below hp4 (by dsimp only; omega) _)⟩, by simp, keepV ?_⟩
     exact ⟨fun _ _ ⟨g3_x, e, hp⟩ => ⟨g3_x, e, (⟨hp.1.set_ne (by have := hp.2; omega) _ _, hp.2⟩)⟩, fun _ _ ⟨B2_x, cc_x, e, hp⟩ => ⟨B2_x, cc_x, e, (ownsRow_setCell_below hp (by dsimp only; omega) _)⟩, fun h => absurd rfl h, trivial⟩
    ·
     intro L L' W' hLL hC
     obtain ⟨hB, hz, hG, hJ, hI, hM, hO, ⟨_, hc⟩, hc_o⟩ := hC
     exact ⟨hB, hz, hG, hJ, hI, hM, fun h => hO (hLL _ h), ⟨_, hc⟩, fun h => hc_o (hLL _ h)⟩
    ·
     intro σ L W' hall hC hRR
     obtain ⟨hB, hz, hG, hJ, hI, hM, hO, ⟨_, hc⟩, hc_o⟩ := hC
     obtain ⟨B2, cc, s6, hp6⟩ := dE hRR 6 rfl
     clear hRR
     simp only [lexAll]
     go_simp
     go_step
     go_wp2
     go_roundw
     case rel =>
      go_light
      exact ⟨i + 1, B2, cc, by omega, by go_num, hB, hz, hG, hJ, hI, s6, hp6⟩
     case measure => simp [intOf]; omega
   ·
    have g1 : ¬ (i : Int) < (n : Int) := by omega
    obtain rfl : n = i := by omega
    have hH := SlW.of_own' (f := Hd.cs) hO (by simp)
    have HCW := Lib.hid (show CrW w.heap.size wr.heap.size wr (newC0 rd mo js) (⟨⟨A1, n1, c1⟩, ⟨B, n, c⟩, ⟨A2, n, c2⟩, ⟨some ⟨g5, 0, none⟩, n, n⟩, ⟨none, 0, 0⟩⟩ : CrL) by
     refine ⟨?_, ?_, ?_, ?_, SlW.nil⟩
     ·
      show RgsW _ _ _ _ _ _ (newStore rd mo).1.rs
      rw [HQ.out]; exact hG.mono (Nat.le_refl _) (by omega)
     ·
      show HdsW _ _ _ _ _ _ (List.replicate js.length resting)
      rw [HLL.out]; exact SlW.mono hH (by omega) (Nat.le_refl _)
     · exact hJ
     ·
      show IntsW _ _ _ _ _ _ (List.replicate js.length 0)
      rw [HLL.out]; exact hI)
    cases hq2 : q.2
    ·
     have HV := Lib.hid (show newCrew rd mo js = (.zero, false) by unfold newCrew; rw [HQ.out, hq2]; rfl)
     have kz := hz.cell
     have fz := hz.frozen
     go_wp2
     refine bodyPost_ret (v := .tuple #[crV .zero (⟨⟨none, 0, 0⟩, ⟨none, 0, 0⟩, ⟨none, 0, 0⟩, ⟨none, 0, 0⟩, ⟨none, 0, 0⟩⟩ : CrL), .bool false]) (by simp [results, Tryz.results61, go_sem, kz, crV, Cr.zero, St.zero]) rfl ⟨(⟨⟨none, 0, 0⟩, ⟨none, 0, 0⟩, ⟨none, 0, 0⟩, ⟨none, 0, 0⟩, ⟨none, 0, 0⟩⟩ : CrL), by rw [HV.out], ?_, ?_⟩
     ·
      rw [HV.out]
      exact ⟨RgsW.nil, SlW.nil, ListsW.nil, SlW.nil, SlW.nil⟩
     · exact Below.setCells (by omega) (crCs .zero (⟨⟨none, 0, 0⟩, ⟨none, 0, 0⟩, ⟨none, 0, 0⟩, ⟨none, 0, 0⟩, ⟨none, 0, 0⟩⟩ : CrL)) 0 hB
    have HFIT := Lib.hid (show CrFit (newC0 rd mo js) from by
     have hns : Neat (newStore rd mo).1 ∨ (newStore rd mo).1 = .zero := newStore_neat rd mo
     refine ⟨?_, ?_, ?_, ?_, HML.out, ?_, by show (0 : Nat) ≤ _; omega⟩
     ·
      show (newStore rd mo).1.rs.length ≤ _
      rcases hns with h | h
      · have := h.2.1; omega
      · rw [h]; decide
     ·
      show ∀ r ∈ (newStore rd mo).1.rs, r.ps.length ≤ _
      rcases hns with h | h
      · exact h.len
      · rw [h]; intro r hr; cases hr
     ·
      show (List.replicate js.length resting).length ≤ _
      rw [List.length_replicate, HLL.out]; exact hn
     ·
      show js.length ≤ _
      rw [HLL.out]; exact hn
     ·
      show (List.replicate js.length (0 : Int)).length ≤ _
      rw [List.length_replicate, HLL.out]; exact hn)
    have HCA := Lib.hid (show (newC0 rd mo js).st = q.1 by show (newStore rd mo).1 = q.1; rw [HQ.out])
    have hcon := screwOk_any (newC0 rd mo js) (⟨⟨A1, n1, c1⟩, ⟨B, n, c⟩, ⟨A2, n, c2⟩, ⟨some ⟨g5, 0, none⟩, n, n⟩, ⟨none, 0, 0⟩⟩ : CrL) w.heap.size wr.heap.size wr HCW.out (Nat.le_refl _) HFIT.out
    unfold crV at hcon
    rw [HCA.out] at hcon
    have HCO := Lib.hid hcon; clear hcon
    have kc := hc.cell
    go_wp2_with fail
    clear kc
    refine (HCO.out).mono ?_
    rintro e w8 ⟨rfl, hb8⟩
    have h78 := hb8.size
    have hC8 := HCW.out.below hb8 (Nat.le_refl _)
    replace hz := hz.below hb8 hz.lt
    replace hc := hc.below hb8 hc.lt
    replace hB := bstep hB hB.size hb8
    clear hb8 hG hJ hI hO hH
    have kc := hc.cell
    have kz := hz.cell
    have fz := hz.frozen
    cases hcr : crOk (newC0 rd mo js)
    ·
     have HV := Lib.hid (show newCrew rd mo js = (.zero, false) by unfold newCrew; rw [hcr]; simp)
     go_wp2
     refine bodyPost_ret (v := .tuple #[crV .zero (⟨⟨none, 0, 0⟩, ⟨none, 0, 0⟩, ⟨none, 0, 0⟩, ⟨none, 0, 0⟩, ⟨none, 0, 0⟩⟩ : CrL), .bool false]) (by simp [results, Tryz.results61, go_sem, kz, crV, Cr.zero, St.zero]) rfl ⟨(⟨⟨none, 0, 0⟩, ⟨none, 0, 0⟩, ⟨none, 0, 0⟩, ⟨none, 0, 0⟩, ⟨none, 0, 0⟩⟩ : CrL), by rw [HV.out], ?_, ?_⟩
     ·
      rw [HV.out]
      exact ⟨RgsW.nil, SlW.nil, ListsW.nil, SlW.nil, SlW.nil⟩
     · exact Below.setCells (by omega) (crCs .zero (⟨⟨none, 0, 0⟩, ⟨none, 0, 0⟩, ⟨none, 0, 0⟩, ⟨none, 0, 0⟩, ⟨none, 0, 0⟩⟩ : CrL)) 0 hB
    ·
     have HV := Lib.hid (show newCrew rd mo js = (newC0 rd mo js, true) by unfold newCrew; rw [HQ.out, hq2, hcr]; rfl)
     go_wp2
     refine bodyPost_ret (v := .tuple #[crV (newC0 rd mo js) (⟨⟨A1, n1, c1⟩, ⟨B, n, c⟩, ⟨A2, n, c2⟩, ⟨some ⟨g5, 0, none⟩, n, n⟩, ⟨none, 0, 0⟩⟩ : CrL), .bool true]) (by unfold crV; rw [HCA.out]; simp [results, Tryz.results61, go_sem, kz, newC0]) rfl ⟨(⟨⟨A1, n1, c1⟩, ⟨B, n, c⟩, ⟨A2, n, c2⟩, ⟨some ⟨g5, 0, none⟩, n, n⟩, ⟨none, 0, 0⟩⟩ : CrL), by rw [HV.out], ?_, ?_⟩
     ·
      rw [HV.out]
      exact (CrW.setsC hC8 hz [q.1.rd, q.1.mo, .slice A1 n1 c1, q.1.fi, q.1.la, .slice B n c, .slice A2 n c2, .slice (some ⟨g5, 0, none⟩) n n, .int .i64 0, .slice none 0 0] 0).mono (Nat.le_refl _) (by simp; omega)
     · exact Below.setCells (by omega) [q.1.rd, q.1.mo, .slice A1 n1 c1, q.1.fi, q.1.la, .slice B n c, .slice A2 n c2, .slice (some ⟨g5, 0, none⟩) n n, .int .i64 0, .slice none 0 0] 0 hB
end Go.Proofs.YtiiaimjlohpemaaGreat

/-
 The draws of turns and of jobs.
-/
namespace Go.Proofs.YtiiaimjlohpemaaGreat
set_option linter.unusedSimpArgs false
set_option linter.unusedVariables false
open Go.RowKit
set_option linter.unusedVariables false
attribute [local go_sem ↓] Go.wp_at_zero Go.wp_at_succ

set_option maxRecDepth 100000 in
set_option maxHeartbeats 2000000 in
theorem l10DrawTurns_any (N k : Nat) (a0 : Option Addr) (len cap : Nat) (n : Int) (most : Nat) (w : World) (hc : CodeOk N w a0 len) (hk : N ≤ k) (hN : N ≤ w.heap.size) (hcur : CurAt w k a0 len cap) (hn : 0 < n) (hm0 : 0 < most) (hm1 : most ≤ 256) :
  Calls Tryz.prog 64 #[pT k, n, most] w (DrawsL most k a0 len cap w) := by
 obtain ⟨i0, hi0, hz0, hz1, hz2⟩ := info_parts int_info
 have HI := Lib.hid hi0
 have HZ0 := Lib.hid hz0
 have HZ1 := Lib.hid hz1
 have HZ2 := Lib.hid hz2
 clear hi0 hz0 hz1 hz2
 have lk := hcur.lt
 go_enter Tryz.func64, Tryz.ntmps64
 go_wp2_with fail
 refine calls_abs (fun W => But k w W ∧ CurAt W k a0 len cap ∧ W.ownsRow w.heap.size 2 1 (.slice (some ⟨w.heap.size, 0, none⟩) 0 0) 0 (([] : List Int).flatMap ic)) ⟨(But.refl _ _).alloc _, hcur.alloc _, own_made rfl (Nat.le_refl _)⟩ ?_
 rintro W0 ⟨hB, hcur0, hO⟩
 refine (l1Below_any N k a0 len cap _ _ (hc.below (hB.below hk hN)) hk (Nat.le_trans hN hB.size) hcur0 (by omega)).mono ?_
 rintro e w1 ⟨x, ⟨x0, x1⟩, rfl, hB1, hcur1⟩
 replace hO := own_but hO hB1 lk
 replace hB := hB.trans hB1
 clear hB1 hcur0
 go_wp2
 go_loopw [7, 8] (fun s7 s8 W => ∃ (l : List Int) (z : Int) (A : Option Addr) (c : Nat), s7 = .slice A l.length c ∧ s8 = .int .i64 z ∧ -1 ≤ z ∧ (l.length : Int) + z ≤ (most : Int) - 1 ∧ But k w W ∧ CurAt W k a0 len cap ∧ W.ownsRow w.heap.size 2 1 (.slice A l.length c) l.length (l.flatMap ic)) (fun _ s8 _ => (intOf s8).toNat)
 case atStart => exact ⟨[], x, some ⟨w.heap.size, 0, none⟩, 0, rfl, rfl, by omega, by simp; omega, hB, hcur1, hO⟩
 case round =>
  clear hB hcur1 hO
  obtain ⟨l, z, A, c, rfl, rfl, hz1, hz2, hB, hcur1, hO⟩ := hrel
  by_cases hzp : 0 < z
  ·
   have hll : l.length < 256 := by omega
   go_wp2_with fail
   refine (l1Below_any N k a0 len cap _ _ (hc.below (hB.below hk hN)) hk (Nat.le_trans hN hB.size) hcur1 hn).mono ?_
   rintro e w2 ⟨v, ⟨v0, v1⟩, rfl, hB2, hcur2⟩
   replace hO := own_but hO hB2 lk
   replace hB := hB.trans hB2
   clear hB2 hcur1
   have hws := hB.size
   go_wp2_with (at_builtin; go_must (refine wpList_append_own_at _ rfl (.tmp 17) (.tmp 21) _ rfl w.heap.size 2 i0 _ 1 8 Tryz.underlying42 HI.out HZ0.out HZ1.out HZ2.out rfl (by omega) (.slice A l.length c) l.length _ rfl (hO.alloc _) ⟨w2.heap.size, 0, none⟩ 1 1 [v] rfl rfl (news_alloc _ _ _) (by intro u hu; simp at hu; subst hu; rfl) (by unfold maxLen; omega) (by omega) (by simp; omega) ?_; intro v' w' hO' hg' hz' hat'; clear hz' hat'; obtain ⟨g', cap'', rfl, hP'⟩ := Own.of_row (f := ic) (l := l ++ [v]) (by rw [List.flatMap_append]; exact hO') (by simp) (by omega); have hB' := But.grown (hB.alloc _) hg' (fun g hg => (hO.lt g hg).1); have hcur' := CurAt.grown (hcur2.alloc _) hg' (fun e => by have := (hO.lt k e).1; omega)))
   go_loopw [7, 8] (fun s7 s8 W => ∃ (l' : List Int) (z' : Int) (A : Option Addr) (c : Nat), s7 = .slice A l'.length c ∧ s8 = .int .i64 z' ∧ 0 ≤ z' ∧ z' ≤ z ∧ 1 ≤ l'.length ∧ (l'.length : Int) + z' ≤ (most : Int) ∧ But k w W ∧ CurAt W k a0 len cap ∧ W.ownsRow w.heap.size 2 1 (.slice A l'.length c) l'.length (l'.flatMap ic)) (fun _ s8 _ => (intOf s8).toNat)
   case atStart => exact ⟨l ++ [v], z, some ⟨g', 0, none⟩, cap'', by simp, rfl, by omega, by omega, by simp, by simp; omega, hB', hcur', by have := hP'.own ic_len; simpa using this⟩
   case round =>
    clear hB hcur2 hO hB' hcur' hP' hg' hO'
    obtain ⟨l', z', A', c', rfl, rfl, hy0, hy1, hy2, hy3, hB, hcur1, hO⟩ := hrel
    go_wp2_with fail
    refine (l1Once_any N k a0 len cap _ _ (hc.below (hB.below hk hN)) hk (Nat.le_trans hN hB.size) hcur1 (by omega)).mono ?_
    rintro e w3 ⟨b, rfl, hB3, hcur3⟩
    replace hO := own_but hO hB3 lk
    replace hB := hB.trans hB3
    clear hB3 hcur1
    have hws := hB.size
    cases b
    ·
     go_wp2
     go_roundw
     case rel => exact ⟨l', z' - 1, A', c', rfl, rfl, by omega, by omega, hB, hcur3, hO⟩
     case measure => simp [intOf]; omega
    ·
     by_cases hyp : 0 < z'
     ·
      have hyd : decide (0 < z') = true := decide_eq_true hyp
      obtain ⟨g2, cap2, e2, hP2⟩ := Own.of_row (f := ic) hO rfl (by omega)
      injection e2 with e2 _ e3
      subst e2 e3
      have hl1 : l'.length - 1 < l'.length := by omega
      have hle : l'[l'.length - 1]? = some (l'[l'.length - 1]'hl1) := List.getElem?_eq_getElem hl1
      have kl := Own.cell_ ic_len hP2 (j := 0) hle rfl
      rw [Nat.mul_one, Nat.add_zero] at kl
      generalize l'[l'.length - 1]'hl1 = vv at *
      clear hle
      have hg1 : (0 : Int) ≤ (l'.length : Int) - 1 := by omega
      have hg2 : (l'.length : Int) - 1 < (l'.length : Int) := by omega
      have hnt : ((l'.length : Int) - 1).toNat = l'.length - 1 := by omega
      have hnn : (1 : Int) ≤ (l'.length : Int) := by omega
      go_wp2_with (at_builtin; go_must (refine wpList_append_own_at _ rfl (.tmp 29) (.tmp 36) _ rfl w.heap.size 2 i0 _ 1 8 Tryz.underlying42 HI.out HZ0.out HZ1.out HZ2.out rfl (by omega) (.slice (some ⟨g2, 0, none⟩) l'.length c') l'.length _ rfl (hO.alloc _) ⟨w3.heap.size, 0, none⟩ 1 1 [vv] rfl rfl (news_alloc _ _ _) (by intro u hu; simp at hu; subst hu; rfl) (by unfold maxLen; omega) (by omega) (by simp; omega) ?_; intro v' w' hO' hg' hz' hat'; clear hz' hat'; obtain ⟨g', cap'', rfl, hP'⟩ := Own.of_row (f := ic) (l := l' ++ [vv]) (by rw [List.flatMap_append]; exact hO') (by simp) (by omega); have hB' := But.grown (hB.alloc _) hg' (fun g hg => (hO.lt g hg).1); have hcur' := CurAt.grown (hcur3.alloc _) hg' (fun e => by have := (hO.lt k e).1; omega)))
      go_roundw
      case rel => exact ⟨l' ++ [vv], z' - 1, some ⟨g', 0, none⟩, cap'', by simp, rfl, by omega, by omega, by simp, by simp; omega, hB', hcur', by have := hP'.own ic_len; simpa using this⟩
      case measure => simp [intOf]; omega
     ·
      have hyd : decide (0 < z') = false := decide_eq_false hyp
      go_wp2
      go_roundw
      case rel => exact ⟨l', z' - 1, A', c', rfl, rfl, by omega, by omega, hB, hcur3, hO⟩
      case measure => simp [intOf]; omega
  ·
   have HO := Lib.hid hO; clear hO
   go_wp2
   go_ret
   exact ⟨l, A, c, rfl, by omega, SlW.of_own' (f := ic) HO.out rfl, hB, hcur1⟩

end Go.Proofs.YtiiaimjlohpemaaGreat

/-
 The draw of jobs.
-/
namespace Go.Proofs.YtiiaimjlohpemaaGreat
set_option linter.unusedSimpArgs false
set_option linter.unusedVariables false
open Go.RowKit
set_option linter.unusedVariables false
attribute [local go_sem ↓] Go.wp_at_zero Go.wp_at_succ

theorem SameIn.grown {lo M : Nat} {w w' : World} {row : Option Nat} (hg : w.grownBy w' row) (hr : ∀ g, row = some g → M ≤ g) (hM : M ≤ w.heap.size) : SameIn lo M w w' := fun j _ h2 => hg.block j (by omega) (fun e => by have := hr j e.symm; omega)
theorem own_keepT {N : Nat} {e : TypeId} {s : Nat} {v : Value} {n : Nat} {xs : List Value} {w w' : World} (h : w.ownsRow N e s v n xs) (hk : KeepT e w w') : w'.ownsRow N e s v n xs := by
 refine ⟨h.1, ?_⟩
 rcases h.2 with h' | ⟨g, cap, cur, hv, hg, hh, hr⟩
 · exact .inl h'
 · exact .inr ⟨g, cap, cur, hv, hg, (hk g cur hh).trans hh, hr⟩
theorem EachW.push {lo hi : Nat} {w : World} {rows : List Jw} {L : List (List Int)} {l : List Int} {a : Jw} (h : EachW lo hi w rows L) (ha : IntsW lo hi w a.A a.n a.cap l) : EachW lo hi w (rows ++ [a]) (L ++ [l]) := by
 refine ⟨by simp [h.1], fun j b m hb hm => ?_⟩
 by_cases hj : j < rows.length
 ·
  rw [List.getElem?_append_left hj] at hb
  rw [List.getElem?_append_left (by have := h.1; omega)] at hm
  exact h.2 j b m hb hm
 ·
  obtain rfl : j = rows.length := by
   have := (List.getElem?_eq_some_iff.1 hb).1
   simp at this; omega
  rw [List.getElem?_append_right (Nat.le_refl _)] at hb
  rw [List.getElem?_append_right (by have := h.1; omega)] at hm
  simp [h.1] at hb hm
  subst hb hm
  exact ha

/-- Jobs are drawn. -/
def DrawsJ (k : Nat) (a0 : Option Addr) (len cap : Nat) (w : World) (e : Ending) (w' : World) : Prop :=
 ∃ (js : List (List Int)) (A : Option Addr) (c : Nat), e = .returned (.slice A js.length c) ∧ 1 ≤ js.length ∧ js.length ≤ 3 ∧ (∀ l ∈ js, jobsOk l = true) ∧ ListsW w.heap.size w'.heap.size w' A js.length c js ∧ But k w w' ∧ CurAt w' k a0 len cap

set_option maxRecDepth 100000 in
set_option maxHeartbeats 2000000 in
theorem l10DrawJobs_any (N k : Nat) (a0 : Option Addr) (len cap : Nat) (w : World) (hc : CodeOk N w a0 len) (hk : N ≤ k) (hN : N ≤ w.heap.size) (hcur : CurAt w k a0 len cap) :
  Calls Tryz.prog 62 #[pT k] w (DrawsJ k a0 len cap w) := by
 obtain ⟨i0, hi0, hz0, hz1, hz2⟩ := info_parts int_info
 have HI := Lib.hid hi0
 have HZ0 := Lib.hid hz0
 have HZ1 := Lib.hid hz1
 have HZ2 := Lib.hid hz2
 clear hi0 hz0 hz1 hz2
 obtain ⟨i1, hi0, hz0, hz1, hz2⟩ := info_parts list_info
 have LI := Lib.hid hi0
 have LZ0 := Lib.hid hz0
 have LZ1 := Lib.hid hz1
 have LZ2 := Lib.hid hz2
 clear hi0 hz0 hz1 hz2
 have lk := hcur.lt
 go_enter Tryz.func62, Tryz.ntmps62
 go_wp2_with fail
 refine calls_abs (fun W => But k w W ∧ CurAt W k a0 len cap ∧ W.ownsRow w.heap.size 42 1 (.slice (some ⟨w.heap.size, 0, none⟩) 0 0) 0 (([] : List Jw).flatMap Jw.cs)) ⟨(But.refl _ _).alloc _, hcur.alloc _, own_made rfl (Nat.le_refl _)⟩ ?_
 rintro W0 ⟨hB, hcur0, hO⟩
 refine (l1Below_any N k a0 len cap _ _ (hc.below (hB.below hk hN)) hk (Nat.le_trans hN hB.size) hcur0 (by omega)).mono ?_
 rintro e w1 ⟨x, ⟨x0, x1⟩, rfl, hB1, hcur1⟩
 replace hO := own_but hO hB1 lk
 replace hB := hB.trans hB1
 clear hB1 hcur0
 go_wp2
 go_loopw [3, 4, 5] (fun s3 s4 s5 W => ∃ (js : List (List Int)) (rows : List Jw) (z v : Int) (A : Option Addr) (c : Nat), s3 = .slice A js.length c ∧ s4 = .int .i64 v ∧ s5 = .int .i64 z ∧ 0 ≤ z ∧ (js.length : Int) + z ≤ 3 ∧ 1 ≤ (js.length : Int) + z ∧ 1 ≤ v ∧ v ≤ 1 + 3 * (js.length : Int) ∧ (∀ l ∈ js, jobsOk l = true) ∧ But k w W ∧ CurAt W k a0 len cap ∧ W.ownsRow w.heap.size 42 1 (.slice A js.length c) js.length (rows.flatMap Jw.cs) ∧ EachW w.heap.size W.heap.size W rows js) (fun _ _ s5 _ => (intOf s5).toNat)
 case atStart => exact ⟨[], [], 1 + x, 1, some ⟨w.heap.size, 0, none⟩, 0, rfl, rfl, rfl, by omega, by simp; omega, by simp; omega, by omega, by simp, by simp, hB, hcur1, hO, rfl, fun i a l h => by simp at h⟩
 case round =>
  clear hB hcur1 hO
  obtain ⟨js, rows, z, v, A, c, rfl, rfl, rfl, hz1, hz2, hz3, hv1, hv2, hjs, hB, hcur1, hO, hE⟩ := hrel
  have HJS := Lib.hid hjs; clear hjs
  by_cases hzp : 0 < z
  ·
   have hws := hB.size
   have lk1 := hcur1.lt
   obtain ⟨M, hM⟩ : ∃ M, M = wr.heap.size := ⟨_, rfl⟩
   rw [← hM] at hE
   have hwM : w.heap.size ≤ M := by omega
   go_wp2_with fail
   refine calls_abs (fun W => But k w W ∧ CurAt W k a0 len cap ∧ W.ownsRow w.heap.size 42 1 (.slice A js.length c) js.length (rows.flatMap Jw.cs) ∧ EachW w.heap.size M W rows js ∧ W.ownsRow M 2 1 (.slice (some ⟨M, 0, none⟩) 0 0) 0 (([] : List Int).flatMap ic)) ⟨hB.alloc _, hcur1.alloc _, hO.alloc _, hE.keep (.alloc (by omega) _), own_made hM (by omega)⟩ ?_
   rw [← hM]
   clear hB hcur1 hO hE
   rintro W1 ⟨hB, hcur1, hO, hE, hL⟩
   have hM1 : M ≤ W1.heap.size := by have := (hL.lt M rfl).2; omega
   refine (l1Below_any N k a0 len cap _ _ (hc.below (hB.below hk hN)) hk (Nat.le_trans hN hB.size) hcur1 (by omega)).mono ?_
   rintro e w2 ⟨y, ⟨y0, y1⟩, rfl, hB2, hcur2⟩
   replace hO := own_but hO hB2 lk
   replace hL := own_but hL hB2 (by omega)
   replace hE := hE.keep (.but hB2 (.inl lk) hM1)
   have hM2 : M ≤ w2.heap.size := Nat.le_trans hM1 hB2.size
   replace hB := hB.trans hB2
   clear hB2 hcur1 hM1
   go_wp2
   go_loopw [4, 6, 7] (fun s4 s6 s7 W => ∃ (l : List Int) (y v' : Int) (B : Option Addr) (d : Nat), s6 = .slice B l.length d ∧ s4 = .int .i64 v' ∧ s7 = .int .i64 y ∧ 0 ≤ y ∧ (l.length : Int) + y ≤ 3 ∧ 1 ≤ v' ∧ v' ≤ 1 + 3 * (js.length : Int) + l.length ∧ l.all jobB = true ∧ But k w W ∧ CurAt W k a0 len cap ∧ W.ownsRow w.heap.size 42 1 (.slice A js.length c) js.length (rows.flatMap Jw.cs) ∧ EachW w.heap.size M W rows js ∧ W.ownsRow M 2 1 (.slice B l.length d) l.length (l.flatMap ic) ∧ M ≤ W.heap.size) (fun _ _ s7 _ => (intOf s7).toNat)
   case atStart => exact ⟨[], 1 + y, v, some ⟨M, 0, none⟩, 0, by rw [hM]; rfl, rfl, rfl, by omega, by simp; omega, hv1, by simp; omega, rfl, hB, hcur2, hO, hE, hL, hM2⟩
   case round =>
    clear hB hcur2 hO hE hL hM2
    obtain ⟨l, y, v', B, d, rfl, rfl, rfl, hy1, hy2, hv3, hv4, hal, hB, hcur2, hO, hE, hL, hM2⟩ := hrel
    have HAL := Lib.hid hal; clear hal
    by_cases hyp : 0 < y
    ·
     go_wp2_with fail
     refine (l1Once_any N k a0 len cap _ _ (hc.below (hB.below hk hN)) hk (Nat.le_trans hN hB.size) hcur2 (by omega)).mono ?_
     rintro e w3 ⟨b, rfl, hB3, hcur3⟩
     replace hO := own_but hO hB3 lk
     replace hL := own_but hL hB3 (by omega)
     replace hE := hE.keep (.but hB3 (.inl lk) hM2)
     replace hM2 := Nat.le_trans hM2 hB3.size
     replace hB := hB.trans hB3
     clear hB3 hcur2
     cases b
     ·
      have hws2 := hB.size
      have HJB := Lib.hid (show jobB (v') = true from by have := hv4; unfold jobB inB; simp; omega)
      go_wp2_with (at_builtin; go_must (refine wpList_append_own_at _ rfl (.tmp 29) (.tmp 31) _ rfl M 2 i0 _ 1 8 Tryz.underlying42 HI.out HZ0.out HZ1.out HZ2.out rfl (by omega) (.slice B l.length d) l.length _ rfl (hL.alloc _) ⟨w3.heap.size, 0, none⟩ 1 1 [.int .i64 (v')] rfl rfl (news_alloc _ _ _) (by intro u hu; simp at hu; subst hu; rfl) (by unfold maxLen; omega) (by omega) (by simp; omega) ?_; intro u' w' hL' hg' hz' hat'; clear hz' hat'; obtain ⟨g', cap'', rfl, hP'⟩ := Own.of_row (f := ic) (l := l ++ [v']) (by rw [List.flatMap_append]; exact hL') (by simp) (by omega); have hB' := But.grown (hB.alloc _) hg' (fun g hg => by have := (hL.lt g hg).1; omega); have hcur' := CurAt.grown (hcur3.alloc _) hg' (fun e => by have := (hL.lt k e).1; omega)))
      have hkk : KeepT 42 w3 w' := (KeepT.alloc w3 _).trans (KeepT.grown (hL.alloc _) hg' (by decide))
      have hsm : SameIn w.heap.size M w3 w' := (SameIn.alloc hM2 _).trans (SameIn.grown hg' (fun g hg => (hL.lt g hg).1) (by simp; omega))
      have hsz : w3.heap.size ≤ w'.heap.size := by have := hg'.size; simp at this; omega
      go_roundw
      case rel =>
       refine ⟨l ++ [v'], y - 1, v' + 1, some ⟨g', 0, none⟩, cap'', by simp, rfl, rfl, by omega, by simp; omega, by omega, by simp; omega, ?_, hB', hcur', own_keepT hO hkk, hE.keep hsm, by have := hP'.own ic_len; simpa using this, by omega⟩
       rw [List.all_append, HAL.out]
       simp [HJB.out]
      case measure => simp [intOf]; omega
     ·
      have hws2 := hB.size
      have HJB := Lib.hid (show jobB (0) = true from by decide)
      go_wp2_with (at_builtin; go_must (refine wpList_append_own_at _ rfl (.tmp 26) (.tmp 27) _ rfl M 2 i0 _ 1 8 Tryz.underlying42 HI.out HZ0.out HZ1.out HZ2.out rfl (by omega) (.slice B l.length d) l.length _ rfl (hL.alloc _) ⟨w3.heap.size, 0, none⟩ 1 1 [.int .i64 (0)] rfl rfl (news_alloc _ _ _) (by intro u hu; simp at hu; subst hu; rfl) (by unfold maxLen; omega) (by omega) (by simp; omega) ?_; intro u' w' hL' hg' hz' hat'; clear hz' hat'; obtain ⟨g', cap'', rfl, hP'⟩ := Own.of_row (f := ic) (l := l ++ [0]) (by rw [List.flatMap_append]; exact hL') (by simp) (by omega); have hB' := But.grown (hB.alloc _) hg' (fun g hg => by have := (hL.lt g hg).1; omega); have hcur' := CurAt.grown (hcur3.alloc _) hg' (fun e => by have := (hL.lt k e).1; omega)))
      have hkk : KeepT 42 w3 w' := (KeepT.alloc w3 _).trans (KeepT.grown (hL.alloc _) hg' (by decide))
      have hsm : SameIn w.heap.size M w3 w' := (SameIn.alloc hM2 _).trans (SameIn.grown hg' (fun g hg => (hL.lt g hg).1) (by simp; omega))
      have hsz : w3.heap.size ≤ w'.heap.size := by have := hg'.size; simp at this; omega
      go_roundw
      case rel =>
       refine ⟨l ++ [0], y - 1, v', some ⟨g', 0, none⟩, cap'', by simp, rfl, rfl, by omega, by simp; omega, by omega, by simp; omega, ?_, hB', hcur', own_keepT hO hkk, hE.keep hsm, by have := hP'.own ic_len; simpa using this, by omega⟩
       rw [List.all_append, HAL.out]
       simp [HJB.out]
      case measure => simp [intOf]; omega
    ·
     have HL := Lib.hid hL
     have hws2 := hB.size
     go_wp2_with (at_builtin; go_must (refine wpList_append_own_at _ rfl (.tmp 35) (.tmp 37) _ rfl w.heap.size 42 i1 _ 1 24 Tryz.underlying66 LI.out LZ0.out LZ1.out LZ2.out rfl (by omega) (.slice A js.length c) js.length _ rfl (hO.alloc _) ⟨wr.heap.size, 0, none⟩ 1 1 [.slice B l.length d] rfl rfl (news_alloc _ _ _) (by intro u hu; simp at hu; subst hu; rfl) (by unfold maxLen; omega) (by omega) (by simp; omega) ?_; intro u' w' hO' hg' hz' hat'; clear hz' hat'; obtain ⟨g', cap'', rfl, hP'⟩ := Own.of_row (f := Jw.cs) (l := rows ++ [(⟨B, l.length, d⟩ : Jw)]) (n := js.length + 1) (by rw [List.flatMap_append]; exact hO') (by simp [hE.1]) (by omega); have hB' := But.grown (hB.alloc _) hg' (fun g hg => (hO.lt g hg).1); have hcur' := CurAt.grown (hcur2.alloc _) hg' (fun e => by have := (hO.lt k e).1; omega)))
     have hkk : KeepT 2 wr w' := (KeepT.alloc wr _).trans (KeepT.grown (hO.alloc _) hg' (by decide))
     have hsz : wr.heap.size ≤ w'.heap.size := by have := hg'.size; simp at this; omega
     go_roundw
     case rel =>
      refine ⟨js ++ [l], rows ++ [⟨B, l.length, d⟩], z - 1, v', some ⟨g', 0, none⟩, cap'', by simp, rfl, rfl, by omega, by simp; omega, by simp; omega, hv3, by simp; omega, fun m hm => ?_, hB', hcur', by have := hP'.own Jw.cs_len; simpa using this, ?_⟩
      ·
       rcases List.mem_append.1 hm with h1 | h1
       · exact HJS.out m h1
       ·
        simp at h1
        subst h1
        unfold jobsOk
        rw [HAL.out, decide_eq_true (by omega)]; rfl
      · exact EachW.push ((hE.keepT hkk).mono (Nat.le_refl _) (by omega)) (SlW.mono (SlW.keepT (SlW.of_own' (f := ic) HL.out rfl) hkk) (by omega) hsz)
     case measure => simp [intOf]; omega
  ·
   have HO := Lib.hid hO
   have HE := Lib.hid hE
   clear hO hE
   go_wp2
   go_ret
   refine ⟨js, A, c, rfl, by omega, by omega, HJS.out, ⟨rows, SlW.of_own' (f := Jw.cs) HO.out HE.out.1, HE.out⟩, hB, hcur1⟩

end Go.Proofs.YtiiaimjlohpemaaGreat

/-
 The draw of a crew.
-/
namespace Go.Proofs.YtiiaimjlohpemaaGreat
set_option linter.unusedSimpArgs false
set_option linter.unusedVariables false
open Go.RowKit
set_option linter.unusedVariables false
attribute [local go_sem] OpUpon
attribute [local go_sem ↓] Go.wp_at_zero Go.wp_at_succ

theorem CrN.butN {lo k : Nat} {w w' : World} {c : Cr} {y : CrL} (h : CrN lo w c y) (hb : But k w w') (hk : k < lo) : CrN lo w' c y := CrW.mono (CrW.keep h (.but hb (.inl hk) (Nat.le_refl _))) (Nat.le_refl _) hb.size
theorem IntN.butN {lo k : Nat} {w w' : World} {A : Option Addr} {n cap : Nat} {m : List Int} (h : IntN lo w A n cap m) (hb : But k w w') (hk : k < lo) : IntN lo w' A n cap m := SlW.mono (SlW.keep h (.but hb (.inl hk) (Nat.le_refl _))) (Nat.le_refl _) hb.size
theorem turnsB (k : Nat) (c : Cr) (y : CrL) (lo hi : Nat) (l : List Int) (A : Option Addr) (n cap lo2 hi2 : Nat) (w : World) (hW0 : CrW lo hi w c y) (hh : hi ≤ w.heap.size) (hf : CrFit c) (hl : IntsW lo2 hi2 w A n cap l) (hh2 : hi2 ≤ w.heap.size) (hn : n ≤ 1048576) :
  Calls Tryz.prog 63 #[crV c y, .slice A n cap] w (fun e w' => ∃ y', e = .returned (crV (turnsC c l) y') ∧ CrW w.heap.size w'.heap.size w' (turnsC c l) y' ∧ Below w.heap.size w w' ∧ But k w w') := by
 refine (sturns_any c y lo hi l A n cap lo2 hi2 w hW0 hh hf hl hh2 hn).mono ?_
 rintro e w' ⟨y', rfl, h1, hb⟩
 exact ⟨y', rfl, h1, hb, .of_below hb⟩

theorem freshStore_ok {rd mo : Int} (h1 : rd = 2 ∨ rd = 3) (m1 : 1 ≤ mo) (m2 : mo ≤ 4) : newStore rd mo = (⟨rd, mo, [Rg.fresh rd.toNat], 0, 0⟩, true) ∧ stOk ⟨rd, mo, [Rg.fresh rd.toNat], 0, 0⟩ = true := by
 have hmo : inB mo 1 16 = true := by unfold inB; simp; omega
 have hmo2 : inB 1 1 mo = true := by unfold inB; simp; omega
 rcases h1 with rfl | rfl
 ·
  refine ⟨by unfold newStore; rw [hmo]; rfl, ?_⟩
  have hch : chain [Rg.fresh 2] 1 0 = some [0] := by rw [chain_succ (r := Rg.fresh 2) (by omega) rfl, chain_neg (by decide)]; rfl
  unfold stOk stHead
  have e1 : inSt 2 1 (Rg.fresh 2) = true := by decide
  simp [hmo, hmo2, hch, e1, roundB]
  decide
 ·
  refine ⟨by unfold newStore; rw [hmo]; rfl, ?_⟩
  have hch : chain [Rg.fresh 3] 1 0 = some [0] := by rw [chain_succ (r := Rg.fresh 3) (by omega) rfl, chain_neg (by decide)]; rfl
  unfold stOk stHead
  have e1 : inSt 3 1 (Rg.fresh 3) = true := by decide
  simp [hmo, hmo2, hch, e1, roundB]
  decide

theorem newC0_ok {rd mo : Int} {js : List (List Int)} (h1 : rd = 2 ∨ rd = 3) (m1 : 1 ≤ mo) (m2 : mo ≤ 4) (hj1 : 1 ≤ js.length) (hj3 : js.length ≤ 3) (hjs : ∀ l ∈ js, jobsOk l = true) : newCrew rd mo js = (newC0 rd mo js, true) ∧ crOk (newC0 rd mo js) = true := by
 obtain ⟨e1, e2⟩ := freshStore_ok h1 m1 m2
 have hst : stOk (newC0 rd mo js).st = true := by show stOk (newStore rd mo).1 = true; rw [e1]; exact e2
 have hok : crOk (newC0 rd mo js) = true := by
  unfold crOk crHead
  rw [hst]
  have l1 : (newC0 rd mo js).hs.length = js.length := by simp [newC0]
  have l2 : (newC0 rd mo js).js.length = js.length := rfl
  have l3 : (newC0 rd mo js).bs.length = js.length := by simp [newC0]
  rw [l1, l2, l3]
  have hb : inB (js.length : Int) 1 4 = true := by unfold inB; simp; omega
  rw [hb]
  have hes : storyOk (newC0 rd mo js).es = true := rfl
  have hck : inB (newC0 rd mo js).ck 0 2000 = true := by show inB 0 0 2000 = true; decide
  rw [hes, hck]
  simp only [beq_self_eq_true, Bool.and_self, Bool.true_and, List.all_eq_true, List.mem_range]
  intro i hi
  unfold crAt
  have g1 : (newC0 rd mo js).hs.getD i .zero = resting := by
   show (List.replicate js.length resting).getD i .zero = resting
   rw [List.getD_eq_getElem?_getD, List.getElem?_replicate, if_pos hi]; rfl
  have g2 : (newC0 rd mo js).bs.getD i 0 = 0 := by
   show (List.replicate js.length (0 : Int)).getD i 0 = 0
   rw [List.getD_eq_getElem?_getD, List.getElem?_replicate, if_pos hi]; rfl
  have g3 : jobsOk ((newC0 rd mo js).js.getD i []) = true := by
   show jobsOk (js.getD i []) = true
   rw [List.getD_eq_getElem?_getD, List.getElem?_eq_getElem hi]
   exact hjs _ (List.getElem_mem hi)
  rw [g1, g2, g3]
  have g4 : fits (newC0 rd mo js).st resting = true := by
   unfold fits
   rw [hst]
   have : resting.ok = true := by decide
   rw [this]; rfl
  rw [g4]
  show (true && true && inB 0 0 0) = true
  decide
 refine ⟨?_, hok⟩
 unfold newCrew
 rw [hok, e1]
 rfl

/-- A crew is drawn. -/
def DrawsC (k : Nat) (a0 : Option Addr) (len cap : Nat) (w : World) (e : Ending) (w' : World) : Prop :=
 ∃ (c : Cr) (y : CrL), e = .returned (crV c y) ∧ crOk c = true ∧ CrN w.heap.size w' c y ∧ But k w w' ∧ CurAt w' k a0 len cap

def ldRV (d : Cr) (y1 : CrL) (N X k : Nat) : List Sl := [.v (.agg #[d.st.rd, d.st.mo, .slice y1.s.A y1.s.n y1.s.cap, d.st.fi, d.st.la, .slice y1.h.A y1.h.n y1.h.cap, .slice y1.j.A y1.j.n y1.j.cap, .slice y1.b.A y1.b.n y1.b.cap, d.ck, .slice y1.e.A y1.e.n y1.e.cap]),
 .v (pT k),
 .v (.pointer (some ⟨X, 5, none⟩)),
 .v (.slice y1.h.A y1.h.n y1.h.cap),
 .v (.int .i64 ((y1.h.n : Int))),
 .e fun σ w => ∃ (l5 : List Int) (A5 : Option Addr) (c5 : Nat), σ 5 = .slice A5 l5.length c5 ∧ IntN N w A5 l5.length c5 l5 ∧ l5.length ≤ 60,
 .e fun σ w => ∃ (l5 : List Int) (y6 : CrL), σ 6 = .agg #[.int .i64 ((turnsC d l5).st.rd), .int .i64 ((turnsC d l5).st.mo), .slice y6.s.A y6.s.n y6.s.cap, .int .i64 ((turnsC d l5).st.fi), .int .i64 ((turnsC d l5).st.la), .slice y6.h.A y6.h.n y6.h.cap, .slice y6.j.A y6.j.n y6.j.cap, .slice y6.b.A y6.b.n y6.b.cap, .int .i64 ((turnsC d l5).ck), .slice y6.e.A y6.e.n y6.e.cap] ∧ CrN N w (turnsC d l5) y6 ∧ l5.length ≤ 60,
 .e fun σ w => ∃ (l5 : List Int) (y6 : CrL), BoxAt w N #[.int .i64 ((turnsC d l5).st.rd), .int .i64 ((turnsC d l5).st.mo), .slice y6.s.A y6.s.n y6.s.cap, .int .i64 ((turnsC d l5).st.fi), .int .i64 ((turnsC d l5).st.la), .slice y6.h.A y6.h.n y6.h.cap, .slice y6.j.A y6.j.n y6.j.cap, .slice y6.b.A y6.b.n y6.b.cap, .int .i64 ((turnsC d l5).ck), .slice y6.e.A y6.e.n y6.e.cap] 68 ∧ CrN N w (turnsC d l5) y6 ∧ l5.length ≤ 60]

set_option maxRecDepth 100000 in
set_option maxHeartbeats 2000000 in
theorem l10Draw_any (K0 k : Nat) (a0 : Option Addr) (len cap : Nat) (w : World) (hc : CodeOk K0 w a0 len) (hkk : K0 ≤ k) (hN0 : K0 ≤ w.heap.size) (hcur : CurAt w k a0 len cap) :
  Calls Tryz.prog 46 #[pT k] w (DrawsC k a0 len cap w) := by
 have hkN := hcur.lt
 go_enter Tryz.func46, Tryz.ntmps46
 go_wp2_with fail
 refine calls_abs (fun W => But k w W ∧ CurAt W k a0 len cap ∧ BoxAt W w.heap.size #[.int .i64 0, .int .i64 0, .slice none 0 0, .int .i64 0, .int .i64 0, .slice none 0 0, .slice none 0 0, .slice none 0 0, .int .i64 0, .slice none 0 0] 68) ⟨(But.refl _ _).alloc _, hcur.alloc _, BoxAt.new _ _ _⟩ ?_
 clear hcur
 rintro W0 ⟨hB, hcur, hz⟩
 refine (l1Below_any K0 k a0 len cap _ _ (hc.below (hB.below hkk hN0)) hkk (Nat.le_trans hN0 hB.size) hcur (by omega)).mono ?_
 rintro e w1 ⟨x, ⟨x0, x1⟩, rfl, hb1, hcur1⟩
 replace hz := hb1.box hz (by omega)
 replace hB := hB.trans hb1
 clear hb1 hcur
 go_wp2_with fail
 refine (l1Below_any K0 k a0 len cap _ _ (hc.below (hB.below hkk hN0)) hkk (Nat.le_trans hN0 hB.size) hcur1 (by omega)).mono ?_
 rintro e w2 ⟨y, ⟨y0, y1⟩, rfl, hb1, hcur⟩
 replace hz := hb1.box hz (by omega)
 replace hB := hB.trans hb1
 clear hb1 hcur1
 go_wp2_with fail
 refine (l10DrawJobs_any K0 k a0 len cap _ (hc.below (hB.below hkk hN0)) hkk (Nat.le_trans hN0 hB.size) hcur).mono ?_
 rintro e w3 ⟨js, A, c, rfl, hj1, hj3, hjs, hL, hb1, hcur1⟩
 obtain ⟨hnew, hnok⟩ := newC0_ok (rd := 2 + x) (mo := 1 + y) (js := js) (by omega) (by omega) (by omega) hj1 hj3 hjs
 have hml : ∀ l ∈ js, l.length ≤ 1048576 := fun l hl => by
  have := hjs l hl
  simp only [jobsOk, Bool.and_eq_true, decide_eq_true_eq] at this
  omega
 replace hz := hb1.box hz (by omega)
 have hws := hB.size
 replace hB := hB.trans hb1
 clear hb1 hcur
 have HNEW := Lib.hid hnew
 have HDK0 := Lib.hid hnok
 clear hnew hnok hjs
 go_wp2_with fail
 refine (snewCrew_any (2 + x) (1 + y) js A js.length c _ _ _ hL (Nat.le_refl _) (by omega) hml).mono ?_
 rintro e w4 ⟨y1_, rfl, hC, hb1⟩
 rw [HNEW.out] at hC ⊢
 replace hcur1 := hcur1.belowC hb1
 replace hz := hz.below hb1 hz.lt
 have hws3 := hB.size
 replace hB := hB.trans (.of_below hb1)
 have lz := hz.lt
 clear hb1 hL hml
 obtain ⟨d, hd⟩ : ∃ d, d = newC0 (2 + x) (1 + y) js := ⟨_, rfl⟩
 rw [← hd] at hC ⊢
 have HHL := Lib.hid (show 1 ≤ y1_.h.n by have q : d.hs.length = y1_.h.n := hC.h.1; rw [← q, hd]; simp [newC0]; omega)
 have HDK := Lib.hid (show crOk d = true by rw [hd]; exact HDK0.out)
 have HFIT := Lib.hid ((crOk_neat HDK.out).fit)
 clear HNEW HDK0 hd
 unfold crV
 dsimp only
 go_upto_region 2 with fail
 refine wp_abs (fun W => But k w W ∧ CurAt W k a0 len cap ∧ BoxAt W w.heap.size #[.int .i64 0, .int .i64 0, .slice none 0 0, .int .i64 0, .int .i64 0, .slice none 0 0, .slice none 0 0, .slice none 0 0, .int .i64 0, .slice none 0 0] 68 ∧ BoxAt W w4.heap.size #[d.st.rd, d.st.mo, .slice y1_.s.A y1_.s.n y1_.s.cap, d.st.fi, d.st.la, .slice y1_.h.A y1_.h.n y1_.h.cap, .slice y1_.j.A y1_.j.n y1_.j.cap, .slice y1_.b.A y1_.b.n y1_.b.cap, d.ck, .slice y1_.e.A y1_.e.n y1_.e.cap] 68 ∧ CrN w.heap.size W d y1_ ∧ w4.heap.size < W.heap.size) ⟨hB.alloc _, hcur1.alloc _, hz.alloc _, BoxAt.new _ _ _, CrN.belowN (CrW.mono hC (by omega) (Nat.le_refl _)) ((Below.refl _ _).alloc (Nat.le_refl _) _), by simp⟩ ?_
 clear hB hcur1 hz hC
 rintro W5 ⟨hB, hcur, hz, hx, hC, hM⟩
 generalize w4.heap.size = X at *
 refine wp_region2v (fun w w' => But k w w') (fun _ _ h => h.size) (fun _ => But.refl _ _) (fun L W' => But k w W' ∧ CurAt W' k a0 len cap ∧ BoxAt W' X #[d.st.rd, d.st.mo, .slice y1_.s.A y1_.s.n y1_.s.cap, d.st.fi, d.st.la, .slice y1_.h.A y1_.h.n y1_.h.cap, .slice y1_.j.A y1_.j.n y1_.j.cap, .slice y1_.b.A y1_.b.n y1_.b.cap, d.ck, .slice y1_.e.A y1_.e.n y1_.e.cap] 68 ∧ CrN w.heap.size W' d y1_ ∧ X < W'.heap.size ∧ (∃ x0 x1 x2 x3 x4 x5 x6 x7 x8 x9, BoxAt W' w.heap.size #[x0, x1, x2, x3, x4, x5, x6, x7, x8, x9] 68) ∧ (L 7 = false → BoxAt W' w.heap.size #[.int .i64 0, .int .i64 0, .slice none 0 0, .int .i64 0, .int .i64 0, .slice none 0 0, .slice none 0 0, .slice none 0 0, .int .i64 0, .slice none 0 0] 68)) (ldRV d y1_ w.heap.size X k) (fun j => [0, 0, 0, 0, 0, 0, 0, 1].getD j 0) [] (by kernel_rfl) (by kernel_rfl) ?_ ?_ ?_
  (.still rfl ?a0 <| .still rfl ?a1 <| .still rfl ?a2 <| .still rfl ?a3 <| .still rfl ?a4 <| .grow rfl ?a5 <| .grow rfl ?a6 <| .store rfl ?a7 <| .nil) ?_ ?_
 · exact ⟨fun _ _ _ h ⟨l5, A5, c5, e, hp⟩ => ⟨l5, A5, c5, (h 5 (List.mem_singleton.2 rfl)).symm.trans e, hp⟩, fun _ _ _ h ⟨l5, y6, e, hp⟩ => ⟨l5, y6, (h 6 (List.mem_singleton.2 rfl)).symm.trans e, hp⟩, fun _ _ _ _ h => h, trivial⟩
 · exact ⟨fun σ w w' hb ⟨l5, A5, c5, e, hp⟩ => ⟨l5, A5, c5, e, ⟨hp.1.butN hb hkN, hp.2⟩⟩, fun σ w w' hb ⟨l5, y6, e, hp⟩ => ⟨l5, y6, e, ⟨hp.1.butN hb hkN, hp.2⟩⟩, fun σ w w' hb ⟨l5, y6, hx, hp⟩ => ⟨l5, y6, hb.box hx (by omega), ⟨hp.1.butN hb hkN, hp.2⟩⟩, trivial⟩
 · exact ⟨hB.drew, hcur, hx, hC.drew, hM, ⟨_, _, _, _, _, _, _, _, _, _, hz⟩, fun _ => hz⟩
 case a0 | a3 =>
  go_light
  intro L σ W' hcl hL hC hw
  try have e2 := wT hw 2 rfl
  have kx := hC.2.2.1.cell
  clear hw hcl hL hC
  refine OpGoes.go fun K hK => ?_
  go_simp
  exact hK _ _ ⟨rfl, rfl⟩
 case a1 | a2 | a4 =>
  go_light
  intro L σ W' hcl hL hC hw
  try have e3 := wT hw 3 rfl
  clear hw hcl hL hC
  refine OpGoes.go fun K hK => ?_
  go_simp
  exact hK _ _ ⟨rfl, rfl⟩
 case a5 =>
  go_light
  intro L σ W' hcl hL hC hw
  have e1 := wV hw 1 rfl
  have e4 := wV hw 4 rfl
  clear hw
  have HC := Lib.hid hC
  clear hC
  clear hcl hL
  refine OpGoes.go fun K hK => ?_
  go_simp
  obtain ⟨hB, hcur, hx, hC, hM, ⟨_, _, _, _, _, _, _, _, _, _, hz⟩, hz_o⟩ := HC.out
  refine (l10DrawTurns_any K0 k a0 len cap _ 60 _ (hc.below (hB.below hkk hN0)) hkk (Nat.le_trans hN0 hB.size) hcur (by have := HHL.out; omega) (by omega) (by omega)).mono ?_
  rintro e w1 ⟨l5, A5, c5, rfl, hl5, hI5, hb1, hcur1⟩
  exact ⟨_, rfl, hK _ _ ⟨⟨hB.trans hb1, hcur1, hb1.box hx (by omega), hC.butN hb1 hkN, Nat.lt_of_lt_of_le hM hb1.size, ⟨_, _, _, _, _, _, _, _, _, _, hb1.box hz (by omega)⟩, fun h => hb1.box (hz_o (by simpa [upd] using h)) (by omega)⟩, ⟨l5, A5, c5, rfl, SlW.mono hI5 (by omega) (Nat.le_refl _), hl5⟩, hb1⟩⟩
 case a6 =>
  go_light
  intro L σ W' hcl hL hC hw
  have e0 := wV hw 0 rfl
  obtain ⟨l5, A5, c5, e5, hp5⟩ := wE hw 5 rfl
  clear hw
  have HC := Lib.hid hC
  clear hC
  clear hcl hL
  refine OpGoes.go fun K hK => ?_
  go_simp
  obtain ⟨hB, hcur, hx, hC, hM, ⟨_, _, _, _, _, _, _, _, _, _, hz⟩, hz_o⟩ := HC.out
  refine (turnsB k d y1_ w.heap.size _ l5 A5 l5.length c5 w.heap.size _ _ hC (Nat.le_refl _) HFIT.out hp5.1 (Nat.le_refl _) (by have := hp5.2; omega)).mono ?_
  rintro e w1 ⟨y6, rfl, hC6, hbel, hb1⟩
  exact ⟨_, rfl, hK _ _ ⟨⟨hB.trans hb1, hcur.belowC hbel, hb1.box hx (by omega), hC.butN hb1 hkN, Nat.lt_of_lt_of_le hM hb1.size, ⟨_, _, _, _, _, _, _, _, _, _, hz.below hbel hz.lt⟩, fun h => (hz_o (by simpa [upd] using h)).below hbel (hz_o (by simpa [upd] using h)).lt⟩, ⟨l5, y6, rfl, CrW.mono hC6 (by omega) (Nat.le_refl _), hp5.2⟩, hb1⟩⟩
 case a7 =>
  go_light
  intro L σ W' hcl hL hC hw hne
  obtain ⟨l5, y6, e6, hp6⟩ := wE hw 6 rfl
  clear hw hne
  have HC := Lib.hid hC
  obtain ⟨hB, hcur, hx, hC, hM, ⟨_, _, _, _, _, _, _, _, _, _, hz⟩, hz_o⟩ := hC
  clear hcl hL
  have kc_ := hz.cell
  have kf_ := hz.frozen
  clear hB hcur hx hC hM hz hz_o
  refine OpGoes.go fun K hK => ?_
  go_simp
  obtain ⟨hB, hcur, hx, hC, hM, ⟨_, _, _, _, _, _, _, _, _, _, hz⟩, hz_o⟩ := HC.out
  have hset := sets_all (us := [.int .i64 ((turnsC d l5).st.rd), .int .i64 ((turnsC d l5).st.mo), .slice y6.s.A y6.s.n y6.s.cap, .int .i64 ((turnsC d l5).st.fi), .int .i64 ((turnsC d l5).st.la), .slice y6.h.A y6.h.n y6.h.cap, .slice y6.j.A y6.j.n y6.j.cap, .slice y6.b.A y6.b.n y6.b.cap, .int .i64 ((turnsC d l5).ck), .slice y6.e.A y6.e.n y6.e.cap]) hz rfl
  refine hK undef (setCells W' w.heap.size 0 [.int .i64 ((turnsC d l5).st.rd), .int .i64 ((turnsC d l5).st.mo), .slice y6.s.A y6.s.n y6.s.cap, .int .i64 ((turnsC d l5).st.fi), .int .i64 ((turnsC d l5).st.la), .slice y6.h.A y6.h.n y6.h.cap, .slice y6.j.A y6.j.n y6.j.cap, .slice y6.b.A y6.b.n y6.b.cap, .int .i64 ((turnsC d l5).ck), .slice y6.e.A y6.e.n y6.e.cap]) ⟨⟨(But.setsNew hB (by omega) _ 0), (CurAt.sets hcur (by omega) _ 0), (BoxAt.sets_ne _ 0 hx (by omega)), (CrN.setsC hC hz _ 0), (size_sts hM _ 0), ⟨_, _, _, _, _, _, _, _, _, _, hset⟩, fun h => absurd h (by simp [upd])⟩, ⟨l5, y6, hset, ⟨CrN.setsC hp6.1 hz _ 0, hp6.2⟩⟩, Nat.le_of_eq (sets_size _ _ _).symm, keepV ?_⟩
  exact ⟨fun _ _ ⟨l5_x, A5_x, c5_x, e, hp⟩ => ⟨l5_x, A5_x, c5_x, e, ⟨IntN.setsC hp.1 hz _ 0, hp.2⟩⟩, fun _ _ ⟨l5_x, y6_x, e, hp⟩ => ⟨l5_x, y6_x, e, ⟨CrN.setsC hp.1 hz _ 0, hp.2⟩⟩, fun h => absurd rfl h, trivial⟩
 ·
  intro L L' W' hLL hC
  obtain ⟨hB, hcur, hx, hC, hM, ⟨_, _, _, _, _, _, _, _, _, _, hz⟩, hz_o⟩ := hC
  exact ⟨hB, hcur, hx, hC, hM, ⟨_, _, _, _, _, _, _, _, _, _, hz⟩, fun h => hz_o (hLL _ h)⟩
 ·
  intro σ L W' hall hC hRR
  obtain ⟨hB, hcur, hx, hC, hM, ⟨_, _, _, _, _, _, _, _, _, _, hz⟩, hz_o⟩ := hC
  obtain ⟨l5, y6, s7, hp7⟩ := dE hRR 7 rfl
  clear hRR
  simp only [lexAll]
  go_simp
  go_step
  have kz := s7.cell
  go_wp2
  refine bodyPost_ret (v := crV (turnsC d l5) y6) (by simp [results, Tryz.results46, go_sem, kz, crV]) rfl ⟨turnsC d l5, y6, rfl, ?_, hp7.1, hB, hcur⟩
  unfold turnsC
  rw [HDK.out, decide_eq_true (by have := hp7.2; omega)]
  exact turnsS_ok HDK.out l5
end Go.Proofs.YtiiaimjlohpemaaGreat

/-
 A crew that goes on till nobody has anything to do, of the model.
-/
namespace Go.Proofs.YtiiaimjlohpemaaGreat
set_option linter.unusedSimpArgs false
set_option linter.unusedVariables false
open Go.RowKit
set_option linter.unusedVariables false
attribute [local go_sem ↓] Go.wp_at_zero Go.wp_at_succ

theorem turnS_ck {c : Cr} {who : Int} (h : (turnS c who).2 = true) : (turnS c who).1.ck = c.ck + 1 := by
 unfold turnS at h ⊢
 split at h
 · cases h
 ·
  rename_i h1
  split at h
  · cases h
  ·
   rename_i h2
   split at h
   · cases h
   ·
    rename_i h3
    split at h
    ·
     rename_i h4
     rw [if_neg h1, if_neg h2, if_neg h3, if_pos h4]
     show (newC c who who.toNat).ck = _
     show (goC c who.toNat).ck = _
     unfold goC
     split <;> rfl
    · cases h
theorem turnS_same {c : Cr} {who : Int} (h : (turnS c who).2 = false) : (turnS c who).1 = c := by
 unfold turnS at h ⊢
 split
 · rfl
 ·
  rename_i h1
  rw [if_neg h1] at h
  split
  · rfl
  ·
   rename_i h2
   rw [if_neg h2] at h
   split
   · rfl
   ·
    rename_i h3
    rw [if_neg h3] at h
    split
    ·
     rename_i h4
     rw [if_pos h4] at h
     cases h
    · rfl
theorem crOk_ck {c : Cr} (h : crOk c = true) : 0 ≤ c.ck ∧ c.ck ≤ 2000 := by
 unfold crOk crHead at h
 simp only [inB, Bool.and_eq_true, decide_eq_true_eq] at h
 omega
/-- What is left of the clock, read off memory. -/
def ckAt (W : World) (O : Nat) : Nat := match W.cell? ⟨O, 8, none⟩ with
 | some (.int _ z) => 2001 - z.toNat
 | _ => 0
def finM (s : Value) (W : World) (O : Nat) : Nat := match s with
 | .bool true => ckAt W O
 | _ => 0
theorem finM_yes {W : World} {O : Nat} {d : Cr} {y : CrL} (h : BoxAt W O (crCs d y).toArray 68) : finM (.bool true) W O = 2001 - d.ck.toNat := by
 have := h.cell 8
 show ckAt W O = _
 unfold ckAt
 rw [this]; rfl

/-- A right crew is returned, with memory of its own. -/
def RetCrOk (w : World) (e : Ending) (w' : World) : Prop := ∃ d y, e = .returned (crV d y) ∧ crOk d = true ∧ CrW w.heap.size w'.heap.size w' d y ∧ Below w.heap.size w w'

set_option maxRecDepth 100000 in
set_option maxHeartbeats 4000000 in
theorem sfinished_any (c : Cr) (y : CrL) (lo hi : Nat) (w : World) (hW0 : CrW lo hi w c y) (hh : hi ≤ w.heap.size) (hf : CrFit c) (hok : crOk c = true) :
  Calls Tryz.prog 45 #[crV c y] w (RetCrOk w) := by
 have HF := Lib.hid hf; clear hf
 have HOK := Lib.hid hok; clear hok
 have hyn : y.h.n = c.hs.length := hW0.h.1.symm
 have hyl : y.h.n ≤ 4 := by
  have := HOK.out
  unfold crOk crHead at this
  simp only [inB, Bool.and_eq_true, decide_eq_true_eq] at this
  omega
 clear hyn
 unfold crV
 go_enter Tryz.func45, Tryz.ntmps45
 go_wp2_with fail
 refine calls_abs (fun W => Below w.heap.size w W ∧ BoxAt W w.heap.size (crCs c y).toArray 68 ∧ BoxAt W (w.heap.size + 1) #[.int .i64 0, .int .i64 0, .slice none 0 0, .int .i64 0, .int .i64 0, .slice none 0 0, .slice none 0 0, .slice none 0 0, .int .i64 0, .slice none 0 0] 68) ⟨((Below.refl _ _).alloc (Nat.le_refl _) _).alloc (by simp) _, (BoxAt.new _ _ _).alloc _, BoxAt.new' (by simp)⟩ ?_
 rintro W0 ⟨hB, hx, hz⟩
 refine (screwOk_any c y lo hi _ (hW0.below hB hh) (Nat.le_trans hh hB.size) HF.out).mono ?_
 rintro e w1 ⟨rfl, hb1⟩
 replace hx := hx.below hb1 hx.lt
 replace hz := hz.below hb1 hz.lt
 replace hB := bstep hB hB.size hb1
 clear hb1
 rw [HOK.out]
 have kx := hx.cell
 unfold crCs at kx
 go_wp2_with fail
 clear kx
 refine (l10Copy_any c y lo hi _ (hW0.below hB hh) (Nat.le_trans hh hB.size) (crOk_neat HOK.out)).mono ?_
 rintro e w2 ⟨y1, l1, u1, l2, u2, rfl, hC1, hb2⟩
 have hQ : w.heap.size + 2 ≤ w1.heap.size := by have := hz.lt; omega
 have hC : CrN (w.heap.size + 2) w2 c y1 := CrW.mono hC1.crw hQ (Nat.le_refl _)
 replace hx := hx.below hb2 hx.lt
 replace hz := hz.below hb2 hz.lt
 replace hB := bstep hB hB.size hb2
 have hQ2 := hb2.size
 clear hb2 hC1
 unfold crV
 go_wp2
 generalize hOe : w2.heap.size = O at *
 go_loopw [4] (fun s4 W => ∃ (d : Cr) (y1 : CrL) (m : Bool), s4 = .bool m ∧ Below w.heap.size w W ∧ BoxAt W w.heap.size (crCs c y).toArray 68 ∧ BoxAt W (w.heap.size + 1) #[.int .i64 0, .int .i64 0, .slice none 0 0, .int .i64 0, .int .i64 0, .slice none 0 0, .slice none 0 0, .slice none 0 0, .int .i64 0, .slice none 0 0] 68 ∧ BoxAt W O (crCs d y1).toArray 68 ∧ CrN (w.heap.size + 2) W d y1 ∧ crOk d = true) (fun s4 W => finM s4 W O)
 case atStart =>
  exact ⟨c, y1, true, rfl, hB.alloc (by omega) _, hx.alloc _, hz.alloc _, BoxAt.new' hOe.symm, hC.belowN ((Below.refl _ _).alloc (Nat.le_refl _) _), HOK.out⟩
 case round =>
  clear hB hx hz hC
  obtain ⟨d, y1, m, rfl, hB, hx, hz, ho, hC, hdk⟩ := hrel
  have HDK := Lib.hid hdk
  clear hdk
  have hO1 := ho.lt
  cases m
  ·
   have ko := ho.cell
   have kz := hz.cell
   have fz := hz.frozen
   have lz := hz.lt
   unfold crCs at ko
   go_wp2
   refine bodyPost_ret (v := crV d y1) (by simp [results, Tryz.results45, go_sem, kz, crV]) rfl ⟨d, y1, rfl, HDK.out, ?_, ?_⟩
   · exact (CrW.sts hC (.inl (by omega)) (crCs d y1) 0).mono (by omega) (by simp)
   · exact Below.setCells (by omega) (crCs d y1) 0 hB
  ·
   have HM := Lib.hid (finM_yes ho)
   go_wp2
   go_loopw [4, 5] (fun s4 s5 W => ∃ (i : Nat) (d2 : Cr) (y2 : CrL) (m2 : Bool), i ≤ y.h.n ∧ s5 = .int .i64 i ∧ s4 = .bool m2 ∧ Below w.heap.size w W ∧ BoxAt W w.heap.size (crCs c y).toArray 68 ∧ BoxAt W (w.heap.size + 1) #[.int .i64 0, .int .i64 0, .slice none 0 0, .int .i64 0, .int .i64 0, .slice none 0 0, .slice none 0 0, .slice none 0 0, .int .i64 0, .slice none 0 0] 68 ∧ BoxAt W O (crCs d2 y2).toArray 68 ∧ CrN (w.heap.size + 2) W d2 y2 ∧ crOk d2 = true ∧ d.ck ≤ d2.ck ∧ (m2 = true → d.ck < d2.ck)) (fun _ s5 _ => y.h.n - (intOf s5).toNat)
   case atStart => exact ⟨0, d, y1, false, Nat.zero_le _, rfl, rfl, hB, hx, hz, ho, hC, HDK.out, Int.le_refl _, fun h => by cases h⟩
   case round =>
    clear hB hx hz hC ho hO1
    obtain ⟨i, d2, y2, m2, hin, rfl, rfl, hB, hx, hz, ho, hC, hdk, hle, hlt2⟩ := hrel
    have HDK2 := Lib.hid hdk
    have HLT := Lib.hid hlt2
    clear hdk hlt2
    have hO1 := ho.lt
    by_cases hlt : i < y.h.n
    ·
     have g1 : (i : Int) < (y.h.n : Int) := by omega
     have hsz : w.heap.size + 2 ≤ wr.heap.size := by have := hz.lt; omega
     have kx := hx.cell
     have ko := ho.cell
     unfold crCs at kx ko
     go_wp2_with fail
     clear kx ko
     refine (l10Turn_any d2 y2 (w.heap.size + 2) _ (i : Int) _ hC (Nat.le_refl _) HDK2.out).mono ?_
     obtain ⟨d3, is, hq⟩ : ∃ d3 is, turnS d2 (i : Int) = (d3, is) := ⟨_, _, rfl⟩
     have hk3 : crOk d3 = true := by have := turnS_ok HDK2.out (i : Int); rw [hq] at this; exact this
     have hc3 : d2.ck ≤ d3.ck ∧ (is = true → d2.ck < d3.ck) := by
      cases is
      ·
       have := turnS_same (c := d2) (who := (i : Int)) (by rw [hq])
       rw [hq] at this
       simp only at this
       rw [this]
       exact ⟨Int.le_refl _, fun h => by cases h⟩
      ·
       have := turnS_ck (c := d2) (who := (i : Int)) (by rw [hq])
       rw [hq] at this
       simp only at this
       exact ⟨by omega, fun _ => by omega⟩
     have HC3 := Lib.hid hc3
     have HK3 := Lib.hid hk3
     rw [hq]
     clear hq hc3 hk3
     rintro e w3 ⟨y3, rfl, hC3, hb3⟩
     simp only at hC3
     replace hx := hx.below hb3 hx.lt
     replace hz := hz.below hb3 hz.lt
     replace ho := ho.below hb3 ho.lt
     replace hB := bstep hB hB.size hb3
     have hs3 := hb3.size
     clear hb3 hC
     unfold crV
     clear HM
     go_upto_region 11 with fail
     refine wp_abs (fun W => Below w.heap.size w W ∧ BoxAt W w.heap.size (crCs c y).toArray 68 ∧ BoxAt W (w.heap.size + 1) #[.int .i64 0, .int .i64 0, .slice none 0 0, .int .i64 0, .int .i64 0, .slice none 0 0, .slice none 0 0, .slice none 0 0, .int .i64 0, .slice none 0 0] 68 ∧ BoxAt W O (crCs d2 y2).toArray 68 ∧ CrN (w.heap.size + 2) W d3 y3 ∧ BoxAt W w3.heap.size (crCs d3 y3).toArray 68) ⟨hB.alloc hB.size _, hx.alloc _, hz.alloc _, ho.alloc _, CrN.belowN (CrW.mono hC3 (by omega) (Nat.le_refl _)) ((Below.refl _ _).alloc (Nat.le_refl _) _), BoxAt.new _ _ _⟩ ?_
     generalize w3.heap.size = T at *
     clear hB hx hz ho hC3
     rintro W3 ⟨hB, hx, hz, ho, hC, ht⟩
     have kt := ht.cell
     have fo := ho.frozen
     have ko := ho.cell
     unfold crCs at kt ko
     have hOw : w.heap.size + 2 ≤ O := by omega
     have fin : Below w.heap.size w (setCells W3 O 0 (crCs d3 y3)) ∧ BoxAt (setCells W3 O 0 (crCs d3 y3)) w.heap.size (crCs c y).toArray 68 ∧ BoxAt (setCells W3 O 0 (crCs d3 y3)) (w.heap.size + 1) #[.int .i64 0, .int .i64 0, .slice none 0 0, .int .i64 0, .int .i64 0, .slice none 0 0, .slice none 0 0, .slice none 0 0, .int .i64 0, .slice none 0 0] 68 ∧ BoxAt (setCells W3 O 0 (crCs d3 y3)) O (crCs d3 y3).toArray 68 ∧ CrN (w.heap.size + 2) (setCells W3 O 0 (crCs d3 y3)) d3 y3 :=
      ⟨Below.setCells (by omega) (crCs d3 y3) 0 hB, BoxAt.sets_ne _ 0 hx (by omega), BoxAt.sets_ne _ 0 hz (by omega), sets_all (us := crCs d3 y3) ho rfl, CrN.setsC hC ho _ 0⟩
     cases m2
     ·
      cases is
      ·
       go_wp2
       go_roundw
       case rel => exact ⟨i + 1, d3, y3, false, by omega, by go_num, rfl, fin.1, fin.2.1, fin.2.2.1, fin.2.2.2.1, fin.2.2.2.2, HK3.out, by have := HC3.out; omega, fun h => by cases h⟩
       case measure => simp [intOf]; omega
      ·
       go_wp2
       go_roundw
       case rel => exact ⟨i + 1, d3, y3, true, by omega, by go_num, rfl, fin.1, fin.2.1, fin.2.2.1, fin.2.2.2.1, fin.2.2.2.2, HK3.out, by have := HC3.out; omega, fun _ => by have := HC3.out.2 rfl; omega⟩
       case measure => simp [intOf]; omega
     ·
      go_wp2
      go_roundw
      case rel => exact ⟨i + 1, d3, y3, true, by omega, by go_num, rfl, fin.1, fin.2.1, fin.2.2.1, fin.2.2.2.1, fin.2.2.2.2, HK3.out, by have := HC3.out; omega, fun _ => by have := HLT.out rfl; have := HC3.out; omega⟩
      case measure => simp [intOf]; omega
    ·
     have g1 : ¬ (i : Int) < (y.h.n : Int) := by omega
     have kx := hx.cell
     unfold crCs at kx
     go_wp2
     go_roundw
     case rel => exact ⟨d2, y2, m2, rfl, hB, hx, hz, ho, hC, HDK2.out⟩
     case measure =>
      have hb := crOk_ck HDK2.out
      have hb0 := crOk_ck HDK.out
      rw [HM.out]
      cases m2
      · show 0 < _; omega
      ·
       have := HLT.out rfl
       rw [finM_yes ho]; omega

end Go.Proofs.YtiiaimjlohpemaaGreat

/-
 The draws of stories.
-/
namespace Go.Proofs.YtiiaimjlohpemaaGreat
set_option linter.unusedSimpArgs false
set_option linter.unusedVariables false
open Go.RowKit
set_option linter.unusedVariables false
attribute [local go_sem ↓] Go.wp_at_zero Go.wp_at_succ

theorem l11DrawStory_any (N k : Nat) (a0 : Option Addr) (len cap : Nat) (w : World) (hc : CodeOk N w a0 len) (hk : N ≤ k) (hN : N ≤ w.heap.size) (hcur : CurAt w k a0 len cap) :
  Calls Tryz.prog 33 #[pT k] w (DrawsS k a0 len cap w) := by
 refine l11DrawStory_of (fun v W => ∃ c y, v = crV c y ∧ crOk c = true ∧ CrN 0 W c y) ?_ ?_ N k a0 len cap w hc hk hN hcur
 ·
  intro N k a0 len cap W hc hk hN hcur
  refine (l10Draw_any N k a0 len cap W hc hk hN hcur).mono ?_
  rintro e w' ⟨c, y, rfl, hok, hC, hB, hcur'⟩
  exact ⟨_, rfl, ⟨c, y, rfl, hok, CrW.mono hC (Nat.zero_le _) (Nat.le_refl _)⟩, hB, hcur'⟩
 ·
  rintro v W ⟨c, y, rfl, hok, hC⟩
  refine (sfinished_any c y 0 W.heap.size W hC (Nat.le_refl _) (crOk_neat hok).fit hok).mono ?_
  rintro e w' ⟨d, y', rfl, hd, hW, hb⟩
  refine ⟨_, _, _, _, _, _, _, _, _, _, _, _, _, _, _, _, _, _, _, _, d.es, rfl, ?_, hW.e, hb⟩
  rw [← hW.e.1]
  have hs : storyOk d.es = true := by
   unfold crOk crHead at hd
   simp only [Bool.and_eq_true] at hd
   exact hd.1.2
  unfold storyOk at hs
  simp only [Bool.and_eq_true, decide_eq_true_eq] at hs
  exact hs.2

set_option maxHeartbeats 1000000 in
theorem drawStoryOk_any (a0 : Option Addr) (len cap : Nat) (w : World) (hc : CodeOk w.heap.size w a0 len) :
  Calls Tryz.prog 16 #[.slice a0 len cap] w (DrawnS w) := by
 go_enter Tryz.func16, Tryz.ntmps16
 go_wp2_with fail
 refine (l1New_any w.heap.size a0 len cap _ hc).mono ?_
 rintro e w1 ⟨h, rfl, rfl⟩
 go_wp2_with fail
 refine calls_abs (fun W => Below w.heap.size w W ∧ CurAt W w.heap.size a0 len cap) ⟨(Below.refl _ _).alloc (Nat.le_refl _) _, 0, h, Nat.zero_le _, BoxAt.new _ _ _⟩ ?_
 rintro W ⟨hB, hcur⟩
 refine (l11DrawStory_any w.heap.size w.heap.size a0 len cap _ (hc.below hB) (Nat.le_refl _) hB.size hcur).mono ?_
 rintro e w2 ⟨l, A, c, rfl, hl, hW, hB2, hcur2⟩
 go_wp2
 go_ret
 exact ⟨l, A, c, rfl, hl, SlW.mono hW hB.size (Nat.le_refl _), hB.trans (hB2.below (Nat.le_refl _) hB.size)⟩

end Go.Proofs.YtiiaimjlohpemaaGreat

/-
 Two lists of numbers that are alike, by the laws' own helper.
-/
namespace Go.Proofs.YtiiaimjlohpemaaGreat
set_option linter.unusedSimpArgs false
set_option linter.unusedVariables false
open Go.RowKit
set_option linter.unusedVariables false
attribute [local go_sem ↓] Go.wp_at_zero Go.wp_at_succ

set_option maxHeartbeats 400000 in
theorem big_any (a0 : Option Addr) (len cap : Nat) (w : World) : Calls Tryz.prog 4 #[.slice a0 len cap] w (Quiet1 (.bool (decide (4096 < (len : Int)))) w) := by
 go_enter Tryz.func4, Tryz.ntmps4
 go_wp2
 go_ret
 exact ⟨rfl, rfl⟩

end Go.Proofs.YtiiaimjlohpemaaGreat

/-
 What is in a line: nothing of it is there twice, it is in order, and it was empty where it said so.
-/
namespace Go.Proofs.YtiiaimjlohpemaaGreat
set_option linter.unusedSimpArgs false
set_option linter.unusedVariables false
open Go.RowKit
set_option linter.unusedVariables false

/-! ### An order -/

theorem sumN_pos {f : Nat → Nat} : ∀ {n : Nat}, 0 < sumN f n → ∃ i, i < n ∧ 0 < f i
 | 0, h => absurd h (Nat.lt_irrefl 0)
 | n + 1, h => by
  rw [sumN] at h
  by_cases h1 : 0 < f n
  · exact ⟨n, by omega, h1⟩
  ·
   obtain ⟨i, hi, hf⟩ := sumN_pos (f := f) (n := n) (by omega)
   exact ⟨i, by omega, hf⟩
theorem nextE_all {left : List Ev} {x : Ev} (h : nextE left x = true) : ∀ o ∈ left, ¬ o.e < x.b := fun o ho => by
 rw [nextE, List.all_eq_true] at h
 have := h o ho
 simpa using this
theorem perm_erase {l : List Ev} {i : Nat} {x : Ev} (h : l[i]? = some x) : (x :: l.eraseIdx i).Perm l := by
 induction l generalizing i with
 | nil => simp at h
 | cons y t ih =>
  cases i with
  | zero => simp at h; subst h; exact .refl _
  | succ i =>
   rw [List.getElem?_cons_succ] at h
   rw [List.eraseIdx_cons_succ]
   exact (List.Perm.swap y x _).trans (.cons y (ih h))
/-- Where there is an order there is one. -/
theorem order_of : ∀ (k : Nat) (left : List Ev) (line : List Int), left.length = k → 0 < cntO k left line → ∃ xs : List Ev, xs.Perm left ∧ chainB xs line = true ∧ xs.Pairwise fun a b => ¬ b.e < a.b
 | 0, left, line, hk, _ => ⟨[], by rw [List.eq_nil_of_length_eq_zero hk], rfl, .nil⟩
 | k + 1, left, line, hk, h => by
  rw [cntO] at h
  obtain ⟨i, hi, hf⟩ := sumN_pos h
  obtain ⟨x, hx⟩ : ∃ x, left[i]? = some x := ⟨_, List.getElem?_eq_getElem hi⟩
  rw [stepN_at hx] at hf
  cases hb : ((explains line x).2 && nextE left x)
  · rw [hb] at hf; exact absurd hf (Nat.lt_irrefl 0)
  ·
   rw [hb] at hf
   simp only [Bool.and_eq_true] at hb
   obtain ⟨xs, hp, hc, hw⟩ := order_of k (left.eraseIdx i) (explains line x).1 (by rw [List.length_eraseIdx]; simp [hi, hk]; omega) hf
   have hpx := (List.Perm.cons x hp).trans (perm_erase hx)
   refine ⟨x :: xs, hpx, by rw [chainB, hb.1, hc]; rfl, List.pairwise_cons.2 ⟨fun y hy => nextE_all hb.2 y (hpx.mem_iff.1 (List.mem_cons_of_mem _ hy)), hw⟩⟩

/-! ### The line along an order -/

def runL : List Ev → List Int → List Int
 | [], line => line
 | x :: t, line => runL t (explains line x).1
def putsL (xs : List Ev) : List Int := (xs.filter fun x => x.re == 1).map Ev.v
def gotsL (xs : List Ev) : List Int := (xs.filter fun x => x.re == 4).map Ev.v
theorem chain_app : ∀ (p s : List Ev) (line : List Int), chainB (p ++ s) line = (chainB p line && chainB s (runL p line))
 | [], s, line => by simp [chainB, runL]
 | x :: p, s, line => by rw [List.cons_append, chainB, chain_app p s, chainB, runL, Bool.and_assoc]
/-- What one event that is explained makes of a line. -/
theorem ex_kind {line : List Int} {x : Ev} (h : (explains line x).2 = true) :
  (x.put = true ∧ x.re = 1 ∧ (explains line x).1 = line ++ [x.v]) ∨ (x.put = true ∧ x.re = 2 ∧ (explains line x).1 = line) ∨ (x.put = false ∧ x.re = 4 ∧ line = x.v :: (explains line x).1) ∨ (x.put = false ∧ x.re = 3 ∧ line = [] ∧ (explains line x).1 = line) := by
 cases hok : lineOk line
 · rw [ex_no hok] at h; cases h
 cases hev : evOk x
 · rw [ex_ev hok hev] at h; cases h
 rcases ev_shape hev with ⟨hp, hr | hr⟩ | ⟨hp, hr | hr⟩
 ·
  rw [ex1 hok hev hp hr] at h ⊢
  refine .inl ⟨hp, hr, ?_⟩
  unfold linePut at h ⊢
  rw [hok] at h ⊢
  cases hb : (valB x.v && !decide (line.length = 40))
  · rw [hb] at h; cases h
  · rfl
 ·
  rw [ex2 hok hev hp hr]
  exact .inr (.inl ⟨hp, hr, rfl⟩)
 ·
  rw [ex4 hok hev hp hr] at h ⊢
  refine .inr (.inr (.inl ⟨hp, hr, ?_⟩))
  unfold lineTake at h ⊢
  rw [hok] at h ⊢
  cases line with
  | nil => simp at h
  | cons y t =>
   simp only [cond_true, Bool.true_and] at h ⊢
   cases hb : (y == x.v)
   · rw [hb] at h; cases h
   · simp only [beq_iff_eq] at hb; rw [hb]; rfl
 ·
  rw [ex3 hok hev hp hr] at h ⊢
  simp only [decide_eq_true_eq] at h
  exact .inr (.inr (.inr ⟨hp, hr, List.eq_nil_of_length_eq_zero h, rfl⟩))
theorem queue : ∀ (xs : List Ev) (line : List Int), chainB xs line = true → line ++ putsL xs = gotsL xs ++ runL xs line
 | [], line, _ => by simp [putsL, gotsL, runL]
 | x :: t, line, h => by
  rw [chainB, Bool.and_eq_true] at h
  have ih := queue t (explains line x).1 h.2
  rcases ex_kind h.1 with ⟨_, hr, e⟩ | ⟨_, hr, e⟩ | ⟨_, hr, e⟩ | ⟨_, hr, e0, e⟩
  ·
   rw [e] at ih
   have h1 : putsL (x :: t) = x.v :: putsL t := by simp [putsL, hr]
   have h2 : gotsL (x :: t) = gotsL t := by simp [gotsL, hr]
   rw [h1, h2, runL, e, ← ih]; simp
  ·
   rw [e] at ih
   have h1 : putsL (x :: t) = putsL t := by simp [putsL, hr]
   have h2 : gotsL (x :: t) = gotsL t := by simp [gotsL, hr]
   rw [h1, h2, runL, e, ← ih]
  ·
   have h1 : putsL (x :: t) = putsL t := by simp [putsL, hr]
   have h2 : gotsL (x :: t) = x.v :: gotsL t := by simp [gotsL, hr]
   rw [h1, h2, runL, List.cons_append, ← ih]
   conv => lhs; rw [e]
   rfl
  ·
   rw [e] at ih
   have h1 : putsL (x :: t) = putsL t := by simp [putsL, hr]
   have h2 : gotsL (x :: t) = gotsL t := by simp [gotsL, hr]
   rw [h1, h2, runL, e, ← ih]

/-! ### What holds along an order -/

theorem mem_puts {xs : List Ev} {v : Int} : v ∈ putsL xs ↔ ∃ y ∈ xs, y.re = 1 ∧ y.v = v := by
 unfold putsL
 rw [List.mem_map]
 constructor
 ·
  rintro ⟨y, hy, rfl⟩
  rw [List.mem_filter] at hy
  exact ⟨y, hy.1, by simpa using hy.2, rfl⟩
 ·
  rintro ⟨y, hy, h1, rfl⟩
  exact ⟨y, List.mem_filter.2 ⟨hy, by simpa using h1⟩, rfl⟩
theorem mem_gots {xs : List Ev} {v : Int} : v ∈ gotsL xs ↔ ∃ y ∈ xs, y.re = 4 ∧ y.v = v := by
 unfold gotsL
 rw [List.mem_map]
 constructor
 ·
  rintro ⟨y, hy, rfl⟩
  rw [List.mem_filter] at hy
  exact ⟨y, hy.1, by simpa using hy.2, rfl⟩
 ·
  rintro ⟨y, hy, h1, rfl⟩
  exact ⟨y, List.mem_filter.2 ⟨hy, by simpa using h1⟩, rfl⟩
theorem puts_app (p s : List Ev) : putsL (p ++ s) = putsL p ++ putsL s := by simp [putsL]
theorem gots_app (p s : List Ev) : gotsL (p ++ s) = gotsL p ++ gotsL s := by simp [gotsL]
theorem times_put : ∀ {l : List Ev}, (∀ x ∈ l, evOk x = true) → ∀ v, times l v true = (putsL l).count v
 | [], _, v => rfl
 | x :: t, h, v => by
  have ih := times_put (l := t) (fun y hy => h y (List.mem_cons_of_mem _ hy)) v
  unfold times putsL at ih ⊢
  rcases ev_shape (h x List.mem_cons_self) with ⟨hp, hr | hr⟩ | ⟨hp, hr | hr⟩
  ·
   by_cases e : x.v = v
   ·
    simp [List.filter_cons, hp, hr, e]
    simpa using ih
   ·
    simp [List.filter_cons, hp, hr, e]
    simpa using ih
  ·
   simp [List.filter_cons, hp, hr]
   simpa using ih
  ·
   simp [List.filter_cons, hp, hr]
   simpa using ih
  ·
   simp [List.filter_cons, hp, hr]
   simpa using ih
theorem times_got : ∀ {l : List Ev}, (∀ x ∈ l, evOk x = true) → ∀ v, times l v false = (gotsL l).count v
 | [], _, v => rfl
 | x :: t, h, v => by
  have ih := times_got (l := t) (fun y hy => h y (List.mem_cons_of_mem _ hy)) v
  unfold times gotsL at ih ⊢
  rcases ev_shape (h x List.mem_cons_self) with ⟨hp, hr | hr⟩ | ⟨hp, hr | hr⟩
  ·
   simp [List.filter_cons, hp, hr]
   simpa using ih
  ·
   simp [List.filter_cons, hp, hr]
   simpa using ih
  ·
   by_cases e : x.v = v
   ·
    simp [List.filter_cons, hp, hr, e]
    simpa using ih
   ·
    simp [List.filter_cons, hp, hr, e]
    simpa using ih
  ·
   simp [List.filter_cons, hp, hr]
   simpa using ih
theorem ev_pos {x : Ev} (h : evOk x = true) (hr : x.re = 1 ∨ x.re = 4) : 0 < x.v ∧ x.put = decide (x.re = 1) := by
 have hs := ev_shape h
 simp only [evOk, Bool.and_eq_true] at h
 have h2 := h.2
 rcases hs with ⟨hp, h1⟩ | ⟨hp, h1⟩
 ·
  rw [hp] at h2
  simp only [cond_true, Bool.and_eq_true] at h2
  have hv := h2.1
  simp only [valB, inB, Bool.and_eq_true, decide_eq_true_eq] at hv
  refine ⟨by omega, ?_⟩
  rw [hp]; symm; rw [decide_eq_true_eq]; omega
 ·
  rw [hp] at h2
  have h4 : x.re = 4 := by omega
  simp [h4] at h2
  simp only [valB, inB, Bool.and_eq_true, decide_eq_true_eq] at h2
  refine ⟨by omega, ?_⟩
  rw [hp, h4]; rfl
theorem split_one {v : Int} : ∀ {a b c d : List Int}, a ++ v :: b = c ++ v :: d → v ∉ a → v ∉ c → a = c
 | [], _, [], _, _, _, _ => rfl
 | [], _, y :: c, _, h, _, hc => by
  simp at h
  exact absurd (by rw [h.1]; exact List.mem_cons_self) hc
 | x :: a, _, [], _, h, ha, _ => by
  simp at h
  exact absurd (by rw [h.1]; exact List.mem_cons_self) ha
 | x :: a, _, y :: c, _, h, ha, hc => by
  simp at h
  rw [h.1, split_one h.2 (fun h => ha (List.mem_cons_of_mem _ h)) (fun h => hc (List.mem_cons_of_mem _ h))]
theorem one_of {l : List Ev} {f : Ev → Bool} (h : (l.filter f).length ≤ 1) {a b : Ev} (ha : a ∈ l) (hb : b ∈ l) (fa : f a = true) (fb : f b = true) : a = b := by
 have h1 : a ∈ l.filter f := List.mem_filter.2 ⟨ha, fa⟩
 have h2 : b ∈ l.filter f := List.mem_filter.2 ⟨hb, fb⟩
 cases hl : l.filter f with
 | nil => rw [hl] at h1; simp at h1
 | cons c t =>
  rw [hl] at h h1 h2
  have : t = [] := by simp at h; exact h
  subst this
  simp at h1 h2
  rw [h1, h2]

/-- An order of a story. -/
structure Order (l xs : List Ev) : Prop where
 perm : xs.Perm l
 chain : chainB xs [] = true
 pair : xs.Pairwise fun a b => ¬ b.e < a.b
 ok : ∀ x ∈ l, evOk x = true
section
variable {l xs : List Ev} (h : Order l xs)
include h
theorem Order.at_ {p s : List Ev} {x : Ev} (e : xs = p ++ x :: s) : chainB p [] = true ∧ (explains (runL p []) x).2 = true := by
 have hc := h.chain
 rw [e, chain_app, chainB, Bool.and_eq_true, Bool.and_eq_true] at hc
 exact ⟨hc.1, hc.2.1⟩
theorem Order.before {p s : List Ev} {x y : Ev} (e : xs = p ++ x :: s) (hy : y ∈ p) : ¬ x.e < y.b := by
 have hp := h.pair
 rw [e, List.pairwise_append] at hp
 exact hp.2.2 y hy x List.mem_cons_self
theorem Order.behind {p s : List Ev} {x y : Ev} (e : xs = p ++ x :: s) (hy : y ∈ s) : ¬ y.e < x.b := by
 have hp := h.pair
 rw [e, List.pairwise_append, List.pairwise_cons] at hp
 exact hp.2.1.1 y hy
theorem Order.mem {x : Ev} : x ∈ xs ↔ x ∈ l := h.perm.mem_iff
theorem Order.oks : ∀ x ∈ xs, evOk x = true := fun x hx => h.ok x (h.mem.1 hx)
theorem Order.puts (v : Int) : times l v true = (putsL xs).count v := by
 rw [times_put h.ok]
 exact (((h.perm.filter _).map _).count_eq v).symm
theorem Order.gots (v : Int) : times l v false = (gotsL xs).count v := by
 rw [times_got h.ok]
 exact (((h.perm.filter _).map _).count_eq v).symm
/-- At a take of a value the line begins with it; at an empty one it is empty. -/
theorem Order.take {p s : List Ev} {x : Ev} (e : xs = p ++ x :: s) (hr : x.re = 4) : ∃ r, putsL p = gotsL p ++ x.v :: r := by
 have h1 := h.at_ e
 have hq := queue p [] h1.1
 rcases ex_kind h1.2 with ⟨_, h2, _⟩ | ⟨_, h2, _⟩ | ⟨_, _, h2⟩ | ⟨_, h2, _⟩
 · omega
 · omega
 · rw [h2] at hq; exact ⟨_, by simpa using hq⟩
 · omega
theorem Order.none {p s : List Ev} {x : Ev} (e : xs = p ++ x :: s) (hr : x.re = 3) : putsL p = gotsL p := by
 have h1 := h.at_ e
 have hq := queue p [] h1.1
 rcases ex_kind h1.2 with ⟨_, h2, _⟩ | ⟨_, h2, _⟩ | ⟨_, h2, _⟩ | ⟨_, _, h2, _⟩
 · omega
 · omega
 · omega
 · rw [h2] at hq; simpa using hq
theorem Order.gotB {v : Int} {o g : Ev} (htw : twiceB l = false) (hg : g ∈ l) (h4 : g.re = 4) (hv : g.v = v) (hb : ¬ o.e < g.b) : gotB l v o = true := by
 unfold Go.Proofs.YtiiaimjlohpemaaGreat.gotB
 have hp := ev_pos (h.ok g hg) (.inr h4)
 have hput : g.put = false := by rw [hp.2, h4]; rfl
 have h1 : times l g.v g.put ≤ 1 := by
  rw [twiceB, List.any_eq_false] at htw
  have := htw g hg
  simp only [h4, hp.1, decide_true, Bool.and_eq_true, decide_eq_true_eq, Bool.not_eq_true] at this
  have h5 : ¬ 1 < times l g.v g.put := fun h => this ⟨⟨rfl, trivial⟩, h⟩
  omega
 rw [hput] at h1
 cases hf : l.find? fun x => x.re == 4 && x.v == v with
 | none =>
  rw [List.find?_eq_none] at hf
  exact absurd (by simp [h4, hv]) (hf g hg)
 | some x =>
  have hx := List.mem_of_find?_eq_some hf
  have hfx := List.find?_some hf
  simp only [Bool.and_eq_true, beq_iff_eq] at hfx
  have hpx := ev_pos (h.ok x hx) (.inr hfx.1)
  have hputx : x.put = false := by rw [hpx.2, hfx.1]; rfl
  have : x = g := one_of h1 hx hg (by simp [hputx, hfx.1, hfx.2, hv]) (by simp [hput, h4])
  rw [this]
  simp; omega
end

theorem Order.nothingTwice {l xs : List Ev} (h : Order l xs) (hs : storyOk l = true) : nothingTwice l = true := by
 unfold Go.Proofs.YtiiaimjlohpemaaGreat.nothingTwice
 rw [hs, Bool.and_true, List.all_eq_true]
 intro x hx
 by_cases hr : x.re = 4
 ·
  simp only [hr, beq_self_eq_true, Bool.not_true, Bool.false_or, Bool.and_eq_true, decide_eq_true_eq]
  refine ⟨?_, ?_⟩
  ·
   rw [h.gots, h.puts]
   have hq := queue xs [] h.chain
   rw [List.nil_append] at hq
   rw [hq, List.count_append]; omega
  ·
   obtain ⟨p, s, e⟩ := List.append_of_mem (h.mem.2 hx)
   obtain ⟨r, hq⟩ := h.take e hr
   have hm : x.v ∈ putsL p := by rw [hq]; simp
   obtain ⟨y, hy, h1, hv⟩ := mem_puts.1 hm
   rw [List.any_eq_true]
   refine ⟨y, h.mem.1 (by rw [e]; exact List.mem_append_left _ hy), ?_⟩
   have := h.before e hy
   simp [h1, hv]; omega
 · simp [hr]

theorem Order.inOrder {l xs : List Ev} (h : Order l xs) (hs : storyOk l = true) : inOrder l = true := by
 unfold Go.Proofs.YtiiaimjlohpemaaGreat.inOrder
 rw [hs, Bool.true_and]
 cases htw : twiceB l
 ·
  rw [Bool.false_or, List.all_eq_true]
  intro x hx
  rw [List.all_eq_true]
  intro y hy
  by_cases hc : x.re = 1 ∧ y.re = 1 ∧ x.e < y.b
  ·
   obtain ⟨hx1, hy1, hxy⟩ := hc
   have : (!(x.re == 1 && y.re == 1 && decide (x.e < y.b))) = false := by simp [hx1, hy1, hxy]
   rw [this, Bool.false_or, List.all_eq_true]
   intro z hz
   by_cases hz4 : z.re = 4 ∧ z.v = y.v
   ·
    have h2 : (!(z.re == 4 && z.v == y.v)) = false := by simp [hz4.1, hz4.2]
    rw [h2, Bool.false_or]
    obtain ⟨p, s, e⟩ := List.append_of_mem (h.mem.2 hz)
    obtain ⟨r, hq⟩ := h.take e hz4.1
    rw [hz4.2] at hq
    have hpy := ev_pos (h.ok y hy) (.inl hy1)
    have hputy : y.put = true := by rw [hpy.2, hy1]; rfl
    have hcnt : (putsL xs).count y.v ≤ 1 := by
     rw [← h.puts]
     rw [twiceB, List.any_eq_false] at htw
     have h5 := htw y hy
     rw [hputy] at h5
     simp only [hy1, hpy.1, decide_true, Bool.and_eq_true, decide_eq_true_eq, Bool.not_eq_true] at h5
     have h6 : ¬ 1 < times l y.v true := fun h => h5 ⟨⟨rfl, trivial⟩, h⟩
     omega
    have hcp : (putsL p).count y.v = 1 + (gotsL p).count y.v + r.count y.v := by
     rw [hq, List.count_append, List.count_cons_self]; omega
    have hall : (putsL xs).count y.v = (putsL p).count y.v + (putsL (z :: s)).count y.v := by rw [e, puts_app, List.count_append]
    have hyp : y ∈ p := by
     have hm := h.mem.2 hy
     rw [e, List.mem_append, List.mem_cons] at hm
     rcases hm with hm | rfl | hm
     · exact hm
     · omega
     ·
      have : y.v ∈ putsL (z :: s) := mem_puts.2 ⟨y, List.mem_cons_of_mem _ hm, hy1, rfl⟩
      have := List.count_pos_iff.2 this
      omega
    obtain ⟨p1, p2, e1⟩ := List.append_of_mem hyp
    have e2 : xs = p1 ++ y :: (p2 ++ z :: s) := by rw [e, e1]; simp
    have hyb : y.b ≤ y.e := by
     have h3 := h.ok y hy
     simp only [evOk, inB, Bool.and_eq_true, decide_eq_true_eq] at h3
     omega
    have hxp : x ∈ p1 := by
     have hm := h.mem.2 hx
     rw [e2, List.mem_append, List.mem_cons] at hm
     rcases hm with hm | rfl | hm
     · exact hm
     · omega
     · exact absurd hxy (h.behind e2 hm)
    have hpp : putsL p = putsL p1 ++ y.v :: putsL p2 := by
     rw [e1, puts_app]
     simp [putsL, hy1]
    have hn1 : y.v ∉ putsL p1 := fun hm => by
     have := List.count_pos_iff.2 hm
     have h7 : (putsL p).count y.v = (putsL p1).count y.v + (1 + (putsL p2).count y.v) := by rw [hpp, List.count_append, List.count_cons_self]; omega
     omega
    have hn2 : y.v ∉ gotsL p := fun hm => by
     have := List.count_pos_iff.2 hm
     omega
    have heq := split_one (hpp.symm.trans hq) hn1 hn2
    have hm : x.v ∈ gotsL p := by rw [← heq]; exact mem_puts.2 ⟨x, hxp, hx1, rfl⟩
    obtain ⟨g, hg, hg4, hgv⟩ := mem_gots.1 hm
    exact h.gotB htw (h.mem.1 (by rw [e]; exact List.mem_append_left _ hg)) hg4 hgv (h.before e hg)
   ·
    have h2 : (!(z.re == 4 && z.v == y.v)) = true := by
     cases hb : (z.re == 4 && z.v == y.v)
     · rfl
     · simp only [Bool.and_eq_true, beq_iff_eq] at hb; exact absurd hb hz4
    rw [h2]; rfl
  ·
   have : (!(x.re == 1 && y.re == 1 && decide (x.e < y.b))) = true := by
    cases hb : (x.re == 1 && y.re == 1 && decide (x.e < y.b))
    · rfl
    · simp only [Bool.and_eq_true, beq_iff_eq, decide_eq_true_eq] at hb; exact absurd ⟨hb.1.1, hb.1.2, hb.2⟩ hc
   rw [this]; rfl
 · rfl

theorem Order.emptyHeld {l xs : List Ev} (h : Order l xs) (hs : storyOk l = true) : emptyHeld l = true := by
 unfold Go.Proofs.YtiiaimjlohpemaaGreat.emptyHeld
 rw [hs, Bool.true_and]
 cases htw : twiceB l
 ·
  rw [Bool.false_or, List.all_eq_true]
  intro x hx
  rw [List.all_eq_true]
  intro y hy
  by_cases hc : x.re = 3 ∧ y.re = 1 ∧ y.e < x.b
  ·
   obtain ⟨hx3, hy1, hyx⟩ := hc
   have : (!(x.re == 3 && y.re == 1 && decide (y.e < x.b))) = false := by simp [hx3, hy1, hyx]
   rw [this, Bool.false_or]
   obtain ⟨p, s, e⟩ := List.append_of_mem (h.mem.2 hx)
   have hq := h.none e hx3
   have hyp : y ∈ p := by
    have hm := h.mem.2 hy
    rw [e, List.mem_append, List.mem_cons] at hm
    rcases hm with hm | rfl | hm
    · exact hm
    · omega
    · exact absurd hyx (h.behind e hm)
   have hm : y.v ∈ gotsL p := by rw [← hq]; exact mem_puts.2 ⟨y, hyp, hy1, rfl⟩
   obtain ⟨g, hg, hg4, hgv⟩ := mem_gots.1 hm
   exact h.gotB htw (h.mem.1 (by rw [e]; exact List.mem_append_left _ hg)) hg4 hgv (h.before e hg)
  ·
   have : (!(x.re == 3 && y.re == 1 && decide (y.e < x.b))) = true := by
    cases hb : (x.re == 3 && y.re == 1 && decide (y.e < x.b))
    · rfl
    · simp only [Bool.and_eq_true, beq_iff_eq, decide_eq_true_eq] at hb; exact absurd ⟨hb.1.1, hb.1.2, hb.2⟩ hc
   rw [this]; rfl
 · rfl

end Go.Proofs.YtiiaimjlohpemaaGreat

/-
 The law on facts: what is in a line, with no value put twice, has nothing twice, is in order, and was empty where it said so.
-/
namespace Go.Proofs.YtiiaimjlohpemaaGreat
set_option linter.unusedSimpArgs false
set_option linter.unusedVariables false
open Go.RowKit
set_option linter.unusedVariables false
attribute [local go_sem ↓] Go.wp_at_zero Go.wp_at_succ

theorem facts_no {l : List Ev} (h : storyOk l = false) : nothingTwice l = false ∧ inOrder l = false ∧ emptyHeld l = false ∧ busyZ l = -1 := by
 refine ⟨?_, ?_, ?_, ?_⟩
 · unfold nothingTwice; rw [h, Bool.and_false]
 · unfold inOrder; rw [h, Bool.false_and]
 · unfold emptyHeld; rw [h, Bool.false_and]
 · unfold busyZ; rw [h]; rfl
theorem busyTo_one {l : List Ev} (h : storyOk l = true) : ∀ i, 0 < i → i ≤ l.length → 1 ≤ busyTo l i
 | 0, h0, _ => absurd h0 (by omega)
 | i + 1, _, hi => by
  obtain ⟨x, hx⟩ : ∃ x, l[i]? = some x := ⟨_, List.getElem?_eq_getElem (by omega)⟩
  rw [busyTo_next hx]
  have hm := List.mem_of_getElem? hx
  have hev := story_ev h x hm
  have hbe : x.b ≤ x.e := by
   unfold evOk at hev
   simp only [Bool.and_eq_true, inB, decide_eq_true_eq] at hev
   omega
  have : 0 < busyN l x.b := by
   unfold busyN
   rw [List.length_pos_iff]
   intro he
   rw [List.filter_eq_nil_iff] at he
   exact he x hm (by simp; omega)
  omega
theorem facts_busy {l : List Ev} (h : storyOk l = true) : busyZ l ≤ l.length ∧ (0 < l.length → 1 ≤ busyZ l) := by
 unfold busyZ
 rw [h]
 have h1 := busyTo_le l l.length
 refine ⟨by simpa using h1, fun h0 => ?_⟩
 have h2 := busyTo_one h l.length h0 (Nat.le_refl _)
 simp; omega
theorem facts_lined {l : List Ev} (h : storyOk l = true) (hl : linedB l = true) : nothingTwice l = true ∧ inOrder l = true ∧ emptyHeld l = true := by
 unfold linedB at hl
 simp only [Bool.and_eq_true, decide_eq_true_eq] at hl
 obtain ⟨xs, h1, h2, h3⟩ := order_of l.length l [] rfl hl.2
 have ho : Order l xs := ⟨h1, h2, h3, story_ev h⟩
 exact ⟨ho.nothingTwice h, ho.inOrder h, ho.emptyHeld h⟩

set_option maxRecDepth 100000 in
set_option maxHeartbeats 4000000 in
theorem fnFacts_of (HDN : ∀ (a0 : Option Addr) (len cap : Nat) (w : World), CodeOk w.heap.size w a0 len → Calls Tryz.prog 5 #[.slice a0 len cap] w (DrawnS w))
  (a0 : Option Addr) (len cap : Nat) (w : World) (hc : CodeOk w.heap.size w a0 len) :
  Calls Tryz.prog 3 #[.slice a0 len cap] w (RetBelow (.bool true) w) := by
 by_cases hbg : 4096 < (len : Int)
 ·
  have hbg' : decide (4096 < (len : Int)) = true := decide_eq_true hbg
  go_enter Tryz.func3, Tryz.ntmps3
  go_wp2_with fail
  refine (big_any _ _ _ _).mono ?_
  rintro e w' ⟨rfl, rfl⟩
  go_wp2
  go_ret
  exact .mk rfl (Below.refl _ _)
 ·
  have hbg' : decide (4096 < (len : Int)) = false := decide_eq_false hbg
  go_enter Tryz.func3, Tryz.ntmps3
  go_wp2_with fail
  refine (big_any _ _ _ _).mono ?_
  rintro e w' ⟨rfl, rfl⟩
  go_wp2_with fail
  refine (HDN a0 len cap _ hc).mono ?_
  rintro e w1 ⟨l, A, c, rfl, hl16, hW, hB⟩
  have hl := EvsW.r hW
  have hn : l.length ≤ 1048576 := by omega
  clear hW
  go_wp2_with fail
  refine (inothing2_any l A l.length c _ hl hn).mono ?_
  rintro e w2 ⟨rfl, hb⟩
  replace hl := hl.below hb
  replace hB := bstep hB hB.size hb
  clear hb
  go_wp2_with fail
  refine (iinOrder2_any l A l.length c _ hl hn).mono ?_
  rintro e w3 ⟨rfl, hb⟩
  replace hl := hl.below hb
  replace hB := bstep hB hB.size hb
  clear hb
  go_wp2_with fail
  refine (iempty2_any l A l.length c _ hl hn).mono ?_
  rintro e w4 ⟨rfl, hb⟩
  replace hl := hl.below hb
  replace hB := bstep hB hB.size hb
  clear hb
  go_wp2_with fail
  refine (ibusy_any l A l.length c _ hl hn).mono ?_
  rintro e w5 ⟨rfl, hb⟩
  replace hl := hl.below hb
  replace hB := bstep hB hB.size hb
  clear hb
  go_wp2_with fail
  refine (snothing_any l A l.length c _ hl hn).mono ?_
  rintro e w6 ⟨rfl, hb⟩
  replace hl := hl.below hb
  replace hB := bstep hB hB.size hb
  clear hb
  have H0 := Lib.hid (facts_no (l := l))
  have H1 := Lib.hid (facts_busy (l := l))
  have H2 := Lib.hid (facts_lined (l := l))
  obtain ⟨na, hna⟩ : ∃ na, nothingTwice l = na := ⟨_, rfl⟩
  rw [hna] at H0 H2 ⊢
  have hq : (na != na) = false := by cases na <;> rfl
  clear hna
  go_wp2_with fail
  refine (sinOrder_any l A l.length c _ hl hn).mono ?_
  rintro e w7 ⟨rfl, hb⟩
  replace hl := hl.below hb
  replace hB := bstep hB hB.size hb
  clear hb
  obtain ⟨no, hno⟩ : ∃ no, inOrder l = no := ⟨_, rfl⟩
  rw [hno] at H0 H2 ⊢
  have hq2 : (no != no) = false := by cases no <;> rfl
  clear hno
  go_wp2_with fail
  refine (sempty_any l A l.length c _ hl hn).mono ?_
  rintro e w8 ⟨rfl, hb⟩
  replace hl := hl.below hb
  replace hB := bstep hB hB.size hb
  clear hb
  obtain ⟨ne, hne⟩ : ∃ ne, emptyHeld l = ne := ⟨_, rfl⟩
  rw [hne] at H0 H2 ⊢
  have hq3 : (ne != ne) = false := by cases ne <;> rfl
  clear hne
  go_wp2_with fail
  refine (sbusy_any l A l.length c _ hl hn).mono ?_
  rintro e w9 ⟨rfl, hb⟩
  replace hl := hl.below hb
  replace hB := bstep hB hB.size hb
  clear hb
  obtain ⟨z, hz⟩ : ∃ z, busyZ l = z := ⟨_, rfl⟩
  rw [hz] at H0 H1 ⊢
  have hq4 : (z != z) = false := by simp
  clear hz
  go_wp2_with fail
  refine (sstory_any l A l.length c _ hl hn).mono ?_
  rintro e w10 ⟨rfl, hb⟩
  replace hl := hl.below hb
  replace hB := bstep hB hB.size hb
  clear hb
  cases hok : storyOk l
  ·
   obtain ⟨rfl, rfl, rfl, rfl⟩ := H0.out hok
   clear hok
   go_wp2
   go_ret
   exact .mk rfl hB
  ·
   obtain ⟨hz1, hz2⟩ := H1.out hok
   have hz3 : ¬ z > (l.length : Int) := by omega
   have HOK := Lib.hid hok
   clear hok
   have hmid : 0 < l.length ∧ ¬ z < 1 ∨ ¬ (l.length : Int) > 0 := by omega
   rcases hmid with ⟨hp, hz4⟩ | hp
   ·
    have hp' : (l.length : Int) > 0 := by omega
    go_wp2_with fail
    refine (slined_any l A l.length c _ hl hn).mono ?_
    rintro e w11 ⟨rfl, hb⟩
    replace hB := bstep hB hB.size hb
    clear hb
    cases hln : linedB l
    ·
     go_wp2
     go_ret
     exact .mk rfl hB
    ·
     obtain ⟨rfl, rfl, rfl⟩ := H2.out HOK.out hln
     go_wp2
     go_ret
     exact .mk rfl hB
   ·
    go_wp2_with fail
    refine (slined_any l A l.length c _ hl hn).mono ?_
    rintro e w11 ⟨rfl, hb⟩
    replace hB := bstep hB hB.size hb
    clear hb
    cases hln : linedB l
    ·
     go_wp2
     go_ret
     exact .mk rfl hB
    ·
     obtain ⟨rfl, rfl, rfl⟩ := H2.out HOK.out hln
     go_wp2
     go_ret
     exact .mk rfl hB

end Go.Proofs.YtiiaimjlohpemaaGreat

/-
 What every row of this seat wants of the program.
-/
namespace Go.Proofs.YtiiaimjlohpemaaGreat
set_option linter.unusedSimpArgs false
set_option linter.unusedVariables false
open Go.ChangeShapes Go.WideShapes Go.ChangeAt Go.RowKit Go.Joins

theorem own : ownKnob Tryz.prog.godebug = none := by kernel_rfl
theorem laidOut : laidOutB Tryz.prog = true := by kernel_rfl

end Go.Proofs.YtiiaimjlohpemaaGreat

namespace Go.Proofs.YtiiaimjlohpemaaGreat
set_option linter.unusedSimpArgs false
set_option linter.unusedVariables false
open Go.RowKit Go.ChangeShapes Go.WideShapes Go.ChangeAt Go.Joins
set_option linter.unusedVariables false

set_option maxHeartbeats 1000000 in
theorem drawNothing_any (a0 : Option Addr) (len cap : Nat) (w : World) (hc : CodeOk w.heap.size w a0 len) :
  Calls Tryz.prog 5 #[.slice a0 len cap] w (DrawnS w) := by
 go_enter Tryz.func5, Tryz.ntmps5
 go_wp2_with fail
 refine (drawStoryOk_any a0 len cap _ hc).mono ?_
 rintro e w2 ⟨l, A, c, rfl, h⟩
 go_wp2
 go_ret
 exact ⟨l, A, c, rfl, h⟩

theorem fnFacts_any (a0 : Option Addr) (len cap : Nat) (w : World) (hc : CodeOk w.heap.size w a0 len) :
  Calls Tryz.prog 3 #[.slice a0 len cap] w (RetBelow (.bool true) w) := fnFacts_of drawNothing_any a0 len cap w hc

set_option maxRecDepth 100000 in
/-- The bytes of a draw that came in. -/
theorem open_code {H : Type} {enc : TypeId × Value → H} {W : World} {base : Nat} {v : Value} {d : DataW H} {p : List MemPlace}
  (hv : Value.okWide Tryz.prog W .any base 22 v) (h : DataW.Trod enc Tryz.prog W 0 (fun _ => true) true 22 v d p) :
  ∃ (a0 : Option Addr) (len cap : Nat), v = .slice a0 len cap ∧ CodeOk W.heap.size W a0 len := by
 obtain ⟨a0, len, cap, rfl⟩ := okWide_slice Tryz.underlying22 hv
 refine ⟨a0, len, cap, rfl, ?_⟩
 obtain ⟨fuel, hf⟩ := h
 rcases open_ints Tryz.underlying22 Tryz.underlying5 (by kernel_rfl) hf with ⟨hcs, _⟩ | ⟨x, l, c, zs, hcs, _, hl, hm, hz, _, hcell, hwz⟩
 ·
  simp [Value.cells] at hcs
  obtain ⟨rfl, rfl, rfl⟩ := hcs
  exact ⟨Nat.zero_le _, fun h => absurd h (by omega)⟩
 ·
  simp [Value.cells] at hcs
  obtain ⟨rfl, rfl, rfl⟩ := hcs
  have hz' : zs.length = cap := by simpa using hz
  refine ⟨by omega, fun hp => ?_⟩
  obtain ⟨b, off, spot⟩ := x
  have h0 := hcell 0 (by omega)
  have hspot : spot = none := by simpa [Addr.add] using World.cell?_spot h0
  subst hspot
  have hblk := World.block_lt_of_cell? W _ h0
  refine ⟨b, off, rfl, by simpa [Addr.add] using hblk, by simpa [Addr.add] using hblk, fun i hi => ?_⟩
  have hi' := hcell i (by omega)
  have hmem : zs.getD i 0 ∈ zs := by
   have : i < zs.length := by omega
   simp [List.getD_eq_getElem?_getD, this]
  have hw := hwz _ hmem
  have hb := Go.bounds_u8 hw
  have ea : (⟨b, off, none⟩ : Addr).add i = ⟨b, off + i, none⟩ := by
   by_cases e : i = 0
   · subst e; simp [Addr.add]
   · simp [Addr.add, e]
  rw [ea] at hi'
  exact ⟨zs.getD i 0, hb.1, hb.2, hi'⟩

set_option maxRecDepth 100000 in
theorem fnFacts_lifted (os : Os) (started : os.Started) (H : Type) (enc : TypeId × Value → H) :
  ReturnsInHanded {} Tryz.checked os 3 .any (Rows.fnFactsSpec.pre6 enc Tryz.prog Tryz.f3 Rows.fnFactsRow.domain false) (Rows.fnFactsSpec.post enc Tryz.prog Tryz.f3 false true false false) := by
 refine law_lifted (C := Tryz.checked) (fn := Tryz.f3) own started (by kernel_rfl) Tryz.func3 laidOut Tryz.underlying4 rfl rfl (by kernel_rfl) (fun ds h => ?_)
  (ChangeSpec.witness6 (enc := enc) (C := Tryz.checked) false ⟨#[], #[.slice none 0 0], []⟩ 8 (by kernel_rfl) (by kernel_rfl) (by kernel_rfl) (by kernel_rfl)) ?_
 · match ds, h with | [_], _ => rfl
 intro W base args ds p hval0 hA0
 have hval : ∀ (j : Nat) t v, Tryz.f3.params[j]? = some t → args[j]? = some v → Value.okWide Tryz.prog W .any base t v := hval0
 have hA : DataW.TrodAll enc Tryz.prog W 0 (fun _ => true) true Tryz.f3.params.toList args.toList ds p := hA0
 rw [Tryz.params3] at hA hval
 obtain ⟨v0, vs0, d0, ds0, p0, q0, hargs, rfl, rfl, h0, r0⟩ := trodAll_cons hA
 obtain ⟨rfl, rfl, rfl⟩ := trodAll_nil r0
 obtain rfl : args = #[v0] := by cases args; simp_all
 obtain ⟨a0, len, cap, rfl, hcode⟩ := open_code (hval 0 22 v0 rfl rfl) h0
 exact fnFacts_any a0 len cap W hcode

theorem fnFacts_holds : Rows.FnFactsSaid :=
 OpenClaim.holds_of_wide 3 Tryz.f3 rfl rfl rfl rfl rfl rfl rfl ⟨rfl, rfl, rfl, rfl, rfl⟩ rfl rfl rfl rfl rfl (by kernel_rfl) Tryz.func3 (by kernel_rfl)
  (of_decide_eq_true (by kernel_rfl)) (by unfold Func.isWrapper; first | (rw [if_pos (by decide +kernel)]; kernel_rfl) | (rw [if_neg (by decide +kernel)]; exact ⟨rfl, rfl⟩))
  (fun os started H enc _ => fnFacts_lifted os started H enc)

end Go.Proofs.YtiiaimjlohpemaaGreat


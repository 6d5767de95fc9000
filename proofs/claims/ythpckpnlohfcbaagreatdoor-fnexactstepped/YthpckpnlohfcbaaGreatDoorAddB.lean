/-
 The walk of Seeded of the program.
-/
import Derived.Test.YthpckpnlohfcbaaGreatDoorRingC
import Derived.Test.YthpckpnlohfcbaaGreatDoorTicB
namespace Go.Proofs.YthpckpnlohfcbaaGreatDoor
set_option linter.unusedSimpArgs false
set_option linter.unusedVariables false
open Go.RowKit
attribute [local go_sem ↓] Go.wp_at_zero Go.wp_at_succ
theorem zaddB0 {p : Prop} (h : p := by
 clear hw hcl hL hC
 refine OpGoes.go fun K hK => ?_
 go_simp
 exact hK _ _ ⟨rfl, rfl⟩) : p := h -- ee92c020
theorem zaddB1 {p : Prop} (h : p := by
 go_light
 intro L σ W' hcl hL hC hw
 clear hw
 have HC := Lib.hid hC
 clear hC
 clear hcl hL
 refine OpGoes.go fun K hK => ?_
 go_simp
 obtain ⟨hbb, hX, hRg, hti, hV1, hM1⟩ := HC.out
 have hb1 : Below W'.heap.size W' (W'.alloc (.cells #[.int .i64 0, .int .i64 0, .bool false, .int .i64 0, .slice none 0 0] 79)) := (Below.refl _ _).alloc (Nat.le_refl _) _
 exact hK _ _ ⟨⟨bstep hbb (Nat.le_trans hNw hbb.size) hb1, hX.below hb1 hX.lt, hRg.below hb1, hti.trans (.of_below hb1 (Nat.le_trans hMW hti.size)), hV1.below hb1 hV1.lt, Nat.le_trans hM1 hb1.size⟩, ⟨_, rfl, hM1, _, _, _, _, _, BoxAt.new _ _ _⟩, hb1, rfl, by simp⟩) : p := h -- cc13f39a

set_option maxHeartbeats 400000 in
theorem iseeded_no2 (n : Nat) (v : Int) (w : World) (h : roundB n = true) (hn : n ≤ 8) (hv : valB v = false) : Calls Tryz.prog 161 #[n, v] w (NoRg w) := by
 go_enter Tryz.func161, Tryz.ntmps161
 go_wp2_with fail
 refine calls_abs (fun W => Below w.heap.size w W ∧ BoxAt W w.heap.size #[.int .i64 0, .int .i64 0, .bool false, .int .i64 0, .slice none 0 0] 79) ⟨(Below.refl _ _).alloc (Nat.le_refl _) _, BoxAt.new _ _ _⟩ ?_
 rintro W ⟨hB, hx⟩
 refine (inewRing_yes n _ h hn).mono ?_
 rintro e w1 ⟨g, cap, rfl, hO, hb1⟩
 have hx1 := hx.below hb1 hx.lt
 have lx := hx1.lt
 unfold rgV
 go_wp2_with fail
 refine calls_abs (fun W => Below w.heap.size w W ∧ BoxAt W w.heap.size #[.int .i64 0, .int .i64 0, .bool false, .int .i64 0, .slice none 0 0] 79) ⟨(bstep hB hB.size hb1).alloc (by omega) _, hx1.alloc _⟩ ?_
 clear hx1 hB hb1 hx
 rintro W ⟨hB, hx⟩
 refine (isValue_any _ _).mono ?_
 rintro e w' ⟨rfl, rfl⟩
 have kx := hx.cell
 have fx := hx.frozen
 go_wp2
 refine bodyPost_ret (v := .tuple #[rgV 0 0 false 0 none 0 0, .bool false]) (by simp [results, Tryz.results161, go_sem, kx, lx, rgV]) rfl ⟨rfl, ?_⟩
 exact (sc (sc (sc (sc (sc hB)))))
set_option maxHeartbeats 400000 in
theorem iseeded_yes (n : Nat) (v : Int) (w : World) (h : roundB n = true) (h1 : 1 ≤ n) (hn : n ≤ 8) (hv : valB v = true) : Calls Tryz.prog 161 #[n, v] w (RetRgB 0 1 false (-1) n (seeded n v) true w) := by
 have h2 : (0 : Int) < (n : Int) := by omega
 go_enter Tryz.func161, Tryz.ntmps161
 go_wp2_with fail
 refine calls_abs (fun W => Below w.heap.size w W ∧ BoxAt W w.heap.size #[.int .i64 0, .int .i64 0, .bool false, .int .i64 0, .slice none 0 0] 79) ⟨(Below.refl _ _).alloc (Nat.le_refl _) _, BoxAt.new _ _ _⟩ ?_
 rintro W ⟨hB, hx⟩
 refine (inewRing_yes n _ h hn).mono ?_
 rintro e w1 ⟨g, cap, rfl, hO, hb1⟩
 have hx1 := hx.below hb1 hx.lt
 have hg := hO.ge
 have lx := hx.lt
 have lg := Own.lt hO
 unfold rgV
 go_wp2_with fail
 refine calls_abs (fun W2 => Below w.heap.size w W2 ∧ BoxAt W2 w.heap.size #[.int .i64 0, .int .i64 0, .bool false, .int .i64 0, .slice none 0 0] 79 ∧ BoxAt W2 w1.heap.size #[.int .i64 0, .int .i64 0, .bool false, .int .i64 (-1), .slice (some ⟨g, 0, none⟩) n cap] 79 ∧ PlsO w.heap.size W2 g n cap (fresh n)) ⟨(bstep hB hB.size hb1).alloc (by omega) _, hx1.alloc _, BoxAt.new _ _ _, (hO.mono hB.size).al _⟩ ?_
 generalize w1.heap.size = R at *
 clear hx1 hO hB hb1
 rintro W2 ⟨hB, hx1, hr, hO⟩
 refine (isValue_any _ _).mono ?_
 rintro e w' ⟨rfl, rfl⟩
 have hat : (fresh n)[0]? = some ⟨true, 0, false, 0⟩ := fresh_at (by omega)
 have d0 := Own.cell_ Pl.cs_len hO (i := 0) (j := 0) hat rfl
 have d1 := Own.cell_ Pl.cs_len hO (i := 0) (j := 1) hat rfl
 have d2 := Own.cell_ Pl.cs_len hO (i := 0) (j := 2) hat rfl
 have d3 := Own.cell_ Pl.cs_len hO (i := 0) (j := 3) hat rfl
 simp only [Nat.zero_mul, Nat.zero_add] at d0 d1 d2 d3
 clear hat
 have df := Own.frozen_ hO
 have kr := hr.cell
 have fr := hr.frozen
 go_upto_region 5 with fail
 refine wp_abs (fun W3 => Below w.heap.size w W3 ∧ BoxAt W3 w.heap.size #[.int .i64 0, .int .i64 0, .bool false, .int .i64 0, .slice none 0 0] 79 ∧ BoxAt W3 R #[.int .i64 0, .int .i64 0, .bool false, .int .i64 (-1), .slice (some ⟨g, 0, none⟩) n cap] 79 ∧ PlsO w.heap.size W3 g n cap (seeded n v)) ⟨(sc (sc (sc (sc hB)))), ((((hx1.sn).sn).sn).sn), ((((hr.sn).sn).sn).sn), ?_⟩ ?_
 ·
  have := Own.setEl hO Pl.cs_len (by omega) (i := 0) (by omega) (⟨true, 0, true, v⟩ : Pl)
  simp only [Nat.zero_mul] at this
  exact this
 clear hx1 hO hB hr d0 d1 d2 d3 df kr fr
 rintro W3 ⟨hB, hx1, hr, hO⟩
 have kr := hr.cell
 have fr := hr.frozen
 have kx := hx1.cell
 have fx := hx1.frozen
 go_wp2
 refine bodyPost_ret (v := .tuple #[rgV 0 1 false (-1) (some ⟨g, 0, none⟩) n cap, .bool true]) (by simp [results, Tryz.results161, go_sem, kx, rgV]) rfl ⟨g, _, rfl, ?_, ?_⟩
 · exact ((((((hO.sn).sn).sn).sn).sn).sn)
 · exact (sc (sc (sc (sc (sc (sc hB))))))
end Go.Proofs.YthpckpnlohfcbaaGreatDoor
namespace Go.Proofs.YthpckpnlohfcbaaGreatDoor
set_option linter.unusedSimpArgs false
set_option linter.unusedVariables false
open Go.RowKit
set_option linter.unusedVariables false
attribute [local go_sem] OpUpon
attribute [local go_sem ↓] Go.wp_at_zero Go.wp_at_succ
theorem PlsO.setsT {N : Nat} {g n cap : Nat} {l : List Pl} {k : Nat} {w : World} {cs : Array Value} {t : TypeId} (h : PlsO N w g n cap l) (hk : BoxAt w k cs t) (ht : t ≠ 33) : ∀ (us : List Value) (o : Nat), PlsO N (setCells w k o us) g n cap l
 | [], _ => h
 | u :: us, o => by
  obtain ⟨cg, hg⟩ := own_box h
  exact PlsO.setsT (Own.set_ne h (box_ne hg hk (fun e => ht e.symm)) _ _) (hk.set o u) ht us (o + 1)
def RgU (M X : Nat) (W : World) (b n m : Nat) (L : List Rg) : Prop := RgsD M X W (some ⟨b, 0, none⟩) n m L ∧ X ≤ W.heap.size
theorem RgU.below {M X : Nat} {W W' : World} {b n m : Nat} {L : List Rg} (h : RgU M X W b n m L) (hb : Below W.heap.size W W') : RgU M X W' b n m L := ⟨h.1.below hb h.2, Nat.le_trans h.2 hb.size⟩
theorem RgU.sets {M X : Nat} {b n m : Nat} {L : List Rg} {k : Nat} {W : World} (h : RgU M X W b n m L) (hk : X ≤ k) : ∀ (us : List Value) (o : Nat), RgU M X (setCells W k o us) b n m L
 | [], _ => h
 | u :: us, o => RgU.sets ⟨h.1.setD (.inr hk) o u, by simpa using h.2⟩ hk us (o + 1)
theorem Till.sets {M T : Nat} {a b : World} {k : Nat} (h : Till M T a b) (hk : M ≤ k ∨ k = T) : ∀ (us : List Value) (o : Nat), Till M T a (Go.Proofs.YthpckpnlohfcbaaGreatDoor.setCells b k o us)
 | [], _ => h
 | u :: us, o => Till.sets (h.set hk o u) hk us (o + 1)
theorem Till.grown {M T : Nat} {a b c : World} (h : Till M T a b) {row : Option Nat} (hg : b.grownBy c row) (hr : ∀ g, row = some g → M ≤ g) (hM : M ≤ b.heap.size) : Till M T a c :=
 ⟨hg.os.trans h.os, hg.tape.trans h.tape, hg.output.trans h.output, Nat.le_trans h.size hg.size, fun j hj hT => (hg.block j (by omega) (fun e => by have := hr j e.symm; omega)).trans (h.block j hj hT)⟩
theorem DOf.app {lo hi : Nat} {w : World} {rows : List Rw} {L : List Rg} (h : DOf lo hi w rows L) (L' : List Rg) : DOf lo hi w rows (L ++ L') :=
 ⟨fun j a ha => by
  obtain ⟨r, hr, x⟩ := h.1 j a ha
  exact ⟨r, by rw [List.getElem?_append_left (List.getElem?_eq_some_iff.1 hr).1]; exact hr, x⟩, h.2⟩
theorem DOf.grown {lo hi : Nat} {w w' : World} {rows : List Rw} {L : List Rg} (h : DOf lo hi w rows L) {b n c m N : Nat} {xs : List Value} (ho : w.ownsRow N 79 m (.slice (some ⟨b, 0, none⟩) n c) n xs) (hg : w.grownBy w' (some b)) : DOf lo hi w' rows L :=
 h.keep fun g cs _ _ hgb => hg.block g hgb.lt (by
  intro e
  injection e with e
  subst e
  rcases ho.2 with ⟨h1, _⟩ | ⟨g', cap', cur, hv, _, hb, _⟩
  · cases h1
  ·
   injection hv with h1
   injection h1 with h1
   injection h1 with h1
   subst h1
   exact box_ne hgb hb (by decide) rfl)
def arYV (s : St) (X b n m V_ N M1 q : Nat) (v : Int) : List Sl := [.v (pT X),
 .v (pT X),
 .v (pT X),
 .v s.rd,
 .v v,
 .e fun σ w => ∃ (gr cr : Nat), σ 5 = .tuple #[.agg #[.int .i64 0, .int .i64 1, .bool false, .int .i64 ((-1)), .slice (some ⟨gr, 0, none⟩) q cr], .bool true] ∧ PlsO M1 w gr q cr (seeded q v),
 .e fun σ w => ∃ (gr cr : Nat), σ 6 = .tuple #[.agg #[.int .i64 0, .int .i64 1, .bool false, .int .i64 ((-1)), .slice (some ⟨gr, 0, none⟩) q cr], .bool true] ∧ PlsO M1 w gr q cr (seeded q v),
 .e fun σ w => ∃ (gr cr : Nat), σ 7 = .agg #[.int .i64 0, .int .i64 1, .bool false, .int .i64 ((-1)), .slice (some ⟨gr, 0, none⟩) q cr] ∧ PlsO M1 w gr q cr (seeded q v),
 .v (.bool true),
 .e fun σ w => ∃ g9, σ 9 = pT g9 ∧ M1 ≤ g9 ∧ ∃ x0 x1 x2 x3 x4, BoxAt w g9 #[x0, x1, x2, x3, x4] 79,
 .e fun σ w => ∃ (g9 : Nat) (gr cr : Nat), σ 9 = pT g9 ∧ M1 ≤ g9 ∧ BoxAt w g9 #[.int .i64 0, .int .i64 1, .bool false, .int .i64 ((-1)), .slice (some ⟨gr, 0, none⟩) q cr] 79 ∧ PlsO M1 w gr q cr (seeded q v),
 .v (.bool true)]
def arNV (s : St) (X b n m V_ N M1 q : Nat) (v : Int) : List Sl := [.v (pT X),
 .v (pT X),
 .v (pT X),
 .v s.rd,
 .v v,
 .v (.tuple #[.agg #[.int .i64 0, .int .i64 0, .bool false, .int .i64 0, .slice none 0 0], .bool false]),
 .v (.tuple #[.agg #[.int .i64 0, .int .i64 0, .bool false, .int .i64 0, .slice none 0 0], .bool false]),
 .v (.agg #[.int .i64 0, .int .i64 0, .bool false, .int .i64 0, .slice none 0 0]),
 .v (.bool false),
 .e fun σ w => ∃ g9, σ 9 = pT g9 ∧ M1 ≤ g9 ∧ ∃ x0 x1 x2 x3 x4, BoxAt w g9 #[x0, x1, x2, x3, x4] 79,
 .e fun σ w => ∃ g9, σ 9 = pT g9 ∧ M1 ≤ g9 ∧ BoxAt w g9 #[.int .i64 0, .int .i64 0, .bool false, .int .i64 0, .slice none 0 0] 79,
 .v (.bool false)]
def arD4V (s : St) (X b n m g9 gr q cr N M M1 M2 : Nat) (v : Int) (rows : List Rw) : List Sl := [.v (pT X),
 .v (pT X),
 .v (pT X),
 .v (.pointer (some ⟨X, 2, none⟩)),
 .v (.slice (some ⟨b, 0, none⟩) n m),
 .v (.agg #[.int .i64 0, .int .i64 1, .bool false, .int .i64 ((-1)), .slice (some ⟨gr, 0, none⟩) q cr]),
 .e fun σ w => ∃ (g2 : Nat), σ 6 = .slice (some ⟨g2, 0, none⟩) 1 1 ∧ BoxAt w g2 #[.int .i64 0, .int .i64 1, .bool false, .int .i64 ((-1)), .slice (some ⟨gr, 0, none⟩) q cr] 79 ∧ M2 ≤ g2,
 .e fun σ w => ∃ (bb cc : Nat), σ 7 = .slice (some ⟨bb, 0, none⟩) (n + 1) cc ∧ w.ownsRow M 79 5 (.slice (some ⟨bb, 0, none⟩) (n + 1) cc) (n + 1) ((rows ++ [(⟨0, 1, false, -1, some ⟨gr, 0, none⟩, q, cr⟩ : Rw)]).flatMap Rw.cs) ∧ (bb = b ∨ M2 ≤ bb),
 .v (pT X),
 .v (.pointer (some ⟨X, 2, none⟩)),
 .e fun σ w => ∃ (bb cc : Nat), BoxAt w X (aS s (some ⟨bb, 0, none⟩) (n + 1) cc) 32 ∧ w.ownsRow M 79 5 (.slice (some ⟨bb, 0, none⟩) (n + 1) cc) (n + 1) ((rows ++ [(⟨0, 1, false, -1, some ⟨gr, 0, none⟩, q, cr⟩ : Rw)]).flatMap Rw.cs) ∧ (bb = b ∨ M2 ≤ bb)]
set_option maxRecDepth 100000 in
set_option maxHeartbeats 4000000 in
theorem iadd1 (s : St) (v : Int) (n V_ B : Nat) (a0 aV : Addr) (T : Nat) (w : World) (hok : stOk s = true) (hV0 : BoxAt w V_ #[v] 2) (hSV : Sent B w 1 aV) (hNV : aV ≠ a0) (hBw : B ≤ w.heap.size) (hn2 : n ≤ 1048576) :
  Changes (addC v) s n a0 T (fun _ => True) 162 [pT V_] w := by
 intro W X b m M hbb hNM hMX hXW hX hRg
 obtain ⟨i0, hi0, hz0, hz1, hz2⟩ := info_parts ring_info
 have HI := Lib.hid hi0
 have HZ0 := Lib.hid hz0
 have HZ1 := Lib.hid hz1
 have HZ2 := Lib.hid hz2
 clear hi0 hz0 hz1 hz2
 obtain ⟨q, hq, hq2, hq8⟩ : ∃ q : Nat, s.rd = q ∧ 2 ≤ q ∧ q ≤ 8 := by
  have := stOk_rd hok
  exact ⟨s.rd.toNat, by omega, by omega, by omega⟩
 have HRD := Lib.hid hq.symm
 have HRO := Lib.hid (show roundB (q : Int) = true by simp [roundB]; omega)
 have hqn : s.rd.toNat = q := by omega
 have hn1 : 1 ≤ n := by have := (stOk_neat hok).1; have := hRg.1; omega
 have HLN := Lib.hid hRg.1
 obtain ⟨N, hN⟩ : ∃ N, N = w.heap.size := ⟨_, rfl⟩
 have hN1 : w.heap.size ≤ N := by omega
 have hNw : N ≤ w.heap.size := by omega
 have HN := Lib.hid hN
 have hMW : M ≤ W.heap.size := by omega
 replace hbb : Below N w W := hbb.mono (by omega)
 have hV1 := hV0.below hbb (by have := hV0.lt; omega)
 have lV := hV0.lt
 replace hRg : RgU M X W b n m s.rs := ⟨hRg, by omega⟩
 have hti : Till M T W W := .refl _ _ _
 obtain ⟨M1, hMe⟩ : ∃ M1, M1 = W.heap.size := ⟨_, rfl⟩
 have hM1 : M1 ≤ W.heap.size := by omega
 have hM1X : X < M1 := by omega
 unfold sC at hX
 clear hN hV0 hMe hok hq
 show Calls Tryz.prog 162 #[pT X, pT V_] W _
 cases hvb : valB v
 ·
  have HVB := Lib.hid hvb
  have HCN := Lib.hid (show addC v s = none by simp [addC, hvb])
  clear hvb
  go_enter Tryz.func162, Tryz.ntmps162
  go_upto_region 1 with fail
  go_cut [5] (fun s5 W' => Below N w W' ∧ Till M T W W' ∧ s5 = .bool false)
  case first =>
   refine wp_region2v (fun w w' => Below w.heap.size w w') (fun _ _ h => h.size) (fun _ => Below.refl _ _) (fun L W' => Below N w W' ∧ BoxAt W' X (aS s (some ⟨b, 0, none⟩) n m) 32 ∧ RgU M X W' b n m s.rs ∧ Till M T W W' ∧ BoxAt W' V_ #[v] 2 ∧ M1 ≤ W'.heap.size) (arNV s X b n m V_ N M1 q v) (fun j => [0, 0, 0, 0, 0, 0, 0, 0, 0, 2, 1, 0].getD j 0) [(10, 9)] (by kernel_rfl) (by kernel_rfl) ?_ ?_ ?_
    (.still rfl ?a0 <| .still rfl ?a1 <| .still rfl ?a2 <| .still rfl ?a3 <| .still rfl ?a4 <| .grow rfl ?a5 <| .still rfl ?a6 <| .still rfl ?a7 <| .still rfl ?a8 <| .make rfl ?a9 <| .store rfl ?a10 <| .still rfl ?a11 <| .nil) ?_ ?_
   · exact ⟨fun _ _ _ h ⟨g, e, hp⟩ => ⟨g, (h 9 (List.mem_singleton.2 rfl)).symm.trans e, hp⟩, fun _ _ _ h ⟨g, e, hp⟩ => ⟨g, (h 9 (List.mem_singleton.2 rfl)).symm.trans e, hp⟩, trivial⟩
   · exact ⟨fun σ w w' hb ⟨g, e, hg, x0, x1, x2, x3, x4, hx⟩ => ⟨g, e, hg, x0, x1, x2, x3, x4, hx.below hb hx.lt⟩, fun σ w w' hb ⟨g, e, hg, hx⟩ => ⟨g, e, hg, hx.below hb hx.lt⟩, trivial⟩
   · exact ⟨hbb.drew, hX, hRg, hti.drewN _, hV1, hM1⟩
   case a0 | a1 | a2 | a6 | a7 | a8 | a11 =>
    go_light
    intro L σ W' hcl hL hC hw
    try have e0 := wT hw 0 rfl
    try have e1 := wT hw 1 rfl
    try have e5 := wT hw 5 rfl
    try have e6 := wT hw 6 rfl
    try have e8 := wT hw 8 rfl
    exact zaddB0
   case a3 =>
    go_light
    intro L σ W' hcl hL hC hw
    have e2 := wV hw 2 rfl
    have kX := hC.2.1.cell
    exact zaddB0
   case a4 =>
    go_light
    intro L σ W' hcl hL hC hw
    have kV := hC.2.2.2.2.1.cell
    exact zaddB0
   case a5 =>
    go_light
    intro L σ W' hcl hL hC hw
    have e3 := wV hw 3 rfl
    have e4 := wV hw 4 rfl
    clear hw
    have HC := Lib.hid hC
    clear hC
    clear hcl hL
    refine OpGoes.go fun K hK => ?_
    go_simp
    obtain ⟨hbb, hX, hRg, hti, hV1, hM1⟩ := HC.out
    refine ((HRD.out ▸ iseeded_no2 q v _ HRO.out hq8 HVB.out : Calls Tryz.prog 161 #[s.rd, v] _ _)).mono ?_
    rintro e w1 ⟨rfl, hb1⟩
    exact ⟨_, rfl, hK _ _ ⟨⟨bstep hbb (Nat.le_trans hNw hbb.size) hb1, hX.below hb1 hX.lt, hRg.below hb1, hti.trans (.of_below hb1 (Nat.le_trans hMW hti.size)), hV1.below hb1 hV1.lt, Nat.le_trans hM1 hb1.size⟩, rfl, hb1⟩⟩
   case a9 =>
    exact zaddB1
   case a10 =>
    go_light
    intro L σ W' hcl hL hC hw hne
    have e7 := wV hw 7 rfl
    obtain ⟨g9, e9, hg9, x0, x1, x2, x3, x4, hbox9⟩ := wE hw 9 rfl
    clear hw hne
    have HC := Lib.hid hC
    clear hC
    clear hcl hL
    have kc_ := hbox9.cell
    have kf_ := hbox9.frozen
    refine OpGoes.go fun K hK => ?_
    go_simp
    obtain ⟨hbb, hX, hRg, hti, hV1, hM1⟩ := HC.out
    have hset := sets_all (us := [.int .i64 0, .int .i64 0, .bool false, .int .i64 0, .slice none 0 0]) hbox9 rfl
    refine hK undef (setCells W' g9 0 [.int .i64 0, .int .i64 0, .bool false, .int .i64 0, .slice none 0 0]) ⟨⟨(Below.setCells (by omega) _ 0 hbb), (BoxAt.sets_ne _ 0 hX (by omega)), (RgU.sets hRg (by omega) _ 0), (Till.sets hti (.inl (by omega)) _ 0), (BoxAt.sets_ne _ 0 hV1 (by omega)), (size_sts hM1 _ 0)⟩, ⟨g9, e9, hg9, hset⟩, Nat.le_of_eq (sets_size _ _ _).symm, keepV ?_⟩
    exact ⟨fun _ _ _ => ⟨g9, e9, hg9, _, _, _, _, _, hset⟩, fun h => absurd rfl h, trivial⟩
   ·
    intro L L' W' hLL hC
    obtain ⟨hbb, hX, hRg, hti, hV1, hM1⟩ := hC
    exact ⟨hbb, hX, hRg, hti, hV1, hM1⟩
   ·
    intro σ L W' hall hC hRR
    obtain ⟨hbb, hX, hRg, hti, hV1, hM1⟩ := hC
    obtain ⟨g9, e9, hg10, s10⟩ := dE hRR 10 rfl
    have e11 := dV hRR 11 rfl
    clear hRR
    simp only [lexAll]
    go_simp
    go_step
    go_meet
    exact ⟨hbb, hti, rfl⟩
  case rest =>
   clear hbb hti hX hRg hV1 hM1
   obtain ⟨hbb, hti, rfl⟩ := hcut
   obtain ⟨hg0, hq0, hg1, cq, tq, hQ0⟩ := hSV.keep (W' := wc) (fun j hj => hbb.block j (by omega))
   go_wp2
   go_ret
   exact .mkNo HCN.out hti hNV (by omega) ⟨cq, tq, hQ0⟩
 ·
  have HVB := Lib.hid hvb
  have HCY := Lib.hid (show addC v s = some { s with rs := s.rs ++ [Rg.seed q v] } by simp [addC, hvb, hqn])
  clear hvb
  go_enter Tryz.func162, Tryz.ntmps162
  go_upto_region 1 with fail
  go_cut [4, 5] (fun s4 s5 W' => Below N w W' ∧ BoxAt W' X (aS s (some ⟨b, 0, none⟩) n m) 32 ∧ RgU M X W' b n m s.rs ∧ Till M T W W' ∧ ∃ g9 gr cr, s4 = pT g9 ∧ M1 ≤ g9 ∧ BoxAt W' g9 #[.int .i64 0, .int .i64 1, .bool false, .int .i64 ((-1)), .slice (some ⟨gr, 0, none⟩) q cr] 79 ∧ PlsO M1 W' gr q cr (seeded q v) ∧ s5 = .bool true)
  case first =>
   refine wp_region2v (fun w w' => Below w.heap.size w w') (fun _ _ h => h.size) (fun _ => Below.refl _ _) (fun L W' => Below N w W' ∧ BoxAt W' X (aS s (some ⟨b, 0, none⟩) n m) 32 ∧ RgU M X W' b n m s.rs ∧ Till M T W W' ∧ BoxAt W' V_ #[v] 2 ∧ M1 ≤ W'.heap.size) (arYV s X b n m V_ N M1 q v) (fun j => [0, 0, 0, 0, 0, 0, 0, 0, 0, 2, 1, 0].getD j 0) [(10, 9)] (by kernel_rfl) (by kernel_rfl) ?_ ?_ ?_
    (.still rfl ?a0 <| .still rfl ?a1 <| .still rfl ?a2 <| .still rfl ?a3 <| .still rfl ?a4 <| .grow rfl ?a5 <| .still rfl ?a6 <| .still rfl ?a7 <| .still rfl ?a8 <| .make rfl ?a9 <| .store rfl ?a10 <| .still rfl ?a11 <| .nil) ?_ ?_
   · exact ⟨fun _ _ _ h ⟨gr, cr, e, hp⟩ => ⟨gr, cr, (h 5 (List.mem_singleton.2 rfl)).symm.trans e, hp⟩, fun _ _ _ h ⟨gr, cr, e, hp⟩ => ⟨gr, cr, (h 6 (List.mem_singleton.2 rfl)).symm.trans e, hp⟩, fun _ _ _ h ⟨gr, cr, e, hp⟩ => ⟨gr, cr, (h 7 (List.mem_singleton.2 rfl)).symm.trans e, hp⟩, fun _ _ _ h ⟨g, e, hp⟩ => ⟨g, (h 9 (List.mem_singleton.2 rfl)).symm.trans e, hp⟩, fun _ _ _ h ⟨g, gr, cr, e, hp⟩ => ⟨g, gr, cr, (h 9 (List.mem_singleton.2 rfl)).symm.trans e, hp⟩, trivial⟩
   · exact ⟨fun σ w w' hb ⟨gr, cr, e, hp⟩ => ⟨gr, cr, e, hp.below hb⟩, fun σ w w' hb ⟨gr, cr, e, hp⟩ => ⟨gr, cr, e, hp.below hb⟩, fun σ w w' hb ⟨gr, cr, e, hp⟩ => ⟨gr, cr, e, hp.below hb⟩, fun σ w w' hb ⟨g, e, hg, x0, x1, x2, x3, x4, hx⟩ => ⟨g, e, hg, x0, x1, x2, x3, x4, hx.below hb hx.lt⟩, fun σ w w' hb ⟨g, gr, cr, e, hg, hx, hp⟩ => ⟨g, gr, cr, e, hg, hx.below hb hx.lt, hp.below hb⟩, trivial⟩
   · exact ⟨hbb.drew, hX, hRg, hti.drewN _, hV1, hM1⟩
   case a0 | a1 | a2 | a11 =>
    go_light
    intro L σ W' hcl hL hC hw
    try have e0 := wT hw 0 rfl
    try have e1 := wT hw 1 rfl
    try have e8 := wT hw 8 rfl
    exact zaddB0
   case a3 =>
    go_light
    intro L σ W' hcl hL hC hw
    have e2 := wV hw 2 rfl
    have kX := hC.2.1.cell
    exact zaddB0
   case a4 =>
    go_light
    intro L σ W' hcl hL hC hw
    have kV := hC.2.2.2.2.1.cell
    exact zaddB0
   case a5 =>
    go_light
    intro L σ W' hcl hL hC hw
    have e3 := wV hw 3 rfl
    have e4 := wV hw 4 rfl
    clear hw
    have HC := Lib.hid hC
    clear hC
    clear hcl hL
    refine OpGoes.go fun K hK => ?_
    go_simp
    obtain ⟨hbb, hX, hRg, hti, hV1, hM1⟩ := HC.out
    refine ((HRD.out ▸ iseeded_yes q v _ HRO.out (by omega) hq8 HVB.out : Calls Tryz.prog 161 #[s.rd, v] _ _)).mono ?_
    rintro e w1 ⟨gr, cr, rfl, hO5, hb1⟩
    exact ⟨_, rfl, hK _ _ ⟨⟨bstep hbb (Nat.le_trans hNw hbb.size) hb1, hX.below hb1 hX.lt, hRg.below hb1, hti.trans (.of_below hb1 (Nat.le_trans hMW hti.size)), hV1.below hb1 hV1.lt, Nat.le_trans hM1 hb1.size⟩, ⟨gr, cr, rfl, hO5.mono hM1⟩, hb1⟩⟩
   case a6 =>
    go_light
    intro L σ W' hcl hL hC hw
    obtain ⟨gr, cr, e5, hp5⟩ := wE hw 5 rfl
    clear hw hcl hL hC
    refine OpGoes.go fun K hK => ?_
    go_simp
    exact hK _ _ ⟨rfl, ⟨gr, cr, rfl, hp5⟩⟩
   case a7 =>
    go_light
    intro L σ W' hcl hL hC hw
    obtain ⟨gr, cr, e6, hp6⟩ := wE hw 6 rfl
    clear hw hcl hL hC
    refine OpGoes.go fun K hK => ?_
    go_simp
    exact hK _ _ ⟨rfl, ⟨gr, cr, rfl, hp6⟩⟩
   case a8 =>
    go_light
    intro L σ W' hcl hL hC hw
    obtain ⟨gr, cr, e6, hp6⟩ := wE hw 6 rfl
    exact zaddB0
   case a9 =>
    exact zaddB1
   case a10 =>
    go_light
    intro L σ W' hcl hL hC hw hne
    obtain ⟨gr, cr, e7, hp7⟩ := wE hw 7 rfl
    obtain ⟨g9, e9, hg9, x0, x1, x2, x3, x4, hbox9⟩ := wE hw 9 rfl
    clear hw hne
    have HC := Lib.hid hC
    clear hC
    clear hcl hL
    have kc_ := hbox9.cell
    have kf_ := hbox9.frozen
    refine OpGoes.go fun K hK => ?_
    go_simp
    obtain ⟨hbb, hX, hRg, hti, hV1, hM1⟩ := HC.out
    have hset := sets_all (us := [.int .i64 0, .int .i64 1, .bool false, .int .i64 ((-1)), .slice (some ⟨gr, 0, none⟩) q cr]) hbox9 rfl
    refine hK undef (setCells W' g9 0 [.int .i64 0, .int .i64 1, .bool false, .int .i64 ((-1)), .slice (some ⟨gr, 0, none⟩) q cr]) ⟨⟨(Below.setCells (by omega) _ 0 hbb), (BoxAt.sets_ne _ 0 hX (by omega)), (RgU.sets hRg (by omega) _ 0), (Till.sets hti (.inl (by omega)) _ 0), (BoxAt.sets_ne _ 0 hV1 (by omega)), (size_sts hM1 _ 0)⟩, ⟨g9, gr, cr, e9, hg9, hset, (PlsO.setsT hp7 hbox9 (by decide) _ 0)⟩, Nat.le_of_eq (sets_size _ _ _).symm, keepV ?_⟩
    exact ⟨fun _ _ ⟨gr_x, cr_x, e, hp⟩ => ⟨gr_x, cr_x, e, (PlsO.setsT hp hbox9 (by decide) _ 0)⟩, fun _ _ ⟨gr_x, cr_x, e, hp⟩ => ⟨gr_x, cr_x, e, (PlsO.setsT hp hbox9 (by decide) _ 0)⟩, fun _ _ ⟨gr_x, cr_x, e, hp⟩ => ⟨gr_x, cr_x, e, (PlsO.setsT hp hbox9 (by decide) _ 0)⟩, fun _ _ _ => ⟨g9, e9, hg9, _, _, _, _, _, hset⟩, fun h => absurd rfl h, trivial⟩
   ·
    intro L L' W' hLL hC
    obtain ⟨hbb, hX, hRg, hti, hV1, hM1⟩ := hC
    exact ⟨hbb, hX, hRg, hti, hV1, hM1⟩
   ·
    intro σ L W' hall hC hRR
    obtain ⟨hbb, hX, hRg, hti, hV1, hM1⟩ := hC
    obtain ⟨g9, gr, cr, e9, hg10, s10, hp10⟩ := dE hRR 10 rfl
    have e11 := dV hRR 11 rfl
    clear hRR
    simp only [lexAll]
    go_simp
    go_step
    go_meet
    exact ⟨hbb, hX, hRg, hti, g9, gr, cr, rfl, hg10, s10, hp10, rfl⟩
  case rest =>
   clear hbb hti hX hRg hV1 hM1
   obtain ⟨hbb, hX, hRg, hti, g9, gr, cr, rfl, hg9, hr9, hP, rfl⟩ := hcut
   obtain ⟨b', rows, e, hbX, ho, hD⟩ := hRg.1.2 (by omega)
   obtain rfl : b = b' := by injection e with e; injection e
   have hMb := ho.2.1
   have hrl : rows.length = n := ho.1
   have hO := Own.own ho Rw.cs_len
   have hPg := hP.ge
   obtain ⟨M2, hMe⟩ : ∃ M2, M2 = wc.heap.size := ⟨_, rfl⟩
   have hM2 : M2 ≤ wc.heap.size := by omega
   have l9 := hr9.lt
   have lg := Own.lt hP
   have hM2X : X < M2 ∧ g9 < M2 ∧ gr < M2 := by omega
   clear hMe ho e hRg
   go_upto_region 4 with fail
   refine wp_region2v (fun w w' => Below w.heap.size w w') (fun _ _ h => h.size) (fun _ => Below.refl _ _) (fun L W' => Below N w W' ∧ Till M T W W' ∧ DOf M X W' rows s.rs ∧ PlsO M1 W' gr q cr (seeded q v) ∧ BoxAt W' g9 #[.int .i64 0, .int .i64 1, .bool false, .int .i64 ((-1)), .slice (some ⟨gr, 0, none⟩) q cr] 79 ∧ M2 ≤ W'.heap.size ∧ (L 7 = false → W'.ownsRow M 79 5 (.slice (some ⟨b, 0, none⟩) n m) n (rows.flatMap Rw.cs)) ∧ (∃ x0, BoxAt W' X #[s.rd, s.mo, x0, s.fi, s.la] 32) ∧ (L 10 = false → BoxAt W' X (aS s (some ⟨b, 0, none⟩) n m) 32)) (arD4V s X b n m g9 gr q cr N M M1 M2 v rows) (fun j => [0, 0, 0, 0, 0, 0, 0, 1, 0, 0, 1].getD j 0) [] (by kernel_rfl) (by kernel_rfl) ?_ ?_ ?_
    (.still rfl ?a0 <| .still rfl ?a1 <| .still rfl ?a2 <| .still rfl ?a3 <| .still rfl ?a4 <| .still rfl ?a5 <| .grow rfl ?a6 <| .store rfl ?a7 <| .still rfl ?a8 <| .still rfl ?a9 <| .store rfl ?a10 <| .nil) ?_ ?_
   · exact ⟨fun _ _ _ h ⟨g2, e, hp⟩ => ⟨g2, (h 6 (List.mem_singleton.2 rfl)).symm.trans e, hp⟩, fun _ _ _ h ⟨bb, cc, e, hp⟩ => ⟨bb, cc, (h 7 (List.mem_singleton.2 rfl)).symm.trans e, hp⟩, fun _ _ _ _ h => h, trivial⟩
   · exact ⟨fun σ w w' hb ⟨g2, e, hp⟩ => ⟨g2, e, ⟨hp.1.below hb hp.1.lt, hp.2⟩⟩, fun σ w w' hb ⟨bb, cc, e, hp⟩ => ⟨bb, cc, e, ⟨own_keep hp.1 hb, hp.2⟩⟩, fun σ w w' hb ⟨bb, cc, hx, hp⟩ => ⟨bb, cc, hx.below hb hx.lt, ⟨own_keep hp.1 hb, hp.2⟩⟩, trivial⟩
   · exact ⟨hbb.drew, hti.drewN _, hD, hP, hr9, hM2, fun _ => hO, ⟨_, hX⟩, fun _ => hX⟩
   case a0 | a1 | a2 | a3 | a8 | a9 =>
    go_light
    intro L σ W' hcl hL hC hw
    try have e0 := wT hw 0 rfl
    try have e1 := wT hw 1 rfl
    try have e2 := wT hw 2 rfl
    try have e8 := wT hw 8 rfl
    exact zaddB0
   case a5 =>
    go_light
    intro L σ W' hcl hL hC hw
    have kr := hC.2.2.2.2.1.cell
    exact zaddB0
   case a4 =>
    go_light
    intro L σ W' hcl hL hC hw
    have e3 := wV hw 3 rfl
    have kX := (hC.2.2.2.2.2.2.2.2 (hcl.not (j := 10) (k := 7) (by kernel_rfl) (hcl.not (j := 7) (k := 4) (by kernel_rfl) hL))).cell
    exact zaddB0
   case a6 =>
    go_light
    intro L σ W' hcl hL hC hw
    have e5 := wV hw 5 rfl
    clear hw
    have HC := Lib.hid hC
    clear hC
    clear hcl hL
    refine OpGoes.go fun K hK => ?_
    go_simp
    obtain ⟨hbb, hti, hD, hP, hr9, hM2, hO, ⟨_, hX⟩, hX_o⟩ := HC.out
    have hb1 : Below W'.heap.size W' (W'.alloc (.cells #[.int .i64 0, .int .i64 1, .bool false, .int .i64 ((-1)), .slice (some ⟨gr, 0, none⟩) q cr] 79)) := (Below.refl _ _).alloc (Nat.le_refl _) _
    exact hK _ _ ⟨⟨bstep hbb (Nat.le_trans hNw hbb.size) hb1, hti.trans (.of_below hb1 (Nat.le_trans hMW hti.size)), hD.keep (fun g _ _ _ hg => hb1.block g hg.lt), hP.below hb1, hr9.below hb1 hr9.lt, Nat.le_trans hM2 hb1.size, fun h => own_keep (hO (by simpa [upd] using h)) hb1, ⟨_, hX.below hb1 hX.lt⟩, fun h => (hX_o (by simpa [upd] using h)).below hb1 (hX_o (by simpa [upd] using h)).lt⟩, ⟨W'.heap.size, rfl, BoxAt.new _ _ _, hM2⟩, hb1⟩
   case a7 =>
    go_light
    intro L σ W' hcl hL hC hw hne
    have e4 := wV hw 4 rfl
    obtain ⟨g2, e6, hp6⟩ := wE hw 6 rfl
    clear hw hne
    obtain ⟨hbb, hti, hD, hP, hr9, hM2, hO, ⟨_, hX⟩, hX_o⟩ := hC
    have hO9 := (hO hL)
    have ll := hO9.lt b rfl
    clear hcl hL
    refine OpGoes.append_own rfl (.tmp 22) (.tmp 24) _ rfl M 79 i0 _ 5 56 Tryz.underlying30 HI.out HZ0.out HZ1.out HZ2.out rfl (by omega) (.slice (some ⟨b, 0, none⟩) n m) n _ (by go_simp) hO9 ⟨g2, 0, none⟩ 1 1 [.int .i64 0, .int .i64 1, .bool false, .int .i64 ((-1)), .slice (some ⟨gr, 0, none⟩) q cr] (by go_simp) rfl (news_box hp6.1) (by intro u hu; simp at hu; rcases hu with rfl | rfl | rfl | rfl | rfl <;> rfl) (by unfold maxLen; omega) (by omega) (by omega) ?_
    intro v' w' hO' hg hat
    obtain ⟨bb, cc, rfl, hP'⟩ := Own.of_row (f := Rw.cs) (l := rows ++ [(⟨0, 1, false, -1, some ⟨gr, 0, none⟩, q, cr⟩ : Rw)]) (n := n + 1) (by rw [List.flatMap_append]; exact hO') (by simp [hrl]) (by omega)
    have hbb2 : bb = b ∨ M2 ≤ bb := by
     rcases hat with e | e
     · have := own_blk (e.symm.trans rfl : (Value.slice (some ⟨b, 0, none⟩) n m).ownBlock = some bb); omega
     · have := own_blk (n := n + 1) (c := cc) e; omega
    refine ⟨⟨Below.grown hbb hg (Nat.le_trans hNw hbb.size) (fun k hk => by have := own_blk hk; omega), hti.grown hg (fun k hk => by have := own_blk hk; omega) (by omega), hD.grown hO9 hg, hP.grown hg (by intro e; have := own_blk e.symm; omega), hr9.grown2 hg (fun e => by have := own_blk e; omega), Nat.le_trans hM2 hg.size, fun h => absurd h (by simp [upd]), ⟨_, hX.grown2 hg (fun e => by have := own_blk e; omega)⟩, fun h => (hX_o (by simpa [upd] using h)).grown2 hg (fun e => by have := own_blk e; omega)⟩, ⟨bb, cc, rfl, hP'.own Rw.cs_len, hbb2⟩, hg.size, fun j hj hn hR => ?_⟩
    refine keepV ?_ j hj hn hR
    exact ⟨fun _ _ ⟨g2, e, hp⟩ => ⟨g2, e, ⟨hp.1.grown2 hg (fun e => by have := own_blk e; have := hp.2; omega), hp.2⟩⟩, fun h => absurd rfl h, fun _ h => absurd (h.symm.trans (show waits _ _ _ = true by kernel_rfl)) (by decide), trivial⟩
   case a10 =>
    go_light
    intro L σ W' hcl hL hC hw hne
    obtain ⟨bb, cc, e7, hp7⟩ := wE hw 7 rfl
    have e9 := wV hw 9 rfl
    clear hw hne
    have HC := Lib.hid hC
    obtain ⟨hbb, hti, hD, hP, hr9, hM2, hO, ⟨_, hX⟩, hX_o⟩ := hC
    clear hcl hL
    have kc_ := hX.cell
    have kf_ := hX.frozen
    clear hbb hti hD hP hr9 hM2 hO hX hX_o
    refine OpGoes.go fun K hK => ?_
    go_simp
    obtain ⟨hbb, hti, hD, hP, hr9, hM2, hO, ⟨_, hX⟩, hX_o⟩ := HC.out
    have hset := (hX.set 2 (.slice (some ⟨bb, 0, none⟩) (n + 1) cc))
    simp only [List.setIfInBounds_toArray, List.set_cons_zero, List.set_cons_succ] at hset
    refine hK _ _ ⟨⟨(sc hbb), (hti.set (.inl (by omega)) _ _), (DOf.keep hD (fun g' _ _ _ hg => Below.heap_setCell _ ⟨X, 2, none⟩ _ g' (box_ne hg hX (by decide)))), (hP.sn), (hr9.sn), (size_st hM2), fun h => (own_st (hO (by simpa [upd] using h)) (by omega) _ _), ⟨_, hset⟩, fun h => absurd h (by simp [upd])⟩, ⟨bb, cc, hset, (⟨own_st hp7.1 (by have := hp7.2; omega) _ _, hp7.2⟩)⟩, by simp, keepV ?_⟩
    exact ⟨fun _ _ ⟨g2_x, e, hp⟩ => ⟨g2_x, e, (⟨hp.1.set_ne (by have := hp.2; omega) _ _, hp.2⟩)⟩, fun _ _ ⟨bb_x, cc_x, e, hp⟩ => ⟨bb_x, cc_x, e, (⟨own_st hp.1 (by have := hp.2; omega) _ _, hp.2⟩)⟩, fun h => absurd rfl h, trivial⟩
   ·
    intro L L' W' hLL hC
    obtain ⟨hbb, hti, hD, hP, hr9, hM2, hO, ⟨_, hX⟩, hX_o⟩ := hC
    exact ⟨hbb, hti, hD, hP, hr9, hM2, fun h => hO (hLL _ h), ⟨_, hX⟩, fun h => hX_o (hLL _ h)⟩
   ·
    intro σ L W' hall hC hRR
    obtain ⟨hbb, hti, hD, hP, hr9, hM2, hO, ⟨_, hX⟩, hX_o⟩ := hC
    obtain ⟨bb, cc, s10, hp10⟩ := dE hRR 10 rfl
    clear hRR
    simp only [lexAll]
    go_simp
    go_step
    go_wp2
    go_ret
    have hR' := Own.of_own hp10.1 (by simp [hrl])
    have hbM : M ≤ bb := by omega
    have lbb := Own.lt hR'
    have hPl := Own.lt hP
    refine .mkYes (t := { s with rs := s.rs ++ [Rg.seed q v] }) (b := bb) (n := n + 1) (cap := cc) HCY.out hti trivial s10 ⟨by simp [HLN.out], fun _ => ⟨bb, rows ++ [(⟨0, 1, false, -1, some ⟨gr, 0, none⟩, q, cr⟩ : Rw)], rfl, lbb, hR', ?_⟩⟩
    refine DOf.snoc (M := M1) (a := (⟨0, 1, false, -1, some ⟨gr, 0, none⟩, q, cr⟩ : Rw)) (r := Rg.seed q v) ((hD.app [Rg.seed q v]).mono (Nat.le_refl _) (by omega)) ?_ ⟨rfl, rfl, rfl, rfl, gr, rfl, hPl, hP⟩ (by omega) (by omega)
    rw [hrl, ← HLN.out, List.getElem?_append_right (Nat.le_refl _)]
    simp
theorem mild_add {s t : St} {v : Int} (hok : stOk s = true) (ht : addC v s = some t) : Mild t := by
 have hn := stOk_neat hok
 have hrd := stOk_rd hok
 unfold addC at ht
 split at ht
 ·
  injection ht with ht
  subst ht
  refine ⟨by simp; have := hn.2.1; omega, fun r hr => ?_⟩
  rcases List.mem_append.1 hr with hr | hr
  · have := (hn.2.2 r hr).2; omega
  ·
   obtain rfl := List.mem_singleton.1 hr
   simp [Rg.seed, fresh_len]; omega
 · cases ht
end Go.Proofs.YthpckpnlohfcbaaGreatDoor
namespace Go.Proofs.YthpckpnlohfcbaaGreatDoor
set_option linter.unusedSimpArgs false
set_option linter.unusedVariables false
open Go.RowKit
set_option linter.unusedVariables false
attribute [local go_sem] OpUpon
attribute [local go_sem ↓] Go.wp_at_zero Go.wp_at_succ
def arRV (s : St) (N g : Nat) (v : Int) (A' : Option Addr) (n' c' : Nat) : List Sl := [.v (.agg (dS ((done (addC v) s).1.rd) ((done (addC v) s).1.mo) A' n' c' ((done (addC v) s).1.fi) ((done (addC v) s).1.la))),
 .v (.pointer (some ⟨g, 2, none⟩)),
 .v (.slice A' n' c'),
 .v (.int .i64 ((n' : Int))),
 .v ((.int .i64 ((n' : Int) - 1))),
 .e fun σ w => BoxAt w (N + 2) (dS ((done (addC v) s).1.rd) ((done (addC v) s).1.mo) A' n' c' ((done (addC v) s).1.fi) ((done (addC v) s).1.la)) 32,
 .v ((.int .i64 ((n' : Int) - 1)))]
set_option maxRecDepth 100000 in
set_option maxHeartbeats 4000000 in
theorem iaddRing_any (s : St) (A : Option Addr) (n cap lo hi B : Nat) (a0 a1 a2 : Addr) (v : Int) (w : World) (hs : RgsW lo hi w A n cap s.rs) (hh : hi ≤ w.heap.size) (hBw : B ≤ w.heap.size) (he : Errs B w a0 a1) (hS0 : Sent B w 1 a2) (hN0 : a2 ≠ a0) (hm : n ≤ 1048576) (hpn : ∀ r ∈ s.rs, r.ps.length ≤ 1048576) :
  Calls Tryz.prog 143 #[stV s A n cap, v] w (RetSID (addRing s v) w) := by
 have HPN := Lib.hid hpn; clear hpn
 have HLN := Lib.hid hs.1
 have HV := Lib.hid (add_done s v)
 have HSM := Lib.hid (show (done (addC v) s).2 = true → 1 ≤ (done (addC v) s).1.rs.length ∧ (done (addC v) s).1.rs.length ≤ 1048576 from fun h => by
  revert h
  unfold done thenB
  cases hok : stOk s
  · simp
  ·
   cases hc : addC v s with
   | none => simp
   | some t =>
    cases ht : stOk t
    · simp [ht]
    ·
     have hn := stOk_neat ht
     simp [ht]
     have := hn.1; have := hn.2.1; omega)
 obtain ⟨N, hN⟩ : ∃ N, N = w.heap.size := ⟨_, rfl⟩
 have hN1 : w.heap.size ≤ N := by omega
 have hNw : N ≤ w.heap.size := by omega
 have HN := Lib.hid hN
 have hBN : B ≤ N := by omega
 unfold stV
 go_enter Tryz.func143, Tryz.ntmps143
 go_upto_region 1 with fail
 rw [← HN.out]
 refine wp_abs (fun W => Below N w W ∧ N + 3 ≤ W.heap.size ∧ BoxAt W N (aS s A n cap) 32 ∧ BoxAt W (N + 1) #[v] 2 ∧ BoxAt W (N + 2) zS 32) ⟨((((Below.refl _ _).alloc hNw _).alloc (by simp; omega) _).alloc (by simp; omega) _), by simp; omega, (((BoxAt.new' (by omega)).alloc _).alloc _), ((BoxAt.new' (by simp; omega)).alloc _), (BoxAt.new' (by simp; omega))⟩ ?_
 clear hN
 rintro W0 ⟨hB, hsz, hx, hc1, hz⟩
 have ks := hx.cell
 go_wp2_with fail
 clear ks
 have hs3 := hs.keep (w' := W0) (fun j _ hj => hB.block j (by omega))
 have he3 := he.below hB (by omega)
 refine (idoneOrNot_any (addC v) s A n cap lo hi B (N + 1) a0 a1 (fun _ => True) 162 [pT (N + 1)] W0 hs3 (by omega) (by omega) (by omega) (by omega) (by omega) he3 hm HPN.out (fun t hok ht => mild_add hok ht) (fun _ _ _ _ => trivial) (fun hok => iadd1 s v n (N + 1) B a0 a2 (N + 1) W0 hok hc1 (hS0.keep (fun j hj => hB.block j (by omega))) hN0 (by omega) hm) (enters_of Tryz.func162 (by kernel_rfl) rfl)).mono ?_
 rintro e w1 ⟨A', n', c', rfl, hR1, hk1, hbt⟩
 replace hz := hbt.box hz (by omega)
 have hbt2 := hbt.size
 replace hB := hB.trans (hbt.below (by omega) (by omega))
 clear hbt hx hc1 hs3 he3
 unfold stV
 go_upto_region 2 with fail
 refine wp_abs (fun W' => Below N w W' ∧ BoxAt W' (N + 2) zS 32 ∧ BoxAt W' w1.heap.size (dS ((done (addC v) s).1.rd) ((done (addC v) s).1.mo) A' n' c' ((done (addC v) s).1.fi) ((done (addC v) s).1.la)) 32 ∧ DnF (N + 3) (fun _ => True) (done (addC v) s) W' A' n' c') ?_ ?_
 ·
  have b1 := (Below.refl w1.heap.size w1).alloc (Nat.le_refl _) (.cells (dS ((done (addC v) s).1.rd) ((done (addC v) s).1.mo) A' n' c' ((done (addC v) s).1.fi) ((done (addC v) s).1.la)) 32)
  exact ⟨bstep hB (by omega) b1, hz.alloc _, BoxAt.new _ _ _, ⟨⟨w1.heap.size, by simp, (hR1.mono (by omega) (Nat.le_refl _)).below b1 (Nat.le_refl _)⟩, fun _ => trivial⟩⟩
 have hn' : (done (addC v) s).1.rs.length = n' := hR1.1
 have HN' := Lib.hid hn'
 have hgN : N + 3 ≤ w1.heap.size := by omega
 clear hB hz hR1 hn'
 generalize w1.heap.size = g at *
 rintro W2 ⟨hB, hz, hgb, hD⟩
 cases hq : (done (addC v) s).2
 ·
  have HQ := Lib.hid hq; clear hq
  have kg := hgb.cell
  have kz := hz.cell
  have fz := hz.frozen
  go_wp2
  refine bodyPost_ret (v := .tuple #[stV (done (addC v) s).1 A' n' c', .int .i64 (-1)]) (by simp [results, Tryz.results143, go_sem, kz, stV]) rfl ?_
  obtain ⟨hi', hl', hd'⟩ := hD.1
  refine ⟨A', n', c', by rw [HV.out, HQ.out]; rfl, ?_, ((sc (sc (sc (sc (sc hB)))))).mono hN1⟩
  rw [HV.out]
  exact ((((((hd'.setD (.inl (by omega)) _ _).setD (.inl (by omega)) _ _).setD (.inl (by omega)) _ _).setD (.inl (by omega)) _ _).setD (.inl (by omega)) _ _)).mono (by omega) (by simpa using hl')
 ·
  have HQ := Lib.hid hq
  have hn1' : 1 ≤ n' ∧ n' ≤ 1048576 := by have := HSM.out hq; have := HN'.out; omega
  obtain ⟨hn1a, hn1b⟩ := hn1'
  clear hq
  go_upto_region 4 with fail
  refine wp_region2v (fun w w' => Below w.heap.size w w') (fun _ _ h => h.size) (fun _ => Below.refl _ _) (fun L W' => Below N w W' ∧ BoxAt W' g (dS ((done (addC v) s).1.rd) ((done (addC v) s).1.mo) A' n' c' ((done (addC v) s).1.fi) ((done (addC v) s).1.la)) 32 ∧ DnF (N + 3) (fun _ => True) (done (addC v) s) W' A' n' c' ∧ (∃ x0 x1 x2 x3 x4, BoxAt W' (N + 2) #[x0, x1, x2, x3, x4] 32) ∧ (L 5 = false → BoxAt W' (N + 2) zS 32)) (arRV s N g v A' n' c') (fun j => [0, 0, 0, 0, 0, 1, 0].getD j 0) [] (by kernel_rfl) (by kernel_rfl) ?_ ?_ ?_
   (.still rfl ?a0 <| .still rfl ?a1 <| .still rfl ?a2 <| .still rfl ?a3 <| .still rfl ?a4 <| .store rfl ?a5 <| .still rfl ?a6 <| .nil) ?_ ?_
  · exact ⟨fun _ _ _ _ h => h, trivial⟩
  · exact ⟨fun σ w w' hb hR => hR.below hb hR.lt, trivial⟩
  · exact ⟨hB.drew, hgb, hD, ⟨_, _, _, _, _, hz⟩, fun _ => hz⟩
  case a0 | a2 =>
   go_light
   intro L σ W' hcl hL hC hw
   try have e1 := wT hw 1 rfl
   have kg := hC.2.1.cell
   exact zaddB0
  case a1 | a3 | a6 =>
   go_light
   intro L σ W' hcl hL hC hw
   try have e2 := wT hw 2 rfl
   try have e4 := wT hw 4 rfl
   exact zaddB0
  case a4 =>
   go_light
   intro L σ W' hcl hL hC hw
   have e3 := wV hw 3 rfl
   have wr_ : IntKind.i64.wrap ((n' : Int) - 1) = (n' : Int) - 1 := by rw [IntKind.wrap_i64]; omega
   exact zaddB0
  case a5 =>
   go_light
   intro L σ W' hcl hL hC hw hne
   have e0 := wV hw 0 rfl
   clear hw hne
   have HC := Lib.hid hC
   obtain ⟨hB, hgb, hD, ⟨_, _, _, _, _, hz⟩, hz_o⟩ := hC
   clear hcl hL
   have kc_ := hz.cell
   have kf_ := hz.frozen
   clear hB hgb hD hz hz_o
   refine OpGoes.go fun K hK => ?_
   go_simp
   obtain ⟨hB, hgb, hD, ⟨_, _, _, _, _, hz⟩, hz_o⟩ := HC.out
   have hset := sets_all (us := (dS ((done (addC v) s).1.rd) ((done (addC v) s).1.mo) A' n' c' ((done (addC v) s).1.fi) ((done (addC v) s).1.la))) hz rfl
   refine hK undef (setCells W' (N + 2) 0 (dS ((done (addC v) s).1.rd) ((done (addC v) s).1.mo) A' n' c' ((done (addC v) s).1.fi) ((done (addC v) s).1.la))) ⟨⟨(Below.setCells (by omega) _ 0 hB), (BoxAt.sets_ne _ 0 hgb (by omega)), (DnF.sets (by omega) _ 0 hD), ⟨_, _, _, _, _, hset⟩, fun h => absurd h (by simp [upd])⟩, hset, Nat.le_of_eq (sets_size _ _ _).symm, keepV ?_⟩
   exact ⟨fun h => absurd rfl h, trivial⟩
  ·
   intro L L' W' hLL hC
   obtain ⟨hB, hgb, hD, ⟨_, _, _, _, _, hz⟩, hz_o⟩ := hC
   exact ⟨hB, hgb, hD, ⟨_, _, _, _, _, hz⟩, fun h => hz_o (hLL _ h)⟩
  ·
   intro σ L W' hall hC hRR
   obtain ⟨hB, hgb, hD, ⟨_, _, _, _, _, hz⟩, hz_o⟩ := hC
   have s5 := dE hRR 5 rfl
   have e6 := dV hRR 6 rfl
   clear hRR
   simp only [lexAll]
   go_simp
   go_step
   have k6 := s5.cell
   go_wp2
   refine bodyPost_ret (v := .tuple #[stV (done (addC v) s).1 A' n' c', .int .i64 ((n' : Int) - 1)]) (by simp [results, Tryz.results143, go_sem, k6, stV]) rfl ?_
   obtain ⟨hi', hl', hd'⟩ := hD.1
   refine ⟨A', n', c', by rw [HV.out, HQ.out]; simp only [if_true]; rw [hd'.1], ?_, hB.mono hN1⟩
   rw [HV.out]
   exact hd'.mono (by omega) hl'
end Go.Proofs.YthpckpnlohfcbaaGreatDoor

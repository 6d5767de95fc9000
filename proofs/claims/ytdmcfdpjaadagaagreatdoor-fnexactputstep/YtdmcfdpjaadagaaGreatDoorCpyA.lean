/-
 The copy of a store, of the program.
-/
import Derived.Test.YtdmcfdpjaadagaaGreatDoorStoreD
import Derived.Test.YtdmcfdpjaadagaaGreatDoorLawC
import Derived.Test.YtdmcfdpjaadagaaGreatDoorIterE
import Derived.Lib.LazyBuf
namespace Go.Proofs.YtdmcfdpjaadagaaGreatDoor
set_option linter.unusedSimpArgs false
set_option linter.unusedVariables false
open Go.RowKit
set_option linter.unusedVariables false
attribute [local go_sem] OpUpon
attribute [local go_sem ↓] Go.wp_at_zero Go.wp_at_succ

set_option maxRecDepth 100000 in
set_option maxHeartbeats 1000000 in
theorem iclonePl (b n cap : Nat) (l : List Pl) (lo : Nat) (w : World) (hO : PlsO lo w b n cap l) (h0 : 0 < n) (hn : n ≤ 1048576) :
  Calls Tryz.prog 89 #[.slice (some ⟨b, 0, none⟩) n cap] w (fun e w' => ∃ g c, e = .returned (.slice (some ⟨g, 0, none⟩) n c) ∧ PlsO w.heap.size w' g n c l ∧ Below w.heap.size w w') := by
 obtain ⟨i0, hi0, hz0, hz1, hz2⟩ := info_parts place_info
 have HI := Lib.hid hi0
 have HZ0 := Lib.hid hz0
 have HZ1 := Lib.hid hz1
 have HZ2 := Lib.hid hz2
 clear hi0 hz0 hz1 hz2
 have HL := Lib.hid hO.1
 have hbw := Own.lt hO
 have hnil : ∀ W : World, (binOp .eql 84 (.slice (some ⟨b, 0, none⟩) n cap) (.slice none 0 0)).run Tryz.prog W = .ok (.bool false) W := fun W => Go.run_eql_slice_nil W _ _ _ _ _ Tryz.underlying84
 go_enter Tryz.func89, Tryz.ntmps89
 go_wp2_with (at_builtin; go_must (refine wpList_append_own_at _ rfl (.tmp 5) (.tmp 6) _ rfl w.heap.size 33 i0 _ 4 32 Tryz.underlying84 HI.out HZ0.out HZ1.out HZ2.out rfl (by omega) (.slice (some ⟨w.heap.size, 0, none⟩) 0 0) 0 [] rfl (own_made rfl (Nat.le_refl _)) ⟨b, 0, none⟩ n cap (l.flatMap Pl.cs) rfl (by rw [flat_len _ 4 Pl.cs_len, HL.out]) ((Own.own (Own.al hO _) Pl.cs_len).cells rfl) pl_one (by unfold maxLen; omega) (by omega) (by simp) ?_; intro v' w' hO' hg' hz' hat'; clear hz' hat'; obtain ⟨g', cap', rfl, hP'⟩ := Own.of_row (f := Pl.cs) (l := l) (n := n) (by simpa using hO') HL.out h0; have hB' : Below w.heap.size w w' := Below.grown ((Below.refl _ w).alloc (Nat.le_refl _) _) hg' (by simp) (fun k hk => by have := own_blk hk; omega)))
 go_ret
 exact ⟨g', cap', rfl, hP', hB'⟩

set_option maxRecDepth 100000 in
set_option maxHeartbeats 1000000 in
theorem icloneRg (b n cap : Nat) (rows : List Rw) (lo : Nat) (w : World) (hO : RwsO lo w b n cap rows) (h0 : 0 < n) (hn : n ≤ 1048576) :
  Calls Tryz.prog 88 #[.slice (some ⟨b, 0, none⟩) n cap] w (fun e w' => ∃ g c, e = .returned (.slice (some ⟨g, 0, none⟩) n c) ∧ RwsO w.heap.size w' g n c rows ∧ Below w.heap.size w w') := by
 obtain ⟨i0, hi0, hz0, hz1, hz2⟩ := info_parts ring_info
 have HI := Lib.hid hi0
 have HZ0 := Lib.hid hz0
 have HZ1 := Lib.hid hz1
 have HZ2 := Lib.hid hz2
 clear hi0 hz0 hz1 hz2
 have HL := Lib.hid hO.1
 have hbw := Own.lt hO
 have hnil : ∀ W : World, (binOp .eql 30 (.slice (some ⟨b, 0, none⟩) n cap) (.slice none 0 0)).run Tryz.prog W = .ok (.bool false) W := fun W => Go.run_eql_slice_nil W _ _ _ _ _ Tryz.underlying30
 go_enter Tryz.func88, Tryz.ntmps88
 go_wp2_with (at_builtin; go_must (refine wpList_append_own_at _ rfl (.tmp 5) (.tmp 6) _ rfl w.heap.size 86 i0 _ 5 56 Tryz.underlying30 HI.out HZ0.out HZ1.out HZ2.out rfl (by omega) (.slice (some ⟨w.heap.size, 0, none⟩) 0 0) 0 [] rfl (own_made rfl (Nat.le_refl _)) ⟨b, 0, none⟩ n cap (rows.flatMap Rw.cs) rfl (by rw [flat_len _ 5 Rw.cs_len, HL.out]) ((Own.own (Own.al hO _) Rw.cs_len).cells rfl) rw_one (by unfold maxLen; omega) (by omega) (by simp) ?_; intro v' w' hO' hg' hz' hat'; clear hz' hat'; obtain ⟨g', cap', rfl, hP'⟩ := Own.of_row (f := Rw.cs) (l := rows) (n := n) (by simpa using hO') HL.out h0; have hB' : Below w.heap.size w w' := Below.grown ((Below.refl _ w).alloc (Nat.le_refl _) _) hg' (by simp) (fun k hk => by have := own_blk hk; omega)))
 go_ret
 exact ⟨g', cap', rfl, hP', hB'⟩

/-- A copy of a store, no list of which is shared. -/
def RetCopyD (s : St) (n : Nat) (w : World) (e : Ending) (w' : World) : Prop :=
 ∃ b cap, e = .returned (stV s (some ⟨b, 0, none⟩) n cap) ∧ RgsD w.heap.size w'.heap.size w' (some ⟨b, 0, none⟩) n cap s.rs ∧ Below w.heap.size w w'

def icpV (s : St) (N b1 i n c1 M : Nat) (r : Rg) (a : Rw) (g0 : Nat) (rows : List Rw) : List Sl := [.v (.pointer (some ⟨N, 2, none⟩)),
 .v (.slice (some ⟨b1, 0, none⟩) n c1),
 .v (.int .i64 ((i : Int))),
 .v (.pointer (some ⟨N, 2, none⟩)),
 .v (.slice (some ⟨b1, 0, none⟩) n c1),
 .v (.int .i64 ((i : Int))),
 .v (.pointer (some ⟨b1, i * 5, none⟩)),
 .v (.pointer (some ⟨b1, i * 5 + 4, none⟩)),
 .v (.slice (some ⟨g0, 0, none⟩) a.n a.cap),
 .e fun σ w => ∃ (g cg : Nat), σ 9 = .slice (some ⟨g, 0, none⟩) a.n cg ∧ PlsO M w g a.n cg r.ps,
 .v (.pointer (some ⟨b1, i * 5, none⟩)),
 .v (.pointer (some ⟨b1, i * 5 + 4, none⟩)),
 .e fun σ w => ∃ (g cg : Nat), RwsO (N + 2) w b1 n c1 (rows.set i (⟨a.h, a.t, a.c, a.x, some ⟨g, 0, none⟩, a.n, cg⟩ : Rw)) ∧ PlsO M w g a.n cg r.ps]

set_option maxRecDepth 100000 in
set_option maxHeartbeats 2000000 in
theorem icopy_any (s : St) (A : Option Addr) (n cap lo hi : Nat) (w : World) (hr0 : RgsW lo hi w A n cap s.rs) (hh : hi ≤ w.heap.size) (h0 : 1 ≤ n) (hm : n ≤ 1048576) (hps : ∀ r ∈ s.rs, 0 < r.ps.length ∧ r.ps.length ≤ 1048576) :
  Calls Tryz.prog 54 #[stV s A n cap] w (RetCopyD s n w) := by
 have HL := Lib.hid hr0.1
 have HPS := Lib.hid hps; clear hps
 obtain ⟨b, rows0, rfl, hbh, hro0, hal0⟩ := hr0.2 (by omega)
 have HAL := Lib.hid hal0
 clear hr0 hal0
 obtain ⟨N, hN⟩ : ∃ N, N = w.heap.size := ⟨_, rfl⟩
 have hN1 : w.heap.size ≤ N := by omega
 have hN2 : N ≤ w.heap.size := by omega
 have HN := Lib.hid hN
 unfold stV
 go_enter Tryz.func54, Tryz.ntmps54
 go_wp2_with fail
 rw [← HN.out]
 refine calls_abs (fun W => Below N w W ∧ BoxAt W N #[.int .i64 s.rd, .int .i64 s.mo, .slice (some ⟨b, 0, none⟩) n cap, .int .i64 s.fi, .int .i64 s.la] 32 ∧ BoxAt W (N + 1) #[.int .i64 0, .int .i64 0, .slice none 0 0, .int .i64 0, .int .i64 0] 32 ∧ N + 2 ≤ W.heap.size) ⟨((Below.refl _ _).alloc hN2 _).alloc (by simp; omega) _, (BoxAt.new' (by omega)).alloc _, BoxAt.new' (by simp; omega), by simp; omega⟩ ?_
 clear hN
 rintro W ⟨hB, hs, hz, hW⟩
 have hbw := Own.lt hro0
 refine (icloneRg b n cap rows0 lo _ (Own.keep hro0 (hB.block b (by omega))) (by omega) hm).mono ?_
 rintro e w1 ⟨b1, c1, rfl, hO1, hb1⟩
 replace hs := hs.below hb1 hs.lt
 replace hz := hz.below hb1 hz.lt
 have hb1g := hO1.2.1
 replace hO1 := Own.mono hO1 hW
 replace hB := bstep hB (Nat.le_trans hN2 hB.size) hb1
 have hw1 := hb1.size
 clear hb1
 have ks := hs.cell
 have fs := hs.frozen
 go_upto_region 2 with fail
 refine wp_abs (fun W => Below N w W ∧ BoxAt W N #[.int .i64 s.rd, .int .i64 s.mo, .slice (some ⟨b1, 0, none⟩) n c1, .int .i64 s.fi, .int .i64 s.la] 32 ∧ BoxAt W (N + 1) #[.int .i64 0, .int .i64 0, .slice none 0 0, .int .i64 0, .int .i64 0] 32 ∧ RwsO (N + 2) W b1 n c1 rows0) ⟨sc hB, by simpa using hs.set 2 (.slice (some ⟨b1, 0, none⟩) n c1), hz.sn, Own.set_ne hO1 (by omega) _ _⟩ ?_
 clear hB hs hz hO1 ks fs
 rintro W1 ⟨hB, hs, hz, hO1⟩
 have ks := hs.cell
 go_wp2
 clear ks
 go_loopw [11] (fun s11 W => ∃ (i b1 c1 : Nat) (rows : List Rw), i ≤ n ∧ s11 = .int .i64 i ∧ Below N w W ∧ BoxAt W N #[.int .i64 s.rd, .int .i64 s.mo, .slice (some ⟨b1, 0, none⟩) n c1, .int .i64 s.fi, .int .i64 s.la] 32 ∧ BoxAt W (N + 1) #[.int .i64 0, .int .i64 0, .slice none 0 0, .int .i64 0, .int .i64 0] 32 ∧ RwsO (N + 2) W b1 n c1 rows ∧ DOf (N + 2) W.heap.size W (rows.take i) s.rs ∧ ∀ j, i ≤ j → rows[j]? = rows0[j]?) (fun s11 _ => n - (intOf s11).toNat)
 case atStart => exact ⟨0, b1, c1, rows0, Nat.zero_le _, rfl, hB, hs, hz, hO1, ⟨fun j a h => by simp at h, fun j k a b _ h => by simp at h⟩, fun _ _ => rfl⟩
 case round =>
  clear hB hs hz hO1
  obtain ⟨i, b1, c1, rows, hin, rfl, hB, hs, hz, hO, hd, hre⟩ := hrel
  have HRE := Lib.hid hre
  have hrl : rows.length = n := hO.1
  have ks := hs.cell
  by_cases hlt : i < n
  ·
   have hil : i < rows.length := by omega
   obtain ⟨a, ha⟩ : ∃ a, rows[i]? = some a := ⟨_, List.getElem?_eq_getElem hil⟩
   have ha0 : rows0[i]? = some a := by rw [← hre i (Nat.le_refl _)]; exact ha
   obtain ⟨r, hri, e1, e2, e3, e4, hpw⟩ := HAL.out i a ha0
   have HA1 := Lib.hid (⟨e1, e2, e3, e4⟩ : a.h = r.h ∧ a.t = r.t ∧ a.c = r.c ∧ a.x = r.x)
   have HRA := Lib.hid ha
   have HRI := Lib.hid hri
   obtain ⟨hn0, hpn⟩ := HPS.out r (List.mem_of_getElem? hri)
   rw [hpw.1] at hn0 hpn
   obtain ⟨g0, hg0, hg0h, hpl0⟩ := hpw.2 hn0
   have HG0 := Lib.hid hg0
   have g1 : (i : Int) < (n : Int) := by omega
   have g2 : (0 : Int) ≤ (i : Int) := by omega
   clear ha ha0 hri e1 e2 e3 e4 hg0 hpw hre
   obtain ⟨M, hMe⟩ : ∃ M, M = wr.heap.size := ⟨_, rfl⟩
   have hM : M ≤ wr.heap.size := by omega
   have hM2 : wr.heap.size ≤ M := by omega
   have lz := hz.lt
   rw [← hMe] at hd
   have lO := hO.2.1
   clear hMe
   go_upto_region 5 with fail
   clear ks
   refine wp_region2v (fun w w' => Below w.heap.size w w') (fun _ _ h => h.size) (fun _ => Below.refl _ _) (fun L W' => Below N w W' ∧ BoxAt W' N #[.int .i64 s.rd, .int .i64 s.mo, .slice (some ⟨b1, 0, none⟩) n c1, .int .i64 s.fi, .int .i64 s.la] 32 ∧ BoxAt W' (N + 1) #[.int .i64 0, .int .i64 0, .slice none 0 0, .int .i64 0, .int .i64 0] 32 ∧ M ≤ W'.heap.size ∧ DOf (N + 2) M W' (rows.take i) s.rs ∧ (L 12 = false → RwsO (N + 2) W' b1 n c1 rows)) (icpV s N b1 i n c1 M r a g0 rows) (fun j => [0, 0, 0, 0, 0, 0, 0, 0, 0, 0, 0, 0, 1].getD j 0) [] (by kernel_rfl) (by kernel_rfl) ?_ ?_ ?_
    (.still rfl ?a0 <| .still rfl ?a1 <| .still rfl ?a2 <| .still rfl ?a3 <| .still rfl ?a4 <| .still rfl ?a5 <| .still rfl ?a6 <| .still rfl ?a7 <| .still rfl ?a8 <| .grow rfl ?a9 <| .still rfl ?a10 <| .still rfl ?a11 <| .store rfl ?a12 <| .nil) ?_ ?_
   · exact ⟨fun _ _ _ h ⟨g, cg, e, hp⟩ => ⟨g, cg, (h 9 (List.mem_singleton.2 rfl)).symm.trans e, hp⟩, fun _ _ _ _ h => h, trivial⟩
   · exact ⟨fun σ w w' hb ⟨g, cg, e, hp⟩ => ⟨g, cg, e, hp.below hb⟩, fun σ w w' hb ⟨g, cg, h1, h2⟩ => ⟨g, cg, Own.below h1 hb, h2.below hb⟩, trivial⟩
   · exact ⟨hB.drew, hs, hz, hM, hd, fun _ => hO⟩
   case a0 | a2 | a3 | a5 | a6 | a7 | a10 | a11 =>
    go_light
    intro L σ W' hcl hL hC hw
    try have e1 := wT hw 1 rfl
    try have e2 := wT hw 2 rfl
    try have e4 := wT hw 4 rfl
    try have e5 := wT hw 5 rfl
    try have e6 := wT hw 6 rfl
    try have e10 := wT hw 10 rfl
    clear hw hcl hL hC
    refine OpGoes.go fun K hK => ?_
    go_simp
    exact hK _ _ ⟨rfl, rfl⟩
   case a1 | a4 =>
    go_light
    intro L σ W' hcl hL hC hw
    try have e0 := wT hw 0 rfl
    try have e3 := wT hw 3 rfl
    have ks := hC.2.1.cell
    clear hw hcl hL hC
    refine OpGoes.go fun K hK => ?_
    go_simp
    exact hK _ _ ⟨rfl, rfl⟩
   case a8 =>
    go_light
    intro L σ W' hcl hL hC hw
    have e7 := wV hw 7 rfl
    have hO8 := (hC.2.2.2.2.2 (hcl.not (j := 12) (k := 9) (by kernel_rfl) (hcl.not (j := 9) (k := 8) (by kernel_rfl) hL)))
    have d4 := Own.cell_ Rw.cs_len hO8 (j := 4) HRA.out rfl
    rw [HG0.out] at d4
    clear hw hcl hL hC
    refine OpGoes.go fun K hK => ?_
    go_simp
    exact hK _ _ ⟨rfl, rfl⟩
   case a9 =>
    go_light
    intro L σ W' hcl hL hC hw
    have e8 := wV hw 8 rfl
    clear hw
    have HC := Lib.hid hC
    clear hC
    clear hcl hL
    refine OpGoes.go fun K hK => ?_
    go_simp
    obtain ⟨hB, hs, hz, hM, hd, hO⟩ := HC.out
    refine (iclonePl g0 a.n a.cap r.ps lo _ (Own.keep hpl0 (hB.block g0 (by omega))) hn0 hpn).mono ?_
    rintro e w1 ⟨g, cg, rfl, hO7, hb1⟩
    exact ⟨_, rfl, hK _ _ ⟨⟨bstep hB (Nat.le_trans hN2 hB.size) hb1, hs.below hb1 hs.lt, hz.below hb1 hz.lt, Nat.le_trans hM hb1.size, hd.keep (fun g _ _ _ hg => hb1.block g hg.lt), fun h => Own.below (hO (by simpa [upd] using h)) hb1⟩, ⟨g, cg, rfl, hO7.mono hM⟩, hb1⟩⟩
   case a12 =>
    go_light
    intro L σ W' hcl hL hC hw hne
    obtain ⟨g, cg, e9, hp9⟩ := wE hw 9 rfl
    have e11 := wV hw 11 rfl
    clear hw hne
    obtain ⟨hB, hs, hz, hM, hd, hO⟩ := hC
    have hO12 := (hO hL)
    have d4 := Own.cell_ Rw.cs_len hO12 (j := 4) HRA.out rfl
    have df := Own.frozen_ hO12
    obtain ⟨cb1, hbx1⟩ := own_box hO12
    have lb1 := hO12.2.1
    clear hcl hL
    refine OpGoes.go fun K hK => ?_
    go_simp
    refine hK _ _ ⟨⟨sc hB, hs.sn, hz.sn, size_st hM, hd.keep (fun g' _ _ _ hg => Below.heap_setCell _ ⟨b1, i * 5 + 4, none⟩ _ g' (box_ne hg hbx1 (by decide))), fun h => absurd h (by simp [upd])⟩, ?_, by simp, fun j hj hn hR => ?_⟩
    ·
     refine ⟨g, cg, Own.set1 hO12 Rw.cs_len (j := 4) (x' := (⟨a.h, a.t, a.c, a.x, some ⟨g, 0, none⟩, a.n, cg⟩ : Rw)) HRA.out (by omega) rfl, ?_⟩
     obtain ⟨cg1, hbg1⟩ := own_box hp9
     exact Own.set_ne hp9 (box_ne hbg1 hbx1 (by decide)) _ _
    refine keepV ?_ j hj hn hR
    exact ⟨fun _ _ ⟨g, cg, e, hp⟩ => ⟨g, cg, e, by obtain ⟨cg1, hbg1⟩ := own_box hp; exact Own.set_ne hp (box_ne hbg1 hbx1 (by decide)) _ _⟩, fun h => absurd rfl h, trivial⟩
   ·
    intro L L' W' hLL hC
    obtain ⟨hB, hs, hz, hM, hd, hO⟩ := hC
    exact ⟨hB, hs, hz, hM, hd, fun h => hO (hLL _ h)⟩
   ·
    intro σ L W' hall hC hRR
    obtain ⟨hB, hs, hz, hM, hd, hO⟩ := hC
    obtain ⟨g, cg, hO13, hP13⟩ : ∃ (g cg : Nat), RwsO (N + 2) W' b1 n c1 (rows.set i (⟨a.h, a.t, a.c, a.x, some ⟨g, 0, none⟩, a.n, cg⟩ : Rw)) ∧ PlsO M W' g a.n cg r.ps := hRR 12 (by decide)
    clear hRR
    simp only [lexAll]
    go_simp
    go_step
    go_wp2
    go_roundw
    case rel =>
     go_light
     refine ⟨i + 1, b1, c1, rows.set i (⟨a.h, a.t, a.c, a.x, some ⟨g, 0, none⟩, a.n, cg⟩ : Rw), by omega, by go_num, hB, hs, hz, hO13, ?_, ?_⟩
     ·
      have e : (rows.set i (⟨a.h, a.t, a.c, a.x, some ⟨g, 0, none⟩, a.n, cg⟩ : Rw)).take (i + 1) = rows.take i ++ [(⟨a.h, a.t, a.c, a.x, some ⟨g, 0, none⟩, a.n, cg⟩ : Rw)] := by
       rw [List.take_add_one, List.getElem?_set_self hil, List.take_set_of_le (Nat.le_refl _)]
       rfl
      rw [e]
      have hl : (rows.take i).length = i := by rw [List.length_take]; omega
      exact hd.snoc (by rw [hl]; exact HRI.out) ⟨HA1.out.1, HA1.out.2.1, HA1.out.2.2.1, HA1.out.2.2.2, g, rfl, Own.lt hP13, hP13⟩ (by omega) hM
     ·
      intro j hj
      rw [List.getElem?_set_ne (by omega)]
      exact HRE.out j (by omega)
    case measure => simp [intOf]; omega
  ·
   have g1 : ¬ (i : Int) < (n : Int) := by omega
   obtain rfl : n = i := by omega
   have kz := hz.cell
   have fz := hz.frozen
   have lb1 := hO.2.1
   rw [List.take_of_length_le (by omega)] at hd
   go_wp2
   refine bodyPost_ret (v := stV s (some ⟨b1, 0, none⟩) n c1) (by simp [results, Tryz.results54, go_sem, kz, stV]) rfl ⟨b1, c1, rfl, ?_, ?_⟩
   ·
    rw [← HN.out]
    have hOb : N + 1 < N + 2 := by omega
    have lw := Own.lt hO
    refine (RgsD.keep (w := wr) (lo := N + 2) (hi := wr.heap.size) ⟨HL.out, fun _ => ⟨b1, rows, rfl, lw, hO, hd⟩⟩ ?_).mono (by omega) (by simp)
    exact ((((((SameIn.refl _ _ _).trans (SameIn.set (.inl (by omega)) _ _)).trans (SameIn.set (.inl (by omega)) _ _)).trans (SameIn.set (.inl (by omega)) _ _)).trans (SameIn.set (.inl (by omega)) _ _)).trans (SameIn.set (.inl (by omega)) _ _))
   ·
    rw [← HN.out]
    exact (sc (sc (sc (sc (sc hB)))))

end Go.Proofs.YtdmcfdpjaadagaaGreatDoor

/-
 The copy of a store, of the program.
-/
import Derived.Lib.LazyBuf
import Derived.Test.YthpckpnlohfcbaaGreatDoorStoreD
import Derived.Test.YthpckpnlohfcbaaGreatDoorLawC
import Derived.Test.YthpckpnlohfcbaaGreatDoorIterE
import Derived.Test.YthpckpnlohfcbaaGreatDoorChgA
import Derived.Test.YthpckpnlohfcbaaGreatDoorPrim4
namespace Go.Proofs.YthpckpnlohfcbaaGreatDoor
set_option linter.unusedSimpArgs false
set_option linter.unusedVariables false
open Go.RowKit
set_option linter.unusedVariables false
attribute [local go_sem] OpUpon
attribute [local go_sem ↓] Go.wp_at_zero Go.wp_at_succ
theorem zcpyA0 {p : Prop} (h : p := by
 go_light
 intro L σ W' hcl hL hC hw hne
 have e0 := wV hw 0 rfl
 clear hw hne
 have HC := Lib.hid hC
 obtain ⟨hB, hx, hQ, hM, hg, ⟨_, _, _, _, _, hz⟩, hz_o⟩ := hC
 clear hcl hL
 have kc_ := hz.cell
 have kf_ := hz.frozen
 clear hB hx hQ hM hg hz hz_o
 refine OpGoes.go fun K hK => ?_
 go_simp
 obtain ⟨hB, hx, hQ, hM, hg, ⟨_, _, _, _, _, hz⟩, hz_o⟩ := HC.out
 have hset := sets_all (us := [.int .i64 0, .int .i64 0, .slice none 0 0, .int .i64 0, .int .i64 0]) hz rfl
 refine hK undef (setCells W' (N + 1) 0 [.int .i64 0, .int .i64 0, .slice none 0 0, .int .i64 0, .int .i64 0]) ⟨⟨(But.setsN (by omega) _ 0 hB), (BoxAt.sets_ne _ 0 hx (by omega)), (ExBox.sets hQn _ 0 hQ), (size_sts hM _ 0), (CellIs.sets (by omega) _ 0 hg), ⟨_, _, _, _, _, hset⟩, fun h => absurd h (by simp [upd])⟩, hset, Nat.le_of_eq (sets_size _ _ _).symm, keepV ?_⟩
 exact ⟨fun _ _ ⟨p_x, e, hp⟩ => ⟨p_x, e, (NewBox.sets (by omega) _ 0 hp)⟩, fun _ _ ⟨p_x, e, hp⟩ => ⟨p_x, e, (NewBox.sets (by omega) _ 0 hp)⟩, fun h => absurd rfl h, fun _ _ ⟨p_x, e, hp⟩ => ⟨p_x, e, (NewBox.sets (by omega) _ 0 hp)⟩, trivial⟩) : p := h -- 674c65d0
theorem zcpyA1 {p : Prop} (h : p := by
 obtain ⟨p, e7, hp7⟩ := dE hRR 7 rfl
 have s6 := dE hRR 6 rfl
 clear hRR
 simp only [lexAll]
 go_simp
 go_step
 have k6 := s6.cell
 go_wp2
 obtain ⟨cs, t, hq⟩ := hQ
 exact bodyPost_ret (v := .tuple #[.agg #[.int .i64 0, .int .i64 0, .slice none 0 0, .int .i64 0, .int .i64 0], .iface 152 (.pointer (some ⟨p, 0, none⟩))]) (by simp [results, Tryz.results164, go_sem, k6]) rfl (HEND.out _ _ ⟨p, q, cs, t, rfl, by have := hp7.2; omega, hp7.1, HBAD.out, hq, hB⟩)) : p := h -- a0baaf4c
theorem zcpyA2 {p : Prop} (h : p := by
 clear hw hcl hL hC
 refine OpGoes.go fun K hK => ?_
 go_simp
 exact hK _ _ ⟨rfl, rfl⟩) : p := h -- ee92c020
theorem zcpyA3 {p : Prop} (h : p := by
 go_light
 intro L σ W' hcl hL hC hw
 have e3 := wV hw 3 rfl
 clear hw
 have HC := Lib.hid hC
 clear hC
 clear hcl hL
 refine OpGoes.go fun K hK => ?_
 go_simp
 obtain ⟨hB, hx, hQ, hM, hg, ⟨_, _, _, _, _, hz⟩, hz_o⟩ := HC.out
 have hb1 : Below W'.heap.size W' (W'.alloc (.cells #[.int .i64 s.rd, .int .i64 s.mo, .slice A n cap, .int .i64 s.fi, .int .i64 s.la, .iface 194 (.pointer (some q))] 157)) := (Below.refl _ _).alloc (Nat.le_refl _) _
 exact hK _ _ ⟨⟨hB.step hb1, hx.below hb1 hx.lt, hQ.below hb1, Nat.le_trans hM hb1.size, hg.below hb1, ⟨_, _, _, _, _, hz.below hb1 hz.lt⟩, fun h => (hz_o (by simpa [upd] using h)).below hb1 (hz_o (by simpa [upd] using h)).lt⟩, ⟨W'.heap.size, rfl, ⟨BoxAt.new _ _ _, by omega⟩⟩, hb1⟩) : p := h -- cc771184
theorem zcpyA4 {p : Prop} (h : p := by
 go_light
 intro L σ W' hcl hL hC hw
 obtain ⟨p, e4, hp4⟩ := wE hw 4 rfl
 clear hw hcl hL hC
 refine OpGoes.go fun K hK => ?_
 go_simp
 exact hK _ _ ⟨rfl, ⟨p, rfl, hp4⟩⟩) : p := h -- d3747424
theorem zcpyA5 {p : Prop} (h : p := by
 go_light
 intro L σ W' hcl hL hC hw
 obtain ⟨p, e5, hp5⟩ := wE hw 5 rfl
 clear hw hcl hL hC
 refine OpGoes.go fun K hK => ?_
 go_simp
 exact hK _ _ ⟨rfl, ⟨p, rfl, hp5⟩⟩) : p := h -- 74c5c400
theorem zcpyA6 {p : Prop} (h : p := by
 intro L L' W' hLL hC
 obtain ⟨hB, hx, hQ, hM, hg, ⟨_, _, _, _, _, hz⟩, hz_o⟩ := hC
 exact ⟨hB, hx, hQ, hM, hg, ⟨_, _, _, _, _, hz⟩, fun h => hz_o (hLL _ h)⟩) : p := h -- 5846d9a3

set_option maxRecDepth 100000 in
set_option maxHeartbeats 1000000 in
theorem iclonePl (b n cap : Nat) (l : List Pl) (lo : Nat) (w : World) (hO : PlsO lo w b n cap l) (h0 : 0 < n) (hn : n ≤ 1048576) :
  Calls Tryz.prog 62 #[.slice (some ⟨b, 0, none⟩) n cap] w (fun e w' => ∃ g c, e = .returned (.slice (some ⟨g, 0, none⟩) n c) ∧ PlsO w.heap.size w' g n c l ∧ Below w.heap.size w w') := by
 obtain ⟨i0, hi0, hz0, hz1, hz2⟩ := info_parts place_info
 have HI := Lib.hid hi0
 have HZ0 := Lib.hid hz0
 have HZ1 := Lib.hid hz1
 have HZ2 := Lib.hid hz2
 clear hi0 hz0 hz1 hz2
 have HL := Lib.hid hO.1
 have hbw := Own.lt hO
 have hnil : ∀ W : World, (binOp .eql 77 (.slice (some ⟨b, 0, none⟩) n cap) (.slice none 0 0)).run Tryz.prog W = .ok (.bool false) W := fun W => Go.run_eql_slice_nil W _ _ _ _ _ Tryz.underlying77
 go_enter Tryz.func62, Tryz.ntmps62
 go_wp2_with (at_builtin; go_must (refine wpList_append_own_at _ rfl (.tmp 5) (.tmp 6) _ rfl w.heap.size 33 i0 _ 4 32 Tryz.underlying77 HI.out HZ0.out HZ1.out HZ2.out rfl (by omega) (.slice (some ⟨w.heap.size, 0, none⟩) 0 0) 0 [] rfl (own_made rfl (Nat.le_refl _)) ⟨b, 0, none⟩ n cap (l.flatMap Pl.cs) rfl (by rw [flat_len _ 4 Pl.cs_len, HL.out]) ((Own.own (Own.al hO _) Pl.cs_len).cells rfl) pl_one (by unfold maxLen; omega) (by omega) (by simp) ?_; intro v' w' hO' hg' hz' hat'; clear hz' hat'; obtain ⟨g', cap', rfl, hP'⟩ := Own.of_row (f := Pl.cs) (l := l) (n := n) (by simpa using hO') HL.out h0; have hB' : Below w.heap.size w w' := Below.grown ((Below.refl _ w).alloc (Nat.le_refl _) _) hg' (by simp) (fun k hk => by have := own_blk hk; omega)))
 go_ret
 exact ⟨g', cap', rfl, hP', hB'⟩
set_option maxRecDepth 100000 in
set_option maxHeartbeats 1000000 in
theorem icloneRg (b n cap : Nat) (rows : List Rw) (lo : Nat) (w : World) (hO : RwsO lo w b n cap rows) (h0 : 0 < n) (hn : n ≤ 1048576) :
  Calls Tryz.prog 61 #[.slice (some ⟨b, 0, none⟩) n cap] w (fun e w' => ∃ g c, e = .returned (.slice (some ⟨g, 0, none⟩) n c) ∧ RwsO w.heap.size w' g n c rows ∧ Below w.heap.size w w') := by
 obtain ⟨i0, hi0, hz0, hz1, hz2⟩ := info_parts ring_info
 have HI := Lib.hid hi0
 have HZ0 := Lib.hid hz0
 have HZ1 := Lib.hid hz1
 have HZ2 := Lib.hid hz2
 clear hi0 hz0 hz1 hz2
 have HL := Lib.hid hO.1
 have hbw := Own.lt hO
 have hnil : ∀ W : World, (binOp .eql 30 (.slice (some ⟨b, 0, none⟩) n cap) (.slice none 0 0)).run Tryz.prog W = .ok (.bool false) W := fun W => Go.run_eql_slice_nil W _ _ _ _ _ Tryz.underlying30
 go_enter Tryz.func61, Tryz.ntmps61
 go_wp2_with (at_builtin; go_must (refine wpList_append_own_at _ rfl (.tmp 5) (.tmp 6) _ rfl w.heap.size 79 i0 _ 5 56 Tryz.underlying30 HI.out HZ0.out HZ1.out HZ2.out rfl (by omega) (.slice (some ⟨w.heap.size, 0, none⟩) 0 0) 0 [] rfl (own_made rfl (Nat.le_refl _)) ⟨b, 0, none⟩ n cap (rows.flatMap Rw.cs) rfl (by rw [flat_len _ 5 Rw.cs_len, HL.out]) ((Own.own (Own.al hO _) Rw.cs_len).cells rfl) rw_one (by unfold maxLen; omega) (by omega) (by simp) ?_; intro v' w' hO' hg' hz' hat'; clear hz' hat'; obtain ⟨g', cap', rfl, hP'⟩ := Own.of_row (f := Rw.cs) (l := rows) (n := n) (by simpa using hO') HL.out h0; have hB' : Below w.heap.size w w' := Below.grown ((Below.refl _ w).alloc (Nat.le_refl _) _) hg' (by simp) (fun k hk => by have := own_blk hk; omega)))
 go_ret
 exact ⟨g', cap', rfl, hP', hB'⟩
def RetCopyD (s : St) (n : Nat) (w : World) (e : Ending) (w' : World) : Prop :=
 ∃ b cap, e = .returned (stV s (some ⟨b, 0, none⟩) n cap) ∧ RgsD w.heap.size w'.heap.size w' (some ⟨b, 0, none⟩) n cap s.rs ∧ Below w.heap.size w w'
def icpV (s : St) (N b1 i n c1 M : Nat) (r : Rg) (a : Rw) (g0 : Nat) (rows : List Rw) : List Sl := [.v (.pointer (some ⟨N, 2, none⟩)),
 .v (.slice (some ⟨b1, 0, none⟩) n c1),
 .v (.int .i64 ((i : Int))),
 .v (.pointer (some ⟨N, 2, none⟩)),
 .v (.slice (some ⟨b1, 0, none⟩) n c1),
 .v (.int .i64 ((i : Int))),
 .v (.pointer (some ⟨b1, i * 5, none⟩)),
 .v (.pointer (some ⟨b1, i * 5 + 4, none⟩)),
 .v (.slice (some ⟨g0, 0, none⟩) a.n a.cap),
 .e fun σ w => ∃ (g cg : Nat), σ 9 = .slice (some ⟨g, 0, none⟩) a.n cg ∧ PlsO M w g a.n cg r.ps,
 .v (.pointer (some ⟨b1, i * 5, none⟩)),
 .v (.pointer (some ⟨b1, i * 5 + 4, none⟩)),
 .e fun σ w => ∃ (g cg : Nat), RwsO (N + 2) w b1 n c1 (rows.set i (⟨a.h, a.t, a.c, a.x, some ⟨g, 0, none⟩, a.n, cg⟩ : Rw)) ∧ PlsO M w g a.n cg r.ps]
set_option maxRecDepth 100000 in
set_option maxHeartbeats 2000000 in
theorem icopy_any (s : St) (A : Option Addr) (n cap lo hi : Nat) (w : World) (hr0 : RgsW lo hi w A n cap s.rs) (hh : hi ≤ w.heap.size) (h0 : 1 ≤ n) (hm : n ≤ 1048576) (hps : ∀ r ∈ s.rs, 0 < r.ps.length ∧ r.ps.length ≤ 1048576) :
  Calls Tryz.prog 38 #[stV s A n cap] w (RetCopyD s n w) := by
 have HL := Lib.hid hr0.1
 have HPS := Lib.hid hps; clear hps
 obtain ⟨b, rows0, rfl, hbh, hro0, hal0⟩ := hr0.2 (by omega)
 have HAL := Lib.hid hal0
 clear hr0 hal0
 obtain ⟨N, hN⟩ : ∃ N, N = w.heap.size := ⟨_, rfl⟩
 have hN1 : w.heap.size ≤ N := by omega
 have hN2 : N ≤ w.heap.size := by omega
 have HN := Lib.hid hN
 unfold stV
 go_enter Tryz.func38, Tryz.ntmps38
 go_wp2_with fail
 rw [← HN.out]
 refine calls_abs (fun W => Below N w W ∧ BoxAt W N #[.int .i64 s.rd, .int .i64 s.mo, .slice (some ⟨b, 0, none⟩) n cap, .int .i64 s.fi, .int .i64 s.la] 32 ∧ BoxAt W (N + 1) #[.int .i64 0, .int .i64 0, .slice none 0 0, .int .i64 0, .int .i64 0] 32 ∧ N + 2 ≤ W.heap.size) ⟨((Below.refl _ _).alloc hN2 _).alloc (by simp; omega) _, (BoxAt.new' (by omega)).alloc _, BoxAt.new' (by simp; omega), by simp; omega⟩ ?_
 clear hN
 rintro W ⟨hB, hs, hz, hW⟩
 have hbw := Own.lt hro0
 refine (icloneRg b n cap rows0 lo _ (Own.keep hro0 (hB.block b (by omega))) (by omega) hm).mono ?_
 rintro e w1 ⟨b1, c1, rfl, hO1, hb1⟩
 replace hs := hs.below hb1 hs.lt
 replace hz := hz.below hb1 hz.lt
 have hb1g := hO1.2.1
 replace hO1 := Own.mono hO1 hW
 replace hB := bstep hB (Nat.le_trans hN2 hB.size) hb1
 have hw1 := hb1.size
 clear hb1
 have ks := hs.cell
 have fs := hs.frozen
 go_upto_region 2 with fail
 refine wp_abs (fun W => Below N w W ∧ BoxAt W N #[.int .i64 s.rd, .int .i64 s.mo, .slice (some ⟨b1, 0, none⟩) n c1, .int .i64 s.fi, .int .i64 s.la] 32 ∧ BoxAt W (N + 1) #[.int .i64 0, .int .i64 0, .slice none 0 0, .int .i64 0, .int .i64 0] 32 ∧ RwsO (N + 2) W b1 n c1 rows0) ⟨sc hB, by simpa using hs.set 2 (.slice (some ⟨b1, 0, none⟩) n c1), hz.sn, Own.set_ne hO1 (by omega) _ _⟩ ?_
 clear hB hs hz hO1 ks fs
 rintro W1 ⟨hB, hs, hz, hO1⟩
 have ks := hs.cell
 go_wp2
 clear ks
 go_loopw [11] (fun s11 W => ∃ (i b1 c1 : Nat) (rows : List Rw), i ≤ n ∧ s11 = .int .i64 i ∧ Below N w W ∧ BoxAt W N #[.int .i64 s.rd, .int .i64 s.mo, .slice (some ⟨b1, 0, none⟩) n c1, .int .i64 s.fi, .int .i64 s.la] 32 ∧ BoxAt W (N + 1) #[.int .i64 0, .int .i64 0, .slice none 0 0, .int .i64 0, .int .i64 0] 32 ∧ RwsO (N + 2) W b1 n c1 rows ∧ DOf (N + 2) W.heap.size W (rows.take i) s.rs ∧ ∀ j, i ≤ j → rows[j]? = rows0[j]?) (fun s11 _ => n - (intOf s11).toNat)
 case atStart => exact ⟨0, b1, c1, rows0, Nat.zero_le _, rfl, hB, hs, hz, hO1, ⟨fun j a h => by simp at h, fun j k a b _ h => by simp at h⟩, fun _ _ => rfl⟩
 case round =>
  clear hB hs hz hO1
  obtain ⟨i, b1, c1, rows, hin, rfl, hB, hs, hz, hO, hd, hre⟩ := hrel
  have HRE := Lib.hid hre
  have hrl : rows.length = n := hO.1
  have ks := hs.cell
  by_cases hlt : i < n
  ·
   have hil : i < rows.length := by omega
   obtain ⟨a, ha⟩ : ∃ a, rows[i]? = some a := ⟨_, List.getElem?_eq_getElem hil⟩
   have ha0 : rows0[i]? = some a := by rw [← hre i (Nat.le_refl _)]; exact ha
   obtain ⟨r, hri, e1, e2, e3, e4, hpw⟩ := HAL.out i a ha0
   have HA1 := Lib.hid (⟨e1, e2, e3, e4⟩ : a.h = r.h ∧ a.t = r.t ∧ a.c = r.c ∧ a.x = r.x)
   have HRA := Lib.hid ha
   have HRI := Lib.hid hri
   obtain ⟨hn0, hpn⟩ := HPS.out r (List.mem_of_getElem? hri)
   rw [hpw.1] at hn0 hpn
   obtain ⟨g0, hg0, hg0h, hpl0⟩ := hpw.2 hn0
   have HG0 := Lib.hid hg0
   have g1 : (i : Int) < (n : Int) := by omega
   have g2 : (0 : Int) ≤ (i : Int) := by omega
   clear ha ha0 hri e1 e2 e3 e4 hg0 hpw hre
   obtain ⟨M, hMe⟩ : ∃ M, M = wr.heap.size := ⟨_, rfl⟩
   have hM : M ≤ wr.heap.size := by omega
   have hM2 : wr.heap.size ≤ M := by omega
   have lz := hz.lt
   rw [← hMe] at hd
   have lO := hO.2.1
   clear hMe
   go_upto_region 5 with fail
   clear ks
   refine wp_region2v (fun w w' => Below w.heap.size w w') (fun _ _ h => h.size) (fun _ => Below.refl _ _) (fun L W' => Below N w W' ∧ BoxAt W' N #[.int .i64 s.rd, .int .i64 s.mo, .slice (some ⟨b1, 0, none⟩) n c1, .int .i64 s.fi, .int .i64 s.la] 32 ∧ BoxAt W' (N + 1) #[.int .i64 0, .int .i64 0, .slice none 0 0, .int .i64 0, .int .i64 0] 32 ∧ M ≤ W'.heap.size ∧ DOf (N + 2) M W' (rows.take i) s.rs ∧ (L 12 = false → RwsO (N + 2) W' b1 n c1 rows)) (icpV s N b1 i n c1 M r a g0 rows) (fun j => [0, 0, 0, 0, 0, 0, 0, 0, 0, 0, 0, 0, 1].getD j 0) [] (by kernel_rfl) (by kernel_rfl) ?_ ?_ ?_
    (.still rfl ?a0 <| .still rfl ?a1 <| .still rfl ?a2 <| .still rfl ?a3 <| .still rfl ?a4 <| .still rfl ?a5 <| .still rfl ?a6 <| .still rfl ?a7 <| .still rfl ?a8 <| .grow rfl ?a9 <| .still rfl ?a10 <| .still rfl ?a11 <| .store rfl ?a12 <| .nil) ?_ ?_
   · exact ⟨fun _ _ _ h ⟨g, cg, e, hp⟩ => ⟨g, cg, (h 9 (List.mem_singleton.2 rfl)).symm.trans e, hp⟩, fun _ _ _ _ h => h, trivial⟩
   · exact ⟨fun σ w w' hb ⟨g, cg, e, hp⟩ => ⟨g, cg, e, hp.below hb⟩, fun σ w w' hb ⟨g, cg, h1, h2⟩ => ⟨g, cg, Own.below h1 hb, h2.below hb⟩, trivial⟩
   · exact ⟨hB.drew, hs, hz, hM, hd, fun _ => hO⟩
   case a0 | a2 | a3 | a5 | a6 | a7 | a10 | a11 =>
    go_light
    intro L σ W' hcl hL hC hw
    try have e1 := wT hw 1 rfl
    try have e2 := wT hw 2 rfl
    try have e4 := wT hw 4 rfl
    try have e5 := wT hw 5 rfl
    try have e6 := wT hw 6 rfl
    try have e10 := wT hw 10 rfl
    exact zcpyA2
   case a1 | a4 =>
    go_light
    intro L σ W' hcl hL hC hw
    try have e0 := wT hw 0 rfl
    try have e3 := wT hw 3 rfl
    have ks := hC.2.1.cell
    exact zcpyA2
   case a8 =>
    go_light
    intro L σ W' hcl hL hC hw
    have e7 := wV hw 7 rfl
    have hO8 := (hC.2.2.2.2.2 (hcl.not (j := 12) (k := 9) (by kernel_rfl) (hcl.not (j := 9) (k := 8) (by kernel_rfl) hL)))
    have d4 := Own.cell_ Rw.cs_len hO8 (j := 4) HRA.out rfl
    rw [HG0.out] at d4
    exact zcpyA2
   case a9 =>
    go_light
    intro L σ W' hcl hL hC hw
    have e8 := wV hw 8 rfl
    clear hw
    have HC := Lib.hid hC
    clear hC
    clear hcl hL
    refine OpGoes.go fun K hK => ?_
    go_simp
    obtain ⟨hB, hs, hz, hM, hd, hO⟩ := HC.out
    refine (iclonePl g0 a.n a.cap r.ps lo _ (Own.keep hpl0 (hB.block g0 (by omega))) hn0 hpn).mono ?_
    rintro e w1 ⟨g, cg, rfl, hO7, hb1⟩
    exact ⟨_, rfl, hK _ _ ⟨⟨bstep hB (Nat.le_trans hN2 hB.size) hb1, hs.below hb1 hs.lt, hz.below hb1 hz.lt, Nat.le_trans hM hb1.size, hd.keep (fun g _ _ _ hg => hb1.block g hg.lt), fun h => Own.below (hO (by simpa [upd] using h)) hb1⟩, ⟨g, cg, rfl, hO7.mono hM⟩, hb1⟩⟩
   case a12 =>
    go_light
    intro L σ W' hcl hL hC hw hne
    obtain ⟨g, cg, e9, hp9⟩ := wE hw 9 rfl
    have e11 := wV hw 11 rfl
    clear hw hne
    obtain ⟨hB, hs, hz, hM, hd, hO⟩ := hC
    have hO12 := (hO hL)
    have d4 := Own.cell_ Rw.cs_len hO12 (j := 4) HRA.out rfl
    have df := Own.frozen_ hO12
    obtain ⟨cb1, hbx1⟩ := own_box hO12
    have lb1 := hO12.2.1
    clear hcl hL
    refine OpGoes.go fun K hK => ?_
    go_simp
    refine hK _ _ ⟨⟨sc hB, hs.sn, hz.sn, size_st hM, hd.keep (fun g' _ _ _ hg => Below.heap_setCell _ ⟨b1, i * 5 + 4, none⟩ _ g' (box_ne hg hbx1 (by decide))), fun h => absurd h (by simp [upd])⟩, ?_, by simp, fun j hj hn hR => ?_⟩
    ·
     refine ⟨g, cg, Own.set1 hO12 Rw.cs_len (j := 4) (x' := (⟨a.h, a.t, a.c, a.x, some ⟨g, 0, none⟩, a.n, cg⟩ : Rw)) HRA.out (by omega) rfl, ?_⟩
     obtain ⟨cg1, hbg1⟩ := own_box hp9
     exact Own.set_ne hp9 (box_ne hbg1 hbx1 (by decide)) _ _
    refine keepV ?_ j hj hn hR
    exact ⟨fun _ _ ⟨g, cg, e, hp⟩ => ⟨g, cg, e, by obtain ⟨cg1, hbg1⟩ := own_box hp; exact Own.set_ne hp (box_ne hbg1 hbx1 (by decide)) _ _⟩, fun h => absurd rfl h, trivial⟩
   ·
    intro L L' W' hLL hC
    obtain ⟨hB, hs, hz, hM, hd, hO⟩ := hC
    exact ⟨hB, hs, hz, hM, hd, fun h => hO (hLL _ h)⟩
   ·
    intro σ L W' hall hC hRR
    obtain ⟨hB, hs, hz, hM, hd, hO⟩ := hC
    obtain ⟨g, cg, hO13, hP13⟩ : ∃ (g cg : Nat), RwsO (N + 2) W' b1 n c1 (rows.set i (⟨a.h, a.t, a.c, a.x, some ⟨g, 0, none⟩, a.n, cg⟩ : Rw)) ∧ PlsO M W' g a.n cg r.ps := hRR 12 (by decide)
    clear hRR
    simp only [lexAll]
    go_simp
    go_step
    go_wp2
    go_roundw
    case rel =>
     go_light
     refine ⟨i + 1, b1, c1, rows.set i (⟨a.h, a.t, a.c, a.x, some ⟨g, 0, none⟩, a.n, cg⟩ : Rw), by omega, by go_num, hB, hs, hz, hO13, ?_, ?_⟩
     ·
      have e : (rows.set i (⟨a.h, a.t, a.c, a.x, some ⟨g, 0, none⟩, a.n, cg⟩ : Rw)).take (i + 1) = rows.take i ++ [(⟨a.h, a.t, a.c, a.x, some ⟨g, 0, none⟩, a.n, cg⟩ : Rw)] := by
       rw [List.take_add_one, List.getElem?_set_self hil, List.take_set_of_le (Nat.le_refl _)]
       rfl
      rw [e]
      have hl : (rows.take i).length = i := by rw [List.length_take]; omega
      exact hd.snoc (by rw [hl]; exact HRI.out) ⟨HA1.out.1, HA1.out.2.1, HA1.out.2.2.1, HA1.out.2.2.2, g, rfl, Own.lt hP13, hP13⟩ (by omega) hM
     ·
      intro j hj
      rw [List.getElem?_set_ne (by omega)]
      exact HRE.out j (by omega)
    case measure => simp [intOf]; omega
  ·
   have g1 : ¬ (i : Int) < (n : Int) := by omega
   obtain rfl : n = i := by omega
   have kz := hz.cell
   have fz := hz.frozen
   have lb1 := hO.2.1
   rw [List.take_of_length_le (by omega)] at hd
   go_wp2
   refine bodyPost_ret (v := stV s (some ⟨b1, 0, none⟩) n c1) (by simp [results, Tryz.results38, go_sem, kz, stV]) rfl ⟨b1, c1, rfl, ?_, ?_⟩
   ·
    rw [← HN.out]
    have hOb : N + 1 < N + 2 := by omega
    have lw := Own.lt hO
    refine (RgsD.keep (w := wr) (lo := N + 2) (hi := wr.heap.size) ⟨HL.out, fun _ => ⟨b1, rows, rfl, lw, hO, hd⟩⟩ ?_).mono (by omega) (by simp)
    exact ((((((SameIn.refl _ _ _).trans (SameIn.set (.inl (by omega)) _ _)).trans (SameIn.set (.inl (by omega)) _ _)).trans (SameIn.set (.inl (by omega)) _ _)).trans (SameIn.set (.inl (by omega)) _ _)).trans (SameIn.set (.inl (by omega)) _ _))
   ·
    rw [← HN.out]
    exact (sc (sc (sc (sc (sc hB)))))
end Go.Proofs.YthpckpnlohfcbaaGreatDoor
namespace Go.Proofs.YthpckpnlohfcbaaGreatDoor
set_option linter.unusedSimpArgs false
set_option linter.unusedVariables false
open Go.RowKit
set_option linter.unusedVariables false
attribute [local go_sem] OpUpon
attribute [local go_sem ↓] Go.wp_at_zero Go.wp_at_succ
structure Till (M T : Nat) (w w' : World) : Prop where
 os : w'.os = w.os
 tape : w'.tape = w.tape
 output : w'.output = w.output
 size : w.heap.size ≤ w'.heap.size
 block : ∀ j, j < M → j ≠ T → w'.heap[j]? = w.heap[j]?
theorem Till.refl (M T : Nat) (w : World) : Till M T w w := ⟨rfl, rfl, rfl, Nat.le_refl _, fun _ _ _ => rfl⟩
theorem Till.trans {M T : Nat} {a b c : World} (h : Till M T a b) (h' : Till M T b c) : Till M T a c :=
 ⟨h'.os.trans h.os, h'.tape.trans h.tape, h'.output.trans h.output, Nat.le_trans h.size h'.size, fun j hj hk => (h'.block j hj hk).trans (h.block j hj hk)⟩
theorem Till.of_below {M T B : Nat} {a b : World} (h : Below B a b) (hM : M ≤ B) : Till M T a b := ⟨h.os, h.tape, h.output, h.size, fun j hj _ => h.block j (by omega)⟩
theorem Till.of_but {M T : Nat} {a b : World} (h : But T a b) (hM : M ≤ a.heap.size) : Till M T a b := ⟨h.os, h.tape, h.output, h.size, fun j hj hk => h.block j (by omega) hk⟩
theorem Till.set {M T : Nat} {a b : World} (h : Till M T a b) {k : Nat} (hk : M ≤ k ∨ k = T) (i : Nat) (v : Value) : Till M T a (b.setCell ⟨k, i, none⟩ v) :=
 ⟨h.os, h.tape, h.output, by simpa using h.size, fun j hj hT => by
  rw [← h.block j hj hT]
  exact Below.heap_setCell b ⟨k, i, none⟩ v j (by show j ≠ k; omega)⟩
theorem Till.box {M T : Nat} {a b : World} (h : Till M T a b) {j : Nat} {cs : Array Value} {t : TypeId} (hb : BoxAt a j cs t) (hj : j < M) (hT : j ≠ T) : BoxAt b j cs t := by
 unfold BoxAt at *
 rw [h.block j hj hT]; exact hb
theorem Till.mono {M M' T : Nat} {a b : World} (h : Till M T a b) (hM : M' ≤ M) : Till M' T a b := ⟨h.os, h.tape, h.output, h.size, fun j hj => h.block j (by omega)⟩
theorem Till.but {M T : Nat} {a b c : World} (h : But T a b) (h' : Till M T b c) (hM : a.heap.size ≤ M) : But T a c :=
 ⟨h'.os.trans h.os, h'.tape.trans h.tape, h'.output.trans h.output, Nat.le_trans h.size h'.size, fun j hj hk => (h'.block j (by omega) hk).trans (h.block j hj hk)⟩
theorem But.tillB {T B : Nat} {a b : World} (h : But T a b) (hB : B ≤ T) (hs : B ≤ a.heap.size) : Below B a b := h.below hB hs
theorem But.step {T : Nat} {a b c : World} (h : But T a b) (h' : Below b.heap.size b c) : But T a c := h.trans (.of_below h')
theorem But.setN {T : Nat} {a b : World} (h : But T a b) {k : Nat} (hk : a.heap.size ≤ k) (i : Nat) (v : Value) : But T a (b.setCell ⟨k, i, none⟩ v) :=
 ⟨h.os, h.tape, h.output, by simpa using h.size, fun j hj hT => by
  rw [← h.block j hj hT]
  exact Below.heap_setCell b ⟨k, i, none⟩ v j (by show j ≠ k; omega)⟩
def Sent (B : Nat) (W : World) (g : Nat) (a : Addr) : Prop := g < B ∧ a.block < B ∧ W.cell? ⟨g, 0, none⟩ = some (.iface 194 (.pointer (some a))) ∧ ∃ c t, BoxAt W a.block c t
theorem Sent.keep {B : Nat} {W W' : World} {g : Nat} {a : Addr} (h : Sent B W g a) (hs : ∀ j, j < B → W'.heap[j]? = W.heap[j]?) : Sent B W' g a := by
 obtain ⟨h1, h2, h3, c, t, h4⟩ := h
 refine ⟨h1, h2, (World.cell?_of_block (hs g h1)).trans h3, c, t, ?_⟩
 unfold BoxAt at *
 rw [hs _ h2]; exact h4
structure Errs (B : Nat) (W : World) (a0 a1 : Addr) : Prop where
 lt : 7 < B
 et : W.cell? ⟨7, 0, none⟩ = some (.iface 179 (.agg #[.pointer (some ⟨8, 136, none⟩)]))
 s0 : Sent B W 3 a0
 s1 : Sent B W 6 a1
 ne : a1 ≠ a0
theorem Errs.keep {B : Nat} {W W' : World} {a0 a1 : Addr} (h : Errs B W a0 a1) (hs : ∀ j, j < B → W'.heap[j]? = W.heap[j]?) : Errs B W' a0 a1 :=
 ⟨h.lt, (World.cell?_of_block (hs _ h.lt)).trans h.et, h.s0.keep hs, h.s1.keep hs, h.ne⟩
theorem Errs.below {B N : Nat} {W W' : World} {a0 a1 : Addr} (h : Errs B W a0 a1) (hb : Below N W W') (hN : B ≤ N) : Errs B W' a0 a1 := h.keep fun j hj => hb.block j (by omega)
theorem Errs.but {B T : Nat} {W W' : World} {a0 a1 : Addr} (h : Errs B W a0 a1) (hb : But T W W') (hN : B ≤ T) (hs : B ≤ W.heap.size) : Errs B W' a0 a1 := h.keep fun j hj => hb.block j (by omega) (by omega)
def Mild (t : St) : Prop := t.rs.length ≤ 1048576 ∧ ∀ r ∈ t.rs, r.ps.length ≤ 1048576
def ChPost (c : St → Option St) (s : St) (a0 : Addr) (B X M T : Nat) (K : World → Prop) (w : World) (e : Ending) (w' : World) : Prop :=
 Till M T w w' ∧ match c s with
 | none => ∃ a cs t, e = .returned (.iface 194 (.pointer (some a))) ∧ a ≠ a0 ∧ BoxAt w' a.block cs t ∧ a.block < B
 | some t => e = .returned .nilIface ∧ K w' ∧ ∃ b n cap, BoxAt w' X (sC t (some ⟨b, 0, none⟩) n cap) 32 ∧ RgsD M w'.heap.size w' (some ⟨b, 0, none⟩) n cap t.rs
theorem ChPost.no {c : St → Option St} {s : St} {a0 : Addr} {B X M T : Nat} {K : World → Prop} {w : World} {e : Ending} {w' : World} (hc : c s = none) (h : ChPost c s a0 B X M T K w e w') :
  Till M T w w' ∧ ∃ a cs t, e = .returned (.iface 194 (.pointer (some a))) ∧ a ≠ a0 ∧ BoxAt w' a.block cs t ∧ a.block < B := by
 unfold ChPost at h
 rw [hc] at h
 exact h
theorem ChPost.yes {c : St → Option St} {s t : St} {a0 : Addr} {B X M T : Nat} {K : World → Prop} {w : World} {e : Ending} {w' : World} (hc : c s = some t) (h : ChPost c s a0 B X M T K w e w') :
  Till M T w w' ∧ e = .returned .nilIface ∧ K w' ∧ ∃ b n cap, BoxAt w' X (sC t (some ⟨b, 0, none⟩) n cap) 32 ∧ RgsD M w'.heap.size w' (some ⟨b, 0, none⟩) n cap t.rs := by
 unfold ChPost at h
 rw [hc] at h
 exact h
def Changes (c : St → Option St) (s : St) (n : Nat) (a0 : Addr) (T : Nat) (K : World → Prop) (f : FuncId) (cs : List Value) (w : World) : Prop :=
 ∀ (W : World) (X b m M : Nat), Below w.heap.size w W → w.heap.size ≤ M → M ≤ X → X < W.heap.size → BoxAt W X (sC s (some ⟨b, 0, none⟩) n m) 32 → RgsD M X W (some ⟨b, 0, none⟩) n m s.rs →
  Calls Tryz.prog f (.pointer (some ⟨X, 0, none⟩) :: cs).toArray W (ChPost c s a0 w.heap.size X M T K W)
def TrNo (s : St) (A : Option Addr) (n cap : Nat) (T : Nat) (bad : Prop) (a0 : Addr) (w : World) (e : Ending) (w' : World) : Prop :=
 ∃ p a cs t, e = .returned (.tuple #[.agg #[.int .i64 0, .int .i64 0, .slice none 0 0, .int .i64 0, .int .i64 0], .iface 152 (.pointer (some ⟨p, 0, none⟩))]) ∧ w.heap.size ≤ p ∧ BoxAt w' p #[.int .i64 s.rd, .int .i64 s.mo, .slice A n cap, .int .i64 s.fi, .int .i64 s.la, .iface 194 (.pointer (some a))] 157 ∧ (a = a0 ↔ bad) ∧ BoxAt w' a.block cs t ∧ But T w w'
def TrYes (t : St) (T : Nat) (K : World → Prop) (w : World) (e : Ending) (w' : World) : Prop :=
 ∃ b m k, e = .returned (.tuple #[stV t (some ⟨b, 0, none⟩) m k, .nilIface]) ∧ RgsD w.heap.size w'.heap.size w' (some ⟨b, 0, none⟩) m k t.rs ∧ K w' ∧ But T w w'
def Tried (c : St → Option St) (s : St) (A : Option Addr) (n cap : Nat) (T : Nat) (K : World → Prop) (a0 : Addr) (w : World) (e : Ending) (w' : World) : Prop :=
 if (done c s).2 then TrYes (done c s).1 T K w e w' else TrNo s A n cap T (stOk s = false) a0 w e w'
theorem But.setsN {T : Nat} {a : World} {k : Nat} (hk : a.heap.size ≤ k) : ∀ (us : List Value) (o : Nat) {b : World}, But T a b → But T a (Go.Proofs.YthpckpnlohfcbaaGreatDoor.setCells b k o us)
 | [], _, _, h => h
 | u :: us, o, _, h => But.setsN hk us (o + 1) (h.setN hk o u)
def NewBox (N : Nat) (W : World) (p : Nat) (cs : Array Value) (t : TypeId) : Prop := BoxAt W p cs t ∧ N ≤ p
theorem NewBox.below {N : Nat} {W W' : World} {p : Nat} {cs : Array Value} {t : TypeId} (h : NewBox N W p cs t) (hb : Below W.heap.size W W') : NewBox N W' p cs t := ⟨h.1.below hb h.1.lt, h.2⟩
theorem NewBox.setP {N : Nat} {W : World} {p : Nat} {cs : Array Value} {t : TypeId} (h : NewBox N W p cs t) {k : Nat} (hk : k < N) (i : Nat) (u : Value) : NewBox N (W.setCell ⟨k, i, none⟩ u) p cs t := ⟨h.1.set_ne (by have := h.2; omega) _ _, h.2⟩
theorem NewBox.sets {N : Nat} {p : Nat} {cs : Array Value} {t : TypeId} {k : Nat} (hk : k < N) : ∀ (us : List Value) (o : Nat) {W : World}, NewBox N W p cs t → NewBox N (setCells W k o us) p cs t
 | [], _, _, h => h
 | u :: us, o, _, h => NewBox.sets hk us (o + 1) (h.setP hk o u)
def ExBox (W : World) (q : Addr) : Prop := ∃ cs t, BoxAt W q.block cs t
theorem ExBox.below {W W' : World} {q : Addr} (h : ExBox W q) (hb : Below W.heap.size W W') : ExBox W' q := by obtain ⟨cs, t, h⟩ := h; exact ⟨cs, t, h.below hb h.lt⟩
theorem ExBox.setQ {W : World} {q : Addr} (h : ExBox W q) {k : Nat} (hk : q.block ≠ k) (i : Nat) (u : Value) : ExBox (W.setCell ⟨k, i, none⟩ u) q := by obtain ⟨cs, t, h⟩ := h; exact ⟨cs, t, h.set_ne hk _ _⟩
theorem ExBox.sets {q : Addr} {k : Nat} (hk : q.block ≠ k) : ∀ (us : List Value) (o : Nat) {W : World}, ExBox W q → ExBox (setCells W k o us) q
 | [], _, _, h => h
 | u :: us, o, _, h => ExBox.sets hk us (o + 1) (h.setQ hk o u)
def CellIs (W : World) (g : Nat) (v : Value) : Prop := W.cell? ⟨g, 0, none⟩ = some v
theorem CellIs.below {W W' : World} {g : Nat} {v : Value} (h : CellIs W g v) (hb : Below W.heap.size W W') : CellIs W' g v := (hb.cell (p := ⟨g, 0, none⟩) (World.block_lt_of_cell? _ _ h)).trans h
theorem CellIs.setG {W : World} {g : Nat} {v : Value} (h : CellIs W g v) {k : Nat} (hk : g ≠ k) (i : Nat) (u : Value) : CellIs (W.setCell ⟨k, i, none⟩ u) g v := (World.cell?_of_block (Below.heap_setCell W ⟨k, i, none⟩ u g hk)).trans h
theorem CellIs.sets {g : Nat} {v : Value} {k : Nat} (hk : g ≠ k) : ∀ (us : List Value) (o : Nat) {W : World}, CellIs W g v → CellIs (setCells W k o us) g v
 | [], _, _, h => h
 | u :: us, o, _, h => CellIs.sets hk us (o + 1) (h.setG hk o u)
theorem RgsD.setD {lo hi : Nat} {w : World} {A : Option Addr} {n cap : Nat} {L : List Rg} (h : RgsD lo hi w A n cap L) {k : Nat} (hk : k < lo ∨ hi ≤ k) (i : Nat) (u : Value) : RgsD lo hi (w.setCell ⟨k, i, none⟩ u) A n cap L := h.keep (.set hk i u)
theorem RgsD.sets {lo hi : Nat} {A : Option Addr} {n cap : Nat} {L : List Rg} {k : Nat} (hk : k < lo ∨ hi ≤ k) : ∀ (us : List Value) (o : Nat) {w : World}, RgsD lo hi w A n cap L → RgsD lo hi (setCells w k o us) A n cap L
 | [], _, _, h => h
 | u :: us, o, _, h => RgsD.sets hk us (o + 1) (h.setD hk o u)
def trAV (s : St) (A : Option Addr) (n cap N M : Nat) (q : Addr) : List Sl := [.v (.agg #[.int .i64 0, .int .i64 0, .slice none 0 0, .int .i64 0, .int .i64 0]),
 .v (.agg #[.int .i64 s.rd, .int .i64 s.mo, .slice A n cap, .int .i64 s.fi, .int .i64 s.la]),
 .v (.iface 194 (.pointer (some q))),
 .v (.agg #[.int .i64 s.rd, .int .i64 s.mo, .slice A n cap, .int .i64 s.fi, .int .i64 s.la, .iface 194 (.pointer (some q))]),
 .e fun σ w => ∃ (p : Nat), σ 4 = .pointer (some ⟨p, 0, none⟩) ∧ NewBox (N + 2) w p #[.int .i64 s.rd, .int .i64 s.mo, .slice A n cap, .int .i64 s.fi, .int .i64 s.la, .iface 194 (.pointer (some q))] 157,
 .e fun σ w => ∃ (p : Nat), σ 5 = .iface 152 (.pointer (some ⟨p, 0, none⟩)) ∧ NewBox (N + 2) w p #[.int .i64 s.rd, .int .i64 s.mo, .slice A n cap, .int .i64 s.fi, .int .i64 s.la, .iface 194 (.pointer (some q))] 157,
 .e fun σ w => BoxAt w (N + 1) #[.int .i64 0, .int .i64 0, .slice none 0 0, .int .i64 0, .int .i64 0] 32,
 .e fun σ w => ∃ (p : Nat), σ 7 = .iface 152 (.pointer (some ⟨p, 0, none⟩)) ∧ NewBox (N + 2) w p #[.int .i64 s.rd, .int .i64 s.mo, .slice A n cap, .int .i64 s.fi, .int .i64 s.la, .iface 194 (.pointer (some q))] 157]
def trBV (s : St) (A : Option Addr) (n cap N M : Nat) (q : Addr) : List Sl := [.v (.agg #[.int .i64 0, .int .i64 0, .slice none 0 0, .int .i64 0, .int .i64 0]),
 .v (.agg #[.int .i64 s.rd, .int .i64 s.mo, .slice A n cap, .int .i64 s.fi, .int .i64 s.la]),
 .v (.iface 194 (.pointer (some q))),
 .v (.agg #[.int .i64 s.rd, .int .i64 s.mo, .slice A n cap, .int .i64 s.fi, .int .i64 s.la, .iface 194 (.pointer (some q))]),
 .e fun σ w => ∃ (p : Nat), σ 4 = .pointer (some ⟨p, 0, none⟩) ∧ NewBox (N + 2) w p #[.int .i64 s.rd, .int .i64 s.mo, .slice A n cap, .int .i64 s.fi, .int .i64 s.la, .iface 194 (.pointer (some q))] 157,
 .e fun σ w => ∃ (p : Nat), σ 5 = .iface 152 (.pointer (some ⟨p, 0, none⟩)) ∧ NewBox (N + 2) w p #[.int .i64 s.rd, .int .i64 s.mo, .slice A n cap, .int .i64 s.fi, .int .i64 s.la, .iface 194 (.pointer (some q))] 157,
 .e fun σ w => BoxAt w (N + 1) #[.int .i64 0, .int .i64 0, .slice none 0 0, .int .i64 0, .int .i64 0] 32,
 .e fun σ w => ∃ (p : Nat), σ 7 = .iface 152 (.pointer (some ⟨p, 0, none⟩)) ∧ NewBox (N + 2) w p #[.int .i64 s.rd, .int .i64 s.mo, .slice A n cap, .int .i64 s.fi, .int .i64 s.la, .iface 194 (.pointer (some q))] 157]
def trCV (s : St) (A : Option Addr) (n cap N M : Nat) (q : Addr) : List Sl := [.v (.agg #[.int .i64 0, .int .i64 0, .slice none 0 0, .int .i64 0, .int .i64 0]),
 .v (.agg #[.int .i64 s.rd, .int .i64 s.mo, .slice A n cap, .int .i64 s.fi, .int .i64 s.la]),
 .v (.iface 194 (.pointer (some q))),
 .v (.agg #[.int .i64 s.rd, .int .i64 s.mo, .slice A n cap, .int .i64 s.fi, .int .i64 s.la, .iface 194 (.pointer (some q))]),
 .e fun σ w => ∃ (p : Nat), σ 4 = .pointer (some ⟨p, 0, none⟩) ∧ NewBox (N + 2) w p #[.int .i64 s.rd, .int .i64 s.mo, .slice A n cap, .int .i64 s.fi, .int .i64 s.la, .iface 194 (.pointer (some q))] 157,
 .e fun σ w => ∃ (p : Nat), σ 5 = .iface 152 (.pointer (some ⟨p, 0, none⟩)) ∧ NewBox (N + 2) w p #[.int .i64 s.rd, .int .i64 s.mo, .slice A n cap, .int .i64 s.fi, .int .i64 s.la, .iface 194 (.pointer (some q))] 157,
 .e fun σ w => BoxAt w (N + 1) #[.int .i64 0, .int .i64 0, .slice none 0 0, .int .i64 0, .int .i64 0] 32,
 .e fun σ w => ∃ (p : Nat), σ 7 = .iface 152 (.pointer (some ⟨p, 0, none⟩)) ∧ NewBox (N + 2) w p #[.int .i64 s.rd, .int .i64 s.mo, .slice A n cap, .int .i64 s.fi, .int .i64 s.la, .iface 194 (.pointer (some q))] 157]
set_option maxRecDepth 100000 in
set_option maxHeartbeats 4000000 in
theorem itried_bad (c : St → Option St) (s : St) (A : Option Addr) (n cap lo hi B T : Nat) (a0 a1 : Addr) (K : World → Prop) (v : Value) (w : World) (hs : RgsW lo hi w A n cap s.rs) (hh : hi ≤ w.heap.size) (hT : hi ≤ T) (hTl : T < w.heap.size) (hBT : B ≤ T) (hBw : B ≤ w.heap.size) (he : Errs B w a0 a1) (hm : n ≤ 1048576) (hpn : ∀ r ∈ s.rs, r.ps.length ≤ 1048576) (hok : stOk s = false) :
  Calls Tryz.prog 164 #[stV s A n cap, v] w (Tried c s A n cap T K a0 w) := by
 have HEND := Lib.hid (show ∀ e w', TrNo s A n cap T (stOk s = false) a0 w e w' → Tried c s A n cap T K a0 w e w' from fun e w' h => by unfold Tried; rw [done_bad hok]; exact h)
 obtain ⟨q, hqe⟩ : ∃ q, q = a0 := ⟨_, rfl⟩
 have HBAD := Lib.hid (show q = a0 ↔ stOk s = false from ⟨fun _ => hok, fun _ => hqe⟩)
 have HQE := Lib.hid hqe; clear hqe
 have HPN := Lib.hid hpn; clear hpn
 have HLN := Lib.hid hs.1
 obtain ⟨N, hN⟩ : ∃ N, N = w.heap.size := ⟨_, rfl⟩
 have hN1 : w.heap.size ≤ N := by omega
 have hN2 : N ≤ w.heap.size := by omega
 have HN := Lib.hid hN
 unfold stV
 go_enter Tryz.func164, Tryz.ntmps164
 go_wp2_with fail
 rw [← HN.out]
 refine calls_abs (fun W => Below N w W ∧ BoxAt W N #[.int .i64 s.rd, .int .i64 s.mo, .slice A n cap, .int .i64 s.fi, .int .i64 s.la] 32 ∧ BoxAt W (N + 1) #[.int .i64 0, .int .i64 0, .slice none 0 0, .int .i64 0, .int .i64 0] 32 ∧ N + 2 ≤ W.heap.size) ⟨((Below.refl _ _).alloc hN2 _).alloc (by simp; omega) _, (BoxAt.new' (by omega)).alloc _, BoxAt.new' (by simp; omega), by simp; omega⟩ ?_
 clear hN
 rintro W ⟨hB, hx, hz, hW⟩
 have hsW := hs.keep (w' := W) (fun j _ hj => hB.block j (by omega))
 refine (istoreOk_any s A n cap lo hi _ hsW (by omega) hm HPN.out).mono ?_
 rintro e w1 ⟨rfl, hb1⟩
 replace hx := hx.below hb1 hx.lt
 replace hz := hz.below hb1 hz.lt
 replace hB := bstep hB (Nat.le_trans hN2 hB.size) hb1
 have hw1 := hb1.size
 clear hb1 hsW
 rw [hok]
 clear hok
 obtain ⟨hg0, hq0, hg, cq, tq, hQ0⟩ := (he.below hB (by omega)).s0
 have hQ : ExBox w1 a0 := ⟨cq, tq, hQ0⟩
 replace hg : CellIs w1 3 (.iface 194 (.pointer (some a0))) := hg
 have hQn : a0.block ≠ N + 1 := by omega
 clear hQ0
 replace hB : But T w w1 := .of_below (hB.mono hN1)
 rw [← HQE.out] at hQ hg hQn
 obtain ⟨M, hMe⟩ : ∃ M, M = w1.heap.size := ⟨_, rfl⟩
 have hM : M ≤ w1.heap.size := by omega
 have hM2 : N + 2 ≤ M := by omega
 go_upto_region 2 with fail
 refine wp_region2v (fun w w' => Below w.heap.size w w') (fun _ _ h => h.size) (fun _ => Below.refl _ _) (fun L W' => But T w W' ∧ BoxAt W' N #[.int .i64 s.rd, .int .i64 s.mo, .slice A n cap, .int .i64 s.fi, .int .i64 s.la] 32 ∧ ExBox W' q ∧ M ≤ W'.heap.size ∧ CellIs W' 3 (.iface 194 (.pointer (some q))) ∧ (∃ x0 x1 x2 x3 x4, BoxAt W' (N + 1) #[x0, x1, x2, x3, x4] 32) ∧ (L 6 = false → BoxAt W' (N + 1) #[.int .i64 0, .int .i64 0, .slice none 0 0, .int .i64 0, .int .i64 0] 32)) (trAV s A n cap N M q) (fun j => [0, 0, 0, 0, 0, 0, 1, 0].getD j 0) [] (by kernel_rfl) (by kernel_rfl) ?_ ?_ ?_
  (.still rfl ?a0 <| .still rfl ?a1 <| .still rfl ?a2 <| .still rfl ?a3 <| .grow rfl ?a4 <| .still rfl ?a5 <| .store rfl ?a6 <| .still rfl ?a7 <| .nil) ?_ ?_
 · exact ⟨fun _ _ _ h ⟨p, e, hp⟩ => ⟨p, (h 4 (List.mem_singleton.2 rfl)).symm.trans e, hp⟩, fun _ _ _ h ⟨p, e, hp⟩ => ⟨p, (h 5 (List.mem_singleton.2 rfl)).symm.trans e, hp⟩, fun _ _ _ _ h => h, fun _ _ _ h ⟨p, e, hp⟩ => ⟨p, (h 7 (List.mem_singleton.2 rfl)).symm.trans e, hp⟩, trivial⟩
 · exact ⟨fun σ w w' hb ⟨p, e, hp⟩ => ⟨p, e, hp.below hb⟩, fun σ w w' hb ⟨p, e, hp⟩ => ⟨p, e, hp.below hb⟩, fun σ w w' hb hR => hR.below hb hR.lt, fun σ w w' hb ⟨p, e, hp⟩ => ⟨p, e, hp.below hb⟩, trivial⟩
 · exact ⟨hB.drewN _, hx, hQ, hM, hg, ⟨_, _, _, _, _, hz⟩, fun _ => hz⟩
 case a0 | a3 =>
  go_light
  intro L σ W' hcl hL hC hw
  try have e1 := wT hw 1 rfl
  try have e2 := wT hw 2 rfl
  exact zcpyA2
 case a1 =>
  go_light
  intro L σ W' hcl hL hC hw
  have ks := hC.2.1.cell
  exact zcpyA2
 case a2 =>
  go_light
  intro L σ W' hcl hL hC hw
  have kg := hC.2.2.2.2.1
  unfold CellIs at kg
  exact zcpyA2
 case a4 =>
  exact zcpyA3
 case a5 =>
  exact zcpyA4
 case a6 =>
  exact zcpyA0
 case a7 =>
  exact zcpyA5
 ·
  exact zcpyA6
 ·
  intro σ L W' hall hC hRR
  obtain ⟨hB, hx, hQ, hM, hg, ⟨_, _, _, _, _, hz⟩, hz_o⟩ := hC
  exact zcpyA1
set_option maxRecDepth 100000 in
set_option maxHeartbeats 4000000 in
theorem itried_ok (c : St → Option St) (s : St) (A : Option Addr) (n cap lo hi B T : Nat) (a0 a1 : Addr) (K : World → Prop) (f : FuncId) (cs : List Value) (w : World) (hs : RgsW lo hi w A n cap s.rs) (hh : hi ≤ w.heap.size) (hT : hi ≤ T) (hTl : T < w.heap.size) (hBT : B ≤ T) (hBw : B ≤ w.heap.size) (he : Errs B w a0 a1) (hm : n ≤ 1048576) (hpn : ∀ r ∈ s.rs, r.ps.length ≤ 1048576) (hok : stOk s = true)
  (hmild : ∀ t, c s = some t → Mild t) (hK : ∀ W W', K W → Below w.heap.size W W' → K W') (hch : Changes c s n a0 T K f cs w) (hen : Enters Tryz.prog f) :
  Calls Tryz.prog 164 #[stV s A n cap, .func (.func f) #[] cs.toArray] w (Tried c s A n cap T K a0 w) := by
 have HOK := Lib.hid hok; clear hok
 have HK := Lib.hid hK; clear hK
 have HMI := Lib.hid hmild; clear hmild
 have HCH := Lib.hid hch; clear hch
 have HEN := Lib.hid hen; clear hen
 have HPN := Lib.hid hpn; clear hpn
 have HLN := Lib.hid hs.1
 obtain ⟨N, hN⟩ : ∃ N, N = w.heap.size := ⟨_, rfl⟩
 have hN1 : w.heap.size ≤ N := by omega
 have hN2 : N ≤ w.heap.size := by omega
 have HN := Lib.hid hN
 unfold stV
 go_enter Tryz.func164, Tryz.ntmps164
 go_wp2_with fail
 rw [← HN.out]
 refine calls_abs (fun W => Below N w W ∧ BoxAt W N #[.int .i64 s.rd, .int .i64 s.mo, .slice A n cap, .int .i64 s.fi, .int .i64 s.la] 32 ∧ BoxAt W (N + 1) #[.int .i64 0, .int .i64 0, .slice none 0 0, .int .i64 0, .int .i64 0] 32 ∧ N + 2 ≤ W.heap.size) ⟨((Below.refl _ _).alloc hN2 _).alloc (by simp; omega) _, (BoxAt.new' (by omega)).alloc _, BoxAt.new' (by simp; omega), by simp; omega⟩ ?_
 clear hN
 rintro W ⟨hB, hx, hz, hW⟩
 have hsW := hs.keep (w' := W) (fun j _ hj => hB.block j (by omega))
 refine (istoreOk_any s A n cap lo hi _ hsW (by omega) hm HPN.out).mono ?_
 rintro e w1 ⟨rfl, hb1⟩
 replace hx := hx.below hb1 hx.lt
 replace hz := hz.below hb1 hz.lt
 replace hB := bstep hB (Nat.le_trans hN2 hB.size) hb1
 have hw1 := hb1.size
 clear hb1 hsW
 rw [HOK.out]
 have hn1 : 1 ≤ n := by have := (stOk_neat HOK.out).1; have := HLN.out; omega
 have kx := hx.cell
 go_wp2_with fail
 clear kx
 have hsW := hs.keep (w' := w1) (fun j _ hj => hB.block j (by omega))
 refine (icopy_any s A n cap lo hi _ hsW (by omega) hn1 hm (stOk_neat HOK.out).cp).mono ?_
 rintro e w2 ⟨b, m, rfl, hR, hb2⟩
 obtain ⟨M, hMe⟩ : ∃ M, M = w1.heap.size := ⟨_, rfl⟩
 rw [← hMe] at hR
 replace hx := hx.below hb2 hx.lt
 replace hz := hz.below hb2 hz.lt
 replace hB := bstep hB (Nat.le_trans hN2 hB.size) hb2
 have hw2 := hb2.size
 have hM2 : N + 2 ≤ M := by omega
 clear hb2 hsW
 unfold stV
 go_upto_region 4 with fail
 refine wp_abs (fun W => Below N w W ∧ BoxAt W N #[.int .i64 s.rd, .int .i64 s.mo, .slice A n cap, .int .i64 s.fi, .int .i64 s.la] 32 ∧ BoxAt W (N + 1) #[.int .i64 0, .int .i64 0, .slice none 0 0, .int .i64 0, .int .i64 0] 32 ∧ BoxAt W w2.heap.size #[.int .i64 s.rd, .int .i64 s.mo, .slice (some ⟨b, 0, none⟩) n m, .int .i64 s.fi, .int .i64 s.la] 32 ∧ RgsD M w2.heap.size W (some ⟨b, 0, none⟩) n m s.rs ∧ w2.heap.size < W.heap.size) ⟨hB.alloc (Nat.le_trans hN2 hB.size) _, hx.alloc _, hz.alloc _, BoxAt.new _ _ _, hR.keep (.alloc (Nat.le_refl _) _), by simp⟩ ?_
 have hMX : M ≤ w2.heap.size := by omega
 clear hB hx hz hR
 generalize w2.heap.size = X at *
 rintro W3 ⟨hB, hx, hz, hX, hR, hXl⟩
 have hen := HEN.out
 unfold Enters at hen
 go_wp2_with fail
 clear hen
 refine (HCH.out W3 X b m M (hB.mono hN1) (by omega) hMX hXl hX hR).mono ?_
 cases hc : c s with
 | none =>
  rintro e w4 hpost
  obtain ⟨hti, q, cq, tq, rfl, hqa, hQ0, hqM⟩ := hpost.no hc
  have HEND := Lib.hid (show ∀ e w', TrNo s A n cap T (stOk s = false) a0 w e w' → Tried c s A n cap T K a0 w e w' from fun e w' h => by unfold Tried; rw [done_no HOK.out hc]; exact h)
  have HBAD := Lib.hid (show q = a0 ↔ stOk s = false from ⟨fun h => absurd h hqa, fun h => by rw [HOK.out] at h; cases h⟩)
  clear hpost hc hqa
  have hQ : ExBox w4 q := ⟨cq, tq, hQ0⟩
  have hTN : N ≠ T ∧ N + 1 ≠ T := ⟨by omega, by omega⟩
  replace hx := hti.box hx (by omega) hTN.1
  replace hz := hti.box hz (by omega) hTN.2
  replace hB : But T w w4 := Till.but (.of_below (hB.mono hN1)) hti (by omega)
  have hQn : q.block ≠ N + 1 := by omega
  obtain ⟨M, hMe⟩ : ∃ M, M = w4.heap.size := ⟨_, rfl⟩
  have hM : M ≤ w4.heap.size := by omega
  have hM2 : N + 2 ≤ M := by have := hti.size; omega
  clear hQ0 hX hR
  go_upto_region 6 with fail
  refine wp_region2v (fun w w' => Below w.heap.size w w') (fun _ _ h => h.size) (fun _ => Below.refl _ _) (fun L W' => But T w W' ∧ BoxAt W' N #[.int .i64 s.rd, .int .i64 s.mo, .slice A n cap, .int .i64 s.fi, .int .i64 s.la] 32 ∧ ExBox W' q ∧ M ≤ W'.heap.size ∧ (∃ x0 x1 x2 x3 x4, BoxAt W' (N + 1) #[x0, x1, x2, x3, x4] 32) ∧ (L 6 = false → BoxAt W' (N + 1) #[.int .i64 0, .int .i64 0, .slice none 0 0, .int .i64 0, .int .i64 0] 32)) (trBV s A n cap N M q) (fun j => [0, 0, 0, 0, 0, 0, 1, 0].getD j 0) [] (by kernel_rfl) (by kernel_rfl) ?_ ?_ ?_
   (.still rfl ?a0 <| .still rfl ?a1 <| .still rfl ?a2 <| .still rfl ?a3 <| .grow rfl ?a4 <| .still rfl ?a5 <| .store rfl ?a6 <| .still rfl ?a7 <| .nil) ?_ ?_
  · exact ⟨fun _ _ _ h ⟨p, e, hp⟩ => ⟨p, (h 4 (List.mem_singleton.2 rfl)).symm.trans e, hp⟩, fun _ _ _ h ⟨p, e, hp⟩ => ⟨p, (h 5 (List.mem_singleton.2 rfl)).symm.trans e, hp⟩, fun _ _ _ _ h => h, fun _ _ _ h ⟨p, e, hp⟩ => ⟨p, (h 7 (List.mem_singleton.2 rfl)).symm.trans e, hp⟩, trivial⟩
  · exact ⟨fun σ w w' hb ⟨p, e, hp⟩ => ⟨p, e, hp.below hb⟩, fun σ w w' hb ⟨p, e, hp⟩ => ⟨p, e, hp.below hb⟩, fun σ w w' hb hR => hR.below hb hR.lt, fun σ w w' hb ⟨p, e, hp⟩ => ⟨p, e, hp.below hb⟩, trivial⟩
  · exact ⟨hB.drewN _, hx, hQ, hM, ⟨_, _, _, _, _, hz⟩, fun _ => hz⟩
  case a0 | a2 | a3 =>
   go_light
   intro L σ W' hcl hL hC hw
   try have e1 := wT hw 1 rfl
   try have e2 := wT hw 2 rfl
   exact zcpyA2
  case a1 =>
   go_light
   intro L σ W' hcl hL hC hw
   have ks := hC.2.1.cell
   exact zcpyA2
  case a4 =>
   go_light
   intro L σ W' hcl hL hC hw
   have e3 := wV hw 3 rfl
   clear hw
   have HC := Lib.hid hC
   clear hC
   clear hcl hL
   refine OpGoes.go fun K hK => ?_
   go_simp
   obtain ⟨hB, hx, hQ, hM, ⟨_, _, _, _, _, hz⟩, hz_o⟩ := HC.out
   have hb1 : Below W'.heap.size W' (W'.alloc (.cells #[.int .i64 s.rd, .int .i64 s.mo, .slice A n cap, .int .i64 s.fi, .int .i64 s.la, .iface 194 (.pointer (some q))] 157)) := (Below.refl _ _).alloc (Nat.le_refl _) _
   exact hK _ _ ⟨⟨hB.step hb1, hx.below hb1 hx.lt, hQ.below hb1, Nat.le_trans hM hb1.size, ⟨_, _, _, _, _, hz.below hb1 hz.lt⟩, fun h => (hz_o (by simpa [upd] using h)).below hb1 (hz_o (by simpa [upd] using h)).lt⟩, ⟨W'.heap.size, rfl, ⟨BoxAt.new _ _ _, by omega⟩⟩, hb1⟩
  case a5 =>
   exact zcpyA4
  case a6 =>
   go_light
   intro L σ W' hcl hL hC hw hne
   have e0 := wV hw 0 rfl
   clear hw hne
   have HC := Lib.hid hC
   obtain ⟨hB, hx, hQ, hM, ⟨_, _, _, _, _, hz⟩, hz_o⟩ := hC
   clear hcl hL
   have kc_ := hz.cell
   have kf_ := hz.frozen
   clear hB hx hQ hM hz hz_o
   refine OpGoes.go fun K hK => ?_
   go_simp
   obtain ⟨hB, hx, hQ, hM, ⟨_, _, _, _, _, hz⟩, hz_o⟩ := HC.out
   have hset := sets_all (us := [.int .i64 0, .int .i64 0, .slice none 0 0, .int .i64 0, .int .i64 0]) hz rfl
   refine hK undef (setCells W' (N + 1) 0 [.int .i64 0, .int .i64 0, .slice none 0 0, .int .i64 0, .int .i64 0]) ⟨⟨(But.setsN (by omega) _ 0 hB), (BoxAt.sets_ne _ 0 hx (by omega)), (ExBox.sets hQn _ 0 hQ), (size_sts hM _ 0), ⟨_, _, _, _, _, hset⟩, fun h => absurd h (by simp [upd])⟩, hset, Nat.le_of_eq (sets_size _ _ _).symm, keepV ?_⟩
   exact ⟨fun _ _ ⟨p_x, e, hp⟩ => ⟨p_x, e, (NewBox.sets (by omega) _ 0 hp)⟩, fun _ _ ⟨p_x, e, hp⟩ => ⟨p_x, e, (NewBox.sets (by omega) _ 0 hp)⟩, fun h => absurd rfl h, fun _ _ ⟨p_x, e, hp⟩ => ⟨p_x, e, (NewBox.sets (by omega) _ 0 hp)⟩, trivial⟩
  case a7 =>
   exact zcpyA5
  ·
   intro L L' W' hLL hC
   obtain ⟨hB, hx, hQ, hM, ⟨_, _, _, _, _, hz⟩, hz_o⟩ := hC
   exact ⟨hB, hx, hQ, hM, ⟨_, _, _, _, _, hz⟩, fun h => hz_o (hLL _ h)⟩
  ·
   intro σ L W' hall hC hRR
   obtain ⟨hB, hx, hQ, hM, ⟨_, _, _, _, _, hz⟩, hz_o⟩ := hC
   exact zcpyA1
 | some t =>
  rintro e w4 hpost
  obtain ⟨hti, rfl, hk, b2, n2, m2, hX, hR⟩ := hpost.yes hc
  have HC := Lib.hid hc
  clear hpost hc
  unfold sC at hX
  replace hx := hti.box hx (by omega) (by omega)
  replace hz := hti.box hz (by omega) (by omega)
  have hBM : Below N w W3 := hB
  replace hB : But T w w4 := Till.but (.of_below (hB.mono hN1)) hti (by omega)
  have hmi := HMI.out t HC.out
  have hn2 : t.rs.length = n2 := hR.1
  have kX := hX.cell
  go_wp2_with fail
  clear kX
  refine (istoreOk_any t _ n2 m2 _ _ _ hR.toW (Nat.le_refl _) (by have := hmi.1; omega) hmi.2).mono ?_
  rintro e w5 ⟨rfl, hb5⟩
  replace hx := hx.below hb5 hx.lt
  replace hz := hz.below hb5 hz.lt
  replace hX := hX.below hb5 hX.lt
  replace hR := hR.below hb5 (Nat.le_refl _)
  replace hB := hB.step hb5
  replace hk := HK.out _ _ hk (hb5.mono (by have := hti.size; have := hBM.size; omega))
  have hw5 := hb5.size
  have hw4 := hti.size
  clear hb5
  cases hto : stOk t with
  | false =>
   have HEND := Lib.hid (show ∀ e w', TrNo s A n cap T (stOk s = false) a0 w e w' → Tried c s A n cap T K a0 w e w' from fun e w' h => by unfold Tried; rw [done_then HOK.out HC.out, hto]; exact h)
   obtain ⟨q, hqe⟩ : ∃ q, q = a1 := ⟨_, rfl⟩
   have HBAD := Lib.hid (show q = a0 ↔ stOk s = false from ⟨fun h => absurd (hqe ▸ h) he.ne, fun h => by rw [HOK.out] at h; cases h⟩)
   have HQE := Lib.hid hqe; clear hqe
   clear hto
   obtain ⟨hg0, hq0, hg, cq, tq, hQ0⟩ := (he.but hB hBT hBw).s1
   have hQ : ExBox w5 a1 := ⟨cq, tq, hQ0⟩
   replace hg : CellIs w5 6 (.iface 194 (.pointer (some a1))) := hg
   have hQn : a1.block ≠ N + 1 := by omega
   clear hQ0
   rw [← HQE.out] at hQ hg hQn
   obtain ⟨M', hMe⟩ : ∃ M', M' = w5.heap.size := ⟨_, rfl⟩
   clear hR
   generalize M = M0 at *
   obtain ⟨M, hMM⟩ : ∃ M, M = w5.heap.size := ⟨_, rfl⟩
   have hM : M ≤ w5.heap.size := by omega
   have hM2' : N + 2 ≤ M := by omega
   go_upto_region 8 with fail
   refine wp_region2v (fun w w' => Below w.heap.size w w') (fun _ _ h => h.size) (fun _ => Below.refl _ _) (fun L W' => But T w W' ∧ BoxAt W' N #[.int .i64 s.rd, .int .i64 s.mo, .slice A n cap, .int .i64 s.fi, .int .i64 s.la] 32 ∧ ExBox W' q ∧ M ≤ W'.heap.size ∧ CellIs W' 6 (.iface 194 (.pointer (some q))) ∧ (∃ x0 x1 x2 x3 x4, BoxAt W' (N + 1) #[x0, x1, x2, x3, x4] 32) ∧ (L 6 = false → BoxAt W' (N + 1) #[.int .i64 0, .int .i64 0, .slice none 0 0, .int .i64 0, .int .i64 0] 32)) (trCV s A n cap N M q) (fun j => [0, 0, 0, 0, 0, 0, 1, 0].getD j 0) [] (by kernel_rfl) (by kernel_rfl) ?_ ?_ ?_
    (.still rfl ?a0 <| .still rfl ?a1 <| .still rfl ?a2 <| .still rfl ?a3 <| .grow rfl ?a4 <| .still rfl ?a5 <| .store rfl ?a6 <| .still rfl ?a7 <| .nil) ?_ ?_
   · exact ⟨fun _ _ _ h ⟨p, e, hp⟩ => ⟨p, (h 4 (List.mem_singleton.2 rfl)).symm.trans e, hp⟩, fun _ _ _ h ⟨p, e, hp⟩ => ⟨p, (h 5 (List.mem_singleton.2 rfl)).symm.trans e, hp⟩, fun _ _ _ _ h => h, fun _ _ _ h ⟨p, e, hp⟩ => ⟨p, (h 7 (List.mem_singleton.2 rfl)).symm.trans e, hp⟩, trivial⟩
   · exact ⟨fun σ w w' hb ⟨p, e, hp⟩ => ⟨p, e, hp.below hb⟩, fun σ w w' hb ⟨p, e, hp⟩ => ⟨p, e, hp.below hb⟩, fun σ w w' hb hR => hR.below hb hR.lt, fun σ w w' hb ⟨p, e, hp⟩ => ⟨p, e, hp.below hb⟩, trivial⟩
   · exact ⟨hB.drewN _, hx, hQ, hM, hg, ⟨_, _, _, _, _, hz⟩, fun _ => hz⟩
   case a0 | a3 =>
    go_light
    intro L σ W' hcl hL hC hw
    try have e1 := wT hw 1 rfl
    try have e2 := wT hw 2 rfl
    exact zcpyA2
   case a1 =>
    go_light
    intro L σ W' hcl hL hC hw
    have ks := hC.2.1.cell
    exact zcpyA2
   case a2 =>
    go_light
    intro L σ W' hcl hL hC hw
    have kg := hC.2.2.2.2.1
    unfold CellIs at kg
    exact zcpyA2
   case a4 =>
    exact zcpyA3
   case a5 =>
    exact zcpyA4
   case a6 =>
    exact zcpyA0
   case a7 =>
    exact zcpyA5
   ·
    exact zcpyA6
   ·
    intro σ L W' hall hC hRR
    obtain ⟨hB, hx, hQ, hM, hg, ⟨_, _, _, _, _, hz⟩, hz_o⟩ := hC
    exact zcpyA1
  | true =>
   have HEND := Lib.hid (show ∀ e w', TrYes t T K w e w' → Tried c s A n cap T K a0 w e w' from fun e w' h => by unfold Tried; rw [done_then HOK.out HC.out, hto]; exact h)
   clear hto
   have kX := hX.cell
   have kz := hz.cell
   have fz := hz.frozen
   have lX := hX.lt
   go_wp2
   refine bodyPost_ret (v := .tuple #[stV t (some ⟨b2, 0, none⟩) n2 m2, .nilIface]) (by simp [results, Tryz.results164, go_sem, kz, stV]) rfl (HEND.out _ _ ⟨b2, n2, m2, rfl, ?_, ?_, ?_⟩)
   · exact ((((((hR.setD (.inl (by omega)) _ _).setD (.inl (by omega)) _ _).setD (.inl (by omega)) _ _).setD (.inl (by omega)) _ _).setD (.inl (by omega)) _ _)).mono (by omega) (by simp; omega)
   · exact HK.out _ _ hk ((sc (sc (sc (sc (sc (Below.refl _ _)))))))
   · exact (((((hB.setN (by omega) _ _).setN (by omega) _ _).setN (by omega) _ _).setN (by omega) _ _).setN (by omega) _ _)
end Go.Proofs.YthpckpnlohfcbaaGreatDoor

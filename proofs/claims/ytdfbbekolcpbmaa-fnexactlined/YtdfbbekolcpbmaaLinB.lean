/-
  What a line does: put, taken, and what an event makes of it, on both sides.
-/
import Derived.Test.YtdfbbekolcpbmaaLinA
import Derived.Test.YtdfbbekolcpbmaaGrowV
import Derived.Deep.Light
namespace Go.Proofs.Ytdfbbekolcpbmaa
set_option linter.unusedSimpArgs false
set_option linter.unusedVariables false
open Go.RowKit
set_option linter.unusedVariables false
attribute [local go_sem ↓] Go.wp_at_zero Go.wp_at_succ

set_option maxRecDepth 100000 in
set_option maxHeartbeats 2000000 in
theorem ilinePut_any (l : List Int) (v : Int) (A : Option Addr) (n cap : Nat) (w : World) (h : LnR w A n cap l) (hn : n ≤ 1048576) :
    Calls Try.prog 39 #[.slice A n cap, .int .i64 v] w (RetIntB (linePut l v) w) := by
  obtain ⟨i0, hi0, hz0, hz1, hz2⟩ := info_parts int_info
  have HI := Lib.hid hi0
  have HZ0 := Lib.hid hz0
  have HZ1 := Lib.hid hz1
  have HZ2 := Lib.hid hz2
  clear hi0 hz0 hz1 hz2
  have HL := Lib.hid h.1.1
  go_enter Try.func39, Try.ntmps39
  go_wp2_with fail
  refine (ilineOk_any l A n cap _ h.1 (by omega)).mono ?_
  rintro e w1 ⟨rfl, hb1⟩
  have hB := hb1
  replace h := h.below hb1
  clear hb1
  cases hok : lineOk l
  · have HQ := Lib.hid (show linePut l v = ([], false) by simp [linePut, hok])
    clear hok
    go_wp2
    go_ret2
    rw [HQ.out]
    exact .none hB rfl
  have HOK := Lib.hid hok
  have hn4 : n ≤ 40 := by rw [← HL.out]; exact lineOk_len hok
  clear hok
  go_wp2_with fail
  refine (cutFrom_any l A n cap 0 _ _ h (by omega) (by omega) rfl).mono ?_
  rintro e w2 ⟨A2, rfl, hL2, hb2⟩
  rw [Nat.sub_zero, List.drop_zero] at hL2
  rw [Nat.sub_zero]
  replace h := h.below hb2
  replace hB := bstep hB hB.size hb2
  clear hb2
  have HL2 := Lib.hid hL2
  go_wp2_with (refine wpList_append_grows _ rfl (.tmp 12) (.tmp 14) _ rfl 2 i0 _ 1 8 Try.underlying32 HI.out HZ0.out HZ1.out HZ2.out rfl (by omega) A2 n n (l.flatMap ic) rfl HL2.out.2.1 (by rw [flat_len _ 1 ic_len, HL.out]) (fun b hb j u hu => by have := HL2.out.1.cells b hb j u hu; exact (((Below.refl w2.heap.size w2).alloc (Nat.le_refl _) _).cell (World.block_lt_of_cell? _ _ this)).trans this) ⟨w2.heap.size, 0, none⟩ 1 1 [.int .i64 v] rfl rfl (news_alloc _ _ _) (int1 _) (by omega) (by unfold maxLen; omega) (by omega) ?_; intro v' w3 hO' hg3; obtain ⟨B3, c3, rfl, hP3⟩ := ints_snoc2 (by rw [HL.out]; exact hO'))
  have hb3 : Below w2.heap.size w2 w3 := Below.grown ((Below.refl _ _).alloc (Nat.le_refl _) _) hg3 (by simp) (fun k hk => by cases hk)
  replace h := h.below hb3
  replace hP3 := IntsO.mono hP3 (M := w.heap.size) (by simp; have := hB.size; omega)
  replace hB := bstep hB hB.size hb3
  clear hO' hg3 hb3 hL2 HL2
  refine (ilineOk_any (l ++ [v]) B3 (l.length + 1) c3 _ (hP3.rd (by simp)) (by have := HL.out; omega)).mono ?_
  rintro e w4 ⟨rfl, hb4⟩
  replace h := h.below hb4
  replace hP3 := hP3.below hb4
  replace hB := bstep hB hB.size hb4
  clear hb4
  have HQ0 := Lib.hid (show linePut l v = bif lineOk (l ++ [v]) then (l ++ [v], true) else (l, false) by rw [linePut, HOK.out, lineOk_snoc HOK.out]; rfl)
  cases hok : lineOk (l ++ [v])
  · have HQ := Lib.hid (show linePut l v = (l, false) by rw [HQ0.out, hok]; rfl)
    clear hok HQ0
    go_wp2_with fail
    refine (copyOfLine_any l A n cap _ h.1 hn).mono ?_
    rintro e w5 ⟨A5, c5, rfl, hW5, hb5⟩
    have hs := hB.size
    replace hB := bstep hB hB.size hb5
    go_wp2
    go_ret2
    rw [HQ.out]
    exact .mk hW5 hs hB
  · have HQ := Lib.hid (show linePut l v = (l ++ [v], true) by rw [HQ0.out, hok]; rfl)
    clear hok HQ0
    go_wp2
    go_ret2
    rw [HQ.out]
    exact .snoc hP3 (Nat.le_refl _) hB

set_option maxRecDepth 100000 in
set_option maxHeartbeats 2000000 in
theorem slinePut_any (l : List Int) (v : Int) (A : Option Addr) (n cap : Nat) (w : World) (h : LnR w A n cap l) (hn : n ≤ 1048576) :
    Calls Try.prog 28 #[.slice A n cap, .int .i64 v] w (RetIntB (linePut l v) w) := by
  obtain ⟨i0, hi0, hz0, hz1, hz2⟩ := info_parts int_info
  have HI := Lib.hid hi0
  have HZ0 := Lib.hid hz0
  have HZ1 := Lib.hid hz1
  have HZ2 := Lib.hid hz2
  clear hi0 hz0 hz1 hz2
  have HL := Lib.hid h.1.1
  go_enter Try.func28, Try.ntmps28
  go_wp2_with fail
  refine (slineOk_any l A n cap _ h.1 (by omega)).mono ?_
  rintro e w1 ⟨rfl, hb1⟩
  have hB := hb1
  replace h := h.below hb1
  clear hb1
  cases hok : lineOk l
  · have HQ := Lib.hid (show linePut l v = ([], false) by simp [linePut, hok])
    clear hok
    go_wp2
    go_ret2
    rw [HQ.out]
    exact .none hB rfl
  have HOK := Lib.hid hok
  have hn4 : n ≤ 40 := by rw [← HL.out]; exact lineOk_len hok
  clear hok
  go_wp2_with fail
  refine (l1Value_any v _).mono ?_
  rintro e w2 ⟨rfl, rfl⟩
  have HQ0 := Lib.hid (show linePut l v = bif valB v && !decide (n = 40) then (l ++ [v], true) else (l, false) by rw [linePut, HOK.out, HL.out]; rfl)
  cases hv : valB v
  · have HQ := Lib.hid (show linePut l v = (l, false) by rw [HQ0.out, hv]; rfl)
    clear hv HQ0
    go_wp2_with fail
    refine (l1Copy_any l A n cap _ h.src hn).mono ?_
    rintro e w5 ⟨A5, c5, rfl, hW5, hb5⟩
    go_wp2
    go_ret2
    rw [HQ.out]
    exact .mk hW5 hB.size (bstep hB hB.size hb5)
  by_cases h40 : n = 40
  · have HQ := Lib.hid (show linePut l v = (l, false) by rw [HQ0.out, hv, h40]; rfl)
    subst h40
    clear hv HQ0
    go_wp2_with fail
    refine (l1Copy_any l A _ cap _ h.src hn).mono ?_
    rintro e w5 ⟨A5, c5, rfl, hW5, hb5⟩
    go_wp2
    go_ret2
    rw [HQ.out]
    exact .mk hW5 hB.size (bstep hB hB.size hb5)
  · have HQ := Lib.hid (show linePut l v = (l ++ [v], true) by rw [HQ0.out, hv]; simp [h40])
    clear hv HQ0
    have g1 : ¬ (n : Int) = 40 := by omega
    go_wp2_with fail
    refine (l1Copy_any l A n cap _ h.src hn).mono ?_
    rintro e w5 ⟨A5, c5, rfl, hW5, hb5⟩
    have hO5 := IntsW.o hW5
    clear hW5
    go_wp2_with (at_builtin; go_must (refine wpList_append_own_at _ rfl (.tmp 21) (.tmp 23) _ rfl w1.heap.size 2 i0 _ 1 8 Try.underlying32 HI.out HZ0.out HZ1.out HZ2.out rfl (by omega) (.slice A5 l.length c5) l.length _ rfl (hO5.below ((Below.refl _ _).alloc (Nat.le_refl _) _)) ⟨w5.heap.size, 0, none⟩ 1 1 [.int .i64 v] rfl rfl (news_at rfl) (int1 _) (by have := HL.out; unfold maxLen; omega) (by have := HL.out; omega) (by simp; have := hb5.size; omega) ?_; intro v' w6 hO' hg' hz' hat'; obtain ⟨B6, c6, rfl, hP6⟩ := ints_snoc2 hO'; have hB6 := Below.grown ((bstep hB hB.size hb5).alloc (Nat.le_trans hB.size hb5.size) _) hg' (by simp; have := hB.size; have := hb5.size; omega) (fun k hk => Nat.le_trans hB.size (ints_ge hO5 k hk))))
    go_ret2
    rw [HQ.out]
    exact .snoc hP6 hB.size hB6

def ltIV (M b n cap : Nat) (l : List Int) (x : Int) : List Sl := [.v (.slice (some ⟨b, 0, none⟩) n cap),
  .e fun σ w => ∃ (A1 : Option Addr) (k1 : Nat), σ 1 = .slice A1 (n - 1) k1 ∧ LnR w A1 (n - 1) k1 (l.drop 1),
  .e fun σ w => ∃ (A2 : Option Addr) (c2 : Nat), σ 2 = .slice A2 (n - 1) c2 ∧ IntsW M w.heap.size w A2 (n - 1) c2 (l.drop 1),
  .v (.slice (some ⟨b, 0, none⟩) n cap),
  .v (.pointer (some ⟨b, 0, none⟩)),
  .v (.int .i64 x),
  .e fun σ w => ∃ (A2 : Option Addr) (c2 : Nat), σ 6 = .slice A2 (n - 1) c2 ∧ IntsW M w.heap.size w A2 (n - 1) c2 (l.drop 1),
  .v (.int .i64 x),
  .v (.bool true)]

set_option maxRecDepth 100000 in
set_option maxHeartbeats 2000000 in
theorem ilineTake_any (l : List Int) (A : Option Addr) (n cap lo hi : Nat) (w : World) (h : IntsW lo hi w A n cap l) (hh : hi ≤ w.heap.size) (hn : n ≤ 1048576) :
    Calls Try.prog 40 #[.slice A n cap] w (RetIntVB (lineTake l) w) := by
  have HL := Lib.hid h.1
  go_enter Try.func40, Try.ntmps40
  go_wp2_with fail
  refine (ilineOk_any l A n cap _ h.r (by omega)).mono ?_
  rintro e w1 ⟨rfl, hb1⟩
  have hB := hb1
  replace h := SlW.below h hb1 hh
  replace hh := Nat.le_trans hh hb1.size
  clear hb1
  cases hok : lineOk l
  · have HQ := Lib.hid (show lineTake l = ([], 0, false) by simp [lineTake, hok])
    clear hok
    go_wp2
    go_ret3
    rw [HQ.out]
    exact .none hB rfl
  have HOK := Lib.hid hok
  have hn4 : n ≤ 40 := by rw [← HL.out]; exact lineOk_len hok
  clear hok
  by_cases h0 : n = 0
  · have HQ := Lib.hid (show lineTake l = ([], 0, false) by
      have := List.eq_nil_of_length_eq_zero (HL.out.trans h0)
      subst this
      simp [lineTake])
    subst h0
    go_wp2
    go_ret3
    rw [HQ.out]
    exact .none hB rfl
  obtain ⟨b, x, rfl, _, _, hx, hcx⟩ := SlW.at_ h ic_len (i := 0) (by omega)
  have hxc : CellsAt w1 b 0 [.int .i64 x] := fun j u hu => by have := hcx j u hu; rw [Nat.zero_mul] at this; exact this
  have HQ := Lib.hid (show lineTake l = (l.drop 1, x, true) by
    cases l with
    | nil => simp at hx
    | cons y t => simp at hx; subst hx; simp [lineTake, HOK.out])
  have hn1 : 1 ≤ n := by omega
  have hnc : n ≤ cap := (IntsW.ln h).2.2
  have hI := h
  have hhi := hh
  obtain ⟨M, hMe⟩ : ∃ M, M = w1.heap.size := ⟨_, rfl⟩
  have hM : M ≤ w1.heap.size := by omega
  have hW0 : w.heap.size ≤ M := by have := hB.size; omega
  clear hMe
  clear hx hcx h hh
  have g1 : ¬ (n : Int) = 0 := by omega
  have hn0 : 0 < n := hn1
  have hn2 : (1 : Int) ≤ (n : Int) := by omega
  go_upto_region 3 with fail
  refine wp_region2v (fun w w' => Below w.heap.size w w') (fun _ _ h => h.size) (fun _ => Below.refl _ _) (fun L W' => Below w.heap.size w W' ∧ M ≤ W'.heap.size ∧ hi ≤ W'.heap.size ∧ IntsW lo hi W' (some ⟨b, 0, none⟩) n cap l ∧ CellsAt W' b 0 [.int .i64 x]) (ltIV M b n cap l x) (fun _ => 0) [] (by kernel_rfl) (by kernel_rfl) ?_ ?_ ?_
    (.still rfl ?a0 <| .grow rfl ?a1 <| .grow rfl ?a2 <| .still rfl ?a3 <| .still rfl ?a4 <| .still rfl ?a5 <| .still rfl ?a6 <| .still rfl ?a7 <| .still rfl ?a8 <| .nil) ?_ ?_
  · exact ⟨fun _ _ _ h ⟨A1, k1, e, hp⟩ => ⟨A1, k1, (h 1 (List.mem_singleton.2 rfl)).symm.trans e, hp⟩, fun _ _ _ h ⟨A2, c2, e, hp⟩ => ⟨A2, c2, (h 2 (List.mem_singleton.2 rfl)).symm.trans e, hp⟩, fun _ _ _ h ⟨A2, c2, e, hp⟩ => ⟨A2, c2, (h 6 (List.mem_singleton.2 rfl)).symm.trans e, hp⟩, trivial⟩
  · exact ⟨fun σ w w' hb ⟨A1, k1, e, hp⟩ => ⟨A1, k1, e, hp.below hb⟩, fun σ w w' hb ⟨A2, c2, e, hp⟩ => ⟨A2, c2, e, hp.belowS hb⟩, fun σ w w' hb ⟨A2, c2, e, hp⟩ => ⟨A2, c2, e, hp.belowS hb⟩, trivial⟩
  · exact ⟨hB.drew, hM, hhi, hI, hxc⟩
  case a0 | a3 | a4 | a7 | a8 =>
    go_light
    intro L σ W' hcl hL hC hw
    try have e3 := wT hw 3 rfl
    try have e5 := wT hw 5 rfl
    clear hw hcl hL hC
    refine OpGoes.step fun K hK => ?_
    unfold OpGoes
    go_simp
    exact hK _ _ ⟨rfl, rfl⟩
  case a5 =>
    go_light
    intro L σ W' hcl hL hC hw
    have e4 := wV hw 4 rfl
    have dj := hC.2.2.2.2 0 _ rfl
    clear hw hcl hL hC
    refine OpGoes.step fun K hK => ?_
    unfold OpGoes
    go_simp
    exact hK _ _ ⟨rfl, rfl⟩
  case a1 =>
    go_light
    intro L σ W' hcl hL hC hw
    have e0 := wV hw 0 rfl
    clear hw
    have HC := Lib.hid hC
    clear hC
    clear hcl hL
    refine OpGoes.step fun K hK => ?_
    unfold OpGoes
    go_simp
    obtain ⟨hB, hM, hhi, hI, hxc⟩ := HC.out
    refine (cutFrom_any l (some ⟨b, 0, none⟩) n cap 1 _ _ (IntsW.ln hI) (by omega) hn1 rfl).mono ?_
    rintro e w1 ⟨A1, rfl, hL1, hb1⟩
    exact ⟨_, rfl, hK _ _ ⟨⟨bstep hB hB.size hb1, Nat.le_trans hM hb1.size, Nat.le_trans hhi hb1.size, SlW.below hI hb1 hhi, hxc.below hb1⟩, ⟨A1, n - 1, rfl, hL1⟩, hb1⟩⟩
  case a2 =>
    go_light
    intro L σ W' hcl hL hC hw
    obtain ⟨A1, k1, e1, hp1⟩ := wE hw 1 rfl
    clear hw
    have HC := Lib.hid hC
    clear hC
    clear hcl hL
    refine OpGoes.step fun K hK => ?_
    unfold OpGoes
    go_simp
    obtain ⟨hB, hM, hhi, hI, hxc⟩ := HC.out
    refine (copyOfLineN (l.drop 1) A1 (n - 1) k1 _ hp1.1 (by omega)).mono ?_
    rintro e w1 ⟨A2, c2, rfl, hW2, hb1⟩
    exact ⟨_, rfl, hK _ _ ⟨⟨bstep hB hB.size hb1, Nat.le_trans hM hb1.size, Nat.le_trans hhi hb1.size, SlW.below hI hb1 hhi, hxc.below hb1⟩, ⟨A2, c2, rfl, SlW.mono hW2 hM (Nat.le_refl _)⟩, hb1⟩⟩
  case a6 =>
    go_light
    intro L σ W' hcl hL hC hw
    obtain ⟨A2, c2, e2, hp2⟩ := wE hw 2 rfl
    clear hw hcl hL hC
    refine OpGoes.step fun K hK => ?_
    unfold OpGoes
    go_simp
    exact hK _ _ ⟨rfl, ⟨A2, c2, rfl, hp2⟩⟩
  · intro L L' W' hLL hC
    obtain ⟨hB, hM, hhi, hI, hxc⟩ := hC
    exact ⟨hB, hM, hhi, hI, hxc⟩
  · intro σ L W' hall hC hRR
    obtain ⟨hB, hM, hhi, hI, hxc⟩ := hC
    obtain ⟨A2, c2, e6, hp6⟩ := dE hRR 6 rfl
    have e7 := dV hRR 7 rfl
    have e8 := dV hRR 8 rfl
    clear hRR
    simp only [lexAll]
    go_simp
    go_wp2
    go_ret3
    rw [HQ.out]
    exact .mk hp6 hW0 hB

def ltSV (M b n cap : Nat) (l : List Int) (x : Int) : List Sl := [.v (.slice (some ⟨b, 0, none⟩) n cap),
  .e fun σ w => ∃ (A1 : Option Addr) (k1 : Nat), σ 1 = .slice A1 (n - 1) k1 ∧ LnR w A1 (n - 1) k1 (l.drop 1),
  .e fun σ w => ∃ (A2 : Option Addr) (c2 : Nat), σ 2 = .slice A2 (n - 1) c2 ∧ IntsW M w.heap.size w A2 (n - 1) c2 (l.drop 1),
  .v (.slice (some ⟨b, 0, none⟩) n cap),
  .v (.pointer (some ⟨b, 0, none⟩)),
  .v (.int .i64 x),
  .e fun σ w => ∃ (A2 : Option Addr) (c2 : Nat), σ 6 = .slice A2 (n - 1) c2 ∧ IntsW M w.heap.size w A2 (n - 1) c2 (l.drop 1),
  .v (.int .i64 x),
  .v (.bool true)]

set_option maxRecDepth 100000 in
set_option maxHeartbeats 2000000 in
theorem slineTake_any (l : List Int) (A : Option Addr) (n cap lo hi : Nat) (w : World) (h : IntsW lo hi w A n cap l) (hh : hi ≤ w.heap.size) (hn : n ≤ 1048576) :
    Calls Try.prog 29 #[.slice A n cap] w (RetIntVB (lineTake l) w) := by
  have HL := Lib.hid h.1
  go_enter Try.func29, Try.ntmps29
  go_wp2_with fail
  refine (slineOk_any l A n cap _ h.r (by omega)).mono ?_
  rintro e w1 ⟨rfl, hb1⟩
  have hB := hb1
  replace h := SlW.below h hb1 hh
  replace hh := Nat.le_trans hh hb1.size
  clear hb1
  cases hok : lineOk l
  · have HQ := Lib.hid (show lineTake l = ([], 0, false) by simp [lineTake, hok])
    clear hok
    go_wp2
    go_ret3
    rw [HQ.out]
    exact .none hB rfl
  have HOK := Lib.hid hok
  have hn4 : n ≤ 40 := by rw [← HL.out]; exact lineOk_len hok
  clear hok
  by_cases h0 : n = 0
  · have HQ := Lib.hid (show lineTake l = ([], 0, false) by
      have := List.eq_nil_of_length_eq_zero (HL.out.trans h0)
      subst this
      simp [lineTake])
    subst h0
    go_wp2
    go_ret3
    rw [HQ.out]
    exact .none hB rfl
  obtain ⟨b, x, rfl, _, _, hx, hcx⟩ := SlW.at_ h ic_len (i := 0) (by omega)
  have hxc : CellsAt w1 b 0 [.int .i64 x] := fun j u hu => by have := hcx j u hu; rw [Nat.zero_mul] at this; exact this
  have HQ := Lib.hid (show lineTake l = (l.drop 1, x, true) by
    cases l with
    | nil => simp at hx
    | cons y t => simp at hx; subst hx; simp [lineTake, HOK.out])
  have hn1 : 1 ≤ n := by omega
  have hnc : n ≤ cap := (IntsW.ln h).2.2
  have hI := h
  have hhi := hh
  obtain ⟨M, hMe⟩ : ∃ M, M = w1.heap.size := ⟨_, rfl⟩
  have hM : M ≤ w1.heap.size := by omega
  have hW0 : w.heap.size ≤ M := by have := hB.size; omega
  clear hMe
  clear hx hcx h hh
  have g1 : ¬ (n : Int) = 0 := by omega
  have hn0 : 0 < n := hn1
  have hn2 : (1 : Int) ≤ (n : Int) := by omega
  go_upto_region 5 with fail
  refine wp_region2v (fun w w' => Below w.heap.size w w') (fun _ _ h => h.size) (fun _ => Below.refl _ _) (fun L W' => Below w.heap.size w W' ∧ M ≤ W'.heap.size ∧ hi ≤ W'.heap.size ∧ IntsW lo hi W' (some ⟨b, 0, none⟩) n cap l ∧ CellsAt W' b 0 [.int .i64 x]) (ltSV M b n cap l x) (fun _ => 0) [] (by kernel_rfl) (by kernel_rfl) ?_ ?_ ?_
    (.still rfl ?a0 <| .grow rfl ?a1 <| .grow rfl ?a2 <| .still rfl ?a3 <| .still rfl ?a4 <| .still rfl ?a5 <| .still rfl ?a6 <| .still rfl ?a7 <| .still rfl ?a8 <| .nil) ?_ ?_
  · exact ⟨fun _ _ _ h ⟨A1, k1, e, hp⟩ => ⟨A1, k1, (h 1 (List.mem_singleton.2 rfl)).symm.trans e, hp⟩, fun _ _ _ h ⟨A2, c2, e, hp⟩ => ⟨A2, c2, (h 2 (List.mem_singleton.2 rfl)).symm.trans e, hp⟩, fun _ _ _ h ⟨A2, c2, e, hp⟩ => ⟨A2, c2, (h 6 (List.mem_singleton.2 rfl)).symm.trans e, hp⟩, trivial⟩
  · exact ⟨fun σ w w' hb ⟨A1, k1, e, hp⟩ => ⟨A1, k1, e, hp.below hb⟩, fun σ w w' hb ⟨A2, c2, e, hp⟩ => ⟨A2, c2, e, hp.belowS hb⟩, fun σ w w' hb ⟨A2, c2, e, hp⟩ => ⟨A2, c2, e, hp.belowS hb⟩, trivial⟩
  · exact ⟨hB.drew, hM, hhi, hI, hxc⟩
  case a0 | a3 | a4 | a7 | a8 =>
    go_light
    intro L σ W' hcl hL hC hw
    try have e3 := wT hw 3 rfl
    try have e5 := wT hw 5 rfl
    clear hw hcl hL hC
    refine OpGoes.step fun K hK => ?_
    unfold OpGoes
    go_simp
    exact hK _ _ ⟨rfl, rfl⟩
  case a5 =>
    go_light
    intro L σ W' hcl hL hC hw
    have e4 := wV hw 4 rfl
    have dj := hC.2.2.2.2 0 _ rfl
    clear hw hcl hL hC
    refine OpGoes.step fun K hK => ?_
    unfold OpGoes
    go_simp
    exact hK _ _ ⟨rfl, rfl⟩
  case a1 =>
    go_light
    intro L σ W' hcl hL hC hw
    have e0 := wV hw 0 rfl
    clear hw
    obtain ⟨hB, hM, hhi, hI, hxc⟩ := hC
    have hncg := hnc
    have g1 : (0 : Int) ≤ 1 := by omega
    clear hcl hL
    refine OpGoes.step fun K hK => ?_
    unfold OpGoes
    go_simp
    refine hK _ _ ⟨⟨hB, hM, hhi, hI, hxc⟩, ⟨_, _, rfl, ?_⟩, Below.refl _ _⟩
    by_cases hcp : cap = 1
    · exact .tail hI hn1 (.inl ⟨hcp, by simp [hcp]⟩)
    · exact .tail hI hn1 (.inr (by simp [hcp, Addr.add]))
  case a2 =>
    go_light
    intro L σ W' hcl hL hC hw
    obtain ⟨A1, k1, e1, hp1⟩ := wE hw 1 rfl
    clear hw
    have HC := Lib.hid hC
    clear hC
    clear hcl hL
    refine OpGoes.step fun K hK => ?_
    unfold OpGoes
    go_simp
    obtain ⟨hB, hM, hhi, hI, hxc⟩ := HC.out
    refine (l1CopyN (l.drop 1) A1 (n - 1) k1 _ hp1.src (by omega)).mono ?_
    rintro e w1 ⟨A2, c2, rfl, hW2, hb1⟩
    exact ⟨_, rfl, hK _ _ ⟨⟨bstep hB hB.size hb1, Nat.le_trans hM hb1.size, Nat.le_trans hhi hb1.size, SlW.below hI hb1 hhi, hxc.below hb1⟩, ⟨A2, c2, rfl, SlW.mono hW2 hM (Nat.le_refl _)⟩, hb1⟩⟩
  case a6 =>
    go_light
    intro L σ W' hcl hL hC hw
    obtain ⟨A2, c2, e2, hp2⟩ := wE hw 2 rfl
    clear hw hcl hL hC
    refine OpGoes.step fun K hK => ?_
    unfold OpGoes
    go_simp
    exact hK _ _ ⟨rfl, ⟨A2, c2, rfl, hp2⟩⟩
  · intro L L' W' hLL hC
    obtain ⟨hB, hM, hhi, hI, hxc⟩ := hC
    exact ⟨hB, hM, hhi, hI, hxc⟩
  · intro σ L W' hall hC hRR
    obtain ⟨hB, hM, hhi, hI, hxc⟩ := hC
    obtain ⟨A2, c2, e6, hp6⟩ := dE hRR 6 rfl
    have e7 := dV hRR 7 rfl
    have e8 := dV hRR 8 rfl
    clear hRR
    simp only [lexAll]
    go_simp
    go_wp2
    go_ret3
    rw [HQ.out]
    exact .mk hp6 hW0 hB

end Go.Proofs.Ytdfbbekolcpbmaa

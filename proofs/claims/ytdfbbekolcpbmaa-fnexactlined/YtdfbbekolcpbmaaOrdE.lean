/-
  The program's list without one of its events; what is a story of so many; the makers of the orders.
-/
import Derived.Test.YtdfbbekolcpbmaaOrdD
import Derived.Test.YtdfbbekolcpbmaaGrowV
import Derived.Deep.Light
namespace Go.Proofs.Ytdfbbekolcpbmaa
set_option linter.unusedSimpArgs false
set_option linter.unusedVariables false
open Go.RowKit
set_option linter.unusedVariables false
attribute [local go_sem] OpUpon
attribute [local go_sem ↓] Go.wp_at_zero Go.wp_at_succ

theorem SrcW.take {α : Type} {f : α → List Value} {w : World} {A : Option Addr} {n cap k : Nat} {l : List α} (h : SrcW f w A n cap l) (hk : k ≤ n) (hA : A ≠ none) : SrcW f w A k cap (l.take k) :=
  ⟨by rw [List.length_take, h.1]; exact Nat.min_eq_left hk, fun e => absurd e hA, fun ad e j u hu => h.2.2 ad e j u (by
    have e : l.flatMap f = (l.take k).flatMap f ++ (l.drop k).flatMap f := by rw [← List.flatMap_append, List.take_append_drop]
    rw [e, List.getElem?_append_left (List.getElem?_eq_some_iff.1 hu).1]; exact hu)⟩
theorem SrcW.drop {α : Type} {f : α → List Value} {m : Nat} {w : World} {b o n cap k : Nat} {B : Option Addr} {l : List α} (hf : ∀ x, (f x).length = m) (h : SrcW f w (some ⟨b, o, none⟩) n cap l) (hk : k ≤ n) (hB : B ≠ none) (hB2 : k < n → B = some ⟨b, o + k * m, none⟩) : SrcW f w B (n - k) (cap - k) (l.drop k) :=
  ⟨by rw [List.length_drop, h.1], fun e => absurd e hB, fun ad e j u hu => by
    by_cases hlt : k < n
    · rw [hB2 hlt] at e
      injection e with e
      subst e
      have e : l.flatMap f = (l.take k).flatMap f ++ (l.drop k).flatMap f := by rw [← List.flatMap_append, List.take_append_drop]
      have hl : ((l.take k).flatMap f).length = k * m := by rw [flat_len _ m hf, List.length_take, h.1, Nat.min_eq_left hk]
      have := h.2.2 _ rfl (k * m + j) u (by rw [e, List.getElem?_append_right (by omega), hl, Nat.add_sub_cancel_left]; exact hu)
      have ea : (⟨b, o + k * m, none⟩ : Addr).add j = (⟨b, o, none⟩ : Addr).add (k * m + j) := by
        unfold Addr.add
        by_cases hj : j = 0
        · subst hj
          by_cases hk0 : k * m = 0 <;> simp [hk0]
        · simp [hj, Nat.add_assoc]
      rw [ea]
      exact this
    · rw [List.drop_eq_nil_of_le (by rw [h.1]; omega)] at hu
      simp at hu⟩
theorem erase_at {α : Type} {l : List α} {i : Nat} : l.eraseIdx i = l.take i ++ l.drop (i + 1) := List.eraseIdx_eq_take_drop_succ l i

def woRV (l : List Ev) (b n cap i lo hi M : Nat) : List Sl := [.v (.slice (some ⟨b, 0, none⟩) n cap),
  .v (.int .i64 ((i : Int))),
  .v (.slice (some ⟨b, 0, none⟩) i cap),
  .v (.slice (some ⟨b, 0, none⟩) n cap),
  .v (.int .i64 ((i : Int))),
  .v (.int .i64 (((i : Int) + 1))),
  .e fun σ w => ∃ (A6 : Option Addr) (c6 : Nat), σ 6 = .slice A6 (n - (i + 1)) c6 ∧ SrcW Ev.cs w A6 (n - (i + 1)) c6 (l.drop (i + 1)),
  .e fun σ w => ∃ (A6 : Option Addr) (c6 g7 : Nat), σ 7 = .slice (some ⟨g7, 0, none⟩) 2 2 ∧ SrcW Ev.cs w A6 (n - (i + 1)) c6 (l.drop (i + 1)) ∧ BoxAt w g7 #[.slice (some ⟨b, 0, none⟩) i cap, .slice A6 (n - (i + 1)) c6] 25,
  .e fun σ w => ∃ (A8 : Option Addr) (c8 : Nat), σ 8 = .slice A8 (i + (n - (i + 1))) c8 ∧ EvsW M w.heap.size w A8 (i + (n - (i + 1))) c8 (l.take i ++ l.drop (i + 1)),
  .e fun σ w => ∃ (A8 : Option Addr) (c8 : Nat), σ 9 = .slice A8 (i + (n - (i + 1))) c8 ∧ EvsW M w.heap.size w A8 (i + (n - (i + 1))) c8 (l.take i ++ l.drop (i + 1))]

set_option maxRecDepth 100000 in
set_option maxHeartbeats 2000000 in
theorem without_any (l : List Ev) (A : Option Addr) (n cap i : Nat) (lo hi : Nat) (w : World) (h : EvsW lo hi w A n cap l) (hhi : hi ≤ w.heap.size) (hi_ : i < n) (hn : n ≤ 4096) :
    Calls Try.prog 34 #[.slice A n cap, .int .i64 i] w (fun e w' => ∃ A' c, e = .returned (.slice A' (n - 1) c) ∧ EvsW w.heap.size w'.heap.size w' A' (n - 1) c (l.eraseIdx i) ∧ Below w.heap.size w w') := by
  obtain ⟨b, rfl, _, hbh, hO⟩ := SlW.at0 h (by omega)
  have hcap : n ≤ cap := hO.2.2.1
  have hcm : cap ≤ maxLen := hO.2.2.2.1
  have h1 : (0 : Int) ≤ (i : Int) := by omega
  have h2 : (i : Int) ≤ (cap : Int) := by omega
  have h3 : (0 : Int) ≤ (i : Int) + 1 := by omega
  have h4 : (i : Int) + 1 ≤ (n : Int) := by omega
  have h5 : (n : Int) ≤ (cap : Int) := by omega
  have w1 : IntKind.wrap .i64 ((i : Int) + 1) = (i : Int) + 1 := Go.IntWalk.i64_in _ (by omega)
  have hnn : i + (n - (i + 1)) = n - 1 := by omega
  have HN := Lib.hid hnn
  have hI := h
  clear h hO hnn
  have hB := Below.refl w.heap.size w
  obtain ⟨M, hMe⟩ : ∃ M, M = w.heap.size := ⟨_, rfl⟩
  have hM : M ≤ w.heap.size := by omega
  have HM := Lib.hid hMe
  clear hMe
  go_enter Try.func34, Try.ntmps34
  go_wp2_with fail
  refine wp_region2v (fun w w' => Below w.heap.size w w') (fun _ _ h => h.size) (fun _ => Below.refl _ _) (fun L W' => Below w.heap.size w W' ∧ M ≤ W'.heap.size ∧ hi ≤ W'.heap.size ∧ EvsW lo hi W' (some ⟨b, 0, none⟩) n cap l) (woRV l b n cap i lo hi M) (fun _ => 0) [] (by kernel_rfl) (by kernel_rfl) ?_ ?_ ?_
    (.still rfl ?a0 <| .still rfl ?a1 <| .still rfl ?a2 <| .still rfl ?a3 <| .still rfl ?a4 <| .still rfl ?a5 <| .grow rfl ?a6 <| .grow rfl ?a7 <| .grow rfl ?a8 <| .still rfl ?a9 <| .nil) ?_ ?_
  · exact ⟨fun _ _ _ h ⟨A6, c6, e, hp⟩ => ⟨A6, c6, (h 6 (List.mem_singleton.2 rfl)).symm.trans e, hp⟩, fun _ _ _ h ⟨A6, c6, g7, e, hp⟩ => ⟨A6, c6, g7, (h 7 (List.mem_singleton.2 rfl)).symm.trans e, hp⟩, fun _ _ _ h ⟨A8, c8, e, hp⟩ => ⟨A8, c8, (h 8 (List.mem_singleton.2 rfl)).symm.trans e, hp⟩, fun _ _ _ h ⟨A8, c8, e, hp⟩ => ⟨A8, c8, (h 9 (List.mem_singleton.2 rfl)).symm.trans e, hp⟩, trivial⟩
  · exact ⟨fun σ w w' hb ⟨A6, c6, e, hp⟩ => ⟨A6, c6, e, hp.below hb⟩, fun σ w w' hb ⟨A6, c6, g7, e, hp⟩ => ⟨A6, c6, g7, e, ⟨hp.1.below hb, hp.2.below hb hp.2.lt⟩⟩, fun σ w w' hb ⟨A8, c8, e, hp⟩ => ⟨A8, c8, e, SlW.mono (SlW.below hp hb (Nat.le_refl _)) (Nat.le_refl _) hb.size⟩, fun σ w w' hb ⟨A8, c8, e, hp⟩ => ⟨A8, c8, e, SlW.mono (SlW.below hp hb (Nat.le_refl _)) (Nat.le_refl _) hb.size⟩, trivial⟩
  · exact ⟨hB.drew, hM, hhi, hI⟩
  case a0 | a1 | a3 | a4 =>
    go_light
    intro L σ W' hcl hL hC hw
    clear hw hcl hL hC
    refine OpGoes.step fun K hK => ?_
    unfold OpGoes
    go_simp
    exact hK _ _ ⟨rfl, rfl⟩
  case a2 =>
    go_light
    intro L σ W' hcl hL hC hw
    have e0 := wV hw 0 rfl
    have e1 := wV hw 1 rfl
    have g1 := h1
    have g2 := h2
    clear hw hcl hL hC
    refine OpGoes.step fun K hK => ?_
    unfold OpGoes
    go_simp
    exact hK _ _ ⟨rfl, rfl⟩
  case a5 =>
    go_light
    intro L σ W' hcl hL hC hw
    have e4 := wV hw 4 rfl
    have gw := w1
    clear hw hcl hL hC
    refine OpGoes.step fun K hK => ?_
    unfold OpGoes
    go_simp
    exact hK _ _ ⟨rfl, rfl⟩
  case a6 =>
    go_light
    intro L σ W' hcl hL hC hw
    have e3 := wV hw 3 rfl
    have e5 := wV hw 5 rfl
    clear hw
    obtain ⟨hB, hM, hhi, hI⟩ := hC
    have g3 := h3
    have g4 := h4
    have g5 := h5
    clear hcl hL
    refine OpGoes.step fun K hK => ?_
    unfold OpGoes
    go_simp
    refine hK _ _ ⟨⟨hB, hM, hhi, hI⟩, ⟨_, _, rfl, ?_⟩, Below.refl _ _⟩
    by_cases hcp : cap = i + 1
    · refine .drop Ev.cs_len (SlW.src hI Ev.cs_len) (by omega) (by simp [hcp]) (fun hlt => by omega)
    · refine .drop Ev.cs_len (SlW.src hI Ev.cs_len) (by omega) (by simp [hcp]) (fun hlt => by simp [hcp, Addr.add] <;> omega)
  case a7 =>
    go_light
    intro L σ W' hcl hL hC hw
    have e2 := wV hw 2 rfl
    obtain ⟨A6, c6, e6, hp6⟩ := wE hw 6 rfl
    clear hw
    have HC := Lib.hid hC
    clear hC
    clear hcl hL
    refine OpGoes.step fun K hK => ?_
    unfold OpGoes
    go_simp
    obtain ⟨hB, hM, hhi, hI⟩ := HC.out
    have hb1 : Below W'.heap.size W' (W'.alloc (.cells #[.slice (some ⟨b, 0, none⟩) i cap, .slice A6 (n - (i + 1)) c6] 25)) := (Below.refl _ _).alloc (Nat.le_refl _) _
    exact hK _ _ ⟨⟨bstep hB hB.size hb1, Nat.le_trans hM hb1.size, Nat.le_trans hhi hb1.size, SlW.below hI hb1 hhi⟩, ⟨A6, c6, W'.heap.size, rfl, hp6.below hb1, BoxAt.new _ _ _⟩, hb1⟩
  case a8 =>
    go_light
    intro L σ W' hcl hL hC hw
    obtain ⟨A6, c6, g7, e7, hp7⟩ := wE hw 7 rfl
    clear hw
    have HC := Lib.hid hC
    clear hC
    clear hcl hL
    refine OpGoes.step fun K hK => ?_
    unfold OpGoes
    go_simp
    obtain ⟨hB, hM, hhi, hI⟩ := HC.out
    refine (concatEv_any (l.take i) (l.drop (i + 1)) (some ⟨b, 0, none⟩) A6 i cap (n - (i + 1)) c6 g7 _ (SrcW.take (SlW.src hI Ev.cs_len) (by omega) (by simp)) hp7.1 (by omega) (by omega) hp7.2).mono ?_
    rintro e w1 ⟨A8, c8, rfl, hX8, hb1⟩
    exact ⟨_, rfl, hK _ _ ⟨⟨bstep hB hB.size hb1, Nat.le_trans hM hb1.size, Nat.le_trans hhi hb1.size, SlW.below hI hb1 hhi⟩, ⟨A8, c8, rfl, SlW.mono hX8 hM (Nat.le_refl _)⟩, hb1⟩⟩
  case a9 =>
    go_light
    intro L σ W' hcl hL hC hw
    obtain ⟨A8, c8, e8, hp8⟩ := wE hw 8 rfl
    clear hw hcl hL hC
    refine OpGoes.step fun K hK => ?_
    unfold OpGoes
    go_simp
    exact hK _ _ ⟨rfl, ⟨A8, c8, rfl, hp8⟩⟩
  · intro L L' W' hLL hC
    obtain ⟨hB, hM, hhi, hI⟩ := hC
    exact ⟨hB, hM, hhi, hI⟩
  · intro σ L W' hall hC hRR
    obtain ⟨hB, hM, hhi, hI⟩ := hC
    obtain ⟨A8, c8, e9, hp9⟩ := dE hRR 9 rfl
    clear hRR
    simp only [lexAll]
    go_simp
    go_step
    go_wp2
    go_ret
    rw [HN.out, ← erase_at] at hp9
    rw [HN.out]
    rw [HM.out] at hp9
    exact ⟨A8, c8, rfl, hp9, hB⟩

end Go.Proofs.Ytdfbbekolcpbmaa

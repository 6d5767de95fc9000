/-
  RaiseTail of the program.
-/
import Derived.Test.YtlpcpaehkgaffaaGreatDoorCloA
namespace Go.Proofs.YtlpcpaehkgaffaaGreatDoor
set_option linter.unusedSimpArgs false
set_option linter.unusedVariables false
open Go.RowKit
set_option linter.unusedVariables false
attribute [local go_sem] OpUpon
attribute [local go_sem ↓] Go.wp_at_zero Go.wp_at_succ

def rtNV (s : St) (X b n m M T N : Nat) (S_ Y_ : Nat) (z seen y : Int) (a0 : Addr) (W0 : World) : List Sl := [.v (.pointer (some ⟨b, z.toNat * 5, none⟩)),
  .v (.pointer (some ⟨b, z.toNat * 5, none⟩)),
  .v (.pointer (some ⟨b, z.toNat * 5 + 1, none⟩)),
  .v (.int .i64 seen),
  .v (.int .i64 y),
  .e fun σ w => ∃ (v : Value), σ 5 = v ∧ ChPost (onRingC z (raiseC seen y)) s a0 N X M T (fun _ => True) W0 (.returned v) w,
  .e fun σ w => ∃ (v : Value), σ 6 = v ∧ ChPost (onRingC z (raiseC seen y)) s a0 N X M T (fun _ => True) W0 (.returned v) w]

def rtYV (s : St) (X b n m M T N : Nat) (S_ Y_ : Nat) (z seen y : Int) (a0 : Addr) (W0 : World) : List Sl := [.v (.pointer (some ⟨b, z.toNat * 5, none⟩)),
  .v (.pointer (some ⟨b, z.toNat * 5, none⟩)),
  .v (.pointer (some ⟨b, z.toNat * 5 + 1, none⟩)),
  .v (.int .i64 seen),
  .v (.int .i64 y),
  .e fun σ w => ∃ (v : Value), σ 5 = v ∧ ChPost (onRingC z (raiseC seen y)) s a0 N X M T (fun _ => True) W0 (.returned v) w,
  .e fun σ w => ∃ (v : Value), σ 6 = v ∧ ChPost (onRingC z (raiseC seen y)) s a0 N X M T (fun _ => True) W0 (.returned v) w]

set_option maxRecDepth 100000 in
set_option maxHeartbeats 4000000 in
theorem iraise1 (s : St) (z seen y : Int) (n S_ Y_ B : Nat) (a0 aC aN : Addr) (T : Nat) (w : World) (hS0 : BoxAt w S_ #[.int .i64 seen] 2) (hY0 : BoxAt w Y_ #[.int .i64 y] 2) (hSC : Sent B w 0 aC) (hNC : aC ≠ a0) (hSN : Sent B w 4 aN) (hNN : aN ≠ a0) (hBw : B ≤ w.heap.size) :
    RChanges (raiseC seen y) s z n a0 T (fun _ => True) 122 [.pointer (some ⟨S_, 0, none⟩), .pointer (some ⟨Y_, 0, none⟩)] w := by
  intro W X b m M r hbb hNM hMX hXW hX hRg hrb hri
  obtain ⟨hMb, hbX, ⟨cb, hbx⟩, d0, d1, d2, d3, df, _⟩ := hRg.ring hri
  have HRI := Lib.hid hri
  have HRB := Lib.hid hrb
  have HLN := Lib.hid hRg.1
  obtain ⟨N, hN⟩ : ∃ N, N = w.heap.size := ⟨_, rfl⟩
  have hN1 : w.heap.size ≤ N := by omega
  have hNw : N ≤ w.heap.size := by omega
  have HN := Lib.hid hN
  have hMW : M ≤ W.heap.size := by omega
  replace hbb : Below N w W := hbb.mono (by omega)
  have hRg0 := hRg
  replace hRg : RgsD M X W (some ⟨b, 0, none⟩) n m s.rs ∧ X ≤ W.heap.size := ⟨hRg, by omega⟩
  have hti : Till M T W W := .refl _ _ _
  unfold sC at hX
  clear hN hri hrb
  have hS1 := hS0.below hbb (by have := hS0.lt; omega)
  have hY1 := hY0.below hbb (by have := hY0.lt; omega)
  clear hS0 hY0
  show Calls Tryz.prog 122 #[.pointer (some ⟨b, z.toNat * 5, none⟩), .pointer (some ⟨S_, 0, none⟩), .pointer (some ⟨Y_, 0, none⟩)] W _
  cases hc : r.c
  · rw [hc] at d2
    cases hne : (r.t != seen)
    · have HEQ := Lib.hid (show r.t = seen by simpa using hne)
      have HCY := Lib.hid (show onRingC z (raiseC seen y) s = some { s with rs := s.rs.set z.toNat { r with t := y } } by rw [onRingC_yes HRB.out HRI.out]; simp [raiseC, hc, hne])
      go_enter Tryz.func122, Tryz.ntmps122
      go_upto_region 3 with fail
      clear d0 d1 d2 d3 df hc hne
      refine wp_region2v (fun w w' => w = w') (fun _ _ h => Nat.le_of_eq (by rw [h])) (fun _ => rfl) (fun L W' => (L 5 = false → Below N w W') ∧ (L 5 = false → BoxAt W' X #[.int .i64 s.rd, .int .i64 s.mo, .slice (some ⟨b, 0, none⟩) n m, .int .i64 s.fi, .int .i64 s.la] 32) ∧ (L 5 = false → (RgsD M X W' (some ⟨b, 0, none⟩) n m s.rs ∧ X ≤ W'.heap.size)) ∧ (L 5 = false → Till M T W W') ∧ (L 5 = false → BoxAt W' S_ #[.int .i64 seen] 2) ∧ (L 5 = false → BoxAt W' Y_ #[.int .i64 y] 2)) (rtYV s X b n m M T N S_ Y_ z seen y a0 W) (fun j => [0, 0, 0, 0, 0, 1, 0].getD j 0) [] (by kernel_rfl) (by kernel_rfl) ?_ ?_ ?_
        (.still rfl ?a0 <| .still rfl ?a1 <| .still rfl ?a2 <| .still rfl ?a3 <| .still rfl ?a4 <| .store rfl ?a5 <| .still rfl ?a6 <| .nil) ?_ ?_
      · exact ⟨fun _ _ _ h ⟨v, e, hp⟩ => ⟨v, (h 5 (List.mem_singleton.2 rfl)).symm.trans e, hp⟩, fun _ _ _ h ⟨v, e, hp⟩ => ⟨v, (h 6 (List.mem_singleton.2 rfl)).symm.trans e, hp⟩, trivial⟩
      · exact ⟨fun σ w w' hb ⟨v, e, hp⟩ => ⟨v, e, hb ▸ hp⟩, fun σ w w' hb ⟨v, e, hp⟩ => ⟨v, e, hb ▸ hp⟩, trivial⟩
      · exact ⟨fun _ => hbb.drew, fun _ => hX, fun _ => hRg, fun _ => hti.drewN _, fun _ => hS1, fun _ => hY1⟩
      case a0 | a1 | a2 =>
        go_light
        intro L σ W' hcl hL hC hw
        try have e0 := wT hw 0 rfl
        try have e1 := wT hw 1 rfl
        clear hw hcl hL hC
        refine OpGoes.step fun K hK => ?_
        unfold OpGoes
        go_simp
        exact hK _ _ ⟨rfl, rfl⟩
      case a3 =>
        go_light
        intro L σ W' hcl hL hC hw
        have h_ := (hC.2.2.2.2.1 (hcl.not (j := 5) (k := 3) (by kernel_rfl) hL))
        have k_ := h_.cell
        clear hw hcl hL hC
        refine OpGoes.step fun K hK => ?_
        unfold OpGoes
        go_simp
        exact hK _ _ ⟨rfl, rfl⟩
      case a4 =>
        go_light
        intro L σ W' hcl hL hC hw
        have h_ := (hC.2.2.2.2.2 (hcl.not (j := 5) (k := 4) (by kernel_rfl) hL))
        have k_ := h_.cell
        clear hw hcl hL hC
        refine OpGoes.step fun K hK => ?_
        unfold OpGoes
        go_simp
        exact hK _ _ ⟨rfl, rfl⟩
      case a5 =>
        go_light
        intro L σ W' hcl hL hC hw hne
        have e2 := wV hw 2 rfl
        have e3 := wV hw 3 rfl
        have e4 := wV hw 4 rfl
        clear hw hne
        obtain ⟨hbb, hX, hRg, hti, hS1, hY1⟩ := hC
        have hb7 := (hbb hL)
        have hX7 := (hX hL)
        have hRg7 := (hRg hL)
        have hti7 := (hti hL)
        obtain ⟨hMb, hbX, ⟨cb, hbx⟩, d0, d1, d2, d3, df, _⟩ := hRg7.1.ring HRI.out
        clear hcl hL
        refine OpGoes.step fun K hK => ?_
        unfold OpGoes
        go_simp
        refine (ichangeSeen_yes b (z.toNat * 5 + 1) seen y _ (by rw [d1, HEQ.out]) (df _)).mono ?_
        rintro e w1 ⟨rfl, rfl⟩
        have hpost := ChPost.mkYes (c := onRingC z (raiseC seen y)) (s := s) (a0 := a0) (B := N) (X := X) (M := M) (T := T) (K := fun _ => True) HCY.out (hti7.set (.inl hMb) _ _) trivial (t := { s with rs := s.rs.set z.toNat { r with t := y } }) (b := b) (n := n) (cap := m) (hX7.set_ne (by omega) _ _) ((hRg7.1.turn1 (r' := { r with t := y }) (j := 1) (u := .int .i64 y) HRI.out rfl (by omega) (fun a h1 h2 h3 h4 => by simp [Rw.cs, h1, h3, h4])).mono (Nat.le_refl _) (by simp; exact hRg7.2))
        refine ⟨_, rfl, hK _ _ ⟨⟨fun h => absurd h (by simp [upd]), fun h => absurd h (by simp [upd]), fun h => absurd h (by simp [upd]), fun h => absurd h (by simp [upd]), fun h => absurd h (by simp [upd]), fun h => absurd h (by simp [upd])⟩, ⟨_, rfl, hpost⟩, (by first | exact hsz | simp), fun j hj hn hR => ?_⟩⟩
        refine keepV ?_ j hj hn hR
        exact ⟨fun h => absurd rfl h, fun _ h => absurd (h.symm.trans (show waits _ _ _ = true by kernel_rfl)) (by decide), trivial⟩
      case a6 =>
        go_light
        intro L σ W' hcl hL hC hw
        obtain ⟨v, e5, hp5⟩ := wE hw 5 rfl
        clear hw hcl hL hC
        refine OpGoes.step fun K hK => ?_
        unfold OpGoes
        go_simp
        exact hK _ _ ⟨rfl, ⟨v, rfl, hp5⟩⟩
      · intro L L' W' hLL hC
        obtain ⟨hbb, hX, hRg, hti, hS1, hY1⟩ := hC
        exact ⟨fun h => hbb (hLL _ h), fun h => hX (hLL _ h), fun h => hRg (hLL _ h), fun h => hti (hLL _ h), fun h => hS1 (hLL _ h), fun h => hY1 (hLL _ h)⟩
      · intro σ L W' hall hC hRR
        obtain ⟨hbb, hX, hRg, hti, hS1, hY1⟩ := hC
        obtain ⟨v, e6, hp6⟩ := dE hRR 6 rfl
        clear hRR
        simp only [lexAll]
        go_simp
        go_step
        go_wp2
        go_ret
        rw [← HN.out]
        exact hp6

    · have HNE := Lib.hid hne
      have HCN := Lib.hid (show onRingC z (raiseC seen y) s = none by rw [onRingC_yes HRB.out HRI.out]; simp [raiseC, hc, hne])
      go_enter Tryz.func122, Tryz.ntmps122
      go_upto_region 3 with fail
      clear d0 d1 d2 d3 df hc hne
      refine wp_region2v (fun w w' => w = w') (fun _ _ h => Nat.le_of_eq (by rw [h])) (fun _ => rfl) (fun L W' => (L 5 = false → Below N w W') ∧ (L 5 = false → BoxAt W' X #[.int .i64 s.rd, .int .i64 s.mo, .slice (some ⟨b, 0, none⟩) n m, .int .i64 s.fi, .int .i64 s.la] 32) ∧ (L 5 = false → (RgsD M X W' (some ⟨b, 0, none⟩) n m s.rs ∧ X ≤ W'.heap.size)) ∧ (L 5 = false → Till M T W W') ∧ (L 5 = false → BoxAt W' S_ #[.int .i64 seen] 2) ∧ (L 5 = false → BoxAt W' Y_ #[.int .i64 y] 2)) (rtNV s X b n m M T N S_ Y_ z seen y a0 W) (fun j => [0, 0, 0, 0, 0, 1, 0].getD j 0) [] (by kernel_rfl) (by kernel_rfl) ?_ ?_ ?_
        (.still rfl ?a0 <| .still rfl ?a1 <| .still rfl ?a2 <| .still rfl ?a3 <| .still rfl ?a4 <| .store rfl ?a5 <| .still rfl ?a6 <| .nil) ?_ ?_
      · exact ⟨fun _ _ _ h ⟨v, e, hp⟩ => ⟨v, (h 5 (List.mem_singleton.2 rfl)).symm.trans e, hp⟩, fun _ _ _ h ⟨v, e, hp⟩ => ⟨v, (h 6 (List.mem_singleton.2 rfl)).symm.trans e, hp⟩, trivial⟩
      · exact ⟨fun σ w w' hb ⟨v, e, hp⟩ => ⟨v, e, hb ▸ hp⟩, fun σ w w' hb ⟨v, e, hp⟩ => ⟨v, e, hb ▸ hp⟩, trivial⟩
      · exact ⟨fun _ => hbb.drew, fun _ => hX, fun _ => hRg, fun _ => hti.drewN _, fun _ => hS1, fun _ => hY1⟩
      case a0 | a1 | a2 =>
        go_light
        intro L σ W' hcl hL hC hw
        try have e0 := wT hw 0 rfl
        try have e1 := wT hw 1 rfl
        clear hw hcl hL hC
        refine OpGoes.step fun K hK => ?_
        unfold OpGoes
        go_simp
        exact hK _ _ ⟨rfl, rfl⟩
      case a3 =>
        go_light
        intro L σ W' hcl hL hC hw
        have h_ := (hC.2.2.2.2.1 (hcl.not (j := 5) (k := 3) (by kernel_rfl) hL))
        have k_ := h_.cell
        clear hw hcl hL hC
        refine OpGoes.step fun K hK => ?_
        unfold OpGoes
        go_simp
        exact hK _ _ ⟨rfl, rfl⟩
      case a4 =>
        go_light
        intro L σ W' hcl hL hC hw
        have h_ := (hC.2.2.2.2.2 (hcl.not (j := 5) (k := 4) (by kernel_rfl) hL))
        have k_ := h_.cell
        clear hw hcl hL hC
        refine OpGoes.step fun K hK => ?_
        unfold OpGoes
        go_simp
        exact hK _ _ ⟨rfl, rfl⟩
      case a5 =>
        go_light
        intro L σ W' hcl hL hC hw hne
        have e2 := wV hw 2 rfl
        have e3 := wV hw 3 rfl
        have e4 := wV hw 4 rfl
        clear hw hne
        obtain ⟨hbb, hX, hRg, hti, hS1, hY1⟩ := hC
        have hb7 := (hbb hL)
        have hX7 := (hX hL)
        have hRg7 := (hRg hL)
        have hti7 := (hti hL)
        obtain ⟨hMb, hbX, ⟨cb, hbx⟩, d0, d1, d2, d3, df, _⟩ := hRg7.1.ring HRI.out
        have hg7 := hSN.keep (W' := W') (fun j hj => hb7.block j (by omega))
        clear hcl hL
        refine OpGoes.step fun K hK => ?_
        unfold OpGoes
        go_simp
        refine (ichangeSeen_no b (z.toNat * 5 + 1) r.t seen y aN _ d1 hg7.2.2.1 HNE.out).mono ?_
        rintro e w1 ⟨rfl, rfl⟩
        have hpost := ChPost.mkNo (c := onRingC z (raiseC seen y)) (s := s) (a0 := a0) (B := N) (X := X) (K := fun _ => True) HCN.out hti7 hNN (by have := hg7.2.1; omega) hg7.2.2.2
        have hsz := Nat.le_refl w1.heap.size
        refine ⟨_, rfl, hK _ _ ⟨⟨fun h => absurd h (by simp [upd]), fun h => absurd h (by simp [upd]), fun h => absurd h (by simp [upd]), fun h => absurd h (by simp [upd]), fun h => absurd h (by simp [upd]), fun h => absurd h (by simp [upd])⟩, ⟨_, rfl, hpost⟩, (by first | exact hsz | simp), fun j hj hn hR => ?_⟩⟩
        refine keepV ?_ j hj hn hR
        exact ⟨fun h => absurd rfl h, fun _ h => absurd (h.symm.trans (show waits _ _ _ = true by kernel_rfl)) (by decide), trivial⟩
      case a6 =>
        go_light
        intro L σ W' hcl hL hC hw
        obtain ⟨v, e5, hp5⟩ := wE hw 5 rfl
        clear hw hcl hL hC
        refine OpGoes.step fun K hK => ?_
        unfold OpGoes
        go_simp
        exact hK _ _ ⟨rfl, ⟨v, rfl, hp5⟩⟩
      · intro L L' W' hLL hC
        obtain ⟨hbb, hX, hRg, hti, hS1, hY1⟩ := hC
        exact ⟨fun h => hbb (hLL _ h), fun h => hX (hLL _ h), fun h => hRg (hLL _ h), fun h => hti (hLL _ h), fun h => hS1 (hLL _ h), fun h => hY1 (hLL _ h)⟩
      · intro σ L W' hall hC hRR
        obtain ⟨hbb, hX, hRg, hti, hS1, hY1⟩ := hC
        obtain ⟨v, e6, hp6⟩ := dE hRR 6 rfl
        clear hRR
        simp only [lexAll]
        go_simp
        go_step
        go_wp2
        go_ret
        rw [← HN.out]
        exact hp6

  · rw [hc] at d2
    obtain ⟨hg0, hq0, hg1, cq, tq, hQ0⟩ := hSC.keep (W' := W) (fun j hj => hbb.block j (by omega))
    have HCN := Lib.hid (show onRingC z (raiseC seen y) s = none by rw [onRingC_yes HRB.out HRI.out]; simp [raiseC, hc])
    clear hc
    go_enter Tryz.func122, Tryz.ntmps122
    go_wp2
    go_ret
    exact .mkNo HCN.out hti hNC (by omega) ⟨cq, tq, hQ0⟩

def dn_raiseV (s : St) (A : Option Addr) (n cap N : Nat) (z seen y : Int) : List Sl := [.v (.agg #[.int .i64 s.rd, .int .i64 s.mo, .slice A n cap, .int .i64 s.fi, .int .i64 s.la]),
  .v (.int .i64 z),
  .v (.func (.func 122) #[] #[.pointer (some ⟨(N + 1), 0, none⟩), .pointer (some ⟨(N + 2), 0, none⟩)]),
  .e fun σ w => ∃ (k : Nat), σ 3 = .func (.func 142) #[] #[.pointer (some ⟨k, 0, none⟩), .pointer (some ⟨k + 1, 0, none⟩)] ∧ OnR (N + 4) w k z 122 [.pointer (some ⟨(N + 1), 0, none⟩), .pointer (some ⟨(N + 2), 0, none⟩)],
  .e fun σ w => ∃ (A' : Option Addr) (n' c' : Nat), σ 4 = .tuple #[.agg #[.int .i64 ((done (onRingC z (raiseC seen y)) s).1.rd), .int .i64 ((done (onRingC z (raiseC seen y)) s).1.mo), .slice A' n' c', .int .i64 ((done (onRingC z (raiseC seen y)) s).1.fi), .int .i64 ((done (onRingC z (raiseC seen y)) s).1.la)], .bool ((done (onRingC z (raiseC seen y)) s).2)] ∧ DnF (N + 4) (fun _ => True) (done (onRingC z (raiseC seen y)) s) w A' n' c',
  .e fun σ w => ∃ (A' : Option Addr) (n' c' : Nat), σ 5 = .agg #[.int .i64 ((done (onRingC z (raiseC seen y)) s).1.rd), .int .i64 ((done (onRingC z (raiseC seen y)) s).1.mo), .slice A' n' c', .int .i64 ((done (onRingC z (raiseC seen y)) s).1.fi), .int .i64 ((done (onRingC z (raiseC seen y)) s).1.la)] ∧ DnF (N + 4) (fun _ => True) (done (onRingC z (raiseC seen y)) s) w A' n' c',
  .v (.bool ((done (onRingC z (raiseC seen y)) s).2)),
  .e fun σ w => ∃ (A' : Option Addr) (n' c' : Nat), BoxAt w (N + 3) #[.int .i64 ((done (onRingC z (raiseC seen y)) s).1.rd), .int .i64 ((done (onRingC z (raiseC seen y)) s).1.mo), .slice A' n' c', .int .i64 ((done (onRingC z (raiseC seen y)) s).1.fi), .int .i64 ((done (onRingC z (raiseC seen y)) s).1.la)] 32 ∧ DnF (N + 4) (fun _ => True) (done (onRingC z (raiseC seen y)) s) w A' n' c',
  .v (.bool ((done (onRingC z (raiseC seen y)) s).2))]

set_option maxRecDepth 100000 in
set_option maxHeartbeats 4000000 in
theorem iraise_any (s : St) (A : Option Addr) (n cap lo hi B : Nat) (a0 a1 a2 a3 a4 : Addr) (z seen y : Int) (w : World) (hs : RgsW lo hi w A n cap s.rs) (hh : hi ≤ w.heap.size) (hBw : B ≤ w.heap.size) (he : Errs B w a0 a1) (hS0 : Sent B w 2 a2) (hN0 : a2 ≠ a0) (hS1 : Sent B w 0 a3) (hN1x : a3 ≠ a0) (hS2 : Sent B w 4 a4) (hN2x : a4 ≠ a0) (hm : n ≤ 1048576) (hpn : ∀ r ∈ s.rs, r.ps.length ≤ 1048576) :
    Calls Tryz.prog 98 #[stV s A n cap, .int .i64 z, .int .i64 seen, .int .i64 y] w (RetSBD (raiseTail s z seen y) w) := by
  have HPN := Lib.hid hpn; clear hpn
  have HLN := Lib.hid hs.1
  have HV := Lib.hid (raise_done s z seen y)
  obtain ⟨N, hN⟩ : ∃ N, N = w.heap.size := ⟨_, rfl⟩
  have hN1 : w.heap.size ≤ N := by omega
  have hNw : N ≤ w.heap.size := by omega
  have HN := Lib.hid hN
  have hBN : B ≤ N := by omega
  unfold stV
  go_enter Tryz.func98, Tryz.ntmps98
  go_upto_region 1 with fail
  rw [← HN.out]
  refine wp_abs (fun W => Below N w W ∧ N + 4 ≤ W.heap.size ∧ BoxAt W N #[.int .i64 s.rd, .int .i64 s.mo, .slice A n cap, .int .i64 s.fi, .int .i64 s.la] 32 ∧ BoxAt W (N + 1) #[.int .i64 seen] 2 ∧ BoxAt W (N + 2) #[.int .i64 y] 2 ∧ BoxAt W (N + 3) #[.int .i64 0, .int .i64 0, .slice none 0 0, .int .i64 0, .int .i64 0] 32) ⟨(((((Below.refl _ _).alloc hNw _).alloc (by simp; omega) _).alloc (by simp; omega) _).alloc (by simp; omega) _), by simp; omega, ((((BoxAt.new' (by omega)).alloc _).alloc _).alloc _), (((BoxAt.new' (by simp; omega)).alloc _).alloc _), ((BoxAt.new' (by simp; omega)).alloc _), (BoxAt.new' (by simp; omega))⟩ ?_
  clear hN
  rintro W0 ⟨hB, hsz, hx, hc1, hc2, hz⟩
  refine wp_region2v (fun w w' => Below w.heap.size w w') (fun _ _ h => h.size) (fun _ => Below.refl _ _) (fun L W' => Below N w W' ∧ N + 4 ≤ W'.heap.size ∧ (L 4 = false → BoxAt W' N #[.int .i64 s.rd, .int .i64 s.mo, .slice A n cap, .int .i64 s.fi, .int .i64 s.la] 32) ∧ (L 4 = false → BoxAt W' (N + 1) #[.int .i64 seen] 2) ∧ (L 4 = false → BoxAt W' (N + 2) #[.int .i64 y] 2) ∧ (∃ x0 x1 x2 x3 x4, BoxAt W' (N + 3) #[x0, x1, x2, x3, x4] 32) ∧ (L 7 = false → BoxAt W' (N + 3) #[.int .i64 0, .int .i64 0, .slice none 0 0, .int .i64 0, .int .i64 0] 32)) (dn_raiseV s A n cap N z seen y) (fun j => [0, 0, 0, 0, 1, 0, 0, 1, 0].getD j 0) [] (by kernel_rfl) (by kernel_rfl) ?_ ?_ ?_
    (.still rfl ?a0 <| .still rfl ?a1 <| .still rfl ?a2 <| .grow rfl ?a3 <| .store rfl ?a4 <| .still rfl ?a5 <| .still rfl ?a6 <| .store rfl ?a7 <| .still rfl ?a8 <| .nil) ?_ ?_
  · exact ⟨fun _ _ _ h ⟨k, e, hp⟩ => ⟨k, (h 3 (List.mem_singleton.2 rfl)).symm.trans e, hp⟩, fun _ _ _ h ⟨A', n', c', e, hp⟩ => ⟨A', n', c', (h 4 (List.mem_singleton.2 rfl)).symm.trans e, hp⟩, fun _ _ _ h ⟨A', n', c', e, hp⟩ => ⟨A', n', c', (h 5 (List.mem_singleton.2 rfl)).symm.trans e, hp⟩, fun _ _ _ _ h => h, trivial⟩
  · exact ⟨fun σ w w' hb ⟨k, e, hp⟩ => ⟨k, e, hp.below hb⟩, fun σ w w' hb ⟨A', n', c', e, hp⟩ => ⟨A', n', c', e, hp.below hb (fun _ _ _ _ => trivial)⟩, fun σ w w' hb ⟨A', n', c', e, hp⟩ => ⟨A', n', c', e, hp.below hb (fun _ _ _ _ => trivial)⟩, fun σ w w' hb ⟨A', n', c', hx, hp⟩ => ⟨A', n', c', hx.below hb hx.lt, hp.below hb (fun _ _ _ _ => trivial)⟩, trivial⟩
  · exact ⟨hB.drew, hsz, fun _ => hx, fun _ => hc1, fun _ => hc2, ⟨_, _, _, _, _, hz⟩, fun _ => hz⟩
  case a1 | a2 | a8 =>
    go_light
    intro L σ W' hcl hL hC hw
    try have e6 := wT hw 6 rfl
    clear hw hcl hL hC
    refine OpGoes.step fun K hK => ?_
    unfold OpGoes
    go_simp
    exact hK _ _ ⟨rfl, rfl⟩
  case a0 =>
    go_light
    intro L σ W' hcl hL hC hw
    have hx_ := (hC.2.2.1 (hcl.not (j := 4) (k := 0) (by kernel_rfl) hL))
    have ks := hx_.cell
    clear hw hcl hL hC
    refine OpGoes.step fun K hK => ?_
    unfold OpGoes
    go_simp
    exact hK _ _ ⟨rfl, rfl⟩
  case a3 =>
    go_light
    intro L σ W' hcl hL hC hw
    have e1 := wV hw 1 rfl
    have e2 := wV hw 2 rfl
    clear hw
    have HC := Lib.hid hC
    clear hC
    clear hcl hL
    refine OpGoes.step fun K hK => ?_
    unfold OpGoes
    go_simp
    obtain ⟨hB, hsz, hx, hc1, hc2, ⟨_, _, _, _, _, hz⟩, hz_o⟩ := HC.out
    refine (ionRing_any z 122 [.pointer (some ⟨(N + 1), 0, none⟩), .pointer (some ⟨(N + 2), 0, none⟩)] _).mono ?_
    rintro e w1 ⟨rfl, hk1, hk2, hk3, hb1⟩
    exact ⟨_, rfl, hK _ _ ⟨⟨bstep hB (Nat.le_trans hNw hB.size) hb1, Nat.le_trans hsz hb1.size, fun h => (hx (by simpa [upd] using h)).below hb1 (hx (by simpa [upd] using h)).lt, fun h => (hc1 (by simpa [upd] using h)).below hb1 (hc1 (by simpa [upd] using h)).lt, fun h => (hc2 (by simpa [upd] using h)).below hb1 (hc2 (by simpa [upd] using h)).lt, ⟨_, _, _, _, _, hz.below hb1 hz.lt⟩, fun h => (hz_o (by simpa [upd] using h)).below hb1 (hz_o (by simpa [upd] using h)).lt⟩, ⟨_, rfl, hk1, hk2, hsz⟩, hb1⟩⟩
  case a4 =>
    go_light
    intro L σ W' hcl hL hC hw hne
    have e0 := wV hw 0 rfl
    obtain ⟨k, e3, hp3⟩ := wE hw 3 rfl
    clear hw hne
    obtain ⟨hB, hsz, hx, hc1, hc2, ⟨_, _, _, _, _, hz⟩, hz_o⟩ := hC
    have hx3 := (hx hL)
    have hc1_ := (hc1 hL)
    have hc2_ := (hc2 hL)
    clear hcl hL
    refine OpGoes.step fun K hK => ?_
    unfold OpGoes
    go_simp
    have hs3 := hs.keep (w' := W') (fun j _ hj => hB.block j (by omega))
    have he3 := he.below hB (by omega)
    refine (idoneOrNot_any (onRingC z (raiseC seen y)) s A n cap lo hi B N a0 a1 (fun _ => True) 142 [.pointer (some ⟨k, 0, none⟩), .pointer (some ⟨k + 1, 0, none⟩)] W' hs3 (by omega) (by omega) (by omega) hBN (by omega) he3 hm HPN.out (fun t hok ht => mild_ring (fun r r' h => by unfold raiseC at h; split at h; (cases h); split at h; (cases h); (injection h with h; subst h; rfl)) hok ht) (fun _ _ _ _ => trivial) (fun hok => ionRing1_any (raiseC seen y) s z n k (k + 1) B a0 a2 N (fun _ => True) 122 [.pointer (some ⟨(N + 1), 0, none⟩), .pointer (some ⟨(N + 2), 0, none⟩)] W' hp3.1 hp3.2.1 (iraise1 s z seen y n (N + 1) (N + 2) B a0 a3 a4 N W' hc1_ hc2_ (hS1.keep (fun j hj => hB.block j (by omega))) hN1x (hS2.keep (fun j hj => hB.block j (by omega))) hN2x (by omega)) (enters_of Tryz.func122 (by kernel_rfl) rfl) (hS0.keep (fun j hj => hB.block j (by omega))) hN0 (by omega) hBN hm) (enters_of Tryz.func142 (by kernel_rfl) rfl)).mono ?_
    rintro e w1 ⟨A', n', c', rfl, hR1, hk1, hbt⟩
    have hbt2 := hbt.size
    refine ⟨_, rfl, hK _ _ ⟨⟨hB.trans (hbt.below (Nat.le_refl _) (by omega)), by omega, fun h => absurd h (by simp [upd]), fun h => absurd h (by simp [upd]), fun h => absurd h (by simp [upd]), ⟨_, _, _, _, _, hbt.box hz (by omega)⟩, fun h => hbt.box (hz_o (by simpa [upd] using h)) (by omega)⟩, ⟨A', n', c', rfl, ⟨_, Nat.le_refl _, hR1.mono (by omega) (Nat.le_refl _)⟩, hk1⟩, hbt2, fun j hj hn hR => ?_⟩⟩
    refine keepV ?_ j hj hn hR
    exact ⟨fun _ _ ⟨k, e, hp⟩ => ⟨k, e, hp.but hbt (by omega)⟩, fun h => absurd rfl h, fun _ h => absurd (h.symm.trans (show waits _ _ _ = true by kernel_rfl)) (by decide), fun _ _ ⟨A'_x, n'_x, c'_x, hx, hp⟩ => ⟨A'_x, n'_x, c'_x, hbt.box hx (by omega), hp.but hbt (by omega)⟩, trivial⟩
  case a5 =>
    go_light
    intro L σ W' hcl hL hC hw
    obtain ⟨A', n', c', e4, hp4⟩ := wE hw 4 rfl
    clear hw hcl hL hC
    refine OpGoes.step fun K hK => ?_
    unfold OpGoes
    go_simp
    exact hK _ _ ⟨rfl, ⟨A', n', c', rfl, hp4⟩⟩
  case a6 =>
    go_light
    intro L σ W' hcl hL hC hw
    obtain ⟨A', n', c', e4, hp4⟩ := wE hw 4 rfl
    clear hw hcl hL hC
    refine OpGoes.step fun K hK => ?_
    unfold OpGoes
    go_simp
    exact hK _ _ ⟨rfl, rfl⟩
  case a7 =>
    go_light
    intro L σ W' hcl hL hC hw hne
    obtain ⟨A', n', c', e5, hp5⟩ := wE hw 5 rfl
    clear hw hne
    have HC := Lib.hid hC
    obtain ⟨hB, hsz, hx, hc1, hc2, ⟨_, _, _, _, _, hz⟩, hz_o⟩ := hC
    clear hcl hL
    have kc_ := hz.cell
    have kf_ := hz.frozen
    clear hB hsz hx hc1 hc2 hz hz_o
    refine OpGoes.step fun K hK => ?_
    unfold OpGoes
    go_simp
    obtain ⟨hB, hsz, hx, hc1, hc2, ⟨_, _, _, _, _, hz⟩, hz_o⟩ := HC.out
    have hset := sets_all (us := [.int .i64 ((done (onRingC z (raiseC seen y)) s).1.rd), .int .i64 ((done (onRingC z (raiseC seen y)) s).1.mo), .slice A' n' c', .int .i64 ((done (onRingC z (raiseC seen y)) s).1.fi), .int .i64 ((done (onRingC z (raiseC seen y)) s).1.la)]) hz rfl
    refine hK undef (setCells W' (N + 3) 0 [.int .i64 ((done (onRingC z (raiseC seen y)) s).1.rd), .int .i64 ((done (onRingC z (raiseC seen y)) s).1.mo), .slice A' n' c', .int .i64 ((done (onRingC z (raiseC seen y)) s).1.fi), .int .i64 ((done (onRingC z (raiseC seen y)) s).1.la)]) ⟨⟨(Below.setCells (by omega) _ 0 hB), (size_sts hsz _ 0), fun h => (BoxAt.sets_ne _ 0 (hx (by simpa [upd] using h)) (by omega)), fun h => (BoxAt.sets_ne _ 0 (hc1 (by simpa [upd] using h)) (by omega)), fun h => (BoxAt.sets_ne _ 0 (hc2 (by simpa [upd] using h)) (by omega)), ⟨_, _, _, _, _, hset⟩, fun h => absurd h (by simp [upd])⟩, ⟨A', n', c', hset, (DnF.sets (by omega) _ 0 hp5)⟩, Nat.le_of_eq (sets_size _ _ _).symm, keepV ?_⟩
    exact ⟨fun _ _ ⟨k_x, e, hp⟩ => ⟨k_x, e, (OnR.sets (by omega) _ 0 hp)⟩, fun _ _ ⟨A'_x, n'_x, c'_x, e, hp⟩ => ⟨A'_x, n'_x, c'_x, e, (DnF.sets (by omega) _ 0 hp)⟩, fun _ _ ⟨A'_x, n'_x, c'_x, e, hp⟩ => ⟨A'_x, n'_x, c'_x, e, (DnF.sets (by omega) _ 0 hp)⟩, fun h => absurd rfl h, trivial⟩
  · intro L L' W' hLL hC
    obtain ⟨hB, hsz, hx, hc1, hc2, ⟨_, _, _, _, _, hz⟩, hz_o⟩ := hC
    exact ⟨hB, hsz, fun h => hx (hLL _ h), fun h => hc1 (hLL _ h), fun h => hc2 (hLL _ h), ⟨_, _, _, _, _, hz⟩, fun h => hz_o (hLL _ h)⟩
  · intro σ L W' hall hC hRR
    obtain ⟨hB, hsz, hx, hc1, hc2, ⟨_, _, _, _, _, hz⟩, hz_o⟩ := hC
    obtain ⟨A', n', c', s7, hp7⟩ := dE hRR 7 rfl
    have e8 := dV hRR 8 rfl
    clear hRR
    simp only [lexAll]
    go_simp
    go_step
    have k6 := s7.cell
    go_wp2
    refine bodyPost_ret (v := .tuple #[stV (done (onRingC z (raiseC seen y)) s).1 A' n' c', .bool (done (onRingC z (raiseC seen y)) s).2]) (by simp [results, Tryz.results98, go_sem, k6, stV]) rfl ?_
    rw [HV.out]
    obtain ⟨hi', hl', hd'⟩ := hp7.1
    exact ⟨A', n', c', rfl, hd'.mono (by omega) hl', hB.mono hN1⟩

end Go.Proofs.YtlpcpaehkgaffaaGreatDoor

/-
  Link and Swing of the program.
-/
import Derived.Test.YtlpcpaehkgaffaaGreatDoorCloA
import Derived.Test.YtlpcpaehkgaffaaGreatDoorPutJ
import Derived.Test.YtlpcpaehkgaffaaGreatDoorRetG
import Derived.Test.YtlpcpaehkgaffaaGreatDoorPsH
import Derived.Test.YtlpcpaehkgaffaaGreatDoorAddB
import Derived.Test.YtlpcpaehkgaffaaGreatDoorSwpA
import Derived.Test.YtlpcpaehkgaffaaGreatDoorTicB
import Derived.Test.YtlpcpaehkgaffaaGreatDoorRingF
namespace Go.Proofs.YtlpcpaehkgaffaaGreatDoor
set_option linter.unusedSimpArgs false
set_option linter.unusedVariables false
open Go.RowKit
set_option linter.unusedVariables false
attribute [local go_sem] OpUpon
attribute [local go_sem ↓] Go.wp_at_zero Go.wp_at_succ

def lkNV (s : St) (X b n m M T N : Nat) (Y_ : Nat) (z y : Int) (a0 : Addr) (W0 : World) : List Sl := [.v (.pointer (some ⟨b, z.toNat * 5, none⟩)),
  .v (.pointer (some ⟨b, z.toNat * 5, none⟩)),
  .v (.pointer (some ⟨b, z.toNat * 5 + 3, none⟩)),
  .v (.int .i64 y),
  .e fun σ w => ∃ (v : Value), σ 4 = v ∧ ChPost (onRingC z (linkC (ringB s y) y)) s a0 N X M T (fun _ => True) W0 (.returned v) w,
  .e fun σ w => ∃ (v : Value), σ 5 = v ∧ ChPost (onRingC z (linkC (ringB s y) y)) s a0 N X M T (fun _ => True) W0 (.returned v) w]

def lkYV (s : St) (X b n m M T N : Nat) (Y_ : Nat) (z y : Int) (a0 : Addr) (W0 : World) : List Sl := [.v (.pointer (some ⟨b, z.toNat * 5, none⟩)),
  .v (.pointer (some ⟨b, z.toNat * 5, none⟩)),
  .v (.pointer (some ⟨b, z.toNat * 5 + 3, none⟩)),
  .v (.int .i64 y),
  .e fun σ w => ∃ (v : Value), σ 4 = v ∧ ChPost (onRingC z (linkC (ringB s y) y)) s a0 N X M T (fun _ => True) W0 (.returned v) w,
  .e fun σ w => ∃ (v : Value), σ 5 = v ∧ ChPost (onRingC z (linkC (ringB s y) y)) s a0 N X M T (fun _ => True) W0 (.returned v) w]

set_option maxRecDepth 100000 in
set_option maxHeartbeats 4000000 in
theorem ilink1 (s : St) (z y : Int) (n N0 Y_ B : Nat) (A : Option Addr) (cap : Nat) (a0 aR aN : Addr) (T : Nat) (w : World) (hX0 : BoxAt w N0 #[.int .i64 s.rd, .int .i64 s.mo, .slice A n cap, .int .i64 s.fi, .int .i64 s.la] 32) (hY0 : BoxAt w Y_ #[.int .i64 y] 2) (hSR : Sent B w 2 aR) (hNR : aR ≠ a0) (hSN : Sent B w 4 aN) (hNN : aN ≠ a0) (hBw : B ≤ w.heap.size) (hn2 : n ≤ 1048576) :
    RChanges (linkC (ringB s y) y) s z n a0 T (fun _ => True) 138 [.pointer (some ⟨N0, 0, none⟩), .pointer (some ⟨Y_, 0, none⟩)] w := by
  intro W X b m M r hbb hNM hMX hXW hX hRg hrb hri
  have HRI := Lib.hid hri
  have HRB := Lib.hid hrb
  have HLN := Lib.hid hRg.1
  obtain ⟨N, hN⟩ : ∃ N, N = w.heap.size := ⟨_, rfl⟩
  have hN1 : w.heap.size ≤ N := by omega
  have hNw : N ≤ w.heap.size := by omega
  have HN := Lib.hid hN
  have hMW : M ≤ W.heap.size := by omega
  replace hbb : Below N w W := hbb.mono (by omega)
  have hRg0 := hRg
  replace hRg : RgsD M X W (some ⟨b, 0, none⟩) n m s.rs ∧ X ≤ W.heap.size := ⟨hRg, by omega⟩
  have hti : Till M T W W := .refl _ _ _
  unfold sC at hX
  clear hN hri hrb
  have hX1 := hX0.below hbb (by have := hX0.lt; omega)
  have hY1 := hY0.below hbb (by have := hY0.lt; omega)
  clear hX0 hY0
  show Calls Tryz.prog 138 #[.pointer (some ⟨b, z.toNat * 5, none⟩), .pointer (some ⟨N0, 0, none⟩), .pointer (some ⟨Y_, 0, none⟩)] W _
  have k1 := hX1.cell
  have k2 := hY1.cell
  go_enter Tryz.func138, Tryz.ntmps138
  go_wp2_with fail
  clear k1 k2
  refine (hasRing_any s A n cap y _ HLN.out hn2).mono ?_
  rintro e w1 ⟨rfl, hb1⟩
  have hXs : X ≤ W.heap.size := by omega
  replace hbb := bstep hbb (Nat.le_trans hNw hbb.size) hb1
  replace hX := hX.below hb1 hX.lt
  replace hY1 := hY1.below hb1 hY1.lt
  replace hRg : RgsD M X w1 (some ⟨b, 0, none⟩) n m s.rs ∧ X ≤ w1.heap.size := ⟨hRg.1.keep (.below hb1 hXs), Nat.le_trans hXs hb1.size⟩
  replace hti : Till M T W w1 := .of_below hb1 hMW
  clear hb1 hX1 hRg0
  obtain ⟨hMb, hbX, ⟨cb, hbx⟩, d0, d1, d2, d3, df, _⟩ := hRg.1.ring HRI.out
  cases hy : ringB s y
  · obtain ⟨hg0, hq0, hg1, cq, tq, hQ0⟩ := hSR.keep (W' := w1) (fun j hj => hbb.block j (by omega))
    have HCN := Lib.hid (show onRingC z (linkC (ringB s y) y) s = none by rw [onRingC_yes HRB.out HRI.out]; simp [linkC, hy])
    clear d0 d1 d2 d3 df
    go_wp2
    go_ret
    exact .mkNo HCN.out hti hNR (by omega) ⟨cq, tq, hQ0⟩
  · rw [← hy]
    cases hne : (r.x != -1)
    · have HEQ := Lib.hid (show r.x = -1 by simpa using hne)
      have HCY := Lib.hid (show onRingC z (linkC (ringB s y) y) s = some { s with rs := s.rs.set z.toNat { r with x := y } } by rw [onRingC_yes HRB.out HRI.out]; simp [linkC, hy, hne])
      go_upto_region 3 with fail
      clear d0 d1 d2 d3 df hy hne
      refine wp_region2v (fun w w' => w = w') (fun _ _ h => Nat.le_of_eq (by rw [h])) (fun _ => rfl) (fun L W' => (L 4 = false → Below N w W') ∧ (L 4 = false → BoxAt W' X #[.int .i64 s.rd, .int .i64 s.mo, .slice (some ⟨b, 0, none⟩) n m, .int .i64 s.fi, .int .i64 s.la] 32) ∧ (L 4 = false → (RgsD M X W' (some ⟨b, 0, none⟩) n m s.rs ∧ X ≤ W'.heap.size)) ∧ (L 4 = false → Till M T W W') ∧ (L 4 = false → BoxAt W' Y_ #[.int .i64 y] 2)) (lkYV s X b n m M T N Y_ z y a0 W) (fun j => [0, 0, 0, 0, 1, 0].getD j 0) [] (by kernel_rfl) (by kernel_rfl) ?_ ?_ ?_
        (.still rfl ?a0 <| .still rfl ?a1 <| .still rfl ?a2 <| .still rfl ?a3 <| .store rfl ?a4 <| .still rfl ?a5 <| .nil) ?_ ?_
      · exact ⟨fun _ _ _ h ⟨v, e, hp⟩ => ⟨v, (h 4 (List.mem_singleton.2 rfl)).symm.trans e, hp⟩, fun _ _ _ h ⟨v, e, hp⟩ => ⟨v, (h 5 (List.mem_singleton.2 rfl)).symm.trans e, hp⟩, trivial⟩
      · exact ⟨fun σ w w' hb ⟨v, e, hp⟩ => ⟨v, e, hb ▸ hp⟩, fun σ w w' hb ⟨v, e, hp⟩ => ⟨v, e, hb ▸ hp⟩, trivial⟩
      · exact ⟨fun _ => hbb.drew, fun _ => hX, fun _ => hRg, fun _ => hti.drewN _, fun _ => hY1⟩
      case a0 | a1 | a2 =>
        go_light
        intro L σ W' hcl hL hC hw
        try have e0 := wT hw 0 rfl
        try have e1 := wT hw 1 rfl
        clear hw hcl hL hC
        refine OpGoes.step fun K hK => ?_
        unfold OpGoes
        go_simp
        exact hK _ _ ⟨rfl, rfl⟩
      case a3 =>
        go_light
        intro L σ W' hcl hL hC hw
        have h_ := (hC.2.2.2.2 (hcl.not (j := 4) (k := 3) (by kernel_rfl) hL))
        have k_ := h_.cell
        clear hw hcl hL hC
        refine OpGoes.step fun K hK => ?_
        unfold OpGoes
        go_simp
        exact hK _ _ ⟨rfl, rfl⟩
      case a4 =>
        go_light
        intro L σ W' hcl hL hC hw hne
        have e2 := wV hw 2 rfl
        have e3 := wV hw 3 rfl
        clear hw hne
        obtain ⟨hbb, hX, hRg, hti, hY1⟩ := hC
        have hb7 := (hbb hL)
        have hX7 := (hX hL)
        have hRg7 := (hRg hL)
        have hti7 := (hti hL)
        obtain ⟨hMb, hbX, ⟨cb, hbx⟩, d0, d1, d2, d3, df, _⟩ := hRg7.1.ring HRI.out
        clear hcl hL
        refine OpGoes.step fun K hK => ?_
        unfold OpGoes
        go_simp
        refine (ichangeSeen_yes b (z.toNat * 5 + 3) (-1) y _ (by rw [d3, HEQ.out]) (df _)).mono ?_
        rintro e w1 ⟨rfl, rfl⟩
        have hpost := ChPost.mkYes (c := onRingC z (linkC (ringB s y) y)) (s := s) (a0 := a0) (B := N) (X := X) (M := M) (T := T) (K := fun _ => True) HCY.out (hti7.set (.inl hMb) _ _) trivial (t := { s with rs := s.rs.set z.toNat { r with x := y } }) (b := b) (n := n) (cap := m) (hX7.set_ne (by omega) _ _) ((hRg7.1.turn1 (r' := { r with x := y }) (j := 3) (u := .int .i64 y) HRI.out rfl (by omega) (fun a h1 h2 h3 h4 => by simp [Rw.cs, h1, h2, h3])).mono (Nat.le_refl _) (by simp; exact hRg7.2))
        refine ⟨_, rfl, hK _ _ ⟨⟨fun h => absurd h (by simp [upd]), fun h => absurd h (by simp [upd]), fun h => absurd h (by simp [upd]), fun h => absurd h (by simp [upd]), fun h => absurd h (by simp [upd])⟩, ⟨_, rfl, hpost⟩, (by first | exact hsz | simp), fun j hj hn hR => ?_⟩⟩
        refine keepV ?_ j hj hn hR
        exact ⟨fun h => absurd rfl h, fun _ h => absurd (h.symm.trans (show waits _ _ _ = true by kernel_rfl)) (by decide), trivial⟩
      case a5 =>
        go_light
        intro L σ W' hcl hL hC hw
        obtain ⟨v, e4, hp4⟩ := wE hw 4 rfl
        clear hw hcl hL hC
        refine OpGoes.step fun K hK => ?_
        unfold OpGoes
        go_simp
        exact hK _ _ ⟨rfl, ⟨v, rfl, hp4⟩⟩
      · intro L L' W' hLL hC
        obtain ⟨hbb, hX, hRg, hti, hY1⟩ := hC
        exact ⟨fun h => hbb (hLL _ h), fun h => hX (hLL _ h), fun h => hRg (hLL _ h), fun h => hti (hLL _ h), fun h => hY1 (hLL _ h)⟩
      · intro σ L W' hall hC hRR
        obtain ⟨hbb, hX, hRg, hti, hY1⟩ := hC
        obtain ⟨v, e5, hp5⟩ := dE hRR 5 rfl
        clear hRR
        simp only [lexAll]
        go_simp
        go_step
        go_wp2
        go_ret
        rw [← HN.out]
        exact hp5

    · have HNE := Lib.hid hne
      have HCN := Lib.hid (show onRingC z (linkC (ringB s y) y) s = none by rw [onRingC_yes HRB.out HRI.out]; simp [linkC, hy, hne])
      go_upto_region 3 with fail
      clear d0 d1 d2 d3 df hy hne
      refine wp_region2v (fun w w' => w = w') (fun _ _ h => Nat.le_of_eq (by rw [h])) (fun _ => rfl) (fun L W' => (L 4 = false → Below N w W') ∧ (L 4 = false → BoxAt W' X #[.int .i64 s.rd, .int .i64 s.mo, .slice (some ⟨b, 0, none⟩) n m, .int .i64 s.fi, .int .i64 s.la] 32) ∧ (L 4 = false → (RgsD M X W' (some ⟨b, 0, none⟩) n m s.rs ∧ X ≤ W'.heap.size)) ∧ (L 4 = false → Till M T W W') ∧ (L 4 = false → BoxAt W' Y_ #[.int .i64 y] 2)) (lkNV s X b n m M T N Y_ z y a0 W) (fun j => [0, 0, 0, 0, 1, 0].getD j 0) [] (by kernel_rfl) (by kernel_rfl) ?_ ?_ ?_
        (.still rfl ?a0 <| .still rfl ?a1 <| .still rfl ?a2 <| .still rfl ?a3 <| .store rfl ?a4 <| .still rfl ?a5 <| .nil) ?_ ?_
      · exact ⟨fun _ _ _ h ⟨v, e, hp⟩ => ⟨v, (h 4 (List.mem_singleton.2 rfl)).symm.trans e, hp⟩, fun _ _ _ h ⟨v, e, hp⟩ => ⟨v, (h 5 (List.mem_singleton.2 rfl)).symm.trans e, hp⟩, trivial⟩
      · exact ⟨fun σ w w' hb ⟨v, e, hp⟩ => ⟨v, e, hb ▸ hp⟩, fun σ w w' hb ⟨v, e, hp⟩ => ⟨v, e, hb ▸ hp⟩, trivial⟩
      · exact ⟨fun _ => hbb.drew, fun _ => hX, fun _ => hRg, fun _ => hti.drewN _, fun _ => hY1⟩
      case a0 | a1 | a2 =>
        go_light
        intro L σ W' hcl hL hC hw
        try have e0 := wT hw 0 rfl
        try have e1 := wT hw 1 rfl
        clear hw hcl hL hC
        refine OpGoes.step fun K hK => ?_
        unfold OpGoes
        go_simp
        exact hK _ _ ⟨rfl, rfl⟩
      case a3 =>
        go_light
        intro L σ W' hcl hL hC hw
        have h_ := (hC.2.2.2.2 (hcl.not (j := 4) (k := 3) (by kernel_rfl) hL))
        have k_ := h_.cell
        clear hw hcl hL hC
        refine OpGoes.step fun K hK => ?_
        unfold OpGoes
        go_simp
        exact hK _ _ ⟨rfl, rfl⟩
      case a4 =>
        go_light
        intro L σ W' hcl hL hC hw hne
        have e2 := wV hw 2 rfl
        have e3 := wV hw 3 rfl
        clear hw hne
        obtain ⟨hbb, hX, hRg, hti, hY1⟩ := hC
        have hb7 := (hbb hL)
        have hX7 := (hX hL)
        have hRg7 := (hRg hL)
        have hti7 := (hti hL)
        obtain ⟨hMb, hbX, ⟨cb, hbx⟩, d0, d1, d2, d3, df, _⟩ := hRg7.1.ring HRI.out
        have hg7 := hSN.keep (W' := W') (fun j hj => hb7.block j (by omega))
        clear hcl hL
        refine OpGoes.step fun K hK => ?_
        unfold OpGoes
        go_simp
        refine (ichangeSeen_no b (z.toNat * 5 + 3) r.x (-1) y aN _ d3 hg7.2.2.1 HNE.out).mono ?_
        rintro e w1 ⟨rfl, rfl⟩
        have hpost := ChPost.mkNo (c := onRingC z (linkC (ringB s y) y)) (s := s) (a0 := a0) (B := N) (X := X) (K := fun _ => True) HCN.out hti7 hNN (by have := hg7.2.1; omega) hg7.2.2.2
        have hsz := Nat.le_refl w1.heap.size
        refine ⟨_, rfl, hK _ _ ⟨⟨fun h => absurd h (by simp [upd]), fun h => absurd h (by simp [upd]), fun h => absurd h (by simp [upd]), fun h => absurd h (by simp [upd]), fun h => absurd h (by simp [upd])⟩, ⟨_, rfl, hpost⟩, (by first | exact hsz | simp), fun j hj hn hR => ?_⟩⟩
        refine keepV ?_ j hj hn hR
        exact ⟨fun h => absurd rfl h, fun _ h => absurd (h.symm.trans (show waits _ _ _ = true by kernel_rfl)) (by decide), trivial⟩
      case a5 =>
        go_light
        intro L σ W' hcl hL hC hw
        obtain ⟨v, e4, hp4⟩ := wE hw 4 rfl
        clear hw hcl hL hC
        refine OpGoes.step fun K hK => ?_
        unfold OpGoes
        go_simp
        exact hK _ _ ⟨rfl, ⟨v, rfl, hp4⟩⟩
      · intro L L' W' hLL hC
        obtain ⟨hbb, hX, hRg, hti, hY1⟩ := hC
        exact ⟨fun h => hbb (hLL _ h), fun h => hX (hLL _ h), fun h => hRg (hLL _ h), fun h => hti (hLL _ h), fun h => hY1 (hLL _ h)⟩
      · intro σ L W' hall hC hRR
        obtain ⟨hbb, hX, hRg, hti, hY1⟩ := hC
        obtain ⟨v, e5, hp5⟩ := dE hRR 5 rfl
        clear hRR
        simp only [lexAll]
        go_simp
        go_step
        go_wp2
        go_ret
        rw [← HN.out]
        exact hp5


def dn_linkV (s : St) (A : Option Addr) (n cap N : Nat) (z y : Int) : List Sl := [.v (.agg #[.int .i64 s.rd, .int .i64 s.mo, .slice A n cap, .int .i64 s.fi, .int .i64 s.la]),
  .v (.int .i64 z),
  .v (.func (.func 138) #[] #[.pointer (some ⟨N, 0, none⟩), .pointer (some ⟨(N + 1), 0, none⟩)]),
  .e fun σ w => ∃ (k : Nat), σ 3 = .func (.func 142) #[] #[.pointer (some ⟨k, 0, none⟩), .pointer (some ⟨k + 1, 0, none⟩)] ∧ OnR (N + 3) w k z 138 [.pointer (some ⟨N, 0, none⟩), .pointer (some ⟨(N + 1), 0, none⟩)],
  .e fun σ w => ∃ (A' : Option Addr) (n' c' : Nat), σ 4 = .tuple #[.agg #[.int .i64 ((done (onRingC z (linkC (ringB s y) y)) s).1.rd), .int .i64 ((done (onRingC z (linkC (ringB s y) y)) s).1.mo), .slice A' n' c', .int .i64 ((done (onRingC z (linkC (ringB s y) y)) s).1.fi), .int .i64 ((done (onRingC z (linkC (ringB s y) y)) s).1.la)], .bool ((done (onRingC z (linkC (ringB s y) y)) s).2)] ∧ DnF (N + 3) (fun _ => True) (done (onRingC z (linkC (ringB s y) y)) s) w A' n' c',
  .e fun σ w => ∃ (A' : Option Addr) (n' c' : Nat), σ 5 = .agg #[.int .i64 ((done (onRingC z (linkC (ringB s y) y)) s).1.rd), .int .i64 ((done (onRingC z (linkC (ringB s y) y)) s).1.mo), .slice A' n' c', .int .i64 ((done (onRingC z (linkC (ringB s y) y)) s).1.fi), .int .i64 ((done (onRingC z (linkC (ringB s y) y)) s).1.la)] ∧ DnF (N + 3) (fun _ => True) (done (onRingC z (linkC (ringB s y) y)) s) w A' n' c',
  .v (.bool ((done (onRingC z (linkC (ringB s y) y)) s).2)),
  .e fun σ w => ∃ (A' : Option Addr) (n' c' : Nat), BoxAt w (N + 2) #[.int .i64 ((done (onRingC z (linkC (ringB s y) y)) s).1.rd), .int .i64 ((done (onRingC z (linkC (ringB s y) y)) s).1.mo), .slice A' n' c', .int .i64 ((done (onRingC z (linkC (ringB s y) y)) s).1.fi), .int .i64 ((done (onRingC z (linkC (ringB s y) y)) s).1.la)] 32 ∧ DnF (N + 3) (fun _ => True) (done (onRingC z (linkC (ringB s y) y)) s) w A' n' c',
  .v (.bool ((done (onRingC z (linkC (ringB s y) y)) s).2))]

set_option maxRecDepth 100000 in
set_option maxHeartbeats 4000000 in
theorem ilink_any (s : St) (A : Option Addr) (n cap lo hi B : Nat) (a0 a1 a2 a3 : Addr) (z y : Int) (w : World) (hs : RgsW lo hi w A n cap s.rs) (hh : hi ≤ w.heap.size) (hBw : B ≤ w.heap.size) (he : Errs B w a0 a1) (hS0 : Sent B w 2 a2) (hN0 : a2 ≠ a0) (hS1 : Sent B w 4 a3) (hN1x : a3 ≠ a0) (hm : n ≤ 1048576) (hpn : ∀ r ∈ s.rs, r.ps.length ≤ 1048576) :
    Calls Tryz.prog 119 #[stV s A n cap, .int .i64 z, .int .i64 y] w (RetSBD (linkR s z y) w) := by
  have HPN := Lib.hid hpn; clear hpn
  have HLN := Lib.hid hs.1
  have HV := Lib.hid (link_done s z y)
  obtain ⟨N, hN⟩ : ∃ N, N = w.heap.size := ⟨_, rfl⟩
  have hN1 : w.heap.size ≤ N := by omega
  have hNw : N ≤ w.heap.size := by omega
  have HN := Lib.hid hN
  have hBN : B ≤ N := by omega
  unfold stV
  go_enter Tryz.func119, Tryz.ntmps119
  go_upto_region 1 with fail
  rw [← HN.out]
  refine wp_abs (fun W => Below N w W ∧ N + 3 ≤ W.heap.size ∧ BoxAt W N #[.int .i64 s.rd, .int .i64 s.mo, .slice A n cap, .int .i64 s.fi, .int .i64 s.la] 32 ∧ BoxAt W (N + 1) #[.int .i64 y] 2 ∧ BoxAt W (N + 2) #[.int .i64 0, .int .i64 0, .slice none 0 0, .int .i64 0, .int .i64 0] 32) ⟨((((Below.refl _ _).alloc hNw _).alloc (by simp; omega) _).alloc (by simp; omega) _), by simp; omega, (((BoxAt.new' (by omega)).alloc _).alloc _), ((BoxAt.new' (by simp; omega)).alloc _), (BoxAt.new' (by simp; omega))⟩ ?_
  clear hN
  rintro W0 ⟨hB, hsz, hx, hc1, hz⟩
  refine wp_region2v (fun w w' => Below w.heap.size w w') (fun _ _ h => h.size) (fun _ => Below.refl _ _) (fun L W' => Below N w W' ∧ N + 3 ≤ W'.heap.size ∧ (L 4 = false → BoxAt W' N #[.int .i64 s.rd, .int .i64 s.mo, .slice A n cap, .int .i64 s.fi, .int .i64 s.la] 32) ∧ (L 4 = false → BoxAt W' (N + 1) #[.int .i64 y] 2) ∧ (∃ x0 x1 x2 x3 x4, BoxAt W' (N + 2) #[x0, x1, x2, x3, x4] 32) ∧ (L 7 = false → BoxAt W' (N + 2) #[.int .i64 0, .int .i64 0, .slice none 0 0, .int .i64 0, .int .i64 0] 32)) (dn_linkV s A n cap N z y) (fun j => [0, 0, 0, 0, 1, 0, 0, 1, 0].getD j 0) [] (by kernel_rfl) (by kernel_rfl) ?_ ?_ ?_
    (.still rfl ?a0 <| .still rfl ?a1 <| .still rfl ?a2 <| .grow rfl ?a3 <| .store rfl ?a4 <| .still rfl ?a5 <| .still rfl ?a6 <| .store rfl ?a7 <| .still rfl ?a8 <| .nil) ?_ ?_
  · exact ⟨fun _ _ _ h ⟨k, e, hp⟩ => ⟨k, (h 3 (List.mem_singleton.2 rfl)).symm.trans e, hp⟩, fun _ _ _ h ⟨A', n', c', e, hp⟩ => ⟨A', n', c', (h 4 (List.mem_singleton.2 rfl)).symm.trans e, hp⟩, fun _ _ _ h ⟨A', n', c', e, hp⟩ => ⟨A', n', c', (h 5 (List.mem_singleton.2 rfl)).symm.trans e, hp⟩, fun _ _ _ _ h => h, trivial⟩
  · exact ⟨fun σ w w' hb ⟨k, e, hp⟩ => ⟨k, e, hp.below hb⟩, fun σ w w' hb ⟨A', n', c', e, hp⟩ => ⟨A', n', c', e, hp.below hb (fun _ _ _ _ => trivial)⟩, fun σ w w' hb ⟨A', n', c', e, hp⟩ => ⟨A', n', c', e, hp.below hb (fun _ _ _ _ => trivial)⟩, fun σ w w' hb ⟨A', n', c', hx, hp⟩ => ⟨A', n', c', hx.below hb hx.lt, hp.below hb (fun _ _ _ _ => trivial)⟩, trivial⟩
  · exact ⟨hB.drew, hsz, fun _ => hx, fun _ => hc1, ⟨_, _, _, _, _, hz⟩, fun _ => hz⟩
  case a1 | a2 | a8 =>
    go_light
    intro L σ W' hcl hL hC hw
    try have e6 := wT hw 6 rfl
    clear hw hcl hL hC
    refine OpGoes.step fun K hK => ?_
    unfold OpGoes
    go_simp
    exact hK _ _ ⟨rfl, rfl⟩
  case a0 =>
    go_light
    intro L σ W' hcl hL hC hw
    have hx_ := (hC.2.2.1 (hcl.not (j := 4) (k := 0) (by kernel_rfl) hL))
    have ks := hx_.cell
    clear hw hcl hL hC
    refine OpGoes.step fun K hK => ?_
    unfold OpGoes
    go_simp
    exact hK _ _ ⟨rfl, rfl⟩
  case a3 =>
    go_light
    intro L σ W' hcl hL hC hw
    have e1 := wV hw 1 rfl
    have e2 := wV hw 2 rfl
    clear hw
    have HC := Lib.hid hC
    clear hC
    clear hcl hL
    refine OpGoes.step fun K hK => ?_
    unfold OpGoes
    go_simp
    obtain ⟨hB, hsz, hx, hc1, ⟨_, _, _, _, _, hz⟩, hz_o⟩ := HC.out
    refine (ionRing_any z 138 [.pointer (some ⟨N, 0, none⟩), .pointer (some ⟨(N + 1), 0, none⟩)] _).mono ?_
    rintro e w1 ⟨rfl, hk1, hk2, hk3, hb1⟩
    exact ⟨_, rfl, hK _ _ ⟨⟨bstep hB (Nat.le_trans hNw hB.size) hb1, Nat.le_trans hsz hb1.size, fun h => (hx (by simpa [upd] using h)).below hb1 (hx (by simpa [upd] using h)).lt, fun h => (hc1 (by simpa [upd] using h)).below hb1 (hc1 (by simpa [upd] using h)).lt, ⟨_, _, _, _, _, hz.below hb1 hz.lt⟩, fun h => (hz_o (by simpa [upd] using h)).below hb1 (hz_o (by simpa [upd] using h)).lt⟩, ⟨_, rfl, hk1, hk2, hsz⟩, hb1⟩⟩
  case a4 =>
    go_light
    intro L σ W' hcl hL hC hw hne
    have e0 := wV hw 0 rfl
    obtain ⟨k, e3, hp3⟩ := wE hw 3 rfl
    clear hw hne
    obtain ⟨hB, hsz, hx, hc1, ⟨_, _, _, _, _, hz⟩, hz_o⟩ := hC
    have hx3 := (hx hL)
    have hc1_ := (hc1 hL)
    clear hcl hL
    refine OpGoes.step fun K hK => ?_
    unfold OpGoes
    go_simp
    have hs3 := hs.keep (w' := W') (fun j _ hj => hB.block j (by omega))
    have he3 := he.below hB (by omega)
    refine (idoneOrNot_any (onRingC z (linkC (ringB s y) y)) s A n cap lo hi B N a0 a1 (fun _ => True) 142 [.pointer (some ⟨k, 0, none⟩), .pointer (some ⟨k + 1, 0, none⟩)] W' hs3 (by omega) (by omega) (by omega) hBN (by omega) he3 hm HPN.out (fun t hok ht => mild_ring (fun r r' h => by unfold linkC at h; split at h; (cases h); split at h; (cases h); (injection h with h; subst h; rfl)) hok ht) (fun _ _ _ _ => trivial) (fun hok => ionRing1_any (linkC (ringB s y) y) s z n k (k + 1) B a0 a2 N (fun _ => True) 138 [.pointer (some ⟨N, 0, none⟩), .pointer (some ⟨(N + 1), 0, none⟩)] W' hp3.1 hp3.2.1 (ilink1 s z y n N (N + 1) B A cap a0 a2 a3 N W' hx3 hc1_ (hS0.keep (fun j hj => hB.block j (by omega))) hN0 (hS1.keep (fun j hj => hB.block j (by omega))) hN1x (by omega) hm) (enters_of Tryz.func138 (by kernel_rfl) rfl) (hS0.keep (fun j hj => hB.block j (by omega))) hN0 (by omega) hBN hm) (enters_of Tryz.func142 (by kernel_rfl) rfl)).mono ?_
    rintro e w1 ⟨A', n', c', rfl, hR1, hk1, hbt⟩
    have hbt2 := hbt.size
    refine ⟨_, rfl, hK _ _ ⟨⟨hB.trans (hbt.below (Nat.le_refl _) (by omega)), by omega, fun h => absurd h (by simp [upd]), fun h => absurd h (by simp [upd]), ⟨_, _, _, _, _, hbt.box hz (by omega)⟩, fun h => hbt.box (hz_o (by simpa [upd] using h)) (by omega)⟩, ⟨A', n', c', rfl, ⟨_, Nat.le_refl _, hR1.mono (by omega) (Nat.le_refl _)⟩, hk1⟩, hbt2, fun j hj hn hR => ?_⟩⟩
    refine keepV ?_ j hj hn hR
    exact ⟨fun _ _ ⟨k, e, hp⟩ => ⟨k, e, hp.but hbt (by omega)⟩, fun h => absurd rfl h, fun _ h => absurd (h.symm.trans (show waits _ _ _ = true by kernel_rfl)) (by decide), fun _ _ ⟨A'_x, n'_x, c'_x, hx, hp⟩ => ⟨A'_x, n'_x, c'_x, hbt.box hx (by omega), hp.but hbt (by omega)⟩, trivial⟩
  case a5 =>
    go_light
    intro L σ W' hcl hL hC hw
    obtain ⟨A', n', c', e4, hp4⟩ := wE hw 4 rfl
    clear hw hcl hL hC
    refine OpGoes.step fun K hK => ?_
    unfold OpGoes
    go_simp
    exact hK _ _ ⟨rfl, ⟨A', n', c', rfl, hp4⟩⟩
  case a6 =>
    go_light
    intro L σ W' hcl hL hC hw
    obtain ⟨A', n', c', e4, hp4⟩ := wE hw 4 rfl
    clear hw hcl hL hC
    refine OpGoes.step fun K hK => ?_
    unfold OpGoes
    go_simp
    exact hK _ _ ⟨rfl, rfl⟩
  case a7 =>
    go_light
    intro L σ W' hcl hL hC hw hne
    obtain ⟨A', n', c', e5, hp5⟩ := wE hw 5 rfl
    clear hw hne
    have HC := Lib.hid hC
    obtain ⟨hB, hsz, hx, hc1, ⟨_, _, _, _, _, hz⟩, hz_o⟩ := hC
    clear hcl hL
    have kc_ := hz.cell
    have kf_ := hz.frozen
    clear hB hsz hx hc1 hz hz_o
    refine OpGoes.step fun K hK => ?_
    unfold OpGoes
    go_simp
    obtain ⟨hB, hsz, hx, hc1, ⟨_, _, _, _, _, hz⟩, hz_o⟩ := HC.out
    have hset := sets_all (us := [.int .i64 ((done (onRingC z (linkC (ringB s y) y)) s).1.rd), .int .i64 ((done (onRingC z (linkC (ringB s y) y)) s).1.mo), .slice A' n' c', .int .i64 ((done (onRingC z (linkC (ringB s y) y)) s).1.fi), .int .i64 ((done (onRingC z (linkC (ringB s y) y)) s).1.la)]) hz rfl
    refine hK undef (setCells W' (N + 2) 0 [.int .i64 ((done (onRingC z (linkC (ringB s y) y)) s).1.rd), .int .i64 ((done (onRingC z (linkC (ringB s y) y)) s).1.mo), .slice A' n' c', .int .i64 ((done (onRingC z (linkC (ringB s y) y)) s).1.fi), .int .i64 ((done (onRingC z (linkC (ringB s y) y)) s).1.la)]) ⟨⟨(Below.setCells (by omega) _ 0 hB), (size_sts hsz _ 0), fun h => (BoxAt.sets_ne _ 0 (hx (by simpa [upd] using h)) (by omega)), fun h => (BoxAt.sets_ne _ 0 (hc1 (by simpa [upd] using h)) (by omega)), ⟨_, _, _, _, _, hset⟩, fun h => absurd h (by simp [upd])⟩, ⟨A', n', c', hset, (DnF.sets (by omega) _ 0 hp5)⟩, Nat.le_of_eq (sets_size _ _ _).symm, keepV ?_⟩
    exact ⟨fun _ _ ⟨k_x, e, hp⟩ => ⟨k_x, e, (OnR.sets (by omega) _ 0 hp)⟩, fun _ _ ⟨A'_x, n'_x, c'_x, e, hp⟩ => ⟨A'_x, n'_x, c'_x, e, (DnF.sets (by omega) _ 0 hp)⟩, fun _ _ ⟨A'_x, n'_x, c'_x, e, hp⟩ => ⟨A'_x, n'_x, c'_x, e, (DnF.sets (by omega) _ 0 hp)⟩, fun h => absurd rfl h, trivial⟩
  · intro L L' W' hLL hC
    obtain ⟨hB, hsz, hx, hc1, ⟨_, _, _, _, _, hz⟩, hz_o⟩ := hC
    exact ⟨hB, hsz, fun h => hx (hLL _ h), fun h => hc1 (hLL _ h), ⟨_, _, _, _, _, hz⟩, fun h => hz_o (hLL _ h)⟩
  · intro σ L W' hall hC hRR
    obtain ⟨hB, hsz, hx, hc1, ⟨_, _, _, _, _, hz⟩, hz_o⟩ := hC
    obtain ⟨A', n', c', s7, hp7⟩ := dE hRR 7 rfl
    have e8 := dV hRR 8 rfl
    clear hRR
    simp only [lexAll]
    go_simp
    go_step
    have k6 := s7.cell
    go_wp2
    refine bodyPost_ret (v := .tuple #[stV (done (onRingC z (linkC (ringB s y) y)) s).1 A' n' c', .bool (done (onRingC z (linkC (ringB s y) y)) s).2]) (by simp [results, Tryz.results119, go_sem, k6, stV]) rfl ?_
    rw [HV.out]
    obtain ⟨hi', hl', hd'⟩ := hp7.1
    exact ⟨A', n', c', rfl, hd'.mono (by omega) hl', hB.mono hN1⟩

end Go.Proofs.YtlpcpaehkgaffaaGreatDoor

/-
  The walk of the program's steps of one who puts: those that leave the store as it is.
-/
namespace Go.Proofs.YtlpcpaehkgaffaaGreatDoor
set_option linter.unusedSimpArgs false
set_option linter.unusedVariables false
open Go.RowKit
set_option linter.unusedVariables false
attribute [local go_sem] OpUpon
attribute [local go_sem ↓] Go.wp_at_zero Go.wp_at_succ

/-- The program's errors lie below B. -/
def Snt (B : Nat) (a0 a1 a2 a3 a4 a5 : Addr) (w : World) : Prop := B ≤ w.heap.size ∧ Errs B w a0 a1 ∧ (Sent B w 2 a2 ∧ a2 ≠ a0) ∧ (Sent B w 5 a3 ∧ a3 ≠ a0) ∧ (Sent B w 4 a4 ∧ a4 ≠ a0) ∧ (Sent B w 1 a5 ∧ a5 ≠ a0)
theorem Snt.below {B : Nat} {a0 a1 a2 a3 a4 a5 : Addr} {w w' : World} (h : Snt B a0 a1 a2 a3 a4 a5 w) (hb : Below w.heap.size w w') : Snt B a0 a1 a2 a3 a4 a5 w' := by
  obtain ⟨h0, h1, h2, h3, h4, h5⟩ := h
  have k : ∀ j, j < B → w'.heap[j]? = w.heap[j]? := fun j hj => hb.block j (by omega)
  exact ⟨Nat.le_trans h0 hb.size, h1.keep k, ⟨h2.1.keep k, h2.2⟩, ⟨h3.1.keep k, h3.2⟩, ⟨h4.1.keep k, h4.2⟩, ⟨h5.1.keep k, h5.2⟩⟩

theorem imayPut_any (p : Pl) (t : Int) (w : World) : Calls Tryz.prog 114 #[.agg #[.bool p.s, .int .i64 p.n, .bool p.f, .int .i64 p.v], .int .i64 t] w (RetBelow (.bool (mayPut p t)) w) := by
  go_enter Tryz.func114, Tryz.ntmps114
  cases hf : p.f
  · go_wp2
    go_ret
    exact .mk (by simp [mayPut, hf]) ((Below.refl _ _).alloc (Nat.le_refl _) _)
  · go_wp2
    go_ret
    exact .mk (by simp [mayPut, hf]) ((Below.refl _ _).alloc (Nat.le_refl _) _)

set_option maxRecDepth 100000 in
set_option maxHeartbeats 4000000 in
theorem ips_1 (s : St) (A : Option Addr) (n cap lo hi B : Nat) (a0 a1 a2 a3 a4 a5 : Addr) (v r t : Int) (seen : Pl) (tr sp : Int) (ag : Bool) (re : Int) (w : World) (hs : RgsW lo hi w A n cap s.rs) (hh : hi ≤ w.heap.size) (hok : stOk s = true) (hrb : ringB s r = true) (hE : Snt B a0 a1 a2 a3 a4 a5 w) :
    Calls Tryz.prog 84 #[stV s A n cap, hdV ⟨1, v, r, t, seen, tr, sp, ag, re⟩] w (RetSH (PH (put1 s ⟨1, v, r, t, seen, tr, sp, ag, re⟩)) w) := by
  have HOK := Lib.hid hok
  have HRB := Lib.hid hrb
  have HLN := Lib.hid hs.1
  have HNT := Lib.hid (stOk_neat hok)
  obtain ⟨z0, z1, z2⟩ := ringB_at HLN.out hrb
  clear hok hrb
  unfold stV hdV
  dsimp only
  go_enter Tryz.func84, Tryz.ntmps84
  go_upto_region 1 with fail
  refine wp_abs (fun W => Below w.heap.size w W ∧ BoxAt W w.heap.size #[.int .i64 s.rd, .int .i64 s.mo, .slice A n cap, .int .i64 s.fi, .int .i64 s.la] 32 ∧ BoxAt W (w.heap.size + 1) #[.int .i64 1, .int .i64 v, .int .i64 r, .int .i64 t, .bool seen.s, .int .i64 seen.n, .bool seen.f, .int .i64 seen.v, .int .i64 tr, .int .i64 sp, .bool ag, .int .i64 re] 35 ∧ BoxAt W (w.heap.size + 1 + 1) #[.int .i64 0, .int .i64 0, .slice none 0 0, .int .i64 0, .int .i64 0] 32 ∧ BoxAt W (w.heap.size + 1 + 1 + 1) #[.int .i64 0, .int .i64 0, .int .i64 0, .int .i64 0, .bool false, .int .i64 0, .bool false, .int .i64 0, .int .i64 0, .int .i64 0, .bool false, .int .i64 0] 35) ⟨(((((Below.refl _ _).alloc (Nat.le_refl _) _).alloc (by simp) _).alloc (by simp; omega) _).alloc (by simp; omega) _), (((BoxAt.new _ _ _).alloc _).alloc _).alloc _, ((BoxAt.new' (by simp)).alloc _).alloc _, (BoxAt.new' (by simp)).alloc _, BoxAt.new' (by simp)⟩ ?_
  rintro W0 ⟨hB, hx, hy, hz, hw_⟩
  have lw0 := hw_.lt
  have hs0 := hs.below hB hh
  have kx := hx.cell
  have ky := hy.cell
  have fy := hy.frozen
  go_upto_region 2 with fail
  have HV := Lib.hid (show PH (put1 s ⟨1, v, r, t, seen, tr, sp, ag, re⟩) = (s, (⟨2, v, s.la, t, seen, tr, sp, ag, re⟩ : Hd)) by rfl)
  refine ret4 w s lo hi A n cap (⟨2, v, s.la, t, seen, tr, sp, ag, re⟩ : Hd) w.heap.size (w.heap.size + 1) (by kernel_rfl) (by kernel_rfl) (by kernel_rfl) (by kernel_rfl) (by omega) (by omega) ⟨((hB.setCell (by dsimp only; omega) _).setCell (by dsimp only; omega) _), ((hx.set_ne (by omega) _ _).set_ne (by omega) _ _), by simpa using ((hy.set 2 (.int .i64 s.la)).set 0 (.int .i64 2)), ((hz.set_ne (by omega) _ _).set_ne (by omega) _ _), ((hw_.set_ne (by omega) _ _).set_ne (by omega) _ _), ((hs0.st (.inr (by omega)) _ _).st (.inr (by omega)) _ _), by simp; omega⟩ ?k0 ?k1 ?k2 ?k3 ?hQ
  case k0 | k1 | k2 | k3 =>
    intros
    rename_i k
    have kc_ := k.cell
    have kf_ := k.frozen
    refine OpGoes.step fun K hK => ?_
    unfold OpGoes
    go_simp
    first | exact hK _ _ ⟨rfl, rfl⟩ | exact hK _ _ rfl
  case hQ =>
    clear kx ky fy hB hx hy hz hw_ hs0
    generalize hq2 : (⟨2, v, s.la, t, seen, tr, sp, ag, re⟩ : Hd) = h2 at *
    clear hq2
    intro σ W' _ hB k7 k8 hG _
    replace k7 := k7.cell
    replace k8 := k8.cell
    simp only [lexAll]
    go_simp
    go_step
    go_wp2
    refine bodyPost_ret (v := .tuple #[stV s A n cap, hdV h2]) (by simp [results, Tryz.results84, go_sem, k7, k8, stV, hdV]) rfl ⟨A, n, cap, by rw [HV.out], ?_, hB⟩
    rw [HV.out]
    exact hG.cut.mono (Nat.zero_le _) (Nat.le_refl _)

set_option maxRecDepth 100000 in
set_option maxHeartbeats 4000000 in
theorem ips_2 (s : St) (A : Option Addr) (n cap lo hi B : Nat) (a0 a1 a2 a3 a4 a5 : Addr) (v r t : Int) (seen : Pl) (tr sp : Int) (ag : Bool) (re : Int) (w : World) (hs : RgsW lo hi w A n cap s.rs) (hh : hi ≤ w.heap.size) (hok : stOk s = true) (hrb : ringB s r = true) (hE : Snt B a0 a1 a2 a3 a4 a5 w) :
    Calls Tryz.prog 85 #[stV s A n cap, hdV ⟨2, v, r, t, seen, tr, sp, ag, re⟩] w (RetSH (PH (put2 s ⟨2, v, r, t, seen, tr, sp, ag, re⟩)) w) := by
  have HOK := Lib.hid hok
  have HRB := Lib.hid hrb
  have HLN := Lib.hid hs.1
  have HNT := Lib.hid (stOk_neat hok)
  obtain ⟨z0, z1, z2⟩ := ringB_at HLN.out hrb
  clear hok hrb
  unfold stV hdV
  dsimp only
  go_enter Tryz.func85, Tryz.ntmps85
  go_upto_region 1 with fail
  refine wp_abs (fun W => Below w.heap.size w W ∧ BoxAt W w.heap.size #[.int .i64 s.rd, .int .i64 s.mo, .slice A n cap, .int .i64 s.fi, .int .i64 s.la] 32 ∧ BoxAt W (w.heap.size + 1) #[.int .i64 2, .int .i64 v, .int .i64 r, .int .i64 t, .bool seen.s, .int .i64 seen.n, .bool seen.f, .int .i64 seen.v, .int .i64 tr, .int .i64 sp, .bool ag, .int .i64 re] 35 ∧ BoxAt W (w.heap.size + 1 + 1) #[.int .i64 0, .int .i64 0, .slice none 0 0, .int .i64 0, .int .i64 0] 32 ∧ BoxAt W (w.heap.size + 1 + 1 + 1) #[.int .i64 0, .int .i64 0, .int .i64 0, .int .i64 0, .bool false, .int .i64 0, .bool false, .int .i64 0, .int .i64 0, .int .i64 0, .bool false, .int .i64 0] 35) ⟨(((((Below.refl _ _).alloc (Nat.le_refl _) _).alloc (by simp) _).alloc (by simp; omega) _).alloc (by simp; omega) _), (((BoxAt.new _ _ _).alloc _).alloc _).alloc _, ((BoxAt.new' (by simp)).alloc _).alloc _, (BoxAt.new' (by simp)).alloc _, BoxAt.new' (by simp)⟩ ?_
  rintro W0 ⟨hB, hx, hy, hz, hw_⟩
  have lw0 := hw_.lt
  have hs0 := hs.below hB hh
  have kx := hx.cell
  have ky := hy.cell
  have fy := hy.frozen
  obtain ⟨b, rg, A', n', cap', rfl, hlb, hbh, hri, c0, c1', c2, c3, c4, hpw⟩ := hs0.at_ z2
  have HAT := Lib.hid (St.at_some (s := s) (z := r) hri)
  have hnum := stOk_nums HOK.out rg (List.mem_of_getElem? hri)
  clear hri
  by_cases hx0 : rg.x = -1
  · have HV0 := Lib.hid (show ¬ 0 ≤ rg.x by omega)
    rw [hx0] at c3
    go_upto_region 4 with fail
    clear c0 c1' c2 c3 c4 hpw hnum
    have HV := Lib.hid (show PH (put2 s ⟨2, v, r, t, seen, tr, sp, ag, re⟩) = (s, (⟨4, v, r, t, seen, tr, sp, ag, re⟩ : Hd)) by simp only [PH, put2, HAT.out, HV0.out, if_false]; rfl)
    refine ret4 w s lo hi (some ⟨b, 0, none⟩) n cap (⟨4, v, r, t, seen, tr, sp, ag, re⟩ : Hd) w.heap.size (w.heap.size + 1) (by kernel_rfl) (by kernel_rfl) (by kernel_rfl) (by kernel_rfl) (by omega) (by omega) ⟨(hB.setCell (by dsimp only; omega) _), (hx.set_ne (by omega) _ _), by simpa using (hy.set 0 (.int .i64 4)), (hz.set_ne (by omega) _ _), (hw_.set_ne (by omega) _ _), (hs0.st (.inr (by omega)) _ _), by simp; omega⟩ ?k0 ?k1 ?k2 ?k3 ?hQ
    case k0 | k1 | k2 | k3 =>
      intros
      rename_i k
      have kc_ := k.cell
      have kf_ := k.frozen
      refine OpGoes.step fun K hK => ?_
      unfold OpGoes
      go_simp
      first | exact hK _ _ ⟨rfl, rfl⟩ | exact hK _ _ rfl
    case hQ =>
      clear kx ky fy hB hx hy hz hw_ hs0
      generalize hq2 : (⟨4, v, r, t, seen, tr, sp, ag, re⟩ : Hd) = h2 at *
      clear hq2
      intro σ W' _ hB k7 k8 hG _
      replace k7 := k7.cell
      replace k8 := k8.cell
      simp only [lexAll]
      go_simp
      go_step
      go_wp2
      refine bodyPost_ret (v := .tuple #[stV s (some ⟨b, 0, none⟩) n cap, hdV h2]) (by simp [results, Tryz.results85, go_sem, k7, k8, stV, hdV]) rfl ⟨(some ⟨b, 0, none⟩), n, cap, by rw [HV.out], ?_, hB⟩
      rw [HV.out]
      exact hG.cut.mono (Nat.zero_le _) (Nat.le_refl _)
  · have HV0 := Lib.hid (show 0 ≤ rg.x by omega)
    go_upto_region 6 with fail
    clear c0 c1' c2 c3 c4 hpw hnum
    have HV := Lib.hid (show PH (put2 s ⟨2, v, r, t, seen, tr, sp, ag, re⟩) = (s, (⟨3, v, r, rg.x, seen, tr, sp, ag, re⟩ : Hd)) by simp only [PH, put2, HAT.out, HV0.out, if_true]; rfl)
    refine ret4 w s lo hi (some ⟨b, 0, none⟩) n cap (⟨3, v, r, rg.x, seen, tr, sp, ag, re⟩ : Hd) w.heap.size (w.heap.size + 1) (by kernel_rfl) (by kernel_rfl) (by kernel_rfl) (by kernel_rfl) (by omega) (by omega) ⟨((hB.setCell (by dsimp only; omega) _).setCell (by dsimp only; omega) _), ((hx.set_ne (by omega) _ _).set_ne (by omega) _ _), by simpa using ((hy.set 3 (.int .i64 rg.x)).set 0 (.int .i64 3)), ((hz.set_ne (by omega) _ _).set_ne (by omega) _ _), ((hw_.set_ne (by omega) _ _).set_ne (by omega) _ _), ((hs0.st (.inr (by omega)) _ _).st (.inr (by omega)) _ _), by simp; omega⟩ ?k0 ?k1 ?k2 ?k3 ?hQ
    case k0 | k1 | k2 | k3 =>
      intros
      rename_i k
      have kc_ := k.cell
      have kf_ := k.frozen
      refine OpGoes.step fun K hK => ?_
      unfold OpGoes
      go_simp
      first | exact hK _ _ ⟨rfl, rfl⟩ | exact hK _ _ rfl
    case hQ =>
      clear kx ky fy hB hx hy hz hw_ hs0
      generalize hq2 : (⟨3, v, r, rg.x, seen, tr, sp, ag, re⟩ : Hd) = h2 at *
      clear hq2
      intro σ W' _ hB k7 k8 hG _
      replace k7 := k7.cell
      replace k8 := k8.cell
      simp only [lexAll]
      go_simp
      go_step
      go_wp2
      refine bodyPost_ret (v := .tuple #[stV s (some ⟨b, 0, none⟩) n cap, hdV h2]) (by simp [results, Tryz.results85, go_sem, k7, k8, stV, hdV]) rfl ⟨(some ⟨b, 0, none⟩), n, cap, by rw [HV.out], ?_, hB⟩
      rw [HV.out]
      exact hG.cut.mono (Nat.zero_le _) (Nat.le_refl _)

def ia6tV (s : St) (N b n cap : Nat) (rg : Rg) (v r t : Int) (seen : Pl) (tr sp : Int) (ag : Bool) (re : Int) (A' : Option Addr) (n' cap' : Nat) : List Sl := [.v (.pointer (some ⟨N, 2, none⟩)),
  .v (.slice (some ⟨b, 0, none⟩) n cap),
  .v (.pointer (some ⟨(N + 1), 2, none⟩)),
  .v (.int .i64 r),
  .v (.pointer (some ⟨b, r.toNat * 5, none⟩)),
  .v (.pointer (some ⟨b, r.toNat * 5, none⟩)),
  .v (.int .i64 rg.h),
  .v (.pointer (some ⟨(N + 1), 3, none⟩)),
  .v (.int .i64 t),
  .v (.bool true)]

def ia6fV (s : St) (N b n cap : Nat) (rg : Rg) (v r t : Int) (seen : Pl) (tr sp : Int) (ag : Bool) (re : Int) (A' : Option Addr) (n' cap' : Nat) : List Sl := [.v (.pointer (some ⟨N, 2, none⟩)),
  .v (.slice (some ⟨b, 0, none⟩) n cap),
  .v (.pointer (some ⟨(N + 1), 2, none⟩)),
  .v (.int .i64 r),
  .v (.pointer (some ⟨b, r.toNat * 5, none⟩)),
  .v (.pointer (some ⟨b, r.toNat * 5, none⟩)),
  .v (.int .i64 rg.h),
  .v (.pointer (some ⟨(N + 1), 3, none⟩)),
  .v (.int .i64 t),
  .v (.bool false)]

set_option maxRecDepth 100000 in
set_option maxHeartbeats 4000000 in
theorem ips_6 (s : St) (A : Option Addr) (n cap lo hi B : Nat) (a0 a1 a2 a3 a4 a5 : Addr) (v r t : Int) (seen : Pl) (tr sp : Int) (ag : Bool) (re : Int) (w : World) (hs : RgsW lo hi w A n cap s.rs) (hh : hi ≤ w.heap.size) (hok : stOk s = true) (hrb : ringB s r = true) (hE : Snt B a0 a1 a2 a3 a4 a5 w) :
    Calls Tryz.prog 89 #[stV s A n cap, hdV ⟨6, v, r, t, seen, tr, sp, ag, re⟩] w (RetSH (PH (put6 s ⟨6, v, r, t, seen, tr, sp, ag, re⟩)) w) := by
  have HOK := Lib.hid hok
  have HRB := Lib.hid hrb
  have HLN := Lib.hid hs.1
  have HNT := Lib.hid (stOk_neat hok)
  obtain ⟨z0, z1, z2⟩ := ringB_at HLN.out hrb
  clear hok hrb
  unfold stV hdV
  dsimp only
  go_enter Tryz.func89, Tryz.ntmps89
  go_upto_region 1 with fail
  refine wp_abs (fun W => Below w.heap.size w W ∧ BoxAt W w.heap.size #[.int .i64 s.rd, .int .i64 s.mo, .slice A n cap, .int .i64 s.fi, .int .i64 s.la] 32 ∧ BoxAt W (w.heap.size + 1) #[.int .i64 6, .int .i64 v, .int .i64 r, .int .i64 t, .bool seen.s, .int .i64 seen.n, .bool seen.f, .int .i64 seen.v, .int .i64 tr, .int .i64 sp, .bool ag, .int .i64 re] 35 ∧ BoxAt W (w.heap.size + 1 + 1) #[.int .i64 0, .int .i64 0, .slice none 0 0, .int .i64 0, .int .i64 0] 32 ∧ BoxAt W (w.heap.size + 1 + 1 + 1) #[.int .i64 0, .int .i64 0, .int .i64 0, .int .i64 0, .bool false, .int .i64 0, .bool false, .int .i64 0, .int .i64 0, .int .i64 0, .bool false, .int .i64 0] 35) ⟨(((((Below.refl _ _).alloc (Nat.le_refl _) _).alloc (by simp) _).alloc (by simp; omega) _).alloc (by simp; omega) _), (((BoxAt.new _ _ _).alloc _).alloc _).alloc _, ((BoxAt.new' (by simp)).alloc _).alloc _, (BoxAt.new' (by simp)).alloc _, BoxAt.new' (by simp)⟩ ?_
  rintro W0 ⟨hB, hx, hy, hz, hw_⟩
  have lw0 := hw_.lt
  have hs0 := hs.below hB hh
  have kx := hx.cell
  have ky := hy.cell
  have fy := hy.frozen
  obtain ⟨b, rg, A', n', cap', rfl, hlb, hbh, hri, c0, c1', c2, c3, c4, hpw⟩ := hs0.at_ z2
  have HAT := Lib.hid (St.at_some (s := s) (z := r) hri)
  have hnum := stOk_nums HOK.out rg (List.mem_of_getElem? hri)
  clear hri
  go_upto_region 2 with fail
  refine wp_abs (fun W' => Below w.heap.size w W' ∧ BoxAt W' w.heap.size #[.int .i64 s.rd, .int .i64 s.mo, .slice (some ⟨b, 0, none⟩) n cap, .int .i64 s.fi, .int .i64 s.la] 32 ∧ BoxAt W' (w.heap.size + 1) #[.int .i64 8, .int .i64 v, .int .i64 r, .int .i64 t, .bool seen.s, .int .i64 seen.n, .bool seen.f, .int .i64 seen.v, .int .i64 tr, .int .i64 sp, .bool ag, .int .i64 re] 35 ∧ BoxAt W' (w.heap.size + 1 + 1) #[.int .i64 0, .int .i64 0, .slice none 0 0, .int .i64 0, .int .i64 0] 32 ∧ BoxAt W' (w.heap.size + 1 + 1 + 1) #[.int .i64 0, .int .i64 0, .int .i64 0, .int .i64 0, .bool false, .int .i64 0, .bool false, .int .i64 0, .int .i64 0, .int .i64 0, .bool false, .int .i64 0] 35 ∧ RgC W' b r.toNat rg A' n' cap') ⟨(hB.setCell (by dsimp only; omega) _), (hx.set_ne (by omega) _ _), by simpa using (hy.set 0 (.int .i64 8)), (hz.set_ne (by omega) _ _), (hw_.set_ne (by omega) _ _), ((show RgC W0 b r.toNat rg A' n' cap' from ⟨c0, c1', c2, c3, c4⟩).set_ne (by omega) _ _)⟩ ?_
  clear kx ky fy hB hx hy hz hw_ hs0 c0 c1' c2 c3 c4 hpw
  rintro W1 ⟨hB, hx, hy, hz, hw_, hc⟩
  have lw1 := hw_.lt
  clear hnum
  by_cases hx0 : rg.h ≤ t
  · have HV0 := Lib.hid hx0
    have hd0 : decide (rg.h ≤ t) = true := by simpa using hx0
    go_cut [16] (fun u W' => Below w.heap.size w W' ∧ BoxAt W' w.heap.size #[.int .i64 s.rd, .int .i64 s.mo, .slice (some ⟨b, 0, none⟩) n cap, .int .i64 s.fi, .int .i64 s.la] 32 ∧ BoxAt W' (w.heap.size + 1) #[.int .i64 8, .int .i64 v, .int .i64 r, .int .i64 t, .bool seen.s, .int .i64 seen.n, .bool seen.f, .int .i64 seen.v, .int .i64 tr, .int .i64 sp, .bool ag, .int .i64 re] 35 ∧ BoxAt W' (w.heap.size + 1 + 1) #[.int .i64 0, .int .i64 0, .slice none 0 0, .int .i64 0, .int .i64 0] 32 ∧ BoxAt W' (w.heap.size + 1 + 1 + 1) #[.int .i64 0, .int .i64 0, .int .i64 0, .int .i64 0, .bool false, .int .i64 0, .bool false, .int .i64 0, .int .i64 0, .int .i64 0, .bool false, .int .i64 0] 35 ∧ u = .bool true)
    case first =>
      refine wp_region2v (fun w w' => Below w.heap.size w w') (fun _ _ h => h.size) (fun _ => Below.refl _ _) (fun L W' => Below w.heap.size w W' ∧ BoxAt W' w.heap.size #[.int .i64 s.rd, .int .i64 s.mo, .slice (some ⟨b, 0, none⟩) n cap, .int .i64 s.fi, .int .i64 s.la] 32 ∧ BoxAt W' (w.heap.size + 1) #[.int .i64 8, .int .i64 v, .int .i64 r, .int .i64 t, .bool seen.s, .int .i64 seen.n, .bool seen.f, .int .i64 seen.v, .int .i64 tr, .int .i64 sp, .bool ag, .int .i64 re] 35 ∧ BoxAt W' (w.heap.size + 1 + 1) #[.int .i64 0, .int .i64 0, .slice none 0 0, .int .i64 0, .int .i64 0] 32 ∧ BoxAt W' (w.heap.size + 1 + 1 + 1) #[.int .i64 0, .int .i64 0, .int .i64 0, .int .i64 0, .bool false, .int .i64 0, .bool false, .int .i64 0, .int .i64 0, .int .i64 0, .bool false, .int .i64 0] 35 ∧ RgC W' b r.toNat rg A' n' cap') (ia6tV s w.heap.size b n cap rg v r t seen tr sp ag re A' n' cap') (fun _ => 0) [] (by kernel_rfl) (by kernel_rfl) ?_ ?_ ?_
        (.still rfl ?a0 <| .still rfl ?a1 <| .still rfl ?a2 <| .still rfl ?a3 <| .still rfl ?a4 <| .still rfl ?a5 <| .still rfl ?a6 <| .still rfl ?a7 <| .still rfl ?a8 <| .still rfl ?a9 <| .nil) ?_ ?_
      · exact trivial
      · exact trivial
      · exact ⟨hB.drew, hx, hy, hz, hw_, hc⟩
      case a0 | a2 | a4 | a5 | a7 | a9 =>
        go_light
        intro L σ W' hcl hL hC hw
        try have e1 := wT hw 1 rfl
        try have e3 := wT hw 3 rfl
        try have e4 := wT hw 4 rfl
        try have e6 := wT hw 6 rfl
        try have e8 := wT hw 8 rfl
        clear hw hcl hL hC
        refine OpGoes.step fun K hK => ?_
        unfold OpGoes
        go_simp
        exact hK _ _ ⟨rfl, rfl⟩
      case a1 =>
        go_light
        intro L σ W' hcl hL hC hw
        have e0 := wV hw 0 rfl
        have ks := hC.2.1.cell
        clear hw hcl hL hC
        refine OpGoes.step fun K hK => ?_
        unfold OpGoes
        go_simp
        exact hK _ _ ⟨rfl, rfl⟩
      case a3 | a8 =>
        go_light
        intro L σ W' hcl hL hC hw
        try have e2 := wT hw 2 rfl
        try have e7 := wT hw 7 rfl
        have kh := hC.2.2.1.cell
        clear hw hcl hL hC
        refine OpGoes.step fun K hK => ?_
        unfold OpGoes
        go_simp
        exact hK _ _ ⟨rfl, rfl⟩
      case a6 =>
        go_light
        intro L σ W' hcl hL hC hw
        have e5 := wV hw 5 rfl
        have hc0 := hC.2.2.2.2.2
        obtain ⟨c0, c1_, c2, c3, c4⟩ := hc0
        clear hw hcl hL hC
        refine OpGoes.step fun K hK => ?_
        unfold OpGoes
        go_simp
        exact hK _ _ ⟨rfl, rfl⟩
      · intro L L' W' hLL hC
        obtain ⟨hB, hx, hy, hz, hw_, hc⟩ := hC
        exact ⟨hB, hx, hy, hz, hw_, hc⟩
      · intro σ L W' hall hC hRR
        obtain ⟨hB, hx, hy, hz, hw_, hc⟩ := hC
        have e9 := dV hRR 9 rfl
        clear hRR
        simp only [lexAll]
        go_simp
        go_step
        go_meet
        exact ⟨hB, hx, hy, hz, hw_, rfl⟩
    case rest =>
      clear hB hx hy hz hw_ hc
      obtain ⟨hB, hx, hy, hz, hw_, rfl⟩ := hcut
      have hs0 := hs.below hB hh
      have lwc := hw_.lt
      have ky := hy.cell
      have fy := hy.frozen
      go_upto_region 4 with fail
      have HV := Lib.hid (show PH (put6 s ⟨6, v, r, t, seen, tr, sp, ag, re⟩) = (s, (⟨7, v, r, t, seen, tr, sp, ag, re⟩ : Hd)) by simp only [PH, put6, HAT.out, HV0.out, if_true]; rfl)
      refine ret4 w s lo hi (some ⟨b, 0, none⟩) n cap (⟨7, v, r, t, seen, tr, sp, ag, re⟩ : Hd) w.heap.size (w.heap.size + 1) (by kernel_rfl) (by kernel_rfl) (by kernel_rfl) (by kernel_rfl) (by omega) (by omega) ⟨(hB.setCell (by dsimp only; omega) _), (hx.set_ne (by omega) _ _), by simpa using (hy.set 0 (.int .i64 7)), (hz.set_ne (by omega) _ _), (hw_.set_ne (by omega) _ _), (hs0.st (.inr (by omega)) _ _), by simp; omega⟩ ?k0 ?k1 ?k2 ?k3 ?hQ
      case k0 | k1 | k2 | k3 =>
        intros
        rename_i k
        have kc_ := k.cell
        have kf_ := k.frozen
        refine OpGoes.step fun K hK => ?_
        unfold OpGoes
        go_simp
        first | exact hK _ _ ⟨rfl, rfl⟩ | exact hK _ _ rfl
      case hQ =>
        clear ky fy hB hx hy hz hw_ hs0
        generalize hq2 : (⟨7, v, r, t, seen, tr, sp, ag, re⟩ : Hd) = h2 at *
        clear hq2
        intro σ W' _ hB k7 k8 hG _
        replace k7 := k7.cell
        replace k8 := k8.cell
        simp only [lexAll]
        go_simp
        go_step
        go_wp2
        refine bodyPost_ret (v := .tuple #[stV s (some ⟨b, 0, none⟩) n cap, hdV h2]) (by simp [results, Tryz.results89, go_sem, k7, k8, stV, hdV]) rfl ⟨(some ⟨b, 0, none⟩), n, cap, by rw [HV.out], ?_, hB⟩
        rw [HV.out]
        exact hG.cut.mono (Nat.zero_le _) (Nat.le_refl _)
  · have HV0 := Lib.hid hx0
    have hd0 : decide (rg.h ≤ t) = false := by simpa using hx0
    go_cut [16] (fun u W' => Below w.heap.size w W' ∧ BoxAt W' w.heap.size #[.int .i64 s.rd, .int .i64 s.mo, .slice (some ⟨b, 0, none⟩) n cap, .int .i64 s.fi, .int .i64 s.la] 32 ∧ BoxAt W' (w.heap.size + 1) #[.int .i64 8, .int .i64 v, .int .i64 r, .int .i64 t, .bool seen.s, .int .i64 seen.n, .bool seen.f, .int .i64 seen.v, .int .i64 tr, .int .i64 sp, .bool ag, .int .i64 re] 35 ∧ BoxAt W' (w.heap.size + 1 + 1) #[.int .i64 0, .int .i64 0, .slice none 0 0, .int .i64 0, .int .i64 0] 32 ∧ BoxAt W' (w.heap.size + 1 + 1 + 1) #[.int .i64 0, .int .i64 0, .int .i64 0, .int .i64 0, .bool false, .int .i64 0, .bool false, .int .i64 0, .int .i64 0, .int .i64 0, .bool false, .int .i64 0] 35 ∧ u = .bool false)
    case first =>
      refine wp_region2v (fun w w' => Below w.heap.size w w') (fun _ _ h => h.size) (fun _ => Below.refl _ _) (fun L W' => Below w.heap.size w W' ∧ BoxAt W' w.heap.size #[.int .i64 s.rd, .int .i64 s.mo, .slice (some ⟨b, 0, none⟩) n cap, .int .i64 s.fi, .int .i64 s.la] 32 ∧ BoxAt W' (w.heap.size + 1) #[.int .i64 8, .int .i64 v, .int .i64 r, .int .i64 t, .bool seen.s, .int .i64 seen.n, .bool seen.f, .int .i64 seen.v, .int .i64 tr, .int .i64 sp, .bool ag, .int .i64 re] 35 ∧ BoxAt W' (w.heap.size + 1 + 1) #[.int .i64 0, .int .i64 0, .slice none 0 0, .int .i64 0, .int .i64 0] 32 ∧ BoxAt W' (w.heap.size + 1 + 1 + 1) #[.int .i64 0, .int .i64 0, .int .i64 0, .int .i64 0, .bool false, .int .i64 0, .bool false, .int .i64 0, .int .i64 0, .int .i64 0, .bool false, .int .i64 0] 35 ∧ RgC W' b r.toNat rg A' n' cap') (ia6fV s w.heap.size b n cap rg v r t seen tr sp ag re A' n' cap') (fun _ => 0) [] (by kernel_rfl) (by kernel_rfl) ?_ ?_ ?_
        (.still rfl ?a0 <| .still rfl ?a1 <| .still rfl ?a2 <| .still rfl ?a3 <| .still rfl ?a4 <| .still rfl ?a5 <| .still rfl ?a6 <| .still rfl ?a7 <| .still rfl ?a8 <| .still rfl ?a9 <| .nil) ?_ ?_
      · exact trivial
      · exact trivial
      · exact ⟨hB.drew, hx, hy, hz, hw_, hc⟩
      case a0 | a2 | a4 | a5 | a7 | a9 =>
        go_light
        intro L σ W' hcl hL hC hw
        try have e1 := wT hw 1 rfl
        try have e3 := wT hw 3 rfl
        try have e4 := wT hw 4 rfl
        try have e6 := wT hw 6 rfl
        try have e8 := wT hw 8 rfl
        clear hw hcl hL hC
        refine OpGoes.step fun K hK => ?_
        unfold OpGoes
        go_simp
        exact hK _ _ ⟨rfl, rfl⟩
      case a1 =>
        go_light
        intro L σ W' hcl hL hC hw
        have e0 := wV hw 0 rfl
        have ks := hC.2.1.cell
        clear hw hcl hL hC
        refine OpGoes.step fun K hK => ?_
        unfold OpGoes
        go_simp
        exact hK _ _ ⟨rfl, rfl⟩
      case a3 | a8 =>
        go_light
        intro L σ W' hcl hL hC hw
        try have e2 := wT hw 2 rfl
        try have e7 := wT hw 7 rfl
        have kh := hC.2.2.1.cell
        clear hw hcl hL hC
        refine OpGoes.step fun K hK => ?_
        unfold OpGoes
        go_simp
        exact hK _ _ ⟨rfl, rfl⟩
      case a6 =>
        go_light
        intro L σ W' hcl hL hC hw
        have e5 := wV hw 5 rfl
        have hc0 := hC.2.2.2.2.2
        obtain ⟨c0, c1_, c2, c3, c4⟩ := hc0
        clear hw hcl hL hC
        refine OpGoes.step fun K hK => ?_
        unfold OpGoes
        go_simp
        exact hK _ _ ⟨rfl, rfl⟩
      · intro L L' W' hLL hC
        obtain ⟨hB, hx, hy, hz, hw_, hc⟩ := hC
        exact ⟨hB, hx, hy, hz, hw_, hc⟩
      · intro σ L W' hall hC hRR
        obtain ⟨hB, hx, hy, hz, hw_, hc⟩ := hC
        have e9 := dV hRR 9 rfl
        clear hRR
        simp only [lexAll]
        go_simp
        go_step
        go_meet
        exact ⟨hB, hx, hy, hz, hw_, rfl⟩
    case rest =>
      clear hB hx hy hz hw_ hc
      obtain ⟨hB, hx, hy, hz, hw_, rfl⟩ := hcut
      have hs0 := hs.below hB hh
      have lwc := hw_.lt
      have ky := hy.cell
      have fy := hy.frozen
      go_upto_region 4 with fail
      have HV := Lib.hid (show PH (put6 s ⟨6, v, r, t, seen, tr, sp, ag, re⟩) = (s, (⟨8, v, r, t, seen, tr, sp, ag, re⟩ : Hd)) by simp only [PH, put6, HAT.out, HV0.out, if_false]; rfl)
      refine ret4 w s lo hi (some ⟨b, 0, none⟩) n cap (⟨8, v, r, t, seen, tr, sp, ag, re⟩ : Hd) w.heap.size (w.heap.size + 1) (by kernel_rfl) (by kernel_rfl) (by kernel_rfl) (by kernel_rfl) (by omega) (by omega) ⟨hB, hx, hy, hz, hw_, hs0, by omega⟩ ?k0 ?k1 ?k2 ?k3 ?hQ
      case k0 | k1 | k2 | k3 =>
        intros
        rename_i k
        have kc_ := k.cell
        have kf_ := k.frozen
        refine OpGoes.step fun K hK => ?_
        unfold OpGoes
        go_simp
        first | exact hK _ _ ⟨rfl, rfl⟩ | exact hK _ _ rfl
      case hQ =>
        clear ky fy hB hx hy hz hw_ hs0
        generalize hq2 : (⟨8, v, r, t, seen, tr, sp, ag, re⟩ : Hd) = h2 at *
        clear hq2
        intro σ W' _ hB k7 k8 hG _
        replace k7 := k7.cell
        replace k8 := k8.cell
        simp only [lexAll]
        go_simp
        go_step
        go_wp2
        refine bodyPost_ret (v := .tuple #[stV s (some ⟨b, 0, none⟩) n cap, hdV h2]) (by simp [results, Tryz.results89, go_sem, k7, k8, stV, hdV]) rfl ⟨(some ⟨b, 0, none⟩), n, cap, by rw [HV.out], ?_, hB⟩
        rw [HV.out]
        exact hG.cut.mono (Nat.zero_le _) (Nat.le_refl _)

def ia8txV (s : St) (N b n cap : Nat) (rg : Rg) (v r t : Int) (seen : Pl) (tr sp : Int) (ag : Bool) (re : Int) (A' : Option Addr) (n' cap' : Nat) : List Sl := [.v (.pointer (some ⟨(N + 1), 3, none⟩)),
  .v (.int .i64 t),
  .v (.pointer (some ⟨N, 2, none⟩)),
  .v (.slice (some ⟨b, 0, none⟩) n cap),
  .v (.pointer (some ⟨(N + 1), 2, none⟩)),
  .v (.int .i64 r),
  .v (.pointer (some ⟨b, r.toNat * 5, none⟩)),
  .v (.pointer (some ⟨b, r.toNat * 5, none⟩)),
  .v (.int .i64 rg.h),
  .v (.int .i64 (t - rg.h)),
  .v (.pointer (some ⟨N, 0, none⟩)),
  .v (.int .i64 s.rd),
  .v (.bool true),
  .v (.bool true),
  .v undef,
  .v undef,
  .v undef,
  .v (.bool true)]

def ia8ftV (s : St) (N b n cap : Nat) (rg : Rg) (v r t : Int) (seen : Pl) (tr sp : Int) (ag : Bool) (re : Int) (A' : Option Addr) (n' cap' : Nat) : List Sl := [.v (.pointer (some ⟨(N + 1), 3, none⟩)),
  .v (.int .i64 t),
  .v (.pointer (some ⟨N, 2, none⟩)),
  .v (.slice (some ⟨b, 0, none⟩) n cap),
  .v (.pointer (some ⟨(N + 1), 2, none⟩)),
  .v (.int .i64 r),
  .v (.pointer (some ⟨b, r.toNat * 5, none⟩)),
  .v (.pointer (some ⟨b, r.toNat * 5, none⟩)),
  .v (.int .i64 rg.h),
  .v (.int .i64 (t - rg.h)),
  .v (.pointer (some ⟨N, 0, none⟩)),
  .v (.int .i64 s.rd),
  .v (.bool false),
  .v (.bool false),
  .v (.pointer (some ⟨(N + 1), 8, none⟩)),
  .v (.int .i64 (tr + 1)),
  .v (.bool true),
  .v (.bool true)]

def ia8ffV (s : St) (N b n cap : Nat) (rg : Rg) (v r t : Int) (seen : Pl) (tr sp : Int) (ag : Bool) (re : Int) (A' : Option Addr) (n' cap' : Nat) : List Sl := [.v (.pointer (some ⟨(N + 1), 3, none⟩)),
  .v (.int .i64 t),
  .v (.pointer (some ⟨N, 2, none⟩)),
  .v (.slice (some ⟨b, 0, none⟩) n cap),
  .v (.pointer (some ⟨(N + 1), 2, none⟩)),
  .v (.int .i64 r),
  .v (.pointer (some ⟨b, r.toNat * 5, none⟩)),
  .v (.pointer (some ⟨b, r.toNat * 5, none⟩)),
  .v (.int .i64 rg.h),
  .v (.int .i64 (t - rg.h)),
  .v (.pointer (some ⟨N, 0, none⟩)),
  .v (.int .i64 s.rd),
  .v (.bool false),
  .v (.bool false),
  .v (.pointer (some ⟨(N + 1), 8, none⟩)),
  .v (.int .i64 (tr + 1)),
  .v (.bool false),
  .v (.bool false)]

set_option maxRecDepth 100000 in
set_option maxHeartbeats 4000000 in
theorem ips_8 (s : St) (A : Option Addr) (n cap lo hi B : Nat) (a0 a1 a2 a3 a4 a5 : Addr) (v r t : Int) (seen : Pl) (tr sp : Int) (ag : Bool) (re : Int) (w : World) (hs : RgsW lo hi w A n cap s.rs) (hh : hi ≤ w.heap.size) (hok : stOk s = true) (hrb : ringB s r = true) (hE : Snt B a0 a1 a2 a3 a4 a5 w) (ht : 0 ≤ t ∧ t ≤ 1000000) (htr : 0 ≤ tr ∧ tr ≤ 1000000) :
    Calls Tryz.prog 91 #[stV s A n cap, hdV ⟨8, v, r, t, seen, tr, sp, ag, re⟩] w (RetSH (PH (put8 s ⟨8, v, r, t, seen, tr, sp, ag, re⟩)) w) := by
  have HOK := Lib.hid hok
  have HRB := Lib.hid hrb
  have HLN := Lib.hid hs.1
  have HNT := Lib.hid (stOk_neat hok)
  obtain ⟨z0, z1, z2⟩ := ringB_at HLN.out hrb
  clear hok hrb
  obtain ⟨t0, t1⟩ := ht
  obtain ⟨tr0, tr1⟩ := htr
  unfold stV hdV
  dsimp only
  go_enter Tryz.func91, Tryz.ntmps91
  go_upto_region 1 with fail
  refine wp_abs (fun W => Below w.heap.size w W ∧ BoxAt W w.heap.size #[.int .i64 s.rd, .int .i64 s.mo, .slice A n cap, .int .i64 s.fi, .int .i64 s.la] 32 ∧ BoxAt W (w.heap.size + 1) #[.int .i64 8, .int .i64 v, .int .i64 r, .int .i64 t, .bool seen.s, .int .i64 seen.n, .bool seen.f, .int .i64 seen.v, .int .i64 tr, .int .i64 sp, .bool ag, .int .i64 re] 35 ∧ BoxAt W (w.heap.size + 1 + 1) #[.int .i64 0, .int .i64 0, .slice none 0 0, .int .i64 0, .int .i64 0] 32 ∧ BoxAt W (w.heap.size + 1 + 1 + 1) #[.int .i64 0, .int .i64 0, .int .i64 0, .int .i64 0, .bool false, .int .i64 0, .bool false, .int .i64 0, .int .i64 0, .int .i64 0, .bool false, .int .i64 0] 35) ⟨(((((Below.refl _ _).alloc (Nat.le_refl _) _).alloc (by simp) _).alloc (by simp; omega) _).alloc (by simp; omega) _), (((BoxAt.new _ _ _).alloc _).alloc _).alloc _, ((BoxAt.new' (by simp)).alloc _).alloc _, (BoxAt.new' (by simp)).alloc _, BoxAt.new' (by simp)⟩ ?_
  rintro W0 ⟨hB, hx, hy, hz, hw_⟩
  have lw0 := hw_.lt
  have hs0 := hs.below hB hh
  have kx := hx.cell
  have ky := hy.cell
  have fy := hy.frozen
  obtain ⟨b, rg, A', n', cap', rfl, hlb, hbh, hri, c0, c1', c2, c3, c4, hpw⟩ := hs0.at_ z2
  have HAT := Lib.hid (St.at_some (s := s) (z := r) hri)
  have hnum := stOk_nums HOK.out rg (List.mem_of_getElem? hri)
  clear hri
  obtain ⟨⟨nh0, nh1⟩, _⟩ := hnum
  have hrd := stOk_rd HOK.out
  go_upto_region 3 with fail
  refine wp_abs (fun W' => Below w.heap.size w W' ∧ BoxAt W' w.heap.size #[.int .i64 s.rd, .int .i64 s.mo, .slice (some ⟨b, 0, none⟩) n cap, .int .i64 s.fi, .int .i64 s.la] 32 ∧ BoxAt W' (w.heap.size + 1) #[.int .i64 4, .int .i64 v, .int .i64 r, .int .i64 t, .bool seen.s, .int .i64 seen.n, .bool seen.f, .int .i64 seen.v, .int .i64 (tr + 1), .int .i64 sp, .bool ag, .int .i64 re] 35 ∧ BoxAt W' (w.heap.size + 1 + 1) #[.int .i64 0, .int .i64 0, .slice none 0 0, .int .i64 0, .int .i64 0] 32 ∧ BoxAt W' (w.heap.size + 1 + 1 + 1) #[.int .i64 0, .int .i64 0, .int .i64 0, .int .i64 0, .bool false, .int .i64 0, .bool false, .int .i64 0, .int .i64 0, .int .i64 0, .bool false, .int .i64 0] 35 ∧ RgC W' b r.toNat rg A' n' cap') ⟨((hB.setCell (by dsimp only; omega) _).setCell (by dsimp only; omega) _), ((hx.set_ne (by omega) _ _).set_ne (by omega) _ _), by simpa using ((hy.set 8 (.int .i64 (tr + 1))).set 0 (.int .i64 4)), ((hz.set_ne (by omega) _ _).set_ne (by omega) _ _), ((hw_.set_ne (by omega) _ _).set_ne (by omega) _ _), (((show RgC W0 b r.toNat rg A' n' cap' from ⟨c0, c1', c2, c3, c4⟩).set_ne (by omega) _ _).set_ne (by omega) _ _)⟩ ?_
  clear kx ky fy hB hx hy hz hw_ hs0 c0 c1' c2 c3 c4 hpw
  rintro W1 ⟨hB, hx, hy, hz, hw_, hc⟩
  have lw1 := hw_.lt
  by_cases hge : s.rd ≤ t - rg.h
  · have hged : decide (s.rd ≤ t - rg.h) = true := by simpa using hge
    have HD8 := Lib.hid (show (s.rd ≤ t - rg.h ∨ 4 ≤ tr + 1) = True by simp [hge])
    go_cut [28] (fun u W' => Below w.heap.size w W' ∧ BoxAt W' w.heap.size #[.int .i64 s.rd, .int .i64 s.mo, .slice (some ⟨b, 0, none⟩) n cap, .int .i64 s.fi, .int .i64 s.la] 32 ∧ BoxAt W' (w.heap.size + 1) #[.int .i64 4, .int .i64 v, .int .i64 r, .int .i64 t, .bool seen.s, .int .i64 seen.n, .bool seen.f, .int .i64 seen.v, .int .i64 (tr + 1), .int .i64 sp, .bool ag, .int .i64 re] 35 ∧ BoxAt W' (w.heap.size + 1 + 1) #[.int .i64 0, .int .i64 0, .slice none 0 0, .int .i64 0, .int .i64 0] 32 ∧ BoxAt W' (w.heap.size + 1 + 1 + 1) #[.int .i64 0, .int .i64 0, .int .i64 0, .int .i64 0, .bool false, .int .i64 0, .bool false, .int .i64 0, .int .i64 0, .int .i64 0, .bool false, .int .i64 0] 35 ∧ u = .bool true)
    case first =>
      refine wp_region2v (fun w w' => Below w.heap.size w w') (fun _ _ h => h.size) (fun _ => Below.refl _ _) (fun L W' => Below w.heap.size w W' ∧ BoxAt W' w.heap.size #[.int .i64 s.rd, .int .i64 s.mo, .slice (some ⟨b, 0, none⟩) n cap, .int .i64 s.fi, .int .i64 s.la] 32 ∧ BoxAt W' (w.heap.size + 1) #[.int .i64 4, .int .i64 v, .int .i64 r, .int .i64 t, .bool seen.s, .int .i64 seen.n, .bool seen.f, .int .i64 seen.v, .int .i64 (tr + 1), .int .i64 sp, .bool ag, .int .i64 re] 35 ∧ BoxAt W' (w.heap.size + 1 + 1) #[.int .i64 0, .int .i64 0, .slice none 0 0, .int .i64 0, .int .i64 0] 32 ∧ BoxAt W' (w.heap.size + 1 + 1 + 1) #[.int .i64 0, .int .i64 0, .int .i64 0, .int .i64 0, .bool false, .int .i64 0, .bool false, .int .i64 0, .int .i64 0, .int .i64 0, .bool false, .int .i64 0] 35 ∧ RgC W' b r.toNat rg A' n' cap') (ia8txV s w.heap.size b n cap rg v r t seen tr sp ag re A' n' cap') (fun _ => 0) [] (by kernel_rfl) (by kernel_rfl) ?_ ?_ ?_
        (.still rfl ?a0 <| .still rfl ?a1 <| .still rfl ?a2 <| .still rfl ?a3 <| .still rfl ?a4 <| .still rfl ?a5 <| .still rfl ?a6 <| .still rfl ?a7 <| .still rfl ?a8 <| .still rfl ?a9 <| .still rfl ?a10 <| .still rfl ?a11 <| .still rfl ?a12 <| .still rfl ?a13 <| .still rfl ?a14 <| .still rfl ?a15 <| .still rfl ?a16 <| .still rfl ?a17 <| .nil) ?_ ?_
      · exact trivial
      · exact trivial
      · exact ⟨hB.drew, hx, hy, hz, hw_, hc⟩
      case a0 | a2 | a4 | a6 | a7 | a10 | a12 | a13 | a14 | a15 | a16 | a17 =>
        go_light
        intro L σ W' hcl hL hC hw
        try have e3 := wT hw 3 rfl
        try have e5 := wT hw 5 rfl
        try have e6 := wT hw 6 rfl
        try have e9 := wT hw 9 rfl
        try have e11 := wT hw 11 rfl
        try have e12 := wT hw 12 rfl
        try have e13 := wT hw 13 rfl
        try have e14 := wT hw 14 rfl
        try have e15 := wT hw 15 rfl
        try have e16 := wT hw 16 rfl
        clear hw hcl hL hC
        refine OpGoes.step fun K hK => ?_
        unfold OpGoes
        go_simp
        exact hK _ _ ⟨rfl, rfl⟩
      case a1 | a5 =>
        go_light
        intro L σ W' hcl hL hC hw
        try have e0 := wT hw 0 rfl
        try have e4 := wT hw 4 rfl
        have kh := hC.2.2.1.cell
        clear hw hcl hL hC
        refine OpGoes.step fun K hK => ?_
        unfold OpGoes
        go_simp
        exact hK _ _ ⟨rfl, rfl⟩
      case a3 | a11 =>
        go_light
        intro L σ W' hcl hL hC hw
        try have e2 := wT hw 2 rfl
        try have e10 := wT hw 10 rfl
        have ks := hC.2.1.cell
        clear hw hcl hL hC
        refine OpGoes.step fun K hK => ?_
        unfold OpGoes
        go_simp
        exact hK _ _ ⟨rfl, rfl⟩
      case a8 =>
        go_light
        intro L σ W' hcl hL hC hw
        have e7 := wV hw 7 rfl
        have hc0 := hC.2.2.2.2.2
        obtain ⟨c0, c1_, c2, c3, c4⟩ := hc0
        clear hw hcl hL hC
        refine OpGoes.step fun K hK => ?_
        unfold OpGoes
        go_simp
        exact hK _ _ ⟨rfl, rfl⟩
      case a9 =>
        go_light
        intro L σ W' hcl hL hC hw
        have e1 := wV hw 1 rfl
        have e8 := wV hw 8 rfl
        have wr_ : IntKind.i64.wrap (t - rg.h) = t - rg.h := by rw [IntKind.wrap_i64]; omega
        clear hw hcl hL hC
        refine OpGoes.step fun K hK => ?_
        unfold OpGoes
        go_simp
        exact hK _ _ ⟨rfl, rfl⟩
      · intro L L' W' hLL hC
        obtain ⟨hB, hx, hy, hz, hw_, hc⟩ := hC
        exact ⟨hB, hx, hy, hz, hw_, hc⟩
      · intro σ L W' hall hC hRR
        obtain ⟨hB, hx, hy, hz, hw_, hc⟩ := hC
        have e17 := dV hRR 17 rfl
        clear hRR
        simp only [lexAll]
        go_simp
        go_step
        go_meet
        exact ⟨hB, hx, hy, hz, hw_, rfl⟩
    case rest =>
      clear hB hx hy hz hw_ hc
      obtain ⟨hB, hx, hy, hz, hw_, rfl⟩ := hcut
      have hs0 := hs.below hB hh
      have lwc := hw_.lt
      have ky := hy.cell
      have fy := hy.frozen
      go_upto_region 5 with fail
      have HV := Lib.hid (show PH (put8 s ⟨8, v, r, t, seen, tr, sp, ag, re⟩) = (s, (⟨9, v, r, t, seen, (tr + 1), sp, ag, re⟩ : Hd)) by simp only [PH, put8, HAT.out, HD8.out, if_true]; rfl)
      refine ret4 w s lo hi (some ⟨b, 0, none⟩) n cap (⟨9, v, r, t, seen, (tr + 1), sp, ag, re⟩ : Hd) w.heap.size (w.heap.size + 1) (by kernel_rfl) (by kernel_rfl) (by kernel_rfl) (by kernel_rfl) (by omega) (by omega) ⟨(hB.setCell (by dsimp only; omega) _), (hx.set_ne (by omega) _ _), by simpa using (hy.set 0 (.int .i64 9)), (hz.set_ne (by omega) _ _), (hw_.set_ne (by omega) _ _), (hs0.st (.inr (by omega)) _ _), by simp; omega⟩ ?k0 ?k1 ?k2 ?k3 ?hQ
      case k0 | k1 | k2 | k3 =>
        intros
        rename_i k
        have kc_ := k.cell
        have kf_ := k.frozen
        refine OpGoes.step fun K hK => ?_
        unfold OpGoes
        go_simp
        first | exact hK _ _ ⟨rfl, rfl⟩ | exact hK _ _ rfl
      case hQ =>
        clear ky fy hB hx hy hz hw_ hs0
        generalize hq2 : (⟨9, v, r, t, seen, (tr + 1), sp, ag, re⟩ : Hd) = h2 at *
        clear hq2
        intro σ W' _ hB k7 k8 hG _
        replace k7 := k7.cell
        replace k8 := k8.cell
        simp only [lexAll]
        go_simp
        go_step
        go_wp2
        refine bodyPost_ret (v := .tuple #[stV s (some ⟨b, 0, none⟩) n cap, hdV h2]) (by simp [results, Tryz.results91, go_sem, k7, k8, stV, hdV]) rfl ⟨(some ⟨b, 0, none⟩), n, cap, by rw [HV.out], ?_, hB⟩
        rw [HV.out]
        exact hG.cut.mono (Nat.zero_le _) (Nat.le_refl _)
  · have hged : decide (s.rd ≤ t - rg.h) = false := by simpa using hge
    by_cases htg : 4 ≤ tr + 1
    · have htgd : decide (4 ≤ tr + 1) = true := by simpa using htg
      have HD8 := Lib.hid (show (s.rd ≤ t - rg.h ∨ 4 ≤ tr + 1) = True by simp [htg])
      go_cut [28] (fun u W' => Below w.heap.size w W' ∧ BoxAt W' w.heap.size #[.int .i64 s.rd, .int .i64 s.mo, .slice (some ⟨b, 0, none⟩) n cap, .int .i64 s.fi, .int .i64 s.la] 32 ∧ BoxAt W' (w.heap.size + 1) #[.int .i64 4, .int .i64 v, .int .i64 r, .int .i64 t, .bool seen.s, .int .i64 seen.n, .bool seen.f, .int .i64 seen.v, .int .i64 (tr + 1), .int .i64 sp, .bool ag, .int .i64 re] 35 ∧ BoxAt W' (w.heap.size + 1 + 1) #[.int .i64 0, .int .i64 0, .slice none 0 0, .int .i64 0, .int .i64 0] 32 ∧ BoxAt W' (w.heap.size + 1 + 1 + 1) #[.int .i64 0, .int .i64 0, .int .i64 0, .int .i64 0, .bool false, .int .i64 0, .bool false, .int .i64 0, .int .i64 0, .int .i64 0, .bool false, .int .i64 0] 35 ∧ u = .bool true)
      case first =>
        refine wp_region2v (fun w w' => Below w.heap.size w w') (fun _ _ h => h.size) (fun _ => Below.refl _ _) (fun L W' => Below w.heap.size w W' ∧ BoxAt W' w.heap.size #[.int .i64 s.rd, .int .i64 s.mo, .slice (some ⟨b, 0, none⟩) n cap, .int .i64 s.fi, .int .i64 s.la] 32 ∧ BoxAt W' (w.heap.size + 1) #[.int .i64 4, .int .i64 v, .int .i64 r, .int .i64 t, .bool seen.s, .int .i64 seen.n, .bool seen.f, .int .i64 seen.v, .int .i64 (tr + 1), .int .i64 sp, .bool ag, .int .i64 re] 35 ∧ BoxAt W' (w.heap.size + 1 + 1) #[.int .i64 0, .int .i64 0, .slice none 0 0, .int .i64 0, .int .i64 0] 32 ∧ BoxAt W' (w.heap.size + 1 + 1 + 1) #[.int .i64 0, .int .i64 0, .int .i64 0, .int .i64 0, .bool false, .int .i64 0, .bool false, .int .i64 0, .int .i64 0, .int .i64 0, .bool false, .int .i64 0] 35 ∧ RgC W' b r.toNat rg A' n' cap') (ia8ftV s w.heap.size b n cap rg v r t seen tr sp ag re A' n' cap') (fun _ => 0) [] (by kernel_rfl) (by kernel_rfl) ?_ ?_ ?_
          (.still rfl ?a0 <| .still rfl ?a1 <| .still rfl ?a2 <| .still rfl ?a3 <| .still rfl ?a4 <| .still rfl ?a5 <| .still rfl ?a6 <| .still rfl ?a7 <| .still rfl ?a8 <| .still rfl ?a9 <| .still rfl ?a10 <| .still rfl ?a11 <| .still rfl ?a12 <| .still rfl ?a13 <| .still rfl ?a14 <| .still rfl ?a15 <| .still rfl ?a16 <| .still rfl ?a17 <| .nil) ?_ ?_
        · exact trivial
        · exact trivial
        · exact ⟨hB.drew, hx, hy, hz, hw_, hc⟩
        case a0 | a2 | a4 | a6 | a7 | a10 | a12 | a13 | a14 | a16 | a17 =>
          go_light
          intro L σ W' hcl hL hC hw
          try have e3 := wT hw 3 rfl
          try have e5 := wT hw 5 rfl
          try have e6 := wT hw 6 rfl
          try have e9 := wT hw 9 rfl
          try have e11 := wT hw 11 rfl
          try have e12 := wT hw 12 rfl
          try have e13 := wT hw 13 rfl
          try have e15 := wT hw 15 rfl
          try have e16 := wT hw 16 rfl
          clear hw hcl hL hC
          refine OpGoes.step fun K hK => ?_
          unfold OpGoes
          go_simp
          exact hK _ _ ⟨rfl, rfl⟩
        case a1 | a5 | a15 =>
          go_light
          intro L σ W' hcl hL hC hw
          try have e0 := wT hw 0 rfl
          try have e4 := wT hw 4 rfl
          try have e13 := wT hw 13 rfl
          try have e14 := wT hw 14 rfl
          have kh := hC.2.2.1.cell
          clear hw hcl hL hC
          refine OpGoes.step fun K hK => ?_
          unfold OpGoes
          go_simp
          exact hK _ _ ⟨rfl, rfl⟩
        case a3 | a11 =>
          go_light
          intro L σ W' hcl hL hC hw
          try have e2 := wT hw 2 rfl
          try have e10 := wT hw 10 rfl
          have ks := hC.2.1.cell
          clear hw hcl hL hC
          refine OpGoes.step fun K hK => ?_
          unfold OpGoes
          go_simp
          exact hK _ _ ⟨rfl, rfl⟩
        case a8 =>
          go_light
          intro L σ W' hcl hL hC hw
          have e7 := wV hw 7 rfl
          have hc0 := hC.2.2.2.2.2
          obtain ⟨c0, c1_, c2, c3, c4⟩ := hc0
          clear hw hcl hL hC
          refine OpGoes.step fun K hK => ?_
          unfold OpGoes
          go_simp
          exact hK _ _ ⟨rfl, rfl⟩
        case a9 =>
          go_light
          intro L σ W' hcl hL hC hw
          have e1 := wV hw 1 rfl
          have e8 := wV hw 8 rfl
          have wr_ : IntKind.i64.wrap (t - rg.h) = t - rg.h := by rw [IntKind.wrap_i64]; omega
          clear hw hcl hL hC
          refine OpGoes.step fun K hK => ?_
          unfold OpGoes
          go_simp
          exact hK _ _ ⟨rfl, rfl⟩
        · intro L L' W' hLL hC
          obtain ⟨hB, hx, hy, hz, hw_, hc⟩ := hC
          exact ⟨hB, hx, hy, hz, hw_, hc⟩
        · intro σ L W' hall hC hRR
          obtain ⟨hB, hx, hy, hz, hw_, hc⟩ := hC
          have e17 := dV hRR 17 rfl
          clear hRR
          simp only [lexAll]
          go_simp
          go_step
          go_meet
          exact ⟨hB, hx, hy, hz, hw_, rfl⟩
      case rest =>
        clear hB hx hy hz hw_ hc
        obtain ⟨hB, hx, hy, hz, hw_, rfl⟩ := hcut
        have hs0 := hs.below hB hh
        have lwc := hw_.lt
        have ky := hy.cell
        have fy := hy.frozen
        go_upto_region 5 with fail
        have HV := Lib.hid (show PH (put8 s ⟨8, v, r, t, seen, tr, sp, ag, re⟩) = (s, (⟨9, v, r, t, seen, (tr + 1), sp, ag, re⟩ : Hd)) by simp only [PH, put8, HAT.out, HD8.out, if_true]; rfl)
        refine ret4 w s lo hi (some ⟨b, 0, none⟩) n cap (⟨9, v, r, t, seen, (tr + 1), sp, ag, re⟩ : Hd) w.heap.size (w.heap.size + 1) (by kernel_rfl) (by kernel_rfl) (by kernel_rfl) (by kernel_rfl) (by omega) (by omega) ⟨(hB.setCell (by dsimp only; omega) _), (hx.set_ne (by omega) _ _), by simpa using (hy.set 0 (.int .i64 9)), (hz.set_ne (by omega) _ _), (hw_.set_ne (by omega) _ _), (hs0.st (.inr (by omega)) _ _), by simp; omega⟩ ?k0 ?k1 ?k2 ?k3 ?hQ
        case k0 | k1 | k2 | k3 =>
          intros
          rename_i k
          have kc_ := k.cell
          have kf_ := k.frozen
          refine OpGoes.step fun K hK => ?_
          unfold OpGoes
          go_simp
          first | exact hK _ _ ⟨rfl, rfl⟩ | exact hK _ _ rfl
        case hQ =>
          clear ky fy hB hx hy hz hw_ hs0
          generalize hq2 : (⟨9, v, r, t, seen, (tr + 1), sp, ag, re⟩ : Hd) = h2 at *
          clear hq2
          intro σ W' _ hB k7 k8 hG _
          replace k7 := k7.cell
          replace k8 := k8.cell
          simp only [lexAll]
          go_simp
          go_step
          go_wp2
          refine bodyPost_ret (v := .tuple #[stV s (some ⟨b, 0, none⟩) n cap, hdV h2]) (by simp [results, Tryz.results91, go_sem, k7, k8, stV, hdV]) rfl ⟨(some ⟨b, 0, none⟩), n, cap, by rw [HV.out], ?_, hB⟩
          rw [HV.out]
          exact hG.cut.mono (Nat.zero_le _) (Nat.le_refl _)
    · have htgd : decide (4 ≤ tr + 1) = false := by simpa using htg
      have HD8 := Lib.hid (show (s.rd ≤ t - rg.h ∨ 4 ≤ tr + 1) = False by simp [hge, htg])
      go_cut [28] (fun u W' => Below w.heap.size w W' ∧ BoxAt W' w.heap.size #[.int .i64 s.rd, .int .i64 s.mo, .slice (some ⟨b, 0, none⟩) n cap, .int .i64 s.fi, .int .i64 s.la] 32 ∧ BoxAt W' (w.heap.size + 1) #[.int .i64 4, .int .i64 v, .int .i64 r, .int .i64 t, .bool seen.s, .int .i64 seen.n, .bool seen.f, .int .i64 seen.v, .int .i64 (tr + 1), .int .i64 sp, .bool ag, .int .i64 re] 35 ∧ BoxAt W' (w.heap.size + 1 + 1) #[.int .i64 0, .int .i64 0, .slice none 0 0, .int .i64 0, .int .i64 0] 32 ∧ BoxAt W' (w.heap.size + 1 + 1 + 1) #[.int .i64 0, .int .i64 0, .int .i64 0, .int .i64 0, .bool false, .int .i64 0, .bool false, .int .i64 0, .int .i64 0, .int .i64 0, .bool false, .int .i64 0] 35 ∧ u = .bool false)
      case first =>
        refine wp_region2v (fun w w' => Below w.heap.size w w') (fun _ _ h => h.size) (fun _ => Below.refl _ _) (fun L W' => Below w.heap.size w W' ∧ BoxAt W' w.heap.size #[.int .i64 s.rd, .int .i64 s.mo, .slice (some ⟨b, 0, none⟩) n cap, .int .i64 s.fi, .int .i64 s.la] 32 ∧ BoxAt W' (w.heap.size + 1) #[.int .i64 4, .int .i64 v, .int .i64 r, .int .i64 t, .bool seen.s, .int .i64 seen.n, .bool seen.f, .int .i64 seen.v, .int .i64 (tr + 1), .int .i64 sp, .bool ag, .int .i64 re] 35 ∧ BoxAt W' (w.heap.size + 1 + 1) #[.int .i64 0, .int .i64 0, .slice none 0 0, .int .i64 0, .int .i64 0] 32 ∧ BoxAt W' (w.heap.size + 1 + 1 + 1) #[.int .i64 0, .int .i64 0, .int .i64 0, .int .i64 0, .bool false, .int .i64 0, .bool false, .int .i64 0, .int .i64 0, .int .i64 0, .bool false, .int .i64 0] 35 ∧ RgC W' b r.toNat rg A' n' cap') (ia8ffV s w.heap.size b n cap rg v r t seen tr sp ag re A' n' cap') (fun _ => 0) [] (by kernel_rfl) (by kernel_rfl) ?_ ?_ ?_
          (.still rfl ?a0 <| .still rfl ?a1 <| .still rfl ?a2 <| .still rfl ?a3 <| .still rfl ?a4 <| .still rfl ?a5 <| .still rfl ?a6 <| .still rfl ?a7 <| .still rfl ?a8 <| .still rfl ?a9 <| .still rfl ?a10 <| .still rfl ?a11 <| .still rfl ?a12 <| .still rfl ?a13 <| .still rfl ?a14 <| .still rfl ?a15 <| .still rfl ?a16 <| .still rfl ?a17 <| .nil) ?_ ?_
        · exact trivial
        · exact trivial
        · exact ⟨hB.drew, hx, hy, hz, hw_, hc⟩
        case a0 | a2 | a4 | a6 | a7 | a10 | a12 | a13 | a14 | a16 | a17 =>
          go_light
          intro L σ W' hcl hL hC hw
          try have e3 := wT hw 3 rfl
          try have e5 := wT hw 5 rfl
          try have e6 := wT hw 6 rfl
          try have e9 := wT hw 9 rfl
          try have e11 := wT hw 11 rfl
          try have e12 := wT hw 12 rfl
          try have e13 := wT hw 13 rfl
          try have e15 := wT hw 15 rfl
          try have e16 := wT hw 16 rfl
          clear hw hcl hL hC
          refine OpGoes.step fun K hK => ?_
          unfold OpGoes
          go_simp
          exact hK _ _ ⟨rfl, rfl⟩
        case a1 | a5 | a15 =>
          go_light
          intro L σ W' hcl hL hC hw
          try have e0 := wT hw 0 rfl
          try have e4 := wT hw 4 rfl
          try have e13 := wT hw 13 rfl
          try have e14 := wT hw 14 rfl
          have kh := hC.2.2.1.cell
          clear hw hcl hL hC
          refine OpGoes.step fun K hK => ?_
          unfold OpGoes
          go_simp
          exact hK _ _ ⟨rfl, rfl⟩
        case a3 | a11 =>
          go_light
          intro L σ W' hcl hL hC hw
          try have e2 := wT hw 2 rfl
          try have e10 := wT hw 10 rfl
          have ks := hC.2.1.cell
          clear hw hcl hL hC
          refine OpGoes.step fun K hK => ?_
          unfold OpGoes
          go_simp
          exact hK _ _ ⟨rfl, rfl⟩
        case a8 =>
          go_light
          intro L σ W' hcl hL hC hw
          have e7 := wV hw 7 rfl
          have hc0 := hC.2.2.2.2.2
          obtain ⟨c0, c1_, c2, c3, c4⟩ := hc0
          clear hw hcl hL hC
          refine OpGoes.step fun K hK => ?_
          unfold OpGoes
          go_simp
          exact hK _ _ ⟨rfl, rfl⟩
        case a9 =>
          go_light
          intro L σ W' hcl hL hC hw
          have e1 := wV hw 1 rfl
          have e8 := wV hw 8 rfl
          have wr_ : IntKind.i64.wrap (t - rg.h) = t - rg.h := by rw [IntKind.wrap_i64]; omega
          clear hw hcl hL hC
          refine OpGoes.step fun K hK => ?_
          unfold OpGoes
          go_simp
          exact hK _ _ ⟨rfl, rfl⟩
        · intro L L' W' hLL hC
          obtain ⟨hB, hx, hy, hz, hw_, hc⟩ := hC
          exact ⟨hB, hx, hy, hz, hw_, hc⟩
        · intro σ L W' hall hC hRR
          obtain ⟨hB, hx, hy, hz, hw_, hc⟩ := hC
          have e17 := dV hRR 17 rfl
          clear hRR
          simp only [lexAll]
          go_simp
          go_step
          go_meet
          exact ⟨hB, hx, hy, hz, hw_, rfl⟩
      case rest =>
        clear hB hx hy hz hw_ hc
        obtain ⟨hB, hx, hy, hz, hw_, rfl⟩ := hcut
        have hs0 := hs.below hB hh
        have lwc := hw_.lt
        have ky := hy.cell
        have fy := hy.frozen
        go_upto_region 5 with fail
        have HV := Lib.hid (show PH (put8 s ⟨8, v, r, t, seen, tr, sp, ag, re⟩) = (s, (⟨4, v, r, t, seen, (tr + 1), sp, ag, re⟩ : Hd)) by simp only [PH, put8, HAT.out, HD8.out, if_false]; rfl)
        refine ret4 w s lo hi (some ⟨b, 0, none⟩) n cap (⟨4, v, r, t, seen, (tr + 1), sp, ag, re⟩ : Hd) w.heap.size (w.heap.size + 1) (by kernel_rfl) (by kernel_rfl) (by kernel_rfl) (by kernel_rfl) (by omega) (by omega) ⟨hB, hx, hy, hz, hw_, hs0, by omega⟩ ?k0 ?k1 ?k2 ?k3 ?hQ
        case k0 | k1 | k2 | k3 =>
          intros
          rename_i k
          have kc_ := k.cell
          have kf_ := k.frozen
          refine OpGoes.step fun K hK => ?_
          unfold OpGoes
          go_simp
          first | exact hK _ _ ⟨rfl, rfl⟩ | exact hK _ _ rfl
        case hQ =>
          clear ky fy hB hx hy hz hw_ hs0
          generalize hq2 : (⟨4, v, r, t, seen, (tr + 1), sp, ag, re⟩ : Hd) = h2 at *
          clear hq2
          intro σ W' _ hB k7 k8 hG _
          replace k7 := k7.cell
          replace k8 := k8.cell
          simp only [lexAll]
          go_simp
          go_step
          go_wp2
          refine bodyPost_ret (v := .tuple #[stV s (some ⟨b, 0, none⟩) n cap, hdV h2]) (by simp [results, Tryz.results91, go_sem, k7, k8, stV, hdV]) rfl ⟨(some ⟨b, 0, none⟩), n, cap, by rw [HV.out], ?_, hB⟩
          rw [HV.out]
          exact hG.cut.mono (Nat.zero_le _) (Nat.le_refl _)

end Go.Proofs.YtlpcpaehkgaffaaGreatDoor


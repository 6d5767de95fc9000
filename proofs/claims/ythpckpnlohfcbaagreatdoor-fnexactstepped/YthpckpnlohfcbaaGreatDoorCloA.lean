/-
 Done, or not: what is answered of what was tried, of the program.
-/
import Derived.Test.YthpckpnlohfcbaaGreatDoorCpyA
import Derived.Test.YthpckpnlohfcbaaGreatDoorErrA
namespace Go.Proofs.YthpckpnlohfcbaaGreatDoor
set_option linter.unusedSimpArgs false
set_option linter.unusedVariables false
open Go.RowKit
set_option linter.unusedVariables false
attribute [local go_sem] OpUpon
attribute [local go_sem ↓] Go.wp_at_zero Go.wp_at_succ
theorem zcloA0 {p : Prop} (h : p := by
 clear hw hcl hL hC
 refine OpGoes.go fun K hK => ?_
 go_simp
 exact hK _ _ ⟨rfl, rfl⟩) : p := h -- ee92c020
theorem zcloA1 {p : Prop} (h : p := by
 refine ⟨_, rfl, hK _ _ ⟨⟨fun h => absurd h (by simp [upd]), fun h => absurd h (by simp [upd]), fun h => absurd h (by simp [upd]), fun h => absurd h (by simp [upd]), fun h => absurd h (by simp [upd]), fun h => absurd h (by simp [upd])⟩, ⟨_, rfl, hpost⟩, (by first | exact hsz | simp), fun j hj hn hR => ?_⟩⟩
 refine keepV ?_ j hj hn hR
 exact ⟨fun h => absurd rfl h, fun _ h => absurd (h.symm.trans (show waits _ _ _ = true by kernel_rfl)) (by decide), trivial⟩) : p := h -- b701b53a
theorem zcloA2 {p : Prop} (h : p := by
 refine keepV ?_ j hj hn hR
 exact ⟨fun h => absurd rfl h, fun _ h => absurd (h.symm.trans (show waits _ _ _ = true by kernel_rfl)) (by decide), trivial⟩) : p := h -- 4422b6ba
theorem zcloA3 {p : Prop} (h : p := by
 intro σ L W' hall hC hRR
 obtain ⟨hbb, hX, hRg, hti, hS1, hY1⟩ := hC
 obtain ⟨v, e6, hp6⟩ := dE hRR 6 rfl
 clear hRR
 simp only [lexAll]
 go_simp
 go_step
 go_wp2
 go_ret
 rw [← HN.out]
 exact hp6) : p := h -- 1a7af507
theorem zcloA4 {p : Prop} (h : p := by
 intro L L' W' hLL hC
 obtain ⟨hbb, hX, hRg, hti, hS1, hY1⟩ := hC
 exact ⟨fun h => hbb (hLL _ h), fun h => hX (hLL _ h), fun h => hRg (hLL _ h), fun h => hti (hLL _ h), fun h => hS1 (hLL _ h), fun h => hY1 (hLL _ h)⟩) : p := h -- abfa0a9d
theorem zcloA5 {p : Prop} (h : p := by
 go_light
 intro L σ W' hcl hL hC hw
 obtain ⟨v, e5, hp5⟩ := wE hw 5 rfl
 clear hw hcl hL hC
 refine OpGoes.go fun K hK => ?_
 go_simp
 exact hK _ _ ⟨rfl, ⟨v, rfl, hp5⟩⟩) : p := h -- 80cfd325
theorem zcloA6 {p : Prop} (h : p := by
 refine keepV ?_ j hj hn hR
 exact ⟨fun _ _ ⟨k, e, hp⟩ => ⟨k, e, hp.but hbt (by omega)⟩, fun h => absurd rfl h, fun _ h => absurd (h.symm.trans (show waits _ _ _ = true by kernel_rfl)) (by decide), fun _ _ ⟨A'_x, n'_x, c'_x, hx, hp⟩ => ⟨A'_x, n'_x, c'_x, hbt.box hx (by omega), hp.but hbt (by omega)⟩, trivial⟩) : p := h -- 418db7c6
theorem zcloA7 {p : Prop} (h : p := by
 exact ⟨fun _ _ ⟨k_x, e, hp⟩ => ⟨k_x, e, (OnR.sets (by omega) _ 0 hp)⟩, fun _ _ ⟨A'_x, n'_x, c'_x, e, hp⟩ => ⟨A'_x, n'_x, c'_x, e, (DnF.sets (by omega) _ 0 hp)⟩, fun _ _ ⟨A'_x, n'_x, c'_x, e, hp⟩ => ⟨A'_x, n'_x, c'_x, e, (DnF.sets (by omega) _ 0 hp)⟩, fun h => absurd rfl h, trivial⟩) : p := h -- c95ca40d
theorem zcloA8 {p : Prop} (h : p := by
 intro σ L W' hall hC hRR
 obtain ⟨hbb, hX, hRg, hti, hY1⟩ := hC
 obtain ⟨v, e5, hp5⟩ := dE hRR 5 rfl
 clear hRR
 simp only [lexAll]
 go_simp
 go_step
 go_wp2
 go_ret
 rw [← HN.out]
 exact hp5) : p := h -- ecc18e78
theorem zcloA9 {p : Prop} (h : p := by
 go_light
 intro L σ W' hcl hL hC hw
 obtain ⟨v, e4, hp4⟩ := wE hw 4 rfl
 clear hw hcl hL hC
 refine OpGoes.go fun K hK => ?_
 go_simp
 exact hK _ _ ⟨rfl, ⟨v, rfl, hp4⟩⟩) : p := h -- df11b50f
theorem zcloA10 {p : Prop} (h : p := by
 go_light
 intro L σ W' hcl hL hC hw
 obtain ⟨A', n', c', e4, hp4⟩ := wE hw 4 rfl
 clear hw hcl hL hC
 refine OpGoes.go fun K hK => ?_
 go_simp
 exact hK _ _ ⟨rfl, ⟨A', n', c', rfl, hp4⟩⟩) : p := h -- 54eaf37b
theorem zcloA11 {p : Prop} (h : p := by
 intro L L' W' hLL hC
 obtain ⟨hbb, hX, hRg, hti, hY1⟩ := hC
 exact ⟨fun h => hbb (hLL _ h), fun h => hX (hLL _ h), fun h => hRg (hLL _ h), fun h => hti (hLL _ h), fun h => hY1 (hLL _ h)⟩) : p := h -- f9150a0d

theorem Changes.below {c : St → Option St} {s : St} {n : Nat} {a0 : Addr} {T : Nat} {K : World → Prop} {f : FuncId} {cs : List Value} {w w' : World} (h : Changes c s n a0 T K f cs w) (hb : Below w.heap.size w w') : Changes c s n a0 T K f cs w' :=
 fun W X b m M h1 h2 h3 h4 h5 h6 => (h W X b m M (hb.trans (h1.mono hb.size)) (Nat.le_trans hb.size h2) h3 h4 h5 h6).mono fun e w2 hp => by
  unfold ChPost at hp ⊢
  refine ⟨hp.1, ?_⟩
  have h := hp.2
  cases hc : c s with
  | none =>
   rw [hc] at h
   obtain ⟨a, cs, t, h1, h2, h3, h4⟩ := h
   exact ⟨a, cs, t, h1, h2, h3, Nat.lt_of_lt_of_le h4 hb.size⟩
  | some t => rw [hc] at h; exact h
theorem itried_any (c : St → Option St) (s : St) (A : Option Addr) (n cap lo hi B T : Nat) (a0 a1 : Addr) (K : World → Prop) (f : FuncId) (cs : List Value) (w : World) (hs : RgsW lo hi w A n cap s.rs) (hh : hi ≤ w.heap.size) (hT : hi ≤ T) (hTl : T < w.heap.size) (hBT : B ≤ T) (hBw : B ≤ w.heap.size) (he : Errs B w a0 a1) (hm : n ≤ 1048576) (hpn : ∀ r ∈ s.rs, r.ps.length ≤ 1048576)
  (hmild : ∀ t, stOk s = true → c s = some t → Mild t) (hK : ∀ W W', K W → Below w.heap.size W W' → K W') (hch : stOk s = true → Changes c s n a0 T K f cs w) (hen : Enters Tryz.prog f) :
  Calls Tryz.prog 164 #[stV s A n cap, .func (.func f) #[] cs.toArray] w (Tried c s A n cap T K a0 w) := by
 cases hok : stOk s
 · exact itried_bad c s A n cap lo hi B T a0 a1 K _ w hs hh hT hTl hBT hBw he hm hpn hok
 · exact itried_ok c s A n cap lo hi B T a0 a1 K f cs w hs hh hT hTl hBT hBw he hm hpn hok (fun t => hmild t hok) hK (hch hok) hen
def RetDone (q : St × Bool) (T : Nat) (K : World → Prop) (w : World) (e : Ending) (w' : World) : Prop :=
 ∃ A n cap, e = .returned (.tuple #[stV q.1 A n cap, q.2]) ∧ RgsD w.heap.size w'.heap.size w' A n cap q.1.rs ∧ (q.2 = true → K w') ∧ But T w w'
set_option maxRecDepth 100000 in
set_option maxHeartbeats 4000000 in
theorem idoneOrNot_any (c : St → Option St) (s : St) (A : Option Addr) (n cap lo hi B T : Nat) (a0 a1 : Addr) (K : World → Prop) (f : FuncId) (cs : List Value) (w : World) (hs : RgsW lo hi w A n cap s.rs) (hh : hi ≤ w.heap.size) (hT : hi ≤ T) (hTl : T < w.heap.size) (hBT : B ≤ T) (hBw : B ≤ w.heap.size) (he : Errs B w a0 a1) (hm : n ≤ 1048576) (hpn : ∀ r ∈ s.rs, r.ps.length ≤ 1048576)
  (hmild : ∀ t, stOk s = true → c s = some t → Mild t) (hK : ∀ W W', K W → Below w.heap.size W W' → K W') (hch : stOk s = true → Changes c s n a0 T K f cs w) (hen : Enters Tryz.prog f) :
  Calls Tryz.prog 145 #[stV s A n cap, .func (.func f) #[] cs.toArray] w (RetDone (done c s) T K w) := by
 have HK := Lib.hid hK; clear hK
 have HMI := Lib.hid hmild; clear hmild
 have HCH := Lib.hid hch; clear hch
 have HEN := Lib.hid hen; clear hen
 have HPN := Lib.hid hpn; clear hpn
 have HLN := Lib.hid hs.1
 obtain ⟨N, hN⟩ : ∃ N, N = w.heap.size := ⟨_, rfl⟩
 have hN1 : w.heap.size ≤ N := by omega
 have hN2 : N ≤ w.heap.size := by omega
 have HN := Lib.hid hN
 unfold stV
 go_enter Tryz.func145, Tryz.ntmps145
 go_wp2_with fail
 rw [← HN.out]
 refine calls_abs (fun W => Below N w W ∧ BoxAt W (N + 1) zS 32 ∧ N + 2 ≤ W.heap.size) ⟨((Below.refl _ _).alloc hN2 _).alloc (by simp; omega) _, BoxAt.new' (by simp; omega), by simp; omega⟩ ?_
 clear hN
 rintro W ⟨hB, hz, hW⟩
 have hsW := hs.keep (w' := W) (fun j _ hj => hB.block j (by omega))
 have hBs := hB.size
 refine (itried_any c s A n cap lo hi B T a0 a1 K f cs W hsW (by omega) hT (by omega) hBT (by omega) (he.below hB (by omega)) hm HPN.out HMI.out (fun W1 W2 h h' => HK.out W1 W2 h (h'.mono (by omega))) (fun h => (HCH.out h).below (hB.mono hN1)) HEN.out).mono ?_
 intro e w1 hpost
 unfold Tried at hpost
 have hzT : N + 1 ≠ T := by omega
 cases hq : (done c s).2 with
 | true =>
  rw [hq, if_pos rfl] at hpost
  obtain ⟨b, m, k, rfl, hR, hk, hbt⟩ := hpost
  replace hz := hbt.box hz hzT
  replace hB : But T w w1 := (But.of_below (hB.mono hN1)).trans hbt
  replace he := he.but hB hBT hBw
  have hw1 := hbt.size
  clear hbt hsW
  unfold stV
  go_upto_region 3 with fail
  refine wp_abs (fun W' => But T w W' ∧ BoxAt W' (N + 1) zS 32 ∧ BoxAt W' w1.heap.size #[.int .i64 (done c s).1.rd, .int .i64 (done c s).1.mo, .slice (some ⟨b, 0, none⟩) m k, .int .i64 (done c s).1.fi, .int .i64 (done c s).1.la] 32 ∧ RgsD W.heap.size w1.heap.size W' (some ⟨b, 0, none⟩) m k (done c s).1.rs ∧ K W' ∧ Errs B W' a0 a1 ∧ w1.heap.size < W'.heap.size) ?_ ?_
  ·
   have b1 := (Below.refl w1.heap.size w1).alloc (Nat.le_refl _) (.cells #[.int .i64 (done c s).1.rd, .int .i64 (done c s).1.mo, .slice (some ⟨b, 0, none⟩) m k, .int .i64 (done c s).1.fi, .int .i64 (done c s).1.la] 32)
   have b2 := b1.alloc (by simp) (.cells #[.pointer none] 152)
   exact ⟨hB.step b2, (hz.alloc _).alloc _, (BoxAt.new _ _ _).alloc _, hR.keep (.below b2 (Nat.le_refl _)), HK.out _ _ hk (b2.mono (by omega)), he.below b2 (by omega), by simp; omega⟩
  clear hB hz hR hk he
  generalize w1.heap.size = Y at *
  rintro W2 ⟨hB, hz, hy, hR, hk, he, hY⟩
  have kg := he.s0.2.2.1
  go_wp2_with fail
  clear kg
  refine (is_nil a0 _).mono ?_
  rintro e w3 ⟨rfl, rfl⟩
  go_wp2_with fail
  refine (as_nil _ _).mono ?_
  rintro e w4 ⟨rfl, rfl⟩
  have kz := hz.cell
  have fz := hz.frozen
  have ky := hy.cell
  go_wp2
  refine bodyPost_ret (v := .tuple #[stV (done c s).1 (some ⟨b, 0, none⟩) m k, .bool true]) (by simp [results, Tryz.results145, go_sem, kz, stV]) rfl ⟨some ⟨b, 0, none⟩, m, k, by rw [hq], ?_, ?_, ?_⟩
  · exact ((((((hR.setD (.inl (by omega)) _ _).setD (.inl (by omega)) _ _).setD (.inl (by omega)) _ _).setD (.inl (by omega)) _ _).setD (.inl (by omega)) _ _)).mono (by omega) (by simp; omega)
  · exact fun _ => HK.out _ _ hk ((sc (sc (sc (sc (sc (Below.refl _ _)))))))
  · exact (((((hB.setN (by omega) _ _).setN (by omega) _ _).setN (by omega) _ _).setN (by omega) _ _).setN (by omega) _ _)
 | false =>
  rw [hq, if_neg (by decide)] at hpost
  obtain ⟨p, a, ca, ta, rfl, hp, hP, hbad, hA, hbt⟩ := hpost
  have HQ := Lib.hid hq
  have HBAD := Lib.hid hbad
  replace hz := hbt.box hz hzT
  replace hB : But T w w1 := (But.of_below (hB.mono hN1)).trans hbt
  replace he := he.but hB hBT hBw
  have hw1 := hbt.size
  clear hbt hsW hbad hq
  go_upto_region 3 with fail
  refine wp_abs (fun W' => But T w W' ∧ BoxAt W' (N + 1) zS 32 ∧ BoxAt W' (w1.heap.size + 1) #[.pointer none] 152 ∧ BoxAt W' p #[s.rd, s.mo, .slice A n cap, s.fi, s.la, .iface 194 (.pointer (some a))] 157 ∧ BoxAt W' a.block ca ta ∧ Errs B W' a0 a1 ∧ p < w1.heap.size) ?_ ?_
  ·
   have b1 := (Below.refl w1.heap.size w1).alloc (Nat.le_refl _) (.cells zS 32)
   have b2 := b1.alloc (by simp) (.cells #[.pointer none] 152)
   exact ⟨hB.step b2, (hz.alloc _).alloc _, BoxAt.new' (by simp), (hP.alloc _).alloc _, (hA.alloc _).alloc _, he.below b2 (by omega), hP.lt⟩
  clear hB hz hP hA he
  generalize w1.heap.size = Y at *
  rintro W2 ⟨hB, hz, hy, hP, hA, he, hpY⟩
  have kg := he.s0.2.2.1
  obtain ⟨c0, t0, hb0⟩ := he.s0.2.2.2
  have kp := hP.cell 5
  cases hok : stOk s with
  | false =>
   obtain rfl : a = a0 := HBAD.out.2 hok
   have HV := Lib.hid (show done c s = (.zero, false) from done_bad hok)
   clear hok
   go_wp2_with fail
   clear kg
   refine (is_ours_same p a _ kp).mono ?_
   rintro e w3 ⟨rfl, rfl⟩
   clear kp
   have kz := hz.cell
   have fz := hz.frozen
   go_wp2
   refine bodyPost_ret (v := .tuple #[.agg zS, .bool false]) (by simp [results, Tryz.results145, go_sem, kz]) rfl ⟨none, 0, 0, by rw [HV.out]; rfl, ?_, ?_, ?_⟩
   · rw [HV.out]; exact RgsD.nil
   · rw [HV.out]; exact fun h => by cases h
   · exact (((((hB.setN (by omega) _ _).setN (by omega) _ _).setN (by omega) _ _).setN (by omega) _ _).setN (by omega) _ _)
  | true =>
   have hne : a ≠ a0 := fun h => by have := HBAD.out.1 h; rw [hok] at this; cases this
   have HNE := Lib.hid hne
   have hn1 : 1 ≤ n := by have := (stOk_neat hok).1; have := HLN.out; omega
   have HCP := Lib.hid (stOk_neat hok).cp
   have HV := Lib.hid (show done c s = (s, false) by
    have h := HQ.out
    revert h
    unfold done thenB
    rw [hok]
    cases c s with
    | none => exact fun _ => rfl
    | some t => cases hst : stOk t <;> simp [hst])
   clear hok hne
   go_wp2_with fail
   clear kg
   refine (is_ours_other p a0 a ca c0 ta t0 _ kp HNE.out hA hb0).mono ?_
   rintro e w3 ⟨rfl, rfl⟩
   clear kp
   go_wp2_with fail
   refine (as_ours ⟨p, 0, none⟩ (Y + 1) (.pointer none) _ he.et hy).mono ?_
   rintro e w4 ⟨rfl, hb4, hy4⟩
   replace hz := hb4.box hz (by omega)
   replace hP := hb4.box hP (by omega)
   replace hB : But T w w4 := ⟨hb4.os.trans hB.os, hb4.tape.trans hB.tape, hb4.output.trans hB.output, Nat.le_trans hB.size hb4.size, fun j hj hk => (hb4.block j (by have := hB.size; omega) (by omega)).trans (hB.block j hj hk)⟩
   clear hb4 he hA hb0 hy
   have ky := hy4.cell
   have kP := hP.cell
   have lP := hP.lt
   go_wp2_with fail
   clear ky kP
   have hs4 := hs.keep (w' := w4) (fun j _ hj => hB.block j (by omega) (by omega))
   have hB4 := hB.size
   refine (icopy_any s A n cap lo hi _ hs4 (by omega) hn1 hm HCP.out).mono ?_
   rintro e w5 ⟨b, m, rfl, hR, hb5⟩
   replace hz := hz.below hb5 hz.lt
   replace hB := hB.step hb5
   have hw5 := hb5.size
   have lz := hz.lt
   clear hb5 hs4
   unfold stV
   have kz := hz.cell
   have fz := hz.frozen
   go_wp2
   have hNl : N + 1 < w4.heap.size := by omega
   refine bodyPost_ret (v := .tuple #[stV s (some ⟨b, 0, none⟩) n m, .bool false]) (by simp [results, Tryz.results145, go_sem, kz, stV]) rfl ⟨some ⟨b, 0, none⟩, n, m, by rw [HV.out], ?_, ?_, ?_⟩
   ·
    rw [HV.out]
    exact ((((((hR.setD (.inl (by omega)) _ _).setD (.inl (by omega)) _ _).setD (.inl (by omega)) _ _).setD (.inl (by omega)) _ _).setD (.inl (by omega)) _ _)).mono (by omega) (by simp)
   · rw [HV.out]; exact fun h => by cases h
   · exact (((((hB.setN (by omega) _ _).setN (by omega) _ _).setN (by omega) _ _).setN (by omega) _ _).setN (by omega) _ _)
end Go.Proofs.YthpckpnlohfcbaaGreatDoor
namespace Go.Proofs.YthpckpnlohfcbaaGreatDoor
set_option linter.unusedSimpArgs false
set_option linter.unusedVariables false
open Go.RowKit
set_option linter.unusedVariables false
attribute [local go_sem] OpUpon
attribute [local go_sem ↓] Go.wp_at_zero Go.wp_at_succ
theorem Till.drewN {M T : Nat} {a b : World} (h : Till M T a b) (n : Nat) : Till M T a (b.drewN n) := ⟨h.os, h.tape, h.output, h.size, h.block⟩
theorem ChPost.ret {c : St → Option St} {s : St} {a0 : Addr} {B X M T : Nat} {K : World → Prop} {w : World} {e : Ending} {w' : World} (h : ChPost c s a0 B X M T K w e w') : ∃ v, e = .returned v := by
 unfold ChPost at h
 have h2 := h.2
 cases hc : c s with
 | none => rw [hc] at h2; obtain ⟨a, _, _, h, _⟩ := h2; exact ⟨_, h⟩
 | some t => rw [hc] at h2; exact ⟨_, h2.1⟩
theorem ChPost.from {c : St → Option St} {s : St} {a0 : Addr} {B X M T : Nat} {K : World → Prop} {w w1 : World} {e : Ending} {w' : World} (ht : Till M T w w1) (h : ChPost c s a0 B X M T K w1 e w') : ChPost c s a0 B X M T K w e w' := by
 unfold ChPost at h ⊢
 exact ⟨ht.trans h.1, h.2⟩
theorem ChPost.size {c : St → Option St} {s : St} {a0 : Addr} {B X M T : Nat} {K : World → Prop} {w : World} {e : Ending} {w' : World} (h : ChPost c s a0 B X M T K w e w') : w.heap.size ≤ w'.heap.size := h.1.size
theorem ChPost.mkNo {c : St → Option St} {s : St} {a0 : Addr} {B X M T : Nat} {K : World → Prop} {w w' : World} {a : Addr} (hc : c s = none) (ht : Till M T w w') (hne : a ≠ a0) (hl : a.block < B) (hx : ExBox w' a) : ChPost c s a0 B X M T K w (.returned (.iface 194 (.pointer (some a)))) w' := by
 unfold ChPost
 rw [hc]
 obtain ⟨cs, t, hx⟩ := hx
 exact ⟨ht, a, cs, t, rfl, hne, hx, hl⟩
theorem ChPost.mkYes {c : St → Option St} {s t : St} {a0 : Addr} {B X M T : Nat} {K : World → Prop} {w w' : World} (hc : c s = some t) (ht : Till M T w w') (hk : K w') {b n cap : Nat} (hX : BoxAt w' X (sC t (some ⟨b, 0, none⟩) n cap) 32) (hR : RgsD M w'.heap.size w' (some ⟨b, 0, none⟩) n cap t.rs) : ChPost c s a0 B X M T K w (.returned .nilIface) w' := by
 unfold ChPost
 rw [hc]
 exact ⟨ht, rfl, hk, b, n, cap, hX, hR⟩
theorem RgsD.turn1 {M X : Nat} {W : World} {b n m : Nat} {L : List Rg} (h : RgsD M X W (some ⟨b, 0, none⟩) n m L) {i : Nat} {r r' : Rg} (hr : L[i]? = some r) (hps : r'.ps = r.ps) {j : Nat} {u : Value} (hj : j < 5)
  (hcs : ∀ a : Rw, a.h = r.h → a.t = r.t → a.c = r.c → a.x = r.x → a.cs.set j u = (⟨r'.h, r'.t, r'.c, r'.x, a.A, a.n, a.cap⟩ : Rw).cs) :
  RgsD M X (W.setCell ⟨b, i * 5 + j, none⟩ u) (some ⟨b, 0, none⟩) n m (L.set i r') := by
 have hi : i < n := by have := (List.getElem?_eq_some_iff.1 hr).1; have := h.1; omega
 obtain ⟨b', rows, e, hb, ho, hd⟩ := h.2 (by omega)
 injection e with e
 injection e with e
 subst e
 have hil : i < rows.length := by have := ho.1; omega
 have ha : rows[i]? = some rows[i] := List.getElem?_eq_getElem hil
 obtain ⟨r0, hr0, h1, h2, h3, h4, g, hg, hh, hp⟩ := hd.1 i _ ha
 obtain rfl : r = r0 := by rw [hr] at hr0; injection hr0
 obtain ⟨cb, hbx⟩ := own_box ho
 obtain ⟨cg, hbg⟩ := own_box hp
 refine ⟨by simpa using h.1, fun _ => ⟨b, rows.set i ⟨r'.h, r'.t, r'.c, r'.x, rows[i].A, rows[i].n, rows[i].cap⟩, rfl, hb, Own.set1 ho Rw.cs_len ha hj (hcs _ h1 h2 h3 h4), ?_⟩⟩
 have := hd.turn (w' := W.setCell ⟨b, i * 5 + j, none⟩ u) ha hr hg (h' := r'.h) (t' := r'.t) (x' := r'.x) (c' := r'.c) (ps' := r'.ps) (fun k cs hk _ => Below.heap_setCell W ⟨b, i * 5 + j, none⟩ u k (box_ne hk hbx (by decide))) (by rw [hps]; exact Own.set_ne hp (box_ne hbg hbx (by decide)) _ _)
 exact this
theorem RgsD.ring {M X : Nat} {W : World} {b n m : Nat} {L : List Rg} (h : RgsD M X W (some ⟨b, 0, none⟩) n m L) {i : Nat} {r : Rg} (hr : L[i]? = some r) :
  M ≤ b ∧ b < X ∧ (∃ cs, BoxAt W b cs 79) ∧ W.cell? ⟨b, i * 5, none⟩ = some (.int .i64 r.h) ∧ W.cell? ⟨b, i * 5 + 1, none⟩ = some (.int .i64 r.t) ∧ W.cell? ⟨b, i * 5 + 2, none⟩ = some (.bool r.c) ∧ W.cell? ⟨b, i * 5 + 3, none⟩ = some (.int .i64 r.x) ∧ (∀ o, W.frozen? ⟨b, o, none⟩ = false) ∧
  ∃ g k c, W.cell? ⟨b, i * 5 + 4, none⟩ = some (.slice (some ⟨g, 0, none⟩) k c) ∧ M ≤ g ∧ g < X ∧ PlsO M W g k c r.ps := by
 have hi : i < n := by have := (List.getElem?_eq_some_iff.1 hr).1; have := h.1; omega
 obtain ⟨b', rows, e, hb, ho, hd⟩ := h.2 (by omega)
 injection e with e
 injection e with e
 subst e
 have hil : i < rows.length := by have := ho.1; omega
 have ha : rows[i]? = some rows[i] := List.getElem?_eq_getElem hil
 obtain ⟨r0, hr0, h1, h2, h3, h4, g, hg, hh, hp⟩ := hd.1 i _ ha
 obtain rfl : r = r0 := by rw [hr] at hr0; injection hr0
 obtain ⟨d0, d1, d2, d3, d4⟩ := rws_at ho ha
 rw [h1] at d0
 rw [h2] at d1
 rw [h3] at d2
 rw [h4] at d3
 rw [hg] at d4
 exact ⟨ho.2.1, hb, own_box ho, d0, d1, d2, d3, Own.frozen_ ho, g, _, _, d4, hp.ge, hh, hp⟩
theorem ichangeSeen_no (k o : Nat) (x seen y : Int) (a : Addr) (w : World) (hc : w.cell? ⟨k, o, none⟩ = some (.int .i64 x)) (hg : CellIs w 4 (.iface 194 (.pointer (some a)))) (hne : (x != seen) = true) :
  Calls Tryz.prog 148 #[.pointer (some ⟨k, o, none⟩), seen, y] w (fun e w' => e = .returned (.iface 194 (.pointer (some a))) ∧ w' = w) := by
 unfold CellIs at hg
 have h1 : ¬ x = seen := by simpa using hne
 go_enter Tryz.func148, Tryz.ntmps148
 go_wp2
 go_ret
 exact ⟨rfl, rfl⟩
theorem ichangeSeen_yes (k o : Nat) (x y : Int) (w : World) (hc : w.cell? ⟨k, o, none⟩ = some (.int .i64 x)) (hf : w.frozen? ⟨k, o, none⟩ = false) :
  Calls Tryz.prog 148 #[.pointer (some ⟨k, o, none⟩), x, y] w (fun e w' => e = .returned .nilIface ∧ w' = w.setCell ⟨k, o, none⟩ (.int .i64 y)) := by
 go_enter Tryz.func148, Tryz.ntmps148
 go_wp2
 go_ret
 exact ⟨rfl, rfl⟩
theorem ionRing_any (z : Int) (f : FuncId) (cs : List Value) (w : World) :
  Calls Tryz.prog 146 #[z, .func (.func f) #[] cs.toArray] w (fun e w' => e = .returned (.func (.func 167) #[] #[pT w.heap.size, pT (w.heap.size + 1)]) ∧ BoxAt w' w.heap.size #[z] 2 ∧ BoxAt w' (w.heap.size + 1) #[.func (.func f) #[] cs.toArray] 138 ∧ w'.heap.size = w.heap.size + 2 ∧ Below w.heap.size w w') := by
 go_enter Tryz.func146, Tryz.ntmps146
 go_wp2
 go_ret
 exact ⟨rfl, (BoxAt.new _ _ _).alloc _, BoxAt.new' (by first | simp | rfl), by first | simp | rfl, ((Below.refl _ _).alloc (Nat.le_refl _) _).alloc (by simp) _⟩
def RChanges (h : Rg → Option Rg) (s : St) (z : Int) (n : Nat) (a0 : Addr) (T : Nat) (K : World → Prop) (f : FuncId) (cs : List Value) (w : World) : Prop :=
 ∀ (W : World) (X b m M : Nat) (r : Rg), Below w.heap.size w W → w.heap.size ≤ M → M ≤ X → X < W.heap.size → BoxAt W X (sC s (some ⟨b, 0, none⟩) n m) 32 → RgsD M X W (some ⟨b, 0, none⟩) n m s.rs → ringB s z = true → s.rs[z.toNat]? = some r →
  Calls Tryz.prog f (.pointer (some ⟨b, z.toNat * 5, none⟩) :: cs).toArray W (ChPost (onRingC z h) s a0 w.heap.size X M T K W)
def orAV (s : St) (X b n m R : Nat) (z : Int) : List Sl := [.v (pT X),
 .v (pT X),
 .v (.agg (aS s (some ⟨b, 0, none⟩) n m)),
 .v z,
 .v (.bool ((ringB s z))),
 .v (.bool (!(ringB s z)))]
def orBV (h : Rg → Option Rg) (s : St) (X b n m R F M T N : Nat) (z : Int) (f : FuncId) (cs : List Value) (a0 : Addr) (K : World → Prop) (W0 : World) : List Sl := [.v (.func (.func f) #[] cs.toArray),
 .v (pT X),
 .v (pT X),
 .v (.pointer (some ⟨X, 2, none⟩)),
 .v (.slice (some ⟨b, 0, none⟩) n m),
 .v z,
 .v (.pointer (some ⟨b, z.toNat * 5, none⟩)),
 .e fun σ w => ∃ (v : Value), σ 7 = v ∧ ChPost (onRingC z h) s a0 N X M T K W0 (.returned v) w,
 .e fun σ w => ∃ (v : Value), σ 8 = v ∧ ChPost (onRingC z h) s a0 N X M T K W0 (.returned v) w]
set_option maxRecDepth 100000 in
set_option maxHeartbeats 4000000 in
theorem ionRing1_any (h : Rg → Option Rg) (s : St) (z : Int) (n R F B : Nat) (a0 a2 : Addr) (T : Nat) (K : World → Prop) (f : FuncId) (cs : List Value) (w : World) (hR : BoxAt w R #[z] 2) (hF : BoxAt w F #[.func (.func f) #[] cs.toArray] 138)
  (hrc : RChanges h s z n a0 T K f cs w) (hen : Enters Tryz.prog f) (hse : Sent B w 2 a2) (hne : a2 ≠ a0) (hBw : B ≤ w.heap.size) (hBT : B ≤ T) (hn2 : n ≤ 1048576) :
  Changes (onRingC z h) s n a0 T K 167 [pT R, pT F] w := by
 intro W X b m M hbb hNM hMX hXW hX hRg
 have HRC := Lib.hid hrc; clear hrc
 have HEN := Lib.hid hen; clear hen
 have HLN := Lib.hid hRg.1
 obtain ⟨N, hN⟩ : ∃ N, N = w.heap.size := ⟨_, rfl⟩
 have hN1 : w.heap.size ≤ N := by omega
 have hNw : N ≤ w.heap.size := by omega
 have HN := Lib.hid hN
 have hMW : M ≤ W.heap.size := by omega
 replace hbb : Below N w W := hbb.mono (by omega)
 have hRr := hR.below hbb (by have := hR.lt; omega)
 replace hF := hF.below hbb (by have := hF.lt; omega)
 replace hRg : RgsD M X W (some ⟨b, 0, none⟩) n m s.rs ∧ X ≤ W.heap.size := ⟨hRg, by omega⟩
 have hti : Till M T W W := .refl _ _ _
 unfold sC at hX
 clear hR hN
 go_enter Tryz.func167, Tryz.ntmps167
 go_upto_region 1 with fail
 go_cut [10] (fun s10 W' => Below N w W' ∧ BoxAt W' X (aS s (some ⟨b, 0, none⟩) n m) 32 ∧ (RgsD M X W' (some ⟨b, 0, none⟩) n m s.rs ∧ X ≤ W'.heap.size) ∧ Till M T W W' ∧ BoxAt W' R #[z] 2 ∧ BoxAt W' F #[.func (.func f) #[] cs.toArray] 138 ∧ s10 = .bool (!ringB s z))
 case first =>
  refine wp_region2v (fun w w' => Below w.heap.size w w') (fun _ _ h => h.size) (fun _ => Below.refl _ _) (fun L W' => Below N w W' ∧ BoxAt W' X (aS s (some ⟨b, 0, none⟩) n m) 32 ∧ (RgsD M X W' (some ⟨b, 0, none⟩) n m s.rs ∧ X ≤ W'.heap.size) ∧ Till M T W W' ∧ BoxAt W' R #[z] 2 ∧ BoxAt W' F #[.func (.func f) #[] cs.toArray] 138) (orAV s X b n m R z) (fun _ => 0) [] (by kernel_rfl) (by kernel_rfl) ?_ ?_ ?_
   (.still rfl ?a0 <| .still rfl ?a1 <| .still rfl ?a2 <| .still rfl ?a3 <| .grow rfl ?a4 <| .still rfl ?a5 <| .nil) ?_ ?_
  · exact trivial
  · exact trivial
  · exact ⟨hbb.drew, hX, hRg, hti.drewN _, hRr, hF⟩
  case a0 | a1 | a5 =>
   go_light
   intro L σ W' hcl hL hC hw
   try have e0 := wT hw 0 rfl
   try have e4 := wT hw 4 rfl
   exact zcloA0
  case a2 =>
   go_light
   intro L σ W' hcl hL hC hw
   have e1 := wV hw 1 rfl
   have kX := hC.2.1.cell
   exact zcloA0
  case a3 =>
   go_light
   intro L σ W' hcl hL hC hw
   have kR := hC.2.2.2.2.1.cell
   exact zcloA0
  case a4 =>
   go_light
   intro L σ W' hcl hL hC hw
   have e2 := wV hw 2 rfl
   have e3 := wV hw 3 rfl
   clear hw
   have HC := Lib.hid hC
   clear hC
   clear hcl hL
   refine OpGoes.go fun K hK => ?_
   go_simp
   obtain ⟨hbb, hX, hRg, hti, hRr, hF⟩ := HC.out
   refine (hasRing_any s _ n m z _ HLN.out hn2).mono ?_
   rintro e w1 ⟨rfl, hb1⟩
   exact ⟨_, rfl, hK _ _ ⟨⟨bstep hbb (Nat.le_trans hNw hbb.size) hb1, hX.below hb1 hX.lt, ⟨hRg.1.keep (.below hb1 hRg.2), Nat.le_trans hRg.2 hb1.size⟩, hti.trans (.of_below hb1 (Nat.le_trans hMW hti.size)), hRr.below hb1 hRr.lt, hF.below hb1 hF.lt⟩, rfl, hb1⟩⟩
  ·
   intro L L' W' hLL hC
   obtain ⟨hbb, hX, hRg, hti, hRr, hF⟩ := hC
   exact ⟨hbb, hX, hRg, hti, hRr, hF⟩
  ·
   intro σ L W' hall hC hRR
   obtain ⟨hbb, hX, hRg, hti, hRr, hF⟩ := hC
   have e5 := dV hRR 5 rfl
   clear hRR
   simp only [lexAll]
   go_simp
   go_step
   go_meet
   exact ⟨hbb, hX, hRg, hti, hRr, hF, rfl⟩
 case rest =>
  clear hbb hX hRg hti hRr hF
  obtain ⟨hbb, hX, hRg, hti, hRr, hF, rfl⟩ := hcut
  cases hrb : ringB s z
  ·
   have hg := (hse.keep (W' := wc) (fun j hj => hbb.block j (by omega)))
   obtain ⟨hg0, hq0, hg1, cq, tq, hQ0⟩ := hg
   go_wp2
   go_ret
   exact .mkNo (onRingC_no hrb) hti hne (by omega) ⟨cq, tq, hQ0⟩
  ·
   have HRB := Lib.hid hrb
   obtain ⟨r, hri, _, _⟩ := ringB_some hrb
   have HRI := Lib.hid hri
   obtain ⟨z0, z1, z2⟩ := ringB_at HLN.out hrb
   clear hrb hri
   go_upto_region 3 with fail
   refine wp_region2v (fun w w' => w = w') (fun _ _ h => Nat.le_of_eq (by rw [h])) (fun _ => rfl) (fun L W' => (L 7 = false → Below N w W') ∧ (L 7 = false → BoxAt W' X (aS s (some ⟨b, 0, none⟩) n m) 32) ∧ (L 7 = false → (RgsD M X W' (some ⟨b, 0, none⟩) n m s.rs ∧ X ≤ W'.heap.size)) ∧ (L 7 = false → Till M T W W') ∧ (L 7 = false → BoxAt W' R #[z] 2) ∧ (L 7 = false → BoxAt W' F #[.func (.func f) #[] cs.toArray] 138)) (orBV h s X b n m R F M T N z f cs a0 K W) (fun j => [0, 0, 0, 0, 0, 0, 0, 1, 0].getD j 0) [] (by kernel_rfl) (by kernel_rfl) ?_ ?_ ?_
    (.still rfl ?a0 <| .still rfl ?a1 <| .still rfl ?a2 <| .still rfl ?a3 <| .still rfl ?a4 <| .still rfl ?a5 <| .still rfl ?a6 <| .store rfl ?a7 <| .still rfl ?a8 <| .nil) ?_ ?_
   · exact ⟨fun _ _ _ h ⟨v, e, hp⟩ => ⟨v, (h 7 (List.mem_singleton.2 rfl)).symm.trans e, hp⟩, fun _ _ _ h ⟨v, e, hp⟩ => ⟨v, (h 8 (List.mem_singleton.2 rfl)).symm.trans e, hp⟩, trivial⟩
   · exact ⟨fun σ w w' hb ⟨v, e, hp⟩ => ⟨v, e, hb ▸ hp⟩, fun σ w w' hb ⟨v, e, hp⟩ => ⟨v, e, hb ▸ hp⟩, trivial⟩
   · exact ⟨fun _ => hbb.drew, fun _ => hX, fun _ => hRg, fun _ => hti.drewN _, fun _ => hRr, fun _ => hF⟩
   case a1 | a2 | a3 | a6 =>
    go_light
    intro L σ W' hcl hL hC hw
    try have e1 := wT hw 1 rfl
    try have e2 := wT hw 2 rfl
    try have e4 := wT hw 4 rfl
    try have e5 := wT hw 5 rfl
    exact zcloA0
   case a0 =>
    go_light
    intro L σ W' hcl hL hC hw
    have hF_ := (hC.2.2.2.2.2 (hcl.not (j := 7) (k := 0) (by kernel_rfl) hL))
    have kF := hF_.cell
    exact zcloA0
   case a4 =>
    go_light
    intro L σ W' hcl hL hC hw
    have e3 := wV hw 3 rfl
    have hX_ := (hC.2.1 (hcl.not (j := 7) (k := 6) (by kernel_rfl) (hcl.not (j := 6) (k := 4) (by kernel_rfl) hL)))
    have kX := hX_.cell
    exact zcloA0
   case a5 =>
    go_light
    intro L σ W' hcl hL hC hw
    have hR_ := (hC.2.2.2.2.1 (hcl.not (j := 7) (k := 6) (by kernel_rfl) (hcl.not (j := 6) (k := 5) (by kernel_rfl) hL)))
    have kR := hR_.cell
    exact zcloA0
   case a7 =>
    go_light
    intro L σ W' hcl hL hC hw hne
    have e0 := wV hw 0 rfl
    have e6 := wV hw 6 rfl
    clear hw hne
    obtain ⟨hbb, hX, hRg, hti, hRr, hF⟩ := hC
    have hb7 := (hbb hL)
    have hX7 := (hX hL)
    have hRg7 := (hRg hL)
    have hti7 := (hti hL)
    have hen := HEN.out
    unfold Enters at hen
    clear hcl hL
    refine OpGoes.go fun K hK => ?_
    go_simp
    refine (HRC.out _ X b m M r (hb7.mono hN1) hNM hMX hX7.lt hX7 hRg7.1 HRB.out HRI.out).mono ?_
    intro e w1 hp
    obtain ⟨v, rfl⟩ := hp.ret
    have hpost := hp.from hti7
    rw [← HN.out] at hpost
    have hsz := hp.size
    exact zcloA1
   case a8 =>
    go_light
    intro L σ W' hcl hL hC hw
    obtain ⟨v, e7, hp7⟩ := wE hw 7 rfl
    clear hw hcl hL hC
    refine OpGoes.go fun K hK => ?_
    go_simp
    exact hK _ _ ⟨rfl, ⟨v, rfl, hp7⟩⟩
   ·
    intro L L' W' hLL hC
    obtain ⟨hbb, hX, hRg, hti, hRr, hF⟩ := hC
    exact ⟨fun h => hbb (hLL _ h), fun h => hX (hLL _ h), fun h => hRg (hLL _ h), fun h => hti (hLL _ h), fun h => hRr (hLL _ h), fun h => hF (hLL _ h)⟩
   ·
    intro σ L W' hall hC hRR
    obtain ⟨hbb, hX, hRg, hti, hRr, hF⟩ := hC
    obtain ⟨v, e8, hp8⟩ := dE hRR 8 rfl
    clear hRR
    simp only [lexAll]
    go_simp
    go_step
    go_wp2
    go_ret
    rw [← HN.out]
    exact hp8
end Go.Proofs.YthpckpnlohfcbaaGreatDoor
namespace Go.Proofs.YthpckpnlohfcbaaGreatDoor
set_option linter.unusedSimpArgs false
set_option linter.unusedVariables false
open Go.RowKit
set_option linter.unusedVariables false
attribute [local go_sem] OpUpon
attribute [local go_sem ↓] Go.wp_at_zero Go.wp_at_succ
def OnR (N : Nat) (w : World) (k : Nat) (z : Int) (f : FuncId) (cs : List Value) : Prop := BoxAt w k #[z] 2 ∧ BoxAt w (k + 1) #[.func (.func f) #[] cs.toArray] 138 ∧ N ≤ k
theorem OnR.below {N : Nat} {w w' : World} {k : Nat} {z : Int} {f : FuncId} {cs : List Value} (h : OnR N w k z f cs) (hb : Below w.heap.size w w') : OnR N w' k z f cs := ⟨h.1.below hb h.1.lt, h.2.1.below hb h.2.1.lt, h.2.2⟩
theorem OnR.but {N T : Nat} {w w' : World} {k : Nat} {z : Int} {f : FuncId} {cs : List Value} (h : OnR N w k z f cs) (hb : But T w w') (hT : T < N) : OnR N w' k z f cs := by
 have := h.2.2
 exact ⟨hb.box h.1 (by omega), hb.box h.2.1 (by omega), h.2.2⟩
theorem OnR.setO {N : Nat} {w : World} {k : Nat} {z : Int} {f : FuncId} {cs : List Value} (h : OnR N w k z f cs) {g : Nat} (hg : g < N) (i : Nat) (u : Value) : OnR N (w.setCell ⟨g, i, none⟩ u) k z f cs := by
 have := h.2.2
 exact ⟨h.1.sn, h.2.1.sn, h.2.2⟩
theorem OnR.sets {N : Nat} {k : Nat} {z : Int} {f : FuncId} {cs : List Value} {g : Nat} (hg : g < N) : ∀ (us : List Value) (o : Nat) {w : World}, OnR N w k z f cs → OnR N (setCells w g o us) k z f cs
 | [], _, _, h => h
 | u :: us, o, _, h => OnR.sets hg us (o + 1) (h.setO hg o u)
def DnF (N : Nat) (K : World → Prop) (q : St × Bool) (w : World) (A : Option Addr) (n c : Nat) : Prop := (∃ hi, hi ≤ w.heap.size ∧ RgsD N hi w A n c q.1.rs) ∧ (q.2 = true → K w)
theorem DnF.below {N : Nat} {K : World → Prop} {q : St × Bool} {w w' : World} {A : Option Addr} {n c : Nat} (h : DnF N K q w A n c) (hb : Below w.heap.size w w') (hK : ∀ W W', K W → Below W.heap.size W W' → K W') : DnF N K q w' A n c := by
 obtain ⟨⟨hi, hl, hd⟩, hk⟩ := h
 exact ⟨⟨hi, Nat.le_trans hl hb.size, hd.below hb hl⟩, fun e => hK _ _ (hk e) hb⟩
theorem DnF.but {N T : Nat} {q : St × Bool} {w w' : World} {A : Option Addr} {n c : Nat} (h : DnF N (fun _ => True) q w A n c) (hb : But T w w') (hT : T < N) : DnF N (fun _ => True) q w' A n c := by
 obtain ⟨⟨hi, hl, hd⟩, hk⟩ := h
 exact ⟨⟨hi, Nat.le_trans hl hb.size, hd.keep (fun j h1 h2 => hb.block j (by omega) (by omega))⟩, fun _ => trivial⟩
theorem DnF.setF {N : Nat} {q : St × Bool} {w : World} {A : Option Addr} {n c : Nat} (h : DnF N (fun _ => True) q w A n c) {g : Nat} (hg : g < N) (i : Nat) (u : Value) : DnF N (fun _ => True) q (w.setCell ⟨g, i, none⟩ u) A n c := by
 obtain ⟨⟨hi, hl, hd⟩, hk⟩ := h
 exact ⟨⟨hi, by simpa using hl, hd.setD (.inl hg) i u⟩, fun _ => trivial⟩
theorem DnF.sets {N : Nat} {q : St × Bool} {A : Option Addr} {n c : Nat} {g : Nat} (hg : g < N) : ∀ (us : List Value) (o : Nat) {w : World}, DnF N (fun _ => True) q w A n c → DnF N (fun _ => True) q (setCells w g o us) A n c
 | [], _, _, h => h
 | u :: us, o, _, h => DnF.sets hg us (o + 1) (h.setF hg o u)
def RetSBD (q : St × Bool) (w : World) (e : Ending) (w' : World) : Prop :=
 ∃ A n cap, e = .returned (.tuple #[stV q.1 A n cap, q.2]) ∧ RgsD w.heap.size w'.heap.size w' A n cap q.1.rs ∧ Below w.heap.size w w'
theorem mild_ring {s t : St} {z : Int} {h : Rg → Option Rg} (hh : ∀ r r', h r = some r' → r'.ps.length = r.ps.length) (hok : stOk s = true) (ht : onRingC z h s = some t) : Mild t := by
 have hn := stOk_neat hok
 unfold onRingC at ht
 split at ht
 ·
  rename_i hz
  obtain ⟨r, hr, ha, hm⟩ := ringB_some hz
  rw [ha] at ht
  cases hq : h r with
  | none => rw [hq] at ht; cases ht
  | some q =>
   rw [hq] at ht
   injection ht with ht
   subst ht
   refine ⟨by simp; have := hn.2.1; omega, fun x hx => ?_⟩
   rcases List.mem_or_eq_of_mem_set hx with hx | rfl
   · have := (hn.2.2 x hx).2; omega
   · rw [hh r _ hq]; have := (hn.2.2 r hm).2; omega
 · cases ht
theorem iclose1 (s : St) (z : Int) (n : Nat) (a0 : Addr) (T : Nat) (w : World) : RChanges closeC s z n a0 T (fun _ => True) 160 [] w := by
 intro W X b m M r hbb hNM hMX hXW hX hRg hrb hri
 obtain ⟨hMb, hbX, ⟨cb, hbx⟩, d0, d1, d2, d3, df, _⟩ := hRg.ring hri
 have HRg := Lib.hid hRg; clear hRg
 have HRI := Lib.hid hri; clear hri
 have HRB := Lib.hid hrb; clear hrb
 have HX := Lib.hid hX
 show Calls Tryz.prog 160 #[.pointer (some ⟨b, z.toNat * 5, none⟩)] W _
 go_enter Tryz.func160, Tryz.ntmps160
 go_wp2
 go_ret
 refine .mkYes (t := { s with rs := s.rs.set z.toNat { r with c := true } }) (by rw [onRingC_yes HRB.out HRI.out]; rfl) ((Till.refl _ _ _).set (.inl hMb) _ _) trivial (HX.out.sn) ?_
 exact (HRg.out.turn1 (r' := { r with c := true }) (j := 2) HRI.out rfl (by omega) (fun a h1 h2 h3 h4 => by simp [Rw.cs, h1, h2, h4])).mono (Nat.le_refl _) (by simp; omega)
def dn_closeV (s : St) (A : Option Addr) (n cap N : Nat) (z : Int) : List Sl := [.v (.agg (aS s A n cap)),
 .v z,
 .e fun σ w => ∃ (k : Nat), σ 2 = .func (.func 167) #[] #[pT k, pT (k + 1)] ∧ OnR (N + 2) w k z 160 [],
 .e fun σ w => ∃ (A' : Option Addr) (n' c' : Nat), σ 3 = .tuple #[.agg (dS ((done (onRingC z closeC) s).1.rd) ((done (onRingC z closeC) s).1.mo) A' n' c' ((done (onRingC z closeC) s).1.fi) ((done (onRingC z closeC) s).1.la)), .bool ((done (onRingC z closeC) s).2)] ∧ DnF (N + 2) (fun _ => True) (done (onRingC z closeC) s) w A' n' c',
 .e fun σ w => ∃ (A' : Option Addr) (n' c' : Nat), σ 4 = .agg (dS ((done (onRingC z closeC) s).1.rd) ((done (onRingC z closeC) s).1.mo) A' n' c' ((done (onRingC z closeC) s).1.fi) ((done (onRingC z closeC) s).1.la)) ∧ DnF (N + 2) (fun _ => True) (done (onRingC z closeC) s) w A' n' c',
 .v (.bool ((done (onRingC z closeC) s).2)),
 .e fun σ w => ∃ (A' : Option Addr) (n' c' : Nat), BoxAt w (N + 1) (dS ((done (onRingC z closeC) s).1.rd) ((done (onRingC z closeC) s).1.mo) A' n' c' ((done (onRingC z closeC) s).1.fi) ((done (onRingC z closeC) s).1.la)) 32 ∧ DnF (N + 2) (fun _ => True) (done (onRingC z closeC) s) w A' n' c',
 .v (.bool ((done (onRingC z closeC) s).2))]
set_option maxRecDepth 100000 in
set_option maxHeartbeats 4000000 in
theorem iclose_any (s : St) (A : Option Addr) (n cap lo hi B : Nat) (a0 a1 a2 : Addr) (z : Int) (w : World) (hs : RgsW lo hi w A n cap s.rs) (hh : hi ≤ w.heap.size) (hBw : B ≤ w.heap.size) (he : Errs B w a0 a1) (hS0 : Sent B w 2 a2) (hN0 : a2 ≠ a0) (hm : n ≤ 1048576) (hpn : ∀ r ∈ s.rs, r.ps.length ≤ 1048576) :
  Calls Tryz.prog 141 #[stV s A n cap, z] w (RetSBD (closeR s z) w) := by
 have HPN := Lib.hid hpn; clear hpn
 have HLN := Lib.hid hs.1
 have HV := Lib.hid (close_done s z)
 obtain ⟨N, hN⟩ : ∃ N, N = w.heap.size := ⟨_, rfl⟩
 have hN1 : w.heap.size ≤ N := by omega
 have hNw : N ≤ w.heap.size := by omega
 have HN := Lib.hid hN
 have hBN : B ≤ N := by omega
 unfold stV
 go_enter Tryz.func141, Tryz.ntmps141
 go_upto_region 1 with fail
 rw [← HN.out]
 refine wp_abs (fun W => Below N w W ∧ N + 2 ≤ W.heap.size ∧ BoxAt W N (aS s A n cap) 32 ∧ BoxAt W (N + 1) zS 32) ⟨(((Below.refl _ _).alloc hNw _).alloc (by simp; omega) _), by simp; omega, ((BoxAt.new' (by omega)).alloc _), (BoxAt.new' (by simp; omega))⟩ ?_
 clear hN
 rintro W0 ⟨hB, hsz, hx, hz⟩
 refine wp_region2v (fun w w' => Below w.heap.size w w') (fun _ _ h => h.size) (fun _ => Below.refl _ _) (fun L W' => Below N w W' ∧ N + 2 ≤ W'.heap.size ∧ (L 3 = false → BoxAt W' N (aS s A n cap) 32) ∧ (∃ x0 x1 x2 x3 x4, BoxAt W' (N + 1) #[x0, x1, x2, x3, x4] 32) ∧ (L 6 = false → BoxAt W' (N + 1) zS 32)) (dn_closeV s A n cap N z) (fun j => [0, 0, 0, 1, 0, 0, 1, 0].getD j 0) [] (by kernel_rfl) (by kernel_rfl) ?_ ?_ ?_
  (.still rfl ?a0 <| .still rfl ?a1 <| .grow rfl ?a2 <| .store rfl ?a3 <| .still rfl ?a4 <| .still rfl ?a5 <| .store rfl ?a6 <| .still rfl ?a7 <| .nil) ?_ ?_
 · exact ⟨fun _ _ _ h ⟨k, e, hp⟩ => ⟨k, (h 2 (List.mem_singleton.2 rfl)).symm.trans e, hp⟩, fun _ _ _ h ⟨A', n', c', e, hp⟩ => ⟨A', n', c', (h 3 (List.mem_singleton.2 rfl)).symm.trans e, hp⟩, fun _ _ _ h ⟨A', n', c', e, hp⟩ => ⟨A', n', c', (h 4 (List.mem_singleton.2 rfl)).symm.trans e, hp⟩, fun _ _ _ _ h => h, trivial⟩
 · exact ⟨fun σ w w' hb ⟨k, e, hp⟩ => ⟨k, e, hp.below hb⟩, fun σ w w' hb ⟨A', n', c', e, hp⟩ => ⟨A', n', c', e, hp.below hb (fun _ _ _ _ => trivial)⟩, fun σ w w' hb ⟨A', n', c', e, hp⟩ => ⟨A', n', c', e, hp.below hb (fun _ _ _ _ => trivial)⟩, fun σ w w' hb ⟨A', n', c', hx, hp⟩ => ⟨A', n', c', hx.below hb hx.lt, hp.below hb (fun _ _ _ _ => trivial)⟩, trivial⟩
 · exact ⟨hB.drew, hsz, fun _ => hx, ⟨_, _, _, _, _, hz⟩, fun _ => hz⟩
 case a1 | a7 =>
  go_light
  intro L σ W' hcl hL hC hw
  try have e5 := wT hw 5 rfl
  exact zcloA0
 case a0 =>
  go_light
  intro L σ W' hcl hL hC hw
  have hx_ := (hC.2.2.1 (hcl.not (j := 3) (k := 0) (by kernel_rfl) hL))
  have ks := hx_.cell
  exact zcloA0
 case a2 =>
  go_light
  intro L σ W' hcl hL hC hw
  have e1 := wV hw 1 rfl
  clear hw
  have HC := Lib.hid hC
  clear hC
  clear hcl hL
  refine OpGoes.go fun K hK => ?_
  go_simp
  obtain ⟨hB, hsz, hx, ⟨_, _, _, _, _, hz⟩, hz_o⟩ := HC.out
  refine (ionRing_any z 160 [] _).mono ?_
  rintro e w1 ⟨rfl, hk1, hk2, hk3, hb1⟩
  exact ⟨_, rfl, hK _ _ ⟨⟨bstep hB (Nat.le_trans hNw hB.size) hb1, Nat.le_trans hsz hb1.size, fun h => (hx (by simpa [upd] using h)).below hb1 (hx (by simpa [upd] using h)).lt, ⟨_, _, _, _, _, hz.below hb1 hz.lt⟩, fun h => (hz_o (by simpa [upd] using h)).below hb1 (hz_o (by simpa [upd] using h)).lt⟩, ⟨_, rfl, hk1, hk2, hsz⟩, hb1⟩⟩
 case a3 =>
  go_light
  intro L σ W' hcl hL hC hw hne
  have e0 := wV hw 0 rfl
  obtain ⟨k, e2, hp2⟩ := wE hw 2 rfl
  clear hw hne
  obtain ⟨hB, hsz, hx, ⟨_, _, _, _, _, hz⟩, hz_o⟩ := hC
  have hx3 := (hx hL)
  clear hcl hL
  refine OpGoes.go fun K hK => ?_
  go_simp
  have hs3 := hs.keep (w' := W') (fun j _ hj => hB.block j (by omega))
  have he3 := he.below hB (by omega)
  refine (idoneOrNot_any (onRingC z closeC) s A n cap lo hi B N a0 a1 (fun _ => True) 167 [pT k, pT (k + 1)] W' hs3 (by omega) (by omega) (by omega) hBN (by omega) he3 hm HPN.out (fun t hok ht => mild_ring (fun r r' h => by injection h with h; subst h; rfl) hok ht) (fun _ _ _ _ => trivial) (fun hok => ionRing1_any (closeC) s z n k (k + 1) B a0 a2 N (fun _ => True) 160 [] W' hp2.1 hp2.2.1 (iclose1 s z n a0 N W') (enters_of Tryz.func160 (by kernel_rfl) rfl) (hS0.keep (fun j hj => hB.block j (by omega))) hN0 (by omega) hBN hm) (enters_of Tryz.func167 (by kernel_rfl) rfl)).mono ?_
  rintro e w1 ⟨A', n', c', rfl, hR1, hk1, hbt⟩
  have hbt2 := hbt.size
  refine ⟨_, rfl, hK _ _ ⟨⟨hB.trans (hbt.below (Nat.le_refl _) (by omega)), by omega, fun h => absurd h (by simp [upd]), ⟨_, _, _, _, _, hbt.box hz (by omega)⟩, fun h => hbt.box (hz_o (by simpa [upd] using h)) (by omega)⟩, ⟨A', n', c', rfl, ⟨_, Nat.le_refl _, hR1.mono (by omega) (Nat.le_refl _)⟩, hk1⟩, hbt2, fun j hj hn hR => ?_⟩⟩
  exact zcloA6
 case a4 =>
  go_light
  intro L σ W' hcl hL hC hw
  obtain ⟨A', n', c', e3, hp3⟩ := wE hw 3 rfl
  clear hw hcl hL hC
  refine OpGoes.go fun K hK => ?_
  go_simp
  exact hK _ _ ⟨rfl, ⟨A', n', c', rfl, hp3⟩⟩
 case a5 =>
  go_light
  intro L σ W' hcl hL hC hw
  obtain ⟨A', n', c', e3, hp3⟩ := wE hw 3 rfl
  exact zcloA0
 case a6 =>
  go_light
  intro L σ W' hcl hL hC hw hne
  obtain ⟨A', n', c', e4, hp4⟩ := wE hw 4 rfl
  clear hw hne
  have HC := Lib.hid hC
  obtain ⟨hB, hsz, hx, ⟨_, _, _, _, _, hz⟩, hz_o⟩ := hC
  clear hcl hL
  have kc_ := hz.cell
  have kf_ := hz.frozen
  clear hB hsz hx hz hz_o
  refine OpGoes.go fun K hK => ?_
  go_simp
  obtain ⟨hB, hsz, hx, ⟨_, _, _, _, _, hz⟩, hz_o⟩ := HC.out
  have hset := sets_all (us := (dS ((done (onRingC z closeC) s).1.rd) ((done (onRingC z closeC) s).1.mo) A' n' c' ((done (onRingC z closeC) s).1.fi) ((done (onRingC z closeC) s).1.la))) hz rfl
  refine hK undef (setCells W' (N + 1) 0 (dS ((done (onRingC z closeC) s).1.rd) ((done (onRingC z closeC) s).1.mo) A' n' c' ((done (onRingC z closeC) s).1.fi) ((done (onRingC z closeC) s).1.la))) ⟨⟨(Below.setCells (by omega) _ 0 hB), (size_sts hsz _ 0), fun h => (BoxAt.sets_ne _ 0 (hx (by simpa [upd] using h)) (by omega)), ⟨_, _, _, _, _, hset⟩, fun h => absurd h (by simp [upd])⟩, ⟨A', n', c', hset, (DnF.sets (by omega) _ 0 hp4)⟩, Nat.le_of_eq (sets_size _ _ _).symm, keepV ?_⟩
  exact zcloA7
 ·
  intro L L' W' hLL hC
  obtain ⟨hB, hsz, hx, ⟨_, _, _, _, _, hz⟩, hz_o⟩ := hC
  exact ⟨hB, hsz, fun h => hx (hLL _ h), ⟨_, _, _, _, _, hz⟩, fun h => hz_o (hLL _ h)⟩
 ·
  intro σ L W' hall hC hRR
  obtain ⟨hB, hsz, hx, ⟨_, _, _, _, _, hz⟩, hz_o⟩ := hC
  obtain ⟨A', n', c', s6, hp6⟩ := dE hRR 6 rfl
  have e7 := dV hRR 7 rfl
  clear hRR
  simp only [lexAll]
  go_simp
  go_step
  have k6 := s6.cell
  go_wp2
  refine bodyPost_ret (v := .tuple #[stV (done (onRingC z closeC) s).1 A' n' c', .bool (done (onRingC z closeC) s).2]) (by simp [results, Tryz.results141, go_sem, k6, stV]) rfl ?_
  rw [HV.out]
  obtain ⟨hi', hl', hd'⟩ := hp6.1
  exact ⟨A', n', c', rfl, hd'.mono (by omega) hl', hB.mono hN1⟩
end Go.Proofs.YthpckpnlohfcbaaGreatDoor
namespace Go.Proofs.YthpckpnlohfcbaaGreatDoor
set_option linter.unusedSimpArgs false
set_option linter.unusedVariables false
open Go.RowKit
set_option linter.unusedVariables false
attribute [local go_sem] OpUpon
attribute [local go_sem ↓] Go.wp_at_zero Go.wp_at_succ
def rtNV (s : St) (X b n m M T N : Nat) (S_ Y_ : Nat) (z seen y : Int) (a0 : Addr) (W0 : World) : List Sl := [.v (.pointer (some ⟨b, z.toNat * 5, none⟩)),
 .v (.pointer (some ⟨b, z.toNat * 5, none⟩)),
 .v (.pointer (some ⟨b, z.toNat * 5 + 1, none⟩)),
 .v seen,
 .v y,
 .e fun σ w => ∃ (v : Value), σ 5 = v ∧ ChPost (onRingC z (raiseC seen y)) s a0 N X M T (fun _ => True) W0 (.returned v) w,
 .e fun σ w => ∃ (v : Value), σ 6 = v ∧ ChPost (onRingC z (raiseC seen y)) s a0 N X M T (fun _ => True) W0 (.returned v) w]
def rtYV (s : St) (X b n m M T N : Nat) (S_ Y_ : Nat) (z seen y : Int) (a0 : Addr) (W0 : World) : List Sl := [.v (.pointer (some ⟨b, z.toNat * 5, none⟩)),
 .v (.pointer (some ⟨b, z.toNat * 5, none⟩)),
 .v (.pointer (some ⟨b, z.toNat * 5 + 1, none⟩)),
 .v seen,
 .v y,
 .e fun σ w => ∃ (v : Value), σ 5 = v ∧ ChPost (onRingC z (raiseC seen y)) s a0 N X M T (fun _ => True) W0 (.returned v) w,
 .e fun σ w => ∃ (v : Value), σ 6 = v ∧ ChPost (onRingC z (raiseC seen y)) s a0 N X M T (fun _ => True) W0 (.returned v) w]
set_option maxRecDepth 100000 in
set_option maxHeartbeats 4000000 in
theorem iraise1 (s : St) (z seen y : Int) (n S_ Y_ B : Nat) (a0 aC aN : Addr) (T : Nat) (w : World) (hS0 : BoxAt w S_ #[seen] 2) (hY0 : BoxAt w Y_ #[y] 2) (hSC : Sent B w 0 aC) (hNC : aC ≠ a0) (hSN : Sent B w 4 aN) (hNN : aN ≠ a0) (hBw : B ≤ w.heap.size) :
  RChanges (raiseC seen y) s z n a0 T (fun _ => True) 147 [pT S_, pT Y_] w := by
 intro W X b m M r hbb hNM hMX hXW hX hRg hrb hri
 obtain ⟨hMb, hbX, ⟨cb, hbx⟩, d0, d1, d2, d3, df, _⟩ := hRg.ring hri
 have HRI := Lib.hid hri
 have HRB := Lib.hid hrb
 have HLN := Lib.hid hRg.1
 obtain ⟨N, hN⟩ : ∃ N, N = w.heap.size := ⟨_, rfl⟩
 have hN1 : w.heap.size ≤ N := by omega
 have hNw : N ≤ w.heap.size := by omega
 have HN := Lib.hid hN
 have hMW : M ≤ W.heap.size := by omega
 replace hbb : Below N w W := hbb.mono (by omega)
 have hRg0 := hRg
 replace hRg : RgsD M X W (some ⟨b, 0, none⟩) n m s.rs ∧ X ≤ W.heap.size := ⟨hRg, by omega⟩
 have hti : Till M T W W := .refl _ _ _
 unfold sC at hX
 clear hN hri hrb
 have hS1 := hS0.below hbb (by have := hS0.lt; omega)
 have hY1 := hY0.below hbb (by have := hY0.lt; omega)
 clear hS0 hY0
 show Calls Tryz.prog 147 #[.pointer (some ⟨b, z.toNat * 5, none⟩), pT S_, pT Y_] W _
 cases hc : r.c
 ·
  rw [hc] at d2
  cases hne : (r.t != seen)
  ·
   have HEQ := Lib.hid (show r.t = seen by simpa using hne)
   have HCY := Lib.hid (show onRingC z (raiseC seen y) s = some { s with rs := s.rs.set z.toNat { r with t := y } } by rw [onRingC_yes HRB.out HRI.out]; simp [raiseC, hc, hne])
   go_enter Tryz.func147, Tryz.ntmps147
   go_upto_region 3 with fail
   clear d0 d1 d2 d3 df hc hne
   refine wp_region2v (fun w w' => w = w') (fun _ _ h => Nat.le_of_eq (by rw [h])) (fun _ => rfl) (fun L W' => (L 5 = false → Below N w W') ∧ (L 5 = false → BoxAt W' X (aS s (some ⟨b, 0, none⟩) n m) 32) ∧ (L 5 = false → (RgsD M X W' (some ⟨b, 0, none⟩) n m s.rs ∧ X ≤ W'.heap.size)) ∧ (L 5 = false → Till M T W W') ∧ (L 5 = false → BoxAt W' S_ #[seen] 2) ∧ (L 5 = false → BoxAt W' Y_ #[y] 2)) (rtYV s X b n m M T N S_ Y_ z seen y a0 W) (fun j => [0, 0, 0, 0, 0, 1, 0].getD j 0) [] (by kernel_rfl) (by kernel_rfl) ?_ ?_ ?_
    (.still rfl ?a0 <| .still rfl ?a1 <| .still rfl ?a2 <| .still rfl ?a3 <| .still rfl ?a4 <| .store rfl ?a5 <| .still rfl ?a6 <| .nil) ?_ ?_
   · exact ⟨fun _ _ _ h ⟨v, e, hp⟩ => ⟨v, (h 5 (List.mem_singleton.2 rfl)).symm.trans e, hp⟩, fun _ _ _ h ⟨v, e, hp⟩ => ⟨v, (h 6 (List.mem_singleton.2 rfl)).symm.trans e, hp⟩, trivial⟩
   · exact ⟨fun σ w w' hb ⟨v, e, hp⟩ => ⟨v, e, hb ▸ hp⟩, fun σ w w' hb ⟨v, e, hp⟩ => ⟨v, e, hb ▸ hp⟩, trivial⟩
   · exact ⟨fun _ => hbb.drew, fun _ => hX, fun _ => hRg, fun _ => hti.drewN _, fun _ => hS1, fun _ => hY1⟩
   case a0 | a1 | a2 =>
    go_light
    intro L σ W' hcl hL hC hw
    try have e0 := wT hw 0 rfl
    try have e1 := wT hw 1 rfl
    exact zcloA0
   case a3 =>
    go_light
    intro L σ W' hcl hL hC hw
    have h_ := (hC.2.2.2.2.1 (hcl.not (j := 5) (k := 3) (by kernel_rfl) hL))
    have k_ := h_.cell
    exact zcloA0
   case a4 =>
    go_light
    intro L σ W' hcl hL hC hw
    have h_ := (hC.2.2.2.2.2 (hcl.not (j := 5) (k := 4) (by kernel_rfl) hL))
    have k_ := h_.cell
    exact zcloA0
   case a5 =>
    go_light
    intro L σ W' hcl hL hC hw hne
    have e2 := wV hw 2 rfl
    have e3 := wV hw 3 rfl
    have e4 := wV hw 4 rfl
    clear hw hne
    obtain ⟨hbb, hX, hRg, hti, hS1, hY1⟩ := hC
    have hb7 := (hbb hL)
    have hX7 := (hX hL)
    have hRg7 := (hRg hL)
    have hti7 := (hti hL)
    obtain ⟨hMb, hbX, ⟨cb, hbx⟩, d0, d1, d2, d3, df, _⟩ := hRg7.1.ring HRI.out
    clear hcl hL
    refine OpGoes.go fun K hK => ?_
    go_simp
    refine (ichangeSeen_yes b (z.toNat * 5 + 1) seen y _ (by rw [d1, HEQ.out]) (df _)).mono ?_
    rintro e w1 ⟨rfl, rfl⟩
    have hpost := ChPost.mkYes (c := onRingC z (raiseC seen y)) (s := s) (a0 := a0) (B := N) (X := X) (M := M) (T := T) (K := fun _ => True) HCY.out (hti7.set (.inl hMb) _ _) trivial (t := { s with rs := s.rs.set z.toNat { r with t := y } }) (b := b) (n := n) (cap := m) (hX7.sn) ((hRg7.1.turn1 (r' := { r with t := y }) (j := 1) (u := .int .i64 y) HRI.out rfl (by omega) (fun a h1 h2 h3 h4 => by simp [Rw.cs, h1, h3, h4])).mono (Nat.le_refl _) (by simp; exact hRg7.2))
    exact zcloA1
   case a6 =>
    exact zcloA5
   ·
    exact zcloA4
   ·
    exact zcloA3
  ·
   have HNE := Lib.hid hne
   have HCN := Lib.hid (show onRingC z (raiseC seen y) s = none by rw [onRingC_yes HRB.out HRI.out]; simp [raiseC, hc, hne])
   go_enter Tryz.func147, Tryz.ntmps147
   go_upto_region 3 with fail
   clear d0 d1 d2 d3 df hc hne
   refine wp_region2v (fun w w' => w = w') (fun _ _ h => Nat.le_of_eq (by rw [h])) (fun _ => rfl) (fun L W' => (L 5 = false → Below N w W') ∧ (L 5 = false → BoxAt W' X (aS s (some ⟨b, 0, none⟩) n m) 32) ∧ (L 5 = false → (RgsD M X W' (some ⟨b, 0, none⟩) n m s.rs ∧ X ≤ W'.heap.size)) ∧ (L 5 = false → Till M T W W') ∧ (L 5 = false → BoxAt W' S_ #[seen] 2) ∧ (L 5 = false → BoxAt W' Y_ #[y] 2)) (rtNV s X b n m M T N S_ Y_ z seen y a0 W) (fun j => [0, 0, 0, 0, 0, 1, 0].getD j 0) [] (by kernel_rfl) (by kernel_rfl) ?_ ?_ ?_
    (.still rfl ?a0 <| .still rfl ?a1 <| .still rfl ?a2 <| .still rfl ?a3 <| .still rfl ?a4 <| .store rfl ?a5 <| .still rfl ?a6 <| .nil) ?_ ?_
   · exact ⟨fun _ _ _ h ⟨v, e, hp⟩ => ⟨v, (h 5 (List.mem_singleton.2 rfl)).symm.trans e, hp⟩, fun _ _ _ h ⟨v, e, hp⟩ => ⟨v, (h 6 (List.mem_singleton.2 rfl)).symm.trans e, hp⟩, trivial⟩
   · exact ⟨fun σ w w' hb ⟨v, e, hp⟩ => ⟨v, e, hb ▸ hp⟩, fun σ w w' hb ⟨v, e, hp⟩ => ⟨v, e, hb ▸ hp⟩, trivial⟩
   · exact ⟨fun _ => hbb.drew, fun _ => hX, fun _ => hRg, fun _ => hti.drewN _, fun _ => hS1, fun _ => hY1⟩
   case a0 | a1 | a2 =>
    go_light
    intro L σ W' hcl hL hC hw
    try have e0 := wT hw 0 rfl
    try have e1 := wT hw 1 rfl
    exact zcloA0
   case a3 =>
    go_light
    intro L σ W' hcl hL hC hw
    have h_ := (hC.2.2.2.2.1 (hcl.not (j := 5) (k := 3) (by kernel_rfl) hL))
    have k_ := h_.cell
    exact zcloA0
   case a4 =>
    go_light
    intro L σ W' hcl hL hC hw
    have h_ := (hC.2.2.2.2.2 (hcl.not (j := 5) (k := 4) (by kernel_rfl) hL))
    have k_ := h_.cell
    exact zcloA0
   case a5 =>
    go_light
    intro L σ W' hcl hL hC hw hne
    have e2 := wV hw 2 rfl
    have e3 := wV hw 3 rfl
    have e4 := wV hw 4 rfl
    clear hw hne
    obtain ⟨hbb, hX, hRg, hti, hS1, hY1⟩ := hC
    have hb7 := (hbb hL)
    have hX7 := (hX hL)
    have hRg7 := (hRg hL)
    have hti7 := (hti hL)
    obtain ⟨hMb, hbX, ⟨cb, hbx⟩, d0, d1, d2, d3, df, _⟩ := hRg7.1.ring HRI.out
    have hg7 := hSN.keep (W' := W') (fun j hj => hb7.block j (by omega))
    clear hcl hL
    refine OpGoes.go fun K hK => ?_
    go_simp
    refine (ichangeSeen_no b (z.toNat * 5 + 1) r.t seen y aN _ d1 hg7.2.2.1 HNE.out).mono ?_
    rintro e w1 ⟨rfl, rfl⟩
    have hpost := ChPost.mkNo (c := onRingC z (raiseC seen y)) (s := s) (a0 := a0) (B := N) (X := X) (K := fun _ => True) HCN.out hti7 hNN (by have := hg7.2.1; omega) hg7.2.2.2
    have hsz := Nat.le_refl w1.heap.size
    exact zcloA1
   case a6 =>
    exact zcloA5
   ·
    exact zcloA4
   ·
    exact zcloA3
 ·
  rw [hc] at d2
  obtain ⟨hg0, hq0, hg1, cq, tq, hQ0⟩ := hSC.keep (W' := W) (fun j hj => hbb.block j (by omega))
  have HCN := Lib.hid (show onRingC z (raiseC seen y) s = none by rw [onRingC_yes HRB.out HRI.out]; simp [raiseC, hc])
  clear hc
  go_enter Tryz.func147, Tryz.ntmps147
  go_wp2
  go_ret
  exact .mkNo HCN.out hti hNC (by omega) ⟨cq, tq, hQ0⟩
def dn_raiseV (s : St) (A : Option Addr) (n cap N : Nat) (z seen y : Int) : List Sl := [.v (.agg (aS s A n cap)),
 .v z,
 .v (.func (.func 147) #[] #[pT (N + 1), pT (N + 2)]),
 .e fun σ w => ∃ (k : Nat), σ 3 = .func (.func 167) #[] #[pT k, pT (k + 1)] ∧ OnR (N + 4) w k z 147 [pT (N + 1), pT (N + 2)],
 .e fun σ w => ∃ (A' : Option Addr) (n' c' : Nat), σ 4 = .tuple #[.agg (dS ((done (onRingC z (raiseC seen y)) s).1.rd) ((done (onRingC z (raiseC seen y)) s).1.mo) A' n' c' ((done (onRingC z (raiseC seen y)) s).1.fi) ((done (onRingC z (raiseC seen y)) s).1.la)), .bool ((done (onRingC z (raiseC seen y)) s).2)] ∧ DnF (N + 4) (fun _ => True) (done (onRingC z (raiseC seen y)) s) w A' n' c',
 .e fun σ w => ∃ (A' : Option Addr) (n' c' : Nat), σ 5 = .agg (dS ((done (onRingC z (raiseC seen y)) s).1.rd) ((done (onRingC z (raiseC seen y)) s).1.mo) A' n' c' ((done (onRingC z (raiseC seen y)) s).1.fi) ((done (onRingC z (raiseC seen y)) s).1.la)) ∧ DnF (N + 4) (fun _ => True) (done (onRingC z (raiseC seen y)) s) w A' n' c',
 .v (.bool ((done (onRingC z (raiseC seen y)) s).2)),
 .e fun σ w => ∃ (A' : Option Addr) (n' c' : Nat), BoxAt w (N + 3) (dS ((done (onRingC z (raiseC seen y)) s).1.rd) ((done (onRingC z (raiseC seen y)) s).1.mo) A' n' c' ((done (onRingC z (raiseC seen y)) s).1.fi) ((done (onRingC z (raiseC seen y)) s).1.la)) 32 ∧ DnF (N + 4) (fun _ => True) (done (onRingC z (raiseC seen y)) s) w A' n' c',
 .v (.bool ((done (onRingC z (raiseC seen y)) s).2))]
set_option maxRecDepth 100000 in
set_option maxHeartbeats 4000000 in
theorem iraise_any (s : St) (A : Option Addr) (n cap lo hi B : Nat) (a0 a1 a2 a3 a4 : Addr) (z seen y : Int) (w : World) (hs : RgsW lo hi w A n cap s.rs) (hh : hi ≤ w.heap.size) (hBw : B ≤ w.heap.size) (he : Errs B w a0 a1) (hS0 : Sent B w 2 a2) (hN0 : a2 ≠ a0) (hS1 : Sent B w 0 a3) (hN1x : a3 ≠ a0) (hS2 : Sent B w 4 a4) (hN2x : a4 ≠ a0) (hm : n ≤ 1048576) (hpn : ∀ r ∈ s.rs, r.ps.length ≤ 1048576) :
  Calls Tryz.prog 125 #[stV s A n cap, z, seen, y] w (RetSBD (raiseTail s z seen y) w) := by
 have HPN := Lib.hid hpn; clear hpn
 have HLN := Lib.hid hs.1
 have HV := Lib.hid (raise_done s z seen y)
 obtain ⟨N, hN⟩ : ∃ N, N = w.heap.size := ⟨_, rfl⟩
 have hN1 : w.heap.size ≤ N := by omega
 have hNw : N ≤ w.heap.size := by omega
 have HN := Lib.hid hN
 have hBN : B ≤ N := by omega
 unfold stV
 go_enter Tryz.func125, Tryz.ntmps125
 go_upto_region 1 with fail
 rw [← HN.out]
 refine wp_abs (fun W => Below N w W ∧ N + 4 ≤ W.heap.size ∧ BoxAt W N (aS s A n cap) 32 ∧ BoxAt W (N + 1) #[seen] 2 ∧ BoxAt W (N + 2) #[y] 2 ∧ BoxAt W (N + 3) zS 32) ⟨(((((Below.refl _ _).alloc hNw _).alloc (by simp; omega) _).alloc (by simp; omega) _).alloc (by simp; omega) _), by simp; omega, ((((BoxAt.new' (by omega)).alloc _).alloc _).alloc _), (((BoxAt.new' (by simp; omega)).alloc _).alloc _), ((BoxAt.new' (by simp; omega)).alloc _), (BoxAt.new' (by simp; omega))⟩ ?_
 clear hN
 rintro W0 ⟨hB, hsz, hx, hc1, hc2, hz⟩
 refine wp_region2v (fun w w' => Below w.heap.size w w') (fun _ _ h => h.size) (fun _ => Below.refl _ _) (fun L W' => Below N w W' ∧ N + 4 ≤ W'.heap.size ∧ (L 4 = false → BoxAt W' N (aS s A n cap) 32) ∧ (L 4 = false → BoxAt W' (N + 1) #[seen] 2) ∧ (L 4 = false → BoxAt W' (N + 2) #[y] 2) ∧ (∃ x0 x1 x2 x3 x4, BoxAt W' (N + 3) #[x0, x1, x2, x3, x4] 32) ∧ (L 7 = false → BoxAt W' (N + 3) zS 32)) (dn_raiseV s A n cap N z seen y) (fun j => [0, 0, 0, 0, 1, 0, 0, 1, 0].getD j 0) [] (by kernel_rfl) (by kernel_rfl) ?_ ?_ ?_
  (.still rfl ?a0 <| .still rfl ?a1 <| .still rfl ?a2 <| .grow rfl ?a3 <| .store rfl ?a4 <| .still rfl ?a5 <| .still rfl ?a6 <| .store rfl ?a7 <| .still rfl ?a8 <| .nil) ?_ ?_
 · exact ⟨fun _ _ _ h ⟨k, e, hp⟩ => ⟨k, (h 3 (List.mem_singleton.2 rfl)).symm.trans e, hp⟩, fun _ _ _ h ⟨A', n', c', e, hp⟩ => ⟨A', n', c', (h 4 (List.mem_singleton.2 rfl)).symm.trans e, hp⟩, fun _ _ _ h ⟨A', n', c', e, hp⟩ => ⟨A', n', c', (h 5 (List.mem_singleton.2 rfl)).symm.trans e, hp⟩, fun _ _ _ _ h => h, trivial⟩
 · exact ⟨fun σ w w' hb ⟨k, e, hp⟩ => ⟨k, e, hp.below hb⟩, fun σ w w' hb ⟨A', n', c', e, hp⟩ => ⟨A', n', c', e, hp.below hb (fun _ _ _ _ => trivial)⟩, fun σ w w' hb ⟨A', n', c', e, hp⟩ => ⟨A', n', c', e, hp.below hb (fun _ _ _ _ => trivial)⟩, fun σ w w' hb ⟨A', n', c', hx, hp⟩ => ⟨A', n', c', hx.below hb hx.lt, hp.below hb (fun _ _ _ _ => trivial)⟩, trivial⟩
 · exact ⟨hB.drew, hsz, fun _ => hx, fun _ => hc1, fun _ => hc2, ⟨_, _, _, _, _, hz⟩, fun _ => hz⟩
 case a1 | a2 | a8 =>
  go_light
  intro L σ W' hcl hL hC hw
  try have e6 := wT hw 6 rfl
  exact zcloA0
 case a0 =>
  go_light
  intro L σ W' hcl hL hC hw
  have hx_ := (hC.2.2.1 (hcl.not (j := 4) (k := 0) (by kernel_rfl) hL))
  have ks := hx_.cell
  exact zcloA0
 case a3 =>
  go_light
  intro L σ W' hcl hL hC hw
  have e1 := wV hw 1 rfl
  have e2 := wV hw 2 rfl
  clear hw
  have HC := Lib.hid hC
  clear hC
  clear hcl hL
  refine OpGoes.go fun K hK => ?_
  go_simp
  obtain ⟨hB, hsz, hx, hc1, hc2, ⟨_, _, _, _, _, hz⟩, hz_o⟩ := HC.out
  refine (ionRing_any z 147 [pT (N + 1), pT (N + 2)] _).mono ?_
  rintro e w1 ⟨rfl, hk1, hk2, hk3, hb1⟩
  exact ⟨_, rfl, hK _ _ ⟨⟨bstep hB (Nat.le_trans hNw hB.size) hb1, Nat.le_trans hsz hb1.size, fun h => (hx (by simpa [upd] using h)).below hb1 (hx (by simpa [upd] using h)).lt, fun h => (hc1 (by simpa [upd] using h)).below hb1 (hc1 (by simpa [upd] using h)).lt, fun h => (hc2 (by simpa [upd] using h)).below hb1 (hc2 (by simpa [upd] using h)).lt, ⟨_, _, _, _, _, hz.below hb1 hz.lt⟩, fun h => (hz_o (by simpa [upd] using h)).below hb1 (hz_o (by simpa [upd] using h)).lt⟩, ⟨_, rfl, hk1, hk2, hsz⟩, hb1⟩⟩
 case a4 =>
  go_light
  intro L σ W' hcl hL hC hw hne
  have e0 := wV hw 0 rfl
  obtain ⟨k, e3, hp3⟩ := wE hw 3 rfl
  clear hw hne
  obtain ⟨hB, hsz, hx, hc1, hc2, ⟨_, _, _, _, _, hz⟩, hz_o⟩ := hC
  have hx3 := (hx hL)
  have hc1_ := (hc1 hL)
  have hc2_ := (hc2 hL)
  clear hcl hL
  refine OpGoes.go fun K hK => ?_
  go_simp
  have hs3 := hs.keep (w' := W') (fun j _ hj => hB.block j (by omega))
  have he3 := he.below hB (by omega)
  refine (idoneOrNot_any (onRingC z (raiseC seen y)) s A n cap lo hi B N a0 a1 (fun _ => True) 167 [pT k, pT (k + 1)] W' hs3 (by omega) (by omega) (by omega) hBN (by omega) he3 hm HPN.out (fun t hok ht => mild_ring (fun r r' h => by unfold raiseC at h; split at h; (cases h); split at h; (cases h); (injection h with h; subst h; rfl)) hok ht) (fun _ _ _ _ => trivial) (fun hok => ionRing1_any (raiseC seen y) s z n k (k + 1) B a0 a2 N (fun _ => True) 147 [pT (N + 1), pT (N + 2)] W' hp3.1 hp3.2.1 (iraise1 s z seen y n (N + 1) (N + 2) B a0 a3 a4 N W' hc1_ hc2_ (hS1.keep (fun j hj => hB.block j (by omega))) hN1x (hS2.keep (fun j hj => hB.block j (by omega))) hN2x (by omega)) (enters_of Tryz.func147 (by kernel_rfl) rfl) (hS0.keep (fun j hj => hB.block j (by omega))) hN0 (by omega) hBN hm) (enters_of Tryz.func167 (by kernel_rfl) rfl)).mono ?_
  rintro e w1 ⟨A', n', c', rfl, hR1, hk1, hbt⟩
  have hbt2 := hbt.size
  refine ⟨_, rfl, hK _ _ ⟨⟨hB.trans (hbt.below (Nat.le_refl _) (by omega)), by omega, fun h => absurd h (by simp [upd]), fun h => absurd h (by simp [upd]), fun h => absurd h (by simp [upd]), ⟨_, _, _, _, _, hbt.box hz (by omega)⟩, fun h => hbt.box (hz_o (by simpa [upd] using h)) (by omega)⟩, ⟨A', n', c', rfl, ⟨_, Nat.le_refl _, hR1.mono (by omega) (Nat.le_refl _)⟩, hk1⟩, hbt2, fun j hj hn hR => ?_⟩⟩
  exact zcloA6
 case a5 =>
  exact zcloA10
 case a6 =>
  go_light
  intro L σ W' hcl hL hC hw
  obtain ⟨A', n', c', e4, hp4⟩ := wE hw 4 rfl
  exact zcloA0
 case a7 =>
  go_light
  intro L σ W' hcl hL hC hw hne
  obtain ⟨A', n', c', e5, hp5⟩ := wE hw 5 rfl
  clear hw hne
  have HC := Lib.hid hC
  obtain ⟨hB, hsz, hx, hc1, hc2, ⟨_, _, _, _, _, hz⟩, hz_o⟩ := hC
  clear hcl hL
  have kc_ := hz.cell
  have kf_ := hz.frozen
  clear hB hsz hx hc1 hc2 hz hz_o
  refine OpGoes.go fun K hK => ?_
  go_simp
  obtain ⟨hB, hsz, hx, hc1, hc2, ⟨_, _, _, _, _, hz⟩, hz_o⟩ := HC.out
  have hset := sets_all (us := (dS ((done (onRingC z (raiseC seen y)) s).1.rd) ((done (onRingC z (raiseC seen y)) s).1.mo) A' n' c' ((done (onRingC z (raiseC seen y)) s).1.fi) ((done (onRingC z (raiseC seen y)) s).1.la))) hz rfl
  refine hK undef (setCells W' (N + 3) 0 (dS ((done (onRingC z (raiseC seen y)) s).1.rd) ((done (onRingC z (raiseC seen y)) s).1.mo) A' n' c' ((done (onRingC z (raiseC seen y)) s).1.fi) ((done (onRingC z (raiseC seen y)) s).1.la))) ⟨⟨(Below.setCells (by omega) _ 0 hB), (size_sts hsz _ 0), fun h => (BoxAt.sets_ne _ 0 (hx (by simpa [upd] using h)) (by omega)), fun h => (BoxAt.sets_ne _ 0 (hc1 (by simpa [upd] using h)) (by omega)), fun h => (BoxAt.sets_ne _ 0 (hc2 (by simpa [upd] using h)) (by omega)), ⟨_, _, _, _, _, hset⟩, fun h => absurd h (by simp [upd])⟩, ⟨A', n', c', hset, (DnF.sets (by omega) _ 0 hp5)⟩, Nat.le_of_eq (sets_size _ _ _).symm, keepV ?_⟩
  exact zcloA7
 ·
  intro L L' W' hLL hC
  obtain ⟨hB, hsz, hx, hc1, hc2, ⟨_, _, _, _, _, hz⟩, hz_o⟩ := hC
  exact ⟨hB, hsz, fun h => hx (hLL _ h), fun h => hc1 (hLL _ h), fun h => hc2 (hLL _ h), ⟨_, _, _, _, _, hz⟩, fun h => hz_o (hLL _ h)⟩
 ·
  intro σ L W' hall hC hRR
  obtain ⟨hB, hsz, hx, hc1, hc2, ⟨_, _, _, _, _, hz⟩, hz_o⟩ := hC
  obtain ⟨A', n', c', s7, hp7⟩ := dE hRR 7 rfl
  have e8 := dV hRR 8 rfl
  clear hRR
  simp only [lexAll]
  go_simp
  go_step
  have k6 := s7.cell
  go_wp2
  refine bodyPost_ret (v := .tuple #[stV (done (onRingC z (raiseC seen y)) s).1 A' n' c', .bool (done (onRingC z (raiseC seen y)) s).2]) (by simp [results, Tryz.results125, go_sem, k6, stV]) rfl ?_
  rw [HV.out]
  obtain ⟨hi', hl', hd'⟩ := hp7.1
  exact ⟨A', n', c', rfl, hd'.mono (by omega) hl', hB.mono hN1⟩
end Go.Proofs.YthpckpnlohfcbaaGreatDoor
namespace Go.Proofs.YthpckpnlohfcbaaGreatDoor
set_option linter.unusedSimpArgs false
set_option linter.unusedVariables false
open Go.RowKit
set_option linter.unusedVariables false
attribute [local go_sem] OpUpon
attribute [local go_sem ↓] Go.wp_at_zero Go.wp_at_succ
def lkNV (s : St) (X b n m M T N : Nat) (Y_ : Nat) (z y : Int) (a0 : Addr) (W0 : World) : List Sl := [.v (.pointer (some ⟨b, z.toNat * 5, none⟩)),
 .v (.pointer (some ⟨b, z.toNat * 5, none⟩)),
 .v (.pointer (some ⟨b, z.toNat * 5 + 3, none⟩)),
 .v y,
 .e fun σ w => ∃ (v : Value), σ 4 = v ∧ ChPost (onRingC z (linkC (ringB s y) y)) s a0 N X M T (fun _ => True) W0 (.returned v) w,
 .e fun σ w => ∃ (v : Value), σ 5 = v ∧ ChPost (onRingC z (linkC (ringB s y) y)) s a0 N X M T (fun _ => True) W0 (.returned v) w]
def lkYV (s : St) (X b n m M T N : Nat) (Y_ : Nat) (z y : Int) (a0 : Addr) (W0 : World) : List Sl := [.v (.pointer (some ⟨b, z.toNat * 5, none⟩)),
 .v (.pointer (some ⟨b, z.toNat * 5, none⟩)),
 .v (.pointer (some ⟨b, z.toNat * 5 + 3, none⟩)),
 .v y,
 .e fun σ w => ∃ (v : Value), σ 4 = v ∧ ChPost (onRingC z (linkC (ringB s y) y)) s a0 N X M T (fun _ => True) W0 (.returned v) w,
 .e fun σ w => ∃ (v : Value), σ 5 = v ∧ ChPost (onRingC z (linkC (ringB s y) y)) s a0 N X M T (fun _ => True) W0 (.returned v) w]
set_option maxRecDepth 100000 in
set_option maxHeartbeats 4000000 in
theorem ilink1 (s : St) (z y : Int) (n N0 Y_ B : Nat) (A : Option Addr) (cap : Nat) (a0 aR aN : Addr) (T : Nat) (w : World) (hX0 : BoxAt w N0 (aS s A n cap) 32) (hY0 : BoxAt w Y_ #[y] 2) (hSR : Sent B w 2 aR) (hNR : aR ≠ a0) (hSN : Sent B w 4 aN) (hNN : aN ≠ a0) (hBw : B ≤ w.heap.size) (hn2 : n ≤ 1048576) :
  RChanges (linkC (ringB s y) y) s z n a0 T (fun _ => True) 163 [pT N0, pT Y_] w := by
 intro W X b m M r hbb hNM hMX hXW hX hRg hrb hri
 have HRI := Lib.hid hri
 have HRB := Lib.hid hrb
 have HLN := Lib.hid hRg.1
 obtain ⟨N, hN⟩ : ∃ N, N = w.heap.size := ⟨_, rfl⟩
 have hN1 : w.heap.size ≤ N := by omega
 have hNw : N ≤ w.heap.size := by omega
 have HN := Lib.hid hN
 have hMW : M ≤ W.heap.size := by omega
 replace hbb : Below N w W := hbb.mono (by omega)
 have hRg0 := hRg
 replace hRg : RgsD M X W (some ⟨b, 0, none⟩) n m s.rs ∧ X ≤ W.heap.size := ⟨hRg, by omega⟩
 have hti : Till M T W W := .refl _ _ _
 unfold sC at hX
 clear hN hri hrb
 have hX1 := hX0.below hbb (by have := hX0.lt; omega)
 have hY1 := hY0.below hbb (by have := hY0.lt; omega)
 clear hX0 hY0
 show Calls Tryz.prog 163 #[.pointer (some ⟨b, z.toNat * 5, none⟩), pT N0, pT Y_] W _
 have k1 := hX1.cell
 have k2 := hY1.cell
 go_enter Tryz.func163, Tryz.ntmps163
 go_wp2_with fail
 clear k1 k2
 refine (hasRing_any s A n cap y _ HLN.out hn2).mono ?_
 rintro e w1 ⟨rfl, hb1⟩
 have hXs : X ≤ W.heap.size := by omega
 replace hbb := bstep hbb (Nat.le_trans hNw hbb.size) hb1
 replace hX := hX.below hb1 hX.lt
 replace hY1 := hY1.below hb1 hY1.lt
 replace hRg : RgsD M X w1 (some ⟨b, 0, none⟩) n m s.rs ∧ X ≤ w1.heap.size := ⟨hRg.1.keep (.below hb1 hXs), Nat.le_trans hXs hb1.size⟩
 replace hti : Till M T W w1 := .of_below hb1 hMW
 clear hb1 hX1 hRg0
 obtain ⟨hMb, hbX, ⟨cb, hbx⟩, d0, d1, d2, d3, df, _⟩ := hRg.1.ring HRI.out
 cases hy : ringB s y
 ·
  obtain ⟨hg0, hq0, hg1, cq, tq, hQ0⟩ := hSR.keep (W' := w1) (fun j hj => hbb.block j (by omega))
  have HCN := Lib.hid (show onRingC z (linkC (ringB s y) y) s = none by rw [onRingC_yes HRB.out HRI.out]; simp [linkC, hy])
  clear d0 d1 d2 d3 df
  go_wp2
  go_ret
  exact .mkNo HCN.out hti hNR (by omega) ⟨cq, tq, hQ0⟩
 ·
  rw [← hy]
  cases hne : (r.x != -1)
  ·
   have HEQ := Lib.hid (show r.x = -1 by simpa using hne)
   have HCY := Lib.hid (show onRingC z (linkC (ringB s y) y) s = some { s with rs := s.rs.set z.toNat { r with x := y } } by rw [onRingC_yes HRB.out HRI.out]; simp [linkC, hy, hne])
   go_upto_region 3 with fail
   clear d0 d1 d2 d3 df hy hne
   refine wp_region2v (fun w w' => w = w') (fun _ _ h => Nat.le_of_eq (by rw [h])) (fun _ => rfl) (fun L W' => (L 4 = false → Below N w W') ∧ (L 4 = false → BoxAt W' X (aS s (some ⟨b, 0, none⟩) n m) 32) ∧ (L 4 = false → (RgsD M X W' (some ⟨b, 0, none⟩) n m s.rs ∧ X ≤ W'.heap.size)) ∧ (L 4 = false → Till M T W W') ∧ (L 4 = false → BoxAt W' Y_ #[y] 2)) (lkYV s X b n m M T N Y_ z y a0 W) (fun j => [0, 0, 0, 0, 1, 0].getD j 0) [] (by kernel_rfl) (by kernel_rfl) ?_ ?_ ?_
    (.still rfl ?a0 <| .still rfl ?a1 <| .still rfl ?a2 <| .still rfl ?a3 <| .store rfl ?a4 <| .still rfl ?a5 <| .nil) ?_ ?_
   · exact ⟨fun _ _ _ h ⟨v, e, hp⟩ => ⟨v, (h 4 (List.mem_singleton.2 rfl)).symm.trans e, hp⟩, fun _ _ _ h ⟨v, e, hp⟩ => ⟨v, (h 5 (List.mem_singleton.2 rfl)).symm.trans e, hp⟩, trivial⟩
   · exact ⟨fun σ w w' hb ⟨v, e, hp⟩ => ⟨v, e, hb ▸ hp⟩, fun σ w w' hb ⟨v, e, hp⟩ => ⟨v, e, hb ▸ hp⟩, trivial⟩
   · exact ⟨fun _ => hbb.drew, fun _ => hX, fun _ => hRg, fun _ => hti.drewN _, fun _ => hY1⟩
   case a0 | a1 | a2 =>
    go_light
    intro L σ W' hcl hL hC hw
    try have e0 := wT hw 0 rfl
    try have e1 := wT hw 1 rfl
    exact zcloA0
   case a3 =>
    go_light
    intro L σ W' hcl hL hC hw
    have h_ := (hC.2.2.2.2 (hcl.not (j := 4) (k := 3) (by kernel_rfl) hL))
    have k_ := h_.cell
    exact zcloA0
   case a4 =>
    go_light
    intro L σ W' hcl hL hC hw hne
    have e2 := wV hw 2 rfl
    have e3 := wV hw 3 rfl
    clear hw hne
    obtain ⟨hbb, hX, hRg, hti, hY1⟩ := hC
    have hb7 := (hbb hL)
    have hX7 := (hX hL)
    have hRg7 := (hRg hL)
    have hti7 := (hti hL)
    obtain ⟨hMb, hbX, ⟨cb, hbx⟩, d0, d1, d2, d3, df, _⟩ := hRg7.1.ring HRI.out
    clear hcl hL
    refine OpGoes.go fun K hK => ?_
    go_simp
    refine (ichangeSeen_yes b (z.toNat * 5 + 3) (-1) y _ (by rw [d3, HEQ.out]) (df _)).mono ?_
    rintro e w1 ⟨rfl, rfl⟩
    have hpost := ChPost.mkYes (c := onRingC z (linkC (ringB s y) y)) (s := s) (a0 := a0) (B := N) (X := X) (M := M) (T := T) (K := fun _ => True) HCY.out (hti7.set (.inl hMb) _ _) trivial (t := { s with rs := s.rs.set z.toNat { r with x := y } }) (b := b) (n := n) (cap := m) (hX7.sn) ((hRg7.1.turn1 (r' := { r with x := y }) (j := 3) (u := .int .i64 y) HRI.out rfl (by omega) (fun a h1 h2 h3 h4 => by simp [Rw.cs, h1, h2, h3])).mono (Nat.le_refl _) (by simp; exact hRg7.2))
    refine ⟨_, rfl, hK _ _ ⟨⟨fun h => absurd h (by simp [upd]), fun h => absurd h (by simp [upd]), fun h => absurd h (by simp [upd]), fun h => absurd h (by simp [upd]), fun h => absurd h (by simp [upd])⟩, ⟨_, rfl, hpost⟩, (by first | exact hsz | simp), fun j hj hn hR => ?_⟩⟩
    exact zcloA2
   case a5 =>
    exact zcloA9
   ·
    exact zcloA11
   ·
    exact zcloA8
  ·
   have HNE := Lib.hid hne
   have HCN := Lib.hid (show onRingC z (linkC (ringB s y) y) s = none by rw [onRingC_yes HRB.out HRI.out]; simp [linkC, hy, hne])
   go_upto_region 3 with fail
   clear d0 d1 d2 d3 df hy hne
   refine wp_region2v (fun w w' => w = w') (fun _ _ h => Nat.le_of_eq (by rw [h])) (fun _ => rfl) (fun L W' => (L 4 = false → Below N w W') ∧ (L 4 = false → BoxAt W' X (aS s (some ⟨b, 0, none⟩) n m) 32) ∧ (L 4 = false → (RgsD M X W' (some ⟨b, 0, none⟩) n m s.rs ∧ X ≤ W'.heap.size)) ∧ (L 4 = false → Till M T W W') ∧ (L 4 = false → BoxAt W' Y_ #[y] 2)) (lkNV s X b n m M T N Y_ z y a0 W) (fun j => [0, 0, 0, 0, 1, 0].getD j 0) [] (by kernel_rfl) (by kernel_rfl) ?_ ?_ ?_
    (.still rfl ?a0 <| .still rfl ?a1 <| .still rfl ?a2 <| .still rfl ?a3 <| .store rfl ?a4 <| .still rfl ?a5 <| .nil) ?_ ?_
   · exact ⟨fun _ _ _ h ⟨v, e, hp⟩ => ⟨v, (h 4 (List.mem_singleton.2 rfl)).symm.trans e, hp⟩, fun _ _ _ h ⟨v, e, hp⟩ => ⟨v, (h 5 (List.mem_singleton.2 rfl)).symm.trans e, hp⟩, trivial⟩
   · exact ⟨fun σ w w' hb ⟨v, e, hp⟩ => ⟨v, e, hb ▸ hp⟩, fun σ w w' hb ⟨v, e, hp⟩ => ⟨v, e, hb ▸ hp⟩, trivial⟩
   · exact ⟨fun _ => hbb.drew, fun _ => hX, fun _ => hRg, fun _ => hti.drewN _, fun _ => hY1⟩
   case a0 | a1 | a2 =>
    go_light
    intro L σ W' hcl hL hC hw
    try have e0 := wT hw 0 rfl
    try have e1 := wT hw 1 rfl
    exact zcloA0
   case a3 =>
    go_light
    intro L σ W' hcl hL hC hw
    have h_ := (hC.2.2.2.2 (hcl.not (j := 4) (k := 3) (by kernel_rfl) hL))
    have k_ := h_.cell
    exact zcloA0
   case a4 =>
    go_light
    intro L σ W' hcl hL hC hw hne
    have e2 := wV hw 2 rfl
    have e3 := wV hw 3 rfl
    clear hw hne
    obtain ⟨hbb, hX, hRg, hti, hY1⟩ := hC
    have hb7 := (hbb hL)
    have hX7 := (hX hL)
    have hRg7 := (hRg hL)
    have hti7 := (hti hL)
    obtain ⟨hMb, hbX, ⟨cb, hbx⟩, d0, d1, d2, d3, df, _⟩ := hRg7.1.ring HRI.out
    have hg7 := hSN.keep (W' := W') (fun j hj => hb7.block j (by omega))
    clear hcl hL
    refine OpGoes.go fun K hK => ?_
    go_simp
    refine (ichangeSeen_no b (z.toNat * 5 + 3) r.x (-1) y aN _ d3 hg7.2.2.1 HNE.out).mono ?_
    rintro e w1 ⟨rfl, rfl⟩
    have hpost := ChPost.mkNo (c := onRingC z (linkC (ringB s y) y)) (s := s) (a0 := a0) (B := N) (X := X) (K := fun _ => True) HCN.out hti7 hNN (by have := hg7.2.1; omega) hg7.2.2.2
    have hsz := Nat.le_refl w1.heap.size
    refine ⟨_, rfl, hK _ _ ⟨⟨fun h => absurd h (by simp [upd]), fun h => absurd h (by simp [upd]), fun h => absurd h (by simp [upd]), fun h => absurd h (by simp [upd]), fun h => absurd h (by simp [upd])⟩, ⟨_, rfl, hpost⟩, (by first | exact hsz | simp), fun j hj hn hR => ?_⟩⟩
    exact zcloA2
   case a5 =>
    exact zcloA9
   ·
    exact zcloA11
   ·
    exact zcloA8
def dn_linkV (s : St) (A : Option Addr) (n cap N : Nat) (z y : Int) : List Sl := [.v (.agg (aS s A n cap)),
 .v z,
 .v (.func (.func 163) #[] #[pT N, pT (N + 1)]),
 .e fun σ w => ∃ (k : Nat), σ 3 = .func (.func 167) #[] #[pT k, pT (k + 1)] ∧ OnR (N + 3) w k z 163 [pT N, pT (N + 1)],
 .e fun σ w => ∃ (A' : Option Addr) (n' c' : Nat), σ 4 = .tuple #[.agg (dS ((done (onRingC z (linkC (ringB s y) y)) s).1.rd) ((done (onRingC z (linkC (ringB s y) y)) s).1.mo) A' n' c' ((done (onRingC z (linkC (ringB s y) y)) s).1.fi) ((done (onRingC z (linkC (ringB s y) y)) s).1.la)), .bool ((done (onRingC z (linkC (ringB s y) y)) s).2)] ∧ DnF (N + 3) (fun _ => True) (done (onRingC z (linkC (ringB s y) y)) s) w A' n' c',
 .e fun σ w => ∃ (A' : Option Addr) (n' c' : Nat), σ 5 = .agg (dS ((done (onRingC z (linkC (ringB s y) y)) s).1.rd) ((done (onRingC z (linkC (ringB s y) y)) s).1.mo) A' n' c' ((done (onRingC z (linkC (ringB s y) y)) s).1.fi) ((done (onRingC z (linkC (ringB s y) y)) s).1.la)) ∧ DnF (N + 3) (fun _ => True) (done (onRingC z (linkC (ringB s y) y)) s) w A' n' c',
 .v (.bool ((done (onRingC z (linkC (ringB s y) y)) s).2)),
 .e fun σ w => ∃ (A' : Option Addr) (n' c' : Nat), BoxAt w (N + 2) (dS ((done (onRingC z (linkC (ringB s y) y)) s).1.rd) ((done (onRingC z (linkC (ringB s y) y)) s).1.mo) A' n' c' ((done (onRingC z (linkC (ringB s y) y)) s).1.fi) ((done (onRingC z (linkC (ringB s y) y)) s).1.la)) 32 ∧ DnF (N + 3) (fun _ => True) (done (onRingC z (linkC (ringB s y) y)) s) w A' n' c',
 .v (.bool ((done (onRingC z (linkC (ringB s y) y)) s).2))]
set_option maxRecDepth 100000 in
set_option maxHeartbeats 4000000 in
theorem ilink_any (s : St) (A : Option Addr) (n cap lo hi B : Nat) (a0 a1 a2 a3 : Addr) (z y : Int) (w : World) (hs : RgsW lo hi w A n cap s.rs) (hh : hi ≤ w.heap.size) (hBw : B ≤ w.heap.size) (he : Errs B w a0 a1) (hS0 : Sent B w 2 a2) (hN0 : a2 ≠ a0) (hS1 : Sent B w 4 a3) (hN1x : a3 ≠ a0) (hm : n ≤ 1048576) (hpn : ∀ r ∈ s.rs, r.ps.length ≤ 1048576) :
  Calls Tryz.prog 144 #[stV s A n cap, z, y] w (RetSBD (linkR s z y) w) := by
 have HPN := Lib.hid hpn; clear hpn
 have HLN := Lib.hid hs.1
 have HV := Lib.hid (link_done s z y)
 obtain ⟨N, hN⟩ : ∃ N, N = w.heap.size := ⟨_, rfl⟩
 have hN1 : w.heap.size ≤ N := by omega
 have hNw : N ≤ w.heap.size := by omega
 have HN := Lib.hid hN
 have hBN : B ≤ N := by omega
 unfold stV
 go_enter Tryz.func144, Tryz.ntmps144
 go_upto_region 1 with fail
 rw [← HN.out]
 refine wp_abs (fun W => Below N w W ∧ N + 3 ≤ W.heap.size ∧ BoxAt W N (aS s A n cap) 32 ∧ BoxAt W (N + 1) #[y] 2 ∧ BoxAt W (N + 2) zS 32) ⟨((((Below.refl _ _).alloc hNw _).alloc (by simp; omega) _).alloc (by simp; omega) _), by simp; omega, (((BoxAt.new' (by omega)).alloc _).alloc _), ((BoxAt.new' (by simp; omega)).alloc _), (BoxAt.new' (by simp; omega))⟩ ?_
 clear hN
 rintro W0 ⟨hB, hsz, hx, hc1, hz⟩
 refine wp_region2v (fun w w' => Below w.heap.size w w') (fun _ _ h => h.size) (fun _ => Below.refl _ _) (fun L W' => Below N w W' ∧ N + 3 ≤ W'.heap.size ∧ (L 4 = false → BoxAt W' N (aS s A n cap) 32) ∧ (L 4 = false → BoxAt W' (N + 1) #[y] 2) ∧ (∃ x0 x1 x2 x3 x4, BoxAt W' (N + 2) #[x0, x1, x2, x3, x4] 32) ∧ (L 7 = false → BoxAt W' (N + 2) zS 32)) (dn_linkV s A n cap N z y) (fun j => [0, 0, 0, 0, 1, 0, 0, 1, 0].getD j 0) [] (by kernel_rfl) (by kernel_rfl) ?_ ?_ ?_
  (.still rfl ?a0 <| .still rfl ?a1 <| .still rfl ?a2 <| .grow rfl ?a3 <| .store rfl ?a4 <| .still rfl ?a5 <| .still rfl ?a6 <| .store rfl ?a7 <| .still rfl ?a8 <| .nil) ?_ ?_
 · exact ⟨fun _ _ _ h ⟨k, e, hp⟩ => ⟨k, (h 3 (List.mem_singleton.2 rfl)).symm.trans e, hp⟩, fun _ _ _ h ⟨A', n', c', e, hp⟩ => ⟨A', n', c', (h 4 (List.mem_singleton.2 rfl)).symm.trans e, hp⟩, fun _ _ _ h ⟨A', n', c', e, hp⟩ => ⟨A', n', c', (h 5 (List.mem_singleton.2 rfl)).symm.trans e, hp⟩, fun _ _ _ _ h => h, trivial⟩
 · exact ⟨fun σ w w' hb ⟨k, e, hp⟩ => ⟨k, e, hp.below hb⟩, fun σ w w' hb ⟨A', n', c', e, hp⟩ => ⟨A', n', c', e, hp.below hb (fun _ _ _ _ => trivial)⟩, fun σ w w' hb ⟨A', n', c', e, hp⟩ => ⟨A', n', c', e, hp.below hb (fun _ _ _ _ => trivial)⟩, fun σ w w' hb ⟨A', n', c', hx, hp⟩ => ⟨A', n', c', hx.below hb hx.lt, hp.below hb (fun _ _ _ _ => trivial)⟩, trivial⟩
 · exact ⟨hB.drew, hsz, fun _ => hx, fun _ => hc1, ⟨_, _, _, _, _, hz⟩, fun _ => hz⟩
 case a1 | a2 | a8 =>
  go_light
  intro L σ W' hcl hL hC hw
  try have e6 := wT hw 6 rfl
  exact zcloA0
 case a0 =>
  go_light
  intro L σ W' hcl hL hC hw
  have hx_ := (hC.2.2.1 (hcl.not (j := 4) (k := 0) (by kernel_rfl) hL))
  have ks := hx_.cell
  exact zcloA0
 case a3 =>
  go_light
  intro L σ W' hcl hL hC hw
  have e1 := wV hw 1 rfl
  have e2 := wV hw 2 rfl
  clear hw
  have HC := Lib.hid hC
  clear hC
  clear hcl hL
  refine OpGoes.go fun K hK => ?_
  go_simp
  obtain ⟨hB, hsz, hx, hc1, ⟨_, _, _, _, _, hz⟩, hz_o⟩ := HC.out
  refine (ionRing_any z 163 [pT N, pT (N + 1)] _).mono ?_
  rintro e w1 ⟨rfl, hk1, hk2, hk3, hb1⟩
  exact ⟨_, rfl, hK _ _ ⟨⟨bstep hB (Nat.le_trans hNw hB.size) hb1, Nat.le_trans hsz hb1.size, fun h => (hx (by simpa [upd] using h)).below hb1 (hx (by simpa [upd] using h)).lt, fun h => (hc1 (by simpa [upd] using h)).below hb1 (hc1 (by simpa [upd] using h)).lt, ⟨_, _, _, _, _, hz.below hb1 hz.lt⟩, fun h => (hz_o (by simpa [upd] using h)).below hb1 (hz_o (by simpa [upd] using h)).lt⟩, ⟨_, rfl, hk1, hk2, hsz⟩, hb1⟩⟩
 case a4 =>
  go_light
  intro L σ W' hcl hL hC hw hne
  have e0 := wV hw 0 rfl
  obtain ⟨k, e3, hp3⟩ := wE hw 3 rfl
  clear hw hne
  obtain ⟨hB, hsz, hx, hc1, ⟨_, _, _, _, _, hz⟩, hz_o⟩ := hC
  have hx3 := (hx hL)
  have hc1_ := (hc1 hL)
  clear hcl hL
  refine OpGoes.go fun K hK => ?_
  go_simp
  have hs3 := hs.keep (w' := W') (fun j _ hj => hB.block j (by omega))
  have he3 := he.below hB (by omega)
  refine (idoneOrNot_any (onRingC z (linkC (ringB s y) y)) s A n cap lo hi B N a0 a1 (fun _ => True) 167 [pT k, pT (k + 1)] W' hs3 (by omega) (by omega) (by omega) hBN (by omega) he3 hm HPN.out (fun t hok ht => mild_ring (fun r r' h => by unfold linkC at h; split at h; (cases h); split at h; (cases h); (injection h with h; subst h; rfl)) hok ht) (fun _ _ _ _ => trivial) (fun hok => ionRing1_any (linkC (ringB s y) y) s z n k (k + 1) B a0 a2 N (fun _ => True) 163 [pT N, pT (N + 1)] W' hp3.1 hp3.2.1 (ilink1 s z y n N (N + 1) B A cap a0 a2 a3 N W' hx3 hc1_ (hS0.keep (fun j hj => hB.block j (by omega))) hN0 (hS1.keep (fun j hj => hB.block j (by omega))) hN1x (by omega) hm) (enters_of Tryz.func163 (by kernel_rfl) rfl) (hS0.keep (fun j hj => hB.block j (by omega))) hN0 (by omega) hBN hm) (enters_of Tryz.func167 (by kernel_rfl) rfl)).mono ?_
  rintro e w1 ⟨A', n', c', rfl, hR1, hk1, hbt⟩
  have hbt2 := hbt.size
  refine ⟨_, rfl, hK _ _ ⟨⟨hB.trans (hbt.below (Nat.le_refl _) (by omega)), by omega, fun h => absurd h (by simp [upd]), fun h => absurd h (by simp [upd]), ⟨_, _, _, _, _, hbt.box hz (by omega)⟩, fun h => hbt.box (hz_o (by simpa [upd] using h)) (by omega)⟩, ⟨A', n', c', rfl, ⟨_, Nat.le_refl _, hR1.mono (by omega) (Nat.le_refl _)⟩, hk1⟩, hbt2, fun j hj hn hR => ?_⟩⟩
  exact zcloA6
 case a5 =>
  exact zcloA10
 case a6 =>
  go_light
  intro L σ W' hcl hL hC hw
  obtain ⟨A', n', c', e4, hp4⟩ := wE hw 4 rfl
  exact zcloA0
 case a7 =>
  go_light
  intro L σ W' hcl hL hC hw hne
  obtain ⟨A', n', c', e5, hp5⟩ := wE hw 5 rfl
  clear hw hne
  have HC := Lib.hid hC
  obtain ⟨hB, hsz, hx, hc1, ⟨_, _, _, _, _, hz⟩, hz_o⟩ := hC
  clear hcl hL
  have kc_ := hz.cell
  have kf_ := hz.frozen
  clear hB hsz hx hc1 hz hz_o
  refine OpGoes.go fun K hK => ?_
  go_simp
  obtain ⟨hB, hsz, hx, hc1, ⟨_, _, _, _, _, hz⟩, hz_o⟩ := HC.out
  have hset := sets_all (us := (dS ((done (onRingC z (linkC (ringB s y) y)) s).1.rd) ((done (onRingC z (linkC (ringB s y) y)) s).1.mo) A' n' c' ((done (onRingC z (linkC (ringB s y) y)) s).1.fi) ((done (onRingC z (linkC (ringB s y) y)) s).1.la))) hz rfl
  refine hK undef (setCells W' (N + 2) 0 (dS ((done (onRingC z (linkC (ringB s y) y)) s).1.rd) ((done (onRingC z (linkC (ringB s y) y)) s).1.mo) A' n' c' ((done (onRingC z (linkC (ringB s y) y)) s).1.fi) ((done (onRingC z (linkC (ringB s y) y)) s).1.la))) ⟨⟨(Below.setCells (by omega) _ 0 hB), (size_sts hsz _ 0), fun h => (BoxAt.sets_ne _ 0 (hx (by simpa [upd] using h)) (by omega)), fun h => (BoxAt.sets_ne _ 0 (hc1 (by simpa [upd] using h)) (by omega)), ⟨_, _, _, _, _, hset⟩, fun h => absurd h (by simp [upd])⟩, ⟨A', n', c', hset, (DnF.sets (by omega) _ 0 hp5)⟩, Nat.le_of_eq (sets_size _ _ _).symm, keepV ?_⟩
  exact zcloA7
 ·
  intro L L' W' hLL hC
  obtain ⟨hB, hsz, hx, hc1, ⟨_, _, _, _, _, hz⟩, hz_o⟩ := hC
  exact ⟨hB, hsz, fun h => hx (hLL _ h), fun h => hc1 (hLL _ h), ⟨_, _, _, _, _, hz⟩, fun h => hz_o (hLL _ h)⟩
 ·
  intro σ L W' hall hC hRR
  obtain ⟨hB, hsz, hx, hc1, ⟨_, _, _, _, _, hz⟩, hz_o⟩ := hC
  obtain ⟨A', n', c', s7, hp7⟩ := dE hRR 7 rfl
  have e8 := dV hRR 8 rfl
  clear hRR
  simp only [lexAll]
  go_simp
  go_step
  have k6 := s7.cell
  go_wp2
  refine bodyPost_ret (v := .tuple #[stV (done (onRingC z (linkC (ringB s y) y)) s).1 A' n' c', .bool (done (onRingC z (linkC (ringB s y) y)) s).2]) (by simp [results, Tryz.results144, go_sem, k6, stV]) rfl ?_
  rw [HV.out]
  obtain ⟨hi', hl', hd'⟩ := hp7.1
  exact ⟨A', n', c', rfl, hd'.mono (by omega) hl', hB.mono hN1⟩
end Go.Proofs.YthpckpnlohfcbaaGreatDoor
namespace Go.Proofs.YthpckpnlohfcbaaGreatDoor
set_option linter.unusedSimpArgs false
set_option linter.unusedVariables false
open Go.RowKit
set_option linter.unusedVariables false
attribute [local go_sem] OpUpon
attribute [local go_sem ↓] Go.wp_at_zero Go.wp_at_succ
def swtrueNV (s : St) (X b n m M T N : Nat) (S_ Y_ : Nat) (seen y : Int) (a0 : Addr) (W0 : World) : List Sl := [.v (pT X),
 .v (pT X),
 .v (.pointer (some ⟨X, 4, none⟩)),
 .v seen,
 .v y,
 .e fun σ w => ∃ (v : Value), σ 5 = v ∧ ChPost (swingC true seen y) s a0 N X M T (fun _ => True) W0 (.returned v) w,
 .e fun σ w => ∃ (v : Value), σ 6 = v ∧ ChPost (swingC true seen y) s a0 N X M T (fun _ => True) W0 (.returned v) w]
def swtrueYV (s : St) (X b n m M T N : Nat) (S_ Y_ : Nat) (seen y : Int) (a0 : Addr) (W0 : World) : List Sl := [.v (pT X),
 .v (pT X),
 .v (.pointer (some ⟨X, 4, none⟩)),
 .v seen,
 .v y,
 .e fun σ w => ∃ (v : Value), σ 5 = v ∧ ChPost (swingC true seen y) s a0 N X M T (fun _ => True) W0 (.returned v) w,
 .e fun σ w => ∃ (v : Value), σ 6 = v ∧ ChPost (swingC true seen y) s a0 N X M T (fun _ => True) W0 (.returned v) w]
def swfalseNV (s : St) (X b n m M T N : Nat) (S_ Y_ : Nat) (seen y : Int) (a0 : Addr) (W0 : World) : List Sl := [.v (pT X),
 .v (pT X),
 .v (.pointer (some ⟨X, 3, none⟩)),
 .v seen,
 .v y,
 .e fun σ w => ∃ (v : Value), σ 5 = v ∧ ChPost (swingC false seen y) s a0 N X M T (fun _ => True) W0 (.returned v) w,
 .e fun σ w => ∃ (v : Value), σ 6 = v ∧ ChPost (swingC false seen y) s a0 N X M T (fun _ => True) W0 (.returned v) w]
def swfalseYV (s : St) (X b n m M T N : Nat) (S_ Y_ : Nat) (seen y : Int) (a0 : Addr) (W0 : World) : List Sl := [.v (pT X),
 .v (pT X),
 .v (.pointer (some ⟨X, 3, none⟩)),
 .v seen,
 .v y,
 .e fun σ w => ∃ (v : Value), σ 5 = v ∧ ChPost (swingC false seen y) s a0 N X M T (fun _ => True) W0 (.returned v) w,
 .e fun σ w => ∃ (v : Value), σ 6 = v ∧ ChPost (swingC false seen y) s a0 N X M T (fun _ => True) W0 (.returned v) w]
set_option maxRecDepth 100000 in
set_option maxHeartbeats 4000000 in
theorem iswing1_true (s : St) (seen y : Int) (n L_ S_ Y_ B : Nat) (a0 aN : Addr) (T : Nat) (w : World) (hL0 : BoxAt w L_ #[.bool true] 4) (hS0 : BoxAt w S_ #[seen] 2) (hY0 : BoxAt w Y_ #[y] 2) (hSN : Sent B w 4 aN) (hNN : aN ≠ a0) (hBw : B ≤ w.heap.size) :
  Changes (swingC true seen y) s n a0 T (fun _ => True) 149 [pT L_, pT S_, pT Y_] w := by
 intro W X b m M hbb hNM hMX hXW hX hRg
 have HLN := Lib.hid hRg.1
 obtain ⟨N, hN⟩ : ∃ N, N = w.heap.size := ⟨_, rfl⟩
 have hN1 : w.heap.size ≤ N := by omega
 have hNw : N ≤ w.heap.size := by omega
 have HN := Lib.hid hN
 have hMW : M ≤ W.heap.size := by omega
 replace hbb : Below N w W := hbb.mono (by omega)
 have hRg0 := hRg
 replace hRg : RgsD M X W (some ⟨b, 0, none⟩) n m s.rs ∧ X ≤ W.heap.size := ⟨hRg, by omega⟩
 have hti : Till M T W W := .refl _ _ _
 unfold sC at hX
 clear hN
 have hL1 := hL0.below hbb (by have := hL0.lt; omega)
 have hS1 := hS0.below hbb (by have := hS0.lt; omega)
 have hY1 := hY0.below hbb (by have := hY0.lt; omega)
 clear hL0 hS0 hY0
 show Calls Tryz.prog 149 #[pT X, pT L_, pT S_, pT Y_] W _
 have k1 := hL1.cell
 cases hne : (s.la != seen)
 ·
  have HEQ := Lib.hid (show s.la = seen by simpa using hne)
  have HCY := Lib.hid (show swingC true seen y s = some { s with la := y } by simp [swingC, hne])
  go_enter Tryz.func149, Tryz.ntmps149
  go_upto_region 2 with fail
  clear k1 hne
  refine wp_region2v (fun w w' => w = w') (fun _ _ h => Nat.le_of_eq (by rw [h])) (fun _ => rfl) (fun L W' => (L 5 = false → Below N w W') ∧ (L 5 = false → BoxAt W' X (aS s (some ⟨b, 0, none⟩) n m) 32) ∧ (L 5 = false → (RgsD M X W' (some ⟨b, 0, none⟩) n m s.rs ∧ X ≤ W'.heap.size)) ∧ (L 5 = false → Till M T W W') ∧ (L 5 = false → BoxAt W' S_ #[seen] 2) ∧ (L 5 = false → BoxAt W' Y_ #[y] 2)) (swtrueYV s X b n m M T N S_ Y_ seen y a0 W) (fun j => [0, 0, 0, 0, 0, 1, 0].getD j 0) [] (by kernel_rfl) (by kernel_rfl) ?_ ?_ ?_
   (.still rfl ?a0 <| .still rfl ?a1 <| .still rfl ?a2 <| .still rfl ?a3 <| .still rfl ?a4 <| .store rfl ?a5 <| .still rfl ?a6 <| .nil) ?_ ?_
  · exact ⟨fun _ _ _ h ⟨v, e, hp⟩ => ⟨v, (h 5 (List.mem_singleton.2 rfl)).symm.trans e, hp⟩, fun _ _ _ h ⟨v, e, hp⟩ => ⟨v, (h 6 (List.mem_singleton.2 rfl)).symm.trans e, hp⟩, trivial⟩
  · exact ⟨fun σ w w' hb ⟨v, e, hp⟩ => ⟨v, e, hb ▸ hp⟩, fun σ w w' hb ⟨v, e, hp⟩ => ⟨v, e, hb ▸ hp⟩, trivial⟩
  · exact ⟨fun _ => hbb.drew, fun _ => hX, fun _ => hRg, fun _ => hti.drewN _, fun _ => hS1, fun _ => hY1⟩
  case a0 | a1 | a2 =>
   go_light
   intro L σ W' hcl hL hC hw
   try have e0 := wT hw 0 rfl
   try have e1 := wT hw 1 rfl
   exact zcloA0
  case a3 =>
   go_light
   intro L σ W' hcl hL hC hw
   have h_ := (hC.2.2.2.2.1 (hcl.not (j := 5) (k := 3) (by kernel_rfl) hL))
   have k_ := h_.cell
   exact zcloA0
  case a4 =>
   go_light
   intro L σ W' hcl hL hC hw
   have h_ := (hC.2.2.2.2.2 (hcl.not (j := 5) (k := 4) (by kernel_rfl) hL))
   have k_ := h_.cell
   exact zcloA0
  case a5 =>
   go_light
   intro L σ W' hcl hL hC hw hne
   have e2 := wV hw 2 rfl
   have e3 := wV hw 3 rfl
   have e4 := wV hw 4 rfl
   clear hw hne
   obtain ⟨hbb, hX, hRg, hti, hS1, hY1⟩ := hC
   have hb7 := (hbb hL)
   have hX7 := (hX hL)
   have hRg7 := (hRg hL)
   have hti7 := (hti hL)
   have kX7 := hX7.cell
   have fX7 := hX7.frozen
   clear hcl hL
   refine OpGoes.go fun K hK => ?_
   go_simp
   refine (ichangeSeen_yes X 4 seen y _ (by rw [kX7 4, ← HEQ.out]; rfl) (fX7 _)).mono ?_
   rintro e w1 ⟨rfl, rfl⟩
   have hpost := ChPost.mkYes (c := swingC true seen y) (s := s) (a0 := a0) (B := N) (X := X) (M := M) (T := T) (K := fun _ => True) HCY.out (hti7.set (.inl hMX) _ _) trivial (t := { s with la := y }) (b := b) (n := n) (cap := m) (by have := hX7.set 4 (.int .i64 y); simpa [sC] using this) ((hRg7.1.setD (.inr (Nat.le_refl X)) _ _).mono (Nat.le_refl _) (by simp; exact hRg7.2))
   exact zcloA1
  case a6 =>
   exact zcloA5
  ·
   exact zcloA4
  ·
   exact zcloA3
 ·
  have HNE := Lib.hid hne
  have HCN := Lib.hid (show swingC true seen y s = none by simp [swingC, hne])
  go_enter Tryz.func149, Tryz.ntmps149
  go_upto_region 2 with fail
  clear k1 hne
  refine wp_region2v (fun w w' => w = w') (fun _ _ h => Nat.le_of_eq (by rw [h])) (fun _ => rfl) (fun L W' => (L 5 = false → Below N w W') ∧ (L 5 = false → BoxAt W' X (aS s (some ⟨b, 0, none⟩) n m) 32) ∧ (L 5 = false → (RgsD M X W' (some ⟨b, 0, none⟩) n m s.rs ∧ X ≤ W'.heap.size)) ∧ (L 5 = false → Till M T W W') ∧ (L 5 = false → BoxAt W' S_ #[seen] 2) ∧ (L 5 = false → BoxAt W' Y_ #[y] 2)) (swtrueNV s X b n m M T N S_ Y_ seen y a0 W) (fun j => [0, 0, 0, 0, 0, 1, 0].getD j 0) [] (by kernel_rfl) (by kernel_rfl) ?_ ?_ ?_
   (.still rfl ?a0 <| .still rfl ?a1 <| .still rfl ?a2 <| .still rfl ?a3 <| .still rfl ?a4 <| .store rfl ?a5 <| .still rfl ?a6 <| .nil) ?_ ?_
  · exact ⟨fun _ _ _ h ⟨v, e, hp⟩ => ⟨v, (h 5 (List.mem_singleton.2 rfl)).symm.trans e, hp⟩, fun _ _ _ h ⟨v, e, hp⟩ => ⟨v, (h 6 (List.mem_singleton.2 rfl)).symm.trans e, hp⟩, trivial⟩
  · exact ⟨fun σ w w' hb ⟨v, e, hp⟩ => ⟨v, e, hb ▸ hp⟩, fun σ w w' hb ⟨v, e, hp⟩ => ⟨v, e, hb ▸ hp⟩, trivial⟩
  · exact ⟨fun _ => hbb.drew, fun _ => hX, fun _ => hRg, fun _ => hti.drewN _, fun _ => hS1, fun _ => hY1⟩
  case a0 | a1 | a2 =>
   go_light
   intro L σ W' hcl hL hC hw
   try have e0 := wT hw 0 rfl
   try have e1 := wT hw 1 rfl
   exact zcloA0
  case a3 =>
   go_light
   intro L σ W' hcl hL hC hw
   have h_ := (hC.2.2.2.2.1 (hcl.not (j := 5) (k := 3) (by kernel_rfl) hL))
   have k_ := h_.cell
   exact zcloA0
  case a4 =>
   go_light
   intro L σ W' hcl hL hC hw
   have h_ := (hC.2.2.2.2.2 (hcl.not (j := 5) (k := 4) (by kernel_rfl) hL))
   have k_ := h_.cell
   exact zcloA0
  case a5 =>
   go_light
   intro L σ W' hcl hL hC hw hne
   have e2 := wV hw 2 rfl
   have e3 := wV hw 3 rfl
   have e4 := wV hw 4 rfl
   clear hw hne
   obtain ⟨hbb, hX, hRg, hti, hS1, hY1⟩ := hC
   have hb7 := (hbb hL)
   have hX7 := (hX hL)
   have hRg7 := (hRg hL)
   have hti7 := (hti hL)
   have kX7 := hX7.cell
   have fX7 := hX7.frozen
   have hg7 := hSN.keep (W' := W') (fun j hj => hb7.block j (by omega))
   clear hcl hL
   refine OpGoes.go fun K hK => ?_
   go_simp
   refine (ichangeSeen_no X 4 s.la seen y aN _ (kX7 4) hg7.2.2.1 HNE.out).mono ?_
   rintro e w1 ⟨rfl, rfl⟩
   have hpost := ChPost.mkNo (c := swingC true seen y) (s := s) (a0 := a0) (B := N) (X := X) (K := fun _ => True) HCN.out hti7 hNN (by have := hg7.2.1; omega) hg7.2.2.2
   have hsz := Nat.le_refl w1.heap.size
   exact zcloA1
  case a6 =>
   exact zcloA5
  ·
   exact zcloA4
  ·
   exact zcloA3
set_option maxRecDepth 100000 in
set_option maxHeartbeats 4000000 in
theorem iswing1_false (s : St) (seen y : Int) (n L_ S_ Y_ B : Nat) (a0 aN : Addr) (T : Nat) (w : World) (hL0 : BoxAt w L_ #[.bool false] 4) (hS0 : BoxAt w S_ #[seen] 2) (hY0 : BoxAt w Y_ #[y] 2) (hSN : Sent B w 4 aN) (hNN : aN ≠ a0) (hBw : B ≤ w.heap.size) :
  Changes (swingC false seen y) s n a0 T (fun _ => True) 149 [pT L_, pT S_, pT Y_] w := by
 intro W X b m M hbb hNM hMX hXW hX hRg
 have HLN := Lib.hid hRg.1
 obtain ⟨N, hN⟩ : ∃ N, N = w.heap.size := ⟨_, rfl⟩
 have hN1 : w.heap.size ≤ N := by omega
 have hNw : N ≤ w.heap.size := by omega
 have HN := Lib.hid hN
 have hMW : M ≤ W.heap.size := by omega
 replace hbb : Below N w W := hbb.mono (by omega)
 have hRg0 := hRg
 replace hRg : RgsD M X W (some ⟨b, 0, none⟩) n m s.rs ∧ X ≤ W.heap.size := ⟨hRg, by omega⟩
 have hti : Till M T W W := .refl _ _ _
 unfold sC at hX
 clear hN
 have hL1 := hL0.below hbb (by have := hL0.lt; omega)
 have hS1 := hS0.below hbb (by have := hS0.lt; omega)
 have hY1 := hY0.below hbb (by have := hY0.lt; omega)
 clear hL0 hS0 hY0
 show Calls Tryz.prog 149 #[pT X, pT L_, pT S_, pT Y_] W _
 have k1 := hL1.cell
 cases hne : (s.fi != seen)
 ·
  have HEQ := Lib.hid (show s.fi = seen by simpa using hne)
  have HCY := Lib.hid (show swingC false seen y s = some { s with fi := y } by simp [swingC, hne])
  go_enter Tryz.func149, Tryz.ntmps149
  go_upto_region 3 with fail
  clear k1 hne
  refine wp_region2v (fun w w' => w = w') (fun _ _ h => Nat.le_of_eq (by rw [h])) (fun _ => rfl) (fun L W' => (L 5 = false → Below N w W') ∧ (L 5 = false → BoxAt W' X (aS s (some ⟨b, 0, none⟩) n m) 32) ∧ (L 5 = false → (RgsD M X W' (some ⟨b, 0, none⟩) n m s.rs ∧ X ≤ W'.heap.size)) ∧ (L 5 = false → Till M T W W') ∧ (L 5 = false → BoxAt W' S_ #[seen] 2) ∧ (L 5 = false → BoxAt W' Y_ #[y] 2)) (swfalseYV s X b n m M T N S_ Y_ seen y a0 W) (fun j => [0, 0, 0, 0, 0, 1, 0].getD j 0) [] (by kernel_rfl) (by kernel_rfl) ?_ ?_ ?_
   (.still rfl ?a0 <| .still rfl ?a1 <| .still rfl ?a2 <| .still rfl ?a3 <| .still rfl ?a4 <| .store rfl ?a5 <| .still rfl ?a6 <| .nil) ?_ ?_
  · exact ⟨fun _ _ _ h ⟨v, e, hp⟩ => ⟨v, (h 5 (List.mem_singleton.2 rfl)).symm.trans e, hp⟩, fun _ _ _ h ⟨v, e, hp⟩ => ⟨v, (h 6 (List.mem_singleton.2 rfl)).symm.trans e, hp⟩, trivial⟩
  · exact ⟨fun σ w w' hb ⟨v, e, hp⟩ => ⟨v, e, hb ▸ hp⟩, fun σ w w' hb ⟨v, e, hp⟩ => ⟨v, e, hb ▸ hp⟩, trivial⟩
  · exact ⟨fun _ => hbb.drew, fun _ => hX, fun _ => hRg, fun _ => hti.drewN _, fun _ => hS1, fun _ => hY1⟩
  case a0 | a1 | a2 =>
   go_light
   intro L σ W' hcl hL hC hw
   try have e0 := wT hw 0 rfl
   try have e1 := wT hw 1 rfl
   exact zcloA0
  case a3 =>
   go_light
   intro L σ W' hcl hL hC hw
   have h_ := (hC.2.2.2.2.1 (hcl.not (j := 5) (k := 3) (by kernel_rfl) hL))
   have k_ := h_.cell
   exact zcloA0
  case a4 =>
   go_light
   intro L σ W' hcl hL hC hw
   have h_ := (hC.2.2.2.2.2 (hcl.not (j := 5) (k := 4) (by kernel_rfl) hL))
   have k_ := h_.cell
   exact zcloA0
  case a5 =>
   go_light
   intro L σ W' hcl hL hC hw hne
   have e2 := wV hw 2 rfl
   have e3 := wV hw 3 rfl
   have e4 := wV hw 4 rfl
   clear hw hne
   obtain ⟨hbb, hX, hRg, hti, hS1, hY1⟩ := hC
   have hb7 := (hbb hL)
   have hX7 := (hX hL)
   have hRg7 := (hRg hL)
   have hti7 := (hti hL)
   have kX7 := hX7.cell
   have fX7 := hX7.frozen
   clear hcl hL
   refine OpGoes.go fun K hK => ?_
   go_simp
   refine (ichangeSeen_yes X 3 seen y _ (by rw [kX7 3, ← HEQ.out]; rfl) (fX7 _)).mono ?_
   rintro e w1 ⟨rfl, rfl⟩
   have hpost := ChPost.mkYes (c := swingC false seen y) (s := s) (a0 := a0) (B := N) (X := X) (M := M) (T := T) (K := fun _ => True) HCY.out (hti7.set (.inl hMX) _ _) trivial (t := { s with fi := y }) (b := b) (n := n) (cap := m) (by have := hX7.set 3 (.int .i64 y); simpa [sC] using this) ((hRg7.1.setD (.inr (Nat.le_refl X)) _ _).mono (Nat.le_refl _) (by simp; exact hRg7.2))
   exact zcloA1
  case a6 =>
   exact zcloA5
  ·
   exact zcloA4
  ·
   exact zcloA3
 ·
  have HNE := Lib.hid hne
  have HCN := Lib.hid (show swingC false seen y s = none by simp [swingC, hne])
  go_enter Tryz.func149, Tryz.ntmps149
  go_upto_region 3 with fail
  clear k1 hne
  refine wp_region2v (fun w w' => w = w') (fun _ _ h => Nat.le_of_eq (by rw [h])) (fun _ => rfl) (fun L W' => (L 5 = false → Below N w W') ∧ (L 5 = false → BoxAt W' X (aS s (some ⟨b, 0, none⟩) n m) 32) ∧ (L 5 = false → (RgsD M X W' (some ⟨b, 0, none⟩) n m s.rs ∧ X ≤ W'.heap.size)) ∧ (L 5 = false → Till M T W W') ∧ (L 5 = false → BoxAt W' S_ #[seen] 2) ∧ (L 5 = false → BoxAt W' Y_ #[y] 2)) (swfalseNV s X b n m M T N S_ Y_ seen y a0 W) (fun j => [0, 0, 0, 0, 0, 1, 0].getD j 0) [] (by kernel_rfl) (by kernel_rfl) ?_ ?_ ?_
   (.still rfl ?a0 <| .still rfl ?a1 <| .still rfl ?a2 <| .still rfl ?a3 <| .still rfl ?a4 <| .store rfl ?a5 <| .still rfl ?a6 <| .nil) ?_ ?_
  · exact ⟨fun _ _ _ h ⟨v, e, hp⟩ => ⟨v, (h 5 (List.mem_singleton.2 rfl)).symm.trans e, hp⟩, fun _ _ _ h ⟨v, e, hp⟩ => ⟨v, (h 6 (List.mem_singleton.2 rfl)).symm.trans e, hp⟩, trivial⟩
  · exact ⟨fun σ w w' hb ⟨v, e, hp⟩ => ⟨v, e, hb ▸ hp⟩, fun σ w w' hb ⟨v, e, hp⟩ => ⟨v, e, hb ▸ hp⟩, trivial⟩
  · exact ⟨fun _ => hbb.drew, fun _ => hX, fun _ => hRg, fun _ => hti.drewN _, fun _ => hS1, fun _ => hY1⟩
  case a0 | a1 | a2 =>
   go_light
   intro L σ W' hcl hL hC hw
   try have e0 := wT hw 0 rfl
   try have e1 := wT hw 1 rfl
   exact zcloA0
  case a3 =>
   go_light
   intro L σ W' hcl hL hC hw
   have h_ := (hC.2.2.2.2.1 (hcl.not (j := 5) (k := 3) (by kernel_rfl) hL))
   have k_ := h_.cell
   exact zcloA0
  case a4 =>
   go_light
   intro L σ W' hcl hL hC hw
   have h_ := (hC.2.2.2.2.2 (hcl.not (j := 5) (k := 4) (by kernel_rfl) hL))
   have k_ := h_.cell
   exact zcloA0
  case a5 =>
   go_light
   intro L σ W' hcl hL hC hw hne
   have e2 := wV hw 2 rfl
   have e3 := wV hw 3 rfl
   have e4 := wV hw 4 rfl
   clear hw hne
   obtain ⟨hbb, hX, hRg, hti, hS1, hY1⟩ := hC
   have hb7 := (hbb hL)
   have hX7 := (hX hL)
   have hRg7 := (hRg hL)
   have hti7 := (hti hL)
   have kX7 := hX7.cell
   have fX7 := hX7.frozen
   have hg7 := hSN.keep (W' := W') (fun j hj => hb7.block j (by omega))
   clear hcl hL
   refine OpGoes.go fun K hK => ?_
   go_simp
   refine (ichangeSeen_no X 3 s.fi seen y aN _ (kX7 3) hg7.2.2.1 HNE.out).mono ?_
   rintro e w1 ⟨rfl, rfl⟩
   have hpost := ChPost.mkNo (c := swingC false seen y) (s := s) (a0 := a0) (B := N) (X := X) (K := fun _ => True) HCN.out hti7 hNN (by have := hg7.2.1; omega) hg7.2.2.2
   have hsz := Nat.le_refl w1.heap.size
   exact zcloA1
  case a6 =>
   exact zcloA5
  ·
   exact zcloA4
  ·
   exact zcloA3
theorem iswing1 (s : St) (last : Bool) (seen y : Int) (n L_ S_ Y_ B : Nat) (a0 aN : Addr) (T : Nat) (w : World) (hL0 : BoxAt w L_ #[last] 4) (hS0 : BoxAt w S_ #[seen] 2) (hY0 : BoxAt w Y_ #[y] 2) (hSN : Sent B w 4 aN) (hNN : aN ≠ a0) (hBw : B ≤ w.heap.size) :
  Changes (swingC last seen y) s n a0 T (fun _ => True) 149 [pT L_, pT S_, pT Y_] w := by
 cases last
 · exact iswing1_false s seen y n L_ S_ Y_ B a0 aN T w hL0 hS0 hY0 hSN hNN hBw
 · exact iswing1_true s seen y n L_ S_ Y_ B a0 aN T w hL0 hS0 hY0 hSN hNN hBw
theorem mild_swing {s t : St} {last : Bool} {seen y : Int} (hok : stOk s = true) (ht : swingC last seen y s = some t) : Mild t := by
 have hn := stOk_neat hok
 have hm : Mild s := ⟨by have := hn.2.1; omega, fun r hr => by have := (hn.2.2 r hr).2; omega⟩
 unfold swingC at ht
 split at ht <;> split at ht
 · cases ht
 · injection ht with ht; subst ht; exact hm
 · cases ht
 · injection ht with ht; subst ht; exact hm
set_option maxRecDepth 100000 in
set_option maxHeartbeats 4000000 in
theorem iswing_any (s : St) (A : Option Addr) (n cap lo hi B : Nat) (a0 a1 a2 : Addr) (last : Bool) (seen y : Int) (w : World) (hs : RgsW lo hi w A n cap s.rs) (hh : hi ≤ w.heap.size) (hBw : B ≤ w.heap.size) (he : Errs B w a0 a1) (hS0 : Sent B w 4 a2) (hN0 : a2 ≠ a0) (hm : n ≤ 1048576) (hpn : ∀ r ∈ s.rs, r.ps.length ≤ 1048576) :
  Calls Tryz.prog 127 #[stV s A n cap, last, seen, y] w (RetSBD (swing s last seen y) w) := by
 have HPN := Lib.hid hpn; clear hpn
 have HLN := Lib.hid hs.1
 have HV := Lib.hid (swing_done s last seen y)
 obtain ⟨N, hN⟩ : ∃ N, N = w.heap.size := ⟨_, rfl⟩
 have hN1 : w.heap.size ≤ N := by omega
 have hNw : N ≤ w.heap.size := by omega
 have HN := Lib.hid hN
 have hBN : B ≤ N := by omega
 unfold stV
 go_enter Tryz.func127, Tryz.ntmps127
 go_upto_region 1 with fail
 rw [← HN.out]
 refine wp_abs (fun W => Below N w W ∧ N + 5 ≤ W.heap.size ∧ BoxAt W N (aS s A n cap) 32 ∧ BoxAt W (N + 1) #[last] 4 ∧ BoxAt W (N + 2) #[seen] 2 ∧ BoxAt W (N + 3) #[y] 2 ∧ BoxAt W (N + 4) zS 32) ⟨((((((Below.refl _ _).alloc hNw _).alloc (by simp; omega) _).alloc (by simp; omega) _).alloc (by simp; omega) _).alloc (by simp; omega) _), by simp; omega, (((((BoxAt.new' (by omega)).alloc _).alloc _).alloc _).alloc _), ((((BoxAt.new' (by simp; omega)).alloc _).alloc _).alloc _), (((BoxAt.new' (by simp; omega)).alloc _).alloc _), ((BoxAt.new' (by simp; omega)).alloc _), (BoxAt.new' (by simp; omega))⟩ ?_
 clear hN
 rintro W0 ⟨hB, hsz, hx, hc1, hc2, hc3, hz⟩
 have ks := hx.cell
 go_wp2_with fail
 clear ks
 have hc1_ := hc1
 have hc2_ := hc2
 have hc3_ := hc3
 have hx3 := hx
 have hs3 := hs.keep (w' := W0) (fun j _ hj => hB.block j (by omega))
 have he3 := he.below hB (by omega)
 refine (idoneOrNot_any (swingC last seen y) s A n cap lo hi B N a0 a1 (fun _ => True) 149 [pT (N + 1), pT (N + 2), pT (N + 3)] W0 hs3 (by omega) (by omega) (by omega) hBN (by omega) he3 hm HPN.out (fun t hok ht => mild_swing hok ht) (fun _ _ _ _ => trivial) (fun hok => iswing1 s last seen y n (N + 1) (N + 2) (N + 3) B a0 a2 N W0 hc1_ hc2_ hc3_ (hS0.keep (fun j hj => hB.block j (by omega))) hN0 (by omega)) (enters_of Tryz.func149 (by kernel_rfl) rfl)).mono ?_
 rintro e w1 ⟨A', n', c', rfl, hR1, hk1, hbt⟩
 replace hz := hbt.box hz (by omega)
 have hbt2 := hbt.size
 replace hB := hB.trans (hbt.below (Nat.le_refl _) (by omega))
 unfold stV
 have kz := hz.cell
 have fz := hz.frozen
 go_wp2
 refine bodyPost_ret (v := .tuple #[stV (done (swingC last seen y) s).1 A' n' c', .bool (done (swingC last seen y) s).2]) (by simp [results, Tryz.results127, go_sem, kz, stV]) rfl ?_
 rw [HV.out]
 exact ⟨A', n', c', rfl, ((((((hR1.setD (.inl (by omega)) _ _).setD (.inl (by omega)) _ _).setD (.inl (by omega)) _ _).setD (.inl (by omega)) _ _).setD (.inl (by omega)) _ _)).mono (by omega) (by simp), ((sc (sc (sc (sc (sc hB)))))).mono hN1⟩
end Go.Proofs.YthpckpnlohfcbaaGreatDoor

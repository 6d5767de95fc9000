/-
  Done, or not: what is answered of what was tried, of the program.
-/
import Derived.Test.YtbpjhdoldodlnaaDoorTriA
import Derived.Test.YtbpjhdoldodlnaaDoorErrI
import Derived.Test.YtbpjhdoldodlnaaDoorErrA
namespace Go.Proofs.YtbpjhdoldodlnaaDoor
open Go.RowKit
set_option linter.unusedVariables false
attribute [local go_sem] OpUpon
attribute [local go_sem ↓] Go.wp_at_zero Go.wp_at_succ

theorem Changes.below {c : St → Option St} {s : St} {n : Nat} {a0 : Addr} {T : Nat} {K : World → Prop} {f : FuncId} {cs : List Value} {w w' : World} (h : Changes c s n a0 T K f cs w) (hb : Below w.heap.size w w') : Changes c s n a0 T K f cs w' :=
  fun W X b m M h1 h2 h3 h4 h5 h6 => (h W X b m M (hb.trans (h1.mono hb.size)) (Nat.le_trans hb.size h2) h3 h4 h5 h6).mono fun e w2 hp => by
    unfold ChPost at hp ⊢
    refine ⟨hp.1, ?_⟩
    have h := hp.2
    cases hc : c s with
    | none =>
      rw [hc] at h
      obtain ⟨a, cs, t, h1, h2, h3, h4⟩ := h
      exact ⟨a, cs, t, h1, h2, h3, Nat.lt_of_lt_of_le h4 hb.size⟩
    | some t => rw [hc] at h; exact h

theorem itried_any (c : St → Option St) (s : St) (A : Option Addr) (n cap lo hi B T : Nat) (a0 a1 : Addr) (K : World → Prop) (f : FuncId) (cs : List Value) (w : World) (hs : RgsW lo hi w A n cap s.rs) (hh : hi ≤ w.heap.size) (hT : hi ≤ T) (hTl : T < w.heap.size) (hBT : B ≤ T) (hBw : B ≤ w.heap.size) (he : Errs B w a0 a1) (hm : n ≤ 1048576) (hpn : ∀ r ∈ s.rs, r.ps.length ≤ 1048576)
    (hmild : ∀ t, stOk s = true → c s = some t → Mild t) (hK : ∀ W W', K W → Below w.heap.size W W' → K W') (hch : stOk s = true → Changes c s n a0 T K f cs w) (hen : Enters Tryd.prog f) :
    Calls Tryd.prog 70 #[stV s A n cap, .func (.func f) #[] cs.toArray] w (Tried c s A n cap T K a0 w) := by
  cases hok : stOk s
  · exact itried_bad c s A n cap lo hi B T a0 a1 K _ w hs hh hT hTl hBT hBw he hm hpn hok
  · exact itried_ok c s A n cap lo hi B T a0 a1 K f cs w hs hh hT hTl hBT hBw he hm hpn hok (fun t => hmild t hok) hK (hch hok) hen

/-- A store of the call's own is returned, and whether it is done. -/
def RetDone (q : St × Bool) (T : Nat) (K : World → Prop) (w : World) (e : Ending) (w' : World) : Prop :=
  ∃ A n cap, e = .returned (.tuple #[stV q.1 A n cap, .bool q.2]) ∧ RgsD w.heap.size w'.heap.size w' A n cap q.1.rs ∧ (q.2 = true → K w') ∧ But T w w'

set_option maxRecDepth 100000 in
set_option maxHeartbeats 4000000 in
theorem idoneOrNot_any (c : St → Option St) (s : St) (A : Option Addr) (n cap lo hi B T : Nat) (a0 a1 : Addr) (K : World → Prop) (f : FuncId) (cs : List Value) (w : World) (hs : RgsW lo hi w A n cap s.rs) (hh : hi ≤ w.heap.size) (hT : hi ≤ T) (hTl : T < w.heap.size) (hBT : B ≤ T) (hBw : B ≤ w.heap.size) (he : Errs B w a0 a1) (hm : n ≤ 1048576) (hpn : ∀ r ∈ s.rs, r.ps.length ≤ 1048576)
    (hmild : ∀ t, stOk s = true → c s = some t → Mild t) (hK : ∀ W W', K W → Below w.heap.size W W' → K W') (hch : stOk s = true → Changes c s n a0 T K f cs w) (hen : Enters Tryd.prog f) :
    Calls Tryd.prog 47 #[stV s A n cap, .func (.func f) #[] cs.toArray] w (RetDone (done c s) T K w) := by
  have HK := Lib.hid hK; clear hK
  have HMI := Lib.hid hmild; clear hmild
  have HCH := Lib.hid hch; clear hch
  have HEN := Lib.hid hen; clear hen
  have HPN := Lib.hid hpn; clear hpn
  have HLN := Lib.hid hs.1
  obtain ⟨N, hN⟩ : ∃ N, N = w.heap.size := ⟨_, rfl⟩
  have hN1 : w.heap.size ≤ N := by omega
  have hN2 : N ≤ w.heap.size := by omega
  have HN := Lib.hid hN
  unfold stV
  go_enter Tryd.func47, Tryd.ntmps47
  go_wp2_with fail
  rw [← HN.out]
  refine calls_abs (fun W => Below N w W ∧ BoxAt W (N + 1) #[.int .i64 0, .int .i64 0, .slice none 0 0, .int .i64 0, .int .i64 0] 28 ∧ N + 2 ≤ W.heap.size) ⟨((Below.refl _ _).alloc hN2 _).alloc (by simp; omega) _, BoxAt.new' (by simp; omega), by simp; omega⟩ ?_
  clear hN
  rintro W ⟨hB, hz, hW⟩
  have hsW := hs.keep (w' := W) (fun j _ hj => hB.block j (by omega))
  have hBs := hB.size
  refine (itried_any c s A n cap lo hi B T a0 a1 K f cs W hsW (by omega) hT (by omega) hBT (by omega) (he.below hB (by omega)) hm HPN.out HMI.out (fun W1 W2 h h' => HK.out W1 W2 h (h'.mono (by omega))) (fun h => (HCH.out h).below (hB.mono hN1)) HEN.out).mono ?_
  intro e w1 hpost
  unfold Tried at hpost
  have hzT : N + 1 ≠ T := by omega
  cases hq : (done c s).2 with
  | true =>
    rw [hq, if_pos rfl] at hpost
    obtain ⟨b, m, k, rfl, hR, hk, hbt⟩ := hpost
    replace hz := hbt.box hz hzT
    replace hB : But T w w1 := (But.of_below (hB.mono hN1)).trans hbt
    replace he := he.but hB hBT hBw
    have hw1 := hbt.size
    clear hbt hsW
    unfold stV
    go_upto_region 3 with fail
    refine wp_abs (fun W' => But T w W' ∧ BoxAt W' (N + 1) #[.int .i64 0, .int .i64 0, .slice none 0 0, .int .i64 0, .int .i64 0] 28 ∧ BoxAt W' w1.heap.size #[.int .i64 (done c s).1.rd, .int .i64 (done c s).1.mo, .slice (some ⟨b, 0, none⟩) m k, .int .i64 (done c s).1.fi, .int .i64 (done c s).1.la] 28 ∧ RgsD W.heap.size w1.heap.size W' (some ⟨b, 0, none⟩) m k (done c s).1.rs ∧ K W' ∧ Errs B W' a0 a1 ∧ w1.heap.size < W'.heap.size) ?_ ?_
    · have b1 := (Below.refl w1.heap.size w1).alloc (Nat.le_refl _) (.cells #[.int .i64 (done c s).1.rd, .int .i64 (done c s).1.mo, .slice (some ⟨b, 0, none⟩) m k, .int .i64 (done c s).1.fi, .int .i64 (done c s).1.la] 28)
      have b2 := b1.alloc (by simp) (.cells #[.pointer none] 94)
      exact ⟨hB.step b2, (hz.alloc _).alloc _, (BoxAt.new _ _ _).alloc _, hR.keep (.below b2 (Nat.le_refl _)), HK.out _ _ hk (b2.mono (by omega)), he.below b2 (by omega), by simp; omega⟩
    clear hB hz hR hk he
    generalize w1.heap.size = Y at *
    rintro W2 ⟨hB, hz, hy, hR, hk, he, hY⟩
    have kg := he.s0.2.2.1
    go_wp2_with fail
    clear kg
    refine (is_nil a0 _).mono ?_
    rintro e w3 ⟨rfl, rfl⟩
    go_wp2_with fail
    refine (as_nil _ _).mono ?_
    rintro e w4 ⟨rfl, rfl⟩
    have kz := hz.cell
    have fz := hz.frozen
    have ky := hy.cell
    go_wp2
    refine bodyPost_ret (v := .tuple #[stV (done c s).1 (some ⟨b, 0, none⟩) m k, .bool true]) (by simp [results, Tryd.results47, go_sem, kz, stV]) rfl ⟨some ⟨b, 0, none⟩, m, k, by rw [hq], ?_, ?_, ?_⟩
    · exact ((((((hR.setD (.inl (by omega)) _ _).setD (.inl (by omega)) _ _).setD (.inl (by omega)) _ _).setD (.inl (by omega)) _ _).setD (.inl (by omega)) _ _)).mono (by omega) (by simp; omega)
    · exact fun _ => HK.out _ _ hk (((((((Below.refl _ _).setCell (by dsimp only; omega) _).setCell (by dsimp only; omega) _).setCell (by dsimp only; omega) _).setCell (by dsimp only; omega) _).setCell (by dsimp only; omega) _))
    · exact (((((hB.setN (by omega) _ _).setN (by omega) _ _).setN (by omega) _ _).setN (by omega) _ _).setN (by omega) _ _)
  | false =>
    rw [hq, if_neg (by decide)] at hpost
    obtain ⟨p, a, ca, ta, rfl, hp, hP, hbad, hA, hbt⟩ := hpost
    have HQ := Lib.hid hq
    have HBAD := Lib.hid hbad
    replace hz := hbt.box hz hzT
    replace hB : But T w w1 := (But.of_below (hB.mono hN1)).trans hbt
    replace he := he.but hB hBT hBw
    have hw1 := hbt.size
    clear hbt hsW hbad hq
    go_upto_region 3 with fail
    refine wp_abs (fun W' => But T w W' ∧ BoxAt W' (N + 1) #[.int .i64 0, .int .i64 0, .slice none 0 0, .int .i64 0, .int .i64 0] 28 ∧ BoxAt W' (w1.heap.size + 1) #[.pointer none] 94 ∧ BoxAt W' p #[.int .i64 s.rd, .int .i64 s.mo, .slice A n cap, .int .i64 s.fi, .int .i64 s.la, .iface 153 (.pointer (some a))] 99 ∧ BoxAt W' a.block ca ta ∧ Errs B W' a0 a1 ∧ p < w1.heap.size) ?_ ?_
    · have b1 := (Below.refl w1.heap.size w1).alloc (Nat.le_refl _) (.cells #[.int .i64 0, .int .i64 0, .slice none 0 0, .int .i64 0, .int .i64 0] 28)
      have b2 := b1.alloc (by simp) (.cells #[.pointer none] 94)
      exact ⟨hB.step b2, (hz.alloc _).alloc _, BoxAt.new' (by simp), (hP.alloc _).alloc _, (hA.alloc _).alloc _, he.below b2 (by omega), hP.lt⟩
    clear hB hz hP hA he
    generalize w1.heap.size = Y at *
    rintro W2 ⟨hB, hz, hy, hP, hA, he, hpY⟩
    have kg := he.s0.2.2.1
    obtain ⟨c0, t0, hb0⟩ := he.s0.2.2.2
    have kp := hP.cell 5
    cases hok : stOk s with
    | false =>
      obtain rfl : a = a0 := HBAD.out.2 hok
      have HV := Lib.hid (show done c s = (.zero, false) from done_bad hok)
      clear hok
      go_wp2_with fail
      clear kg
      refine (is_ours_same p a _ kp).mono ?_
      rintro e w3 ⟨rfl, rfl⟩
      clear kp
      have kz := hz.cell
      have fz := hz.frozen
      go_wp2
      refine bodyPost_ret (v := .tuple #[.agg #[.int .i64 0, .int .i64 0, .slice none 0 0, .int .i64 0, .int .i64 0], .bool false]) (by simp [results, Tryd.results47, go_sem, kz]) rfl ⟨none, 0, 0, by rw [HV.out]; rfl, ?_, ?_, ?_⟩
      · rw [HV.out]; exact RgsD.nil
      · rw [HV.out]; exact fun h => by cases h
      · exact (((((hB.setN (by omega) _ _).setN (by omega) _ _).setN (by omega) _ _).setN (by omega) _ _).setN (by omega) _ _)
    | true =>
      have hne : a ≠ a0 := fun h => by have := HBAD.out.1 h; rw [hok] at this; cases this
      have HNE := Lib.hid hne
      have hn1 : 1 ≤ n := by have := (stOk_neat hok).1; have := HLN.out; omega
      have HCP := Lib.hid (stOk_neat hok).cp
      have HV := Lib.hid (show done c s = (s, false) by
        have h := HQ.out
        revert h
        unfold done thenB
        rw [hok]
        cases c s with
        | none => exact fun _ => rfl
        | some t => cases hst : stOk t <;> simp [hst])
      clear hok hne
      go_wp2_with fail
      clear kg
      refine (is_ours_other p a0 a ca c0 ta t0 _ kp HNE.out hA hb0).mono ?_
      rintro e w3 ⟨rfl, rfl⟩
      clear kp
      go_wp2_with fail
      refine (as_ours ⟨p, 0, none⟩ (Y + 1) (.pointer none) _ he.et hy).mono ?_
      rintro e w4 ⟨rfl, hb4, hy4⟩
      replace hz := hb4.box hz (by omega)
      replace hP := hb4.box hP (by omega)
      replace hB : But T w w4 := ⟨hb4.os.trans hB.os, hb4.tape.trans hB.tape, hb4.output.trans hB.output, Nat.le_trans hB.size hb4.size, fun j hj hk => (hb4.block j (by have := hB.size; omega) (by omega)).trans (hB.block j hj hk)⟩
      clear hb4 he hA hb0 hy
      have ky := hy4.cell
      have kP := hP.cell
      have lP := hP.lt
      go_wp2_with fail
      clear ky kP
      have hs4 := hs.keep (w' := w4) (fun j _ hj => hB.block j (by omega) (by omega))
      have hB4 := hB.size
      refine (icopy_any s A n cap lo hi _ hs4 (by omega) hn1 hm HCP.out).mono ?_
      rintro e w5 ⟨b, m, rfl, hR, hb5⟩
      replace hz := hz.below hb5 hz.lt
      replace hB := hB.step hb5
      have hw5 := hb5.size
      have lz := hz.lt
      clear hb5 hs4
      unfold stV
      have kz := hz.cell
      have fz := hz.frozen
      go_wp2
      have hNl : N + 1 < w4.heap.size := by omega
      refine bodyPost_ret (v := .tuple #[stV s (some ⟨b, 0, none⟩) n m, .bool false]) (by simp [results, Tryd.results47, go_sem, kz, stV]) rfl ⟨some ⟨b, 0, none⟩, n, m, by rw [HV.out], ?_, ?_, ?_⟩
      · rw [HV.out]
        exact ((((((hR.setD (.inl (by omega)) _ _).setD (.inl (by omega)) _ _).setD (.inl (by omega)) _ _).setD (.inl (by omega)) _ _).setD (.inl (by omega)) _ _)).mono (by omega) (by simp)
      · rw [HV.out]; exact fun h => by cases h
      · exact (((((hB.setN (by omega) _ _).setN (by omega) _ _).setN (by omega) _ _).setN (by omega) _ _).setN (by omega) _ _)

end Go.Proofs.YtbpjhdoldodlnaaDoor

/-
  The draws of turns and of jobs.
-/
import Derived.Test.YtlpcpaehkgaffaaCurB
import Derived.Test.YtlpcpaehkgaffaaCrewH
namespace Go.Proofs.Ytlpcpaehkgaffaa
set_option linter.unusedSimpArgs false
set_option linter.unusedVariables false
open Go.RowKit
set_option linter.unusedVariables false
attribute [local go_sem ↓] Go.wp_at_zero Go.wp_at_succ

theorem But.grown {k : Nat} {a b c : World} {row : Option Nat} (h : But k a b) (hg : b.grownBy c row) (hr : ∀ g, row = some g → a.heap.size ≤ g) : But k a c :=
  ⟨hg.os.trans h.os, hg.tape.trans h.tape, hg.output.trans h.output, Nat.le_trans h.size hg.size, fun j hj hk => (hg.block j (Nat.lt_of_lt_of_le hj h.size) (fun e => by have := hr j e.symm; omega)).trans (h.block j hj hk)⟩
theorem CurAt.grown {k : Nat} {w w' : World} {a0 : Option Addr} {len cap : Nat} {row : Option Nat} (h : CurAt w k a0 len cap) (hg : w.grownBy w' row) (hr : row ≠ some k) : CurAt w' k a0 len cap := by
  obtain ⟨i, x, hi, hb⟩ := h
  exact ⟨i, x, hi, hb.grown2 hg hr⟩
theorem own_but {k N : Nat} {e : TypeId} {s : Nat} {v : Value} {n : Nat} {xs : List Value} {w w' : World} (h : w.ownsRow N e s v n xs) (hb : But k w w') (hk : k < N) : w'.ownsRow N e s v n xs := by
  refine ⟨h.1, ?_⟩
  rcases h.2 with h' | ⟨g, cap, cur, hv, hg, hh, hr⟩
  · exact .inl h'
  · exact .inr ⟨g, cap, cur, hv, hg, (hb.block g (Array.getElem?_eq_some_iff.1 hh).1 (by omega)).trans hh, hr⟩
theorem KeepT.but {T : TypeId} {k : Nat} {w w' : World} {cs : Array Value} {t : TypeId} (hb : But k w w') (hk : BoxAt w k cs t) (ht : t ≠ T) : KeepT T w w' := fun g cs' hg => hb.block g hg.lt (by
  rintro rfl
  unfold BoxAt at hg hk
  rw [hg] at hk
  injection hk with hk
  injection hk with _ hk
  exact ht hk.symm)
theorem CurAt.box {k : Nat} {w : World} {a0 : Option Addr} {len cap : Nat} (h : CurAt w k a0 len cap) : ∃ cs, BoxAt w k cs 58 := by
  obtain ⟨i, x, hi, hb⟩ := h
  exact ⟨_, hb⟩

/-- Numbers are drawn: a list of them, of the call's own. -/
def DrawsL (m : Nat) (k : Nat) (a0 : Option Addr) (len cap : Nat) (w : World) (e : Ending) (w' : World) : Prop :=
  ∃ (l : List Int) (A : Option Addr) (c : Nat), e = .returned (.slice A l.length c) ∧ l.length ≤ m ∧ IntsW w.heap.size w'.heap.size w' A l.length c l ∧ But k w w' ∧ CurAt w' k a0 len cap

set_option maxRecDepth 100000 in
set_option maxHeartbeats 2000000 in
theorem l10DrawTurns_any (N k : Nat) (a0 : Option Addr) (len cap : Nat) (n : Int) (most : Nat) (w : World) (hc : CodeOk N w a0 len) (hk : N ≤ k) (hN : N ≤ w.heap.size) (hcur : CurAt w k a0 len cap) (hn : 0 < n) (hm0 : 0 < most) (hm1 : most ≤ 256) :
    Calls Try.prog 49 #[.pointer (some ⟨k, 0, none⟩), .int .i64 n, .int .i64 most] w (DrawsL most k a0 len cap w) := by
  obtain ⟨i0, hi0, hz0, hz1, hz2⟩ := info_parts int_info
  have HI := Lib.hid hi0
  have HZ0 := Lib.hid hz0
  have HZ1 := Lib.hid hz1
  have HZ2 := Lib.hid hz2
  clear hi0 hz0 hz1 hz2
  have lk := hcur.lt
  go_enter Try.func49, Try.ntmps49
  go_wp2_with fail
  refine calls_abs (fun W => But k w W ∧ CurAt W k a0 len cap ∧ W.ownsRow w.heap.size 2 1 (.slice (some ⟨w.heap.size, 0, none⟩) 0 0) 0 (([] : List Int).flatMap ic)) ⟨(But.refl _ _).alloc _, hcur.alloc _, own_made rfl (Nat.le_refl _)⟩ ?_
  rintro W0 ⟨hB, hcur0, hO⟩
  refine (l1Below_any N k a0 len cap _ _ (hc.below (hB.below hk hN)) hk (Nat.le_trans hN hB.size) hcur0 (by omega)).mono ?_
  rintro e w1 ⟨x, ⟨x0, x1⟩, rfl, hB1, hcur1⟩
  replace hO := own_but hO hB1 lk
  replace hB := hB.trans hB1
  clear hB1 hcur0
  go_wp2
  go_loopw [7, 8] (fun s7 s8 W => ∃ (l : List Int) (z : Int) (A : Option Addr) (c : Nat), s7 = .slice A l.length c ∧ s8 = .int .i64 z ∧ -1 ≤ z ∧ (l.length : Int) + z ≤ (most : Int) - 1 ∧ But k w W ∧ CurAt W k a0 len cap ∧ W.ownsRow w.heap.size 2 1 (.slice A l.length c) l.length (l.flatMap ic)) (fun _ s8 _ => (intOf s8).toNat)
  case atStart => exact ⟨[], x, some ⟨w.heap.size, 0, none⟩, 0, rfl, rfl, by omega, by simp; omega, hB, hcur1, hO⟩
  case round =>
    clear hB hcur1 hO
    obtain ⟨l, z, A, c, rfl, rfl, hz1, hz2, hB, hcur1, hO⟩ := hrel
    by_cases hzp : 0 < z
    · have hll : l.length < 256 := by omega
      go_wp2_with fail
      refine (l1Below_any N k a0 len cap _ _ (hc.below (hB.below hk hN)) hk (Nat.le_trans hN hB.size) hcur1 hn).mono ?_
      rintro e w2 ⟨v, ⟨v0, v1⟩, rfl, hB2, hcur2⟩
      replace hO := own_but hO hB2 lk
      replace hB := hB.trans hB2
      clear hB2 hcur1
      have hws := hB.size
      go_wp2_with (at_builtin; go_must (refine wpList_append_own_at _ rfl (.tmp 17) (.tmp 21) _ rfl w.heap.size 2 i0 _ 1 8 Try.underlying49 HI.out HZ0.out HZ1.out HZ2.out rfl (by omega) (.slice A l.length c) l.length _ rfl (hO.alloc _) ⟨w2.heap.size, 0, none⟩ 1 1 [.int .i64 v] rfl rfl (news_alloc _ _ _) (by intro u hu; simp at hu; subst hu; rfl) (by unfold maxLen; omega) (by omega) (by simp; omega) ?_; intro v' w' hO' hg' hz' hat'; clear hz' hat'; obtain ⟨g', cap'', rfl, hP'⟩ := Own.of_row (f := ic) (l := l ++ [v]) (by rw [List.flatMap_append]; exact hO') (by simp) (by omega); have hB' := But.grown (hB.alloc _) hg' (fun g hg => (hO.lt g hg).1); have hcur' := CurAt.grown (hcur2.alloc _) hg' (fun e => by have := (hO.lt k e).1; omega)))
      go_loopw [7, 8] (fun s7 s8 W => ∃ (l' : List Int) (z' : Int) (A : Option Addr) (c : Nat), s7 = .slice A l'.length c ∧ s8 = .int .i64 z' ∧ 0 ≤ z' ∧ z' ≤ z ∧ 1 ≤ l'.length ∧ (l'.length : Int) + z' ≤ (most : Int) ∧ But k w W ∧ CurAt W k a0 len cap ∧ W.ownsRow w.heap.size 2 1 (.slice A l'.length c) l'.length (l'.flatMap ic)) (fun _ s8 _ => (intOf s8).toNat)
      case atStart => exact ⟨l ++ [v], z, some ⟨g', 0, none⟩, cap'', by simp, rfl, by omega, by omega, by simp, by simp; omega, hB', hcur', by have := hP'.own ic_len; simpa using this⟩
      case round =>
        clear hB hcur2 hO hB' hcur' hP' hg' hO'
        obtain ⟨l', z', A', c', rfl, rfl, hy0, hy1, hy2, hy3, hB, hcur1, hO⟩ := hrel
        go_wp2_with fail
        refine (l1Once_any N k a0 len cap _ _ (hc.below (hB.below hk hN)) hk (Nat.le_trans hN hB.size) hcur1 (by omega)).mono ?_
        rintro e w3 ⟨b, rfl, hB3, hcur3⟩
        replace hO := own_but hO hB3 lk
        replace hB := hB.trans hB3
        clear hB3 hcur1
        have hws := hB.size
        cases b
        · go_wp2
          go_roundw
          case rel => exact ⟨l', z' - 1, A', c', rfl, rfl, by omega, by omega, hB, hcur3, hO⟩
          case measure => simp [intOf]; omega
        · by_cases hyp : 0 < z'
          · have hyd : decide (0 < z') = true := decide_eq_true hyp
            obtain ⟨g2, cap2, e2, hP2⟩ := Own.of_row (f := ic) hO rfl (by omega)
            injection e2 with e2 _ e3
            subst e2 e3
            have hl1 : l'.length - 1 < l'.length := by omega
            have hle : l'[l'.length - 1]? = some (l'[l'.length - 1]'hl1) := List.getElem?_eq_getElem hl1
            have kl := Own.cell_ ic_len hP2 (j := 0) hle rfl
            rw [Nat.mul_one, Nat.add_zero] at kl
            generalize l'[l'.length - 1]'hl1 = vv at *
            clear hle
            have hg1 : (0 : Int) ≤ (l'.length : Int) - 1 := by omega
            have hg2 : (l'.length : Int) - 1 < (l'.length : Int) := by omega
            have hnt : ((l'.length : Int) - 1).toNat = l'.length - 1 := by omega
            have hnn : (1 : Int) ≤ (l'.length : Int) := by omega
            go_wp2_with (at_builtin; go_must (refine wpList_append_own_at _ rfl (.tmp 29) (.tmp 36) _ rfl w.heap.size 2 i0 _ 1 8 Try.underlying49 HI.out HZ0.out HZ1.out HZ2.out rfl (by omega) (.slice (some ⟨g2, 0, none⟩) l'.length c') l'.length _ rfl (hO.alloc _) ⟨w3.heap.size, 0, none⟩ 1 1 [.int .i64 vv] rfl rfl (news_alloc _ _ _) (by intro u hu; simp at hu; subst hu; rfl) (by unfold maxLen; omega) (by omega) (by simp; omega) ?_; intro v' w' hO' hg' hz' hat'; clear hz' hat'; obtain ⟨g', cap'', rfl, hP'⟩ := Own.of_row (f := ic) (l := l' ++ [vv]) (by rw [List.flatMap_append]; exact hO') (by simp) (by omega); have hB' := But.grown (hB.alloc _) hg' (fun g hg => (hO.lt g hg).1); have hcur' := CurAt.grown (hcur3.alloc _) hg' (fun e => by have := (hO.lt k e).1; omega)))
            go_roundw
            case rel => exact ⟨l' ++ [vv], z' - 1, some ⟨g', 0, none⟩, cap'', by simp, rfl, by omega, by omega, by simp, by simp; omega, hB', hcur', by have := hP'.own ic_len; simpa using this⟩
            case measure => simp [intOf]; omega
          · have hyd : decide (0 < z') = false := decide_eq_false hyp
            go_wp2
            go_roundw
            case rel => exact ⟨l', z' - 1, A', c', rfl, rfl, by omega, by omega, hB, hcur3, hO⟩
            case measure => simp [intOf]; omega
    · have HO := Lib.hid hO; clear hO
      go_wp2
      go_ret
      exact ⟨l, A, c, rfl, by omega, SlW.of_own' (f := ic) HO.out rfl, hB, hcur1⟩

end Go.Proofs.Ytlpcpaehkgaffaa

/-
  The draw of jobs.
-/
namespace Go.Proofs.Ytlpcpaehkgaffaa
set_option linter.unusedSimpArgs false
set_option linter.unusedVariables false
open Go.RowKit
set_option linter.unusedVariables false
attribute [local go_sem ↓] Go.wp_at_zero Go.wp_at_succ

theorem SameIn.grown {lo M : Nat} {w w' : World} {row : Option Nat} (hg : w.grownBy w' row) (hr : ∀ g, row = some g → M ≤ g) (hM : M ≤ w.heap.size) : SameIn lo M w w' := fun j _ h2 => hg.block j (by omega) (fun e => by have := hr j e.symm; omega)
theorem own_keepT {N : Nat} {e : TypeId} {s : Nat} {v : Value} {n : Nat} {xs : List Value} {w w' : World} (h : w.ownsRow N e s v n xs) (hk : KeepT e w w') : w'.ownsRow N e s v n xs := by
  refine ⟨h.1, ?_⟩
  rcases h.2 with h' | ⟨g, cap, cur, hv, hg, hh, hr⟩
  · exact .inl h'
  · exact .inr ⟨g, cap, cur, hv, hg, (hk g cur hh).trans hh, hr⟩
theorem EachW.push {lo hi : Nat} {w : World} {rows : List Jw} {L : List (List Int)} {l : List Int} {a : Jw} (h : EachW lo hi w rows L) (ha : IntsW lo hi w a.A a.n a.cap l) : EachW lo hi w (rows ++ [a]) (L ++ [l]) := by
  refine ⟨by simp [h.1], fun j b m hb hm => ?_⟩
  by_cases hj : j < rows.length
  · rw [List.getElem?_append_left hj] at hb
    rw [List.getElem?_append_left (by have := h.1; omega)] at hm
    exact h.2 j b m hb hm
  · obtain rfl : j = rows.length := by
      have := (List.getElem?_eq_some_iff.1 hb).1
      simp at this; omega
    rw [List.getElem?_append_right (Nat.le_refl _)] at hb
    rw [List.getElem?_append_right (by have := h.1; omega)] at hm
    simp [h.1] at hb hm
    subst hb hm
    exact ha

/-- Jobs are drawn. -/
def DrawsJ (k : Nat) (a0 : Option Addr) (len cap : Nat) (w : World) (e : Ending) (w' : World) : Prop :=
  ∃ (js : List (List Int)) (A : Option Addr) (c : Nat), e = .returned (.slice A js.length c) ∧ 1 ≤ js.length ∧ js.length ≤ 3 ∧ (∀ l ∈ js, jobsOk l = true) ∧ ListsW w.heap.size w'.heap.size w' A js.length c js ∧ But k w w' ∧ CurAt w' k a0 len cap

set_option maxRecDepth 100000 in
set_option maxHeartbeats 2000000 in
theorem l10DrawJobs_any (N k : Nat) (a0 : Option Addr) (len cap : Nat) (w : World) (hc : CodeOk N w a0 len) (hk : N ≤ k) (hN : N ≤ w.heap.size) (hcur : CurAt w k a0 len cap) :
    Calls Try.prog 47 #[.pointer (some ⟨k, 0, none⟩)] w (DrawsJ k a0 len cap w) := by
  obtain ⟨i0, hi0, hz0, hz1, hz2⟩ := info_parts int_info
  have HI := Lib.hid hi0
  have HZ0 := Lib.hid hz0
  have HZ1 := Lib.hid hz1
  have HZ2 := Lib.hid hz2
  clear hi0 hz0 hz1 hz2
  obtain ⟨i1, hi0, hz0, hz1, hz2⟩ := info_parts list_info
  have LI := Lib.hid hi0
  have LZ0 := Lib.hid hz0
  have LZ1 := Lib.hid hz1
  have LZ2 := Lib.hid hz2
  clear hi0 hz0 hz1 hz2
  have lk := hcur.lt
  go_enter Try.func47, Try.ntmps47
  go_wp2_with fail
  refine calls_abs (fun W => But k w W ∧ CurAt W k a0 len cap ∧ W.ownsRow w.heap.size 49 1 (.slice (some ⟨w.heap.size, 0, none⟩) 0 0) 0 (([] : List Jw).flatMap Jw.cs)) ⟨(But.refl _ _).alloc _, hcur.alloc _, own_made rfl (Nat.le_refl _)⟩ ?_
  rintro W0 ⟨hB, hcur0, hO⟩
  refine (l1Below_any N k a0 len cap _ _ (hc.below (hB.below hk hN)) hk (Nat.le_trans hN hB.size) hcur0 (by omega)).mono ?_
  rintro e w1 ⟨x, ⟨x0, x1⟩, rfl, hB1, hcur1⟩
  replace hO := own_but hO hB1 lk
  replace hB := hB.trans hB1
  clear hB1 hcur0
  go_wp2
  go_loopw [3, 4, 5] (fun s3 s4 s5 W => ∃ (js : List (List Int)) (rows : List Jw) (z v : Int) (A : Option Addr) (c : Nat), s3 = .slice A js.length c ∧ s4 = .int .i64 v ∧ s5 = .int .i64 z ∧ 0 ≤ z ∧ (js.length : Int) + z ≤ 3 ∧ 1 ≤ (js.length : Int) + z ∧ 1 ≤ v ∧ v ≤ 1 + 3 * (js.length : Int) ∧ (∀ l ∈ js, jobsOk l = true) ∧ But k w W ∧ CurAt W k a0 len cap ∧ W.ownsRow w.heap.size 49 1 (.slice A js.length c) js.length (rows.flatMap Jw.cs) ∧ EachW w.heap.size W.heap.size W rows js) (fun _ _ s5 _ => (intOf s5).toNat)
  case atStart => exact ⟨[], [], 1 + x, 1, some ⟨w.heap.size, 0, none⟩, 0, rfl, rfl, rfl, by omega, by simp; omega, by simp; omega, by omega, by simp, by simp, hB, hcur1, hO, rfl, fun i a l h => by simp at h⟩
  case round =>
    clear hB hcur1 hO
    obtain ⟨js, rows, z, v, A, c, rfl, rfl, rfl, hz1, hz2, hz3, hv1, hv2, hjs, hB, hcur1, hO, hE⟩ := hrel
    have HJS := Lib.hid hjs; clear hjs
    by_cases hzp : 0 < z
    · have hws := hB.size
      have lk1 := hcur1.lt
      obtain ⟨M, hM⟩ : ∃ M, M = wr.heap.size := ⟨_, rfl⟩
      rw [← hM] at hE
      have hwM : w.heap.size ≤ M := by omega
      go_wp2_with fail
      refine calls_abs (fun W => But k w W ∧ CurAt W k a0 len cap ∧ W.ownsRow w.heap.size 49 1 (.slice A js.length c) js.length (rows.flatMap Jw.cs) ∧ EachW w.heap.size M W rows js ∧ W.ownsRow M 2 1 (.slice (some ⟨M, 0, none⟩) 0 0) 0 (([] : List Int).flatMap ic)) ⟨hB.alloc _, hcur1.alloc _, hO.alloc _, hE.keep (.alloc (by omega) _), own_made hM (by omega)⟩ ?_
      rw [← hM]
      clear hB hcur1 hO hE
      rintro W1 ⟨hB, hcur1, hO, hE, hL⟩
      have hM1 : M ≤ W1.heap.size := by have := (hL.lt M rfl).2; omega
      refine (l1Below_any N k a0 len cap _ _ (hc.below (hB.below hk hN)) hk (Nat.le_trans hN hB.size) hcur1 (by omega)).mono ?_
      rintro e w2 ⟨y, ⟨y0, y1⟩, rfl, hB2, hcur2⟩
      replace hO := own_but hO hB2 lk
      replace hL := own_but hL hB2 (by omega)
      replace hE := hE.keep (.but hB2 (.inl lk) hM1)
      have hM2 : M ≤ w2.heap.size := Nat.le_trans hM1 hB2.size
      replace hB := hB.trans hB2
      clear hB2 hcur1 hM1
      go_wp2
      go_loopw [4, 6, 7] (fun s4 s6 s7 W => ∃ (l : List Int) (y v' : Int) (B : Option Addr) (d : Nat), s6 = .slice B l.length d ∧ s4 = .int .i64 v' ∧ s7 = .int .i64 y ∧ 0 ≤ y ∧ (l.length : Int) + y ≤ 3 ∧ 1 ≤ v' ∧ v' ≤ 1 + 3 * (js.length : Int) + l.length ∧ l.all jobB = true ∧ But k w W ∧ CurAt W k a0 len cap ∧ W.ownsRow w.heap.size 49 1 (.slice A js.length c) js.length (rows.flatMap Jw.cs) ∧ EachW w.heap.size M W rows js ∧ W.ownsRow M 2 1 (.slice B l.length d) l.length (l.flatMap ic) ∧ M ≤ W.heap.size) (fun _ _ s7 _ => (intOf s7).toNat)
      case atStart => exact ⟨[], 1 + y, v, some ⟨M, 0, none⟩, 0, by rw [hM]; rfl, rfl, rfl, by omega, by simp; omega, hv1, by simp; omega, rfl, hB, hcur2, hO, hE, hL, hM2⟩
      case round =>
        clear hB hcur2 hO hE hL hM2
        obtain ⟨l, y, v', B, d, rfl, rfl, rfl, hy1, hy2, hv3, hv4, hal, hB, hcur2, hO, hE, hL, hM2⟩ := hrel
        have HAL := Lib.hid hal; clear hal
        by_cases hyp : 0 < y
        · go_wp2_with fail
          refine (l1Once_any N k a0 len cap _ _ (hc.below (hB.below hk hN)) hk (Nat.le_trans hN hB.size) hcur2 (by omega)).mono ?_
          rintro e w3 ⟨b, rfl, hB3, hcur3⟩
          replace hO := own_but hO hB3 lk
          replace hL := own_but hL hB3 (by omega)
          replace hE := hE.keep (.but hB3 (.inl lk) hM2)
          replace hM2 := Nat.le_trans hM2 hB3.size
          replace hB := hB.trans hB3
          clear hB3 hcur2
          cases b
          · have hws2 := hB.size
            have HJB := Lib.hid (show jobB (v') = true from by have := hv4; unfold jobB inB; simp; omega)
            go_wp2_with (at_builtin; go_must (refine wpList_append_own_at _ rfl (.tmp 29) (.tmp 31) _ rfl M 2 i0 _ 1 8 Try.underlying49 HI.out HZ0.out HZ1.out HZ2.out rfl (by omega) (.slice B l.length d) l.length _ rfl (hL.alloc _) ⟨w3.heap.size, 0, none⟩ 1 1 [.int .i64 (v')] rfl rfl (news_alloc _ _ _) (by intro u hu; simp at hu; subst hu; rfl) (by unfold maxLen; omega) (by omega) (by simp; omega) ?_; intro u' w' hL' hg' hz' hat'; clear hz' hat'; obtain ⟨g', cap'', rfl, hP'⟩ := Own.of_row (f := ic) (l := l ++ [v']) (by rw [List.flatMap_append]; exact hL') (by simp) (by omega); have hB' := But.grown (hB.alloc _) hg' (fun g hg => by have := (hL.lt g hg).1; omega); have hcur' := CurAt.grown (hcur3.alloc _) hg' (fun e => by have := (hL.lt k e).1; omega)))
            have hkk : KeepT 49 w3 w' := (KeepT.alloc w3 _).trans (KeepT.grown (hL.alloc _) hg' (by decide))
            have hsm : SameIn w.heap.size M w3 w' := (SameIn.alloc hM2 _).trans (SameIn.grown hg' (fun g hg => (hL.lt g hg).1) (by simp; omega))
            have hsz : w3.heap.size ≤ w'.heap.size := by have := hg'.size; simp at this; omega
            go_roundw
            case rel =>
              refine ⟨l ++ [v'], y - 1, v' + 1, some ⟨g', 0, none⟩, cap'', by simp, rfl, rfl, by omega, by simp; omega, by omega, by simp; omega, ?_, hB', hcur', own_keepT hO hkk, hE.keep hsm, by have := hP'.own ic_len; simpa using this, by omega⟩
              rw [List.all_append, HAL.out]
              simp [HJB.out]
            case measure => simp [intOf]; omega
          · have hws2 := hB.size
            have HJB := Lib.hid (show jobB (0) = true from by decide)
            go_wp2_with (at_builtin; go_must (refine wpList_append_own_at _ rfl (.tmp 26) (.tmp 27) _ rfl M 2 i0 _ 1 8 Try.underlying49 HI.out HZ0.out HZ1.out HZ2.out rfl (by omega) (.slice B l.length d) l.length _ rfl (hL.alloc _) ⟨w3.heap.size, 0, none⟩ 1 1 [.int .i64 (0)] rfl rfl (news_alloc _ _ _) (by intro u hu; simp at hu; subst hu; rfl) (by unfold maxLen; omega) (by omega) (by simp; omega) ?_; intro u' w' hL' hg' hz' hat'; clear hz' hat'; obtain ⟨g', cap'', rfl, hP'⟩ := Own.of_row (f := ic) (l := l ++ [0]) (by rw [List.flatMap_append]; exact hL') (by simp) (by omega); have hB' := But.grown (hB.alloc _) hg' (fun g hg => by have := (hL.lt g hg).1; omega); have hcur' := CurAt.grown (hcur3.alloc _) hg' (fun e => by have := (hL.lt k e).1; omega)))
            have hkk : KeepT 49 w3 w' := (KeepT.alloc w3 _).trans (KeepT.grown (hL.alloc _) hg' (by decide))
            have hsm : SameIn w.heap.size M w3 w' := (SameIn.alloc hM2 _).trans (SameIn.grown hg' (fun g hg => (hL.lt g hg).1) (by simp; omega))
            have hsz : w3.heap.size ≤ w'.heap.size := by have := hg'.size; simp at this; omega
            go_roundw
            case rel =>
              refine ⟨l ++ [0], y - 1, v', some ⟨g', 0, none⟩, cap'', by simp, rfl, rfl, by omega, by simp; omega, by omega, by simp; omega, ?_, hB', hcur', own_keepT hO hkk, hE.keep hsm, by have := hP'.own ic_len; simpa using this, by omega⟩
              rw [List.all_append, HAL.out]
              simp [HJB.out]
            case measure => simp [intOf]; omega
        · have HL := Lib.hid hL
          have hws2 := hB.size
          go_wp2_with (at_builtin; go_must (refine wpList_append_own_at _ rfl (.tmp 35) (.tmp 37) _ rfl w.heap.size 49 i1 _ 1 24 Try.underlying70 LI.out LZ0.out LZ1.out LZ2.out rfl (by omega) (.slice A js.length c) js.length _ rfl (hO.alloc _) ⟨wr.heap.size, 0, none⟩ 1 1 [.slice B l.length d] rfl rfl (news_alloc _ _ _) (by intro u hu; simp at hu; subst hu; rfl) (by unfold maxLen; omega) (by omega) (by simp; omega) ?_; intro u' w' hO' hg' hz' hat'; clear hz' hat'; obtain ⟨g', cap'', rfl, hP'⟩ := Own.of_row (f := Jw.cs) (l := rows ++ [(⟨B, l.length, d⟩ : Jw)]) (n := js.length + 1) (by rw [List.flatMap_append]; exact hO') (by simp [hE.1]) (by omega); have hB' := But.grown (hB.alloc _) hg' (fun g hg => (hO.lt g hg).1); have hcur' := CurAt.grown (hcur2.alloc _) hg' (fun e => by have := (hO.lt k e).1; omega)))
          have hkk : KeepT 2 wr w' := (KeepT.alloc wr _).trans (KeepT.grown (hO.alloc _) hg' (by decide))
          have hsz : wr.heap.size ≤ w'.heap.size := by have := hg'.size; simp at this; omega
          go_roundw
          case rel =>
            refine ⟨js ++ [l], rows ++ [⟨B, l.length, d⟩], z - 1, v', some ⟨g', 0, none⟩, cap'', by simp, rfl, rfl, by omega, by simp; omega, by simp; omega, hv3, by simp; omega, fun m hm => ?_, hB', hcur', by have := hP'.own Jw.cs_len; simpa using this, ?_⟩
            · rcases List.mem_append.1 hm with h1 | h1
              · exact HJS.out m h1
              · simp at h1
                subst h1
                unfold jobsOk
                rw [HAL.out, decide_eq_true (by omega)]; rfl
            · exact EachW.push ((hE.keepT hkk).mono (Nat.le_refl _) (by omega)) (SlW.mono (SlW.keepT (SlW.of_own' (f := ic) HL.out rfl) hkk) (by omega) hsz)
          case measure => simp [intOf]; omega
    · have HO := Lib.hid hO
      have HE := Lib.hid hE
      clear hO hE
      go_wp2
      go_ret
      refine ⟨js, A, c, rfl, by omega, by omega, HJS.out, ⟨rows, SlW.of_own' (f := Jw.cs) HO.out HE.out.1, HE.out⟩, hB, hcur1⟩

end Go.Proofs.Ytlpcpaehkgaffaa

/-
  The draw of a crew.
-/
namespace Go.Proofs.Ytlpcpaehkgaffaa
set_option linter.unusedSimpArgs false
set_option linter.unusedVariables false
open Go.RowKit
set_option linter.unusedVariables false
attribute [local go_sem] OpUpon
attribute [local go_sem ↓] Go.wp_at_zero Go.wp_at_succ

theorem But.setsNew {k g : Nat} {a : World} : ∀ {b : World}, But k a b → a.heap.size ≤ g → ∀ (us : List Value) (o : Nat), But k a (Go.Proofs.Ytlpcpaehkgaffaa.setCells b g o us)
  | _, h, _, [], _ => h
  | _, h, hg, u :: us, o => But.setsNew (h.setNew hg o u) hg us (o + 1)
theorem But.drew {k : Nat} {a b : World} (h : But k a b) : But k a b.drew := ⟨h.os, h.tape, h.output, h.size, h.block⟩
theorem CurAt.sets {k g : Nat} {w : World} {a0 : Option Addr} {len cap : Nat} (h : CurAt w k a0 len cap) (hne : k ≠ g) (us : List Value) (o : Nat) : CurAt (setCells w g o us) k a0 len cap := by
  obtain ⟨j, x, hi, hb⟩ := h
  exact ⟨j, x, hi, BoxAt.sets_ne us o hb hne⟩
theorem CurAt.belowC {k : Nat} {w w' : World} {a0 : Option Addr} {len cap : Nat} (h : CurAt w k a0 len cap) (hb : Below w.heap.size w w') : CurAt w' k a0 len cap := by
  obtain ⟨j, x, hi, hx⟩ := h
  exact ⟨j, x, hi, hx.below hb hx.lt⟩
theorem CrN.butN {lo k : Nat} {w w' : World} {c : Cr} {y : CrL} (h : CrN lo w c y) (hb : But k w w') (hk : k < lo) : CrN lo w' c y := CrW.mono (CrW.keep h (.but hb (.inl hk) (Nat.le_refl _))) (Nat.le_refl _) hb.size
theorem IntN.butN {lo k : Nat} {w w' : World} {A : Option Addr} {n cap : Nat} {m : List Int} (h : IntN lo w A n cap m) (hb : But k w w') (hk : k < lo) : IntN lo w' A n cap m := SlW.mono (SlW.keep h (.but hb (.inl hk) (Nat.le_refl _))) (Nat.le_refl _) hb.size
theorem turnsB (k : Nat) (c : Cr) (y : CrL) (lo hi : Nat) (l : List Int) (A : Option Addr) (n cap lo2 hi2 : Nat) (w : World) (hW0 : CrW lo hi w c y) (hh : hi ≤ w.heap.size) (hf : CrFit c) (hl : IntsW lo2 hi2 w A n cap l) (hh2 : hi2 ≤ w.heap.size) (hn : n ≤ 1048576) :
    Calls Try.prog 48 #[crV c y, .slice A n cap] w (fun e w' => ∃ y', e = .returned (crV (turnsC c l) y') ∧ CrW w.heap.size w'.heap.size w' (turnsC c l) y' ∧ Below w.heap.size w w' ∧ But k w w') := by
  refine (sturns_any c y lo hi l A n cap lo2 hi2 w hW0 hh hf hl hh2 hn).mono ?_
  rintro e w' ⟨y', rfl, h1, hb⟩
  exact ⟨y', rfl, h1, hb, .of_below hb⟩

theorem freshStore_ok {rd mo : Int} (h1 : rd = 2 ∨ rd = 3) (m1 : 1 ≤ mo) (m2 : mo ≤ 4) : newStore rd mo = (⟨rd, mo, [Rg.fresh rd.toNat], 0, 0⟩, true) ∧ stOk ⟨rd, mo, [Rg.fresh rd.toNat], 0, 0⟩ = true := by
  have hmo : inB mo 1 16 = true := by unfold inB; simp; omega
  have hmo2 : inB 1 1 mo = true := by unfold inB; simp; omega
  rcases h1 with rfl | rfl
  · refine ⟨by unfold newStore; rw [hmo]; rfl, ?_⟩
    have hch : chain [Rg.fresh 2] 1 0 = some [0] := by rw [chain_succ (r := Rg.fresh 2) (by omega) rfl, chain_neg (by decide)]; rfl
    unfold stOk stHead
    have e1 : inSt 2 1 (Rg.fresh 2) = true := by decide
    simp [hmo, hmo2, hch, e1, roundB]
    decide
  · refine ⟨by unfold newStore; rw [hmo]; rfl, ?_⟩
    have hch : chain [Rg.fresh 3] 1 0 = some [0] := by rw [chain_succ (r := Rg.fresh 3) (by omega) rfl, chain_neg (by decide)]; rfl
    unfold stOk stHead
    have e1 : inSt 3 1 (Rg.fresh 3) = true := by decide
    simp [hmo, hmo2, hch, e1, roundB]
    decide

theorem newC0_ok {rd mo : Int} {js : List (List Int)} (h1 : rd = 2 ∨ rd = 3) (m1 : 1 ≤ mo) (m2 : mo ≤ 4) (hj1 : 1 ≤ js.length) (hj3 : js.length ≤ 3) (hjs : ∀ l ∈ js, jobsOk l = true) : newCrew rd mo js = (newC0 rd mo js, true) ∧ crOk (newC0 rd mo js) = true := by
  obtain ⟨e1, e2⟩ := freshStore_ok h1 m1 m2
  have hst : stOk (newC0 rd mo js).st = true := by show stOk (newStore rd mo).1 = true; rw [e1]; exact e2
  have hok : crOk (newC0 rd mo js) = true := by
    unfold crOk crHead
    rw [hst]
    have l1 : (newC0 rd mo js).hs.length = js.length := by simp [newC0]
    have l2 : (newC0 rd mo js).js.length = js.length := rfl
    have l3 : (newC0 rd mo js).bs.length = js.length := by simp [newC0]
    rw [l1, l2, l3]
    have hb : inB (js.length : Int) 1 4 = true := by unfold inB; simp; omega
    rw [hb]
    have hes : storyOk (newC0 rd mo js).es = true := rfl
    have hck : inB (newC0 rd mo js).ck 0 2000 = true := by show inB 0 0 2000 = true; decide
    rw [hes, hck]
    simp only [beq_self_eq_true, Bool.and_self, Bool.true_and, List.all_eq_true, List.mem_range]
    intro i hi
    unfold crAt
    have g1 : (newC0 rd mo js).hs.getD i .zero = resting := by
      show (List.replicate js.length resting).getD i .zero = resting
      rw [List.getD_eq_getElem?_getD, List.getElem?_replicate, if_pos hi]; rfl
    have g2 : (newC0 rd mo js).bs.getD i 0 = 0 := by
      show (List.replicate js.length (0 : Int)).getD i 0 = 0
      rw [List.getD_eq_getElem?_getD, List.getElem?_replicate, if_pos hi]; rfl
    have g3 : jobsOk ((newC0 rd mo js).js.getD i []) = true := by
      show jobsOk (js.getD i []) = true
      rw [List.getD_eq_getElem?_getD, List.getElem?_eq_getElem hi]
      exact hjs _ (List.getElem_mem hi)
    rw [g1, g2, g3]
    have g4 : fits (newC0 rd mo js).st resting = true := by
      unfold fits
      rw [hst]
      have : resting.ok = true := by decide
      rw [this]; rfl
    rw [g4]
    show (true && true && inB 0 0 0) = true
    decide
  refine ⟨?_, hok⟩
  unfold newCrew
  rw [hok, e1]
  rfl

/-- A crew is drawn. -/
def DrawsC (k : Nat) (a0 : Option Addr) (len cap : Nat) (w : World) (e : Ending) (w' : World) : Prop :=
  ∃ (c : Cr) (y : CrL), e = .returned (crV c y) ∧ crOk c = true ∧ CrN w.heap.size w' c y ∧ But k w w' ∧ CurAt w' k a0 len cap

def ldRV (d : Cr) (y1 : CrL) (N X k : Nat) : List Sl := [.v (.agg #[.int .i64 d.st.rd, .int .i64 d.st.mo, .slice y1.s.A y1.s.n y1.s.cap, .int .i64 d.st.fi, .int .i64 d.st.la, .slice y1.h.A y1.h.n y1.h.cap, .slice y1.j.A y1.j.n y1.j.cap, .slice y1.b.A y1.b.n y1.b.cap, .int .i64 d.ck, .slice y1.e.A y1.e.n y1.e.cap]),
  .v (.pointer (some ⟨k, 0, none⟩)),
  .v (.pointer (some ⟨X, 5, none⟩)),
  .v (.slice y1.h.A y1.h.n y1.h.cap),
  .v (.int .i64 ((y1.h.n : Int))),
  .e fun σ w => ∃ (l5 : List Int) (A5 : Option Addr) (c5 : Nat), σ 5 = .slice A5 l5.length c5 ∧ IntN N w A5 l5.length c5 l5 ∧ l5.length ≤ 60,
  .e fun σ w => ∃ (l5 : List Int) (y6 : CrL), σ 6 = .agg #[.int .i64 ((turnsC d l5).st.rd), .int .i64 ((turnsC d l5).st.mo), .slice y6.s.A y6.s.n y6.s.cap, .int .i64 ((turnsC d l5).st.fi), .int .i64 ((turnsC d l5).st.la), .slice y6.h.A y6.h.n y6.h.cap, .slice y6.j.A y6.j.n y6.j.cap, .slice y6.b.A y6.b.n y6.b.cap, .int .i64 ((turnsC d l5).ck), .slice y6.e.A y6.e.n y6.e.cap] ∧ CrN N w (turnsC d l5) y6 ∧ l5.length ≤ 60,
  .e fun σ w => ∃ (l5 : List Int) (y6 : CrL), BoxAt w N #[.int .i64 ((turnsC d l5).st.rd), .int .i64 ((turnsC d l5).st.mo), .slice y6.s.A y6.s.n y6.s.cap, .int .i64 ((turnsC d l5).st.fi), .int .i64 ((turnsC d l5).st.la), .slice y6.h.A y6.h.n y6.h.cap, .slice y6.j.A y6.j.n y6.j.cap, .slice y6.b.A y6.b.n y6.b.cap, .int .i64 ((turnsC d l5).ck), .slice y6.e.A y6.e.n y6.e.cap] 73 ∧ CrN N w (turnsC d l5) y6 ∧ l5.length ≤ 60]

set_option maxRecDepth 100000 in
set_option maxHeartbeats 2000000 in
theorem l10Draw_any (K0 k : Nat) (a0 : Option Addr) (len cap : Nat) (w : World) (hc : CodeOk K0 w a0 len) (hkk : K0 ≤ k) (hN0 : K0 ≤ w.heap.size) (hcur : CurAt w k a0 len cap) :
    Calls Try.prog 44 #[.pointer (some ⟨k, 0, none⟩)] w (DrawsC k a0 len cap w) := by
  have hkN := hcur.lt
  go_enter Try.func44, Try.ntmps44
  go_wp2_with fail
  refine calls_abs (fun W => But k w W ∧ CurAt W k a0 len cap ∧ BoxAt W w.heap.size #[.int .i64 0, .int .i64 0, .slice none 0 0, .int .i64 0, .int .i64 0, .slice none 0 0, .slice none 0 0, .slice none 0 0, .int .i64 0, .slice none 0 0] 73) ⟨(But.refl _ _).alloc _, hcur.alloc _, BoxAt.new _ _ _⟩ ?_
  clear hcur
  rintro W0 ⟨hB, hcur, hz⟩
  refine (l1Below_any K0 k a0 len cap _ _ (hc.below (hB.below hkk hN0)) hkk (Nat.le_trans hN0 hB.size) hcur (by omega)).mono ?_
  rintro e w1 ⟨x, ⟨x0, x1⟩, rfl, hb1, hcur1⟩
  replace hz := hb1.box hz (by omega)
  replace hB := hB.trans hb1
  clear hb1 hcur
  go_wp2_with fail
  refine (l1Below_any K0 k a0 len cap _ _ (hc.below (hB.below hkk hN0)) hkk (Nat.le_trans hN0 hB.size) hcur1 (by omega)).mono ?_
  rintro e w2 ⟨y, ⟨y0, y1⟩, rfl, hb1, hcur⟩
  replace hz := hb1.box hz (by omega)
  replace hB := hB.trans hb1
  clear hb1 hcur1
  go_wp2_with fail
  refine (l10DrawJobs_any K0 k a0 len cap _ (hc.below (hB.below hkk hN0)) hkk (Nat.le_trans hN0 hB.size) hcur).mono ?_
  rintro e w3 ⟨js, A, c, rfl, hj1, hj3, hjs, hL, hb1, hcur1⟩
  obtain ⟨hnew, hnok⟩ := newC0_ok (rd := 2 + x) (mo := 1 + y) (js := js) (by omega) (by omega) (by omega) hj1 hj3 hjs
  have hml : ∀ l ∈ js, l.length ≤ 1048576 := fun l hl => by
    have := hjs l hl
    simp only [jobsOk, Bool.and_eq_true, decide_eq_true_eq] at this
    omega
  replace hz := hb1.box hz (by omega)
  have hws := hB.size
  replace hB := hB.trans hb1
  clear hb1 hcur
  have HNEW := Lib.hid hnew
  have HDK0 := Lib.hid hnok
  clear hnew hnok hjs
  go_wp2_with fail
  refine (snewCrew_any (2 + x) (1 + y) js A js.length c _ _ _ hL (Nat.le_refl _) (by omega) hml).mono ?_
  rintro e w4 ⟨y1_, rfl, hC, hb1⟩
  rw [HNEW.out] at hC ⊢
  replace hcur1 := hcur1.belowC hb1
  replace hz := hz.below hb1 hz.lt
  have hws3 := hB.size
  replace hB := hB.trans (.of_below hb1)
  have lz := hz.lt
  clear hb1 hL hml
  obtain ⟨d, hd⟩ : ∃ d, d = newC0 (2 + x) (1 + y) js := ⟨_, rfl⟩
  rw [← hd] at hC ⊢
  have HHL := Lib.hid (show 1 ≤ y1_.h.n by have q : d.hs.length = y1_.h.n := hC.h.1; rw [← q, hd]; simp [newC0]; omega)
  have HDK := Lib.hid (show crOk d = true by rw [hd]; exact HDK0.out)
  have HFIT := Lib.hid ((crOk_neat HDK.out).fit)
  clear HNEW HDK0 hd
  unfold crV
  dsimp only
  go_upto_region 2 with fail
  refine wp_abs (fun W => But k w W ∧ CurAt W k a0 len cap ∧ BoxAt W w.heap.size #[.int .i64 0, .int .i64 0, .slice none 0 0, .int .i64 0, .int .i64 0, .slice none 0 0, .slice none 0 0, .slice none 0 0, .int .i64 0, .slice none 0 0] 73 ∧ BoxAt W w4.heap.size #[.int .i64 d.st.rd, .int .i64 d.st.mo, .slice y1_.s.A y1_.s.n y1_.s.cap, .int .i64 d.st.fi, .int .i64 d.st.la, .slice y1_.h.A y1_.h.n y1_.h.cap, .slice y1_.j.A y1_.j.n y1_.j.cap, .slice y1_.b.A y1_.b.n y1_.b.cap, .int .i64 d.ck, .slice y1_.e.A y1_.e.n y1_.e.cap] 73 ∧ CrN w.heap.size W d y1_ ∧ w4.heap.size < W.heap.size) ⟨hB.alloc _, hcur1.alloc _, hz.alloc _, BoxAt.new _ _ _, CrN.belowN (CrW.mono hC (by omega) (Nat.le_refl _)) ((Below.refl _ _).alloc (Nat.le_refl _) _), by simp⟩ ?_
  clear hB hcur1 hz hC
  rintro W5 ⟨hB, hcur, hz, hx, hC, hM⟩
  generalize w4.heap.size = X at *
  refine wp_region2v (fun w w' => But k w w') (fun _ _ h => h.size) (fun _ => But.refl _ _) (fun L W' => But k w W' ∧ CurAt W' k a0 len cap ∧ BoxAt W' X #[.int .i64 d.st.rd, .int .i64 d.st.mo, .slice y1_.s.A y1_.s.n y1_.s.cap, .int .i64 d.st.fi, .int .i64 d.st.la, .slice y1_.h.A y1_.h.n y1_.h.cap, .slice y1_.j.A y1_.j.n y1_.j.cap, .slice y1_.b.A y1_.b.n y1_.b.cap, .int .i64 d.ck, .slice y1_.e.A y1_.e.n y1_.e.cap] 73 ∧ CrN w.heap.size W' d y1_ ∧ X < W'.heap.size ∧ (∃ x0 x1 x2 x3 x4 x5 x6 x7 x8 x9, BoxAt W' w.heap.size #[x0, x1, x2, x3, x4, x5, x6, x7, x8, x9] 73) ∧ (L 7 = false → BoxAt W' w.heap.size #[.int .i64 0, .int .i64 0, .slice none 0 0, .int .i64 0, .int .i64 0, .slice none 0 0, .slice none 0 0, .slice none 0 0, .int .i64 0, .slice none 0 0] 73)) (ldRV d y1_ w.heap.size X k) (fun j => [0, 0, 0, 0, 0, 0, 0, 1].getD j 0) [] (by kernel_rfl) (by kernel_rfl) ?_ ?_ ?_
    (.still rfl ?a0 <| .still rfl ?a1 <| .still rfl ?a2 <| .still rfl ?a3 <| .still rfl ?a4 <| .grow rfl ?a5 <| .grow rfl ?a6 <| .store rfl ?a7 <| .nil) ?_ ?_
  · exact ⟨fun _ _ _ h ⟨l5, A5, c5, e, hp⟩ => ⟨l5, A5, c5, (h 5 (List.mem_singleton.2 rfl)).symm.trans e, hp⟩, fun _ _ _ h ⟨l5, y6, e, hp⟩ => ⟨l5, y6, (h 6 (List.mem_singleton.2 rfl)).symm.trans e, hp⟩, fun _ _ _ _ h => h, trivial⟩
  · exact ⟨fun σ w w' hb ⟨l5, A5, c5, e, hp⟩ => ⟨l5, A5, c5, e, ⟨hp.1.butN hb hkN, hp.2⟩⟩, fun σ w w' hb ⟨l5, y6, e, hp⟩ => ⟨l5, y6, e, ⟨hp.1.butN hb hkN, hp.2⟩⟩, fun σ w w' hb ⟨l5, y6, hx, hp⟩ => ⟨l5, y6, hb.box hx (by omega), ⟨hp.1.butN hb hkN, hp.2⟩⟩, trivial⟩
  · exact ⟨hB.drew, hcur, hx, hC.drew, hM, ⟨_, _, _, _, _, _, _, _, _, _, hz⟩, fun _ => hz⟩
  case a0 | a3 =>
    go_light
    intro L σ W' hcl hL hC hw
    try have e2 := wT hw 2 rfl
    have kx := hC.2.2.1.cell
    clear hw hcl hL hC
    refine OpGoes.step fun K hK => ?_
    unfold OpGoes
    go_simp
    exact hK _ _ ⟨rfl, rfl⟩
  case a1 | a2 | a4 =>
    go_light
    intro L σ W' hcl hL hC hw
    try have e3 := wT hw 3 rfl
    clear hw hcl hL hC
    refine OpGoes.step fun K hK => ?_
    unfold OpGoes
    go_simp
    exact hK _ _ ⟨rfl, rfl⟩
  case a5 =>
    go_light
    intro L σ W' hcl hL hC hw
    have e1 := wV hw 1 rfl
    have e4 := wV hw 4 rfl
    clear hw
    have HC := Lib.hid hC
    clear hC
    clear hcl hL
    refine OpGoes.step fun K hK => ?_
    unfold OpGoes
    go_simp
    obtain ⟨hB, hcur, hx, hC, hM, ⟨_, _, _, _, _, _, _, _, _, _, hz⟩, hz_o⟩ := HC.out
    refine (l10DrawTurns_any K0 k a0 len cap _ 60 _ (hc.below (hB.below hkk hN0)) hkk (Nat.le_trans hN0 hB.size) hcur (by have := HHL.out; omega) (by omega) (by omega)).mono ?_
    rintro e w1 ⟨l5, A5, c5, rfl, hl5, hI5, hb1, hcur1⟩
    exact ⟨_, rfl, hK _ _ ⟨⟨hB.trans hb1, hcur1, hb1.box hx (by omega), hC.butN hb1 hkN, Nat.lt_of_lt_of_le hM hb1.size, ⟨_, _, _, _, _, _, _, _, _, _, hb1.box hz (by omega)⟩, fun h => hb1.box (hz_o (by simpa [upd] using h)) (by omega)⟩, ⟨l5, A5, c5, rfl, SlW.mono hI5 (by omega) (Nat.le_refl _), hl5⟩, hb1⟩⟩
  case a6 =>
    go_light
    intro L σ W' hcl hL hC hw
    have e0 := wV hw 0 rfl
    obtain ⟨l5, A5, c5, e5, hp5⟩ := wE hw 5 rfl
    clear hw
    have HC := Lib.hid hC
    clear hC
    clear hcl hL
    refine OpGoes.step fun K hK => ?_
    unfold OpGoes
    go_simp
    obtain ⟨hB, hcur, hx, hC, hM, ⟨_, _, _, _, _, _, _, _, _, _, hz⟩, hz_o⟩ := HC.out
    refine (turnsB k d y1_ w.heap.size _ l5 A5 l5.length c5 w.heap.size _ _ hC (Nat.le_refl _) HFIT.out hp5.1 (Nat.le_refl _) (by have := hp5.2; omega)).mono ?_
    rintro e w1 ⟨y6, rfl, hC6, hbel, hb1⟩
    exact ⟨_, rfl, hK _ _ ⟨⟨hB.trans hb1, hcur.belowC hbel, hb1.box hx (by omega), hC.butN hb1 hkN, Nat.lt_of_lt_of_le hM hb1.size, ⟨_, _, _, _, _, _, _, _, _, _, hz.below hbel hz.lt⟩, fun h => (hz_o (by simpa [upd] using h)).below hbel (hz_o (by simpa [upd] using h)).lt⟩, ⟨l5, y6, rfl, CrW.mono hC6 (by omega) (Nat.le_refl _), hp5.2⟩, hb1⟩⟩
  case a7 =>
    go_light
    intro L σ W' hcl hL hC hw hne
    obtain ⟨l5, y6, e6, hp6⟩ := wE hw 6 rfl
    clear hw hne
    have HC := Lib.hid hC
    obtain ⟨hB, hcur, hx, hC, hM, ⟨_, _, _, _, _, _, _, _, _, _, hz⟩, hz_o⟩ := hC
    clear hcl hL
    have kc_ := hz.cell
    have kf_ := hz.frozen
    clear hB hcur hx hC hM hz hz_o
    refine OpGoes.step fun K hK => ?_
    unfold OpGoes
    go_simp
    obtain ⟨hB, hcur, hx, hC, hM, ⟨_, _, _, _, _, _, _, _, _, _, hz⟩, hz_o⟩ := HC.out
    have hset := sets_all (us := [.int .i64 ((turnsC d l5).st.rd), .int .i64 ((turnsC d l5).st.mo), .slice y6.s.A y6.s.n y6.s.cap, .int .i64 ((turnsC d l5).st.fi), .int .i64 ((turnsC d l5).st.la), .slice y6.h.A y6.h.n y6.h.cap, .slice y6.j.A y6.j.n y6.j.cap, .slice y6.b.A y6.b.n y6.b.cap, .int .i64 ((turnsC d l5).ck), .slice y6.e.A y6.e.n y6.e.cap]) hz rfl
    refine hK undef (setCells W' w.heap.size 0 [.int .i64 ((turnsC d l5).st.rd), .int .i64 ((turnsC d l5).st.mo), .slice y6.s.A y6.s.n y6.s.cap, .int .i64 ((turnsC d l5).st.fi), .int .i64 ((turnsC d l5).st.la), .slice y6.h.A y6.h.n y6.h.cap, .slice y6.j.A y6.j.n y6.j.cap, .slice y6.b.A y6.b.n y6.b.cap, .int .i64 ((turnsC d l5).ck), .slice y6.e.A y6.e.n y6.e.cap]) ⟨⟨(But.setsNew hB (by omega) _ 0), (CurAt.sets hcur (by omega) _ 0), (BoxAt.sets_ne _ 0 hx (by omega)), (CrN.setsC hC hz _ 0), (size_sts hM _ 0), ⟨_, _, _, _, _, _, _, _, _, _, hset⟩, fun h => absurd h (by simp [upd])⟩, ⟨l5, y6, hset, ⟨CrN.setsC hp6.1 hz _ 0, hp6.2⟩⟩, Nat.le_of_eq (sets_size _ _ _).symm, keepV ?_⟩
    exact ⟨fun _ _ ⟨l5_x, A5_x, c5_x, e, hp⟩ => ⟨l5_x, A5_x, c5_x, e, ⟨IntN.setsC hp.1 hz _ 0, hp.2⟩⟩, fun _ _ ⟨l5_x, y6_x, e, hp⟩ => ⟨l5_x, y6_x, e, ⟨CrN.setsC hp.1 hz _ 0, hp.2⟩⟩, fun h => absurd rfl h, trivial⟩
  · intro L L' W' hLL hC
    obtain ⟨hB, hcur, hx, hC, hM, ⟨_, _, _, _, _, _, _, _, _, _, hz⟩, hz_o⟩ := hC
    exact ⟨hB, hcur, hx, hC, hM, ⟨_, _, _, _, _, _, _, _, _, _, hz⟩, fun h => hz_o (hLL _ h)⟩
  · intro σ L W' hall hC hRR
    obtain ⟨hB, hcur, hx, hC, hM, ⟨_, _, _, _, _, _, _, _, _, _, hz⟩, hz_o⟩ := hC
    obtain ⟨l5, y6, s7, hp7⟩ := dE hRR 7 rfl
    clear hRR
    simp only [lexAll]
    go_simp
    go_step
    have kz := s7.cell
    go_wp2
    refine bodyPost_ret (v := crV (turnsC d l5) y6) (by simp [results, Try.results44, go_sem, kz, crV]) rfl ⟨turnsC d l5, y6, rfl, ?_, hp7.1, hB, hcur⟩
    unfold turnsC
    rw [HDK.out, decide_eq_true (by have := hp7.2; omega)]
    exact turnsS_ok HDK.out l5
end Go.Proofs.Ytlpcpaehkgaffaa


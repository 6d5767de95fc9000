/-
  The draws of turns and of jobs.
-/
import Derived.Test.YtaieigdnfdnnpaaCurB
import Derived.Test.YtaieigdnfdnnpaaCrewG
import Derived.Test.YtaieigdnfdnnpaaCrewH
namespace Go.Proofs.Ytaieigdnfdnnpaa
set_option linter.unusedSimpArgs false
set_option linter.unusedVariables false
open Go.RowKit
set_option linter.unusedVariables false
attribute [local go_sem ↓] Go.wp_at_zero Go.wp_at_succ

theorem But.grown {k : Nat} {a b c : World} {row : Option Nat} (h : But k a b) (hg : b.grownBy c row) (hr : ∀ g, row = some g → a.heap.size ≤ g) : But k a c :=
  ⟨hg.os.trans h.os, hg.tape.trans h.tape, hg.output.trans h.output, Nat.le_trans h.size hg.size, fun j hj hk => (hg.block j (Nat.lt_of_lt_of_le hj h.size) (fun e => by have := hr j e.symm; omega)).trans (h.block j hj hk)⟩
theorem CurAt.grown {k : Nat} {w w' : World} {a0 : Option Addr} {len cap : Nat} {row : Option Nat} (h : CurAt w k a0 len cap) (hg : w.grownBy w' row) (hr : row ≠ some k) : CurAt w' k a0 len cap := by
  obtain ⟨i, x, hi, hb⟩ := h
  exact ⟨i, x, hi, hb.grown2 hg hr⟩
theorem own_but {k N : Nat} {e : TypeId} {s : Nat} {v : Value} {n : Nat} {xs : List Value} {w w' : World} (h : w.ownsRow N e s v n xs) (hb : But k w w') (hk : k < N) : w'.ownsRow N e s v n xs := by
  refine ⟨h.1, ?_⟩
  rcases h.2 with h' | ⟨g, cap, cur, hv, hg, hh, hr⟩
  · exact .inl h'
  · exact .inr ⟨g, cap, cur, hv, hg, (hb.block g (Array.getElem?_eq_some_iff.1 hh).1 (by omega)).trans hh, hr⟩
theorem KeepT.but {T : TypeId} {k : Nat} {w w' : World} {cs : Array Value} {t : TypeId} (hb : But k w w') (hk : BoxAt w k cs t) (ht : t ≠ T) : KeepT T w w' := fun g cs' hg => hb.block g hg.lt (by
  rintro rfl
  unfold BoxAt at hg hk
  rw [hg] at hk
  injection hk with hk
  injection hk with _ hk
  exact ht hk.symm)
theorem CurAt.box {k : Nat} {w : World} {a0 : Option Addr} {len cap : Nat} (h : CurAt w k a0 len cap) : ∃ cs, BoxAt w k cs 76 := by
  obtain ⟨i, x, hi, hb⟩ := h
  exact ⟨_, hb⟩

/-- Numbers are drawn: a list of them, of the call's own. -/
def DrawsL (m : Nat) (k : Nat) (a0 : Option Addr) (len cap : Nat) (w : World) (e : Ending) (w' : World) : Prop :=
  ∃ (l : List Int) (A : Option Addr) (c : Nat), e = .returned (.slice A l.length c) ∧ l.length ≤ m ∧ IntsW w.heap.size w'.heap.size w' A l.length c l ∧ But k w w' ∧ CurAt w' k a0 len cap

set_option maxRecDepth 100000 in
set_option maxHeartbeats 2000000 in
theorem l10DrawTurns_any (N k : Nat) (a0 : Option Addr) (len cap : Nat) (n : Int) (most : Nat) (w : World) (hc : CodeOk N w a0 len) (hk : N ≤ k) (hN : N ≤ w.heap.size) (hcur : CurAt w k a0 len cap) (hn : 0 < n) (hm0 : 0 < most) (hm1 : most ≤ 256) :
    Calls Try.prog 72 #[.pointer (some ⟨k, 0, none⟩), .int .i64 n, .int .i64 most] w (DrawsL most k a0 len cap w) := by
  obtain ⟨i0, hi0, hz0, hz1, hz2⟩ := info_parts int_info
  have HI := Lib.hid hi0
  have HZ0 := Lib.hid hz0
  have HZ1 := Lib.hid hz1
  have HZ2 := Lib.hid hz2
  clear hi0 hz0 hz1 hz2
  have lk := hcur.lt
  go_enter Try.func72, Try.ntmps72
  go_wp2_with fail
  refine calls_abs (fun W => But k w W ∧ CurAt W k a0 len cap ∧ W.ownsRow w.heap.size 2 1 (.slice (some ⟨w.heap.size, 0, none⟩) 0 0) 0 (([] : List Int).flatMap ic)) ⟨(But.refl _ _).alloc _, hcur.alloc _, own_made rfl (Nat.le_refl _)⟩ ?_
  rintro W0 ⟨hB, hcur0, hO⟩
  refine (l1Below_any N k a0 len cap _ _ (hc.below (hB.below hk hN)) hk (Nat.le_trans hN hB.size) hcur0 (by omega)).mono ?_
  rintro e w1 ⟨x, ⟨x0, x1⟩, rfl, hB1, hcur1⟩
  replace hO := own_but hO hB1 lk
  replace hB := hB.trans hB1
  clear hB1 hcur0
  go_wp2
  go_loopw [7, 8] (fun s7 s8 W => ∃ (l : List Int) (z : Int) (A : Option Addr) (c : Nat), s7 = .slice A l.length c ∧ s8 = .int .i64 z ∧ -1 ≤ z ∧ (l.length : Int) + z ≤ (most : Int) - 1 ∧ But k w W ∧ CurAt W k a0 len cap ∧ W.ownsRow w.heap.size 2 1 (.slice A l.length c) l.length (l.flatMap ic)) (fun _ s8 _ => (intOf s8).toNat)
  case atStart => exact ⟨[], x, some ⟨w.heap.size, 0, none⟩, 0, rfl, rfl, by omega, by simp; omega, hB, hcur1, hO⟩
  case round =>
    clear hB hcur1 hO
    obtain ⟨l, z, A, c, rfl, rfl, hz1, hz2, hB, hcur1, hO⟩ := hrel
    by_cases hzp : 0 < z
    · have hll : l.length < 256 := by omega
      go_wp2_with fail
      refine (l1Below_any N k a0 len cap _ _ (hc.below (hB.below hk hN)) hk (Nat.le_trans hN hB.size) hcur1 hn).mono ?_
      rintro e w2 ⟨v, ⟨v0, v1⟩, rfl, hB2, hcur2⟩
      replace hO := own_but hO hB2 lk
      replace hB := hB.trans hB2
      clear hB2 hcur1
      have hws := hB.size
      go_wp2_with (at_builtin; go_must (refine wpList_append_own_at _ rfl (.tmp 17) (.tmp 21) _ rfl w.heap.size 2 i0 _ 1 8 Try.underlying55 HI.out HZ0.out HZ1.out HZ2.out rfl (by omega) (.slice A l.length c) l.length _ rfl (hO.alloc _) ⟨w2.heap.size, 0, none⟩ 1 1 [.int .i64 v] rfl rfl (news_alloc _ _ _) (by intro u hu; simp at hu; subst hu; rfl) (by unfold maxLen; omega) (by omega) (by simp; omega) ?_; intro v' w' hO' hg' hz' hat'; clear hz' hat'; obtain ⟨g', cap'', rfl, hP'⟩ := Own.of_row (f := ic) (l := l ++ [v]) (by rw [List.flatMap_append]; exact hO') (by simp) (by omega); have hB' := But.grown (hB.alloc _) hg' (fun g hg => (hO.lt g hg).1); have hcur' := CurAt.grown (hcur2.alloc _) hg' (fun e => by have := (hO.lt k e).1; omega)))
      go_loopw [7, 8] (fun s7 s8 W => ∃ (l' : List Int) (z' : Int) (A : Option Addr) (c : Nat), s7 = .slice A l'.length c ∧ s8 = .int .i64 z' ∧ 0 ≤ z' ∧ z' ≤ z ∧ 1 ≤ l'.length ∧ (l'.length : Int) + z' ≤ (most : Int) ∧ But k w W ∧ CurAt W k a0 len cap ∧ W.ownsRow w.heap.size 2 1 (.slice A l'.length c) l'.length (l'.flatMap ic)) (fun _ s8 _ => (intOf s8).toNat)
      case atStart => exact ⟨l ++ [v], z, some ⟨g', 0, none⟩, cap'', by simp, rfl, by omega, by omega, by simp, by simp; omega, hB', hcur', by have := hP'.own ic_len; simpa using this⟩
      case round =>
        clear hB hcur2 hO hB' hcur' hP' hg' hO'
        obtain ⟨l', z', A', c', rfl, rfl, hy0, hy1, hy2, hy3, hB, hcur1, hO⟩ := hrel
        go_wp2_with fail
        refine (l1Once_any N k a0 len cap _ _ (hc.below (hB.below hk hN)) hk (Nat.le_trans hN hB.size) hcur1 (by omega)).mono ?_
        rintro e w3 ⟨b, rfl, hB3, hcur3⟩
        replace hO := own_but hO hB3 lk
        replace hB := hB.trans hB3
        clear hB3 hcur1
        have hws := hB.size
        cases b
        · go_wp2
          go_roundw
          case rel => exact ⟨l', z' - 1, A', c', rfl, rfl, by omega, by omega, hB, hcur3, hO⟩
          case measure => simp [intOf]; omega
        · by_cases hyp : 0 < z'
          · have hyd : decide (0 < z') = true := decide_eq_true hyp
            obtain ⟨g2, cap2, e2, hP2⟩ := Own.of_row (f := ic) hO rfl (by omega)
            injection e2 with e2 _ e3
            subst e2 e3
            have hl1 : l'.length - 1 < l'.length := by omega
            have hle : l'[l'.length - 1]? = some (l'[l'.length - 1]'hl1) := List.getElem?_eq_getElem hl1
            have kl := Own.cell_ ic_len hP2 (j := 0) hle rfl
            rw [Nat.mul_one, Nat.add_zero] at kl
            generalize l'[l'.length - 1]'hl1 = vv at *
            clear hle
            have hg1 : (0 : Int) ≤ (l'.length : Int) - 1 := by omega
            have hg2 : (l'.length : Int) - 1 < (l'.length : Int) := by omega
            have hnt : ((l'.length : Int) - 1).toNat = l'.length - 1 := by omega
            have hnn : (1 : Int) ≤ (l'.length : Int) := by omega
            go_wp2_with (at_builtin; go_must (refine wpList_append_own_at _ rfl (.tmp 29) (.tmp 36) _ rfl w.heap.size 2 i0 _ 1 8 Try.underlying55 HI.out HZ0.out HZ1.out HZ2.out rfl (by omega) (.slice (some ⟨g2, 0, none⟩) l'.length c') l'.length _ rfl (hO.alloc _) ⟨w3.heap.size, 0, none⟩ 1 1 [.int .i64 vv] rfl rfl (news_alloc _ _ _) (by intro u hu; simp at hu; subst hu; rfl) (by unfold maxLen; omega) (by omega) (by simp; omega) ?_; intro v' w' hO' hg' hz' hat'; clear hz' hat'; obtain ⟨g', cap'', rfl, hP'⟩ := Own.of_row (f := ic) (l := l' ++ [vv]) (by rw [List.flatMap_append]; exact hO') (by simp) (by omega); have hB' := But.grown (hB.alloc _) hg' (fun g hg => (hO.lt g hg).1); have hcur' := CurAt.grown (hcur3.alloc _) hg' (fun e => by have := (hO.lt k e).1; omega)))
            go_roundw
            case rel => exact ⟨l' ++ [vv], z' - 1, some ⟨g', 0, none⟩, cap'', by simp, rfl, by omega, by omega, by simp, by simp; omega, hB', hcur', by have := hP'.own ic_len; simpa using this⟩
            case measure => simp [intOf]; omega
          · have hyd : decide (0 < z') = false := decide_eq_false hyp
            go_wp2
            go_roundw
            case rel => exact ⟨l', z' - 1, A', c', rfl, rfl, by omega, by omega, hB, hcur3, hO⟩
            case measure => simp [intOf]; omega
    · have HO := Lib.hid hO; clear hO
      go_wp2
      go_ret
      exact ⟨l, A, c, rfl, by omega, SlW.of_own' (f := ic) HO.out rfl, hB, hcur1⟩

end Go.Proofs.Ytaieigdnfdnnpaa

/-
  The draw of jobs.
-/
namespace Go.Proofs.Ytaieigdnfdnnpaa
set_option linter.unusedSimpArgs false
set_option linter.unusedVariables false
open Go.RowKit
set_option linter.unusedVariables false
attribute [local go_sem ↓] Go.wp_at_zero Go.wp_at_succ

theorem SameIn.grown {lo M : Nat} {w w' : World} {row : Option Nat} (hg : w.grownBy w' row) (hr : ∀ g, row = some g → M ≤ g) (hM : M ≤ w.heap.size) : SameIn lo M w w' := fun j _ h2 => hg.block j (by omega) (fun e => by have := hr j e.symm; omega)
theorem own_keepT {N : Nat} {e : TypeId} {s : Nat} {v : Value} {n : Nat} {xs : List Value} {w w' : World} (h : w.ownsRow N e s v n xs) (hk : KeepT e w w') : w'.ownsRow N e s v n xs := by
  refine ⟨h.1, ?_⟩
  rcases h.2 with h' | ⟨g, cap, cur, hv, hg, hh, hr⟩
  · exact .inl h'
  · exact .inr ⟨g, cap, cur, hv, hg, (hk g cur hh).trans hh, hr⟩
theorem EachW.push {lo hi : Nat} {w : World} {rows : List Jw} {L : List (List Int)} {l : List Int} {a : Jw} (h : EachW lo hi w rows L) (ha : IntsW lo hi w a.A a.n a.cap l) : EachW lo hi w (rows ++ [a]) (L ++ [l]) := by
  refine ⟨by simp [h.1], fun j b m hb hm => ?_⟩
  by_cases hj : j < rows.length
  · rw [List.getElem?_append_left hj] at hb
    rw [List.getElem?_append_left (by have := h.1; omega)] at hm
    exact h.2 j b m hb hm
  · obtain rfl : j = rows.length := by
      have := (List.getElem?_eq_some_iff.1 hb).1
      simp at this; omega
    rw [List.getElem?_append_right (Nat.le_refl _)] at hb
    rw [List.getElem?_append_right (by have := h.1; omega)] at hm
    simp [h.1] at hb hm
    subst hb hm
    exact ha

/-- Jobs are drawn. -/
def DrawsJ (k : Nat) (a0 : Option Addr) (len cap : Nat) (w : World) (e : Ending) (w' : World) : Prop :=
  ∃ (js : List (List Int)) (A : Option Addr) (c : Nat), e = .returned (.slice A js.length c) ∧ 1 ≤ js.length ∧ js.length ≤ 3 ∧ (∀ l ∈ js, jobsOk l = true) ∧ ListsW w.heap.size w'.heap.size w' A js.length c js ∧ But k w w' ∧ CurAt w' k a0 len cap

set_option maxRecDepth 100000 in
set_option maxHeartbeats 2000000 in
theorem l10DrawJobs_any (N k : Nat) (a0 : Option Addr) (len cap : Nat) (w : World) (hc : CodeOk N w a0 len) (hk : N ≤ k) (hN : N ≤ w.heap.size) (hcur : CurAt w k a0 len cap) :
    Calls Try.prog 70 #[.pointer (some ⟨k, 0, none⟩)] w (DrawsJ k a0 len cap w) := by
  obtain ⟨i0, hi0, hz0, hz1, hz2⟩ := info_parts int_info
  have HI := Lib.hid hi0
  have HZ0 := Lib.hid hz0
  have HZ1 := Lib.hid hz1
  have HZ2 := Lib.hid hz2
  clear hi0 hz0 hz1 hz2
  obtain ⟨i1, hi0, hz0, hz1, hz2⟩ := info_parts list_info
  have LI := Lib.hid hi0
  have LZ0 := Lib.hid hz0
  have LZ1 := Lib.hid hz1
  have LZ2 := Lib.hid hz2
  clear hi0 hz0 hz1 hz2
  have lk := hcur.lt
  go_enter Try.func70, Try.ntmps70
  go_wp2_with fail
  refine calls_abs (fun W => But k w W ∧ CurAt W k a0 len cap ∧ W.ownsRow w.heap.size 55 1 (.slice (some ⟨w.heap.size, 0, none⟩) 0 0) 0 (([] : List Jw).flatMap Jw.cs)) ⟨(But.refl _ _).alloc _, hcur.alloc _, own_made rfl (Nat.le_refl _)⟩ ?_
  rintro W0 ⟨hB, hcur0, hO⟩
  refine (l1Below_any N k a0 len cap _ _ (hc.below (hB.below hk hN)) hk (Nat.le_trans hN hB.size) hcur0 (by omega)).mono ?_
  rintro e w1 ⟨x, ⟨x0, x1⟩, rfl, hB1, hcur1⟩
  replace hO := own_but hO hB1 lk
  replace hB := hB.trans hB1
  clear hB1 hcur0
  go_wp2
  go_loopw [3, 4, 5] (fun s3 s4 s5 W => ∃ (js : List (List Int)) (rows : List Jw) (z v : Int) (A : Option Addr) (c : Nat), s3 = .slice A js.length c ∧ s4 = .int .i64 v ∧ s5 = .int .i64 z ∧ 0 ≤ z ∧ (js.length : Int) + z ≤ 3 ∧ 1 ≤ (js.length : Int) + z ∧ 1 ≤ v ∧ v ≤ 1 + 3 * (js.length : Int) ∧ (∀ l ∈ js, jobsOk l = true) ∧ But k w W ∧ CurAt W k a0 len cap ∧ W.ownsRow w.heap.size 55 1 (.slice A js.length c) js.length (rows.flatMap Jw.cs) ∧ EachW w.heap.size W.heap.size W rows js) (fun _ _ s5 _ => (intOf s5).toNat)
  case atStart => exact ⟨[], [], 1 + x, 1, some ⟨w.heap.size, 0, none⟩, 0, rfl, rfl, rfl, by omega, by simp; omega, by simp; omega, by omega, by simp, by simp, hB, hcur1, hO, rfl, fun i a l h => by simp at h⟩
  case round =>
    clear hB hcur1 hO
    obtain ⟨js, rows, z, v, A, c, rfl, rfl, rfl, hz1, hz2, hz3, hv1, hv2, hjs, hB, hcur1, hO, hE⟩ := hrel
    have HJS := Lib.hid hjs; clear hjs
    by_cases hzp : 0 < z
    · have hws := hB.size
      have lk1 := hcur1.lt
      obtain ⟨M, hM⟩ : ∃ M, M = wr.heap.size := ⟨_, rfl⟩
      rw [← hM] at hE
      have hwM : w.heap.size ≤ M := by omega
      go_wp2_with fail
      refine calls_abs (fun W => But k w W ∧ CurAt W k a0 len cap ∧ W.ownsRow w.heap.size 55 1 (.slice A js.length c) js.length (rows.flatMap Jw.cs) ∧ EachW w.heap.size M W rows js ∧ W.ownsRow M 2 1 (.slice (some ⟨M, 0, none⟩) 0 0) 0 (([] : List Int).flatMap ic)) ⟨hB.alloc _, hcur1.alloc _, hO.alloc _, hE.keep (.alloc (by omega) _), own_made hM (by omega)⟩ ?_
      rw [← hM]
      clear hB hcur1 hO hE
      rintro W1 ⟨hB, hcur1, hO, hE, hL⟩
      have hM1 : M ≤ W1.heap.size := by have := (hL.lt M rfl).2; omega
      refine (l1Below_any N k a0 len cap _ _ (hc.below (hB.below hk hN)) hk (Nat.le_trans hN hB.size) hcur1 (by omega)).mono ?_
      rintro e w2 ⟨y, ⟨y0, y1⟩, rfl, hB2, hcur2⟩
      replace hO := own_but hO hB2 lk
      replace hL := own_but hL hB2 (by omega)
      replace hE := hE.keep (.but hB2 (.inl lk) hM1)
      have hM2 : M ≤ w2.heap.size := Nat.le_trans hM1 hB2.size
      replace hB := hB.trans hB2
      clear hB2 hcur1 hM1
      go_wp2
      go_loopw [4, 6, 7] (fun s4 s6 s7 W => ∃ (l : List Int) (y v' : Int) (B : Option Addr) (d : Nat), s6 = .slice B l.length d ∧ s4 = .int .i64 v' ∧ s7 = .int .i64 y ∧ 0 ≤ y ∧ (l.length : Int) + y ≤ 3 ∧ 1 ≤ v' ∧ v' ≤ 1 + 3 * (js.length : Int) + l.length ∧ l.all jobB = true ∧ But k w W ∧ CurAt W k a0 len cap ∧ W.ownsRow w.heap.size 55 1 (.slice A js.length c) js.length (rows.flatMap Jw.cs) ∧ EachW w.heap.size M W rows js ∧ W.ownsRow M 2 1 (.slice B l.length d) l.length (l.flatMap ic) ∧ M ≤ W.heap.size) (fun _ _ s7 _ => (intOf s7).toNat)
      case atStart => exact ⟨[], 1 + y, v, some ⟨M, 0, none⟩, 0, by rw [hM]; rfl, rfl, rfl, by omega, by simp; omega, hv1, by simp; omega, rfl, hB, hcur2, hO, hE, hL, hM2⟩
      case round =>
        clear hB hcur2 hO hE hL hM2
        obtain ⟨l, y, v', B, d, rfl, rfl, rfl, hy1, hy2, hv3, hv4, hal, hB, hcur2, hO, hE, hL, hM2⟩ := hrel
        have HAL := Lib.hid hal; clear hal
        by_cases hyp : 0 < y
        · go_wp2_with fail
          refine (l1Once_any N k a0 len cap _ _ (hc.below (hB.below hk hN)) hk (Nat.le_trans hN hB.size) hcur2 (by omega)).mono ?_
          rintro e w3 ⟨b, rfl, hB3, hcur3⟩
          replace hO := own_but hO hB3 lk
          replace hL := own_but hL hB3 (by omega)
          replace hE := hE.keep (.but hB3 (.inl lk) hM2)
          replace hM2 := Nat.le_trans hM2 hB3.size
          replace hB := hB.trans hB3
          clear hB3 hcur2
          cases b
          · have hws2 := hB.size
            have HJB := Lib.hid (show jobB (v') = true from by have := hv4; unfold jobB inB; simp; omega)
            go_wp2_with (at_builtin; go_must (refine wpList_append_own_at _ rfl (.tmp 29) (.tmp 31) _ rfl M 2 i0 _ 1 8 Try.underlying55 HI.out HZ0.out HZ1.out HZ2.out rfl (by omega) (.slice B l.length d) l.length _ rfl (hL.alloc _) ⟨w3.heap.size, 0, none⟩ 1 1 [.int .i64 (v')] rfl rfl (news_alloc _ _ _) (by intro u hu; simp at hu; subst hu; rfl) (by unfold maxLen; omega) (by omega) (by simp; omega) ?_; intro u' w' hL' hg' hz' hat'; clear hz' hat'; obtain ⟨g', cap'', rfl, hP'⟩ := Own.of_row (f := ic) (l := l ++ [v']) (by rw [List.flatMap_append]; exact hL') (by simp) (by omega); have hB' := But.grown (hB.alloc _) hg' (fun g hg => by have := (hL.lt g hg).1; omega); have hcur' := CurAt.grown (hcur3.alloc _) hg' (fun e => by have := (hL.lt k e).1; omega)))
            have hkk : KeepT 55 w3 w' := (KeepT.alloc w3 _).trans (KeepT.grown (hL.alloc _) hg' (by decide))
            have hsm : SameIn w.heap.size M w3 w' := (SameIn.alloc hM2 _).trans (SameIn.grown hg' (fun g hg => (hL.lt g hg).1) (by simp; omega))
            have hsz : w3.heap.size ≤ w'.heap.size := by have := hg'.size; simp at this; omega
            go_roundw
            case rel =>
              refine ⟨l ++ [v'], y - 1, v' + 1, some ⟨g', 0, none⟩, cap'', by simp, rfl, rfl, by omega, by simp; omega, by omega, by simp; omega, ?_, hB', hcur', own_keepT hO hkk, hE.keep hsm, by have := hP'.own ic_len; simpa using this, by omega⟩
              rw [List.all_append, HAL.out]
              simp [HJB.out]
            case measure => simp [intOf]; omega
          · have hws2 := hB.size
            have HJB := Lib.hid (show jobB (0) = true from by decide)
            go_wp2_with (at_builtin; go_must (refine wpList_append_own_at _ rfl (.tmp 26) (.tmp 27) _ rfl M 2 i0 _ 1 8 Try.underlying55 HI.out HZ0.out HZ1.out HZ2.out rfl (by omega) (.slice B l.length d) l.length _ rfl (hL.alloc _) ⟨w3.heap.size, 0, none⟩ 1 1 [.int .i64 (0)] rfl rfl (news_alloc _ _ _) (by intro u hu; simp at hu; subst hu; rfl) (by unfold maxLen; omega) (by omega) (by simp; omega) ?_; intro u' w' hL' hg' hz' hat'; clear hz' hat'; obtain ⟨g', cap'', rfl, hP'⟩ := Own.of_row (f := ic) (l := l ++ [0]) (by rw [List.flatMap_append]; exact hL') (by simp) (by omega); have hB' := But.grown (hB.alloc _) hg' (fun g hg => by have := (hL.lt g hg).1; omega); have hcur' := CurAt.grown (hcur3.alloc _) hg' (fun e => by have := (hL.lt k e).1; omega)))
            have hkk : KeepT 55 w3 w' := (KeepT.alloc w3 _).trans (KeepT.grown (hL.alloc _) hg' (by decide))
            have hsm : SameIn w.heap.size M w3 w' := (SameIn.alloc hM2 _).trans (SameIn.grown hg' (fun g hg => (hL.lt g hg).1) (by simp; omega))
            have hsz : w3.heap.size ≤ w'.heap.size := by have := hg'.size; simp at this; omega
            go_roundw
            case rel =>
              refine ⟨l ++ [0], y - 1, v', some ⟨g', 0, none⟩, cap'', by simp, rfl, rfl, by omega, by simp; omega, by omega, by simp; omega, ?_, hB', hcur', own_keepT hO hkk, hE.keep hsm, by have := hP'.own ic_len; simpa using this, by omega⟩
              rw [List.all_append, HAL.out]
              simp [HJB.out]
            case measure => simp [intOf]; omega
        · have HL := Lib.hid hL
          have hws2 := hB.size
          go_wp2_with (at_builtin; go_must (refine wpList_append_own_at _ rfl (.tmp 35) (.tmp 37) _ rfl w.heap.size 55 i1 _ 1 24 Try.underlying85 LI.out LZ0.out LZ1.out LZ2.out rfl (by omega) (.slice A js.length c) js.length _ rfl (hO.alloc _) ⟨wr.heap.size, 0, none⟩ 1 1 [.slice B l.length d] rfl rfl (news_alloc _ _ _) (by intro u hu; simp at hu; subst hu; rfl) (by unfold maxLen; omega) (by omega) (by simp; omega) ?_; intro u' w' hO' hg' hz' hat'; clear hz' hat'; obtain ⟨g', cap'', rfl, hP'⟩ := Own.of_row (f := Jw.cs) (l := rows ++ [(⟨B, l.length, d⟩ : Jw)]) (n := js.length + 1) (by rw [List.flatMap_append]; exact hO') (by simp [hE.1]) (by omega); have hB' := But.grown (hB.alloc _) hg' (fun g hg => (hO.lt g hg).1); have hcur' := CurAt.grown (hcur2.alloc _) hg' (fun e => by have := (hO.lt k e).1; omega)))
          have hkk : KeepT 2 wr w' := (KeepT.alloc wr _).trans (KeepT.grown (hO.alloc _) hg' (by decide))
          have hsz : wr.heap.size ≤ w'.heap.size := by have := hg'.size; simp at this; omega
          go_roundw
          case rel =>
            refine ⟨js ++ [l], rows ++ [⟨B, l.length, d⟩], z - 1, v', some ⟨g', 0, none⟩, cap'', by simp, rfl, rfl, by omega, by simp; omega, by simp; omega, hv3, by simp; omega, fun m hm => ?_, hB', hcur', by have := hP'.own Jw.cs_len; simpa using this, ?_⟩
            · rcases List.mem_append.1 hm with h1 | h1
              · exact HJS.out m h1
              · simp at h1
                subst h1
                unfold jobsOk
                rw [HAL.out, decide_eq_true (by omega)]; rfl
            · exact EachW.push ((hE.keepT hkk).mono (Nat.le_refl _) (by omega)) (SlW.mono (SlW.keepT (SlW.of_own' (f := ic) HL.out rfl) hkk) (by omega) hsz)
          case measure => simp [intOf]; omega
    · have HO := Lib.hid hO
      have HE := Lib.hid hE
      clear hO hE
      go_wp2
      go_ret
      refine ⟨js, A, c, rfl, by omega, by omega, HJS.out, ⟨rows, SlW.of_own' (f := Jw.cs) HO.out HE.out.1, HE.out⟩, hB, hcur1⟩

end Go.Proofs.Ytaieigdnfdnnpaa


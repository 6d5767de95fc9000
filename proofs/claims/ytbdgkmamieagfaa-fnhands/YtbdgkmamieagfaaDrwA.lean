/-
  The draws of turns and of jobs.
-/
import Derived.Test.YtbdgkmamieagfaaCurB
import Derived.Test.YtbdgkmamieagfaaCrewG
import Derived.Test.YtbdgkmamieagfaaCrewH
namespace Go.Proofs.Ytbdgkmamieagfaa
set_option linter.unusedSimpArgs false
set_option linter.unusedVariables false
open Go.RowKit
set_option linter.unusedVariables false
attribute [local go_sem ↓] Go.wp_at_zero Go.wp_at_succ

theorem But.grown {k : Nat} {a b c : World} {row : Option Nat} (h : But k a b) (hg : b.grownBy c row) (hr : ∀ g, row = some g → a.heap.size ≤ g) : But k a c :=
  ⟨hg.os.trans h.os, hg.tape.trans h.tape, hg.output.trans h.output, Nat.le_trans h.size hg.size, fun j hj hk => (hg.block j (Nat.lt_of_lt_of_le hj h.size) (fun e => by have := hr j e.symm; omega)).trans (h.block j hj hk)⟩
theorem CurAt.grown {k : Nat} {w w' : World} {a0 : Option Addr} {len cap : Nat} {row : Option Nat} (h : CurAt w k a0 len cap) (hg : w.grownBy w' row) (hr : row ≠ some k) : CurAt w' k a0 len cap := by
  obtain ⟨i, x, hi, hb⟩ := h
  exact ⟨i, x, hi, hb.grown2 hg hr⟩
theorem own_but {k N : Nat} {e : TypeId} {s : Nat} {v : Value} {n : Nat} {xs : List Value} {w w' : World} (h : w.ownsRow N e s v n xs) (hb : But k w w') (hk : k < N) : w'.ownsRow N e s v n xs := by
  refine ⟨h.1, ?_⟩
  rcases h.2 with h' | ⟨g, cap, cur, hv, hg, hh, hr⟩
  · exact .inl h'
  · exact .inr ⟨g, cap, cur, hv, hg, (hb.block g (Array.getElem?_eq_some_iff.1 hh).1 (by omega)).trans hh, hr⟩
theorem KeepT.but {T : TypeId} {k : Nat} {w w' : World} {cs : Array Value} {t : TypeId} (hb : But k w w') (hk : BoxAt w k cs t) (ht : t ≠ T) : KeepT T w w' := fun g cs' hg => hb.block g hg.lt (by
  rintro rfl
  unfold BoxAt at hg hk
  rw [hg] at hk
  injection hk with hk
  injection hk with _ hk
  exact ht hk.symm)
theorem CurAt.box {k : Nat} {w : World} {a0 : Option Addr} {len cap : Nat} (h : CurAt w k a0 len cap) : ∃ cs, BoxAt w k cs 71 := by
  obtain ⟨i, x, hi, hb⟩ := h
  exact ⟨_, hb⟩

/-- Numbers are drawn: a list of them, of the call's own. -/
def DrawsL (m : Nat) (k : Nat) (a0 : Option Addr) (len cap : Nat) (w : World) (e : Ending) (w' : World) : Prop :=
  ∃ (l : List Int) (A : Option Addr) (c : Nat), e = .returned (.slice A l.length c) ∧ l.length ≤ m ∧ IntsW w.heap.size w'.heap.size w' A l.length c l ∧ But k w w' ∧ CurAt w' k a0 len cap

set_option maxRecDepth 100000 in
set_option maxHeartbeats 2000000 in
theorem l10DrawTurns_any (N k : Nat) (a0 : Option Addr) (len cap : Nat) (n : Int) (most : Nat) (w : World) (hc : CodeOk N w a0 len) (hk : N ≤ k) (hN : N ≤ w.heap.size) (hcur : CurAt w k a0 len cap) (hn : 0 < n) (hm0 : 0 < most) (hm1 : most ≤ 256) :
    Calls Try.prog 72 #[.pointer (some ⟨k, 0, none⟩), .int .i64 n, .int .i64 most] w (DrawsL most k a0 len cap w) := by
  obtain ⟨i0, hi0, hz0, hz1, hz2⟩ := info_parts int_info
  have HI := Lib.hid hi0
  have HZ0 := Lib.hid hz0
  have HZ1 := Lib.hid hz1
  have HZ2 := Lib.hid hz2
  clear hi0 hz0 hz1 hz2
  have lk := hcur.lt
  go_enter Try.func72, Try.ntmps72
  go_wp2_with fail
  refine calls_abs (fun W => But k w W ∧ CurAt W k a0 len cap ∧ W.ownsRow w.heap.size 2 1 (.slice (some ⟨w.heap.size, 0, none⟩) 0 0) 0 (([] : List Int).flatMap ic)) ⟨(But.refl _ _).alloc _, hcur.alloc _, own_made rfl (Nat.le_refl _)⟩ ?_
  rintro W0 ⟨hB, hcur0, hO⟩
  refine (l1Below_any N k a0 len cap _ _ (hc.below (hB.below hk hN)) hk (Nat.le_trans hN hB.size) hcur0 (by omega)).mono ?_
  rintro e w1 ⟨x, ⟨x0, x1⟩, rfl, hB1, hcur1⟩
  replace hO := own_but hO hB1 lk
  replace hB := hB.trans hB1
  clear hB1 hcur0
  go_wp2
  go_loopw [7, 8] (fun s7 s8 W => ∃ (l : List Int) (z : Int) (A : Option Addr) (c : Nat), s7 = .slice A l.length c ∧ s8 = .int .i64 z ∧ -1 ≤ z ∧ (l.length : Int) + z ≤ (most : Int) - 1 ∧ But k w W ∧ CurAt W k a0 len cap ∧ W.ownsRow w.heap.size 2 1 (.slice A l.length c) l.length (l.flatMap ic)) (fun _ s8 _ => (intOf s8).toNat)
  case atStart => exact ⟨[], x, some ⟨w.heap.size, 0, none⟩, 0, rfl, rfl, by omega, by simp; omega, hB, hcur1, hO⟩
  case round =>
    clear hB hcur1 hO
    obtain ⟨l, z, A, c, rfl, rfl, hz1, hz2, hB, hcur1, hO⟩ := hrel
    by_cases hzp : 0 < z
    · have hll : l.length < 256 := by omega
      go_wp2_with fail
      refine (l1Below_any N k a0 len cap _ _ (hc.below (hB.below hk hN)) hk (Nat.le_trans hN hB.size) hcur1 hn).mono ?_
      rintro e w2 ⟨v, ⟨v0, v1⟩, rfl, hB2, hcur2⟩
      replace hO := own_but hO hB2 lk
      replace hB := hB.trans hB2
      clear hB2 hcur1
      have hws := hB.size
      go_wp2_with (at_builtin; go_must (refine wpList_append_own_at _ rfl (.tmp 17) (.tmp 21) _ rfl w.heap.size 2 i0 _ 1 8 Try.underlying59 HI.out HZ0.out HZ1.out HZ2.out rfl (by omega) (.slice A l.length c) l.length _ rfl (hO.alloc _) ⟨w2.heap.size, 0, none⟩ 1 1 [.int .i64 v] rfl rfl (news_alloc _ _ _) (by intro u hu; simp at hu; subst hu; rfl) (by unfold maxLen; omega) (by omega) (by simp; omega) ?_; intro v' w' hO' hg' hz' hat'; clear hz' hat'; obtain ⟨g', cap'', rfl, hP'⟩ := Own.of_row (f := ic) (l := l ++ [v]) (by rw [List.flatMap_append]; exact hO') (by simp) (by omega); have hB' := But.grown (hB.alloc _) hg' (fun g hg => (hO.lt g hg).1); have hcur' := CurAt.grown (hcur2.alloc _) hg' (fun e => by have := (hO.lt k e).1; omega)))
      go_loopw [7, 8] (fun s7 s8 W => ∃ (l' : List Int) (z' : Int) (A : Option Addr) (c : Nat), s7 = .slice A l'.length c ∧ s8 = .int .i64 z' ∧ 0 ≤ z' ∧ z' ≤ z ∧ 1 ≤ l'.length ∧ (l'.length : Int) + z' ≤ (most : Int) ∧ But k w W ∧ CurAt W k a0 len cap ∧ W.ownsRow w.heap.size 2 1 (.slice A l'.length c) l'.length (l'.flatMap ic)) (fun _ s8 _ => (intOf s8).toNat)
      case atStart => exact ⟨l ++ [v], z, some ⟨g', 0, none⟩, cap'', by simp, rfl, by omega, by omega, by simp, by simp; omega, hB', hcur', by have := hP'.own ic_len; simpa using this⟩
      case round =>
        clear hB hcur2 hO hB' hcur' hP' hg' hO'
        obtain ⟨l', z', A', c', rfl, rfl, hy0, hy1, hy2, hy3, hB, hcur1, hO⟩ := hrel
        go_wp2_with fail
        refine (l1Once_any N k a0 len cap _ _ (hc.below (hB.below hk hN)) hk (Nat.le_trans hN hB.size) hcur1 (by omega)).mono ?_
        rintro e w3 ⟨b, rfl, hB3, hcur3⟩
        replace hO := own_but hO hB3 lk
        replace hB := hB.trans hB3
        clear hB3 hcur1
        have hws := hB.size
        cases b
        · go_wp2
          go_roundw
          case rel => exact ⟨l', z' - 1, A', c', rfl, rfl, by omega, by omega, hB, hcur3, hO⟩
          case measure => simp [intOf]; omega
        · by_cases hyp : 0 < z'
          · have hyd : decide (0 < z') = true := decide_eq_true hyp
            obtain ⟨g2, cap2, e2, hP2⟩ := Own.of_row (f := ic) hO rfl (by omega)
            injection e2 with e2 _ e3
            subst e2 e3
            have hl1 : l'.length - 1 < l'.length := by omega
            have hle : l'[l'.length - 1]? = some (l'[l'.length - 1]'hl1) := List.getElem?_eq_getElem hl1
            have kl := Own.cell_ ic_len hP2 (j := 0) hle rfl
            rw [Nat.mul_one, Nat.add_zero] at kl
            generalize l'[l'.length - 1]'hl1 = vv at *
            clear hle
            have hg1 : (0 : Int) ≤ (l'.length : Int) - 1 := by omega
            have hg2 : (l'.length : Int) - 1 < (l'.length : Int) := by omega
            have hnt : ((l'.length : Int) - 1).toNat = l'.length - 1 := by omega
            have hnn : (1 : Int) ≤ (l'.length : Int) := by omega
            go_wp2_with (at_builtin; go_must (refine wpList_append_own_at _ rfl (.tmp 29) (.tmp 36) _ rfl w.heap.size 2 i0 _ 1 8 Try.underlying59 HI.out HZ0.out HZ1.out HZ2.out rfl (by omega) (.slice (some ⟨g2, 0, none⟩) l'.length c') l'.length _ rfl (hO.alloc _) ⟨w3.heap.size, 0, none⟩ 1 1 [.int .i64 vv] rfl rfl (news_alloc _ _ _) (by intro u hu; simp at hu; subst hu; rfl) (by unfold maxLen; omega) (by omega) (by simp; omega) ?_; intro v' w' hO' hg' hz' hat'; clear hz' hat'; obtain ⟨g', cap'', rfl, hP'⟩ := Own.of_row (f := ic) (l := l' ++ [vv]) (by rw [List.flatMap_append]; exact hO') (by simp) (by omega); have hB' := But.grown (hB.alloc _) hg' (fun g hg => (hO.lt g hg).1); have hcur' := CurAt.grown (hcur3.alloc _) hg' (fun e => by have := (hO.lt k e).1; omega)))
            go_roundw
            case rel => exact ⟨l' ++ [vv], z' - 1, some ⟨g', 0, none⟩, cap'', by simp, rfl, by omega, by omega, by simp, by simp; omega, hB', hcur', by have := hP'.own ic_len; simpa using this⟩
            case measure => simp [intOf]; omega
          · have hyd : decide (0 < z') = false := decide_eq_false hyp
            go_wp2
            go_roundw
            case rel => exact ⟨l', z' - 1, A', c', rfl, rfl, by omega, by omega, hB, hcur3, hO⟩
            case measure => simp [intOf]; omega
    · have HO := Lib.hid hO; clear hO
      go_wp2
      go_ret
      exact ⟨l, A, c, rfl, by omega, SlW.of_own' (f := ic) HO.out rfl, hB, hcur1⟩

end Go.Proofs.Ytbdgkmamieagfaa

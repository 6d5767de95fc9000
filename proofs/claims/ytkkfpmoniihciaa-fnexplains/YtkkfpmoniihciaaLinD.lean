/-
  The draws of lines and of events.
-/
import Derived.Test.YtkkfpmoniihciaaCurG
import Derived.Test.YtkkfpmoniihciaaLinA
namespace Go.Proofs.Ytkkfpmoniihciaa
set_option linter.unusedSimpArgs false
set_option linter.unusedVariables false
open Go.RowKit
set_option linter.unusedVariables false
attribute [local go_sem ↓] Go.wp_at_zero Go.wp_at_succ

/-- The length that stands in a slice. -/
def lenOf : Value → Nat
  | .slice _ n _ => n
  | _ => 0

set_option maxRecDepth 100000 in
set_option maxHeartbeats 4000000 in
theorem l12Draw_any (N k : Nat) (a0 : Option Addr) (len cap : Nat) (w : World) (hc : CodeOk N w a0 len) (hk : N ≤ k) (hN : N ≤ w.heap.size) (hcur : CurAt w k a0 len cap) :
    Calls Try.prog 28 #[.pointer (some ⟨k, 0, none⟩)] w (DrawsL 44 k a0 len cap w) := by
  obtain ⟨i0, hi0, hz0, hz1, hz2⟩ := info_parts int_info
  have HI := Lib.hid hi0
  have HZ0 := Lib.hid hz0
  have HZ1 := Lib.hid hz1
  have HZ2 := Lib.hid hz2
  clear hi0 hz0 hz1 hz2
  have lk := hcur.lt
  go_enter Try.func28, Try.ntmps28
  go_wp2_with fail
  refine calls_abs (fun W => But k w W ∧ CurAt W k a0 len cap ∧ IntsO w.heap.size W (.slice (some ⟨w.heap.size, 0, none⟩) 0 0) []) ⟨(But.refl _ _).alloc _, hcur.alloc _, ints_made rfl (Nat.le_refl _)⟩ ?_
  clear hcur
  rintro W ⟨hB, hcur, hO⟩
  refine (l1Below_any N k a0 len cap _ _ (hc.below (hB.below hk hN)) hk (Nat.le_trans hN hB.size) hcur (by omega)).mono ?_
  rintro e w1 ⟨m, ⟨m0, m1⟩, rfl, hB1, hcur1⟩
  replace hO := hO.butc hB1 lk
  replace hB := hB.trans hB1
  clear hB1 hcur
  go_wp2
  go_loopw [3, 4] (fun s3 s4 W => ∃ (l : List Int) (A : Option Addr) (c : Nat) (z : Int), s3 = .slice A l.length c ∧ s4 = .int .i64 z ∧ 0 ≤ z ∧ (l.length : Int) + z ≤ 3 ∧ But k w W ∧ CurAt W k a0 len cap ∧ IntsO w.heap.size W (.slice A l.length c) l) (fun _ s4 _ => (intOf s4).toNat)
  case atStart => exact ⟨[], _, _, m, rfl, rfl, m0, by simp; omega, hB, hcur1, hO⟩
  case round =>
    clear hB hcur1 hO
    obtain ⟨l, A, c, z, rfl, rfl, z0, hl, hB, hcur, hO⟩ := hrel
    by_cases hz : z > 0
    · have hln : l.length ≤ 2 := by omega
      go_wp2_with fail
      refine (l1Below_any N k a0 len cap _ _ (hc.below (hB.below hk hN)) hk (Nat.le_trans hN hB.size) hcur (by omega)).mono ?_
      rintro e w2 ⟨v, ⟨v0, v1⟩, rfl, hB2, hcur2⟩
      replace hO := hO.butc hB2 lk
      replace hB := hB.trans hB2
      clear hB2 hcur
      go_wp2_with (at_builtin; go_must (refine wpList_append_own_at _ rfl (.tmp 12) (.tmp 16) _ rfl w.heap.size 2 i0 _ 1 8 Try.underlying24 HI.out HZ0.out HZ1.out HZ2.out rfl (by omega) (.slice A l.length c) l.length _ rfl (hO.below ((Below.refl _ _).alloc (Nat.le_refl _) _)) ⟨w2.heap.size, 0, none⟩ 1 1 [.int .i64 (1 + v)] rfl rfl (news_alloc _ _ _) (int1 _) (by unfold maxLen; omega) (by omega) (by simp; have := hB.size; omega) ?_; intro v' w' hO' hg' hz' hat'; clear hz' hat'; obtain ⟨B', c', rfl, hP'⟩ := ints_snoc2 hO'; have hB' := But.grown (hB.alloc _) hg' (ints_ge hO); have hcur' := CurAt.grown (hcur2.alloc _) hg' (fun e => by have := ints_ge hO k e; omega)))
      go_roundw
      case rel => exact ⟨l ++ [1 + v], B', c', z - 1, by simp, by go_num, by omega, by simp; omega, hB', hcur', by simpa using hP'⟩
      case measure => simp [intOf]; omega
    · have hln : l.length ≤ 3 := by omega
      go_wp2_with fail
      refine (l1Once_any N k a0 len cap _ _ (hc.below (hB.below hk hN)) hk (Nat.le_trans hN hB.size) hcur (by omega)).mono ?_
      rintro e w2 ⟨b, rfl, hB2, hcur2⟩
      replace hO := hO.butc hB2 lk
      replace hB := hB.trans hB2
      clear hB2 hcur
      go_upto_if 19 with fail
      go_cut [3] (fun s3 W' => ∃ (l : List Int) (A : Option Addr) (c : Nat), s3 = .slice A l.length c ∧ l.length ≤ 4 ∧ But k w W' ∧ CurAt W' k a0 len cap ∧ IntsO w.heap.size W' (.slice A l.length c) l)
      case first =>
        cases b
        · go_wp2
          go_meet
          exact ⟨l, A, c, rfl, by omega, hB, hcur2, hO⟩
        · go_wp2_with fail
          refine calls_abs (fun W => But k w W ∧ CurAt W k a0 len cap ∧ IntsO w.heap.size W (.slice A l.length c) l ∧ BoxAt W w2.heap.size #[.int .i64 0, .int .i64 1000001] 2) ⟨hB.alloc _, hcur2.alloc _, hO.below ((Below.refl _ _).alloc (Nat.le_refl _) _), BoxAt.new _ _ _⟩ ?_
          have hs2 := hB.size
          clear hB hcur2 hO
          rintro W3 ⟨hB, hcur, hO, hx⟩
          refine (l1Below_any N k a0 len cap _ _ (hc.below (hB.below hk hN)) hk (Nat.le_trans hN hB.size) hcur (by omega)).mono ?_
          rintro e w4 ⟨q, ⟨q0, q1⟩, rfl, hB2, hcur2⟩
          replace hO := hO.butc hB2 lk
          replace hx := hB2.box hx (by omega)
          replace hB := hB.trans hB2
          clear hB2 hcur
          have kx := hx.cell
          have hq : q = 0 ∨ q = 1 := by omega
          rcases hq with rfl | rfl
          · go_wp2_with (at_builtin; go_must (refine wpList_append_own_at _ rfl (.tmp 20) (.tmp 26) _ rfl w.heap.size 2 i0 _ 1 8 Try.underlying24 HI.out HZ0.out HZ1.out HZ2.out rfl (by omega) (.slice A l.length c) l.length _ rfl (hO.below ((Below.refl _ _).alloc (Nat.le_refl _) _)) ⟨w4.heap.size, 0, none⟩ 1 1 [.int .i64 (0)] rfl rfl (news_alloc _ _ _) (int1 _) (by unfold maxLen; omega) (by omega) (by simp; have := hB.size; omega) ?_; intro v' w' hO' hg' hz' hat'; clear hz' hat'; obtain ⟨B', c', rfl, hP'⟩ := ints_snoc2 hO'; have hB' := But.grown (hB.alloc _) hg' (ints_ge hO); have hcur' := CurAt.grown (hcur2.alloc _) hg' (fun e => by have := ints_ge hO k e; omega)))
            go_meet
            exact ⟨l ++ [0], B', c', by simp, by simp; omega, hB', hcur', by simpa using hP'⟩
          · go_wp2_with (at_builtin; go_must (refine wpList_append_own_at _ rfl (.tmp 20) (.tmp 26) _ rfl w.heap.size 2 i0 _ 1 8 Try.underlying24 HI.out HZ0.out HZ1.out HZ2.out rfl (by omega) (.slice A l.length c) l.length _ rfl (hO.below ((Below.refl _ _).alloc (Nat.le_refl _) _)) ⟨w4.heap.size, 0, none⟩ 1 1 [.int .i64 (1000001)] rfl rfl (news_alloc _ _ _) (int1 _) (by unfold maxLen; omega) (by omega) (by simp; have := hB.size; omega) ?_; intro v' w' hO' hg' hz' hat'; clear hz' hat'; obtain ⟨B', c', rfl, hP'⟩ := ints_snoc2 hO'; have hB' := But.grown (hB.alloc _) hg' (ints_ge hO); have hcur' := CurAt.grown (hcur2.alloc _) hg' (fun e => by have := ints_ge hO k e; omega)))
            go_meet
            exact ⟨l ++ [1000001], B', c', by simp, by simp; omega, hB', hcur', by simpa using hP'⟩
      case rest =>
        clear hB hcur2 hO
        obtain ⟨l, A, c, rfl, hl4, hB, hcur, hO⟩ := hcut
        go_wp2_with fail
        refine (l1Once_any N k a0 len cap _ _ (hc.below (hB.below hk hN)) hk (Nat.le_trans hN hB.size) hcur (by omega)).mono ?_
        rintro e w3 ⟨b, rfl, hB2, hcur2⟩
        replace hO := hO.butc hB2 lk
        replace hB := hB.trans hB2
        clear hB2 hcur
        cases b
        · go_wp2
          go_ret
          exact ⟨l, A, c, rfl, by omega, ints_w hO, hB, hcur2⟩
        · go_wp2
          go_loopw [3] (fun s3 W => ∃ (l : List Int) (A : Option Addr) (c : Nat), s3 = .slice A l.length c ∧ l.length ≤ 42 ∧ But k w W ∧ CurAt W k a0 len cap ∧ IntsO w.heap.size W (.slice A l.length c) l) (fun s3 _ => 44 - lenOf s3)
          case atStart => exact ⟨l, A, c, rfl, by omega, hB, hcur2, hO⟩
          case round =>
            clear hB hcur2 hO
            obtain ⟨l, A, c, rfl, hl4, hB, hcur, hO⟩ := hrel
            go_wp2_with fail
            refine (l1Below_any N k a0 len cap _ _ (hc.below (hB.below hk hN)) hk (Nat.le_trans hN hB.size) hcur (by omega)).mono ?_
            rintro e w4 ⟨q, ⟨q0, q1⟩, rfl, hB2, hcur2⟩
            replace hO := hO.butc hB2 lk
            replace hB := hB.trans hB2
            clear hB2 hcur
            by_cases hlt : (l.length : Int) < 39 + q
            · go_wp2_with (at_builtin; go_must (refine wpList_append_own_at _ rfl (.tmp 36) (.tmp 37) _ rfl w.heap.size 2 i0 _ 1 8 Try.underlying24 HI.out HZ0.out HZ1.out HZ2.out rfl (by omega) (.slice A l.length c) l.length _ rfl (hO.below ((Below.refl _ _).alloc (Nat.le_refl _) _)) ⟨w4.heap.size, 0, none⟩ 1 1 [.int .i64 (2)] rfl rfl (news_alloc _ _ _) (int1 _) (by unfold maxLen; omega) (by omega) (by simp; have := hB.size; omega) ?_; intro v' w' hO' hg' hz' hat'; clear hz' hat'; obtain ⟨B', c', rfl, hP'⟩ := ints_snoc2 hO'; have hB' := But.grown (hB.alloc _) hg' (ints_ge hO); have hcur' := CurAt.grown (hcur2.alloc _) hg' (fun e => by have := ints_ge hO k e; omega)))
              go_roundw
              case rel => exact ⟨l ++ [2], B', c', by simp, by simp; omega, hB', hcur', by simpa using hP'⟩
              case measure => simp [lenOf]; omega
            · go_wp2
              go_ret
              exact ⟨l, A, c, rfl, by omega, ints_w hO, hB, hcur2⟩

end Go.Proofs.Ytkkfpmoniihciaa

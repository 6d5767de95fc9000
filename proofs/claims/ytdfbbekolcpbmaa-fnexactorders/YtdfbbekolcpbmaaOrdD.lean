/-
  The program's list without one of its events: two lists, one behind the other.
-/
import Derived.Test.YtdfbbekolcpbmaaOrdC
namespace Go.Proofs.Ytdfbbekolcpbmaa
set_option linter.unusedSimpArgs false
set_option linter.unusedVariables false
open Go.RowKit
set_option linter.unusedVariables false
attribute [local go_sem ↓] Go.wp_at_zero Go.wp_at_succ

set_option maxRecDepth 100000 in
set_option maxHeartbeats 2000000 in
theorem concatEv_any (l1 l2 : List Ev) (A1 A2 : Option Addr) (n1 c1 n2 c2 b : Nat) (w : World) (h1 : SrcW Ev.cs w A1 n1 c1 l1) (h2 : SrcW Ev.cs w A2 n2 c2 l2) (hn1 : n1 ≤ 4096) (hn2 : n2 ≤ 4096)
    (hb : BoxAt w b #[.slice A1 n1 c1, .slice A2 n2 c2] 25) :
    Calls Try.prog 44 #[.slice (some ⟨b, 0, none⟩) 2 2] w (fun e w' => ∃ A cap, e = .returned (.slice A (n1 + n2) cap) ∧ EvsW w.heap.size w'.heap.size w' A (n1 + n2) cap (l1 ++ l2) ∧ Below w.heap.size w w') := by
  obtain ⟨i0, hi0, hz0, hz1, hz2⟩ := info_parts event_info
  have HI := Lib.hid hi0
  have HZ0 := Lib.hid hz0
  have HZ1 := Lib.hid hz1
  have HZ2 := Lib.hid hz2
  clear hi0 hz0 hz1 hz2
  have k0 : w.cell? ⟨b, 0, none⟩ = some (.slice A1 n1 c1) := by rw [hb.cell]; rfl
  have k1 : w.cell? ⟨b, 1, none⟩ = some (.slice A2 n2 c2) := by rw [hb.cell]; rfl
  go_enter Try.func44, Try.ntmps44
  go_wp2
  go_loopw [3, 11] (fun s3 s11 W => ∃ i : Nat, i ≤ 2 ∧ s11 = .int .i64 i ∧ s3 = .int .i64 (if i = 0 then 0 else if i = 1 then (n1 : Int) else (n1 : Int) + n2) ∧ w = W) (fun _ s11 _ => 2 - (intOf s11).toNat)
  case atStart => exact ⟨0, by omega, rfl, rfl, rfl⟩
  case round =>
    obtain ⟨i, hin, rfl, rfl, rfl⟩ := hrel
    have hc : i = 0 ∨ i = 1 ∨ i = 2 := by omega
    rcases hc with rfl | rfl | rfl
    · go_wp2
      go_roundw
      case rel => exact ⟨1, by omega, rfl, rfl, trivial⟩
      case measure => simp [intOf]
    · go_wp2
      go_roundw
      case rel => exact ⟨2, by omega, rfl, rfl, trivial⟩
      case measure => simp [intOf]
    · clear k0 k1
      have hs := Lib.hid (show ((n1 : Int) + n2) = ((n1 + n2 : Nat) : Int) by omega)
      go_wp2_with fail
      rw [hs.out]
      refine (growEv_any (n1 + n2) _ (by omega)).mono ?_
      rintro e w1 ⟨v, rfl, hv, hb1⟩
      have hx1 := hb.below hb1 hb.lt
      have q1 := h1.below hb1
      have q2 := h2.below hb1
      have hsz := hb1.size
      clear hs
      go_wp2
      go_loopw [6, 27] (fun s6 s27 W => ∃ i : Nat, i ≤ 2 ∧ s27 = .int .i64 i ∧ Below w.heap.size w W ∧ (i = 0 ∧ W.ownsRow w.heap.size 34 6 s6 0 [] ∨ i = 1 ∧ W.ownsRow w.heap.size 34 6 s6 n1 (l1.flatMap Ev.cs) ∨ i = 2 ∧ W.ownsRow w.heap.size 34 6 s6 (n1 + n2) (l1.flatMap Ev.cs ++ l2.flatMap Ev.cs))) (fun _ s27 _ => 2 - (intOf s27).toNat)
      case atStart => exact ⟨0, by omega, rfl, hb1, .inl ⟨rfl, hv⟩⟩
      case round =>
        clear hb1 hv hx1 q1 q2 hsz
        obtain ⟨i, hin, rfl, hB, hc⟩ := hrel
        have hx := hb.below hB hb.lt
        have q1 := h1.below hB
        have q2 := h2.below hB
        have hsz := hB.size
        have k0 : wr.cell? ⟨b, 0, none⟩ = some (.slice A1 n1 c1) := by rw [hx.cell]; rfl
        have k1 : wr.cell? ⟨b, 1, none⟩ = some (.slice A2 n2 c2) := by rw [hx.cell]; rfl
        rcases hc with ⟨rfl, hO⟩ | ⟨rfl, hO⟩ | ⟨rfl, hO⟩
        · go_wp2_with (at_builtin; go_must (refine wpList_append_any rfl (.tmp 31) (.tmp 32) _ rfl w.heap.size 34 i0 _ 6 48 Try.underlying25 HI.out HZ0.out HZ1.out HZ2.out rfl (by omega) _ 0 [] rfl hO A1 n1 c1 (l1.flatMap Ev.cs) rfl q1.2.1 (by rw [flat_len _ 6 Ev.cs_len, q1.1]) q1.2.2 ev_one (by unfold maxLen; omega) (by omega) hsz ?_; intro v' w' hO' hg'; have hB' : Below w.heap.size w w' := hB.grown hg' hsz (fun k hk => (hO.lt k hk).1)))
          go_roundw
          case rel => exact ⟨1, by omega, by go_num, hB', .inr (.inl ⟨rfl, by simpa using hO'⟩)⟩
          case measure => simp [intOf]
        · go_wp2_with (at_builtin; go_must (refine wpList_append_any rfl (.tmp 31) (.tmp 32) _ rfl w.heap.size 34 i0 _ 6 48 Try.underlying25 HI.out HZ0.out HZ1.out HZ2.out rfl (by omega) _ n1 (l1.flatMap Ev.cs) rfl hO A2 n2 c2 (l2.flatMap Ev.cs) rfl q2.2.1 (by rw [flat_len _ 6 Ev.cs_len, q2.1]) q2.2.2 ev_one (by unfold maxLen; omega) (by omega) hsz ?_; intro v' w' hO' hg'; have hB' : Below w.heap.size w w' := hB.grown hg' hsz (fun k hk => (hO.lt k hk).1)))
          go_roundw
          case rel => exact ⟨2, by omega, by go_num, hB', .inr (.inr ⟨rfl, hO'⟩)⟩
          case measure => simp [intOf]
        · go_wp2
          go_ret
          obtain ⟨A, c, rfl, hW⟩ := SlW.of_own (f := Ev.cs) (l := l1 ++ l2) (by rw [List.flatMap_append]; exact hO) (by rw [List.length_append, h1.1, h2.1])
          exact ⟨A, c, rfl, hW, hB⟩

end Go.Proofs.Ytdfbbekolcpbmaa

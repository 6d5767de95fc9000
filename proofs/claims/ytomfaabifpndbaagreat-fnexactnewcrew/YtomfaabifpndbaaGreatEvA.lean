/-
  Events: how they lie in lists; the laws' helpers on them.
-/
import Derived.Test.YtomfaabifpndbaaGreatIntA
namespace Go.Proofs.YtomfaabifpndbaaGreat
set_option linter.unusedSimpArgs false
set_option linter.unusedVariables false
open Go.RowKit
set_option linter.unusedVariables false
attribute [local go_sem ↓] Go.wp_at_zero Go.wp_at_succ

structure Ev where
  who : Int
  put : Bool
  v : Int
  re : Int
  b : Int
  e : Int
def Ev.cs (x : Ev) : List Value := [.int .i64 x.who, .bool x.put, .int .i64 x.v, .int .i64 x.re, .int .i64 x.b, .int .i64 x.e]
theorem Ev.cs_len (x : Ev) : x.cs.length = 6 := rfl
abbrev Ev.V (x : Ev) : Value := .agg #[.int .i64 x.who, .bool x.put, .int .i64 x.v, .int .i64 x.re, .int .i64 x.b, .int .i64 x.e]

/-- An event's six cells, from an offset on. -/
def EvE (_N : Nat) (w : World) (b o : Nat) (x : Ev) : Prop :=
  w.cell? ⟨b, o, none⟩ = some (.int .i64 x.who) ∧ w.cell? ⟨b, o + 1, none⟩ = some (.bool x.put) ∧ w.cell? ⟨b, o + 2, none⟩ = some (.int .i64 x.v) ∧ w.cell? ⟨b, o + 3, none⟩ = some (.int .i64 x.re) ∧ w.cell? ⟨b, o + 4, none⟩ = some (.int .i64 x.b) ∧ w.cell? ⟨b, o + 5, none⟩ = some (.int .i64 x.e)
theorem EvE.kept : Kept EvE := fun _ _ _ _ _ _ hb hs h => ⟨hs.cell hb h.1, hs.cell hb h.2.1, hs.cell hb h.2.2.1, hs.cell hb h.2.2.2.1, hs.cell hb h.2.2.2.2.1, hs.cell hb h.2.2.2.2.2⟩
theorem EvE.of_cells {N : Nat} {w : World} {b o : Nat} {x : Ev} (h : ∀ j u, x.cs[j]? = some u → w.cell? ⟨b, o + j, none⟩ = some u) : EvE N w b o x := ⟨h 0 _ rfl, h 1 _ rfl, h 2 _ rfl, h 3 _ rfl, h 4 _ rfl, h 5 _ rfl⟩
/-- Events in a slice, to be read. -/
def EvsR (w : World) (A : Option Addr) (n : Nat) (l : List Ev) : Prop := SlE EvE 6 0 w A n l
/-- Events in a slice of its own. -/
def EvsW (lo hi : Nat) (w : World) (A : Option Addr) (n cap : Nat) (l : List Ev) : Prop := SlW Ev.cs 6 77 lo hi w A n cap l
theorem EvsR.below {w w' : World} {A : Option Addr} {n : Nat} {l : List Ev} (h : EvsR w A n l) (hb : Below w.heap.size w w') : EvsR w' A n l := SlE.below EvE.kept h hb
theorem EvsW.r {lo hi : Nat} {w : World} {A : Option Addr} {n cap : Nat} {l : List Ev} (h : EvsW lo hi w A n cap l) : EvsR w A n l := SlW.r Ev.cs_len (fun _ _ _ => EvE.of_cells) h

set_option maxHeartbeats 400000 in
theorem toEvent_any (x : Ev) (w : World) : Calls Tryz.prog 76 #[.agg #[.int .i64 x.who, .bool x.put, .int .i64 x.v, .int .i64 x.re, .int .i64 x.b, .int .i64 x.e]] w (RetBelow x.V w) := by
  go_enter Tryz.func76, Tryz.ntmps76
  go_wp2
  refine bodyPost_ret (v := x.V) (by simp [results, Tryz.results76, go_sem]) rfl ⟨rfl, ?_⟩
  exact (((Below.refl _ _).alloc (Nat.le_refl _) _).alloc (by simp) _).alloc (by simp; omega) _

theorem event_info : (Tryz.prog.info? 77).map (fun i => (i.zero, i.size, i.bytes)) = some (some (.agg #[.int .i64 0, .bool false, .int .i64 0, .int .i64 0, .int .i64 0, .int .i64 0]), 6, 48) := by kernel_rfl

/-- A list of events of the call's own is returned. -/
def RetEvs (l : List Ev) (w : World) (e : Ending) (w' : World) : Prop := ∃ A cap, e = .returned (.slice A l.length cap) ∧ EvsW w.heap.size w'.heap.size w' A l.length cap l ∧ Below w.heap.size w w'

set_option maxRecDepth 100000 in
set_option maxHeartbeats 1000000 in
theorem toEventS_any (A : Option Addr) (n cap : Nat) (l : List Ev) (w : World) (h : EvsR w A n l) (hn : n ≤ 1048576) :
    Calls Tryz.prog 47 #[.slice A n cap] w (RetEvs l w) := by
  obtain ⟨i0, hi0, hz0, hz1, hz2⟩ := info_parts event_info
  have hmk : ∀ W : World, (Instr.makeSlice 29 (.int .i64 (n : Int)) (.int .i64 (n : Int))).run Tryz.prog W = .ok (.slice (some ⟨W.heap.size, 0, none⟩) n n) (W.alloc (.cells (madeCells #[.int .i64 0, .bool false, .int .i64 0, .int .i64 0, .int .i64 0, .int .i64 0] (n * 6)) 77)) := by
    intro W
    have := run_make (P := Tryz.prog) W 29 77 i0 _ Tryz.underlying29 hi0 hz0 .i64 .i64 n n (by omega) (by omega) (by rw [hz2]; omega) (by omega)
    rw [hz1] at this
    simpa [Value.cells] using this
  go_enter Tryz.func47, Tryz.ntmps47
  go_wp2
  have hln := h.1
  obtain rfl : l.length = n := hln
  clear hmk hi0 hz0 hz1 hz2
  go_loopw [4] (fun s4 W => ∃ i : Nat, i ≤ l.length ∧ s4 = .int .i64 i ∧ Below w.heap.size w W ∧ Own Ev.cs 6 77 w.heap.size W w.heap.size l.length l.length (upto ⟨0, false, 0, 0, 0, 0⟩ l i)) (fun s4 _ => l.length - (intOf s4).toNat)
  case atStart =>
    refine ⟨0, Nat.zero_le _, rfl, (Below.refl _ _).alloc (Nat.le_refl _) _, ?_⟩
    rw [upto_zero]
    exact Own.made Ev.cs_len (by omega) (⟨0, false, 0, 0, 0, 0⟩ : Ev) _ rfl (Nat.le_refl _) _ (by unfold maxLen; omega)
  case round =>
    obtain ⟨i, hi, rfl, hB, hO⟩ := hrel
    by_cases hlt : i < l.length
    · obtain ⟨b, o, p, rfl, _, hp, hc⟩ := SlE.at_ (SlE.keep EvE.kept h (fun j _ hj => hB.block j hj)) hlt
      obtain ⟨c0, c1, c2, c3, c4, c5⟩ := hc
      have h1 : (i : Int) < (l.length : Int) := by omega
      have h2 : (0 : Int) ≤ (i : Int) := by omega
      have HP := Lib.hid hp; clear hp
      go_wp2_with fail
      refine (toEvent_any p _).mono ?_
      rintro e w1 ⟨rfl, hb1⟩
      clear c0 c1 c2 c3 c4 c5
      have hO1 := Own.below hO hb1
      have d0 := Own.cell_ Ev.cs_len hO1 (j := 0) (upto_at _ _ hlt) rfl
      have d1 := Own.cell_ Ev.cs_len hO1 (j := 1) (upto_at _ _ hlt) rfl
      have d2 := Own.cell_ Ev.cs_len hO1 (j := 2) (upto_at _ _ hlt) rfl
      have d3 := Own.cell_ Ev.cs_len hO1 (j := 3) (upto_at _ _ hlt) rfl
      have d4 := Own.cell_ Ev.cs_len hO1 (j := 4) (upto_at _ _ hlt) rfl
      have d5 := Own.cell_ Ev.cs_len hO1 (j := 5) (upto_at _ _ hlt) rfl
      rw [Nat.add_zero] at d0
      have df := Own.frozen_ hO1
      go_wp2
      go_roundw
      case rel =>
        refine ⟨i + 1, by omega, by go_num, ?_, ?_⟩
        · exact Below.setCells (Nat.le_refl _) p.cs (i * 6) (bstep hB hB.size hb1)
        · have := Own.setEl hO1 Ev.cs_len (by omega) hlt p
          rw [upto_set _ _ HP.out] at this
          exact this
      case measure => simp [intOf]; omega
    · have h1 : ¬ (i : Int) < (l.length : Int) := by omega
      go_wp2
      go_ret
      have hu := upto_all (⟨0, false, 0, 0, 0, 0⟩ : Ev) l (i := i) (by omega)
      rw [hu] at hO
      exact ⟨_, _, rfl, SlW.of_Own hO, hB⟩

set_option maxHeartbeats 400000 in
theorem eqEvent_same (x : Ev) (w : World) : Calls Tryz.prog 48 #[.agg #[.int .i64 x.who, .bool x.put, .int .i64 x.v, .int .i64 x.re, .int .i64 x.b, .int .i64 x.e], .agg #[.int .i64 x.who, .bool x.put, .int .i64 x.v, .int .i64 x.re, .int .i64 x.b, .int .i64 x.e]] w (RetBelow (.bool true) w) := by
  go_enter Tryz.func48, Tryz.ntmps48
  go_wp2
  go_ret
  exact .mk rfl (((Below.refl _ _).alloc (Nat.le_refl _) _).alloc (by simp) _)

set_option maxRecDepth 100000 in
set_option maxHeartbeats 1000000 in
theorem eqEventS_same (A B : Option Addr) (n c d : Nat) (l : List Ev) (w : World) (h : EvsR w A n l) (h' : EvsR w B n l) (hn : n ≤ 1048576) :
    Calls Tryz.prog 18 #[.slice A n c, .slice B n d] w (RetBelow (.bool true) w) := by
  go_enter Tryz.func18, Tryz.ntmps18
  go_wp2
  go_loopw [5] (fun s5 W => ∃ i : Nat, i ≤ n ∧ s5 = .int .i64 i ∧ Below w.heap.size w W) (fun s5 _ => n - (intOf s5).toNat)
  case atStart => exact ⟨0, Nat.zero_le _, rfl, Below.refl _ _⟩
  case round =>
    obtain ⟨i, hi, rfl, hB⟩ := hrel
    by_cases hlt : i < n
    · obtain ⟨b, o, p, rfl, _, hp, hc⟩ := SlE.at_ (SlE.keep EvE.kept h (fun j _ hj => hB.block j hj)) hlt
      obtain ⟨b', o', p', rfl, _, hp', hc'⟩ := SlE.at_ (SlE.keep EvE.kept h' (fun j _ hj => hB.block j hj)) hlt
      obtain rfl : p = p' := by rw [hp] at hp'; injection hp'
      obtain ⟨c0, c1, c2, c3, c4, c5⟩ := hc
      obtain ⟨d0, d1, d2, d3, d4, d5⟩ := hc'
      have h1 : (i : Int) < (n : Int) := by omega
      have h2 : (0 : Int) ≤ (i : Int) := by omega
      clear hp hp'
      go_wp2
      go_still_tail 8, (by kernel_rfl)
      go_wp2_with fail
      refine (eqEvent_same p _).mono ?_
      rintro e w1 ⟨rfl, hb1⟩
      go_wp2
      go_roundw
      case rel => exact ⟨i + 1, by omega, by go_num, bstep hB.drew hB.size hb1⟩
      case measure => simp [intOf]; omega
    · have h1 : ¬ (i : Int) < (n : Int) := by omega
      go_wp2
      go_ret
      exact ⟨rfl, hB⟩

set_option maxHeartbeats 400000 in
theorem szEventS_any (A : Option Addr) (n cap : Nat) (left : Int) (w : World) (hn : n ≤ maxLen) (h0 : 0 ≤ left) (h1 : left ≤ 1048576) :
    Calls Tryz.prog 44 #[.slice A n cap, .int .i64 left] w (RetBelow (.int .i64 (szI left n)) w) := by
  unfold maxLen at hn
  by_cases h : (n : Int) ≤ left
  all_goals
    go_enter Tryz.func44, Tryz.ntmps44
    go_wp2
    go_ret
    exact .mk (by simp [szI, *] <;> omega) (Below.refl _ _)

/-- What the laws write into an event, and into events one behind the other. -/
def markEv (k : Int) : Ev := ⟨k, (k + 1) % 3 == 0, k + 1 + 1, k + 1 + 1 + 1, k + 1 + 1 + 1 + 1, k + 1 + 1 + 1 + 1 + 1⟩
def emarks (k : Int) (n : Nat) : List Ev := (List.range n).map fun (i : Nat) => markEv (k + 6 * (i : Int))
theorem emarks_len (k : Int) (n : Nat) : (emarks k n).length = n := by simp [emarks]
theorem emarks_at (k : Int) {n i : Nat} (h : i < n) : (emarks k n)[i]? = some (markEv (k + 6 * i)) := by simp [emarks, h]

set_option maxHeartbeats 1000000 in
theorem markEventS_own (N g n cap : Nat) (l : List Ev) (k : Int) (w : World) (h : Own Ev.cs 6 77 N w g n cap l) (hn : n ≤ 1048576) (h0 : 0 ≤ k) (hk : k ≤ 1000000000) :
    Calls Tryz.prog 19 #[.slice (some ⟨g, 0, none⟩) n cap, .int .i64 k] w (fun e w' => e = .returned (.int .i64 (k + 6 * n)) ∧ But g w w' ∧ Own Ev.cs 6 77 N w' g n cap (emarks k n)) := by
  have hlen : l.length = (emarks k n).length := by rw [emarks_len]; exact h.1
  have HL := Lib.hid hlen
  have hln := h.1
  obtain rfl : l.length = n := hln
  clear hlen
  go_enter Tryz.func19, Tryz.ntmps19
  go_wp2
  go_loopw [1, 5] (fun s1 s5 W => ∃ i : Nat, i ≤ l.length ∧ s1 = .int .i64 (k + 6 * i) ∧ s5 = .int .i64 i ∧ But g w W ∧ Own Ev.cs 6 77 N W g l.length cap (over l (emarks k l.length) i)) (fun _ s5 _ => l.length - (intOf s5).toNat)
  case atStart => exact ⟨0, Nat.zero_le _, by go_num, rfl, But.refl _ _, by rw [over_zero]; exact h⟩
  case round =>
    obtain ⟨i, hi, rfl, rfl, hB, hO⟩ := hrel
    by_cases hlt : i < l.length
    · have hx : (over l (emarks k l.length) i)[i]? = some l[i] := by rw [over_at HL.out hlt]; exact List.getElem?_eq_getElem hlt
      have d0 := Own.cell_ Ev.cs_len hO (j := 0) hx rfl
      have d1 := Own.cell_ Ev.cs_len hO (j := 1) hx rfl
      have d2 := Own.cell_ Ev.cs_len hO (j := 2) hx rfl
      have d3 := Own.cell_ Ev.cs_len hO (j := 3) hx rfl
      have d4 := Own.cell_ Ev.cs_len hO (j := 4) hx rfl
      have d5 := Own.cell_ Ev.cs_len hO (j := 5) hx rfl
      rw [Nat.add_zero] at d0
      have df := Own.frozen_ hO
      have h1 : (i : Int) < (l.length : Int) := by omega
      have h2 : (0 : Int) ≤ (i : Int) := by omega
      have HX := Lib.hid hx; clear hx
      go_wp2
      go_roundw
      case rel =>
        refine ⟨i + 1, by omega, by go_num, by go_num, ?_, ?_⟩
        · exact But.setCells (markEv (k + 6 * i)).cs (i * 6) hB
        · have := Own.setEl hO Ev.cs_len (by omega) hlt (markEv (k + 6 * i))
          rw [over_set HL.out (emarks_at k hlt)] at this
          exact this
      case measure => simp [intOf]; omega
    · have h1 : ¬ (i : Int) < (l.length : Int) := by omega
      obtain rfl : i = l.length := by omega
      go_wp2
      go_ret
      rw [over_all HL.out (Nat.le_refl _)] at hO
      exact ⟨rfl, hB, hO⟩

set_option maxHeartbeats 1000000 in
/-- What markEventS does with a list of the call's own. -/
theorem markEventS_w (lo hi : Nat) (A : Option Addr) (n cap : Nat) (l : List Ev) (k : Int) (w : World) (h : EvsW lo hi w A n cap l) (hn : n ≤ 1048576) (h0 : 0 ≤ k) (hk : k ≤ 1000000000) :
    Calls Tryz.prog 19 #[.slice A n cap, .int .i64 k] w (fun e w' => e = .returned (.int .i64 (k + 6 * n)) ∧ ButIn lo hi w w' ∧ EvsW lo hi w' A n cap (emarks k n)) := by
  rcases Nat.eq_zero_or_pos n with hz | hz
  · subst hz
    go_enter Tryz.func19, Tryz.ntmps19
    go_wp2
    go_loopw [1, 5] (fun s1 s5 W => s1 = .int .i64 k ∧ s5 = .int .i64 0 ∧ W = w) (fun _ _ _ => 0)
    case atStart => exact ⟨rfl, rfl, rfl⟩
    case round =>
      obtain ⟨rfl, rfl, rfl⟩ := hrel
      go_wp2
      go_ret
      obtain rfl := List.eq_nil_of_length_eq_zero h.1
      exact ⟨by simp, ButIn.refl _ _ _, h⟩
  · obtain ⟨g, rfl, hlo, hhi, ho⟩ := SlW.at0 h hz
    refine (markEventS_own lo g n cap l k w ho hn h0 hk).mono ?_
    rintro e w' ⟨rfl, hb, hO⟩
    exact ⟨rfl, ButIn.of_but hb hlo hhi, hO.1, .inr ⟨g, rfl, hhi, hO⟩⟩

end Go.Proofs.YtomfaabifpndbaaGreat

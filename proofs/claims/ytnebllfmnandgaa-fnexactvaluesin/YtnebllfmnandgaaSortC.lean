/-
  The walks of Clone and of valuesOn of the program.
-/
import Derived.Test.YtnebllfmnandgaaSortB
import Derived.Lib.LazyBuf
namespace Go.Proofs.Ytnebllfmnandgaa
open Go.RowKit
set_option linter.unusedVariables false
attribute [local go_sem ↓] Go.wp_at_zero Go.wp_at_succ

set_option maxRecDepth 100000 in
set_option maxHeartbeats 1000000 in
theorem clone_any (A : Option Addr) (n cap : Nat) (l : List Pl) (lo hi : Nat) (w : World) (hl : PlsW lo hi w A n cap l) (h0 : 0 < n) (hn : n ≤ 1048576) :
    Calls Try.prog 83 #[.slice A n cap] w (fun e w' => ∃ g c, e = .returned (.slice (some ⟨g, 0, none⟩) n c) ∧ PlsO w.heap.size w' g n c l ∧ Below w.heap.size w w') := by
  obtain ⟨i0, hi0, hz0, hz1, hz2⟩ := info_parts place_info
  have HI := Lib.hid hi0
  have HZ0 := Lib.hid hz0
  have HZ1 := Lib.hid hz1
  have HZ2 := Lib.hid hz2
  clear hi0 hz0 hz1 hz2
  obtain ⟨b, rfl, hbh, hO⟩ := hl.2 h0
  have HL := Lib.hid hl.1
  have hbw := Own.lt hO
  have hnil : ∀ W : World, (binOp .eql 25 (.slice (some ⟨b, 0, none⟩) n cap) (.slice none 0 0)).run Try.prog W = .ok (.bool false) W := fun W => Go.run_eql_slice_nil W _ _ _ _ _ Try.underlying25
  go_enter Try.func83, Try.ntmps83
  go_wp2_with (at_builtin; go_must (refine wpList_append_own_at _ rfl (.tmp 5) (.tmp 6) _ rfl w.heap.size 39 i0 _ 4 32 Try.underlying25 HI.out HZ0.out HZ1.out HZ2.out rfl (by omega) (.slice (some ⟨w.heap.size, 0, none⟩) 0 0) 0 [] rfl (own_made rfl (Nat.le_refl _)) ⟨b, 0, none⟩ n cap (l.flatMap Pl.cs) rfl (by rw [flat_len _ 4 Pl.cs_len, HL.out]) (hO.al _).news pl_one (by unfold maxLen; omega) (by omega) (by simp) ?_; intro v' w' hO' hg' hz' hat'; clear hz' hat'; obtain ⟨g', cap', rfl, hP'⟩ := Own.of_row (f := Pl.cs) (l := l) (n := n) (by simpa using hO') HL.out h0; have hB' : Below w.heap.size w w' := Below.grown ((Below.refl _ w).alloc (Nat.le_refl _) _) hg' (by simp) (fun k hk => by have := own_blk hk; omega)))
  go_ret
  exact ⟨g', cap', rfl, hP', hB'⟩

def valsP (l : List Pl) : List Int := (l.filter Pl.f).map Pl.v
theorem valsP_full {l : List Pl} {i : Nat} {p : Pl} (h : l[i]? = some p) (hf : p.f = true) : valsP (l.take (i + 1)) = valsP (l.take i) ++ [p.v] := by
  rw [List.take_add_one, h]
  simp [valsP, hf]
theorem valsP_empty {l : List Pl} {i : Nat} {p : Pl} (h : l[i]? = some p) (hf : p.f = false) : valsP (l.take (i + 1)) = valsP (l.take i) := by
  rw [List.take_add_one, h]
  simp [valsP, hf]
theorem valsP_len (l : List Pl) : (valsP l).length ≤ l.length := by
  unfold valsP
  rw [List.length_map]
  exact List.length_filter_le _ _

theorem ints_row {N : Nat} {w : World} {v : Value} {l : List Int} (h : IntsO N w v l) {n : Nat} (hn : l.length = n) : w.ownsRow N 2 1 v n (l.flatMap ic) := by subst hn; exact h
theorem ints_not {N : Nat} {w : World} {v : Value} {l : List Int} (h : IntsO N w v l) {g : Nat} {cs : Array Value} {t : TypeId} (hb : BoxAt w g cs t) (ht : t ≠ 2) : some g ≠ v.ownBlock := by
  intro e
  rcases h.2 with ⟨h1, _⟩ | ⟨g', cap, cur, hv, _, hbx, _⟩
  · rw [h1] at e; cases e
  · rw [hv] at e
    have : g = g' := by simpa [Value.ownBlock] using e
    exact box_ne hb hbx ht this

/-- A list of numbers of the call's own is returned, not nil. -/
def RetIntsS (l : List Int) (w : World) (e : Ending) (w' : World) : Prop := ∃ g c, e = .returned (.slice (some ⟨g, 0, none⟩) l.length c) ∧ IntsO w.heap.size w' (.slice (some ⟨g, 0, none⟩) l.length c) l ∧ Below w.heap.size w w'

set_option maxRecDepth 100000 in
set_option maxHeartbeats 4000000 in
theorem valuesOn_any (a : Rw) (l : List Pl) (lo hi : Nat) (w : World) (hl : PlsW lo hi w a.A a.n a.cap l) (h0 : 0 < a.n) (h8 : a.n ≤ 8) :
    Calls Try.prog 66 #[.agg #[.int .i64 a.h, .int .i64 a.t, .bool a.c, .int .i64 a.x, .slice a.A a.n a.cap]] w (RetIntsS (valsP (sortTo l a.n)) w) := by
  obtain ⟨i0, hi0, hz0, hz1, hz2⟩ := info_parts int_info
  have HI := Lib.hid hi0
  have HZ0 := Lib.hid hz0
  have HZ1 := Lib.hid hz1
  have HZ2 := Lib.hid hz2
  clear hi0 hz0 hz1 hz2
  have HLN := Lib.hid hl.1
  go_enter Try.func66, Try.ntmps66
  go_wp2_with fail
  refine calls_abs (fun W => Below w.heap.size w W) ((Below.refl _ _).alloc (Nat.le_refl _) _) ?_
  rintro W hB
  have hl1 : PlsW lo (min hi w.heap.size) W a.A a.n a.cap l := ⟨hl.1, fun hn => by
    obtain ⟨b, e, hb, ho⟩ := hl.2 hn
    have := Own.lt ho
    exact ⟨b, e, by omega, Own.keep ho (hB.block b this)⟩⟩
  refine (clone_any _ _ _ l _ _ _ hl1 h0 (by omega)).mono ?_
  rintro e w1 ⟨g, c, rfl, hP, hb1⟩
  have hW := hB.size
  replace hB := bstep hB hB.size hb1
  replace hP := hP.mono hW
  clear hb1 hl1 hW
  go_wp2_with fail
  refine (sortFunc_any w.heap.size g a.n c l _ hP h0 h8).mono ?_
  rintro e w2 ⟨⟨v, rfl⟩, hb2, hS⟩
  replace hB := hB.trans (hb2.below hP.ge hB.size)
  clear hb2 hP
  have hsl : (sortTo l a.n).length = a.n := by rw [sortTo_len]; exact HLN.out
  generalize sortTo l a.n = t at *
  have HSL := Lib.hid hsl; clear hsl
  go_wp2
  go_loopw [4, 15] (fun s4 s15 W => ∃ (i a1 n1 c1 : Nat), i ≤ a.n ∧ s15 = .int .i64 i ∧ s4 = .slice (some ⟨a1, 0, none⟩) n1 c1 ∧ Below w.heap.size w W ∧ PlsO w.heap.size W g a.n c t ∧ IntsO w.heap.size W (.slice (some ⟨a1, 0, none⟩) n1 c1) (valsP (t.take i))) (fun _ s15 _ => a.n - (intOf s15).toNat)
  case atStart => exact ⟨0, _, _, _, Nat.zero_le _, rfl, rfl, hB.alloc hB.size _, hS.al _, ints_made rfl hB.size⟩
  case round =>
    clear hB hS
    obtain ⟨i, a1, n1, c1, hi, rfl, rfl, hB, hS, hV⟩ := hrel
    have hn1 : (valsP (t.take i)).length = n1 := by
      obtain ⟨A2, c2, e, _⟩ := hV.r
      injection e with _ e _
      exact e.symm
    have hn2 : n1 ≤ 8 := by
      have := valsP_len (t.take i)
      simp only [List.length_take] at this
      omega
    by_cases hlt : i < a.n
    · have g1 : (i : Int) < (a.n : Int) := by omega
      have g2 : (0 : Int) ≤ (i : Int) := by omega
      obtain ⟨p, hp⟩ : ∃ p, t[i]? = some p := ⟨_, List.getElem?_eq_getElem (by rw [HSL.out]; exact hlt)⟩
      obtain ⟨d0, d1, d2, d3⟩ := pls_at hS hp
      obtain ⟨csg, hbg⟩ := own_box hS
      cases hf : p.f
      · have HV := Lib.hid (valsP_empty hp hf)
        rw [hf] at d2
        clear hp
        go_wp2
        go_roundw
        case rel => exact ⟨i + 1, a1, n1, c1, by omega, by go_num, rfl, hB.alloc hB.size _, hS.al _, by rw [HV.out]; exact hV.below ((Below.refl _ _).alloc (Nat.le_refl _) _)⟩
        case measure => simp [intOf]; omega
      · have HV := Lib.hid (valsP_full hp hf)
        rw [hf] at d2
        clear hp
        have hR1 := ints_row (hV.below ((Below.refl _ wr).alloc (Nat.le_refl _) (.cells #[.bool p.s, .int .i64 p.n, .bool true, .int .i64 p.v] 39))) hn1
        have hne : some g ≠ (Value.slice (some ⟨a1, 0, none⟩) n1 c1).ownBlock := ints_not hV hbg (by decide)
        have HN1 := Lib.hid hn1; clear hn1
        go_wp2_with (at_builtin; go_must (refine wpList_append_own_at _ rfl (.tmp 21) (.tmp 24) _ rfl w.heap.size 2 i0 _ 1 8 Try.underlying55 HI.out HZ0.out HZ1.out HZ2.out rfl (by omega) (.slice (some ⟨a1, 0, none⟩) n1 c1) n1 _ rfl (hR1.alloc _) ⟨wr.heap.size + 1, 0, none⟩ 1 1 [.int .i64 p.v] rfl rfl (by have := news_alloc (wr.alloc (.cells #[.bool p.s, .int .i64 p.n, .bool true, .int .i64 p.v] 39)) [.int .i64 p.v] 2; simpa using this) (by intro u hu; simp at hu; subst hu; rfl) (by unfold maxLen; omega) (by omega) (by have := hB.size; simp; omega) ?_; intro v' w' hO' hg' hz' hat'; clear hz' hat'; obtain ⟨g', cap', rfl, hP'⟩ := Own.of_row (f := ic) (l := valsP (t.take i) ++ [p.v]) (n := n1 + 1) (by rw [List.flatMap_append]; exact hO') (by rw [List.length_append, HN1.out]; rfl) (by omega)))
        have hBa : Below w.heap.size w ((wr.alloc (.cells #[.bool p.s, .int .i64 p.n, .bool true, .int .i64 p.v] 39)).alloc (.cells #[.int .i64 p.v] 2)) := (hB.alloc hB.size _).alloc (by have := hB.size; simp; omega) _
        go_roundw
        case rel =>
          refine ⟨i + 1, g', n1 + 1, cap', by omega, by go_num, rfl, Below.grown hBa hg' (by have := hB.size; simp; omega) (fun k hk => (hV.lt k hk).1), ?_, ?_⟩
          · exact Own.keep ((hS.al _).al _) (hg'.block g (by have := Own.lt hS; simp; omega) hne)
          · rw [HV.out]
            have := hP'.own ic_len
            unfold IntsO
            rw [List.length_append, HN1.out]
            exact this
        case measure => simp [intOf]; omega
    · have g1 : ¬ (i : Int) < (a.n : Int) := by omega
      obtain rfl : i = a.n := by omega
      go_wp2
      go_ret
      refine ⟨a1, c1, ?_, ?_, hB⟩
      · rw [← hn1, List.take_of_length_le (by rw [HSL.out]; exact Nat.le_refl _)]
        rfl
      · rw [← hn1, List.take_of_length_le (by rw [HSL.out]; exact Nat.le_refl _)] at hV
        exact hV

end Go.Proofs.Ytnebllfmnandgaa

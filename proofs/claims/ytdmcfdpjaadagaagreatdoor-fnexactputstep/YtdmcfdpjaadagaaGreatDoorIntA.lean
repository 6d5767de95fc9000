/-
 Lists of numbers: read, compared, marked, copied.
-/
import Derived.Test.YtdmcfdpjaadagaaGreatDoorNums
import Derived.Test.YtdmcfdpjaadagaaGreatDoorSli
namespace Go.Proofs.YtdmcfdpjaadagaaGreatDoor
set_option linter.unusedSimpArgs false
set_option linter.unusedVariables false
open Go.RowKit
set_option linter.unusedVariables false
attribute [local go_sem ↓] Go.wp_at_zero Go.wp_at_succ

theorem int_info : (Tryz.prog.info? 2).map (fun i => (i.zero, i.size, i.bytes)) = some (some (.int .i64 0), 1, 8) := by kernel_rfl

def IE (_N : Nat) (w : World) (b o : Nat) (z : Int) : Prop := w.cell? ⟨b, o, none⟩ = some (.int .i64 z)
theorem IE.kept : Kept IE := fun _ _ _ _ _ _ hb hs h => hs.cell hb h
/-- Numbers in a slice, to be read. -/
def IntsR (w : World) (A : Option Addr) (n : Nat) (l : List Int) : Prop := SlE IE 1 0 w A n l
theorem IntsR.below {w w' : World} {A : Option Addr} {n : Nat} {l : List Int} (h : IntsR w A n l) (hb : Below w.heap.size w w') : IntsR w' A n l := SlE.below IE.kept h hb
/-- Numbers in a slice of the call's own, from block N on. -/
def IntsO (N : Nat) (w : World) (v : Value) (l : List Int) : Prop := w.ownsRow N 2 1 v l.length (l.flatMap ic)

theorem IntsO.r {N : Nat} {w : World} {v : Value} {l : List Int} (h : IntsO N w v l) : ∃ A cap, v = .slice A l.length cap ∧ IntsR w A l.length l := by
 rcases Nat.eq_zero_or_pos l.length with h0 | h0
 ·
  obtain rfl : l = [] := List.length_eq_zero_iff.1 h0
  rcases h.2 with ⟨h1, _⟩ | ⟨g, cap, cur, hv, _⟩
  · exact ⟨none, 0, h1, rfl, fun h => absurd h (by simp)⟩
  · exact ⟨_, cap, hv, rfl, fun h => absurd h (by simp)⟩
 ·
  obtain ⟨g, cap, hv, ho⟩ := Own.of_row (f := ic) h rfl h0
  exact ⟨_, cap, hv, (Own.sl ho ic_len (E := IE) fun b o x hc => by show w.cell? _ = _; simpa using hc 0 _ rfl).1, fun hn => by
   obtain ⟨b, o, e, _, hx⟩ := (Own.sl ho ic_len (E := IE) fun b o x hc => by show w.cell? _ = _; simpa using hc 0 _ rfl).2 hn
   exact ⟨b, o, e, Nat.zero_le _, hx⟩⟩
theorem IntsO.below {N : Nat} {w w' : World} {v : Value} {l : List Int} (h : IntsO N w v l) (hb : Below w.heap.size w w') : IntsO N w' v l := by
 refine ⟨h.1, ?_⟩
 rcases h.2 with h' | ⟨g, cap, cur, hv, hg, hbx, hr⟩
 · exact .inl h'
 · exact .inr ⟨g, cap, cur, hv, hg, (hb.block g (Array.getElem?_eq_some_iff.1 hbx).1).trans hbx, hr⟩
theorem IntsO.keep {N hi : Nat} {w w' : World} {v : Value} {l : List Int} (h : IntsO N w v l) (hs : ∀ j, N ≤ j → j < w.heap.size → w'.heap[j]? = w.heap[j]?) : IntsO N w' v l := by
 refine ⟨h.1, ?_⟩
 rcases h.2 with h' | ⟨g, cap, cur, hv, hg, hbx, hr⟩
 · exact .inl h'
 · exact .inr ⟨g, cap, cur, hv, hg, (hs g hg (Array.getElem?_eq_some_iff.1 hbx).1).trans hbx, hr⟩
/-- Where it lies below hi, too. -/
theorem IntsO.keep2 {N hi : Nat} {w0 w w' : World} {v : Value} {l : List Int} (h0 : IntsO N w0 v l) (hh : w0.heap.size ≤ hi) (h : IntsO N w v l) (hs : ∀ j, N ≤ j → j < hi → w'.heap[j]? = w.heap[j]?) : IntsO N w' v l := by
 refine ⟨h.1, ?_⟩
 rcases h.2 with h' | ⟨g, cap, cur, hv, hg, hbx, hr⟩
 · exact .inl h'
 ·
  rcases h0.2 with ⟨h1, _⟩ | ⟨g', cap', cur', hv', _, hbx', _⟩
  · rw [h1] at hv; cases hv
  ·
   rw [hv'] at hv
   injection hv with e1 e2 e3
   injection e1 with e1
   injection e1 with e1
   subst e1
   have := (Array.getElem?_eq_some_iff.1 hbx').1
   exact .inr ⟨g', cap, cur, by rw [hv', e3], hg, (hs g' hg (by omega)).trans hbx, hr⟩
theorem IntsO.mono {N M : Nat} {w : World} {v : Value} {l : List Int} (h : IntsO N w v l) (hM : M ≤ N) : IntsO M w v l := own_mono h hM

set_option maxRecDepth 100000 in
set_option maxHeartbeats 1000000 in
theorem eqInt64S_same (A B : Option Addr) (n c d : Nat) (l : List Int) (w : World) (h : IntsR w A n l) (h' : IntsR w B n l) (hn : n ≤ 1073741824) :
  Calls Tryz.prog 28 #[.slice A n c, .slice B n d] w (RetBelow (.bool true) w) := by
 go_enter Tryz.func28, Tryz.ntmps28
 go_wp2
 go_loopw [5] (fun s5 W => ∃ i : Nat, i ≤ n ∧ s5 = .int .i64 i ∧ Below w.heap.size w W) (fun s5 _ => n - (intOf s5).toNat)
 case atStart => exact ⟨0, Nat.zero_le _, rfl, Below.refl _ _⟩
 case round =>
  obtain ⟨i, hi, rfl, hB⟩ := hrel
  by_cases hlt : i < n
  ·
   obtain ⟨b, o, x, rfl, _, hp, c0⟩ := SlE.at_ (SlE.keep IE.kept h (fun j _ hj => hB.block j hj)) hlt
   obtain ⟨b', o', x', rfl, _, hp', d0⟩ := SlE.at_ (SlE.keep IE.kept h' (fun j _ hj => hB.block j hj)) hlt
   obtain rfl : x = x' := by rw [hp] at hp'; injection hp'
   unfold IE at c0 d0
   rw [Nat.mul_one] at c0 d0
   have h1 : (i : Int) < (n : Int) := by omega
   have h2 : (0 : Int) ≤ (i : Int) := by omega
   clear hp hp'
   go_wp2
   go_still_tail 8, (by kernel_rfl)
   go_wp2
   go_roundw
   case rel => exact ⟨i + 1, by omega, by go_num, by first | exact hB | exact hB.drew | exact hB.drewN _⟩
   case measure => simp [intOf]; omega
  ·
   have h1 : ¬ (i : Int) < (n : Int) := by omega
   go_wp2
   go_ret
   exact ⟨rfl, hB⟩

/-- The numbers from k on. -/
def imarks (k : Int) (n : Nat) : List Int := (List.range n).map fun (i : Nat) => k + (i : Int)
theorem imarks_len (k : Int) (n : Nat) : (imarks k n).length = n := by simp [imarks]
theorem imarks_at (k : Int) {n i : Nat} (h : i < n) : (imarks k n)[i]? = some (k + i) := by simp [imarks, h]

/-- What markInt64S does. -/
def MarkedI (k : Int) (N : Nat) (v : Value) (n : Nat) (w : World) (e : Ending) (w' : World) : Prop :=
 e = .returned (.int .i64 (k + n)) ∧ (∃ g, N ≤ g ∧ But g w w') ∧ IntsO N w' v (imarks k n)

set_option maxHeartbeats 1000000 in
theorem markInt64S_own (N g n cap : Nat) (l : List Int) (k : Int) (w : World) (h : Own ic 1 2 N w g n cap l) (hn : n ≤ 1073741824) (h0 : 0 ≤ k) (hk : k ≤ 1000000000) :
  Calls Tryz.prog 29 #[.slice (some ⟨g, 0, none⟩) n cap, .int .i64 k] w (fun e w' => e = .returned (.int .i64 (k + n)) ∧ But g w w' ∧ Own ic 1 2 N w' g n cap (imarks k n)) := by
 have hlen : l.length = (imarks k n).length := by rw [imarks_len]; exact h.1
 have HL := Lib.hid hlen
 have hln := h.1
 obtain rfl : l.length = n := hln
 clear hlen
 go_enter Tryz.func29, Tryz.ntmps29
 go_wp2
 go_loopw [1, 5] (fun s1 s5 W => ∃ i : Nat, i ≤ l.length ∧ s1 = .int .i64 (k + i) ∧ s5 = .int .i64 i ∧ But g w W ∧ Own ic 1 2 N W g l.length cap (over l (imarks k l.length) i)) (fun _ s5 _ => l.length - (intOf s5).toNat)
 case atStart => exact ⟨0, Nat.zero_le _, by go_num, rfl, But.refl _ _, by rw [over_zero]; exact h⟩
 case round =>
  obtain ⟨i, hi, rfl, rfl, hB, hO⟩ := hrel
  by_cases hlt : i < l.length
  ·
   have hx : (over l (imarks k l.length) i)[i]? = some l[i] := by rw [over_at HL.out hlt]; exact List.getElem?_eq_getElem hlt
   have d0 := Own.cell_ ic_len hO (j := 0) hx rfl
   rw [Nat.add_zero, Nat.mul_one] at d0
   have df := Own.frozen_ hO
   have h1 : (i : Int) < (l.length : Int) := by omega
   have h2 : (0 : Int) ≤ (i : Int) := by omega
   have HX := Lib.hid hx; clear hx
   go_wp2
   go_roundw
   case rel =>
    refine ⟨i + 1, by omega, by go_num, by go_num, ?_, ?_⟩
    · exact hB.set _ _
    ·
     have := Own.setEl hO ic_len (by omega) hlt (k + (i : Int))
     rw [over_set HL.out (imarks_at k hlt), Nat.mul_one] at this
     exact this
   case measure => simp [intOf]; omega
  ·
   have h1 : ¬ (i : Int) < (l.length : Int) := by omega
   obtain rfl : i = l.length := by omega
   go_wp2
   go_ret
   rw [over_all HL.out (Nat.le_refl _)] at hO
   exact ⟨rfl, hB, hO⟩

theorem markInt64S_pos (N g n cap : Nat) (l : List Int) (k : Int) (w : World) (h : Own ic 1 2 N w g n cap l) (hn : n ≤ 1073741824) (h0 : 0 ≤ k) (hk : k ≤ 1000000000) :
  Calls Tryz.prog 29 #[.slice (some ⟨g, 0, none⟩) n cap, .int .i64 k] w (MarkedI k N (.slice (some ⟨g, 0, none⟩) n cap) n w) := by
 refine (markInt64S_own N g n cap l k w h hn h0 hk).mono ?_
 rintro e w' ⟨rfl, hB, hO⟩
 refine ⟨rfl, ⟨g, h.2.1, hB⟩, ?_⟩
 have := Own.own hO ic_len
 unfold IntsO
 rw [imarks_len]
 exact this

set_option maxHeartbeats 400000 in
theorem markInt64S_nil (N cap : Nat) (A : Option Addr) (k : Int) (w : World) (h : IntsO N w (.slice A 0 cap) []) (hN : N ≤ w.heap.size) :
  Calls Tryz.prog 29 #[.slice A 0 cap, .int .i64 k] w (MarkedI k N (.slice A 0 cap) 0 w) := by
 go_enter Tryz.func29, Tryz.ntmps29
 go_wp2
 go_loopw [1, 5] (fun s1 s5 W => s1 = .int .i64 k ∧ s5 = .int .i64 0 ∧ W = w) (fun _ _ _ => 0)
 case atStart => exact ⟨rfl, rfl, rfl⟩
 case round =>
  obtain ⟨rfl, rfl, rfl⟩ := hrel
  go_wp2
  go_ret
  exact ⟨by simp, ⟨wr.heap.size, hN, But.refl _ _⟩, h⟩

theorem markInt64S_any (N : Nat) (v : Value) (l : List Int) (k : Int) (w : World) (h : IntsO N w v l) (hN : N ≤ w.heap.size) (hn : l.length ≤ 1073741824) (h0 : 0 ≤ k) (hk : k ≤ 1000000000) :
  Calls Tryz.prog 29 #[v, .int .i64 k] w (MarkedI k N v l.length w) := by
 rcases Nat.eq_zero_or_pos l.length with hl | hl
 ·
  obtain rfl : l = [] := List.length_eq_zero_iff.1 hl
  obtain ⟨A, cap, rfl, _⟩ := h.r
  exact markInt64S_nil N cap A k w h hN
 ·
  obtain ⟨g, cap, rfl, ho⟩ := Own.of_row (f := ic) h rfl hl
  exact markInt64S_pos N g l.length cap l k w ho hn h0 hk

set_option maxHeartbeats 1000000 in
theorem heldInt64S_any (A : Option Addr) (n cap : Nat) (k : Int) (w : World) (h : IntsR w A n (imarks k n)) (hn : n ≤ 1073741824) (h0 : 0 ≤ k) (hk : k ≤ 1000000000) :
  Calls Tryz.prog 30 #[.slice A n cap, .int .i64 k] w (RetBelow (.int .i64 (k + n)) w) := by
 go_enter Tryz.func30, Tryz.ntmps30
 go_wp2
 go_loopw [1, 5] (fun s1 s5 W => ∃ i : Nat, i ≤ n ∧ s1 = .int .i64 (k + i) ∧ s5 = .int .i64 i ∧ Below w.heap.size w W) (fun _ s5 _ => n - (intOf s5).toNat)
 case atStart => exact ⟨0, Nat.zero_le _, by go_num, rfl, Below.refl _ _⟩
 case round =>
  obtain ⟨i, hi, rfl, rfl, hB⟩ := hrel
  by_cases hlt : i < n
  ·
   obtain ⟨b, o, x, rfl, _, hp, c0⟩ := SlE.at_ (SlE.keep IE.kept h (fun j _ hj => hB.block j hj)) hlt
   obtain rfl : k + (i : Int) = x := by rw [imarks_at k hlt] at hp; injection hp
   unfold IE at c0
   rw [Nat.mul_one] at c0
   have h1 : (i : Int) < (n : Int) := by omega
   have h2 : (0 : Int) ≤ (i : Int) := by omega
   clear hp
   go_wp2
   go_roundw
   case rel => exact ⟨i + 1, by omega, by go_num, by go_num, hB⟩
   case measure => simp [intOf]; omega
  ·
   have h1 : ¬ (i : Int) < (n : Int) := by omega
   obtain rfl : i = n := by omega
   go_wp2
   go_ret
   exact ⟨rfl, hB⟩

/-- A list of numbers of the call's own is returned. -/
def RetIntl (l : List Int) (w : World) (e : Ending) (w' : World) : Prop := ∃ v, e = .returned v ∧ IntsO w.heap.size w' v l ∧ Below w.heap.size w w'

theorem ints_made {N k : Nat} {w : World} (h : k = w.heap.size) (hN : N ≤ w.heap.size) : IntsO N (w.alloc (.cells #[] 2)) (.slice (some ⟨k, 0, none⟩) 0 0) [] := by
 subst h
 exact World.ownsRow_made w #[] 0 hN (Nat.zero_le _) rfl

/-- Numbers in a slice of a block of its own, from lo on and below hi. -/
def IntsV (lo hi : Nat) (w : World) (v : Value) (l : List Int) : Prop := IntsO lo w v l ∧ ∀ g, v.ownBlock = some g → g < hi
theorem IntsV.of {lo : Nat} {w : World} {v : Value} {l : List Int} (h : IntsO lo w v l) : IntsV lo w.heap.size w v l := by
 refine ⟨h, fun g hg => ?_⟩
 rcases h.2 with ⟨h1, _⟩ | ⟨g', cap, cur, hv, _, hbx, _⟩
 · rw [h1] at hg; cases hg
 ·
  rw [hv] at hg
  have : g' = g := by simpa [Value.ownBlock] using hg
  subst this
  exact (Array.getElem?_eq_some_iff.1 hbx).1
theorem IntsV.keep {lo hi : Nat} {w w' : World} {v : Value} {l : List Int} (h : IntsV lo hi w v l) (hs : SameIn lo hi w w') : IntsV lo hi w' v l := by
 refine ⟨⟨h.1.1, ?_⟩, h.2⟩
 rcases h.1.2 with h' | ⟨g, cap, cur, hv, hg, hbx, hr⟩
 · exact .inl h'
 · exact .inr ⟨g, cap, cur, hv, hg, (hs g hg (h.2 g (by rw [hv]; simp [Value.ownBlock]))).trans hbx, hr⟩
theorem IntsV.below {lo hi : Nat} {w w' : World} {v : Value} {l : List Int} (h : IntsV lo hi w v l) (hb : Below w.heap.size w w') (hh : hi ≤ w.heap.size) : IntsV lo hi w' v l := h.keep (.below hb hh)
theorem IntsV.r {lo hi : Nat} {w : World} {A : Option Addr} {n cap : Nat} {l : List Int} (h : IntsV lo hi w (.slice A n cap) l) (hn : l.length = n) : IntsR w A n l := by
 obtain ⟨A', c', e, h'⟩ := h.1.r
 injection e with e1 e2 e3
 subst e1
 rw [hn] at h'
 exact h'
theorem But.in_ {k N lo hi : Nat} {a b : World} (h : But k a b) (hk : N ≤ k) (hj : hi ≤ N) (hs : hi ≤ a.heap.size) : SameIn lo hi a b := fun j h1 h2 => h.block j (by omega) (by omega)

def IntsW (lo hi : Nat) (w : World) (A : Option Addr) (n cap : Nat) (l : List Int) : Prop := SlW ic 1 2 lo hi w A n cap l
theorem IntsW.r {lo hi : Nat} {w : World} {A : Option Addr} {n cap : Nat} {l : List Int} (h : IntsW lo hi w A n cap l) : IntsR w A n l := SlW.r ic_len (fun b o x hc => by show w.cell? _ = _; simpa using hc 0 _ rfl) h
theorem IntsW.o {lo hi : Nat} {w : World} {A : Option Addr} {cap : Nat} {l : List Int} (h : IntsW lo hi w A l.length cap l) : IntsO lo w (.slice A l.length cap) l := SlW.own h ic_len
theorem IntsW.belowS {w w' : World} {M n cap : Nat} {A : Option Addr} {m : List Int} (h : IntsW M w.heap.size w A n cap m) (hb : Below w.heap.size w w') : IntsW M w'.heap.size w' A n cap m := SlW.mono (SlW.below h hb (Nat.le_refl _)) (Nat.le_refl _) hb.size
/-- A list of numbers of the call's own is returned. -/
def RetInts (l : List Int) (w : World) (e : Ending) (w' : World) : Prop := ∃ A cap, e = .returned (.slice A l.length cap) ∧ IntsW w.heap.size w'.heap.size w' A l.length cap l ∧ Below w.heap.size w w'

/-- What markInt64S does with a list of the call's own. -/
theorem markInt64S_w (lo hi : Nat) (A : Option Addr) (n cap : Nat) (l : List Int) (k : Int) (w : World) (h : IntsW lo hi w A n cap l) (hn : n ≤ 1073741824) (h0 : 0 ≤ k) (hk : k ≤ 1000000000) :
  Calls Tryz.prog 29 #[.slice A n cap, .int .i64 k] w (fun e w' => e = .returned (.int .i64 (k + n)) ∧ ButIn lo hi w w' ∧ IntsW lo hi w' A n cap (imarks k n)) := by
 rcases Nat.eq_zero_or_pos n with hz | hz
 ·
  subst hz
  go_enter Tryz.func29, Tryz.ntmps29
  go_wp2
  go_loopw [1, 5] (fun s1 s5 W => s1 = .int .i64 k ∧ s5 = .int .i64 0 ∧ W = w) (fun _ _ _ => 0)
  case atStart => exact ⟨rfl, rfl, rfl⟩
  case round =>
   obtain ⟨rfl, rfl, rfl⟩ := hrel
   go_wp2
   go_ret
   obtain rfl := List.eq_nil_of_length_eq_zero h.1
   exact ⟨by simp, ButIn.refl _ _ _, h⟩
 ·
  obtain ⟨g, rfl, hlo, hhi, ho⟩ := SlW.at0 h hz
  refine (markInt64S_own lo g n cap l k w ho hn h0 hk).mono ?_
  rintro e w' ⟨rfl, hb, hO⟩
  exact ⟨rfl, ButIn.of_but hb hlo hhi, hO.1, .inr ⟨g, rfl, hhi, hO⟩⟩

end Go.Proofs.YtdmcfdpjaadagaaGreatDoor

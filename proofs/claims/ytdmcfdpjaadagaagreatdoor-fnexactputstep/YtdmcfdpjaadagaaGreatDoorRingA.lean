/-
 Places and rings in words of this project's own; the walks of the laws' helpers on slices of places.
-/
import Derived.Test.YtdmcfdpjaadagaaGreatDoorNums
namespace Go.Proofs.YtdmcfdpjaadagaaGreatDoor
set_option linter.unusedSimpArgs false
set_option linter.unusedVariables false
open Go.RowKit
attribute [local go_sem ↓] Go.wp_at_zero Go.wp_at_succ

structure Pl where
 s : Bool
 n : Int
 f : Bool
 v : Int

structure CP where
 p : Pl
def cP (p : Pl) : CP := ⟨p⟩
instance (p : Pl) : CoeDep CP (cP p) (List Value) := ⟨[Value.bool p.s, Value.int .i64 p.n, Value.bool p.f, Value.int .i64 p.v]⟩
instance (p : Pl) : CoeDep CP (cP p) (Array Value) := ⟨#[Value.bool p.s, Value.int .i64 p.n, Value.bool p.f, Value.int .i64 p.v]⟩

def Pl.cs (p : Pl) : List Value := [.bool p.s, .int .i64 p.n, .bool p.f, .int .i64 p.v]
theorem Pl.cs_len (p : Pl) : p.cs.length = 4 := rfl

/-- A place's four cells, from an offset on. -/
def PlE (_N : Nat) (w : World) (b o : Nat) (p : Pl) : Prop :=
 w.cell? ⟨b, o, none⟩ = some (.bool p.s) ∧ w.cell? ⟨b, o + 1, none⟩ = some (.int .i64 p.n) ∧ w.cell? ⟨b, o + 2, none⟩ = some (.bool p.f) ∧ w.cell? ⟨b, o + 3, none⟩ = some (.int .i64 p.v)

theorem PlE.kept : Kept PlE := fun _ _ _ _ _ _ hb hs h => ⟨hs.cell hb h.1, hs.cell hb h.2.1, hs.cell hb h.2.2.1, hs.cell hb h.2.2.2⟩
theorem PlE.of_cells {N : Nat} {w : World} {b o : Nat} {p : Pl} (h : ∀ j u, p.cs[j]? = some u → w.cell? ⟨b, o + j, none⟩ = some u) : PlE N w b o p :=
 ⟨h 0 _ rfl, h 1 _ rfl, h 2 _ rfl, h 3 _ rfl⟩

/-- Places in a slice (anywhere from block N on), to be read. -/
def PlsR (N : Nat) (w : World) (A : Option Addr) (n : Nat) (l : List Pl) : Prop := SlE PlE 4 N w A n l
/-- Places in a slice of the call's own. -/
def PlsO (N : Nat) (w : World) (g n cap : Nat) (l : List Pl) : Prop := Own Pl.cs 4 33 N w g n cap l

theorem PlsO.r {N : Nat} {w : World} {g n cap : Nat} {l : List Pl} (h : PlsO N w g n cap l) : PlsR N w (some ⟨g, 0, none⟩) n l := Own.sl h Pl.cs_len fun _ _ _ => PlE.of_cells
theorem PlsR.below {N : Nat} {w w' : World} {A : Option Addr} {n : Nat} {l : List Pl} (h : PlsR N w A n l) (hb : Below w.heap.size w w') : PlsR N w' A n l := SlE.below PlE.kept h hb

theorem PlsO.set_ne {N : Nat} {w : World} {g n cap : Nat} {l : List Pl} (h : PlsO N w g n cap l) {b : Nat} (hb : g ≠ b) (i : Nat) (u : Value) : PlsO N (w.setCell ⟨b, i, none⟩ u) g n cap l := Own.set_ne h hb i u
theorem PlsO.below {N : Nat} {w w' : World} {g n cap : Nat} {l : List Pl} (h : PlsO N w g n cap l) (hb : Below w.heap.size w w') : PlsO N w' g n cap l := Own.below h hb
theorem PlsO.al {N : Nat} {w : World} {g n cap : Nat} {l : List Pl} (h : PlsO N w g n cap l) (o : Obj) : PlsO N (w.alloc o) g n cap l := Own.al h o
theorem PlsO.mono {N M : Nat} {w : World} {g n cap : Nat} {l : List Pl} (h : PlsO N w g n cap l) (hM : M ≤ N) : PlsO M w g n cap l := Own.mono h hM
theorem PlsO.ge {N : Nat} {w : World} {g n cap : Nat} {l : List Pl} (h : PlsO N w g n cap l) : N ≤ g := h.2.1
theorem PlsR.mono {N M : Nat} {w : World} {A : Option Addr} {n : Nat} {l : List Pl} (h : PlsR N w A n l) (hM : M ≤ N) : PlsR M w A n l :=
 ⟨h.1, fun hn => by obtain ⟨b, o, e, hb, hc⟩ := h.2 hn; exact ⟨b, o, e, Nat.le_trans hM hb, hc⟩⟩
theorem PlsO.sn {N : Nat} {w : World} {g n cap : Nat} {l : List Pl} (h : PlsO N w g n cap l) {b : Nat} {i : Nat} {u : Value} (hb : g ≠ b := by omega) : PlsO N (w.setCell ⟨b, i, none⟩ u) g n cap l := Own.set_ne h hb i u

set_option maxHeartbeats 400000 in
theorem toPlace_any (a c : Bool) (b d : Int) (w : World) :
  Calls Tryz.prog 39 #[.agg #[.bool a, .int .i64 b, .bool c, .int .i64 d]] w (RetBelow (.agg #[.bool a, .int .i64 b, .bool c, .int .i64 d]) w) := by
 go_enter Tryz.func39, Tryz.ntmps39
 go_wp2
 refine bodyPost_ret (v := .agg #[.bool a, .int .i64 b, .bool c, .int .i64 d]) (by simp [results, Tryz.results39, go_sem]) rfl ⟨rfl, ?_⟩
 exact (((Below.refl _ _).alloc (Nat.le_refl _) _).alloc (by simp) _).alloc (by simp; omega) _

theorem place_info : (Tryz.prog.info? 33).map (fun i => (i.zero, i.size, i.bytes)) = some (some (.agg #[.bool false, .int .i64 0, .bool false, .int .i64 0]), 4, 32) := by kernel_rfl

/-- What toPlaceS yields. -/
def ToPls (n : Nat) (l : List Pl) (w : World) (e : Ending) (w' : World) : Prop :=
 ∃ g, e = .returned (.slice (some ⟨g, 0, none⟩) n n) ∧ PlsO w.heap.size w' g n n l ∧ Below w.heap.size w w'

set_option maxHeartbeats 400000 in
theorem toPlaceS_any (A : Option Addr) (n cap : Nat) (l : List Pl) (w : World) (h : PlsR 0 w A n l) (hn : n ≤ 1048576) :
  Calls Tryz.prog 98 #[.slice A n cap] w (ToPls n l w) := by
 obtain ⟨i0, hi0, hz0, hz1, hz2⟩ := info_parts place_info
 have hmk : ∀ W : World, (Instr.makeSlice 84 (.int .i64 (n : Int)) (.int .i64 (n : Int))).run Tryz.prog W = .ok (.slice (some ⟨W.heap.size, 0, none⟩) n n) (W.alloc (.cells (madeCells #[.bool false, .int .i64 0, .bool false, .int .i64 0] (n * 4)) 33)) := by
  intro W
  have := run_make (P := Tryz.prog) W 84 33 i0 _ Tryz.underlying84 hi0 hz0 .i64 .i64 n n (by omega) (by omega) (by rw [hz2]; omega) (by omega)
  rw [hz1] at this
  simpa [Value.cells] using this
 go_enter Tryz.func98, Tryz.ntmps98
 go_wp2
 have hln := h.1
 obtain rfl : l.length = n := hln
 clear hmk hi0 hz0 hz1 hz2
 go_loopw [4] (fun s4 W => ∃ i : Nat, i ≤ l.length ∧ s4 = .int .i64 i ∧ Below w.heap.size w W ∧ PlsO w.heap.size W w.heap.size l.length l.length (upto ⟨false, 0, false, 0⟩ l i)) (fun s4 _ => l.length - (intOf s4).toNat)
 case atStart =>
  refine ⟨0, Nat.zero_le _, rfl, (Below.refl _ _).alloc (Nat.le_refl _) _, ?_⟩
  rw [upto_zero]
  exact Own.made Pl.cs_len (by omega) (⟨false, 0, false, 0⟩ : Pl) _ rfl (Nat.le_refl _) _ (by unfold maxLen; omega)
 case round =>
  obtain ⟨i, hi, rfl, hB, hO⟩ := hrel
  by_cases hlt : i < l.length
  ·
   obtain ⟨b, o, p, rfl, _, hp, hc⟩ := SlE.at_ (SlE.keep PlE.kept h (fun j _ hj => hB.block j hj)) hlt
   obtain ⟨c0, c1, c2, c3⟩ := hc
   have h1 : (i : Int) < (l.length : Int) := by omega
   have h2 : (0 : Int) ≤ (i : Int) := by omega
   go_wp2_with fail
   refine (toPlace_any _ _ _ _ _).mono ?_
   rintro e w1 ⟨rfl, hb1⟩
   clear c0 c1 c2 c3
   have hO1 := Own.below hO hb1
   have d0 := Own.cell_ Pl.cs_len hO1 (j := 0) (upto_at _ _ hlt) rfl
   have d1 := Own.cell_ Pl.cs_len hO1 (j := 1) (upto_at _ _ hlt) rfl
   have d2 := Own.cell_ Pl.cs_len hO1 (j := 2) (upto_at _ _ hlt) rfl
   have d3 := Own.cell_ Pl.cs_len hO1 (j := 3) (upto_at _ _ hlt) rfl
   rw [Nat.add_zero] at d0
   have df := Own.frozen_ hO1
   go_wp2
   go_roundw
   case rel =>
    refine ⟨i + 1, by omega, by go_num, ?_, ?_⟩
    · exact Below.setCells (Nat.le_refl _) p.cs (i * 4) (bstep hB hB.size hb1)
    ·
     have := Own.setEl hO1 Pl.cs_len (by omega) hlt p
     rw [upto_set _ _ hp] at this
     exact this
   case measure => simp [intOf]; omega
  ·
   have h1 : ¬ (i : Int) < (l.length : Int) := by omega
   go_wp2
   go_ret
   have hu := upto_all (⟨false, 0, false, 0⟩ : Pl) l (i := i) (by omega)
   rw [hu] at hO
   exact ⟨_, rfl, hO, hB⟩

set_option maxHeartbeats 400000 in
theorem eqPlace_same (a c : Bool) (b d : Int) (w : World) :
  Calls Tryz.prog 44 #[.agg #[.bool a, .int .i64 b, .bool c, .int .i64 d], .agg #[.bool a, .int .i64 b, .bool c, .int .i64 d]] w (RetBelow (.bool true) w) := by
 go_enter Tryz.func44, Tryz.ntmps44
 go_wp2
 go_ret
 exact .mk rfl (((Below.refl _ _).alloc (Nat.le_refl _) _).alloc (by simp) _)

set_option maxRecDepth 100000 in
set_option maxHeartbeats 400000 in
theorem eqPlaceS_same (A B : Option Addr) (n c d : Nat) (l : List Pl) (w : World) (h : PlsR 0 w A n l) (h' : PlsR 0 w B n l) (hn : n ≤ 1048576) :
  Calls Tryz.prog 120 #[.slice A n c, .slice B n d] w (RetBelow (.bool true) w) := by
 go_enter Tryz.func120, Tryz.ntmps120
 go_wp2
 go_loopw [5] (fun s5 W => ∃ i : Nat, i ≤ n ∧ s5 = .int .i64 i ∧ Below w.heap.size w W) (fun s5 _ => n - (intOf s5).toNat)
 case atStart => exact ⟨0, Nat.zero_le _, rfl, Below.refl _ _⟩
 case round =>
  obtain ⟨i, hi, rfl, hB⟩ := hrel
  by_cases hlt : i < n
  ·
   obtain ⟨b, o, p, rfl, _, hp, hc⟩ := SlE.at_ (SlE.keep PlE.kept h (fun j _ hj => hB.block j hj)) hlt
   obtain ⟨b', o', p', rfl, _, hp', hc'⟩ := SlE.at_ (SlE.keep PlE.kept h' (fun j _ hj => hB.block j hj)) hlt
   obtain rfl : p = p' := by rw [hp] at hp'; injection hp'
   obtain ⟨c0, c1, c2, c3⟩ := hc
   obtain ⟨d0, d1, d2, d3⟩ := hc'
   have h1 : (i : Int) < (n : Int) := by omega
   have h2 : (0 : Int) ≤ (i : Int) := by omega
   go_wp2
   go_still_tail 8, (by kernel_rfl)
   go_wp2_with fail
   refine (eqPlace_same _ _ _ _ _).mono ?_
   rintro e w1 ⟨rfl, hb1⟩
   go_wp2
   go_roundw
   case rel => exact ⟨i + 1, by omega, by go_num, bstep hB.drew hB.size hb1⟩
   case measure => simp [intOf]; omega
  ·
   have h1 : ¬ (i : Int) < (n : Int) := by omega
   go_wp2
   go_ret
   exact ⟨rfl, hB⟩

/-- What the laws write into a place, and into places one behind the other. -/
def markPl (k : Int) : Pl := ⟨k % 3 == 0, k + 1, (k + 1 + 1) % 3 == 0, k + 1 + 1 + 1⟩
def marks (k : Int) (n : Nat) : List Pl := (List.range n).map fun (i : Nat) => markPl (k + 4 * (i : Int))
theorem marks_len (k : Int) (n : Nat) : (marks k n).length = n := by simp [marks]
theorem marks_at (k : Int) {n i : Nat} (h : i < n) : (marks k n)[i]? = some (markPl (k + 4 * i)) := by simp [marks, h]

/-- What markPlaceS does. -/
def Marked (k : Int) (N g n cap : Nat) (w : World) (e : Ending) (w' : World) : Prop :=
 e = .returned (.int .i64 (k + 4 * n)) ∧ But g w w' ∧ PlsO N w' g n cap (marks k n)

set_option maxHeartbeats 1000000 in
theorem markPlaceS_any (N g n cap : Nat) (l : List Pl) (k : Int) (w : World) (h : PlsO N w g n cap l) (hn : n ≤ 1048576) (h0 : 0 ≤ k) (hk : k ≤ 1000000000) :
  Calls Tryz.prog 82 #[.slice (some ⟨g, 0, none⟩) n cap, .int .i64 k] w (Marked k N g n cap w) := by
 have hlen : l.length = (marks k n).length := by rw [marks_len]; exact h.1
 have HL := Lib.hid hlen
 have hln := h.1
 obtain rfl : l.length = n := hln
 clear hlen
 go_enter Tryz.func82, Tryz.ntmps82
 go_wp2
 go_loopw [1, 5] (fun s1 s5 W => ∃ i : Nat, i ≤ l.length ∧ s1 = .int .i64 (k + 4 * i) ∧ s5 = .int .i64 i ∧ But g w W ∧ PlsO N W g l.length cap (over l (marks k l.length) i)) (fun _ s5 _ => l.length - (intOf s5).toNat)
 case atStart => exact ⟨0, Nat.zero_le _, by go_num, rfl, But.refl _ _, by rw [over_zero]; exact h⟩
 case round =>
  obtain ⟨i, hi, rfl, rfl, hB, hO⟩ := hrel
  by_cases hlt : i < l.length
  ·
   have hx : (over l (marks k l.length) i)[i]? = some l[i] := by rw [over_at HL.out hlt]; exact List.getElem?_eq_getElem hlt
   have d0 := Own.cell_ Pl.cs_len hO (j := 0) hx rfl
   have d1 := Own.cell_ Pl.cs_len hO (j := 1) hx rfl
   have d2 := Own.cell_ Pl.cs_len hO (j := 2) hx rfl
   have d3 := Own.cell_ Pl.cs_len hO (j := 3) hx rfl
   rw [Nat.add_zero] at d0
   have df := Own.frozen_ hO
   have h1 : (i : Int) < (l.length : Int) := by omega
   have h2 : (0 : Int) ≤ (i : Int) := by omega
   have HX := Lib.hid hx; clear hx
   go_wp2
   go_roundw
   case rel =>
    refine ⟨i + 1, by omega, by go_num, by go_num, ?_, ?_⟩
    · exact But.setCells (markPl (k + 4 * i)).cs (i * 4) hB
    ·
     have := Own.setEl hO Pl.cs_len (by omega) hlt (markPl (k + 4 * i))
     rw [over_set HL.out (marks_at k hlt)] at this
     exact this
   case measure => simp [intOf]; omega
  ·
   have h1 : ¬ (i : Int) < (l.length : Int) := by omega
   obtain rfl : i = l.length := by omega
   go_wp2
   go_ret
   rw [over_all HL.out (Nat.le_refl _)] at hO
   exact ⟨rfl, hB, hO⟩

set_option maxHeartbeats 1000000 in
theorem heldPlaceS_any (N : Nat) (A : Option Addr) (n cap : Nat) (k : Int) (w : World) (h : PlsR N w A n (marks k n)) (hn : n ≤ 1048576) (h0 : 0 ≤ k) (hk : k ≤ 1000000000) :
  Calls Tryz.prog 83 #[.slice A n cap, .int .i64 k] w (RetBelow (.int .i64 (k + 4 * n)) w) := by
 go_enter Tryz.func83, Tryz.ntmps83
 go_wp2
 go_loopw [1, 5] (fun s1 s5 W => ∃ i : Nat, i ≤ n ∧ s1 = .int .i64 (k + 4 * i) ∧ s5 = .int .i64 i ∧ Below w.heap.size w W) (fun _ s5 _ => n - (intOf s5).toNat)
 case atStart => exact ⟨0, Nat.zero_le _, by go_num, rfl, Below.refl _ _⟩
 case round =>
  obtain ⟨i, hi, rfl, rfl, hB⟩ := hrel
  by_cases hlt : i < n
  ·
   obtain ⟨b, o, p, rfl, _, hp, hc⟩ := SlE.at_ (SlE.keep PlE.kept h (fun j _ hj => hB.block j hj)) hlt
   obtain rfl : markPl (k + 4 * i) = p := by rw [marks_at k hlt] at hp; injection hp
   obtain ⟨c0, c1, c2, c3⟩ := hc
   have h1 : (i : Int) < (n : Int) := by omega
   have h2 : (0 : Int) ≤ (i : Int) := by omega
   clear hp
   unfold markPl at c0 c1 c2 c3
   dsimp only at c0 c1 c2 c3
   go_wp2
   go_roundw
   case rel => exact ⟨i + 1, by omega, by go_num, by go_num, hB⟩
   case measure => simp [intOf]; omega
  ·
   have h1 : ¬ (i : Int) < (n : Int) := by omega
   obtain rfl : i = n := by omega
   go_wp2
   go_ret
   exact ⟨rfl, hB⟩

set_option maxHeartbeats 400000 in
theorem szPlaceS_any (A : Option Addr) (n cap : Nat) (left : Int) (w : World) (hn : n ≤ maxLen) (h0 : 0 ≤ left) (h1 : left ≤ 1048576) :
  Calls Tryz.prog 92 #[.slice A n cap, .int .i64 left] w (RetBelow (.int .i64 (szI left n)) w) := by
 unfold maxLen at hn
 by_cases h : (n : Int) ≤ left
 all_goals
  go_enter Tryz.func92, Tryz.ntmps92
  go_wp2
  go_ret
  exact .mk (by simp [szI, *] <;> omega) (Below.refl _ _)

end Go.Proofs.YtdmcfdpjaadagaaGreatDoor

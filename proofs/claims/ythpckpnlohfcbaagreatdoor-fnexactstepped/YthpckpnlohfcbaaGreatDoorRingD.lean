/-
 Places and rings in words of this project's own; the walks of the laws' helpers on slices of places.
-/
import Derived.OwnWalk
import Derived.Test.YthpckpnlohfcbaaGreatDoorNums
namespace Go.Proofs.YthpckpnlohfcbaaGreatDoor
set_option linter.unusedSimpArgs false
set_option linter.unusedVariables false
open Go.RowKit
attribute [local go_sem ↓] Go.wp_at_zero Go.wp_at_succ
structure Pl where
 s : Bool
 n : Int
 f : Bool
 v : Int
structure CP where
 p : Pl
def cP (p : Pl) : CP := ⟨p⟩
instance (p : Pl) : CoeDep CP (cP p) (List Value) := ⟨[Value.bool p.s, Value.int .i64 p.n, Value.bool p.f, Value.int .i64 p.v]⟩
instance (p : Pl) : CoeDep CP (cP p) (Array Value) := ⟨#[Value.bool p.s, Value.int .i64 p.n, Value.bool p.f, Value.int .i64 p.v]⟩
def Pl.cs (p : Pl) : List Value := (cP p)
theorem Pl.cs_len (p : Pl) : p.cs.length = 4 := rfl
def PlE (_N : Nat) (w : World) (b o : Nat) (p : Pl) : Prop :=
 w.cell? ⟨b, o, none⟩ = some (.bool p.s) ∧ w.cell? ⟨b, o + 1, none⟩ = some (.int .i64 p.n) ∧ w.cell? ⟨b, o + 2, none⟩ = some (.bool p.f) ∧ w.cell? ⟨b, o + 3, none⟩ = some (.int .i64 p.v)
theorem PlE.kept : Kept PlE := fun _ _ _ _ _ _ hb hs h => ⟨hs.cell hb h.1, hs.cell hb h.2.1, hs.cell hb h.2.2.1, hs.cell hb h.2.2.2⟩
theorem PlE.of_cells {N : Nat} {w : World} {b o : Nat} {p : Pl} (h : ∀ j u, p.cs[j]? = some u → w.cell? ⟨b, o + j, none⟩ = some u) : PlE N w b o p :=
 ⟨h 0 _ rfl, h 1 _ rfl, h 2 _ rfl, h 3 _ rfl⟩
def PlsR (N : Nat) (w : World) (A : Option Addr) (n : Nat) (l : List Pl) : Prop := SlE PlE 4 N w A n l
def PlsO (N : Nat) (w : World) (g n cap : Nat) (l : List Pl) : Prop := Own Pl.cs 4 33 N w g n cap l
theorem PlsO.r {N : Nat} {w : World} {g n cap : Nat} {l : List Pl} (h : PlsO N w g n cap l) : PlsR N w (some ⟨g, 0, none⟩) n l := Own.sl h Pl.cs_len fun _ _ _ => PlE.of_cells
theorem PlsR.below {N : Nat} {w w' : World} {A : Option Addr} {n : Nat} {l : List Pl} (h : PlsR N w A n l) (hb : Below w.heap.size w w') : PlsR N w' A n l := SlE.below PlE.kept h hb
theorem PlsO.set_ne {N : Nat} {w : World} {g n cap : Nat} {l : List Pl} (h : PlsO N w g n cap l) {b : Nat} (hb : g ≠ b) (i : Nat) (u : Value) : PlsO N (w.setCell ⟨b, i, none⟩ u) g n cap l := Own.set_ne h hb i u
theorem PlsO.below {N : Nat} {w w' : World} {g n cap : Nat} {l : List Pl} (h : PlsO N w g n cap l) (hb : Below w.heap.size w w') : PlsO N w' g n cap l := Own.below h hb
theorem PlsO.al {N : Nat} {w : World} {g n cap : Nat} {l : List Pl} (h : PlsO N w g n cap l) (o : Obj) : PlsO N (w.alloc o) g n cap l := Own.al h o
theorem PlsO.mono {N M : Nat} {w : World} {g n cap : Nat} {l : List Pl} (h : PlsO N w g n cap l) (hM : M ≤ N) : PlsO M w g n cap l := Own.mono h hM
theorem PlsO.ge {N : Nat} {w : World} {g n cap : Nat} {l : List Pl} (h : PlsO N w g n cap l) : N ≤ g := h.2.1
theorem PlsR.mono {N M : Nat} {w : World} {A : Option Addr} {n : Nat} {l : List Pl} (h : PlsR N w A n l) (hM : M ≤ N) : PlsR M w A n l :=
 ⟨h.1, fun hn => by obtain ⟨b, o, e, hb, hc⟩ := h.2 hn; exact ⟨b, o, e, Nat.le_trans hM hb, hc⟩⟩
theorem PlsO.sn {N : Nat} {w : World} {g n cap : Nat} {l : List Pl} (h : PlsO N w g n cap l) {b : Nat} {i : Nat} {u : Value} (hb : g ≠ b := by omega) : PlsO N (w.setCell ⟨b, i, none⟩ u) g n cap l := Own.set_ne h hb i u
set_option maxHeartbeats 400000 in
theorem toPlace_any (a c : Bool) (b d : Int) (w : World) :
  Calls Tryz.prog 27 #[.agg #[a, b, c, d]] w (RetBelow (.agg #[a, b, c, d]) w) := by
 go_enter Tryz.func27, Tryz.ntmps27
 go_wp2
 refine bodyPost_ret (v := .agg #[a, b, c, d]) (by simp [results, Tryz.results27, go_sem]) rfl ⟨rfl, ?_⟩
 exact (((Below.refl _ _).alloc (Nat.le_refl _) _).alloc (by simp) _).alloc (by simp; omega) _
theorem place_info : (Tryz.prog.info? 33).map (fun i => (i.zero, i.size, i.bytes)) = some (some (.agg #[.bool false, .int .i64 0, .bool false, .int .i64 0]), 4, 32) := by kernel_rfl
def ToPls (n : Nat) (l : List Pl) (w : World) (e : Ending) (w' : World) : Prop :=
 ∃ g, e = .returned (.slice (some ⟨g, 0, none⟩) n n) ∧ PlsO w.heap.size w' g n n l ∧ Below w.heap.size w w'
set_option maxHeartbeats 400000 in
theorem toPlaceS_any (A : Option Addr) (n cap : Nat) (l : List Pl) (w : World) (h : PlsR 0 w A n l) (hn : n ≤ 1048576) :
  Calls Tryz.prog 81 #[.slice A n cap] w (ToPls n l w) := by
 obtain ⟨i0, hi0, hz0, hz1, hz2⟩ := info_parts place_info
 have hmk : ∀ W : World, (Instr.makeSlice 77 (.int .i64 (n : Int)) (.int .i64 (n : Int))).run Tryz.prog W = .ok (.slice (some ⟨W.heap.size, 0, none⟩) n n) (W.alloc (.cells (madeCells #[.bool false, .int .i64 0, .bool false, .int .i64 0] (n * 4)) 33)) := by
  intro W
  have := run_make (P := Tryz.prog) W 77 33 i0 _ Tryz.underlying77 hi0 hz0 .i64 .i64 n n (by omega) (by omega) (by rw [hz2]; omega) (by omega)
  rw [hz1] at this
  simpa [Value.cells] using this
 go_enter Tryz.func81, Tryz.ntmps81
 go_wp2
 have hln := h.1
 obtain rfl : l.length = n := hln
 clear hmk hi0 hz0 hz1 hz2
 go_loopw [4] (fun s4 W => ∃ i : Nat, i ≤ l.length ∧ s4 = .int .i64 i ∧ Below w.heap.size w W ∧ PlsO w.heap.size W w.heap.size l.length l.length (upto ⟨false, 0, false, 0⟩ l i)) (fun s4 _ => l.length - (intOf s4).toNat)
 case atStart =>
  refine ⟨0, Nat.zero_le _, rfl, (Below.refl _ _).alloc (Nat.le_refl _) _, ?_⟩
  rw [upto_zero]
  exact Own.made Pl.cs_len (by omega) (⟨false, 0, false, 0⟩ : Pl) _ rfl (Nat.le_refl _) _ (by unfold maxLen; omega)
 case round =>
  obtain ⟨i, hi, rfl, hB, hO⟩ := hrel
  by_cases hlt : i < l.length
  ·
   obtain ⟨b, o, p, rfl, _, hp, hc⟩ := SlE.at_ (SlE.keep PlE.kept h (fun j _ hj => hB.block j hj)) hlt
   obtain ⟨c0, c1, c2, c3⟩ := hc
   have h1 : (i : Int) < (l.length : Int) := by omega
   have h2 : (0 : Int) ≤ (i : Int) := by omega
   go_wp2_with fail
   refine (toPlace_any _ _ _ _ _).mono ?_
   rintro e w1 ⟨rfl, hb1⟩
   clear c0 c1 c2 c3
   have hO1 := Own.below hO hb1
   have d0 := Own.cell_ Pl.cs_len hO1 (j := 0) (upto_at _ _ hlt) rfl
   have d1 := Own.cell_ Pl.cs_len hO1 (j := 1) (upto_at _ _ hlt) rfl
   have d2 := Own.cell_ Pl.cs_len hO1 (j := 2) (upto_at _ _ hlt) rfl
   have d3 := Own.cell_ Pl.cs_len hO1 (j := 3) (upto_at _ _ hlt) rfl
   rw [Nat.add_zero] at d0
   have df := Own.frozen_ hO1
   go_wp2
   go_roundw
   case rel =>
    refine ⟨i + 1, by omega, by go_num, ?_, ?_⟩
    · exact Below.setCells (Nat.le_refl _) p.cs (i * 4) (bstep hB hB.size hb1)
    ·
     have := Own.setEl hO1 Pl.cs_len (by omega) hlt p
     rw [upto_set _ _ hp] at this
     exact this
   case measure => simp [intOf]; omega
  ·
   have h1 : ¬ (i : Int) < (l.length : Int) := by omega
   go_wp2
   go_ret
   have hu := upto_all (⟨false, 0, false, 0⟩ : Pl) l (i := i) (by omega)
   rw [hu] at hO
   exact ⟨_, rfl, hO, hB⟩
set_option maxHeartbeats 400000 in
theorem eqPlace_same (a c : Bool) (b d : Int) (w : World) :
  Calls Tryz.prog 30 #[.agg #[a, b, c, d], .agg #[a, b, c, d]] w (RetBelow (.bool true) w) := by
 go_enter Tryz.func30, Tryz.ntmps30
 go_wp2
 go_ret
 exact .mk rfl (((Below.refl _ _).alloc (Nat.le_refl _) _).alloc (by simp) _)
set_option maxRecDepth 100000 in
set_option maxHeartbeats 400000 in
theorem eqPlaceS_same (A B : Option Addr) (n c d : Nat) (l : List Pl) (w : World) (h : PlsR 0 w A n l) (h' : PlsR 0 w B n l) (hn : n ≤ 1048576) :
  Calls Tryz.prog 89 #[.slice A n c, .slice B n d] w (RetBelow (.bool true) w) := by
 go_enter Tryz.func89, Tryz.ntmps89
 go_wp2
 go_loopw [5] (fun s5 W => ∃ i : Nat, i ≤ n ∧ s5 = .int .i64 i ∧ Below w.heap.size w W) (fun s5 _ => n - (intOf s5).toNat)
 case atStart => exact ⟨0, Nat.zero_le _, rfl, Below.refl _ _⟩
 case round =>
  obtain ⟨i, hi, rfl, hB⟩ := hrel
  by_cases hlt : i < n
  ·
   obtain ⟨b, o, p, rfl, _, hp, hc⟩ := SlE.at_ (SlE.keep PlE.kept h (fun j _ hj => hB.block j hj)) hlt
   obtain ⟨b', o', p', rfl, _, hp', hc'⟩ := SlE.at_ (SlE.keep PlE.kept h' (fun j _ hj => hB.block j hj)) hlt
   obtain rfl : p = p' := by rw [hp] at hp'; injection hp'
   obtain ⟨c0, c1, c2, c3⟩ := hc
   obtain ⟨d0, d1, d2, d3⟩ := hc'
   have h1 : (i : Int) < (n : Int) := by omega
   have h2 : (0 : Int) ≤ (i : Int) := by omega
   go_wp2
   go_still_tail 8, (by kernel_rfl)
   go_wp2_with fail
   refine (eqPlace_same _ _ _ _ _).mono ?_
   rintro e w1 ⟨rfl, hb1⟩
   go_wp2
   go_roundw
   case rel => exact ⟨i + 1, by omega, by go_num, bstep hB.drew hB.size hb1⟩
   case measure => simp [intOf]; omega
  ·
   have h1 : ¬ (i : Int) < (n : Int) := by omega
   go_wp2
   go_ret
   exact ⟨rfl, hB⟩
def markPl (k : Int) : Pl := ⟨k % 3 == 0, k + 1, (k + 1 + 1) % 3 == 0, k + 1 + 1 + 1⟩
def marks (k : Int) (n : Nat) : List Pl := (List.range n).map fun (i : Nat) => markPl (k + 4 * (i : Int))
theorem marks_len (k : Int) (n : Nat) : (marks k n).length = n := by simp [marks]
theorem marks_at (k : Int) {n i : Nat} (h : i < n) : (marks k n)[i]? = some (markPl (k + 4 * i)) := by simp [marks, h]
def Marked (k : Int) (N g n cap : Nat) (w : World) (e : Ending) (w' : World) : Prop :=
 e = .returned (.int .i64 (k + 4 * n)) ∧ But g w w' ∧ PlsO N w' g n cap (marks k n)
set_option maxHeartbeats 1000000 in
theorem markPlaceS_any (N g n cap : Nat) (l : List Pl) (k : Int) (w : World) (h : PlsO N w g n cap l) (hn : n ≤ 1048576) (h0 : 0 ≤ k) (hk : k ≤ 1000000000) :
  Calls Tryz.prog 57 #[.slice (some ⟨g, 0, none⟩) n cap, k] w (Marked k N g n cap w) := by
 have hlen : l.length = (marks k n).length := by rw [marks_len]; exact h.1
 have HL := Lib.hid hlen
 have hln := h.1
 obtain rfl : l.length = n := hln
 clear hlen
 go_enter Tryz.func57, Tryz.ntmps57
 go_wp2
 go_loopw [1, 5] (fun s1 s5 W => ∃ i : Nat, i ≤ l.length ∧ s1 = .int .i64 (k + 4 * i) ∧ s5 = .int .i64 i ∧ But g w W ∧ PlsO N W g l.length cap (over l (marks k l.length) i)) (fun _ s5 _ => l.length - (intOf s5).toNat)
 case atStart => exact ⟨0, Nat.zero_le _, by go_num, rfl, But.refl _ _, by rw [over_zero]; exact h⟩
 case round =>
  obtain ⟨i, hi, rfl, rfl, hB, hO⟩ := hrel
  by_cases hlt : i < l.length
  ·
   have hx : (over l (marks k l.length) i)[i]? = some l[i] := by rw [over_at HL.out hlt]; exact List.getElem?_eq_getElem hlt
   have d0 := Own.cell_ Pl.cs_len hO (j := 0) hx rfl
   have d1 := Own.cell_ Pl.cs_len hO (j := 1) hx rfl
   have d2 := Own.cell_ Pl.cs_len hO (j := 2) hx rfl
   have d3 := Own.cell_ Pl.cs_len hO (j := 3) hx rfl
   rw [Nat.add_zero] at d0
   have df := Own.frozen_ hO
   have h1 : (i : Int) < (l.length : Int) := by omega
   have h2 : (0 : Int) ≤ (i : Int) := by omega
   have HX := Lib.hid hx; clear hx
   go_wp2
   go_roundw
   case rel =>
    refine ⟨i + 1, by omega, by go_num, by go_num, ?_, ?_⟩
    · exact But.setCells (markPl (k + 4 * i)).cs (i * 4) hB
    ·
     have := Own.setEl hO Pl.cs_len (by omega) hlt (markPl (k + 4 * i))
     rw [over_set HL.out (marks_at k hlt)] at this
     exact this
   case measure => simp [intOf]; omega
  ·
   have h1 : ¬ (i : Int) < (l.length : Int) := by omega
   obtain rfl : i = l.length := by omega
   go_wp2
   go_ret
   rw [over_all HL.out (Nat.le_refl _)] at hO
   exact ⟨rfl, hB, hO⟩
set_option maxHeartbeats 1000000 in
theorem heldPlaceS_any (N : Nat) (A : Option Addr) (n cap : Nat) (k : Int) (w : World) (h : PlsR N w A n (marks k n)) (hn : n ≤ 1048576) (h0 : 0 ≤ k) (hk : k ≤ 1000000000) :
  Calls Tryz.prog 58 #[.slice A n cap, k] w (RetBelow (.int .i64 (k + 4 * n)) w) := by
 go_enter Tryz.func58, Tryz.ntmps58
 go_wp2
 go_loopw [1, 5] (fun s1 s5 W => ∃ i : Nat, i ≤ n ∧ s1 = .int .i64 (k + 4 * i) ∧ s5 = .int .i64 i ∧ Below w.heap.size w W) (fun _ s5 _ => n - (intOf s5).toNat)
 case atStart => exact ⟨0, Nat.zero_le _, by go_num, rfl, Below.refl _ _⟩
 case round =>
  obtain ⟨i, hi, rfl, rfl, hB⟩ := hrel
  by_cases hlt : i < n
  ·
   obtain ⟨b, o, p, rfl, _, hp, hc⟩ := SlE.at_ (SlE.keep PlE.kept h (fun j _ hj => hB.block j hj)) hlt
   obtain rfl : markPl (k + 4 * i) = p := by rw [marks_at k hlt] at hp; injection hp
   obtain ⟨c0, c1, c2, c3⟩ := hc
   have h1 : (i : Int) < (n : Int) := by omega
   have h2 : (0 : Int) ≤ (i : Int) := by omega
   clear hp
   unfold markPl at c0 c1 c2 c3
   dsimp only at c0 c1 c2 c3
   go_wp2
   go_roundw
   case rel => exact ⟨i + 1, by omega, by go_num, by go_num, hB⟩
   case measure => simp [intOf]; omega
  ·
   have h1 : ¬ (i : Int) < (n : Int) := by omega
   obtain rfl : i = n := by omega
   go_wp2
   go_ret
   exact ⟨rfl, hB⟩
set_option maxHeartbeats 400000 in
theorem szPlaceS_any (A : Option Addr) (n cap : Nat) (left : Int) (w : World) (hn : n ≤ maxLen) (h0 : 0 ≤ left) (h1 : left ≤ 1048576) :
  Calls Tryz.prog 67 #[.slice A n cap, left] w (RetBelow (.int .i64 (szI left n)) w) := by
 unfold maxLen at hn
 by_cases h : (n : Int) ≤ left
 all_goals
  go_enter Tryz.func67, Tryz.ntmps67
  go_wp2
  go_ret
  exact .mk (by simp [szI, *] <;> omega) (Below.refl _ _)
end Go.Proofs.YthpckpnlohfcbaaGreatDoor
namespace Go.Proofs.YthpckpnlohfcbaaGreatDoor
set_option linter.unusedSimpArgs false
set_option linter.unusedVariables false
open Go.RowKit
attribute [local go_sem ↓] Go.wp_at_zero Go.wp_at_succ
def rgV (h t : Int) (c : Bool) (x : Int) (A : Option Addr) (n cap : Nat) : Value := .agg #[h, t, c, x, .slice A n cap]
def RetRg (h t : Int) (c : Bool) (x : Int) (n : Nat) (l : List Pl) (w : World) (e : Ending) (w' : World) : Prop :=
 ∃ g cap, e = .returned (rgV h t c x (some ⟨g, 0, none⟩) n cap) ∧ PlsO w.heap.size w' g n cap l ∧ Below w.heap.size w w'
def RetRgB (h t : Int) (c : Bool) (x : Int) (n : Nat) (l : List Pl) (b : Bool) (w : World) (e : Ending) (w' : World) : Prop :=
 ∃ g cap, e = .returned (.tuple #[rgV h t c x (some ⟨g, 0, none⟩) n cap, .bool b]) ∧ PlsO w.heap.size w' g n cap l ∧ Below w.heap.size w w'
set_option maxHeartbeats 400000 in
theorem szRing_any (h t : Int) (c : Bool) (x : Int) (A : Option Addr) (n cap : Nat) (left : Int) (w : World) (hn : n ≤ maxLen) (h0 : 0 ≤ left) (h1 : left ≤ 1048576) :
  Calls Tryz.prog 46 #[rgV h t c x A n cap, .int .i64 left] w (RetBelow (.int .i64 (szI left n)) w) := by
 unfold rgV
 go_enter Tryz.func46, Tryz.ntmps46
 go_wp2_with fail
 refine (szPlaceS_any _ _ _ _ _ hn h0 h1).mono ?_
 rintro e w1 ⟨rfl, hb1⟩
 have hB : Below w.heap.size w w1 := bstep ((Below.refl _ _).alloc (Nat.le_refl _) _) (by simp) hb1
 have hs : szI left n = -1 ∨ 0 ≤ szI left n := by unfold szI; split <;> omega
 generalize szI left n = z at *
 rcases hs with rfl | hs
 all_goals
  go_wp2
  go_ret
  exact .mk rfl hB
set_option maxHeartbeats 400000 in
theorem toRing_any (h t : Int) (c : Bool) (x : Int) (A : Option Addr) (n cap : Nat) (l : List Pl) (w : World) (hl : PlsR 0 w A n l) (hn : n ≤ 1048576) :
  Calls Tryz.prog 52 #[rgV h t c x A n cap] w (RetRg h t c x n l w) := by
 unfold rgV
 go_enter Tryz.func52, Tryz.ntmps52
 go_wp2_with fail
 refine calls_abs (fun W => Below w.heap.size w W ∧ BoxAt W (w.heap.size + 1) #[.int .i64 0, .int .i64 0, .bool false, .int .i64 0, .slice none 0 0] 79 ∧ BoxAt W (w.heap.size + 1 + 1) #[h, t, c, x, .slice none 0 0] 79) ?_ ?_
 · exact ⟨(((Below.refl _ _).alloc (Nat.le_refl _) _).alloc (by simp) _).alloc (by simp; omega) _, (BoxAt.new' (by simp)).alloc _, BoxAt.new' (by simp)⟩
 rintro W ⟨hB, hx, hy⟩
 refine (toPlaceS_any _ _ _ l _ (hl.below hB) hn).mono ?_
 rintro e w1 ⟨g, rfl, hO, hb1⟩
 have hx1 := hx.below hb1 hx.lt
 have hy1 := hy.below hb1 hy.lt
 have kx := hx1.cell
 have fx := hx1.frozen
 have ky := hy1.cell
 have fy := hy1.frozen
 have hg := hO.ge
 have lx := hx.lt
 have ly := hy.lt
 go_wp2
 refine bodyPost_ret (v := rgV h t c x (some ⟨g, 0, none⟩) n n) (by simp [results, Tryz.results52, go_sem, kx, ky, rgV]) rfl ⟨g, n, rfl, ?_, ?_⟩
 · exact (((((((hO.mono hB.size).sn).sn).sn).sn).sn).sn)
 · exact (sc (sc (sc (sc (sc (sc (bstep hB hB.size hb1)))))))
set_option maxRecDepth 100000 in
set_option maxHeartbeats 400000 in
theorem eqRing_same (h t : Int) (c : Bool) (x : Int) (A B : Option Addr) (n ca cb : Nat) (l : List Pl) (w : World) (ha : PlsR 0 w A n l) (hb : PlsR 0 w B n l) (hn : n ≤ 1048576) :
  Calls Tryz.prog 56 #[rgV h t c x A n ca, rgV h t c x B n cb] w (RetBelow (.bool true) w) := by
 unfold rgV
 go_enter Tryz.func56, Tryz.ntmps56
 go_wp2_with fail
 refine calls_abs (fun W => Below w.heap.size w W) (((Below.refl _ _).alloc (Nat.le_refl _) _).alloc (by simp) _) ?_
 rintro W hB
 refine (eqPlaceS_same _ _ _ _ _ l _ (ha.below hB) (hb.below hB) hn).mono ?_
 rintro e w1 ⟨rfl, hb1⟩
 go_wp2
 go_ret
 exact .mk rfl (bstep hB hB.size hb1)
def fresh (n : Nat) : List Pl := (List.range n).map fun (i : Nat) => ⟨true, (i : Int), false, 0⟩
theorem fresh_len (n : Nat) : (fresh n).length = n := by simp [fresh]
theorem fresh_at {n i : Nat} (h : i < n) : (fresh n)[i]? = some ⟨true, (i : Int), false, 0⟩ := by simp [fresh, h]
set_option maxHeartbeats 400000 in
theorem emptyPlace_any (i : Int) (w : World) : Calls Tryz.prog 182 #[i] w (RetBelow (.agg #[.bool true, i, .bool false, .int .i64 0]) w) := by
 go_enter Tryz.func182, Tryz.ntmps182
 go_wp2
 refine bodyPost_ret (v := .agg #[.bool true, i, .bool false, .int .i64 0]) (by simp [results, Tryz.results182, go_sem]) rfl ⟨rfl, ?_⟩
 exact (Below.refl _ _).alloc (Nat.le_refl _) _
set_option maxHeartbeats 400000 in
theorem newCarousel_any (n : Nat) (w : World) (hn : n ≤ 1048576) :
  Calls Tryz.prog 181 #[n, .func (.func 182) #[] #[]] w (ToPls n (fresh n) w) := by
 obtain ⟨i0, hi0, hz0, hz1, hz2⟩ := info_parts place_info
 have hmk : ∀ W : World, (Instr.makeSlice 140 (.int .i64 (n : Int)) (.int .i64 (n : Int))).run Tryz.prog W = .ok (.slice (some ⟨W.heap.size, 0, none⟩) n n) (W.alloc (.cells (madeCells #[.bool false, .int .i64 0, .bool false, .int .i64 0] (n * 4)) 33)) := by
  intro W
  have := run_make (P := Tryz.prog) W 140 33 i0 _ Tryz.underlying140 hi0 hz0 .i64 .i64 n n (by omega) (by omega) (by rw [hz2]; omega) (by omega)
  rw [hz1] at this
  simpa [Value.cells] using this
 go_enter Tryz.func181, Tryz.ntmps181
 go_wp2
 clear hmk hi0 hz0 hz1 hz2
 go_loopw [11] (fun s W => ∃ i : Nat, i ≤ n ∧ s = .int .i64 i ∧ Below w.heap.size w W ∧ PlsO w.heap.size W w.heap.size n n (upto ⟨false, 0, false, 0⟩ (fresh n) i)) (fun s _ => n - (intOf s).toNat)
 case atStart =>
  refine ⟨0, Nat.zero_le _, rfl, (Below.refl _ _).alloc (Nat.le_refl _) _, ?_⟩
  rw [upto_zero, fresh_len]
  exact Own.made Pl.cs_len (by omega) (⟨false, 0, false, 0⟩ : Pl) _ rfl (Nat.le_refl _) _ (by unfold maxLen; omega)
 case round =>
  obtain ⟨i, hi, rfl, hB, hO⟩ := hrel
  by_cases hlt : i < n
  ·
   have h1 : (i : Int) < (n : Int) := by omega
   have h2 : (0 : Int) ≤ (i : Int) := by omega
   go_wp2_with fail
   refine (emptyPlace_any _ _).mono ?_
   rintro e w1 ⟨rfl, hb1⟩
   have hO1 := Own.below hO hb1
   have hat := upto_at (⟨false, 0, false, 0⟩ : Pl) (fresh n) (i := i) (by rw [fresh_len]; exact hlt)
   have d0 := Own.cell_ Pl.cs_len hO1 (j := 0) hat rfl
   have d1 := Own.cell_ Pl.cs_len hO1 (j := 1) hat rfl
   have d2 := Own.cell_ Pl.cs_len hO1 (j := 2) hat rfl
   have d3 := Own.cell_ Pl.cs_len hO1 (j := 3) hat rfl
   rw [Nat.add_zero] at d0
   clear hat
   have df := Own.frozen_ hO1
   go_wp2
   go_roundw
   case rel =>
    refine ⟨i + 1, by omega, by go_num, ?_, ?_⟩
    · exact Below.setCells (Nat.le_refl _) [.bool true, i, .bool false, .int .i64 0] (i * 4) (bstep hB hB.size hb1)
    ·
     have := Own.setEl hO1 Pl.cs_len (by omega) hlt (⟨true, (i : Int), false, 0⟩ : Pl)
     rw [upto_set _ _ (fresh_at hlt)] at this
     exact this
   case measure => simp [intOf]; omega
  ·
   have h1 : ¬ (i : Int) < (n : Int) := by omega
   go_wp2
   go_ret
   rw [upto_all (⟨false, 0, false, 0⟩ : Pl) (fresh n) (i := i) (by rw [fresh_len]; omega)] at hO
   exact ⟨w.heap.size, rfl, hO, hB⟩
def NoRg (w : World) (e : Ending) (w' : World) : Prop := e = .returned (.tuple #[rgV 0 0 false 0 none 0 0, .bool false]) ∧ Below w.heap.size w w'
set_option maxHeartbeats 400000 in
theorem inewRing_yes (n : Nat) (w : World) (h : roundB n = true) (hn : n ≤ 8) : Calls Tryz.prog 174 #[n] w (RetRgB 0 0 false (-1) n (fresh n) true w) := by
 go_enter Tryz.func174, Tryz.ntmps174
 go_wp2_with fail
 refine (isRound_any _ _).mono ?_
 rintro e w' ⟨rfl, rfl⟩
 go_wp2_with fail
 refine calls_abs (fun W => Below w.heap.size w W ∧ BoxAt W w.heap.size #[.int .i64 0, .int .i64 0, .bool false, .int .i64 0, .slice none 0 0] 79) ⟨(Below.refl _ _).alloc (Nat.le_refl _) _, BoxAt.new _ _ _⟩ ?_
 rintro W ⟨hB, hx⟩
 refine (newCarousel_any n _ (by omega)).mono ?_
 rintro e w1 ⟨g, rfl, hO, hb1⟩
 have hx1 := hx.below hb1 hx.lt
 have kx := hx1.cell
 have fx := hx1.frozen
 have hg := hO.ge
 have lx := hx.lt
 go_wp2
 refine bodyPost_ret (v := .tuple #[rgV 0 0 false (-1) (some ⟨g, 0, none⟩) n n, .bool true]) (by simp [results, Tryz.results174, go_sem, kx, rgV]) rfl ⟨g, _, rfl, ?_, ?_⟩
 · exact ((((((hO.mono hB.size).sn).sn).sn).sn).sn)
 · exact (sc (sc (sc (sc (sc (bstep hB hB.size hb1))))))
end Go.Proofs.YthpckpnlohfcbaaGreatDoor
namespace Go.Proofs.YthpckpnlohfcbaaGreatDoor
set_option linter.unusedSimpArgs false
set_option linter.unusedVariables false
open Go.RowKit
attribute [local go_sem ↓] Go.wp_at_zero Go.wp_at_succ
def okB (b : Int) (c : Bool) (d : Int) : Bool := decide (0 ≤ b) && decide (b ≤ 1000000) && (bif c then decide (1 ≤ d) && decide (d ≤ 1000000) else (d == 0))
theorem okB_no {b d : Int} {c : Bool} (h : okB b c d = true) : 0 ≤ b ∧ b ≤ 1000000 := by
 simp [okB] at h; omega
set_option maxHeartbeats 400000 in
theorem iplaceOk_any (a c : Bool) (b d : Int) (w : World) :
  Calls Tryz.prog 102 #[.agg #[a, b, c, d]] w (RetBelow (.bool (okB b c d)) w) := by
 cases c
 all_goals
  go_enter Tryz.func102, Tryz.ntmps102
  go_wp2
  all_goals
   go_ret
   exact .mk (by simp [okB, *] <;> omega) ((Below.refl _ _).alloc (Nat.le_refl _) _)
set_option maxHeartbeats 400000 in
theorem splaceOk_any (a c : Bool) (b d : Int) (w : World) :
  Calls Tryz.prog 69 #[.agg #[a, b, c, d]] w (RetBelow (.bool (okB b c d)) w) := by
 cases c
 all_goals
  go_enter Tryz.func69, Tryz.ntmps69
  go_wp2
  all_goals
   go_ret
   exact .mk (by simp [okB, *] <;> omega) ((Below.refl _ _).alloc (Nat.le_refl _) _)
def okAt (l : List Pl) (i : Nat) : Bool := match l[i]? with
 | some p => okB p.n p.f p.v && (p.n % (l.length : Int) == (i : Int))
 | none => true
theorem okAt_some {l : List Pl} {i : Nat} {p : Pl} (h : l[i]? = some p) : okAt l i = (okB p.n p.f p.v && (p.n % (l.length : Int) == (i : Int))) := by simp [okAt, h]
def allB (l : List Pl) : Bool := (List.range l.length).all (okAt l)
theorem allB_false {l : List Pl} {i : Nat} (hi : i < l.length) (h : okAt l i = false) : allB l = false := by
 unfold allB
 rw [List.all_eq_false]
 exact ⟨i, List.mem_range.2 hi, by simp [h]⟩
theorem all_succ {l : List Pl} {i : Nat} (h : (List.range i).all (okAt l) = true) (h' : okAt l i = true) : (List.range (i + 1)).all (okAt l) = true := by
 rw [List.range_succ, List.all_append, h]; simp [h']
def nextB (c : Bool) (x : Int) : Bool := (x == -1) || (c && idxB x)
def rgOk (h t : Int) (c : Bool) (x : Int) (l : List Pl) : Bool := noB h && noB t && nextB c x && roundB l.length && allB l
set_option maxHeartbeats 1000000 in
theorem sringOk_any (h t : Int) (c : Bool) (x : Int) (A : Option Addr) (n cap : Nat) (l : List Pl) (w : World) (hl : PlsR 0 w A n l) (hn : n ≤ 1048576) :
  Calls Tryz.prog 63 #[rgV h t c x A n cap] w (RetBelow (.bool (rgOk h t c x l)) w) := by
 have hln := hl.1
 obtain rfl : l.length = n := hln
 have hB0 : ∀ o, Below w.heap.size w (w.alloc o) := fun o => (Below.refl _ _).alloc (Nat.le_refl _) _
 have HB0 := Lib.hid hB0; clear hB0
 unfold rgV
 go_enter Tryz.func63, Tryz.ntmps63
 go_wp2_with fail
 refine (l1In_any _ _ _ _).mono ?_
 rintro e w' ⟨rfl, rfl⟩
 cases h1 : inB l.length 2 8
 ·
  go_wp2
  go_ret
  exact .mk (by simp [rgOk, show roundB l.length = false from h1]) (HB0.out _)
 go_wp2_with fail
 refine (l1No_any _ _).mono ?_
 rintro e w' ⟨rfl, rfl⟩
 cases h2 : noB h
 ·
  go_wp2
  go_ret
  exact .mk (by simp [rgOk, h2]) (HB0.out _)
 go_wp2_with fail
 refine (l1No_any _ _).mono ?_
 rintro e w' ⟨rfl, rfl⟩
 cases h3 : noB t
 ·
  go_wp2
  go_ret
  exact .mk (by simp [rgOk, h3]) (HB0.out _)
 go_wp2_with fail
 refine (l1In_any _ _ _ _).mono ?_
 rintro e w' ⟨rfl, rfl⟩
 cases h4 : inB x (-1) 15
 ·
  have hx : nextB c x = false := by simp [inB] at h4; simp [nextB, idxB]; omega
  go_wp2
  go_ret
  exact .mk (by simp [rgOk, hx]) (HB0.out _)
 have hx : 0 ≤ x ∧ c = false ∧ nextB c x = false ∨ 0 ≤ x ∧ c = true ∧ nextB c x = true ∨ ¬ 0 ≤ x ∧ nextB c x = true := by
  simp [inB] at h4; simp [nextB, idxB]
  cases c <;> simp <;> omega
 rcases hx with ⟨hx0, rfl, hx⟩ | hx
 ·
  go_wp2
  go_ret
  exact .mk (by simp [rgOk, hx]) (HB0.out _)
 have hnx : nextB c x = true := by rcases hx with ⟨_, _, h⟩ | ⟨_, h⟩ <;> exact h
 have HR := Lib.hid (show rgOk h t c x l = allB l by simp [rgOk, h2, h3, hnx, show roundB l.length = true from h1])
 have hpos : 2 ≤ l.length ∧ l.length ≤ 8 := by simp [inB] at h1; omega
 replace hx : 0 ≤ x ∧ c = true ∨ ¬ 0 ≤ x := by rcases hx with ⟨a, b, _⟩ | ⟨a, _⟩ <;> simp [*]
 clear hnx h1 h2 h3 h4
 rcases hx with ⟨hx0, rfl⟩ | hx0
 all_goals
  go_wp2
  go_loopw [4] (fun s W => ∃ i : Nat, i ≤ l.length ∧ s = .int .i64 i ∧ Below w.heap.size w W ∧ BoxAt W w.heap.size #[h, t, _, x, .slice A l.length cap] 79 ∧ (List.range i).all (okAt l) = true) (fun s _ => l.length - (intOf s).toNat)
  case atStart => exact ⟨0, Nat.zero_le _, rfl, HB0.out _, BoxAt.new _ _ _, rfl⟩
  case round =>
   obtain ⟨i, hi, rfl, hB, hr, hall⟩ := hrel
   have HA := Lib.hid hall; clear hall
   have kr := hr.cell
   have lr := hr.lt
   by_cases hlt : i < l.length
   ·
    obtain ⟨b, o, p, rfl, _, hp, hc⟩ := SlE.at_ (SlE.keep PlE.kept hl (fun j _ hj => hB.block j hj)) hlt
    have hpc := Lib.hid hc
    obtain ⟨c0, c1, c2, c3⟩ := hc
    have hok := okAt_some hp
    have HP := Lib.hid hok
    clear hp hok
    have g1 : (i : Int) < (l.length : Int) := by omega
    have g2 : (0 : Int) ≤ (i : Int) := by omega
    go_wp2_with fail
    refine (splaceOk_any _ _ _ _ _).mono ?_
    rintro e w1 ⟨rfl, hb1⟩
    cases hk : okB p.n p.f p.v
    ·
     go_wp2
     go_ret
     exact .mk (by rw [HR.out, allB_false hlt (by rw [HP.out, hk]; rfl)]; rfl) (bstep hB hB.size hb1)
    ·
     have hno := okB_no hk
     obtain ⟨n0, n1⟩ := hno
     have hr1 := hr.below hb1 lr
     have hpc1 := PlE.kept _ _ _ _ _ _ (Nat.zero_le _) (.of_below hb1) hpc.out
     have d1 := hpc1.2.1
     have kr1 := hr1.cell
     clear c0 c1 c2 c3 kr hpc1
     have HK := Lib.hid hk; clear hk
     by_cases he : p.n % (l.length : Int) = (i : Int)
     ·
      go_wp2
      go_roundw
      case rel => exact ⟨i + 1, by omega, by go_num, bstep hB hB.size hb1, hr1, all_succ HA.out (by rw [HP.out, HK.out]; simp [he])⟩
      case measure => simp [intOf]; omega
     ·
      go_wp2
      go_ret
      exact .mk (by rw [HR.out, allB_false hlt (by rw [HP.out, HK.out]; simp [he])]; rfl) (bstep hB hB.size hb1)
   ·
    have g1 : ¬ (i : Int) < (l.length : Int) := by omega
    obtain rfl : i = l.length := by omega
    go_wp2
    go_ret
    exact .mk (by rw [HR.out, show allB l = true from HA.out]; rfl) hB
end Go.Proofs.YthpckpnlohfcbaaGreatDoor

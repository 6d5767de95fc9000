/-
 The walks of NewRing of the model, and of Seeded, of both sides.
-/
import Derived.Test.YthpckpnlohfcbaaGreatDoorRingD
namespace Go.Proofs.YthpckpnlohfcbaaGreatDoor
set_option linter.unusedSimpArgs false
set_option linter.unusedVariables false
open Go.RowKit
attribute [local go_sem ↓] Go.wp_at_zero Go.wp_at_succ
theorem fresh_succ (i : Nat) : fresh (i + 1) = fresh i ++ [⟨true, (i : Int), false, 0⟩] := by simp [fresh, List.range_succ]
set_option maxHeartbeats 1000000 in
theorem l2New_any (n : Nat) (w : World) (h2 : 1 ≤ n) (h8 : n ≤ 8) : Calls Tryz.prog 111 #[n] w (RetRg 0 0 false (-1) n (fresh n) w) := by
 obtain ⟨i0, hi0, hz0, hz1, hz2⟩ := info_parts place_info
 have HI := Lib.hid hi0
 have HZ0 := Lib.hid hz0
 have HZ1 := Lib.hid hz1
 have HZ2 := Lib.hid hz2
 clear hi0 hz0 hz1 hz2
 generalize hN : w.heap.size = N
 have hN1 : N ≤ w.heap.size := by omega
 have hN2 : w.heap.size ≤ N := by omega
 go_enter Tryz.func111, Tryz.ntmps111
 go_wp2
 clear hN
 go_loopw [4] (fun s W => ∃ (i : Nat) (v : Value), i ≤ n ∧ s = .int .i64 i ∧ Below N w W ∧ BoxAt W N #[.int .i64 0, .int .i64 0, .bool false, .int .i64 0, .slice none 0 0] 79 ∧ BoxAt W (N + 1) #[.int .i64 0, .int .i64 0, .bool false, .int .i64 (-1), v] 79 ∧ W.ownsRow (N + 2) 33 4 v i ((fresh i).flatMap Pl.cs)) (fun s _ => n - (intOf s).toNat)
 case atStart =>
  refine ⟨0, _, Nat.zero_le _, rfl, ((Below.refl _ _).alloc (by omega) _).alloc (by simp; omega) _, (BoxAt.new' (by omega)).alloc _, BoxAt.new' (by simp; omega), ?_⟩
  exact World.ownsRow_nil _ _ _ _
 case round =>
  obtain ⟨i, v, hi, rfl, hB, hx, hy, hO⟩ := hrel
  have lx := hx.lt
  have ly := hy.lt
  by_cases hlt : i < n
  ·
   have h1 : (i : Int) < (n : Int) := by omega
   have h3 : (0 : Int) ≤ (i : Int) := by omega
   have kx := hx.cell
   have fx := hx.frozen
   have ky := hy.cell
   have fy := hy.frozen
   go_wp2_with (at_builtin; refine wpList_append_own_at _ rfl (.tmp 12) (.tmp 15) _ rfl (N + 2) 33 i0 _ 4 32 Tryz.underlying77 HI.out HZ0.out HZ1.out HZ2.out rfl (by omega) v i _ rfl (hO.alloc _) ⟨wr.heap.size, 0, none⟩ 1 1 [.bool true, i, .bool false, .int .i64 0] rfl rfl (news_alloc _ _ _) (by intro u hu; simp at hu; rcases hu with rfl | rfl | rfl | rfl <;> rfl) (by unfold maxLen; omega) (by omega) (by simp; omega) ?_; intro v' w' hO' hg' hz' hat'; clear kx fx ky fy hz' hat'; obtain ⟨g', cap', rfl, hP'⟩ := Own.of_row (f := Pl.cs) (l := fresh (i + 1)) (by rw [fresh_succ, List.flatMap_append]; exact hO') (fresh_len _) (by omega); have hB' := Below.grown (hB.alloc (by omega) _) hg' (by simp; omega) (fun k hk => Nat.le_of_lt (own_ge hO (by omega) k hk)); have hx' := BoxAt.grown (hx.alloc _) hg' (own_ge hO (by omega)); have hy' := BoxAt.grown (hy.alloc _) hg' (own_ge hO (by omega)); have kx := hx'.cell; have fx := hx'.frozen; have ky := hy'.cell; have fy := hy'.frozen)
   go_roundw
   case rel =>
    refine ⟨i + 1, .slice (some ⟨g', 0, none⟩) (i + 1) cap', by omega, by go_num, ?_, ?_, ?_, ?_⟩
    · exact sc hB'
    · exact hx'.sn
    · simpa using hy'.set 4 (.slice (some ⟨g', 0, none⟩) (i + 1) cap')
    ·
     rw [fresh_succ, List.flatMap_append]
     exact ownsRow_setCell_below hO' (by dsimp only; omega) _
   case measure => simp [intOf]; omega
  ·
   have h1 : ¬ (i : Int) < (n : Int) := by omega
   obtain rfl : i = n := by omega
   obtain ⟨g, cap, rfl, hP⟩ := Own.of_row hO (fresh_len i) (by omega)
   have hg := hP.2.1
   have kx := hx.cell
   have fx := hx.frozen
   have ky := hy.cell
   have fy := hy.frozen
   go_wp2
   refine bodyPost_ret (v := rgV 0 0 false (-1) (some ⟨g, 0, none⟩) i cap) (by simp [results, Tryz.results111, go_sem, kx, ky, rgV]) rfl ⟨g, cap, rfl, ?_, ?_⟩
   · exact ((((((PlsO.mono hP (by omega)).sn).sn).sn).sn).sn)
   · exact (sc (sc (sc (sc (sc (hB.mono (by omega)))))))
def seeded (n : Nat) (v : Int) : List Pl := (fresh n).set 0 ⟨true, 0, true, v⟩
set_option maxHeartbeats 400000 in
theorem l2Seed_any (n : Nat) (v : Int) (w : World) (h1 : 1 ≤ n) (hn : n ≤ 8) : Calls Tryz.prog 95 #[n, v] w (RetRg 0 1 false (-1) n (seeded n v) w) := by
 have h2 : (0 : Int) < (n : Int) := by omega
 go_enter Tryz.func95, Tryz.ntmps95
 go_wp2_with fail
 refine calls_abs (fun W => Below w.heap.size w W ∧ BoxAt W w.heap.size #[.int .i64 0, .int .i64 0, .bool false, .int .i64 0, .slice none 0 0] 79) ⟨(Below.refl _ _).alloc (Nat.le_refl _) _, BoxAt.new _ _ _⟩ ?_
 rintro W ⟨hB, hx⟩
 refine (l2New_any n _ h1 hn).mono ?_
 rintro e w1 ⟨g, cap, rfl, hO, hb1⟩
 have hx1 := hx.below hb1 hx.lt
 have hg := hO.ge
 have lx := hx.lt
 have lg := Own.lt hO
 unfold rgV
 go_upto_region 3 with fail
 refine wp_abs (fun W2 => Below w.heap.size w W2 ∧ BoxAt W2 w.heap.size #[.int .i64 0, .int .i64 0, .bool false, .int .i64 0, .slice none 0 0] 79 ∧ BoxAt W2 w1.heap.size #[.int .i64 0, .int .i64 1, .bool false, .int .i64 (-1), .slice (some ⟨g, 0, none⟩) n cap] 79 ∧ PlsO w.heap.size W2 g n cap (fresh n)) ⟨(bstep hB hB.size hb1).alloc (by omega) _, hx1.alloc _, BoxAt.new _ _ _, (hO.mono hB.size).al _⟩ ?_
 generalize w1.heap.size = R at *
 clear hx1 hO hB hb1
 rintro W2 ⟨hB, hx1, hr, hO⟩
 have hat : (fresh n)[0]? = some ⟨true, 0, false, 0⟩ := fresh_at (by omega)
 have d0 := Own.cell_ Pl.cs_len hO (i := 0) (j := 0) hat rfl
 have d1 := Own.cell_ Pl.cs_len hO (i := 0) (j := 1) hat rfl
 have d2 := Own.cell_ Pl.cs_len hO (i := 0) (j := 2) hat rfl
 have d3 := Own.cell_ Pl.cs_len hO (i := 0) (j := 3) hat rfl
 simp only [Nat.zero_mul, Nat.zero_add] at d0 d1 d2 d3
 clear hat
 have df := Own.frozen_ hO
 have kr := hr.cell
 have fr := hr.frozen
 go_upto_region 4 with fail
 refine wp_abs (fun W3 => Below w.heap.size w W3 ∧ BoxAt W3 w.heap.size #[.int .i64 0, .int .i64 0, .bool false, .int .i64 0, .slice none 0 0] 79 ∧ BoxAt W3 R #[.int .i64 0, .int .i64 1, .bool false, .int .i64 (-1), .slice (some ⟨g, 0, none⟩) n cap] 79 ∧ PlsO w.heap.size W3 g n cap (seeded n v)) ⟨(sc (sc (sc (sc hB)))), ((((hx1.sn).sn).sn).sn), ((((hr.sn).sn).sn).sn), ?_⟩ ?_
 ·
  have := Own.setEl hO Pl.cs_len (by omega) (i := 0) (by omega) (⟨true, 0, true, v⟩ : Pl)
  simp only [Nat.zero_mul] at this
  exact this
 clear hx1 hO hB hr d0 d1 d2 d3 df kr fr
 rintro W3 ⟨hB, hx1, hr, hO⟩
 have kr := hr.cell
 have kx := hx1.cell
 have fx := hx1.frozen
 go_wp2
 refine bodyPost_ret (v := rgV 0 1 false (-1) (some ⟨g, 0, none⟩) n cap) (by simp [results, Tryz.results95, go_sem, kx, rgV]) rfl ⟨g, _, rfl, ?_, ?_⟩
 · exact (((((hO.sn).sn).sn).sn).sn)
 · exact (sc (sc (sc (sc (sc hB)))))
end Go.Proofs.YthpckpnlohfcbaaGreatDoor

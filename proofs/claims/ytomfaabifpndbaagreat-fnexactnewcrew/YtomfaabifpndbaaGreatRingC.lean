/-
  The walks of NewRing of the model, and of Seeded, of both sides.
-/
import Derived.Test.YtomfaabifpndbaaGreatRingB
namespace Go.Proofs.YtomfaabifpndbaaGreat
set_option linter.unusedSimpArgs false
set_option linter.unusedVariables false
open Go.RowKit
attribute [local go_sem ↓] Go.wp_at_zero Go.wp_at_succ

theorem fresh_succ (i : Nat) : fresh (i + 1) = fresh i ++ [⟨true, (i : Int), false, 0⟩] := by simp [fresh, List.range_succ]

set_option maxHeartbeats 1000000 in
theorem l2New_any (n : Nat) (w : World) (h2 : 1 ≤ n) (h8 : n ≤ 8) : Calls Tryz.prog 50 #[.int .i64 n] w (RetRg 0 0 false (-1) n (fresh n) w) := by
  obtain ⟨i0, hi0, hz0, hz1, hz2⟩ := info_parts place_info
  have HI := Lib.hid hi0
  have HZ0 := Lib.hid hz0
  have HZ1 := Lib.hid hz1
  have HZ2 := Lib.hid hz2
  clear hi0 hz0 hz1 hz2
  generalize hN : w.heap.size = N
  have hN1 : N ≤ w.heap.size := by omega
  have hN2 : w.heap.size ≤ N := by omega
  go_enter Tryz.func50, Tryz.ntmps50
  go_wp2
  clear hN
  go_loopw [4] (fun s W => ∃ (i : Nat) (v : Value), i ≤ n ∧ s = .int .i64 i ∧ Below N w W ∧ BoxAt W N #[.int .i64 0, .int .i64 0, .bool false, .int .i64 0, .slice none 0 0] 81 ∧ BoxAt W (N + 1) #[.int .i64 0, .int .i64 0, .bool false, .int .i64 (-1), v] 81 ∧ W.ownsRow (N + 2) 56 4 v i ((fresh i).flatMap Pl.cs)) (fun s _ => n - (intOf s).toNat)
  case atStart =>
    refine ⟨0, _, Nat.zero_le _, rfl, ((Below.refl _ _).alloc (by omega) _).alloc (by simp; omega) _, (BoxAt.new' (by omega)).alloc _, BoxAt.new' (by simp; omega), ?_⟩
    exact World.ownsRow_nil _ _ _ _
  case round =>
    obtain ⟨i, v, hi, rfl, hB, hx, hy, hO⟩ := hrel
    have lx := hx.lt
    have ly := hy.lt
    by_cases hlt : i < n
    · have h1 : (i : Int) < (n : Int) := by omega
      have h3 : (0 : Int) ≤ (i : Int) := by omega
      have kx := hx.cell
      have fx := hx.frozen
      have ky := hy.cell
      have fy := hy.frozen
      go_wp2_with (at_builtin; refine wpList_append_own_at _ rfl (.tmp 12) (.tmp 15) _ rfl (N + 2) 56 i0 _ 4 32 Tryz.underlying79 HI.out HZ0.out HZ1.out HZ2.out rfl (by omega) v i _ rfl (hO.alloc _) ⟨wr.heap.size, 0, none⟩ 1 1 [.bool true, .int .i64 i, .bool false, .int .i64 0] rfl rfl (news_alloc _ _ _) (by intro u hu; simp at hu; rcases hu with rfl | rfl | rfl | rfl <;> rfl) (by unfold maxLen; omega) (by omega) (by simp; omega) ?_; intro v' w' hO' hg' hz' hat'; clear kx fx ky fy hz' hat'; obtain ⟨g', cap', rfl, hP'⟩ := Own.of_row (f := Pl.cs) (l := fresh (i + 1)) (by rw [fresh_succ, List.flatMap_append]; exact hO') (fresh_len _) (by omega); have hB' := Below.grown (hB.alloc (by omega) _) hg' (by simp; omega) (fun k hk => Nat.le_of_lt (own_ge hO (by omega) k hk)); have hx' := BoxAt.grown (hx.alloc _) hg' (own_ge hO (by omega)); have hy' := BoxAt.grown (hy.alloc _) hg' (own_ge hO (by omega)); have kx := hx'.cell; have fx := hx'.frozen; have ky := hy'.cell; have fy := hy'.frozen)
      go_roundw
      case rel =>
        refine ⟨i + 1, .slice (some ⟨g', 0, none⟩) (i + 1) cap', by omega, by go_num, ?_, ?_, ?_, ?_⟩
        · exact hB'.setCell (by dsimp only; omega) _
        · exact hx'.set_ne (by omega) _ _
        · simpa using hy'.set 4 (.slice (some ⟨g', 0, none⟩) (i + 1) cap')
        · rw [fresh_succ, List.flatMap_append]
          exact ownsRow_setCell_below hO' (by dsimp only; omega) _
      case measure => simp [intOf]; omega
    · have h1 : ¬ (i : Int) < (n : Int) := by omega
      obtain rfl : i = n := by omega
      obtain ⟨g, cap, rfl, hP⟩ := Own.of_row hO (fresh_len i) (by omega)
      have hg := hP.2.1
      have kx := hx.cell
      have fx := hx.frozen
      have ky := hy.cell
      have fy := hy.frozen
      go_wp2
      refine bodyPost_ret (v := rgV 0 0 false (-1) (some ⟨g, 0, none⟩) i cap) (by simp [results, Tryz.results50, go_sem, kx, ky, rgV]) rfl ⟨g, cap, rfl, ?_, ?_⟩
      · exact ((((((PlsO.mono hP (by omega)).set_ne (by omega) _ _).set_ne (by omega) _ _).set_ne (by omega) _ _).set_ne (by omega) _ _).set_ne (by omega) _ _)
      · exact ((((((hB.mono (by omega)).setCell (by dsimp only; omega) _).setCell (by dsimp only; omega) _).setCell (by dsimp only; omega) _).setCell (by dsimp only; omega) _).setCell (by dsimp only; omega) _)

/-- n places with a value on the first one. -/
def seeded (n : Nat) (v : Int) : List Pl := (fresh n).set 0 ⟨true, 0, true, v⟩

end Go.Proofs.YtomfaabifpndbaaGreat

/-
  The walk of NewStore of the model.
-/
import Derived.Test.YtomfaabifpndbaaGreatPrimL
namespace Go.Proofs.YtomfaabifpndbaaGreat
set_option linter.unusedSimpArgs false
set_option linter.unusedVariables false
open Go.RowKit
set_option linter.unusedVariables false
attribute [local go_sem ↓] Go.wp_at_zero Go.wp_at_succ

def newStore (rd mo : Int) : St × Bool := if roundB rd && inB mo 1 16 then (⟨rd, mo, [Rg.fresh rd.toNat], 0, 0⟩, true) else (.zero, false)

/-- One ring in a new block. -/
theorem rgs_one {lo k : Nat} {V : World} {g q cap : Nat} {r : Rg} (hp : PlsO lo V g q cap r.ps) (hlo : lo ≤ V.heap.size) (hk : k = V.heap.size) :
    RgsW lo (V.alloc (.cells #[.int .i64 r.h, .int .i64 r.t, .bool r.c, .int .i64 r.x, .slice (some ⟨g, 0, none⟩) q cap] 81)).heap.size (V.alloc (.cells #[.int .i64 r.h, .int .i64 r.t, .bool r.c, .int .i64 r.x, .slice (some ⟨g, 0, none⟩) q cap] 81)) (some ⟨k, 0, none⟩) 1 1 [r] := by
  subst hk
  refine ⟨rfl, fun _ => ⟨V.heap.size, [⟨r.h, r.t, r.c, r.x, some ⟨g, 0, none⟩, q, cap⟩], rfl, by simp, ?_, fun i a ha => ?_⟩⟩
  · exact ⟨rfl, hlo, Nat.le_refl _, by unfold maxLen; omega, _, BoxAt.new _ _ _, rfl, rfl⟩
  · have hi : i = 0 := by
      have := (List.getElem?_eq_some_iff.1 ha).1
      simp at this; exact this
    subst hi
    simp at ha
    subst ha
    exact ⟨r, rfl, rfl, rfl, rfl, rfl, hp.1, fun _ => ⟨g, rfl, by have := Own.lt hp; simp; omega, hp.al _⟩⟩

set_option maxRecDepth 100000 in
set_option maxHeartbeats 1000000 in
theorem snewStore_any (rd mo : Int) (w : World) : Calls Tryz.prog 22 #[.int .i64 rd, .int .i64 mo] w (RetSB w.heap.size (newStore rd mo) w) := by
  go_enter Tryz.func22, Tryz.ntmps22
  go_wp2_with fail
  refine calls_abs (fun W => Below w.heap.size w W ∧ BoxAt W w.heap.size #[.int .i64 0, .int .i64 0, .slice none 0 0, .int .i64 0, .int .i64 0] 26) ⟨(Below.refl _ _).alloc (Nat.le_refl _) _, BoxAt.new _ _ _⟩ ?_
  rintro W ⟨hB, hz⟩
  refine (l1In_any _ _ _ _).mono ?_
  rintro e w' ⟨rfl, rfl⟩
  have kz := hz.cell
  have fz := hz.frozen
  have lz := hz.lt
  cases h1 : inB rd 2 8
  · have HV := Lib.hid (show newStore rd mo = (.zero, false) by simp [newStore, show roundB rd = false from h1])
    go_wp2
    refine bodyPost_ret (v := .tuple #[stV .zero none 0 0, .bool false]) (by simp [results, Tryz.results22, go_sem, kz, stV, St.zero]) rfl ⟨none, 0, 0, by rw [HV.out], ?_, ?_⟩
    · rw [HV.out]; exact RgsW.nil
    · exact (((((hB.setCell (by dsimp only; omega) _).setCell (by dsimp only; omega) _).setCell (by dsimp only; omega) _).setCell (by dsimp only; omega) _).setCell (by dsimp only; omega) _)
  go_wp2_with fail
  refine (l1In_any _ _ _ _).mono ?_
  rintro e w' ⟨rfl, rfl⟩
  cases h2 : inB mo 1 16
  · have HV := Lib.hid (show newStore rd mo = (.zero, false) by simp [newStore, h2])
    go_wp2
    refine bodyPost_ret (v := .tuple #[stV .zero none 0 0, .bool false]) (by simp [results, Tryz.results22, go_sem, kz, stV, St.zero]) rfl ⟨none, 0, 0, by rw [HV.out], ?_, ?_⟩
    · rw [HV.out]; exact RgsW.nil
    · exact (((((hB.setCell (by dsimp only; omega) _).setCell (by dsimp only; omega) _).setCell (by dsimp only; omega) _).setCell (by dsimp only; omega) _).setCell (by dsimp only; omega) _)
  obtain ⟨q, rfl, hq2, hq8⟩ : ∃ q : Nat, rd = q ∧ 2 ≤ q ∧ q ≤ 8 := by
    simp [inB] at h1
    exact ⟨rd.toNat, by omega, by omega, by omega⟩
  have HV := Lib.hid (show newStore q mo = (⟨q, mo, [Rg.fresh q], 0, 0⟩, true) by simp [newStore, show roundB q = true from h1, h2])
  clear h1 h2
  go_wp2_with fail
  clear kz fz
  refine (l2New_any q _ (by omega) hq8).mono ?_
  rintro e w1 ⟨g, cap, rfl, hO, hb1⟩
  have hz1 := hz.below hb1 hz.lt
  have hg := hO.ge
  have lz1 := hz1.lt
  have hB1 := bstep hB hB.size hb1
  have lg := Own.lt hO
  have kz := hz1.cell
  have fz := hz1.frozen
  unfold rgV
  go_wp2
  refine bodyPost_ret (v := .tuple #[stV ⟨q, mo, [Rg.fresh q], 0, 0⟩ (some ⟨w1.heap.size, 0, none⟩) 1 1, .bool true]) (by simp [results, Tryz.results22, go_sem, kz, lz1, stV]) rfl ⟨some ⟨w1.heap.size, 0, none⟩, 1, 1, by rw [HV.out], ?_, ?_⟩
  · rw [HV.out]
    exact rgs_one (r := Rg.fresh q) (((((((hO.mono (by omega)).set_ne (by omega) _ _).set_ne (by omega) _ _).set_ne (by omega) _ _).set_ne (by omega) _ _).set_ne (by omega) _ _)) (by simp; omega) (by simp)
  · exact ((((((hB1.setCell (by dsimp only; omega) _).setCell (by dsimp only; omega) _).setCell (by dsimp only; omega) _).setCell (by dsimp only; omega) _).setCell (by dsimp only; omega) _)).alloc (by simp; omega) _

end Go.Proofs.YtomfaabifpndbaaGreat

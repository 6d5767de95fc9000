/-
  The walks of NewStore of the program, and of its small functions on stores.
-/
import Derived.Test.YtomfaabifpndbaaGreatLawC
import Derived.Test.YtomfaabifpndbaaGreatStoreN
namespace Go.Proofs.YtomfaabifpndbaaGreat
set_option linter.unusedSimpArgs false
set_option linter.unusedVariables false
open Go.RowKit
set_option linter.unusedVariables false
attribute [local go_sem ↓] Go.wp_at_zero Go.wp_at_succ

set_option maxHeartbeats 400000 in
theorem isMost_any (z : Int) (w : World) : Calls Tryz.prog 57 #[.int .i64 z] w (Quiet1 (.bool (inB z 1 16)) w) := by
  go_enter Tryz.func57, Tryz.ntmps57
  go_wp2
  all_goals
    go_ret
    exact ⟨by simp [inB, *] <;> omega, rfl⟩

/-- A store of the call's own and a bool are returned. -/
def RetSD (q : St × Bool) (w : World) (e : Ending) (w' : World) : Prop :=
  ∃ A n cap, e = .returned (.tuple #[stV q.1 A n cap, .bool q.2]) ∧ RgsD w.heap.size w'.heap.size w' A n cap q.1.rs ∧ Below w.heap.size w w'

/-- One ring in a new block. -/
theorem rgd_one {lo k : Nat} {V : World} {g q cap : Nat} {r : Rg} (hp : PlsO lo V g q cap r.ps) (hlo : lo ≤ V.heap.size) (hk : k = V.heap.size) :
    RgsD lo (V.alloc (.cells #[.int .i64 r.h, .int .i64 r.t, .bool r.c, .int .i64 r.x, .slice (some ⟨g, 0, none⟩) q cap] 81)).heap.size (V.alloc (.cells #[.int .i64 r.h, .int .i64 r.t, .bool r.c, .int .i64 r.x, .slice (some ⟨g, 0, none⟩) q cap] 81)) (some ⟨k, 0, none⟩) 1 1 [r] := by
  subst hk
  have one : ∀ (i : Nat) (a : Rw), [(⟨r.h, r.t, r.c, r.x, some ⟨g, 0, none⟩, q, cap⟩ : Rw)][i]? = some a → i = 0 ∧ a = ⟨r.h, r.t, r.c, r.x, some ⟨g, 0, none⟩, q, cap⟩ := fun i a ha => by
    have hi : i = 0 := by
      have := (List.getElem?_eq_some_iff.1 ha).1
      simp at this; exact this
    subst hi
    simp at ha
    exact ⟨rfl, ha.symm⟩
  refine ⟨rfl, fun _ => ⟨V.heap.size, [⟨r.h, r.t, r.c, r.x, some ⟨g, 0, none⟩, q, cap⟩], rfl, by simp, ?_, fun i a ha => ?_, fun i j a b hij ha hb => ?_⟩⟩
  · exact ⟨rfl, hlo, Nat.le_refl _, by unfold maxLen; omega, _, BoxAt.new _ _ _, rfl, rfl⟩
  · obtain ⟨rfl, rfl⟩ := one i a ha
    exact ⟨r, rfl, rfl, rfl, rfl, rfl, g, rfl, by have := Own.lt hp; simp; omega, hp.al _⟩
  · have h1 := (one i a ha).1
    have h2 := (one j b hb).1
    omega

set_option maxRecDepth 100000 in
set_option maxHeartbeats 1000000 in
theorem inewStore_any (rd mo : Int) (w : World) : Calls Tryz.prog 27 #[.int .i64 rd, .int .i64 mo] w (RetSD (newStore rd mo) w) := by
  go_enter Tryz.func27, Tryz.ntmps27
  go_wp2_with fail
  refine calls_abs (fun W => Below w.heap.size w W ∧ BoxAt W w.heap.size #[.int .i64 0, .int .i64 0, .slice none 0 0, .int .i64 0, .int .i64 0] 26) ⟨(Below.refl _ _).alloc (Nat.le_refl _) _, BoxAt.new _ _ _⟩ ?_
  rintro W ⟨hB, hz⟩
  have lz := hz.lt
  cases h1 : roundB rd
  · have HV := Lib.hid (show newStore rd mo = (.zero, false) by simp [newStore, h1])
    refine (inewRing_no rd _ h1).mono ?_
    rintro e w1 ⟨rfl, hb1⟩
    have hz1 := hz.below hb1 hz.lt
    have kz := hz1.cell
    have fz := hz1.frozen
    have lz1 := hz1.lt
    unfold rgV
    go_wp2
    refine bodyPost_ret (v := .tuple #[stV .zero none 0 0, .bool false]) (by simp [results, Tryz.results27, go_sem, kz, lz1, stV, St.zero]) rfl ⟨none, 0, 0, by rw [HV.out], ?_, ?_⟩
    · rw [HV.out]; exact RgsD.nil
    · exact (((((((bstep hB hB.size hb1).setCell (by dsimp only; omega) _).setCell (by dsimp only; omega) _).setCell (by dsimp only; omega) _).setCell (by dsimp only; omega) _).setCell (by dsimp only; omega) _)).alloc (by simp; omega) _
  obtain ⟨q, rfl, hq2, hq8⟩ : ∃ q : Nat, rd = q ∧ 2 ≤ q ∧ q ≤ 8 := by
    simp [roundB] at h1
    exact ⟨rd.toNat, by omega, by omega, by omega⟩
  refine (inewRing_yes q _ h1 hq8).mono ?_
  rintro e w1 ⟨g, cap, rfl, hO, hb1⟩
  have hz1 := hz.below hb1 hz.lt
  have hg := hO.ge
  have lz1 := hz1.lt
  have hB1 := bstep hB hB.size hb1
  have lg := Own.lt hO
  unfold rgV
  go_wp2_with fail
  refine calls_abs (fun W' => Below w.heap.size w W' ∧ BoxAt W' w.heap.size #[.int .i64 0, .int .i64 0, .slice none 0 0, .int .i64 0, .int .i64 0] 26 ∧ BoxAt W' w1.heap.size #[.int .i64 0, .int .i64 0, .bool false, .int .i64 (-1), .slice (some ⟨g, 0, none⟩) q cap] 81 ∧ PlsO w.heap.size W' g q cap (fresh q)) ⟨hB1.alloc (by omega) _, hz1.alloc _, BoxAt.new _ _ _, (hO.mono hB.size).al _⟩ ?_
  generalize w1.heap.size = R at *
  clear hz1 hB1 hO hb1 hB hz
  rintro W2 ⟨hB, hz, hx, hO⟩
  refine (isMost_any _ _).mono ?_
  rintro e w' ⟨rfl, rfl⟩
  have kz := hz.cell
  have fz := hz.frozen
  have lz2 := hz.lt
  have lx := hx.lt
  have kx := hx.cell
  have lO := Own.lt hO
  have gO := hO.ge
  have hwg : w.heap.size ≠ g := by omega
  cases h2 : inB mo 1 16
  · have HV := Lib.hid (show newStore q mo = (.zero, false) by simp [newStore, h2])
    go_wp2
    refine bodyPost_ret (v := .tuple #[stV .zero none 0 0, .bool false]) (by simp [results, Tryz.results27, go_sem, kz, stV, St.zero]) rfl ⟨none, 0, 0, by rw [HV.out], ?_, ?_⟩
    · rw [HV.out]; exact RgsD.nil
    · exact (((((hB.setCell (by dsimp only; omega) _).setCell (by dsimp only; omega) _).setCell (by dsimp only; omega) _).setCell (by dsimp only; omega) _).setCell (by dsimp only; omega) _)
  have HV := Lib.hid (show newStore q mo = (⟨q, mo, [Rg.fresh q], 0, 0⟩, true) by simp [newStore, h1, h2])
  clear h1 h2
  go_wp2
  refine bodyPost_ret (v := .tuple #[stV ⟨q, mo, [Rg.fresh q], 0, 0⟩ (some ⟨W2.heap.size, 0, none⟩) 1 1, .bool true]) (by simp [results, Tryz.results27, go_sem, kz, lz2, stV]) rfl ⟨some ⟨W2.heap.size, 0, none⟩, 1, 1, by rw [HV.out], ?_, ?_⟩
  · rw [HV.out]
    exact rgd_one (r := Rg.fresh q) ((((((hO.set_ne (by omega) _ _).set_ne (by omega) _ _).set_ne (by omega) _ _).set_ne (by omega) _ _).set_ne (by omega) _ _)) (by simp; omega) (by simp)
  · exact ((((((hB.setCell (by dsimp only; omega) _).setCell (by dsimp only; omega) _).setCell (by dsimp only; omega) _).setCell (by dsimp only; omega) _).setCell (by dsimp only; omega) _)).alloc (by simp; omega) _

end Go.Proofs.YtomfaabifpndbaaGreat

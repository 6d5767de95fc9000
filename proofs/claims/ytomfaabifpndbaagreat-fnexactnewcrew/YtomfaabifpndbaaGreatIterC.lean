/-
  The walks of comesToAnEnd, ringsOk and StoreOk of the program.
-/
import Derived.Test.YtomfaabifpndbaaGreatIterB
import Derived.Test.YtomfaabifpndbaaGreatStoreK
namespace Go.Proofs.YtomfaabifpndbaaGreat
set_option linter.unusedSimpArgs false
set_option linter.unusedVariables false
open Go.RowKit Go.Shelf
set_option linter.unusedVariables false
attribute [local go_sem] Oper.semAt_some
attribute [local go_sem ↓] Go.wp_at_zero Go.wp_at_succ

theorem callsIn_abs {F : Fence} {n : Nat} {P : Program} {f : FuncId} {args : Array Value} {R : Ending → World → Prop} {W : World} (G : World → Prop) (hG : G W) (h : ∀ W', G W' → CallsIn F n P f args W' R) : CallsIn F n P f args W R := h W hG
theorem wpIn_abs {F : Fence} {n : Nat} {P : Program} {code : Code} {Q : Exit → Act → World → Prop} {a : Act} {W : World} (G : World → Prop) (hG : G W) (h : ∀ W', G W' → code.wpIn F n P Q a W') : code.wpIn F n P Q a W := h W hG
theorem ownFrom_size {β : Type} {B N : Nat} : OwnFrom B (fun (_ : β) W => N ≤ W.heap.size) := fun _ _ _ _ h hg _ => Nat.le_trans h hg.size

/-- The Next of what has come last, or z. -/
def lastX {rows : List Rw} : Int → List (El rows) → Int
  | z, [] => z
  | _, x :: l => lastX x.1.2.x l
theorem lastX_snoc {rows : List Rw} (x : El rows) : ∀ (l : List (El rows)) (z : Int), lastX z (l ++ [x]) = x.1.2.x
  | [], _ => rfl
  | y :: l, _ => by simp only [List.cons_append, lastX, lastX_snoc x l]
theorem lastX_walk {rows : List Rw} : ∀ (k : Nat) (z : Int), lastX z (walkE rows k z) = endX (rows.map Rw.x) k z
  | 0, _ => rfl
  | k + 1, z => by
    by_cases h : 0 ≤ z ∧ z < rows.length
    · have hl : z.toNat < rows.length := by omega
      have hr : rows[z.toNat]? = some rows[z.toNat] := List.getElem?_eq_getElem hl
      rw [walkE_in h.1 hr, endX_in h.1 (x := rows[z.toNat].x) (by rw [List.getElem?_map, hr]; rfl)]
      exact lastX_walk k _
    · rw [walkE_out (by omega)]
      by_cases h0 : z < 0
      · rw [endX_neg h0]; rfl
      · rw [endX_out (by simp; omega)]; rfl
theorem rows_x {lo hi : Nat} {w : World} {rows : List Rw} {L : List Rg} (hl : rows.length = L.length) (h : AllIs lo hi w rows L) : rows.map Rw.x = L.map Rg.x := by
  apply List.ext_getElem?
  intro i
  rw [List.getElem?_map, List.getElem?_map]
  by_cases hi : i < rows.length
  · obtain ⟨r, hr, _, _, _, hx, _⟩ := h i _ (List.getElem?_eq_getElem hi)
    rw [List.getElem?_eq_getElem hi, hr]
    simp [hx]
  · rw [List.getElem?_eq_none (by omega), List.getElem?_eq_none (by omega)]; rfl

set_option maxRecDepth 100000 in
set_option maxHeartbeats 4000000 in
theorem comesToAnEnd_any (s : St) (b n cap : Nat) (z : Int) (lo hi : Nat) (rows : List Rw) (w : World) (hO : RwsO lo w b n cap rows) (hA : AllIs lo hi w rows s.rs) (hbw : b < w.heap.size) (hn : s.rs.length = n) (hn2 : n ≤ 1048576) :
    Calls Tryz.prog 128 #[stV s (some ⟨b, 0, none⟩) n cap, .int .i64 z] w (RetBelow (.bool (endX (s.rs.map Rg.x) n z == -1)) w) := by
  have HX := Lib.hid (rows_x (hO.1.trans hn.symm) hA)
  have HN := Lib.hid hn; clear hn
  unfold stV
  refine (callsIn_wide (n := 3)).1 ?_
  refine callsIn_of_wp_marks Tryz.func128 rfl trivial ?_ rfl
  simp only [Tryz.ntmps128, List.size_toArray, List.length_cons, List.length_nil, Nat.reduceAdd, Nat.reduceSub, Array.replicate_succ, Array.replicate_zero, List.push_toArray, List.append_toArray, List.nil_append, List.cons_append]
  gi_wp2_with fail
  refine ⟨trivial, ?_⟩
  refine callsIn_abs (fun W => Below w.heap.size w W ∧ W.heap.size = w.heap.size + 2 ∧ BoxAt W (w.heap.size + 1) #[.int .i64 z] 2) ⟨((Below.refl _ _).alloc (Nat.le_refl _) _).alloc (by simp) _, by simp, BoxAt.new' (by simp)⟩ ?_
  rintro W ⟨hB, hsz, hx⟩
  refine (callsIn_wide.2 (ringsFrom_any s _ n cap z _)).mono ?_
  rintro e w' ⟨rfl, rfl⟩
  gi_wp2
  obtain ⟨W0, hW0⟩ : ∃ W0, (W.alloc (.cells (sC s (some ⟨b, 0, none⟩) n cap) 26)).alloc (.cells #[.int .i64 z] 2) = W0 := ⟨_, rfl⟩
  have hs0 : W0.heap.size = w.heap.size + 4 := by rw [← hW0]; simp; omega
  have hB0 : Below w.heap.size w W0 := by rw [← hW0]; exact (hB.alloc (by omega) _).alloc (by simp; omega) _
  have hx0 : BoxAt W0 (w.heap.size + 1) #[.int .i64 z] 2 := by rw [← hW0]; exact (hx.alloc _).alloc _
  have hS0 : BoxAt W0 (w.heap.size + 2) (sC s (some ⟨b, 0, none⟩) n cap) 26 := by rw [← hW0]; exact (BoxAt.new' hsz.symm).alloc _
  have hR0 : BoxAt W0 (w.heap.size + 2 + 1) #[.int .i64 z] 2 := by rw [← hW0]; exact BoxAt.new' (by simp [hsz])
  have hO0 : RwsO lo W0 b n cap rows := Own.keep hO (hB0.block b hbw)
  rw [hW0]
  clear hW0 hx hB hsz
  refine wpIn_rangeFunc_ownH rfl (by omega) (gf := 137) (lb := #[.pointer (some ⟨w.heap.size + 2 + 1, 0, none⟩), .pointer (some ⟨w.heap.size + 2, 0, none⟩)]) rfl trivial (enters_of Tryz.func137 (by kernel_rfl) rfl)
    (ringsFrom_stops 2 (w.heap.size + 2) (w.heap.size + 2 + 1) w.heap.size (w.heap.size + 2) (w.heap.size + 3) lo b n cap s rows z (by omega) HN.out hn2 W0 hS0 hR0 hO0 hbw (by omega) (by omega)) kpI_t (kpI_b (by omega) (by omega)) (Below.refl _ _) (fun _ => rfl)
    (fun pre W' => (BoxAt W' (w.heap.size + 1) #[.int .i64 (lastX z pre)] 2 ∧ w.heap.size + 4 ≤ W'.heap.size) ∧ Below w.heap.size w W')
    (fun _ _ _ => False)
    (OwnFrom.and (OwnFrom.and (boxAt_own _ _ _ _) ownFrom_size) (ownFrom_below (Nat.le_refl _) (by omega)))
    (fun _ _ _ _ _ hs _ _ => hs)
    ⟨⟨hx0, by omega⟩, hB0⟩
    (fun x a' W' => ∃ Bx, BoxAt W' Bx (rwC x.1.2) 81 ∧ a' = { tmps := #[.agg #[.int .i64 s.rd, .int .i64 s.mo, .slice (some ⟨b, 0, none⟩) n cap, .int .i64 s.fi, .int .i64 s.la], .int .i64 z, .pointer (some ⟨w.heap.size, 0, none⟩), undef, .bool false, .pointer (some ⟨w.heap.size + 1, 0, none⟩), undef, .pointer (some ⟨Bx, 0, none⟩), .int .i64 z, .agg #[.int .i64 s.rd, .int .i64 s.mo, .slice (some ⟨b, 0, none⟩) n cap, .int .i64 s.fi, .int .i64 s.la], .int .i64 z, .func (.func 137) #[] #[.pointer (some ⟨w.heap.size + 2 + 1, 0, none⟩), .pointer (some ⟨w.heap.size + 2, 0, none⟩)], .int .i64 x.1.1, .agg (rwC x.1.2), undef, undef, undef, undef], defers := [] })
    (fun x a' _ X Y row hs hg hr => by obtain ⟨Bx, h1, h2⟩ := hs; exact ⟨Bx, boxAt_own W0.heap.size Bx (fun (_ : Unit) => rwC x.1.2) 81 () X Y row h1 hg hr, h2⟩)
    ?assign ?body ?done ?stop
  case assign =>
    rintro l pre x W1 K ⟨⟨hx1, hz1⟩, hB1⟩ hK
    unfold elV rwC
    gi_wp2
    exact hK _ _ ((KeepsOthers.alloc _ _).from _) ⟨(Below.refl _ W1).alloc hB1.size _, .alloc (by omega) _⟩ ⟨⟨hx1.alloc _, by simp; omega⟩, hB1.alloc hB1.size _⟩ ⟨W1.heap.size, BoxAt.new _ _ _, rfl⟩
  case body =>
    rintro l pre x a' W1 _ _ ⟨⟨hx1, hz1⟩, hB1⟩ ⟨Bx, bX, rfl⟩ _
    have kX := bX.cell
    have kx := hx1.cell
    have fx := hx1.frozen
    unfold rwC at kX
    gi_wp2
    refine ⟨(KeepsOthers.setCell _ _ _).from _, ⟨(Below.refl _ W1).setCell (p := ⟨w.heap.size + 1, 0, none⟩) (by simp) _, .set (by omega) _ _⟩, ⟨?_, by simpa using hz1⟩, hB1.setCell (p := ⟨w.heap.size + 1, 0, none⟩) (by simp) _⟩
    rw [lastX_snoc]
    exact hx1.set 0 _
  case done =>
    rintro D ys W1 hD rfl ⟨⟨hx1, hz1⟩, hB1⟩ hK
    have kx := hx1.cell
    gi_wp2
    refine ⟨by simp, .inl ⟨_, _, rfl, run_takeDeferred hK, ?_⟩⟩
    refine ⟨_, results_tmp rfl _ _ _, .mk ?_ (hB1.trans (belowK_b (w := w) (Nat.le_refl _) W1 D _ _ (by omega) hK rfl rfl))⟩
    rw [lastX_walk, HX.out]
    rfl
  case stop =>
    rintro D c pre W1 _ _ h _
    exact h.elim

end Go.Proofs.YtomfaabifpndbaaGreat

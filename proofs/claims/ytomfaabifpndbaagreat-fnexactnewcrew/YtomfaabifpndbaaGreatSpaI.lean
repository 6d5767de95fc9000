/-
  The walk of the program's spareFits.
-/
import Derived.Test.YtomfaabifpndbaaGreatHand
import Derived.Test.YtomfaabifpndbaaGreatIterA
namespace Go.Proofs.YtomfaabifpndbaaGreat
set_option linter.unusedSimpArgs false
set_option linter.unusedVariables false
open Go.RowKit
set_option linter.unusedVariables false
attribute [local go_sem] OpUpon
attribute [local go_sem ↓] Go.wp_at_zero Go.wp_at_succ

set_option maxRecDepth 100000 in
set_option maxHeartbeats 4000000 in
theorem ispare_any (s : St) (A : Option Addr) (n cap : Nat) (h : Hd) (w : World) (hn : s.rs.length = n) (hm : n ≤ 1048576) :
    Calls Tryz.prog 115 #[hdV h, stV s A n cap] w (RetBelow (.bool (decide (h.sp = -1) || ringB s h.sp)) w) := by
  obtain ⟨at_, v, r, t, seen, tr, sp, ag, re⟩ := h
  unfold stV hdV
  dsimp only
  go_enter Tryz.func115, Tryz.ntmps115
  go_upto_region 1 with fail
  refine wp_abs (fun W => Below w.heap.size w W ∧ BoxAt W w.heap.size #[.int .i64 at_, .int .i64 v, .int .i64 r, .int .i64 t, .bool seen.s, .int .i64 seen.n, .bool seen.f, .int .i64 seen.v, .int .i64 tr, .int .i64 sp, .bool ag, .int .i64 re] 58 ∧ BoxAt W (w.heap.size + 1) #[.int .i64 s.rd, .int .i64 s.mo, .slice A n cap, .int .i64 s.fi, .int .i64 s.la] 26) ⟨((Below.refl _ _).alloc (Nat.le_refl _) _).alloc (by simp) _, (BoxAt.new _ _ _).alloc _, BoxAt.new' (by simp)⟩ ?_
  rintro W ⟨hB, hx, hy⟩
  have kx := hx.cell
  have ky := hy.cell
  by_cases hsp : sp = -1
  · subst hsp
    go_wp2
    go_ret
    exact .mk (by simp) hB
  have HSP := Lib.hid hsp
  go_wp2_with fail
  clear kx ky
  refine (hasRing_any s A n cap sp _ hn hm).mono ?_
  rintro e w1 ⟨rfl, hb⟩
  replace hB := bstep hB hB.size hb
  clear hb hx hy
  go_wp2
  go_ret
  exact .mk (by simp [HSP.out]) hB

end Go.Proofs.YtomfaabifpndbaaGreat

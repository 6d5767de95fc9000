/-
 Whether a hand fits, of the model.
-/
import Derived.Test.YtiiaimjlohpemaaGreatHand
import Derived.Test.YtiiaimjlohpemaaGreatStoreB
import Derived.Test.YtiiaimjlohpemaaGreatStoreA
namespace Go.Proofs.YtiiaimjlohpemaaGreat
set_option linter.unusedSimpArgs false
set_option linter.unusedVariables false
open Go.RowKit
set_option linter.unusedVariables false
attribute [local go_sem] OpUpon
attribute [local go_sem ↓] Go.wp_at_zero Go.wp_at_succ

def fits (s : St) (h : Hd) : Bool := stOk s && h.ok && (decide (h.at_ = 0) || (ringB s h.r && decide (h.sp < s.rs.length)))

set_option maxRecDepth 100000 in
set_option maxHeartbeats 4000000 in
theorem sfits_any (s : St) (A : Option Addr) (n cap lo hi : Nat) (h : Hd) (w : World) (hs : RgsW lo hi w A n cap s.rs) (hh : hi ≤ w.heap.size) (hm : n ≤ 1048576) (hpn : ∀ r ∈ s.rs, r.ps.length ≤ 1048576) :
  Calls Tryz.prog 67 #[stV s A n cap, hdV h] w (RetBelow (.bool (fits s h)) w) := by
 have HPN := Lib.hid hpn; clear hpn
 have HLN := Lib.hid hs.1
 obtain ⟨at_, v, r, t, seen, tr, sp, ag, re⟩ := h
 unfold stV hdV
 dsimp only
 go_enter Tryz.func67, Tryz.ntmps67
 go_upto_region 1 with fail
 refine wp_abs (fun W => Below w.heap.size w W ∧ BoxAt W w.heap.size (aS s A n cap) 64 ∧ BoxAt W (w.heap.size + 1) (dH at_ v r t seen tr sp ag re) 106) ⟨((Below.refl _ _).alloc (Nat.le_refl _) _).alloc (by simp) _, (BoxAt.new _ _ _).alloc _, BoxAt.new' (by simp)⟩ ?_
 rintro W0 ⟨hB, hx, hy⟩
 have kx := hx.cell
 go_wp2_with fail
 clear kx
 refine (sstoreOk_any s A n cap lo hi _ (hs.below hB hh) (Nat.le_trans hh hB.size) hm HPN.out).mono ?_
 rintro e w1 ⟨rfl, hb⟩
 replace hx := hx.below hb hx.lt
 replace hy := hy.below hb hy.lt
 replace hB := bstep hB hB.size hb
 have h1 := hb.size
 clear hb
 cases hok : stOk s
 ·
  go_wp2
  exact bodyPost_ret (v := .bool false) (by simp [results, Tryz.results67, go_sem]) rfl ⟨by simp [fits, hok], hB⟩
 have HOK := Lib.hid hok; clear hok
 have ky := hy.cell
 go_wp2_with fail
 clear ky
 refine (shandOk_any (⟨at_, v, r, t, seen, tr, sp, ag, re⟩ : Hd) _).mono ?_
 rintro e w2 ⟨rfl, hb⟩
 replace hx := hx.below hb hx.lt
 replace hy := hy.below hb hy.lt
 replace hB := bstep hB hB.size hb
 have h2 := hb.size
 clear hb
 cases hho : (⟨at_, v, r, t, seen, tr, sp, ag, re⟩ : Hd).ok
 ·
  go_wp2
  exact bodyPost_ret (v := .bool false) (by simp [results, Tryz.results67, go_sem]) rfl ⟨by simp [fits, hho], hB⟩
 have HHO := Lib.hid hho; clear hho
 have kx := hx.cell
 have ky := hy.cell
 by_cases h0 : at_ = 0
 ·
  go_wp2
  exact bodyPost_ret (v := .bool true) (by simp [results, Tryz.results67, go_sem]) rfl ⟨by simp only [fits, HOK.out, HHO.out]; simp [h0], hB⟩
 have HZ0 := Lib.hid h0
 go_wp2_with fail
 clear kx ky
 refine (l4Ring_any s A n cap r _ HLN.out hm).mono ?_
 rintro e w3 ⟨rfl, hb⟩
 replace hx := hx.below hb hx.lt
 replace hy := hy.below hb hy.lt
 replace hB := bstep hB hB.size hb
 have h3 := hb.size
 clear hb
 cases hrb : ringB s r
 ·
  go_wp2
  exact bodyPost_ret (v := .bool false) (by simp [results, Tryz.results67, go_sem, HZ0.out]) rfl ⟨by simp only [fits, hrb]; rw [decide_eq_false HZ0.out]; simp, hB⟩
 have HRB := Lib.hid hrb; clear hrb
 have kx := hx.cell
 have ky := hy.cell
 go_wp2
 exact bodyPost_ret (v := .bool (decide (sp < (n : Int)))) (by simp [results, Tryz.results67, go_sem, HZ0.out]) rfl ⟨by simp only [fits, HOK.out, HHO.out, HRB.out, HLN.out]; rw [decide_eq_false HZ0.out]; simp, hB⟩

end Go.Proofs.YtiiaimjlohpemaaGreat

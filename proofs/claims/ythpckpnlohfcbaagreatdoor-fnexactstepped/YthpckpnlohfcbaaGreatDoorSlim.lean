/-
 Stores that are no more than the laws look at.
-/
import Derived.Test.YthpckpnlohfcbaaGreatDoorChgA
import Derived.Test.YthpckpnlohfcbaaGreatDoorLawC
namespace Go.Proofs.YthpckpnlohfcbaaGreatDoor
set_option linter.unusedSimpArgs false
set_option linter.unusedVariables false
def Slim (s : St) : Prop := s.rs.length ≤ 1048576 ∧ sumPs s.rs ≤ 1048576
theorem Slim.each {s : St} (h : Slim s) : ∀ r ∈ s.rs, r.ps.length ≤ 1048576 := fun r hr => Nat.le_trans (sumPs_mem hr) h.2
theorem Slim.k {s : St} (h : Slim s) : (1 : Int) + 4 * s.rs.length + 4 * sumPs s.rs ≤ 1000000000 := by have := h.1; have := h.2; omega
theorem slim_of {s : St} (h : szL 1048576 s.rs ≠ -1) : Slim s := by
 rcases szL_or s.rs (left := 1048576) (by omega) with h' | ⟨_, _, h'⟩
 · exact absurd h' h
 · exact ⟨by omega, by omega⟩
theorem sumPs_le : ∀ (L : List Rg) (k : Nat), (∀ r ∈ L, r.ps.length ≤ k) → sumPs L ≤ L.length * k
 | [], _, _ => by simp [sumPs]
 | r :: L, k, h => by
  have h1 := h r (by simp)
  have h2 := sumPs_le L k (fun x hx => h x (by simp [hx]))
  simp only [sumPs, List.length_cons, Nat.succ_mul]; omega
theorem neat_slim {s : St} (h : Neat s) : Slim s := by
 have h1 := sumPs_le s.rs 8 (fun r hr => (h.2.2 r hr).2)
 have h2 := h.2.1
 refine ⟨by omega, ?_⟩
 have : s.rs.length * 8 ≤ 16 * 8 := Nat.mul_le_mul_right 8 h2
 omega
theorem zero_slim : Slim .zero := ⟨by simp [St.zero], by simp [St.zero, sumPs]⟩
end Go.Proofs.YthpckpnlohfcbaaGreatDoor
namespace Go.Proofs.YthpckpnlohfcbaaGreatDoor
set_option linter.unusedSimpArgs false
set_option linter.unusedVariables false
open Go.RowKit
attribute [local go_sem ↓] Go.wp_at_zero Go.wp_at_succ
structure ButT (lo hi : Nat) (w w' : World) : Prop where
 inn : ButIn lo hi w w'
 typ : ∀ k cs, BoxAt w k cs 32 → w'.heap[k]? = w.heap[k]?
theorem ButT.refl (lo hi : Nat) (w : World) : ButT lo hi w w := ⟨.refl _ _ _, fun _ _ _ => rfl⟩
theorem ButT.trans {lo hi : Nat} {a b c : World} (h : ButT lo hi a b) (h' : ButT lo hi b c) : ButT lo hi a c :=
 ⟨h.inn.trans h'.inn, fun k cs hk => (h'.typ k cs (by unfold BoxAt at *; rw [h.typ k cs hk]; exact hk)).trans (h.typ k cs hk)⟩
theorem ButT.of_but {lo hi k : Nat} {a b : World} (h : But k a b) (h1 : lo ≤ k) (h2 : k < hi) (h3 : ∀ cs, ¬ BoxAt a k cs 32) : ButT lo hi a b :=
 ⟨.of_but h h1 h2, fun j cs hj => h.block j hj.lt (fun e => h3 cs (e ▸ hj))⟩
theorem ButT.of_below {lo hi : Nat} {a b : World} (h : Below a.heap.size a b) : ButT lo hi a b := ⟨.of_below h, fun k _ hk => h.block k hk.lt⟩
theorem ButT.box {lo hi : Nat} {a b : World} (h : ButT lo hi a b) {j : Nat} {cs : Array Value} (hb : BoxAt a j cs 32) : BoxAt b j cs 32 := by
 unfold BoxAt at *
 rw [h.typ j cs hb]; exact hb
def MarkedT (k : Int) (L : List Rg) (lo hi : Nat) (A : Option Addr) (n cap : Nat) (w : World) (e : Ending) (w' : World) : Prop :=
 e = .returned (.int .i64 (markEnd k L)) ∧ ButT lo hi w w' ∧ RgsD lo hi w' A n cap (markRgs k L)
set_option maxRecDepth 100000 in
set_option maxHeartbeats 2000000 in
theorem markRingT_pos (b n cap : Nat) (rows0 : List Rw) (L : List Rg) (k : Int) (lo hi : Nat) (w : World) (hO0 : RwsO lo w b n cap rows0) (hD0 : DOf lo hi w rows0 L) (hl : L.length = n) (hbh : b < hi) (h0 : 0 ≤ k) (hk : k + 4 * L.length + 4 * sumPs L ≤ 1000000000) (hsm : sumPs L ≤ 1048576) :
  Calls Tryz.prog 31 #[.slice (some ⟨b, 0, none⟩) n cap, k] w (MarkedT k L lo hi (some ⟨b, 0, none⟩) n cap w) := by
 subst hl
 have hlen : L.length = (markRgs k L).length := (markRgs_len k L).symm
 have HL := Lib.hid hlen
 clear hlen
 have HK := Lib.hid hk; clear hk
 have hbl := hO0.2.1
 have hnn : (L.length : Int) ≤ 1000000000 := by have := HK.out; omega
 go_enter Tryz.func31, Tryz.ntmps31
 go_wp2
 go_loopw [1, 5] (fun s1 s5 W => ∃ (i : Nat) (rows : List Rw), i ≤ L.length ∧ s1 = .int .i64 (markAt k L i) ∧ s5 = .int .i64 i ∧ ButT lo hi w W ∧ RwsO lo W b L.length cap rows ∧ DOf lo hi W rows (over L (markRgs k L) i)) (fun _ s5 _ => L.length - (intOf s5).toNat)
 case atStart => exact ⟨0, rows0, Nat.zero_le _, by simp [markAt, sumPs], rfl, ButT.refl _ _ _, hO0, by rw [over_zero]; exact hD0⟩
 case round =>
  obtain ⟨i, rows, hi', rfl, rfl, hB, hO, hD⟩ := hrel
  by_cases hlt : i < L.length
  ·
   have hrl : i < rows.length := by have := hO.1; omega
   obtain ⟨a, hra⟩ : ∃ a, rows[i]? = some a := ⟨_, List.getElem?_eq_getElem hrl⟩
   obtain ⟨r, hri⟩ : ∃ r, L[i]? = some r := ⟨_, List.getElem?_eq_getElem hlt⟩
   have hov : (over L (markRgs k L) i)[i]? = some r := by rw [over_at HL.out hlt]; exact hri
   obtain ⟨r', hr', e1, e2, e3, e4, g, hg, hgh, hp⟩ := hD.1 i a hra
   obtain rfl : r = r' := by rw [hov] at hr'; injection hr'
   have hmL := Lib.hid (markAt_le (k := k) (L := L) (i := i + 1) (by omega))
   have hms := Lib.hid (markAt_succ (k := k) hri)
   have hma := Lib.hid (markRgs_at k hri)
   have hov1 := Lib.hid (over_set (l := L) HL.out (markRgs_at k hri))
   have hz0 : 0 ≤ markAt k L i := by have := (markAt_le (k := k) (L := L) (i := i) (by omega)).1; omega
   have hps : r.ps.length = a.n := hp.1
   have hz1 : markAt k L i + 1 + 1 + 1 + 1 + 4 * (a.n : Int) ≤ 1000000000 := by have := hmL.out.2; rw [hms.out] at this; have := HK.out; omega
   generalize markAt k L i = z at *
   have d0 := Own.cell_ Rw.cs_len hO (j := 0) hra rfl
   have d1 := Own.cell_ Rw.cs_len hO (j := 1) hra rfl
   have d2 := Own.cell_ Rw.cs_len hO (j := 2) hra rfl
   have d3 := Own.cell_ Rw.cs_len hO (j := 3) hra rfl
   rw [Nat.add_zero] at d0
   have df := Own.frozen_ hO
   have h1 : (i : Int) < (L.length : Int) := by omega
   have h2 : (0 : Int) ≤ (i : Int) := by omega
   have HRA := Lib.hid hra; clear hra
   have HRI := Lib.hid hri; clear hri
   have HOV := Lib.hid hov; clear hov hr'
   have HPS := Lib.hid hps; clear hps
   have HG := Lib.hid hg; clear hg
   go_upto_region 12 with fail
   refine wp_abs (fun W => But b wr W ∧ RwsO lo W b L.length cap (rows.set i ⟨z, z + 1, (z + 1 + 1) % 3 == 0, z + 1 + 1 + 1, a.A, a.n, a.cap⟩)) ⟨((((But.refl b wr).set _ _).set _ _).set _ _).set _ _, set4 hO HRA.out _ _ _ _⟩ ?_
   clear d0 d1 d2 d3 df
   rintro W ⟨hb1, hO1⟩
   have hra1 : (rows.set i ⟨z, z + 1, (z + 1 + 1) % 3 == 0, z + 1 + 1 + 1, a.A, a.n, a.cap⟩)[i]? = some ⟨z, z + 1, (z + 1 + 1) % 3 == 0, z + 1 + 1 + 1, a.A, a.n, a.cap⟩ := List.getElem?_set_self hrl
   have d4 := Own.cell_ Rw.cs_len hO1 (j := 4) hra1 rfl
   clear hra1
   rw [HG.out] at d4
   obtain ⟨csp, hbp⟩ := own_box hp
   obtain ⟨csb, hbb⟩ := own_box hO
   have hgb : g ≠ b := box_ne hbp hbb (by decide)
   have hp1 : PlsO lo W g a.n a.cap r.ps := Own.keep hp (hb1.block g hbp.lt hgb)
   have han : a.n ≤ 1048576 := by have := sumPs_mem (List.mem_of_getElem? HRI.out); have := HPS.out; omega
   go_wp2_with fail
   refine (markPlaceS_any lo g a.n a.cap r.ps (z + 1 + 1 + 1 + 1) _ hp1 (by omega) (by omega) (by omega)).mono ?_
   rintro e w2 ⟨rfl, hb2, hp2⟩
   clear d4
   go_wp2
   go_roundw
   case rel =>
    refine ⟨i + 1, rows.set i ⟨z, z + 1, (z + 1 + 1) % 3 == 0, z + 1 + 1 + 1, a.A, a.n, a.cap⟩, by omega, by rw [hms.out, HPS.out], by go_num, ?_, ?_, ?_⟩
    · exact (hB.trans (.of_but hb1 hbl hbh (fun cs h => box_ne hbb h (by decide) rfl))).trans (.of_but hb2 hp.ge hgh (fun cs h => by obtain ⟨c1, hc1⟩ := own_box hp1; exact box_ne hc1 h (by decide) rfl))
    ·
     have hbw : b < W.heap.size := Own.lt hO1
     exact Own.keep hO1 (hb2.block b hbw (Ne.symm hgb))
    ·
     rw [← hov1.out]
     refine DOf.turn hD HRA.out HOV.out HG.out (fun j cs hj hjg => ?_) (by rw [HPS.out]; exact hp2)
     have hjb : j ≠ b := box_ne hj hbb (by decide)
     exact (hb2.block j (Nat.lt_of_lt_of_le hj.lt hb1.size) hjg).trans (hb1.block j hj.lt hjb)
   case measure => simp [intOf]; omega
  ·
   have h1 : ¬ (i : Int) < (L.length : Int) := by omega
   obtain rfl : i = L.length := by omega
   go_wp2
   go_ret
   rw [over_all HL.out (Nat.le_refl _)] at hD
   exact ⟨by rw [markAt_end]; rfl, hB, HL.out.symm, fun _ => ⟨b, rows, rfl, hbh, hO, hD⟩⟩
set_option maxHeartbeats 400000 in
theorem markRingT_nil (A : Option Addr) (cap : Nat) (k : Int) (lo hi : Nat) (w : World) :
  Calls Tryz.prog 31 #[.slice A 0 cap, k] w (MarkedT k [] lo hi A 0 cap w) := by
 go_enter Tryz.func31, Tryz.ntmps31
 go_wp2
 go_loopw [1, 5] (fun s1 s5 W => s1 = .int .i64 k ∧ s5 = .int .i64 0 ∧ W = w) (fun _ _ _ => 0)
 case atStart => exact ⟨rfl, rfl, rfl⟩
 case round =>
  obtain ⟨rfl, rfl, rfl⟩ := hrel
  go_wp2
  go_ret
  exact ⟨by simp [markEnd, sumPs], ButT.refl _ _ _, rfl, fun h => absurd h (by omega)⟩
theorem markRingT_any (A : Option Addr) (n cap : Nat) (L : List Rg) (k : Int) (lo hi : Nat) (w : World) (h : RgsD lo hi w A n cap L) (h0 : 0 ≤ k) (hk : k + 4 * L.length + 4 * sumPs L ≤ 1000000000) (hsm : sumPs L ≤ 1048576) :
  Calls Tryz.prog 31 #[.slice A n cap, k] w (MarkedT k L lo hi A n cap w) := by
 rcases Nat.eq_zero_or_pos n with hn | hn
 ·
  subst hn
  obtain rfl : L = [] := List.length_eq_zero_iff.1 h.1
  exact markRingT_nil A cap k lo hi w
 ·
  obtain ⟨b, rows, rfl, hb, ho, hd⟩ := h.2 hn
  exact markRingT_pos b n cap rows L k lo hi w ho hd h.1 hb h0 hk hsm
set_option maxHeartbeats 400000 in
theorem markStoreT_any (s : St) (A : Option Addr) (n cap : Nat) (k : Int) (lo hi : Nat) (w : World) (h : RgsD lo hi w A n cap s.rs) (hh : hi ≤ w.heap.size) (h0 : 0 ≤ k) (hk : k + 4 * s.rs.length + 4 * sumPs s.rs ≤ 1000000000) (hsm : sumPs s.rs ≤ 1048576) :
  Calls Tryz.prog 14 #[stV s A n cap, k] w (MarkedT k s.rs lo hi A n cap w) := by
 have HK := Lib.hid hk; clear hk
 unfold stV
 go_enter Tryz.func14, Tryz.ntmps14
 go_wp2_with fail
 refine calls_abs (fun W => Below w.heap.size w W) ((Below.refl _ _).alloc (Nat.le_refl _) _) ?_
 rintro W hB
 refine (markRingT_any A n cap s.rs k lo hi _ (h.below hB hh) h0 HK.out hsm).mono ?_
 rintro e w1 ⟨rfl, hb1, hd1⟩
 go_wp2
 go_ret
 exact ⟨rfl, (ButT.of_below hB).trans hb1, hd1⟩
end Go.Proofs.YthpckpnlohfcbaaGreatDoor

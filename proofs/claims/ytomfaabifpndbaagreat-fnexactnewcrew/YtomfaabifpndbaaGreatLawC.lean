/-
  Stores as the laws mark them and look at the marks.
-/
import Derived.Test.YtomfaabifpndbaaGreatLawB
namespace Go.Proofs.YtomfaabifpndbaaGreat
set_option linter.unusedSimpArgs false
set_option linter.unusedVariables false
open Go.RowKit
attribute [local go_sem ↓] Go.wp_at_zero Go.wp_at_succ

/-- What the laws write into a ring, and into rings one behind the other. -/
def markRg (k : Int) (r : Rg) : Rg := ⟨k, k + 1, (k + 1 + 1) % 3 == 0, k + 1 + 1 + 1, marks (k + 1 + 1 + 1 + 1) r.ps.length⟩
def markAt (k : Int) (L : List Rg) (i : Nat) : Int := k + 4 * i + 4 * sumPs (L.take i)
def markRgs (k : Int) (L : List Rg) : List Rg := (List.range L.length).map fun i => markRg (markAt k L i) (L.getD i ⟨0, 0, false, 0, []⟩)
theorem markRgs_len (k : Int) (L : List Rg) : (markRgs k L).length = L.length := by simp [markRgs]
theorem markRgs_at (k : Int) {L : List Rg} {i : Nat} {r : Rg} (h : L[i]? = some r) : (markRgs k L)[i]? = some (markRg (markAt k L i) r) := by
  obtain ⟨hi, e⟩ := List.getElem?_eq_some_iff.1 h
  simp [markRgs, hi, e]
theorem sumPs_append : ∀ (L M : List Rg), sumPs (L ++ M) = sumPs L + sumPs M
  | [], M => by simp [sumPs]
  | r :: L, M => by simp only [List.cons_append, sumPs, sumPs_append L M]; omega
theorem sumPs_take {L : List Rg} {i : Nat} {r : Rg} (h : L[i]? = some r) : sumPs (L.take (i + 1)) = sumPs (L.take i) + r.ps.length := by
  rw [List.take_add_one, h, sumPs_append]
  simp [sumPs]
theorem sumPs_take_le (L : List Rg) (i : Nat) : sumPs (L.take i) ≤ sumPs L := by
  conv => rhs; rw [← List.take_append_drop i L]
  rw [sumPs_append]; omega
theorem markAt_succ {k : Int} {L : List Rg} {i : Nat} {r : Rg} (h : L[i]? = some r) : markAt k L (i + 1) = markAt k L i + 1 + 1 + 1 + 1 + 4 * r.ps.length := by
  unfold markAt; rw [sumPs_take h]; omega
theorem markAt_le {k : Int} {L : List Rg} {i : Nat} (h : i ≤ L.length) : k ≤ markAt k L i ∧ markAt k L i ≤ k + 4 * L.length + 4 * sumPs L := by
  have := sumPs_take_le L i
  unfold markAt; omega
def markEnd (k : Int) (L : List Rg) : Int := k + 4 * L.length + 4 * sumPs L
theorem markAt_end {k : Int} {L : List Rg} : markAt k L L.length = markEnd k L := by simp [markAt, markEnd]

/-- What markRingS does. -/
def MarkedS (k : Int) (L : List Rg) (lo hi : Nat) (A : Option Addr) (n cap : Nat) (w : World) (e : Ending) (w' : World) : Prop :=
  e = .returned (.int .i64 (markEnd k L)) ∧ ButIn lo hi w w' ∧ RgsD lo hi w' A n cap (markRgs k L)

theorem set4 {lo : Nat} {w : World} {b n cap i : Nat} {rows : List Rw} {a : Rw} (h : RwsO lo w b n cap rows) (ha : rows[i]? = some a) (x0 x1 : Int) (x2 : Bool) (x3 : Int) :
    RwsO lo ((((w.setCell ⟨b, i * 5, none⟩ (.int .i64 x0)).setCell ⟨b, i * 5 + 1, none⟩ (.int .i64 x1)).setCell ⟨b, i * 5 + 2, none⟩ (.bool x2)).setCell ⟨b, i * 5 + 3, none⟩ (.int .i64 x3)) b n cap (rows.set i ⟨x0, x1, x2, x3, a.A, a.n, a.cap⟩) := by
  have hi : i < rows.length := (List.getElem?_eq_some_iff.1 ha).1
  have g : ∀ (l : List Rw) (x : Rw), i < l.length → (l.set i x)[i]? = some x := fun l x hl => List.getElem?_set_self hl
  have s0 := Own.set1 h Rw.cs_len (j := 0) (x' := ⟨x0, a.t, a.c, a.x, a.A, a.n, a.cap⟩) (u := .int .i64 x0) ha (by omega) rfl
  have s1 := Own.set1 s0 Rw.cs_len (j := 1) (x' := ⟨x0, x1, a.c, a.x, a.A, a.n, a.cap⟩) (u := .int .i64 x1) (g _ _ hi) (by omega) rfl
  rw [List.set_set] at s1
  have s2 := Own.set1 s1 Rw.cs_len (j := 2) (x' := ⟨x0, x1, x2, a.x, a.A, a.n, a.cap⟩) (u := .bool x2) (g _ _ hi) (by omega) rfl
  rw [List.set_set] at s2
  have s3 := Own.set1 s2 Rw.cs_len (j := 3) (x' := ⟨x0, x1, x2, x3, a.A, a.n, a.cap⟩) (u := .int .i64 x3) (g _ _ hi) (by omega) rfl
  rw [List.set_set] at s3
  exact s3

set_option maxRecDepth 100000 in
set_option maxHeartbeats 2000000 in
theorem markRingS_pos (b n cap : Nat) (rows0 : List Rw) (L : List Rg) (k : Int) (lo hi : Nat) (w : World) (hO0 : RwsO lo w b n cap rows0) (hD0 : DOf lo hi w rows0 L) (hl : L.length = n) (hbh : b < hi) (h0 : 0 ≤ k) (hk : k + 4 * L.length + 4 * sumPs L ≤ 1000000000) (hsm : sumPs L ≤ 1048576) :
    Calls Tryz.prog 71 #[.slice (some ⟨b, 0, none⟩) n cap, .int .i64 k] w (MarkedS k L lo hi (some ⟨b, 0, none⟩) n cap w) := by
  subst hl
  have hlen : L.length = (markRgs k L).length := (markRgs_len k L).symm
  have HL := Lib.hid hlen
  clear hlen
  have HK := Lib.hid hk; clear hk
  have hbl := hO0.2.1
  have hnn : (L.length : Int) ≤ 1000000000 := by have := HK.out; omega
  go_enter Tryz.func71, Tryz.ntmps71
  go_wp2
  go_loopw [1, 5] (fun s1 s5 W => ∃ (i : Nat) (rows : List Rw), i ≤ L.length ∧ s1 = .int .i64 (markAt k L i) ∧ s5 = .int .i64 i ∧ ButIn lo hi w W ∧ RwsO lo W b L.length cap rows ∧ DOf lo hi W rows (over L (markRgs k L) i)) (fun _ s5 _ => L.length - (intOf s5).toNat)
  case atStart => exact ⟨0, rows0, Nat.zero_le _, by simp [markAt, sumPs], rfl, ButIn.refl _ _ _, hO0, by rw [over_zero]; exact hD0⟩
  case round =>
    obtain ⟨i, rows, hi', rfl, rfl, hB, hO, hD⟩ := hrel
    by_cases hlt : i < L.length
    · have hrl : i < rows.length := by have := hO.1; omega
      obtain ⟨a, hra⟩ : ∃ a, rows[i]? = some a := ⟨_, List.getElem?_eq_getElem hrl⟩
      obtain ⟨r, hri⟩ : ∃ r, L[i]? = some r := ⟨_, List.getElem?_eq_getElem hlt⟩
      have hov : (over L (markRgs k L) i)[i]? = some r := by rw [over_at HL.out hlt]; exact hri
      obtain ⟨r', hr', e1, e2, e3, e4, g, hg, hgh, hp⟩ := hD.1 i a hra
      obtain rfl : r = r' := by rw [hov] at hr'; injection hr'
      have hmL := Lib.hid (markAt_le (k := k) (L := L) (i := i + 1) (by omega))
      have hms := Lib.hid (markAt_succ (k := k) hri)
      have hma := Lib.hid (markRgs_at k hri)
      have hov1 := Lib.hid (over_set (l := L) HL.out (markRgs_at k hri))
      have hz0 : 0 ≤ markAt k L i := by have := (markAt_le (k := k) (L := L) (i := i) (by omega)).1; omega
      have hps : r.ps.length = a.n := hp.1
      have hz1 : markAt k L i + 1 + 1 + 1 + 1 + 4 * (a.n : Int) ≤ 1000000000 := by have := hmL.out.2; rw [hms.out] at this; have := HK.out; omega
      generalize markAt k L i = z at *
      have d0 := Own.cell_ Rw.cs_len hO (j := 0) hra rfl
      have d1 := Own.cell_ Rw.cs_len hO (j := 1) hra rfl
      have d2 := Own.cell_ Rw.cs_len hO (j := 2) hra rfl
      have d3 := Own.cell_ Rw.cs_len hO (j := 3) hra rfl
      rw [Nat.add_zero] at d0
      have df := Own.frozen_ hO
      have h1 : (i : Int) < (L.length : Int) := by omega
      have h2 : (0 : Int) ≤ (i : Int) := by omega
      have HRA := Lib.hid hra; clear hra
      have HRI := Lib.hid hri; clear hri
      have HOV := Lib.hid hov; clear hov hr'
      have HPS := Lib.hid hps; clear hps
      have HG := Lib.hid hg; clear hg
      go_upto_region 12 with fail
      refine wp_abs (fun W => But b wr W ∧ RwsO lo W b L.length cap (rows.set i ⟨z, z + 1, (z + 1 + 1) % 3 == 0, z + 1 + 1 + 1, a.A, a.n, a.cap⟩)) ⟨((((But.refl b wr).set _ _).set _ _).set _ _).set _ _, set4 hO HRA.out _ _ _ _⟩ ?_
      clear d0 d1 d2 d3 df
      rintro W ⟨hb1, hO1⟩
      have hra1 : (rows.set i ⟨z, z + 1, (z + 1 + 1) % 3 == 0, z + 1 + 1 + 1, a.A, a.n, a.cap⟩)[i]? = some ⟨z, z + 1, (z + 1 + 1) % 3 == 0, z + 1 + 1 + 1, a.A, a.n, a.cap⟩ := List.getElem?_set_self hrl
      have d4 := Own.cell_ Rw.cs_len hO1 (j := 4) hra1 rfl
      clear hra1
      rw [HG.out] at d4
      obtain ⟨csp, hbp⟩ := own_box hp
      obtain ⟨csb, hbb⟩ := own_box hO
      have hgb : g ≠ b := box_ne hbp hbb (by decide)
      have hp1 : PlsO lo W g a.n a.cap r.ps := Own.keep hp (hb1.block g hbp.lt hgb)
      have han : a.n ≤ 1048576 := by have := sumPs_mem (List.mem_of_getElem? HRI.out); have := HPS.out; omega
      go_wp2_with fail
      refine (markPlaceS_any lo g a.n a.cap r.ps (z + 1 + 1 + 1 + 1) _ hp1 (by omega) (by omega) (by omega)).mono ?_
      rintro e w2 ⟨rfl, hb2, hp2⟩
      clear d4
      go_wp2
      go_roundw
      case rel =>
        refine ⟨i + 1, rows.set i ⟨z, z + 1, (z + 1 + 1) % 3 == 0, z + 1 + 1 + 1, a.A, a.n, a.cap⟩, by omega, by rw [hms.out, HPS.out], by go_num, ?_, ?_, ?_⟩
        · exact (hB.trans (.of_but hb1 hbl hbh)).trans (.of_but hb2 hp.ge hgh)
        · have hbw : b < W.heap.size := Own.lt hO1
          exact Own.keep hO1 (hb2.block b hbw (Ne.symm hgb))
        · rw [← hov1.out]
          refine DOf.turn hD HRA.out HOV.out HG.out (fun j cs hj hjg => ?_) (by rw [HPS.out]; exact hp2)
          have hjb : j ≠ b := box_ne hj hbb (by decide)
          exact (hb2.block j (Nat.lt_of_lt_of_le hj.lt hb1.size) hjg).trans (hb1.block j hj.lt hjb)
      case measure => simp [intOf]; omega
    · have h1 : ¬ (i : Int) < (L.length : Int) := by omega
      obtain rfl : i = L.length := by omega
      go_wp2
      go_ret
      rw [over_all HL.out (Nat.le_refl _)] at hD
      exact ⟨by rw [markAt_end]; rfl, hB, HL.out.symm, fun _ => ⟨b, rows, rfl, hbh, hO, hD⟩⟩

set_option maxHeartbeats 400000 in
theorem markRingS_nil (A : Option Addr) (cap : Nat) (k : Int) (lo hi : Nat) (w : World) :
    Calls Tryz.prog 71 #[.slice A 0 cap, .int .i64 k] w (MarkedS k [] lo hi A 0 cap w) := by
  go_enter Tryz.func71, Tryz.ntmps71
  go_wp2
  go_loopw [1, 5] (fun s1 s5 W => s1 = .int .i64 k ∧ s5 = .int .i64 0 ∧ W = w) (fun _ _ _ => 0)
  case atStart => exact ⟨rfl, rfl, rfl⟩
  case round =>
    obtain ⟨rfl, rfl, rfl⟩ := hrel
    go_wp2
    go_ret
    exact ⟨by simp [markEnd, sumPs], ButIn.refl _ _ _, rfl, fun h => absurd h (by omega)⟩

theorem markRingS_any (A : Option Addr) (n cap : Nat) (L : List Rg) (k : Int) (lo hi : Nat) (w : World) (h : RgsD lo hi w A n cap L) (h0 : 0 ≤ k) (hk : k + 4 * L.length + 4 * sumPs L ≤ 1000000000) (hsm : sumPs L ≤ 1048576) :
    Calls Tryz.prog 71 #[.slice A n cap, .int .i64 k] w (MarkedS k L lo hi A n cap w) := by
  rcases Nat.eq_zero_or_pos n with hn | hn
  · subst hn
    obtain rfl : L = [] := List.length_eq_zero_iff.1 h.1
    exact markRingS_nil A cap k lo hi w
  · obtain ⟨b, rows, rfl, hb, ho, hd⟩ := h.2 hn
    exact markRingS_pos b n cap rows L k lo hi w ho hd h.1 hb h0 hk hsm

set_option maxHeartbeats 400000 in
theorem markStore_any (s : St) (A : Option Addr) (n cap : Nat) (k : Int) (lo hi : Nat) (w : World) (h : RgsD lo hi w A n cap s.rs) (hh : hi ≤ w.heap.size) (h0 : 0 ≤ k) (hk : k + 4 * s.rs.length + 4 * sumPs s.rs ≤ 1000000000) (hsm : sumPs s.rs ≤ 1048576) :
    Calls Tryz.prog 36 #[stV s A n cap, .int .i64 k] w (MarkedS k s.rs lo hi A n cap w) := by
  have HK := Lib.hid hk; clear hk
  unfold stV
  go_enter Tryz.func36, Tryz.ntmps36
  go_wp2_with fail
  refine calls_abs (fun W => Below w.heap.size w W) ((Below.refl _ _).alloc (Nat.le_refl _) _) ?_
  rintro W hB
  refine (markRingS_any A n cap s.rs k lo hi _ (h.below hB hh) h0 HK.out hsm).mono ?_
  rintro e w1 ⟨rfl, hb1, hd1⟩
  go_wp2
  go_ret
  exact ⟨rfl, (ButIn.of_below hB).trans hb1, hd1⟩

set_option maxRecDepth 100000 in
set_option maxHeartbeats 2000000 in
theorem heldRingS_any (A : Option Addr) (n cap : Nat) (L : List Rg) (k : Int) (w : World) (h : RgsR 0 w A n (markRgs k L)) (h0 : 0 ≤ k) (hk : k + 4 * L.length + 4 * sumPs L ≤ 1000000000) (hsm : sumPs L ≤ 1048576) :
    Calls Tryz.prog 72 #[.slice A n cap, .int .i64 k] w (RetBelow (.int .i64 (markEnd k L)) w) := by
  have hl : L.length = n := (markRgs_len k L).symm.trans h.1
  subst hl
  have HK := Lib.hid hk; clear hk
  have hnn : (L.length : Int) ≤ 1000000000 := by have := HK.out; omega
  go_enter Tryz.func72, Tryz.ntmps72
  go_wp2
  go_loopw [1, 5] (fun s1 s5 W => ∃ i : Nat, i ≤ L.length ∧ s1 = .int .i64 (markAt k L i) ∧ s5 = .int .i64 i ∧ Below w.heap.size w W) (fun _ s5 _ => L.length - (intOf s5).toNat)
  case atStart => exact ⟨0, Nat.zero_le _, by simp [markAt, sumPs], rfl, Below.refl _ _⟩
  case round =>
    obtain ⟨i, hi, rfl, rfl, hB⟩ := hrel
    by_cases hlt : i < L.length
    · obtain ⟨b, o, r', rfl, _, hr', A', n', cap', c0, c1, c2, c3, c4, hm, hp⟩ := SlE.at_ (SlE.keep RgE.kept h (fun j _ hj => hB.block j hj)) hlt
      obtain ⟨r, hri⟩ : ∃ r, L[i]? = some r := ⟨_, List.getElem?_eq_getElem hlt⟩
      obtain rfl : markRg (markAt k L i) r = r' := by rw [markRgs_at k hri] at hr'; injection hr'
      have hmL := Lib.hid (markAt_le (k := k) (L := L) (i := i + 1) (by omega))
      have hms := Lib.hid (markAt_succ (k := k) hri)
      have hz0 : 0 ≤ markAt k L i := by have := (markAt_le (k := k) (L := L) (i := i) (by omega)).1; omega
      have hq : r.ps.length = n' := by have := hp.1; simp [markRg, marks_len] at this; exact this
      have hz1 : markAt k L i + 1 + 1 + 1 + 1 + 4 * (n' : Int) ≤ 1000000000 := by have := hmL.out.2; rw [hms.out] at this; have := HK.out; omega
      have hle : n' ≤ 1048576 := by have := sumPs_mem (List.mem_of_getElem? hri); omega
      clear hr'
      generalize markAt k L i = z at *
      have h1 : (i : Int) < (L.length : Int) := by omega
      have h2 : (0 : Int) ≤ (i : Int) := by omega
      have HRI := Lib.hid hri; clear hri
      unfold markRg at c0 c1 c2 c3 hp
      dsimp only at c0 c1 c2 c3 hp
      rw [hq] at hp
      have HQ := Lib.hid hq; clear hq
      go_wp2_with fail
      refine (heldPlaceS_any 0 A' n' cap' (z + 1 + 1 + 1 + 1) _ hp hle (by omega) (by omega)).mono ?_
      rintro e w1 ⟨rfl, hb1⟩
      clear c0 c1 c2 c3 c4
      have h3 : 0 ≤ z + 1 + 1 + 1 + 1 + 4 * (n' : Int) := by omega
      go_wp2
      go_roundw
      case rel => exact ⟨i + 1, by omega, by rw [hms.out, HQ.out], by go_num, bstep hB hB.size hb1⟩
      case measure => simp [intOf]; omega
    · have h1 : ¬ (i : Int) < (L.length : Int) := by omega
      obtain rfl : i = L.length := by omega
      go_wp2
      go_ret
      exact .mk (by rw [markAt_end]; rfl) hB

set_option maxHeartbeats 400000 in
theorem heldStore_any (s t : St) (A : Option Addr) (n cap : Nat) (k : Int) (w : World) (h : RgsR 0 w A n (markRgs k t.rs)) (h0 : 0 ≤ k) (hk : k + 4 * t.rs.length + 4 * sumPs t.rs ≤ 1000000000) (hsm : sumPs t.rs ≤ 1048576) :
    Calls Tryz.prog 38 #[stV s A n cap, .int .i64 k] w (RetBelow (.int .i64 (markEnd k t.rs)) w) := by
  have HK := Lib.hid hk; clear hk
  unfold stV
  go_enter Tryz.func38, Tryz.ntmps38
  go_wp2_with fail
  refine calls_abs (fun W => Below w.heap.size w W) ((Below.refl _ _).alloc (Nat.le_refl _) _) ?_
  rintro W hB
  refine (heldRingS_any A n cap t.rs k _ (h.below hB) h0 HK.out hsm).mono ?_
  rintro e w1 ⟨rfl, hb1⟩
  have hz : 0 ≤ markEnd k t.rs := by unfold markEnd; omega
  generalize markEnd k t.rs = z at *
  go_wp2
  go_ret
  exact .mk rfl (bstep hB hB.size hb1)

end Go.Proofs.YtomfaabifpndbaaGreat

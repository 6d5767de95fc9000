/-
  Crews in the laws' hands: what was marked is held.
-/
import Derived.Test.YtomfaabifpndbaaGreatCrewM
namespace Go.Proofs.YtomfaabifpndbaaGreat
set_option linter.unusedSimpArgs false
set_option linter.unusedVariables false
open Go.RowKit
set_option linter.unusedVariables false
attribute [local go_sem ↓] Go.wp_at_zero Go.wp_at_succ

set_option maxRecDepth 100000 in
set_option maxHeartbeats 4000000 in
theorem heldHandS_any (A : Option Addr) (n cap : Nat) (k : Int) (w : World) (h : HdsR w A n (hmarks k n)) (hn : n ≤ 1048576) (h0 : 0 ≤ k) (hk : k ≤ 1000000000) :
    Calls Tryz.prog 39 #[.slice A n cap, .int .i64 k] w (RetBelow (.int .i64 (k + 12 * n)) w) := by
  go_enter Tryz.func39, Tryz.ntmps39
  go_wp2
  go_loopw [1, 5] (fun s1 s5 W => ∃ i : Nat, i ≤ n ∧ s1 = .int .i64 (k + 12 * i) ∧ s5 = .int .i64 i ∧ Below w.heap.size w W) (fun _ s5 _ => n - (intOf s5).toNat)
  case atStart => exact ⟨0, Nat.zero_le _, by go_num, rfl, Below.refl _ _⟩
  case round =>
    obtain ⟨i, hi, rfl, rfl, hB⟩ := hrel
    by_cases hlt : i < n
    · obtain ⟨b, o, x, rfl, _, hp, hc⟩ := SlE.at_ (SlE.keep HdE.kept h (fun j _ hj => hB.block j hj)) hlt
      obtain rfl : markHd (k + 12 * (i : Int)) = x := by rw [hmarks_at k hlt] at hp; injection hp
      have c0 := hc 0 _ rfl
      have c1 := hc 1 _ rfl
      have c2 := hc 2 _ rfl
      have c3 := hc 3 _ rfl
      have c4 := hc 4 _ rfl
      have c5 := hc 5 _ rfl
      have c6 := hc 6 _ rfl
      have c7 := hc 7 _ rfl
      have c8 := hc 8 _ rfl
      have c9 := hc 9 _ rfl
      have c10 := hc 10 _ rfl
      have c11 := hc 11 _ rfl
      rw [Nat.add_zero] at c0
      simp only [markHd] at c0 c1 c2 c3 c4 c5 c6 c7 c8 c9 c10 c11
      have h1 : (i : Int) < (n : Int) := by omega
      have h2 : (0 : Int) ≤ (i : Int) := by omega
      clear hp
      go_wp2
      go_roundw
      case rel => exact ⟨i + 1, by omega, by go_num, by go_num, hB⟩
      case measure => simp [intOf]; omega
    · have h1 : ¬ (i : Int) < (n : Int) := by omega
      obtain rfl : i = n := by omega
      go_wp2
      go_ret
      exact ⟨rfl, hB⟩

set_option maxRecDepth 100000 in
set_option maxHeartbeats 2000000 in
theorem heldInt64SS_any (A : Option Addr) (n cap : Nat) (L : List (List Int)) (k : Int) (w : World) (hr : LisR w A n (mLs k L)) (hn : n ≤ 1048576) (hs : sumLs L ≤ 1048576) (h0 : 0 ≤ k) (hk : k ≤ 100000000) :
    Calls Tryz.prog 40 #[.slice A n cap, .int .i64 k] w (RetBelow (.int .i64 (k + sumLs L)) w) := by
  have hl : L.length = n := by rw [← mLs_len L k]; exact hr.1
  go_enter Tryz.func40, Tryz.ntmps40
  go_wp2
  go_loopw [1, 5] (fun s1 s5 W => ∃ i : Nat, i ≤ n ∧ s1 = .int .i64 (k + sumLs (L.take i)) ∧ s5 = .int .i64 i ∧ Below w.heap.size w W) (fun _ s5 _ => n - (intOf s5).toNat)
  case atStart => exact ⟨0, Nat.zero_le _, by simp [sumLs], rfl, Below.refl _ _⟩
  case round =>
    obtain ⟨i, hi, rfl, rfl, hB⟩ := hrel
    by_cases hlt : i < n
    · obtain ⟨b, o, r, rfl, _, hri, A', n', cap', c0, hm, hp⟩ := SlE.at_ (SlE.keep LiE.kept hr (fun j _ hj => hB.block j hj)) hlt
      obtain ⟨l, hli⟩ : ∃ l, L[i]? = some l := ⟨L[i]'(by omega), List.getElem?_eq_getElem (by omega)⟩
      obtain rfl : imarks (k + sumLs (L.take i)) l.length = r := by
        have := mLs_at (k := k) hli
        rw [hri] at this
        injection this with this
        exact this.symm
      obtain rfl : l.length = n' := by have := hp.1; rwa [imarks_len] at this
      have h1 : (i : Int) < (n : Int) := by omega
      have h2 : (0 : Int) ≤ (i : Int) := by omega
      rw [Nat.mul_one] at c0
      have hT := sumLs_take hli
      have hle := sumLs_le L (i + 1)
      have hle0 := sumLs_le L i
      have HT := Lib.hid hT
      clear hri hli
      go_wp2_with fail
      refine (heldInt64S_any A' l.length cap' (k + sumLs (L.take i)) _ hp (by omega) (by omega) (by omega)).mono ?_
      rintro e w1 ⟨rfl, hb1⟩
      clear c0 hp
      have e1 : k + (sumLs (L.take i) : Int) + (l.length : Int) = k + sumLs (L.take (i + 1)) := by omega
      rw [e1]
      have h3 : ¬ k + (sumLs (L.take (i + 1)) : Int) < 0 := by omega
      clear e1 hT hle0
      generalize hq : k + (sumLs (L.take (i + 1)) : Int) = q at *
      go_wp2
      go_roundw
      case rel => exact ⟨i + 1, by omega, by rw [hq], by go_num, bstep hB hB.size hb1⟩
      case measure => simp [intOf]; omega
    · have h1 : ¬ (i : Int) < (n : Int) := by omega
      obtain rfl : i = n := by omega
      rw [← hl, List.take_length]
      go_wp2
      go_ret
      exact ⟨rfl, hB⟩

/-! ### A crew: what is left behind the marks, and held -/

def mz1 (k : Int) (c : Cr) : Int := markEnd k c.st.rs
def mz2 (k : Int) (c : Cr) (y : CrL) : Int := mz1 k c + 12 * (y.h.n : Int)
def mz3 (k : Int) (c : Cr) (y : CrL) : Int := mz2 k c y + (sumLs c.js : Int)
def mz4 (k : Int) (c : Cr) (y : CrL) : Int := mz3 k c y + (y.b.n : Int)
def mz5 (k : Int) (c : Cr) (y : CrL) : Int := mz4 k c y + 6 * (y.e.n : Int)
/-- A crew in which all is marked, to be read. -/
structure MkR (k : Int) (w : World) (c : Cr) (y : CrL) : Prop where
  s : RgsR 0 w y.s.A y.s.n (markRgs k c.st.rs)
  h : HdsR w y.h.A y.h.n (hmarks (mz1 k c) y.h.n)
  j : LisR w y.j.A y.j.n (mLs (mz2 k c y) c.js)
  b : IntsR w y.b.A y.b.n (imarks (mz3 k c y) y.b.n)
  e : EvsR w y.e.A y.e.n (emarks (mz4 k c y) y.e.n)

set_option maxRecDepth 100000 in
set_option maxHeartbeats 2000000 in
theorem markCrew_m (c : Cr) (y : CrL) (k : Int) (l0 l1 l2 l3 l4 l5 : Nat) (w : World) (hZ : CrZ w c y l0 l1 l2 l3 l4 l5) (hh : l5 ≤ w.heap.size) (hf : CrFit c) (hs : CrSum c) (h0 : 0 ≤ k) (hk : k ≤ 1000) :
    Calls Tryz.prog 12 #[crV c y, .int .i64 k] w (fun e w' => e = .returned (.int .i64 (mz5 k c y)) ∧ ButIn l0 l5 w w' ∧ MkR k w' c y) := by
  obtain ⟨⟨sA, sN, sK⟩, ⟨hA, hN, hK⟩, ⟨jA, jN, jK⟩, ⟨bA, bN, bK⟩, ⟨eA, eN, eK⟩⟩ := y
  have k0 := hZ.k0; have k1 := hZ.k1; have k2 := hZ.k2; have k3 := hZ.k3; have k4 := hZ.k4
  have e1 : c.st.rs.length = sN := hZ.s.1
  have e2 : c.hs.length = hN := hZ.h.1
  have e3 : c.js.length = jN := hZ.j.toW.len
  have e4 : c.bs.length = bN := hZ.b.1
  have e5 : c.es.length = eN := hZ.e.1
  have m1 := hf.s; have m2 := hf.h; have m3 := hf.j; have m4 := hf.b; have m5 := hf.e; have m6 := hs.s; have m7 := hs.j
  clear hf hs
  unfold crV
  dsimp only
  go_enter Tryz.func12, Tryz.ntmps12
  go_wp2_with fail
  refine calls_abs (fun W => ButIn l0 l5 w W ∧ BoxAt W w.heap.size #[.int .i64 c.st.rd, .int .i64 c.st.mo, .slice sA sN sK, .int .i64 c.st.fi, .int .i64 c.st.la, .slice hA hN hK, .slice jA jN jK, .slice bA bN bK, .int .i64 c.ck, .slice eA eN eK] 31 ∧ CrZ W c (⟨⟨sA, sN, sK⟩, ⟨hA, hN, hK⟩, ⟨jA, jN, jK⟩, ⟨bA, bN, bK⟩, ⟨eA, eN, eK⟩⟩ : CrL) l0 l1 l2 l3 l4 l5) ⟨ButIn.of_below ((Below.refl _ _).alloc (Nat.le_refl _) _), BoxAt.new _ _ _, hZ.below ((Below.refl _ _).alloc (Nat.le_refl _) _) hh⟩ ?_
  clear hZ
  rintro W ⟨hB, hx, hZ⟩
  have hsz := hB.size
  obtain ⟨zs, zh, zj, zb, ze⟩ : RgsD l0 l1 W sA sN sK c.st.rs ∧ HdsW l1 l2 W hA hN hK c.hs ∧ ListsD l2 l3 W jA jN jK c.js ∧ IntsW l3 l4 W bA bN bK c.bs ∧ EvsW l4 l5 W eA eN eK c.es := ⟨hZ.s, hZ.h, hZ.j, hZ.b, hZ.e⟩
  clear hZ
  refine (markStore_any c.st sA sN sK k l0 l1 _ zs (by omega) h0 (by omega) m6).mono ?_
  rintro e w1 ⟨rfl, hb, ms⟩
  replace zh := SlW.keep zh (hb.same (by omega) (by omega))
  replace zj := zj.keep (hb.same (by omega) (by omega))
  replace zb := SlW.keep zb (hb.same (by omega) (by omega))
  replace ze := SlW.keep ze (hb.same (by omega) (by omega))
  replace hx := hb.box hx (.inr (by omega))
  have hs1 := hb.size
  replace hB := hB.trans (ButIn.widen hb (by omega) (by omega))
  clear hb
  obtain ⟨z1, hz1, p1⟩ : ∃ z : Int, markEnd k c.st.rs = z ∧ 0 ≤ z ∧ z ≤ 10000000 := ⟨_, rfl, by unfold markEnd; omega, by unfold markEnd; omega⟩
  rw [hz1]
  replace hz1 := Lib.hid hz1
  have kx := hx.cell
  go_wp2_with fail
  clear kx
  refine (markHandS_w l1 l2 hA hN hK c.hs z1 _ zh (by omega) p1.1 (by omega)).mono ?_
  rintro e w2 ⟨rfl, hb, mh⟩
  replace ms := ms.keep (hb.same (by omega) (by omega))
  replace zj := zj.keep (hb.same (by omega) (by omega))
  replace zb := SlW.keep zb (hb.same (by omega) (by omega))
  replace ze := SlW.keep ze (hb.same (by omega) (by omega))
  replace hx := hb.box hx (.inr (by omega))
  have hs2 := hb.size
  replace hB := hB.trans (ButIn.widen hb (by omega) (by omega))
  clear hb
  obtain ⟨z2, hz2, p2⟩ : ∃ z : Int, z1 + 12 * (hN : Int) = z ∧ 0 ≤ z ∧ z ≤ 60000000 := ⟨_, rfl, by omega, by omega⟩
  rw [hz2]
  replace hz2 := Lib.hid hz2
  have kx := hx.cell
  go_wp2_with fail
  clear kx
  refine (markInt64SS_d l2 l3 jA jN jK c.js z2 _ zj (by omega) (by omega) m7 p2.1 (by omega)).mono ?_
  rintro e w3 ⟨rfl, hb, mj⟩
  replace ms := ms.keep (hb.same (by omega) (by omega))
  replace mh := SlW.keep mh (hb.same (by omega) (by omega))
  replace zb := SlW.keep zb (hb.same (by omega) (by omega))
  replace ze := SlW.keep ze (hb.same (by omega) (by omega))
  replace hx := hb.box hx (.inr (by omega))
  have hs3 := hb.size
  replace hB := hB.trans (ButIn.widen hb (by omega) (by omega))
  clear hb
  obtain ⟨z3, hz3, p3⟩ : ∃ z : Int, z2 + (sumLs c.js : Int) = z ∧ 0 ≤ z ∧ z ≤ 85000000 := ⟨_, rfl, by omega, by omega⟩
  rw [hz3]
  replace hz3 := Lib.hid hz3
  have kx := hx.cell
  go_wp2_with fail
  clear kx
  refine (markInt64S_w l3 l4 bA bN bK c.bs z3 _ zb (by omega) p3.1 (by omega)).mono ?_
  rintro e w4 ⟨rfl, hb, mb⟩
  replace ms := ms.keep (hb.same (by omega) (by omega))
  replace mh := SlW.keep mh (hb.same (by omega) (by omega))
  replace mj := mj.keep (hb.same (by omega) (by omega))
  replace ze := SlW.keep ze (hb.same (by omega) (by omega))
  replace hx := hb.box hx (.inr (by omega))
  have hs4 := hb.size
  replace hB := hB.trans (ButIn.widen hb (by omega) (by omega))
  clear hb
  obtain ⟨z4, hz4, p4⟩ : ∃ z : Int, z3 + (bN : Int) = z ∧ 0 ≤ z ∧ z ≤ 110000000 := ⟨_, rfl, by omega, by omega⟩
  rw [hz4]
  replace hz4 := Lib.hid hz4
  have kx := hx.cell
  go_wp2_with fail
  clear kx
  refine (markEventS_w l4 l5 eA eN eK c.es z4 _ ze (by omega) p4.1 (by omega)).mono ?_
  rintro e w5 ⟨rfl, hb, me⟩
  replace ms := ms.keep (hb.same (by omega) (by omega))
  replace mh := SlW.keep mh (hb.same (by omega) (by omega))
  replace mj := mj.keep (hb.same (by omega) (by omega))
  replace mb := SlW.keep mb (hb.same (by omega) (by omega))
  replace hx := hb.box hx (.inr (by omega))
  have hs5 := hb.size
  replace hB := hB.trans (ButIn.widen hb (by omega) (by omega))
  clear hb
  obtain ⟨z5, hz5, p5⟩ : ∃ z : Int, z4 + 6 * (eN : Int) = z ∧ 0 ≤ z ∧ z ≤ 135000000 := ⟨_, rfl, by omega, by omega⟩
  rw [hz5]
  replace hz5 := Lib.hid hz5
  go_wp2
  go_ret
  have q1 := hz1.out; have q2 := hz2.out; have q3 := hz3.out; have q4 := hz4.out; have q5 := hz5.out
  subst q1; subst q2; subst q3; subst q4; subst q5
  exact ⟨rfl, hB, ⟨ms.r, HdsW.r mh, mj.toW.r, IntsW.r mb, EvsW.r me⟩⟩

set_option maxRecDepth 100000 in
set_option maxHeartbeats 2000000 in
theorem heldCrew_any (c : Cr) (y : CrL) (k : Int) (w : World) (hm : MkR k w c y) (m1 : c.st.rs.length ≤ 1048576) (m2 : y.h.n ≤ 1048576) (m3 : y.j.n ≤ 1048576) (m4 : y.b.n ≤ 1048576) (m5 : y.e.n ≤ 1048576) (hs : CrSum c) (h0 : 0 ≤ k) (hk : k ≤ 1000) :
    Calls Tryz.prog 13 #[crV c y, .int .i64 k] w (RetBelow (.int .i64 (mz5 k c y)) w) := by
  obtain ⟨⟨sA, sN, sK⟩, ⟨hA, hN, hK⟩, ⟨jA, jN, jK⟩, ⟨bA, bN, bK⟩, ⟨eA, eN, eK⟩⟩ := y
  obtain ⟨ms, mh, mj, mb, me⟩ := hm
  dsimp only at ms mh mj mb me m2 m3 m4 m5
  have m6 := hs.s; have m7 := hs.j
  clear hs
  obtain ⟨z1, hz1, p1⟩ : ∃ z : Int, mz1 k c = z ∧ 0 ≤ z ∧ z ≤ 10000000 := ⟨_, rfl, by unfold mz1 markEnd; omega, by unfold mz1 markEnd; omega⟩
  obtain ⟨z2, hz2, p2⟩ : ∃ z : Int, z1 + 12 * (hN : Int) = z ∧ 0 ≤ z ∧ z ≤ 30000000 := ⟨_, rfl, by omega, by omega⟩
  obtain ⟨z3, hz3, p3⟩ : ∃ z : Int, z2 + (sumLs c.js : Int) = z ∧ 0 ≤ z ∧ z ≤ 40000000 := ⟨_, rfl, by omega, by omega⟩
  obtain ⟨z4, hz4, p4⟩ : ∃ z : Int, z3 + (bN : Int) = z ∧ 0 ≤ z ∧ z ≤ 50000000 := ⟨_, rfl, by omega, by omega⟩
  obtain ⟨z5, hz5, p5⟩ : ∃ z : Int, z4 + 6 * (eN : Int) = z ∧ 0 ≤ z ∧ z ≤ 100000000 := ⟨_, rfl, by omega, by omega⟩
  have E2 : mz2 k c (⟨⟨sA, sN, sK⟩, ⟨hA, hN, hK⟩, ⟨jA, jN, jK⟩, ⟨bA, bN, bK⟩, ⟨eA, eN, eK⟩⟩ : CrL) = z2 := by rw [← hz2, ← hz1]; rfl
  have E3 : mz3 k c (⟨⟨sA, sN, sK⟩, ⟨hA, hN, hK⟩, ⟨jA, jN, jK⟩, ⟨bA, bN, bK⟩, ⟨eA, eN, eK⟩⟩ : CrL) = z3 := by rw [← hz3, ← E2]; rfl
  have E4 : mz4 k c (⟨⟨sA, sN, sK⟩, ⟨hA, hN, hK⟩, ⟨jA, jN, jK⟩, ⟨bA, bN, bK⟩, ⟨eA, eN, eK⟩⟩ : CrL) = z4 := by rw [← hz4, ← E3]; rfl
  have E5 : mz5 k c (⟨⟨sA, sN, sK⟩, ⟨hA, hN, hK⟩, ⟨jA, jN, jK⟩, ⟨bA, bN, bK⟩, ⟨eA, eN, eK⟩⟩ : CrL) = z5 := by rw [← hz5, ← E4]; rfl
  rw [hz1] at mh
  rw [E2] at mj
  rw [E3] at mb
  rw [E4] at me
  rw [E5]
  have H1 := Lib.hid (show markEnd k c.st.rs = z1 from hz1)
  have H2 := Lib.hid hz2; have H3 := Lib.hid hz3; have H4 := Lib.hid hz4; have H5 := Lib.hid hz5
  clear hz1 hz2 hz3 hz4 hz5 E2 E3 E4 E5
  have HS := Lib.hid (fun W (hB : Below w.heap.size w W) => RgsR.below ms hB)
  have HH := Lib.hid (fun W (hB : Below w.heap.size w W) => HdsR.below mh hB)
  have HJ := Lib.hid (fun W (hB : Below w.heap.size w W) => LisR.below mj hB)
  have HI := Lib.hid (fun W (hB : Below w.heap.size w W) => IntsR.below mb hB)
  have HE := Lib.hid (fun W (hB : Below w.heap.size w W) => EvsR.below me hB)
  clear ms mh mj mb me
  unfold crV
  dsimp only
  go_enter Tryz.func13, Tryz.ntmps13
  go_wp2_with fail
  refine calls_abs (fun W => Below w.heap.size w W ∧ BoxAt W w.heap.size #[.int .i64 c.st.rd, .int .i64 c.st.mo, .slice sA sN sK, .int .i64 c.st.fi, .int .i64 c.st.la, .slice hA hN hK, .slice jA jN jK, .slice bA bN bK, .int .i64 c.ck, .slice eA eN eK] 31) ⟨(Below.refl _ _).alloc (Nat.le_refl _) _, BoxAt.new _ _ _⟩ ?_
  rintro W ⟨hB, hx⟩
  refine (heldStore_any c.st c.st sA sN sK k _ (HS.out _ hB) h0 (by omega) m6).mono ?_
  rw [H1.out]
  rintro e w1 ⟨rfl, hb⟩
  replace hx := hx.below hb hx.lt
  replace hB := bstep hB hB.size hb
  clear hb
  have kx := hx.cell
  go_wp2_with fail
  clear kx
  refine (heldHandS_any hA hN hK z1 _ (HH.out _ hB) m2 p1.1 (by omega)).mono ?_
  rw [H2.out]
  rintro e w2 ⟨rfl, hb⟩
  replace hx := hx.below hb hx.lt
  replace hB := bstep hB hB.size hb
  clear hb
  have kx := hx.cell
  go_wp2_with fail
  clear kx
  refine (heldInt64SS_any jA jN jK c.js z2 _ (HJ.out _ hB) m3 m7 p2.1 (by omega)).mono ?_
  rw [H3.out]
  rintro e w3 ⟨rfl, hb⟩
  replace hx := hx.below hb hx.lt
  replace hB := bstep hB hB.size hb
  clear hb
  have kx := hx.cell
  go_wp2_with fail
  clear kx
  refine (heldInt64S_any bA bN bK z3 _ (HI.out _ hB) (by omega) p3.1 (by omega)).mono ?_
  rw [H4.out]
  rintro e w4 ⟨rfl, hb⟩
  replace hx := hx.below hb hx.lt
  replace hB := bstep hB hB.size hb
  clear hb
  have kx := hx.cell
  go_wp2_with fail
  clear kx
  refine (heldEventS_any eA eN eK z4 _ (HE.out _ hB) m5 p4.1 (by omega)).mono ?_
  rw [H5.out]
  rintro e w5 ⟨rfl, hb⟩
  replace hx := hx.below hb hx.lt
  replace hB := bstep hB hB.size hb
  clear hb
  go_wp2
  go_ret
  exact ⟨rfl, hB⟩

end Go.Proofs.YtomfaabifpndbaaGreat

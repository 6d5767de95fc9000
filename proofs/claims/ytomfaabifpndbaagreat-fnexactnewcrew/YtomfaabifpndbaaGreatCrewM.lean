/-
  Crews in the laws' hands: marked; lists of events held.
-/
import Derived.Test.YtomfaabifpndbaaGreatCrewL
import Derived.Test.YtomfaabifpndbaaGreatLawC
namespace Go.Proofs.YtomfaabifpndbaaGreat
set_option linter.unusedSimpArgs false
set_option linter.unusedVariables false
open Go.RowKit
set_option linter.unusedVariables false
attribute [local go_sem ↓] Go.wp_at_zero Go.wp_at_succ

/-- What the laws write into a hand, and into hands one behind the other. -/
def markHd (k : Int) : Hd := ⟨k, k + 1, k + 1 + 1, k + 1 + 1 + 1, ⟨(k + 1 + 1 + 1 + 1) % 3 == 0, k + 1 + 1 + 1 + 1 + 1, (k + 1 + 1 + 1 + 1 + 1 + 1) % 3 == 0, k + 1 + 1 + 1 + 1 + 1 + 1 + 1⟩, k + 1 + 1 + 1 + 1 + 1 + 1 + 1 + 1, k + 1 + 1 + 1 + 1 + 1 + 1 + 1 + 1 + 1, (k + 1 + 1 + 1 + 1 + 1 + 1 + 1 + 1 + 1 + 1) % 3 == 0, k + 1 + 1 + 1 + 1 + 1 + 1 + 1 + 1 + 1 + 1 + 1⟩
def hmarks (k : Int) (n : Nat) : List Hd := (List.range n).map fun (i : Nat) => markHd (k + 12 * (i : Int))
theorem hmarks_len (k : Int) (n : Nat) : (hmarks k n).length = n := by simp [hmarks]
theorem hmarks_at (k : Int) {n i : Nat} (h : i < n) : (hmarks k n)[i]? = some (markHd (k + 12 * i)) := by simp [hmarks, h]

set_option maxRecDepth 100000 in
set_option maxHeartbeats 4000000 in
theorem markHandS_own (N g n cap : Nat) (l : List Hd) (k : Int) (w : World) (h : Own Hd.cs 12 58 N w g n cap l) (hn : n ≤ 1048576) (h0 : 0 ≤ k) (hk : k ≤ 1000000000) :
    Calls Tryz.prog 37 #[.slice (some ⟨g, 0, none⟩) n cap, .int .i64 k] w (fun e w' => e = .returned (.int .i64 (k + 12 * n)) ∧ But g w w' ∧ Own Hd.cs 12 58 N w' g n cap (hmarks k n)) := by
  have hlen : l.length = (hmarks k n).length := by rw [hmarks_len]; exact h.1
  have HL := Lib.hid hlen
  have hln := h.1
  obtain rfl : l.length = n := hln
  clear hlen
  go_enter Tryz.func37, Tryz.ntmps37
  go_wp2
  go_loopw [1, 5] (fun s1 s5 W => ∃ i : Nat, i ≤ l.length ∧ s1 = .int .i64 (k + 12 * i) ∧ s5 = .int .i64 i ∧ But g w W ∧ Own Hd.cs 12 58 N W g l.length cap (over l (hmarks k l.length) i)) (fun _ s5 _ => l.length - (intOf s5).toNat)
  case atStart => exact ⟨0, Nat.zero_le _, by go_num, rfl, But.refl _ _, by rw [over_zero]; exact h⟩
  case round =>
    obtain ⟨i, hi, rfl, rfl, hB, hO⟩ := hrel
    by_cases hlt : i < l.length
    · have hx : (over l (hmarks k l.length) i)[i]? = some l[i] := by rw [over_at HL.out hlt]; exact List.getElem?_eq_getElem hlt
      have d0 := Own.cell_ Hd.cs_len hO (j := 0) hx rfl
      have d1 := Own.cell_ Hd.cs_len hO (j := 1) hx rfl
      have d2 := Own.cell_ Hd.cs_len hO (j := 2) hx rfl
      have d3 := Own.cell_ Hd.cs_len hO (j := 3) hx rfl
      have d4 := Own.cell_ Hd.cs_len hO (j := 4) hx rfl
      have d5 := Own.cell_ Hd.cs_len hO (j := 5) hx rfl
      have d6 := Own.cell_ Hd.cs_len hO (j := 6) hx rfl
      have d7 := Own.cell_ Hd.cs_len hO (j := 7) hx rfl
      have d8 := Own.cell_ Hd.cs_len hO (j := 8) hx rfl
      have d9 := Own.cell_ Hd.cs_len hO (j := 9) hx rfl
      have d10 := Own.cell_ Hd.cs_len hO (j := 10) hx rfl
      have d11 := Own.cell_ Hd.cs_len hO (j := 11) hx rfl
      rw [Nat.add_zero] at d0
      have df := Own.frozen_ hO
      have h1 : (i : Int) < (l.length : Int) := by omega
      have h2 : (0 : Int) ≤ (i : Int) := by omega
      have HX := Lib.hid hx; clear hx
      go_wp2
      go_roundw
      case rel =>
        refine ⟨i + 1, by omega, by go_num, by go_num, ?_, ?_⟩
        · exact But.setCells (markHd (k + 12 * i)).cs (i * 12) hB
        · have := Own.setEl hO Hd.cs_len (by omega) hlt (markHd (k + 12 * i))
          rw [over_set HL.out (hmarks_at k hlt)] at this
          exact this
      case measure => simp [intOf]; omega
    · have h1 : ¬ (i : Int) < (l.length : Int) := by omega
      obtain rfl : i = l.length := by omega
      go_wp2
      go_ret
      rw [over_all HL.out (Nat.le_refl _)] at hO
      exact ⟨rfl, hB, hO⟩

set_option maxHeartbeats 1000000 in
/-- What markHandS does with hands of the call's own. -/
theorem markHandS_w (lo hi : Nat) (A : Option Addr) (n cap : Nat) (l : List Hd) (k : Int) (w : World) (h : HdsW lo hi w A n cap l) (hn : n ≤ 1048576) (h0 : 0 ≤ k) (hk : k ≤ 1000000000) :
    Calls Tryz.prog 37 #[.slice A n cap, .int .i64 k] w (fun e w' => e = .returned (.int .i64 (k + 12 * n)) ∧ ButIn lo hi w w' ∧ HdsW lo hi w' A n cap (hmarks k n)) := by
  rcases Nat.eq_zero_or_pos n with hz | hz
  · subst hz
    go_enter Tryz.func37, Tryz.ntmps37
    go_wp2
    go_loopw [1, 5] (fun s1 s5 W => s1 = .int .i64 k ∧ s5 = .int .i64 0 ∧ W = w) (fun _ _ _ => 0)
    case atStart => exact ⟨rfl, rfl, rfl⟩
    case round =>
      obtain ⟨rfl, rfl, rfl⟩ := hrel
      go_wp2
      go_ret
      obtain rfl := List.eq_nil_of_length_eq_zero h.1
      exact ⟨by simp, ButIn.refl _ _ _, h⟩
  · obtain ⟨g, rfl, hlo, hhi, ho⟩ := SlW.at0 h hz
    refine (markHandS_own lo g n cap l k w ho hn h0 hk).mono ?_
    rintro e w' ⟨rfl, hb, hO⟩
    exact ⟨rfl, ButIn.of_but hb hlo hhi, hO.1, .inr ⟨g, rfl, hhi, hO⟩⟩

set_option maxHeartbeats 2000000 in
theorem heldEventS_any (A : Option Addr) (n cap : Nat) (k : Int) (w : World) (h : EvsR w A n (emarks k n)) (hn : n ≤ 1048576) (h0 : 0 ≤ k) (hk : k ≤ 1000000000) :
    Calls Tryz.prog 20 #[.slice A n cap, .int .i64 k] w (RetBelow (.int .i64 (k + 6 * n)) w) := by
  go_enter Tryz.func20, Tryz.ntmps20
  go_wp2
  go_loopw [1, 5] (fun s1 s5 W => ∃ i : Nat, i ≤ n ∧ s1 = .int .i64 (k + 6 * i) ∧ s5 = .int .i64 i ∧ Below w.heap.size w W) (fun _ s5 _ => n - (intOf s5).toNat)
  case atStart => exact ⟨0, Nat.zero_le _, by go_num, rfl, Below.refl _ _⟩
  case round =>
    obtain ⟨i, hi, rfl, rfl, hB⟩ := hrel
    by_cases hlt : i < n
    · obtain ⟨b, o, x, rfl, _, hp, hc⟩ := SlE.at_ (SlE.keep EvE.kept h (fun j _ hj => hB.block j hj)) hlt
      obtain rfl : markEv (k + 6 * (i : Int)) = x := by rw [emarks_at k hlt] at hp; injection hp
      obtain ⟨c0, c1, c2, c3, c4, c5⟩ := hc
      simp only [markEv] at c0 c1 c2 c3 c4 c5
      have h1 : (i : Int) < (n : Int) := by omega
      have h2 : (0 : Int) ≤ (i : Int) := by omega
      clear hp
      go_wp2
      go_roundw
      case rel => exact ⟨i + 1, by omega, by go_num, by go_num, hB⟩
      case measure => simp [intOf]; omega
    · have h1 : ¬ (i : Int) < (n : Int) := by omega
      obtain rfl : i = n := by omega
      go_wp2
      go_ret
      exact ⟨rfl, hB⟩

/-! ### Lists of lists -/

theorem SlW.keepB {α : Type} {f : α → List Value} {k : Nat} {e : TypeId} {lo hi : Nat} {w w' : World} {A : Option Addr} {n cap : Nat} {l : List α} (h : SlW f k e lo hi w A n cap l) (hs : ∀ g, A = some ⟨g, 0, none⟩ → w'.heap[g]? = w.heap[g]?) : SlW f k e lo hi w' A n cap l :=
  ⟨h.1, by
    rcases h.2 with h2 | ⟨g, eq, hb, ho⟩
    · exact .inl h2
    · exact .inr ⟨g, eq, hb, Own.keep ho (hs g eq)⟩⟩
theorem markInt64S_b (lo hi : Nat) (A : Option Addr) (n cap : Nat) (l : List Int) (k : Int) (w : World) (h : IntsW lo hi w A n cap l) (hn : n ≤ 1073741824) (h0 : 0 ≤ k) (hk : k ≤ 1000000000) :
    Calls Tryz.prog 35 #[.slice A n cap, .int .i64 k] w (fun e w' => e = .returned (.int .i64 (k + n)) ∧ ButIn lo hi w w' ∧ (∀ j, j < w.heap.size → A ≠ some ⟨j, 0, none⟩ → w'.heap[j]? = w.heap[j]?) ∧ IntsW lo hi w' A n cap (imarks k n)) := by
  rcases Nat.eq_zero_or_pos n with hz | hz
  · subst hz
    go_enter Tryz.func35, Tryz.ntmps35
    go_wp2
    go_loopw [1, 5] (fun s1 s5 W => s1 = .int .i64 k ∧ s5 = .int .i64 0 ∧ W = w) (fun _ _ _ => 0)
    case atStart => exact ⟨rfl, rfl, rfl⟩
    case round =>
      obtain ⟨rfl, rfl, rfl⟩ := hrel
      go_wp2
      go_ret
      obtain rfl := List.eq_nil_of_length_eq_zero h.1
      exact ⟨by simp, ButIn.refl _ _ _, fun _ _ _ => rfl, h⟩
  · obtain ⟨g, rfl, hlo, hhi, ho⟩ := SlW.at0 h hz
    refine (markInt64S_own lo g n cap l k w ho hn h0 hk).mono ?_
    rintro e w' ⟨rfl, hb, hO⟩
    exact ⟨rfl, ButIn.of_but hb hlo hhi, fun j hj hne => hb.block j hj (fun e => hne (by rw [e])), hO.1, .inr ⟨g, rfl, hhi, hO⟩⟩
def mLs (k : Int) : List (List Int) → List (List Int)
  | [] => []
  | l :: L => imarks k l.length :: mLs (k + l.length) L
theorem mLs_len : ∀ (L : List (List Int)) (k : Int), (mLs k L).length = L.length
  | [], _ => rfl
  | l :: L, k => by simp [mLs, mLs_len L]
theorem mLs_at : ∀ {L : List (List Int)} {k : Int} {i : Nat} {l : List Int}, L[i]? = some l → (mLs k L)[i]? = some (imarks (k + sumLs (L.take i)) l.length)
  | [], _, _, _, h => by simp at h
  | x :: L, k, 0, l, h => by simp at h; subst h; simp [mLs, sumLs]
  | x :: L, k, i + 1, l, h => by
    simp at h
    have := mLs_at (k := k + x.length) h
    simp only [mLs, List.getElem?_cons_succ, List.take_succ_cons, sumLs]
    rw [this]
    congr 2
    omega
theorem sumLs_take : ∀ {L : List (List Int)} {i : Nat} {l : List Int}, L[i]? = some l → sumLs (L.take (i + 1)) = sumLs (L.take i) + l.length
  | [], _, _, h => by simp at h
  | x :: L, 0, l, h => by simp at h; subst h; simp [sumLs]
  | x :: L, i + 1, l, h => by
    simp at h
    have := sumLs_take h
    simp only [List.take_succ_cons, sumLs]
    omega
theorem sumLs_le : ∀ (L : List (List Int)) (i : Nat), sumLs (L.take i) ≤ sumLs L
  | [], _ => by simp
  | x :: L, 0 => by simp [sumLs]
  | x :: L, i + 1 => by have := sumLs_le L i; simp only [List.take_succ_cons, sumLs]; omega

set_option maxRecDepth 100000 in
set_option maxHeartbeats 2000000 in
theorem markInt64SS_d (lo hi : Nat) (A : Option Addr) (n cap : Nat) (L : List (List Int)) (k : Int) (w : World) (h : ListsD lo hi w A n cap L) (hh : hi ≤ w.heap.size) (hn : n ≤ 1048576) (hs : sumLs L ≤ 1048576) (h0 : 0 ≤ k) (hk : k ≤ 100000000) :
    Calls Tryz.prog 11 #[.slice A n cap, .int .i64 k] w (fun e w' => e = .returned (.int .i64 (k + sumLs L)) ∧ ButIn lo hi w w' ∧ ListsD lo hi w' A n cap (mLs k L)) := by
  obtain ⟨rows, hr, hE, hAp⟩ := h
  have hrn : rows.length = n := hr.1
  have hLn : L.length = n := by rw [← hE.1]; exact hrn
  have HML := Lib.hid (mLs_len L k).symm
  have HLN := Lib.hid hLn
  have HRN := Lib.hid hrn
  have HAP := Lib.hid hAp
  clear hrn hLn hAp
  go_enter Tryz.func11, Tryz.ntmps11
  go_wp2
  go_loopw [1, 5] (fun s1 s5 W => ∃ (i : Nat) (z : Int), i ≤ n ∧ s1 = .int .i64 z ∧ z = k + sumLs (L.take i) ∧ s5 = .int .i64 i ∧ ButIn lo hi w W ∧ SlW Jw.cs 1 28 lo hi W A n cap rows ∧ EachW lo hi W rows (over L (mLs k L) i)) (fun _ s5 _ => n - (intOf s5).toNat)
  case atStart => exact ⟨0, k, Nat.zero_le _, rfl, by simp [sumLs], rfl, ButIn.refl _ _ _, hr, by rw [over_zero]; exact hE⟩
  case round =>
    clear hr hE
    obtain ⟨i, z, hi_, rfl, hz, rfl, hB, hr, hE⟩ := hrel
    have hzs := sumLs_le L i
    have hz0 : 0 ≤ z ∧ z ≤ 200000000 := by omega
    have HZ := Lib.hid hz; clear hz
    by_cases hlt : i < n
    · have hlL : i < L.length := by rw [HLN.out]; exact hlt
      obtain ⟨b, a, rfl, hlb, hbh, ha, hc⟩ := SlW.at_ hr Jw.cs_len hlt
      have c0 := hc 0 _ rfl
      rw [Nat.add_zero, Nat.mul_one] at c0
      obtain ⟨l, hl⟩ : ∃ l, L[i]? = some l := ⟨_, List.getElem?_eq_getElem hlL⟩
      have hov : (over L (mLs k L) i)[i]? = some l := by rw [over_at HML.out hlL]; exact hl
      have hIl := hE.2 i a l ha hov
      have hle : a.n ≤ 1048576 := by have h1 := sumLs_mem (List.mem_of_getElem? hl); have h2 := hIl.1; omega
      have HA := Lib.hid ha
      have HLi := Lib.hid hl
      clear hc hov ha hl
      have h1 : (i : Int) < (n : Int) := by omega
      have h2 : (0 : Int) ≤ (i : Int) := by omega
      go_wp2_with fail
      refine (markInt64S_b lo hi a.A a.n a.cap l z _ hIl (by omega) hz0.1 (by omega)).mono ?_
      rintro e w1 ⟨rfl, hb1, hbl, hI1⟩
      clear c0
      go_wp2
      go_roundw
      case rel =>
        have hs1 := sumLs_take HLi.out
        have hbw : b < wr.heap.size := by
          rcases hr.2 with ⟨h3, _⟩ | ⟨g, h3, _, ho⟩
          · cases h3
          · injection h3 with h3; injection h3 with h3; subst h3; exact Own.lt ho
        have htb : ∀ g, a.A = some ⟨g, 0, none⟩ → g ≠ b := fun g hg => by
          rcases hIl.2 with ⟨h3, _⟩ | ⟨g', h3, _, ho⟩
          · rw [h3] at hg; cases hg
          · rw [h3] at hg
            injection hg with hg; injection hg with hg; subst hg
            obtain ⟨_, _, _, _, cur, hcb, _⟩ := ho
            rcases hr.2 with ⟨h4, _⟩ | ⟨g2, h4, _, ho2⟩
            · cases h4
            · injection h4 with h4; injection h4 with h4; subst h4
              obtain ⟨_, _, _, _, cur2, hcb2, _⟩ := ho2
              exact box_ne hcb hcb2 (by decide)
        refine ⟨i + 1, z + a.n, by omega, by go_num, ?_, by go_num, hB.trans hb1, ?_, ?_⟩
        · rw [HZ.out, hs1, ← hIl.1]; push_cast; omega
        · exact hr.keepB fun g hg => by
            injection hg with hg; injection hg with hg; subst hg
            exact hbl b hbw fun e => htb b e rfl
        · rw [← over_set HML.out (mLs_at HLi.out)]
          refine ⟨by rw [List.length_set]; exact hE.1, fun j x l' hx hl' => ?_⟩
          by_cases hj : i = j
          · subst hj
            rw [HA.out] at hx
            injection hx with hx
            subst hx
            have hlen : i < (over L (mLs k L) i).length := by rw [← hE.1, HRN.out]; exact hlt
            rw [List.getElem?_set_self hlen] at hl'
            injection hl' with hl'
            subst hl'
            rw [← HZ.out, hIl.1]
            exact hI1
          · rw [List.getElem?_set_ne hj] at hl'
            refine SlW.keepB (hE.2 j x l' hx hl') fun g hg => hbl g ?_ (fun e => HAP.out i j a x HA.out hx hj g e hg)
            rcases (hE.2 j x l' hx hl').2 with ⟨h3, _⟩ | ⟨g', h3, _, ho⟩
            · rw [h3] at hg; cases hg
            · rw [h3] at hg; injection hg with hg; injection hg with hg; subst hg; exact Own.lt ho
      case measure => simp [intOf]; omega
    · have h1 : ¬ (i : Int) < (n : Int) := by omega
      obtain rfl : i = n := by omega
      have e1 : L.take i = L := List.take_of_length_le (by rw [HLN.out]; exact Nat.le_refl _)
      have HE := Lib.hid (show z = k + sumLs L by rw [HZ.out, e1])
      rw [over_all HML.out (by rw [HLN.out]; exact Nat.le_refl _)] at hE
      clear e1
      go_wp2
      go_ret
      exact ⟨by rw [HE.out]; rfl, hB, rows, hr, hE, HAP.out⟩

/-! ### A crew -/

theorem ButIn.widen {lo hi lo' hi' : Nat} {w w' : World} (h : ButIn lo hi w w') (h1 : lo' ≤ lo) (h2 : hi ≤ hi') : ButIn lo' hi' w w' := ⟨h.os, h.tape, h.output, h.size, fun j hj hk => h.block j hj (by omega)⟩

set_option maxRecDepth 100000 in
set_option maxHeartbeats 2000000 in
theorem markCrew_z (c : Cr) (y : CrL) (k : Int) (l0 l1 l2 l3 l4 l5 : Nat) (w : World) (hZ : CrZ w c y l0 l1 l2 l3 l4 l5) (hh : l5 ≤ w.heap.size) (hf : CrFit c) (hs : CrSum c) (h0 : 0 ≤ k) (hk : k ≤ 1000) :
    Calls Tryz.prog 12 #[crV c y, .int .i64 k] w (fun e w' => ∃ z : Int, e = .returned (.int .i64 z) ∧ 0 ≤ z ∧ ButIn l0 l5 w w') := by
  obtain ⟨⟨sA, sN, sK⟩, ⟨hA, hN, hK⟩, ⟨jA, jN, jK⟩, ⟨bA, bN, bK⟩, ⟨eA, eN, eK⟩⟩ := y
  have k0 := hZ.k0; have k1 := hZ.k1; have k2 := hZ.k2; have k3 := hZ.k3; have k4 := hZ.k4
  have e1 : c.st.rs.length = sN := hZ.s.1
  have e2 : c.hs.length = hN := hZ.h.1
  have e3 : c.js.length = jN := hZ.j.toW.len
  have e4 : c.bs.length = bN := hZ.b.1
  have e5 : c.es.length = eN := hZ.e.1
  have m1 := hf.s; have m2 := hf.h; have m3 := hf.j; have m4 := hf.b; have m5 := hf.e; have m6 := hs.s; have m7 := hs.j
  clear hf hs
  unfold crV
  dsimp only
  go_enter Tryz.func12, Tryz.ntmps12
  go_wp2_with fail
  refine calls_abs (fun W => ButIn l0 l5 w W ∧ BoxAt W w.heap.size #[.int .i64 c.st.rd, .int .i64 c.st.mo, .slice sA sN sK, .int .i64 c.st.fi, .int .i64 c.st.la, .slice hA hN hK, .slice jA jN jK, .slice bA bN bK, .int .i64 c.ck, .slice eA eN eK] 31 ∧ CrZ W c (⟨⟨sA, sN, sK⟩, ⟨hA, hN, hK⟩, ⟨jA, jN, jK⟩, ⟨bA, bN, bK⟩, ⟨eA, eN, eK⟩⟩ : CrL) l0 l1 l2 l3 l4 l5) ⟨ButIn.of_below ((Below.refl _ _).alloc (Nat.le_refl _) _), BoxAt.new _ _ _, hZ.below ((Below.refl _ _).alloc (Nat.le_refl _) _) hh⟩ ?_
  clear hZ
  rintro W ⟨hB, hx, hZ⟩
  have hsz := hB.size
  obtain ⟨zs, zh, zj, zb, ze⟩ : RgsD l0 l1 W sA sN sK c.st.rs ∧ HdsW l1 l2 W hA hN hK c.hs ∧ ListsD l2 l3 W jA jN jK c.js ∧ IntsW l3 l4 W bA bN bK c.bs ∧ EvsW l4 l5 W eA eN eK c.es := ⟨hZ.s, hZ.h, hZ.j, hZ.b, hZ.e⟩
  clear hZ
  refine (markStore_any c.st sA sN sK k l0 l1 _ zs (by omega) h0 (by omega) m6).mono ?_
  rintro e w1 ⟨rfl, hb, _⟩
  replace zh := SlW.keep zh (hb.same (.inr (by omega)) (by omega))
  replace zj := zj.keep (hb.same (.inr (by omega)) (by omega))
  replace zb := SlW.keep zb (hb.same (.inr (by omega)) (by omega))
  replace ze := SlW.keep ze (hb.same (.inr (by omega)) (by omega))
  replace hx := hb.box hx (.inr (by omega))
  have hs1 := hb.size
  replace hB := hB.trans (ButIn.widen hb (by omega) (by omega))
  clear hb
  obtain ⟨z1, hz1, p1⟩ : ∃ z : Int, markEnd k c.st.rs = z ∧ 0 ≤ z ∧ z ≤ 10000000 := ⟨_, rfl, by unfold markEnd; omega, by unfold markEnd; omega⟩
  rw [hz1]
  clear hz1
  have kx := hx.cell
  go_wp2_with fail
  clear kx
  refine (markHandS_w l1 l2 hA hN hK c.hs z1 _ zh (by omega) p1.1 (by omega)).mono ?_
  rintro e w2 ⟨rfl, hb, _⟩
  replace zj := zj.keep (hb.same (.inr (by omega)) (by omega))
  replace zb := SlW.keep zb (hb.same (.inr (by omega)) (by omega))
  replace ze := SlW.keep ze (hb.same (.inr (by omega)) (by omega))
  replace hx := hb.box hx (.inr (by omega))
  have hs2 := hb.size
  replace hB := hB.trans (ButIn.widen hb (by omega) (by omega))
  clear hb
  obtain ⟨z2, hz2, p2⟩ : ∃ z : Int, z1 + 12 * (hN : Int) = z ∧ 0 ≤ z ∧ z ≤ 60000000 := ⟨_, rfl, by omega, by omega⟩
  rw [hz2]
  clear hz2
  have kx := hx.cell
  go_wp2_with fail
  clear kx
  refine (markInt64SS_d l2 l3 jA jN jK c.js z2 _ zj (by omega) (by omega) m7 p2.1 (by omega)).mono ?_
  rintro e w3 ⟨rfl, hb, _⟩
  replace zb := SlW.keep zb (hb.same (.inr (by omega)) (by omega))
  replace ze := SlW.keep ze (hb.same (.inr (by omega)) (by omega))
  replace hx := hb.box hx (.inr (by omega))
  have hs3 := hb.size
  replace hB := hB.trans (ButIn.widen hb (by omega) (by omega))
  clear hb
  obtain ⟨z3, hz3, p3⟩ : ∃ z : Int, z2 + (sumLs c.js : Int) = z ∧ 0 ≤ z ∧ z ≤ 85000000 := ⟨_, rfl, by omega, by omega⟩
  rw [hz3]
  clear hz3
  have kx := hx.cell
  go_wp2_with fail
  clear kx
  refine (markInt64S_w l3 l4 bA bN bK c.bs z3 _ zb (by omega) p3.1 (by omega)).mono ?_
  rintro e w4 ⟨rfl, hb, _⟩
  replace ze := SlW.keep ze (hb.same (.inr (by omega)) (by omega))
  replace hx := hb.box hx (.inr (by omega))
  have hs4 := hb.size
  replace hB := hB.trans (ButIn.widen hb (by omega) (by omega))
  clear hb
  obtain ⟨z4, hz4, p4⟩ : ∃ z : Int, z3 + (bN : Int) = z ∧ 0 ≤ z ∧ z ≤ 110000000 := ⟨_, rfl, by omega, by omega⟩
  rw [hz4]
  clear hz4
  have kx := hx.cell
  go_wp2_with fail
  clear kx
  refine (markEventS_w l4 l5 eA eN eK c.es z4 _ ze (by omega) p4.1 (by omega)).mono ?_
  rintro e w5 ⟨rfl, hb, _⟩
  replace hx := hb.box hx (.inr (by omega))
  have hs5 := hb.size
  replace hB := hB.trans (ButIn.widen hb (by omega) (by omega))
  clear hb
  obtain ⟨z5, hz5, p5⟩ : ∃ z : Int, z4 + 6 * (eN : Int) = z ∧ 0 ≤ z ∧ z ≤ 135000000 := ⟨_, rfl, by omega, by omega⟩
  rw [hz5]
  clear hz5
  go_wp2
  go_ret
  exact ⟨_, rfl, p5.1, hB⟩

end Go.Proofs.YtomfaabifpndbaaGreat

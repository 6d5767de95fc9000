/-
 Stores as the laws read, measure and compare them.
-/
import Derived.Test.YthpckpnlohfcbaaGreatDoorStoreA
namespace Go.Proofs.YthpckpnlohfcbaaGreatDoor
set_option linter.unusedSimpArgs false
set_option linter.unusedVariables false
open Go.RowKit
attribute [local go_sem ↓] Go.wp_at_zero Go.wp_at_succ
def RgE (N : Nat) (w : World) (b o : Nat) (r : Rg) : Prop :=
 ∃ A n cap, w.cell? ⟨b, o, none⟩ = some (.int .i64 r.h) ∧ w.cell? ⟨b, o + 1, none⟩ = some (.int .i64 r.t) ∧ w.cell? ⟨b, o + 2, none⟩ = some (.bool r.c) ∧ w.cell? ⟨b, o + 3, none⟩ = some (.int .i64 r.x) ∧
  w.cell? ⟨b, o + 4, none⟩ = some (.slice A n cap) ∧ n ≤ maxLen ∧ PlsR N w A n r.ps
theorem RgE.kept : Kept RgE := fun _ _ _ _ _ _ hb hs ⟨A, n, cap, h0, h1, h2, h3, h4, hm, hp⟩ =>
 ⟨A, n, cap, hs.cell hb h0, hs.cell hb h1, hs.cell hb h2, hs.cell hb h3, hs.cell hb h4, hm, SlE.keep PlE.kept hp hs⟩
def RgsR (N : Nat) (w : World) (A : Option Addr) (n : Nat) (L : List Rg) : Prop := SlE RgE 5 N w A n L
theorem RgsR.below {N : Nat} {w w' : World} {A : Option Addr} {n : Nat} {L : List Rg} (h : RgsR N w A n L) (hb : Below w.heap.size w w') : RgsR N w' A n L := SlE.below RgE.kept h hb
theorem PlsW.le {lo hi : Nat} {w : World} {A : Option Addr} {n cap : Nat} {l : List Pl} (h : PlsW lo hi w A n cap l) : n ≤ maxLen := by
 rcases Nat.eq_zero_or_pos n with h0 | h0
 · omega
 ·
  obtain ⟨b, _, _, ho⟩ := h.2 h0
  exact Nat.le_trans ho.2.2.1 ho.2.2.2.1
theorem RgsW.r {lo hi : Nat} {w : World} {A : Option Addr} {n cap : Nat} {L : List Rg} (h : RgsW lo hi w A n cap L) : RgsR 0 w A n L :=
 ⟨h.1, fun hn => by
  obtain ⟨b, _, e, _⟩ := h.2 hn
  refine ⟨b, 0, e, Nat.zero_le _, fun i x hx => ?_⟩
  have hi : i < n := by have := (List.getElem?_eq_some_iff.1 hx).1; have := h.1; omega
  obtain ⟨b', r, A', n', cap', e', _, _, hr, d0, d1, d2, d3, d4, hp⟩ := h.at_ hi
  rw [e] at e'
  injection e' with e'
  injection e' with e'
  subst e'
  obtain rfl : r = x := by rw [hr] at hx; injection hx
  rw [Nat.zero_add]
  exact ⟨A', n', cap', d0, d1, d2, d3, d4, hp.le, hp.r⟩⟩
theorem RgsW.le {lo hi : Nat} {w : World} {A : Option Addr} {n cap : Nat} {L : List Rg} (h : RgsW lo hi w A n cap L) : n ≤ maxLen := by
 rcases Nat.eq_zero_or_pos n with h0 | h0
 · omega
 ·
  obtain ⟨b, _, _, _, ho, _⟩ := h.2 h0
  exact Nat.le_trans ho.2.2.1 ho.2.2.2.1
def sumPs : List Rg → Nat
 | [] => 0
 | r :: L => r.ps.length + sumPs L
def szRs (left : Int) : List Rg → Int
 | [] => left
 | r :: L => if (r.ps.length : Int) ≤ left then szRs (left - r.ps.length) L else -1
def szL (left : Int) (L : List Rg) : Int := if (L.length : Int) ≤ left then szRs (left - L.length) L else -1
theorem szRs_or : ∀ (L : List Rg) (left : Int), 0 ≤ left → szRs left L = -1 ∨ (0 ≤ szRs left L ∧ szRs left L ≤ left ∧ (sumPs L : Int) ≤ left)
 | [], left, h => .inr ⟨h, Int.le_refl _, by simpa [sumPs] using h⟩
 | r :: L, left, h => by
  unfold szRs
  split
  ·
   rcases szRs_or L (left - r.ps.length) (by omega) with h1 | ⟨h1, h2, h3⟩
   · exact .inl h1
   · exact .inr ⟨h1, by omega, by simp only [sumPs]; omega⟩
  · exact .inl rfl
theorem szL_or {left : Int} (L : List Rg) (h : 0 ≤ left) : szL left L = -1 ∨ (0 ≤ szL left L ∧ szL left L ≤ left ∧ (sumPs L : Int) + L.length ≤ left) := by
 unfold szL
 split
 ·
  rcases szRs_or L (left - L.length) (by omega) with h1 | ⟨h1, h2, h3⟩
  · exact .inl h1
  · exact .inr ⟨h1, by omega, by omega⟩
 · exact .inl rfl
theorem sumPs_mem : ∀ {L : List Rg} {r : Rg}, r ∈ L → r.ps.length ≤ sumPs L
 | r' :: L, r, h => by
  rcases List.mem_cons.1 h with rfl | h
  · simp [sumPs]
  ·
   have := sumPs_mem h
   simp only [sumPs]; omega
theorem szRs_drop {L : List Rg} {i : Nat} {r : Rg} (h : L[i]? = some r) (left : Int) : szRs left (L.drop i) = if (r.ps.length : Int) ≤ left then szRs (left - r.ps.length) (L.drop (i + 1)) else -1 := by
 obtain ⟨hi, e⟩ := List.getElem?_eq_some_iff.1 h
 rw [List.drop_eq_getElem_cons hi, e]
 rfl
set_option maxHeartbeats 1000000 in
theorem szRingS_any (A : Option Addr) (n cap : Nat) (L : List Rg) (left : Int) (w : World) (hr : RgsR 0 w A n L) (hn : n ≤ maxLen) (h0 : 0 ≤ left) (h1 : left ≤ 1048576) :
  Calls Tryz.prog 22 #[.slice A n cap, left] w (RetBelow (.int .i64 (szL left L)) w) := by
 have hl : L.length = n := hr.1
 unfold maxLen at hn
 by_cases h : (n : Int) ≤ left
 ·
  have hz := Lib.hid (show szL left L = szRs (left - n) L by unfold szL; rw [if_pos (by omega), hl])
  go_enter Tryz.func22, Tryz.ntmps22
  go_wp2
  go_loopw [1, 5] (fun s1 s5 W => ∃ (i : Nat) (z : Int), i ≤ n ∧ 0 ≤ z ∧ z ≤ 1048576 ∧ s1 = .int .i64 z ∧ s5 = .int .i64 i ∧ Below w.heap.size w W ∧ szRs (left - n) L = szRs z (L.drop i)) (fun _ s5 _ => n - (intOf s5).toNat)
  case atStart => exact ⟨0, left - n, Nat.zero_le _, by omega, by omega, by go_num, rfl, Below.refl _ _, by simp⟩
  case round =>
   obtain ⟨i, z, hi, hz0, hz1, rfl, rfl, hB, hs⟩ := hrel
   have HS := Lib.hid hs; clear hs
   by_cases hlt : i < n
   ·
    obtain ⟨b, o, r, rfl, _, hri, A', n', cap', c0, c1, c2, c3, c4, hm, hp⟩ := SlE.at_ (SlE.keep RgE.kept hr (fun j _ hj => hB.block j hj)) hlt
    have h1 : (i : Int) < (n : Int) := by omega
    have h2 : (0 : Int) ≤ (i : Int) := by omega
    have hpl : r.ps.length = n' := hp.1
    have HR := Lib.hid hri; clear hri
    go_wp2_with fail
    refine (szRing_any r.h r.t r.c r.x A' n' cap' z _ hm hz0 hz1).mono ?_
    rintro e w1 ⟨rfl, hb1⟩
    clear c0 c1 c2 c3 c4
    have hd := szRs_drop HR.out z
    by_cases hle : (n' : Int) ≤ z
    ·
     have e1 : szI z n' = z - n' := by unfold szI; rw [if_pos hle]
     rw [e1]
     rw [hpl, if_pos hle] at hd
     have HD := Lib.hid hd; clear hd e1
     have h3 : 0 ≤ z - n' := by omega
     have h4 : z - n' ≤ 1048576 := by omega
     generalize z - (n' : Int) = y at *
     go_wp2
     go_roundw
     case rel => exact ⟨i + 1, y, by omega, h3, h4, by go_num, by go_num, bstep hB hB.size hb1, by rw [HS.out, HD.out]⟩
     case measure => simp [intOf]; omega
    ·
     have e1 : szI z n' = -1 := by unfold szI; rw [if_neg hle]
     rw [e1]
     rw [hpl, if_neg hle] at hd
     have HD := Lib.hid hd; clear hd e1
     go_wp2
     go_ret
     exact .mk (by rw [hz.out, HS.out, HD.out]; rfl) (bstep hB hB.size hb1)
   ·
    have h1 : ¬ (i : Int) < (n : Int) := by omega
    go_wp2
    go_ret
    exact .mk (by rw [hz.out, HS.out, List.drop_eq_nil_of_le (by omega)]; rfl) hB
 ·
  have hz := Lib.hid (show szL left L = -1 by unfold szL; rw [if_neg (by omega)])
  go_enter Tryz.func22, Tryz.ntmps22
  go_wp2
  go_ret
  exact .mk (by rw [hz.out]; rfl) (Below.refl _ _)
set_option maxHeartbeats 1000000 in
theorem szStore_any (s : St) (A : Option Addr) (n cap : Nat) (left : Int) (w : World) (hr : RgsR 0 w A n s.rs) (hn : n ≤ maxLen) (h0 : 0 ≤ left) (h1 : left ≤ 1048576) :
  Calls Tryz.prog 7 #[stV s A n cap, left] w (RetBelow (.int .i64 (szL left s.rs)) w) := by
 unfold stV
 go_enter Tryz.func7, Tryz.ntmps7
 go_wp2_with fail
 refine calls_abs (fun W => Below w.heap.size w W) ((Below.refl _ _).alloc (Nat.le_refl _) _) ?_
 rintro W hB
 refine (szRingS_any A n cap s.rs left _ (hr.below hB) hn h0 h1).mono ?_
 rintro e w1 ⟨rfl, hb1⟩
 have hs := szL_or s.rs h0
 generalize szL left s.rs = z at *
 rcases hs with rfl | ⟨hs, _, _⟩
 all_goals
  go_wp2
  go_ret
  exact .mk rfl (bstep hB hB.size hb1)
set_option maxRecDepth 100000 in
set_option maxHeartbeats 1000000 in
theorem eqRingS_same (A B : Option Addr) (n c d : Nat) (L : List Rg) (w : World) (h : RgsR 0 w A n L) (h' : RgsR 0 w B n L) (hn : n ≤ 1048576) (hm : ∀ r ∈ L, r.ps.length ≤ 1048576) :
  Calls Tryz.prog 29 #[.slice A n c, .slice B n d] w (RetBelow (.bool true) w) := by
 have HM := Lib.hid hm; clear hm
 go_enter Tryz.func29, Tryz.ntmps29
 go_wp2
 go_loopw [5] (fun s5 W => ∃ i : Nat, i ≤ n ∧ s5 = .int .i64 i ∧ Below w.heap.size w W) (fun s5 _ => n - (intOf s5).toNat)
 case atStart => exact ⟨0, Nat.zero_le _, rfl, Below.refl _ _⟩
 case round =>
  obtain ⟨i, hi, rfl, hB⟩ := hrel
  by_cases hlt : i < n
  ·
   obtain ⟨b, o, r, rfl, _, hp, A1, n1, k1, c0, c1, c2, c3, c4, hm1, hp1⟩ := SlE.at_ (SlE.keep RgE.kept h (fun j _ hj => hB.block j hj)) hlt
   obtain ⟨b', o', r', rfl, _, hp', A2, n2, k2, d0, d1, d2, d3, d4, hm2, hp2⟩ := SlE.at_ (SlE.keep RgE.kept h' (fun j _ hj => hB.block j hj)) hlt
   obtain rfl : r = r' := by rw [hp] at hp'; injection hp'
   obtain rfl : n1 = n2 := hp1.1.symm.trans hp2.1
   have hle : n1 ≤ 1048576 := by have := HM.out r (List.mem_of_getElem? hp); have := hp1.1; omega
   have h1 : (i : Int) < (n : Int) := by omega
   have h2 : (0 : Int) ≤ (i : Int) := by omega
   clear hp hp'
   go_wp2
   go_still_tail 8, (by kernel_rfl)
   go_wp2_with fail
   refine calls_abs (fun W => Below wr.heap.size wr W) ?_ ?_
   · first | exact (Below.refl _ _) | exact (Below.refl _ _).drew | exact (Below.refl _ _).drewN _
   rintro W2 hB2
   refine (eqRing_same r.h r.t r.c r.x A1 A2 n1 k1 k2 r.ps _ (hp1.below hB2) (hp2.below hB2) hle).mono ?_
   rintro e w1 ⟨rfl, hb1⟩
   go_wp2
   go_roundw
   case rel => exact ⟨i + 1, by omega, by go_num, bstep (bstep hB hB.size hB2) (Nat.le_trans hB.size hB2.size) hb1⟩
   case measure => simp [intOf]; omega
  ·
   have h1 : ¬ (i : Int) < (n : Int) := by omega
   go_wp2
   go_ret
   exact ⟨rfl, hB⟩
set_option maxRecDepth 100000 in
set_option maxHeartbeats 1000000 in
theorem eqStore_same (s : St) (A B : Option Addr) (n c d : Nat) (w : World) (h : RgsR 0 w A n s.rs) (h' : RgsR 0 w B n s.rs) (hn : n ≤ 1048576) (hm : ∀ r ∈ s.rs, r.ps.length ≤ 1048576) :
  Calls Tryz.prog 12 #[stV s A n c, stV s B n d] w (RetBelow (.bool true) w) := by
 have HM := Lib.hid hm; clear hm
 unfold stV
 go_enter Tryz.func12, Tryz.ntmps12
 go_wp2_with fail
 refine calls_abs (fun W => Below w.heap.size w W ∧ BoxAt W w.heap.size (aS s A n c) 32 ∧ BoxAt W (w.heap.size + 1) (aS s B n d) 32) ⟨((Below.refl _ _).alloc (Nat.le_refl _) _).alloc (by simp) _, (BoxAt.new _ _ _).alloc _, BoxAt.new' (by simp)⟩ ?_
 rintro W ⟨hB, hx, hy⟩
 refine (eqRingS_same A B n c d s.rs _ (h.below hB) (h'.below hB) hn HM.out).mono ?_
 rintro e w1 ⟨rfl, hb1⟩
 replace hx := hx.below hb1 hx.lt
 replace hy := hy.below hb1 hy.lt
 have kx := hx.cell
 have ky := hy.cell
 go_wp2
 go_ret
 exact .mk rfl (bstep hB hB.size hb1)
end Go.Proofs.YthpckpnlohfcbaaGreatDoor
namespace Go.Proofs.YthpckpnlohfcbaaGreatDoor
set_option linter.unusedSimpArgs false
set_option linter.unusedVariables false
open Go.RowKit
attribute [local go_sem ↓] Go.wp_at_zero Go.wp_at_succ
def RwD (lo hi : Nat) (w : World) (a : Rw) (r : Rg) : Prop := a.h = r.h ∧ a.t = r.t ∧ a.c = r.c ∧ a.x = r.x ∧ ∃ g, a.A = some ⟨g, 0, none⟩ ∧ g < hi ∧ PlsO lo w g a.n a.cap r.ps
def DOf (lo hi : Nat) (w : World) (rows : List Rw) (L : List Rg) : Prop :=
 (∀ (j : Nat) (a : Rw), rows[j]? = some a → ∃ r, L[j]? = some r ∧ RwD lo hi w a r) ∧ (∀ (j k : Nat) (a b : Rw), j ≠ k → rows[j]? = some a → rows[k]? = some b → a.A ≠ b.A)
theorem RwD.keep {lo hi : Nat} {w w' : World} {a : Rw} {r : Rg} (h : RwD lo hi w a r) (hs : ∀ g, a.A = some ⟨g, 0, none⟩ → lo ≤ g → g < hi → g < w.heap.size → w'.heap[g]? = w.heap[g]?) : RwD lo hi w' a r := by
 obtain ⟨h1, h2, h3, h4, g, hg, hh, ho⟩ := h
 exact ⟨h1, h2, h3, h4, g, hg, hh, Own.keep ho (hs g hg ho.ge hh (Own.lt ho))⟩
theorem RwD.mono {lo hi lo' hi' : Nat} {w : World} {a : Rw} {r : Rg} (h : RwD lo hi w a r) (h1 : lo' ≤ lo) (h2 : hi ≤ hi') : RwD lo' hi' w a r := by
 obtain ⟨e1, e2, e3, e4, g, hg, hh, ho⟩ := h
 exact ⟨e1, e2, e3, e4, g, hg, by omega, ho.mono h1⟩
theorem DOf.keep {lo hi : Nat} {w w' : World} {rows : List Rw} {L : List Rg} (h : DOf lo hi w rows L) (hs : ∀ g cs, lo ≤ g → g < hi → BoxAt w g cs 33 → w'.heap[g]? = w.heap[g]?) : DOf lo hi w' rows L :=
 ⟨fun j a ha => by
  obtain ⟨r, hr, h1, h2, h3, h4, g, hg, hh, ho⟩ := h.1 j a ha
  have ho' := ho
  obtain ⟨_, _, _, _, cur, hb, _⟩ := ho'
  exact ⟨r, hr, h1, h2, h3, h4, g, hg, hh, Own.keep ho (hs g cur ho.ge hh hb)⟩, h.2⟩
theorem DOf.mono {lo hi lo' hi' : Nat} {w : World} {rows : List Rw} {L : List Rg} (h : DOf lo hi w rows L) (h1 : lo' ≤ lo) (h2 : hi ≤ hi') : DOf lo' hi' w rows L :=
 ⟨fun j a ha => by obtain ⟨r, hr, hd⟩ := h.1 j a ha; exact ⟨r, hr, hd.mono h1 h2⟩, h.2⟩
theorem box_ne {w : World} {g k : Nat} {cs ds : Array Value} {t u : TypeId} (h : BoxAt w g cs t) (h' : BoxAt w k ds u) (ht : t ≠ u) : g ≠ k := by
 rintro rfl
 unfold BoxAt at h h'
 rw [h] at h'
 injection h' with h'
 injection h' with _ h'
 exact ht h'
theorem own_box {α : Type} {f : α → List Value} {k : Nat} {e : TypeId} {N : Nat} {w : World} {g n cap : Nat} {l : List α} (h : Own f k e N w g n cap l) : ∃ cs, BoxAt w g cs e := by
 obtain ⟨_, _, _, _, cur, hb, _⟩ := h
 exact ⟨cur, hb⟩
theorem DOf.snoc {lo hi M : Nat} {w : World} {rows : List Rw} {L : List Rg} (h : DOf lo M w rows L) {a : Rw} {r : Rg} (hr : L[rows.length]? = some r) (ha : RwD M hi w a r) (hlo : lo ≤ M) (hM : M ≤ hi) : DOf lo hi w (rows ++ [a]) L := by
 have lt : ∀ (i : Nat) z, (rows ++ [a])[i]? = some z → i < rows.length ∧ rows[i]? = some z ∨ i = rows.length ∧ z = a := fun i z hz => by
  by_cases hi : i < rows.length
  ·
   rw [List.getElem?_append_left hi] at hz
   exact .inl ⟨hi, hz⟩
  ·
   have : i = rows.length := by
    have := (List.getElem?_eq_some_iff.1 hz).1
    simp at this; omega
   subst this
   rw [List.getElem?_append_right (Nat.le_refl _)] at hz
   simp at hz
   exact .inr ⟨rfl, hz.symm⟩
 have old : ∀ (i : Nat) z, rows[i]? = some z → ∃ g, z.A = some ⟨g, 0, none⟩ ∧ g < M := fun i z hz => by
  obtain ⟨_, _, _, _, _, _, g, hg, hh, _⟩ := h.1 i z hz
  exact ⟨g, hg, hh⟩
 obtain ⟨ga, hga, hgM⟩ : ∃ g, a.A = some ⟨g, 0, none⟩ ∧ M ≤ g := by
  obtain ⟨_, _, _, _, g, hg, _, ho⟩ := ha
  exact ⟨g, hg, ho.ge⟩
 have apart : ∀ (i : Nat) z, rows[i]? = some z → z.A ≠ a.A := fun i z hz e => by
  obtain ⟨g, hg, hl⟩ := old i z hz
  rw [hg, hga] at e
  injection e with e
  injection e with e
  omega
 refine ⟨fun j b hb => ?_, fun j k x y hjk hx hy => ?_⟩
 ·
  rcases lt j b hb with ⟨_, hb⟩ | ⟨rfl, rfl⟩
  ·
   obtain ⟨r', hr', hd⟩ := h.1 j b hb
   exact ⟨r', hr', hd.mono (Nat.le_refl _) hM⟩
  · exact ⟨r, hr, ha.mono hlo (Nat.le_refl _)⟩
 ·
  rcases lt j x hx with ⟨_, hx'⟩ | ⟨ej, ex⟩
  ·
   rcases lt k y hy with ⟨_, hy'⟩ | ⟨ek, ey⟩
   · exact h.2 j k x y hjk hx' hy'
   · rw [ey]; exact apart j x hx'
  ·
   rcases lt k y hy with ⟨_, hy'⟩ | ⟨ek, ey⟩
   · rw [ex]; exact fun e => apart k y hy' e.symm
   · exact absurd (ej.trans ek.symm) hjk
theorem DOf.turn {lo hi : Nat} {w w' : World} {rows : List Rw} {L : List Rg} (h : DOf lo hi w rows L) {i g : Nat} {a : Rw} {r : Rg} (ha : rows[i]? = some a) (hr : L[i]? = some r) (hg : a.A = some ⟨g, 0, none⟩)
  (hs : ∀ k cs, BoxAt w k cs 33 → k ≠ g → w'.heap[k]? = w.heap[k]?) {h' t' x' : Int} {c' : Bool} {ps' : List Pl} (hp : PlsO lo w' g a.n a.cap ps') :
  DOf lo hi w' (rows.set i ⟨h', t', c', x', a.A, a.n, a.cap⟩) (L.set i ⟨h', t', c', x', ps'⟩) := by
 have hi : i < rows.length := (List.getElem?_eq_some_iff.1 ha).1
 have hiL : i < L.length := (List.getElem?_eq_some_iff.1 hr).1
 have key : ∀ (j : Nat) b, (rows.set i ⟨h', t', c', x', a.A, a.n, a.cap⟩)[j]? = some b → ∃ b', rows[j]? = some b' ∧ b.A = b'.A := fun j b hb => by
  by_cases hj : i = j
  ·
   subst hj
   rw [List.getElem?_set_self hi] at hb
   injection hb with hb
   subst hb
   exact ⟨a, ha, rfl⟩
  ·
   rw [List.getElem?_set_ne hj] at hb
   exact ⟨b, hb, rfl⟩
 refine ⟨fun j b hb => ?_, fun j k x y hjk hx hy => ?_⟩
 ·
  by_cases hj : i = j
  ·
   subst hj
   rw [List.getElem?_set_self hi] at hb
   injection hb with hb
   subst hb
   obtain ⟨r0, hr0, _, _, _, _, g0, hg0, hh, _⟩ := h.1 i a ha
   obtain rfl : g = g0 := by
    rw [hg] at hg0
    injection hg0 with hg0
    injection hg0
   exact ⟨_, List.getElem?_set_self hiL, rfl, rfl, rfl, rfl, g, hg, hh, hp⟩
  ·
   rw [List.getElem?_set_ne hj] at hb ⊢
   obtain ⟨r0, hr0, h1, h2, h3, h4, g0, hg0, hh, ho⟩ := h.1 j b hb
   have hne : g0 ≠ g := by
    rintro rfl
    exact h.2 i j a b hj ha hb (by rw [hg, hg0])
   obtain ⟨cs, hb0⟩ := own_box ho
   exact ⟨r0, hr0, h1, h2, h3, h4, g0, hg0, hh, Own.keep ho (hs g0 cs hb0 hne)⟩
 ·
  obtain ⟨x0, hx0, ex⟩ := key j x hx
  obtain ⟨y0, hy0, ey⟩ := key k y hy
  rw [ex, ey]
  exact h.2 j k x0 y0 hjk hx0 hy0
def RgsD (lo hi : Nat) (w : World) (A : Option Addr) (n cap : Nat) (L : List Rg) : Prop :=
 L.length = n ∧ (0 < n → ∃ b rows, A = some ⟨b, 0, none⟩ ∧ b < hi ∧ RwsO lo w b n cap rows ∧ DOf lo hi w rows L)
section
variable {lo hi lo' hi' : Nat} {w w' : World} {A : Option Addr} {n cap : Nat} {L : List Rg}
theorem RgsD.toW (h : RgsD lo hi w A n cap L) : RgsW lo hi w A n cap L :=
 ⟨h.1, fun hn => by
  obtain ⟨b, rows, e, hb, ho, hd⟩ := h.2 hn
  refine ⟨b, rows, e, hb, ho, fun i a ha => ?_⟩
  obtain ⟨r, hr, h1, h2, h3, h4, g, hg, hh, hp⟩ := hd.1 i a ha
  exact ⟨r, hr, h1, h2, h3, h4, by rw [hg]; exact hp.w hh⟩⟩
theorem RgsD.keep (h : RgsD lo hi w A n cap L) (hs : SameIn lo hi w w') : RgsD lo hi w' A n cap L :=
 ⟨h.1, fun hn => by
  obtain ⟨b, rows, e, hb, ho, hd⟩ := h.2 hn
  exact ⟨b, rows, e, hb, Own.keep ho (hs b ho.2.1 hb), hd.keep fun g _ h1 h2 _ => hs g h1 h2⟩⟩
theorem RgsD.below (h : RgsD lo hi w A n cap L) (hb : Below w.heap.size w w') (hh : hi ≤ w.heap.size) : RgsD lo hi w' A n cap L := h.keep (.below hb hh)
theorem RgsD.mono (h : RgsD lo hi w A n cap L) (h1 : lo' ≤ lo) (h2 : hi ≤ hi') : RgsD lo' hi' w A n cap L :=
 ⟨h.1, fun hn => by
  obtain ⟨b, rows, e, hb, ho, hd⟩ := h.2 hn
  exact ⟨b, rows, e, by omega, Own.mono ho h1, hd.mono h1 h2⟩⟩
theorem RgsD.nil : RgsD lo hi w none 0 0 [] := ⟨rfl, fun h => absurd h (by omega)⟩
theorem RgsD.r (h : RgsD lo hi w A n cap L) : RgsR 0 w A n L := h.toW.r
end
theorem ring_info : (Tryz.prog.info? 79).map (fun i => (i.zero, i.size, i.bytes)) = some (some (.agg #[.int .i64 0, .int .i64 0, .bool false, .int .i64 0, .slice none 0 0]), 5, 56) := by kernel_rfl
def Rw.zero : Rw := ⟨0, 0, false, 0, none, 0, 0⟩
def ToRgs (n : Nat) (L : List Rg) (w : World) (e : Ending) (w' : World) : Prop :=
 ∃ g, e = .returned (.slice (some ⟨g, 0, none⟩) n n) ∧ RgsD w.heap.size w'.heap.size w' (some ⟨g, 0, none⟩) n n L ∧ Below w.heap.size w w'
set_option maxRecDepth 100000 in
set_option maxHeartbeats 1000000 in
theorem toRingS_any (A : Option Addr) (n cap : Nat) (L : List Rg) (w : World) (h : RgsR 0 w A n L) (hn : n ≤ 1048576) (hm : ∀ r ∈ L, r.ps.length ≤ 1048576) :
  Calls Tryz.prog 26 #[.slice A n cap] w (ToRgs n L w) := by
 obtain ⟨i0, hi0, hz0, hz1, hz2⟩ := info_parts ring_info
 have hmk : ∀ W : World, (Instr.makeSlice 30 (.int .i64 (n : Int)) (.int .i64 (n : Int))).run Tryz.prog W = .ok (.slice (some ⟨W.heap.size, 0, none⟩) n n) (W.alloc (.cells (madeCells #[.int .i64 0, .int .i64 0, .bool false, .int .i64 0, .slice none 0 0] (n * 5)) 79)) := by
  intro W
  have := run_make (P := Tryz.prog) W 30 79 i0 _ Tryz.underlying30 hi0 hz0 .i64 .i64 n n (by omega) (by omega) (by rw [hz2]; omega) (by omega)
  rw [hz1] at this
  simpa [Value.cells] using this
 have HM := Lib.hid hm; clear hm
 go_enter Tryz.func26, Tryz.ntmps26
 go_wp2
 have hln := h.1
 obtain rfl : L.length = n := hln
 clear hmk hi0 hz0 hz1 hz2
 go_loopw [4] (fun s4 W => ∃ (i : Nat) (rows : List Rw), i ≤ L.length ∧ s4 = .int .i64 i ∧ rows.length = i ∧ Below w.heap.size w W ∧ RwsO w.heap.size W w.heap.size L.length L.length (rows ++ List.replicate (L.length - i) Rw.zero) ∧ DOf w.heap.size W.heap.size W rows L) (fun s4 _ => L.length - (intOf s4).toNat)
 case atStart =>
  refine ⟨0, [], Nat.zero_le _, rfl, rfl, (Below.refl _ _).alloc (Nat.le_refl _) _, ?_, fun j a ha => by simp at ha, fun j k a b _ ha _ => by simp at ha⟩
  rw [Nat.sub_zero, List.nil_append]
  exact Own.made Rw.cs_len (by omega) Rw.zero _ rfl (Nat.le_refl _) _ (by unfold maxLen; omega)
 case round =>
  obtain ⟨i, rows, hi, rfl, hrl, hB, hO, hD⟩ := hrel
  by_cases hlt : i < L.length
  ·
   obtain ⟨b, o, r, rfl, _, hri, A', n', cap', c0, c1, c2, c3, c4, hm, hp⟩ := SlE.at_ (SlE.keep RgE.kept h (fun j _ hj => hB.block j hj)) hlt
   have h1 : (i : Int) < (L.length : Int) := by omega
   have h2 : (0 : Int) ≤ (i : Int) := by omega
   have hle : n' ≤ 1048576 := by have := HM.out r (List.mem_of_getElem? hri); have := hp.1; omega
   have HR := Lib.hid hri; clear hri
   have HL := Lib.hid hrl; clear hrl
   go_wp2_with fail
   refine (toRing_any r.h r.t r.c r.x A' n' cap' r.ps _ hp hle).mono ?_
   rintro e w1 ⟨g, cap1, rfl, hG, hb1⟩
   unfold rgV
   clear c0 c1 c2 c3 c4
   have hO1 := Own.below hO hb1
   have hat : (rows ++ List.replicate (L.length - i) Rw.zero)[i]? = some Rw.zero := by
    rw [List.getElem?_append_right (by rw [HL.out]; exact Nat.le_refl _), HL.out, Nat.sub_self, List.getElem?_replicate, if_pos (by omega)]
   have d0 := Own.cell_ Rw.cs_len hO1 (j := 0) hat rfl
   have d1 := Own.cell_ Rw.cs_len hO1 (j := 1) hat rfl
   have d2 := Own.cell_ Rw.cs_len hO1 (j := 2) hat rfl
   have d3 := Own.cell_ Rw.cs_len hO1 (j := 3) hat rfl
   have d4 := Own.cell_ Rw.cs_len hO1 (j := 4) hat rfl
   rw [Nat.add_zero] at d0
   clear hat
   have df := Own.frozen_ hO1
   go_wp2
   go_roundw
   case rel =>
    obtain ⟨csO, hbO⟩ := own_box hO1
    refine ⟨i + 1, rows ++ [⟨r.h, r.t, r.c, r.x, some ⟨g, 0, none⟩, n', cap1⟩], by omega, by go_num, by simp [HL.out], ?_, ?_, ?_⟩
    · exact Below.setCells (Nat.le_refl _) (⟨r.h, r.t, r.c, r.x, some ⟨g, 0, none⟩, n', cap1⟩ : Rw).cs (i * 5) (bstep hB hB.size hb1)
    ·
     have := Own.setEl hO1 Rw.cs_len (by omega) hlt (⟨r.h, r.t, r.c, r.x, some ⟨g, 0, none⟩, n', cap1⟩ : Rw)
     rw [List.set_append_right _ _ (by rw [HL.out]; exact Nat.le_refl _), HL.out, Nat.sub_self, show L.length - i = (L.length - (i + 1)) + 1 by omega, List.replicate_succ, List.set_cons_zero] at this
     rw [List.append_assoc]
     exact this
    ·
     have hx : DOf w.heap.size w1.heap.size w1 (rows ++ [⟨r.h, r.t, r.c, r.x, some ⟨g, 0, none⟩, n', cap1⟩]) L := (hD.keep fun k _ _ hk _ => hb1.block k hk).snoc (by rw [HL.out]; exact HR.out) ⟨rfl, rfl, rfl, rfl, g, rfl, Own.lt hG, hG⟩ hB.size hb1.size
     refine (hx.keep fun k cs h1 h2 hk => ?_).mono (Nat.le_refl _) (by simp)
     have hne := box_ne hk hbO (by decide)
     simp only [World.setCell, Array.getElem?_modify, Ne.symm hne, if_false]
   case measure => simp [intOf]; omega
  ·
   have h1 : ¬ (i : Int) < (L.length : Int) := by omega
   obtain rfl : i = L.length := by omega
   go_wp2
   go_ret
   rw [Nat.sub_self, List.replicate_zero, List.append_nil] at hO
   exact ⟨_, rfl, ⟨rfl, fun _ => ⟨_, rows, rfl, Own.lt hO, hO, hD⟩⟩, hB⟩
def RetSt (s : St) (w : World) (e : Ending) (w' : World) : Prop :=
 ∃ A n cap, e = .returned (stV s A n cap) ∧ RgsD w.heap.size w'.heap.size w' A n cap s.rs ∧ Below w.heap.size w w'
set_option maxRecDepth 100000 in
set_option maxHeartbeats 1000000 in
theorem toStore_any (s : St) (A : Option Addr) (n cap : Nat) (w : World) (h : RgsR 0 w A n s.rs) (hn : n ≤ 1048576) (hm : ∀ r ∈ s.rs, r.ps.length ≤ 1048576) :
  Calls Tryz.prog 9 #[stV s A n cap] w (RetSt s w) := by
 have HM := Lib.hid hm; clear hm
 unfold stV
 go_enter Tryz.func9, Tryz.ntmps9
 go_wp2_with fail
 refine calls_abs (fun W => Below w.heap.size w W ∧ BoxAt W w.heap.size (aS s A n cap) 24 ∧ BoxAt W (w.heap.size + 1) zS 32 ∧ BoxAt W (w.heap.size + 1 + 1) (dS s.rd s.mo none 0 0 0 0) 32) ?_ ?_
 · exact ⟨(((Below.refl _ _).alloc (Nat.le_refl _) _).alloc (by simp) _).alloc (by simp; omega) _, ((BoxAt.new _ _ _).alloc _).alloc _, (BoxAt.new' (by simp)).alloc _, BoxAt.new' (by simp)⟩
 rintro W ⟨hB, ha, hx, hy⟩
 refine (toRingS_any A n cap s.rs _ (h.below hB) hn HM.out).mono ?_
 rintro e w1 ⟨g, rfl, hG, hb1⟩
 have ha1 := ha.below hb1 ha.lt
 have hx1 := hx.below hb1 hx.lt
 have hy1 := hy.below hb1 hy.lt
 have ka := ha1.cell
 have kx := hx1.cell
 have fx := hx1.frozen
 have ky := hy1.cell
 have fy := hy1.frozen
 have lx := hx.lt
 have ly := hy.lt
 go_wp2
 refine bodyPost_ret (v := stV s (some ⟨g, 0, none⟩) n n) (by simp [results, Tryz.results9, go_sem, kx, ky, stV]) rfl ⟨_, _, _, rfl, ?_, ?_⟩
 ·
  refine (hG.keep (w' := _) ?_).mono hB.size (by simp)
  exact (((((((((SameIn.refl _ _ _).trans (SameIn.set (.inl (by omega)) _ _)).trans (SameIn.set (.inl (by omega)) _ _)).trans (SameIn.set (.inl (by omega)) _ _)).trans (SameIn.set (.inl (by omega)) _ _)).trans (SameIn.set (.inl (by omega)) _ _)).trans (SameIn.set (.inl (by omega)) _ _)).trans (SameIn.set (.inl (by omega)) _ _)).trans (SameIn.set (.inl (by omega)) _ _))
 · exact (sc (sc (sc (sc (sc (sc (sc (sc (bstep hB hB.size hb1)))))))))
end Go.Proofs.YthpckpnlohfcbaaGreatDoor
namespace Go.Proofs.YthpckpnlohfcbaaGreatDoor
set_option linter.unusedSimpArgs false
set_option linter.unusedVariables false
open Go.RowKit
attribute [local go_sem ↓] Go.wp_at_zero Go.wp_at_succ
def markRg (k : Int) (r : Rg) : Rg := ⟨k, k + 1, (k + 1 + 1) % 3 == 0, k + 1 + 1 + 1, marks (k + 1 + 1 + 1 + 1) r.ps.length⟩
def markAt (k : Int) (L : List Rg) (i : Nat) : Int := k + 4 * i + 4 * sumPs (L.take i)
def markRgs (k : Int) (L : List Rg) : List Rg := (List.range L.length).map fun i => markRg (markAt k L i) (L.getD i ⟨0, 0, false, 0, []⟩)
theorem markRgs_len (k : Int) (L : List Rg) : (markRgs k L).length = L.length := by simp [markRgs]
theorem markRgs_at (k : Int) {L : List Rg} {i : Nat} {r : Rg} (h : L[i]? = some r) : (markRgs k L)[i]? = some (markRg (markAt k L i) r) := by
 obtain ⟨hi, e⟩ := List.getElem?_eq_some_iff.1 h
 simp [markRgs, hi, e]
theorem sumPs_append : ∀ (L M : List Rg), sumPs (L ++ M) = sumPs L + sumPs M
 | [], M => by simp [sumPs]
 | r :: L, M => by simp only [List.cons_append, sumPs, sumPs_append L M]; omega
theorem sumPs_take {L : List Rg} {i : Nat} {r : Rg} (h : L[i]? = some r) : sumPs (L.take (i + 1)) = sumPs (L.take i) + r.ps.length := by
 rw [List.take_add_one, h, sumPs_append]
 simp [sumPs]
theorem sumPs_take_le (L : List Rg) (i : Nat) : sumPs (L.take i) ≤ sumPs L := by
 conv => rhs; rw [← List.take_append_drop i L]
 rw [sumPs_append]; omega
theorem markAt_succ {k : Int} {L : List Rg} {i : Nat} {r : Rg} (h : L[i]? = some r) : markAt k L (i + 1) = markAt k L i + 1 + 1 + 1 + 1 + 4 * r.ps.length := by
 unfold markAt; rw [sumPs_take h]; omega
theorem markAt_le {k : Int} {L : List Rg} {i : Nat} (h : i ≤ L.length) : k ≤ markAt k L i ∧ markAt k L i ≤ k + 4 * L.length + 4 * sumPs L := by
 have := sumPs_take_le L i
 unfold markAt; omega
def markEnd (k : Int) (L : List Rg) : Int := k + 4 * L.length + 4 * sumPs L
theorem markAt_end {k : Int} {L : List Rg} : markAt k L L.length = markEnd k L := by simp [markAt, markEnd]
def MarkedS (k : Int) (L : List Rg) (lo hi : Nat) (A : Option Addr) (n cap : Nat) (w : World) (e : Ending) (w' : World) : Prop :=
 e = .returned (.int .i64 (markEnd k L)) ∧ ButIn lo hi w w' ∧ RgsD lo hi w' A n cap (markRgs k L)
theorem set4 {lo : Nat} {w : World} {b n cap i : Nat} {rows : List Rw} {a : Rw} (h : RwsO lo w b n cap rows) (ha : rows[i]? = some a) (x0 x1 : Int) (x2 : Bool) (x3 : Int) :
  RwsO lo ((((w.setCell ⟨b, i * 5, none⟩ (.int .i64 x0)).setCell ⟨b, i * 5 + 1, none⟩ (.int .i64 x1)).setCell ⟨b, i * 5 + 2, none⟩ (.bool x2)).setCell ⟨b, i * 5 + 3, none⟩ (.int .i64 x3)) b n cap (rows.set i ⟨x0, x1, x2, x3, a.A, a.n, a.cap⟩) := by
 have hi : i < rows.length := (List.getElem?_eq_some_iff.1 ha).1
 have g : ∀ (l : List Rw) (x : Rw), i < l.length → (l.set i x)[i]? = some x := fun l x hl => List.getElem?_set_self hl
 have s0 := Own.set1 h Rw.cs_len (j := 0) (x' := ⟨x0, a.t, a.c, a.x, a.A, a.n, a.cap⟩) (u := .int .i64 x0) ha (by omega) rfl
 have s1 := Own.set1 s0 Rw.cs_len (j := 1) (x' := ⟨x0, x1, a.c, a.x, a.A, a.n, a.cap⟩) (u := .int .i64 x1) (g _ _ hi) (by omega) rfl
 rw [List.set_set] at s1
 have s2 := Own.set1 s1 Rw.cs_len (j := 2) (x' := ⟨x0, x1, x2, a.x, a.A, a.n, a.cap⟩) (u := .bool x2) (g _ _ hi) (by omega) rfl
 rw [List.set_set] at s2
 have s3 := Own.set1 s2 Rw.cs_len (j := 3) (x' := ⟨x0, x1, x2, x3, a.A, a.n, a.cap⟩) (u := .int .i64 x3) (g _ _ hi) (by omega) rfl
 rw [List.set_set] at s3
 exact s3
set_option maxRecDepth 100000 in
set_option maxHeartbeats 2000000 in
theorem markRingS_pos (b n cap : Nat) (rows0 : List Rw) (L : List Rg) (k : Int) (lo hi : Nat) (w : World) (hO0 : RwsO lo w b n cap rows0) (hD0 : DOf lo hi w rows0 L) (hl : L.length = n) (hbh : b < hi) (h0 : 0 ≤ k) (hk : k + 4 * L.length + 4 * sumPs L ≤ 1000000000) (hsm : sumPs L ≤ 1048576) :
  Calls Tryz.prog 31 #[.slice (some ⟨b, 0, none⟩) n cap, k] w (MarkedS k L lo hi (some ⟨b, 0, none⟩) n cap w) := by
 subst hl
 have hlen : L.length = (markRgs k L).length := (markRgs_len k L).symm
 have HL := Lib.hid hlen
 clear hlen
 have HK := Lib.hid hk; clear hk
 have hbl := hO0.2.1
 have hnn : (L.length : Int) ≤ 1000000000 := by have := HK.out; omega
 go_enter Tryz.func31, Tryz.ntmps31
 go_wp2
 go_loopw [1, 5] (fun s1 s5 W => ∃ (i : Nat) (rows : List Rw), i ≤ L.length ∧ s1 = .int .i64 (markAt k L i) ∧ s5 = .int .i64 i ∧ ButIn lo hi w W ∧ RwsO lo W b L.length cap rows ∧ DOf lo hi W rows (over L (markRgs k L) i)) (fun _ s5 _ => L.length - (intOf s5).toNat)
 case atStart => exact ⟨0, rows0, Nat.zero_le _, by simp [markAt, sumPs], rfl, ButIn.refl _ _ _, hO0, by rw [over_zero]; exact hD0⟩
 case round =>
  obtain ⟨i, rows, hi', rfl, rfl, hB, hO, hD⟩ := hrel
  by_cases hlt : i < L.length
  ·
   have hrl : i < rows.length := by have := hO.1; omega
   obtain ⟨a, hra⟩ : ∃ a, rows[i]? = some a := ⟨_, List.getElem?_eq_getElem hrl⟩
   obtain ⟨r, hri⟩ : ∃ r, L[i]? = some r := ⟨_, List.getElem?_eq_getElem hlt⟩
   have hov : (over L (markRgs k L) i)[i]? = some r := by rw [over_at HL.out hlt]; exact hri
   obtain ⟨r', hr', e1, e2, e3, e4, g, hg, hgh, hp⟩ := hD.1 i a hra
   obtain rfl : r = r' := by rw [hov] at hr'; injection hr'
   have hmL := Lib.hid (markAt_le (k := k) (L := L) (i := i + 1) (by omega))
   have hms := Lib.hid (markAt_succ (k := k) hri)
   have hma := Lib.hid (markRgs_at k hri)
   have hov1 := Lib.hid (over_set (l := L) HL.out (markRgs_at k hri))
   have hz0 : 0 ≤ markAt k L i := by have := (markAt_le (k := k) (L := L) (i := i) (by omega)).1; omega
   have hps : r.ps.length = a.n := hp.1
   have hz1 : markAt k L i + 1 + 1 + 1 + 1 + 4 * (a.n : Int) ≤ 1000000000 := by have := hmL.out.2; rw [hms.out] at this; have := HK.out; omega
   generalize markAt k L i = z at *
   have d0 := Own.cell_ Rw.cs_len hO (j := 0) hra rfl
   have d1 := Own.cell_ Rw.cs_len hO (j := 1) hra rfl
   have d2 := Own.cell_ Rw.cs_len hO (j := 2) hra rfl
   have d3 := Own.cell_ Rw.cs_len hO (j := 3) hra rfl
   rw [Nat.add_zero] at d0
   have df := Own.frozen_ hO
   have h1 : (i : Int) < (L.length : Int) := by omega
   have h2 : (0 : Int) ≤ (i : Int) := by omega
   have HRA := Lib.hid hra; clear hra
   have HRI := Lib.hid hri; clear hri
   have HOV := Lib.hid hov; clear hov hr'
   have HPS := Lib.hid hps; clear hps
   have HG := Lib.hid hg; clear hg
   go_upto_region 12 with fail
   refine wp_abs (fun W => But b wr W ∧ RwsO lo W b L.length cap (rows.set i ⟨z, z + 1, (z + 1 + 1) % 3 == 0, z + 1 + 1 + 1, a.A, a.n, a.cap⟩)) ⟨((((But.refl b wr).set _ _).set _ _).set _ _).set _ _, set4 hO HRA.out _ _ _ _⟩ ?_
   clear d0 d1 d2 d3 df
   rintro W ⟨hb1, hO1⟩
   have hra1 : (rows.set i ⟨z, z + 1, (z + 1 + 1) % 3 == 0, z + 1 + 1 + 1, a.A, a.n, a.cap⟩)[i]? = some ⟨z, z + 1, (z + 1 + 1) % 3 == 0, z + 1 + 1 + 1, a.A, a.n, a.cap⟩ := List.getElem?_set_self hrl
   have d4 := Own.cell_ Rw.cs_len hO1 (j := 4) hra1 rfl
   clear hra1
   rw [HG.out] at d4
   obtain ⟨csp, hbp⟩ := own_box hp
   obtain ⟨csb, hbb⟩ := own_box hO
   have hgb : g ≠ b := box_ne hbp hbb (by decide)
   have hp1 : PlsO lo W g a.n a.cap r.ps := Own.keep hp (hb1.block g hbp.lt hgb)
   have han : a.n ≤ 1048576 := by have := sumPs_mem (List.mem_of_getElem? HRI.out); have := HPS.out; omega
   go_wp2_with fail
   refine (markPlaceS_any lo g a.n a.cap r.ps (z + 1 + 1 + 1 + 1) _ hp1 (by omega) (by omega) (by omega)).mono ?_
   rintro e w2 ⟨rfl, hb2, hp2⟩
   clear d4
   go_wp2
   go_roundw
   case rel =>
    refine ⟨i + 1, rows.set i ⟨z, z + 1, (z + 1 + 1) % 3 == 0, z + 1 + 1 + 1, a.A, a.n, a.cap⟩, by omega, by rw [hms.out, HPS.out], by go_num, ?_, ?_, ?_⟩
    · exact (hB.trans (.of_but hb1 hbl hbh)).trans (.of_but hb2 hp.ge hgh)
    ·
     have hbw : b < W.heap.size := Own.lt hO1
     exact Own.keep hO1 (hb2.block b hbw (Ne.symm hgb))
    ·
     rw [← hov1.out]
     refine DOf.turn hD HRA.out HOV.out HG.out (fun j cs hj hjg => ?_) (by rw [HPS.out]; exact hp2)
     have hjb : j ≠ b := box_ne hj hbb (by decide)
     exact (hb2.block j (Nat.lt_of_lt_of_le hj.lt hb1.size) hjg).trans (hb1.block j hj.lt hjb)
   case measure => simp [intOf]; omega
  ·
   have h1 : ¬ (i : Int) < (L.length : Int) := by omega
   obtain rfl : i = L.length := by omega
   go_wp2
   go_ret
   rw [over_all HL.out (Nat.le_refl _)] at hD
   exact ⟨by rw [markAt_end]; rfl, hB, HL.out.symm, fun _ => ⟨b, rows, rfl, hbh, hO, hD⟩⟩
set_option maxHeartbeats 400000 in
theorem markRingS_nil (A : Option Addr) (cap : Nat) (k : Int) (lo hi : Nat) (w : World) :
  Calls Tryz.prog 31 #[.slice A 0 cap, k] w (MarkedS k [] lo hi A 0 cap w) := by
 go_enter Tryz.func31, Tryz.ntmps31
 go_wp2
 go_loopw [1, 5] (fun s1 s5 W => s1 = .int .i64 k ∧ s5 = .int .i64 0 ∧ W = w) (fun _ _ _ => 0)
 case atStart => exact ⟨rfl, rfl, rfl⟩
 case round =>
  obtain ⟨rfl, rfl, rfl⟩ := hrel
  go_wp2
  go_ret
  exact ⟨by simp [markEnd, sumPs], ButIn.refl _ _ _, rfl, fun h => absurd h (by omega)⟩
theorem markRingS_any (A : Option Addr) (n cap : Nat) (L : List Rg) (k : Int) (lo hi : Nat) (w : World) (h : RgsD lo hi w A n cap L) (h0 : 0 ≤ k) (hk : k + 4 * L.length + 4 * sumPs L ≤ 1000000000) (hsm : sumPs L ≤ 1048576) :
  Calls Tryz.prog 31 #[.slice A n cap, k] w (MarkedS k L lo hi A n cap w) := by
 rcases Nat.eq_zero_or_pos n with hn | hn
 ·
  subst hn
  obtain rfl : L = [] := List.length_eq_zero_iff.1 h.1
  exact markRingS_nil A cap k lo hi w
 ·
  obtain ⟨b, rows, rfl, hb, ho, hd⟩ := h.2 hn
  exact markRingS_pos b n cap rows L k lo hi w ho hd h.1 hb h0 hk hsm
set_option maxHeartbeats 400000 in
theorem markStore_any (s : St) (A : Option Addr) (n cap : Nat) (k : Int) (lo hi : Nat) (w : World) (h : RgsD lo hi w A n cap s.rs) (hh : hi ≤ w.heap.size) (h0 : 0 ≤ k) (hk : k + 4 * s.rs.length + 4 * sumPs s.rs ≤ 1000000000) (hsm : sumPs s.rs ≤ 1048576) :
  Calls Tryz.prog 14 #[stV s A n cap, k] w (MarkedS k s.rs lo hi A n cap w) := by
 have HK := Lib.hid hk; clear hk
 unfold stV
 go_enter Tryz.func14, Tryz.ntmps14
 go_wp2_with fail
 refine calls_abs (fun W => Below w.heap.size w W) ((Below.refl _ _).alloc (Nat.le_refl _) _) ?_
 rintro W hB
 refine (markRingS_any A n cap s.rs k lo hi _ (h.below hB hh) h0 HK.out hsm).mono ?_
 rintro e w1 ⟨rfl, hb1, hd1⟩
 go_wp2
 go_ret
 exact ⟨rfl, (ButIn.of_below hB).trans hb1, hd1⟩
set_option maxRecDepth 100000 in
set_option maxHeartbeats 2000000 in
theorem heldRingS_any (A : Option Addr) (n cap : Nat) (L : List Rg) (k : Int) (w : World) (h : RgsR 0 w A n (markRgs k L)) (h0 : 0 ≤ k) (hk : k + 4 * L.length + 4 * sumPs L ≤ 1000000000) (hsm : sumPs L ≤ 1048576) :
  Calls Tryz.prog 32 #[.slice A n cap, k] w (RetBelow (.int .i64 (markEnd k L)) w) := by
 have hl : L.length = n := (markRgs_len k L).symm.trans h.1
 subst hl
 have HK := Lib.hid hk; clear hk
 have hnn : (L.length : Int) ≤ 1000000000 := by have := HK.out; omega
 go_enter Tryz.func32, Tryz.ntmps32
 go_wp2
 go_loopw [1, 5] (fun s1 s5 W => ∃ i : Nat, i ≤ L.length ∧ s1 = .int .i64 (markAt k L i) ∧ s5 = .int .i64 i ∧ Below w.heap.size w W) (fun _ s5 _ => L.length - (intOf s5).toNat)
 case atStart => exact ⟨0, Nat.zero_le _, by simp [markAt, sumPs], rfl, Below.refl _ _⟩
 case round =>
  obtain ⟨i, hi, rfl, rfl, hB⟩ := hrel
  by_cases hlt : i < L.length
  ·
   obtain ⟨b, o, r', rfl, _, hr', A', n', cap', c0, c1, c2, c3, c4, hm, hp⟩ := SlE.at_ (SlE.keep RgE.kept h (fun j _ hj => hB.block j hj)) hlt
   obtain ⟨r, hri⟩ : ∃ r, L[i]? = some r := ⟨_, List.getElem?_eq_getElem hlt⟩
   obtain rfl : markRg (markAt k L i) r = r' := by rw [markRgs_at k hri] at hr'; injection hr'
   have hmL := Lib.hid (markAt_le (k := k) (L := L) (i := i + 1) (by omega))
   have hms := Lib.hid (markAt_succ (k := k) hri)
   have hz0 : 0 ≤ markAt k L i := by have := (markAt_le (k := k) (L := L) (i := i) (by omega)).1; omega
   have hq : r.ps.length = n' := by have := hp.1; simp [markRg, marks_len] at this; exact this
   have hz1 : markAt k L i + 1 + 1 + 1 + 1 + 4 * (n' : Int) ≤ 1000000000 := by have := hmL.out.2; rw [hms.out] at this; have := HK.out; omega
   have hle : n' ≤ 1048576 := by have := sumPs_mem (List.mem_of_getElem? hri); omega
   clear hr'
   generalize markAt k L i = z at *
   have h1 : (i : Int) < (L.length : Int) := by omega
   have h2 : (0 : Int) ≤ (i : Int) := by omega
   have HRI := Lib.hid hri; clear hri
   unfold markRg at c0 c1 c2 c3 hp
   dsimp only at c0 c1 c2 c3 hp
   rw [hq] at hp
   have HQ := Lib.hid hq; clear hq
   go_wp2_with fail
   refine (heldPlaceS_any 0 A' n' cap' (z + 1 + 1 + 1 + 1) _ hp hle (by omega) (by omega)).mono ?_
   rintro e w1 ⟨rfl, hb1⟩
   clear c0 c1 c2 c3 c4
   have h3 : 0 ≤ z + 1 + 1 + 1 + 1 + 4 * (n' : Int) := by omega
   go_wp2
   go_roundw
   case rel => exact ⟨i + 1, by omega, by rw [hms.out, HQ.out], by go_num, bstep hB hB.size hb1⟩
   case measure => simp [intOf]; omega
  ·
   have h1 : ¬ (i : Int) < (L.length : Int) := by omega
   obtain rfl : i = L.length := by omega
   go_wp2
   go_ret
   exact .mk (by rw [markAt_end]; rfl) hB
set_option maxHeartbeats 400000 in
theorem heldStore_any (s t : St) (A : Option Addr) (n cap : Nat) (k : Int) (w : World) (h : RgsR 0 w A n (markRgs k t.rs)) (h0 : 0 ≤ k) (hk : k + 4 * t.rs.length + 4 * sumPs t.rs ≤ 1000000000) (hsm : sumPs t.rs ≤ 1048576) :
  Calls Tryz.prog 15 #[stV s A n cap, k] w (RetBelow (.int .i64 (markEnd k t.rs)) w) := by
 have HK := Lib.hid hk; clear hk
 unfold stV
 go_enter Tryz.func15, Tryz.ntmps15
 go_wp2_with fail
 refine calls_abs (fun W => Below w.heap.size w W) ((Below.refl _ _).alloc (Nat.le_refl _) _) ?_
 rintro W hB
 refine (heldRingS_any A n cap t.rs k _ (h.below hB) h0 HK.out hsm).mono ?_
 rintro e w1 ⟨rfl, hb1⟩
 have hz : 0 ≤ markEnd k t.rs := by unfold markEnd; omega
 generalize markEnd k t.rs = z at *
 go_wp2
 go_ret
 exact .mk rfl (bstep hB hB.size hb1)
end Go.Proofs.YthpckpnlohfcbaaGreatDoor

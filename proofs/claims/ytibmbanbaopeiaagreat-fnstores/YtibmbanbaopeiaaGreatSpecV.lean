/-
 The walks of ChainOf, of both sides.
-/
import Derived.Deep.Light
import Derived.Lib.LazyBuf
import Derived.Test.YtibmbanbaopeiaaGreatIterE
import Derived.Test.YtibmbanbaopeiaaGreatLawC
import Derived.Test.YtibmbanbaopeiaaGreatStoreB
import Derived.Test.YtibmbanbaopeiaaGreatGrowA
import Derived.Test.YtibmbanbaopeiaaGreatGrowV
import Derived.Test.YtibmbanbaopeiaaGreatStoreC
import Derived.Test.YtibmbanbaopeiaaGreatStoreD
namespace Go.Proofs.YtibmbanbaopeiaaGreat
set_option linter.unusedSimpArgs false
set_option linter.unusedVariables false
open Go.RowKit Go.Shelf
set_option linter.unusedVariables false
attribute [local go_sem] Oper.semAt_some
attribute [local go_sem ↓] Go.wp_at_zero Go.wp_at_succ

def chainOf (s : St) : List Int := if stOk s then (chain s.rs s.rs.length s.fi).getD [] else []
theorem stOk_fi {s : St} (h : stOk s = true) : 0 ≤ s.fi ∧ s.fi < s.rs.length := by
 simp only [stOk, stHead, Bool.and_eq_true, inB, decide_eq_true_eq] at h
 omega
theorem stOk_x {s : St} (h : stOk s = true) : ∀ r ∈ s.rs, -1 ≤ r.x ∧ r.x < s.rs.length := fun r hr => by
 simp only [stOk, Bool.and_eq_true] at h
 have := List.all_eq_true.1 h.1.2 r hr
 simp only [inSt, Bool.and_eq_true, decide_eq_true_eq] at this
 exact ⟨ok_next this.1.1, this.2⟩
theorem stOk_chainF {s : St} (h : stOk s = true) : (chain s.rs s.rs.length s.fi).isSome = true := by
 have hf := stOk_fi h
 simp only [stOk, Bool.and_eq_true] at h
 have := List.all_eq_true.1 h.2 s.fi.toNat (List.mem_range.2 (by omega))
 rw [show ((s.fi.toNat : Nat) : Int) = s.fi by omega] at this
 exact this
theorem chain_len {L : List Rg} : ∀ (k : Nat) (z : Int) (l : List Int), chain L k z = some l → l.length ≤ k
 | k, z, l, h => by
  by_cases h0 : z < 0
  ·
   rw [chain_neg h0] at h
   injection h with h
   subst h; simp
  ·
   cases k with
   | zero => rw [chain_zero h0] at h; cases h
   | succ k =>
    unfold chain at h
    rw [if_neg h0] at h
    dsimp only at h
    split at h
    ·
     cases hc : chain L k (_ : Rg).x with
     | none => rw [hc] at h; cases h
     | some l' =>
      rw [hc] at h
      injection h with h
      subst h
      have := chain_len k _ l' hc
      simp; omega
    · cases h
theorem walk_chain {rows : List Rw} {L : List Rg} (hx : rows.map Rw.x = L.map Rg.x) : ∀ (k : Nat) (z : Int) (l : List Int), chain L k z = some l → (walkE rows k z).map (fun x => x.1.1) = l
 | k, z, l, h => by
  by_cases h0 : z < 0
  ·
   rw [chain_neg h0] at h
   injection h with h
   rw [walkE_out (.inl h0), ← h]; rfl
  ·
   cases k with
   | zero => rw [chain_zero h0] at h; cases h
   | succ k =>
    cases hr : L[z.toNat]? with
    | none =>
     unfold chain at h
     rw [if_neg h0] at h
     simp only [hr] at h
     cases h
    | some r =>
     rw [chain_succ h0 hr] at h
     have hxz : (rows.map Rw.x)[z.toNat]? = some r.x := by rw [hx, List.getElem?_map, hr]; rfl
     rw [List.getElem?_map] at hxz
     cases ha : rows[z.toNat]? with
     | none => rw [ha] at hxz; cases hxz
     | some a =>
      rw [ha] at hxz
      have hax : a.x = r.x := by simpa using hxz
      cases hc : chain L k r.x with
      | none => rw [hc] at h; cases h
      | some l' =>
       rw [hc] at h
       injection h with h
       subst h
       rw [walkE_in (by omega) ha, List.map_cons, hax, walk_chain hx k r.x l' hc]

/-- A list of numbers of the call's own is returned. -/
def RetIntl (l : List Int) (w : World) (e : Ending) (w' : World) : Prop := ∃ v, e = .returned v ∧ IntsO w.heap.size w' v l ∧ Below w.heap.size w w'

theorem ints_made {N k : Nat} {w : World} (h : k = w.heap.size) (hN : N ≤ w.heap.size) : IntsO N (w.alloc (.cells #[] 2)) (.slice (some ⟨k, 0, none⟩) 0 0) [] := by
 subst h
 exact World.ownsRow_made w #[] 0 hN (Nat.zero_le _) rfl

set_option maxRecDepth 100000 in
set_option maxHeartbeats 1000000 in
theorem schainOf_any (s : St) (A : Option Addr) (n cap : Nat) (lo hi : Nat) (w : World) (hr : RgsW lo hi w A n cap s.rs) (hh : hi ≤ w.heap.size) (hn2 : n ≤ 1048576) (hm : ∀ r ∈ s.rs, r.ps.length ≤ 1048576) :
  Calls Tryz.prog 15 #[stV s A n cap] w (RetIntl (chainOf s) w) := by
 have HM := Lib.hid hm; clear hm
 have HN := Lib.hid hr.1
 unfold stV
 go_enter Tryz.func15, Tryz.ntmps15
 go_wp2_with fail
 refine calls_abs (fun W => Below w.heap.size w W ∧ BoxAt W w.heap.size #[.int .i64 s.rd, .int .i64 s.mo, .slice A n cap, .int .i64 s.fi, .int .i64 s.la] 28) ⟨(Below.refl _ _).alloc (Nat.le_refl _) _, BoxAt.new _ _ _⟩ ?_
 rintro W ⟨hB, hx⟩
 have hS : SameIn lo hi w W := fun j _ hj => hB.block j (by omega)
 refine (sstoreOk_any s A n cap lo hi _ (hr.keep hS) (by have := hB.size; omega) hn2 HM.out).mono ?_
 rintro e w1 ⟨rfl, hb1⟩
 replace hx := hx.below hb1 hx.lt
 replace hB := bstep hB hB.size hb1
 clear hb1 hS
 have kx := hx.cell
 cases hok : stOk s
 ·
  have HC := Lib.hid (show chainOf s = [] by simp [chainOf, hok])
  go_wp2
  go_ret
  refine ⟨_, rfl, ?_, hB.alloc hB.size _⟩
  rw [HC.out]
  exact ints_made rfl hB.size
 ·
  have HX := Lib.hid (stOk_x hok)
  have HF := Lib.hid (stOk_fi hok)
  have HI := Lib.hid (stOk_chainF hok)
  have HC := Lib.hid (show chainOf s = (chain s.rs s.rs.length s.fi).getD [] by simp [chainOf, hok])
  clear hok
  have hS : SameIn lo hi w w1 := fun j _ hj => hB.block j (by omega)
  go_wp2_with fail
  refine (l3Chain_any s A n cap s.fi lo hi _ (hr.keep hS) (by have := hB.size; omega) hn2 (by have := HF.out.2; have := HN.out; omega) (fun r hr' => by have := (HX.out r hr').2; have := HN.out; omega)).mono ?_
  rintro e w2 ⟨v, rfl, hv, hb2⟩
  go_wp2
  go_ret
  refine ⟨v, rfl, ?_, bstep hB hB.size hb2⟩
  rw [HC.out, HN.out]
  exact own_mono hv hB.size

set_option maxRecDepth 100000 in
set_option maxHeartbeats 4000000 in
theorem ichainOf_any (s : St) (A : Option Addr) (n cap : Nat) (lo hi : Nat) (w : World) (hr : RgsW lo hi w A n cap s.rs) (hh : hi ≤ w.heap.size) (hn2 : n ≤ 1048576) (hm : ∀ r ∈ s.rs, r.ps.length ≤ 1048576) :
  Calls Tryz.prog 8 #[stV s A n cap] w (RetIntl (chainOf s) w) := by
 obtain ⟨i0, hi0, hz0, hz1, hz2⟩ := info_parts int_info
 have HI := Lib.hid hi0
 have HZ0 := Lib.hid hz0
 have HZ1 := Lib.hid hz1
 have HZ2 := Lib.hid hz2
 clear hi0 hz0 hz1 hz2
 have HM := Lib.hid hm; clear hm
 have HN := Lib.hid hr.1
 unfold stV
 refine (callsIn_wide (n := 3)).1 ?_
 refine callsIn_of_wp_marks Tryz.func8 rfl trivial ?_ rfl
 simp only [Tryz.ntmps8, List.size_toArray, List.length_cons, List.length_nil, Nat.reduceAdd, Nat.reduceSub, Array.replicate_succ, Array.replicate_zero, List.push_toArray, List.append_toArray, List.nil_append, List.cons_append]
 gi_wp2_with fail
 refine ⟨trivial, ?_⟩
 refine callsIn_abs (fun W => Below w.heap.size w W ∧ W.heap.size = w.heap.size + 3 ∧ BoxAt W w.heap.size (sC s A n cap) 28 ∧ BoxAt W (w.heap.size + 1 + 1) #[.slice (some ⟨w.heap.size + 1, 0, none⟩) 0 0] 32 ∧ IntsO w.heap.size W (.slice (some ⟨w.heap.size + 1, 0, none⟩) 0 0) []) ?_ ?_
 ·
  refine ⟨(((Below.refl _ _).alloc (Nat.le_refl _) _).alloc (by simp) _).alloc (by simp; omega) _, by simp, ((BoxAt.new _ _ _).alloc _).alloc _, BoxAt.new' (by simp), ?_⟩
  exact (ints_made (by simp) (by simp)).below ((Below.refl _ _).alloc (Nat.le_refl _) _)
 rintro W ⟨hB, hsz, hs, hx, hv⟩
 have hS : SameIn lo hi w W := fun j _ hj => hB.block j (by omega)
 refine (callsIn_wide.2 (istoreOk_any s A n cap lo hi _ (hr.keep hS) (by omega) hn2 HM.out)).mono ?_
 rintro e w1 ⟨rfl, hb1⟩
 have hz1 : w.heap.size + 3 ≤ w1.heap.size := by have := hb1.size; omega
 replace hs := hs.below hb1 hs.lt
 replace hx := hx.below hb1 hx.lt
 replace hv := hv.below hb1
 replace hB := bstep hB hB.size hb1
 clear hb1 hS hsz
 have ks := hs.cell
 unfold sC at ks
 have kx := hx.cell
 cases hok : stOk s
 ·
  have HC := Lib.hid (show chainOf s = [] by simp [chainOf, hok])
  gi_wp2
  refine ⟨_, results_tmp rfl _ _ _, _, rfl, ?_, hB⟩
  rw [HC.out]
  exact hv
 ·
  have HX := Lib.hid (stOk_x hok)
  have HF := Lib.hid (stOk_fi hok)
  have HI2 := Lib.hid (stOk_chainF hok)
  have HC := Lib.hid (show chainOf s = (chain s.rs s.rs.length s.fi).getD [] by simp [chainOf, hok])
  clear hok
  gi_wp2_with fail
  refine ⟨trivial, ?_⟩
  refine (callsIn_wide.2 (ringsFrom_any s _ n cap _ _)).mono ?_
  rintro e w' ⟨rfl, rfl⟩
  gi_wp2
  clear ks kx
  have hpos : 0 < n := by have := HF.out; have := HN.out; omega
  obtain ⟨b, rows, rfl, hbh, hO, hA⟩ := hr.2 hpos
  have hbw : b < w.heap.size := by omega
  obtain ⟨P, hP⟩ : ∃ P, w1.heap.size = P := ⟨_, rfl⟩
  obtain ⟨W0, hW0⟩ : ∃ W0, (w1.alloc (.cells (sC s (some ⟨b, 0, none⟩) n cap) 28)).alloc (.cells #[.int .i64 s.fi] 2) = W0 := ⟨_, rfl⟩
  have hs0 : W0.heap.size = P + 2 := by rw [← hW0]; simp; omega
  have hB0 : Below w.heap.size w W0 := by rw [← hW0]; exact (hB.alloc (by omega) _).alloc (by simp; omega) _
  have hx0 : BoxAt W0 (w.heap.size + 1 + 1) #[.slice (some ⟨w.heap.size + 1, 0, none⟩) 0 0] 32 := by rw [← hW0]; exact (hx.alloc _).alloc _
  have hS0 : BoxAt W0 P (sC s (some ⟨b, 0, none⟩) n cap) 28 := by rw [← hW0]; exact (BoxAt.new' hP.symm).alloc _
  have hR0 : BoxAt W0 (P + 1) #[.int .i64 s.fi] 2 := by rw [← hW0]; exact BoxAt.new' (by simp; omega)
  have hv0 : IntsO w.heap.size W0 (.slice (some ⟨w.heap.size + 1, 0, none⟩) 0 0) [] := by rw [← hW0]; exact hv.below (((Below.refl _ _).alloc (Nat.le_refl _) _).alloc (by simp) _)
  have hO0 : RwsO lo W0 b n cap rows := Own.keep hO (hB0.block b hbw)
  have HWC := Lib.hid (rows_x (hO.1.trans HN.out.symm) hA)
  have hrl : rows.length = n := hO.1
  rw [hW0, hP]
  rw [hP] at hz1
  clear hW0 hx hB hs hv hA hP
  refine wpIn_rangeFunc_ownH rfl (by omega) (gf := 36) (lb := #[.pointer (some ⟨P + 1, 0, none⟩), .pointer (some ⟨P, 0, none⟩)]) rfl trivial (enters_of Tryz.func36 (by kernel_rfl) rfl)
   (ringsFrom_stops 2 P (P + 1) w.heap.size P (P + 1) lo b n cap s rows s.fi (by omega) HN.out hn2 W0 hS0 hR0 hO0 hbw (by omega) (by omega)) kpI_t (kpI_b (by omega) (by omega)) (Below.refl _ _) (fun _ => rfl)
   (fun pre W' => ((∃ v, BoxAt W' (w.heap.size + 1 + 1) #[v] 32 ∧ IntsO w.heap.size W' v (pre.map fun x => x.1.1)) ∧ (BoxAt W' P (sC s (some ⟨b, 0, none⟩) n cap) 28 ∧ P + 2 ≤ W'.heap.size)) ∧ Below w.heap.size w W')
   (fun _ _ _ => False)
   (OwnFrom.and (OwnFrom.and (fun pre X Y row hs hg hr => by
     obtain ⟨v, h1, h2⟩ := hs
     refine ⟨v, boxAt_own W0.heap.size _ (fun (_ : Unit) => #[v]) _ () X Y row h1 hg hr, h2.1, ?_⟩
     rcases h2.2 with h' | ⟨g, cp, cur, hv, hgN, hbx, hrr⟩
     · exact .inl h'
     · exact .inr ⟨g, cp, cur, hv, hgN, boxAt_own W0.heap.size g (fun (_ : Unit) => cur) _ () X Y row hbx hg hr, hrr⟩) (OwnFrom.and (boxAt_own _ _ (fun _ => _) _) ownFrom_size)) (ownFrom_below (Nat.le_refl _) (by omega)))
   (fun _ _ _ _ _ hs _ _ => hs)
   ⟨⟨⟨_, hx0, hv0⟩, hS0, by omega⟩, hB0⟩
   (fun x a' W' => a' = { tmps := #[.agg #[.int .i64 s.rd, .int .i64 s.mo, .slice (some ⟨b, 0, none⟩) n cap, .int .i64 s.fi, .int .i64 s.la], .pointer (some ⟨w.heap.size, 0, none⟩), .slice none 0 0, .pointer (some ⟨w.heap.size + 1 + 1, 0, none⟩), .int .i64 x.1.1, .slice (some ⟨w.heap.size + 1, 0, none⟩) 0 0, .agg #[.int .i64 s.rd, .int .i64 s.mo, .slice (some ⟨b, 0, none⟩) n cap, .int .i64 s.fi, .int .i64 s.la], .bool true, .bool false, undef, .agg #[.int .i64 s.rd, .int .i64 s.mo, .slice (some ⟨b, 0, none⟩) n cap, .int .i64 s.fi, .int .i64 s.la], .pointer (some ⟨w.heap.size, 3, none⟩), .int .i64 s.fi, .func (.func 36) #[] #[.pointer (some ⟨P + 1, 0, none⟩), .pointer (some ⟨P, 0, none⟩)], .int .i64 x.1.1, .agg (rwC x.1.2), undef, undef, undef, undef, undef], defers := [] })
   (fun x a' _ X Y row hs hg hr => hs)
   ?assign ?body ?done ?stop
  case assign =>
   rintro l pre x W1 K hi hK
   unfold elV
   gi_wp2
   exact hK _ _ (KeepsFrom.refl _ _) (KpI.refl _ _ _ _) hi rfl
  case body =>
   rintro l pre x a' W1 _ _ ⟨⟨⟨v, hx1, hv1⟩, hS1, hz2⟩, hB1⟩ rfl hlt
   have hpl : (pre.map fun x => x.1.1).length = pre.length := by simp
   have hbig : pre.length < 1048576 := by omega
   have HIN := Lib.hid hv1
   obtain ⟨A1, c1, rfl, _⟩ := hv1.r
   have kx := hx1.cell
   have hne : some P ≠ (Value.slice A1 (pre.map fun x => x.1.1).length c1).ownBlock := by
    intro e
    rcases hv1.2 with ⟨h1, _⟩ | ⟨g, cp, cur, hv, _, hbx, _⟩
    · rw [h1] at e; cases e
    ·
     rw [hv] at e
     have : P = g := by simpa [Value.ownBlock] using e
     exact box_ne hS1 hbx (by decide) this
   rw [hpl] at hne kx
   have hv2 : W1.ownsRow w.heap.size 2 1 (.slice A1 pre.length c1) pre.length ((pre.map fun x => x.1.1).flatMap ic) := by have := hv1; unfold IntsO at this; rw [hpl] at this; exact this
   have hx2 : BoxAt W1 (w.heap.size + 1 + 1) #[.slice A1 pre.length c1] 32 := by rw [hpl] at hx1; exact hx1
   clear hv1 hx1
   gi_wp2_with (gi_at_builtin; refine wpListIn_append_own _ rfl _ _ 32 rfl w.heap.size 2 i0 _ 1 8 Tryz.underlying32 HI.out HZ0.out HZ1.out HZ2.out rfl (by omega) _ _ _ rfl (hv2.alloc _) ⟨W1.heap.size, 0, none⟩ 1 1 [.int .i64 x.1.1] rfl rfl (news_alloc _ _ _) (by intro u hu; simp at hu; subst hu; rfl) (by unfold maxLen; omega) (by omega) (by have := hB1.size; simp; omega) ?_; intro v' w2 hO' hg' hz'; clear hz'; obtain ⟨g', cap', rfl, hP'⟩ := Own.of_row (f := ic) (l := (pre ++ [x]).map fun x => x.1.1) (by rw [List.map_append, List.flatMap_append]; exact hO') (by simp) (by omega); clear kx; obtain ⟨hy1, hy2, hy3, hy4, hy5⟩ := Boxed.appended (B := w.heap.size + 1 + 1) (t := 32) hx2 (by decide) hv2 hB1.size (by omega) hO' hg'; have ky := hy1.cell; have fy := hy1.frozen)
   have hlP : P < W1.heap.size := by omega
   have hkP : w2.heap[P]? = W1.heap[P]? := (hg'.block P (by simp; omega) hne).trans (Below.heap_alloc W1 _ P hlP)
   have hkS : (w2.setCell ⟨w.heap.size + 1 + 1, 0, none⟩ (.slice (some ⟨g', 0, none⟩) (pre.length + 1) cap')).heap[P]? = W1.heap[P]? := (Below.heap_setCell w2 ⟨w.heap.size + 1 + 1, 0, none⟩ _ P (by show P ≠ w.heap.size + 1 + 1; omega)).trans hkP
   have hsz2 : W1.heap.size ≤ w2.heap.size := Nat.le_trans (by simp) hg'.size
   refine ⟨hy4.from _, ⟨hy5, fun j h1 h2 => by obtain rfl : j = P := (by omega); exact hkS⟩, ⟨⟨_, hy2, ?_⟩, ?_, by simp; omega⟩, hB1.trans hy5⟩
   ·
    unfold IntsO
    rw [List.map_append, List.flatMap_append]
    have e : ((pre.map fun x => x.1.1) ++ [x].map fun x => x.1.1).length = pre.length + 1 := by simp
    rw [e]
    exact hy3
   ·
    unfold BoxAt at hS1 ⊢
    rw [hkS]; exact hS1
  case done =>
   rintro D ys W1 hD rfl ⟨⟨⟨v, hx1, hv1⟩, hS1, hz2⟩, hB1⟩ hK
   obtain ⟨ch, hch⟩ := Option.isSome_iff_exists.1 HI2.out
   have hwl : (walkE rows n s.fi).map (fun x => x.1.1) = chainOf s := by
    rw [HC.out, hch]
    have := walk_chain HWC.out _ _ _ hch
    rw [HN.out] at this
    exact this
   rw [hwl] at hv1
   obtain ⟨A1, c1, rfl, _⟩ := hv1.r
   have kx := hx1.cell
   gi_wp2
   refine ⟨by simp, .inl ⟨_, _, rfl, run_takeDeferred hK, ?_⟩⟩
   refine ⟨_, results_tmp rfl _ _ _, _, rfl, ?_, hB1.trans (belowK_b (w := w) (Nat.le_refl _) W1 D _ _ (by omega) hK rfl rfl)⟩
   exact ownsRow_putObj hv1 _ hK rfl
  case stop =>
   rintro D c pre W1 _ _ h _
   exact h.elim

end Go.Proofs.YtibmbanbaopeiaaGreat

/-
 Places sorted by their number: as the program's library does it, step by step; what comes of it as a plain function.
-/
namespace Go.Proofs.YtibmbanbaopeiaaGreat
set_option linter.unusedSimpArgs false
set_option linter.unusedVariables false
open Go.RowKit
set_option linter.unusedVariables false
attribute [local go_sem] OpUpon
attribute [local go_sem ↓] Go.wp_at_zero Go.wp_at_succ

/-- Place number j goes down as long as the one ahead of it has a greater number. -/
def sinkP : Nat → List Pl → List Pl
 | 0, l => l
 | j + 1, l => match l[j + 1]?, l[j]? with
  | some p, some q => if p.n < q.n then sinkP j ((l.set (j + 1) q).set j p) else l
  | _, _ => l
theorem sinkP_lt {l : List Pl} {j : Nat} {p q : Pl} (hp : l[j + 1]? = some p) (hq : l[j]? = some q) (h : p.n < q.n) : sinkP (j + 1) l = sinkP j ((l.set (j + 1) q).set j p) := by
 conv => lhs; unfold sinkP
 simp only [hp, hq, h, if_true]
theorem sinkP_ge {l : List Pl} {j : Nat} {p q : Pl} (hp : l[j + 1]? = some p) (hq : l[j]? = some q) (h : ¬ p.n < q.n) : sinkP (j + 1) l = l := by
 unfold sinkP
 simp only [hp, hq, h, if_false]
theorem sinkP_len : ∀ (j : Nat) (l : List Pl), (sinkP j l).length = l.length
 | 0, _ => rfl
 | j + 1, l => by
  unfold sinkP
  split
  ·
   split
   · rw [sinkP_len j]; simp
   · rfl
  · rfl
/-- Sorted as far as place number k. -/
def sortTo (l : List Pl) : Nat → List Pl
 | 0 => l
 | k + 1 => if k = 0 then l else sinkP k (sortTo l k)
theorem sortTo_one (l : List Pl) : sortTo l 1 = l := by simp [sortTo]
theorem sortTo_succ (l : List Pl) {k : Nat} (h : 1 ≤ k) : sortTo l (k + 1) = sinkP k (sortTo l k) := by
 conv => lhs; unfold sortTo
 rw [if_neg (by omega)]
theorem sortTo_len (l : List Pl) : ∀ k : Nat, (sortTo l k).length = l.length
 | 0 => rfl
 | k + 1 => by
  unfold sortTo
  split
  · rfl
  · rw [sinkP_len, sortTo_len l k]

def cmpI (a b : Int) : Int := if a < b then -1 else if b < a then 1 else 0
theorem cmpI_lt (a b : Int) : decide (cmpI a b < 0) = decide (a < b) := by
 unfold cmpI
 split
 · rename_i h; simp [h]
 ·
  split
  · rename_i h h'; simp [h]
  · rename_i h h'; simp [h]

set_option maxHeartbeats 400000 in
theorem isNaN_any (z : Int) (w : World) : Calls Tryz.prog 69 #[.int .i64 z] w (Quiet1 (.bool false) w) := by
 go_enter Tryz.func69, Tryz.ntmps69
 go_wp2
 go_ret
 exact ⟨by simp, rfl⟩

set_option maxHeartbeats 400000 in
theorem compare_any (a b : Int) (w : World) : Calls Tryz.prog 51 #[.int .i64 a, .int .i64 b] w (Quiet1 (.int .i64 (cmpI a b)) w) := by
 by_cases h1 : a < b
 ·
  have HC := Lib.hid (show cmpI a b = -1 by simp [cmpI, h1])
  go_enter Tryz.func51, Tryz.ntmps51
  go_wp2_with fail
  refine (isNaN_any _ _).mono ?_
  rintro e w' ⟨rfl, rfl⟩
  go_wp2_with fail
  refine (isNaN_any _ _).mono ?_
  rintro e w' ⟨rfl, rfl⟩
  go_wp2
  go_ret
  exact ⟨by rw [HC.out]; rfl, rfl⟩
 ·
  by_cases h2 : b < a
  ·
   have HC := Lib.hid (show cmpI a b = 1 by simp [cmpI, h1, h2])
   have h1' : b ≤ a := by omega
   go_enter Tryz.func51, Tryz.ntmps51
   go_wp2_with fail
   refine (isNaN_any _ _).mono ?_
   rintro e w' ⟨rfl, rfl⟩
   go_wp2_with fail
   refine (isNaN_any _ _).mono ?_
   rintro e w' ⟨rfl, rfl⟩
   go_wp2
   go_ret
   exact ⟨by rw [HC.out]; rfl, rfl⟩
  ·
   have HC := Lib.hid (show cmpI a b = 0 by simp [cmpI, h1, h2])
   go_enter Tryz.func51, Tryz.ntmps51
   go_wp2_with fail
   refine (isNaN_any _ _).mono ?_
   rintro e w' ⟨rfl, rfl⟩
   go_wp2_with fail
   refine (isNaN_any _ _).mono ?_
   rintro e w' ⟨rfl, rfl⟩
   go_wp2
   go_ret
   exact ⟨by rw [HC.out]; rfl, rfl⟩

set_option maxHeartbeats 400000 in
theorem byNo_any (p q : Pl) (w : World) : Calls Tryz.prog 39 #[.agg #[.bool p.s, .int .i64 p.n, .bool p.f, .int .i64 p.v], .agg #[.bool q.s, .int .i64 q.n, .bool q.f, .int .i64 q.v]] w (RetBelow (.int .i64 (cmpI p.n q.n)) w) := by
 go_enter Tryz.func39, Tryz.ntmps39
 go_wp2_with fail
 refine (compare_any _ _ _).mono ?_
 rintro e w' ⟨rfl, rfl⟩
 go_wp2
 go_ret
 exact .mk rfl (((Below.refl _ _).alloc (Nat.le_refl _) _).alloc (by simp) _)

theorem pls_at {lo : Nat} {w : World} {g n cap : Nat} {l : List Pl} (h : PlsO lo w g n cap l) {i : Nat} {p : Pl} (hp : l[i]? = some p) :
  w.cell? ⟨g, i * 4, none⟩ = some (.bool p.s) ∧ w.cell? ⟨g, i * 4 + 1, none⟩ = some (.int .i64 p.n) ∧ w.cell? ⟨g, i * 4 + 2, none⟩ = some (.bool p.f) ∧ w.cell? ⟨g, i * 4 + 3, none⟩ = some (.int .i64 p.v) :=
 ⟨Own.cell_ Pl.cs_len h (j := 0) hp rfl, Own.cell_ Pl.cs_len h (j := 1) hp rfl, Own.cell_ Pl.cs_len h (j := 2) hp rfl, Own.cell_ Pl.cs_len h (j := 3) hp rfl⟩

def insLaV (g n cap jj : Nat) (p q : Pl) : List Sl := [.v (.int .i64 ((jj : Int))),
 .v (.int .i64 0),
 .v (.bool true),
 .v (.bool true),
 .v (.func (.func 39) #[] #[]),
 .v (.slice (some ⟨g, 0, none⟩) n cap),
 .v (.int .i64 ((jj : Int))),
 .v (.pointer (some ⟨g, jj * 4, none⟩)),
 .v (.agg #[.bool p.s, .int .i64 p.n, .bool p.f, .int .i64 p.v]),
 .v (.slice (some ⟨g, 0, none⟩) n cap),
 .v (.int .i64 ((jj : Int))),
 .v (.int .i64 ((jj : Int) - 1)),
 .v (.pointer (some ⟨g, (jj - 1) * 4, none⟩)),
 .v (.agg #[.bool q.s, .int .i64 q.n, .bool q.f, .int .i64 q.v]),
 .v (.int .i64 (cmpI p.n q.n)),
 .v (.bool true),
 .v (.bool true)]

def insLbV (g n cap jj : Nat) (p q : Pl) : List Sl := [.v (.int .i64 ((jj : Int))),
 .v (.int .i64 0),
 .v (.bool true),
 .v (.bool true),
 .v (.func (.func 39) #[] #[]),
 .v (.slice (some ⟨g, 0, none⟩) n cap),
 .v (.int .i64 ((jj : Int))),
 .v (.pointer (some ⟨g, jj * 4, none⟩)),
 .v (.agg #[.bool p.s, .int .i64 p.n, .bool p.f, .int .i64 p.v]),
 .v (.slice (some ⟨g, 0, none⟩) n cap),
 .v (.int .i64 ((jj : Int))),
 .v (.int .i64 ((jj : Int) - 1)),
 .v (.pointer (some ⟨g, (jj - 1) * 4, none⟩)),
 .v (.agg #[.bool q.s, .int .i64 q.n, .bool q.f, .int .i64 q.v]),
 .v (.int .i64 (cmpI p.n q.n)),
 .v (.bool false),
 .v (.bool false)]

def insLcV (g n cap : Nat) : List Sl := [.v (.int .i64 0),
 .v (.int .i64 0),
 .v (.bool false),
 .v (.bool false),
 .v undef,
 .v undef,
 .v undef,
 .v undef,
 .v undef,
 .v undef,
 .v undef,
 .v undef,
 .v undef,
 .v undef,
 .v undef,
 .v undef,
 .v (.bool false)]

def insSR (g n cap jj : Nat) (p q : Pl) (k : Nat) (σ : Nat → Value) (_w : World) : Prop :=
 match k with
 | 0 => σ 0 = .slice (some ⟨g, 0, none⟩) n cap
 | 1 => σ 1 = .int .i64 jj
 | 2 => σ 2 = .slice (some ⟨g, 0, none⟩) n cap
 | 3 => σ 3 = .int .i64 jj
 | 4 => σ 4 = .int .i64 ((jj : Int) - 1)
 | 5 => σ 5 = .slice (some ⟨g, 0, none⟩) n cap
 | 6 => σ 6 = .int .i64 jj
 | 7 => σ 7 = .int .i64 ((jj : Int) - 1)
 | 8 => σ 8 = .pointer (some ⟨g, (jj - 1) * 4, none⟩)
 | 9 => σ 9 = .agg #[.bool q.s, .int .i64 q.n, .bool q.f, .int .i64 q.v]
 | 10 => σ 10 = .slice (some ⟨g, 0, none⟩) n cap
 | 11 => σ 11 = .int .i64 jj
 | 12 => σ 12 = .pointer (some ⟨g, jj * 4, none⟩)
 | 13 => σ 13 = .agg #[.bool p.s, .int .i64 p.n, .bool p.f, .int .i64 p.v]
 | 14 => σ 14 = .pointer (some ⟨g, jj * 4, none⟩)
 | 15 => True
 | 16 => σ 16 = .pointer (some ⟨g, (jj - 1) * 4, none⟩)
 | 17 => True
 | _ => True

def insSS (j : Nat) : List Nat := [j]
def insSK (j : Nat) : Nat := [0, 0, 0, 0, 0, 0, 0, 0, 0, 0, 0, 0, 0, 0, 0, 1, 0, 1].getD j 0
/-- The places, while they are swapped. -/
def insST (cur : List Pl) (jj j1 : Nat) (p q : Pl) (a b : Bool) : List Pl := bif b then (bif a then cur.set jj q else cur).set j1 p else bif a then cur.set jj q else cur

/-- The places are sorted; all else is as it was. -/
def Sorts (lo g n cap : Nat) (l : List Pl) (w : World) (e : Ending) (w' : World) : Prop := (∃ v, e = .returned v) ∧ But g w w' ∧ PlsO lo w' g n cap (sortTo l n)

set_option maxRecDepth 100000 in
set_option maxHeartbeats 4000000 in
theorem insertion_any (lo g n cap : Nat) (l : List Pl) (w : World) (h : PlsO lo w g n cap l) (h1 : 1 ≤ n) (h12 : n ≤ 12) :
  Calls Tryz.prog 59 #[.slice (some ⟨g, 0, none⟩) n cap, .int .i64 0, .int .i64 n, .func (.func 39) #[] #[]] w (Sorts lo g n cap l w) := by
 go_enter Tryz.func59, Tryz.ntmps59
 go_wp2
 go_loopw [8] (fun s8 W => ∃ k : Nat, 1 ≤ k ∧ k ≤ n ∧ s8 = .int .i64 k ∧ But g w W ∧ PlsO lo W g n cap (sortTo l k)) (fun s8 _ => n - (intOf s8).toNat)
 case atStart => exact ⟨1, Nat.le_refl _, h1, by go_num, But.refl _ _, by rw [sortTo_one]; exact h⟩
 case round =>
  obtain ⟨k, hk1, hkn, rfl, hB, hO⟩ := hrel
  by_cases hlt : k < n
  ·
   have g1 : (k : Int) < (n : Int) := by omega
   have HS := Lib.hid (sortTo_succ l hk1)
   go_wp2_with fail
   obtain ⟨wo, rfl⟩ : ∃ wo : World, wo = wr := ⟨_, rfl⟩
   go_loopw [9] (fun s9 W => ∃ (j : Nat) (cur : List Pl), j ≤ k ∧ s9 = .int .i64 j ∧ But g w W ∧ PlsO lo W g n cap cur ∧ sinkP j cur = sinkP k (sortTo l k)) (fun s9 _ => (intOf s9).toNat)
   case atStart => exact ⟨k, _, Nat.le_refl _, rfl, hB, hO, rfl⟩
   case round =>
    clear hB hO
    obtain ⟨jj, cur, hjk, rfl, hB, hO, hs⟩ := hrel
    have HSK := Lib.hid hs; clear hs
    rcases Nat.eq_zero_or_pos jj with h0 | h0
    ·
     subst h0
     have HE := Lib.hid (show cur = sinkP k (sortTo l k) from HSK.out)
     go_upto_region 4 with fail
     go_cut [34] from 18 to 52 (fun u W' => But g w W' ∧ PlsO lo W' g n cap cur ∧ u = .bool false)
     case first =>
      refine wp_region2v (fun w w' => Below w.heap.size w w') (fun _ _ h => h.size) (fun _ => Below.refl _ _) (fun L W' => But g w W' ∧ PlsO lo W' g n cap cur) (insLcV g n cap) (fun _ => 0) [] (by kernel_rfl) (by kernel_rfl) ?_ ?_ ?_
       (.still rfl ?a0 <| .still rfl ?a1 <| .still rfl ?a2 <| .still rfl ?a3 <| .still rfl ?a4 <| .still rfl ?a5 <| .still rfl ?a6 <| .still rfl ?a7 <| .still rfl ?a8 <| .still rfl ?a9 <| .still rfl ?a10 <| .still rfl ?a11 <| .still rfl ?a12 <| .still rfl ?a13 <| .still rfl ?a14 <| .still rfl ?a15 <| .still rfl ?a16 <| .nil) ?_ ?_
      · exact trivial
      · exact trivial
      · exact ⟨⟨hB.os, hB.tape, hB.output, hB.size, hB.block⟩, hO⟩
      case a0 | a1 | a2 | a3 | a4 | a5 | a6 | a7 | a8 | a9 | a10 | a11 | a12 | a13 | a14 | a15 | a16 =>
       go_light
       intro L σ W' hcl hL hC hw
       try have e0 := wT hw 0 rfl
       try have e1 := wT hw 1 rfl
       try have e2 := wT hw 2 rfl
       try have e3 := wT hw 3 rfl
       try have e4 := wT hw 4 rfl
       try have e5 := wT hw 5 rfl
       try have e6 := wT hw 6 rfl
       try have e7 := wT hw 7 rfl
       try have e8 := wT hw 8 rfl
       try have e9 := wT hw 9 rfl
       try have e10 := wT hw 10 rfl
       try have e11 := wT hw 11 rfl
       try have e12 := wT hw 12 rfl
       try have e13 := wT hw 13 rfl
       try have e14 := wT hw 14 rfl
       try have e15 := wT hw 15 rfl
       clear hw hcl hL hC
       refine OpGoes.go fun K hK => ?_
       go_simp
       exact hK _ _ ⟨rfl, rfl⟩
      ·
       intro L L' W' hLL hC
       obtain ⟨hB, hO⟩ := hC
       exact ⟨hB, hO⟩
      ·
       intro σ L W' hall hC hRR
       obtain ⟨hB, hO⟩ := hC
       have e16 := dV hRR 16 rfl
       clear hRR
       simp only [lexAll]
       go_simp
       go_step
       go_meet
       exact ⟨hB, hO, rfl⟩
     case rest =>
      clear hB hO
      obtain ⟨hB, hO, rfl⟩ := hcut
      go_wp2
      go_roundw
      case rel => exact ⟨k + 1, by omega, by omega, by go_num, hB, by rw [HS.out, ← HE.out]; exact hO⟩
      case measure => simp [intOf]; omega
    ·
     obtain ⟨j1, hj1⟩ : ∃ j1, jj = j1 + 1 := ⟨jj - 1, by omega⟩
     have HJ1 := Lib.hid (show jj - 1 = j1 by omega)
     have hcl := hO.1
     have hj1n : j1 < n := by omega
     obtain ⟨p, hp⟩ : ∃ p, cur[jj]? = some p := ⟨_, List.getElem?_eq_getElem (by omega)⟩
     obtain ⟨q, hq⟩ : ∃ q, cur[j1]? = some q := ⟨_, List.getElem?_eq_getElem (by omega)⟩
     have HP := Lib.hid hp
     have HQ := Lib.hid hq
     clear hp hq hcl
     have HJE := Lib.hid hj1
     clear hj1
     by_cases hpq : p.n < q.n
     ·
      have HD := Lib.hid (show decide (p.n < q.n) = true by simpa using hpq)
      have HSI := Lib.hid (show sinkP jj cur = sinkP j1 ((cur.set jj q).set j1 p) by have hj1 := HJE.out; subst hj1; exact sinkP_lt HP.out HQ.out hpq)
      go_upto_region 4 with fail
      go_cut [34] from 18 to 52 (fun u W' => But g w W' ∧ PlsO lo W' g n cap cur ∧ u = .bool true)
      case first =>
       refine wp_region2v (fun w w' => Below w.heap.size w w') (fun _ _ h => h.size) (fun _ => Below.refl _ _) (fun L W' => But g w W' ∧ PlsO lo W' g n cap cur) (insLaV g n cap jj p q) (fun _ => 0) [] (by kernel_rfl) (by kernel_rfl) ?_ ?_ ?_
        (.still rfl ?a0 <| .still rfl ?a1 <| .still rfl ?a2 <| .still rfl ?a3 <| .still rfl ?a4 <| .still rfl ?a5 <| .still rfl ?a6 <| .still rfl ?a7 <| .still rfl ?a8 <| .still rfl ?a9 <| .still rfl ?a10 <| .still rfl ?a11 <| .still rfl ?a12 <| .still rfl ?a13 <| .grow rfl ?a14 <| .still rfl ?a15 <| .still rfl ?a16 <| .nil) ?_ ?_
       · exact trivial
       · exact trivial
       · exact ⟨⟨hB.os, hB.tape, hB.output, hB.size, hB.block⟩, hO⟩
       case a0 | a1 | a3 | a4 | a5 | a6 | a9 | a10 | a16 =>
        go_light
        intro L σ W' hcl hL hC hw
        try have e2 := wT hw 2 rfl
        try have e3 := wT hw 3 rfl
        try have e15 := wT hw 15 rfl
        clear hw hcl hL hC
        refine OpGoes.go fun K hK => ?_
        go_simp
        exact hK _ _ ⟨rfl, rfl⟩
       case a8 =>
        go_light
        intro L σ W' hcl hL hC hw
        have e3 := wV hw 3 rfl
        have e7 := wV hw 7 rfl
        obtain ⟨d0, d1, d2, d3⟩ := pls_at hC.2 HP.out
        clear hw hcl hL hC
        refine OpGoes.go fun K hK => ?_
        go_simp
        exact hK _ _ ⟨rfl, rfl⟩
       case a13 =>
        go_light
        intro L σ W' hcl hL hC hw
        have e3 := wV hw 3 rfl
        have e12 := wV hw 12 rfl
        obtain ⟨d0, d1, d2, d3⟩ := pls_at hC.2 HQ.out
        rw [← HJ1.out] at d0 d1 d2 d3
        clear hw hcl hL hC
        refine OpGoes.go fun K hK => ?_
        go_simp
        exact hK _ _ ⟨rfl, rfl⟩
       case a2 =>
        go_light
        intro L σ W' hcl hL hC hw
        have e0 := wV hw 0 rfl
        have e1 := wV hw 1 rfl
        have b0_ : (0 : Int) < (jj : Int) := by omega
        clear hw hcl hL hC
        refine OpGoes.go fun K hK => ?_
        go_simp
        exact hK _ _ ⟨rfl, rfl⟩
       case a7 =>
        go_light
        intro L σ W' hcl hL hC hw
        have e3 := wV hw 3 rfl
        have e5 := wV hw 5 rfl
        have e6 := wV hw 6 rfl
        have b1_ : (0 : Int) ≤ (jj : Int) := by omega
        have b2_ : (jj : Int) < (n : Int) := by omega
        clear hw hcl hL hC
        refine OpGoes.go fun K hK => ?_
        go_simp
        exact hK _ _ ⟨rfl, rfl⟩
       case a11 =>
        go_light
        intro L σ W' hcl hL hC hw
        have e3 := wV hw 3 rfl
        have e10 := wV hw 10 rfl
        have wr_ : IntKind.i64.wrap ((jj : Int) - 1) = (jj : Int) - 1 := by rw [IntKind.wrap_i64]; omega
        clear hw hcl hL hC
        refine OpGoes.go fun K hK => ?_
        go_simp
        exact hK _ _ ⟨rfl, rfl⟩
       case a12 =>
        go_light
        intro L σ W' hcl hL hC hw
        have e3 := wV hw 3 rfl
        have e9 := wV hw 9 rfl
        have e11 := wV hw 11 rfl
        have b1_ : (1 : Int) ≤ (jj : Int) := by omega
        have b2_ : (jj : Int) - 1 < (n : Int) := by omega
        clear hw hcl hL hC
        refine OpGoes.go fun K hK => ?_
        go_simp
        exact hK _ _ ⟨rfl, rfl⟩
       case a14 =>
        go_light
        intro L σ W' hcl hL hC hw
        have e3 := wV hw 3 rfl
        have e4 := wV hw 4 rfl
        have e8 := wV hw 8 rfl
        have e13 := wV hw 13 rfl
        clear hw
        have HC := Lib.hid hC
        clear hC
        clear hcl hL
        refine OpGoes.go fun K hK => ?_
        go_simp
        obtain ⟨hB, hO⟩ := HC.out
        refine (byNo_any p q _).mono ?_
        rintro e w1 ⟨rfl, hb1⟩
        exact ⟨_, rfl, hK _ _ ⟨⟨hB.trans (But.of_below hb1), hO.below hb1⟩, rfl, hb1⟩⟩
       case a15 =>
        go_light
        intro L σ W' hcl hL hC hw
        have e3 := wV hw 3 rfl
        have e14 := wV hw 14 rfl
        have lt_ : decide (cmpI p.n q.n < 0) = true := by rw [cmpI_lt]; exact HD.out
        clear hw hcl hL hC
        refine OpGoes.go fun K hK => ?_
        go_simp
        exact hK _ _ ⟨rfl, rfl⟩
       ·
        intro L L' W' hLL hC
        obtain ⟨hB, hO⟩ := hC
        exact ⟨hB, hO⟩
       ·
        intro σ L W' hall hC hRR
        obtain ⟨hB, hO⟩ := hC
        have e16 := dV hRR 16 rfl
        clear hRR
        simp only [lexAll]
        go_simp
        go_step
        go_meet
        exact ⟨hB, hO, rfl⟩
      case rest =>
       clear hB hO
       obtain ⟨hB, hO, rfl⟩ := hcut
       go_upto_region 6 with fail
       refine wp_region2 (fun w w' => w.heap.size ≤ w'.heap.size) (fun _ _ h => h) (fun L W' => But g w W' ∧ PlsO lo W' g n cap (insST cur jj j1 p q (L 15) (L 17))) (insSR g n cap jj p q) insSK insSS (by kernel_rfl) (by kernel_rfl) ?_ ?_ ?_
        (.grow rfl ?_ <| .grow rfl ?_ <| .grow rfl ?_ <| .grow rfl ?_ <| .grow rfl ?_ <| .grow rfl ?_ <| .grow rfl ?_ <| .grow rfl ?_ <| .grow rfl ?_ <| .grow rfl ?_ <| .grow rfl ?_ <| .grow rfl ?_ <| .grow rfl ?_ <| .grow rfl ?_ <| .grow rfl ?_ <| .store rfl ?_ <| .grow rfl ?_ <| .store rfl ?_ <| .nil) ?_
       ·
        intro j σ τ w h hR
        match j, h, hR with
        | 0, h, hR => exact (h 0 (List.mem_singleton.2 rfl)).symm.trans hR
        | 1, h, hR => exact (h 1 (List.mem_singleton.2 rfl)).symm.trans hR
        | 2, h, hR => exact (h 2 (List.mem_singleton.2 rfl)).symm.trans hR
        | 3, h, hR => exact (h 3 (List.mem_singleton.2 rfl)).symm.trans hR
        | 4, h, hR => exact (h 4 (List.mem_singleton.2 rfl)).symm.trans hR
        | 5, h, hR => exact (h 5 (List.mem_singleton.2 rfl)).symm.trans hR
        | 6, h, hR => exact (h 6 (List.mem_singleton.2 rfl)).symm.trans hR
        | 7, h, hR => exact (h 7 (List.mem_singleton.2 rfl)).symm.trans hR
        | 8, h, hR => exact (h 8 (List.mem_singleton.2 rfl)).symm.trans hR
        | 9, h, hR => exact (h 9 (List.mem_singleton.2 rfl)).symm.trans hR
        | 10, h, hR => exact (h 10 (List.mem_singleton.2 rfl)).symm.trans hR
        | 11, h, hR => exact (h 11 (List.mem_singleton.2 rfl)).symm.trans hR
        | 12, h, hR => exact (h 12 (List.mem_singleton.2 rfl)).symm.trans hR
        | 13, h, hR => exact (h 13 (List.mem_singleton.2 rfl)).symm.trans hR
        | 14, h, hR => exact (h 14 (List.mem_singleton.2 rfl)).symm.trans hR
        | 15, h, hR => exact trivial
        | 16, h, hR => exact (h 16 (List.mem_singleton.2 rfl)).symm.trans hR
        | 17, h, hR => exact trivial
        | _ + 18, _, _ => exact trivial
       ·
        intro j σ w w' hb hR
        match j, hR with
        | 0, hR => exact hR
        | 1, hR => exact hR
        | 2, hR => exact hR
        | 3, hR => exact hR
        | 4, hR => exact hR
        | 5, hR => exact hR
        | 6, hR => exact hR
        | 7, hR => exact hR
        | 8, hR => exact hR
        | 9, hR => exact hR
        | 10, hR => exact hR
        | 11, hR => exact hR
        | 12, hR => exact hR
        | 13, hR => exact hR
        | 14, hR => exact hR
        | 15, hR => exact hR
        | 16, hR => exact hR
        | 17, hR => exact hR
        | _ + 18, _ => exact trivial
       · exact ⟨⟨hB.os, hB.tape, hB.output, hB.size, hB.block⟩, hO⟩
       ·
        -- 0: Op.move t0
        go_light
        intro L σ W' hcl hL hC hw
        obtain ⟨hB, hO⟩ := hC
        have HB_ := Lib.hid hB
        have HO_ := Lib.hid hO
        clear hcl hw hB hO hL
        refine OpGoes.go fun K hK => ?_
        go_simp
        exact hK _ _ ⟨⟨HB_.out, by simpa [upd] using HO_.out⟩, rfl, Nat.le_refl _⟩
       ·
        -- 1: Op.move t9
        go_light
        intro L σ W' hcl hL hC hw
        obtain ⟨hB, hO⟩ := hC
        have HB_ := Lib.hid hB
        have HO_ := Lib.hid hO
        clear hcl hw hB hO hL
        refine OpGoes.go fun K hK => ?_
        go_simp
        exact hK _ _ ⟨⟨HB_.out, by simpa [upd] using HO_.out⟩, rfl, Nat.le_refl _⟩
       ·
        -- 2: Op.move t0
        go_light
        intro L σ W' hcl hL hC hw
        obtain ⟨hB, hO⟩ := hC
        have HB_ := Lib.hid hB
        have HO_ := Lib.hid hO
        clear hcl hw hB hO hL
        refine OpGoes.go fun K hK => ?_
        go_simp
        exact hK _ _ ⟨⟨HB_.out, by simpa [upd] using HO_.out⟩, rfl, Nat.le_refl _⟩
       ·
        -- 3: Op.move t9
        go_light
        intro L σ W' hcl hL hC hw
        obtain ⟨hB, hO⟩ := hC
        have HB_ := Lib.hid hB
        have HO_ := Lib.hid hO
        clear hcl hw hB hO hL
        refine OpGoes.go fun K hK => ?_
        go_simp
        exact hK _ _ ⟨⟨HB_.out, by simpa [upd] using HO_.out⟩, rfl, Nat.le_refl _⟩
       ·
        -- 4: Op.binOp BinOp.sub 3 t40 (const (1:i64)) 3
        go_light
        intro L σ W' hcl hL hC hw
        have e3 : σ 3 = .int .i64 jj := hw 3 (by kernel_rfl)
        obtain ⟨hB, hO⟩ := hC
        have wr_ : IntKind.i64.wrap ((jj : Int) - 1) = (jj : Int) - 1 := by rw [IntKind.wrap_i64]; omega
        have HB_ := Lib.hid hB
        have HO_ := Lib.hid hO
        clear hcl hw hB hO hL
        refine OpGoes.go fun K hK => ?_
        go_simp
        exact hK _ _ ⟨⟨HB_.out, by simpa [upd] using HO_.out⟩, rfl, Nat.le_refl _⟩
       ·
        -- 5: Op.move t0
        go_light
        intro L σ W' hcl hL hC hw
        obtain ⟨hB, hO⟩ := hC
        have HB_ := Lib.hid hB
        have HO_ := Lib.hid hO
        clear hcl hw hB hO hL
        refine OpGoes.go fun K hK => ?_
        go_simp
        exact hK _ _ ⟨⟨HB_.out, by simpa [upd] using HO_.out⟩, rfl, Nat.le_refl _⟩
       ·
        -- 6: Op.move t9
        go_light
        intro L σ W' hcl hL hC hw
        obtain ⟨hB, hO⟩ := hC
        have HB_ := Lib.hid hB
        have HO_ := Lib.hid hO
        clear hcl hw hB hO hL
        refine OpGoes.go fun K hK => ?_
        go_simp
        exact hK _ _ ⟨⟨HB_.out, by simpa [upd] using HO_.out⟩, rfl, Nat.le_refl _⟩
       ·
        -- 7: Op.binOp BinOp.sub 3 t43 (const (1:i64)) 3
        go_light
        intro L σ W' hcl hL hC hw
        have e6 : σ 6 = .int .i64 jj := hw 6 (by kernel_rfl)
        obtain ⟨hB, hO⟩ := hC
        have wr_ : IntKind.i64.wrap ((jj : Int) - 1) = (jj : Int) - 1 := by rw [IntKind.wrap_i64]; omega
        have HB_ := Lib.hid hB
        have HO_ := Lib.hid hO
        clear hcl hw hB hO hL
        refine OpGoes.go fun K hK => ?_
        go_simp
        exact hK _ _ ⟨⟨HB_.out, by simpa [upd] using HO_.out⟩, rfl, Nat.le_refl _⟩
       ·
        -- 8: Op.indexAddr 40 t42 t44
        go_light
        intro L σ W' hcl hL hC hw
        have e5 : σ 5 = .slice (some ⟨g, 0, none⟩) n cap := hw 5 (by kernel_rfl)
        have e7 : σ 7 = .int .i64 ((jj : Int) - 1) := hw 7 (by kernel_rfl)
        obtain ⟨hB, hO⟩ := hC
        have b1_ : (1 : Int) ≤ (jj : Int) := by omega
        have b2_ : (jj : Int) - 1 < (n : Int) := by omega
        have HB_ := Lib.hid hB
        have HO_ := Lib.hid hO
        clear hcl hw hB hO hL
        refine OpGoes.go fun K hK => ?_
        go_simp
        exact hK _ _ ⟨⟨HB_.out, by simpa [upd] using HO_.out⟩, rfl, Nat.le_refl _⟩
       ·
        -- 9: Op.load 58 t45
        go_light
        intro L σ W' hcl hL hC hw
        have e8 : σ 8 = .pointer (some ⟨g, (jj - 1) * 4, none⟩) := hw 8 (by kernel_rfl)
        obtain ⟨hB, hO⟩ := hC
        have n15 : L 15 = false := hcl.not (j := 15) (k := 9) (by kernel_rfl) hL
        have n17 : L 17 = false := hcl.not (j := 17) (k := 9) (by kernel_rfl) hL
        have hO2 : PlsO lo W' g n cap cur := by have := hO; rw [n15, n17] at this; exact this
        obtain ⟨d0, d1, d2, d3⟩ := pls_at hO2 HQ.out
        rw [← HJ1.out] at d0 d1 d2 d3
        have HB_ := Lib.hid hB
        have HO_ := Lib.hid hO
        clear hcl hw hB hO hL
        refine OpGoes.go fun K hK => ?_
        go_simp
        exact hK _ _ ⟨⟨HB_.out, by simpa [upd] using HO_.out⟩, rfl, Nat.le_refl _⟩
       ·
        -- 10: Op.move t0
        go_light
        intro L σ W' hcl hL hC hw
        obtain ⟨hB, hO⟩ := hC
        have HB_ := Lib.hid hB
        have HO_ := Lib.hid hO
        clear hcl hw hB hO hL
        refine OpGoes.go fun K hK => ?_
        go_simp
        exact hK _ _ ⟨⟨HB_.out, by simpa [upd] using HO_.out⟩, rfl, Nat.le_refl _⟩
       ·
        -- 11: Op.move t9
        go_light
        intro L σ W' hcl hL hC hw
        obtain ⟨hB, hO⟩ := hC
        have HB_ := Lib.hid hB
        have HO_ := Lib.hid hO
        clear hcl hw hB hO hL
        refine OpGoes.go fun K hK => ?_
        go_simp
        exact hK _ _ ⟨⟨HB_.out, by simpa [upd] using HO_.out⟩, rfl, Nat.le_refl _⟩
       ·
        -- 12: Op.indexAddr 40 t47 t48
        go_light
        intro L σ W' hcl hL hC hw
        have e10 : σ 10 = .slice (some ⟨g, 0, none⟩) n cap := hw 10 (by kernel_rfl)
        have e11 : σ 11 = .int .i64 jj := hw 11 (by kernel_rfl)
        obtain ⟨hB, hO⟩ := hC
        have b1_ : (0 : Int) ≤ (jj : Int) := by omega
        have b2_ : (jj : Int) < (n : Int) := by omega
        have HB_ := Lib.hid hB
        have HO_ := Lib.hid hO
        clear hcl hw hB hO hL
        refine OpGoes.go fun K hK => ?_
        go_simp
        exact hK _ _ ⟨⟨HB_.out, by simpa [upd] using HO_.out⟩, rfl, Nat.le_refl _⟩
       ·
        -- 13: Op.load 58 t49
        go_light
        intro L σ W' hcl hL hC hw
        have e12 : σ 12 = .pointer (some ⟨g, jj * 4, none⟩) := hw 12 (by kernel_rfl)
        obtain ⟨hB, hO⟩ := hC
        have n15 : L 15 = false := hcl.not (j := 15) (k := 13) (by kernel_rfl) hL
        have n17 : L 17 = false := hcl.not (j := 17) (k := 13) (by kernel_rfl) hL
        have hO2 : PlsO lo W' g n cap cur := by have := hO; rw [n15, n17] at this; exact this
        obtain ⟨d0, d1, d2, d3⟩ := pls_at hO2 HP.out
        have HB_ := Lib.hid hB
        have HO_ := Lib.hid hO
        clear hcl hw hB hO hL
        refine OpGoes.go fun K hK => ?_
        go_simp
        exact hK _ _ ⟨⟨HB_.out, by simpa [upd] using HO_.out⟩, rfl, Nat.le_refl _⟩
       ·
        -- 14: Op.indexAddr 40 t37 t38
        go_light
        intro L σ W' hcl hL hC hw
        have e0 : σ 0 = .slice (some ⟨g, 0, none⟩) n cap := hw 0 (by kernel_rfl)
        have e1 : σ 1 = .int .i64 jj := hw 1 (by kernel_rfl)
        obtain ⟨hB, hO⟩ := hC
        have b1_ : (0 : Int) ≤ (jj : Int) := by omega
        have b2_ : (jj : Int) < (n : Int) := by omega
        have HB_ := Lib.hid hB
        have HO_ := Lib.hid hO
        clear hcl hw hB hO hL
        refine OpGoes.go fun K hK => ?_
        go_simp
        exact hK _ _ ⟨⟨HB_.out, by simpa [upd] using HO_.out⟩, rfl, Nat.le_refl _⟩
       ·
        -- 15: Op.store 58 t51 t46
        go_light
        intro L σ W' hcl hL hC hw hne
        have e9 : σ 9 = .agg #[.bool q.s, .int .i64 q.n, .bool q.f, .int .i64 q.v] := hw 9 (by kernel_rfl)
        have e14 : σ 14 = .pointer (some ⟨g, jj * 4, none⟩) := hw 14 (by kernel_rfl)
        obtain ⟨hB, hO⟩ := hC
        have hlen : (insST cur jj j1 p q (L 15) (L 17)).length = n := hO.1
        obtain ⟨x, hx⟩ : ∃ x, (insST cur jj j1 p q (L 15) (L 17))[jj]? = some x := ⟨_, List.getElem?_eq_getElem (by omega)⟩
        obtain ⟨d0, d1, d2, d3⟩ := pls_at hO hx
        have df := Own.frozen_ hO
        have n17 : L 17 = false := hcl.not (j := 17) (k := 15) (by kernel_rfl) hL
        have HB_ := Lib.hid hB
        have HO_ := Lib.hid hO
        have HL_ := Lib.hid hL
        clear hcl hw hne hB hO hlen hx hL
        refine OpGoes.go fun K hK => ?_
        go_simp
        refine hK _ _ ⟨⟨(((HB_.out.set _ _).set _ _).set _ _).set _ _, ?_⟩, trivial, by simp, fun i hi hn hR => ?_⟩
        ·
         have := Own.setEl HO_.out Pl.cs_len (by omega) (i := jj) (by omega) q
         have e : insST cur jj j1 p q (upd L 15 true 15) (upd L 15 true 17) = (insST cur jj j1 p q (L 15) (L 17)).set jj q := by
          simp [upd, insST, n17, HL_.out]
         rw [e]
         exact this
        ·
         match i, hi, hn, hR with
         | 0, _, _, hR => exact (show σ 0 = .slice (some ⟨g, 0, none⟩) n cap from hR)
         | 1, _, _, hR => exact (show σ 1 = .int .i64 jj from hR)
         | 2, _, _, hR => exact (show σ 2 = .slice (some ⟨g, 0, none⟩) n cap from hR)
         | 3, _, _, hR => exact (show σ 3 = .int .i64 jj from hR)
         | 4, _, _, hR => exact (show σ 4 = .int .i64 ((jj : Int) - 1) from hR)
         | 5, _, _, hR => exact (show σ 5 = .slice (some ⟨g, 0, none⟩) n cap from hR)
         | 6, _, _, hR => exact (show σ 6 = .int .i64 jj from hR)
         | 7, _, _, hR => exact (show σ 7 = .int .i64 ((jj : Int) - 1) from hR)
         | 8, _, _, hR => exact (show σ 8 = .pointer (some ⟨g, (jj - 1) * 4, none⟩) from hR)
         | 9, _, _, hR => exact (show σ 9 = .agg #[.bool q.s, .int .i64 q.n, .bool q.f, .int .i64 q.v] from hR)
         | 10, _, _, hR => exact (show σ 10 = .slice (some ⟨g, 0, none⟩) n cap from hR)
         | 11, _, _, hR => exact (show σ 11 = .int .i64 jj from hR)
         | 12, _, _, hR => exact (show σ 12 = .pointer (some ⟨g, jj * 4, none⟩) from hR)
         | 13, _, _, hR => exact (show σ 13 = .agg #[.bool p.s, .int .i64 p.n, .bool p.f, .int .i64 p.v] from hR)
         | 14, _, _, hR => exact (show σ 14 = .pointer (some ⟨g, jj * 4, none⟩) from hR)
         | 15, _, _, hR => exact trivial
         | 16, _, _, hR => exact (show σ 16 = .pointer (some ⟨g, (jj - 1) * 4, none⟩) from hR)
         | 17, _, _, hR => exact trivial
         | _ + 18, _, _, _ => exact trivial
       ·
        -- 16: Op.indexAddr 40 t39 t41
        go_light
        intro L σ W' hcl hL hC hw
        have e2 : σ 2 = .slice (some ⟨g, 0, none⟩) n cap := hw 2 (by kernel_rfl)
        have e4 : σ 4 = .int .i64 ((jj : Int) - 1) := hw 4 (by kernel_rfl)
        obtain ⟨hB, hO⟩ := hC
        have b1_ : (1 : Int) ≤ (jj : Int) := by omega
        have b2_ : (jj : Int) - 1 < (n : Int) := by omega
        have HB_ := Lib.hid hB
        have HO_ := Lib.hid hO
        clear hcl hw hB hO hL
        refine OpGoes.go fun K hK => ?_
        go_simp
        exact hK _ _ ⟨⟨HB_.out, by simpa [upd] using HO_.out⟩, rfl, Nat.le_refl _⟩
       ·
        -- 17: Op.store 58 t52 t50
        go_light
        intro L σ W' hcl hL hC hw hne
        have e13 : σ 13 = .agg #[.bool p.s, .int .i64 p.n, .bool p.f, .int .i64 p.v] := hw 13 (by kernel_rfl)
        have e16 : σ 16 = .pointer (some ⟨g, (jj - 1) * 4, none⟩) := hw 16 (by kernel_rfl)
        obtain ⟨hB, hO⟩ := hC
        have hlen : (insST cur jj j1 p q (L 15) (L 17)).length = n := hO.1
        obtain ⟨x, hx⟩ : ∃ x, (insST cur jj j1 p q (L 15) (L 17))[j1]? = some x := ⟨_, List.getElem?_eq_getElem (by omega)⟩
        obtain ⟨d0, d1, d2, d3⟩ := pls_at hO hx
        rw [← HJ1.out] at d0 d1 d2 d3
        have df := Own.frozen_ hO
        have HB_ := Lib.hid hB
        have HO_ := Lib.hid hO
        have HL_ := Lib.hid hL
        clear hcl hw hne hB hO hlen hx hL
        refine OpGoes.go fun K hK => ?_
        go_simp
        refine hK _ _ ⟨⟨(((HB_.out.set _ _).set _ _).set _ _).set _ _, ?_⟩, trivial, by simp, fun i hi hn hR => ?_⟩
        ·
         have := Own.setEl HO_.out Pl.cs_len (by omega) (i := j1) (by omega) p
         have e : insST cur jj j1 p q (upd L 17 true 15) (upd L 17 true 17) = (insST cur jj j1 p q (L 15) (L 17)).set j1 p := by
          simp [upd, insST, HL_.out]
         rw [e, HJ1.out]
         exact this
        ·
         match i, hi, hn, hR with
         | 0, _, _, hR => exact (show σ 0 = .slice (some ⟨g, 0, none⟩) n cap from hR)
         | 1, _, _, hR => exact (show σ 1 = .int .i64 jj from hR)
         | 2, _, _, hR => exact (show σ 2 = .slice (some ⟨g, 0, none⟩) n cap from hR)
         | 3, _, _, hR => exact (show σ 3 = .int .i64 jj from hR)
         | 4, _, _, hR => exact (show σ 4 = .int .i64 ((jj : Int) - 1) from hR)
         | 5, _, _, hR => exact (show σ 5 = .slice (some ⟨g, 0, none⟩) n cap from hR)
         | 6, _, _, hR => exact (show σ 6 = .int .i64 jj from hR)
         | 7, _, _, hR => exact (show σ 7 = .int .i64 ((jj : Int) - 1) from hR)
         | 8, _, _, hR => exact (show σ 8 = .pointer (some ⟨g, (jj - 1) * 4, none⟩) from hR)
         | 9, _, _, hR => exact (show σ 9 = .agg #[.bool q.s, .int .i64 q.n, .bool q.f, .int .i64 q.v] from hR)
         | 10, _, _, hR => exact (show σ 10 = .slice (some ⟨g, 0, none⟩) n cap from hR)
         | 11, _, _, hR => exact (show σ 11 = .int .i64 jj from hR)
         | 12, _, _, hR => exact (show σ 12 = .pointer (some ⟨g, jj * 4, none⟩) from hR)
         | 13, _, _, hR => exact (show σ 13 = .agg #[.bool p.s, .int .i64 p.n, .bool p.f, .int .i64 p.v] from hR)
         | 14, _, _, hR => exact (show σ 14 = .pointer (some ⟨g, jj * 4, none⟩) from hR)
         | 15, _, _, hR => exact trivial
         | 16, _, _, hR => exact (show σ 16 = .pointer (some ⟨g, (jj - 1) * 4, none⟩) from hR)
         | 17, _, _, hR => exact trivial
         | _ + 18, _, _, _ => exact trivial
       ·
        intro σ L W' hall hC hR
        obtain ⟨hB, hO⟩ := hC
        have n15 : L 15 = true := hall 15 (by decide)
        have n17 : L 17 = true := hall 17 (by decide)
        rw [n15, n17] at hO
        clear hR hall
        simp only [lexAll]
        go_simp
        go_step
        go_wp2
        go_roundw
        case rel => exact ⟨j1, _, by have := HJE.out; omega, by have := HJE.out; simp; omega, hB, hO, by rw [← HSK.out, HSI.out]; rfl⟩
        case measure => have := HJE.out; simp [intOf]; omega
     ·
      have HD := Lib.hid (show decide (p.n < q.n) = false by simpa using hpq)
      have HSI := Lib.hid (show sinkP jj cur = cur by have hj1 := HJE.out; subst hj1; exact sinkP_ge HP.out HQ.out hpq)
      go_upto_region 4 with fail
      go_cut [34] from 18 to 52 (fun u W' => But g w W' ∧ PlsO lo W' g n cap cur ∧ u = .bool false)
      case first =>
       refine wp_region2v (fun w w' => Below w.heap.size w w') (fun _ _ h => h.size) (fun _ => Below.refl _ _) (fun L W' => But g w W' ∧ PlsO lo W' g n cap cur) (insLbV g n cap jj p q) (fun _ => 0) [] (by kernel_rfl) (by kernel_rfl) ?_ ?_ ?_
        (.still rfl ?a0 <| .still rfl ?a1 <| .still rfl ?a2 <| .still rfl ?a3 <| .still rfl ?a4 <| .still rfl ?a5 <| .still rfl ?a6 <| .still rfl ?a7 <| .still rfl ?a8 <| .still rfl ?a9 <| .still rfl ?a10 <| .still rfl ?a11 <| .still rfl ?a12 <| .still rfl ?a13 <| .grow rfl ?a14 <| .still rfl ?a15 <| .still rfl ?a16 <| .nil) ?_ ?_
       · exact trivial
       · exact trivial
       · exact ⟨⟨hB.os, hB.tape, hB.output, hB.size, hB.block⟩, hO⟩
       case a0 | a1 | a3 | a4 | a5 | a6 | a9 | a10 | a16 =>
        go_light
        intro L σ W' hcl hL hC hw
        try have e2 := wT hw 2 rfl
        try have e3 := wT hw 3 rfl
        try have e15 := wT hw 15 rfl
        clear hw hcl hL hC
        refine OpGoes.go fun K hK => ?_
        go_simp
        exact hK _ _ ⟨rfl, rfl⟩
       case a8 =>
        go_light
        intro L σ W' hcl hL hC hw
        have e3 := wV hw 3 rfl
        have e7 := wV hw 7 rfl
        obtain ⟨d0, d1, d2, d3⟩ := pls_at hC.2 HP.out
        clear hw hcl hL hC
        refine OpGoes.go fun K hK => ?_
        go_simp
        exact hK _ _ ⟨rfl, rfl⟩
       case a13 =>
        go_light
        intro L σ W' hcl hL hC hw
        have e3 := wV hw 3 rfl
        have e12 := wV hw 12 rfl
        obtain ⟨d0, d1, d2, d3⟩ := pls_at hC.2 HQ.out
        rw [← HJ1.out] at d0 d1 d2 d3
        clear hw hcl hL hC
        refine OpGoes.go fun K hK => ?_
        go_simp
        exact hK _ _ ⟨rfl, rfl⟩
       case a2 =>
        go_light
        intro L σ W' hcl hL hC hw
        have e0 := wV hw 0 rfl
        have e1 := wV hw 1 rfl
        have b0_ : (0 : Int) < (jj : Int) := by omega
        clear hw hcl hL hC
        refine OpGoes.go fun K hK => ?_
        go_simp
        exact hK _ _ ⟨rfl, rfl⟩
       case a7 =>
        go_light
        intro L σ W' hcl hL hC hw
        have e3 := wV hw 3 rfl
        have e5 := wV hw 5 rfl
        have e6 := wV hw 6 rfl
        have b1_ : (0 : Int) ≤ (jj : Int) := by omega
        have b2_ : (jj : Int) < (n : Int) := by omega
        clear hw hcl hL hC
        refine OpGoes.go fun K hK => ?_
        go_simp
        exact hK _ _ ⟨rfl, rfl⟩
       case a11 =>
        go_light
        intro L σ W' hcl hL hC hw
        have e3 := wV hw 3 rfl
        have e10 := wV hw 10 rfl
        have wr_ : IntKind.i64.wrap ((jj : Int) - 1) = (jj : Int) - 1 := by rw [IntKind.wrap_i64]; omega
        clear hw hcl hL hC
        refine OpGoes.go fun K hK => ?_
        go_simp
        exact hK _ _ ⟨rfl, rfl⟩
       case a12 =>
        go_light
        intro L σ W' hcl hL hC hw
        have e3 := wV hw 3 rfl
        have e9 := wV hw 9 rfl
        have e11 := wV hw 11 rfl
        have b1_ : (1 : Int) ≤ (jj : Int) := by omega
        have b2_ : (jj : Int) - 1 < (n : Int) := by omega
        clear hw hcl hL hC
        refine OpGoes.go fun K hK => ?_
        go_simp
        exact hK _ _ ⟨rfl, rfl⟩
       case a14 =>
        go_light
        intro L σ W' hcl hL hC hw
        have e3 := wV hw 3 rfl
        have e4 := wV hw 4 rfl
        have e8 := wV hw 8 rfl
        have e13 := wV hw 13 rfl
        clear hw
        have HC := Lib.hid hC
        clear hC
        clear hcl hL
        refine OpGoes.go fun K hK => ?_
        go_simp
        obtain ⟨hB, hO⟩ := HC.out
        refine (byNo_any p q _).mono ?_
        rintro e w1 ⟨rfl, hb1⟩
        exact ⟨_, rfl, hK _ _ ⟨⟨hB.trans (But.of_below hb1), hO.below hb1⟩, rfl, hb1⟩⟩
       case a15 =>
        go_light
        intro L σ W' hcl hL hC hw
        have e3 := wV hw 3 rfl
        have e14 := wV hw 14 rfl
        have lt_ : decide (cmpI p.n q.n < 0) = false := by rw [cmpI_lt]; exact HD.out
        clear hw hcl hL hC
        refine OpGoes.go fun K hK => ?_
        go_simp
        exact hK _ _ ⟨rfl, rfl⟩
       ·
        intro L L' W' hLL hC
        obtain ⟨hB, hO⟩ := hC
        exact ⟨hB, hO⟩
       ·
        intro σ L W' hall hC hRR
        obtain ⟨hB, hO⟩ := hC
        have e16 := dV hRR 16 rfl
        clear hRR
        simp only [lexAll]
        go_simp
        go_step
        go_meet
        exact ⟨hB, hO, rfl⟩
      case rest =>
       clear hB hO
       obtain ⟨hB, hO, rfl⟩ := hcut
       go_wp2
       go_roundw
       case rel => exact ⟨k + 1, by omega, by omega, by go_num, hB, by rw [HS.out, ← HSK.out, HSI.out]; exact hO⟩
       case measure => simp [intOf]; omega
  ·
   have g1 : ¬ (k : Int) < (n : Int) := by omega
   obtain rfl : k = n := by omega
   go_wp2
   go_end0
   exact ⟨⟨_, rfl⟩, hB, hO⟩

end Go.Proofs.YtibmbanbaopeiaaGreat

/-
 The walks of valuesOn of the program, and of what it calls.
-/
namespace Go.Proofs.YtibmbanbaopeiaaGreat
set_option linter.unusedSimpArgs false
set_option linter.unusedVariables false
open Go.RowKit
set_option linter.unusedVariables false
attribute [local go_sem ↓] Go.wp_at_zero Go.wp_at_succ

/-- A number is returned, and nothing else happens. -/
def SomeInt (w : World) (e : Ending) (w' : World) : Prop := (∃ z : Int, e = .returned (.int .i64 z)) ∧ w = w'

set_option maxRecDepth 100000 in
set_option maxHeartbeats 4000000 in
theorem len64_any (n : Nat) (w : World) (h : n ≤ 8) : Calls Tryz.prog 68 #[.int .u64 n] w (SomeInt w) := by
 have hc : n = 0 ∨ n = 1 ∨ n = 2 ∨ n = 3 ∨ n = 4 ∨ n = 5 ∨ n = 6 ∨ n = 7 ∨ n = 8 := by omega
 rcases hc with rfl | rfl | rfl | rfl | rfl | rfl | rfl | rfl | rfl
 all_goals
  go_enter Tryz.func68, Tryz.ntmps68
  go_wp2
  go_ret
  exact ⟨⟨_, rfl⟩, rfl⟩

set_option maxHeartbeats 1000000 in
theorem bitsLen_any (n : Nat) (w : World) (h : n ≤ 8) : Calls Tryz.prog 50 #[.int .u64 n] w (SomeInt w) := by
 go_enter Tryz.func50, Tryz.ntmps50
 go_wp2_with fail
 refine (len64_any n _ h).mono ?_
 rintro e w' ⟨⟨z, rfl⟩, rfl⟩
 go_wp2
 go_ret
 exact ⟨⟨_, rfl⟩, rfl⟩

set_option maxRecDepth 100000 in
set_option maxHeartbeats 2000000 in
theorem pdq_any (lo g n cap : Nat) (z : Int) (l : List Pl) (w : World) (h : PlsO lo w g n cap l) (h1 : 1 ≤ n) (h12 : n ≤ 12) :
  Calls Tryz.prog 49 #[.slice (some ⟨g, 0, none⟩) n cap, .int .i64 0, .int .i64 n, .int .i64 z, .func (.func 39) #[] #[]] w (Sorts lo g n cap l w) := by
 have hl : (n : Int) ≤ 12 := by omega
 go_enter Tryz.func49, Tryz.ntmps49
 go_wp2
 go_loopw [1, 2] (fun s1 s2 W => s1 = .int .i64 0 ∧ s2 = .int .i64 n ∧ W = w) (fun _ _ _ => 0)
 case atStart => exact ⟨rfl, rfl, rfl⟩
 case round =>
  obtain ⟨rfl, rfl, rfl⟩ := hrel
  go_wp2_with fail
  refine (insertion_any lo g n cap l _ h h1 h12).mono ?_
  rintro e w1 ⟨⟨v, rfl⟩, hb, ho⟩
  go_wp2
  refine bodyPost_ret (results_none rfl _ _ _) rfl ?_
  exact ⟨⟨_, rfl⟩, hb, ho⟩

set_option maxHeartbeats 1000000 in
theorem sortFunc_any (lo g n cap : Nat) (l : List Pl) (w : World) (h : PlsO lo w g n cap l) (h1 : 1 ≤ n) (h8 : n ≤ 8) :
  Calls Tryz.prog 38 #[.slice (some ⟨g, 0, none⟩) n cap, .func (.func 39) #[] #[]] w (Sorts lo g n cap l w) := by
 have hw : IntKind.u64.wrap (n : Int) = (n : Int) := by unfold IntKind.wrap; simp [IntKind.bits]; omega
 go_enter Tryz.func38, Tryz.ntmps38
 go_wp2_with fail
 refine (bitsLen_any n _ h8).mono ?_
 rintro e w' ⟨⟨z, rfl⟩, rfl⟩
 go_wp2_with fail
 refine (pdq_any lo g n cap z l _ h h1 (by omega)).mono ?_
 rintro e w1 ⟨⟨v, rfl⟩, hb, ho⟩
 go_wp2
 go_end0
 exact ⟨⟨_, rfl⟩, hb, ho⟩

end Go.Proofs.YtibmbanbaopeiaaGreat

/-
 The walks of Clone and of valuesOn of the program.
-/
namespace Go.Proofs.YtibmbanbaopeiaaGreat
set_option linter.unusedSimpArgs false
set_option linter.unusedVariables false
open Go.RowKit
set_option linter.unusedVariables false
attribute [local go_sem ↓] Go.wp_at_zero Go.wp_at_succ

set_option maxRecDepth 100000 in
set_option maxHeartbeats 1000000 in
theorem clone_any (A : Option Addr) (n cap : Nat) (l : List Pl) (lo hi : Nat) (w : World) (hl : PlsW lo hi w A n cap l) (h0 : 0 < n) (hn : n ≤ 1048576) :
  Calls Tryz.prog 37 #[.slice A n cap] w (fun e w' => ∃ g c, e = .returned (.slice (some ⟨g, 0, none⟩) n c) ∧ PlsO w.heap.size w' g n c l ∧ Below w.heap.size w w') := by
 obtain ⟨i0, hi0, hz0, hz1, hz2⟩ := info_parts place_info
 have HI := Lib.hid hi0
 have HZ0 := Lib.hid hz0
 have HZ1 := Lib.hid hz1
 have HZ2 := Lib.hid hz2
 clear hi0 hz0 hz1 hz2
 obtain ⟨b, rfl, hbh, hO⟩ := hl.2 h0
 have HL := Lib.hid hl.1
 have hbw := Own.lt hO
 have hnil : ∀ W : World, (binOp .eql 40 (.slice (some ⟨b, 0, none⟩) n cap) (.slice none 0 0)).run Tryz.prog W = .ok (.bool false) W := fun W => Go.run_eql_slice_nil W _ _ _ _ _ Tryz.underlying40
 go_enter Tryz.func37, Tryz.ntmps37
 go_wp2_with (at_builtin; go_must (refine wpList_append_own_at _ rfl (.tmp 5) (.tmp 6) _ rfl w.heap.size 58 i0 _ 4 32 Tryz.underlying40 HI.out HZ0.out HZ1.out HZ2.out rfl (by omega) (.slice (some ⟨w.heap.size, 0, none⟩) 0 0) 0 [] rfl (own_made rfl (Nat.le_refl _)) ⟨b, 0, none⟩ n cap (l.flatMap Pl.cs) rfl (by rw [flat_len _ 4 Pl.cs_len, HL.out]) (hO.al _).news pl_one (by unfold maxLen; omega) (by omega) (by simp) ?_; intro v' w' hO' hg' hz' hat'; clear hz' hat'; obtain ⟨g', cap', rfl, hP'⟩ := Own.of_row (f := Pl.cs) (l := l) (n := n) (by simpa using hO') HL.out h0; have hB' : Below w.heap.size w w' := Below.grown ((Below.refl _ w).alloc (Nat.le_refl _) _) hg' (by simp) (fun k hk => by have := own_blk hk; omega)))
 go_ret
 exact ⟨g', cap', rfl, hP', hB'⟩

def valsP (l : List Pl) : List Int := (l.filter Pl.f).map Pl.v
theorem valsP_full {l : List Pl} {i : Nat} {p : Pl} (h : l[i]? = some p) (hf : p.f = true) : valsP (l.take (i + 1)) = valsP (l.take i) ++ [p.v] := by
 rw [List.take_add_one, h]
 simp [valsP, hf]
theorem valsP_empty {l : List Pl} {i : Nat} {p : Pl} (h : l[i]? = some p) (hf : p.f = false) : valsP (l.take (i + 1)) = valsP (l.take i) := by
 rw [List.take_add_one, h]
 simp [valsP, hf]
theorem valsP_len (l : List Pl) : (valsP l).length ≤ l.length := by
 unfold valsP
 rw [List.length_map]
 exact List.length_filter_le _ _

theorem ints_row {N : Nat} {w : World} {v : Value} {l : List Int} (h : IntsO N w v l) {n : Nat} (hn : l.length = n) : w.ownsRow N 2 1 v n (l.flatMap ic) := by subst hn; exact h
theorem ints_not {N : Nat} {w : World} {v : Value} {l : List Int} (h : IntsO N w v l) {g : Nat} {cs : Array Value} {t : TypeId} (hb : BoxAt w g cs t) (ht : t ≠ 2) : some g ≠ v.ownBlock := by
 intro e
 rcases h.2 with ⟨h1, _⟩ | ⟨g', cap, cur, hv, _, hbx, _⟩
 · rw [h1] at e; cases e
 ·
  rw [hv] at e
  have : g = g' := by simpa [Value.ownBlock] using e
  exact box_ne hb hbx ht this

/-- A list of numbers of the call's own is returned, not nil. -/
def RetIntsS (l : List Int) (w : World) (e : Ending) (w' : World) : Prop := ∃ g c, e = .returned (.slice (some ⟨g, 0, none⟩) l.length c) ∧ IntsO w.heap.size w' (.slice (some ⟨g, 0, none⟩) l.length c) l ∧ Below w.heap.size w w'

set_option maxRecDepth 100000 in
set_option maxHeartbeats 4000000 in
theorem valuesOn_any (a : Rw) (l : List Pl) (lo hi : Nat) (w : World) (hl : PlsW lo hi w a.A a.n a.cap l) (h0 : 0 < a.n) (h8 : a.n ≤ 8) :
  Calls Tryz.prog 23 #[.agg #[.int .i64 a.h, .int .i64 a.t, .bool a.c, .int .i64 a.x, .slice a.A a.n a.cap]] w (RetIntsS (valsP (sortTo l a.n)) w) := by
 obtain ⟨i0, hi0, hz0, hz1, hz2⟩ := info_parts int_info
 have HI := Lib.hid hi0
 have HZ0 := Lib.hid hz0
 have HZ1 := Lib.hid hz1
 have HZ2 := Lib.hid hz2
 clear hi0 hz0 hz1 hz2
 have HLN := Lib.hid hl.1
 go_enter Tryz.func23, Tryz.ntmps23
 go_wp2_with fail
 refine calls_abs (fun W => Below w.heap.size w W) ((Below.refl _ _).alloc (Nat.le_refl _) _) ?_
 rintro W hB
 have hl1 : PlsW lo (min hi w.heap.size) W a.A a.n a.cap l := ⟨hl.1, fun hn => by
  obtain ⟨b, e, hb, ho⟩ := hl.2 hn
  have := Own.lt ho
  exact ⟨b, e, by omega, Own.keep ho (hB.block b this)⟩⟩
 refine (clone_any _ _ _ l _ _ _ hl1 h0 (by omega)).mono ?_
 rintro e w1 ⟨g, c, rfl, hP, hb1⟩
 have hW := hB.size
 replace hB := bstep hB hB.size hb1
 replace hP := hP.mono hW
 clear hb1 hl1 hW
 go_wp2_with fail
 refine (sortFunc_any w.heap.size g a.n c l _ hP h0 h8).mono ?_
 rintro e w2 ⟨⟨v, rfl⟩, hb2, hS⟩
 replace hB := hB.trans (hb2.below hP.ge hB.size)
 clear hb2 hP
 have hsl : (sortTo l a.n).length = a.n := by rw [sortTo_len]; exact HLN.out
 generalize sortTo l a.n = t at *
 have HSL := Lib.hid hsl; clear hsl
 go_wp2
 go_loopw [4, 15] (fun s4 s15 W => ∃ (i a1 n1 c1 : Nat), i ≤ a.n ∧ s15 = .int .i64 i ∧ s4 = .slice (some ⟨a1, 0, none⟩) n1 c1 ∧ Below w.heap.size w W ∧ PlsO w.heap.size W g a.n c t ∧ IntsO w.heap.size W (.slice (some ⟨a1, 0, none⟩) n1 c1) (valsP (t.take i))) (fun _ s15 _ => a.n - (intOf s15).toNat)
 case atStart => exact ⟨0, _, _, _, Nat.zero_le _, rfl, rfl, hB.alloc hB.size _, hS.al _, ints_made rfl hB.size⟩
 case round =>
  clear hB hS
  obtain ⟨i, a1, n1, c1, hi, rfl, rfl, hB, hS, hV⟩ := hrel
  have hn1 : (valsP (t.take i)).length = n1 := by
   obtain ⟨A2, c2, e, _⟩ := hV.r
   injection e with _ e _
   exact e.symm
  have hn2 : n1 ≤ 8 := by
   have := valsP_len (t.take i)
   simp only [List.length_take] at this
   omega
  by_cases hlt : i < a.n
  ·
   have g1 : (i : Int) < (a.n : Int) := by omega
   have g2 : (0 : Int) ≤ (i : Int) := by omega
   obtain ⟨p, hp⟩ : ∃ p, t[i]? = some p := ⟨_, List.getElem?_eq_getElem (by rw [HSL.out]; exact hlt)⟩
   obtain ⟨d0, d1, d2, d3⟩ := pls_at hS hp
   obtain ⟨csg, hbg⟩ := own_box hS
   cases hf : p.f
   ·
    have HV := Lib.hid (valsP_empty hp hf)
    rw [hf] at d2
    clear hp
    go_wp2
    go_roundw
    case rel => exact ⟨i + 1, a1, n1, c1, by omega, by go_num, rfl, hB.alloc hB.size _, hS.al _, by rw [HV.out]; exact hV.below ((Below.refl _ _).alloc (Nat.le_refl _) _)⟩
    case measure => simp [intOf]; omega
   ·
    have HV := Lib.hid (valsP_full hp hf)
    rw [hf] at d2
    clear hp
    have hR1 := ints_row (hV.below ((Below.refl _ wr).alloc (Nat.le_refl _) (.cells #[.bool p.s, .int .i64 p.n, .bool true, .int .i64 p.v] 58))) hn1
    have hne : some g ≠ (Value.slice (some ⟨a1, 0, none⟩) n1 c1).ownBlock := ints_not hV hbg (by decide)
    have HN1 := Lib.hid hn1; clear hn1
    go_wp2_with (at_builtin; go_must (refine wpList_append_own_at _ rfl (.tmp 21) (.tmp 24) _ rfl w.heap.size 2 i0 _ 1 8 Tryz.underlying32 HI.out HZ0.out HZ1.out HZ2.out rfl (by omega) (.slice (some ⟨a1, 0, none⟩) n1 c1) n1 _ rfl (hR1.alloc _) ⟨wr.heap.size + 1, 0, none⟩ 1 1 [.int .i64 p.v] rfl rfl (by have := news_alloc (wr.alloc (.cells #[.bool p.s, .int .i64 p.n, .bool true, .int .i64 p.v] 58)) [.int .i64 p.v] 2; simpa using this) (by intro u hu; simp at hu; subst hu; rfl) (by unfold maxLen; omega) (by omega) (by have := hB.size; simp; omega) ?_; intro v' w' hO' hg' hz' hat'; clear hz' hat'; obtain ⟨g', cap', rfl, hP'⟩ := Own.of_row (f := ic) (l := valsP (t.take i) ++ [p.v]) (n := n1 + 1) (by rw [List.flatMap_append]; exact hO') (by rw [List.length_append, HN1.out]; rfl) (by omega)))
    have hBa : Below w.heap.size w ((wr.alloc (.cells #[.bool p.s, .int .i64 p.n, .bool true, .int .i64 p.v] 58)).alloc (.cells #[.int .i64 p.v] 2)) := (hB.alloc hB.size _).alloc (by have := hB.size; simp; omega) _
    go_roundw
    case rel =>
     refine ⟨i + 1, g', n1 + 1, cap', by omega, by go_num, rfl, Below.grown hBa hg' (by have := hB.size; simp; omega) (fun k hk => (hV.lt k hk).1), ?_, ?_⟩
     · exact Own.keep ((hS.al _).al _) (hg'.block g (by have := Own.lt hS; simp; omega) hne)
     ·
      rw [HV.out]
      have := hP'.own ic_len
      unfold IntsO
      rw [List.length_append, HN1.out]
      exact this
    case measure => simp [intOf]; omega
  ·
   have g1 : ¬ (i : Int) < (a.n : Int) := by omega
   obtain rfl : i = a.n := by omega
   go_wp2
   go_ret
   refine ⟨a1, c1, ?_, ?_, hB⟩
   ·
    rw [← hn1, List.take_of_length_le (by rw [HSL.out]; exact Nat.le_refl _)]
    rfl
   ·
    rw [← hn1, List.take_of_length_le (by rw [HSL.out]; exact Nat.le_refl _)] at hV
    exact hV

end Go.Proofs.YtibmbanbaopeiaaGreat

/-
 The walk of ValuesIn of the program.
-/
namespace Go.Proofs.YtibmbanbaopeiaaGreat
set_option linter.unusedSimpArgs false
set_option linter.unusedVariables false
open Go.RowKit Go.Shelf
set_option linter.unusedVariables false
attribute [local go_sem] Oper.semAt_some
attribute [local go_sem ↓] Go.wp_at_zero Go.wp_at_succ

/-- The values on ring number z, in the order of their numbers. -/
def valsAt (s : St) (z : Int) : List Int := valsP (sortTo (s.at z).ps (s.at z).ps.length)
def valuesIn (s : St) : List Int := if stOk s then (chainOf s).flatMap (valsAt s) else []
theorem valsAt_len {s : St} (h : stOk s = true) (z : Int) : (valsAt s z).length ≤ 8 := by
 have h1 := valsP_len (sortTo (s.at z).ps (s.at z).ps.length)
 rw [sortTo_len] at h1
 have h2 : (s.at z).ps.length ≤ 8 := by
  unfold St.at
  rw [List.getD_eq_getElem?_getD]
  cases hr : s.rs[z.toNat]? with
  | none => simp
  | some r => exact ((stOk_neat h).2.2 r (List.mem_of_getElem? hr)).2
 unfold valsAt
 omega
theorem flat_vals_len {s : St} (h : stOk s = true) : ∀ l : List Int, (l.flatMap (valsAt s)).length ≤ 8 * l.length
 | [] => by simp
 | z :: l => by
  have h1 := valsAt_len h z
  have h2 := flat_vals_len h l
  simp only [List.flatMap_cons, List.length_append, List.length_cons]
  omega

theorem app_step {W w1 : World} {n₀ B : Nat} {t e : TypeId} {size : Nat} {v v' : Value} {k m : Nat} {xs ys : List Value} (hv : BoxAt W B #[v] t) (hte : t ≠ e) (hrow : W.ownsRow n₀ e size v k xs) (hn₀ : n₀ ≤ W.heap.size) (hB : n₀ ≤ B)
  (hown' : w1.ownsRow n₀ e size v' m ys) (hgrow : W.grownBy w1 v.ownBlock) :
  BoxAt w1 B #[v] t ∧ BoxAt (w1.setCell ⟨B, 0, none⟩ v') B #[v'] t ∧ (w1.setCell ⟨B, 0, none⟩ v').ownsRow n₀ e size v' m ys ∧ KeepsOthers W (w1.setCell ⟨B, 0, none⟩ v') ∧ Below n₀ W (w1.setCell ⟨B, 0, none⟩ v') := by
 have hv0 : Boxed W B t v := hv
 have hv1 : Boxed w1 B t v := hv0.kept hgrow (hv0.not_row hte hrow)
 refine ⟨hv1, hv1.set v', hown'.kept (grownBy_setCell' w1 B v') (.inr (hv1.not_row hte hown').symm), ?_, ?_⟩
 ·
  refine (KeepsOthers.of_grownBy hgrow fun j o ej hj => ?_).trans (KeepsOthers.setCell _ _ _)
  rcases hrow.2 with ⟨rfl, _⟩ | ⟨g, cap, cur, rfl, _, hgb, _⟩
  · simp [Value.ownBlock] at ej
  ·
   obtain rfl : g = j := by simpa [Value.ownBlock] using ej
   rw [hgb] at hj; cases hj; rfl
 · exact (Below.grown (Below.refl _ W) hgrow hn₀ (fun k hk => (hrow.lt k hk).1)).setCell (p := ⟨B, 0, none⟩) hB _

theorem ic_one {l : List Int} : ∀ u ∈ l.flatMap ic, u.oneCell' = true := by
 intro u hu
 obtain ⟨z, _, hz⟩ := List.mem_flatMap.1 hu
 simp [ic] at hz
 subst hz; rfl

/-- Numbers behind numbers. -/
theorem append_ints {W : World} {N M : Nat} {v : Value} {L vs : List Int} {g c q m : Nat} (hv : IntsO N W v L) (hs : IntsO M W (.slice (some ⟨g, 0, none⟩) m c) vs) (hq : L.length = q) (hm : vs.length = m) (hb : q + m ≤ 100000) (hN : N ≤ W.heap.size) :
  ∃ A' c' w3, (Builtin.append_ #[32, 32] 32 #[v, .slice (some ⟨g, 0, none⟩) m c]).run Tryz.prog W = .ok (.slice A' (q + m) c') w3 ∧ IntsO N w3 (.slice A' (q + m) c') (L ++ vs) ∧ W.grownBy w3 v.ownBlock := by
 obtain ⟨i0, hi0, hz0, hz1, hz2⟩ := info_parts int_info
 subst hq hm
 obtain ⟨v', w3, hr, ho, hg, _⟩ := run_append_own (P := Tryz.prog) W N 32 32 2 i0 _ 1 8 Tryz.underlying32 hi0 hz0 hz1 hz2 rfl (by omega) v L.length _ hv ⟨g, 0, none⟩ vs.length c (vs.flatMap ic) (by rw [flat_len ic 1 ic_len]) (World.ownsRow.cells hs rfl) ic_one (by unfold maxLen; omega) (by omega) hN
 have hI : IntsO N w3 v' (L ++ vs) := by
  unfold IntsO
  rw [List.length_append, List.flatMap_append]
  exact ho
 obtain ⟨A', c', e, _⟩ := hI.r
 rw [List.length_append] at e
 subst e
 exact ⟨A', c', w3, hr, hI, hg⟩

theorem op_append {F : Fence} {n : Nat} {o : Oper} {ac : Act} {w w' : World} {K : Act → World → Prop} {Q : Exit → Act → World → Prop} {v u v' : Value} {s x : Nat} (ho : o.op = .call { callee := .builtin .append, args := #[.tmp s, .tmp x], argTypes := #[32, 32] }) (hty : o.type = 32) (hs : ac.eval (.tmp s) = v) (hx : ac.eval (.tmp x) = u)
  (hr : (Builtin.append_ #[32, 32] 32 #[v, u]).run Tryz.prog w = .ok v' w') (h : K (ac.put o.dst v') w') : o.wpIn F n Tryz.prog ac w K Q := by
 unfold Oper.wpIn
 refine ⟨by simp [Oper.about, ho, resolve, Target.leads, Sem.run_pure], ?_⟩
 rw [Oper.semAt_plain F _ _ (by rw [ho]; intro c hc'; cases hc')]
 simp [execOp, ho, resolve, invoke, builtin, hs, hx, hty, hr, Result.andThen]
 exact h

set_option maxRecDepth 100000 in
set_option maxHeartbeats 8000000 in
theorem ivaluesIn_any (s : St) (A : Option Addr) (n cap : Nat) (lo hi : Nat) (w : World) (hr : RgsW lo hi w A n cap s.rs) (hh : hi ≤ w.heap.size) (hn2 : n ≤ 1048576) (hm : ∀ r ∈ s.rs, r.ps.length ≤ 1048576) :
  Calls Tryz.prog 9 #[stV s A n cap] w (RetIntl (valuesIn s) w) := by
 obtain ⟨i0, hi0, hz0, hz1, hz2⟩ := info_parts int_info
 have HI := Lib.hid hi0
 have HZ0 := Lib.hid hz0
 have HZ1 := Lib.hid hz1
 have HZ2 := Lib.hid hz2
 clear hi0 hz0 hz1 hz2
 have HM := Lib.hid hm; clear hm
 have HN := Lib.hid hr.1
 unfold stV
 refine (callsIn_wide (n := 3)).1 ?_
 refine callsIn_of_wp_marks Tryz.func9 rfl trivial ?_ rfl
 simp only [Tryz.ntmps9, List.size_toArray, List.length_cons, List.length_nil, Nat.reduceAdd, Nat.reduceSub, Array.replicate_succ, Array.replicate_zero, List.push_toArray, List.append_toArray, List.nil_append, List.cons_append]
 gi_wp2_with fail
 refine ⟨trivial, ?_⟩
 refine callsIn_abs (fun W => Below w.heap.size w W ∧ W.heap.size = w.heap.size + 3 ∧ BoxAt W w.heap.size (sC s A n cap) 28 ∧ BoxAt W (w.heap.size + 1 + 1) #[.slice (some ⟨w.heap.size + 1, 0, none⟩) 0 0] 32 ∧ IntsO w.heap.size W (.slice (some ⟨w.heap.size + 1, 0, none⟩) 0 0) []) ?_ ?_
 ·
  refine ⟨(((Below.refl _ _).alloc (Nat.le_refl _) _).alloc (by simp) _).alloc (by simp; omega) _, by simp, ((BoxAt.new _ _ _).alloc _).alloc _, BoxAt.new' (by simp), ?_⟩
  exact (ints_made (by simp) (by simp)).below ((Below.refl _ _).alloc (Nat.le_refl _) _)
 rintro W ⟨hB, hsz, hs, hx, hv⟩
 have hS : SameIn lo hi w W := fun j _ hj => hB.block j (by omega)
 refine (callsIn_wide.2 (istoreOk_any s A n cap lo hi _ (hr.keep hS) (by omega) hn2 HM.out)).mono ?_
 rintro e w1 ⟨rfl, hb1⟩
 have hz1 : w.heap.size + 3 ≤ w1.heap.size := by have := hb1.size; omega
 replace hs := hs.below hb1 hs.lt
 replace hx := hx.below hb1 hx.lt
 replace hv := hv.below hb1
 replace hB := bstep hB hB.size hb1
 clear hb1 hS hsz
 have ks := hs.cell
 unfold sC at ks
 have kx := hx.cell
 cases hok : stOk s
 ·
  have HC := Lib.hid (show valuesIn s = [] by simp [valuesIn, hok])
  gi_wp2
  refine ⟨_, results_tmp rfl _ _ _, _, rfl, ?_, hB⟩
  rw [HC.out]
  exact hv
 ·
  have HX := Lib.hid (stOk_x hok)
  have HF := Lib.hid (stOk_fi hok)
  have HI2 := Lib.hid (stOk_chainF hok)
  have HNE := Lib.hid (stOk_neat hok)
  have HOK := Lib.hid hok
  have HC := Lib.hid (show valuesIn s = (chainOf s).flatMap (valsAt s) by simp [valuesIn, hok])
  have HC2 := Lib.hid (show chainOf s = (chain s.rs s.rs.length s.fi).getD [] by simp [chainOf, hok])
  clear hok
  gi_wp2_with fail
  refine ⟨trivial, ?_⟩
  refine (callsIn_wide.2 (ringsFrom_any s _ n cap _ _)).mono ?_
  rintro e w' ⟨rfl, rfl⟩
  gi_wp2
  clear ks kx
  have hpos : 0 < n := by have := HF.out; have := HN.out; omega
  have h16 : n ≤ 16 := by have := HNE.out.2.1; have := HN.out; omega
  obtain ⟨b, rows, rfl, hbh, hO, hA⟩ := hr.2 hpos
  have hbw : b < w.heap.size := by omega
  obtain ⟨P, hP⟩ : ∃ P, w1.heap.size = P := ⟨_, rfl⟩
  obtain ⟨W0, hW0⟩ : ∃ W0, (w1.alloc (.cells (sC s (some ⟨b, 0, none⟩) n cap) 28)).alloc (.cells #[.int .i64 s.fi] 2) = W0 := ⟨_, rfl⟩
  have hs0 : W0.heap.size = P + 2 := by rw [← hW0]; simp; omega
  have hB0 : Below w.heap.size w W0 := by rw [← hW0]; exact (hB.alloc (by omega) _).alloc (by simp; omega) _
  have hx0 : BoxAt W0 (w.heap.size + 1 + 1) #[.slice (some ⟨w.heap.size + 1, 0, none⟩) 0 0] 32 := by rw [← hW0]; exact (hx.alloc _).alloc _
  have hS0 : BoxAt W0 P (sC s (some ⟨b, 0, none⟩) n cap) 28 := by rw [← hW0]; exact (BoxAt.new' hP.symm).alloc _
  have hR0 : BoxAt W0 (P + 1) #[.int .i64 s.fi] 2 := by rw [← hW0]; exact BoxAt.new' (by simp; omega)
  have hv0 : IntsO w.heap.size W0 (.slice (some ⟨w.heap.size + 1, 0, none⟩) 0 0) [] := by rw [← hW0]; exact hv.below (((Below.refl _ _).alloc (Nat.le_refl _) _).alloc (by simp) _)
  have hO0 : RwsO lo W0 b n cap rows := Own.keep hO (hB0.block b hbw)
  have HWC := Lib.hid (rows_x (hO.1.trans HN.out.symm) hA)
  have hrl : rows.length = n := hO.1
  rw [hW0, hP]
  rw [hP] at hz1
  clear hW0 hx hB hs hv hP
  refine wpIn_rangeFunc_ownH rfl (by omega) (gf := 36) (lb := #[.pointer (some ⟨P + 1, 0, none⟩), .pointer (some ⟨P, 0, none⟩)]) rfl trivial (enters_of Tryz.func36 (by kernel_rfl) rfl)
   (ringsFrom_stops 2 P (P + 1) w.heap.size P (P + 1) lo b n cap s rows s.fi (by omega) HN.out hn2 W0 hS0 hR0 hO0 hbw (by omega) (by omega)) kpI_t (kpI_b (by omega) (by omega)) (Below.refl _ _) (fun _ => rfl)
   (fun pre W' => ((∃ v, BoxAt W' (w.heap.size + 1 + 1) #[v] 32 ∧ IntsO w.heap.size W' v ((pre.map fun x => x.1.1).flatMap (valsAt s))) ∧ (BoxAt W' P (sC s (some ⟨b, 0, none⟩) n cap) 28 ∧ P + 2 ≤ W'.heap.size)) ∧ Below w.heap.size w W')
   (fun _ _ _ => False)
   (OwnFrom.and (OwnFrom.and (fun pre X Y row hs hg hr => by
     obtain ⟨v, h1, h2⟩ := hs
     refine ⟨v, boxAt_own W0.heap.size _ (fun (_ : Unit) => #[v]) _ () X Y row h1 hg hr, h2.1, ?_⟩
     rcases h2.2 with h' | ⟨g, cp, cur, hv, hgN, hbx, hrr⟩
     · exact .inl h'
     · exact .inr ⟨g, cp, cur, hv, hgN, boxAt_own W0.heap.size g (fun (_ : Unit) => cur) _ () X Y row hbx hg hr, hrr⟩) (OwnFrom.and (boxAt_own _ _ (fun _ => _) _) ownFrom_size)) (ownFrom_below (Nat.le_refl _) (by omega)))
   (fun _ _ _ _ _ hs _ _ => hs)
   ⟨⟨⟨_, hx0, hv0⟩, hS0, by omega⟩, hB0⟩
   (fun x a' W' => ∃ Bx, P + 2 ≤ Bx ∧ BoxAt W' Bx (rwC x.1.2) 42 ∧ a' = { tmps := #[.agg #[.int .i64 s.rd, .int .i64 s.mo, .slice (some ⟨b, 0, none⟩) n cap, .int .i64 s.fi, .int .i64 s.la], .pointer (some ⟨w.heap.size, 0, none⟩), .slice none 0 0, .pointer (some ⟨w.heap.size + 1 + 1, 0, none⟩), undef, .pointer (some ⟨Bx, 0, none⟩), .slice (some ⟨w.heap.size + 1, 0, none⟩) 0 0, .agg #[.int .i64 s.rd, .int .i64 s.mo, .slice (some ⟨b, 0, none⟩) n cap, .int .i64 s.fi, .int .i64 s.la], .bool true, .bool false, undef, .agg #[.int .i64 s.rd, .int .i64 s.mo, .slice (some ⟨b, 0, none⟩) n cap, .int .i64 s.fi, .int .i64 s.la], .pointer (some ⟨w.heap.size, 3, none⟩), .int .i64 s.fi, .func (.func 36) #[] #[.pointer (some ⟨P + 1, 0, none⟩), .pointer (some ⟨P, 0, none⟩)], .int .i64 x.1.1, .agg (rwC x.1.2), undef, undef, undef, undef, undef], defers := [] })
   (fun x a' _ X Y row hs hg hr => by obtain ⟨Bx, h0, h1, h2⟩ := hs; exact ⟨Bx, h0, boxAt_own W0.heap.size Bx (fun (_ : Unit) => rwC x.1.2) 42 () X Y row h1 hg hr, h2⟩)
   ?assign ?body ?done ?stop
  case assign =>
   rintro l pre x W1 K ⟨⟨⟨v, hx1, hv1⟩, hS1, hz2⟩, hB1⟩ hK
   unfold elV rwC
   gi_wp2
   exact hK _ _ ((KeepsOthers.alloc _ _).from _) ⟨(Below.refl _ W1).alloc hB1.size _, .alloc (by omega) _⟩ ⟨⟨⟨v, hx1.alloc _, hv1.below ((Below.refl _ _).alloc (Nat.le_refl _) _)⟩, hS1.alloc _, by simp; omega⟩, hB1.alloc hB1.size _⟩ ⟨W1.heap.size, hz2, BoxAt.new _ _ _, rfl⟩
  case body =>
   rintro l pre x a' W1 _ _ ⟨⟨⟨v, hx1, hv1⟩, hS1, hz2⟩, hB1⟩ ⟨Bx, hBx, bX, rfl⟩ hlt
   obtain ⟨⟨z, a⟩, hz0, hra⟩ := x
   dsimp only at hz0 hra bX
   obtain ⟨r, hri, e1, e2, e3, e4, hp⟩ := hA _ _ hra
   have hpr := hp.keep (w' := W1) (fun j _ hj => hB1.block j (by omega))
   have hr8 := HNE.out.2.2 r (List.mem_of_getElem? hri)
   have hpn : r.ps.length = a.n := hp.1
   have h0 : 0 < a.n := by omega
   have h8 : a.n ≤ 8 := by omega
   have HVA := Lib.hid (show valsAt s z = valsP (sortTo r.ps a.n) by unfold valsAt; rw [St.at_some hri, hpn])
   have hva8 : (valsP (sortTo r.ps a.n)).length ≤ 8 := by rw [← HVA.out]; exact valsAt_len HOK.out z
   clear hpn hri e1 e2 e3 e4 hp hr8
   obtain ⟨L0, hL0⟩ : ∃ L0, (pre.map fun x => x.1.1).flatMap (valsAt s) = L0 := ⟨_, rfl⟩
   have hL8 : L0.length ≤ 128 := by
    have := flat_vals_len HOK.out (pre.map fun x => x.1.1)
    rw [hL0, List.length_map] at this
    omega
   rw [hL0] at hv1
   have HL0 := Lib.hid hL0; clear hL0
   obtain ⟨A1, c1, rfl, _⟩ := hv1.r
   obtain ⟨q0, hq0⟩ : ∃ q0, L0.length = q0 := ⟨_, rfl⟩
   rw [hq0] at hv1 hx1 hL8
   have HQ0 := Lib.hid hq0; clear hq0
   have hne : some P ≠ (Value.slice A1 q0 c1).ownBlock := ints_not hv1 hS1 (by decide)
   have hcon := fun W' (h : PlsW lo hi W' a.A a.n a.cap r.ps) => valuesOn_any a r.ps lo hi W' h h0 h8
   obtain ⟨vs, hvs⟩ : ∃ vs, valsP (sortTo r.ps a.n) = vs := ⟨_, rfl⟩
   rw [hvs] at hva8 hcon
   have HVS := Lib.hid (HVA.out.trans hvs)
   obtain ⟨m, hm⟩ : ∃ m, vs.length = m := ⟨_, rfl⟩
   unfold RetIntsS at hcon
   rw [hm] at hva8 hcon
   have HM2 := Lib.hid hm
   clear hvs hm HVA
   have HCON := Lib.hid hcon; clear hcon
   have hmix : Tryz.prog.follows .mixedOrders = true := by kernel_rfl
   have kx := hx1.cell
   have kX := bX.cell
   unfold rwC at kX
   gi_wp2
   refine wpIn_region_any hmix ?_
   change wpAnyIn _ _ _ _ _ _ _ _ _ (World.drew _)
   refine wpAnyIn_ready (rs := [0, 1]) (by kernel_rfl) (by simp) ?_
   refine AllReadyIn.cons rfl (fun K hK => ?_) ?_
   ·
    go_simp
    refine hK _ _ ?_
    clear hK K
    refine wpAnyIn_ready (rs := [1]) (by kernel_rfl) (by simp) ?_
    refine AllReadyIn.cons rfl (fun K hK => ?_) ?_
    ·
     go_simp
     refine hK _ _ ?_
     clear hK K
     refine wpAnyIn_ready (rs := [2]) (by kernel_rfl) (by simp) ?_
     refine AllReadyIn.cons rfl (fun K hK => ?_) ?_
     ·
      go_simp
      refine ⟨trivial, ?_⟩
      refine (CallsIn.inRound l (callsIn_wide.2 (HCON.out W1.drew (show PlsW lo hi W1.drew a.A a.n a.cap r.ps from hpr)))).mono ?_
      rintro e w2 ⟨g2, c2, rfl, hI2, hb2⟩
      have hv2 : IntsO w.heap.size w2 (.slice A1 q0 c1) L0 := IntsO.below (w := W1.drew) hv1 hb2
      have hx2 : BoxAt w2 (w.heap.size + 1 + 1) #[.slice A1 q0 c1] 32 := BoxAt.below (W := W1.drew) hb2 hx1.lt hx1
      have hw12 : w.heap.size ≤ w2.heap.size := Nat.le_trans hB1.size hb2.size
      clear kx kX
      have kx := hx2.cell
      refine hK _ _ ?_
      clear hK K
      refine wpAnyIn_ready (rs := [3]) (by kernel_rfl) (by simp) ?_
      refine AllReadyIn.cons rfl (fun K hK => ?_) ?_
      ·
       obtain ⟨A3, c3, w3, hrun, hv3, hg3⟩ := append_ints hv2 hI2 HQ0.out HM2.out (by omega) hw12
       obtain ⟨hy1, hy2, hy3, hy4, hy5⟩ := app_step hx2 (by decide) (ints_row hv2 HQ0.out) hw12 (by omega) (ints_row hv3 (by rw [List.length_append, HQ0.out, HM2.out])) hg3
       clear kx
       have ky := hy1.cell
       have fy := hy1.frozen
       refine op_append (s := 17) (x := 19) rfl rfl rfl rfl hrun ?_
       refine hK _ _ ?_
       clear hK K
       refine wpAnyIn_ready (rs := [4]) (by kernel_rfl) (by simp) ?_
       refine AllReadyIn.cons rfl (fun K hK => ?_) ?_
       ·
        go_simp
        refine hK _ _ ?_
        clear hK K
        refine wpAnyIn_done (by kernel_rfl) ?_ _
        have hlP : P < W1.heap.size := by omega
        have hk2 : w2.heap[P]? = W1.heap[P]? := hb2.block P hlP
        have hk3 : w3.heap[P]? = W1.heap[P]? := (hg3.block P (Nat.lt_of_lt_of_le hlP hb2.size) hne).trans hk2
        have hkS : (w3.setCell ⟨w.heap.size + 1 + 1, 0, none⟩ (.slice A3 (q0 + m) c3)).heap[P]? = W1.heap[P]? := (Below.heap_setCell w3 ⟨w.heap.size + 1 + 1, 0, none⟩ _ P (by show P ≠ w.heap.size + 1 + 1; omega)).trans hk3
        have hsz3 : W1.heap.size ≤ w3.heap.size := Nat.le_trans hb2.size hg3.size
        have hKO : KeepsFrom W0.heap.size W1 w2 := ⟨hb2.size, fun k o _ hk _ => (hb2.block k (Array.getElem?_eq_some_iff.1 hk).1).trans hk⟩
        have hB2 : Below w.heap.size W1 w2 := ⟨hb2.os, hb2.tape, hb2.output, hb2.size, fun j hj => hb2.block j (Nat.lt_of_lt_of_le hj hB1.size)⟩
        refine ⟨hKO.trans (hy4.from _), ⟨hB2.trans hy5, fun j h1 h2 => by obtain rfl : j = P := (by omega); exact hkS⟩, ⟨⟨_, hy2, ?_⟩, ?_, by simp; omega⟩, hB1.trans (hB2.trans hy5)⟩
        ·
         have e : (((pre ++ [(⟨(z, a), hz0, hra⟩ : El rows)]).map fun (x : El rows) => x.1.1).flatMap (valsAt s)) = L0 ++ vs := by
          rw [List.map_append, List.flatMap_append, HL0.out]
          simp [HVS.out]
         rw [e]
         unfold IntsO
         rw [List.length_append, HQ0.out, HM2.out]
         exact hy3
        ·
         unfold BoxAt at hS1 ⊢
         rw [hkS]; exact hS1
       exact AllReadyIn.nil
      exact AllReadyIn.nil
     exact AllReadyIn.nil
    exact AllReadyIn.nil
   refine AllReadyIn.cons rfl (fun K hK => ?_) ?_
   ·
    go_simp
    refine hK _ _ ?_
    clear hK K
    refine wpAnyIn_ready (rs := [0, 2]) (by kernel_rfl) (by simp) ?_
    refine AllReadyIn.cons rfl (fun K hK => ?_) ?_
    ·
     go_simp
     refine hK _ _ ?_
     clear hK K
     refine wpAnyIn_ready (rs := [2]) (by kernel_rfl) (by simp) ?_
     refine AllReadyIn.cons rfl (fun K hK => ?_) ?_
     ·
      go_simp
      refine ⟨trivial, ?_⟩
      refine (CallsIn.inRound l (callsIn_wide.2 (HCON.out W1.drew (show PlsW lo hi W1.drew a.A a.n a.cap r.ps from hpr)))).mono ?_
      rintro e w2 ⟨g2, c2, rfl, hI2, hb2⟩
      have hv2 : IntsO w.heap.size w2 (.slice A1 q0 c1) L0 := IntsO.below (w := W1.drew) hv1 hb2
      have hx2 : BoxAt w2 (w.heap.size + 1 + 1) #[.slice A1 q0 c1] 32 := BoxAt.below (W := W1.drew) hb2 hx1.lt hx1
      have hw12 : w.heap.size ≤ w2.heap.size := Nat.le_trans hB1.size hb2.size
      clear kx kX
      have kx := hx2.cell
      refine hK _ _ ?_
      clear hK K
      refine wpAnyIn_ready (rs := [3]) (by kernel_rfl) (by simp) ?_
      refine AllReadyIn.cons rfl (fun K hK => ?_) ?_
      ·
       obtain ⟨A3, c3, w3, hrun, hv3, hg3⟩ := append_ints hv2 hI2 HQ0.out HM2.out (by omega) hw12
       obtain ⟨hy1, hy2, hy3, hy4, hy5⟩ := app_step hx2 (by decide) (ints_row hv2 HQ0.out) hw12 (by omega) (ints_row hv3 (by rw [List.length_append, HQ0.out, HM2.out])) hg3
       clear kx
       have ky := hy1.cell
       have fy := hy1.frozen
       refine op_append (s := 17) (x := 19) rfl rfl rfl rfl hrun ?_
       refine hK _ _ ?_
       clear hK K
       refine wpAnyIn_ready (rs := [4]) (by kernel_rfl) (by simp) ?_
       refine AllReadyIn.cons rfl (fun K hK => ?_) ?_
       ·
        go_simp
        refine hK _ _ ?_
        clear hK K
        refine wpAnyIn_done (by kernel_rfl) ?_ _
        have hlP : P < W1.heap.size := by omega
        have hk2 : w2.heap[P]? = W1.heap[P]? := hb2.block P hlP
        have hk3 : w3.heap[P]? = W1.heap[P]? := (hg3.block P (Nat.lt_of_lt_of_le hlP hb2.size) hne).trans hk2
        have hkS : (w3.setCell ⟨w.heap.size + 1 + 1, 0, none⟩ (.slice A3 (q0 + m) c3)).heap[P]? = W1.heap[P]? := (Below.heap_setCell w3 ⟨w.heap.size + 1 + 1, 0, none⟩ _ P (by show P ≠ w.heap.size + 1 + 1; omega)).trans hk3
        have hsz3 : W1.heap.size ≤ w3.heap.size := Nat.le_trans hb2.size hg3.size
        have hKO : KeepsFrom W0.heap.size W1 w2 := ⟨hb2.size, fun k o _ hk _ => (hb2.block k (Array.getElem?_eq_some_iff.1 hk).1).trans hk⟩
        have hB2 : Below w.heap.size W1 w2 := ⟨hb2.os, hb2.tape, hb2.output, hb2.size, fun j hj => hb2.block j (Nat.lt_of_lt_of_le hj hB1.size)⟩
        refine ⟨hKO.trans (hy4.from _), ⟨hB2.trans hy5, fun j h1 h2 => by obtain rfl : j = P := (by omega); exact hkS⟩, ⟨⟨_, hy2, ?_⟩, ?_, by simp; omega⟩, hB1.trans (hB2.trans hy5)⟩
        ·
         have e : (((pre ++ [(⟨(z, a), hz0, hra⟩ : El rows)]).map fun (x : El rows) => x.1.1).flatMap (valsAt s)) = L0 ++ vs := by
          rw [List.map_append, List.flatMap_append, HL0.out]
          simp [HVS.out]
         rw [e]
         unfold IntsO
         rw [List.length_append, HQ0.out, HM2.out]
         exact hy3
        ·
         unfold BoxAt at hS1 ⊢
         rw [hkS]; exact hS1
       exact AllReadyIn.nil
      exact AllReadyIn.nil
     exact AllReadyIn.nil
    refine AllReadyIn.cons rfl (fun K hK => ?_) ?_
    ·
     go_simp
     refine ⟨trivial, ?_⟩
     refine (CallsIn.inRound l (callsIn_wide.2 (HCON.out W1.drew (show PlsW lo hi W1.drew a.A a.n a.cap r.ps from hpr)))).mono ?_
     rintro e w2 ⟨g2, c2, rfl, hI2, hb2⟩
     have hv2 : IntsO w.heap.size w2 (.slice A1 q0 c1) L0 := IntsO.below (w := W1.drew) hv1 hb2
     have hx2 : BoxAt w2 (w.heap.size + 1 + 1) #[.slice A1 q0 c1] 32 := BoxAt.below (W := W1.drew) hb2 hx1.lt hx1
     have hw12 : w.heap.size ≤ w2.heap.size := Nat.le_trans hB1.size hb2.size
     clear kx kX
     have kx := hx2.cell
     refine hK _ _ ?_
     clear hK K
     refine wpAnyIn_ready (rs := [0]) (by kernel_rfl) (by simp) ?_
     refine AllReadyIn.cons rfl (fun K hK => ?_) ?_
     ·
      go_simp
      refine hK _ _ ?_
      clear hK K
      refine wpAnyIn_ready (rs := [3]) (by kernel_rfl) (by simp) ?_
      refine AllReadyIn.cons rfl (fun K hK => ?_) ?_
      ·
       obtain ⟨A3, c3, w3, hrun, hv3, hg3⟩ := append_ints hv2 hI2 HQ0.out HM2.out (by omega) hw12
       obtain ⟨hy1, hy2, hy3, hy4, hy5⟩ := app_step hx2 (by decide) (ints_row hv2 HQ0.out) hw12 (by omega) (ints_row hv3 (by rw [List.length_append, HQ0.out, HM2.out])) hg3
       clear kx
       have ky := hy1.cell
       have fy := hy1.frozen
       refine op_append (s := 17) (x := 19) rfl rfl rfl rfl hrun ?_
       refine hK _ _ ?_
       clear hK K
       refine wpAnyIn_ready (rs := [4]) (by kernel_rfl) (by simp) ?_
       refine AllReadyIn.cons rfl (fun K hK => ?_) ?_
       ·
        go_simp
        refine hK _ _ ?_
        clear hK K
        refine wpAnyIn_done (by kernel_rfl) ?_ _
        have hlP : P < W1.heap.size := by omega
        have hk2 : w2.heap[P]? = W1.heap[P]? := hb2.block P hlP
        have hk3 : w3.heap[P]? = W1.heap[P]? := (hg3.block P (Nat.lt_of_lt_of_le hlP hb2.size) hne).trans hk2
        have hkS : (w3.setCell ⟨w.heap.size + 1 + 1, 0, none⟩ (.slice A3 (q0 + m) c3)).heap[P]? = W1.heap[P]? := (Below.heap_setCell w3 ⟨w.heap.size + 1 + 1, 0, none⟩ _ P (by show P ≠ w.heap.size + 1 + 1; omega)).trans hk3
        have hsz3 : W1.heap.size ≤ w3.heap.size := Nat.le_trans hb2.size hg3.size
        have hKO : KeepsFrom W0.heap.size W1 w2 := ⟨hb2.size, fun k o _ hk _ => (hb2.block k (Array.getElem?_eq_some_iff.1 hk).1).trans hk⟩
        have hB2 : Below w.heap.size W1 w2 := ⟨hb2.os, hb2.tape, hb2.output, hb2.size, fun j hj => hb2.block j (Nat.lt_of_lt_of_le hj hB1.size)⟩
        refine ⟨hKO.trans (hy4.from _), ⟨hB2.trans hy5, fun j h1 h2 => by obtain rfl : j = P := (by omega); exact hkS⟩, ⟨⟨_, hy2, ?_⟩, ?_, by simp; omega⟩, hB1.trans (hB2.trans hy5)⟩
        ·
         have e : (((pre ++ [(⟨(z, a), hz0, hra⟩ : El rows)]).map fun (x : El rows) => x.1.1).flatMap (valsAt s)) = L0 ++ vs := by
          rw [List.map_append, List.flatMap_append, HL0.out]
          simp [HVS.out]
         rw [e]
         unfold IntsO
         rw [List.length_append, HQ0.out, HM2.out]
         exact hy3
        ·
         unfold BoxAt at hS1 ⊢
         rw [hkS]; exact hS1
       exact AllReadyIn.nil
      exact AllReadyIn.nil
     exact AllReadyIn.nil
    exact AllReadyIn.nil
   exact AllReadyIn.nil
  case done =>
   rintro D ys W1 hD rfl ⟨⟨⟨v, hx1, hv1⟩, hS1, hz2⟩, hB1⟩ hK
   obtain ⟨ch, hch⟩ := Option.isSome_iff_exists.1 HI2.out
   have hwl : (walkE rows n s.fi).map (fun x => x.1.1) = chainOf s := by
    rw [HC2.out, hch]
    have := walk_chain HWC.out _ _ _ hch
    rw [HN.out] at this
    exact this
   rw [hwl, ← HC.out] at hv1
   obtain ⟨A1, c1, rfl, _⟩ := hv1.r
   have kx := hx1.cell
   gi_wp2
   refine ⟨by simp, .inl ⟨_, _, rfl, run_takeDeferred hK, ?_⟩⟩
   refine ⟨_, results_tmp rfl _ _ _, _, rfl, ?_, hB1.trans (belowK_b (w := w) (Nat.le_refl _) W1 D _ _ (by omega) hK rfl rfl)⟩
   exact ownsRow_putObj hv1 _ hK rfl
  case stop =>
   rintro D c pre W1 _ _ h _
   exact h.elim

end Go.Proofs.YtibmbanbaopeiaaGreat

/-
 Numbers in a slice of a block of its own.
-/
namespace Go.Proofs.YtibmbanbaopeiaaGreat
set_option linter.unusedSimpArgs false
set_option linter.unusedVariables false
open Go.RowKit
set_option linter.unusedVariables false

/-- Numbers in a slice of a block of its own, from lo on and below hi. -/
def IntsV (lo hi : Nat) (w : World) (v : Value) (l : List Int) : Prop := IntsO lo w v l ∧ ∀ g, v.ownBlock = some g → g < hi
theorem IntsV.of {lo : Nat} {w : World} {v : Value} {l : List Int} (h : IntsO lo w v l) : IntsV lo w.heap.size w v l := by
 refine ⟨h, fun g hg => ?_⟩
 rcases h.2 with ⟨h1, _⟩ | ⟨g', cap, cur, hv, _, hbx, _⟩
 · rw [h1] at hg; cases hg
 ·
  rw [hv] at hg
  have : g' = g := by simpa [Value.ownBlock] using hg
  subst this
  exact (Array.getElem?_eq_some_iff.1 hbx).1
theorem IntsV.keep {lo hi : Nat} {w w' : World} {v : Value} {l : List Int} (h : IntsV lo hi w v l) (hs : SameIn lo hi w w') : IntsV lo hi w' v l := by
 refine ⟨⟨h.1.1, ?_⟩, h.2⟩
 rcases h.1.2 with h' | ⟨g, cap, cur, hv, hg, hbx, hr⟩
 · exact .inl h'
 · exact .inr ⟨g, cap, cur, hv, hg, (hs g hg (h.2 g (by rw [hv]; simp [Value.ownBlock]))).trans hbx, hr⟩
theorem IntsV.below {lo hi : Nat} {w w' : World} {v : Value} {l : List Int} (h : IntsV lo hi w v l) (hb : Below w.heap.size w w') (hh : hi ≤ w.heap.size) : IntsV lo hi w' v l := h.keep (.below hb hh)
theorem IntsV.r {lo hi : Nat} {w : World} {A : Option Addr} {n cap : Nat} {l : List Int} (h : IntsV lo hi w (.slice A n cap) l) (hn : l.length = n) : IntsR w A n l := by
 obtain ⟨A', c', e, h'⟩ := h.1.r
 injection e with e1 e2 e3
 subst e1
 rw [hn] at h'
 exact h'
theorem But.in_ {k N lo hi : Nat} {a b : World} (h : But k a b) (hk : N ≤ k) (hj : hi ≤ N) (hs : hi ≤ a.heap.size) : SameIn lo hi a b := fun j h1 h2 => h.block j (by omega) (by omega)

end Go.Proofs.YtibmbanbaopeiaaGreat

/-
 The walk of ValuesIn of the model.
-/
namespace Go.Proofs.YtibmbanbaopeiaaGreat
set_option linter.unusedSimpArgs false
set_option linter.unusedVariables false
open Go.RowKit
set_option linter.unusedVariables false
attribute [local go_sem] OpUpon
attribute [local go_sem ↓] Go.wp_at_zero Go.wp_at_succ

theorem IntsV.but {lo hi g : Nat} {w w' : World} {v : Value} {l : List Int} {cs : Array Value} (h : IntsV lo hi w v l) (hb : But g w w') (hg : BoxAt w g cs 58) : IntsV lo hi w' v l := by
 refine ⟨⟨h.1.1, ?_⟩, h.2⟩
 rcases h.1.2 with h' | ⟨k, cap, cur, hv, hk, hbx, hr⟩
 · exact .inl h'
 · exact .inr ⟨k, cap, cur, hv, hk, (hb.block k (Array.getElem?_eq_some_iff.1 hbx).1 (box_ne hbx hg (by decide))).trans hbx, hr⟩
theorem IntsV.grown {lo hi g : Nat} {w w' : World} {v : Value} {l : List Int} (h : IntsV lo hi w v l) (hg : w.grownBy w' (some g)) (hne : ∀ k, v.ownBlock = some k → k ≠ g) : IntsV lo hi w' v l := by
 refine ⟨⟨h.1.1, ?_⟩, h.2⟩
 rcases h.1.2 with h' | ⟨k, cap, cur, hv, hk, hbx, hr⟩
 · exact .inl h'
 · exact .inr ⟨k, cap, cur, hv, hk, (hg.block k (Array.getElem?_eq_some_iff.1 hbx).1 (fun e => hne k (by rw [hv]; simp [Value.ownBlock]) (by injection e))).trans hbx, hr⟩
theorem IntsV.not {lo hi : Nat} {w : World} {v : Value} {l : List Int} (h : IntsV lo hi w v l) {g : Nat} {cs : Array Value} {t : TypeId} (hb : BoxAt w g cs t) (ht : t ≠ 2) : ∀ k, v.ownBlock = some k → k ≠ g := fun k hk e => ints_not h.1 hb ht (by rw [hk, e])
/-- One number of them. -/
theorem IntsV.at_ {lo hi : Nat} {w : World} {A : Option Addr} {n cap : Nat} {l : List Int} (h : IntsV lo hi w (.slice A n cap) l) {i : Nat} {z : Int} (hi' : l[i]? = some z) : ∃ g, A = some ⟨g, 0, none⟩ ∧ w.cell? ⟨g, i, none⟩ = some (.int .i64 z) ∧ lo ≤ g ∧ g < hi := by
 have hl : 0 < l.length := by have := (List.getElem?_eq_some_iff.1 hi').1; omega
 obtain ⟨g, c, e, ho⟩ := Own.of_row (f := ic) h.1 rfl hl
 injection e with e1 _ _
 have d0 := Own.cell_ ic_len ho (j := 0) hi' rfl
 rw [Nat.add_zero, Nat.mul_one] at d0
 exact ⟨g, e1, d0, ho.2.1, h.2 g (by rw [e1]; simp [Value.ownBlock])⟩

theorem chain_mem {L : List Rg} : ∀ (k : Nat) (z : Int) (l : List Int), chain L k z = some l → ∀ y ∈ l, 0 ≤ y ∧ y < L.length
 | k, z, l, h => by
  by_cases h0 : z < 0
  ·
   rw [chain_neg h0] at h
   injection h with h
   subst h; simp
  ·
   cases k with
   | zero => rw [chain_zero h0] at h; cases h
   | succ k =>
    cases hr : L[z.toNat]? with
    | none =>
     unfold chain at h
     rw [if_neg h0] at h
     simp only [hr] at h
     cases h
    | some r =>
     rw [chain_succ h0 hr] at h
     cases hc : chain L k r.x with
     | none => rw [hc] at h; cases h
     | some l' =>
      rw [hc] at h
      injection h with h
      subst h
      intro y hy
      rcases List.mem_cons.1 hy with rfl | hy
      ·
       have := (List.getElem?_eq_some_iff.1 hr).1
       omega
      · exact chain_mem k r.x l' hc y hy
theorem chainOf_mem {s : St} {n : Nat} (hn : s.rs.length = n) {z : Int} (hz : z ∈ chainOf s) : stOk s = true ∧ 0 ≤ z ∧ z < n := by
 unfold chainOf at hz
 split at hz
 ·
  rename_i hok
  cases hc : chain s.rs s.rs.length s.fi with
  | none => rw [hc] at hz; simp at hz
  | some l =>
   rw [hc] at hz
   have := chain_mem _ _ _ hc z (by simpa using hz)
   rw [hn] at this
   exact ⟨hok, this⟩
 · simp at hz
theorem chainOf_len (s : St) : (chainOf s).length ≤ s.rs.length := by
 unfold chainOf
 split
 ·
  cases hc : chain s.rs s.rs.length s.fi with
  | none => simp
  | some l => simpa using chain_len _ _ _ hc
 · simp

def DnP (M n : Nat) (l : List Pl) (w : World) : Prop := ∃ g c, PlsO M w g n c l
/-- No place has been laid from block M on. -/
def NoPl (M : Nat) (w : World) : Prop := ∀ g cs, M ≤ g → BoxAt w g cs 58 → cs = #[]
theorem NoPl.not {M n : Nat} {l : List Pl} {w : World} (h : NoPl M w) (h0 : 0 < n) : ¬ DnP M n l w := by
 rintro ⟨g, c, ho⟩
 obtain ⟨_, hg, hc, _, cur, hb, hs, _⟩ := ho
 have := h g cur hg hb
 subst this
 simp at hs
 omega
theorem NoPl.start {M : Nat} {w : World} (h : w.heap.size ≤ M) : NoPl M w := fun g cs hg hb => by have := hb.lt; omega
theorem NoPl.al {M : Nat} {w : World} (h : NoPl M w) : NoPl M (w.alloc (.cells #[] 58)) := fun g cs hg hb => by
 by_cases hlt : g < w.heap.size
 · exact h g cs hg (by unfold BoxAt at *; rw [Below.heap_alloc w _ g hlt] at hb; exact hb)
 ·
  have hl := hb.lt
  simp at hl
  obtain rfl : g = w.heap.size := by omega
  have := BoxAt.new w #[] 58
  unfold BoxAt at this hb
  rw [this] at hb
  injection hb with hb
  injection hb with hb
  exact hb.symm

theorem own_box0 {M g : Nat} {w : World} (h : BoxAt w g #[] 58) (hM : M ≤ g) : w.ownsRow M 58 4 (.slice (some ⟨g, 0, none⟩) 0 0) 0 [] :=
 ⟨rfl, .inr ⟨g, 0, #[], rfl, hM, h, Nat.le_refl _, by unfold maxLen; omega, rfl, rfl⟩⟩

def svAV (s : St) (N b n cap : Nat) (r : Rg) (gc nc cc i : Nat) (z : Int) (b' n' cap' M : Nat) : List Sl := [.e fun σ w => ∃ (g0 : Nat), σ 0 = .slice (some ⟨g0, 0, none⟩) 0 0 ∧ M ≤ g0 ∧ (BoxAt w g0 #[] 58 ∨ DnP M n' r.ps w),
 .v (.pointer (some ⟨N, 2, none⟩)),
 .v (.slice (some ⟨b, 0, none⟩) n cap),
 .v (.slice (some ⟨gc, 0, none⟩) nc cc),
 .v (.int .i64 ((i : Int))),
 .v (.pointer (some ⟨gc, i, none⟩)),
 .v (.int .i64 z),
 .v (.pointer (some ⟨b, z.toNat * 5, none⟩)),
 .v (.pointer (some ⟨b, z.toNat * 5 + 4, none⟩)),
 .v (.slice (some ⟨b', 0, none⟩) n' cap'),
 .e fun σ w => ∃ (g cg : Nat), σ 10 = .slice (some ⟨g, 0, none⟩) n' cg ∧ PlsO M w g n' cg r.ps,
 .e fun σ w => ∃ (g cg : Nat), σ 11 = .slice (some ⟨g, 0, none⟩) n' cg ∧ PlsO M w g n' cg r.ps]

def svLaV (g n' cg jj : Nat) (p q : Pl) : List Sl := [.v (.int .i64 ((jj : Int))),
 .v (.bool true),
 .v (.bool true),
 .v (.slice (some ⟨g, 0, none⟩) n' cg),
 .v (.int .i64 ((jj : Int))),
 .v (.pointer (some ⟨g, jj * 4, none⟩)),
 .v (.pointer (some ⟨g, jj * 4 + 1, none⟩)),
 .v (.int .i64 p.n),
 .v (.slice (some ⟨g, 0, none⟩) n' cg),
 .v (.int .i64 ((jj : Int))),
 .v (.int .i64 ((jj : Int) - 1)),
 .v (.pointer (some ⟨g, (jj - 1) * 4, none⟩)),
 .v (.pointer (some ⟨g, (jj - 1) * 4 + 1, none⟩)),
 .v (.int .i64 q.n),
 .v (.bool true),
 .v (.bool true)]

def svLbV (g n' cg jj : Nat) (p q : Pl) : List Sl := [.v (.int .i64 ((jj : Int))),
 .v (.bool true),
 .v (.bool true),
 .v (.slice (some ⟨g, 0, none⟩) n' cg),
 .v (.int .i64 ((jj : Int))),
 .v (.pointer (some ⟨g, jj * 4, none⟩)),
 .v (.pointer (some ⟨g, jj * 4 + 1, none⟩)),
 .v (.int .i64 p.n),
 .v (.slice (some ⟨g, 0, none⟩) n' cg),
 .v (.int .i64 ((jj : Int))),
 .v (.int .i64 ((jj : Int) - 1)),
 .v (.pointer (some ⟨g, (jj - 1) * 4, none⟩)),
 .v (.pointer (some ⟨g, (jj - 1) * 4 + 1, none⟩)),
 .v (.int .i64 q.n),
 .v (.bool false),
 .v (.bool false)]

def svLcV (g n' cg : Nat) : List Sl := [.v (.int .i64 0),
 .v (.bool false),
 .v (.bool false),
 .v undef,
 .v undef,
 .v undef,
 .v undef,
 .v undef,
 .v undef,
 .v undef,
 .v undef,
 .v undef,
 .v undef,
 .v undef,
 .v undef,
 .v (.bool false)]

set_option maxRecDepth 100000 in
set_option maxHeartbeats 8000000 in
theorem svaluesIn_any (s : St) (A : Option Addr) (n cap : Nat) (lo hi : Nat) (w : World) (hr : RgsW lo hi w A n cap s.rs) (hh : hi ≤ w.heap.size) (hn2 : n ≤ 1048576) (hm : ∀ r ∈ s.rs, r.ps.length ≤ 1048576) :
  Calls Tryz.prog 16 #[stV s A n cap] w (RetIntl (valuesIn s) w) := by
 obtain ⟨i0, hi0, hz0, hz1, hz2⟩ := info_parts place_info
 have HI := Lib.hid hi0
 have HZ0 := Lib.hid hz0
 have HZ1 := Lib.hid hz1
 have HZ2 := Lib.hid hz2
 clear hi0 hz0 hz1 hz2
 obtain ⟨j0, hj0, hy0, hy1, hy2⟩ := info_parts int_info
 have HJ := Lib.hid hj0
 have HY0 := Lib.hid hy0
 have HY1 := Lib.hid hy1
 have HY2 := Lib.hid hy2
 clear hj0 hy0 hy1 hy2
 have HM := Lib.hid hm; clear hm
 have HN := Lib.hid hr.1
 have HV0 := Lib.hid (show valuesIn s = (chainOf s).flatMap (valsAt s) by unfold valuesIn chainOf; split <;> simp)
 unfold stV
 go_enter Tryz.func16, Tryz.ntmps16
 go_wp2_with fail
 refine calls_abs (fun W => Below w.heap.size w W ∧ W.heap.size = w.heap.size + 2 ∧ BoxAt W w.heap.size #[.int .i64 s.rd, .int .i64 s.mo, .slice A n cap, .int .i64 s.fi, .int .i64 s.la] 28 ∧ IntsO w.heap.size W (.slice (some ⟨w.heap.size + 1, 0, none⟩) 0 0) []) ⟨((Below.refl _ _).alloc (Nat.le_refl _) _).alloc (by simp) _, by simp, (BoxAt.new _ _ _).alloc _, ints_made (by simp) (by simp)⟩ ?_
 rintro W ⟨hB, hsz, hs, hv⟩
 have hS : SameIn lo hi w W := fun j _ hj => hB.block j (by omega)
 refine (schainOf_any s A n cap lo hi _ (hr.keep hS) (by omega) hn2 HM.out).mono ?_
 rintro e w1 ⟨vc, rfl, hvc, hb1⟩
 have hz1 : w.heap.size + 2 ≤ w1.heap.size := by have := hb1.size; omega
 have hV := (IntsV.of hv).below hb1 (Nat.le_refl _)
 have hC := IntsV.of hvc
 rw [hsz] at hV hC
 replace hs := hs.below hb1 hs.lt
 replace hB := bstep hB hB.size hb1
 clear hb1 hS hsz hv
 obtain ⟨Ac, cc, rfl, _⟩ := hvc.r
 clear hvc
 obtain ⟨ch, hch⟩ : ∃ ch, chainOf s = ch := ⟨_, rfl⟩
 rw [hch] at hC
 rw [hch]
 have HCH := Lib.hid hch; clear hch
 obtain ⟨nc, hnc⟩ : ∃ nc, ch.length = nc := ⟨_, rfl⟩
 rw [hnc] at hC
 rw [hnc]
 have HNC := Lib.hid hnc; clear hnc
 have HCC := Lib.hid (show ∀ z ∈ ch, stOk s = true ∧ 0 ≤ z ∧ z < n by
  intro z hz
  rw [← HCH.out] at hz
  exact chainOf_mem HN.out hz)
 have hnc2 : nc ≤ n := by rw [← HNC.out, ← HCH.out, ← HN.out]; exact chainOf_len s
 obtain ⟨hc_, hhc⟩ : ∃ hc_, w1.heap.size = hc_ := ⟨_, rfl⟩
 rw [hhc] at hC hz1
 have hle1 : hc_ ≤ w1.heap.size := by omega
 clear hhc
 go_wp2_with fail
 go_loopw [3, 5] (fun s3 s5 W => ∃ (i a3 n3 c3 : Nat), i ≤ nc ∧ s5 = .int .i64 i ∧ s3 = .slice (some ⟨a3, 0, none⟩) n3 c3 ∧ Below w.heap.size w W ∧ BoxAt W w.heap.size #[.int .i64 s.rd, .int .i64 s.mo, .slice A n cap, .int .i64 s.fi, .int .i64 s.la] 28 ∧ IntsV (w.heap.size + 2) hc_ W (.slice Ac nc cc) ch ∧ IntsO w.heap.size W (.slice (some ⟨a3, 0, none⟩) n3 c3) ((ch.take i).flatMap (valsAt s)) ∧ (a3 < w.heap.size + 2 ∨ hc_ ≤ a3) ∧ hc_ ≤ W.heap.size) (fun _ s5 _ => nc - (intOf s5).toNat)
 case atStart => exact ⟨0, _, _, _, Nat.zero_le _, rfl, rfl, hB, hs, hC, hV.1, .inl (by omega), hle1⟩
 case round =>
  clear hB hs hC hV hz1 hle1
  obtain ⟨i, a3, n3, c3, hin, rfl, rfl, hB, hs, hch, hV, ha3, hsz⟩ := hrel
  have hn3 : ((ch.take i).flatMap (valsAt s)).length = n3 := by
   obtain ⟨A2, c2, e, _⟩ := hV.r
   injection e with _ e _
   exact e.symm
  by_cases hlt : i < nc
  ·
   obtain ⟨z, hz⟩ : ∃ z, ch[i]? = some z := ⟨_, List.getElem?_eq_getElem (by rw [HNC.out]; exact hlt)⟩
   obtain ⟨hok, hz0, hzn⟩ := HCC.out z (List.mem_of_getElem? hz)
   have HOK := Lib.hid hok
   have h16 : n ≤ 16 := by have := (stOk_neat hok).2.1; have := HN.out; omega
   have hn38 : n3 ≤ 128 := by
    have := flat_vals_len hok (ch.take i)
    rw [hn3] at this
    simp only [List.length_take] at this
    omega
   have HN3 := Lib.hid hn3; clear hn3
   obtain ⟨gc, rfl, kz, hgl, hgh⟩ := hch.at_ hz
   have hpos : 0 < n := by omega
   have hSW : SameIn lo hi w wr := fun j _ hj => hB.block j (by omega)
   obtain ⟨b, r, A', n', cap', rfl, hlb, hbh, hri, c0, c1, c2, c3', c4, hpl⟩ := (hr.keep hSW).at_ (i := z.toNat) (by omega)
   have hr8 := (stOk_neat hok).2.2 r (List.mem_of_getElem? hri)
   have HPL := Lib.hid hpl.1
   have hn0 : 0 < n' := by have := hpl.1; omega
   have hn8 : n' ≤ 8 := by have := hpl.1; omega
   obtain ⟨b', rfl, hb'h, hO⟩ := hpl.2 hn0
   have hc : RgC wr b z.toNat r (some ⟨b', 0, none⟩) n' cap' := ⟨c0, c1, c2, c3', c4⟩
   have HTA := Lib.hid (show (ch.take (i + 1)).flatMap (valsAt s) = (ch.take i).flatMap (valsAt s) ++ valsP (sortTo r.ps n') by
    rw [List.take_add_one, hz, List.flatMap_append]
    simp only [Option.toList_some, List.flatMap_cons, List.flatMap_nil, List.append_nil]
    unfold valsAt
    rw [St.at_some hri, hpl.1])
   clear hok hz c0 c1 c2 c3' c4 hri hpl hr8 hSW
   obtain ⟨acc, hacc⟩ : ∃ acc, (ch.take i).flatMap (valsAt s) = acc := ⟨_, rfl⟩
   rw [hacc] at hV
   have HACC := Lib.hid hacc; clear hacc
   have hz : Hid (wr.cell? ⟨gc, i, none⟩ = some (.int .i64 z)) := Lib.hid kz
   clear kz
   obtain ⟨M, hMe⟩ : ∃ M, M = wr.heap.size := ⟨_, rfl⟩
   have hM : M ≤ wr.heap.size := by omega
   have hE : NoPl M wr := NoPl.start (by omega)
   have hou := IntsV.of hV
   rw [← hMe] at hou
   have HHC := Lib.hid (show hc_ ≤ M by omega)
   have HHO := Lib.hid (show M ≤ M from Nat.le_refl _)
   have hgM : gc < M := by omega
   have hbM : b < M := by have := hB.size; omega
   have hb'M : b' < M := by have := hB.size; omega
   have hwM : w.heap.size ≤ M := by have := hB.size; omega
   have hcM : hc_ ≤ M := by omega
   clear hMe hV hsz
   go_upto_region 6 with fail
   go_cut [6] from 14 to 91 (fun u W' => Below w.heap.size w W' ∧ BoxAt W' w.heap.size #[.int .i64 s.rd, .int .i64 s.mo, .slice (some ⟨b, 0, none⟩) n cap, .int .i64 s.fi, .int .i64 s.la] 28 ∧ IntsV (w.heap.size + 2) hc_ W' (.slice (some ⟨gc, 0, none⟩) nc cc) ch ∧ IntsV w.heap.size M W' (.slice (some ⟨a3, 0, none⟩) n3 c3) acc ∧ ∃ g cg, u = .slice (some ⟨g, 0, none⟩) n' cg ∧ PlsO M W' g n' cg r.ps)
   case first =>
    refine wp_region2v (fun w w' => Below w.heap.size w w') (fun _ _ h => h.size) (fun _ => Below.refl _ _) (fun L W' => Below w.heap.size w W' ∧ BoxAt W' w.heap.size #[.int .i64 s.rd, .int .i64 s.mo, .slice (some ⟨b, 0, none⟩) n cap, .int .i64 s.fi, .int .i64 s.la] 28 ∧ Hid (W'.cell? ⟨gc, i, none⟩ = some (.int .i64 z)) ∧ RgC W' b z.toNat r (some ⟨b', 0, none⟩) n' cap' ∧ PlsO lo W' b' n' cap' r.ps ∧ IntsV (w.heap.size + 2) hc_ W' (.slice (some ⟨gc, 0, none⟩) nc cc) ch ∧ IntsV w.heap.size M W' (.slice (some ⟨a3, 0, none⟩) n3 c3) acc ∧ M ≤ W'.heap.size ∧ (L 10 = false → NoPl M W')) (svAV s w.heap.size b n cap r gc nc cc i z b' n' cap' M) (fun j => [0, 0, 0, 0, 0, 0, 0, 0, 0, 0, 1, 0].getD j 0) [] (by kernel_rfl) (by kernel_rfl) ?_ ?_ ?_
     (.grow rfl ?a0 <| .still rfl ?a1 <| .still rfl ?a2 <| .still rfl ?a3 <| .still rfl ?a4 <| .still rfl ?a5 <| .still rfl ?a6 <| .still rfl ?a7 <| .still rfl ?a8 <| .still rfl ?a9 <| .store rfl ?a10 <| .still rfl ?a11 <| .nil) ?_ ?_
    · exact ⟨fun _ _ _ h ⟨g0, e, hp⟩ => ⟨g0, (h 0 (List.mem_singleton.2 rfl)).symm.trans e, hp⟩, fun _ _ _ h ⟨g, cg, e, hp⟩ => ⟨g, cg, (h 10 (List.mem_singleton.2 rfl)).symm.trans e, hp⟩, fun _ _ _ h ⟨g, cg, e, hp⟩ => ⟨g, cg, (h 11 (List.mem_singleton.2 rfl)).symm.trans e, hp⟩, trivial⟩
    · exact ⟨fun σ w w' hb ⟨g0, e, hp⟩ => ⟨g0, e, ⟨hp.1, hp.2.elim (fun h => .inl (h.below hb h.lt)) (fun ⟨g, c, h⟩ => .inr ⟨g, c, h.below hb⟩)⟩⟩, fun σ w w' hb ⟨g, cg, e, hp⟩ => ⟨g, cg, e, hp.below hb⟩, fun σ w w' hb ⟨g, cg, e, hp⟩ => ⟨g, cg, e, hp.below hb⟩, trivial⟩
    · exact ⟨hB.drew, hs, hz, hc, hO, hch, hou, hM, fun _ => hE⟩
    case a1 | a3 | a4 | a8 =>
     go_light
     intro L σ W' hcl hL hC hw
     try have e7 := wT hw 7 rfl
     clear hw hcl hL hC
     refine OpGoes.go fun K hK => ?_
     go_simp
     exact hK _ _ ⟨rfl, rfl⟩
    case a2 =>
     go_light
     intro L σ W' hcl hL hC hw
     have e1 := wV hw 1 rfl
     have ks := hC.2.1.cell
     clear hw hcl hL hC
     refine OpGoes.go fun K hK => ?_
     go_simp
     exact hK _ _ ⟨rfl, rfl⟩
    case a6 =>
     go_light
     intro L σ W' hcl hL hC hw
     have e5 := wV hw 5 rfl
     have kz := hC.2.2.1.out
     clear hw hcl hL hC
     refine OpGoes.go fun K hK => ?_
     go_simp
     exact hK _ _ ⟨rfl, rfl⟩
    case a9 =>
     go_light
     intro L σ W' hcl hL hC hw
     have e8 := wV hw 8 rfl
     have hc0 := hC.2.2.2.1
     obtain ⟨c0, c1, c2, c3, c4⟩ := hc0
     clear hw hcl hL hC
     refine OpGoes.go fun K hK => ?_
     go_simp
     exact hK _ _ ⟨rfl, rfl⟩
    case a0 =>
     go_light
     intro L σ W' hcl hL hC hw
     clear hw
     obtain ⟨hB, hs, hz, hc, hO, hch, hou, hM, hE⟩ := hC
     have hgl : gc < W'.heap.size := World.block_lt_of_cell? W' _ hz.out
     have hhc := Nat.le_trans HHC.out hM
     have hho := Nat.le_trans HHO.out hM
     clear hcl hL
     refine OpGoes.go fun K hK => ?_
     go_simp
     have hb1 : Below W'.heap.size W' (W'.alloc (.cells #[] 58)) := (Below.refl _ _).alloc (Nat.le_refl _) _
     exact hK _ _ ⟨⟨bstep hB hB.size hb1, hs.alloc _, Lib.hid ((hb1.cell (p := ⟨gc, i, none⟩) hgl).trans hz.out), hc.below hb1, hO.below hb1, hch.below hb1 hhc, hou.below hb1 hho, Nat.le_trans hM hb1.size, fun h => (hE (by simpa [upd] using h)).al⟩, ⟨W'.heap.size, rfl, hM, .inl (BoxAt.new _ _ _)⟩, hb1⟩
    case a5 =>
     go_light
     intro L σ W' hcl hL hC hw
     have e3 := wV hw 3 rfl
     have e4 := wV hw 4 rfl
     have b1_ : (0 : Int) ≤ (i : Int) := by omega
     have b2_ : (i : Int) < (nc : Int) := by omega
     clear hw hcl hL hC
     refine OpGoes.go fun K hK => ?_
     go_simp
     exact hK _ _ ⟨rfl, rfl⟩
    case a7 =>
     go_light
     intro L σ W' hcl hL hC hw
     have e2 := wV hw 2 rfl
     have e6 := wV hw 6 rfl
     have b1_ : (0 : Int) ≤ z := by omega
     have b2_ : z < (n : Int) := by omega
     clear hw hcl hL hC
     refine OpGoes.go fun K hK => ?_
     go_simp
     exact hK _ _ ⟨rfl, rfl⟩
    case a10 =>
     go_light
     intro L σ W' hcl hL hC hw hne
     obtain ⟨g0, e0, hp0⟩ := wE hw 0 rfl
     have e9 := wV hw 9 rfl
     clear hw hne
     obtain ⟨hB, hs, hz, hc, hO, hch, hou, hM, hE⟩ := hC
     have hE10 := (hE hL)
     have hb0 : BoxAt W' g0 #[] 58 := hp0.2.elim id (fun h => absurd h (hE10.not hn0))
     clear hcl hL
     refine OpGoes.append_own rfl (.tmp 20) (.tmp 29) _ rfl M 58 i0 _ 4 32 Tryz.underlying40 HI.out HZ0.out HZ1.out HZ2.out rfl (by omega) (.slice (some ⟨g0, 0, none⟩) 0 0) 0 [] (by go_simp) (own_box0 hb0 hp0.1) ⟨b', 0, none⟩ n' cap' (r.ps.flatMap Pl.cs) (by go_simp) (by rw [flat_len _ 4 Pl.cs_len, HPL.out]) hO.news pl_one (by unfold maxLen; omega) (by omega) hM ?_
     intro v' w' hO' hg hat
     obtain ⟨g, cg, rfl, hP'⟩ := Own.of_row (f := Pl.cs) (l := r.ps) (n := n') (by simpa using hO') HPL.out hn0
     have hg2 : W'.grownBy w' (some g0) := hg
     refine ⟨⟨Below.grown hB hg2 hB.size (fun k hk => by cases hk; have := hp0.1; omega), hs.grown2 hg2 (fun e => by injection e with e; exact box_ne hs hb0 (by decide) e.symm), Lib.hid ((World.cell?_of_block (hg2.block gc (World.block_lt_of_cell? W' _ hz.out) (fun e => by injection e with e; have := hp0.1; omega))).trans hz.out), hc.grown hg (by have := hp0.1; omega), Own.keep hO (hg2.block b' (Own.lt hO) (fun e => by injection e with e; have := hp0.1; omega)), hch.grown hg2 (hch.not hb0 (by decide)), hou.grown hg2 (hou.not hb0 (by decide)), Nat.le_trans hM hg2.size, fun h => absurd h (by simp [upd])⟩, ⟨g, cg, rfl, hP'⟩, hg2.size, fun j hj hn hR => ?_⟩
     refine keepV ?_ j hj hn hR
     exact ⟨fun _ _ ⟨g0, e, hp⟩ => ⟨g0, e, ⟨hp.1, .inr ⟨_, _, hP'⟩⟩⟩, fun h => absurd rfl h, fun _ h => absurd (h.symm.trans (show waits _ _ _ = true by kernel_rfl)) (by decide), trivial⟩
    case a11 =>
     go_light
     intro L σ W' hcl hL hC hw
     obtain ⟨g, cg, e10, hp10⟩ := wE hw 10 rfl
     clear hw hcl hL hC
     refine OpGoes.go fun K hK => ?_
     go_simp
     exact hK _ _ ⟨rfl, ⟨g, cg, rfl, hp10⟩⟩
    ·
     intro L L' W' hLL hC
     obtain ⟨hB, hs, hz, hc, hO, hch, hou, hM, hE⟩ := hC
     exact ⟨hB, hs, hz, hc, hO, hch, hou, hM, fun h => hE (hLL _ h)⟩
    ·
     intro σ L W' hall hC hRR
     obtain ⟨hB, hs, hz, hc, hO, hch, hou, hM, hE⟩ := hC
     obtain ⟨g, cg, e11, hp11⟩ := dE hRR 11 rfl
     clear hRR
     simp only [lexAll]
     go_simp
     go_step
     go_meet
     exact ⟨hB, hs, hch, hou, g, cg, rfl, hp11⟩
   case rest =>
    clear hB hs hch hou hz hc hO hE hM
    obtain ⟨hB, hs, hch, hou, g, cg, rfl, hP⟩ := hcut
    obtain ⟨wq, rfl⟩ : ∃ wq : World, wq = wc := ⟨_, rfl⟩
    obtain ⟨csg, hbg⟩ := own_box hP
    have hgMM := hP.ge
    go_wp2_with fail
    go_loopw [7] (fun s7 W => ∃ k : Nat, 1 ≤ k ∧ k ≤ n' ∧ s7 = .int .i64 k ∧ But g wq W ∧ PlsO M W g n' cg (sortTo r.ps k)) (fun s7 _ => n' - (intOf s7).toNat)
    case atStart => exact ⟨1, Nat.le_refl _, by omega, by go_num, But.refl _ _, by rw [sortTo_one]; exact hP⟩
    case round =>
     obtain ⟨k, hk1, hkn, rfl, hb2, hO⟩ := hrel
     by_cases hkl : k < n'
     ·
      have g1 : (k : Int) < (n' : Int) := by omega
      have HSS := Lib.hid (sortTo_succ r.ps hk1)
      go_wp2_with fail
      go_loopw [8] (fun s8 W => ∃ (j : Nat) (cur : List Pl), j ≤ k ∧ s8 = .int .i64 j ∧ But g wq W ∧ PlsO M W g n' cg cur ∧ sinkP j cur = sinkP k (sortTo r.ps k)) (fun s8 _ => (intOf s8).toNat)
      case atStart => exact ⟨k, _, Nat.le_refl _, rfl, hb2, hO, rfl⟩
      case round =>
       clear hb2 hO
       have HBW := Lib.hid hB
       clear hB
       obtain ⟨jj, cur, hjk, rfl, hB, hO, hsk⟩ := hrel
       have HSK := Lib.hid hsk; clear hsk
       rcases Nat.eq_zero_or_pos jj with h0 | h0
       ·
        subst h0
        have HE := Lib.hid (show cur = sinkP k (sortTo r.ps k) from HSK.out)
        go_upto_region 11 with fail
        go_cut [53] from 38 to 72 (fun u W' => But g wq W' ∧ PlsO M W' g n' cg cur ∧ u = .bool false)
        case first =>
         refine wp_region2v (fun w w' => Below w.heap.size w w') (fun _ _ h => h.size) (fun _ => Below.refl _ _) (fun L W' => But g wq W' ∧ PlsO M W' g n' cg cur) (svLcV g n' cg) (fun _ => 0) [] (by kernel_rfl) (by kernel_rfl) ?_ ?_ ?_
          (.still rfl ?a0 <| .still rfl ?a1 <| .still rfl ?a2 <| .still rfl ?a3 <| .still rfl ?a4 <| .still rfl ?a5 <| .still rfl ?a6 <| .still rfl ?a7 <| .still rfl ?a8 <| .still rfl ?a9 <| .still rfl ?a10 <| .still rfl ?a11 <| .still rfl ?a12 <| .still rfl ?a13 <| .still rfl ?a14 <| .still rfl ?a15 <| .nil) ?_ ?_
         · exact trivial
         · exact trivial
         · exact ⟨⟨hB.os, hB.tape, hB.output, hB.size, hB.block⟩, hO⟩
         case a0 | a1 | a2 | a3 | a4 | a5 | a6 | a7 | a8 | a9 | a10 | a11 | a12 | a13 | a14 | a15 =>
          go_light
          intro L σ W' hcl hL hC hw
          try have e0 := wT hw 0 rfl
          try have e1 := wT hw 1 rfl
          try have e2 := wT hw 2 rfl
          try have e3 := wT hw 3 rfl
          try have e4 := wT hw 4 rfl
          try have e5 := wT hw 5 rfl
          try have e6 := wT hw 6 rfl
          try have e7 := wT hw 7 rfl
          try have e8 := wT hw 8 rfl
          try have e9 := wT hw 9 rfl
          try have e10 := wT hw 10 rfl
          try have e11 := wT hw 11 rfl
          try have e12 := wT hw 12 rfl
          try have e13 := wT hw 13 rfl
          try have e14 := wT hw 14 rfl
          clear hw hcl hL hC
          refine OpGoes.go fun K hK => ?_
          go_simp
          exact hK _ _ ⟨rfl, rfl⟩
         ·
          intro L L' W' hLL hC
          obtain ⟨hB, hO⟩ := hC
          exact ⟨hB, hO⟩
         ·
          intro σ L W' hall hC hRR
          obtain ⟨hB, hO⟩ := hC
          have e15 := dV hRR 15 rfl
          clear hRR
          simp only [lexAll]
          go_simp
          go_step
          go_meet
          exact ⟨hB, hO, rfl⟩
        case rest =>
         clear hB hO
         obtain ⟨hB, hO, rfl⟩ := hcut
         go_wp2
         go_roundw
         case rel => exact ⟨k + 1, by omega, by omega, by go_num, hB, by rw [HSS.out, ← HE.out]; exact hO⟩
         case measure => simp [intOf]; omega
       ·
        obtain ⟨j1, hj1⟩ : ∃ j1, jj = j1 + 1 := ⟨jj - 1, by omega⟩
        have HJ1 := Lib.hid (show jj - 1 = j1 by omega)
        have hcl := hO.1
        have hj1n : j1 < n' := by omega
        obtain ⟨p, hp⟩ : ∃ p, cur[jj]? = some p := ⟨_, List.getElem?_eq_getElem (by omega)⟩
        obtain ⟨q, hq⟩ : ∃ q, cur[j1]? = some q := ⟨_, List.getElem?_eq_getElem (by omega)⟩
        have HP := Lib.hid hp
        have HQ := Lib.hid hq
        clear hp hq hcl
        have HJE := Lib.hid hj1
        clear hj1
        by_cases hpq : p.n < q.n
        ·
         have HD := Lib.hid (show decide (p.n < q.n) = true by simpa using hpq)
         have HSI := Lib.hid (show sinkP jj cur = sinkP j1 ((cur.set jj q).set j1 p) by have hj1 := HJE.out; subst hj1; exact sinkP_lt HP.out HQ.out hpq)
         go_upto_region 11 with fail
         go_cut [53] from 38 to 72 (fun u W' => But g wq W' ∧ PlsO M W' g n' cg cur ∧ u = .bool true)
         case first =>
          refine wp_region2v (fun w w' => Below w.heap.size w w') (fun _ _ h => h.size) (fun _ => Below.refl _ _) (fun L W' => But g wq W' ∧ PlsO M W' g n' cg cur) (svLaV g n' cg jj p q) (fun _ => 0) [] (by kernel_rfl) (by kernel_rfl) ?_ ?_ ?_
           (.still rfl ?a0 <| .still rfl ?a1 <| .still rfl ?a2 <| .still rfl ?a3 <| .still rfl ?a4 <| .still rfl ?a5 <| .still rfl ?a6 <| .still rfl ?a7 <| .still rfl ?a8 <| .still rfl ?a9 <| .still rfl ?a10 <| .still rfl ?a11 <| .still rfl ?a12 <| .still rfl ?a13 <| .still rfl ?a14 <| .still rfl ?a15 <| .nil) ?_ ?_
          · exact trivial
          · exact trivial
          · exact ⟨⟨hB.os, hB.tape, hB.output, hB.size, hB.block⟩, hO⟩
          case a0 | a2 | a3 | a4 | a6 | a8 | a9 | a12 | a15 =>
           go_light
           intro L σ W' hcl hL hC hw
           try have e1 := wT hw 1 rfl
           try have e2 := wT hw 2 rfl
           try have e5 := wT hw 5 rfl
           try have e11 := wT hw 11 rfl
           try have e14 := wT hw 14 rfl
           clear hw hcl hL hC
           refine OpGoes.go fun K hK => ?_
           go_simp
           exact hK _ _ ⟨rfl, rfl⟩
          case a7 =>
           go_light
           intro L σ W' hcl hL hC hw
           have e2 := wV hw 2 rfl
           have e6 := wV hw 6 rfl
           obtain ⟨d0, d1, d2, d3⟩ := pls_at hC.2 HP.out
           clear hw hcl hL hC
           refine OpGoes.go fun K hK => ?_
           go_simp
           exact hK _ _ ⟨rfl, rfl⟩
          case a13 =>
           go_light
           intro L σ W' hcl hL hC hw
           have e2 := wV hw 2 rfl
           have e12 := wV hw 12 rfl
           obtain ⟨d0, d1, d2, d3⟩ := pls_at hC.2 HQ.out
           rw [← HJ1.out] at d0 d1 d2 d3
           clear hw hcl hL hC
           refine OpGoes.go fun K hK => ?_
           go_simp
           exact hK _ _ ⟨rfl, rfl⟩
          case a1 =>
           go_light
           intro L σ W' hcl hL hC hw
           have e0 := wV hw 0 rfl
           have b0_ : (0 : Int) < (jj : Int) := by omega
           clear hw hcl hL hC
           refine OpGoes.go fun K hK => ?_
           go_simp
           exact hK _ _ ⟨rfl, rfl⟩
          case a5 =>
           go_light
           intro L σ W' hcl hL hC hw
           have e2 := wV hw 2 rfl
           have e3 := wV hw 3 rfl
           have e4 := wV hw 4 rfl
           have b1_ : (0 : Int) ≤ (jj : Int) := by omega
           have b2_ : (jj : Int) < (n' : Int) := by omega
           clear hw hcl hL hC
           refine OpGoes.go fun K hK => ?_
           go_simp
           exact hK _ _ ⟨rfl, rfl⟩
          case a10 =>
           go_light
           intro L σ W' hcl hL hC hw
           have e2 := wV hw 2 rfl
           have e9 := wV hw 9 rfl
           have wr_ : IntKind.i64.wrap ((jj : Int) - 1) = (jj : Int) - 1 := by rw [IntKind.wrap_i64]; omega
           clear hw hcl hL hC
           refine OpGoes.go fun K hK => ?_
           go_simp
           exact hK _ _ ⟨rfl, rfl⟩
          case a11 =>
           go_light
           intro L σ W' hcl hL hC hw
           have e2 := wV hw 2 rfl
           have e8 := wV hw 8 rfl
           have e10 := wV hw 10 rfl
           have b1_ : (1 : Int) ≤ (jj : Int) := by omega
           have b2_ : (jj : Int) - 1 < (n' : Int) := by omega
           clear hw hcl hL hC
           refine OpGoes.go fun K hK => ?_
           go_simp
           exact hK _ _ ⟨rfl, rfl⟩
          case a14 =>
           go_light
           intro L σ W' hcl hL hC hw
           have e2 := wV hw 2 rfl
           have e7 := wV hw 7 rfl
           have e13 := wV hw 13 rfl
           have lt_ : decide (p.n < q.n) = true := HD.out
           clear hw hcl hL hC
           refine OpGoes.go fun K hK => ?_
           go_simp
           exact hK _ _ ⟨rfl, rfl⟩
          ·
           intro L L' W' hLL hC
           obtain ⟨hB, hO⟩ := hC
           exact ⟨hB, hO⟩
          ·
           intro σ L W' hall hC hRR
           obtain ⟨hB, hO⟩ := hC
           have e15 := dV hRR 15 rfl
           clear hRR
           simp only [lexAll]
           go_simp
           go_step
           go_meet
           exact ⟨hB, hO, rfl⟩
         case rest =>
          clear hB hO
          obtain ⟨hB, hO, rfl⟩ := hcut
          have hgl2 : g < wc.heap.size := Own.lt hO
          obtain ⟨d0, d1, d2, d3⟩ := pls_at hO HP.out
          have e1 : (0 : Int) ≤ (jj : Int) := by omega
          have e2 : (jj : Int) < (n' : Int) := by omega
          go_upto_region 14 with fail
          refine wp_abs (fun W' => But g wq W' ∧ PlsO M W' g n' cg cur ∧ BoxAt W' wc.heap.size #[.bool p.s, .int .i64 p.n, .bool p.f, .int .i64 p.v] 58) ⟨hB.trans (But.of_below ((Below.refl _ _).alloc (Nat.le_refl _) _)), hO.al _, BoxAt.new _ _ _⟩ ?_
          clear d0 d1 d2 d3 hB hO
          generalize wc.heap.size = X at *
          rintro W3 ⟨hB, hO, hX⟩
          obtain ⟨d0, d1, d2, d3⟩ := pls_at hO HQ.out
          rw [← HJ1.out] at d0 d1 d2 d3
          obtain ⟨f0, f1, f2, f3⟩ := pls_at hO HP.out
          have df := Own.frozen_ hO
          have e3 : (1 : Int) ≤ (jj : Int) := by omega
          have e4 : (jj : Int) - 1 < (n' : Int) := by omega
          have wr_ : IntKind.i64.wrap ((jj : Int) - 1) = (jj : Int) - 1 := by rw [IntKind.wrap_i64]; omega
          go_upto_region 15 with fail
          refine wp_abs (fun W' => But g wq W' ∧ PlsO M W' g n' cg (cur.set jj q) ∧ BoxAt W' X #[.bool p.s, .int .i64 p.n, .bool p.f, .int .i64 p.v] 58) ⟨(((hB.set _ _).set _ _).set _ _).set _ _, Own.setEl hO Pl.cs_len (by omega) (by omega) q, ((((hX.sn).sn).sn).sn)⟩ ?_
          clear d0 d1 d2 d3 f0 f1 f2 f3 df hB hO hX
          rintro W4 ⟨hB, hO, hX⟩
          obtain ⟨x, hx⟩ : ∃ x, (cur.set jj q)[j1]? = some x := ⟨_, List.getElem?_eq_getElem (by have := hO.1; omega)⟩
          obtain ⟨d0, d1, d2, d3⟩ := pls_at hO hx
          rw [← HJ1.out] at d0 d1 d2 d3
          have df := Own.frozen_ hO
          have kX := hX.cell
          clear hx
          go_wp2
          go_roundw
          case rel =>
           refine ⟨j1, (cur.set jj q).set j1 p, by have := HJE.out; omega, by have := HJE.out; simp; omega, (((hB.set _ _).set _ _).set _ _).set _ _, ?_, by rw [← HSK.out, HSI.out]⟩
           have := Own.setEl hO Pl.cs_len (by omega) (i := j1) (by omega) p
           rw [HJ1.out]
           exact this
          case measure => have := HJE.out; simp [intOf]; omega
        ·
         have HD := Lib.hid (show decide (p.n < q.n) = false by simpa using hpq)
         have HSI := Lib.hid (show sinkP jj cur = cur by have hj1 := HJE.out; subst hj1; exact sinkP_ge HP.out HQ.out hpq)
         go_upto_region 11 with fail
         go_cut [53] from 38 to 72 (fun u W' => But g wq W' ∧ PlsO M W' g n' cg cur ∧ u = .bool false)
         case first =>
          refine wp_region2v (fun w w' => Below w.heap.size w w') (fun _ _ h => h.size) (fun _ => Below.refl _ _) (fun L W' => But g wq W' ∧ PlsO M W' g n' cg cur) (svLbV g n' cg jj p q) (fun _ => 0) [] (by kernel_rfl) (by kernel_rfl) ?_ ?_ ?_
           (.still rfl ?a0 <| .still rfl ?a1 <| .still rfl ?a2 <| .still rfl ?a3 <| .still rfl ?a4 <| .still rfl ?a5 <| .still rfl ?a6 <| .still rfl ?a7 <| .still rfl ?a8 <| .still rfl ?a9 <| .still rfl ?a10 <| .still rfl ?a11 <| .still rfl ?a12 <| .still rfl ?a13 <| .still rfl ?a14 <| .still rfl ?a15 <| .nil) ?_ ?_
          · exact trivial
          · exact trivial
          · exact ⟨⟨hB.os, hB.tape, hB.output, hB.size, hB.block⟩, hO⟩
          case a0 | a2 | a3 | a4 | a6 | a8 | a9 | a12 | a15 =>
           go_light
           intro L σ W' hcl hL hC hw
           try have e1 := wT hw 1 rfl
           try have e2 := wT hw 2 rfl
           try have e5 := wT hw 5 rfl
           try have e11 := wT hw 11 rfl
           try have e14 := wT hw 14 rfl
           clear hw hcl hL hC
           refine OpGoes.go fun K hK => ?_
           go_simp
           exact hK _ _ ⟨rfl, rfl⟩
          case a7 =>
           go_light
           intro L σ W' hcl hL hC hw
           have e2 := wV hw 2 rfl
           have e6 := wV hw 6 rfl
           obtain ⟨d0, d1, d2, d3⟩ := pls_at hC.2 HP.out
           clear hw hcl hL hC
           refine OpGoes.go fun K hK => ?_
           go_simp
           exact hK _ _ ⟨rfl, rfl⟩
          case a13 =>
           go_light
           intro L σ W' hcl hL hC hw
           have e2 := wV hw 2 rfl
           have e12 := wV hw 12 rfl
           obtain ⟨d0, d1, d2, d3⟩ := pls_at hC.2 HQ.out
           rw [← HJ1.out] at d0 d1 d2 d3
           clear hw hcl hL hC
           refine OpGoes.go fun K hK => ?_
           go_simp
           exact hK _ _ ⟨rfl, rfl⟩
          case a1 =>
           go_light
           intro L σ W' hcl hL hC hw
           have e0 := wV hw 0 rfl
           have b0_ : (0 : Int) < (jj : Int) := by omega
           clear hw hcl hL hC
           refine OpGoes.go fun K hK => ?_
           go_simp
           exact hK _ _ ⟨rfl, rfl⟩
          case a5 =>
           go_light
           intro L σ W' hcl hL hC hw
           have e2 := wV hw 2 rfl
           have e3 := wV hw 3 rfl
           have e4 := wV hw 4 rfl
           have b1_ : (0 : Int) ≤ (jj : Int) := by omega
           have b2_ : (jj : Int) < (n' : Int) := by omega
           clear hw hcl hL hC
           refine OpGoes.go fun K hK => ?_
           go_simp
           exact hK _ _ ⟨rfl, rfl⟩
          case a10 =>
           go_light
           intro L σ W' hcl hL hC hw
           have e2 := wV hw 2 rfl
           have e9 := wV hw 9 rfl
           have wr_ : IntKind.i64.wrap ((jj : Int) - 1) = (jj : Int) - 1 := by rw [IntKind.wrap_i64]; omega
           clear hw hcl hL hC
           refine OpGoes.go fun K hK => ?_
           go_simp
           exact hK _ _ ⟨rfl, rfl⟩
          case a11 =>
           go_light
           intro L σ W' hcl hL hC hw
           have e2 := wV hw 2 rfl
           have e8 := wV hw 8 rfl
           have e10 := wV hw 10 rfl
           have b1_ : (1 : Int) ≤ (jj : Int) := by omega
           have b2_ : (jj : Int) - 1 < (n' : Int) := by omega
           clear hw hcl hL hC
           refine OpGoes.go fun K hK => ?_
           go_simp
           exact hK _ _ ⟨rfl, rfl⟩
          case a14 =>
           go_light
           intro L σ W' hcl hL hC hw
           have e2 := wV hw 2 rfl
           have e7 := wV hw 7 rfl
           have e13 := wV hw 13 rfl
           have lt_ : decide (p.n < q.n) = false := HD.out
           clear hw hcl hL hC
           refine OpGoes.go fun K hK => ?_
           go_simp
           exact hK _ _ ⟨rfl, rfl⟩
          ·
           intro L L' W' hLL hC
           obtain ⟨hB, hO⟩ := hC
           exact ⟨hB, hO⟩
          ·
           intro σ L W' hall hC hRR
           obtain ⟨hB, hO⟩ := hC
           have e15 := dV hRR 15 rfl
           clear hRR
           simp only [lexAll]
           go_simp
           go_step
           go_meet
           exact ⟨hB, hO, rfl⟩
         case rest =>
          clear hB hO
          obtain ⟨hB, hO, rfl⟩ := hcut
          go_wp2
          go_roundw
          case rel => exact ⟨k + 1, by omega, by omega, by go_num, hB, by rw [HSS.out, ← HSK.out, HSI.out]; exact hO⟩
          case measure => simp [intOf]; omega
     ·
      have g1 : ¬ (k : Int) < (n' : Int) := by omega
      obtain rfl : k = n' := by omega
      have hB4 : Below w.heap.size w wr := hB.trans (hb2.below (by omega) hB.size)
      have hs4 := hb2.box hs (by omega)
      have hch4 := hch.but hb2 hbg
      have hou4 := (hou.but hb2 hbg).1
      have hsz4 : hc_ ≤ wr.heap.size := by have := hb2.size; have := Own.lt hO; omega
      clear hB hs hch hou hb2 hP hbg csg
      have htl : (sortTo r.ps k).length = k := by rw [sortTo_len]; exact HPL.out
      generalize sortTo r.ps k = t at *
      have HTL := Lib.hid htl; clear htl
      go_wp2_with fail
      go_loopw [3, 10] (fun s3 s10 W => ∃ (q a4 n4 c4 : Nat), q ≤ k ∧ s10 = .int .i64 q ∧ s3 = .slice (some ⟨a4, 0, none⟩) n4 c4 ∧ Below w.heap.size w W ∧ BoxAt W w.heap.size #[.int .i64 s.rd, .int .i64 s.mo, .slice (some ⟨b, 0, none⟩) n cap, .int .i64 s.fi, .int .i64 s.la] 28 ∧ IntsV (w.heap.size + 2) hc_ W (.slice (some ⟨gc, 0, none⟩) nc cc) ch ∧ PlsO M W g k cg t ∧ IntsO w.heap.size W (.slice (some ⟨a4, 0, none⟩) n4 c4) (acc ++ valsP (t.take q)) ∧ (a4 < w.heap.size + 2 ∨ hc_ ≤ a4) ∧ hc_ ≤ W.heap.size) (fun _ s10 _ => k - (intOf s10).toNat)
      case atStart => exact ⟨0, _, _, _, Nat.zero_le _, rfl, rfl, hB4, hs4, hch4, hO, by simpa [valsP] using hou4, ha3, hsz4⟩
      case round =>
       clear hB4 hs4 hch4 hou4 hsz4 hO
       obtain ⟨q, a4, n4, c4, hq, rfl, rfl, hB, hs, hch, hO, hV, ha4, hsz⟩ := hrel
       have hn4 : (acc ++ valsP (t.take q)).length = n4 := by
        obtain ⟨A2, c2, e, _⟩ := hV.r
        injection e with _ e _
        exact e.symm
       have hn48 : n4 ≤ 200 := by
        have := valsP_len (t.take q)
        simp only [List.length_take] at this
        rw [← hn4, List.length_append, ← HACC.out, HN3.out]
        omega
       by_cases hql : q < k
       ·
        have g2 : (q : Int) < (k : Int) := by omega
        have g3 : (0 : Int) ≤ (q : Int) := by omega
        obtain ⟨p, hp⟩ : ∃ p, t[q]? = some p := ⟨_, List.getElem?_eq_getElem (by rw [HTL.out]; exact hql)⟩
        obtain ⟨d0, d1, d2, d3⟩ := pls_at hO hp
        obtain ⟨csg, hbg⟩ := own_box hO
        cases hf : p.f
        ·
         have HVE := Lib.hid (valsP_empty hp hf)
         rw [hf] at d2
         clear hp
         go_wp2
         go_roundw
         case rel => exact ⟨q + 1, a4, n4, c4, by omega, by go_num, rfl, hB, hs, hch, hO, by rw [HVE.out]; exact hV, ha4, hsz⟩
         case measure => simp [intOf]; omega
        ·
         have HVF := Lib.hid (valsP_full hp hf)
         rw [hf] at d2
         clear hp
         have hR1 := ints_row hV hn4
         have hne : some g ≠ (Value.slice (some ⟨a4, 0, none⟩) n4 c4).ownBlock := ints_not hV hbg (by decide)
         have hne2 : some w.heap.size ≠ (Value.slice (some ⟨a4, 0, none⟩) n4 c4).ownBlock := ints_not hV hs (by decide)
         have HN4 := Lib.hid hn4; clear hn4
         go_wp2_with (at_builtin; go_must (refine wpList_append_own_at _ rfl (.tmp 84) (.tmp 90) _ rfl w.heap.size 2 j0 _ 1 8 Tryz.underlying32 HJ.out HY0.out HY1.out HY2.out rfl (by omega) (.slice (some ⟨a4, 0, none⟩) n4 c4) n4 _ rfl (hR1.alloc _) ⟨wr.heap.size, 0, none⟩ 1 1 [.int .i64 p.v] rfl rfl (news_alloc _ _ _) (by intro u hu; simp at hu; subst hu; rfl) (by unfold maxLen; omega) (by omega) (by have := hB.size; simp; omega) ?_; intro v' w' hO' hg' hz' hat'; clear hz'; obtain ⟨g', cap'', rfl, hP'⟩ := Own.of_row (f := ic) (l := (acc ++ valsP (t.take q)) ++ [p.v]) (n := n4 + 1) (by rw [List.flatMap_append]; exact hO') (by rw [List.length_append, HN4.out]; rfl) (by omega)))
         have hBa : Below w.heap.size w (wr.alloc (.cells #[.int .i64 p.v] 2)) := hB.alloc hB.size _
         have hga : g' = a4 ∨ g' = wr.heap.size + 1 := by
          rcases hat' with h | h
          · left; simpa [Value.ownBlock] using h
          · right; simpa [Value.ownBlock] using h
         have hg2 : (wr.alloc (.cells #[.int .i64 p.v] 2)).grownBy w' (some a4) := hg'
         have hgO := Own.lt hO
         have hsl := hs.lt
         go_roundw
         case rel =>
          refine ⟨q + 1, g', n4 + 1, cap'', by omega, by go_num, rfl, Below.grown hBa hg' (by have := hB.size; simp; omega) (fun k hk => (hV.lt k hk).1), ?_, ?_, ?_, ?_, by omega, ?_⟩
          · exact BoxAt.grown2 (hs.alloc _) hg' (Ne.symm hne2)
          ·
           exact IntsV.grown (hch.keep (.alloc hsz _)) hg2 (fun k hk e => by
            have e1 : gc = k := by simpa [Value.ownBlock] using hk
            omega)
          · exact Own.keep (hO.al _) (hg'.block g (by simp; omega) hne)
          ·
           rw [HVF.out, ← List.append_assoc]
           have := hP'.own ic_len
           unfold IntsO
           rw [List.length_append, HN4.out]
           exact this
          ·
           have := hg'.size
           simp at this
           omega
         case measure => simp [intOf]; omega
       ·
        have g2 : ¬ (q : Int) < (k : Int) := by omega
        obtain rfl : q = k := by omega
        rw [List.take_of_length_le (by rw [HTL.out]; exact Nat.le_refl _), ← HACC.out, ← HTA.out] at hV
        go_wp2
        go_roundw
        case rel => exact ⟨i + 1, a4, n4, c4, by omega, by go_num, rfl, hB, hs, hch, hV, ha4, hsz⟩
        case measure => simp [intOf]; omega
  ·
   have g1 : ¬ (i : Int) < (nc : Int) := by omega
   obtain rfl : i = nc := by omega
   go_wp2
   go_ret
   rw [List.take_of_length_le (by rw [HNC.out]; exact Nat.le_refl _), ← HCH.out, ← HV0.out] at hV
   exact ⟨_, rfl, hV, hB⟩


end Go.Proofs.YtibmbanbaopeiaaGreat


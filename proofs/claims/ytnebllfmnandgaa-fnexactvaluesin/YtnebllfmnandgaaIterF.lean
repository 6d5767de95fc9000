/-
  The walks of ChainOf, of both sides.
-/
import Derived.Test.YtnebllfmnandgaaIterE
import Derived.Test.YtnebllfmnandgaaLawI
import Derived.Test.YtnebllfmnandgaaStoreB
namespace Go.Proofs.Ytnebllfmnandgaa
open Go.RowKit Go.Shelf
set_option linter.unusedVariables false
attribute [local go_sem] Oper.semAt_some
attribute [local go_sem ↓] Go.wp_at_zero Go.wp_at_succ

def chainOf (s : St) : List Int := if stOk s then (chain s.rs s.rs.length s.fi).getD [] else []
theorem stOk_fi {s : St} (h : stOk s = true) : 0 ≤ s.fi ∧ s.fi < s.rs.length := by
  simp only [stOk, stHead, Bool.and_eq_true, inB, decide_eq_true_eq] at h
  omega
theorem stOk_x {s : St} (h : stOk s = true) : ∀ r ∈ s.rs, -1 ≤ r.x ∧ r.x < s.rs.length := fun r hr => by
  simp only [stOk, Bool.and_eq_true] at h
  have := List.all_eq_true.1 h.1.2 r hr
  simp only [inSt, Bool.and_eq_true, decide_eq_true_eq] at this
  exact ⟨ok_next this.1.1, this.2⟩
theorem stOk_chainF {s : St} (h : stOk s = true) : (chain s.rs s.rs.length s.fi).isSome = true := by
  have hf := stOk_fi h
  simp only [stOk, Bool.and_eq_true] at h
  have := List.all_eq_true.1 h.2 s.fi.toNat (List.mem_range.2 (by omega))
  rw [show ((s.fi.toNat : Nat) : Int) = s.fi by omega] at this
  exact this
theorem chain_len {L : List Rg} : ∀ (k : Nat) (z : Int) (l : List Int), chain L k z = some l → l.length ≤ k
  | k, z, l, h => by
    by_cases h0 : z < 0
    · rw [chain_neg h0] at h
      injection h with h
      subst h; simp
    · cases k with
      | zero => rw [chain_zero h0] at h; cases h
      | succ k =>
        unfold chain at h
        rw [if_neg h0] at h
        dsimp only at h
        split at h
        · cases hc : chain L k (_ : Rg).x with
          | none => rw [hc] at h; cases h
          | some l' =>
            rw [hc] at h
            injection h with h
            subst h
            have := chain_len k _ l' hc
            simp; omega
        · cases h
theorem walk_chain {rows : List Rw} {L : List Rg} (hx : rows.map Rw.x = L.map Rg.x) : ∀ (k : Nat) (z : Int) (l : List Int), chain L k z = some l → (walkE rows k z).map (fun x => x.1.1) = l
  | k, z, l, h => by
    by_cases h0 : z < 0
    · rw [chain_neg h0] at h
      injection h with h
      rw [walkE_out (.inl h0), ← h]; rfl
    · cases k with
      | zero => rw [chain_zero h0] at h; cases h
      | succ k =>
        cases hr : L[z.toNat]? with
        | none =>
          unfold chain at h
          rw [if_neg h0] at h
          simp only [hr] at h
          cases h
        | some r =>
          rw [chain_succ h0 hr] at h
          have hxz : (rows.map Rw.x)[z.toNat]? = some r.x := by rw [hx, List.getElem?_map, hr]; rfl
          rw [List.getElem?_map] at hxz
          cases ha : rows[z.toNat]? with
          | none => rw [ha] at hxz; cases hxz
          | some a =>
            rw [ha] at hxz
            have hax : a.x = r.x := by simpa using hxz
            cases hc : chain L k r.x with
            | none => rw [hc] at h; cases h
            | some l' =>
              rw [hc] at h
              injection h with h
              subst h
              rw [walkE_in (by omega) ha, List.map_cons, hax, walk_chain hx k r.x l' hc]

/-- A list of numbers of the call's own is returned. -/
def RetInts (l : List Int) (w : World) (e : Ending) (w' : World) : Prop := ∃ v, e = .returned v ∧ IntsO w.heap.size w' v l ∧ Below w.heap.size w w'

theorem ints_made {N k : Nat} {w : World} (h : k = w.heap.size) (hN : N ≤ w.heap.size) : IntsO N (w.alloc (.cells #[] 2)) (.slice (some ⟨k, 0, none⟩) 0 0) [] := by
  subst h
  exact World.ownsRow_made w #[] 0 hN (Nat.zero_le _) rfl

set_option maxRecDepth 100000 in
set_option maxHeartbeats 1000000 in
theorem schainOf_any (s : St) (A : Option Addr) (n cap : Nat) (lo hi : Nat) (w : World) (hr : RgsW lo hi w A n cap s.rs) (hh : hi ≤ w.heap.size) (hn2 : n ≤ 1048576) (hm : ∀ r ∈ s.rs, r.ps.length ≤ 1048576) :
    Calls Try.prog 30 #[stV s A n cap] w (RetInts (chainOf s) w) := by
  have HM := Lib.hid hm; clear hm
  have HN := Lib.hid hr.1
  unfold stV
  go_enter Try.func30, Try.ntmps30
  go_wp2_with fail
  refine calls_abs (fun W => Below w.heap.size w W ∧ BoxAt W w.heap.size #[.int .i64 s.rd, .int .i64 s.mo, .slice A n cap, .int .i64 s.fi, .int .i64 s.la] 47) ⟨(Below.refl _ _).alloc (Nat.le_refl _) _, BoxAt.new _ _ _⟩ ?_
  rintro W ⟨hB, hx⟩
  have hS : SameIn lo hi w W := fun j _ hj => hB.block j (by omega)
  refine (sstoreOk_any s A n cap lo hi _ (hr.keep hS) (by have := hB.size; omega) hn2 HM.out).mono ?_
  rintro e w1 ⟨rfl, hb1⟩
  replace hx := hx.below hb1 hx.lt
  replace hB := bstep hB hB.size hb1
  clear hb1 hS
  have kx := hx.cell
  cases hok : stOk s
  · have HC := Lib.hid (show chainOf s = [] by simp [chainOf, hok])
    go_wp2
    go_ret
    refine ⟨_, rfl, ?_, hB.alloc hB.size _⟩
    rw [HC.out]
    exact ints_made rfl hB.size
  · have HX := Lib.hid (stOk_x hok)
    have HF := Lib.hid (stOk_fi hok)
    have HI := Lib.hid (stOk_chainF hok)
    have HC := Lib.hid (show chainOf s = (chain s.rs s.rs.length s.fi).getD [] by simp [chainOf, hok])
    clear hok
    have hS : SameIn lo hi w w1 := fun j _ hj => hB.block j (by omega)
    go_wp2_with fail
    refine (l3Chain_any s A n cap s.fi lo hi _ (hr.keep hS) (by have := hB.size; omega) hn2 (by have := HF.out.2; have := HN.out; omega) (fun r hr' => by have := (HX.out r hr').2; have := HN.out; omega)).mono ?_
    rintro e w2 ⟨v, rfl, hv, hb2⟩
    go_wp2
    go_ret
    refine ⟨v, rfl, ?_, bstep hB hB.size hb2⟩
    rw [HC.out, HN.out]
    exact own_mono hv hB.size

set_option maxRecDepth 100000 in
set_option maxHeartbeats 4000000 in
theorem ichainOf_any (s : St) (A : Option Addr) (n cap : Nat) (lo hi : Nat) (w : World) (hr : RgsW lo hi w A n cap s.rs) (hh : hi ≤ w.heap.size) (hn2 : n ≤ 1048576) (hm : ∀ r ∈ s.rs, r.ps.length ≤ 1048576) :
    Calls Try.prog 31 #[stV s A n cap] w (RetInts (chainOf s) w) := by
  obtain ⟨i0, hi0, hz0, hz1, hz2⟩ := info_parts int_info
  have HI := Lib.hid hi0
  have HZ0 := Lib.hid hz0
  have HZ1 := Lib.hid hz1
  have HZ2 := Lib.hid hz2
  clear hi0 hz0 hz1 hz2
  have HM := Lib.hid hm; clear hm
  have HN := Lib.hid hr.1
  unfold stV
  refine (callsIn_wide (n := 3)).1 ?_
  refine callsIn_of_wp_marks Try.func31 rfl trivial ?_ rfl
  simp only [Try.ntmps31, List.size_toArray, List.length_cons, List.length_nil, Nat.reduceAdd, Nat.reduceSub, Array.replicate_succ, Array.replicate_zero, List.push_toArray, List.append_toArray, List.nil_append, List.cons_append]
  gi_wp2_with fail
  refine ⟨trivial, ?_⟩
  refine callsIn_abs (fun W => Below w.heap.size w W ∧ W.heap.size = w.heap.size + 3 ∧ BoxAt W w.heap.size (sC s A n cap) 47 ∧ BoxAt W (w.heap.size + 1 + 1) #[.slice (some ⟨w.heap.size + 1, 0, none⟩) 0 0] 55 ∧ IntsO w.heap.size W (.slice (some ⟨w.heap.size + 1, 0, none⟩) 0 0) []) ?_ ?_
  · refine ⟨(((Below.refl _ _).alloc (Nat.le_refl _) _).alloc (by simp) _).alloc (by simp; omega) _, by simp, ((BoxAt.new _ _ _).alloc _).alloc _, BoxAt.new' (by simp), ?_⟩
    exact (ints_made (by simp) (by simp)).below ((Below.refl _ _).alloc (Nat.le_refl _) _)
  rintro W ⟨hB, hsz, hs, hx, hv⟩
  have hS : SameIn lo hi w W := fun j _ hj => hB.block j (by omega)
  refine (callsIn_wide.2 (istoreOk_any s A n cap lo hi _ (hr.keep hS) (by omega) hn2 HM.out)).mono ?_
  rintro e w1 ⟨rfl, hb1⟩
  have hz1 : w.heap.size + 3 ≤ w1.heap.size := by have := hb1.size; omega
  replace hs := hs.below hb1 hs.lt
  replace hx := hx.below hb1 hx.lt
  replace hv := hv.below hb1
  replace hB := bstep hB hB.size hb1
  clear hb1 hS hsz
  have ks := hs.cell
  unfold sC at ks
  have kx := hx.cell
  cases hok : stOk s
  · have HC := Lib.hid (show chainOf s = [] by simp [chainOf, hok])
    gi_wp2
    refine ⟨_, results_tmp rfl _ _ _, _, rfl, ?_, hB⟩
    rw [HC.out]
    exact hv
  · have HX := Lib.hid (stOk_x hok)
    have HF := Lib.hid (stOk_fi hok)
    have HI2 := Lib.hid (stOk_chainF hok)
    have HC := Lib.hid (show chainOf s = (chain s.rs s.rs.length s.fi).getD [] by simp [chainOf, hok])
    clear hok
    gi_wp2_with fail
    refine ⟨trivial, ?_⟩
    refine (callsIn_wide.2 (ringsFrom_any s _ n cap _ _)).mono ?_
    rintro e w' ⟨rfl, rfl⟩
    gi_wp2
    clear ks kx
    have hpos : 0 < n := by have := HF.out; have := HN.out; omega
    obtain ⟨b, rows, rfl, hbh, hO, hA⟩ := hr.2 hpos
    have hbw : b < w.heap.size := by omega
    obtain ⟨P, hP⟩ : ∃ P, w1.heap.size = P := ⟨_, rfl⟩
    obtain ⟨W0, hW0⟩ : ∃ W0, (w1.alloc (.cells (sC s (some ⟨b, 0, none⟩) n cap) 47)).alloc (.cells #[.int .i64 s.fi] 2) = W0 := ⟨_, rfl⟩
    have hs0 : W0.heap.size = P + 2 := by rw [← hW0]; simp; omega
    have hB0 : Below w.heap.size w W0 := by rw [← hW0]; exact (hB.alloc (by omega) _).alloc (by simp; omega) _
    have hx0 : BoxAt W0 (w.heap.size + 1 + 1) #[.slice (some ⟨w.heap.size + 1, 0, none⟩) 0 0] 55 := by rw [← hW0]; exact (hx.alloc _).alloc _
    have hS0 : BoxAt W0 P (sC s (some ⟨b, 0, none⟩) n cap) 47 := by rw [← hW0]; exact (BoxAt.new' hP.symm).alloc _
    have hR0 : BoxAt W0 (P + 1) #[.int .i64 s.fi] 2 := by rw [← hW0]; exact BoxAt.new' (by simp; omega)
    have hv0 : IntsO w.heap.size W0 (.slice (some ⟨w.heap.size + 1, 0, none⟩) 0 0) [] := by rw [← hW0]; exact hv.below (((Below.refl _ _).alloc (Nat.le_refl _) _).alloc (by simp) _)
    have hO0 : RwsO lo W0 b n cap rows := Own.keep hO (hB0.block b hbw)
    have HWC := Lib.hid (rows_x (hO.1.trans HN.out.symm) hA)
    have hrl : rows.length = n := hO.1
    rw [hW0, hP]
    rw [hP] at hz1
    clear hW0 hx hB hs hv hA hP
    refine wpIn_rangeFunc_ownH rfl (by omega) (gf := 82) (lb := #[.pointer (some ⟨P + 1, 0, none⟩), .pointer (some ⟨P, 0, none⟩)]) rfl trivial (enters_of Try.func82 (by kernel_rfl) rfl)
      (ringsFrom_stops 2 P (P + 1) w.heap.size P (P + 1) lo b n cap s rows s.fi (by omega) HN.out hn2 W0 hS0 hR0 hO0 hbw (by omega) (by omega)) kpI_t (kpI_b (by omega) (by omega)) (Below.refl _ _) (fun _ => rfl)
      (fun pre W' => ((∃ v, BoxAt W' (w.heap.size + 1 + 1) #[v] 55 ∧ IntsO w.heap.size W' v (pre.map fun x => x.1.1)) ∧ (BoxAt W' P (sC s (some ⟨b, 0, none⟩) n cap) 47 ∧ P + 2 ≤ W'.heap.size)) ∧ Below w.heap.size w W')
      (fun _ _ _ => False)
      (OwnFrom.and (OwnFrom.and (fun pre X Y row hs hg hr => by
          obtain ⟨v, h1, h2⟩ := hs
          refine ⟨v, boxAt_own W0.heap.size _ (fun (_ : Unit) => #[v]) _ () X Y row h1 hg hr, h2.1, ?_⟩
          rcases h2.2 with h' | ⟨g, cp, cur, hv, hgN, hbx, hrr⟩
          · exact .inl h'
          · exact .inr ⟨g, cp, cur, hv, hgN, boxAt_own W0.heap.size g (fun (_ : Unit) => cur) _ () X Y row hbx hg hr, hrr⟩) (OwnFrom.and (boxAt_own _ _ (fun _ => _) _) ownFrom_size)) (ownFrom_below (Nat.le_refl _) (by omega)))
      (fun _ _ _ _ _ hs _ _ => hs)
      ⟨⟨⟨_, hx0, hv0⟩, hS0, by omega⟩, hB0⟩
      (fun x a' W' => a' = { tmps := #[.agg #[.int .i64 s.rd, .int .i64 s.mo, .slice (some ⟨b, 0, none⟩) n cap, .int .i64 s.fi, .int .i64 s.la], .pointer (some ⟨w.heap.size, 0, none⟩), .slice none 0 0, .pointer (some ⟨w.heap.size + 1 + 1, 0, none⟩), .int .i64 x.1.1, .slice (some ⟨w.heap.size + 1, 0, none⟩) 0 0, .agg #[.int .i64 s.rd, .int .i64 s.mo, .slice (some ⟨b, 0, none⟩) n cap, .int .i64 s.fi, .int .i64 s.la], .bool true, .bool false, undef, .agg #[.int .i64 s.rd, .int .i64 s.mo, .slice (some ⟨b, 0, none⟩) n cap, .int .i64 s.fi, .int .i64 s.la], .pointer (some ⟨w.heap.size, 3, none⟩), .int .i64 s.fi, .func (.func 82) #[] #[.pointer (some ⟨P + 1, 0, none⟩), .pointer (some ⟨P, 0, none⟩)], .int .i64 x.1.1, .agg (rwC x.1.2), undef, undef, undef, undef, undef], defers := [] })
      (fun x a' _ X Y row hs hg hr => hs)
      ?assign ?body ?done ?stop
    case assign =>
      rintro l pre x W1 K hi hK
      unfold elV
      gi_wp2
      exact hK _ _ (KeepsFrom.refl _ _) (KpI.refl _ _ _ _) hi rfl
    case body =>
      rintro l pre x a' W1 _ _ ⟨⟨⟨v, hx1, hv1⟩, hS1, hz2⟩, hB1⟩ rfl hlt
      have hpl : (pre.map fun x => x.1.1).length = pre.length := by simp
      have hbig : pre.length < 1048576 := by omega
      have HIN := Lib.hid hv1
      obtain ⟨A1, c1, rfl, _⟩ := hv1.r
      have kx := hx1.cell
      have hne : some P ≠ (Value.slice A1 (pre.map fun x => x.1.1).length c1).ownBlock := by
        intro e
        rcases hv1.2 with ⟨h1, _⟩ | ⟨g, cp, cur, hv, _, hbx, _⟩
        · rw [h1] at e; cases e
        · rw [hv] at e
          have : P = g := by simpa [Value.ownBlock] using e
          exact box_ne hS1 hbx (by decide) this
      rw [hpl] at hne kx
      have hv2 : W1.ownsRow w.heap.size 2 1 (.slice A1 pre.length c1) pre.length ((pre.map fun x => x.1.1).flatMap ic) := by have := hv1; unfold IntsO at this; rw [hpl] at this; exact this
      have hx2 : BoxAt W1 (w.heap.size + 1 + 1) #[.slice A1 pre.length c1] 55 := by rw [hpl] at hx1; exact hx1
      clear hv1 hx1
      gi_wp2_with (gi_at_builtin; refine wpListIn_append_own _ rfl _ _ 55 rfl w.heap.size 2 i0 _ 1 8 Try.underlying55 HI.out HZ0.out HZ1.out HZ2.out rfl (by omega) _ _ _ rfl (hv2.alloc _) ⟨W1.heap.size, 0, none⟩ 1 1 [.int .i64 x.1.1] rfl rfl (news_alloc _ _ _) (by intro u hu; simp at hu; subst hu; rfl) (by unfold maxLen; omega) (by omega) (by have := hB1.size; simp; omega) ?_; intro v' w2 hO' hg' hz'; clear hz'; obtain ⟨g', cap', rfl, hP'⟩ := Own.of_row (f := ic) (l := (pre ++ [x]).map fun x => x.1.1) (by rw [List.map_append, List.flatMap_append]; exact hO') (by simp) (by omega); clear kx; obtain ⟨hy1, hy2, hy3, hy4, hy5⟩ := Boxed.appended (B := w.heap.size + 1 + 1) (t := 55) hx2 (by decide) hv2 hB1.size (by omega) hO' hg'; have ky := hy1.cell; have fy := hy1.frozen)
      have hlP : P < W1.heap.size := by omega
      have hkP : w2.heap[P]? = W1.heap[P]? := (hg'.block P (by simp; omega) hne).trans (Below.heap_alloc W1 _ P hlP)
      have hkS : (w2.setCell ⟨w.heap.size + 1 + 1, 0, none⟩ (.slice (some ⟨g', 0, none⟩) (pre.length + 1) cap')).heap[P]? = W1.heap[P]? := (Below.heap_setCell w2 ⟨w.heap.size + 1 + 1, 0, none⟩ _ P (by show P ≠ w.heap.size + 1 + 1; omega)).trans hkP
      have hsz2 : W1.heap.size ≤ w2.heap.size := Nat.le_trans (by simp) hg'.size
      refine ⟨hy4.from _, ⟨hy5, fun j h1 h2 => by obtain rfl : j = P := (by omega); exact hkS⟩, ⟨⟨_, hy2, ?_⟩, ?_, by simp; omega⟩, hB1.trans hy5⟩
      · unfold IntsO
        rw [List.map_append, List.flatMap_append]
        have e : ((pre.map fun x => x.1.1) ++ [x].map fun x => x.1.1).length = pre.length + 1 := by simp
        rw [e]
        exact hy3
      · unfold BoxAt at hS1 ⊢
        rw [hkS]; exact hS1
    case done =>
      rintro D ys W1 hD rfl ⟨⟨⟨v, hx1, hv1⟩, hS1, hz2⟩, hB1⟩ hK
      obtain ⟨ch, hch⟩ := Option.isSome_iff_exists.1 HI2.out
      have hwl : (walkE rows n s.fi).map (fun x => x.1.1) = chainOf s := by
        rw [HC.out, hch]
        have := walk_chain HWC.out _ _ _ hch
        rw [HN.out] at this
        exact this
      rw [hwl] at hv1
      obtain ⟨A1, c1, rfl, _⟩ := hv1.r
      have kx := hx1.cell
      gi_wp2
      refine ⟨by simp, .inl ⟨_, _, rfl, run_takeDeferred hK, ?_⟩⟩
      refine ⟨_, results_tmp rfl _ _ _, _, rfl, ?_, hB1.trans (belowK_b (w := w) (Nat.le_refl _) W1 D _ _ (by omega) hK rfl rfl)⟩
      exact ownsRow_putObj hv1 _ hK rfl
    case stop =>
      rintro D c pre W1 _ _ h _
      exact h.elim

end Go.Proofs.Ytnebllfmnandgaa

/-
  The walk of ValuesIn of the program.
-/
import Derived.Test.YtnebllfmnandgaaSortC
namespace Go.Proofs.Ytnebllfmnandgaa
open Go.RowKit Go.Shelf
set_option linter.unusedVariables false
attribute [local go_sem] Oper.semAt_some
attribute [local go_sem ↓] Go.wp_at_zero Go.wp_at_succ

/-- The values on ring number z, in the order of their numbers. -/
def valsAt (s : St) (z : Int) : List Int := valsP (sortTo (s.at z).ps (s.at z).ps.length)
def valuesIn (s : St) : List Int := if stOk s then (chainOf s).flatMap (valsAt s) else []
theorem valsAt_len {s : St} (h : stOk s = true) (z : Int) : (valsAt s z).length ≤ 8 := by
  have h1 := valsP_len (sortTo (s.at z).ps (s.at z).ps.length)
  rw [sortTo_len] at h1
  have h2 : (s.at z).ps.length ≤ 8 := by
    unfold St.at
    rw [List.getD_eq_getElem?_getD]
    cases hr : s.rs[z.toNat]? with
    | none => simp
    | some r => exact ((stOk_neat h).2.2 r (List.mem_of_getElem? hr)).2
  unfold valsAt
  omega
theorem flat_vals_len {s : St} (h : stOk s = true) : ∀ l : List Int, (l.flatMap (valsAt s)).length ≤ 8 * l.length
  | [] => by simp
  | z :: l => by
    have h1 := valsAt_len h z
    have h2 := flat_vals_len h l
    simp only [List.flatMap_cons, List.length_append, List.length_cons]
    omega

theorem app_step {W w1 : World} {n₀ B : Nat} {t e : TypeId} {size : Nat} {v v' : Value} {k m : Nat} {xs ys : List Value} (hv : BoxAt W B #[v] t) (hte : t ≠ e) (hrow : W.ownsRow n₀ e size v k xs) (hn₀ : n₀ ≤ W.heap.size) (hB : n₀ ≤ B)
    (hown' : w1.ownsRow n₀ e size v' m ys) (hgrow : W.grownBy w1 v.ownBlock) :
    BoxAt w1 B #[v] t ∧ BoxAt (w1.setCell ⟨B, 0, none⟩ v') B #[v'] t ∧ (w1.setCell ⟨B, 0, none⟩ v').ownsRow n₀ e size v' m ys ∧ KeepsOthers W (w1.setCell ⟨B, 0, none⟩ v') ∧ Below n₀ W (w1.setCell ⟨B, 0, none⟩ v') := by
  have hv0 : Boxed W B t v := hv
  have hv1 : Boxed w1 B t v := hv0.kept hgrow (hv0.not_row hte hrow)
  refine ⟨hv1, hv1.set v', hown'.kept (grownBy_setCell' w1 B v') (.inr (hv1.not_row hte hown').symm), ?_, ?_⟩
  · refine (KeepsOthers.of_grownBy hgrow fun j o ej hj => ?_).trans (KeepsOthers.setCell _ _ _)
    rcases hrow.2 with ⟨rfl, _⟩ | ⟨g, cap, cur, rfl, _, hgb, _⟩
    · simp [Value.ownBlock] at ej
    · obtain rfl : g = j := by simpa [Value.ownBlock] using ej
      rw [hgb] at hj; cases hj; rfl
  · exact (Below.grown (Below.refl _ W) hgrow hn₀ (fun k hk => (hrow.lt k hk).1)).setCell (p := ⟨B, 0, none⟩) hB _

theorem ic_one {l : List Int} : ∀ u ∈ l.flatMap ic, u.oneCell' = true := by
  intro u hu
  obtain ⟨z, _, hz⟩ := List.mem_flatMap.1 hu
  simp [ic] at hz
  subst hz; rfl

/-- Numbers behind numbers. -/
theorem append_ints {W : World} {N M : Nat} {v : Value} {L vs : List Int} {g c q m : Nat} (hv : IntsO N W v L) (hs : IntsO M W (.slice (some ⟨g, 0, none⟩) m c) vs) (hq : L.length = q) (hm : vs.length = m) (hb : q + m ≤ 100000) (hN : N ≤ W.heap.size) :
    ∃ A' c' w3, (Builtin.append_ #[55, 55] 55 #[v, .slice (some ⟨g, 0, none⟩) m c]).run Try.prog W = .ok (.slice A' (q + m) c') w3 ∧ IntsO N w3 (.slice A' (q + m) c') (L ++ vs) ∧ W.grownBy w3 v.ownBlock := by
  obtain ⟨i0, hi0, hz0, hz1, hz2⟩ := info_parts int_info
  subst hq hm
  obtain ⟨v', w3, hr, ho, hg, _⟩ := run_append_own (P := Try.prog) W N 55 55 2 i0 _ 1 8 Try.underlying55 hi0 hz0 hz1 hz2 rfl (by omega) v L.length _ hv ⟨g, 0, none⟩ vs.length c (vs.flatMap ic) (by rw [flat_len ic 1 ic_len]) (World.ownsRow.cells hs rfl) ic_one (by unfold maxLen; omega) (by omega) hN
  have hI : IntsO N w3 v' (L ++ vs) := by
    unfold IntsO
    rw [List.length_append, List.flatMap_append]
    exact ho
  obtain ⟨A', c', e, _⟩ := hI.r
  rw [List.length_append] at e
  subst e
  exact ⟨A', c', w3, hr, hI, hg⟩

theorem op_append {F : Fence} {n : Nat} {o : Oper} {ac : Act} {w w' : World} {K : Act → World → Prop} {Q : Exit → Act → World → Prop} {v u v' : Value} {s x : Nat} (ho : o.op = .call { callee := .builtin .append, args := #[.tmp s, .tmp x], argTypes := #[55, 55] }) (hty : o.type = 55) (hs : ac.eval (.tmp s) = v) (hx : ac.eval (.tmp x) = u)
    (hr : (Builtin.append_ #[55, 55] 55 #[v, u]).run Try.prog w = .ok v' w') (h : K (ac.put o.dst v') w') : o.wpIn F n Try.prog ac w K Q := by
  unfold Oper.wpIn
  refine ⟨by simp [Oper.about, ho, resolve, Target.leads, Sem.run_pure], ?_⟩
  rw [Oper.semAt_plain F _ _ (by rw [ho]; intro c hc'; cases hc')]
  simp [execOp, ho, resolve, invoke, builtin, hs, hx, hty, hr, Result.andThen]
  exact h

set_option maxRecDepth 100000 in
set_option maxHeartbeats 8000000 in
theorem ivaluesIn_any (s : St) (A : Option Addr) (n cap : Nat) (lo hi : Nat) (w : World) (hr : RgsW lo hi w A n cap s.rs) (hh : hi ≤ w.heap.size) (hn2 : n ≤ 1048576) (hm : ∀ r ∈ s.rs, r.ps.length ≤ 1048576) :
    Calls Try.prog 36 #[stV s A n cap] w (RetInts (valuesIn s) w) := by
  obtain ⟨i0, hi0, hz0, hz1, hz2⟩ := info_parts int_info
  have HI := Lib.hid hi0
  have HZ0 := Lib.hid hz0
  have HZ1 := Lib.hid hz1
  have HZ2 := Lib.hid hz2
  clear hi0 hz0 hz1 hz2
  have HM := Lib.hid hm; clear hm
  have HN := Lib.hid hr.1
  unfold stV
  refine (callsIn_wide (n := 3)).1 ?_
  refine callsIn_of_wp_marks Try.func36 rfl trivial ?_ rfl
  simp only [Try.ntmps36, List.size_toArray, List.length_cons, List.length_nil, Nat.reduceAdd, Nat.reduceSub, Array.replicate_succ, Array.replicate_zero, List.push_toArray, List.append_toArray, List.nil_append, List.cons_append]
  gi_wp2_with fail
  refine ⟨trivial, ?_⟩
  refine callsIn_abs (fun W => Below w.heap.size w W ∧ W.heap.size = w.heap.size + 3 ∧ BoxAt W w.heap.size (sC s A n cap) 47 ∧ BoxAt W (w.heap.size + 1 + 1) #[.slice (some ⟨w.heap.size + 1, 0, none⟩) 0 0] 55 ∧ IntsO w.heap.size W (.slice (some ⟨w.heap.size + 1, 0, none⟩) 0 0) []) ?_ ?_
  · refine ⟨(((Below.refl _ _).alloc (Nat.le_refl _) _).alloc (by simp) _).alloc (by simp; omega) _, by simp, ((BoxAt.new _ _ _).alloc _).alloc _, BoxAt.new' (by simp), ?_⟩
    exact (ints_made (by simp) (by simp)).below ((Below.refl _ _).alloc (Nat.le_refl _) _)
  rintro W ⟨hB, hsz, hs, hx, hv⟩
  have hS : SameIn lo hi w W := fun j _ hj => hB.block j (by omega)
  refine (callsIn_wide.2 (istoreOk_any s A n cap lo hi _ (hr.keep hS) (by omega) hn2 HM.out)).mono ?_
  rintro e w1 ⟨rfl, hb1⟩
  have hz1 : w.heap.size + 3 ≤ w1.heap.size := by have := hb1.size; omega
  replace hs := hs.below hb1 hs.lt
  replace hx := hx.below hb1 hx.lt
  replace hv := hv.below hb1
  replace hB := bstep hB hB.size hb1
  clear hb1 hS hsz
  have ks := hs.cell
  unfold sC at ks
  have kx := hx.cell
  cases hok : stOk s
  · have HC := Lib.hid (show valuesIn s = [] by simp [valuesIn, hok])
    gi_wp2
    refine ⟨_, results_tmp rfl _ _ _, _, rfl, ?_, hB⟩
    rw [HC.out]
    exact hv
  · have HX := Lib.hid (stOk_x hok)
    have HF := Lib.hid (stOk_fi hok)
    have HI2 := Lib.hid (stOk_chainF hok)
    have HNE := Lib.hid (stOk_neat hok)
    have HOK := Lib.hid hok
    have HC := Lib.hid (show valuesIn s = (chainOf s).flatMap (valsAt s) by simp [valuesIn, hok])
    have HC2 := Lib.hid (show chainOf s = (chain s.rs s.rs.length s.fi).getD [] by simp [chainOf, hok])
    clear hok
    gi_wp2_with fail
    refine ⟨trivial, ?_⟩
    refine (callsIn_wide.2 (ringsFrom_any s _ n cap _ _)).mono ?_
    rintro e w' ⟨rfl, rfl⟩
    gi_wp2
    clear ks kx
    have hpos : 0 < n := by have := HF.out; have := HN.out; omega
    have h16 : n ≤ 16 := by have := HNE.out.2.1; have := HN.out; omega
    obtain ⟨b, rows, rfl, hbh, hO, hA⟩ := hr.2 hpos
    have hbw : b < w.heap.size := by omega
    obtain ⟨P, hP⟩ : ∃ P, w1.heap.size = P := ⟨_, rfl⟩
    obtain ⟨W0, hW0⟩ : ∃ W0, (w1.alloc (.cells (sC s (some ⟨b, 0, none⟩) n cap) 47)).alloc (.cells #[.int .i64 s.fi] 2) = W0 := ⟨_, rfl⟩
    have hs0 : W0.heap.size = P + 2 := by rw [← hW0]; simp; omega
    have hB0 : Below w.heap.size w W0 := by rw [← hW0]; exact (hB.alloc (by omega) _).alloc (by simp; omega) _
    have hx0 : BoxAt W0 (w.heap.size + 1 + 1) #[.slice (some ⟨w.heap.size + 1, 0, none⟩) 0 0] 55 := by rw [← hW0]; exact (hx.alloc _).alloc _
    have hS0 : BoxAt W0 P (sC s (some ⟨b, 0, none⟩) n cap) 47 := by rw [← hW0]; exact (BoxAt.new' hP.symm).alloc _
    have hR0 : BoxAt W0 (P + 1) #[.int .i64 s.fi] 2 := by rw [← hW0]; exact BoxAt.new' (by simp; omega)
    have hv0 : IntsO w.heap.size W0 (.slice (some ⟨w.heap.size + 1, 0, none⟩) 0 0) [] := by rw [← hW0]; exact hv.below (((Below.refl _ _).alloc (Nat.le_refl _) _).alloc (by simp) _)
    have hO0 : RwsO lo W0 b n cap rows := Own.keep hO (hB0.block b hbw)
    have HWC := Lib.hid (rows_x (hO.1.trans HN.out.symm) hA)
    have hrl : rows.length = n := hO.1
    rw [hW0, hP]
    rw [hP] at hz1
    clear hW0 hx hB hs hv hP
    refine wpIn_rangeFunc_ownH rfl (by omega) (gf := 82) (lb := #[.pointer (some ⟨P + 1, 0, none⟩), .pointer (some ⟨P, 0, none⟩)]) rfl trivial (enters_of Try.func82 (by kernel_rfl) rfl)
      (ringsFrom_stops 2 P (P + 1) w.heap.size P (P + 1) lo b n cap s rows s.fi (by omega) HN.out hn2 W0 hS0 hR0 hO0 hbw (by omega) (by omega)) kpI_t (kpI_b (by omega) (by omega)) (Below.refl _ _) (fun _ => rfl)
      (fun pre W' => ((∃ v, BoxAt W' (w.heap.size + 1 + 1) #[v] 55 ∧ IntsO w.heap.size W' v ((pre.map fun x => x.1.1).flatMap (valsAt s))) ∧ (BoxAt W' P (sC s (some ⟨b, 0, none⟩) n cap) 47 ∧ P + 2 ≤ W'.heap.size)) ∧ Below w.heap.size w W')
      (fun _ _ _ => False)
      (OwnFrom.and (OwnFrom.and (fun pre X Y row hs hg hr => by
          obtain ⟨v, h1, h2⟩ := hs
          refine ⟨v, boxAt_own W0.heap.size _ (fun (_ : Unit) => #[v]) _ () X Y row h1 hg hr, h2.1, ?_⟩
          rcases h2.2 with h' | ⟨g, cp, cur, hv, hgN, hbx, hrr⟩
          · exact .inl h'
          · exact .inr ⟨g, cp, cur, hv, hgN, boxAt_own W0.heap.size g (fun (_ : Unit) => cur) _ () X Y row hbx hg hr, hrr⟩) (OwnFrom.and (boxAt_own _ _ (fun _ => _) _) ownFrom_size)) (ownFrom_below (Nat.le_refl _) (by omega)))
      (fun _ _ _ _ _ hs _ _ => hs)
      ⟨⟨⟨_, hx0, hv0⟩, hS0, by omega⟩, hB0⟩
      (fun x a' W' => ∃ Bx, P + 2 ≤ Bx ∧ BoxAt W' Bx (rwC x.1.2) 27 ∧ a' = { tmps := #[.agg #[.int .i64 s.rd, .int .i64 s.mo, .slice (some ⟨b, 0, none⟩) n cap, .int .i64 s.fi, .int .i64 s.la], .pointer (some ⟨w.heap.size, 0, none⟩), .slice none 0 0, .pointer (some ⟨w.heap.size + 1 + 1, 0, none⟩), undef, .pointer (some ⟨Bx, 0, none⟩), .slice (some ⟨w.heap.size + 1, 0, none⟩) 0 0, .agg #[.int .i64 s.rd, .int .i64 s.mo, .slice (some ⟨b, 0, none⟩) n cap, .int .i64 s.fi, .int .i64 s.la], .bool true, .bool false, undef, .agg #[.int .i64 s.rd, .int .i64 s.mo, .slice (some ⟨b, 0, none⟩) n cap, .int .i64 s.fi, .int .i64 s.la], .pointer (some ⟨w.heap.size, 3, none⟩), .int .i64 s.fi, .func (.func 82) #[] #[.pointer (some ⟨P + 1, 0, none⟩), .pointer (some ⟨P, 0, none⟩)], .int .i64 x.1.1, .agg (rwC x.1.2), undef, undef, undef, undef, undef], defers := [] })
      (fun x a' _ X Y row hs hg hr => by obtain ⟨Bx, h0, h1, h2⟩ := hs; exact ⟨Bx, h0, boxAt_own W0.heap.size Bx (fun (_ : Unit) => rwC x.1.2) 27 () X Y row h1 hg hr, h2⟩)
      ?assign ?body ?done ?stop
    case assign =>
      rintro l pre x W1 K ⟨⟨⟨v, hx1, hv1⟩, hS1, hz2⟩, hB1⟩ hK
      unfold elV rwC
      gi_wp2
      exact hK _ _ ((KeepsOthers.alloc _ _).from _) ⟨(Below.refl _ W1).alloc hB1.size _, .alloc (by omega) _⟩ ⟨⟨⟨v, hx1.alloc _, hv1.below ((Below.refl _ _).alloc (Nat.le_refl _) _)⟩, hS1.alloc _, by simp; omega⟩, hB1.alloc hB1.size _⟩ ⟨W1.heap.size, hz2, BoxAt.new _ _ _, rfl⟩
    case body =>
      rintro l pre x a' W1 _ _ ⟨⟨⟨v, hx1, hv1⟩, hS1, hz2⟩, hB1⟩ ⟨Bx, hBx, bX, rfl⟩ hlt
      obtain ⟨⟨z, a⟩, hz0, hra⟩ := x
      dsimp only at hz0 hra bX
      obtain ⟨r, hri, e1, e2, e3, e4, hp⟩ := hA _ _ hra
      have hpr := hp.keep (w' := W1) (fun j _ hj => hB1.block j (by omega))
      have hr8 := HNE.out.2.2 r (List.mem_of_getElem? hri)
      have hpn : r.ps.length = a.n := hp.1
      have h0 : 0 < a.n := by omega
      have h8 : a.n ≤ 8 := by omega
      have HVA := Lib.hid (show valsAt s z = valsP (sortTo r.ps a.n) by unfold valsAt; rw [St.at_some hri, hpn])
      have hva8 : (valsP (sortTo r.ps a.n)).length ≤ 8 := by rw [← HVA.out]; exact valsAt_len HOK.out z
      clear hpn hri e1 e2 e3 e4 hp hr8
      obtain ⟨L0, hL0⟩ : ∃ L0, (pre.map fun x => x.1.1).flatMap (valsAt s) = L0 := ⟨_, rfl⟩
      have hL8 : L0.length ≤ 128 := by
        have := flat_vals_len HOK.out (pre.map fun x => x.1.1)
        rw [hL0, List.length_map] at this
        omega
      rw [hL0] at hv1
      have HL0 := Lib.hid hL0; clear hL0
      obtain ⟨A1, c1, rfl, _⟩ := hv1.r
      obtain ⟨q0, hq0⟩ : ∃ q0, L0.length = q0 := ⟨_, rfl⟩
      rw [hq0] at hv1 hx1 hL8
      have HQ0 := Lib.hid hq0; clear hq0
      have hne : some P ≠ (Value.slice A1 q0 c1).ownBlock := ints_not hv1 hS1 (by decide)
      have hcon := fun W' (h : PlsW lo hi W' a.A a.n a.cap r.ps) => valuesOn_any a r.ps lo hi W' h h0 h8
      obtain ⟨vs, hvs⟩ : ∃ vs, valsP (sortTo r.ps a.n) = vs := ⟨_, rfl⟩
      rw [hvs] at hva8 hcon
      have HVS := Lib.hid (HVA.out.trans hvs)
      obtain ⟨m, hm⟩ : ∃ m, vs.length = m := ⟨_, rfl⟩
      unfold RetIntsS at hcon
      rw [hm] at hva8 hcon
      have HM2 := Lib.hid hm
      clear hvs hm HVA
      have HCON := Lib.hid hcon; clear hcon
      have hmix : Try.prog.follows .mixedOrders = true := by kernel_rfl
      have kx := hx1.cell
      have kX := bX.cell
      unfold rwC at kX
      gi_wp2
      refine wpIn_region_any hmix ?_
      change wpAnyIn _ _ _ _ _ _ _ _ _ (World.drew _)
      refine wpAnyIn_ready (rs := [0, 1]) (by kernel_rfl) (by simp) ?_
      refine AllReadyIn.cons rfl (fun K hK => ?_) ?_
      · go_simp
        refine hK _ _ ?_
        clear hK K
        refine wpAnyIn_ready (rs := [1]) (by kernel_rfl) (by simp) ?_
        refine AllReadyIn.cons rfl (fun K hK => ?_) ?_
        · go_simp
          refine hK _ _ ?_
          clear hK K
          refine wpAnyIn_ready (rs := [2]) (by kernel_rfl) (by simp) ?_
          refine AllReadyIn.cons rfl (fun K hK => ?_) ?_
          · go_simp
            refine ⟨trivial, ?_⟩
            refine (CallsIn.inRound l (callsIn_wide.2 (HCON.out W1.drew (show PlsW lo hi W1.drew a.A a.n a.cap r.ps from hpr)))).mono ?_
            rintro e w2 ⟨g2, c2, rfl, hI2, hb2⟩
            have hv2 : IntsO w.heap.size w2 (.slice A1 q0 c1) L0 := IntsO.below (w := W1.drew) hv1 hb2
            have hx2 : BoxAt w2 (w.heap.size + 1 + 1) #[.slice A1 q0 c1] 55 := BoxAt.below (W := W1.drew) hb2 hx1.lt hx1
            have hw12 : w.heap.size ≤ w2.heap.size := Nat.le_trans hB1.size hb2.size
            clear kx kX
            have kx := hx2.cell
            refine hK _ _ ?_
            clear hK K
            refine wpAnyIn_ready (rs := [3]) (by kernel_rfl) (by simp) ?_
            refine AllReadyIn.cons rfl (fun K hK => ?_) ?_
            · obtain ⟨A3, c3, w3, hrun, hv3, hg3⟩ := append_ints hv2 hI2 HQ0.out HM2.out (by omega) hw12
              obtain ⟨hy1, hy2, hy3, hy4, hy5⟩ := app_step hx2 (by decide) (ints_row hv2 HQ0.out) hw12 (by omega) (ints_row hv3 (by rw [List.length_append, HQ0.out, HM2.out])) hg3
              clear kx
              have ky := hy1.cell
              have fy := hy1.frozen
              refine op_append (s := 17) (x := 19) rfl rfl rfl rfl hrun ?_
              refine hK _ _ ?_
              clear hK K
              refine wpAnyIn_ready (rs := [4]) (by kernel_rfl) (by simp) ?_
              refine AllReadyIn.cons rfl (fun K hK => ?_) ?_
              · go_simp
                refine hK _ _ ?_
                clear hK K
                refine wpAnyIn_done (by kernel_rfl) ?_ _
                have hlP : P < W1.heap.size := by omega
                have hk2 : w2.heap[P]? = W1.heap[P]? := hb2.block P hlP
                have hk3 : w3.heap[P]? = W1.heap[P]? := (hg3.block P (Nat.lt_of_lt_of_le hlP hb2.size) hne).trans hk2
                have hkS : (w3.setCell ⟨w.heap.size + 1 + 1, 0, none⟩ (.slice A3 (q0 + m) c3)).heap[P]? = W1.heap[P]? := (Below.heap_setCell w3 ⟨w.heap.size + 1 + 1, 0, none⟩ _ P (by show P ≠ w.heap.size + 1 + 1; omega)).trans hk3
                have hsz3 : W1.heap.size ≤ w3.heap.size := Nat.le_trans hb2.size hg3.size
                have hKO : KeepsFrom W0.heap.size W1 w2 := ⟨hb2.size, fun k o _ hk _ => (hb2.block k (Array.getElem?_eq_some_iff.1 hk).1).trans hk⟩
                have hB2 : Below w.heap.size W1 w2 := ⟨hb2.os, hb2.tape, hb2.output, hb2.size, fun j hj => hb2.block j (Nat.lt_of_lt_of_le hj hB1.size)⟩
                refine ⟨hKO.trans (hy4.from _), ⟨hB2.trans hy5, fun j h1 h2 => by obtain rfl : j = P := (by omega); exact hkS⟩, ⟨⟨_, hy2, ?_⟩, ?_, by simp; omega⟩, hB1.trans (hB2.trans hy5)⟩
                · have e : (((pre ++ [(⟨(z, a), hz0, hra⟩ : El rows)]).map fun (x : El rows) => x.1.1).flatMap (valsAt s)) = L0 ++ vs := by
                    rw [List.map_append, List.flatMap_append, HL0.out]
                    simp [HVS.out]
                  rw [e]
                  unfold IntsO
                  rw [List.length_append, HQ0.out, HM2.out]
                  exact hy3
                · unfold BoxAt at hS1 ⊢
                  rw [hkS]; exact hS1
              exact AllReadyIn.nil
            exact AllReadyIn.nil
          exact AllReadyIn.nil
        exact AllReadyIn.nil
      refine AllReadyIn.cons rfl (fun K hK => ?_) ?_
      · go_simp
        refine hK _ _ ?_
        clear hK K
        refine wpAnyIn_ready (rs := [0, 2]) (by kernel_rfl) (by simp) ?_
        refine AllReadyIn.cons rfl (fun K hK => ?_) ?_
        · go_simp
          refine hK _ _ ?_
          clear hK K
          refine wpAnyIn_ready (rs := [2]) (by kernel_rfl) (by simp) ?_
          refine AllReadyIn.cons rfl (fun K hK => ?_) ?_
          · go_simp
            refine ⟨trivial, ?_⟩
            refine (CallsIn.inRound l (callsIn_wide.2 (HCON.out W1.drew (show PlsW lo hi W1.drew a.A a.n a.cap r.ps from hpr)))).mono ?_
            rintro e w2 ⟨g2, c2, rfl, hI2, hb2⟩
            have hv2 : IntsO w.heap.size w2 (.slice A1 q0 c1) L0 := IntsO.below (w := W1.drew) hv1 hb2
            have hx2 : BoxAt w2 (w.heap.size + 1 + 1) #[.slice A1 q0 c1] 55 := BoxAt.below (W := W1.drew) hb2 hx1.lt hx1
            have hw12 : w.heap.size ≤ w2.heap.size := Nat.le_trans hB1.size hb2.size
            clear kx kX
            have kx := hx2.cell
            refine hK _ _ ?_
            clear hK K
            refine wpAnyIn_ready (rs := [3]) (by kernel_rfl) (by simp) ?_
            refine AllReadyIn.cons rfl (fun K hK => ?_) ?_
            · obtain ⟨A3, c3, w3, hrun, hv3, hg3⟩ := append_ints hv2 hI2 HQ0.out HM2.out (by omega) hw12
              obtain ⟨hy1, hy2, hy3, hy4, hy5⟩ := app_step hx2 (by decide) (ints_row hv2 HQ0.out) hw12 (by omega) (ints_row hv3 (by rw [List.length_append, HQ0.out, HM2.out])) hg3
              clear kx
              have ky := hy1.cell
              have fy := hy1.frozen
              refine op_append (s := 17) (x := 19) rfl rfl rfl rfl hrun ?_
              refine hK _ _ ?_
              clear hK K
              refine wpAnyIn_ready (rs := [4]) (by kernel_rfl) (by simp) ?_
              refine AllReadyIn.cons rfl (fun K hK => ?_) ?_
              · go_simp
                refine hK _ _ ?_
                clear hK K
                refine wpAnyIn_done (by kernel_rfl) ?_ _
                have hlP : P < W1.heap.size := by omega
                have hk2 : w2.heap[P]? = W1.heap[P]? := hb2.block P hlP
                have hk3 : w3.heap[P]? = W1.heap[P]? := (hg3.block P (Nat.lt_of_lt_of_le hlP hb2.size) hne).trans hk2
                have hkS : (w3.setCell ⟨w.heap.size + 1 + 1, 0, none⟩ (.slice A3 (q0 + m) c3)).heap[P]? = W1.heap[P]? := (Below.heap_setCell w3 ⟨w.heap.size + 1 + 1, 0, none⟩ _ P (by show P ≠ w.heap.size + 1 + 1; omega)).trans hk3
                have hsz3 : W1.heap.size ≤ w3.heap.size := Nat.le_trans hb2.size hg3.size
                have hKO : KeepsFrom W0.heap.size W1 w2 := ⟨hb2.size, fun k o _ hk _ => (hb2.block k (Array.getElem?_eq_some_iff.1 hk).1).trans hk⟩
                have hB2 : Below w.heap.size W1 w2 := ⟨hb2.os, hb2.tape, hb2.output, hb2.size, fun j hj => hb2.block j (Nat.lt_of_lt_of_le hj hB1.size)⟩
                refine ⟨hKO.trans (hy4.from _), ⟨hB2.trans hy5, fun j h1 h2 => by obtain rfl : j = P := (by omega); exact hkS⟩, ⟨⟨_, hy2, ?_⟩, ?_, by simp; omega⟩, hB1.trans (hB2.trans hy5)⟩
                · have e : (((pre ++ [(⟨(z, a), hz0, hra⟩ : El rows)]).map fun (x : El rows) => x.1.1).flatMap (valsAt s)) = L0 ++ vs := by
                    rw [List.map_append, List.flatMap_append, HL0.out]
                    simp [HVS.out]
                  rw [e]
                  unfold IntsO
                  rw [List.length_append, HQ0.out, HM2.out]
                  exact hy3
                · unfold BoxAt at hS1 ⊢
                  rw [hkS]; exact hS1
              exact AllReadyIn.nil
            exact AllReadyIn.nil
          exact AllReadyIn.nil
        refine AllReadyIn.cons rfl (fun K hK => ?_) ?_
        · go_simp
          refine ⟨trivial, ?_⟩
          refine (CallsIn.inRound l (callsIn_wide.2 (HCON.out W1.drew (show PlsW lo hi W1.drew a.A a.n a.cap r.ps from hpr)))).mono ?_
          rintro e w2 ⟨g2, c2, rfl, hI2, hb2⟩
          have hv2 : IntsO w.heap.size w2 (.slice A1 q0 c1) L0 := IntsO.below (w := W1.drew) hv1 hb2
          have hx2 : BoxAt w2 (w.heap.size + 1 + 1) #[.slice A1 q0 c1] 55 := BoxAt.below (W := W1.drew) hb2 hx1.lt hx1
          have hw12 : w.heap.size ≤ w2.heap.size := Nat.le_trans hB1.size hb2.size
          clear kx kX
          have kx := hx2.cell
          refine hK _ _ ?_
          clear hK K
          refine wpAnyIn_ready (rs := [0]) (by kernel_rfl) (by simp) ?_
          refine AllReadyIn.cons rfl (fun K hK => ?_) ?_
          · go_simp
            refine hK _ _ ?_
            clear hK K
            refine wpAnyIn_ready (rs := [3]) (by kernel_rfl) (by simp) ?_
            refine AllReadyIn.cons rfl (fun K hK => ?_) ?_
            · obtain ⟨A3, c3, w3, hrun, hv3, hg3⟩ := append_ints hv2 hI2 HQ0.out HM2.out (by omega) hw12
              obtain ⟨hy1, hy2, hy3, hy4, hy5⟩ := app_step hx2 (by decide) (ints_row hv2 HQ0.out) hw12 (by omega) (ints_row hv3 (by rw [List.length_append, HQ0.out, HM2.out])) hg3
              clear kx
              have ky := hy1.cell
              have fy := hy1.frozen
              refine op_append (s := 17) (x := 19) rfl rfl rfl rfl hrun ?_
              refine hK _ _ ?_
              clear hK K
              refine wpAnyIn_ready (rs := [4]) (by kernel_rfl) (by simp) ?_
              refine AllReadyIn.cons rfl (fun K hK => ?_) ?_
              · go_simp
                refine hK _ _ ?_
                clear hK K
                refine wpAnyIn_done (by kernel_rfl) ?_ _
                have hlP : P < W1.heap.size := by omega
                have hk2 : w2.heap[P]? = W1.heap[P]? := hb2.block P hlP
                have hk3 : w3.heap[P]? = W1.heap[P]? := (hg3.block P (Nat.lt_of_lt_of_le hlP hb2.size) hne).trans hk2
                have hkS : (w3.setCell ⟨w.heap.size + 1 + 1, 0, none⟩ (.slice A3 (q0 + m) c3)).heap[P]? = W1.heap[P]? := (Below.heap_setCell w3 ⟨w.heap.size + 1 + 1, 0, none⟩ _ P (by show P ≠ w.heap.size + 1 + 1; omega)).trans hk3
                have hsz3 : W1.heap.size ≤ w3.heap.size := Nat.le_trans hb2.size hg3.size
                have hKO : KeepsFrom W0.heap.size W1 w2 := ⟨hb2.size, fun k o _ hk _ => (hb2.block k (Array.getElem?_eq_some_iff.1 hk).1).trans hk⟩
                have hB2 : Below w.heap.size W1 w2 := ⟨hb2.os, hb2.tape, hb2.output, hb2.size, fun j hj => hb2.block j (Nat.lt_of_lt_of_le hj hB1.size)⟩
                refine ⟨hKO.trans (hy4.from _), ⟨hB2.trans hy5, fun j h1 h2 => by obtain rfl : j = P := (by omega); exact hkS⟩, ⟨⟨_, hy2, ?_⟩, ?_, by simp; omega⟩, hB1.trans (hB2.trans hy5)⟩
                · have e : (((pre ++ [(⟨(z, a), hz0, hra⟩ : El rows)]).map fun (x : El rows) => x.1.1).flatMap (valsAt s)) = L0 ++ vs := by
                    rw [List.map_append, List.flatMap_append, HL0.out]
                    simp [HVS.out]
                  rw [e]
                  unfold IntsO
                  rw [List.length_append, HQ0.out, HM2.out]
                  exact hy3
                · unfold BoxAt at hS1 ⊢
                  rw [hkS]; exact hS1
              exact AllReadyIn.nil
            exact AllReadyIn.nil
          exact AllReadyIn.nil
        exact AllReadyIn.nil
      exact AllReadyIn.nil
    case done =>
      rintro D ys W1 hD rfl ⟨⟨⟨v, hx1, hv1⟩, hS1, hz2⟩, hB1⟩ hK
      obtain ⟨ch, hch⟩ := Option.isSome_iff_exists.1 HI2.out
      have hwl : (walkE rows n s.fi).map (fun x => x.1.1) = chainOf s := by
        rw [HC2.out, hch]
        have := walk_chain HWC.out _ _ _ hch
        rw [HN.out] at this
        exact this
      rw [hwl, ← HC.out] at hv1
      obtain ⟨A1, c1, rfl, _⟩ := hv1.r
      have kx := hx1.cell
      gi_wp2
      refine ⟨by simp, .inl ⟨_, _, rfl, run_takeDeferred hK, ?_⟩⟩
      refine ⟨_, results_tmp rfl _ _ _, _, rfl, ?_, hB1.trans (belowK_b (w := w) (Nat.le_refl _) W1 D _ _ (by omega) hK rfl rfl)⟩
      exact ownsRow_putObj hv1 _ hK rfl
    case stop =>
      rintro D c pre W1 _ _ h _
      exact h.elim

end Go.Proofs.Ytnebllfmnandgaa

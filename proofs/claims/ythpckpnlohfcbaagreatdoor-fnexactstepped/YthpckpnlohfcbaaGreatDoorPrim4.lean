/-
 The walks of Swapped and SwapPlace of the model.
-/
import Derived.Test.YthpckpnlohfcbaaGreatDoorPrim3
import Derived.Test.YthpckpnlohfcbaaGreatDoorGrowB
namespace Go.Proofs.YthpckpnlohfcbaaGreatDoor
set_option linter.unusedSimpArgs false
set_option linter.unusedVariables false
open Go.RowKit
set_option linter.unusedVariables false
attribute [local go_sem] OpUpon
attribute [local go_sem ↓] Go.wp_at_zero Go.wp_at_succ
theorem zprim40 {p : Prop} (h : p := by
 clear hw hcl hL hC
 refine OpGoes.go fun K hK => ?_
 go_simp
 exact hK _ _ ⟨rfl, rfl⟩) : p := h -- ee92c020
theorem zprim41 {p : Prop} (h : p := by
 have kz := hz.cell
 have fz := hz.frozen
 have ko := ho.cell
 have hG := hC.rgs hR HLN.out
 have hBs := hB.size
 go_wp2
 refine bodyPost_ret (v := .tuple #[stV s (some ⟨b1, 0, none⟩) n c1, .bool false]) (by simp [results, Tryz.results73, go_sem, kz, stV]) rfl ⟨some ⟨b1, 0, none⟩, n, c1, by rw [HV.out], ?_, ?_⟩
 ·
  rw [HV.out]
  exact ((((((hG.sl).sl).sl).sl).sl)).mono (by omega) (by simp)
 · exact (sc (sc (sc (sc (sc hB)))))) : p := h -- a3772a67
theorem zprim42 {p : Prop} (h : p := by
 simp only [List.setIfInBounds_toArray, List.set_cons_zero, List.set_cons_succ] at hset
 refine hK _ _ ⟨⟨(sc (sc (sc (sc hB)))), ((((hx.sn).sn).sn).sn), ((((hz.sn).sn).sn).sn), ((((ho.sn).sn).sn).sn), (Own.set_ne (Own.set_ne (Own.set_ne (Own.set_ne hR (by omega) _ _) (by omega) _ _) (by omega) _ _) (by omega) _ _), (CopyOf.st_new (CopyOf.st_new (CopyOf.st_new (CopyOf.st_new hC HCL.out (by omega) _ _) HCL.out (by omega) _ _) HCL.out (by omega) _ _) HCL.out (by omega) _ _), ((((hp.sn).sn).sn).sn), ((((hq.sn).sn).sn).sn), ((((hc.sn).sn).sn).sn), ((((he.sn).sn).sn).sn), (size_st (size_st (size_st (size_st hM))))⟩, ⟨g15, e15, hg15, hset⟩, by simp, keepV ?_⟩
 exact ⟨fun _ _ _ => ⟨g15, e15, hg15, _, _, _, _, hset⟩, fun h => absurd rfl h, trivial⟩) : p := h -- 90cc4685
theorem zprim43 {p : Prop} (h : p := by
 go_light
 intro L σ W' hcl hL hC hw
 clear hw
 have HC := Lib.hid hC
 clear hC
 clear hcl hL
 refine OpGoes.go fun K hK => ?_
 go_simp
 obtain ⟨hB, hx, hz, ho, hR, hC, hp, hq, hc, he, hM⟩ := HC.out
 have hb1 : Below W'.heap.size W' (W'.alloc (.cells #[.bool false, .int .i64 0, .bool false, .int .i64 0] 33)) := (Below.refl _ _).alloc (Nat.le_refl _) _
 exact hK _ _ ⟨⟨bstep hB hB.size hb1, hx.below hb1 hx.lt, hz.below hb1 hz.lt, ho.below hb1 ho.lt, Own.below hR hb1, hC.below hb1, hp.below hb1 hp.lt, hq.below hb1 hq.lt, hc.below hb1, he.below hb1, Nat.le_trans hM hb1.size⟩, ⟨_, rfl, hM, _, _, _, _, BoxAt.new _ _ _⟩, hb1, rfl, by simp⟩) : p := h -- 680aa2e9
theorem zprim44 {p : Prop} (h : p := by
 intro σ L W' hall hC hRR
 obtain ⟨hB, hx, hz, ho, hR, hC, hp, hq, hc, he, hM⟩ := hC
 obtain ⟨g15, e15, hg16, s16⟩ := dE hRR 16 rfl
 have e17 := dV hRR 17 rfl
 clear hRR
 simp only [lexAll]
 go_simp
 go_step
 go_meet
 exact ⟨hB, hx, hz, ho, hR, hC, hp, hq, hc, he, g15, rfl, hg16, s16, rfl⟩) : p := h -- f5ff61c7
theorem zprim45 {p : Prop} (h : p := by
 rintro e w1 ⟨rfl, hb1⟩
 exact ⟨_, rfl, hK _ _ ⟨⟨bstep hB hB.size hb1, hx.below hb1 hx.lt, hz.below hb1 hz.lt, ho.below hb1 ho.lt, Own.below hR hb1, hC.below hb1, hp.below hb1 hp.lt, hq.below hb1 hq.lt, hc.below hb1, he.below hb1, Nat.le_trans hM hb1.size⟩, rfl, hb1⟩⟩) : p := h -- 8c999b89
theorem zprim46 {p : Prop} (h : p := by
 intro L L' W' hLL hC
 obtain ⟨hB, hx, hz, ho, hR, hC, hp, hq, hc, he, hM⟩ := hC
 exact ⟨hB, hx, hz, ho, hR, hC, hp, hq, hc, he, hM⟩) : p := h -- 93e0b886

theorem Pl.eqB_iff {p q : Pl} : p.eqB q = true ↔ p = q := by
 cases p; cases q
 simp [Pl.eqB, and_assoc]
set_option maxHeartbeats 400000 in
theorem sswapped_yes (p q y : Pl) (w : World) (h : p.eqB q = true) :
  Calls Tryz.prog 94 #[.agg (cP p), .agg (cP q), .agg (cP y)] w (RetBelow (.tuple #[.agg (cP y), .bool true]) w) := by
 obtain rfl := Pl.eqB_iff.1 h
 clear h
 go_enter Tryz.func94, Tryz.ntmps94
 go_wp2
 refine bodyPost_ret (v := .tuple #[.agg (cP y), .bool true]) (by simp [results, Tryz.results94, go_sem]) rfl ⟨rfl, ?_⟩
 exact ((((Below.refl _ _).alloc (Nat.le_refl _) _).alloc (by simp) _).alloc (by simp; omega) _).alloc (by simp; omega) _
set_option maxHeartbeats 400000 in
theorem sswapped_no (p q y : Pl) (w : World) (h : p.eqB q = false) :
  Calls Tryz.prog 94 #[.agg (cP p), .agg (cP q), .agg (cP y)] w (RetBelow (.tuple #[.agg (cP p), .bool false]) w) := by
 have H := Lib.hid h; clear h
 obtain ⟨a, b, c, d⟩ := p
 obtain ⟨a1, b1, c1, d1⟩ := q
 dsimp only
 go_enter Tryz.func94, Tryz.ntmps94
 go_wp2
 · exact absurd H.out (by simp [Pl.eqB, *])
 all_goals
  refine bodyPost_ret (v := .tuple #[.agg #[a, b, c, d], .bool false]) (by simp [results, Tryz.results94, go_sem, *]) rfl ⟨rfl, ?_⟩
  exact ((((Below.refl _ _).alloc (Nat.le_refl _) _).alloc (by simp) _).alloc (by simp; omega) _).alloc (by simp; omega) _
theorem PlE.below {N : Nat} {w w' : World} {b o : Nat} {p : Pl} (h : PlE N w b o p) (hb : Below w.heap.size w w') : PlE N w' b o p :=
 PlE.kept (N := 0) _ _ _ _ _ (Nat.zero_le _) (.of_below hb) h
theorem PlE.set_ne {N : Nat} {w : World} {b o : Nat} {p : Pl} (h : PlE N w b o p) {k : Nat} (hk : b ≠ k) (i : Nat) (u : Value) : PlE N (w.setCell ⟨k, i, none⟩ u) b o p :=
 have q : ∀ (o' : Nat), (w.setCell ⟨k, i, none⟩ u).cell? ⟨b, o', none⟩ = w.cell? ⟨b, o', none⟩ := fun o' => World.cell?_of_block (Below.heap_setCell w ⟨k, i, none⟩ u b hk)
 ⟨(q _).trans h.1, (q _).trans h.2.1, (q _).trans h.2.2.1, (q _).trans h.2.2.2⟩
theorem PlE.sn {N : Nat} {w : World} {b o : Nat} {p : Pl} (h : PlE N w b o p) {k : Nat} {i : Nat} {u : Value} (hk : b ≠ k := by omega) : PlE N (w.setCell ⟨k, i, none⟩ u) b o p := h.set_ne hk i u
theorem CopyOf.put {lo : Nat} {w : World} {rows : List Rw} {L : List Rg} (h : CopyOf lo w rows L) {i k g : Nat} {a : Rw} {r : Rg} (ha : rows[i]? = some a) (hr : L[i]? = some r) (hg : a.A = some ⟨g, 0, none⟩) (hk : k < a.n) (p : Pl) :
  CopyOf lo (Go.Proofs.YthpckpnlohfcbaaGreatDoor.setCells w g (k * 4) p.cs) rows (L.set i { r with ps := r.ps.set k p }) := by
 have hiL : i < L.length := (List.getElem?_eq_some_iff.1 hr).1
 refine ⟨fun j b hb => ?_, h.2⟩
 obtain ⟨r0, hr0, h1, h2, h3, h4, h5, g0, hg0, ho⟩ := h.1 j b hb
 by_cases hj : i = j
 ·
  subst hj
  obtain rfl : a = b := by rw [ha] at hb; injection hb
  obtain rfl : r = r0 := by rw [hr] at hr0; injection hr0
  obtain rfl : g = g0 := by rw [hg] at hg0; injection hg0 with e; injection e
  exact ⟨_, List.getElem?_set_self hiL, h1, h2, h3, h4, h5, g, hg, Own.setEl ho Pl.cs_len (by omega) hk p⟩
 ·
  refine ⟨r0, by rw [List.getElem?_set_ne hj]; exact hr0, h1, h2, h3, h4, h5, g0, hg0, ?_⟩
  have hne : g0 ≠ g := by
   intro e
   subst e
   exact h.2 j i b a (fun e => hj e.symm) hb ha (by rw [hg0, hg])
  have := (But.setCells p.cs (k * 4) (But.refl g w)).block g0 (Own.lt ho) hne
  exact Own.keep ho this
theorem CopyOf.st_new {lo : Nat} {w : World} {rows : List Rw} {L : List Rg} (h : CopyOf lo w rows L) {k M : Nat} (hl : ∀ (j : Nat) a, rows[j]? = some a → ∃ g, a.A = some ⟨g, 0, none⟩ ∧ g < M) (hk : M ≤ k) (i : Nat) (u : Value) : CopyOf lo (w.setCell ⟨k, i, none⟩ u) rows L :=
 ⟨fun j a ha => by
  obtain ⟨r, hr, h1, h2, h3, h4, h5, g, hg, ho⟩ := h.1 j a ha
  obtain ⟨g', hg', hlt⟩ := hl j a ha
  obtain rfl : g = g' := by rw [hg] at hg'; injection hg' with e; injection e
  exact ⟨r, hr, h1, h2, h3, h4, h5, g, hg, Own.keep ho (Below.heap_setCell w ⟨k, i, none⟩ u g (by show g ≠ k; omega))⟩, h.2⟩
theorem PlsO.ne_boxT {N : Nat} {w : World} {g n cap k : Nat} {l : List Pl} {cs : Array Value} {t : TypeId} (h : PlsO N w g n cap l) (hk : BoxAt w k cs t) (ht : t ≠ 33) : g ≠ k := by
 rintro rfl
 obtain ⟨_, _, _, _, cur, hb, _⟩ := h
 unfold BoxAt at hb hk
 rw [hb] at hk
 injection hk with e
 injection e with _ e
 exact ht e.symm
theorem PlsO.ne_ring {N Q : Nat} {w : World} {g n cap b m c : Nat} {l : List Pl} {rows : List Rw} (h : PlsO N w g n cap l) (hR : RwsO Q w b m c rows) : g ≠ b := by
 rintro rfl
 obtain ⟨_, _, _, _, cur, hb, _⟩ := h
 obtain ⟨_, _, _, _, cur', hb', _⟩ := hR
 unfold BoxAt at hb hb'
 rw [hb] at hb'
 injection hb' with e
 injection e with _ e
 cases e
def swAV (s : St) (N b n cap M pb : Nat) (z at_ : Int) (r : Rg) (n' cap' : Nat) (p seen y : Pl) : List Sl := [.v (.pointer (some ⟨N, 2, none⟩)),
 .v (.slice (some ⟨b, 0, none⟩) n cap),
 .v z,
 .v (.pointer (some ⟨b, z.toNat * 5, none⟩)),
 .v (.pointer (some ⟨b, z.toNat * 5 + 4, none⟩)),
 .v (.slice (some ⟨pb, 0, none⟩) n' cap'),
 .v at_,
 .v (.pointer (some ⟨pb, at_.toNat * 4, none⟩)),
 .v (.agg (cP p)),
 .v (.agg (cP seen)),
 .v (.agg (cP y)),
 .v (.tuple #[.agg (cP y), .bool true]),
 .v (.tuple #[.agg (cP y), .bool true]),
 .v (.agg (cP y)),
 .v (.bool true),
 .e fun σ w => ∃ g15, σ 15 = pT g15 ∧ M ≤ g15 ∧ ∃ x0 x1 x2 x3, BoxAt w g15 #[x0, x1, x2, x3] 33,
 .e fun σ w => ∃ g15, σ 15 = pT g15 ∧ M ≤ g15 ∧ BoxAt w g15 (cP y) 33,
 .v (.bool true)]
def swBV (s : St) (N b n cap M pb : Nat) (z at_ : Int) (r : Rg) (n' cap' : Nat) (p seen y : Pl) : List Sl := [.v (.pointer (some ⟨N, 2, none⟩)),
 .v (.slice (some ⟨b, 0, none⟩) n cap),
 .v z,
 .v (.pointer (some ⟨b, z.toNat * 5, none⟩)),
 .v (.pointer (some ⟨b, z.toNat * 5 + 4, none⟩)),
 .v (.slice (some ⟨pb, 0, none⟩) n' cap'),
 .v at_,
 .v (.pointer (some ⟨pb, at_.toNat * 4, none⟩)),
 .v (.agg (cP p)),
 .v (.agg (cP seen)),
 .v (.agg (cP y)),
 .v (.tuple #[.agg (cP p), .bool false]),
 .v (.tuple #[.agg (cP p), .bool false]),
 .v (.agg (cP p)),
 .v (.bool false),
 .e fun σ w => ∃ g15, σ 15 = pT g15 ∧ M ≤ g15 ∧ ∃ x0 x1 x2 x3, BoxAt w g15 #[x0, x1, x2, x3] 33,
 .e fun σ w => ∃ g15, σ 15 = pT g15 ∧ M ≤ g15 ∧ BoxAt w g15 (cP p) 33,
 .v (.bool false)]
def swCV (s : St) (N O b1 n c1 g1 g15 : Nat) (z at_ : Int) (a : Rw) (r : Rg) (y : Pl) (Q : Nat) (rows : List Rw) : List Sl := [.v (.pointer (some ⟨O, 2, none⟩)),
 .v (.slice (some ⟨b1, 0, none⟩) n c1),
 .v z,
 .v (.pointer (some ⟨b1, z.toNat * 5, none⟩)),
 .v (.pointer (some ⟨b1, z.toNat * 5 + 4, none⟩)),
 .v (.slice (some ⟨g1, 0, none⟩) a.n a.cap),
 .v at_,
 .v (.agg (cP y)),
 .v (.pointer (some ⟨g1, at_.toNat * 4, none⟩)),
 .e fun σ w => CopyOf Q w rows (s.rs.set z.toNat { r with ps := r.ps.set at_.toNat y })]
set_option maxRecDepth 100000 in
set_option maxHeartbeats 4000000 in
theorem sswapPlace_any (s : St) (A : Option Addr) (n cap lo hi : Nat) (z at_ : Int) (seen y : Pl) (w : World) (hs : RgsW lo hi w A n cap s.rs) (hh : hi ≤ w.heap.size) (hm : n ≤ 1048576) (hpn : ∀ r ∈ s.rs, r.ps.length ≤ 1048576) :
  Calls Tryz.prog 73 #[stV s A n cap, z, at_, .agg (cP seen), .agg (cP y)] w (RetSB w.heap.size (swapPlace s z at_ seen y) w) := by
 have HPN := Lib.hid hpn; clear hpn
 have HLN := Lib.hid hs.1
 unfold stV
 go_enter Tryz.func73, Tryz.ntmps73
 go_wp2_with fail
 refine calls_abs (fun W => Below w.heap.size w W ∧ BoxAt W w.heap.size (aS s A n cap) 32 ∧ BoxAt W (w.heap.size + 1 + 1 + 1) zS 32 ∧ BoxAt W (w.heap.size + 1) (cP seen) 33 ∧ BoxAt W (w.heap.size + 1 + 1) (cP y) 33) ⟨(((((Below.refl _ _).alloc (Nat.le_refl _) _).alloc (by simp) _).alloc (by simp; omega) _).alloc (by simp; omega) _), ((((BoxAt.new _ _ _).alloc _).alloc _).alloc _), BoxAt.new' (by simp), ((BoxAt.new' (by simp)).alloc _).alloc _, (BoxAt.new' (by simp)).alloc _⟩ ?_
 rintro W ⟨hB, hx, hz, hp, hq⟩
 refine (sstoreOk_any s A n cap lo hi _ (hs.below hB hh) (Nat.le_trans hh hB.size) hm HPN.out).mono ?_
 rintro e w1 ⟨rfl, hb1⟩
 replace hx := hx.below hb1 hx.lt
 replace hz := hz.below hb1 hz.lt
 replace hp := hp.below hb1 hp.lt
 replace hq := hq.below hb1 hq.lt
 replace hB := bstep hB hB.size hb1
 clear hb1
 cases hok : stOk s
 ·
  have HV := Lib.hid (show swapPlace s z at_ seen y = (.zero, false) by simp [swapPlace, hok])
  have kz := hz.cell
  have fz := hz.frozen
  go_wp2
  refine bodyPost_ret (v := .tuple #[stV .zero none 0 0, .bool false]) (by simp [results, Tryz.results73, go_sem, kz, stV, St.zero]) rfl ⟨none, 0, 0, by rw [HV.out], ?_, ?_⟩
  · rw [HV.out]; exact RgsW.nil
  · exact (sc (sc (sc (sc (sc hB)))))
 have HOK := Lib.hid hok
 have HNT := Lib.hid (stOk_neat hok)
 have hn : 1 ≤ n ∧ n ≤ 16 := by have := HNT.out.1; have := HNT.out.2.1; have := HLN.out; omega
 have kx := hx.cell
 have lz1 := hz.lt
 go_wp2_with fail
 refine (l3Copy_any s A n cap lo hi _ (hs.below hB hh) (Nat.le_trans hh hB.size) hn.1 (by omega) HNT.out.cp).mono ?_
 rintro e w2 ⟨b1, c1, rows, rfl, hR, hC, hb2⟩
 unfold stV
 replace hx := hx.below hb2 hx.lt
 replace hz := hz.below hb2 hz.lt
 replace hp := hp.below hb2 hp.lt
 replace hq := hq.below hb2 hq.lt
 have hQO := hb2.size
 replace hB := bstep hB hB.size hb2
 clear hb2 kx hok
 have lx := hx.lt
 have lz := hz.lt
 have lp := hp.lt
 have lq := hq.lt
 have kx := hx.cell
 have hbO := Own.lt hR
 have hQb := hR.2.1
 go_wp2_with fail
 refine calls_abs (fun W' => Below w.heap.size w W' ∧ BoxAt W' w.heap.size (aS s A n cap) 32 ∧ BoxAt W' (w.heap.size + 1 + 1 + 1) zS 32 ∧ BoxAt W' w2.heap.size (aS s (some ⟨b1, 0, none⟩) n c1) 32 ∧ RwsO w1.heap.size W' b1 n c1 rows ∧ CopyOf w1.heap.size W' rows s.rs ∧ BoxAt W' (w.heap.size + 1) (cP seen) 33 ∧ BoxAt W' (w.heap.size + 1 + 1) (cP y) 33) ⟨hB.alloc hB.size _, hx.alloc _, hz.alloc _, BoxAt.new _ _ _, Own.al hR _, hC.below ((Below.refl _ _).alloc (Nat.le_refl _) _), hp.alloc _, hq.alloc _⟩ ?_
 generalize w1.heap.size = Q at *
 generalize w2.heap.size = O at *
 clear kx hx hz hB hR hC hp hq
 rintro W2 ⟨hB, hx, hz, ho, hR, hC, hp, hq⟩
 refine (l4Ring_any s A n cap z _ HLN.out (by omega)).mono ?_
 rintro e w3 ⟨rfl, hb3⟩
 replace hx := hx.below hb3 hx.lt
 replace hz := hz.below hb3 hz.lt
 replace ho := ho.below hb3 ho.lt
 replace hR := Own.below hR hb3
 replace hC := hC.below hb3
 replace hp := hp.below hb3 hp.lt
 replace hq := hq.below hb3 hq.lt
 replace hB := bstep hB hB.size hb3
 clear hb3
 cases hrb : ringB s z
 ·
  have HV := Lib.hid (show swapPlace s z at_ seen y = (s, false) by simp [swapPlace, HOK.out, hrb])
  exact zprim41
 have HRB := Lib.hid hrb
 have kx := hx.cell
 have hrd := stOk_rd HOK.out
 go_wp2_with fail
 clear kx
 refine (l1In_any _ _ _ _).mono ?_
 rintro e w' ⟨rfl, rfl⟩
 cases hab : inB at_ 0 (s.rd - 1)
 ·
  have HV := Lib.hid (show swapPlace s z at_ seen y = (s, false) by simp [swapPlace, HOK.out, hab])
  exact zprim41
 have HAB := Lib.hid hab
 have hatb : 0 ≤ at_ ∧ at_ < s.rd := by simp [inB] at hab; omega
 clear hab
 obtain ⟨z0, z1, z2⟩ := ringB_at HLN.out hrb
 clear hrb
 obtain ⟨b, r, A', n', cap', rfl, hlb, hbh, hri, c0, c1', c2, c3, c4, hpw⟩ := (hs.below hB hh).at_ z2
 have HRI := Lib.hid hri
 have hrp := stOk_places HOK.out r (List.mem_of_getElem? hri)
 have hn' : n' = r.ps.length := hpw.1.symm
 obtain ⟨pb, rfl, hpbh, hpo⟩ := hpw.2 (by omega)
 have hc : RgC w3 b z.toNat r (some ⟨pb, 0, none⟩) n' cap' := ⟨c0, c1', c2, c3, c4⟩
 clear c0 c1' c2 c3 c4 hri
 have hatl : at_.toNat < r.ps.length := by omega
 obtain ⟨p, hpx⟩ : ∃ p, r.ps[at_.toNat]? = some p := ⟨_, List.getElem?_eq_getElem hatl⟩
 have he : PlE 0 w3 pb (at_.toNat * 4) p := PlE.of_cells fun j u hu => Own.cell_ Pl.cs_len hpo hpx hu
 have hat0 : (at_ : Int) < (n' : Int) := by omega
 have HPX := Lib.hid hpx
 have lpb := Own.lt hpo
 clear hpx
 obtain ⟨a, ha⟩ : ∃ a, rows[z.toNat]? = some a := ⟨_, List.getElem?_eq_getElem (by have := hR.1; omega)⟩
 obtain ⟨r0, hr0, _, _, _, _, _, g1, hg1, hpo1⟩ := hC.1 _ a ha
 obtain rfl : r = r0 := by have := HRI.out; rw [hr0] at this; injection this with this; exact this.symm
 have HA := Lib.hid ha
 have HG1 := Lib.hid hg1
 have hatn : at_.toNat < a.n := by have := hpo1.1; omega
 have hg1Q := hpo1.ge
 have hg1l := Own.lt hpo1
 have hatn' : (at_ : Int) < (a.n : Int) := by omega
 have HAT := Lib.hid (St.at_some (s := s) HRI.out)
 have lo_ := ho.lt
 have lb1 := Own.lt hR
 obtain ⟨M, hMe⟩ : ∃ M, M = w3.heap.size := ⟨_, rfl⟩
 have hM : M ≤ w3.heap.size := by omega
 have hM2 : w3.heap.size ≤ M := by omega
 have HCL := Lib.hid (fun (j : Nat) a (ha : rows[j]? = some a) => (by obtain ⟨g, h1, h2⟩ := hC.lt j a ha; exact ⟨g, h1, by omega⟩ : ∃ g, a.A = some ⟨g, 0, none⟩ ∧ g < M))
 have hbl : b < M ∧ pb < M := by have := hB.size; omega
 have hbl2 : b < w.heap.size ∧ pb < w.heap.size := by omega
 obtain ⟨at0, at1⟩ := hatb
 clear hMe ha hr0 hg1 hpo1 hpw hpo hn'
 cases heq : p.eqB seen
 ·
  have HV := Lib.hid (show swapPlace s z at_ seen y = (s, false) by simp only [swapPlace, HOK.out, HRB.out, HAB.out, HAT.out, HPX.out, heq]; rfl)
  go_upto_region 6 with fail
  go_cut [13, 14] (fun s13 s14 W' => Below w.heap.size w W' ∧ BoxAt W' w.heap.size (aS s (some ⟨b, 0, none⟩) n cap) 32 ∧ BoxAt W' (w.heap.size + 1 + 1 + 1) zS 32 ∧ BoxAt W' O (aS s (some ⟨b1, 0, none⟩) n c1) 32 ∧ RwsO Q W' b1 n c1 rows ∧ CopyOf Q W' rows s.rs ∧ BoxAt W' (w.heap.size + 1) (cP seen) 33 ∧ BoxAt W' (w.heap.size + 1 + 1) (cP y) 33 ∧ RgC W' b z.toNat r (some ⟨pb, 0, none⟩) n' cap' ∧ PlE 0 W' pb (at_.toNat * 4) p ∧ ∃ g15, s13 = pT g15 ∧ M ≤ g15 ∧ BoxAt W' g15 (cP p) 33 ∧ s14 = .bool false)
  case first =>
   refine wp_region2v (fun w w' => Below w.heap.size w w') (fun _ _ h => h.size) (fun _ => Below.refl _ _) (fun L W' => Below w.heap.size w W' ∧ BoxAt W' w.heap.size (aS s (some ⟨b, 0, none⟩) n cap) 32 ∧ BoxAt W' (w.heap.size + 1 + 1 + 1) zS 32 ∧ BoxAt W' O (aS s (some ⟨b1, 0, none⟩) n c1) 32 ∧ RwsO Q W' b1 n c1 rows ∧ CopyOf Q W' rows s.rs ∧ BoxAt W' (w.heap.size + 1) (cP seen) 33 ∧ BoxAt W' (w.heap.size + 1 + 1) (cP y) 33 ∧ RgC W' b z.toNat r (some ⟨pb, 0, none⟩) n' cap' ∧ PlE 0 W' pb (at_.toNat * 4) p ∧ M ≤ W'.heap.size) (swBV s w.heap.size b n cap M pb z at_ r n' cap' p seen y) (fun j => [0, 0, 0, 0, 0, 0, 0, 0, 0, 0, 0, 0, 0, 0, 0, 2, 1, 0].getD j 0) [(16, 15)] (by kernel_rfl) (by kernel_rfl) ?_ ?_ ?_
    (.still rfl ?a0 <| .still rfl ?a1 <| .still rfl ?a2 <| .still rfl ?a3 <| .still rfl ?a4 <| .still rfl ?a5 <| .still rfl ?a6 <| .still rfl ?a7 <| .still rfl ?a8 <| .still rfl ?a9 <| .still rfl ?a10 <| .grow rfl ?a11 <| .still rfl ?a12 <| .still rfl ?a13 <| .still rfl ?a14 <| .make rfl ?a15 <| .store rfl ?a16 <| .still rfl ?a17 <| .nil) ?_ ?_
   · exact ⟨fun _ _ _ h ⟨g, e, hp⟩ => ⟨g, (h 15 (List.mem_singleton.2 rfl)).symm.trans e, hp⟩, fun _ _ _ h ⟨g, e, hp⟩ => ⟨g, (h 15 (List.mem_singleton.2 rfl)).symm.trans e, hp⟩, trivial⟩
   · exact ⟨fun σ w w' hb ⟨g, e, hg, x0, x1, x2, x3, hx⟩ => ⟨g, e, hg, x0, x1, x2, x3, hx.below hb hx.lt⟩, fun σ w w' hb ⟨g, e, hg, hx⟩ => ⟨g, e, hg, hx.below hb hx.lt⟩, trivial⟩
   · exact ⟨hB.drew, hx, hz, ho, hR, hC, hp, hq, hc, he, hM⟩
   case a0 | a2 | a3 | a4 | a6 | a7 | a12 | a13 | a14 | a17 =>
    go_light
    intro L σ W' hcl hL hC hw
    try have e1 := wT hw 1 rfl
    try have e2 := wT hw 2 rfl
    try have e3 := wT hw 3 rfl
    try have e5 := wT hw 5 rfl
    try have e6 := wT hw 6 rfl
    try have e11 := wT hw 11 rfl
    try have e12 := wT hw 12 rfl
    try have e14 := wT hw 14 rfl
    exact zprim40
   case a1 =>
    go_light
    intro L σ W' hcl hL hC hw
    have e0 := wV hw 0 rfl
    have ks := hC.2.1.cell
    exact zprim40
   case a5 =>
    go_light
    intro L σ W' hcl hL hC hw
    have e4 := wV hw 4 rfl
    have hc0 := hC.2.2.2.2.2.2.2.2.1
    obtain ⟨c0, c1_, c2, c3, c4⟩ := hc0
    exact zprim40
   case a8 =>
    go_light
    intro L σ W' hcl hL hC hw
    have e7 := wV hw 7 rfl
    have he0 := hC.2.2.2.2.2.2.2.2.2.1
    obtain ⟨d0, d1, d2, d3⟩ := he0
    exact zprim40
   case a9 =>
    go_light
    intro L σ W' hcl hL hC hw
    have kp := hC.2.2.2.2.2.2.1.cell
    exact zprim40
   case a10 =>
    go_light
    intro L σ W' hcl hL hC hw
    have kq := hC.2.2.2.2.2.2.2.1.cell
    exact zprim40
   case a11 =>
    go_light
    intro L σ W' hcl hL hC hw
    have e8 := wV hw 8 rfl
    have e9 := wV hw 9 rfl
    have e10 := wV hw 10 rfl
    clear hw
    have HC := Lib.hid hC
    clear hC
    clear hcl hL
    refine OpGoes.go fun K hK => ?_
    go_simp
    obtain ⟨hB, hx, hz, ho, hR, hC, hp, hq, hc, he, hM⟩ := HC.out
    refine (sswapped_no p seen y _ heq).mono ?_
    exact zprim45
   case a15 =>
    exact zprim43
   case a16 =>
    go_light
    intro L σ W' hcl hL hC hw hne
    have e13 := wV hw 13 rfl
    obtain ⟨g15, e15, hg15, x0, x1, x2, x3, hbox15⟩ := wE hw 15 rfl
    clear hw hne
    have HC := Lib.hid hC
    clear hC
    clear hcl hL
    have kc_ := hbox15.cell
    have kf_ := hbox15.frozen
    refine OpGoes.go fun K hK => ?_
    go_simp
    obtain ⟨hB, hx, hz, ho, hR, hC, hp, hq, hc, he, hM⟩ := HC.out
    have hset := ((((hbox15.set 0 (.bool p.s)).set 1 (.int .i64 p.n)).set 2 (.bool p.f)).set 3 (.int .i64 p.v))
    exact zprim42
   ·
    exact zprim46
   ·
    exact zprim44
  case rest =>
   clear hB hx hz ho hR hC hp hq hc he hM
   obtain ⟨hB, hx, hz, ho, hR, hC, hp, hq, hc, he, g15, rfl, hg15, hv, rfl⟩ := hcut
   exact zprim41
 ·
  have HV := Lib.hid (show swapPlace s z at_ seen y = thenB s (s.turn z (fun r => { r with ps := r.ps.set at_.toNat y })) by simp only [swapPlace, HOK.out, HRB.out, HAB.out, HAT.out, HPX.out, heq]; rfl)
  go_upto_region 6 with fail
  go_cut [13, 14] (fun s13 s14 W' => Below w.heap.size w W' ∧ BoxAt W' w.heap.size (aS s (some ⟨b, 0, none⟩) n cap) 32 ∧ BoxAt W' (w.heap.size + 1 + 1 + 1) zS 32 ∧ BoxAt W' O (aS s (some ⟨b1, 0, none⟩) n c1) 32 ∧ RwsO Q W' b1 n c1 rows ∧ CopyOf Q W' rows s.rs ∧ BoxAt W' (w.heap.size + 1) (cP seen) 33 ∧ BoxAt W' (w.heap.size + 1 + 1) (cP y) 33 ∧ RgC W' b z.toNat r (some ⟨pb, 0, none⟩) n' cap' ∧ PlE 0 W' pb (at_.toNat * 4) p ∧ ∃ g15, s13 = pT g15 ∧ M ≤ g15 ∧ BoxAt W' g15 (cP y) 33 ∧ s14 = .bool true)
  case first =>
   refine wp_region2v (fun w w' => Below w.heap.size w w') (fun _ _ h => h.size) (fun _ => Below.refl _ _) (fun L W' => Below w.heap.size w W' ∧ BoxAt W' w.heap.size (aS s (some ⟨b, 0, none⟩) n cap) 32 ∧ BoxAt W' (w.heap.size + 1 + 1 + 1) zS 32 ∧ BoxAt W' O (aS s (some ⟨b1, 0, none⟩) n c1) 32 ∧ RwsO Q W' b1 n c1 rows ∧ CopyOf Q W' rows s.rs ∧ BoxAt W' (w.heap.size + 1) (cP seen) 33 ∧ BoxAt W' (w.heap.size + 1 + 1) (cP y) 33 ∧ RgC W' b z.toNat r (some ⟨pb, 0, none⟩) n' cap' ∧ PlE 0 W' pb (at_.toNat * 4) p ∧ M ≤ W'.heap.size) (swAV s w.heap.size b n cap M pb z at_ r n' cap' p seen y) (fun j => [0, 0, 0, 0, 0, 0, 0, 0, 0, 0, 0, 0, 0, 0, 0, 2, 1, 0].getD j 0) [(16, 15)] (by kernel_rfl) (by kernel_rfl) ?_ ?_ ?_
    (.still rfl ?a0 <| .still rfl ?a1 <| .still rfl ?a2 <| .still rfl ?a3 <| .still rfl ?a4 <| .still rfl ?a5 <| .still rfl ?a6 <| .still rfl ?a7 <| .still rfl ?a8 <| .still rfl ?a9 <| .still rfl ?a10 <| .grow rfl ?a11 <| .still rfl ?a12 <| .still rfl ?a13 <| .still rfl ?a14 <| .make rfl ?a15 <| .store rfl ?a16 <| .still rfl ?a17 <| .nil) ?_ ?_
   · exact ⟨fun _ _ _ h ⟨g, e, hp⟩ => ⟨g, (h 15 (List.mem_singleton.2 rfl)).symm.trans e, hp⟩, fun _ _ _ h ⟨g, e, hp⟩ => ⟨g, (h 15 (List.mem_singleton.2 rfl)).symm.trans e, hp⟩, trivial⟩
   · exact ⟨fun σ w w' hb ⟨g, e, hg, x0, x1, x2, x3, hx⟩ => ⟨g, e, hg, x0, x1, x2, x3, hx.below hb hx.lt⟩, fun σ w w' hb ⟨g, e, hg, hx⟩ => ⟨g, e, hg, hx.below hb hx.lt⟩, trivial⟩
   · exact ⟨hB.drew, hx, hz, ho, hR, hC, hp, hq, hc, he, hM⟩
   case a0 | a2 | a3 | a4 | a6 | a7 | a12 | a13 | a14 | a17 =>
    go_light
    intro L σ W' hcl hL hC hw
    try have e1 := wT hw 1 rfl
    try have e2 := wT hw 2 rfl
    try have e3 := wT hw 3 rfl
    try have e5 := wT hw 5 rfl
    try have e6 := wT hw 6 rfl
    try have e11 := wT hw 11 rfl
    try have e12 := wT hw 12 rfl
    try have e14 := wT hw 14 rfl
    exact zprim40
   case a1 =>
    go_light
    intro L σ W' hcl hL hC hw
    have e0 := wV hw 0 rfl
    have ks := hC.2.1.cell
    exact zprim40
   case a5 =>
    go_light
    intro L σ W' hcl hL hC hw
    have e4 := wV hw 4 rfl
    have hc0 := hC.2.2.2.2.2.2.2.2.1
    obtain ⟨c0, c1_, c2, c3, c4⟩ := hc0
    exact zprim40
   case a8 =>
    go_light
    intro L σ W' hcl hL hC hw
    have e7 := wV hw 7 rfl
    have he0 := hC.2.2.2.2.2.2.2.2.2.1
    obtain ⟨d0, d1, d2, d3⟩ := he0
    exact zprim40
   case a9 =>
    go_light
    intro L σ W' hcl hL hC hw
    have kp := hC.2.2.2.2.2.2.1.cell
    exact zprim40
   case a10 =>
    go_light
    intro L σ W' hcl hL hC hw
    have kq := hC.2.2.2.2.2.2.2.1.cell
    exact zprim40
   case a11 =>
    go_light
    intro L σ W' hcl hL hC hw
    have e8 := wV hw 8 rfl
    have e9 := wV hw 9 rfl
    have e10 := wV hw 10 rfl
    clear hw
    have HC := Lib.hid hC
    clear hC
    clear hcl hL
    refine OpGoes.go fun K hK => ?_
    go_simp
    obtain ⟨hB, hx, hz, ho, hR, hC, hp, hq, hc, he, hM⟩ := HC.out
    refine (sswapped_yes p seen y _ heq).mono ?_
    exact zprim45
   case a15 =>
    exact zprim43
   case a16 =>
    go_light
    intro L σ W' hcl hL hC hw hne
    have e13 := wV hw 13 rfl
    obtain ⟨g15, e15, hg15, x0, x1, x2, x3, hbox15⟩ := wE hw 15 rfl
    clear hw hne
    have HC := Lib.hid hC
    clear hC
    clear hcl hL
    have kc_ := hbox15.cell
    have kf_ := hbox15.frozen
    refine OpGoes.go fun K hK => ?_
    go_simp
    obtain ⟨hB, hx, hz, ho, hR, hC, hp, hq, hc, he, hM⟩ := HC.out
    have hset := ((((hbox15.set 0 (.bool y.s)).set 1 (.int .i64 y.n)).set 2 (.bool y.f)).set 3 (.int .i64 y.v))
    exact zprim42
   ·
    exact zprim46
   ·
    exact zprim44
  case rest =>
   clear hB hx hz ho hR hC hp hq hc he hM
   obtain ⟨hB, hx, hz, ho, hR, hC, hp, hq, hc, he, g15, rfl, hg15, hv, rfl⟩ := hcut
   clear heq
   have hg1v : g1 ≠ g15 := by omega
   have lv := hv.lt
   go_upto_region 9 with fail
   go_cut [52] (fun _ W' => Below w.heap.size w W' ∧ BoxAt W' w.heap.size (aS s (some ⟨b, 0, none⟩) n cap) 32 ∧ BoxAt W' (w.heap.size + 1 + 1 + 1) zS 32 ∧ BoxAt W' O (aS s (some ⟨b1, 0, none⟩) n c1) 32 ∧ RwsO Q W' b1 n c1 rows ∧ CopyOf Q W' rows (s.rs.set z.toNat { r with ps := r.ps.set at_.toNat y }))
   case first =>
    refine wp_region2v (fun w w' => Below w.heap.size w w') (fun _ _ h => h.size) (fun _ => Below.refl _ _) (fun L W' => Below w.heap.size w W' ∧ BoxAt W' w.heap.size (aS s (some ⟨b, 0, none⟩) n cap) 32 ∧ BoxAt W' (w.heap.size + 1 + 1 + 1) zS 32 ∧ BoxAt W' O (aS s (some ⟨b1, 0, none⟩) n c1) 32 ∧ RwsO Q W' b1 n c1 rows ∧ BoxAt W' g15 (cP y) 33 ∧ (L 9 = false → CopyOf Q W' rows s.rs)) (swCV s w.heap.size O b1 n c1 g1 g15 z at_ a r y Q rows) (fun j => [0, 0, 0, 0, 0, 0, 0, 0, 0, 1].getD j 0) [] (by kernel_rfl) (by kernel_rfl) ?_ ?_ ?_
     (.still rfl ?a0 <| .still rfl ?a1 <| .still rfl ?a2 <| .still rfl ?a3 <| .still rfl ?a4 <| .still rfl ?a5 <| .still rfl ?a6 <| .still rfl ?a7 <| .still rfl ?a8 <| .store rfl ?a9 <| .nil) ?_ ?_
    · exact ⟨fun _ _ _ _ h => h, trivial⟩
    · exact ⟨fun σ w w' hb hR => CopyOf.below hR hb, trivial⟩
    · exact ⟨hB.drew, hx, hz, ho, hR, hv, fun _ => hC⟩
    case a0 | a2 | a3 | a4 | a6 | a8 =>
     go_light
     intro L σ W' hcl hL hC hw
     try have e1 := wT hw 1 rfl
     try have e2 := wT hw 2 rfl
     try have e3 := wT hw 3 rfl
     try have e5 := wT hw 5 rfl
     try have e6 := wT hw 6 rfl
     exact zprim40
    case a1 =>
     go_light
     intro L σ W' hcl hL hC hw
     have e0 := wV hw 0 rfl
     have ko := hC.2.2.2.1.cell
     exact zprim40
    case a5 =>
     go_light
     intro L σ W' hcl hL hC hw
     have e4 := wV hw 4 rfl
     have d4 := Own.cell_ Rw.cs_len hC.2.2.2.2.1 (j := 4) HA.out rfl
     rw [HG1.out] at d4
     exact zprim40
    case a7 =>
     go_light
     intro L σ W' hcl hL hC hw
     have kv := hC.2.2.2.2.2.1.cell
     exact zprim40
    case a9 =>
     go_light
     intro L σ W' hcl hL hC hw hne
     have e7 := wV hw 7 rfl
     have e8 := wV hw 8 rfl
     clear hw hne
     obtain ⟨hB, hx, hz, ho, hR, hv, hC⟩ := hC
     have hC9 := (hC hL)
     obtain ⟨rr, hrr, _, _, _, _, _, gg, hgg, hpo⟩ := hC9.1 _ a HA.out
     obtain rfl : r = rr := by have := HRI.out; rw [hrr] at this; injection this with this; exact this.symm
     obtain rfl : g1 = gg := by have := HG1.out; rw [hgg] at this; injection this with e; injection e with e; exact e.symm
     have hlt4 : at_.toNat < r.ps.length := by rw [hpo.1]; exact hatn
     have hgx : r.ps[at_.toNat]? = some r.ps[at_.toNat] := List.getElem?_eq_getElem hlt4
     have d0 := Own.cell_ Pl.cs_len hpo (j := 0) hgx rfl
     have d1 := Own.cell_ Pl.cs_len hpo (j := 1) hgx rfl
     have d2 := Own.cell_ Pl.cs_len hpo (j := 2) hgx rfl
     have d3 := Own.cell_ Pl.cs_len hpo (j := 3) hgx rfl
     rw [Nat.add_zero] at d0
     have df := Own.frozen_ hpo
     have hQg := hpo.ge
     have hne1 := hpo.ne_ring hR
     have hneO := hpo.ne_boxT ho (by decide)
     clear hgx hgg hrr
     clear hcl hL
     refine OpGoes.go fun K hK => ?_
     go_simp
     refine hK _ _ ⟨⟨sc (sc (sc (sc hB))), (((hx.sn).sn).sn).sn, (((hz.sn).sn).sn).sn, (((ho.sn).sn).sn).sn, Own.set_ne (Own.set_ne (Own.set_ne (Own.set_ne hR (fun e => hne1 e.symm) _ _) (fun e => hne1 e.symm) _ _) (fun e => hne1 e.symm) _ _) (fun e => hne1 e.symm) _ _, (((hv.set_ne (fun e => hg1v e.symm) _ _).set_ne (fun e => hg1v e.symm) _ _).set_ne (fun e => hg1v e.symm) _ _).set_ne (fun e => hg1v e.symm) _ _, fun h => absurd h (by simp [upd])⟩, ?_, by simp, fun j hj hn hR => ?_⟩
     · exact hC9.put HA.out HRI.out HG1.out hatn y
     refine keepV ?_ j hj hn hR
     exact ⟨fun h => absurd rfl h, trivial⟩
    ·
     intro L L' W' hLL hC
     obtain ⟨hB, hx, hz, ho, hR, hv, hC⟩ := hC
     exact ⟨hB, hx, hz, ho, hR, hv, fun h => hC (hLL _ h)⟩
    ·
     intro σ L W' hall hC hRR
     obtain ⟨hB, hx, hz, ho, hR, hv, hC⟩ := hC
     have hC9 : CopyOf Q W' rows (s.rs.set z.toNat { r with ps := r.ps.set at_.toNat y }) := hRR 9 (by decide)
     clear hRR
     simp only [lexAll]
     go_simp
     go_step
     go_meet
     exact ⟨hB, hx, hz, ho, hR, hC9⟩
   case rest =>
    clear hB hx hz ho hR hC
    obtain ⟨hB, hx, hz, ho, hR, hC⟩ := hcut
    have hlt : (s.turn z (fun r => { r with ps := r.ps.set at_.toNat y })).rs.length = n := by rw [St.turn_some HRI.out]; simpa using HLN.out
    have HG := Lib.hid (show RgsW Q wc.heap.size wc (some ⟨b1, 0, none⟩) n c1 (s.turn z (fun r => { r with ps := r.ps.set at_.toNat y })).rs by
     refine CopyOf.rgs (rows := rows) ?_ hR hlt
     rw [St.turn_some HRI.out]; exact hC)
    have hfs : stV (s.turn z (fun r => { r with ps := r.ps.set at_.toNat y })) (some ⟨b1, 0, none⟩) n c1 = .agg (aS s (some ⟨b1, 0, none⟩) n c1) := by rw [St.turn_some HRI.out]; rfl
    have HFS := Lib.hid hfs; clear hfs hlt
    have kx := hx.cell
    have ko := ho.cell
    have lo4 := ho.lt
    go_wp2_with fail
    clear kx ko
    rw [← HFS.out]
    refine (l4Then_any s (s.turn z (fun r => { r with ps := r.ps.set at_.toNat y })) (some ⟨b, 0, none⟩) (some ⟨b1, 0, none⟩) n cap n c1 lo hi Q wc.heap.size _ (hs.below hB hh) HG.out (Nat.le_trans hh hB.size) (Nat.le_refl _) (by omega) HNT.out (HNT.out.turn fun r => by simp)).mono ?_
    rintro e w5 ⟨A5, n5, c5, rfl, hG5, hb5⟩
    replace hz := hz.below hb5 hz.lt
    replace hB := bstep hB hB.size hb5
    have h5 := hb5.size
    clear hb5 HG
    rw [← HV.out] at hG5 ⊢
    obtain ⟨q, hq⟩ : ∃ q, q = swapPlace s z at_ seen y := ⟨_, rfl⟩
    rw [← hq] at hG5 ⊢
    have HQ := Lib.hid hq; clear hq
    unfold stV
    have kz := hz.cell
    have fz := hz.frozen
    have lz5 := hz.lt
    go_wp2
    refine bodyPost_ret (v := .tuple #[stV q.1 A5 n5 c5, q.2]) (by simp [results, Tryz.results73, go_sem, kz, lz5, stV]) rfl ⟨A5, n5, c5, by rw [← HQ.out], ?_, ?_⟩
    ·
     rw [← HQ.out]
     exact ((((((hG5.sl).sl).sl).sl).sl)).mono (by omega) (by simp)
    · exact (sc (sc (sc (sc (sc hB)))))
end Go.Proofs.YthpckpnlohfcbaaGreatDoor

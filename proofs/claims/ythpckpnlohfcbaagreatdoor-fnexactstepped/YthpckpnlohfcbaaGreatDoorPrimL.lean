/-
 Small things of the model: what a store of the call's own is when one of its rings has been turned; the walk of l4Then.
-/
import Derived.Test.YthpckpnlohfcbaaGreatDoorStoreD
namespace Go.Proofs.YthpckpnlohfcbaaGreatDoor
set_option linter.unusedSimpArgs false
set_option linter.unusedVariables false
open Go.RowKit
set_option linter.unusedVariables false
attribute [local go_sem ↓] Go.wp_at_zero Go.wp_at_succ
theorem zprimL0 {p : Prop} (h : p := by
 rw [HV2.out]
 exact (((((((hG5.sl).sl).sl).sl).sl)).al (by simp) _).mono (by omega) (by simp)) : p := h -- e7b855f1
theorem zprimL1 {p : Prop} (h : p := by
 rw [HV.out]
 exact ((((((hG.sl).sl).sl).sl).sl)).mono (by omega) (by simp)) : p := h -- 0959b167

theorem CopyOf.rgs {lo : Nat} {w : World} {b n cap : Nat} {rows : List Rw} {L : List Rg} (h : CopyOf lo w rows L) (ho : RwsO lo w b n cap rows) (hl : L.length = n) : RgsW lo w.heap.size w (some ⟨b, 0, none⟩) n cap L :=
 ⟨hl, fun _ => ⟨b, rows, rfl, Own.lt ho, ho, h.all⟩⟩
theorem CopyOf.turn {lo : Nat} {w : World} {rows : List Rw} {L : List Rg} (h : CopyOf lo w rows L) {i : Nat} {a a' : Rw} {r r' : Rg} (ha : rows[i]? = some a) (hr : L[i]? = some r)
  (hA : a'.A = a.A) (hn : a'.n = a.n) (hc : a'.cap = a.cap) (e1 : a'.h = r'.h) (e2 : a'.t = r'.t) (e3 : a'.c = r'.c) (e4 : a'.x = r'.x) (e5 : r'.ps = r.ps) : CopyOf lo w (rows.set i a') (L.set i r') := by
 have hi : i < rows.length := (List.getElem?_eq_some_iff.1 ha).1
 have hiL : i < L.length := (List.getElem?_eq_some_iff.1 hr).1
 have key : ∀ (j : Nat) b, (rows.set i a')[j]? = some b → ∃ b', rows[j]? = some b' ∧ b.A = b'.A := fun j b hb => by
  by_cases hj : i = j
  ·
   subst hj
   rw [List.getElem?_set_self hi] at hb
   injection hb with hb
   subst hb
   exact ⟨a, ha, hA⟩
  ·
   rw [List.getElem?_set_ne hj] at hb
   exact ⟨b, hb, rfl⟩
 refine ⟨fun j b hb => ?_, fun j k x y hjk hx hy => ?_⟩
 ·
  by_cases hj : i = j
  ·
   subst hj
   rw [List.getElem?_set_self hi] at hb
   injection hb with hb
   subst hb
   obtain ⟨r0, hr0, _, _, _, _, h5, g, hg, ho⟩ := h.1 i a ha
   obtain rfl : r = r0 := by rw [hr] at hr0; injection hr0
   exact ⟨r', List.getElem?_set_self hiL, e1, e2, e3, e4, by rw [hn]; exact h5, g, by rw [hA]; exact hg, by rw [hn, hc, e5]; exact ho⟩
  ·
   rw [List.getElem?_set_ne hj] at hb ⊢
   exact h.1 j b hb
 ·
  obtain ⟨x', hx', ex⟩ := key j x hx
  obtain ⟨y', hy', ey⟩ := key k y hy
  rw [ex, ey]
  exact h.2 j k x' y' hjk hx' hy'
def RetSB (lo : Nat) (q : St × Bool) (w : World) (e : Ending) (w' : World) : Prop :=
 ∃ A n cap, e = .returned (.tuple #[stV q.1 A n cap, q.2]) ∧ RgsW lo w'.heap.size w' A n cap q.1.rs ∧ Below w.heap.size w w'
def RetSI (lo : Nat) (q : St × Int) (w : World) (e : Ending) (w' : World) : Prop :=
 ∃ A n cap, e = .returned (.tuple #[stV q.1 A n cap, q.2]) ∧ RgsW lo w'.heap.size w' A n cap q.1.rs ∧ Below w.heap.size w w'
theorem RgsW.st {lo hi : Nat} {w : World} {A : Option Addr} {n cap : Nat} {L : List Rg} (h : RgsW lo hi w A n cap L) {k : Nat} (hk : k < lo ∨ hi ≤ k) (i : Nat) (u : Value) : RgsW lo hi (w.setCell ⟨k, i, none⟩ u) A n cap L := h.keep (.set hk i u)
theorem RgsW.al {lo hi : Nat} {w : World} {A : Option Addr} {n cap : Nat} {L : List Rg} (h : RgsW lo hi w A n cap L) (hh : hi ≤ w.heap.size) (o : Obj) : RgsW lo hi (w.alloc o) A n cap L := h.keep (.alloc hh o)
theorem Neat.len {s : St} (h : Neat s) : ∀ r ∈ s.rs, r.ps.length ≤ 1048576 := fun r hr => by have := (h.2.2 r hr).2; omega
theorem Neat.cp {s : St} (h : Neat s) : ∀ r ∈ s.rs, 0 < r.ps.length ∧ r.ps.length ≤ 1048576 := fun r hr => by have := h.2.2 r hr; omega
theorem RgsW.sl {lo hi : Nat} {w : World} {A : Option Addr} {n cap : Nat} {L : List Rg} (h : RgsW lo hi w A n cap L) {k : Nat} {i : Nat} {u : Value} (hk : k < lo := by omega) : RgsW lo hi (w.setCell ⟨k, i, none⟩ u) A n cap L := h.st (.inl hk) i u
theorem RgsW.sr {lo hi : Nat} {w : World} {A : Option Addr} {n cap : Nat} {L : List Rg} (h : RgsW lo hi w A n cap L) {k : Nat} {i : Nat} {u : Value} (hk : hi ≤ k := by omega) : RgsW lo hi (w.setCell ⟨k, i, none⟩ u) A n cap L := h.st (.inr hk) i u
set_option maxRecDepth 100000 in
set_option maxHeartbeats 1000000 in
theorem l4Then_any (s o : St) (A B : Option Addr) (n cap m c2 lo hi lo2 hi2 : Nat) (w : World) (hs : RgsW lo hi w A n cap s.rs) (ho : RgsW lo2 hi2 w B m c2 o.rs) (hh : hi ≤ w.heap.size) (hh2 : hi2 ≤ w.heap.size) (hlo : lo2 ≤ w.heap.size) (ns : Neat s) (no : Neat o) :
  Calls Tryz.prog 93 #[stV s A n cap, stV o B m c2] w (RetSB lo2 (thenB s o) w) := by
 have HS := Lib.hid ns
 have HO := Lib.hid no
 have hn : 1 ≤ n ∧ n ≤ 16 := by have := ns.1; have := ns.2.1; have := hs.1; omega
 have hm : 1 ≤ m ∧ m ≤ 16 := by have := no.1; have := no.2.1; have := ho.1; omega
 clear ns no
 have h1' : stV s A n cap = .agg (aS s A n cap) := rfl
 unfold stV
 clear h1'
 go_enter Tryz.func93, Tryz.ntmps93
 go_wp2_with fail
 refine calls_abs (fun W => Below w.heap.size w W ∧ BoxAt W w.heap.size (aS s A n cap) 32 ∧ BoxAt W (w.heap.size + 1) (aS o B m c2) 32 ∧ BoxAt W (w.heap.size + 1 + 1) zS 32) ?_ ?_
 · exact ⟨(((Below.refl _ _).alloc (Nat.le_refl _) _).alloc (by simp) _).alloc (by simp; omega) _, ((BoxAt.new _ _ _).alloc _).alloc _, (BoxAt.new' (by simp)).alloc _, BoxAt.new' (by simp)⟩
 rintro W ⟨hB, hx, hy, hz⟩
 have lz := hz.lt
 refine (sstoreOk_any o B m c2 lo2 hi2 _ (ho.below hB hh2) (Nat.le_trans hh2 hB.size) (by omega) HO.out.len).mono ?_
 rintro e w1 ⟨rfl, hb1⟩
 replace hx := hx.below hb1 hx.lt
 replace hy := hy.below hb1 hy.lt
 replace hz := hz.below hb1 hz.lt
 replace hB := bstep hB hB.size hb1
 clear hb1
 have kx := hx.cell
 have ky := hy.cell
 have lz1 := hz.lt
 cases hok : stOk o
 ·
  have HV := Lib.hid (show thenB s o = (s, false) by simp [thenB, hok])
  go_wp2_with fail
  refine (l3Copy_any s A n cap lo hi _ (hs.below hB hh) (Nat.le_trans hh hB.size) hn.1 (by omega) HS.out.cp).mono ?_
  rintro e w2 ⟨b, c, rows, rfl, hR, hC, hb2⟩
  replace hz := hz.below hb2 hz.lt
  have hlen := hs.1
  have hG := hC.rgs hR hlen
  have hb2s := hb2.size
  have hBs := hB.size
  have kz := hz.cell
  have fz := hz.frozen
  clear hok kx ky
  unfold stV
  go_wp2
  refine bodyPost_ret (v := .tuple #[stV s (some ⟨b, 0, none⟩) n c, .bool false]) (by simp [results, Tryz.results93, go_sem, kz, stV]) rfl ⟨some ⟨b, 0, none⟩, n, c, by rw [HV.out], ?_, ?_⟩
  ·
   exact zprimL1
  · exact (sc (sc (sc (sc (sc (bstep hB hB.size hb2))))))
 ·
  have HV := Lib.hid (show thenB s o = (o, true) by simp [thenB, hok])
  have kz := hz.cell
  have fz := hz.frozen
  have hG := (ho.below hB hh2)
  have hBs := hB.size
  clear hok
  go_wp2
  refine bodyPost_ret (v := .tuple #[stV o B m c2, .bool true]) (by simp [results, Tryz.results93, go_sem, kz, stV]) rfl ⟨B, m, c2, by rw [HV.out], ?_, ?_⟩
  ·
   rw [HV.out]
   exact ((((((hG.sr).sr).sr).sr).sr)).mono (Nat.le_refl _) (by simp; omega)
  · exact (sc (sc (sc (sc (sc hB)))))
end Go.Proofs.YthpckpnlohfcbaaGreatDoor
namespace Go.Proofs.YthpckpnlohfcbaaGreatDoor
set_option linter.unusedSimpArgs false
set_option linter.unusedVariables false
open Go.RowKit
set_option linter.unusedVariables false
attribute [local go_sem ↓] Go.wp_at_zero Go.wp_at_succ
theorem stOk_nums {s : St} (h : stOk s = true) : ∀ r ∈ s.rs, (0 ≤ r.h ∧ r.h ≤ 1000000) ∧ (0 ≤ r.t ∧ r.t ≤ 1000000) ∧ (-1 ≤ r.x ∧ r.x < s.rs.length) := by
 intro r hr
 simp only [stOk, Bool.and_eq_true] at h
 have := List.all_eq_true.1 h.1.2 r hr
 simp only [inSt, Bool.and_eq_true, Rg.ok, rgOk, noB, decide_eq_true_eq, nextB, idxB, Bool.or_eq_true, beq_iff_eq] at this
 omega
theorem ringB_at {s : St} {z : Int} {n : Nat} (hn : s.rs.length = n) (h : ringB s z = true) : 0 ≤ z ∧ z < n ∧ z.toNat < n := by
 simp [ringB, inB] at h; omega
theorem Neat.turn {s : St} (h : Neat s) {z : Int} {f : Rg → Rg} (hf : ∀ r, (f r).ps.length = r.ps.length) : Neat (s.turn z f) := by
 unfold St.turn
 split
 ·
  rename_i r hr
  refine ⟨by simpa using h.1, by simpa using h.2.1, fun r' hr' => ?_⟩
  rcases List.mem_or_eq_of_mem_set hr' with hr' | rfl
  · exact h.2.2 r' hr'
  · rw [hf]; exact h.2.2 r (List.mem_of_getElem? hr)
 · exact h
set_option maxRecDepth 100000 in
set_option maxHeartbeats 1000000 in
theorem stakeTicket_any (s : St) (A : Option Addr) (n cap lo hi : Nat) (z : Int) (w : World) (hs : RgsW lo hi w A n cap s.rs) (hh : hi ≤ w.heap.size) (hm : n ≤ 1048576) (hpn : ∀ r ∈ s.rs, r.ps.length ≤ 1048576) :
  Calls Tryz.prog 77 #[stV s A n cap, z] w (RetSI w.heap.size (takeTicket s z) w) := by
 have HPN := Lib.hid hpn; clear hpn
 have HLN := Lib.hid hs.1
 unfold stV
 go_enter Tryz.func77, Tryz.ntmps77
 go_wp2_with fail
 refine calls_abs (fun W => Below w.heap.size w W ∧ BoxAt W w.heap.size (aS s A n cap) 32 ∧ BoxAt W (w.heap.size + 1) zS 32) ⟨(((Below.refl _ _).alloc (Nat.le_refl _) _).alloc (by simp) _), ((BoxAt.new _ _ _).alloc _), BoxAt.new' (by simp)⟩ ?_
 rintro W ⟨hB, hx, hz⟩
 refine (sstoreOk_any s A n cap lo hi _ (hs.below hB hh) (Nat.le_trans hh hB.size) hm HPN.out).mono ?_
 rintro e w1 ⟨rfl, hb1⟩
 replace hx := hx.below hb1 hx.lt
 replace hz := hz.below hb1 hz.lt
 replace hB := bstep hB hB.size hb1
 clear hb1
 cases hok : stOk s
 ·
  have HV := Lib.hid (show takeTicket s z = (.zero, -1) by simp [takeTicket, hok])
  have kz := hz.cell
  have fz := hz.frozen
  go_wp2
  refine bodyPost_ret (v := .tuple #[stV .zero none 0 0, .int .i64 (-1)]) (by simp [results, Tryz.results77, go_sem, kz, stV, St.zero]) rfl ⟨none, 0, 0, by rw [HV.out], ?_, ?_⟩
  · rw [HV.out]; exact RgsW.nil
  · exact (sc (sc (sc (sc (sc hB)))))
 have HOK := Lib.hid hok
 have HNT := Lib.hid (stOk_neat hok)
 have hn : 1 ≤ n ∧ n ≤ 16 := by have := HNT.out.1; have := HNT.out.2.1; have := HLN.out; omega
 have kx := hx.cell
 have lz1 := hz.lt
 go_wp2_with fail
 refine (l3Copy_any s A n cap lo hi _ (hs.below hB hh) (Nat.le_trans hh hB.size) hn.1 (by omega) HNT.out.cp).mono ?_
 rintro e w2 ⟨b1, c1, rows, rfl, hR, hC, hb2⟩
 unfold stV
 replace hx := hx.below hb2 hx.lt
 replace hz := hz.below hb2 hz.lt
 have hQO := hb2.size
 replace hB := bstep hB hB.size hb2
 clear hb2 kx hok
 have lx := hx.lt
 have lz := hz.lt
 have kx := hx.cell
 have hbO := Own.lt hR
 have hQb := hR.2.1
 go_wp2_with fail
 refine calls_abs (fun W' => Below w.heap.size w W' ∧ BoxAt W' w.heap.size (aS s A n cap) 32 ∧ BoxAt W' (w.heap.size + 1) zS 32 ∧ BoxAt W' w2.heap.size (aS s (some ⟨b1, 0, none⟩) n c1) 32 ∧ RwsO w1.heap.size W' b1 n c1 rows ∧ CopyOf w1.heap.size W' rows s.rs) ⟨hB.alloc hB.size _, hx.alloc _, hz.alloc _, BoxAt.new _ _ _, Own.al hR _, hC.below ((Below.refl _ _).alloc (Nat.le_refl _) _)⟩ ?_
 generalize w1.heap.size = Q at *
 generalize w2.heap.size = O at *
 clear kx hx hz hB hR hC
 rintro W2 ⟨hB, hx, hz, ho, hR, hC⟩
 refine (l4Ring_any s A n cap z _ HLN.out (by omega)).mono ?_
 rintro e w3 ⟨rfl, hb3⟩
 replace hx := hx.below hb3 hx.lt
 replace hz := hz.below hb3 hz.lt
 replace ho := ho.below hb3 ho.lt
 replace hR := Own.below hR hb3
 replace hC := hC.below hb3
 replace hB := bstep hB hB.size hb3
 clear hb3
 cases hrb : ringB s z
 ·
  have HV := Lib.hid (show takeTicket s z = (s, -1) by simp [takeTicket, HOK.out, hrb])
  have kz := hz.cell
  have fz := hz.frozen
  have ko := ho.cell
  have hG := hC.rgs hR HLN.out
  have hBs := hB.size
  go_wp2
  refine bodyPost_ret (v := .tuple #[stV s (some ⟨b1, 0, none⟩) n c1, .int .i64 (-1)]) (by simp [results, Tryz.results77, go_sem, kz, stV]) rfl ⟨some ⟨b1, 0, none⟩, n, c1, by rw [HV.out], ?_, ?_⟩
  ·
   exact zprimL1
  · exact (sc (sc (sc (sc (sc hB)))))
 obtain ⟨z0, z1, z2⟩ := ringB_at HLN.out hrb
 have HRB := Lib.hid hrb; clear hrb
 obtain ⟨b, r, A', n', cap', rfl, hlb, hbh, hri, c0, c1', c2, c3, c4, _⟩ := (hs.below hB hh).at_ z2
 have HRI := Lib.hid hri; clear hri
 obtain ⟨a, ha⟩ : ∃ a, rows[z.toNat]? = some a := ⟨_, List.getElem?_eq_getElem (by have := hR.1; omega)⟩
 obtain ⟨r0, hr0, e1, e2, e3, e4, _⟩ := hC.1 _ a ha
 obtain rfl : r = r0 := by have := HRI.out; rw [hr0] at this; injection this with this; exact this.symm
 have HA := Lib.hid ha
 have HE := Lib.hid (And.intro e1 (And.intro e2 (And.intro e3 e4)))
 have d := Own.cell_ Rw.cs_len hR (j := 0) ha rfl
 clear hr0 ha e1 e2 e3 e4
 rw [Nat.add_zero] at d
 have df := Own.frozen_ hR
 have hnum := stOk_nums HOK.out r (List.mem_of_getElem? HRI.out)
 obtain ⟨⟨nh0, nh1⟩, ⟨nt0, nt1⟩, _⟩ := hnum
 have kx := hx.cell
 have ko := ho.cell
 have lo_ := ho.lt
 have lb1 := Own.lt hR
 have tne : (b1 : Nat) ≠ w.heap.size ∧ b1 ≠ O := by omega
 go_wp2_with fail
 refine calls_abs (fun W' => Below w.heap.size w W' ∧ BoxAt W' w.heap.size (aS s (some ⟨b, 0, none⟩) n cap) 32 ∧ BoxAt W' (w.heap.size + 1) zS 32 ∧ BoxAt W' O (aS s (some ⟨b1, 0, none⟩) n c1) 32 ∧ RwsO Q W' b1 n c1 (rows.set z.toNat { a with h := r.h + 1 }) ∧ CopyOf Q W' (rows.set z.toNat { a with h := r.h + 1 }) (s.turn z (fun r => { r with h := r.h + 1 })).rs) ?_ ?_
 ·
  refine ⟨sc hB, hx.sn, hz.sn, ho.sn, ?_, ?_⟩
  · exact Own.set1 hR Rw.cs_len (j := 0) HA.out (by omega) rfl
  ·
   rw [St.turn_some HRI.out]
   refine CopyOf.turn ?_ HA.out HRI.out rfl rfl rfl rfl HE.out.2.1 HE.out.2.2.1 HE.out.2.2.2 rfl
   obtain ⟨_, _, _, _, cur, hcur, _⟩ := hR
   exact hC.set hcur (by decide) _ _
 clear kx ko d df hx hz ho hR hC hB c0 c1' c2 c3 c4
 rintro W4 ⟨hB, hx, hz, ho, hR, hC⟩
 have lo4 := ho.lt
 have hlt : (s.turn z (fun r => { r with h := r.h + 1 })).rs.length = n := by rw [St.turn_some HRI.out]; simpa using HLN.out
 have HG := Lib.hid (hC.rgs hR hlt)
 have HV := Lib.hid (show takeTicket s z = if (thenB s (s.turn z (fun r => { r with h := r.h + 1 }))).2 then ((thenB s (s.turn z (fun r => { r with h := r.h + 1 }))).1, (s.at z).h) else ((thenB s (s.turn z (fun r => { r with h := r.h + 1 }))).1, -1) by simp [takeTicket, HOK.out, HRB.out])
 have hfs : stV (s.turn z (fun r => { r with h := r.h + 1 })) (some ⟨b1, 0, none⟩) n c1 = .agg (aS s (some ⟨b1, 0, none⟩) n c1) := by rw [St.turn_some HRI.out]; rfl
 have HFS := Lib.hid hfs; clear hfs hlt
 rw [← HFS.out]
 refine (l4Then_any s (s.turn z (fun r => { r with h := r.h + 1 })) (some ⟨b, 0, none⟩) (some ⟨b1, 0, none⟩) n cap n c1 lo hi Q W4.heap.size _ (hs.below hB hh) HG.out (Nat.le_trans hh hB.size) (Nat.le_refl _) (by omega) HNT.out (HNT.out.turn fun r => rfl)).mono ?_
 rintro e w5 ⟨A5, n5, c5, rfl, hG5, hb5⟩
 replace hz := hz.below hb5 hz.lt
 replace hB := bstep hB hB.size hb5
 have h5 := hb5.size
 clear hb5 HG
 have HAT := Lib.hid (St.at_some (s := s) HRI.out)
 obtain ⟨q, hq⟩ : ∃ q, q = thenB s (s.turn z (fun r => { r with h := r.h + 1 })) := ⟨_, rfl⟩
 rw [← hq] at hG5 ⊢
 have HQ := Lib.hid hq; clear hq
 rw [← HQ.out, HAT.out] at HV
 unfold stV
 have kz := hz.cell
 have fz := hz.frozen
 have lz5 := hz.lt
 cases hq2 : q.2
 ·
  have HV2 := Lib.hid HV.out
  rw [hq2] at HV2
  go_wp2
  refine bodyPost_ret (v := .tuple #[stV q.1 A5 n5 c5, .int .i64 (-1)]) (by simp [results, Tryz.results77, go_sem, kz, lz5, stV]) rfl ⟨A5, n5, c5, by rw [HV2.out]; rfl, ?_, ?_⟩
  ·
   exact zprimL0
  · exact ((sc (sc (sc (sc (sc hB)))))).alloc (by simp; omega) _
 ·
  have HV2 := Lib.hid HV.out
  rw [hq2] at HV2
  go_wp2
  refine bodyPost_ret (v := .tuple #[stV q.1 A5 n5 c5, r.h]) (by simp [results, Tryz.results77, go_sem, kz, lz5, stV]) rfl ⟨A5, n5, c5, by rw [HV2.out]; rfl, ?_, ?_⟩
  ·
   exact zprimL0
  · exact ((sc (sc (sc (sc (sc hB)))))).alloc (by simp; omega) _
set_option maxRecDepth 100000 in
set_option maxHeartbeats 1000000 in
theorem sputTicket_any (s : St) (A : Option Addr) (n cap lo hi : Nat) (z : Int) (w : World) (hs : RgsW lo hi w A n cap s.rs) (hh : hi ≤ w.heap.size) (hm : n ≤ 1048576) (hpn : ∀ r ∈ s.rs, r.ps.length ≤ 1048576) :
  Calls Tryz.prog 71 #[stV s A n cap, z] w (RetSI w.heap.size (putTicket s z) w) := by
 have HPN := Lib.hid hpn; clear hpn
 have HLN := Lib.hid hs.1
 unfold stV
 go_enter Tryz.func71, Tryz.ntmps71
 go_wp2_with fail
 refine calls_abs (fun W => Below w.heap.size w W ∧ BoxAt W w.heap.size (aS s A n cap) 32 ∧ BoxAt W (w.heap.size + 1) zS 32) ⟨(((Below.refl _ _).alloc (Nat.le_refl _) _).alloc (by simp) _), ((BoxAt.new _ _ _).alloc _), BoxAt.new' (by simp)⟩ ?_
 rintro W ⟨hB, hx, hz⟩
 refine (sstoreOk_any s A n cap lo hi _ (hs.below hB hh) (Nat.le_trans hh hB.size) hm HPN.out).mono ?_
 rintro e w1 ⟨rfl, hb1⟩
 replace hx := hx.below hb1 hx.lt
 replace hz := hz.below hb1 hz.lt
 replace hB := bstep hB hB.size hb1
 clear hb1
 cases hok : stOk s
 ·
  have HV := Lib.hid (show putTicket s z = (.zero, -1) by simp [putTicket, hok])
  have kz := hz.cell
  have fz := hz.frozen
  go_wp2
  refine bodyPost_ret (v := .tuple #[stV .zero none 0 0, .int .i64 (-1)]) (by simp [results, Tryz.results71, go_sem, kz, stV, St.zero]) rfl ⟨none, 0, 0, by rw [HV.out], ?_, ?_⟩
  · rw [HV.out]; exact RgsW.nil
  · exact (sc (sc (sc (sc (sc hB)))))
 have HOK := Lib.hid hok
 have HNT := Lib.hid (stOk_neat hok)
 have hn : 1 ≤ n ∧ n ≤ 16 := by have := HNT.out.1; have := HNT.out.2.1; have := HLN.out; omega
 have kx := hx.cell
 have lz1 := hz.lt
 go_wp2_with fail
 refine (l3Copy_any s A n cap lo hi _ (hs.below hB hh) (Nat.le_trans hh hB.size) hn.1 (by omega) HNT.out.cp).mono ?_
 rintro e w2 ⟨b1, c1, rows, rfl, hR, hC, hb2⟩
 unfold stV
 replace hx := hx.below hb2 hx.lt
 replace hz := hz.below hb2 hz.lt
 have hQO := hb2.size
 replace hB := bstep hB hB.size hb2
 clear hb2 kx hok
 have lx := hx.lt
 have lz := hz.lt
 have kx := hx.cell
 have hbO := Own.lt hR
 have hQb := hR.2.1
 go_wp2_with fail
 refine calls_abs (fun W' => Below w.heap.size w W' ∧ BoxAt W' w.heap.size (aS s A n cap) 32 ∧ BoxAt W' (w.heap.size + 1) zS 32 ∧ BoxAt W' w2.heap.size (aS s (some ⟨b1, 0, none⟩) n c1) 32 ∧ RwsO w1.heap.size W' b1 n c1 rows ∧ CopyOf w1.heap.size W' rows s.rs) ⟨hB.alloc hB.size _, hx.alloc _, hz.alloc _, BoxAt.new _ _ _, Own.al hR _, hC.below ((Below.refl _ _).alloc (Nat.le_refl _) _)⟩ ?_
 generalize w1.heap.size = Q at *
 generalize w2.heap.size = O at *
 clear kx hx hz hB hR hC
 rintro W2 ⟨hB, hx, hz, ho, hR, hC⟩
 refine (l4Ring_any s A n cap z _ HLN.out (by omega)).mono ?_
 rintro e w3 ⟨rfl, hb3⟩
 replace hx := hx.below hb3 hx.lt
 replace hz := hz.below hb3 hz.lt
 replace ho := ho.below hb3 ho.lt
 replace hR := Own.below hR hb3
 replace hC := hC.below hb3
 replace hB := bstep hB hB.size hb3
 clear hb3
 cases hrb : ringB s z
 ·
  have HV := Lib.hid (show putTicket s z = (s, -1) by simp [putTicket, HOK.out, hrb])
  have kz := hz.cell
  have fz := hz.frozen
  have ko := ho.cell
  have hG := hC.rgs hR HLN.out
  have hBs := hB.size
  go_wp2
  refine bodyPost_ret (v := .tuple #[stV s (some ⟨b1, 0, none⟩) n c1, .int .i64 (-1)]) (by simp [results, Tryz.results71, go_sem, kz, stV]) rfl ⟨some ⟨b1, 0, none⟩, n, c1, by rw [HV.out], ?_, ?_⟩
  ·
   exact zprimL1
  · exact (sc (sc (sc (sc (sc hB)))))
 obtain ⟨z0, z1, z2⟩ := ringB_at HLN.out hrb
 have HRB := Lib.hid hrb; clear hrb
 obtain ⟨b, r, A', n', cap', rfl, hlb, hbh, hri, c0, c1', c2, c3, c4, _⟩ := (hs.below hB hh).at_ z2
 have HRI := Lib.hid hri; clear hri
 obtain ⟨a, ha⟩ : ∃ a, rows[z.toNat]? = some a := ⟨_, List.getElem?_eq_getElem (by have := hR.1; omega)⟩
 obtain ⟨r0, hr0, e1, e2, e3, e4, _⟩ := hC.1 _ a ha
 obtain rfl : r = r0 := by have := HRI.out; rw [hr0] at this; injection this with this; exact this.symm
 have HA := Lib.hid ha
 have HE := Lib.hid (And.intro e1 (And.intro e2 (And.intro e3 e4)))
 have d := Own.cell_ Rw.cs_len hR (j := 1) ha rfl
 clear hr0 ha e1 e2 e3 e4
 have df := Own.frozen_ hR
 have hnum := stOk_nums HOK.out r (List.mem_of_getElem? HRI.out)
 obtain ⟨⟨nh0, nh1⟩, ⟨nt0, nt1⟩, _⟩ := hnum
 have kx := hx.cell
 have ko := ho.cell
 have lo_ := ho.lt
 have lb1 := Own.lt hR
 have tne : (b1 : Nat) ≠ w.heap.size ∧ b1 ≠ O := by omega
 go_wp2_with fail
 refine calls_abs (fun W' => Below w.heap.size w W' ∧ BoxAt W' w.heap.size (aS s (some ⟨b, 0, none⟩) n cap) 32 ∧ BoxAt W' (w.heap.size + 1) zS 32 ∧ BoxAt W' O (aS s (some ⟨b1, 0, none⟩) n c1) 32 ∧ RwsO Q W' b1 n c1 (rows.set z.toNat { a with t := r.t + 1 }) ∧ CopyOf Q W' (rows.set z.toNat { a with t := r.t + 1 }) (s.turn z (fun r => { r with t := r.t + 1 })).rs) ?_ ?_
 ·
  refine ⟨sc hB, hx.sn, hz.sn, ho.sn, ?_, ?_⟩
  · exact Own.set1 hR Rw.cs_len (j := 1) HA.out (by omega) rfl
  ·
   rw [St.turn_some HRI.out]
   refine CopyOf.turn ?_ HA.out HRI.out rfl rfl rfl HE.out.1 rfl HE.out.2.2.1 HE.out.2.2.2 rfl
   obtain ⟨_, _, _, _, cur, hcur, _⟩ := hR
   exact hC.set hcur (by decide) _ _
 clear kx ko d df hx hz ho hR hC hB c0 c1' c2 c3 c4
 rintro W4 ⟨hB, hx, hz, ho, hR, hC⟩
 have lo4 := ho.lt
 have hlt : (s.turn z (fun r => { r with t := r.t + 1 })).rs.length = n := by rw [St.turn_some HRI.out]; simpa using HLN.out
 have HG := Lib.hid (hC.rgs hR hlt)
 have HV := Lib.hid (show putTicket s z = if (thenB s (s.turn z (fun r => { r with t := r.t + 1 }))).2 then ((thenB s (s.turn z (fun r => { r with t := r.t + 1 }))).1, (s.at z).t) else ((thenB s (s.turn z (fun r => { r with t := r.t + 1 }))).1, -1) by simp [putTicket, HOK.out, HRB.out])
 have hfs : stV (s.turn z (fun r => { r with t := r.t + 1 })) (some ⟨b1, 0, none⟩) n c1 = .agg (aS s (some ⟨b1, 0, none⟩) n c1) := by rw [St.turn_some HRI.out]; rfl
 have HFS := Lib.hid hfs; clear hfs hlt
 rw [← HFS.out]
 refine (l4Then_any s (s.turn z (fun r => { r with t := r.t + 1 })) (some ⟨b, 0, none⟩) (some ⟨b1, 0, none⟩) n cap n c1 lo hi Q W4.heap.size _ (hs.below hB hh) HG.out (Nat.le_trans hh hB.size) (Nat.le_refl _) (by omega) HNT.out (HNT.out.turn fun r => rfl)).mono ?_
 rintro e w5 ⟨A5, n5, c5, rfl, hG5, hb5⟩
 replace hz := hz.below hb5 hz.lt
 replace hB := bstep hB hB.size hb5
 have h5 := hb5.size
 clear hb5 HG
 have HAT := Lib.hid (St.at_some (s := s) HRI.out)
 obtain ⟨q, hq⟩ : ∃ q, q = thenB s (s.turn z (fun r => { r with t := r.t + 1 })) := ⟨_, rfl⟩
 rw [← hq] at hG5 ⊢
 have HQ := Lib.hid hq; clear hq
 rw [← HQ.out, HAT.out] at HV
 unfold stV
 have kz := hz.cell
 have fz := hz.frozen
 have lz5 := hz.lt
 cases hq2 : q.2
 ·
  have HV2 := Lib.hid HV.out
  rw [hq2] at HV2
  go_wp2
  refine bodyPost_ret (v := .tuple #[stV q.1 A5 n5 c5, .int .i64 (-1)]) (by simp [results, Tryz.results71, go_sem, kz, lz5, stV]) rfl ⟨A5, n5, c5, by rw [HV2.out]; rfl, ?_, ?_⟩
  ·
   exact zprimL0
  · exact ((sc (sc (sc (sc (sc hB)))))).alloc (by simp; omega) _
 ·
  have HV2 := Lib.hid HV.out
  rw [hq2] at HV2
  go_wp2
  refine bodyPost_ret (v := .tuple #[stV q.1 A5 n5 c5, r.t]) (by simp [results, Tryz.results71, go_sem, kz, lz5, stV]) rfl ⟨A5, n5, c5, by rw [HV2.out]; rfl, ?_, ?_⟩
  ·
   exact zprimL0
  · exact ((sc (sc (sc (sc (sc hB)))))).alloc (by simp; omega) _
end Go.Proofs.YthpckpnlohfcbaaGreatDoor

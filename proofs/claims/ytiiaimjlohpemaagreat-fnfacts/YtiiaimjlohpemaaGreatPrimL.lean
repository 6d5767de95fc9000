/-
 Small things of the model: what a store of the call's own is when one of its rings has been turned; the walk of l4Then.
-/
import Derived.Test.YtiiaimjlohpemaaGreatStoreD
namespace Go.Proofs.YtiiaimjlohpemaaGreat
set_option linter.unusedSimpArgs false
set_option linter.unusedVariables false
open Go.RowKit
set_option linter.unusedVariables false
attribute [local go_sem ↓] Go.wp_at_zero Go.wp_at_succ

theorem CopyOf.rgs {lo : Nat} {w : World} {b n cap : Nat} {rows : List Rw} {L : List Rg} (h : CopyOf lo w rows L) (ho : RwsO lo w b n cap rows) (hl : L.length = n) : RgsW lo w.heap.size w (some ⟨b, 0, none⟩) n cap L :=
 ⟨hl, fun _ => ⟨b, rows, rfl, Own.lt ho, ho, h.all⟩⟩

theorem CopyOf.turn {lo : Nat} {w : World} {rows : List Rw} {L : List Rg} (h : CopyOf lo w rows L) {i : Nat} {a a' : Rw} {r r' : Rg} (ha : rows[i]? = some a) (hr : L[i]? = some r)
  (hA : a'.A = a.A) (hn : a'.n = a.n) (hc : a'.cap = a.cap) (e1 : a'.h = r'.h) (e2 : a'.t = r'.t) (e3 : a'.c = r'.c) (e4 : a'.x = r'.x) (e5 : r'.ps = r.ps) : CopyOf lo w (rows.set i a') (L.set i r') := by
 have hi : i < rows.length := (List.getElem?_eq_some_iff.1 ha).1
 have hiL : i < L.length := (List.getElem?_eq_some_iff.1 hr).1
 have key : ∀ (j : Nat) b, (rows.set i a')[j]? = some b → ∃ b', rows[j]? = some b' ∧ b.A = b'.A := fun j b hb => by
  by_cases hj : i = j
  ·
   subst hj
   rw [List.getElem?_set_self hi] at hb
   injection hb with hb
   subst hb
   exact ⟨a, ha, hA⟩
  ·
   rw [List.getElem?_set_ne hj] at hb
   exact ⟨b, hb, rfl⟩
 refine ⟨fun j b hb => ?_, fun j k x y hjk hx hy => ?_⟩
 ·
  by_cases hj : i = j
  ·
   subst hj
   rw [List.getElem?_set_self hi] at hb
   injection hb with hb
   subst hb
   obtain ⟨r0, hr0, _, _, _, _, h5, g, hg, ho⟩ := h.1 i a ha
   obtain rfl : r = r0 := by rw [hr] at hr0; injection hr0
   exact ⟨r', List.getElem?_set_self hiL, e1, e2, e3, e4, by rw [hn]; exact h5, g, by rw [hA]; exact hg, by rw [hn, hc, e5]; exact ho⟩
  ·
   rw [List.getElem?_set_ne hj] at hb ⊢
   exact h.1 j b hb
 ·
  obtain ⟨x', hx', ex⟩ := key j x hx
  obtain ⟨y', hy', ey⟩ := key k y hy
  rw [ex, ey]
  exact h.2 j k x' y' hjk hx' hy'

/-- A store and a bool are returned; its memory lies from block lo on. -/
def RetSB (lo : Nat) (q : St × Bool) (w : World) (e : Ending) (w' : World) : Prop :=
 ∃ A n cap, e = .returned (.tuple #[stV q.1 A n cap, q.2]) ∧ RgsW lo w'.heap.size w' A n cap q.1.rs ∧ Below w.heap.size w w'
/-- A store and a number are returned. -/
def RetSI (lo : Nat) (q : St × Int) (w : World) (e : Ending) (w' : World) : Prop :=
 ∃ A n cap, e = .returned (.tuple #[stV q.1 A n cap, q.2]) ∧ RgsW lo w'.heap.size w' A n cap q.1.rs ∧ Below w.heap.size w w'

theorem RgsW.st {lo hi : Nat} {w : World} {A : Option Addr} {n cap : Nat} {L : List Rg} (h : RgsW lo hi w A n cap L) {k : Nat} (hk : k < lo ∨ hi ≤ k) (i : Nat) (u : Value) : RgsW lo hi (w.setCell ⟨k, i, none⟩ u) A n cap L := h.keep (.set hk i u)
theorem RgsW.al {lo hi : Nat} {w : World} {A : Option Addr} {n cap : Nat} {L : List Rg} (h : RgsW lo hi w A n cap L) (hh : hi ≤ w.heap.size) (o : Obj) : RgsW lo hi (w.alloc o) A n cap L := h.keep (.alloc hh o)
theorem Neat.len {s : St} (h : Neat s) : ∀ r ∈ s.rs, r.ps.length ≤ 1048576 := fun r hr => by have := (h.2.2 r hr).2; omega
theorem Neat.cp {s : St} (h : Neat s) : ∀ r ∈ s.rs, 0 < r.ps.length ∧ r.ps.length ≤ 1048576 := fun r hr => by have := h.2.2 r hr; omega
theorem RgsW.sl {lo hi : Nat} {w : World} {A : Option Addr} {n cap : Nat} {L : List Rg} (h : RgsW lo hi w A n cap L) {k : Nat} {i : Nat} {u : Value} (hk : k < lo := by omega) : RgsW lo hi (w.setCell ⟨k, i, none⟩ u) A n cap L := h.st (.inl hk) i u
theorem RgsW.sr {lo hi : Nat} {w : World} {A : Option Addr} {n cap : Nat} {L : List Rg} (h : RgsW lo hi w A n cap L) {k : Nat} {i : Nat} {u : Value} (hk : hi ≤ k := by omega) : RgsW lo hi (w.setCell ⟨k, i, none⟩ u) A n cap L := h.st (.inr hk) i u

set_option maxRecDepth 100000 in
set_option maxHeartbeats 1000000 in
theorem l4Then_any (s o : St) (A B : Option Addr) (n cap m c2 lo hi lo2 hi2 : Nat) (w : World) (hs : RgsW lo hi w A n cap s.rs) (ho : RgsW lo2 hi2 w B m c2 o.rs) (hh : hi ≤ w.heap.size) (hh2 : hi2 ≤ w.heap.size) (hlo : lo2 ≤ w.heap.size) (ns : Neat s) (no : Neat o) :
  Calls Tryz.prog 101 #[stV s A n cap, stV o B m c2] w (RetSB lo2 (thenB s o) w) := by
 have HS := Lib.hid ns
 have HO := Lib.hid no
 have hn : 1 ≤ n ∧ n ≤ 16 := by have := ns.1; have := ns.2.1; have := hs.1; omega
 have hm : 1 ≤ m ∧ m ≤ 16 := by have := no.1; have := no.2.1; have := ho.1; omega
 clear ns no
 have h1' : stV s A n cap = .agg (aS s A n cap) := rfl
 unfold stV
 clear h1'
 go_enter Tryz.func101, Tryz.ntmps101
 go_wp2_with fail
 refine calls_abs (fun W => Below w.heap.size w W ∧ BoxAt W w.heap.size (aS s A n cap) 64 ∧ BoxAt W (w.heap.size + 1) (aS o B m c2) 64 ∧ BoxAt W (w.heap.size + 1 + 1) zS 64) ?_ ?_
 · exact ⟨(((Below.refl _ _).alloc (Nat.le_refl _) _).alloc (by simp) _).alloc (by simp; omega) _, ((BoxAt.new _ _ _).alloc _).alloc _, (BoxAt.new' (by simp)).alloc _, BoxAt.new' (by simp)⟩
 rintro W ⟨hB, hx, hy, hz⟩
 have lz := hz.lt
 refine (sstoreOk_any o B m c2 lo2 hi2 _ (ho.below hB hh2) (Nat.le_trans hh2 hB.size) (by omega) HO.out.len).mono ?_
 rintro e w1 ⟨rfl, hb1⟩
 replace hx := hx.below hb1 hx.lt
 replace hy := hy.below hb1 hy.lt
 replace hz := hz.below hb1 hz.lt
 replace hB := bstep hB hB.size hb1
 clear hb1
 have kx := hx.cell
 have ky := hy.cell
 have lz1 := hz.lt
 cases hok : stOk o
 ·
  have HV := Lib.hid (show thenB s o = (s, false) by simp [thenB, hok])
  go_wp2_with fail
  refine (l3Copy_any s A n cap lo hi _ (hs.below hB hh) (Nat.le_trans hh hB.size) hn.1 (by omega) HS.out.cp).mono ?_
  rintro e w2 ⟨b, c, rows, rfl, hR, hC, hb2⟩
  replace hz := hz.below hb2 hz.lt
  have hlen := hs.1
  have hG := hC.rgs hR hlen
  have hb2s := hb2.size
  have hBs := hB.size
  have kz := hz.cell
  have fz := hz.frozen
  clear hok kx ky
  unfold stV
  go_wp2
  refine bodyPost_ret (v := .tuple #[stV s (some ⟨b, 0, none⟩) n c, .bool false]) (by simp [results, Tryz.results101, go_sem, kz, stV]) rfl ⟨some ⟨b, 0, none⟩, n, c, by rw [HV.out], ?_, ?_⟩
  ·
   rw [HV.out]
   exact ((((((hG.sl).sl).sl).sl).sl)).mono (by omega) (by simp)
  · exact (sc (sc (sc (sc (sc (bstep hB hB.size hb2))))))
 ·
  have HV := Lib.hid (show thenB s o = (o, true) by simp [thenB, hok])
  have kz := hz.cell
  have fz := hz.frozen
  have hG := (ho.below hB hh2)
  have hBs := hB.size
  clear hok
  go_wp2
  refine bodyPost_ret (v := .tuple #[stV o B m c2, .bool true]) (by simp [results, Tryz.results101, go_sem, kz, stV]) rfl ⟨B, m, c2, by rw [HV.out], ?_, ?_⟩
  ·
   rw [HV.out]
   exact ((((((hG.sr).sr).sr).sr).sr)).mono (Nat.le_refl _) (by simp; omega)
  · exact (sc (sc (sc (sc (sc hB)))))

end Go.Proofs.YtiiaimjlohpemaaGreat

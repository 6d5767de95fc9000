/-
 The walk of the copy of a store, of the model.
-/
import Derived.Test.YthpckpnlohfcbaaGreatDoorStoreC
import Derived.Test.YthpckpnlohfcbaaGreatDoorGrow2
import Derived.Test.YthpckpnlohfcbaaGreatDoorStoreB
namespace Go.Proofs.YthpckpnlohfcbaaGreatDoor
set_option linter.unusedSimpArgs false
set_option linter.unusedVariables false
open Go.RowKit
set_option linter.unusedVariables false
attribute [local go_sem] OpUpon
attribute [local go_sem ↓] Go.wp_at_zero Go.wp_at_succ
theorem zstoreD0 {p : Prop} (h : p := by
 clear hw hcl hL hC
 refine OpGoes.go fun K hK => ?_
 go_simp
 exact hK _ _ ⟨rfl, rfl⟩) : p := h -- ee92c020

def RwO (lo : Nat) (w : World) (a : Rw) (r : Rg) : Prop := a.h = r.h ∧ a.t = r.t ∧ a.c = r.c ∧ a.x = r.x ∧ 0 < a.n ∧ ∃ g, a.A = some ⟨g, 0, none⟩ ∧ PlsO lo w g a.n a.cap r.ps
def CopyOf (lo : Nat) (w : World) (rows : List Rw) (L : List Rg) : Prop :=
 (∀ (j : Nat) (a : Rw), rows[j]? = some a → ∃ r, L[j]? = some r ∧ RwO lo w a r) ∧ (∀ (j k : Nat) (a b : Rw), j ≠ k → rows[j]? = some a → rows[k]? = some b → a.A ≠ b.A)
theorem CopyOf.keep {lo : Nat} {w w' : World} {rows : List Rw} {L : List Rg} (h : CopyOf lo w rows L) (hs : ∀ g cs, BoxAt w g cs 33 → w'.heap[g]? = w.heap[g]?) : CopyOf lo w' rows L :=
 ⟨fun j a ha => by
  obtain ⟨r, hr, h1, h2, h3, h4, h5, g, hg, ho⟩ := h.1 j a ha
  have ho' := ho
  obtain ⟨_, _, _, _, cur, hb, _⟩ := ho'
  exact ⟨r, hr, h1, h2, h3, h4, h5, g, hg, Own.keep ho (hs g cur hb)⟩, h.2⟩
theorem CopyOf.below {lo : Nat} {w w' : World} {rows : List Rw} {L : List Rg} (h : CopyOf lo w rows L) (hb : Below w.heap.size w w') : CopyOf lo w' rows L := h.keep fun g _ hg => hb.block g hg.lt
theorem CopyOf.set {lo : Nat} {w : World} {rows : List Rw} {L : List Rg} (h : CopyOf lo w rows L) {k : Nat} {cs : Array Value} {t : TypeId} (hk : BoxAt w k cs t) (ht : t ≠ 33) (i : Nat) (u : Value) : CopyOf lo (w.setCell ⟨k, i, none⟩ u) rows L :=
 h.keep fun g _ hg => Below.heap_setCell w ⟨k, i, none⟩ u g (by
  rintro rfl
  unfold BoxAt at hg hk
  rw [hg] at hk
  injection hk with hk
  injection hk with _ hk
  exact ht hk.symm)
theorem CopyOf.mono {lo lo' : Nat} {w : World} {rows : List Rw} {L : List Rg} (h : CopyOf lo w rows L) (hl : lo' ≤ lo) : CopyOf lo' w rows L :=
 ⟨fun j a ha => by obtain ⟨r, hr, h1, h2, h3, h4, h5, g, hg, ho⟩ := h.1 j a ha; exact ⟨r, hr, h1, h2, h3, h4, h5, g, hg, ho.mono hl⟩, h.2⟩
theorem CopyOf.setCells {lo : Nat} {rows : List Rw} {L : List Rg} {k : Nat} {t : TypeId} : ∀ (us : List Value) (o : Nat) {w : World} {cs : Array Value}, BoxAt w k cs t → t ≠ 33 → CopyOf lo w rows L → CopyOf lo (setCells w k o us) rows L
 | [], _, _, _, _, _, h => h
 | u :: us, o, _, _, hk, ht, h => CopyOf.setCells us (o + 1) (hk.set o u) ht (h.set hk ht o u)
theorem CopyOf.grown {lo : Nat} {w w' : World} {rows : List Rw} {L : List Rg} (h : CopyOf lo w rows L) {b n c m N : Nat} {xs : List Value} (ho : w.ownsRow N 79 m (.slice (some ⟨b, 0, none⟩) n c) n xs) (hg : w.grownBy w' (some b)) : CopyOf lo w' rows L :=
 h.keep fun g cs hgb => hg.block g hgb.lt (by
  intro e
  injection e with e
  subst e
  rcases ho.2 with ⟨h1, _⟩ | ⟨g', cap', cur, hv, _, hb, _⟩
  · cases h1
  ·
   injection hv with h1
   injection h1 with h1
   injection h1 with h1
   subst h1
   unfold BoxAt at hgb
   rw [hgb] at hb
   injection hb with hb
   injection hb with _ hb
   cases hb)
theorem CopyOf.snoc {lo M : Nat} {w : World} {rows : List Rw} {L : List Rg} (h : CopyOf lo w rows L) (hM : ∀ (j : Nat) a, rows[j]? = some a → ∃ g, a.A = some ⟨g, 0, none⟩ ∧ g < M) {a : Rw} {r : Rg} (hr : L[rows.length]? = some r) (ha : RwO M w a r) (hlo : lo ≤ M) : CopyOf lo w (rows ++ [a]) L := by
 have hgM : ∃ g, a.A = some ⟨g, 0, none⟩ ∧ M ≤ g := by
  obtain ⟨_, _, _, _, _, g, hg, ho⟩ := ha
  exact ⟨g, hg, ho.ge⟩
 refine ⟨fun j b hb => ?_, fun j k x y hjk hx hy => ?_⟩
 ·
  by_cases hj : j < rows.length
  ·
   rw [List.getElem?_append_left hj] at hb
   exact h.1 j b hb
  ·
   obtain rfl : j = rows.length := by
    have := (List.getElem?_eq_some_iff.1 hb).1
    simp at this; omega
   rw [List.getElem?_append_right (Nat.le_refl _)] at hb
   simp at hb
   subst hb
   obtain ⟨h1, h2, h3, h4, h5, g, hg, ho⟩ := ha
   exact ⟨r, hr, h1, h2, h3, h4, h5, g, hg, ho.mono hlo⟩
 ·
  have lt : ∀ (i : Nat) z, (rows ++ [a])[i]? = some z → i < rows.length ∧ rows[i]? = some z ∨ i = rows.length ∧ z = a := fun i z hz => by
   by_cases hi : i < rows.length
   ·
    rw [List.getElem?_append_left hi] at hz
    exact .inl ⟨hi, hz⟩
   ·
    have : i = rows.length := by
     have := (List.getElem?_eq_some_iff.1 hz).1
     simp at this; omega
    subst this
    rw [List.getElem?_append_right (Nat.le_refl _)] at hz
    simp at hz
    exact .inr ⟨rfl, hz.symm⟩
  obtain ⟨g, hg, hgM⟩ := hgM
  rcases lt j x hx with ⟨_, hx⟩ | ⟨e1, rfl⟩ <;> rcases lt k y hy with ⟨_, hy⟩ | ⟨e2, rfl⟩
  · exact h.2 j k x y hjk hx hy
  ·
   obtain ⟨g', hg', hl⟩ := hM j x (by assumption)
   rw [hg, hg']; intro e; injection e with e; injection e with e; omega
  ·
   obtain ⟨g', hg', hl⟩ := hM k y (by assumption)
   rw [hg, hg']; intro e; injection e with e; injection e with e; omega
  · omega
theorem CopyOf.lt {lo : Nat} {w : World} {rows : List Rw} {L : List Rg} (h : CopyOf lo w rows L) : ∀ (j : Nat) a, rows[j]? = some a → ∃ g, a.A = some ⟨g, 0, none⟩ ∧ g < w.heap.size := fun j a ha => by
 obtain ⟨r, _, _, _, _, _, _, g, hg, ho⟩ := h.1 j a ha
 exact ⟨g, hg, Own.lt ho⟩
theorem CopyOf.all {lo : Nat} {w : World} {rows : List Rw} {L : List Rg} (h : CopyOf lo w rows L) : AllIs lo w.heap.size w rows L := fun i a ha => by
 obtain ⟨r, hr, h1, h2, h3, h4, h5, g, hg, ho⟩ := h.1 i a ha
 exact ⟨r, hr, h1, h2, h3, h4, ho.1, fun _ => ⟨g, hg, Own.lt ho, ho⟩⟩
theorem PlsO.grown {N : Nat} {w w' : World} {g n cap : Nat} {l : List Pl} {row : Option Nat} (h : PlsO N w g n cap l) (hg : w.grownBy w' row) (hne : some g ≠ row) : PlsO N w' g n cap l := Own.keep h (hg.block g (Own.lt h) hne)
theorem rw_one {l : List Rw} : ∀ u ∈ l.flatMap Rw.cs, u.oneCell' = true := by
 intro u hu
 obtain ⟨p, _, hp⟩ := List.mem_flatMap.1 hu
 simp [Rw.cs] at hp
 rcases hp with rfl | rfl | rfl | rfl | rfl <;> rfl
theorem ring_info : (Tryz.prog.info? 79).map (fun i => (i.zero, i.size, i.bytes)) = some (some (.agg #[.int .i64 0, .int .i64 0, .bool false, .int .i64 0, .slice none 0 0]), 5, 56) := by kernel_rfl
theorem RgC.set_ne {w : World} {b i : Nat} {r : Rg} {A : Option Addr} {n cap : Nat} (h : RgC w b i r A n cap) {k : Nat} (hk : b ≠ k) (o : Nat) (u : Value) : RgC (w.setCell ⟨k, o, none⟩ u) b i r A n cap :=
 have q : ∀ (o' : Nat), (w.setCell ⟨k, o, none⟩ u).cell? ⟨b, o', none⟩ = w.cell? ⟨b, o', none⟩ := fun o' => World.cell?_of_block (Below.heap_setCell w ⟨k, o, none⟩ u b hk)
 ⟨(q _).trans h.1, (q _).trans h.2.1, (q _).trans h.2.2.1, (q _).trans h.2.2.2.1, (q _).trans h.2.2.2.2⟩
theorem RgC.grown {w w' : World} {b i : Nat} {r : Rg} {A : Option Addr} {n cap b0 x y : Nat} (h : RgC w b i r A n cap) (hg : w.grownBy w' (Value.slice (some ⟨b0, 0, none⟩) x y).ownBlock) (hk : b ≠ b0) : RgC w' b i r A n cap :=
 have q : ∀ (o' : Nat), w'.cell? ⟨b, o', none⟩ = w.cell? ⟨b, o', none⟩ := fun o' => World.cell?_of_block (hg.block b (World.block_lt_of_cell? w _ h.1) (fun e => hk (by have := own_blk e.symm; exact this)))
 ⟨(q _).trans h.1, (q _).trans h.2.1, (q _).trans h.2.2.1, (q _).trans h.2.2.2.1, (q _).trans h.2.2.2.2⟩
theorem RgC.sn {w : World} {b i : Nat} {r : Rg} {A : Option Addr} {n cap : Nat} (h : RgC w b i r A n cap) {k : Nat} {o : Nat} {u : Value} (hk : b ≠ k := by omega) : RgC (w.setCell ⟨k, o, none⟩ u) b i r A n cap := h.set_ne hk o u
def RetCopy (s : St) (n : Nat) (w : World) (e : Ending) (w' : World) : Prop :=
 ∃ b cap rows, e = .returned (stV s (some ⟨b, 0, none⟩) n cap) ∧ RwsO w.heap.size w' b n cap rows ∧ CopyOf w.heap.size w' rows s.rs ∧ Below w.heap.size w w'
def cpDV (s : St) (N b b0 i n cap c M : Nat) (r : Rg) (A' : Option Addr) (n' cap' : Nat) (rows : List Rw) : List Sl := [.v (.pointer (some ⟨(N + 1 + 1), 2, none⟩)),
 .v (.slice (some ⟨b0, 0, none⟩) i c),
 .v (.pointer (some ⟨N, 2, none⟩)),
 .v (.slice (some ⟨b, 0, none⟩) n cap),
 .v (.int .i64 ((i : Int))),
 .v (.pointer (some ⟨b, i * 5, none⟩)),
 .v (.agg #[r.h, r.t, r.c, r.x, .slice A' n' cap']),
 .e fun σ w => ∃ (g cg : Nat), σ 7 = .agg #[r.h, r.t, r.c, r.x, .slice (some ⟨g, 0, none⟩) n' cg] ∧ PlsO M w g n' cg r.ps,
 .e fun σ w => ∃ (g cg g2 : Nat), σ 8 = .slice (some ⟨g2, 0, none⟩) 1 1 ∧ BoxAt w g2 #[r.h, r.t, r.c, r.x, .slice (some ⟨g, 0, none⟩) n' cg] 79 ∧ M ≤ g2 ∧ PlsO M w g n' cg r.ps,
 .e fun σ w => ∃ (bb cc g cg : Nat), σ 9 = .slice (some ⟨bb, 0, none⟩) (i + 1) cc ∧ w.ownsRow (N + 3) 79 5 (.slice (some ⟨bb, 0, none⟩) (i + 1) cc) (i + 1) ((rows ++ [(⟨r.h, r.t, r.c, r.x, some ⟨g, 0, none⟩, n', cg⟩ : Rw)]).flatMap Rw.cs) ∧ PlsO M w g n' cg r.ps,
 .v (.pointer (some ⟨(N + 1 + 1), 2, none⟩)),
 .e fun σ w => ∃ (bb cc g cg : Nat), BoxAt w (N + 1 + 1) (aS s (some ⟨bb, 0, none⟩) (i + 1) cc) 32 ∧ w.ownsRow (N + 3) 79 5 (.slice (some ⟨bb, 0, none⟩) (i + 1) cc) (i + 1) ((rows ++ [(⟨r.h, r.t, r.c, r.x, some ⟨g, 0, none⟩, n', cg⟩ : Rw)]).flatMap Rw.cs) ∧ PlsO M w g n' cg r.ps]
set_option maxRecDepth 100000 in
set_option maxHeartbeats 2000000 in
theorem l3Copy_any (s : St) (A : Option Addr) (n cap lo hi : Nat) (w : World) (hr0 : RgsW lo hi w A n cap s.rs) (hh : hi ≤ w.heap.size) (h0 : 1 ≤ n) (hm : n ≤ 1048576) (hps : ∀ r ∈ s.rs, 0 < r.ps.length ∧ r.ps.length ≤ 1048576) :
  Calls Tryz.prog 36 #[stV s A n cap] w (RetCopy s n w) := by
 obtain ⟨i0, hi0, hz0, hz1, hz2⟩ := info_parts ring_info
 have HI := Lib.hid hi0
 have HZ0 := Lib.hid hz0
 have HZ1 := Lib.hid hz1
 have HZ2 := Lib.hid hz2
 clear hi0 hz0 hz1 hz2
 have HL := Lib.hid hr0.1
 have HPS := Lib.hid hps; clear hps
 obtain ⟨b, rows0, rfl, hbh, hro0, hal0⟩ := hr0.2 (by omega)
 clear hal0 hro0 rows0
 obtain ⟨N, hN⟩ : ∃ N, N = w.heap.size := ⟨_, rfl⟩
 have hN1 : w.heap.size ≤ N := by omega
 have hN2 : N ≤ w.heap.size := by omega
 have HN := Lib.hid hN
 unfold stV
 go_enter Tryz.func36, Tryz.ntmps36
 go_wp2
 rw [← HN.out]
 clear hN
 go_loopw [4] (fun s4 W => ∃ (i b0 c : Nat) (rows : List Rw), i ≤ n ∧ s4 = .int .i64 i ∧ Below N w W ∧ BoxAt W N (aS s (some ⟨b, 0, none⟩) n cap) 32 ∧ BoxAt W (N + 1) zS 32 ∧ BoxAt W (N + 1 + 1) (aS s (some ⟨b0, 0, none⟩) i c) 32 ∧ N + 3 ≤ b0 ∧ rows.length = i ∧ CopyOf (N + 3) W rows s.rs ∧ W.ownsRow (N + 3) 79 5 (.slice (some ⟨b0, 0, none⟩) i c) i (rows.flatMap Rw.cs)) (fun s4 _ => n - (intOf s4).toNat)
 case atStart =>
  refine ⟨0, N + 1 + 1 + 1, 0, [], Nat.zero_le _, rfl, ?_, ?_, ?_, ?_, by omega, rfl, ⟨fun j a h => by simp at h, fun j k a b _ h => by simp at h⟩, ?_⟩
  · exact ((((Below.refl _ _).alloc (by omega) _).alloc (by simp; omega) _).alloc (by simp; omega) _).alloc (by simp; omega) _
  · exact (((BoxAt.new' (by omega)).alloc _).alloc _).alloc _
  · exact ((BoxAt.new' (by simp; omega)).alloc _).alloc _
  · exact (BoxAt.new' (by simp; omega)).alloc _
  · exact own_made (by simp; omega) (by simp; omega)
 case round =>
  obtain ⟨i, b0, c, rows, hin, rfl, hB, hs, hz, hy, hb0, hrl, hcp, hO⟩ := hrel
  have HRL := Lib.hid hrl
  have ks := hs.cell
  by_cases hlt : i < n
  ·
   obtain ⟨b', r, A', n', cap', hbe, hlb, hbh', hri, c0, c1, c2, c3, c4, hpl⟩ := (hr0.below (hB.mono hN1) hh).at_ hlt
   obtain rfl : b = b' := by injection hbe with hbe; injection hbe
   have hc : RgC wr b i r A' n' cap' := ⟨c0, c1, c2, c3, c4⟩
   obtain ⟨hn0, hpn⟩ := HPS.out r (List.mem_of_getElem? hri)
   rw [hpl.1] at hn0 hpn
   have HRI := Lib.hid hri
   clear hbe c0 c1 c2 c3 c4 hri
   have g1 : (i : Int) < (n : Int) := by omega
   have g2 : (0 : Int) ≤ (i : Int) := by omega
   obtain ⟨M, hMe⟩ : ∃ M, M = wr.heap.size := ⟨_, rfl⟩
   have hM : M ≤ wr.heap.size := by omega
   have hM2 : wr.heap.size ≤ M := by omega
   have ly := hy.lt
   have ll := hO.lt b0 rfl
   have hhM : hi ≤ M := by have := hB.size; omega
   clear hMe
   go_upto_region 6 with fail
   clear ks
   have hcp0 := Lib.hid hcp
   refine wp_region2v (fun w w' => Below w.heap.size w w') (fun _ _ h => h.size) (fun _ => Below.refl _ _) (fun L W' => Below N w W' ∧ BoxAt W' N (aS s (some ⟨b, 0, none⟩) n cap) 32 ∧ BoxAt W' (N + 1) zS 32 ∧ RgC W' b i r A' n' cap' ∧ PlsW lo hi W' A' n' cap' r.ps ∧ M ≤ W'.heap.size ∧ CopyOf (N + 3) W' rows s.rs ∧ (L 9 = false → W'.ownsRow (N + 3) 79 5 (.slice (some ⟨b0, 0, none⟩) i c) i (rows.flatMap Rw.cs)) ∧ (∃ x0, BoxAt W' (N + 1 + 1) #[s.rd, s.mo, x0, s.fi, s.la] 32) ∧ (L 11 = false → BoxAt W' (N + 1 + 1) (aS s (some ⟨b0, 0, none⟩) i c) 32)) (cpDV s N b b0 i n cap c M r A' n' cap' rows) (fun j => [0, 0, 0, 0, 0, 0, 0, 0, 0, 1, 0, 1].getD j 0) [] (by kernel_rfl) (by kernel_rfl) ?_ ?_ ?_
    (.still rfl ?a0 <| .still rfl ?a1 <| .still rfl ?a2 <| .still rfl ?a3 <| .still rfl ?a4 <| .still rfl ?a5 <| .still rfl ?a6 <| .grow rfl ?a7 <| .grow rfl ?a8 <| .store rfl ?a9 <| .still rfl ?a10 <| .store rfl ?a11 <| .nil) ?_ ?_
   · exact ⟨fun _ _ _ h ⟨g, cg, e, hp⟩ => ⟨g, cg, (h 7 (List.mem_singleton.2 rfl)).symm.trans e, hp⟩, fun _ _ _ h ⟨g, cg, g2, e, hp⟩ => ⟨g, cg, g2, (h 8 (List.mem_singleton.2 rfl)).symm.trans e, hp⟩, fun _ _ _ h ⟨bb, cc, g, cg, e, hp⟩ => ⟨bb, cc, g, cg, (h 9 (List.mem_singleton.2 rfl)).symm.trans e, hp⟩, fun _ _ _ _ h => h, trivial⟩
   · exact ⟨fun σ w w' hb ⟨g, cg, e, hp⟩ => ⟨g, cg, e, hp.below hb⟩, fun σ w w' hb ⟨g, cg, g2, e, hp⟩ => ⟨g, cg, g2, e, ⟨hp.1.below hb hp.1.lt, hp.2.1, hp.2.2.below hb⟩⟩, fun σ w w' hb ⟨bb, cc, g, cg, e, hp⟩ => ⟨bb, cc, g, cg, e, ⟨own_keep hp.1 hb, hp.2.below hb⟩⟩, fun σ w w' hb ⟨bb, cc, g, cg, hx, hp⟩ => ⟨bb, cc, g, cg, hx.below hb hx.lt, ⟨own_keep hp.1 hb, hp.2.below hb⟩⟩, trivial⟩
   · exact ⟨hB.drew, hs, hz, hc, hpl, hM, hcp, fun _ => hO, ⟨_, hy⟩, fun _ => hy⟩
   case a0 | a2 | a4 | a5 | a10 =>
    go_light
    intro L σ W' hcl hL hC hw
    try have e3 := wT hw 3 rfl
    try have e4 := wT hw 4 rfl
    exact zstoreD0
   case a3 =>
    go_light
    intro L σ W' hcl hL hC hw
    have e2 := wV hw 2 rfl
    have ks := hC.2.1.cell
    exact zstoreD0
   case a6 =>
    go_light
    intro L σ W' hcl hL hC hw
    have e5 := wV hw 5 rfl
    have hc0 := hC.2.2.2.1
    obtain ⟨c0, c1, c2, c3, c4⟩ := hc0
    exact zstoreD0
   case a1 =>
    go_light
    intro L σ W' hcl hL hC hw
    have e0 := wV hw 0 rfl
    have ko := (hC.2.2.2.2.2.2.2.2.2 (hcl.not (j := 11) (k := 9) (by kernel_rfl) (hcl.not (j := 9) (k := 1) (by kernel_rfl) hL))).cell
    exact zstoreD0
   case a7 =>
    go_light
    intro L σ W' hcl hL hC hw
    have e6 := wV hw 6 rfl
    clear hw
    have HC := Lib.hid hC
    clear hC
    clear hcl hL
    refine OpGoes.go fun K hK => ?_
    go_simp
    obtain ⟨hB, hs, hz, hc, hpl, hM, hcp, hO, ⟨_, hy⟩, hy_o⟩ := HC.out
    refine (l2Copy_any r.h r.t r.c r.x A' n' cap' r.ps lo hi _ hpl hn0 hpn).mono ?_
    rintro e w1 ⟨g, cg, rfl, hO7, hb1⟩
    exact ⟨_, rfl, hK _ _ ⟨⟨bstep hB (Nat.le_trans hN2 hB.size) hb1, hs.below hb1 hs.lt, hz.below hb1 hz.lt, hc.below hb1, hpl.keep (.below hb1 (by omega)), Nat.le_trans hM hb1.size, hcp.below hb1, fun h => own_keep (hO (by simpa [upd] using h)) hb1, ⟨_, hy.below hb1 hy.lt⟩, fun h => (hy_o (by simpa [upd] using h)).below hb1 (hy_o (by simpa [upd] using h)).lt⟩, ⟨g, cg, rfl, hO7.mono hM⟩, hb1⟩⟩
   case a8 =>
    go_light
    intro L σ W' hcl hL hC hw
    obtain ⟨g, cg, e7, hp7⟩ := wE hw 7 rfl
    clear hw
    have HC := Lib.hid hC
    clear hC
    clear hcl hL
    refine OpGoes.go fun K hK => ?_
    go_simp
    obtain ⟨hB, hs, hz, hc, hpl, hM, hcp, hO, ⟨_, hy⟩, hy_o⟩ := HC.out
    have hb1 : Below W'.heap.size W' (W'.alloc (.cells #[r.h, r.t, r.c, r.x, .slice (some ⟨g, 0, none⟩) n' cg] 79)) := (Below.refl _ _).alloc (Nat.le_refl _) _
    exact hK _ _ ⟨⟨bstep hB (Nat.le_trans hN2 hB.size) hb1, hs.below hb1 hs.lt, hz.below hb1 hz.lt, hc.below hb1, hpl.keep (.below hb1 (by omega)), Nat.le_trans hM hb1.size, hcp.below hb1, fun h => own_keep (hO (by simpa [upd] using h)) hb1, ⟨_, hy.below hb1 hy.lt⟩, fun h => (hy_o (by simpa [upd] using h)).below hb1 (hy_o (by simpa [upd] using h)).lt⟩, ⟨g, cg, W'.heap.size, rfl, BoxAt.new _ _ _, hM, hp7.al _⟩, hb1⟩
   case a9 =>
    go_light
    intro L σ W' hcl hL hC hw hne
    have e1 := wV hw 1 rfl
    obtain ⟨g, cg, g2, e8, hp8⟩ := wE hw 8 rfl
    clear hw hne
    obtain ⟨hB, hs, hz, hc, hpl, hM, hcp, hO, ⟨_, hy⟩, hy_o⟩ := hC
    have hO9 := (hO hL)
    have ll := hO9.lt b0 rfl
    clear hcl hL
    refine OpGoes.append_own rfl (.tmp 16) (.tmp 23) _ rfl (N + 3) 79 i0 _ 5 56 Tryz.underlying30 HI.out HZ0.out HZ1.out HZ2.out rfl (by omega) (.slice (some ⟨b0, 0, none⟩) i c) i _ (by go_simp) hO9 ⟨g2, 0, none⟩ 1 1 [r.h, r.t, r.c, r.x, .slice (some ⟨g, 0, none⟩) n' cg] (by go_simp) rfl (news_box hp8.1) (by intro u hu; simp at hu; rcases hu with rfl | rfl | rfl | rfl | rfl <;> rfl) (by unfold maxLen; omega) (by omega) (by omega) ?_
    intro v' w' hO' hg hat
    obtain ⟨bb, cc, rfl, hP'⟩ := Own.of_row (f := Rw.cs) (l := rows ++ [(⟨r.h, r.t, r.c, r.x, some ⟨g, 0, none⟩, n', cg⟩ : Rw)]) (n := i + 1) (by rw [List.flatMap_append]; exact hO') (by simp [hrl]) (by omega)
    have kg : ∀ k, (Value.slice (some ⟨b0, 0, none⟩) i c).ownBlock = some k → k = b0 := fun k hk => own_blk hk
    refine ⟨⟨Below.grown hB hg (by omega) (fun k hk => by have := own_blk hk; omega), hs.grown hg (fun k hk => by have := own_blk hk; omega), hz.grown hg (fun k hk => by have := own_blk hk; omega), hc.grown hg (by omega), hpl.keep (fun j h1 h2 => hg.block j (by omega) (fun e => by have := own_blk e.symm; omega)), Nat.le_trans hM hg.size, hcp.grown hO9 hg, fun h => absurd h (by simp [upd]), ⟨_, hy.grown hg (fun k hk => by have := own_blk hk; omega)⟩, fun h => (hy_o (by simpa [upd] using h)).grown hg (fun k hk => by have := own_blk hk; omega)⟩, ⟨bb, cc, g, cg, rfl, hP'.own Rw.cs_len, hp8.2.2.grown hg (by intro e; have := own_blk e.symm; have := hp8.2.2.ge; omega)⟩, hg.size, fun j hj hn hR => ?_⟩
    refine keepV ?_ j hj hn hR
    exact ⟨fun _ _ ⟨g, cg, e, hp⟩ => ⟨g, cg, e, hp.grown hg (by intro e; have := own_blk e.symm; have := hp.ge; omega)⟩, fun _ _ ⟨g, cg, g2, e, hp⟩ => ⟨g, cg, g2, e, ⟨hp.1.grown2 hg (fun e => by have := own_blk e; have := hp.2.1; omega), hp.2.1, hp.2.2.grown hg (by intro e; have := own_blk e.symm; have := hp.2.2.ge; omega)⟩⟩, fun h => absurd rfl h, fun _ h => absurd (h.symm.trans (show waits _ _ _ = true by kernel_rfl)) (by decide), trivial⟩
   case a11 =>
    go_light
    intro L σ W' hcl hL hC hw hne
    obtain ⟨bb, cc, g, cg, e9, hp9⟩ := wE hw 9 rfl
    have e10 := wV hw 10 rfl
    clear hw hne
    have HC := Lib.hid hC
    obtain ⟨hB, hs, hz, hc, hpl, hM, hcp, hO, ⟨_, hy⟩, hy_o⟩ := hC
    clear hcl hL
    have kc_ := hy.cell
    have kf_ := hy.frozen
    clear hB hs hz hc hpl hM hcp hO hy hy_o
    refine OpGoes.go fun K hK => ?_
    go_simp
    obtain ⟨hB, hs, hz, hc, hpl, hM, hcp, hO, ⟨_, hy⟩, hy_o⟩ := HC.out
    have hset := (hy.set 2 (.slice (some ⟨bb, 0, none⟩) (i + 1) cc))
    simp only [List.setIfInBounds_toArray, List.set_cons_zero, List.set_cons_succ] at hset
    refine hK _ _ ⟨⟨(sc hB), (hs.sn), (hz.sn), (hc.sn), (hpl.keep (.set (by omega) _ _)), (size_st hM), (hcp.set hy (by decide) _ _), fun h => (ownsRow_setCell_below (hO (by simpa [upd] using h)) (by dsimp only; omega) _), ⟨_, hset⟩, fun h => absurd h (by simp [upd])⟩, ⟨bb, cc, g, cg, hset, (⟨ownsRow_setCell_below hp9.1 (by dsimp only; omega) _, hp9.2.set_ne (by have := hp9.2.ge; omega) _ _⟩)⟩, by simp, keepV ?_⟩
    exact ⟨fun _ _ ⟨g_x, cg_x, e, hp⟩ => ⟨g_x, cg_x, e, (hp.set_ne (by have := hp.ge; omega) _ _)⟩, fun _ _ ⟨g_x, cg_x, g2_x, e, hp⟩ => ⟨g_x, cg_x, g2_x, e, (⟨hp.1.set_ne (by have := hp.2.1; omega) _ _, hp.2.1, hp.2.2.set_ne (by have := hp.2.2.ge; omega) _ _⟩)⟩, fun _ _ ⟨bb_x, cc_x, g_x, cg_x, e, hp⟩ => ⟨bb_x, cc_x, g_x, cg_x, e, (⟨ownsRow_setCell_below hp.1 (by dsimp only; omega) _, hp.2.set_ne (by have := hp.2.ge; omega) _ _⟩)⟩, fun h => absurd rfl h, trivial⟩
   ·
    intro L L' W' hLL hC
    obtain ⟨hB, hs, hz, hc, hpl, hM, hcp, hO, ⟨_, hy⟩, hy_o⟩ := hC
    exact ⟨hB, hs, hz, hc, hpl, hM, hcp, fun h => hO (hLL _ h), ⟨_, hy⟩, fun h => hy_o (hLL _ h)⟩
   ·
    intro σ L W' hall hC hRR
    obtain ⟨hB, hs, hz, hc, hpl, hM, hcp, hO, ⟨_, hy⟩, hy_o⟩ := hC
    obtain ⟨bb, cc, g, cg, s11, hp11⟩ := dE hRR 11 rfl
    clear hRR
    simp only [lexAll]
    go_simp
    go_step
    go_wp2
    go_roundw
    case rel =>
     go_light
     refine ⟨i + 1, bb, cc, rows ++ [(⟨r.h, r.t, r.c, r.x, some ⟨g, 0, none⟩, n', cg⟩ : Rw)], by omega, by go_num, hB, hs, hz, s11, by have := hp11.1.lt bb rfl; omega, by simp [HRL.out], ?_, hp11.1⟩
     exact hcp.snoc (M := M) (fun j a ha => by obtain ⟨gg, h1, h2⟩ := hcp0.out.lt j a ha; exact ⟨gg, h1, by omega⟩) (by rw [HRL.out]; exact HRI.out) ⟨rfl, rfl, rfl, rfl, hn0, g, rfl, hp11.2⟩ (by omega)
    case measure => simp [intOf]; omega
  ·
   have g1 : ¬ (i : Int) < (n : Int) := by omega
   obtain rfl : n = i := by omega
   obtain ⟨b1, c1, e1, hP⟩ := Own.of_row hO hrl (by omega)
   injection e1 with e1 _ e2
   injection e1 with e1
   injection e1 with e1
   subst e1 e2
   have hg := hP.2.1
   have kz := hz.cell
   have fz := hz.frozen
   have ky := hy.cell
   go_wp2
   refine bodyPost_ret (v := stV s (some ⟨b0, 0, none⟩) n c) (by simp [results, Tryz.results36, go_sem, kz, stV]) rfl ⟨b0, c, rows, rfl, ?_, ?_, ?_⟩
   ·
    rw [← HN.out]
    exact ((((((Own.mono hP (by omega)).sn).sn).sn).sn).sn)
   ·
    rw [← HN.out]
    exact CopyOf.setCells (aS s (some ⟨b0, 0, none⟩) n c) 0 hz (by decide) (hcp.mono (by omega))
   ·
    rw [← HN.out]
    exact (sc (sc (sc (sc (sc hB)))))
end Go.Proofs.YthpckpnlohfcbaaGreatDoor

/-
  Stores as the laws copy and mark them: rings of the call's own, no two of which share their places.
-/
import Derived.Test.YtomfaabifpndbaaGreatLawA
namespace Go.Proofs.YtomfaabifpndbaaGreat
set_option linter.unusedSimpArgs false
set_option linter.unusedVariables false
open Go.RowKit
attribute [local go_sem ↓] Go.wp_at_zero Go.wp_at_succ

/-- A ring's cells, its places in a block of their own. -/
def RwD (lo hi : Nat) (w : World) (a : Rw) (r : Rg) : Prop := a.h = r.h ∧ a.t = r.t ∧ a.c = r.c ∧ a.x = r.x ∧ ∃ g, a.A = some ⟨g, 0, none⟩ ∧ g < hi ∧ PlsO lo w g a.n a.cap r.ps
/-- The cells of rings; no two share their places. -/
def DOf (lo hi : Nat) (w : World) (rows : List Rw) (L : List Rg) : Prop :=
  (∀ (j : Nat) (a : Rw), rows[j]? = some a → ∃ r, L[j]? = some r ∧ RwD lo hi w a r) ∧ (∀ (j k : Nat) (a b : Rw), j ≠ k → rows[j]? = some a → rows[k]? = some b → a.A ≠ b.A)

theorem RwD.keep {lo hi : Nat} {w w' : World} {a : Rw} {r : Rg} (h : RwD lo hi w a r) (hs : ∀ g, a.A = some ⟨g, 0, none⟩ → lo ≤ g → g < hi → g < w.heap.size → w'.heap[g]? = w.heap[g]?) : RwD lo hi w' a r := by
  obtain ⟨h1, h2, h3, h4, g, hg, hh, ho⟩ := h
  exact ⟨h1, h2, h3, h4, g, hg, hh, Own.keep ho (hs g hg ho.ge hh (Own.lt ho))⟩
theorem RwD.mono {lo hi lo' hi' : Nat} {w : World} {a : Rw} {r : Rg} (h : RwD lo hi w a r) (h1 : lo' ≤ lo) (h2 : hi ≤ hi') : RwD lo' hi' w a r := by
  obtain ⟨e1, e2, e3, e4, g, hg, hh, ho⟩ := h
  exact ⟨e1, e2, e3, e4, g, hg, by omega, ho.mono h1⟩
theorem DOf.keep {lo hi : Nat} {w w' : World} {rows : List Rw} {L : List Rg} (h : DOf lo hi w rows L) (hs : ∀ g cs, lo ≤ g → g < hi → BoxAt w g cs 56 → w'.heap[g]? = w.heap[g]?) : DOf lo hi w' rows L :=
  ⟨fun j a ha => by
    obtain ⟨r, hr, h1, h2, h3, h4, g, hg, hh, ho⟩ := h.1 j a ha
    have ho' := ho
    obtain ⟨_, _, _, _, cur, hb, _⟩ := ho'
    exact ⟨r, hr, h1, h2, h3, h4, g, hg, hh, Own.keep ho (hs g cur ho.ge hh hb)⟩, h.2⟩
theorem DOf.mono {lo hi lo' hi' : Nat} {w : World} {rows : List Rw} {L : List Rg} (h : DOf lo hi w rows L) (h1 : lo' ≤ lo) (h2 : hi ≤ hi') : DOf lo' hi' w rows L :=
  ⟨fun j a ha => by obtain ⟨r, hr, hd⟩ := h.1 j a ha; exact ⟨r, hr, hd.mono h1 h2⟩, h.2⟩
/-- Two blocks of different types are two. -/
theorem box_ne {w : World} {g k : Nat} {cs ds : Array Value} {t u : TypeId} (h : BoxAt w g cs t) (h' : BoxAt w k ds u) (ht : t ≠ u) : g ≠ k := by
  rintro rfl
  unfold BoxAt at h h'
  rw [h] at h'
  injection h' with h'
  injection h' with _ h'
  exact ht h'
theorem own_box {α : Type} {f : α → List Value} {k : Nat} {e : TypeId} {N : Nat} {w : World} {g n cap : Nat} {l : List α} (h : Own f k e N w g n cap l) : ∃ cs, BoxAt w g cs e := by
  obtain ⟨_, _, _, _, cur, hb, _⟩ := h
  exact ⟨cur, hb⟩

theorem DOf.snoc {lo hi M : Nat} {w : World} {rows : List Rw} {L : List Rg} (h : DOf lo M w rows L) {a : Rw} {r : Rg} (hr : L[rows.length]? = some r) (ha : RwD M hi w a r) (hlo : lo ≤ M) (hM : M ≤ hi) : DOf lo hi w (rows ++ [a]) L := by
  have lt : ∀ (i : Nat) z, (rows ++ [a])[i]? = some z → i < rows.length ∧ rows[i]? = some z ∨ i = rows.length ∧ z = a := fun i z hz => by
    by_cases hi : i < rows.length
    · rw [List.getElem?_append_left hi] at hz
      exact .inl ⟨hi, hz⟩
    · have : i = rows.length := by
        have := (List.getElem?_eq_some_iff.1 hz).1
        simp at this; omega
      subst this
      rw [List.getElem?_append_right (Nat.le_refl _)] at hz
      simp at hz
      exact .inr ⟨rfl, hz.symm⟩
  have old : ∀ (i : Nat) z, rows[i]? = some z → ∃ g, z.A = some ⟨g, 0, none⟩ ∧ g < M := fun i z hz => by
    obtain ⟨_, _, _, _, _, _, g, hg, hh, _⟩ := h.1 i z hz
    exact ⟨g, hg, hh⟩
  obtain ⟨ga, hga, hgM⟩ : ∃ g, a.A = some ⟨g, 0, none⟩ ∧ M ≤ g := by
    obtain ⟨_, _, _, _, g, hg, _, ho⟩ := ha
    exact ⟨g, hg, ho.ge⟩
  have apart : ∀ (i : Nat) z, rows[i]? = some z → z.A ≠ a.A := fun i z hz e => by
    obtain ⟨g, hg, hl⟩ := old i z hz
    rw [hg, hga] at e
    injection e with e
    injection e with e
    omega
  refine ⟨fun j b hb => ?_, fun j k x y hjk hx hy => ?_⟩
  · rcases lt j b hb with ⟨_, hb⟩ | ⟨rfl, rfl⟩
    · obtain ⟨r', hr', hd⟩ := h.1 j b hb
      exact ⟨r', hr', hd.mono (Nat.le_refl _) hM⟩
    · exact ⟨r, hr, ha.mono hlo (Nat.le_refl _)⟩
  · rcases lt j x hx with ⟨_, hx'⟩ | ⟨ej, ex⟩
    · rcases lt k y hy with ⟨_, hy'⟩ | ⟨ek, ey⟩
      · exact h.2 j k x y hjk hx' hy'
      · rw [ey]; exact apart j x hx'
    · rcases lt k y hy with ⟨_, hy'⟩ | ⟨ek, ey⟩
      · rw [ex]; exact fun e => apart k y hy' e.symm
      · exact absurd (ej.trans ek.symm) hjk

/-- Ring number i turned, its places with it. -/
theorem DOf.turn {lo hi : Nat} {w w' : World} {rows : List Rw} {L : List Rg} (h : DOf lo hi w rows L) {i g : Nat} {a : Rw} {r : Rg} (ha : rows[i]? = some a) (hr : L[i]? = some r) (hg : a.A = some ⟨g, 0, none⟩)
    (hs : ∀ k cs, BoxAt w k cs 56 → k ≠ g → w'.heap[k]? = w.heap[k]?) {h' t' x' : Int} {c' : Bool} {ps' : List Pl} (hp : PlsO lo w' g a.n a.cap ps') :
    DOf lo hi w' (rows.set i ⟨h', t', c', x', a.A, a.n, a.cap⟩) (L.set i ⟨h', t', c', x', ps'⟩) := by
  have hi : i < rows.length := (List.getElem?_eq_some_iff.1 ha).1
  have hiL : i < L.length := (List.getElem?_eq_some_iff.1 hr).1
  have key : ∀ (j : Nat) b, (rows.set i ⟨h', t', c', x', a.A, a.n, a.cap⟩)[j]? = some b → ∃ b', rows[j]? = some b' ∧ b.A = b'.A := fun j b hb => by
    by_cases hj : i = j
    · subst hj
      rw [List.getElem?_set_self hi] at hb
      injection hb with hb
      subst hb
      exact ⟨a, ha, rfl⟩
    · rw [List.getElem?_set_ne hj] at hb
      exact ⟨b, hb, rfl⟩
  refine ⟨fun j b hb => ?_, fun j k x y hjk hx hy => ?_⟩
  · by_cases hj : i = j
    · subst hj
      rw [List.getElem?_set_self hi] at hb
      injection hb with hb
      subst hb
      obtain ⟨r0, hr0, _, _, _, _, g0, hg0, hh, _⟩ := h.1 i a ha
      obtain rfl : g = g0 := by
        rw [hg] at hg0
        injection hg0 with hg0
        injection hg0
      exact ⟨_, List.getElem?_set_self hiL, rfl, rfl, rfl, rfl, g, hg, hh, hp⟩
    · rw [List.getElem?_set_ne hj] at hb ⊢
      obtain ⟨r0, hr0, h1, h2, h3, h4, g0, hg0, hh, ho⟩ := h.1 j b hb
      have hne : g0 ≠ g := by
        rintro rfl
        exact h.2 i j a b hj ha hb (by rw [hg, hg0])
      obtain ⟨cs, hb0⟩ := own_box ho
      exact ⟨r0, hr0, h1, h2, h3, h4, g0, hg0, hh, Own.keep ho (hs g0 cs hb0 hne)⟩
  · obtain ⟨x0, hx0, ex⟩ := key j x hx
    obtain ⟨y0, hy0, ey⟩ := key k y hy
    rw [ex, ey]
    exact h.2 j k x0 y0 hjk hx0 hy0

/-- Rings in a slice of a block of its own, no two of which share their places. -/
def RgsD (lo hi : Nat) (w : World) (A : Option Addr) (n cap : Nat) (L : List Rg) : Prop :=
  L.length = n ∧ (0 < n → ∃ b rows, A = some ⟨b, 0, none⟩ ∧ b < hi ∧ RwsO lo w b n cap rows ∧ DOf lo hi w rows L)

section
variable {lo hi lo' hi' : Nat} {w w' : World} {A : Option Addr} {n cap : Nat} {L : List Rg}
theorem RgsD.toW (h : RgsD lo hi w A n cap L) : RgsW lo hi w A n cap L :=
  ⟨h.1, fun hn => by
    obtain ⟨b, rows, e, hb, ho, hd⟩ := h.2 hn
    refine ⟨b, rows, e, hb, ho, fun i a ha => ?_⟩
    obtain ⟨r, hr, h1, h2, h3, h4, g, hg, hh, hp⟩ := hd.1 i a ha
    exact ⟨r, hr, h1, h2, h3, h4, by rw [hg]; exact hp.w hh⟩⟩
theorem RgsD.keep (h : RgsD lo hi w A n cap L) (hs : SameIn lo hi w w') : RgsD lo hi w' A n cap L :=
  ⟨h.1, fun hn => by
    obtain ⟨b, rows, e, hb, ho, hd⟩ := h.2 hn
    exact ⟨b, rows, e, hb, Own.keep ho (hs b ho.2.1 hb), hd.keep fun g _ h1 h2 _ => hs g h1 h2⟩⟩
theorem RgsD.below (h : RgsD lo hi w A n cap L) (hb : Below w.heap.size w w') (hh : hi ≤ w.heap.size) : RgsD lo hi w' A n cap L := h.keep (.below hb hh)
theorem RgsD.mono (h : RgsD lo hi w A n cap L) (h1 : lo' ≤ lo) (h2 : hi ≤ hi') : RgsD lo' hi' w A n cap L :=
  ⟨h.1, fun hn => by
    obtain ⟨b, rows, e, hb, ho, hd⟩ := h.2 hn
    exact ⟨b, rows, e, by omega, Own.mono ho h1, hd.mono h1 h2⟩⟩
theorem RgsD.nil : RgsD lo hi w none 0 0 [] := ⟨rfl, fun h => absurd h (by omega)⟩
theorem RgsD.r (h : RgsD lo hi w A n cap L) : RgsR 0 w A n L := h.toW.r
end

/-! ### The copies that the laws make -/

theorem ring_info : (Tryz.prog.info? 81).map (fun i => (i.zero, i.size, i.bytes)) = some (some (.agg #[.int .i64 0, .int .i64 0, .bool false, .int .i64 0, .slice none 0 0]), 5, 56) := by kernel_rfl
def Rw.zero : Rw := ⟨0, 0, false, 0, none, 0, 0⟩

/-- What toRingS yields. -/
def ToRgs (n : Nat) (L : List Rg) (w : World) (e : Ending) (w' : World) : Prop :=
  ∃ g, e = .returned (.slice (some ⟨g, 0, none⟩) n n) ∧ RgsD w.heap.size w'.heap.size w' (some ⟨g, 0, none⟩) n n L ∧ Below w.heap.size w w'

set_option maxRecDepth 100000 in
set_option maxHeartbeats 1000000 in
theorem toRingS_any (A : Option Addr) (n cap : Nat) (L : List Rg) (w : World) (h : RgsR 0 w A n L) (hn : n ≤ 1048576) (hm : ∀ r ∈ L, r.ps.length ≤ 1048576) :
    Calls Tryz.prog 74 #[.slice A n cap] w (ToRgs n L w) := by
  obtain ⟨i0, hi0, hz0, hz1, hz2⟩ := info_parts ring_info
  have hmk : ∀ W : World, (Instr.makeSlice 24 (.int .i64 (n : Int)) (.int .i64 (n : Int))).run Tryz.prog W = .ok (.slice (some ⟨W.heap.size, 0, none⟩) n n) (W.alloc (.cells (madeCells #[.int .i64 0, .int .i64 0, .bool false, .int .i64 0, .slice none 0 0] (n * 5)) 81)) := by
    intro W
    have := run_make (P := Tryz.prog) W 24 81 i0 _ Tryz.underlying24 hi0 hz0 .i64 .i64 n n (by omega) (by omega) (by rw [hz2]; omega) (by omega)
    rw [hz1] at this
    simpa [Value.cells] using this
  have HM := Lib.hid hm; clear hm
  go_enter Tryz.func74, Tryz.ntmps74
  go_wp2
  have hln := h.1
  obtain rfl : L.length = n := hln
  clear hmk hi0 hz0 hz1 hz2
  go_loopw [4] (fun s4 W => ∃ (i : Nat) (rows : List Rw), i ≤ L.length ∧ s4 = .int .i64 i ∧ rows.length = i ∧ Below w.heap.size w W ∧ RwsO w.heap.size W w.heap.size L.length L.length (rows ++ List.replicate (L.length - i) Rw.zero) ∧ DOf w.heap.size W.heap.size W rows L) (fun s4 _ => L.length - (intOf s4).toNat)
  case atStart =>
    refine ⟨0, [], Nat.zero_le _, rfl, rfl, (Below.refl _ _).alloc (Nat.le_refl _) _, ?_, fun j a ha => by simp at ha, fun j k a b _ ha _ => by simp at ha⟩
    rw [Nat.sub_zero, List.nil_append]
    exact Own.made Rw.cs_len (by omega) Rw.zero _ rfl (Nat.le_refl _) _ (by unfold maxLen; omega)
  case round =>
    obtain ⟨i, rows, hi, rfl, hrl, hB, hO, hD⟩ := hrel
    by_cases hlt : i < L.length
    · obtain ⟨b, o, r, rfl, _, hri, A', n', cap', c0, c1, c2, c3, c4, hm, hp⟩ := SlE.at_ (SlE.keep RgE.kept h (fun j _ hj => hB.block j hj)) hlt
      have h1 : (i : Int) < (L.length : Int) := by omega
      have h2 : (0 : Int) ≤ (i : Int) := by omega
      have hle : n' ≤ 1048576 := by have := HM.out r (List.mem_of_getElem? hri); have := hp.1; omega
      have HR := Lib.hid hri; clear hri
      have HL := Lib.hid hrl; clear hrl
      go_wp2_with fail
      refine (toRing_any r.h r.t r.c r.x A' n' cap' r.ps _ hp hle).mono ?_
      rintro e w1 ⟨g, cap1, rfl, hG, hb1⟩
      unfold rgV
      clear c0 c1 c2 c3 c4
      have hO1 := Own.below hO hb1
      have hat : (rows ++ List.replicate (L.length - i) Rw.zero)[i]? = some Rw.zero := by
        rw [List.getElem?_append_right (by rw [HL.out]; exact Nat.le_refl _), HL.out, Nat.sub_self, List.getElem?_replicate, if_pos (by omega)]
      have d0 := Own.cell_ Rw.cs_len hO1 (j := 0) hat rfl
      have d1 := Own.cell_ Rw.cs_len hO1 (j := 1) hat rfl
      have d2 := Own.cell_ Rw.cs_len hO1 (j := 2) hat rfl
      have d3 := Own.cell_ Rw.cs_len hO1 (j := 3) hat rfl
      have d4 := Own.cell_ Rw.cs_len hO1 (j := 4) hat rfl
      rw [Nat.add_zero] at d0
      clear hat
      have df := Own.frozen_ hO1
      go_wp2
      go_roundw
      case rel =>
        obtain ⟨csO, hbO⟩ := own_box hO1
        refine ⟨i + 1, rows ++ [⟨r.h, r.t, r.c, r.x, some ⟨g, 0, none⟩, n', cap1⟩], by omega, by go_num, by simp [HL.out], ?_, ?_, ?_⟩
        · exact Below.setCells (Nat.le_refl _) (⟨r.h, r.t, r.c, r.x, some ⟨g, 0, none⟩, n', cap1⟩ : Rw).cs (i * 5) (bstep hB hB.size hb1)
        · have := Own.setEl hO1 Rw.cs_len (by omega) hlt (⟨r.h, r.t, r.c, r.x, some ⟨g, 0, none⟩, n', cap1⟩ : Rw)
          rw [List.set_append_right _ _ (by rw [HL.out]; exact Nat.le_refl _), HL.out, Nat.sub_self, show L.length - i = (L.length - (i + 1)) + 1 by omega, List.replicate_succ, List.set_cons_zero] at this
          rw [List.append_assoc]
          exact this
        · have hx : DOf w.heap.size w1.heap.size w1 (rows ++ [⟨r.h, r.t, r.c, r.x, some ⟨g, 0, none⟩, n', cap1⟩]) L := (hD.keep fun k _ _ hk _ => hb1.block k hk).snoc (by rw [HL.out]; exact HR.out) ⟨rfl, rfl, rfl, rfl, g, rfl, Own.lt hG, hG⟩ hB.size hb1.size
          refine (hx.keep fun k cs h1 h2 hk => ?_).mono (Nat.le_refl _) (by simp)
          have hne := box_ne hk hbO (by decide)
          simp only [World.setCell, Array.getElem?_modify, Ne.symm hne, if_false]
      case measure => simp [intOf]; omega
    · have h1 : ¬ (i : Int) < (L.length : Int) := by omega
      obtain rfl : i = L.length := by omega
      go_wp2
      go_ret
      rw [Nat.sub_self, List.replicate_zero, List.append_nil] at hO
      exact ⟨_, rfl, ⟨rfl, fun _ => ⟨_, rows, rfl, Own.lt hO, hO, hD⟩⟩, hB⟩

/-- A store of the call's own is returned. -/
def RetSt (s : St) (w : World) (e : Ending) (w' : World) : Prop :=
  ∃ A n cap, e = .returned (stV s A n cap) ∧ RgsD w.heap.size w'.heap.size w' A n cap s.rs ∧ Below w.heap.size w w'

set_option maxRecDepth 100000 in
set_option maxHeartbeats 1000000 in
theorem toStore_any (s : St) (A : Option Addr) (n cap : Nat) (w : World) (h : RgsR 0 w A n s.rs) (hn : n ≤ 1048576) (hm : ∀ r ∈ s.rs, r.ps.length ≤ 1048576) :
    Calls Tryz.prog 45 #[stV s A n cap] w (RetSt s w) := by
  have HM := Lib.hid hm; clear hm
  unfold stV
  go_enter Tryz.func45, Tryz.ntmps45
  go_wp2_with fail
  refine calls_abs (fun W => Below w.heap.size w W ∧ BoxAt W w.heap.size #[.int .i64 s.rd, .int .i64 s.mo, .slice A n cap, .int .i64 s.fi, .int .i64 s.la] 41 ∧ BoxAt W (w.heap.size + 1) #[.int .i64 0, .int .i64 0, .slice none 0 0, .int .i64 0, .int .i64 0] 26 ∧ BoxAt W (w.heap.size + 1 + 1) #[.int .i64 s.rd, .int .i64 s.mo, .slice none 0 0, .int .i64 0, .int .i64 0] 26) ?_ ?_
  · exact ⟨(((Below.refl _ _).alloc (Nat.le_refl _) _).alloc (by simp) _).alloc (by simp; omega) _, ((BoxAt.new _ _ _).alloc _).alloc _, (BoxAt.new' (by simp)).alloc _, BoxAt.new' (by simp)⟩
  rintro W ⟨hB, ha, hx, hy⟩
  refine (toRingS_any A n cap s.rs _ (h.below hB) hn HM.out).mono ?_
  rintro e w1 ⟨g, rfl, hG, hb1⟩
  have ha1 := ha.below hb1 ha.lt
  have hx1 := hx.below hb1 hx.lt
  have hy1 := hy.below hb1 hy.lt
  have ka := ha1.cell
  have kx := hx1.cell
  have fx := hx1.frozen
  have ky := hy1.cell
  have fy := hy1.frozen
  have lx := hx.lt
  have ly := hy.lt
  go_wp2
  refine bodyPost_ret (v := stV s (some ⟨g, 0, none⟩) n n) (by simp [results, Tryz.results45, go_sem, kx, ky, stV]) rfl ⟨_, _, _, rfl, ?_, ?_⟩
  · refine (hG.keep (w' := _) ?_).mono hB.size (by simp)
    exact (((((((((SameIn.refl _ _ _).trans (SameIn.set (.inl (by omega)) _ _)).trans (SameIn.set (.inl (by omega)) _ _)).trans (SameIn.set (.inl (by omega)) _ _)).trans (SameIn.set (.inl (by omega)) _ _)).trans (SameIn.set (.inl (by omega)) _ _)).trans (SameIn.set (.inl (by omega)) _ _)).trans (SameIn.set (.inl (by omega)) _ _)).trans (SameIn.set (.inl (by omega)) _ _))
  · exact (((((((((bstep hB hB.size hb1).setCell (by dsimp only; omega) _).setCell (by dsimp only; omega) _).setCell (by dsimp only; omega) _).setCell (by dsimp only; omega) _).setCell (by dsimp only; omega) _).setCell (by dsimp only; omega) _).setCell (by dsimp only; omega) _).setCell (by dsimp only; omega) _)

end Go.Proofs.YtomfaabifpndbaaGreat

/-
  The walk of ValuesIn of the model.
-/
import Derived.Test.YtnebllfmnandgaaIterG
import Derived.Test.YtnebllfmnandgaaStoreT
import Derived.Test.YtnebllfmnandgaaStoreD
namespace Go.Proofs.Ytnebllfmnandgaa
open Go.RowKit
set_option linter.unusedVariables false
attribute [local go_sem] OpUpon
attribute [local go_sem ↓] Go.wp_at_zero Go.wp_at_succ

theorem IntsW.but {lo hi g : Nat} {w w' : World} {v : Value} {l : List Int} {cs : Array Value} (h : IntsW lo hi w v l) (hb : But g w w') (hg : BoxAt w g cs 39) : IntsW lo hi w' v l := by
  refine ⟨⟨h.1.1, ?_⟩, h.2⟩
  rcases h.1.2 with h' | ⟨k, cap, cur, hv, hk, hbx, hr⟩
  · exact .inl h'
  · exact .inr ⟨k, cap, cur, hv, hk, (hb.block k (Array.getElem?_eq_some_iff.1 hbx).1 (box_ne hbx hg (by decide))).trans hbx, hr⟩
theorem IntsW.grown {lo hi g : Nat} {w w' : World} {v : Value} {l : List Int} (h : IntsW lo hi w v l) (hg : w.grownBy w' (some g)) (hne : ∀ k, v.ownBlock = some k → k ≠ g) : IntsW lo hi w' v l := by
  refine ⟨⟨h.1.1, ?_⟩, h.2⟩
  rcases h.1.2 with h' | ⟨k, cap, cur, hv, hk, hbx, hr⟩
  · exact .inl h'
  · exact .inr ⟨k, cap, cur, hv, hk, (hg.block k (Array.getElem?_eq_some_iff.1 hbx).1 (fun e => hne k (by rw [hv]; simp [Value.ownBlock]) (by injection e))).trans hbx, hr⟩
theorem IntsW.not {lo hi : Nat} {w : World} {v : Value} {l : List Int} (h : IntsW lo hi w v l) {g : Nat} {cs : Array Value} {t : TypeId} (hb : BoxAt w g cs t) (ht : t ≠ 2) : ∀ k, v.ownBlock = some k → k ≠ g := fun k hk e => ints_not h.1 hb ht (by rw [hk, e])
/-- One number of them. -/
theorem IntsW.at_ {lo hi : Nat} {w : World} {A : Option Addr} {n cap : Nat} {l : List Int} (h : IntsW lo hi w (.slice A n cap) l) {i : Nat} {z : Int} (hi' : l[i]? = some z) : ∃ g, A = some ⟨g, 0, none⟩ ∧ w.cell? ⟨g, i, none⟩ = some (.int .i64 z) ∧ lo ≤ g ∧ g < hi := by
  have hl : 0 < l.length := by have := (List.getElem?_eq_some_iff.1 hi').1; omega
  obtain ⟨g, c, e, ho⟩ := Own.of_row (f := ic) h.1 rfl hl
  injection e with e1 _ _
  have d0 := Own.cell_ ic_len ho (j := 0) hi' rfl
  rw [Nat.add_zero, Nat.mul_one] at d0
  exact ⟨g, e1, d0, ho.2.1, h.2 g (by rw [e1]; simp [Value.ownBlock])⟩

theorem chain_mem {L : List Rg} : ∀ (k : Nat) (z : Int) (l : List Int), chain L k z = some l → ∀ y ∈ l, 0 ≤ y ∧ y < L.length
  | k, z, l, h => by
    by_cases h0 : z < 0
    · rw [chain_neg h0] at h
      injection h with h
      subst h; simp
    · cases k with
      | zero => rw [chain_zero h0] at h; cases h
      | succ k =>
        cases hr : L[z.toNat]? with
        | none =>
          unfold chain at h
          rw [if_neg h0] at h
          simp only [hr] at h
          cases h
        | some r =>
          rw [chain_succ h0 hr] at h
          cases hc : chain L k r.x with
          | none => rw [hc] at h; cases h
          | some l' =>
            rw [hc] at h
            injection h with h
            subst h
            intro y hy
            rcases List.mem_cons.1 hy with rfl | hy
            · have := (List.getElem?_eq_some_iff.1 hr).1
              omega
            · exact chain_mem k r.x l' hc y hy
theorem chainOf_mem {s : St} {n : Nat} (hn : s.rs.length = n) {z : Int} (hz : z ∈ chainOf s) : stOk s = true ∧ 0 ≤ z ∧ z < n := by
  unfold chainOf at hz
  split at hz
  · rename_i hok
    cases hc : chain s.rs s.rs.length s.fi with
    | none => rw [hc] at hz; simp at hz
    | some l =>
      rw [hc] at hz
      have := chain_mem _ _ _ hc z (by simpa using hz)
      rw [hn] at this
      exact ⟨hok, this⟩
  · simp at hz
theorem chainOf_len (s : St) : (chainOf s).length ≤ s.rs.length := by
  unfold chainOf
  split
  · cases hc : chain s.rs s.rs.length s.fi with
    | none => simp
    | some l => simpa using chain_len _ _ _ hc
  · simp

def DnP (M n : Nat) (l : List Pl) (w : World) : Prop := ∃ g c, PlsO M w g n c l
/-- No place has been laid from block M on. -/
def NoPl (M : Nat) (w : World) : Prop := ∀ g cs, M ≤ g → BoxAt w g cs 39 → cs = #[]
theorem NoPl.not {M n : Nat} {l : List Pl} {w : World} (h : NoPl M w) (h0 : 0 < n) : ¬ DnP M n l w := by
  rintro ⟨g, c, ho⟩
  obtain ⟨_, hg, hc, _, cur, hb, hs, _⟩ := ho
  have := h g cur hg hb
  subst this
  simp at hs
  omega
theorem NoPl.start {M : Nat} {w : World} (h : w.heap.size ≤ M) : NoPl M w := fun g cs hg hb => by have := hb.lt; omega
theorem NoPl.al {M : Nat} {w : World} (h : NoPl M w) : NoPl M (w.alloc (.cells #[] 39)) := fun g cs hg hb => by
  by_cases hlt : g < w.heap.size
  · exact h g cs hg (by unfold BoxAt at *; rw [Below.heap_alloc w _ g hlt] at hb; exact hb)
  · have hl := hb.lt
    simp at hl
    obtain rfl : g = w.heap.size := by omega
    have := BoxAt.new w #[] 39
    unfold BoxAt at this hb
    rw [this] at hb
    injection hb with hb
    injection hb with hb
    exact hb.symm

theorem own_box0 {M g : Nat} {w : World} (h : BoxAt w g #[] 39) (hM : M ≤ g) : w.ownsRow M 39 4 (.slice (some ⟨g, 0, none⟩) 0 0) 0 [] :=
  ⟨rfl, .inr ⟨g, 0, #[], rfl, hM, h, Nat.le_refl _, by unfold maxLen; omega, rfl, rfl⟩⟩

def svAR (s : St) (N b n cap : Nat) (r : Rg) (gc nc cc i : Nat) (z : Int) (b' n' cap' M : Nat) (j : Nat) (σ : Nat → Value) (w : World) : Prop :=
  match j with
  | 0 => ∃ (g0 : Nat), σ 0 = .slice (some ⟨g0, 0, none⟩) 0 0 ∧ M ≤ g0 ∧ (BoxAt w g0 #[] 39 ∨ DnP M n' r.ps w)
  | 1 => σ 1 = .pointer (some ⟨N, 2, none⟩)
  | 2 => σ 2 = .slice (some ⟨b, 0, none⟩) n cap
  | 3 => σ 3 = .slice (some ⟨gc, 0, none⟩) nc cc
  | 4 => σ 4 = .int .i64 ((i : Int))
  | 5 => σ 5 = .pointer (some ⟨gc, i, none⟩)
  | 6 => σ 6 = .int .i64 z
  | 7 => σ 7 = .pointer (some ⟨b, z.toNat * 5, none⟩)
  | 8 => σ 8 = .pointer (some ⟨b, z.toNat * 5 + 4, none⟩)
  | 9 => σ 9 = .slice (some ⟨b', 0, none⟩) n' cap'
  | 10 => ∃ (g cg : Nat), σ 10 = .slice (some ⟨g, 0, none⟩) n' cg ∧ PlsO M w g n' cg r.ps
  | 11 => ∃ (g cg : Nat), σ 11 = .slice (some ⟨g, 0, none⟩) n' cg ∧ PlsO M w g n' cg r.ps
  | _ => True

def svAS (j : Nat) : List Nat := [[0], [1], [2], [3], [4], [5], [6], [7], [8], [9], [10], [11]].getD j [j]
def svAK (j : Nat) : Nat := [0, 0, 0, 0, 0, 0, 0, 0, 0, 0, 1, 0].getD j 0

def svLaR (g n' cg jj : Nat) (p q : Pl) (j : Nat) (σ : Nat → Value) (w : World) : Prop :=
  match j with
  | 0 => σ 0 = .int .i64 ((jj : Int))
  | 1 => σ 1 = .bool true
  | 2 => σ 2 = .bool true
  | 3 => σ 3 = .slice (some ⟨g, 0, none⟩) n' cg
  | 4 => σ 4 = .int .i64 ((jj : Int))
  | 5 => σ 5 = .pointer (some ⟨g, jj * 4, none⟩)
  | 6 => σ 6 = .pointer (some ⟨g, jj * 4 + 1, none⟩)
  | 7 => σ 7 = .int .i64 p.n
  | 8 => σ 8 = .slice (some ⟨g, 0, none⟩) n' cg
  | 9 => σ 9 = .int .i64 ((jj : Int))
  | 10 => σ 10 = .int .i64 ((jj : Int) - 1)
  | 11 => σ 11 = .pointer (some ⟨g, (jj - 1) * 4, none⟩)
  | 12 => σ 12 = .pointer (some ⟨g, (jj - 1) * 4 + 1, none⟩)
  | 13 => σ 13 = .int .i64 q.n
  | 14 => σ 14 = .bool true
  | 15 => σ 15 = .bool true
  | _ => True

def svLaS (j : Nat) : List Nat := [[0], [1], [2], [3], [4], [5], [6], [7], [8], [9], [10], [11], [12], [13], [14], [15]].getD j [j]
def svLaK (j : Nat) : Nat := [0, 0, 0, 0, 0, 0, 0, 0, 0, 0, 0, 0, 0, 0, 0, 0].getD j 0

def svLbR (g n' cg jj : Nat) (p q : Pl) (j : Nat) (σ : Nat → Value) (w : World) : Prop :=
  match j with
  | 0 => σ 0 = .int .i64 ((jj : Int))
  | 1 => σ 1 = .bool true
  | 2 => σ 2 = .bool true
  | 3 => σ 3 = .slice (some ⟨g, 0, none⟩) n' cg
  | 4 => σ 4 = .int .i64 ((jj : Int))
  | 5 => σ 5 = .pointer (some ⟨g, jj * 4, none⟩)
  | 6 => σ 6 = .pointer (some ⟨g, jj * 4 + 1, none⟩)
  | 7 => σ 7 = .int .i64 p.n
  | 8 => σ 8 = .slice (some ⟨g, 0, none⟩) n' cg
  | 9 => σ 9 = .int .i64 ((jj : Int))
  | 10 => σ 10 = .int .i64 ((jj : Int) - 1)
  | 11 => σ 11 = .pointer (some ⟨g, (jj - 1) * 4, none⟩)
  | 12 => σ 12 = .pointer (some ⟨g, (jj - 1) * 4 + 1, none⟩)
  | 13 => σ 13 = .int .i64 q.n
  | 14 => σ 14 = .bool false
  | 15 => σ 15 = .bool false
  | _ => True

def svLbS (j : Nat) : List Nat := [[0], [1], [2], [3], [4], [5], [6], [7], [8], [9], [10], [11], [12], [13], [14], [15]].getD j [j]
def svLbK (j : Nat) : Nat := [0, 0, 0, 0, 0, 0, 0, 0, 0, 0, 0, 0, 0, 0, 0, 0].getD j 0

def svLcR (g n' cg : Nat) (j : Nat) (σ : Nat → Value) (w : World) : Prop :=
  match j with
  | 0 => σ 0 = .int .i64 0
  | 1 => σ 1 = .bool false
  | 2 => σ 2 = .bool false
  | 3 => σ 3 = undef
  | 4 => σ 4 = undef
  | 5 => σ 5 = undef
  | 6 => σ 6 = undef
  | 7 => σ 7 = undef
  | 8 => σ 8 = undef
  | 9 => σ 9 = undef
  | 10 => σ 10 = undef
  | 11 => σ 11 = undef
  | 12 => σ 12 = undef
  | 13 => σ 13 = undef
  | 14 => σ 14 = undef
  | 15 => σ 15 = .bool false
  | _ => True

def svLcS (j : Nat) : List Nat := [[0], [1], [2], [3], [4], [5], [6], [7], [8], [9], [10], [11], [12], [13], [14], [15]].getD j [j]
def svLcK (j : Nat) : Nat := [0, 0, 0, 0, 0, 0, 0, 0, 0, 0, 0, 0, 0, 0, 0, 0].getD j 0

set_option maxRecDepth 100000 in
set_option maxHeartbeats 8000000 in
theorem svaluesIn_any (s : St) (A : Option Addr) (n cap : Nat) (lo hi : Nat) (w : World) (hr : RgsW lo hi w A n cap s.rs) (hh : hi ≤ w.heap.size) (hn2 : n ≤ 1048576) (hm : ∀ r ∈ s.rs, r.ps.length ≤ 1048576) :
    Calls Try.prog 35 #[stV s A n cap] w (RetInts (valuesIn s) w) := by
  obtain ⟨i0, hi0, hz0, hz1, hz2⟩ := info_parts place_info
  have HI := Lib.hid hi0
  have HZ0 := Lib.hid hz0
  have HZ1 := Lib.hid hz1
  have HZ2 := Lib.hid hz2
  clear hi0 hz0 hz1 hz2
  obtain ⟨j0, hj0, hy0, hy1, hy2⟩ := info_parts int_info
  have HJ := Lib.hid hj0
  have HY0 := Lib.hid hy0
  have HY1 := Lib.hid hy1
  have HY2 := Lib.hid hy2
  clear hj0 hy0 hy1 hy2
  have HM := Lib.hid hm; clear hm
  have HN := Lib.hid hr.1
  have HV0 := Lib.hid (show valuesIn s = (chainOf s).flatMap (valsAt s) by unfold valuesIn chainOf; split <;> simp)
  unfold stV
  go_enter Try.func35, Try.ntmps35
  go_wp2_with fail
  refine calls_abs (fun W => Below w.heap.size w W ∧ W.heap.size = w.heap.size + 2 ∧ BoxAt W w.heap.size #[.int .i64 s.rd, .int .i64 s.mo, .slice A n cap, .int .i64 s.fi, .int .i64 s.la] 47 ∧ IntsO w.heap.size W (.slice (some ⟨w.heap.size + 1, 0, none⟩) 0 0) []) ⟨((Below.refl _ _).alloc (Nat.le_refl _) _).alloc (by simp) _, by simp, (BoxAt.new _ _ _).alloc _, ints_made (by simp) (by simp)⟩ ?_
  rintro W ⟨hB, hsz, hs, hv⟩
  have hS : SameIn lo hi w W := fun j _ hj => hB.block j (by omega)
  refine (schainOf_any s A n cap lo hi _ (hr.keep hS) (by omega) hn2 HM.out).mono ?_
  rintro e w1 ⟨vc, rfl, hvc, hb1⟩
  have hz1 : w.heap.size + 2 ≤ w1.heap.size := by have := hb1.size; omega
  have hV := (IntsW.of hv).below hb1 (Nat.le_refl _)
  have hC := IntsW.of hvc
  rw [hsz] at hV hC
  replace hs := hs.below hb1 hs.lt
  replace hB := bstep hB hB.size hb1
  clear hb1 hS hsz hv
  obtain ⟨Ac, cc, rfl, _⟩ := hvc.r
  clear hvc
  obtain ⟨ch, hch⟩ : ∃ ch, chainOf s = ch := ⟨_, rfl⟩
  rw [hch] at hC
  rw [hch]
  have HCH := Lib.hid hch; clear hch
  obtain ⟨nc, hnc⟩ : ∃ nc, ch.length = nc := ⟨_, rfl⟩
  rw [hnc] at hC
  rw [hnc]
  have HNC := Lib.hid hnc; clear hnc
  have HCC := Lib.hid (show ∀ z ∈ ch, stOk s = true ∧ 0 ≤ z ∧ z < n by
    intro z hz
    rw [← HCH.out] at hz
    exact chainOf_mem HN.out hz)
  have hnc2 : nc ≤ n := by rw [← HNC.out, ← HCH.out, ← HN.out]; exact chainOf_len s
  obtain ⟨hc_, hhc⟩ : ∃ hc_, w1.heap.size = hc_ := ⟨_, rfl⟩
  rw [hhc] at hC hz1
  have hle1 : hc_ ≤ w1.heap.size := by omega
  clear hhc
  go_wp2_with fail
  go_loopw [3, 5] (fun s3 s5 W => ∃ (i a3 n3 c3 : Nat), i ≤ nc ∧ s5 = .int .i64 i ∧ s3 = .slice (some ⟨a3, 0, none⟩) n3 c3 ∧ Below w.heap.size w W ∧ BoxAt W w.heap.size #[.int .i64 s.rd, .int .i64 s.mo, .slice A n cap, .int .i64 s.fi, .int .i64 s.la] 47 ∧ IntsW (w.heap.size + 2) hc_ W (.slice Ac nc cc) ch ∧ IntsO w.heap.size W (.slice (some ⟨a3, 0, none⟩) n3 c3) ((ch.take i).flatMap (valsAt s)) ∧ (a3 < w.heap.size + 2 ∨ hc_ ≤ a3) ∧ hc_ ≤ W.heap.size) (fun _ s5 _ => nc - (intOf s5).toNat)
  case atStart => exact ⟨0, _, _, _, Nat.zero_le _, rfl, rfl, hB, hs, hC, hV.1, .inl (by omega), hle1⟩
  case round =>
    clear hB hs hC hV hz1 hle1
    obtain ⟨i, a3, n3, c3, hin, rfl, rfl, hB, hs, hch, hV, ha3, hsz⟩ := hrel
    have hn3 : ((ch.take i).flatMap (valsAt s)).length = n3 := by
      obtain ⟨A2, c2, e, _⟩ := hV.r
      injection e with _ e _
      exact e.symm
    by_cases hlt : i < nc
    · obtain ⟨z, hz⟩ : ∃ z, ch[i]? = some z := ⟨_, List.getElem?_eq_getElem (by rw [HNC.out]; exact hlt)⟩
      obtain ⟨hok, hz0, hzn⟩ := HCC.out z (List.mem_of_getElem? hz)
      have HOK := Lib.hid hok
      have h16 : n ≤ 16 := by have := (stOk_neat hok).2.1; have := HN.out; omega
      have hn38 : n3 ≤ 128 := by
        have := flat_vals_len hok (ch.take i)
        rw [hn3] at this
        simp only [List.length_take] at this
        omega
      have HN3 := Lib.hid hn3; clear hn3
      obtain ⟨gc, rfl, kz, hgl, hgh⟩ := hch.at_ hz
      have hpos : 0 < n := by omega
      have hSW : SameIn lo hi w wr := fun j _ hj => hB.block j (by omega)
      obtain ⟨b, r, A', n', cap', rfl, hlb, hbh, hri, c0, c1, c2, c3', c4, hpl⟩ := (hr.keep hSW).at_ (i := z.toNat) (by omega)
      have hr8 := (stOk_neat hok).2.2 r (List.mem_of_getElem? hri)
      have HPL := Lib.hid hpl.1
      have hn0 : 0 < n' := by have := hpl.1; omega
      have hn8 : n' ≤ 8 := by have := hpl.1; omega
      obtain ⟨b', rfl, hb'h, hO⟩ := hpl.2 hn0
      have hc : RgC wr b z.toNat r (some ⟨b', 0, none⟩) n' cap' := ⟨c0, c1, c2, c3', c4⟩
      have HTA := Lib.hid (show (ch.take (i + 1)).flatMap (valsAt s) = (ch.take i).flatMap (valsAt s) ++ valsP (sortTo r.ps n') by
        rw [List.take_add_one, hz, List.flatMap_append]
        simp only [Option.toList_some, List.flatMap_cons, List.flatMap_nil, List.append_nil]
        unfold valsAt
        rw [St.at_some hri, hpl.1])
      clear hok hz c0 c1 c2 c3' c4 hri hpl hr8 hSW
      obtain ⟨acc, hacc⟩ : ∃ acc, (ch.take i).flatMap (valsAt s) = acc := ⟨_, rfl⟩
      rw [hacc] at hV
      have HACC := Lib.hid hacc; clear hacc
      have hz : Hid (wr.cell? ⟨gc, i, none⟩ = some (.int .i64 z)) := Lib.hid kz
      clear kz
      obtain ⟨M, hMe⟩ : ∃ M, M = wr.heap.size := ⟨_, rfl⟩
      have hM : M ≤ wr.heap.size := by omega
      have hE : NoPl M wr := NoPl.start (by omega)
      have hou := IntsW.of hV
      rw [← hMe] at hou
      have HHC := Lib.hid (show hc_ ≤ M by omega)
      have HHO := Lib.hid (show M ≤ M from Nat.le_refl _)
      have hgM : gc < M := by omega
      have hbM : b < M := by have := hB.size; omega
      have hb'M : b' < M := by have := hB.size; omega
      have hwM : w.heap.size ≤ M := by have := hB.size; omega
      have hcM : hc_ ≤ M := by omega
      clear hMe hV hsz
      go_upto_region 6 with fail
      go_cut [6] from 14 to 91 (fun u W' => Below w.heap.size w W' ∧ BoxAt W' w.heap.size #[.int .i64 s.rd, .int .i64 s.mo, .slice (some ⟨b, 0, none⟩) n cap, .int .i64 s.fi, .int .i64 s.la] 47 ∧ IntsW (w.heap.size + 2) hc_ W' (.slice (some ⟨gc, 0, none⟩) nc cc) ch ∧ IntsW w.heap.size M W' (.slice (some ⟨a3, 0, none⟩) n3 c3) acc ∧ ∃ g cg, u = .slice (some ⟨g, 0, none⟩) n' cg ∧ PlsO M W' g n' cg r.ps)
      case first =>
        refine wp_region2 (fun w w' => Below w.heap.size w w') (fun _ _ h => h.size) (fun L W' => Below w.heap.size w W' ∧ BoxAt W' w.heap.size #[.int .i64 s.rd, .int .i64 s.mo, .slice (some ⟨b, 0, none⟩) n cap, .int .i64 s.fi, .int .i64 s.la] 47 ∧ Hid (W'.cell? ⟨gc, i, none⟩ = some (.int .i64 z)) ∧ RgC W' b z.toNat r (some ⟨b', 0, none⟩) n' cap' ∧ PlsO lo W' b' n' cap' r.ps ∧ IntsW (w.heap.size + 2) hc_ W' (.slice (some ⟨gc, 0, none⟩) nc cc) ch ∧ IntsW w.heap.size M W' (.slice (some ⟨a3, 0, none⟩) n3 c3) acc ∧ M ≤ W'.heap.size ∧ (L 10 = false → NoPl M W')) (svAR s w.heap.size b n cap r gc nc cc i z b' n' cap' M) svAK svAS (by kernel_rfl) (by kernel_rfl) ?_ ?_ ?_
          (.grow rfl ?_ <| .grow rfl ?_ <| .grow rfl ?_ <| .grow rfl ?_ <| .grow rfl ?_ <| .grow rfl ?_ <| .grow rfl ?_ <| .grow rfl ?_ <| .grow rfl ?_ <| .grow rfl ?_ <| .store rfl ?_ <| .grow rfl ?_ <| .nil) ?_
        · intro j σ τ w h hR
          match j, h, hR with
          | 0, h, hR => obtain ⟨g0, e, hp⟩ := hR; exact ⟨g0, (h 0 (List.mem_singleton.2 rfl)).symm.trans e, hp⟩
          | 1, h, hR => exact (h 1 (List.mem_singleton.2 rfl)).symm.trans hR
          | 2, h, hR => exact (h 2 (List.mem_singleton.2 rfl)).symm.trans hR
          | 3, h, hR => exact (h 3 (List.mem_singleton.2 rfl)).symm.trans hR
          | 4, h, hR => exact (h 4 (List.mem_singleton.2 rfl)).symm.trans hR
          | 5, h, hR => exact (h 5 (List.mem_singleton.2 rfl)).symm.trans hR
          | 6, h, hR => exact (h 6 (List.mem_singleton.2 rfl)).symm.trans hR
          | 7, h, hR => exact (h 7 (List.mem_singleton.2 rfl)).symm.trans hR
          | 8, h, hR => exact (h 8 (List.mem_singleton.2 rfl)).symm.trans hR
          | 9, h, hR => exact (h 9 (List.mem_singleton.2 rfl)).symm.trans hR
          | 10, h, hR => obtain ⟨g, cg, e, hp⟩ := hR; exact ⟨g, cg, (h 10 (List.mem_singleton.2 rfl)).symm.trans e, hp⟩
          | 11, h, hR => obtain ⟨g, cg, e, hp⟩ := hR; exact ⟨g, cg, (h 11 (List.mem_singleton.2 rfl)).symm.trans e, hp⟩
          | _ + 12, _, _ => exact trivial
        · intro j σ w w' hb hR
          match j, hR with
          | 0, hR => obtain ⟨g0, e, hp⟩ := hR; exact ⟨g0, e, ⟨hp.1, hp.2.elim (fun h => .inl (h.below hb h.lt)) (fun ⟨g, c, h⟩ => .inr ⟨g, c, h.below hb⟩)⟩⟩
          | 1, hR => exact hR
          | 2, hR => exact hR
          | 3, hR => exact hR
          | 4, hR => exact hR
          | 5, hR => exact hR
          | 6, hR => exact hR
          | 7, hR => exact hR
          | 8, hR => exact hR
          | 9, hR => exact hR
          | 10, hR => obtain ⟨g, cg, e, hp⟩ := hR; exact ⟨g, cg, e, hp.below hb⟩
          | 11, hR => obtain ⟨g, cg, e, hp⟩ := hR; exact ⟨g, cg, e, hp.below hb⟩
          | _ + 12, _ => exact trivial
        · exact ⟨hB.drew, hs, hz, hc, hO, hch, hou, hM, fun _ => hE⟩
        · -- 0: Op.buildSlice 25 0 #[]
          go_light
          intro L σ W' hcl hL hC hw
          clear hw
          obtain ⟨hB, hs, hz, hc, hO, hch, hou, hM, hE⟩ := hC
          have hgl : gc < W'.heap.size := World.block_lt_of_cell? W' _ hz.out
          have hhc := Nat.le_trans HHC.out hM
          have hho := Nat.le_trans HHO.out hM
          clear hcl hL
          refine OpGoes.step fun K hK => ?_
          unfold OpGoes
          go_simp
          have hb1 : Below W'.heap.size W' (W'.alloc (.cells #[] 39)) := (Below.refl _ _).alloc (Nat.le_refl _) _
          exact hK _ _ ⟨⟨bstep hB hB.size hb1, hs.alloc _, Lib.hid ((hb1.cell (p := ⟨gc, i, none⟩) hgl).trans hz.out), hc.below hb1, hO.below hb1, hch.below hb1 hhc, hou.below hb1 hho, Nat.le_trans hM hb1.size, fun h => (hE (by simpa [upd] using h)).al⟩, ⟨W'.heap.size, rfl, hM, .inl (BoxAt.new _ _ _)⟩, hb1⟩
        · -- 1: Op.fieldAddr 47 t1 2
          go_light
          intro L σ W' hcl hL hC hw
          clear hw
          have HC := Lib.hid hC
          clear hC
          clear hcl hL
          refine OpGoes.step fun K hK => ?_
          unfold OpGoes
          go_simp
          obtain ⟨hB, hs, hz, hc, hO, hch, hou, hM, hE⟩ := HC.out
          exact hK _ _ ⟨⟨hB, hs, hz, hc, hO, hch, hou, hM, fun h => (hE (by simpa [upd] using h))⟩, rfl, Below.refl _ _⟩
        · -- 2: Op.load 45 t21
          go_light
          intro L σ W' hcl hL hC hw
          have e1 : σ 1 = .pointer (some ⟨w.heap.size, 2, none⟩) := hw 1 (by kernel_rfl)
          clear hw
          have HC := Lib.hid hC
          obtain ⟨hB, hs, hz, hc, hO, hch, hou, hM, hE⟩ := hC
          have ks := hs.cell
          clear hcl hL
          clear hB hs hz hc hO hch hou hM hE
          refine OpGoes.step fun K hK => ?_
          unfold OpGoes
          go_simp
          obtain ⟨hB, hs, hz, hc, hO, hch, hou, hM, hE⟩ := HC.out
          exact hK _ _ ⟨⟨hB, hs, hz, hc, hO, hch, hou, hM, fun h => (hE (by simpa [upd] using h))⟩, rfl, Below.refl _ _⟩
        · -- 3: Op.move t4
          go_light
          intro L σ W' hcl hL hC hw
          clear hw
          have HC := Lib.hid hC
          clear hC
          clear hcl hL
          refine OpGoes.step fun K hK => ?_
          unfold OpGoes
          go_simp
          obtain ⟨hB, hs, hz, hc, hO, hch, hou, hM, hE⟩ := HC.out
          exact hK _ _ ⟨⟨hB, hs, hz, hc, hO, hch, hou, hM, fun h => (hE (by simpa [upd] using h))⟩, rfl, Below.refl _ _⟩
        · -- 4: Op.move t5
          go_light
          intro L σ W' hcl hL hC hw
          clear hw
          have HC := Lib.hid hC
          clear hC
          clear hcl hL
          refine OpGoes.step fun K hK => ?_
          unfold OpGoes
          go_simp
          obtain ⟨hB, hs, hz, hc, hO, hch, hou, hM, hE⟩ := HC.out
          exact hK _ _ ⟨⟨hB, hs, hz, hc, hO, hch, hou, hM, fun h => (hE (by simpa [upd] using h))⟩, rfl, Below.refl _ _⟩
        · -- 5: Op.indexAddr 55 t23 t24
          go_light
          intro L σ W' hcl hL hC hw
          have e3 : σ 3 = .slice (some ⟨gc, 0, none⟩) nc cc := hw 3 (by kernel_rfl)
          have e4 : σ 4 = .int .i64 ((i : Int)) := hw 4 (by kernel_rfl)
          clear hw
          have HC := Lib.hid hC
          obtain ⟨hB, hs, hz, hc, hO, hch, hou, hM, hE⟩ := hC
          have b1_ : (0 : Int) ≤ (i : Int) := by omega
          have b2_ : (i : Int) < (nc : Int) := by omega
          clear hcl hL
          clear hB hs hz hc hO hch hou hM hE
          refine OpGoes.step fun K hK => ?_
          unfold OpGoes
          go_simp
          obtain ⟨hB, hs, hz, hc, hO, hch, hou, hM, hE⟩ := HC.out
          exact hK _ _ ⟨⟨hB, hs, hz, hc, hO, hch, hou, hM, fun h => (hE (by simpa [upd] using h))⟩, rfl, Below.refl _ _⟩
        · -- 6: Op.load 2 t25
          go_light
          intro L σ W' hcl hL hC hw
          have e5 : σ 5 = .pointer (some ⟨gc, i, none⟩) := hw 5 (by kernel_rfl)
          clear hw
          have HC := Lib.hid hC
          obtain ⟨hB, hs, hz, hc, hO, hch, hou, hM, hE⟩ := hC
          have kz := hz.out
          clear hcl hL
          clear hB hs hz hc hO hch hou hM hE
          refine OpGoes.step fun K hK => ?_
          unfold OpGoes
          go_simp
          obtain ⟨hB, hs, hz, hc, hO, hch, hou, hM, hE⟩ := HC.out
          exact hK _ _ ⟨⟨hB, hs, hz, hc, hO, hch, hou, hM, fun h => (hE (by simpa [upd] using h))⟩, rfl, Below.refl _ _⟩
        · -- 7: Op.indexAddr 45 t22 t26
          go_light
          intro L σ W' hcl hL hC hw
          have e2 : σ 2 = .slice (some ⟨b, 0, none⟩) n cap := hw 2 (by kernel_rfl)
          have e6 : σ 6 = .int .i64 z := hw 6 (by kernel_rfl)
          clear hw
          have HC := Lib.hid hC
          obtain ⟨hB, hs, hz, hc, hO, hch, hou, hM, hE⟩ := hC
          have b1_ : (0 : Int) ≤ z := by omega
          have b2_ : z < (n : Int) := by omega
          clear hcl hL
          clear hB hs hz hc hO hch hou hM hE
          refine OpGoes.step fun K hK => ?_
          unfold OpGoes
          go_simp
          obtain ⟨hB, hs, hz, hc, hO, hch, hou, hM, hE⟩ := HC.out
          exact hK _ _ ⟨⟨hB, hs, hz, hc, hO, hch, hou, hM, fun h => (hE (by simpa [upd] using h))⟩, rfl, Below.refl _ _⟩
        · -- 8: Op.fieldAddr 27 t27 4
          go_light
          intro L σ W' hcl hL hC hw
          have e7 : σ 7 = .pointer (some ⟨b, z.toNat * 5, none⟩) := hw 7 (by kernel_rfl)
          clear hw
          have HC := Lib.hid hC
          clear hC
          clear hcl hL
          refine OpGoes.step fun K hK => ?_
          unfold OpGoes
          go_simp
          obtain ⟨hB, hs, hz, hc, hO, hch, hou, hM, hE⟩ := HC.out
          exact hK _ _ ⟨⟨hB, hs, hz, hc, hO, hch, hou, hM, fun h => (hE (by simpa [upd] using h))⟩, rfl, Below.refl _ _⟩
        · -- 9: Op.load 25 t28
          go_light
          intro L σ W' hcl hL hC hw
          have e8 : σ 8 = .pointer (some ⟨b, z.toNat * 5 + 4, none⟩) := hw 8 (by kernel_rfl)
          clear hw
          have HC := Lib.hid hC
          obtain ⟨hB, hs, hz, hc, hO, hch, hou, hM, hE⟩ := hC
          have hc0 := hc
          obtain ⟨c0, c1, c2, c3, c4⟩ := hc0
          clear hcl hL
          clear hB hs hz hc hO hch hou hM hE
          refine OpGoes.step fun K hK => ?_
          unfold OpGoes
          go_simp
          obtain ⟨hB, hs, hz, hc, hO, hch, hou, hM, hE⟩ := HC.out
          exact hK _ _ ⟨⟨hB, hs, hz, hc, hO, hch, hou, hM, fun h => (hE (by simpa [upd] using h))⟩, rfl, Below.refl _ _⟩
        · -- 10: Op.call { builtin append, args := #[t20, t29], argTypes := #[25, 25] }
          go_light
          intro L σ W' hcl hL hC hw hne
          obtain ⟨g0, e0, hp0⟩ : ∃ (g0 : Nat), σ 0 = .slice (some ⟨g0, 0, none⟩) 0 0 ∧ M ≤ g0 ∧ (BoxAt W' g0 #[] 39 ∨ DnP M n' r.ps W') := hw 0 (by kernel_rfl)
          have e9 : σ 9 = .slice (some ⟨b', 0, none⟩) n' cap' := hw 9 (by kernel_rfl)
          clear hw hne
          obtain ⟨hB, hs, hz, hc, hO, hch, hou, hM, hE⟩ := hC
          have hE10 := (hE hL)
          have hb0 : BoxAt W' g0 #[] 39 := hp0.2.elim id (fun h => absurd h (hE10.not hn0))
          clear hcl hL
          refine OpGoes.append_own rfl (.tmp 20) (.tmp 29) _ rfl M 39 i0 _ 4 32 Try.underlying25 HI.out HZ0.out HZ1.out HZ2.out rfl (by omega) (.slice (some ⟨g0, 0, none⟩) 0 0) 0 [] (by go_simp) (own_box0 hb0 hp0.1) ⟨b', 0, none⟩ n' cap' (r.ps.flatMap Pl.cs) (by go_simp) (by rw [flat_len _ 4 Pl.cs_len, HPL.out]) hO.news pl_one (by unfold maxLen; omega) (by omega) hM ?_
          intro v' w' hO' hg hat
          obtain ⟨g, cg, rfl, hP'⟩ := Own.of_row (f := Pl.cs) (l := r.ps) (n := n') (by simpa using hO') HPL.out hn0
          have hg2 : W'.grownBy w' (some g0) := hg
          refine ⟨⟨Below.grown hB hg2 hB.size (fun k hk => by cases hk; have := hp0.1; omega), hs.grown2 hg2 (fun e => by injection e with e; exact box_ne hs hb0 (by decide) e.symm), Lib.hid ((World.cell?_of_block (hg2.block gc (World.block_lt_of_cell? W' _ hz.out) (fun e => by injection e with e; have := hp0.1; omega))).trans hz.out), hc.grown hg (by have := hp0.1; omega), Own.keep hO (hg2.block b' (Own.lt hO) (fun e => by injection e with e; have := hp0.1; omega)), hch.grown hg2 (hch.not hb0 (by decide)), hou.grown hg2 (hou.not hb0 (by decide)), Nat.le_trans hM hg2.size, fun h => absurd h (by simp [upd])⟩, ⟨g, cg, rfl, hP'⟩, hg2.size, fun j hj hn hR => ?_⟩
          match j, hj, hn, hR with
          | 0, _, _, hR => obtain ⟨g0, e, hp⟩ := hR; exact ⟨g0, e, ⟨hp.1, .inr ⟨_, _, hP'⟩⟩⟩
          | 1, _, _, hR => exact (show σ 1 = .pointer (some ⟨w.heap.size, 2, none⟩) from hR)
          | 2, _, _, hR => exact (show σ 2 = .slice (some ⟨b, 0, none⟩) n cap from hR)
          | 3, _, _, hR => exact (show σ 3 = .slice (some ⟨gc, 0, none⟩) nc cc from hR)
          | 4, _, _, hR => exact (show σ 4 = .int .i64 ((i : Int)) from hR)
          | 5, _, _, hR => exact (show σ 5 = .pointer (some ⟨gc, i, none⟩) from hR)
          | 6, _, _, hR => exact (show σ 6 = .int .i64 z from hR)
          | 7, _, _, hR => exact (show σ 7 = .pointer (some ⟨b, z.toNat * 5, none⟩) from hR)
          | 8, _, _, hR => exact (show σ 8 = .pointer (some ⟨b, z.toNat * 5 + 4, none⟩) from hR)
          | 9, _, _, hR => exact (show σ 9 = .slice (some ⟨b', 0, none⟩) n' cap' from hR)
          | 10, hj, _, _ => exact absurd rfl hj
          | 11, _, hn, _ => exact absurd (hn.symm.trans (show waits _ _ _ = true by kernel_rfl)) (by decide)
          | _ + 12, _, _, _ => exact trivial
        · -- 11: Op.assign t30
          go_light
          intro L σ W' hcl hL hC hw
          obtain ⟨g, cg, e10, hp10⟩ : ∃ (g cg : Nat), σ 10 = .slice (some ⟨g, 0, none⟩) n' cg ∧ PlsO M W' g n' cg r.ps := hw 10 (by kernel_rfl)
          clear hw
          have HC := Lib.hid hC
          clear hC
          clear hcl hL
          refine OpGoes.step fun K hK => ?_
          unfold OpGoes
          go_simp
          obtain ⟨hB, hs, hz, hc, hO, hch, hou, hM, hE⟩ := HC.out
          exact hK _ _ ⟨⟨hB, hs, hz, hc, hO, hch, hou, hM, fun h => (hE (by simpa [upd] using h))⟩, ⟨g, cg, rfl, hp10⟩, Below.refl _ _⟩
        · intro σ L W' hall hC hR
          obtain ⟨hB, hs, hz, hc, hO, hch, hou, hM, hE⟩ := hC
          obtain ⟨g, cg, e11, hp11⟩ : ∃ (g cg : Nat), σ 11 = .slice (some ⟨g, 0, none⟩) n' cg ∧ PlsO M W' g n' cg r.ps := hR 11 (by decide)
          clear hR
          simp only [lexAll]
          go_simp
          go_step
          go_meet
          exact ⟨hB, hs, hch, hou, g, cg, rfl, hp11⟩
      case rest =>
        clear hB hs hch hou hz hc hO hE hM
        obtain ⟨hB, hs, hch, hou, g, cg, rfl, hP⟩ := hcut
        obtain ⟨wq, rfl⟩ : ∃ wq : World, wq = wc := ⟨_, rfl⟩
        obtain ⟨csg, hbg⟩ := own_box hP
        have hgMM := hP.ge
        go_wp2_with fail
        go_loopw [7] (fun s7 W => ∃ k : Nat, 1 ≤ k ∧ k ≤ n' ∧ s7 = .int .i64 k ∧ But g wq W ∧ PlsO M W g n' cg (sortTo r.ps k)) (fun s7 _ => n' - (intOf s7).toNat)
        case atStart => exact ⟨1, Nat.le_refl _, by omega, by go_num, But.refl _ _, by rw [sortTo_one]; exact hP⟩
        case round =>
          obtain ⟨k, hk1, hkn, rfl, hb2, hO⟩ := hrel
          by_cases hkl : k < n'
          · have g1 : (k : Int) < (n' : Int) := by omega
            have HSS := Lib.hid (sortTo_succ r.ps hk1)
            go_wp2_with fail
            go_loopw [8] (fun s8 W => ∃ (j : Nat) (cur : List Pl), j ≤ k ∧ s8 = .int .i64 j ∧ But g wq W ∧ PlsO M W g n' cg cur ∧ sinkP j cur = sinkP k (sortTo r.ps k)) (fun s8 _ => (intOf s8).toNat)
            case atStart => exact ⟨k, _, Nat.le_refl _, rfl, hb2, hO, rfl⟩
            case round =>
              clear hb2 hO
              have HBW := Lib.hid hB
              clear hB
              obtain ⟨jj, cur, hjk, rfl, hB, hO, hsk⟩ := hrel
              have HSK := Lib.hid hsk; clear hsk
              rcases Nat.eq_zero_or_pos jj with h0 | h0
              · subst h0
                have HE := Lib.hid (show cur = sinkP k (sortTo r.ps k) from HSK.out)
                go_upto_region 11 with fail
                go_cut [53] from 38 to 72 (fun u W' => But g wq W' ∧ PlsO M W' g n' cg cur ∧ u = .bool false)
                case first =>
                  refine wp_region2 (fun w w' => Below w.heap.size w w') (fun _ _ h => h.size) (fun L W' => But g wq W' ∧ PlsO M W' g n' cg cur) (svLcR g n' cg) svLcK svLcS (by kernel_rfl) (by kernel_rfl) ?_ ?_ ?_
                    (.grow rfl ?_ <| .grow rfl ?_ <| .grow rfl ?_ <| .grow rfl ?_ <| .grow rfl ?_ <| .grow rfl ?_ <| .grow rfl ?_ <| .grow rfl ?_ <| .grow rfl ?_ <| .grow rfl ?_ <| .grow rfl ?_ <| .grow rfl ?_ <| .grow rfl ?_ <| .grow rfl ?_ <| .grow rfl ?_ <| .grow rfl ?_ <| .nil) ?_
                  · intro j σ τ w h hR
                    match j, h, hR with
                    | 0, h, hR => exact (h 0 (List.mem_singleton.2 rfl)).symm.trans hR
                    | 1, h, hR => exact (h 1 (List.mem_singleton.2 rfl)).symm.trans hR
                    | 2, h, hR => exact (h 2 (List.mem_singleton.2 rfl)).symm.trans hR
                    | 3, h, hR => exact (h 3 (List.mem_singleton.2 rfl)).symm.trans hR
                    | 4, h, hR => exact (h 4 (List.mem_singleton.2 rfl)).symm.trans hR
                    | 5, h, hR => exact (h 5 (List.mem_singleton.2 rfl)).symm.trans hR
                    | 6, h, hR => exact (h 6 (List.mem_singleton.2 rfl)).symm.trans hR
                    | 7, h, hR => exact (h 7 (List.mem_singleton.2 rfl)).symm.trans hR
                    | 8, h, hR => exact (h 8 (List.mem_singleton.2 rfl)).symm.trans hR
                    | 9, h, hR => exact (h 9 (List.mem_singleton.2 rfl)).symm.trans hR
                    | 10, h, hR => exact (h 10 (List.mem_singleton.2 rfl)).symm.trans hR
                    | 11, h, hR => exact (h 11 (List.mem_singleton.2 rfl)).symm.trans hR
                    | 12, h, hR => exact (h 12 (List.mem_singleton.2 rfl)).symm.trans hR
                    | 13, h, hR => exact (h 13 (List.mem_singleton.2 rfl)).symm.trans hR
                    | 14, h, hR => exact (h 14 (List.mem_singleton.2 rfl)).symm.trans hR
                    | 15, h, hR => exact (h 15 (List.mem_singleton.2 rfl)).symm.trans hR
                    | _ + 16, _, _ => exact trivial
                  · intro j σ w w' hb hR
                    match j, hR with
                    | 0, hR => exact hR
                    | 1, hR => exact hR
                    | 2, hR => exact hR
                    | 3, hR => exact hR
                    | 4, hR => exact hR
                    | 5, hR => exact hR
                    | 6, hR => exact hR
                    | 7, hR => exact hR
                    | 8, hR => exact hR
                    | 9, hR => exact hR
                    | 10, hR => exact hR
                    | 11, hR => exact hR
                    | 12, hR => exact hR
                    | 13, hR => exact hR
                    | 14, hR => exact hR
                    | 15, hR => exact hR
                    | _ + 16, _ => exact trivial
                  · exact ⟨⟨hB.os, hB.tape, hB.output, hB.size, hB.block⟩, hO⟩
                  · -- 0: Op.move t8
                    go_light
                    intro L σ W' hcl hL hC hw
                    clear hw
                    have HC := Lib.hid hC
                    clear hC
                    clear hcl hL
                    refine OpGoes.step fun K hK => ?_
                    unfold OpGoes
                    go_simp
                    obtain ⟨hB, hO⟩ := HC.out
                    exact hK _ _ ⟨⟨hB, hO⟩, rfl, Below.refl _ _⟩
                  · -- 1: Op.binOp BinOp.gtr 3 t38 (const (0:i64)) 3
                    go_light
                    intro L σ W' hcl hL hC hw
                    have e0 : σ 0 = .int .i64 0 := hw 0 (by kernel_rfl)
                    clear hw
                    have HC := Lib.hid hC
                    clear hC
                    clear hcl hL
                    refine OpGoes.step fun K hK => ?_
                    unfold OpGoes
                    go_simp
                    obtain ⟨hB, hO⟩ := HC.out
                    exact hK _ _ ⟨⟨hB, hO⟩, rfl, Below.refl _ _⟩
                  · -- 2: Op.move t39
                    go_light
                    intro L σ W' hcl hL hC hw
                    have e1 : σ 1 = .bool false := hw 1 (by kernel_rfl)
                    clear hw
                    have HC := Lib.hid hC
                    clear hC
                    clear hcl hL
                    refine OpGoes.step fun K hK => ?_
                    unfold OpGoes
                    go_simp
                    obtain ⟨hB, hO⟩ := HC.out
                    exact hK _ _ ⟨⟨hB, hO⟩, rfl, Below.refl _ _⟩
                  · -- 3: Op.move t6   [guarded: some (2, true)]
                    go_light
                    intro L σ W' hcl hL hC hw
                    have e2 : σ 2 = .bool false := hw 2 (by kernel_rfl)
                    clear hw
                    have HC := Lib.hid hC
                    clear hC
                    clear hcl hL
                    refine OpGoes.step fun K hK => ?_
                    unfold OpGoes
                    go_simp
                    obtain ⟨hB, hO⟩ := HC.out
                    exact hK _ _ ⟨⟨hB, hO⟩, rfl, Below.refl _ _⟩
                  · -- 4: Op.move t8   [guarded: some (2, true)]
                    go_light
                    intro L σ W' hcl hL hC hw
                    have e2 : σ 2 = .bool false := hw 2 (by kernel_rfl)
                    clear hw
                    have HC := Lib.hid hC
                    clear hC
                    clear hcl hL
                    refine OpGoes.step fun K hK => ?_
                    unfold OpGoes
                    go_simp
                    obtain ⟨hB, hO⟩ := HC.out
                    exact hK _ _ ⟨⟨hB, hO⟩, rfl, Below.refl _ _⟩
                  · -- 5: Op.indexAddr 25 t41 t42   [guarded: some (2, true)]
                    go_light
                    intro L σ W' hcl hL hC hw
                    have e2 : σ 2 = .bool false := hw 2 (by kernel_rfl)
                    have e3 : σ 3 = undef := hw 3 (by kernel_rfl)
                    have e4 : σ 4 = undef := hw 4 (by kernel_rfl)
                    clear hw
                    have HC := Lib.hid hC
                    clear hC
                    clear hcl hL
                    refine OpGoes.step fun K hK => ?_
                    unfold OpGoes
                    go_simp
                    obtain ⟨hB, hO⟩ := HC.out
                    exact hK _ _ ⟨⟨hB, hO⟩, rfl, Below.refl _ _⟩
                  · -- 6: Op.fieldAddr 39 t43 1   [guarded: some (2, true)]
                    go_light
                    intro L σ W' hcl hL hC hw
                    have e2 : σ 2 = .bool false := hw 2 (by kernel_rfl)
                    have e5 : σ 5 = undef := hw 5 (by kernel_rfl)
                    clear hw
                    have HC := Lib.hid hC
                    clear hC
                    clear hcl hL
                    refine OpGoes.step fun K hK => ?_
                    unfold OpGoes
                    go_simp
                    obtain ⟨hB, hO⟩ := HC.out
                    exact hK _ _ ⟨⟨hB, hO⟩, rfl, Below.refl _ _⟩
                  · -- 7: Op.load 2 t44   [guarded: some (2, true)]
                    go_light
                    intro L σ W' hcl hL hC hw
                    have e2 : σ 2 = .bool false := hw 2 (by kernel_rfl)
                    have e6 : σ 6 = undef := hw 6 (by kernel_rfl)
                    clear hw
                    have HC := Lib.hid hC
                    clear hC
                    clear hcl hL
                    refine OpGoes.step fun K hK => ?_
                    unfold OpGoes
                    go_simp
                    obtain ⟨hB, hO⟩ := HC.out
                    exact hK _ _ ⟨⟨hB, hO⟩, rfl, Below.refl _ _⟩
                  · -- 8: Op.move t6   [guarded: some (2, true)]
                    go_light
                    intro L σ W' hcl hL hC hw
                    have e2 : σ 2 = .bool false := hw 2 (by kernel_rfl)
                    clear hw
                    have HC := Lib.hid hC
                    clear hC
                    clear hcl hL
                    refine OpGoes.step fun K hK => ?_
                    unfold OpGoes
                    go_simp
                    obtain ⟨hB, hO⟩ := HC.out
                    exact hK _ _ ⟨⟨hB, hO⟩, rfl, Below.refl _ _⟩
                  · -- 9: Op.move t8   [guarded: some (2, true)]
                    go_light
                    intro L σ W' hcl hL hC hw
                    have e2 : σ 2 = .bool false := hw 2 (by kernel_rfl)
                    clear hw
                    have HC := Lib.hid hC
                    clear hC
                    clear hcl hL
                    refine OpGoes.step fun K hK => ?_
                    unfold OpGoes
                    go_simp
                    obtain ⟨hB, hO⟩ := HC.out
                    exact hK _ _ ⟨⟨hB, hO⟩, rfl, Below.refl _ _⟩
                  · -- 10: Op.binOp BinOp.sub 3 t47 (const (1:i64)) 3   [guarded: some (2, true)]
                    go_light
                    intro L σ W' hcl hL hC hw
                    have e2 : σ 2 = .bool false := hw 2 (by kernel_rfl)
                    have e9 : σ 9 = undef := hw 9 (by kernel_rfl)
                    clear hw
                    have HC := Lib.hid hC
                    clear hC
                    clear hcl hL
                    refine OpGoes.step fun K hK => ?_
                    unfold OpGoes
                    go_simp
                    obtain ⟨hB, hO⟩ := HC.out
                    exact hK _ _ ⟨⟨hB, hO⟩, rfl, Below.refl _ _⟩
                  · -- 11: Op.indexAddr 25 t46 t48   [guarded: some (2, true)]
                    go_light
                    intro L σ W' hcl hL hC hw
                    have e2 : σ 2 = .bool false := hw 2 (by kernel_rfl)
                    have e8 : σ 8 = undef := hw 8 (by kernel_rfl)
                    have e10 : σ 10 = undef := hw 10 (by kernel_rfl)
                    clear hw
                    have HC := Lib.hid hC
                    clear hC
                    clear hcl hL
                    refine OpGoes.step fun K hK => ?_
                    unfold OpGoes
                    go_simp
                    obtain ⟨hB, hO⟩ := HC.out
                    exact hK _ _ ⟨⟨hB, hO⟩, rfl, Below.refl _ _⟩
                  · -- 12: Op.fieldAddr 39 t49 1   [guarded: some (2, true)]
                    go_light
                    intro L σ W' hcl hL hC hw
                    have e2 : σ 2 = .bool false := hw 2 (by kernel_rfl)
                    have e11 : σ 11 = undef := hw 11 (by kernel_rfl)
                    clear hw
                    have HC := Lib.hid hC
                    clear hC
                    clear hcl hL
                    refine OpGoes.step fun K hK => ?_
                    unfold OpGoes
                    go_simp
                    obtain ⟨hB, hO⟩ := HC.out
                    exact hK _ _ ⟨⟨hB, hO⟩, rfl, Below.refl _ _⟩
                  · -- 13: Op.load 2 t50   [guarded: some (2, true)]
                    go_light
                    intro L σ W' hcl hL hC hw
                    have e2 : σ 2 = .bool false := hw 2 (by kernel_rfl)
                    have e12 : σ 12 = undef := hw 12 (by kernel_rfl)
                    clear hw
                    have HC := Lib.hid hC
                    clear hC
                    clear hcl hL
                    refine OpGoes.step fun K hK => ?_
                    unfold OpGoes
                    go_simp
                    obtain ⟨hB, hO⟩ := HC.out
                    exact hK _ _ ⟨⟨hB, hO⟩, rfl, Below.refl _ _⟩
                  · -- 14: Op.binOp BinOp.lss 2 t45 t51 2   [guarded: some (2, true)]
                    go_light
                    intro L σ W' hcl hL hC hw
                    have e2 : σ 2 = .bool false := hw 2 (by kernel_rfl)
                    have e7 : σ 7 = undef := hw 7 (by kernel_rfl)
                    have e13 : σ 13 = undef := hw 13 (by kernel_rfl)
                    clear hw
                    have HC := Lib.hid hC
                    clear hC
                    clear hcl hL
                    refine OpGoes.step fun K hK => ?_
                    unfold OpGoes
                    go_simp
                    obtain ⟨hB, hO⟩ := HC.out
                    exact hK _ _ ⟨⟨hB, hO⟩, rfl, Below.refl _ _⟩
                  · -- 15: Op.pick t40 t52 (const (Value.bool false))
                    go_light
                    intro L σ W' hcl hL hC hw
                    have e2 : σ 2 = .bool false := hw 2 (by kernel_rfl)
                    have e14 : σ 14 = undef := hw 14 (by kernel_rfl)
                    clear hw
                    have HC := Lib.hid hC
                    clear hC
                    clear hcl hL
                    refine OpGoes.step fun K hK => ?_
                    unfold OpGoes
                    go_simp
                    obtain ⟨hB, hO⟩ := HC.out
                    exact hK _ _ ⟨⟨hB, hO⟩, rfl, Below.refl _ _⟩
                  · intro σ L W' hall hC hR
                    obtain ⟨hB, hO⟩ := hC
                    have e15 : σ 15 = .bool false := hR 15 (by decide)
                    clear hR
                    simp only [lexAll]
                    go_simp
                    go_step
                    go_meet
                    exact ⟨hB, hO, rfl⟩
                case rest =>
                  clear hB hO
                  obtain ⟨hB, hO, rfl⟩ := hcut
                  go_wp2
                  go_roundw
                  case rel => exact ⟨k + 1, by omega, by omega, by go_num, hB, by rw [HSS.out, ← HE.out]; exact hO⟩
                  case measure => simp [intOf]; omega
              · obtain ⟨j1, hj1⟩ : ∃ j1, jj = j1 + 1 := ⟨jj - 1, by omega⟩
                have HJ1 := Lib.hid (show jj - 1 = j1 by omega)
                have hcl := hO.1
                have hj1n : j1 < n' := by omega
                obtain ⟨p, hp⟩ : ∃ p, cur[jj]? = some p := ⟨_, List.getElem?_eq_getElem (by omega)⟩
                obtain ⟨q, hq⟩ : ∃ q, cur[j1]? = some q := ⟨_, List.getElem?_eq_getElem (by omega)⟩
                have HP := Lib.hid hp
                have HQ := Lib.hid hq
                clear hp hq hcl
                have HJE := Lib.hid hj1
                clear hj1
                by_cases hpq : p.n < q.n
                · have HD := Lib.hid (show decide (p.n < q.n) = true by simpa using hpq)
                  have HSI := Lib.hid (show sinkP jj cur = sinkP j1 ((cur.set jj q).set j1 p) by have hj1 := HJE.out; subst hj1; exact sinkP_lt HP.out HQ.out hpq)
                  go_upto_region 11 with fail
                  go_cut [53] from 38 to 72 (fun u W' => But g wq W' ∧ PlsO M W' g n' cg cur ∧ u = .bool true)
                  case first =>
                    refine wp_region2 (fun w w' => Below w.heap.size w w') (fun _ _ h => h.size) (fun L W' => But g wq W' ∧ PlsO M W' g n' cg cur) (svLaR g n' cg jj p q) svLaK svLaS (by kernel_rfl) (by kernel_rfl) ?_ ?_ ?_
                      (.grow rfl ?_ <| .grow rfl ?_ <| .grow rfl ?_ <| .grow rfl ?_ <| .grow rfl ?_ <| .grow rfl ?_ <| .grow rfl ?_ <| .grow rfl ?_ <| .grow rfl ?_ <| .grow rfl ?_ <| .grow rfl ?_ <| .grow rfl ?_ <| .grow rfl ?_ <| .grow rfl ?_ <| .grow rfl ?_ <| .grow rfl ?_ <| .nil) ?_
                    · intro j σ τ w h hR
                      match j, h, hR with
                      | 0, h, hR => exact (h 0 (List.mem_singleton.2 rfl)).symm.trans hR
                      | 1, h, hR => exact (h 1 (List.mem_singleton.2 rfl)).symm.trans hR
                      | 2, h, hR => exact (h 2 (List.mem_singleton.2 rfl)).symm.trans hR
                      | 3, h, hR => exact (h 3 (List.mem_singleton.2 rfl)).symm.trans hR
                      | 4, h, hR => exact (h 4 (List.mem_singleton.2 rfl)).symm.trans hR
                      | 5, h, hR => exact (h 5 (List.mem_singleton.2 rfl)).symm.trans hR
                      | 6, h, hR => exact (h 6 (List.mem_singleton.2 rfl)).symm.trans hR
                      | 7, h, hR => exact (h 7 (List.mem_singleton.2 rfl)).symm.trans hR
                      | 8, h, hR => exact (h 8 (List.mem_singleton.2 rfl)).symm.trans hR
                      | 9, h, hR => exact (h 9 (List.mem_singleton.2 rfl)).symm.trans hR
                      | 10, h, hR => exact (h 10 (List.mem_singleton.2 rfl)).symm.trans hR
                      | 11, h, hR => exact (h 11 (List.mem_singleton.2 rfl)).symm.trans hR
                      | 12, h, hR => exact (h 12 (List.mem_singleton.2 rfl)).symm.trans hR
                      | 13, h, hR => exact (h 13 (List.mem_singleton.2 rfl)).symm.trans hR
                      | 14, h, hR => exact (h 14 (List.mem_singleton.2 rfl)).symm.trans hR
                      | 15, h, hR => exact (h 15 (List.mem_singleton.2 rfl)).symm.trans hR
                      | _ + 16, _, _ => exact trivial
                    · intro j σ w w' hb hR
                      match j, hR with
                      | 0, hR => exact hR
                      | 1, hR => exact hR
                      | 2, hR => exact hR
                      | 3, hR => exact hR
                      | 4, hR => exact hR
                      | 5, hR => exact hR
                      | 6, hR => exact hR
                      | 7, hR => exact hR
                      | 8, hR => exact hR
                      | 9, hR => exact hR
                      | 10, hR => exact hR
                      | 11, hR => exact hR
                      | 12, hR => exact hR
                      | 13, hR => exact hR
                      | 14, hR => exact hR
                      | 15, hR => exact hR
                      | _ + 16, _ => exact trivial
                    · exact ⟨⟨hB.os, hB.tape, hB.output, hB.size, hB.block⟩, hO⟩
                    · -- 0: Op.move t8
                      go_light
                      intro L σ W' hcl hL hC hw
                      clear hw
                      have HC := Lib.hid hC
                      clear hC
                      clear hcl hL
                      refine OpGoes.step fun K hK => ?_
                      unfold OpGoes
                      go_simp
                      obtain ⟨hB, hO⟩ := HC.out
                      exact hK _ _ ⟨⟨hB, hO⟩, rfl, Below.refl _ _⟩
                    · -- 1: Op.binOp BinOp.gtr 3 t38 (const (0:i64)) 3
                      go_light
                      intro L σ W' hcl hL hC hw
                      have e0 : σ 0 = .int .i64 ((jj : Int)) := hw 0 (by kernel_rfl)
                      clear hw
                      have HC := Lib.hid hC
                      obtain ⟨hB, hO⟩ := hC
                      have b0_ : (0 : Int) < (jj : Int) := by omega
                      clear hcl hL
                      clear hB hO
                      refine OpGoes.step fun K hK => ?_
                      unfold OpGoes
                      go_simp
                      obtain ⟨hB, hO⟩ := HC.out
                      exact hK _ _ ⟨⟨hB, hO⟩, rfl, Below.refl _ _⟩
                    · -- 2: Op.move t39
                      go_light
                      intro L σ W' hcl hL hC hw
                      have e1 : σ 1 = .bool true := hw 1 (by kernel_rfl)
                      clear hw
                      have HC := Lib.hid hC
                      clear hC
                      clear hcl hL
                      refine OpGoes.step fun K hK => ?_
                      unfold OpGoes
                      go_simp
                      obtain ⟨hB, hO⟩ := HC.out
                      exact hK _ _ ⟨⟨hB, hO⟩, rfl, Below.refl _ _⟩
                    · -- 3: Op.move t6   [guarded: some (2, true)]
                      go_light
                      intro L σ W' hcl hL hC hw
                      have e2 : σ 2 = .bool true := hw 2 (by kernel_rfl)
                      clear hw
                      have HC := Lib.hid hC
                      clear hC
                      clear hcl hL
                      refine OpGoes.step fun K hK => ?_
                      unfold OpGoes
                      go_simp
                      obtain ⟨hB, hO⟩ := HC.out
                      exact hK _ _ ⟨⟨hB, hO⟩, rfl, Below.refl _ _⟩
                    · -- 4: Op.move t8   [guarded: some (2, true)]
                      go_light
                      intro L σ W' hcl hL hC hw
                      have e2 : σ 2 = .bool true := hw 2 (by kernel_rfl)
                      clear hw
                      have HC := Lib.hid hC
                      clear hC
                      clear hcl hL
                      refine OpGoes.step fun K hK => ?_
                      unfold OpGoes
                      go_simp
                      obtain ⟨hB, hO⟩ := HC.out
                      exact hK _ _ ⟨⟨hB, hO⟩, rfl, Below.refl _ _⟩
                    · -- 5: Op.indexAddr 25 t41 t42   [guarded: some (2, true)]
                      go_light
                      intro L σ W' hcl hL hC hw
                      have e2 : σ 2 = .bool true := hw 2 (by kernel_rfl)
                      have e3 : σ 3 = .slice (some ⟨g, 0, none⟩) n' cg := hw 3 (by kernel_rfl)
                      have e4 : σ 4 = .int .i64 ((jj : Int)) := hw 4 (by kernel_rfl)
                      clear hw
                      have HC := Lib.hid hC
                      obtain ⟨hB, hO⟩ := hC
                      have b1_ : (0 : Int) ≤ (jj : Int) := by omega
                      have b2_ : (jj : Int) < (n' : Int) := by omega
                      clear hcl hL
                      clear hB hO
                      refine OpGoes.step fun K hK => ?_
                      unfold OpGoes
                      go_simp
                      obtain ⟨hB, hO⟩ := HC.out
                      exact hK _ _ ⟨⟨hB, hO⟩, rfl, Below.refl _ _⟩
                    · -- 6: Op.fieldAddr 39 t43 1   [guarded: some (2, true)]
                      go_light
                      intro L σ W' hcl hL hC hw
                      have e2 : σ 2 = .bool true := hw 2 (by kernel_rfl)
                      have e5 : σ 5 = .pointer (some ⟨g, jj * 4, none⟩) := hw 5 (by kernel_rfl)
                      clear hw
                      have HC := Lib.hid hC
                      clear hC
                      clear hcl hL
                      refine OpGoes.step fun K hK => ?_
                      unfold OpGoes
                      go_simp
                      obtain ⟨hB, hO⟩ := HC.out
                      exact hK _ _ ⟨⟨hB, hO⟩, rfl, Below.refl _ _⟩
                    · -- 7: Op.load 2 t44   [guarded: some (2, true)]
                      go_light
                      intro L σ W' hcl hL hC hw
                      have e2 : σ 2 = .bool true := hw 2 (by kernel_rfl)
                      have e6 : σ 6 = .pointer (some ⟨g, jj * 4 + 1, none⟩) := hw 6 (by kernel_rfl)
                      clear hw
                      have HC := Lib.hid hC
                      obtain ⟨hB, hO⟩ := hC
                      obtain ⟨d0, d1, d2, d3⟩ := pls_at hO HP.out
                      clear hcl hL
                      clear hB hO
                      refine OpGoes.step fun K hK => ?_
                      unfold OpGoes
                      go_simp
                      obtain ⟨hB, hO⟩ := HC.out
                      exact hK _ _ ⟨⟨hB, hO⟩, rfl, Below.refl _ _⟩
                    · -- 8: Op.move t6   [guarded: some (2, true)]
                      go_light
                      intro L σ W' hcl hL hC hw
                      have e2 : σ 2 = .bool true := hw 2 (by kernel_rfl)
                      clear hw
                      have HC := Lib.hid hC
                      clear hC
                      clear hcl hL
                      refine OpGoes.step fun K hK => ?_
                      unfold OpGoes
                      go_simp
                      obtain ⟨hB, hO⟩ := HC.out
                      exact hK _ _ ⟨⟨hB, hO⟩, rfl, Below.refl _ _⟩
                    · -- 9: Op.move t8   [guarded: some (2, true)]
                      go_light
                      intro L σ W' hcl hL hC hw
                      have e2 : σ 2 = .bool true := hw 2 (by kernel_rfl)
                      clear hw
                      have HC := Lib.hid hC
                      clear hC
                      clear hcl hL
                      refine OpGoes.step fun K hK => ?_
                      unfold OpGoes
                      go_simp
                      obtain ⟨hB, hO⟩ := HC.out
                      exact hK _ _ ⟨⟨hB, hO⟩, rfl, Below.refl _ _⟩
                    · -- 10: Op.binOp BinOp.sub 3 t47 (const (1:i64)) 3   [guarded: some (2, true)]
                      go_light
                      intro L σ W' hcl hL hC hw
                      have e2 : σ 2 = .bool true := hw 2 (by kernel_rfl)
                      have e9 : σ 9 = .int .i64 ((jj : Int)) := hw 9 (by kernel_rfl)
                      clear hw
                      have HC := Lib.hid hC
                      obtain ⟨hB, hO⟩ := hC
                      have wr_ : IntKind.i64.wrap ((jj : Int) - 1) = (jj : Int) - 1 := by rw [IntKind.wrap_i64]; omega
                      clear hcl hL
                      clear hB hO
                      refine OpGoes.step fun K hK => ?_
                      unfold OpGoes
                      go_simp
                      obtain ⟨hB, hO⟩ := HC.out
                      exact hK _ _ ⟨⟨hB, hO⟩, rfl, Below.refl _ _⟩
                    · -- 11: Op.indexAddr 25 t46 t48   [guarded: some (2, true)]
                      go_light
                      intro L σ W' hcl hL hC hw
                      have e2 : σ 2 = .bool true := hw 2 (by kernel_rfl)
                      have e8 : σ 8 = .slice (some ⟨g, 0, none⟩) n' cg := hw 8 (by kernel_rfl)
                      have e10 : σ 10 = .int .i64 ((jj : Int) - 1) := hw 10 (by kernel_rfl)
                      clear hw
                      have HC := Lib.hid hC
                      obtain ⟨hB, hO⟩ := hC
                      have b1_ : (1 : Int) ≤ (jj : Int) := by omega
                      have b2_ : (jj : Int) - 1 < (n' : Int) := by omega
                      clear hcl hL
                      clear hB hO
                      refine OpGoes.step fun K hK => ?_
                      unfold OpGoes
                      go_simp
                      obtain ⟨hB, hO⟩ := HC.out
                      exact hK _ _ ⟨⟨hB, hO⟩, rfl, Below.refl _ _⟩
                    · -- 12: Op.fieldAddr 39 t49 1   [guarded: some (2, true)]
                      go_light
                      intro L σ W' hcl hL hC hw
                      have e2 : σ 2 = .bool true := hw 2 (by kernel_rfl)
                      have e11 : σ 11 = .pointer (some ⟨g, (jj - 1) * 4, none⟩) := hw 11 (by kernel_rfl)
                      clear hw
                      have HC := Lib.hid hC
                      clear hC
                      clear hcl hL
                      refine OpGoes.step fun K hK => ?_
                      unfold OpGoes
                      go_simp
                      obtain ⟨hB, hO⟩ := HC.out
                      exact hK _ _ ⟨⟨hB, hO⟩, rfl, Below.refl _ _⟩
                    · -- 13: Op.load 2 t50   [guarded: some (2, true)]
                      go_light
                      intro L σ W' hcl hL hC hw
                      have e2 : σ 2 = .bool true := hw 2 (by kernel_rfl)
                      have e12 : σ 12 = .pointer (some ⟨g, (jj - 1) * 4 + 1, none⟩) := hw 12 (by kernel_rfl)
                      clear hw
                      have HC := Lib.hid hC
                      obtain ⟨hB, hO⟩ := hC
                      obtain ⟨d0, d1, d2, d3⟩ := pls_at hO HQ.out
                      rw [← HJ1.out] at d0 d1 d2 d3
                      clear hcl hL
                      clear hB hO
                      refine OpGoes.step fun K hK => ?_
                      unfold OpGoes
                      go_simp
                      obtain ⟨hB, hO⟩ := HC.out
                      exact hK _ _ ⟨⟨hB, hO⟩, rfl, Below.refl _ _⟩
                    · -- 14: Op.binOp BinOp.lss 2 t45 t51 2   [guarded: some (2, true)]
                      go_light
                      intro L σ W' hcl hL hC hw
                      have e2 : σ 2 = .bool true := hw 2 (by kernel_rfl)
                      have e7 : σ 7 = .int .i64 p.n := hw 7 (by kernel_rfl)
                      have e13 : σ 13 = .int .i64 q.n := hw 13 (by kernel_rfl)
                      clear hw
                      have HC := Lib.hid hC
                      obtain ⟨hB, hO⟩ := hC
                      have lt_ : decide (p.n < q.n) = true := HD.out
                      clear hcl hL
                      clear hB hO
                      refine OpGoes.step fun K hK => ?_
                      unfold OpGoes
                      go_simp
                      obtain ⟨hB, hO⟩ := HC.out
                      exact hK _ _ ⟨⟨hB, hO⟩, rfl, Below.refl _ _⟩
                    · -- 15: Op.pick t40 t52 (const (Value.bool false))
                      go_light
                      intro L σ W' hcl hL hC hw
                      have e2 : σ 2 = .bool true := hw 2 (by kernel_rfl)
                      have e14 : σ 14 = .bool true := hw 14 (by kernel_rfl)
                      clear hw
                      have HC := Lib.hid hC
                      clear hC
                      clear hcl hL
                      refine OpGoes.step fun K hK => ?_
                      unfold OpGoes
                      go_simp
                      obtain ⟨hB, hO⟩ := HC.out
                      exact hK _ _ ⟨⟨hB, hO⟩, rfl, Below.refl _ _⟩
                    · intro σ L W' hall hC hR
                      obtain ⟨hB, hO⟩ := hC
                      have e15 : σ 15 = .bool true := hR 15 (by decide)
                      clear hR
                      simp only [lexAll]
                      go_simp
                      go_step
                      go_meet
                      exact ⟨hB, hO, rfl⟩
                  case rest =>
                    clear hB hO
                    obtain ⟨hB, hO, rfl⟩ := hcut
                    have hgl2 : g < wc.heap.size := Own.lt hO
                    obtain ⟨d0, d1, d2, d3⟩ := pls_at hO HP.out
                    have e1 : (0 : Int) ≤ (jj : Int) := by omega
                    have e2 : (jj : Int) < (n' : Int) := by omega
                    go_upto_region 14 with fail
                    refine wp_abs (fun W' => But g wq W' ∧ PlsO M W' g n' cg cur ∧ BoxAt W' wc.heap.size #[.bool p.s, .int .i64 p.n, .bool p.f, .int .i64 p.v] 39) ⟨hB.trans (But.of_below ((Below.refl _ _).alloc (Nat.le_refl _) _)), hO.al _, BoxAt.new _ _ _⟩ ?_
                    clear d0 d1 d2 d3 hB hO
                    generalize wc.heap.size = X at *
                    rintro W3 ⟨hB, hO, hX⟩
                    obtain ⟨d0, d1, d2, d3⟩ := pls_at hO HQ.out
                    rw [← HJ1.out] at d0 d1 d2 d3
                    obtain ⟨f0, f1, f2, f3⟩ := pls_at hO HP.out
                    have df := Own.frozen_ hO
                    have e3 : (1 : Int) ≤ (jj : Int) := by omega
                    have e4 : (jj : Int) - 1 < (n' : Int) := by omega
                    have wr_ : IntKind.i64.wrap ((jj : Int) - 1) = (jj : Int) - 1 := by rw [IntKind.wrap_i64]; omega
                    go_upto_region 15 with fail
                    refine wp_abs (fun W' => But g wq W' ∧ PlsO M W' g n' cg (cur.set jj q) ∧ BoxAt W' X #[.bool p.s, .int .i64 p.n, .bool p.f, .int .i64 p.v] 39) ⟨(((hB.set _ _).set _ _).set _ _).set _ _, Own.setEl hO Pl.cs_len (by omega) (by omega) q, ((((hX.set_ne (by omega) _ _).set_ne (by omega) _ _).set_ne (by omega) _ _).set_ne (by omega) _ _)⟩ ?_
                    clear d0 d1 d2 d3 f0 f1 f2 f3 df hB hO hX
                    rintro W4 ⟨hB, hO, hX⟩
                    obtain ⟨x, hx⟩ : ∃ x, (cur.set jj q)[j1]? = some x := ⟨_, List.getElem?_eq_getElem (by have := hO.1; omega)⟩
                    obtain ⟨d0, d1, d2, d3⟩ := pls_at hO hx
                    rw [← HJ1.out] at d0 d1 d2 d3
                    have df := Own.frozen_ hO
                    have kX := hX.cell
                    clear hx
                    go_wp2
                    go_roundw
                    case rel =>
                      refine ⟨j1, (cur.set jj q).set j1 p, by have := HJE.out; omega, by have := HJE.out; simp; omega, (((hB.set _ _).set _ _).set _ _).set _ _, ?_, by rw [← HSK.out, HSI.out]⟩
                      have := Own.setEl hO Pl.cs_len (by omega) (i := j1) (by omega) p
                      rw [HJ1.out]
                      exact this
                    case measure => have := HJE.out; simp [intOf]; omega
                · have HD := Lib.hid (show decide (p.n < q.n) = false by simpa using hpq)
                  have HSI := Lib.hid (show sinkP jj cur = cur by have hj1 := HJE.out; subst hj1; exact sinkP_ge HP.out HQ.out hpq)
                  go_upto_region 11 with fail
                  go_cut [53] from 38 to 72 (fun u W' => But g wq W' ∧ PlsO M W' g n' cg cur ∧ u = .bool false)
                  case first =>
                    refine wp_region2 (fun w w' => Below w.heap.size w w') (fun _ _ h => h.size) (fun L W' => But g wq W' ∧ PlsO M W' g n' cg cur) (svLbR g n' cg jj p q) svLbK svLbS (by kernel_rfl) (by kernel_rfl) ?_ ?_ ?_
                      (.grow rfl ?_ <| .grow rfl ?_ <| .grow rfl ?_ <| .grow rfl ?_ <| .grow rfl ?_ <| .grow rfl ?_ <| .grow rfl ?_ <| .grow rfl ?_ <| .grow rfl ?_ <| .grow rfl ?_ <| .grow rfl ?_ <| .grow rfl ?_ <| .grow rfl ?_ <| .grow rfl ?_ <| .grow rfl ?_ <| .grow rfl ?_ <| .nil) ?_
                    · intro j σ τ w h hR
                      match j, h, hR with
                      | 0, h, hR => exact (h 0 (List.mem_singleton.2 rfl)).symm.trans hR
                      | 1, h, hR => exact (h 1 (List.mem_singleton.2 rfl)).symm.trans hR
                      | 2, h, hR => exact (h 2 (List.mem_singleton.2 rfl)).symm.trans hR
                      | 3, h, hR => exact (h 3 (List.mem_singleton.2 rfl)).symm.trans hR
                      | 4, h, hR => exact (h 4 (List.mem_singleton.2 rfl)).symm.trans hR
                      | 5, h, hR => exact (h 5 (List.mem_singleton.2 rfl)).symm.trans hR
                      | 6, h, hR => exact (h 6 (List.mem_singleton.2 rfl)).symm.trans hR
                      | 7, h, hR => exact (h 7 (List.mem_singleton.2 rfl)).symm.trans hR
                      | 8, h, hR => exact (h 8 (List.mem_singleton.2 rfl)).symm.trans hR
                      | 9, h, hR => exact (h 9 (List.mem_singleton.2 rfl)).symm.trans hR
                      | 10, h, hR => exact (h 10 (List.mem_singleton.2 rfl)).symm.trans hR
                      | 11, h, hR => exact (h 11 (List.mem_singleton.2 rfl)).symm.trans hR
                      | 12, h, hR => exact (h 12 (List.mem_singleton.2 rfl)).symm.trans hR
                      | 13, h, hR => exact (h 13 (List.mem_singleton.2 rfl)).symm.trans hR
                      | 14, h, hR => exact (h 14 (List.mem_singleton.2 rfl)).symm.trans hR
                      | 15, h, hR => exact (h 15 (List.mem_singleton.2 rfl)).symm.trans hR
                      | _ + 16, _, _ => exact trivial
                    · intro j σ w w' hb hR
                      match j, hR with
                      | 0, hR => exact hR
                      | 1, hR => exact hR
                      | 2, hR => exact hR
                      | 3, hR => exact hR
                      | 4, hR => exact hR
                      | 5, hR => exact hR
                      | 6, hR => exact hR
                      | 7, hR => exact hR
                      | 8, hR => exact hR
                      | 9, hR => exact hR
                      | 10, hR => exact hR
                      | 11, hR => exact hR
                      | 12, hR => exact hR
                      | 13, hR => exact hR
                      | 14, hR => exact hR
                      | 15, hR => exact hR
                      | _ + 16, _ => exact trivial
                    · exact ⟨⟨hB.os, hB.tape, hB.output, hB.size, hB.block⟩, hO⟩
                    · -- 0: Op.move t8
                      go_light
                      intro L σ W' hcl hL hC hw
                      clear hw
                      have HC := Lib.hid hC
                      clear hC
                      clear hcl hL
                      refine OpGoes.step fun K hK => ?_
                      unfold OpGoes
                      go_simp
                      obtain ⟨hB, hO⟩ := HC.out
                      exact hK _ _ ⟨⟨hB, hO⟩, rfl, Below.refl _ _⟩
                    · -- 1: Op.binOp BinOp.gtr 3 t38 (const (0:i64)) 3
                      go_light
                      intro L σ W' hcl hL hC hw
                      have e0 : σ 0 = .int .i64 ((jj : Int)) := hw 0 (by kernel_rfl)
                      clear hw
                      have HC := Lib.hid hC
                      obtain ⟨hB, hO⟩ := hC
                      have b0_ : (0 : Int) < (jj : Int) := by omega
                      clear hcl hL
                      clear hB hO
                      refine OpGoes.step fun K hK => ?_
                      unfold OpGoes
                      go_simp
                      obtain ⟨hB, hO⟩ := HC.out
                      exact hK _ _ ⟨⟨hB, hO⟩, rfl, Below.refl _ _⟩
                    · -- 2: Op.move t39
                      go_light
                      intro L σ W' hcl hL hC hw
                      have e1 : σ 1 = .bool true := hw 1 (by kernel_rfl)
                      clear hw
                      have HC := Lib.hid hC
                      clear hC
                      clear hcl hL
                      refine OpGoes.step fun K hK => ?_
                      unfold OpGoes
                      go_simp
                      obtain ⟨hB, hO⟩ := HC.out
                      exact hK _ _ ⟨⟨hB, hO⟩, rfl, Below.refl _ _⟩
                    · -- 3: Op.move t6   [guarded: some (2, true)]
                      go_light
                      intro L σ W' hcl hL hC hw
                      have e2 : σ 2 = .bool true := hw 2 (by kernel_rfl)
                      clear hw
                      have HC := Lib.hid hC
                      clear hC
                      clear hcl hL
                      refine OpGoes.step fun K hK => ?_
                      unfold OpGoes
                      go_simp
                      obtain ⟨hB, hO⟩ := HC.out
                      exact hK _ _ ⟨⟨hB, hO⟩, rfl, Below.refl _ _⟩
                    · -- 4: Op.move t8   [guarded: some (2, true)]
                      go_light
                      intro L σ W' hcl hL hC hw
                      have e2 : σ 2 = .bool true := hw 2 (by kernel_rfl)
                      clear hw
                      have HC := Lib.hid hC
                      clear hC
                      clear hcl hL
                      refine OpGoes.step fun K hK => ?_
                      unfold OpGoes
                      go_simp
                      obtain ⟨hB, hO⟩ := HC.out
                      exact hK _ _ ⟨⟨hB, hO⟩, rfl, Below.refl _ _⟩
                    · -- 5: Op.indexAddr 25 t41 t42   [guarded: some (2, true)]
                      go_light
                      intro L σ W' hcl hL hC hw
                      have e2 : σ 2 = .bool true := hw 2 (by kernel_rfl)
                      have e3 : σ 3 = .slice (some ⟨g, 0, none⟩) n' cg := hw 3 (by kernel_rfl)
                      have e4 : σ 4 = .int .i64 ((jj : Int)) := hw 4 (by kernel_rfl)
                      clear hw
                      have HC := Lib.hid hC
                      obtain ⟨hB, hO⟩ := hC
                      have b1_ : (0 : Int) ≤ (jj : Int) := by omega
                      have b2_ : (jj : Int) < (n' : Int) := by omega
                      clear hcl hL
                      clear hB hO
                      refine OpGoes.step fun K hK => ?_
                      unfold OpGoes
                      go_simp
                      obtain ⟨hB, hO⟩ := HC.out
                      exact hK _ _ ⟨⟨hB, hO⟩, rfl, Below.refl _ _⟩
                    · -- 6: Op.fieldAddr 39 t43 1   [guarded: some (2, true)]
                      go_light
                      intro L σ W' hcl hL hC hw
                      have e2 : σ 2 = .bool true := hw 2 (by kernel_rfl)
                      have e5 : σ 5 = .pointer (some ⟨g, jj * 4, none⟩) := hw 5 (by kernel_rfl)
                      clear hw
                      have HC := Lib.hid hC
                      clear hC
                      clear hcl hL
                      refine OpGoes.step fun K hK => ?_
                      unfold OpGoes
                      go_simp
                      obtain ⟨hB, hO⟩ := HC.out
                      exact hK _ _ ⟨⟨hB, hO⟩, rfl, Below.refl _ _⟩
                    · -- 7: Op.load 2 t44   [guarded: some (2, true)]
                      go_light
                      intro L σ W' hcl hL hC hw
                      have e2 : σ 2 = .bool true := hw 2 (by kernel_rfl)
                      have e6 : σ 6 = .pointer (some ⟨g, jj * 4 + 1, none⟩) := hw 6 (by kernel_rfl)
                      clear hw
                      have HC := Lib.hid hC
                      obtain ⟨hB, hO⟩ := hC
                      obtain ⟨d0, d1, d2, d3⟩ := pls_at hO HP.out
                      clear hcl hL
                      clear hB hO
                      refine OpGoes.step fun K hK => ?_
                      unfold OpGoes
                      go_simp
                      obtain ⟨hB, hO⟩ := HC.out
                      exact hK _ _ ⟨⟨hB, hO⟩, rfl, Below.refl _ _⟩
                    · -- 8: Op.move t6   [guarded: some (2, true)]
                      go_light
                      intro L σ W' hcl hL hC hw
                      have e2 : σ 2 = .bool true := hw 2 (by kernel_rfl)
                      clear hw
                      have HC := Lib.hid hC
                      clear hC
                      clear hcl hL
                      refine OpGoes.step fun K hK => ?_
                      unfold OpGoes
                      go_simp
                      obtain ⟨hB, hO⟩ := HC.out
                      exact hK _ _ ⟨⟨hB, hO⟩, rfl, Below.refl _ _⟩
                    · -- 9: Op.move t8   [guarded: some (2, true)]
                      go_light
                      intro L σ W' hcl hL hC hw
                      have e2 : σ 2 = .bool true := hw 2 (by kernel_rfl)
                      clear hw
                      have HC := Lib.hid hC
                      clear hC
                      clear hcl hL
                      refine OpGoes.step fun K hK => ?_
                      unfold OpGoes
                      go_simp
                      obtain ⟨hB, hO⟩ := HC.out
                      exact hK _ _ ⟨⟨hB, hO⟩, rfl, Below.refl _ _⟩
                    · -- 10: Op.binOp BinOp.sub 3 t47 (const (1:i64)) 3   [guarded: some (2, true)]
                      go_light
                      intro L σ W' hcl hL hC hw
                      have e2 : σ 2 = .bool true := hw 2 (by kernel_rfl)
                      have e9 : σ 9 = .int .i64 ((jj : Int)) := hw 9 (by kernel_rfl)
                      clear hw
                      have HC := Lib.hid hC
                      obtain ⟨hB, hO⟩ := hC
                      have wr_ : IntKind.i64.wrap ((jj : Int) - 1) = (jj : Int) - 1 := by rw [IntKind.wrap_i64]; omega
                      clear hcl hL
                      clear hB hO
                      refine OpGoes.step fun K hK => ?_
                      unfold OpGoes
                      go_simp
                      obtain ⟨hB, hO⟩ := HC.out
                      exact hK _ _ ⟨⟨hB, hO⟩, rfl, Below.refl _ _⟩
                    · -- 11: Op.indexAddr 25 t46 t48   [guarded: some (2, true)]
                      go_light
                      intro L σ W' hcl hL hC hw
                      have e2 : σ 2 = .bool true := hw 2 (by kernel_rfl)
                      have e8 : σ 8 = .slice (some ⟨g, 0, none⟩) n' cg := hw 8 (by kernel_rfl)
                      have e10 : σ 10 = .int .i64 ((jj : Int) - 1) := hw 10 (by kernel_rfl)
                      clear hw
                      have HC := Lib.hid hC
                      obtain ⟨hB, hO⟩ := hC
                      have b1_ : (1 : Int) ≤ (jj : Int) := by omega
                      have b2_ : (jj : Int) - 1 < (n' : Int) := by omega
                      clear hcl hL
                      clear hB hO
                      refine OpGoes.step fun K hK => ?_
                      unfold OpGoes
                      go_simp
                      obtain ⟨hB, hO⟩ := HC.out
                      exact hK _ _ ⟨⟨hB, hO⟩, rfl, Below.refl _ _⟩
                    · -- 12: Op.fieldAddr 39 t49 1   [guarded: some (2, true)]
                      go_light
                      intro L σ W' hcl hL hC hw
                      have e2 : σ 2 = .bool true := hw 2 (by kernel_rfl)
                      have e11 : σ 11 = .pointer (some ⟨g, (jj - 1) * 4, none⟩) := hw 11 (by kernel_rfl)
                      clear hw
                      have HC := Lib.hid hC
                      clear hC
                      clear hcl hL
                      refine OpGoes.step fun K hK => ?_
                      unfold OpGoes
                      go_simp
                      obtain ⟨hB, hO⟩ := HC.out
                      exact hK _ _ ⟨⟨hB, hO⟩, rfl, Below.refl _ _⟩
                    · -- 13: Op.load 2 t50   [guarded: some (2, true)]
                      go_light
                      intro L σ W' hcl hL hC hw
                      have e2 : σ 2 = .bool true := hw 2 (by kernel_rfl)
                      have e12 : σ 12 = .pointer (some ⟨g, (jj - 1) * 4 + 1, none⟩) := hw 12 (by kernel_rfl)
                      clear hw
                      have HC := Lib.hid hC
                      obtain ⟨hB, hO⟩ := hC
                      obtain ⟨d0, d1, d2, d3⟩ := pls_at hO HQ.out
                      rw [← HJ1.out] at d0 d1 d2 d3
                      clear hcl hL
                      clear hB hO
                      refine OpGoes.step fun K hK => ?_
                      unfold OpGoes
                      go_simp
                      obtain ⟨hB, hO⟩ := HC.out
                      exact hK _ _ ⟨⟨hB, hO⟩, rfl, Below.refl _ _⟩
                    · -- 14: Op.binOp BinOp.lss 2 t45 t51 2   [guarded: some (2, true)]
                      go_light
                      intro L σ W' hcl hL hC hw
                      have e2 : σ 2 = .bool true := hw 2 (by kernel_rfl)
                      have e7 : σ 7 = .int .i64 p.n := hw 7 (by kernel_rfl)
                      have e13 : σ 13 = .int .i64 q.n := hw 13 (by kernel_rfl)
                      clear hw
                      have HC := Lib.hid hC
                      obtain ⟨hB, hO⟩ := hC
                      have lt_ : decide (p.n < q.n) = false := HD.out
                      clear hcl hL
                      clear hB hO
                      refine OpGoes.step fun K hK => ?_
                      unfold OpGoes
                      go_simp
                      obtain ⟨hB, hO⟩ := HC.out
                      exact hK _ _ ⟨⟨hB, hO⟩, rfl, Below.refl _ _⟩
                    · -- 15: Op.pick t40 t52 (const (Value.bool false))
                      go_light
                      intro L σ W' hcl hL hC hw
                      have e2 : σ 2 = .bool true := hw 2 (by kernel_rfl)
                      have e14 : σ 14 = .bool false := hw 14 (by kernel_rfl)
                      clear hw
                      have HC := Lib.hid hC
                      clear hC
                      clear hcl hL
                      refine OpGoes.step fun K hK => ?_
                      unfold OpGoes
                      go_simp
                      obtain ⟨hB, hO⟩ := HC.out
                      exact hK _ _ ⟨⟨hB, hO⟩, rfl, Below.refl _ _⟩
                    · intro σ L W' hall hC hR
                      obtain ⟨hB, hO⟩ := hC
                      have e15 : σ 15 = .bool false := hR 15 (by decide)
                      clear hR
                      simp only [lexAll]
                      go_simp
                      go_step
                      go_meet
                      exact ⟨hB, hO, rfl⟩
                  case rest =>
                    clear hB hO
                    obtain ⟨hB, hO, rfl⟩ := hcut
                    go_wp2
                    go_roundw
                    case rel => exact ⟨k + 1, by omega, by omega, by go_num, hB, by rw [HSS.out, ← HSK.out, HSI.out]; exact hO⟩
                    case measure => simp [intOf]; omega
          · have g1 : ¬ (k : Int) < (n' : Int) := by omega
            obtain rfl : k = n' := by omega
            have hB4 : Below w.heap.size w wr := hB.trans (hb2.below (by omega) hB.size)
            have hs4 := hb2.box hs (by omega)
            have hch4 := hch.but hb2 hbg
            have hou4 := (hou.but hb2 hbg).1
            have hsz4 : hc_ ≤ wr.heap.size := by have := hb2.size; have := Own.lt hO; omega
            clear hB hs hch hou hb2 hP hbg csg
            have htl : (sortTo r.ps k).length = k := by rw [sortTo_len]; exact HPL.out
            generalize sortTo r.ps k = t at *
            have HTL := Lib.hid htl; clear htl
            go_wp2_with fail
            go_loopw [3, 10] (fun s3 s10 W => ∃ (q a4 n4 c4 : Nat), q ≤ k ∧ s10 = .int .i64 q ∧ s3 = .slice (some ⟨a4, 0, none⟩) n4 c4 ∧ Below w.heap.size w W ∧ BoxAt W w.heap.size #[.int .i64 s.rd, .int .i64 s.mo, .slice (some ⟨b, 0, none⟩) n cap, .int .i64 s.fi, .int .i64 s.la] 47 ∧ IntsW (w.heap.size + 2) hc_ W (.slice (some ⟨gc, 0, none⟩) nc cc) ch ∧ PlsO M W g k cg t ∧ IntsO w.heap.size W (.slice (some ⟨a4, 0, none⟩) n4 c4) (acc ++ valsP (t.take q)) ∧ (a4 < w.heap.size + 2 ∨ hc_ ≤ a4) ∧ hc_ ≤ W.heap.size) (fun _ s10 _ => k - (intOf s10).toNat)
            case atStart => exact ⟨0, _, _, _, Nat.zero_le _, rfl, rfl, hB4, hs4, hch4, hO, by simpa [valsP] using hou4, ha3, hsz4⟩
            case round =>
              clear hB4 hs4 hch4 hou4 hsz4 hO
              obtain ⟨q, a4, n4, c4, hq, rfl, rfl, hB, hs, hch, hO, hV, ha4, hsz⟩ := hrel
              have hn4 : (acc ++ valsP (t.take q)).length = n4 := by
                obtain ⟨A2, c2, e, _⟩ := hV.r
                injection e with _ e _
                exact e.symm
              have hn48 : n4 ≤ 200 := by
                have := valsP_len (t.take q)
                simp only [List.length_take] at this
                rw [← hn4, List.length_append, ← HACC.out, HN3.out]
                omega
              by_cases hql : q < k
              · have g2 : (q : Int) < (k : Int) := by omega
                have g3 : (0 : Int) ≤ (q : Int) := by omega
                obtain ⟨p, hp⟩ : ∃ p, t[q]? = some p := ⟨_, List.getElem?_eq_getElem (by rw [HTL.out]; exact hql)⟩
                obtain ⟨d0, d1, d2, d3⟩ := pls_at hO hp
                obtain ⟨csg, hbg⟩ := own_box hO
                cases hf : p.f
                · have HVE := Lib.hid (valsP_empty hp hf)
                  rw [hf] at d2
                  clear hp
                  go_wp2
                  go_roundw
                  case rel => exact ⟨q + 1, a4, n4, c4, by omega, by go_num, rfl, hB, hs, hch, hO, by rw [HVE.out]; exact hV, ha4, hsz⟩
                  case measure => simp [intOf]; omega
                · have HVF := Lib.hid (valsP_full hp hf)
                  rw [hf] at d2
                  clear hp
                  have hR1 := ints_row hV hn4
                  have hne : some g ≠ (Value.slice (some ⟨a4, 0, none⟩) n4 c4).ownBlock := ints_not hV hbg (by decide)
                  have hne2 : some w.heap.size ≠ (Value.slice (some ⟨a4, 0, none⟩) n4 c4).ownBlock := ints_not hV hs (by decide)
                  have HN4 := Lib.hid hn4; clear hn4
                  go_wp2_with (at_builtin; go_must (refine wpList_append_own_at _ rfl (.tmp 84) (.tmp 90) _ rfl w.heap.size 2 j0 _ 1 8 Try.underlying55 HJ.out HY0.out HY1.out HY2.out rfl (by omega) (.slice (some ⟨a4, 0, none⟩) n4 c4) n4 _ rfl (hR1.alloc _) ⟨wr.heap.size, 0, none⟩ 1 1 [.int .i64 p.v] rfl rfl (news_alloc _ _ _) (by intro u hu; simp at hu; subst hu; rfl) (by unfold maxLen; omega) (by omega) (by have := hB.size; simp; omega) ?_; intro v' w' hO' hg' hz' hat'; clear hz'; obtain ⟨g', cap'', rfl, hP'⟩ := Own.of_row (f := ic) (l := (acc ++ valsP (t.take q)) ++ [p.v]) (n := n4 + 1) (by rw [List.flatMap_append]; exact hO') (by rw [List.length_append, HN4.out]; rfl) (by omega)))
                  have hBa : Below w.heap.size w (wr.alloc (.cells #[.int .i64 p.v] 2)) := hB.alloc hB.size _
                  have hga : g' = a4 ∨ g' = wr.heap.size + 1 := by
                    rcases hat' with h | h
                    · left; simpa [Value.ownBlock] using h
                    · right; simpa [Value.ownBlock] using h
                  have hg2 : (wr.alloc (.cells #[.int .i64 p.v] 2)).grownBy w' (some a4) := hg'
                  have hgO := Own.lt hO
                  have hsl := hs.lt
                  go_roundw
                  case rel =>
                    refine ⟨q + 1, g', n4 + 1, cap'', by omega, by go_num, rfl, Below.grown hBa hg' (by have := hB.size; simp; omega) (fun k hk => (hV.lt k hk).1), ?_, ?_, ?_, ?_, by omega, ?_⟩
                    · exact BoxAt.grown2 (hs.alloc _) hg' (Ne.symm hne2)
                    · exact IntsW.grown (hch.keep (.alloc hsz _)) hg2 (fun k hk e => by
                        have e1 : gc = k := by simpa [Value.ownBlock] using hk
                        omega)
                    · exact Own.keep (hO.al _) (hg'.block g (by simp; omega) hne)
                    · rw [HVF.out, ← List.append_assoc]
                      have := hP'.own ic_len
                      unfold IntsO
                      rw [List.length_append, HN4.out]
                      exact this
                    · have := hg'.size
                      simp at this
                      omega
                  case measure => simp [intOf]; omega
              · have g2 : ¬ (q : Int) < (k : Int) := by omega
                obtain rfl : q = k := by omega
                rw [List.take_of_length_le (by rw [HTL.out]; exact Nat.le_refl _), ← HACC.out, ← HTA.out] at hV
                go_wp2
                go_roundw
                case rel => exact ⟨i + 1, a4, n4, c4, by omega, by go_num, rfl, hB, hs, hch, hV, ha4, hsz⟩
                case measure => simp [intOf]; omega
    · have g1 : ¬ (i : Int) < (nc : Int) := by omega
      obtain rfl : i = nc := by omega
      go_wp2
      go_ret
      rw [List.take_of_length_le (by rw [HNC.out]; exact Nat.le_refl _), ← HCH.out, ← HV0.out] at hV
      exact ⟨_, rfl, hV, hB⟩


end Go.Proofs.Ytnebllfmnandgaa

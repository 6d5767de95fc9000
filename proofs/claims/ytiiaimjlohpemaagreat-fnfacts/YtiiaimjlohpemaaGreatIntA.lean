/-
 Lists of numbers: read, compared, marked, copied.
-/
import Derived.Test.YtiiaimjlohpemaaGreatNums
import Derived.Test.YtiiaimjlohpemaaGreatSli
namespace Go.Proofs.YtiiaimjlohpemaaGreat
set_option linter.unusedSimpArgs false
set_option linter.unusedVariables false
open Go.RowKit
set_option linter.unusedVariables false
attribute [local go_sem ↓] Go.wp_at_zero Go.wp_at_succ

theorem int_info : (Tryz.prog.info? 2).map (fun i => (i.zero, i.size, i.bytes)) = some (some (.int .i64 0), 1, 8) := by kernel_rfl

def IE (_N : Nat) (w : World) (b o : Nat) (z : Int) : Prop := w.cell? ⟨b, o, none⟩ = some (.int .i64 z)
theorem IE.kept : Kept IE := fun _ _ _ _ _ _ hb hs h => hs.cell hb h
/-- Numbers in a slice, to be read. -/
def IntsR (w : World) (A : Option Addr) (n : Nat) (l : List Int) : Prop := SlE IE 1 0 w A n l
theorem IntsR.below {w w' : World} {A : Option Addr} {n : Nat} {l : List Int} (h : IntsR w A n l) (hb : Below w.heap.size w w') : IntsR w' A n l := SlE.below IE.kept h hb
/-- Numbers in a slice of the call's own, from block N on. -/
def IntsO (N : Nat) (w : World) (v : Value) (l : List Int) : Prop := w.ownsRow N 2 1 v l.length (l.flatMap ic)

theorem IntsO.r {N : Nat} {w : World} {v : Value} {l : List Int} (h : IntsO N w v l) : ∃ A cap, v = .slice A l.length cap ∧ IntsR w A l.length l := by
 rcases Nat.eq_zero_or_pos l.length with h0 | h0
 ·
  obtain rfl : l = [] := List.length_eq_zero_iff.1 h0
  rcases h.2 with ⟨h1, _⟩ | ⟨g, cap, cur, hv, _⟩
  · exact ⟨none, 0, h1, rfl, fun h => absurd h (by simp)⟩
  · exact ⟨_, cap, hv, rfl, fun h => absurd h (by simp)⟩
 ·
  obtain ⟨g, cap, hv, ho⟩ := Own.of_row (f := ic) h rfl h0
  exact ⟨_, cap, hv, (Own.sl ho ic_len (E := IE) fun b o x hc => by show w.cell? _ = _; simpa using hc 0 _ rfl).1, fun hn => by
   obtain ⟨b, o, e, _, hx⟩ := (Own.sl ho ic_len (E := IE) fun b o x hc => by show w.cell? _ = _; simpa using hc 0 _ rfl).2 hn
   exact ⟨b, o, e, Nat.zero_le _, hx⟩⟩
theorem IntsO.below {N : Nat} {w w' : World} {v : Value} {l : List Int} (h : IntsO N w v l) (hb : Below w.heap.size w w') : IntsO N w' v l := by
 refine ⟨h.1, ?_⟩
 rcases h.2 with h' | ⟨g, cap, cur, hv, hg, hbx, hr⟩
 · exact .inl h'
 · exact .inr ⟨g, cap, cur, hv, hg, (hb.block g (Array.getElem?_eq_some_iff.1 hbx).1).trans hbx, hr⟩
theorem IntsO.keep {N hi : Nat} {w w' : World} {v : Value} {l : List Int} (h : IntsO N w v l) (hs : ∀ j, N ≤ j → j < w.heap.size → w'.heap[j]? = w.heap[j]?) : IntsO N w' v l := by
 refine ⟨h.1, ?_⟩
 rcases h.2 with h' | ⟨g, cap, cur, hv, hg, hbx, hr⟩
 · exact .inl h'
 · exact .inr ⟨g, cap, cur, hv, hg, (hs g hg (Array.getElem?_eq_some_iff.1 hbx).1).trans hbx, hr⟩
/-- Where it lies below hi, too. -/
theorem IntsO.keep2 {N hi : Nat} {w0 w w' : World} {v : Value} {l : List Int} (h0 : IntsO N w0 v l) (hh : w0.heap.size ≤ hi) (h : IntsO N w v l) (hs : ∀ j, N ≤ j → j < hi → w'.heap[j]? = w.heap[j]?) : IntsO N w' v l := by
 refine ⟨h.1, ?_⟩
 rcases h.2 with h' | ⟨g, cap, cur, hv, hg, hbx, hr⟩
 · exact .inl h'
 ·
  rcases h0.2 with ⟨h1, _⟩ | ⟨g', cap', cur', hv', _, hbx', _⟩
  · rw [h1] at hv; cases hv
  ·
   rw [hv'] at hv
   injection hv with e1 e2 e3
   injection e1 with e1
   injection e1 with e1
   subst e1
   have := (Array.getElem?_eq_some_iff.1 hbx').1
   exact .inr ⟨g', cap, cur, by rw [hv', e3], hg, (hs g' hg (by omega)).trans hbx, hr⟩
theorem IntsO.mono {N M : Nat} {w : World} {v : Value} {l : List Int} (h : IntsO N w v l) (hM : M ≤ N) : IntsO M w v l := own_mono h hM

/-- The numbers from k on. -/
def imarks (k : Int) (n : Nat) : List Int := (List.range n).map fun (i : Nat) => k + (i : Int)
theorem imarks_len (k : Int) (n : Nat) : (imarks k n).length = n := by simp [imarks]
theorem imarks_at (k : Int) {n i : Nat} (h : i < n) : (imarks k n)[i]? = some (k + i) := by simp [imarks, h]

/-- What markInt64S does. -/
def MarkedI (k : Int) (N : Nat) (v : Value) (n : Nat) (w : World) (e : Ending) (w' : World) : Prop :=
 e = .returned (.int .i64 (k + n)) ∧ (∃ g, N ≤ g ∧ But g w w') ∧ IntsO N w' v (imarks k n)

/-- A list of numbers of the call's own is returned. -/
def RetIntl (l : List Int) (w : World) (e : Ending) (w' : World) : Prop := ∃ v, e = .returned v ∧ IntsO w.heap.size w' v l ∧ Below w.heap.size w w'

theorem ints_made {N k : Nat} {w : World} (h : k = w.heap.size) (hN : N ≤ w.heap.size) : IntsO N (w.alloc (.cells #[] 2)) (.slice (some ⟨k, 0, none⟩) 0 0) [] := by
 subst h
 exact World.ownsRow_made w #[] 0 hN (Nat.zero_le _) rfl

/-- Numbers in a slice of a block of its own, from lo on and below hi. -/
def IntsV (lo hi : Nat) (w : World) (v : Value) (l : List Int) : Prop := IntsO lo w v l ∧ ∀ g, v.ownBlock = some g → g < hi
theorem IntsV.of {lo : Nat} {w : World} {v : Value} {l : List Int} (h : IntsO lo w v l) : IntsV lo w.heap.size w v l := by
 refine ⟨h, fun g hg => ?_⟩
 rcases h.2 with ⟨h1, _⟩ | ⟨g', cap, cur, hv, _, hbx, _⟩
 · rw [h1] at hg; cases hg
 ·
  rw [hv] at hg
  have : g' = g := by simpa [Value.ownBlock] using hg
  subst this
  exact (Array.getElem?_eq_some_iff.1 hbx).1
theorem IntsV.keep {lo hi : Nat} {w w' : World} {v : Value} {l : List Int} (h : IntsV lo hi w v l) (hs : SameIn lo hi w w') : IntsV lo hi w' v l := by
 refine ⟨⟨h.1.1, ?_⟩, h.2⟩
 rcases h.1.2 with h' | ⟨g, cap, cur, hv, hg, hbx, hr⟩
 · exact .inl h'
 · exact .inr ⟨g, cap, cur, hv, hg, (hs g hg (h.2 g (by rw [hv]; simp [Value.ownBlock]))).trans hbx, hr⟩
theorem IntsV.below {lo hi : Nat} {w w' : World} {v : Value} {l : List Int} (h : IntsV lo hi w v l) (hb : Below w.heap.size w w') (hh : hi ≤ w.heap.size) : IntsV lo hi w' v l := h.keep (.below hb hh)
theorem IntsV.r {lo hi : Nat} {w : World} {A : Option Addr} {n cap : Nat} {l : List Int} (h : IntsV lo hi w (.slice A n cap) l) (hn : l.length = n) : IntsR w A n l := by
 obtain ⟨A', c', e, h'⟩ := h.1.r
 injection e with e1 e2 e3
 subst e1
 rw [hn] at h'
 exact h'
theorem But.in_ {k N lo hi : Nat} {a b : World} (h : But k a b) (hk : N ≤ k) (hj : hi ≤ N) (hs : hi ≤ a.heap.size) : SameIn lo hi a b := fun j h1 h2 => h.block j (by omega) (by omega)

def IntsW (lo hi : Nat) (w : World) (A : Option Addr) (n cap : Nat) (l : List Int) : Prop := SlW ic 1 2 lo hi w A n cap l
theorem IntsW.r {lo hi : Nat} {w : World} {A : Option Addr} {n cap : Nat} {l : List Int} (h : IntsW lo hi w A n cap l) : IntsR w A n l := SlW.r ic_len (fun b o x hc => by show w.cell? _ = _; simpa using hc 0 _ rfl) h
theorem IntsW.o {lo hi : Nat} {w : World} {A : Option Addr} {cap : Nat} {l : List Int} (h : IntsW lo hi w A l.length cap l) : IntsO lo w (.slice A l.length cap) l := SlW.own h ic_len
theorem IntsW.belowS {w w' : World} {M n cap : Nat} {A : Option Addr} {m : List Int} (h : IntsW M w.heap.size w A n cap m) (hb : Below w.heap.size w w') : IntsW M w'.heap.size w' A n cap m := SlW.mono (SlW.below h hb (Nat.le_refl _)) (Nat.le_refl _) hb.size
/-- A list of numbers of the call's own is returned. -/
def RetInts (l : List Int) (w : World) (e : Ending) (w' : World) : Prop := ∃ A cap, e = .returned (.slice A l.length cap) ∧ IntsW w.heap.size w'.heap.size w' A l.length cap l ∧ Below w.heap.size w w'

set_option maxHeartbeats 1000000 in
theorem l1Copy_any (l : List Int) (A : Option Addr) (n cap : Nat) (w : World) (h : SrcW ic w A n cap l) (hn : n ≤ 1048576) :
  Calls Tryz.prog 54 #[.slice A n cap] w (RetInts l w) := by
 obtain ⟨i0, hi0, hz0, hz1, hz2⟩ := info_parts int_info
 have HI := Lib.hid hi0
 have HZ0 := Lib.hid hz0
 have HZ1 := Lib.hid hz1
 have HZ2 := Lib.hid hz2
 clear hi0 hz0 hz1 hz2
 have HH := Lib.hid h
 have HL := Lib.hid h.1
 clear h
 go_enter Tryz.func54, Tryz.ntmps54
 go_wp2_with (at_builtin; go_must (refine wpList_append_any rfl (.tmp 3) (.tmp 4) _ rfl w.heap.size 2 i0 _ 1 8 Tryz.underlying42 HI.out HZ0.out HZ1.out HZ2.out rfl (by omega) (.slice (some ⟨w.heap.size, 0, none⟩) 0 0) 0 [] rfl (own_made rfl (Nat.le_refl _)) A n cap (l.flatMap ic) rfl HH.out.2.1 (by rw [flat_len _ 1 ic_len, HL.out]) (HH.out.al _).2.2 ic_one (by unfold maxLen; omega) (by omega) (by simp) ?_; intro v' w' hO' hg'; obtain ⟨A', cap', rfl, hP'⟩ := SlW.of_own (f := ic) (l := l) (n := n) (by simpa using hO') HL.out; have hB' : Below w.heap.size w w' := Below.grown ((Below.refl w.heap.size w).alloc (by omega) _) hg' (by simp) (fun k hk => by have := own_blk hk; omega)))
 go_ret
 refine ⟨A', cap', by rw [HL.out]; rfl, ?_, hB'⟩
 rw [HL.out]
 exact hP'

theorem l1CopyN (l : List Int) (A : Option Addr) (n cap : Nat) (w : World) (h : SrcW ic w A n cap l) (hn : n ≤ 1048576) :
  Calls Tryz.prog 54 #[.slice A n cap] w (fun e w' => ∃ A' c, e = .returned (.slice A' n c) ∧ IntsW w.heap.size w'.heap.size w' A' n c l ∧ Below w.heap.size w w') := by
 have hl := h.1
 refine (l1Copy_any l A n cap w h hn).mono ?_
 rintro e w' ⟨A', c, rfl, h1, hb⟩
 rw [hl] at h1 ⊢
 exact ⟨A', c, rfl, h1, hb⟩

end Go.Proofs.YtiiaimjlohpemaaGreat

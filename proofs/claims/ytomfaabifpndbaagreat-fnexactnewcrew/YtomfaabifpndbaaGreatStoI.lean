/-
  StoryOf, on both sides.
-/
import Derived.Test.YtomfaabifpndbaaGreatCrewI
import Derived.Test.YtomfaabifpndbaaGreatCrewC
import Derived.Test.YtomfaabifpndbaaGreatEvA
namespace Go.Proofs.YtomfaabifpndbaaGreat
set_option linter.unusedSimpArgs false
set_option linter.unusedVariables false
open Go.RowKit
set_option linter.unusedVariables false
attribute [local go_sem ↓] Go.wp_at_zero Go.wp_at_succ

def storyOf (c : Cr) : List Ev := bif crOk c then c.es else []
theorem ev_one {l : List Ev} : ∀ u ∈ l.flatMap Ev.cs, u.oneCell' = true := by
  intro u hu
  obtain ⟨p, _, hp⟩ := List.mem_flatMap.1 hu
  simp [Ev.cs] at hp
  rcases hp with rfl | rfl | rfl | rfl | rfl | rfl <;> rfl
theorem evs_own {N : Nat} {w : World} {A : Option Addr} {n c : Nat} {l : List Ev} (h : w.ownsRow N 77 6 (.slice A n c) n (l.flatMap Ev.cs)) (hl : l.length = n) : EvsW N w.heap.size w A n c l := by
  obtain ⟨A', c', e1, hW⟩ := SlW.of_own (f := Ev.cs) (l := l) h hl
  injection e1 with e1 _ e3
  subst e1 e3
  exact hW

set_option maxRecDepth 100000 in
set_option maxHeartbeats 2000000 in
theorem sstoryOf_any (c : Cr) (y : CrL) (lo hi : Nat) (w : World) (hW0 : CrW lo hi w c y) (hh : hi ≤ w.heap.size) (hf : CrFit c) :
    Calls Tryz.prog 15 #[crV c y] w (RetEvs (storyOf c) w) := by
  obtain ⟨⟨sA, sN, sK⟩, ⟨hA, hN, hK⟩, ⟨jA, jN, jK⟩, ⟨bA, bN, bK⟩, ⟨eA, eN, eK⟩⟩ := y
  obtain ⟨i0, hi0, hz0, hz1, hz2⟩ := info_parts event_info
  have HI := Lib.hid hi0
  have HZ0 := Lib.hid hz0
  have HZ1 := Lib.hid hz1
  have HZ2 := Lib.hid hz2
  clear hi0 hz0 hz1 hz2
  have HL := Lib.hid (show c.es.length = eN from hW0.e.1)
  have hm5 : eN ≤ 1048576 := by have := hf.e; have := HL.out; omega
  have HC := Lib.hid (fun W hW hs => screwOk_any c (⟨⟨sA, sN, sK⟩, ⟨hA, hN, hK⟩, ⟨jA, jN, jK⟩, ⟨bA, bN, bK⟩, ⟨eA, eN, eK⟩⟩ : CrL) lo hi W hW hs hf)
  clear hf
  unfold crV
  dsimp only
  go_enter Tryz.func15, Tryz.ntmps15
  go_wp2_with fail
  refine calls_abs (fun W => Below w.heap.size w W ∧ BoxAt W w.heap.size #[.int .i64 c.st.rd, .int .i64 c.st.mo, .slice sA sN sK, .int .i64 c.st.fi, .int .i64 c.st.la, .slice hA hN hK, .slice jA jN jK, .slice bA bN bK, .int .i64 c.ck, .slice eA eN eK] 31 ∧ CrW lo hi W c (⟨⟨sA, sN, sK⟩, ⟨hA, hN, hK⟩, ⟨jA, jN, jK⟩, ⟨bA, bN, bK⟩, ⟨eA, eN, eK⟩⟩ : CrL)) ⟨(Below.refl _ _).alloc (Nat.le_refl _) _, BoxAt.new _ _ _, hW0.below ((Below.refl _ _).alloc (Nat.le_refl _) _) hh⟩ ?_
  clear hW0
  rintro W ⟨hB, hx, hW⟩
  refine (HC.out _ hW (Nat.le_trans hh hB.size)).mono ?_
  rintro e w1 ⟨rfl, hb⟩
  replace hx := hx.below hb hx.lt
  replace hW := hW.below hb (Nat.le_trans hh hB.size)
  replace hB := bstep hB hB.size hb
  clear hb
  have hsz := hB.size
  cases hok : crOk c
  · have HQ := Lib.hid (show storyOf c = [] by simp [storyOf, hok])
    clear hok
    go_wp2
    go_ret
    rw [HQ.out]
    exact ⟨_, _, rfl, evs_own (own_made rfl hsz) rfl, hB.alloc hsz _⟩
  have HQ := Lib.hid (show storyOf c = c.es by simp [storyOf, hok])
  clear hok
  have HH := Lib.hid (SlW.src hW.e Ev.cs_len)
  have kx := (hx.alloc (.cells #[] 77)).cell
  go_wp2_with (at_builtin; go_must (refine wpList_append_any rfl (.tmp 7) (.tmp 9) _ rfl w.heap.size 77 i0 _ 6 48 Tryz.underlying29 HI.out HZ0.out HZ1.out HZ2.out rfl (by omega) (.slice (some ⟨w1.heap.size, 0, none⟩) 0 0) 0 [] rfl (own_made rfl hsz) eA eN eK (c.es.flatMap Ev.cs) rfl HH.out.2.1 (by rw [flat_len _ 6 Ev.cs_len, HL.out]) (HH.out.al _).2.2 ev_one (by unfold maxLen; omega) (by omega) (by first | omega | (simp; omega)) ?_; intro v' w' hO' hg'; obtain ⟨A', cap', rfl, hP'⟩ := SlW.of_own (f := Ev.cs) (l := c.es) (n := eN) (by simpa using hO') HL.out; have hB' : Below w.heap.size w w' := Below.grown (hB.alloc (by omega) _) hg' (by first | omega | (simp; omega)) (fun k hk => by have := own_blk hk; omega)))
  go_ret
  rw [HQ.out]
  refine ⟨A', cap', by rw [HL.out]; rfl, ?_, hB'⟩
  rw [HL.out]
  exact hP'

set_option maxRecDepth 100000 in
set_option maxHeartbeats 2000000 in
theorem istoryOf_any (c : Cr) (y : CrL) (lo hi : Nat) (w : World) (hW0 : CrW lo hi w c y) (hh : hi ≤ w.heap.size) (hf : CrFit c) :
    Calls Tryz.prog 17 #[crV c y] w (RetEvs (storyOf c) w) := by
  obtain ⟨⟨sA, sN, sK⟩, ⟨hA, hN, hK⟩, ⟨jA, jN, jK⟩, ⟨bA, bN, bK⟩, ⟨eA, eN, eK⟩⟩ := y
  obtain ⟨i0, hi0, hz0, hz1, hz2⟩ := info_parts event_info
  have HI := Lib.hid hi0
  have HZ0 := Lib.hid hz0
  have HZ1 := Lib.hid hz1
  have HZ2 := Lib.hid hz2
  clear hi0 hz0 hz1 hz2
  have HL := Lib.hid (show c.es.length = eN from hW0.e.1)
  have hm5 : eN ≤ 1048576 := by have := hf.e; have := HL.out; omega
  have HC := Lib.hid (fun W hW hs => icrewOk_any c (⟨⟨sA, sN, sK⟩, ⟨hA, hN, hK⟩, ⟨jA, jN, jK⟩, ⟨bA, bN, bK⟩, ⟨eA, eN, eK⟩⟩ : CrL) lo hi W hW hs hf)
  clear hf
  unfold crV
  dsimp only
  go_enter Tryz.func17, Tryz.ntmps17
  go_wp2_with fail
  refine calls_abs (fun W => Below w.heap.size w W ∧ BoxAt W w.heap.size #[.int .i64 c.st.rd, .int .i64 c.st.mo, .slice sA sN sK, .int .i64 c.st.fi, .int .i64 c.st.la, .slice hA hN hK, .slice jA jN jK, .slice bA bN bK, .int .i64 c.ck, .slice eA eN eK] 31 ∧ CrW lo hi W c (⟨⟨sA, sN, sK⟩, ⟨hA, hN, hK⟩, ⟨jA, jN, jK⟩, ⟨bA, bN, bK⟩, ⟨eA, eN, eK⟩⟩ : CrL) ∧ W.ownsRow w.heap.size 77 6 (.slice (some ⟨w.heap.size + 1, 0, none⟩) 0 0) 0 [] ∧ w.heap.size + 2 ≤ W.heap.size) ⟨((Below.refl _ _).alloc (Nat.le_refl _) _).alloc (by simp) _, (BoxAt.new _ _ _).alloc _, (hW0.below ((Below.refl _ _).alloc (Nat.le_refl _) _) hh).below ((Below.refl _ _).alloc (Nat.le_refl _) _) (by simp; omega), own_made (by simp) (by simp), by simp⟩ ?_
  clear hW0
  rintro W ⟨hB, hx, hW, hO, hs2⟩
  refine (HC.out _ hW (Nat.le_trans hh hB.size)).mono ?_
  rintro e w1 ⟨rfl, hb⟩
  replace hx := hx.below hb hx.lt
  replace hW := hW.below hb (Nat.le_trans hh hB.size)
  replace hO := own_keep hO hb
  replace hB := bstep hB hB.size hb
  have hs3 := hb.size
  clear hb
  have hsz := hB.size
  cases hok : crOk c
  · have HQ := Lib.hid (show storyOf c = [] by simp [storyOf, hok])
    clear hok
    go_wp2
    go_ret
    rw [HQ.out]
    exact ⟨_, _, rfl, evs_own hO rfl, hB⟩
  have HQ := Lib.hid (show storyOf c = c.es by simp [storyOf, hok])
  clear hok
  have HH := Lib.hid (SlW.src hW.e Ev.cs_len)
  have kx := hx.cell
  go_wp2_with (at_builtin; go_must (refine wpList_append_any rfl (.tmp 9) (.tmp 11) _ rfl w.heap.size 77 i0 _ 6 48 Tryz.underlying29 HI.out HZ0.out HZ1.out HZ2.out rfl (by omega) (.slice (some ⟨w.heap.size + 1, 0, none⟩) 0 0) 0 [] rfl hO eA eN eK (c.es.flatMap Ev.cs) rfl HH.out.2.1 (by rw [flat_len _ 6 Ev.cs_len, HL.out]) HH.out.2.2 ev_one (by unfold maxLen; omega) (by omega) (by first | omega | (simp; omega)) ?_; intro v' w' hO' hg'; obtain ⟨A', cap', rfl, hP'⟩ := SlW.of_own (f := Ev.cs) (l := c.es) (n := eN) (by simpa using hO') HL.out; have hB' : Below w.heap.size w w' := Below.grown hB hg' (by first | omega | (simp; omega)) (fun k hk => by have := own_blk hk; omega)))
  go_ret
  rw [HQ.out]
  refine ⟨A', cap', by rw [HL.out]; rfl, ?_, hB'⟩
  rw [HL.out]
  exact hP'

end Go.Proofs.YtomfaabifpndbaaGreat

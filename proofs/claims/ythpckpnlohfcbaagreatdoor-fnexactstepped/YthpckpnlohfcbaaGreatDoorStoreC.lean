/-
 The walks of NewStore and of the copies of rings, of the model.
-/
import Derived.Test.YthpckpnlohfcbaaGreatDoorStoreA
namespace Go.Proofs.YthpckpnlohfcbaaGreatDoor
set_option linter.unusedSimpArgs false
set_option linter.unusedVariables false
open Go.RowKit
attribute [local go_sem ↓] Go.wp_at_zero Go.wp_at_succ
theorem PlsO.news {lo : Nat} {w : World} {b n cap : Nat} {l : List Pl} (h : PlsO lo w b n cap l) : ∀ j u, (l.flatMap Pl.cs)[j]? = some u → w.cell? ((⟨b, 0, none⟩ : Addr).add j) = some u :=
 (Own.own h Pl.cs_len).cells rfl
theorem pl_one {l : List Pl} : ∀ u ∈ l.flatMap Pl.cs, u.oneCell' = true := by
 intro u hu
 obtain ⟨p, _, hp⟩ := List.mem_flatMap.1 hu
 simp [Pl.cs] at hp
 rcases hp with rfl | rfl | rfl | rfl <;> rfl
set_option maxRecDepth 100000 in
set_option maxHeartbeats 1000000 in
theorem l2Copy_any (h t : Int) (c : Bool) (x : Int) (A : Option Addr) (n cap : Nat) (l : List Pl) (lo hi : Nat) (w : World) (hl : PlsW lo hi w A n cap l) (h0 : 0 < n) (hn : n ≤ 1048576) :
  Calls Tryz.prog 59 #[rgV h t c x A n cap] w (RetRg h t c x n l w) := by
 obtain ⟨i0, hi0, hz0, hz1, hz2⟩ := info_parts place_info
 have HI := Lib.hid hi0
 have HZ0 := Lib.hid hz0
 have HZ1 := Lib.hid hz1
 have HZ2 := Lib.hid hz2
 clear hi0 hz0 hz1 hz2
 obtain ⟨b, rfl, hbh, hO⟩ := hl.2 h0
 have HL := Lib.hid hl.1
 have hbw := Own.lt hO
 generalize hN : w.heap.size = N at *
 have hN1 : N ≤ w.heap.size := by omega
 have hN2 : w.heap.size ≤ N := by omega
 unfold rgV
 go_enter Tryz.func59, Tryz.ntmps59
 go_wp2_with (at_builtin; go_must (refine wpList_append_own_at _ rfl (.tmp 3) (.tmp 5) _ rfl (N + 2) 33 i0 _ 4 32 Tryz.underlying77 HI.out HZ0.out HZ1.out HZ2.out rfl (by omega) (.slice (some ⟨N + 1 + 1, 0, none⟩) 0 0) 0 [] rfl (own_made (by simp; omega) (by simp; omega)) ⟨b, 0, none⟩ n cap (l.flatMap Pl.cs) rfl (by rw [flat_len _ 4 Pl.cs_len, HL.out]) (((hO.al _).al _).al _).news pl_one (by unfold maxLen; omega) (by omega) (by simp; omega) ?_; intro v' w' hO' hg' hz' hat'; clear hz' hat'; obtain ⟨g', cap', rfl, hP'⟩ := Own.of_row (f := Pl.cs) (l := l) (n := n) (by simpa using hO') HL.out h0; have hB' : Below N w w' := Below.grown ((((Below.refl N w).alloc (by omega) _).alloc (by simp; omega) _).alloc (by simp; omega) _) hg' (by simp; omega) (fun k hk => by have := own_blk hk; omega); have hx' : BoxAt w' N _ _ := BoxAt.grown (((BoxAt.new' (by omega)).alloc _).alloc _) hg' (fun k hk => by have := own_blk hk; omega); have hy' : BoxAt w' (N + 1) _ _ := BoxAt.grown ((BoxAt.new' (by simp; omega)).alloc _) hg' (fun k hk => by have := own_blk hk; omega); have kx := hx'.cell; have fx := hx'.frozen; have ky := hy'.cell; have fy := hy'.frozen))
 have hgg := hP'.2.1
 refine bodyPost_ret (v := rgV h t c x (some ⟨g', 0, none⟩) n cap') (by simp [results, Tryz.results59, go_sem, ky, rgV]) rfl ⟨g', cap', rfl, ?_, ?_⟩
 · exact (((((((PlsO.mono hP' (by omega)).sn).sn).sn).sn).sn).sn)
 ·
  rw [hN]
  exact (sc (sc (sc (sc (sc (sc hB'))))))
end Go.Proofs.YthpckpnlohfcbaaGreatDoor

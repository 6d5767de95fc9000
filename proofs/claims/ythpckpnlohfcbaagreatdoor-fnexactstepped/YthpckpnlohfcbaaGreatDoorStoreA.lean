/-
 The walks of the model's small functions on stores.
-/
import Derived.Test.YthpckpnlohfcbaaGreatDoorMemS
import Derived.Test.YthpckpnlohfcbaaGreatDoorRingC
import Derived.Test.YthpckpnlohfcbaaGreatDoorIntA
namespace Go.Proofs.YthpckpnlohfcbaaGreatDoor
set_option linter.unusedSimpArgs false
set_option linter.unusedVariables false
open Go.RowKit
attribute [local go_sem ↓] Go.wp_at_zero Go.wp_at_succ
set_option maxHeartbeats 400000 in
theorem l4Ring_any (s : St) (A : Option Addr) (n cap : Nat) (z : Int) (w : World) (hn : s.rs.length = n) (hm : n ≤ 1048576) :
  Calls Tryz.prog 49 #[stV s A n cap, z] w (RetBelow (.bool (ringB s z)) w) := by
 have HN := Lib.hid hn; clear hn
 unfold stV
 go_enter Tryz.func49, Tryz.ntmps49
 go_wp2_with fail
 refine (l1In_any _ _ _ _).mono ?_
 rintro e w' ⟨rfl, rfl⟩
 go_wp2
 go_ret
 exact .mk (by unfold ringB; rw [HN.out]; rfl) ((Below.refl _ _).alloc (Nat.le_refl _) _)
def RetIntsB (l : List Int) (b : Bool) (w : World) (e : Ending) (w' : World) : Prop :=
 ∃ v, e = .returned (.tuple #[v, .bool b]) ∧ w'.ownsRow w.heap.size 2 1 v l.length (l.flatMap ic) ∧ Below w.heap.size w w'
def lenV : Value → Nat
 | .slice _ n _ => n
 | _ => 0
set_option maxRecDepth 100000 in
set_option maxHeartbeats 1000000 in
theorem l3Chain_any (s : St) (A : Option Addr) (n cap : Nat) (z0 : Int) (lo hi : Nat) (w : World) (hr : RgsW lo hi w A n cap s.rs) (hh : hi ≤ w.heap.size) (hm : n ≤ 1048576) (hz : z0 < n) (hx : ∀ r ∈ s.rs, r.x < n) :
  Calls Tryz.prog 64 #[stV s A n cap, z0] w (RetIntsB ((chain s.rs n z0).getD []) (chain s.rs n z0).isSome w) := by
 obtain ⟨i0, hi0, hz0, hz1, hz2⟩ := info_parts int_info
 have HI := Lib.hid hi0
 have HZ0 := Lib.hid hz0
 have HZ1 := Lib.hid hz1
 have HZ2 := Lib.hid hz2
 clear hi0 hz0 hz1 hz2
 have HX := Lib.hid hx; clear hx
 unfold stV
 go_enter Tryz.func64, Tryz.ntmps64
 go_wp2
 have HC := Lib.hid hr.1
 go_loopw [1, 6] (fun s1 s6 W => ∃ (o : List Int) (z : Int) (B : Option Addr) (c : Nat), o.length ≤ n ∧ z < n ∧ s1 = .int .i64 z ∧ s6 = .slice B o.length c ∧ Below w.heap.size w W ∧ BoxAt W w.heap.size (aS s A n cap) 32 ∧ W.ownsRow (w.heap.size + 1) 2 1 (.slice B o.length c) o.length (o.flatMap ic) ∧ chain s.rs n z0 = (chain s.rs (n - o.length) z).map (o ++ ·)) (fun _ s6 _ => n - lenV s6)
 case atStart =>
  refine ⟨[], z0, _, _, Nat.zero_le _, hz, rfl, rfl, ((Below.refl _ _).alloc (Nat.le_refl _) _).alloc (by simp) _, (BoxAt.new _ _ _).alloc _, ?_, by simp⟩
  have := World.ownsRow_made (e := 2) (size := 1) (base := w.heap.size + 1) (w.alloc (.cells (aS s A n cap) 32)) #[] 0 (by simp) (Nat.zero_le _) rfl
  simpa using this
 case round =>
  obtain ⟨o, z, B, c, hol, hzn, rfl, rfl, hB, hx, hO, hch⟩ := hrel
  have HCH := Lib.hid hch; clear hch
  have kx := hx.cell
  have lx := hx.lt
  have hh1 : hi ≤ wr.heap.size := by omega
  by_cases hz0 : z < 0
  ·
   go_wp2
   go_ret2
   refine ⟨.slice B o.length c, by rw [HCH.out, chain_neg (by omega)]; rfl, ?_, hB⟩
   rw [HCH.out, chain_neg (by omega)]
   simp only [Option.map_some, Option.getD_some, List.append_nil]
   exact own_mono hO (by omega)
  ·
   have hz1 : 0 ≤ z := by omega
   by_cases hfull : o.length = n
   ·
    have HF := Lib.hid hfull
    have hge : (o.length == n) = true := by simpa using hfull
    clear hfull
    go_wp2
    go_ret2
    refine ⟨.slice (some ⟨wr.heap.size, 0, none⟩) 0 0, by rw [HCH.out, HF.out, Nat.sub_self, chain_zero (by omega)]; rfl, ?_, hB.alloc hB.size _⟩
    rw [HCH.out, HF.out, Nat.sub_self, chain_zero (by omega)]
    exact World.ownsRow_made wr #[] 0 (by omega) (Nat.zero_le _) rfl
   ·
    have hlt : o.length < n := by omega
    have hne : (o.length == n) = false := by simpa using hfull
    have HF := Lib.hid hfull; clear hfull
    obtain ⟨b, r, A', n', cap', rfl, hlb, hbh, hri, c0, c1, c2, c3, c4, _⟩ := hr.at_ (i := z.toNat) (by omega)
    clear c0 c1 c2 c4
    have hbw : b < w.heap.size := by omega
    have HR := Lib.hid hri; clear hri
    have hzl : z < (n : Int) := hzn
    go_wp2_with (at_builtin; refine wpList_append_own_at _ rfl (.tmp 17) (.tmp 19) _ rfl (w.heap.size + 1) 2 i0 _ 1 8 Tryz.underlying90 HI.out HZ0.out HZ1.out HZ2.out rfl (by omega) (.slice B o.length c) o.length _ rfl (hO.alloc _) ⟨wr.heap.size, 0, none⟩ 1 1 [z] rfl rfl (news_alloc _ _ _) (by intro u hu; simp at hu; subst hu; rfl) (by unfold maxLen; omega) (by omega) (by simp; omega) ?_; intro v' w' hO' hg' hz' hat'; clear hz' hat' kx; obtain ⟨g', cap'', rfl, hP'⟩ := Own.of_row (f := ic) (l := o ++ [z]) (by rw [List.flatMap_append]; exact hO') (by simp) (by omega); have hB' := Below.grown (hB.alloc (by omega) _) hg' (by simp; omega) (fun k hk => Nat.le_of_lt (own_ge hO (by omega) k hk)); have hx' := BoxAt.grown (hx.alloc _) hg' (own_ge hO (by omega)); have kx := hx'.cell; have d3 := (hB'.cell (p := ⟨b, z.toNat * 5 + 3, none⟩) hbw).trans c3)
    go_roundw
    case rel =>
     refine ⟨o ++ [z], r.x, some ⟨g', 0, none⟩, cap'', by simp; omega, ?_, rfl, by simp, hB', hx', ?_, ?_⟩
     · exact HX.out r (List.mem_of_getElem? HR.out)
     ·
      have := hP'.own ic_len
      simp only [List.length_append, List.length_cons, List.length_nil, Nat.zero_add] at this ⊢
      exact own_mono this (Nat.le_refl _)
     ·
      rw [HCH.out, show n - o.length = (n - (o ++ [z]).length) + 1 by simp; omega, chain_succ (by omega) HR.out, Option.map_map]
      congr 1
      funext y
      simp
    case measure => simp [lenV]; omega
end Go.Proofs.YthpckpnlohfcbaaGreatDoor

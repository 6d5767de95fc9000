/-
 The program's iterators over the rings of a store: what each hands on, round by round.
-/
import Derived.RangeFuncNested
import Derived.RangeFuncBound
import Derived.RangeFuncCalls
import Derived.RangeFuncLeaves
import Derived.Shelf.Abstract
import Derived.Shelf.RegionOpen
import Derived.WalkKit
import Derived.OwnWalkIn
import Derived.TacticsInMore
import Derived.LoopNIn
import Derived.LoopIn
import Derived.Test.YthpckpnlohfcbaaGreatDoorLawC
import Derived.Test.YthpckpnlohfcbaaGreatDoorModel
namespace Go.Proofs.YthpckpnlohfcbaaGreatDoor
set_option linter.unusedSimpArgs false
set_option linter.unusedVariables false
open Go.RowKit Go.Shelf
set_option linter.unusedVariables false
attribute [local go_sem] Oper.semAt_some
attribute [local go_sem ↓] Go.wp_at_zero Go.wp_at_succ
def KpI (n₀ a b : Nat) (W W' : World) : Prop := Below n₀ W W' ∧ SameIn a b W W'
theorem kpI_t {n₀ a b : Nat} {A B C : World} (h : KpI n₀ a b A B) (k : KpI n₀ a b B C) : KpI n₀ a b A C := ⟨h.1.trans k.1, h.2.trans k.2⟩
theorem kpI_b {n₀ a b : Nat} {w : World} (hn : n₀ ≤ w.heap.size) (hb : b ≤ w.heap.size) (W : World) (l : Nat) (o o' : Obj) (hl : w.heap.size ≤ l) (h : W.heap[l]? = some o) (h1 : o.isCells = false) (h2 : o.isWalk = false) : KpI n₀ a b W (W.putObj l o') :=
 ⟨belowK_b hn W l o o' hl h h1 h2, fun j _ hj => World.putObj_heap_other (by omega)⟩
theorem KpI.refl (n₀ a b : Nat) (W : World) : KpI n₀ a b W W := ⟨Below.refl _ _, SameIn.refl _ _ _⟩
theorem boxAt_own {β : Type} (B k : Nat) (cs : β → Array Value) (t : TypeId) : OwnFrom B (fun s W => BoxAt W k (cs s) t) := fun s X Y row hs hg hr =>
 (hg.block k hs.lt (fun e => by
  obtain ⟨_, o, ho, hc⟩ := hr k e.symm
  unfold BoxAt at hs
  rw [hs] at ho
  cases ho
  cases hc)).trans hs
abbrev El (rows : List Rw) := { p : Int × Rw // 0 ≤ p.1 ∧ rows[p.1.toNat]? = some p.2 }
def rwC (a : Rw) : Array Value := #[a.h, a.t, a.c, a.x, .slice a.A a.n a.cap]
def elV {rows : List Rw} (x : El rows) : Array Value := #[x.1.1, .agg (rwC x.1.2)]
def walkE (rows : List Rw) : Nat → Int → List (El rows)
 | 0, _ => []
 | k + 1, z => if h : 0 ≤ z then match hr : rows[z.toNat]? with
  | some a => ⟨(z, a), h, hr⟩ :: walkE rows k a.x
  | none => []
  else []
theorem walkE_out {rows : List Rw} {k : Nat} {z : Int} (h : z < 0 ∨ (rows.length : Int) ≤ z) : walkE rows k z = [] := by
 cases k with
 | zero => rfl
 | succ k =>
  unfold walkE
  by_cases h0 : 0 ≤ z
  ·
   rw [dif_pos h0]
   have hn : rows[z.toNat]? = none := List.getElem?_eq_none (by omega)
   split
   · rename_i a hr; rw [hn] at hr; cases hr
   · rfl
  · rw [dif_neg h0]
theorem walkE_in {rows : List Rw} {k : Nat} {z : Int} {a : Rw} (h : 0 ≤ z) (hr : rows[z.toNat]? = some a) : walkE rows (k + 1) z = ⟨(z, a), h, hr⟩ :: walkE rows k a.x := by
 conv => lhs; unfold walkE
 rw [dif_pos h]
 split
 ·
  rename_i a' hr'
  obtain rfl : a = a' := by rw [hr] at hr'; injection hr'
  rfl
 · rename_i hr'; rw [hr] at hr'; cases hr'
def firstE (rows : List Rw) : Nat → List (El rows)
 | 0 => []
 | k + 1 => match h : rows[k]? with
  | some a => firstE rows k ++ [⟨((k : Int), a), Int.natCast_nonneg k, by simpa using h⟩]
  | none => firstE rows k
theorem firstE_succ {rows : List Rw} {k : Nat} {a : Rw} (h : rows[k]? = some a) : firstE rows (k + 1) = firstE rows k ++ [⟨((k : Int), a), Int.natCast_nonneg k, by simpa using h⟩] := by
 conv => lhs; unfold firstE
 split
 ·
  rename_i a' h'
  obtain rfl : a = a' := by rw [h] at h'; injection h'
  rfl
 · rename_i h'; rw [h] at h'; cases h'
theorem firstE_mem {rows : List Rw} : ∀ {k i : Nat} {a : Rw}, i < k → (h : rows[i]? = some a) → ∃ x ∈ firstE rows k, x.1 = ((i : Int), a)
 | 0, _, _, hi, _ => absurd hi (by omega)
 | k + 1, i, a, hi, h => by
  by_cases hk : i = k
  ·
   subst hk
   rw [firstE_succ h]
   exact ⟨⟨((i : Int), a), Int.natCast_nonneg i, by simpa using h⟩, by simp, rfl⟩
  ·
   obtain ⟨x, hx, e⟩ := firstE_mem (k := k) (show i < k by omega) h
   refine ⟨x, ?_, e⟩
   unfold firstE
   split
   · simp [hx]
   · exact hx
theorem firstE_len {rows : List Rw} : ∀ {k : Nat}, k ≤ rows.length → (firstE rows k).length = k
 | 0, _ => rfl
 | k + 1, h => by
  rw [firstE_succ (List.getElem?_eq_getElem (show k < rows.length by omega))]
  simp [firstE_len (show k ≤ rows.length by omega)]
set_option maxHeartbeats 400000 in
theorem hasRing_any (s : St) (A : Option Addr) (n cap : Nat) (z : Int) (w : World) (hn : s.rs.length = n) (hm : n ≤ 1048576) :
  Calls Tryz.prog 91 #[stV s A n cap, z] w (RetBelow (.bool (ringB s z)) w) := by
 have HN := Lib.hid hn; clear hn
 unfold stV
 go_enter Tryz.func91, Tryz.ntmps91
 go_wp2
 all_goals
  go_ret
  refine .mk ?_ ((Below.refl _ _).alloc (Nat.le_refl _) _)
  simp [ringB, inB, HN.out, *] <;> omega
def sC (s : St) (A : Option Addr) (n cap : Nat) : Array Value := (aS s A n cap)
set_option maxHeartbeats 400000 in
theorem ringsOf_any (s : St) (A : Option Addr) (n cap : Nat) (w : World) :
  Calls Tryz.prog 135 #[stV s A n cap] w (fun e w' => e = .returned (.func (.func 155) #[] #[pT w.heap.size]) ∧ w' = w.alloc (.cells (sC s A n cap) 32)) := by
 unfold stV
 go_enter Tryz.func135, Tryz.ntmps135
 go_wp2
 go_ret
 exact ⟨rfl, rfl⟩
set_option maxHeartbeats 400000 in
theorem ringsFrom_any (s : St) (A : Option Addr) (n cap : Nat) (z : Int) (w : World) :
  Calls Tryz.prog 158 #[stV s A n cap, z] w (fun e w' => e = .returned (.func (.func 173) #[] #[pT (w.heap.size + 1), pT w.heap.size]) ∧ w' = (w.alloc (.cells (sC s A n cap) 32)).alloc (.cells #[z] 2)) := by
 unfold stV
 go_enter Tryz.func158, Tryz.ntmps158
 go_wp2
 go_ret
 exact ⟨by simp, rfl⟩
end Go.Proofs.YthpckpnlohfcbaaGreatDoor
namespace Go.Proofs.YthpckpnlohfcbaaGreatDoor
set_option linter.unusedSimpArgs false
set_option linter.unusedVariables false
open Go.RowKit Go.Shelf
set_option linter.unusedVariables false
attribute [local go_sem] Oper.semAt_some
attribute [local go_sem ↓] Go.wp_at_zero Go.wp_at_succ
theorem grown_of_below {w w' : World} (h : Below w.heap.size w w') : w.grownBy w' none := ⟨h.os, h.tape, h.output, h.size, fun k hk _ => h.block k hk⟩
theorem abides_below {β : Type} {B : Nat} {J : β → World → Prop} (hJ : AbidesFrom B J) {s : β} {w w' : World} (h : J s w) (hb : Below w.heap.size w w') : J s w' := hJ s w w' none h (grown_of_below hb) (fun r e => by cases e)
theorem rws_at {lo : Nat} {w : World} {b n cap : Nat} {rows : List Rw} (h : RwsO lo w b n cap rows) {i : Nat} {a : Rw} (ha : rows[i]? = some a) :
  w.cell? ⟨b, i * 5, none⟩ = some (.int .i64 a.h) ∧ w.cell? ⟨b, i * 5 + 1, none⟩ = some (.int .i64 a.t) ∧ w.cell? ⟨b, i * 5 + 2, none⟩ = some (.bool a.c) ∧ w.cell? ⟨b, i * 5 + 3, none⟩ = some (.int .i64 a.x) ∧ w.cell? ⟨b, i * 5 + 4, none⟩ = some (.slice a.A a.n a.cap) :=
 ⟨Own.cell_ Rw.cs_len h (j := 0) ha rfl, Own.cell_ Rw.cs_len h (j := 1) ha rfl, Own.cell_ Rw.cs_len h (j := 2) ha rfl, Own.cell_ Rw.cs_len h (j := 3) ha rfl, Own.cell_ Rw.cs_len h (j := 4) ha rfl⟩
def Stops {rows : List Rw} (xs : List (El rows)) (J Jx : List (El rows) → World → Prop) (e : Ending) (W' : World) : Prop :=
 (∃ v, e = .returned v) ∧ ((∃ ys, ys = xs ∧ J ys W') ∨ (∃ pre, pre <+: xs ∧ Jx pre W'))
set_option maxRecDepth 100000 in
set_option maxHeartbeats 2000000 in
theorem ringsFrom1_in (m l Bs Br n₀ a₀ b₀ lo b n cap : Nat) (s : St) (rows : List Rw) (z0 : Int) (hm : 1 ≤ m) (hn : s.rs.length = n) (hn2 : n ≤ 1048576) (J Jx : List (El rows) → World → Prop)
  (hY : ∀ pre x W, J pre W → pre.length < n → YieldAt Fence.wide (m - 1) Tryz.prog l (elV x) W fun e W' => (e = .returned (.bool true) ∧ J (pre ++ [x]) W' ∧ KpI n₀ a₀ b₀ W W') ∨ (e = .returned (.bool false) ∧ Jx (pre ++ [x]) W'))
  (W : World) (hJ : AbidesFrom W.heap.size J) (hS : BoxAt W Bs (sC s (some ⟨b, 0, none⟩) n cap) 32) (hR : W.cell? ⟨Br, 0, none⟩ = some (.int .i64 z0)) (hO : RwsO lo W b n cap rows) (hb : b < n₀) (ha : a₀ ≤ Bs) (hb₀ : Bs < b₀) (h0 : J [] W) :
  CallsIn Fence.wide m Tryz.prog 173 #[.func (.yield l) #[] #[], pT Br, pT Bs] W (Stops (walkE rows n z0) J Jx) := by
 have HN := Lib.hid hn
 have hrl : rows.length = n := hO.1
 have HRL := Lib.hid hrl; clear hrl hn
 refine callsIn_of_wp Tryz.func173 rfl trivial ?_ rfl
 simp only [Tryz.ntmps173, List.size_toArray, List.length_cons, List.length_nil, Nat.reduceAdd, Nat.reduceSub, Array.replicate_succ, Array.replicate_zero, List.push_toArray, List.append_toArray, List.nil_append, List.cons_append]
 have kS := hS.cell
 unfold sC at kS
 gi_wp2
 clear kS
 gi_loopw [4, 9] (fun s4 s9 wr => ∃ (i : Nat) (z : Int) (pre : List (El rows)), i ≤ n ∧ pre.length = i ∧ s4 = .int .i64 z ∧ s9 = .int .i64 i ∧ J pre wr ∧ BoxAt wr Bs (sC s (some ⟨b, 0, none⟩) n cap) 32 ∧ RwsO lo wr b n cap rows ∧ pre ++ walkE rows (n - i) z = walkE rows n z0) (fun _ s9 _ => n - (intOf s9).toNat)
 case atStart => exact ⟨0, z0, [], Nat.zero_le _, rfl, rfl, rfl, h0, hS, hO, by simp⟩
 case round =>
  obtain ⟨i, z, pre, hi, hpl, rfl, rfl, hj, hs, ho, hw⟩ := hrel
  have HW := Lib.hid hw; clear hw
  have HPL := Lib.hid hpl; clear hpl
  by_cases hlt : i < n
  ·
   have h1 : (i : Int) < (n : Int) := by omega
   have ks := hs.cell
   unfold sC at ks
   gi_wp2_with fail
   refine ⟨trivial, ?_⟩
   refine (callsIn_wide.2 (hasRing_any s _ n cap z _ HN.out hn2)).mono ?_
   rintro e w1 ⟨rfl, hb1⟩
   clear ks
   replace hj := abides_below hJ hj hb1
   replace hs := hs.below hb1 hs.lt
   replace ho := Own.below ho hb1
   clear hb1
   cases hz : ringB s z
   ·
    have HZ := Lib.hid hz; clear hz
    gi_wp2
    refine ⟨fun _ h => (by cases h), ?_⟩
    gi_wp2
    refine bodyPost_ret (results_none rfl _ _ _) rfl ?_
    refine ⟨⟨_, rfl⟩, .inl ⟨pre, ?_, hj⟩⟩
    rw [← HW.out, walkE_out, List.append_nil]
    have := HZ.out
    simp only [ringB, inB, Bool.and_eq_false_iff, decide_eq_false_iff_not] at this
    rw [HRL.out, ← HN.out]; omega
   ·
    have hz' : 0 ≤ z ∧ z < n := by
     simp only [ringB, inB, Bool.and_eq_true, decide_eq_true_eq] at hz
     rw [HN.out] at hz; omega
    have hz0 := hz'.1
    have hz1 := hz'.2
    clear hz hz'
    have hzl : z.toNat < rows.length := by rw [HRL.out]; omega
    obtain ⟨a, hra⟩ : ∃ a, rows[z.toNat]? = some a := ⟨_, List.getElem?_eq_getElem hzl⟩
    obtain ⟨fn, tmps, assign, body, hy, hR⟩ := hY pre ⟨(z, a), hz0, hra⟩ w1 hj (by rw [HPL.out]; exact hlt)
    have HX := Lib.hid (walkE_in (k := n - (i + 1)) hz0 hra)
    have HRA := Lib.hid hra
    obtain ⟨d0, d1, d2, d3, d4⟩ := rws_at ho hra
    have ks := hs.cell
    unfold sC at ks
    unfold elV rwC at hy
    dsimp only at hy
    gi_wp2
    refine hR.mono ?_
    rintro e W3 (⟨rfl, hJ3, hk3⟩ | ⟨rfl, hJx3⟩)
    ·
     clear d0 d1 d2 d3 d4 ks hy
     have hs3 : BoxAt W3 Bs (sC s (some ⟨b, 0, none⟩) n cap) 32 := by
      unfold BoxAt at hs ⊢
      rw [hk3.2 Bs ha hb₀]; exact hs
     have ho3 : RwsO lo W3 b n cap rows := Own.keep ho (hk3.1.block b hb)
     obtain ⟨d0, d1, d2, d3, d4⟩ := rws_at ho3 hra
     clear d0 d1 d2 d4
     have ks := hs3.cell
     unfold sC at ks
     gi_wp2
     go_roundw
     case rel =>
      refine ⟨i + 1, a.x, pre ++ [⟨(z, a), hz0, hra⟩], by omega, by simp [HPL.out], rfl, by go_num, hJ3, hs3, ho3, ?_⟩
      rw [← HW.out, show n - i = (n - (i + 1)) + 1 by omega, HX.out]
      simp
     case measure => simp [intOf]; omega
    ·
     gi_wp2
     refine bodyPost_ret (results_none rfl _ _ _) rfl ?_
     refine ⟨⟨_, rfl⟩, .inr ⟨pre ++ [⟨(z, a), hz0, hra⟩], ?_, hJx3⟩⟩
     rw [← HW.out, show n - i = (n - (i + 1)) + 1 by omega, HX.out]
     exact ⟨walkE rows (n - (i + 1)) a.x, by simp⟩
  ·
   have h1 : ¬ (i : Int) < (n : Int) := by omega
   gi_wp2
   go_end0
   refine ⟨⟨_, rfl⟩, .inl ⟨pre, ?_, hj⟩⟩
   rw [← HW.out, show n - i = 0 by omega]
   simp [walkE]
theorem ringsFrom_stops (m Bs Br n₀ a₀ b₀ lo b n cap : Nat) (s : St) (rows : List Rw) (z0 : Int) (hm : 1 ≤ m) (hn : s.rs.length = n) (hn2 : n ≤ 1048576) (w : World) (hS : BoxAt w Bs (sC s (some ⟨b, 0, none⟩) n cap) 32) (hR : BoxAt w Br #[z0] 2) (hO : RwsO lo w b n cap rows) (hb : b < n₀) (ha : a₀ ≤ Bs) (hb₀ : Bs < b₀) :
  SeqStopsK Fence.wide m Tryz.prog 173 #[pT Br, pT Bs] (elV (rows := rows)) (KpI n₀ a₀ b₀) (fun ys => ys = walkE rows n z0) (fun pre => pre <+: walkE rows n z0) n w := fun l J Jx W hW hJ _ hY h0 => by
 have hR' := hR.below hW hR.lt
 exact ringsFrom1_in m l Bs Br n₀ a₀ b₀ lo b n cap s rows z0 hm hn hn2 J Jx hY W hJ (hS.below hW hS.lt) (by rw [hR'.cell]; rfl) (Own.below hO hW) hb ha hb₀ h0
def StopsF {rows : List Rw} (xs : List (El rows)) (J Jx : List (El rows) → World → Prop) (e : Ending) (W' : World) : Prop :=
 (∃ v, e = .returned v) ∧ ((∃ ys, ys = xs ∧ J ys W') ∨ (∃ pre, True ∧ Jx pre W'))
set_option maxRecDepth 100000 in
set_option maxHeartbeats 2000000 in
theorem ringsOf1_in (m l Bs n₀ a₀ b₀ lo b n cap : Nat) (s : St) (rows : List Rw) (hm : 1 ≤ m) (hn2 : n ≤ 1048576) (J Jx : List (El rows) → World → Prop)
  (hY : ∀ pre x W, J pre W → pre.length < n → YieldAt Fence.wide (m - 1) Tryz.prog l (elV x) W fun e W' => (e = .returned (.bool true) ∧ J (pre ++ [x]) W' ∧ KpI n₀ a₀ b₀ W W') ∨ (e = .returned (.bool false) ∧ Jx (pre ++ [x]) W'))
  (W : World) (hJ : AbidesFrom W.heap.size J) (hS : BoxAt W Bs (sC s (some ⟨b, 0, none⟩) n cap) 32) (hO : RwsO lo W b n cap rows) (hb : b < n₀) (h0 : J [] W) :
  CallsIn Fence.wide m Tryz.prog 155 #[.func (.yield l) #[] #[], pT Bs] W (StopsF (firstE rows n) J Jx) := by
 have hrl : rows.length = n := hO.1
 have HRL := Lib.hid hrl; clear hrl
 refine callsIn_of_wp Tryz.func155 rfl trivial ?_ rfl
 simp only [Tryz.ntmps155, List.size_toArray, List.length_cons, List.length_nil, Nat.reduceAdd, Nat.reduceSub, Array.replicate_succ, Array.replicate_zero, List.push_toArray, List.append_toArray, List.nil_append, List.cons_append]
 have kS := hS.cell
 unfold sC at kS
 gi_wp2
 clear kS
 gi_loopw [8] (fun s8 wr => ∃ (i : Nat), i ≤ n ∧ s8 = .int .i64 i ∧ J (firstE rows i) wr ∧ RwsO lo wr b n cap rows) (fun s8 _ => n - (intOf s8).toNat)
 case atStart => exact ⟨0, Nat.zero_le _, rfl, h0, hO⟩
 case round =>
  obtain ⟨i, hi, rfl, hj, ho⟩ := hrel
  by_cases hlt : i < n
  ·
   have h1 : (i : Int) < (n : Int) := by omega
   have h2 : (0 : Int) ≤ (i : Int) := by omega
   have hil : i < rows.length := by rw [HRL.out]; omega
   obtain ⟨a, hra⟩ : ∃ a, rows[i]? = some a := ⟨_, List.getElem?_eq_getElem hil⟩
   have hl0 : wr.heap.size ≤ wr.heap.size := Nat.le_refl _
   have hj' : J (firstE rows i) (wr.alloc (.cells (rwC a) 79)) := abides_below hJ hj ((Below.refl _ _).alloc (Nat.le_refl _) _)
   have ho' : RwsO lo (wr.alloc (.cells (rwC a) 79)) b n cap rows := Own.al ho _
   obtain ⟨d0, d1, d2, d3, d4⟩ := rws_at ho hra
   obtain ⟨fn, tmps, assign, body, hy, hR⟩ := hY (firstE rows i) ⟨((i : Int), a), Int.natCast_nonneg i, by simpa using hra⟩ _ hj' (by rw [firstE_len (by omega)]; exact hlt)
   unfold elV rwC at hy
   dsimp only at hy
   unfold rwC at hR
   gi_wp2
   refine hR.mono ?_
   rintro e W3 (⟨rfl, hJ3, hk3⟩ | ⟨rfl, hJx3⟩)
   ·
    clear d0 d1 d2 d3 d4 hy
    have ho3 : RwsO lo W3 b n cap rows := Own.keep ho' (hk3.1.block b hb)
    gi_wp2
    go_roundw
    case rel => exact ⟨i + 1, by omega, by go_num, by rw [firstE_succ hra]; exact hJ3, ho3⟩
    case measure => simp [intOf]; omega
   ·
    gi_wp2
    refine bodyPost_ret (results_none rfl _ _ _) rfl ?_
    exact ⟨⟨_, rfl⟩, .inr ⟨_, trivial, hJx3⟩⟩
  ·
   have h1 : ¬ (i : Int) < (n : Int) := by omega
   obtain rfl : i = n := by omega
   gi_wp2
   go_end0
   exact ⟨⟨_, rfl⟩, .inl ⟨_, rfl, hj⟩⟩
theorem ringsOf_stops (m Bs n₀ a₀ b₀ lo b n cap : Nat) (s : St) (rows : List Rw) (hm : 1 ≤ m) (hn2 : n ≤ 1048576) (w : World) (hS : BoxAt w Bs (sC s (some ⟨b, 0, none⟩) n cap) 32) (hO : RwsO lo w b n cap rows) (hb : b < n₀) :
  SeqStopsK Fence.wide m Tryz.prog 155 #[pT Bs] (elV (rows := rows)) (KpI n₀ a₀ b₀) (fun ys => ys = firstE rows n) (fun _ => True) n w := fun l J Jx W hW hJ _ hY h0 =>
 ringsOf1_in m l Bs n₀ a₀ b₀ lo b n cap s rows hm hn2 J Jx hY W hJ (hS.below hW hS.lt) (Own.below hO hW) hb h0
end Go.Proofs.YthpckpnlohfcbaaGreatDoor
namespace Go.Proofs.YthpckpnlohfcbaaGreatDoor
set_option linter.unusedSimpArgs false
set_option linter.unusedVariables false
def endX (X : List Int) : Nat → Int → Int
 | 0, z => z
 | k + 1, z => if 0 ≤ z then match X[z.toNat]? with
  | some x => endX X k x
  | none => z
  else z
theorem endX_neg {X : List Int} {k : Nat} {z : Int} (h : z < 0) : endX X k z = z := by
 cases k with
 | zero => rfl
 | succ k => unfold endX; rw [if_neg (by omega)]
theorem endX_out {X : List Int} {k : Nat} {z : Int} (h : (X.length : Int) ≤ z) : endX X k z = z := by
 cases k with
 | zero => rfl
 | succ k =>
  unfold endX
  rw [List.getElem?_eq_none (by omega)]
  simp
theorem endX_in {X : List Int} {k : Nat} {z x : Int} (h : 0 ≤ z) (hx : X[z.toNat]? = some x) : endX X (k + 1) z = endX X k x := by
 conv => lhs; unfold endX
 rw [if_pos h, hx]
theorem end_chain {L : List Rg} (hL : ∀ r ∈ L, -1 ≤ r.x ∧ r.x < L.length) : ∀ (k : Nat) (z : Int), -1 ≤ z → z < L.length → ((chain L k z).isSome = true ↔ endX (L.map Rg.x) k z = -1)
 | k, z, h1, h2 => by
  by_cases h0 : z < 0
  ·
   rw [chain_neg h0, endX_neg h0]
   simp; omega
  ·
   cases k with
   | zero =>
    rw [chain_zero h0]
    simp [endX]; omega
   | succ k =>
    have hl : z.toNat < L.length := by omega
    have hr : L[z.toNat]? = some L[z.toNat] := List.getElem?_eq_getElem hl
    have hm := hL _ (List.getElem_mem hl)
    rw [chain_succ h0 hr, endX_in (by omega) (by rw [List.getElem?_map, hr]; rfl), ← end_chain hL k _ hm.1 hm.2]
    simp
def endB (s : St) (i : Nat) : Bool := endX (s.rs.map Rg.x) s.rs.length (i : Int) == -1
def inIt (s : St) (i : Nat) (r : Rg) : Bool := r.ok && ((r.ps.length : Int) == s.rd) && endB s i
def ringsB (s : St) : Bool := (List.range s.rs.length).all fun i => match s.rs[i]? with
 | some r => inIt s i r
 | none => true
theorem ringsB_iff {s : St} : ringsB s = true ↔ ∀ (i : Nat) (r : Rg), s.rs[i]? = some r → inIt s i r = true := by
 unfold ringsB
 rw [List.all_eq_true]
 constructor
 ·
  intro h i r hr
  have := h i (List.mem_range.2 (List.getElem?_eq_some_iff.1 hr).1)
  rw [hr] at this
  exact this
 ·
  intro h i hi
  have hl := List.mem_range.1 hi
  rw [List.getElem?_eq_getElem hl]
  exact h i _ (List.getElem?_eq_getElem hl)
theorem ringsB_false {s : St} {i : Nat} {r : Rg} (h : s.rs[i]? = some r) (h' : inIt s i r = false) : ringsB s = false := by
 cases hb : ringsB s with
 | false => rfl
 | true => rw [ringsB_iff.1 hb i r h] at h'; cases h'
theorem ok_next {r : Rg} (h : r.ok = true) : -1 ≤ r.x := by
 simp only [Rg.ok, rgOk, Bool.and_eq_true, nextB, Bool.or_eq_true, beq_iff_eq, idxB, decide_eq_true_eq] at h
 omega
def iHead (s : St) : Bool := roundB s.rd && inB s.mo 1 16 && decide ((s.rs.length : Int) ≤ s.mo) && ringB s s.fi && ringB s s.la
theorem iHead_eq (s : St) : iHead s = stHead s := by
 rw [Bool.eq_iff_iff]
 simp only [iHead, stHead, ringB, inB, Bool.and_eq_true, decide_eq_true_eq]
 constructor
 ·
  rintro ⟨⟨⟨⟨a, b⟩, c⟩, d⟩, e⟩
  exact ⟨⟨⟨⟨a, b⟩, by omega, c⟩, d⟩, e⟩
 ·
  rintro ⟨⟨⟨⟨a, b⟩, _, c⟩, d⟩, e⟩
  exact ⟨⟨⟨⟨a, b⟩, c⟩, d⟩, e⟩
theorem stOk_i (s : St) : stOk s = (iHead s && ringsB s) := by
 rw [Bool.eq_iff_iff, iHead_eq]
 simp only [stOk, Bool.and_eq_true, List.all_eq_true, and_assoc]
 refine and_congr_right fun hh => ?_
 rw [ringsB_iff]
 constructor
 ·
  rintro ⟨h1, h2⟩ i r hr
  have key : ∀ r ∈ s.rs, -1 ≤ r.x ∧ r.x < s.rs.length := fun r hm => by
   have := h1 r hm
   simp only [inSt, Bool.and_eq_true, decide_eq_true_eq] at this
   exact ⟨ok_next this.1.1, this.2⟩
  have hi : i < s.rs.length := (List.getElem?_eq_some_iff.1 hr).1
  have h3 := h1 r (List.mem_of_getElem? hr)
  simp only [inSt, Bool.and_eq_true, decide_eq_true_eq] at h3
  have h4 := h2 i (List.mem_range.2 hi)
  rw [end_chain key _ _ (by omega) (by omega)] at h4
  simp only [inIt, Bool.and_eq_true, endB, beq_iff_eq]
  exact ⟨⟨h3.1.1, by simpa using h3.1.2⟩, h4⟩
 ·
  intro h
  have key0 : ∀ (i : Nat) (r : Rg), s.rs[i]? = some r → r.ok = true ∧ (r.ps.length : Int) = s.rd ∧ endX (s.rs.map Rg.x) s.rs.length (i : Int) = -1 := fun i r hr => by
   have := h i r hr
   simp only [inIt, Bool.and_eq_true, endB, beq_iff_eq] at this
   exact ⟨this.1.1, this.1.2, this.2⟩
  have key : ∀ r ∈ s.rs, -1 ≤ r.x ∧ r.x < s.rs.length := fun r hm => by
   obtain ⟨i, hi, e⟩ := List.getElem_of_mem hm
   have hr : s.rs[i]? = some r := by rw [List.getElem?_eq_getElem hi, e]
   obtain ⟨h1, _, h3⟩ := key0 i r hr
   refine ⟨ok_next h1, ?_⟩
   have h0 := ok_next h1
   refine Classical.byContradiction fun hge => ?_
   obtain ⟨k, hk⟩ : ∃ k, s.rs.length = k + 1 := ⟨s.rs.length - 1, by omega⟩
   rw [hk, endX_in (by omega) (x := r.x) (by rw [show ((i : Int)).toNat = i by omega, List.getElem?_map, hr]; rfl), endX_out (by simp; omega)] at h3
   omega
  refine ⟨fun r hm => ?_, fun i hi => ?_⟩
  ·
   obtain ⟨i, hi, e⟩ := List.getElem_of_mem hm
   have hr : s.rs[i]? = some r := by rw [List.getElem?_eq_getElem hi, e]
   obtain ⟨h1, h2, _⟩ := key0 i r hr
   simp only [inSt, Bool.and_eq_true, decide_eq_true_eq]
   exact ⟨⟨h1, by simpa using h2⟩, (key r hm).2⟩
  ·
   have hl := List.mem_range.1 hi
   obtain ⟨_, _, h3⟩ := key0 i _ (List.getElem?_eq_getElem hl)
   rw [end_chain key _ _ (by omega) (by omega)]
   exact h3
end Go.Proofs.YthpckpnlohfcbaaGreatDoor
namespace Go.Proofs.YthpckpnlohfcbaaGreatDoor
set_option linter.unusedSimpArgs false
set_option linter.unusedVariables false
open Go.RowKit Go.Shelf
set_option linter.unusedVariables false
attribute [local go_sem] Oper.semAt_some
attribute [local go_sem ↓] Go.wp_at_zero Go.wp_at_succ
theorem callsIn_abs {F : Fence} {n : Nat} {P : Program} {f : FuncId} {args : Array Value} {R : Ending → World → Prop} {W : World} (G : World → Prop) (hG : G W) (h : ∀ W', G W' → CallsIn F n P f args W' R) : CallsIn F n P f args W R := h W hG
theorem ownFrom_size {β : Type} {B N : Nat} : OwnFrom B (fun (_ : β) W => N ≤ W.heap.size) := fun _ _ _ _ h hg _ => Nat.le_trans h hg.size
def lastX {rows : List Rw} : Int → List (El rows) → Int
 | z, [] => z
 | _, x :: l => lastX x.1.2.x l
theorem lastX_snoc {rows : List Rw} (x : El rows) : ∀ (l : List (El rows)) (z : Int), lastX z (l ++ [x]) = x.1.2.x
 | [], _ => rfl
 | y :: l, _ => by simp only [List.cons_append, lastX, lastX_snoc x l]
theorem lastX_walk {rows : List Rw} : ∀ (k : Nat) (z : Int), lastX z (walkE rows k z) = endX (rows.map Rw.x) k z
 | 0, _ => rfl
 | k + 1, z => by
  by_cases h : 0 ≤ z ∧ z < rows.length
  ·
   have hl : z.toNat < rows.length := by omega
   have hr : rows[z.toNat]? = some rows[z.toNat] := List.getElem?_eq_getElem hl
   rw [walkE_in h.1 hr, endX_in h.1 (x := rows[z.toNat].x) (by rw [List.getElem?_map, hr]; rfl)]
   exact lastX_walk k _
  ·
   rw [walkE_out (by omega)]
   by_cases h0 : z < 0
   · rw [endX_neg h0]; rfl
   · rw [endX_out (by simp; omega)]; rfl
theorem rows_x {lo hi : Nat} {w : World} {rows : List Rw} {L : List Rg} (hl : rows.length = L.length) (h : AllIs lo hi w rows L) : rows.map Rw.x = L.map Rg.x := by
 apply List.ext_getElem?
 intro i
 rw [List.getElem?_map, List.getElem?_map]
 by_cases hi : i < rows.length
 ·
  obtain ⟨r, hr, _, _, _, hx, _⟩ := h i _ (List.getElem?_eq_getElem hi)
  rw [List.getElem?_eq_getElem hi, hr]
  simp [hx]
 · rw [List.getElem?_eq_none (by omega), List.getElem?_eq_none (by omega)]; rfl
set_option maxRecDepth 100000 in
set_option maxHeartbeats 4000000 in
theorem comesToAnEnd_any (s : St) (b n cap : Nat) (z : Int) (lo hi : Nat) (rows : List Rw) (w : World) (hO : RwsO lo w b n cap rows) (hA : AllIs lo hi w rows s.rs) (hbw : b < w.heap.size) (hn : s.rs.length = n) (hn2 : n ≤ 1048576) :
  Calls Tryz.prog 137 #[stV s (some ⟨b, 0, none⟩) n cap, z] w (RetBelow (.bool (endX (s.rs.map Rg.x) n z == -1)) w) := by
 have HX := Lib.hid (rows_x (hO.1.trans hn.symm) hA)
 have HN := Lib.hid hn; clear hn
 unfold stV
 refine (callsIn_wide (n := 3)).1 ?_
 refine callsIn_of_wp_marks Tryz.func137 rfl trivial ?_ rfl
 simp only [Tryz.ntmps137, List.size_toArray, List.length_cons, List.length_nil, Nat.reduceAdd, Nat.reduceSub, Array.replicate_succ, Array.replicate_zero, List.push_toArray, List.append_toArray, List.nil_append, List.cons_append]
 gi_wp2_with fail
 refine ⟨trivial, ?_⟩
 refine callsIn_abs (fun W => Below w.heap.size w W ∧ W.heap.size = w.heap.size + 2 ∧ BoxAt W (w.heap.size + 1) #[z] 2) ⟨((Below.refl _ _).alloc (Nat.le_refl _) _).alloc (by simp) _, by simp, BoxAt.new' (by simp)⟩ ?_
 rintro W ⟨hB, hsz, hx⟩
 refine (callsIn_wide.2 (ringsFrom_any s _ n cap z _)).mono ?_
 rintro e w' ⟨rfl, rfl⟩
 gi_wp2
 obtain ⟨W0, hW0⟩ : ∃ W0, (W.alloc (.cells (sC s (some ⟨b, 0, none⟩) n cap) 32)).alloc (.cells #[z] 2) = W0 := ⟨_, rfl⟩
 have hs0 : W0.heap.size = w.heap.size + 4 := by rw [← hW0]; simp; omega
 have hB0 : Below w.heap.size w W0 := by rw [← hW0]; exact (hB.alloc (by omega) _).alloc (by simp; omega) _
 have hx0 : BoxAt W0 (w.heap.size + 1) #[z] 2 := by rw [← hW0]; exact (hx.alloc _).alloc _
 have hS0 : BoxAt W0 (w.heap.size + 2) (sC s (some ⟨b, 0, none⟩) n cap) 32 := by rw [← hW0]; exact (BoxAt.new' hsz.symm).alloc _
 have hR0 : BoxAt W0 (w.heap.size + 2 + 1) #[z] 2 := by rw [← hW0]; exact BoxAt.new' (by simp [hsz])
 have hO0 : RwsO lo W0 b n cap rows := Own.keep hO (hB0.block b hbw)
 rw [hW0]
 clear hW0 hx hB hsz
 refine wpIn_rangeFunc_ownH rfl (by omega) (gf := 173) (lb := #[pT (w.heap.size + 2 + 1), pT (w.heap.size + 2)]) rfl trivial (enters_of Tryz.func173 (by kernel_rfl) rfl)
  (ringsFrom_stops 2 (w.heap.size + 2) (w.heap.size + 2 + 1) w.heap.size (w.heap.size + 2) (w.heap.size + 3) lo b n cap s rows z (by omega) HN.out hn2 W0 hS0 hR0 hO0 hbw (by omega) (by omega)) kpI_t (kpI_b (by omega) (by omega)) (Below.refl _ _) (fun _ => rfl)
  (fun pre W' => (BoxAt W' (w.heap.size + 1) #[.int .i64 (lastX z pre)] 2 ∧ w.heap.size + 4 ≤ W'.heap.size) ∧ Below w.heap.size w W')
  (fun _ _ _ => False)
  (OwnFrom.and (OwnFrom.and (boxAt_own _ _ _ _) ownFrom_size) (ownFrom_below (Nat.le_refl _) (by omega)))
  (fun _ _ _ _ _ hs _ _ => hs)
  ⟨⟨hx0, by omega⟩, hB0⟩
  (fun x a' W' => ∃ Bx, BoxAt W' Bx (rwC x.1.2) 79 ∧ a' = { tmps := #[.agg (aS s (some ⟨b, 0, none⟩) n cap), z, pT w.heap.size, undef, .bool false, pT (w.heap.size + 1), undef, pT Bx, z, .agg (aS s (some ⟨b, 0, none⟩) n cap), z, .func (.func 173) #[] #[pT (w.heap.size + 2 + 1), pT (w.heap.size + 2)], x.1.1, .agg (rwC x.1.2), undef, undef, undef, undef], defers := [] })
  (fun x a' _ X Y row hs hg hr => by obtain ⟨Bx, h1, h2⟩ := hs; exact ⟨Bx, boxAt_own W0.heap.size Bx (fun (_ : Unit) => rwC x.1.2) 79 () X Y row h1 hg hr, h2⟩)
  ?assign ?body ?done ?stop
 case assign =>
  rintro l pre x W1 K ⟨⟨hx1, hz1⟩, hB1⟩ hK
  unfold elV rwC
  gi_wp2
  exact hK _ _ ((KeepsOthers.alloc _ _).from _) ⟨(Below.refl _ W1).alloc hB1.size _, .alloc (by omega) _⟩ ⟨⟨hx1.alloc _, by simp; omega⟩, hB1.alloc hB1.size _⟩ ⟨W1.heap.size, BoxAt.new _ _ _, rfl⟩
 case body =>
  rintro l pre x a' W1 _ _ ⟨⟨hx1, hz1⟩, hB1⟩ ⟨Bx, bX, rfl⟩ _
  have kX := bX.cell
  have kx := hx1.cell
  have fx := hx1.frozen
  unfold rwC at kX
  gi_wp2
  refine ⟨(KeepsOthers.setCell _ _ _).from _, ⟨(Below.refl _ W1).setCell (p := ⟨w.heap.size + 1, 0, none⟩) (by simp) _, .set (by omega) _ _⟩, ⟨?_, by simpa using hz1⟩, hB1.setCell (p := ⟨w.heap.size + 1, 0, none⟩) (by simp) _⟩
  rw [lastX_snoc]
  exact hx1.set 0 _
 case done =>
  rintro D ys W1 hD rfl ⟨⟨hx1, hz1⟩, hB1⟩ hK
  have kx := hx1.cell
  gi_wp2
  refine ⟨by simp, .inl ⟨_, _, rfl, run_takeDeferred hK, ?_⟩⟩
  refine ⟨_, results_tmp rfl _ _ _, .mk ?_ (hB1.trans (belowK_b (w := w) (Nat.le_refl _) W1 D _ _ (by omega) hK rfl rfl))⟩
  rw [lastX_walk, HX.out]
  rfl
 case stop =>
  rintro D c pre W1 _ _ h _
  exact h.elim
end Go.Proofs.YthpckpnlohfcbaaGreatDoor

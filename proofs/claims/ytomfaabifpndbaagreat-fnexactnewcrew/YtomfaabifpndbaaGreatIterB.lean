/-
  What the program's iterators over the rings of a store hand on.
-/
import Derived.Test.YtomfaabifpndbaaGreatIterA
namespace Go.Proofs.YtomfaabifpndbaaGreat
set_option linter.unusedSimpArgs false
set_option linter.unusedVariables false
open Go.RowKit Go.Shelf
set_option linter.unusedVariables false
attribute [local go_sem] Oper.semAt_some
attribute [local go_sem ↓] Go.wp_at_zero Go.wp_at_succ

theorem grown_of_below {w w' : World} (h : Below w.heap.size w w') : w.grownBy w' none := ⟨h.os, h.tape, h.output, h.size, fun k hk _ => h.block k hk⟩
theorem abides_below {β : Type} {B : Nat} {J : β → World → Prop} (hJ : AbidesFrom B J) {s : β} {w w' : World} (h : J s w) (hb : Below w.heap.size w w') : J s w' := hJ s w w' none h (grown_of_below hb) (fun r e => by cases e)

theorem rws_at {lo : Nat} {w : World} {b n cap : Nat} {rows : List Rw} (h : RwsO lo w b n cap rows) {i : Nat} {a : Rw} (ha : rows[i]? = some a) :
    w.cell? ⟨b, i * 5, none⟩ = some (.int .i64 a.h) ∧ w.cell? ⟨b, i * 5 + 1, none⟩ = some (.int .i64 a.t) ∧ w.cell? ⟨b, i * 5 + 2, none⟩ = some (.bool a.c) ∧ w.cell? ⟨b, i * 5 + 3, none⟩ = some (.int .i64 a.x) ∧ w.cell? ⟨b, i * 5 + 4, none⟩ = some (.slice a.A a.n a.cap) :=
  ⟨Own.cell_ Rw.cs_len h (j := 0) ha rfl, Own.cell_ Rw.cs_len h (j := 1) ha rfl, Own.cell_ Rw.cs_len h (j := 2) ha rfl, Own.cell_ Rw.cs_len h (j := 3) ha rfl, Own.cell_ Rw.cs_len h (j := 4) ha rfl⟩

/-- How an iterator ends: all has come, or a round has said 'no more'. -/
def Stops {rows : List Rw} (xs : List (El rows)) (J Jx : List (El rows) → World → Prop) (e : Ending) (W' : World) : Prop :=
  (∃ v, e = .returned v) ∧ ((∃ ys, ys = xs ∧ J ys W') ∨ (∃ pre, pre <+: xs ∧ Jx pre W'))

set_option maxRecDepth 100000 in
set_option maxHeartbeats 2000000 in
theorem ringsFrom1_in (m l Bs Br n₀ a₀ b₀ lo b n cap : Nat) (s : St) (rows : List Rw) (z0 : Int) (hm : 1 ≤ m) (hn : s.rs.length = n) (hn2 : n ≤ 1048576) (J Jx : List (El rows) → World → Prop)
    (hY : ∀ pre x W, J pre W → pre.length < n → YieldAt Fence.wide (m - 1) Tryz.prog l (elV x) W fun e W' => (e = .returned (.bool true) ∧ J (pre ++ [x]) W' ∧ KpI n₀ a₀ b₀ W W') ∨ (e = .returned (.bool false) ∧ Jx (pre ++ [x]) W'))
    (W : World) (hJ : AbidesFrom W.heap.size J) (hS : BoxAt W Bs (sC s (some ⟨b, 0, none⟩) n cap) 26) (hR : W.cell? ⟨Br, 0, none⟩ = some (.int .i64 z0)) (hO : RwsO lo W b n cap rows) (hb : b < n₀) (ha : a₀ ≤ Bs) (hb₀ : Bs < b₀) (h0 : J [] W) :
    CallsIn Fence.wide m Tryz.prog 137 #[.func (.yield l) #[] #[], .pointer (some ⟨Br, 0, none⟩), .pointer (some ⟨Bs, 0, none⟩)] W (Stops (walkE rows n z0) J Jx) := by
  have HN := Lib.hid hn
  have hrl : rows.length = n := hO.1
  have HRL := Lib.hid hrl; clear hrl hn
  refine callsIn_of_wp Tryz.func137 rfl trivial ?_ rfl
  simp only [Tryz.ntmps137, List.size_toArray, List.length_cons, List.length_nil, Nat.reduceAdd, Nat.reduceSub, Array.replicate_succ, Array.replicate_zero, List.push_toArray, List.append_toArray, List.nil_append, List.cons_append]
  have kS := hS.cell
  unfold sC at kS
  gi_wp2
  clear kS
  gi_loopw [4, 9] (fun s4 s9 wr => ∃ (i : Nat) (z : Int) (pre : List (El rows)), i ≤ n ∧ pre.length = i ∧ s4 = .int .i64 z ∧ s9 = .int .i64 i ∧ J pre wr ∧ BoxAt wr Bs (sC s (some ⟨b, 0, none⟩) n cap) 26 ∧ RwsO lo wr b n cap rows ∧ pre ++ walkE rows (n - i) z = walkE rows n z0) (fun _ s9 _ => n - (intOf s9).toNat)
  case atStart => exact ⟨0, z0, [], Nat.zero_le _, rfl, rfl, rfl, h0, hS, hO, by simp⟩
  case round =>
    obtain ⟨i, z, pre, hi, hpl, rfl, rfl, hj, hs, ho, hw⟩ := hrel
    have HW := Lib.hid hw; clear hw
    have HPL := Lib.hid hpl; clear hpl
    by_cases hlt : i < n
    · have h1 : (i : Int) < (n : Int) := by omega
      have ks := hs.cell
      unfold sC at ks
      gi_wp2_with fail
      refine ⟨trivial, ?_⟩
      refine (callsIn_wide.2 (hasRing_any s _ n cap z _ HN.out hn2)).mono ?_
      rintro e w1 ⟨rfl, hb1⟩
      clear ks
      replace hj := abides_below hJ hj hb1
      replace hs := hs.below hb1 hs.lt
      replace ho := Own.below ho hb1
      clear hb1
      cases hz : ringB s z
      · have HZ := Lib.hid hz; clear hz
        gi_wp2
        refine ⟨fun _ h => (by cases h), ?_⟩
        gi_wp2
        refine bodyPost_ret (results_none rfl _ _ _) rfl ?_
        refine ⟨⟨_, rfl⟩, .inl ⟨pre, ?_, hj⟩⟩
        rw [← HW.out, walkE_out, List.append_nil]
        have := HZ.out
        simp only [ringB, inB, Bool.and_eq_false_iff, decide_eq_false_iff_not] at this
        rw [HRL.out, ← HN.out]; omega
      · have hz' : 0 ≤ z ∧ z < n := by
          simp only [ringB, inB, Bool.and_eq_true, decide_eq_true_eq] at hz
          rw [HN.out] at hz; omega
        have hz0 := hz'.1
        have hz1 := hz'.2
        clear hz hz'
        have hzl : z.toNat < rows.length := by rw [HRL.out]; omega
        obtain ⟨a, hra⟩ : ∃ a, rows[z.toNat]? = some a := ⟨_, List.getElem?_eq_getElem hzl⟩
        obtain ⟨fn, tmps, assign, body, hy, hR⟩ := hY pre ⟨(z, a), hz0, hra⟩ w1 hj (by rw [HPL.out]; exact hlt)
        have HX := Lib.hid (walkE_in (k := n - (i + 1)) hz0 hra)
        have HRA := Lib.hid hra
        obtain ⟨d0, d1, d2, d3, d4⟩ := rws_at ho hra
        have ks := hs.cell
        unfold sC at ks
        unfold elV rwC at hy
        dsimp only at hy
        gi_wp2
        refine hR.mono ?_
        rintro e W3 (⟨rfl, hJ3, hk3⟩ | ⟨rfl, hJx3⟩)
        · clear d0 d1 d2 d3 d4 ks hy
          have hs3 : BoxAt W3 Bs (sC s (some ⟨b, 0, none⟩) n cap) 26 := by
            unfold BoxAt at hs ⊢
            rw [hk3.2 Bs ha hb₀]; exact hs
          have ho3 : RwsO lo W3 b n cap rows := Own.keep ho (hk3.1.block b hb)
          obtain ⟨d0, d1, d2, d3, d4⟩ := rws_at ho3 hra
          clear d0 d1 d2 d4
          have ks := hs3.cell
          unfold sC at ks
          gi_wp2
          go_roundw
          case rel =>
            refine ⟨i + 1, a.x, pre ++ [⟨(z, a), hz0, hra⟩], by omega, by simp [HPL.out], rfl, by go_num, hJ3, hs3, ho3, ?_⟩
            rw [← HW.out, show n - i = (n - (i + 1)) + 1 by omega, HX.out]
            simp
          case measure => simp [intOf]; omega
        · gi_wp2
          refine bodyPost_ret (results_none rfl _ _ _) rfl ?_
          refine ⟨⟨_, rfl⟩, .inr ⟨pre ++ [⟨(z, a), hz0, hra⟩], ?_, hJx3⟩⟩
          rw [← HW.out, show n - i = (n - (i + 1)) + 1 by omega, HX.out]
          exact ⟨walkE rows (n - (i + 1)) a.x, by simp⟩
    · have h1 : ¬ (i : Int) < (n : Int) := by omega
      gi_wp2
      go_end0
      refine ⟨⟨_, rfl⟩, .inl ⟨pre, ?_, hj⟩⟩
      rw [← HW.out, show n - i = 0 by omega]
      simp [walkE]

/-- ringsFrom hands back a function that goes from ring z0 on. -/
theorem ringsFrom_stops (m Bs Br n₀ a₀ b₀ lo b n cap : Nat) (s : St) (rows : List Rw) (z0 : Int) (hm : 1 ≤ m) (hn : s.rs.length = n) (hn2 : n ≤ 1048576) (w : World) (hS : BoxAt w Bs (sC s (some ⟨b, 0, none⟩) n cap) 26) (hR : BoxAt w Br #[.int .i64 z0] 2) (hO : RwsO lo w b n cap rows) (hb : b < n₀) (ha : a₀ ≤ Bs) (hb₀ : Bs < b₀) :
    SeqStopsK Fence.wide m Tryz.prog 137 #[.pointer (some ⟨Br, 0, none⟩), .pointer (some ⟨Bs, 0, none⟩)] (elV (rows := rows)) (KpI n₀ a₀ b₀) (fun ys => ys = walkE rows n z0) (fun pre => pre <+: walkE rows n z0) n w := fun l J Jx W hW hJ _ hY h0 => by
  have hR' := hR.below hW hR.lt
  exact ringsFrom1_in m l Bs Br n₀ a₀ b₀ lo b n cap s rows z0 hm hn hn2 J Jx hY W hJ (hS.below hW hS.lt) (by rw [hR'.cell]; rfl) (Own.below hO hW) hb ha hb₀ h0

def StopsF {rows : List Rw} (xs : List (El rows)) (J Jx : List (El rows) → World → Prop) (e : Ending) (W' : World) : Prop :=
  (∃ v, e = .returned v) ∧ ((∃ ys, ys = xs ∧ J ys W') ∨ (∃ pre, True ∧ Jx pre W'))

set_option maxRecDepth 100000 in
set_option maxHeartbeats 2000000 in
theorem ringsOf1_in (m l Bs n₀ a₀ b₀ lo b n cap : Nat) (s : St) (rows : List Rw) (hm : 1 ≤ m) (hn2 : n ≤ 1048576) (J Jx : List (El rows) → World → Prop)
    (hY : ∀ pre x W, J pre W → pre.length < n → YieldAt Fence.wide (m - 1) Tryz.prog l (elV x) W fun e W' => (e = .returned (.bool true) ∧ J (pre ++ [x]) W' ∧ KpI n₀ a₀ b₀ W W') ∨ (e = .returned (.bool false) ∧ Jx (pre ++ [x]) W'))
    (W : World) (hJ : AbidesFrom W.heap.size J) (hS : BoxAt W Bs (sC s (some ⟨b, 0, none⟩) n cap) 26) (hO : RwsO lo W b n cap rows) (hb : b < n₀) (h0 : J [] W) :
    CallsIn Fence.wide m Tryz.prog 129 #[.func (.yield l) #[] #[], .pointer (some ⟨Bs, 0, none⟩)] W (StopsF (firstE rows n) J Jx) := by
  have hrl : rows.length = n := hO.1
  have HRL := Lib.hid hrl; clear hrl
  refine callsIn_of_wp Tryz.func129 rfl trivial ?_ rfl
  simp only [Tryz.ntmps129, List.size_toArray, List.length_cons, List.length_nil, Nat.reduceAdd, Nat.reduceSub, Array.replicate_succ, Array.replicate_zero, List.push_toArray, List.append_toArray, List.nil_append, List.cons_append]
  have kS := hS.cell
  unfold sC at kS
  gi_wp2
  clear kS
  gi_loopw [8] (fun s8 wr => ∃ (i : Nat), i ≤ n ∧ s8 = .int .i64 i ∧ J (firstE rows i) wr ∧ RwsO lo wr b n cap rows) (fun s8 _ => n - (intOf s8).toNat)
  case atStart => exact ⟨0, Nat.zero_le _, rfl, h0, hO⟩
  case round =>
    obtain ⟨i, hi, rfl, hj, ho⟩ := hrel
    by_cases hlt : i < n
    · have h1 : (i : Int) < (n : Int) := by omega
      have h2 : (0 : Int) ≤ (i : Int) := by omega
      have hil : i < rows.length := by rw [HRL.out]; omega
      obtain ⟨a, hra⟩ : ∃ a, rows[i]? = some a := ⟨_, List.getElem?_eq_getElem hil⟩
      have hl0 : wr.heap.size ≤ wr.heap.size := Nat.le_refl _
      have hj' : J (firstE rows i) (wr.alloc (.cells (rwC a) 81)) := abides_below hJ hj ((Below.refl _ _).alloc (Nat.le_refl _) _)
      have ho' : RwsO lo (wr.alloc (.cells (rwC a) 81)) b n cap rows := Own.al ho _
      obtain ⟨d0, d1, d2, d3, d4⟩ := rws_at ho hra
      obtain ⟨fn, tmps, assign, body, hy, hR⟩ := hY (firstE rows i) ⟨((i : Int), a), Int.natCast_nonneg i, by simpa using hra⟩ _ hj' (by rw [firstE_len (by omega)]; exact hlt)
      unfold elV rwC at hy
      dsimp only at hy
      unfold rwC at hR
      gi_wp2
      refine hR.mono ?_
      rintro e W3 (⟨rfl, hJ3, hk3⟩ | ⟨rfl, hJx3⟩)
      · clear d0 d1 d2 d3 d4 hy
        have ho3 : RwsO lo W3 b n cap rows := Own.keep ho' (hk3.1.block b hb)
        gi_wp2
        go_roundw
        case rel => exact ⟨i + 1, by omega, by go_num, by rw [firstE_succ hra]; exact hJ3, ho3⟩
        case measure => simp [intOf]; omega
      · gi_wp2
        refine bodyPost_ret (results_none rfl _ _ _) rfl ?_
        exact ⟨⟨_, rfl⟩, .inr ⟨_, trivial, hJx3⟩⟩
    · have h1 : ¬ (i : Int) < (n : Int) := by omega
      obtain rfl : i = n := by omega
      gi_wp2
      go_end0
      exact ⟨⟨_, rfl⟩, .inl ⟨_, rfl, hj⟩⟩

/-- ringsOf hands back a function that goes through all rings. -/
theorem ringsOf_stops (m Bs n₀ a₀ b₀ lo b n cap : Nat) (s : St) (rows : List Rw) (hm : 1 ≤ m) (hn2 : n ≤ 1048576) (w : World) (hS : BoxAt w Bs (sC s (some ⟨b, 0, none⟩) n cap) 26) (hO : RwsO lo w b n cap rows) (hb : b < n₀) :
    SeqStopsK Fence.wide m Tryz.prog 129 #[.pointer (some ⟨Bs, 0, none⟩)] (elV (rows := rows)) (KpI n₀ a₀ b₀) (fun ys => ys = firstE rows n) (fun _ => True) n w := fun l J Jx W hW hJ _ hY h0 =>
  ringsOf1_in m l Bs n₀ a₀ b₀ lo b n cap s rows hm hn2 J Jx hY W hJ (hS.below hW hS.lt) (Own.below hO hW) hb h0

end Go.Proofs.YtomfaabifpndbaaGreat

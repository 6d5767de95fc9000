/-
  math/bits.Mul at one and a small number; the builtin copy at elements of any size.
-/
import Derived.Laws.Bits64b
import Derived.Laws.IdiomCopy
import Derived.Test.YtomfaabifpndbaaGreatCpyC
namespace Go.Proofs.YtomfaabifpndbaaGreat
set_option linter.unusedSimpArgs false
set_option linter.unusedVariables false
open Go.RowKit
set_option linter.unusedVariables false
attribute [local go_sem ↓] Go.wp_at_zero Go.wp_at_succ

theorem and32 (n : Nat) (h : n < 4294967296) : bits .and .u64 (n : Int) 4294967295 = n := by
  have := Go.bits_and_u64_nat n 4294967295 (by omega) (by omega)
  rw [show (4294967295 : Nat) = 2 ^ 32 - 1 from rfl, Nat.and_two_pow_sub_one_eq_mod, Nat.mod_eq_of_lt (by omega)] at this
  exact this

set_option maxRecDepth 100000 in
set_option maxHeartbeats 2000000 in
theorem mul64_one (n : Nat) (h : n ≤ 1048576) (w : World) :
    Calls Tryz.prog 86 #[.int .u64 1, .int .u64 (n : Int)] w (fun e w' => e = .returned (.tuple #[.int .u64 0, .int .u64 (n : Int)]) ∧ w' = w) := by
  have h1 := and32 n (by omega)
  have h2 : (n : Int) / 4294967296 = 0 := by omega
  have h3 : IntKind.wrap .u64 (n : Int) = n := Go.IntWalk.u64_in _ (by omega)
  have h4 : bits .and .u64 1 4294967295 = 1 := by kernel_rfl
  have h5 : IntKind.wrap .u64 0 = 0 := by kernel_rfl
  have h6 : bits .and .u64 0 4294967295 = 0 := by kernel_rfl
  go_enter Tryz.func86, Tryz.ntmps86
  go_wp2_with fail
  refine bodyPost_ret (v := .tuple #[.int .u64 0, .int .u64 (n : Int)]) (by simp [results, Tryz.results86, go_sem, h2, h3, h4, h5, h6]) rfl ⟨rfl, rfl⟩

set_option maxRecDepth 100000 in
set_option maxHeartbeats 2000000 in
theorem mul_one_ (n : Nat) (h : n ≤ 1048576) (w : World) :
    Calls Tryz.prog 58 #[.int .u64 1, .int .u64 (n : Int)] w (fun e w' => e = .returned (.tuple #[.int .u64 0, .int .u64 (n : Int)]) ∧ w' = w) := by
  go_enter Tryz.func58, Tryz.ntmps58
  go_wp2_with fail
  refine (mul64_one n h _).mono ?_
  rintro e w1 ⟨rfl, rfl⟩
  go_wp2_with fail
  exact bodyPost_ret (v := .tuple #[.int .u64 0, .int .u64 (n : Int)]) (by simp [results, Tryz.results58, go_sem]) rfl ⟨rfl, rfl⟩

theorem setCells_eq {g : Nat} : ∀ (us : List Value) (o : Nat) (w : World), Go.World.setCells w g o us = setCells w g o us
  | [], _, _ => rfl
  | u :: us, o, w => by
    show Go.World.setCells (w.setCell ⟨g, o, none⟩ u) g (o + 1) us = _
    rw [setCells_eq us]; rfl

theorem setAll_eq : ∀ (us : List Value) (xs : List Value) (o : Nat), o + us.length ≤ xs.length → setAll xs o us = xs.take o ++ us ++ xs.drop (o + us.length)
  | [], xs, o, h => by simp [setAll]
  | u :: us, xs, o, h => by
    have h' : o + (us.length + 1) ≤ xs.length := by simpa using h
    have ho : o < xs.length := by omega
    rw [setAll, setAll_eq us _ _ (by simp; omega)]
    have e1 : (xs.set o u).take (o + 1) = xs.take o ++ [u] := by
      rw [List.take_set, List.take_add_one, List.getElem?_eq_getElem ho]
      show (xs.take o ++ [xs[o]]).set o u = _
      rw [List.set_append_right _ _ (by simp; omega)]
      simp [Nat.min_eq_left (Nat.le_of_lt ho)]
    rw [e1, List.drop_set_of_lt (by omega)]
    simp [Nat.add_assoc, Nat.add_comm, Nat.add_left_comm]

section
variable {P : Program}
theorem run_copy_any (w : World) (dT sT ty elem : TypeId) (b o dLen dCap : Nat) (a : Addr) (sLen sCap m sz : Nat) (cs : List Value)
    (hu : P.underlying dT = some (.slice elem)) (hs : (P.info? elem).map (·.size) = some sz) (hm : Nat.min sLen dLen = m) (hn : cs.length = m * sz)
    (hsrc : ∀ j v, cs[j]? = some v → w.cell? (a.add j) = some v) (hc : ∀ j, j < cs.length → (w.cell? ⟨b, o + j, none⟩).isSome = true) (hf : ∀ j, j < cs.length → w.frozen? ⟨b, o + j, none⟩ = false) (h1 : ∀ v ∈ cs, v.oneCell' = true) :
    (Builtin.copy_ #[dT, sT] ty #[.slice (some ⟨b, o, none⟩) dLen dCap, .slice (some a) sLen sCap]).run P w = .ok (goInt m) (setCells w b o cs) := by
  have hl := run_loadCells_list (P := P) w a cs hsrc
  have hst := run_storeCells_cells (P := P) b o cs 0 w (by simpa using hc) (by simpa using hf) h1
  cases hq : P.info? elem with
  | none => simp [hq] at hs
  | some i =>
    have hi : i.size = sz := by simpa [hq] using hs
    simp [Builtin.copy_, run_underlying hu, Builtin.lenOf, Builtin.firstCells, sizeOf, typeInfo, hq, hi, hm, ← hn, hl, hst, setCells_eq]

theorem OpGoes.copy_any {ops : Array Oper} {o : Oper} {a : Act} {w : World} {K : Value → World → Prop} (hgd : o.guard = none) (d s : Operand) (dT sT : TypeId)
    (ho : o.op = .call { callee := .builtin .copy, args := #[d, s], argTypes := #[dT, sT] }) (elem : TypeId) (sz : Nat) (hu : P.underlying dT = some (.slice elem)) (hs : (P.info? elem).map (·.size) = some sz)
    (g off dLen dCap : Nat) (ad : Addr) (sLen sCap m : Nat) (hd : a.eval d = .slice (some ⟨g, off, none⟩) dLen dCap) (hsv : a.eval s = .slice (some ad) sLen sCap) (hm : Nat.min sLen dLen = m)
    (cur : Array Value) (t : TypeId) (hg : BoxAt w g cur t) (cs : List Value) (hn : cs.length = m * sz) (hsrc : ∀ j v, cs[j]? = some v → w.cell? (ad.add j) = some v) (hfit : off + cs.length ≤ cur.size) (h1 : ∀ v ∈ cs, v.oneCell' = true)
    (h : K (goInt m) (setCells w g off cs)) : OpGoes P ops o a w K := by
  have hr := run_copy_any (P := P) w dT sT o.type elem g off dLen dCap ad sLen sCap m sz cs hu hs hm hn hsrc (fun j hj => by rw [hg.cell]; simp; omega) (fun j _ => hg.frozen _) h1
  refine ⟨fun _ => ?_, fun hw => ?_⟩
  · unfold execOp
    simp only [ho, resolve, invoke, builtin, Sem.run_bind, Sem.run_pure, Result.andThen_ok, List.map_toArray, List.map_cons, List.map_nil, hd, hsv, hr]
    exact h
  · simp [Region.wanted, hgd] at hw

theorem wpList_copy_any {w : World} {ops : Array Oper} {rest : List Oper} {o : Oper} {a : Act} {Q : Exit → Act → World → Prop} (hgd : o.guard = none) (d s : Operand) (dT sT : TypeId)
    (ho : o.op = .call { callee := .builtin .copy, args := #[d, s], argTypes := #[dT, sT] }) (elem : TypeId) (sz : Nat) (hu : P.underlying dT = some (.slice elem)) (hs : (P.info? elem).map (·.size) = some sz)
    (g off dLen dCap : Nat) (ad : Addr) (sLen sCap m : Nat) (hd : a.eval d = .slice (some ⟨g, off, none⟩) dLen dCap) (hsv : a.eval s = .slice (some ad) sLen sCap) (hm : Nat.min sLen dLen = m)
    (cur : Array Value) (t : TypeId) (hg : BoxAt w g cur t) (cs : List Value) (hn : cs.length = m * sz) (hsrc : ∀ j v, cs[j]? = some v → w.cell? (ad.add j) = some v) (hfit : off + cs.length ≤ cur.size) (h1 : ∀ v ∈ cs, v.oneCell' = true)
    (h : wpList P ops Q rest (a.put o.dst (goInt m)) (setCells w g off cs)) : wpList P ops Q (o :: rest) a w := by
  refine wpList_plain hgd fun K hK => ?_
  have hr := run_copy_any (P := P) w dT sT o.type elem g off dLen dCap ad sLen sCap m sz cs hu hs hm hn hsrc (fun j hj => by rw [hg.cell]; simp; omega) (fun j _ => hg.frozen _) h1
  unfold Oper.wp execOp
  simp only [ho, resolve, invoke, builtin, Sem.run_bind, Sem.run_pure, Result.andThen_ok, List.map_toArray, List.map_cons, List.map_nil, hd, hsv, hr]
  exact hK _ _ h

theorem step_copy_any {ops : Array Oper} {o : Oper} {a : Act} {w : World} {K : Act → World → Prop} {Q : Exit → Act → World → Prop} {E : Prop} (hgd : o.guard = none) (d s : Operand) (dT sT : TypeId)
    (ho : o.op = .call { callee := .builtin .copy, args := #[d, s], argTypes := #[dT, sT] }) (elem : TypeId) (sz : Nat) (hu : P.underlying dT = some (.slice elem)) (hs : (P.info? elem).map (·.size) = some sz)
    (g off dLen dCap : Nat) (ad : Addr) (sLen sCap m : Nat) (hd : a.eval d = .slice (some ⟨g, off, none⟩) dLen dCap) (hsv : a.eval s = .slice (some ad) sLen sCap) (hm : Nat.min sLen dLen = m)
    (cur : Array Value) (t : TypeId) (hg : BoxAt w g cur t) (cs : List Value) (hn : cs.length = m * sz) (hsrc : ∀ j v, cs[j]? = some v → w.cell? (ad.add j) = some v) (hfit : off + cs.length ≤ cur.size) (h1 : ∀ v ∈ cs, v.oneCell' = true)
    (h : K (a.put o.dst (goInt m)) (setCells w g off cs)) :
    if Region.wanted o (yielded ops a.tmps) = true then Oper.wp P o a w K Q else E := by
  have hw : Region.wanted o (yielded ops a.tmps) = true := by simp [Region.wanted, hgd]
  rw [if_pos hw]
  have hr := run_copy_any (P := P) w dT sT o.type elem g off dLen dCap ad sLen sCap m sz cs hu hs hm hn hsrc (fun j hj => by rw [hg.cell]; simp; omega) (fun j _ => hg.frozen _) h1
  unfold Oper.wp execOp
  simp only [ho, resolve, invoke, builtin, Sem.run_bind, Sem.run_pure, Result.andThen_ok, List.map_toArray, List.map_cons, List.map_nil, hd, hsv, hr]
  exact h
end

end Go.Proofs.YtomfaabifpndbaaGreat

/-
  slices.Repeat at one hand.
-/
namespace Go.Proofs.YtomfaabifpndbaaGreat
set_option linter.unusedSimpArgs false
set_option linter.unusedVariables false
open Go.RowKit
set_option linter.unusedVariables false
attribute [local go_sem ↓] Go.wp_at_zero Go.wp_at_succ

section
variable {α : Type} {f : α → List Value} {k : Nat} {e : TypeId} {N : Nat} {w : World} {g n cap : Nat} {l : List α}
theorem own_pre {L : List α} (h : Own f k e N w g n cap L) (j x : Nat) (u : Value) (hu : ((L.take j).flatMap f)[x]? = some u) : w.cell? ((⟨g, 0, none⟩ : Addr).add x) = some u := by
  obtain ⟨a, b, c, d, cur, hb, hs, ht⟩ := h
  have e1 : (L.flatMap f)[x]? = some u := by
    rw [← List.take_append_drop j L, List.flatMap_append, List.getElem?_append_left (List.getElem?_eq_some_iff.1 hu).1]
    exact hu
  have hadd : (⟨g, 0, none⟩ : Addr).add x = ⟨g, x, none⟩ := by unfold Addr.add; split <;> simp_all
  rw [hadd, hb.cell, ← Array.getElem?_toList]
  rw [← ht, List.getElem?_take] at e1
  split at e1
  · exact e1
  · cases e1

theorem pre_get {L : List α} (j x : Nat) (u : Value) (hu : ((L.take j).flatMap f)[x]? = some u) : (L.flatMap f)[x]? = some u := by
  rw [← List.take_append_drop j L, List.flatMap_append, List.getElem?_append_left (List.getElem?_eq_some_iff.1 hu).1]
  exact hu

theorem own_copy {z : α} {i j : Nat} (h : Own f k e N w g n cap (upto z l i)) (hf : ∀ x, (f x).length = k) (hij : i + j ≤ l.length) :
    Own f k e N (setCells w g (i * k) (((l.drop i).take j).flatMap f)) g n cap (upto z l (i + j)) := by
  obtain ⟨a, b, c, d, cur, hb, hs, ht⟩ := h
  obtain ⟨cur', h1, h2, h3⟩ := hb.setCells (((l.drop i).take j).flatMap f) w (i * k)
  have hn : n = l.length := by rw [← a, upto_len _ _ (by omega)]
  have hlu : (((l.drop i).take j).flatMap f).length = j * k := by rw [flat_len f k hf]; simp; congr 1; omega
  refine ⟨by rw [upto_len _ _ hij, hn], b, c, d, cur', h1, by omega, ?_⟩
  rw [h3, setAll_take, ht, setAll_eq _ _ _ (by rw [hlu, flat_len f k hf, upto_len _ _ (by omega), ← Nat.add_mul]; exact Nat.mul_le_mul_right _ hij), hlu]
  have e1 : (upto z l i).flatMap f = (l.take i).flatMap f ++ ((List.replicate j z).flatMap f ++ (List.replicate (l.length - (i + j)) z).flatMap f) := by
    have er : List.replicate (l.length - i) z = List.replicate j z ++ List.replicate (l.length - (i + j)) z := by rw [List.replicate_append_replicate]; congr 1; omega
    rw [upto, er, List.flatMap_append, List.flatMap_append]
  have l1 : ((l.take i).flatMap f).length = i * k := by rw [flat_len f k hf]; simp; congr 1; omega
  have l2 : ((List.replicate j z).flatMap f).length = j * k := by rw [flat_len f k hf]; simp
  rw [e1, List.take_left' l1, ← l1, ← l2, ← List.length_append, ← List.append_assoc ((l.take i).flatMap f), List.drop_left, upto, List.take_add, List.flatMap_append, List.flatMap_append]
end

set_option maxRecDepth 100000 in
set_option maxHeartbeats 2000000 in
theorem irepeat_hd (h : Hd) (b cap lo hi : Nat) (w : World) (hs : SlW Hd.cs 12 58 lo hi w (some ⟨b, 0, none⟩) 1 cap [h]) (n : Nat) (hh : hi ≤ w.heap.size) (hn : n ≤ 1048576) :
    Calls Tryz.prog 28 #[.slice (some ⟨b, 0, none⟩) 1 cap, .int .i64 (n : Int)] w (fun e w' => ∃ A' c, e = .returned (.slice A' n c) ∧ SlW Hd.cs 12 58 w.heap.size w'.heap.size w' A' n c (List.replicate n h) ∧ Below w.heap.size w w') := by
  have h3 : IntKind.wrap .u64 (n : Int) = n := Go.IntWalk.u64_in _ (by omega)
  have h4 : IntKind.wrap .i64 (n : Int) = n := Go.IntWalk.i64_in _ (by omega)
  have h5 : IntKind.wrap .u64 1 = 1 := by kernel_rfl
  obtain ⟨i0, hi0, hz0, hz1, hz2⟩ := info_parts handb_info
  have hmk : ∀ W : World, (Instr.makeSlice 27 (.int .i64 (n : Int)) (.int .i64 (n : Int))).run Tryz.prog W = .ok (.slice (some ⟨W.heap.size, 0, none⟩) n n) (W.alloc (.cells (madeCells #[.int .i64 0, .int .i64 0, .int .i64 0, .int .i64 0, .bool false, .int .i64 0, .bool false, .int .i64 0, .int .i64 0, .int .i64 0, .bool false, .int .i64 0] (n * 12)) 58)) := by
    intro W
    have := run_make (P := Tryz.prog) W 27 58 i0 _ Tryz.underlying27 hi0 hz0 .i64 .i64 n n (by omega) (by omega) (by rw [hz2]; omega) (by omega)
    rw [hz1] at this
    simpa [Value.cells] using this
  go_enter Tryz.func28, Tryz.ntmps28
  go_wp2_with fail
  refine (mul_one_ n hn _).mono ?_
  rintro e w1 ⟨rfl, rfl⟩
  obtain ⟨m, hm⟩ : ∃ m, Nat.min 1 n = m := ⟨_, rfl⟩
  have hm1 : m ≤ 1 := by have : Nat.min 1 n ≤ 1 := Nat.min_le_left _ _; omega
  have hmn : m ≤ n := by have : Nat.min 1 n ≤ n := Nat.min_le_right _ _; omega
  have hm0 : 0 < n → 0 < m := by intro h0; rw [← hm]; exact Nat.lt_min.2 ⟨by omega, h0⟩
  have HI := Lib.hid hi0
  have HZ1 := Lib.hid hz1
  have HM0 := Lib.hid hm0
  have HMm := Lib.hid hm
  have HH := Lib.hid (SlW.src hs (f := Hd.cs) Hd.cs_len)
  have HP1 : Hid (((List.replicate m h).flatMap Hd.cs).length = m * 12) := Lib.hid (by rw [flat_len _ 12 Hd.cs_len]; simp)
  have HP2 : Hid (∀ W : World, SrcW Hd.cs W (some ⟨b, 0, none⟩) 1 cap [h] → ∀ j v, ((List.replicate m h).flatMap Hd.cs)[j]? = some v → W.cell? ((⟨b, 0, none⟩ : Addr).add j) = some v) := Lib.hid (fun W hW j v hv => by
    refine hW.2.2 _ rfl j v (pre_get (L := [h]) m j v ?_)
    have : [h].take m = List.replicate m h := by
      have : m = 0 ∨ m = 1 := by omega
      rcases this with rfl | rfl <;> rfl
    rw [this]; exact hv)
  have HP3 : Hid (0 + ((List.replicate m h).flatMap Hd.cs).length ≤ (madeCells #[.int .i64 0, .int .i64 0, .int .i64 0, .int .i64 0, .bool false, .int .i64 0, .bool false, .int .i64 0, .int .i64 0, .int .i64 0, .bool false, .int .i64 0] (n * 12)).size) := Lib.hid (by rw [HP1.out]; simp [madeCells]; omega)
  clear hi0 hz0 hz1 hz2 hm hm1 hm0
  go_wp2_with ((with_reducible show wpList _ _ _ (⟨some 33, _, _, _, _, _⟩ :: _) _ _); go_must (refine wpList_copy_any rfl (.tmp 31) (.tmp 32) 27 27 rfl 58 12 Tryz.underlying27 (by rw [HI.out]; exact congrArg some HZ1.out) w1.heap.size 0 n n ⟨b, 0, none⟩ 1 cap m rfl rfl HMm.out _ 58 (BoxAt.new _ _ _) ((List.replicate m h).flatMap Hd.cs) HP1.out (HP2.out _ (HH.out.al _)) HP3.out hd_one ?_))
  clear hmk
  go_loopw [8] (fun s8 W => ∃ i : Nat, i ≤ n ∧ (0 < n → 0 < i) ∧ s8 = .int .i64 (i : Int) ∧ Below w1.heap.size w1 W ∧ Own Hd.cs 12 58 w1.heap.size W w1.heap.size n n (upto .zero (List.replicate n h) i)) (fun s8 _ => n - (intOf s8).toNat)
  case atStart =>
    refine ⟨m, hmn, HM0.out, rfl, Below.setCells (Nat.le_refl _) _ _ ((Below.refl _ _).alloc (Nat.le_refl _) _), ?_⟩
    have h0 : Own Hd.cs 12 58 w1.heap.size (w1.alloc (.cells (madeCells #[.int .i64 0, .int .i64 0, .int .i64 0, .int .i64 0, .bool false, .int .i64 0, .bool false, .int .i64 0, .int .i64 0, .int .i64 0, .bool false, .int .i64 0] (n * 12)) 58)) w1.heap.size n n (upto .zero (List.replicate n h) 0) := by
      rw [upto_zero, List.length_replicate]
      exact Own.made Hd.cs_len (by omega) Hd.zero _ rfl (Nat.le_refl _) _ (by unfold maxLen; omega)
    have h1 := own_copy (j := m) h0 Hd.cs_len (by simp; omega)
    have e1 : ((List.replicate n h).drop 0).take m = List.replicate m h := by simp; omega
    rw [e1, Nat.zero_mul, Nat.zero_add] at h1
    exact h1
  case round =>
    obtain ⟨i, hi, hi0, rfl, hB, hO⟩ := hrel
    have hi1 := Lib.hid hi0
    clear hi0
    by_cases hlt : i < n
    · have h1 : (i : Int) < (n : Int) := by omega
      have h2 : (0 : Int) ≤ (i : Int) := by omega
      have h6 : (i : Int) ≤ (n : Int) := by omega
      have h7 : i ≤ n := by omega
      obtain ⟨k, hk⟩ : ∃ k, Nat.min i (n - i) = k := ⟨_, rfl⟩
      have hk1 : k ≤ i := by rw [← hk]; exact Nat.min_le_left _ _
      have hk2 : k ≤ n - i := by rw [← hk]; exact Nat.min_le_right _ _
      have hk3 : 0 < k := by rw [← hk]; exact Nat.lt_min.2 ⟨hi1.out (by omega), by omega⟩
      have es : ((List.replicate n h).drop i).take k = (upto .zero (List.replicate n h) i).take k := by
        unfold upto
        rw [List.take_append_of_le_length (by simp; omega)]
        simp; omega
      have hOd : Own Hd.cs 12 58 w1.heap.size wr.drew w1.heap.size n n (upto .zero (List.replicate n h) i) := hO
      have HO2 := Lib.hid (own_copy (j := k) hOd Hd.cs_len (by simp; omega))
      clear hOd
      have hQ1 := Lib.hid (show ((((List.replicate n h).drop i).take k).flatMap Hd.cs).length = k * 12 by rw [flat_len _ 12 Hd.cs_len]; simp; omega)
      have hQ2 := Lib.hid (fun j v (hv : ((((List.replicate n h).drop i).take k).flatMap Hd.cs)[j]? = some v) => own_pre hO k j v (by rw [← es]; exact hv))
      obtain ⟨_, _, _, _, cur, hcb, hcs, _⟩ := hO
      have HB := Lib.hid hcb
      have hQ3 := Lib.hid (show i * 12 + ((((List.replicate n h).drop i).take k).flatMap Hd.cs).length ≤ cur.size by rw [hQ1.out, hcs]; omega)
      obtain ⟨cs, hcse⟩ : ∃ cs, cs = (((List.replicate n h).drop i).take k).flatMap Hd.cs := ⟨_, rfl⟩
      rw [← hcse] at HO2 hQ1 hQ2 hQ3
      have HC1 : Hid (∀ u ∈ cs, u.oneCell' = true) := Lib.hid (by rw [hcse]; exact hd_one)
      have HK := Lib.hid hk
      have w5 : IntKind.wrap .i64 ((i : Int) + (k : Int)) = (i : Int) + (k : Int) := Go.IntWalk.i64_in _ (by omega)
      clear hcse es hcb hcs hk
      go_wp2_with fail
      go_region_law (refine step_copy_any rfl (.tmp 41) (.tmp 44) 27 27 rfl 58 12 Tryz.underlying27 (by rw [HI.out]; exact congrArg some HZ1.out) w1.heap.size (i * 12) (n - i) (n - i) ⟨w1.heap.size, 0, none⟩ i n k (by simp [Act.eval, Act.put]; omega) (by simp [Act.eval, Act.put]) HK.out cur 58 HB.out cs hQ1.out hQ2.out hQ3.out HC1.out ?_)
      go_wp2
      go_roundw
      case rel =>
        exact ⟨i + k, by omega, fun _ => by omega, by go_num, Below.setCells (Nat.le_refl _) _ _ hB.drew, HO2.out⟩
      case measure => simp [intOf]; omega
    · have h1 : ¬ (i : Int) < (n : Int) := by omega
      go_wp2
      go_ret
      have hu := upto_all Hd.zero (List.replicate n h) (i := i) (by simp; omega)
      rw [hu] at hO
      exact ⟨_, _, rfl, ⟨by simp, .inr ⟨_, rfl, hO.lt, hO⟩⟩, hB⟩

end Go.Proofs.YtomfaabifpndbaaGreat


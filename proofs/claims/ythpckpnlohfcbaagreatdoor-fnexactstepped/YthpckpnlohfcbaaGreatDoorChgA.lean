/-
 What is tried on a copy and asked behind it, as plain functions on plain data: each of the eight small things is one of these.
-/
import Derived.Test.YthpckpnlohfcbaaGreatDoorModel
namespace Go.Proofs.YthpckpnlohfcbaaGreatDoor
set_option linter.unusedSimpArgs false
set_option linter.unusedVariables false
def done (c : St → Option St) (s : St) : St × Bool :=
 if !stOk s then (.zero, false) else match c s with
 | none => (s, false)
 | some t => thenB s t
def onRingC (z : Int) (f : Rg → Option Rg) (s : St) : Option St :=
 if ringB s z then (f (s.at z)).map fun r => { s with rs := s.rs.set z.toNat r } else none
theorem ringB_some {s : St} {z : Int} (h : ringB s z = true) : ∃ r, s.rs[z.toNat]? = some r ∧ s.at z = r ∧ r ∈ s.rs := by
 simp only [ringB, inB, Bool.and_eq_true, decide_eq_true_eq] at h
 have hl : z.toNat < s.rs.length := by omega
 exact ⟨_, List.getElem?_eq_getElem hl, St.at_some (List.getElem?_eq_getElem hl), List.getElem_mem hl⟩
theorem onRingC_no {z : Int} {f : Rg → Option Rg} {s : St} (h : ringB s z = false) : onRingC z f s = none := by simp [onRingC, h]
theorem onRingC_yes {z : Int} {f : Rg → Option Rg} {s : St} {r : Rg} (h : ringB s z = true) (hr : s.rs[z.toNat]? = some r) : onRingC z f s = (f r).map fun q => { s with rs := s.rs.set z.toNat q } := by
 simp [onRingC, h, St.at_some hr]
theorem done_bad {c : St → Option St} {s : St} (h : stOk s = false) : done c s = (.zero, false) := by simp [done, h]
theorem done_no {c : St → Option St} {s : St} (h : stOk s = true) (hc : c s = none) : done c s = (s, false) := by simp [done, h, hc]
theorem done_then {c : St → Option St} {s t : St} (h : stOk s = true) (hc : c s = some t) : done c s = if stOk t then (t, true) else (s, false) := by simp [done, h, hc, thenB]
theorem chain_congr {rs qs : List Rg} (h : ∀ i : Nat, (rs[i]?).map Rg.x = (qs[i]?).map Rg.x) : ∀ (k : Nat) (z : Int), chain rs k z = chain qs k z
 | 0, z => by unfold chain; rfl
 | k + 1, z => by
  by_cases hz : z < 0
  · rw [chain_neg hz, chain_neg hz]
  ·
   have e := h z.toNat
   cases hr : rs[z.toNat]? with
   | none =>
    rw [hr] at e
    have hq : qs[z.toNat]? = none := by simpa using e.symm
    unfold chain; simp [hz, hr, hq]
   | some r =>
    rw [hr] at e
    obtain ⟨q, hq, hx⟩ : ∃ q, qs[z.toNat]? = some q ∧ q.x = r.x := by
     cases hq : qs[z.toNat]? with
     | none => rw [hq] at e; simp at e
     | some q => rw [hq] at e; exact ⟨q, rfl, by simpa using e.symm⟩
    rw [chain_succ hz hr, chain_succ hz hq, hx, chain_congr h k]
theorem chain_more {rs qs : List Rg} : ∀ (k : Nat) (z : Int) (l : List Int), chain rs k z = some l → ∀ m, k ≤ m → chain (rs ++ qs) m z = some l
 | k, z, l, h, m, hm => by
  by_cases hz : z < 0
  · rw [chain_neg hz] at h ⊢; exact h
  ·
   match k, h with
   | 0, h => rw [chain_zero hz] at h; cases h
   | k + 1, h =>
    match m, hm with
    | m + 1, hm =>
     cases hr : rs[z.toNat]? with
     | none => unfold chain at h; simp [hz, hr] at h
     | some r =>
      rw [chain_succ hz hr] at h
      cases hc : chain rs k r.x with
      | none => rw [hc] at h; cases h
      | some l' =>
       rw [hc] at h
       have hr' : (rs ++ qs)[z.toNat]? = some r := by rw [List.getElem?_append_left (List.getElem?_eq_some_iff.1 hr).1]; exact hr
       rw [chain_succ hz hr', chain_more k _ _ hc m (by omega)]
       exact h
theorem set_x {rs : List Rg} {i : Nat} {r q : Rg} (hr : rs[i]? = some r) (hx : q.x = r.x) (j : Nat) : ((rs.set i q)[j]?).map Rg.x = (rs[j]?).map Rg.x := by
 by_cases h : i = j
 ·
  subst h
  rw [List.getElem?_set_self (List.getElem?_eq_some_iff.1 hr).1, hr]
  simp [hx]
 · rw [List.getElem?_set_ne h]
theorem stOk_parts {s : St} (h : stOk s = true) : stHead s = true ∧ (∀ r ∈ s.rs, inSt s.rd s.rs.length r = true) ∧ ∀ i, i < s.rs.length → ∃ l, chain s.rs s.rs.length (i : Int) = some l := by
 simp only [stOk, Bool.and_eq_true, List.all_eq_true, List.mem_range] at h
 exact ⟨h.1.1, h.1.2, fun i hi => Option.isSome_iff_exists.1 (h.2 i hi)⟩
theorem stOk_of {s : St} (h1 : stHead s = true) (h2 : ∀ r ∈ s.rs, inSt s.rd s.rs.length r = true) (h3 : ∀ i, i < s.rs.length → ∃ l, chain s.rs s.rs.length (i : Int) = some l) : stOk s = true := by
 simp only [stOk, Bool.and_eq_true, List.all_eq_true, List.mem_range]
 exact ⟨⟨h1, h2⟩, fun i hi => Option.isSome_iff_exists.2 (h3 i hi)⟩
theorem stOk_close {s : St} {i : Nat} {r : Rg} (h : stOk s = true) (hr : s.rs[i]? = some r) : stOk { s with rs := s.rs.set i { r with c := true } } = true := by
 obtain ⟨h1, h2, h3⟩ := stOk_parts h
 have hm : r ∈ s.rs := List.mem_of_getElem? hr
 refine stOk_of (by simpa [stHead] using h1) (fun q hq => ?_) (fun j hj => ?_)
 ·
  dsimp only at hq ⊢
  rw [List.length_set]
  rcases List.mem_or_eq_of_mem_set hq with hq | rfl
  · exact h2 q hq
  ·
   have := h2 r hm
   simp only [inSt, Rg.ok, rgOk, nextB, Bool.and_eq_true, Bool.or_eq_true, Bool.true_and] at this ⊢
   obtain ⟨⟨⟨⟨⟨⟨a, b⟩, c⟩, d⟩, e⟩, f⟩, g⟩ := this
   exact ⟨⟨⟨⟨⟨⟨a, b⟩, c.imp id (·.2)⟩, d⟩, e⟩, f⟩, g⟩
 ·
  dsimp only at hj ⊢
  rw [List.length_set] at hj ⊢
  rw [chain_congr (set_x (q := { r with c := true }) hr rfl)]
  exact h3 j hj
theorem stOk_first {s : St} (h : stOk s = true) (y : Int) : stOk { s with fi := y } = ringB s y := by
 obtain ⟨h1, h2, h3⟩ := stOk_parts h
 cases hy : ringB s y
 ·
  cases hk : stOk { s with fi := y } with
  | false => rfl
  | true =>
   have := (stOk_parts hk).1
   simp only [stHead, Bool.and_eq_true] at this
   rw [← hy]; exact this.1.2.symm
 ·
  refine stOk_of ?_ h2 h3
  simp only [stHead, Bool.and_eq_true] at h1 ⊢
  exact ⟨⟨h1.1.1, hy⟩, h1.2⟩
theorem stOk_last {s : St} (h : stOk s = true) (y : Int) : stOk { s with la := y } = ringB s y := by
 obtain ⟨h1, h2, h3⟩ := stOk_parts h
 cases hy : ringB s y
 ·
  cases hk : stOk { s with la := y } with
  | false => rfl
  | true =>
   have := (stOk_parts hk).1
   simp only [stHead, Bool.and_eq_true] at this
   rw [← hy]; exact this.2.symm
 ·
  refine stOk_of ?_ h2 h3
  simp only [stHead, Bool.and_eq_true] at h1 ⊢
  exact ⟨h1.1, hy⟩
theorem seed_ok {n : Nat} {v : Int} (hn : 2 ≤ n) (h8 : n ≤ 8) (hv : valB v = true) : (Rg.seed n v).ok = true := by
 have hl : ((fresh n).set 0 ⟨true, 0, true, v⟩).length = n := by simp [fresh_len]
 simp only [Rg.seed, Rg.ok, rgOk, Bool.and_eq_true]
 refine ⟨⟨⟨⟨by decide, by decide⟩, by decide⟩, ?_⟩, ?_⟩
 ·
  rw [hl]
  simp only [roundB, Bool.and_eq_true, decide_eq_true_eq]
  omega
 ·
  simp only [allB, List.all_eq_true, List.mem_range]
  intro i hi
  rw [hl] at hi
  simp only [valB, Bool.and_eq_true, decide_eq_true_eq] at hv
  unfold okAt
  by_cases h0 : i = 0
  ·
   subst h0
   rw [List.getElem?_set_self (by rw [fresh_len]; omega)]
   simp [okB, hv]
  ·
   rw [List.getElem?_set_ne (Ne.symm h0), fresh_at hi, List.length_set, fresh_len]
   have : (i : Int) % (n : Int) = i := Int.emod_eq_of_lt (by omega) (by omega)
   simp [okB, this]; omega
theorem stOk_add {s : St} (h : stOk s = true) {v : Int} (hv : valB v = true) : stOk { s with rs := s.rs ++ [Rg.seed s.rd.toNat v] } = !((s.rs.length : Int) == s.mo) := by
 obtain ⟨h1, h2, h3⟩ := stOk_parts h
 have hrd := stOk_rd h
 have hd := h1
 simp only [stHead, Bool.and_eq_true, inB, decide_eq_true_eq] at hd
 obtain ⟨⟨⟨⟨hd1, hd2⟩, hd3⟩, hd4⟩, hd5⟩ := hd
 by_cases hy : (s.rs.length : Int) = s.mo
 ·
  have : (!((s.rs.length : Int) == s.mo)) = false := by simp [hy]
  rw [this]
  cases hk : stOk { s with rs := s.rs ++ [Rg.seed s.rd.toNat v] } with
  | false => rfl
  | true =>
   have := (stOk_parts hk).1
   simp only [stHead, Bool.and_eq_true, inB, decide_eq_true_eq, List.length_append, List.length_singleton] at this
   have := this.1.1.2
   omega
 ·
  have : (!((s.rs.length : Int) == s.mo)) = true := by simp [hy]
  rw [this]
  refine stOk_of ?_ (fun q hq => ?_) (fun j hj => ?_)
  ·
   simp only [stHead, Bool.and_eq_true, inB, decide_eq_true_eq, List.length_append, List.length_singleton]
   exact ⟨⟨⟨⟨hd1, hd2⟩, by omega⟩, by omega⟩, by omega⟩
  ·
   dsimp only at hq ⊢
   rw [List.length_append, List.length_singleton]
   rcases List.mem_append.1 hq with hq | hq
   ·
    have := h2 q hq
    simp only [inSt, Bool.and_eq_true, decide_eq_true_eq] at this ⊢
    exact ⟨this.1, by omega⟩
   ·
    obtain rfl := List.mem_singleton.1 hq
    simp only [inSt, Bool.and_eq_true, decide_eq_true_eq, beq_iff_eq]
    refine ⟨⟨seed_ok (by omega) (by omega) hv, ?_⟩, ?_⟩
    · simp [Rg.seed, fresh_len]; omega
    · simp only [Rg.seed]; omega
  ·
   dsimp only at hj ⊢
   rw [List.length_append, List.length_singleton] at hj ⊢
   by_cases hlt : j < s.rs.length
   ·
    obtain ⟨l, hl⟩ := h3 j hlt
    exact ⟨l, chain_more _ _ _ hl _ (by omega)⟩
   ·
    obtain rfl : j = s.rs.length := by omega
    refine ⟨[(s.rs.length : Int)], ?_⟩
    rw [chain_succ (by omega) (r := Rg.seed s.rd.toNat v) (by simp), chain_neg (by simp [Rg.seed])]
    rfl
def headC (r : Rg) : Option Rg := some { r with h := r.h + 1 }
def tailC (r : Rg) : Option Rg := some { r with t := r.t + 1 }
def closeC (r : Rg) : Option Rg := some { r with c := true }
def raiseC (seen y : Int) (r : Rg) : Option Rg := if r.c then none else if r.t != seen then none else some { r with t := y }
def linkC (b : Bool) (y : Int) (r : Rg) : Option Rg := if !b then none else if r.x != -1 then none else some { r with x := y }
def swapC (at_ : Int) (seen y : Pl) (r : Rg) : Option Rg := if at_ < 0 || (r.ps.length : Int) ≤ at_ then none else match r.ps[at_.toNat]? with
 | some p => if p.eqB seen then some { r with ps := r.ps.set at_.toNat y } else none
 | none => none
def swingC (last : Bool) (seen y : Int) (s : St) : Option St := if last then (if s.la != seen then none else some { s with la := y }) else (if s.fi != seen then none else some { s with fi := y })
def addC (v : Int) (s : St) : Option St := if valB v then some { s with rs := s.rs ++ [Rg.seed s.rd.toNat v] } else none
theorem takeTicket_done (s : St) (z : Int) : takeTicket s z = ((done (onRingC z headC) s).1, if (done (onRingC z headC) s).2 then (s.at z).h else -1) := by
 unfold takeTicket
 cases h : stOk s
 · simp [done_bad h]
 ·
  cases hz : ringB s z
  · simp [done_no h (onRingC_no hz)]
  ·
   obtain ⟨r, hr, ha, _⟩ := ringB_some hz
   have e : onRingC z headC s = some { s with rs := s.rs.set z.toNat { r with h := r.h + 1 } } := by rw [onRingC_yes hz hr]; rfl
   rw [done_then h e, St.turn_some hr]
   simp only [Bool.not_true, Bool.false_eq_true, if_false, thenB]
   split <;> simp
theorem putTicket_done (s : St) (z : Int) : putTicket s z = ((done (onRingC z tailC) s).1, if (done (onRingC z tailC) s).2 then (s.at z).t else -1) := by
 unfold putTicket
 cases h : stOk s
 · simp [done_bad h]
 ·
  cases hz : ringB s z
  · simp [done_no h (onRingC_no hz)]
  ·
   obtain ⟨r, hr, ha, _⟩ := ringB_some hz
   have e : onRingC z tailC s = some { s with rs := s.rs.set z.toNat { r with t := r.t + 1 } } := by rw [onRingC_yes hz hr]; rfl
   rw [done_then h e, St.turn_some hr]
   simp only [Bool.not_true, Bool.false_eq_true, if_false, thenB]
   split <;> simp
theorem close_done (s : St) (z : Int) : closeR s z = done (onRingC z closeC) s := by
 unfold closeR
 cases h : stOk s
 · simp [done_bad h]
 ·
  cases hz : ringB s z
  · simp [done_no h (onRingC_no hz)]
  ·
   obtain ⟨r, hr, ha, _⟩ := ringB_some hz
   have e : onRingC z closeC s = some { s with rs := s.rs.set z.toNat { r with c := true } } := by rw [onRingC_yes hz hr]; rfl
   rw [done_then h e, stOk_close h hr, St.turn_some hr]
   simp
theorem raise_done (s : St) (z seen y : Int) : raiseTail s z seen y = done (onRingC z (raiseC seen y)) s := by
 unfold raiseTail
 cases h : stOk s
 · simp [done_bad h]
 ·
  cases hz : ringB s z
  · simp [done_no h (onRingC_no hz)]
  ·
   obtain ⟨r, hr, ha, _⟩ := ringB_some hz
   have e : onRingC z (raiseC seen y) s = (raiseC seen y r).map fun q => { s with rs := s.rs.set z.toNat q } := onRingC_yes hz hr
   rw [ha]
   cases hc : r.c
   ·
    cases ht : r.t != seen
    ·
     have e' : onRingC z (raiseC seen y) s = some { s with rs := s.rs.set z.toNat { r with t := y } } := by rw [e]; simp [raiseC, hc, ht]
     rw [done_then h e', St.turn_some hr]
     simp [thenB]
    ·
     have e' : onRingC z (raiseC seen y) s = none := by rw [e]; simp [raiseC, hc, ht]
     rw [done_no h e']
     simp
   ·
    have e' : onRingC z (raiseC seen y) s = none := by rw [e]; simp [raiseC, hc]
    rw [done_no h e']
    simp
theorem link_done (s : St) (z y : Int) : linkR s z y = done (onRingC z (linkC (ringB s y) y)) s := by
 unfold linkR
 cases h : stOk s
 · simp [done_bad h]
 ·
  cases hz : ringB s z
  · simp [done_no h (onRingC_no hz)]
  ·
   obtain ⟨r, hr, ha, _⟩ := ringB_some hz
   have e : onRingC z (linkC (ringB s y) y) s = (linkC (ringB s y) y r).map fun q => { s with rs := s.rs.set z.toNat q } := onRingC_yes hz hr
   rw [ha]
   cases hc : ringB s y
   ·
    have e' : onRingC z (linkC (ringB s y) y) s = none := by rw [e]; simp [linkC, hc]
    rw [hc] at e'
    rw [done_no h e']
    simp
   ·
    cases ht : r.x != -1
    ·
     have e' : onRingC z (linkC (ringB s y) y) s = some { s with rs := s.rs.set z.toNat { r with x := y } } := by rw [e]; simp [linkC, hc, ht]
     rw [hc] at e'
     rw [done_then h e', St.turn_some hr]
     simp [thenB]
    ·
     have e' : onRingC z (linkC (ringB s y) y) s = none := by rw [e]; simp [linkC, hc, ht]
     rw [hc] at e'
     rw [done_no h e']
     simp
theorem swing_done (s : St) (last : Bool) (seen y : Int) : swing s last seen y = done (swingC last seen y) s := by
 unfold swing
 cases h : stOk s
 · simp [done_bad h]
 ·
  cases last
  ·
   cases hs : s.fi != seen
   ·
    have e : swingC false seen y s = some { s with fi := y } := by simp [swingC, hs]
    rw [done_then h e, stOk_first h]
    cases hy : ringB s y <;> simp [hs]
   ·
    have e : swingC false seen y s = none := by simp [swingC, hs]
    rw [done_no h e]
    simp [hs]
  ·
   cases hs : s.la != seen
   ·
    have e : swingC true seen y s = some { s with la := y } := by simp [swingC, hs]
    rw [done_then h e, stOk_last h]
    cases hy : ringB s y <;> simp [hs]
   ·
    have e : swingC true seen y s = none := by simp [swingC, hs]
    rw [done_no h e]
    simp [hs]
theorem add_done (s : St) (v : Int) : addRing s v = ((done (addC v) s).1, if (done (addC v) s).2 then ((done (addC v) s).1.rs.length : Int) - 1 else -1) := by
 unfold addRing
 cases h : stOk s
 · simp [done_bad h]
 ·
  cases hv : valB v
  ·
   have e : addC v s = none := by simp [addC, hv]
   rw [done_no h e]
   simp
  ·
   have e : addC v s = some { s with rs := s.rs ++ [Rg.seed s.rd.toNat v] } := by simp [addC, hv]
   rw [done_then h e, stOk_add h hv]
   cases hm : ((s.rs.length : Int) == s.mo) <;> simp
theorem swap_done (s : St) (z at_ : Int) (seen y : Pl) : swapPlace s z at_ seen y = done (onRingC z (swapC at_ seen y)) s := by
 unfold swapPlace
 cases h : stOk s
 · simp [done_bad h]
 ·
  cases hz : ringB s z
  · simp [done_no h (onRingC_no hz)]
  ·
   obtain ⟨r, hr, ha, hm⟩ := ringB_some hz
   have hp := stOk_places h r hm
   have e : onRingC z (swapC at_ seen y) s = (swapC at_ seen y r).map fun q => { s with rs := s.rs.set z.toNat q } := onRingC_yes hz hr
   rw [ha]
   cases hb : inB at_ 0 (s.rd - 1)
   ·
    have hc : (at_ < 0 || (r.ps.length : Int) ≤ at_) = true := by
     simp only [inB, Bool.and_eq_false_iff, decide_eq_false_iff_not] at hb
     simp only [Bool.or_eq_true, decide_eq_true_eq]; omega
    have e' : onRingC z (swapC at_ seen y) s = none := by rw [e]; simp [swapC, hc]
    rw [done_no h e']
    simp
   ·
    have hc : (at_ < 0 || (r.ps.length : Int) ≤ at_) = false := by
     simp only [inB, Bool.and_eq_true, decide_eq_true_eq] at hb
     simp only [Bool.or_eq_false_iff, decide_eq_false_iff_not]; omega
    simp only [Bool.not_true, Bool.false_eq_true, Bool.or_self, if_false]
    cases hq : r.ps[at_.toNat]? with
    | none =>
     have e' : onRingC z (swapC at_ seen y) s = none := by rw [e]; simp [swapC, hc, hq]
     rw [done_no h e']
    | some p =>
     cases hs : p.eqB seen
     ·
      have e' : onRingC z (swapC at_ seen y) s = none := by rw [e]; simp [swapC, hc, hq, hs]
      rw [done_no h e']
      simp [hs]
     ·
      have e' : onRingC z (swapC at_ seen y) s = some { s with rs := s.rs.set z.toNat { r with ps := r.ps.set at_.toNat y } } := by rw [e]; simp [swapC, hc, hq, hs]
      rw [done_then h e', St.turn_some hr]
      simp [thenB, hs]
end Go.Proofs.YthpckpnlohfcbaaGreatDoor

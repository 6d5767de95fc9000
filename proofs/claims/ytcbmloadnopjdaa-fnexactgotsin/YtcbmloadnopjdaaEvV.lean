/-
  What was put and what was got in a story, of both sides.
-/
import Derived.Test.YtcbmloadnopjdaaEvI
namespace Go.Proofs.Ytcbmloadnopjdaa
set_option linter.unusedSimpArgs false
set_option linter.unusedVariables false
open Go.RowKit
set_option linter.unusedVariables false
attribute [local go_sem ↓] Go.wp_at_zero Go.wp_at_succ

def movesB (put : Bool) (x : Ev) : Bool := (x.put == put) && (x.re == 1 || x.re == 4)
def mvs (put : Bool) (l : List Ev) : List Int := (l.filter (movesB put)).map Ev.v
def valsOf (put : Bool) (l : List Ev) : List Int := if storyOk l then mvs put l else []
theorem mvs_len (put : Bool) (l : List Ev) : (mvs put l).length ≤ l.length := by
  unfold mvs; rw [List.length_map]; exact List.length_filter_le _ _
theorem mvs_snoc {put : Bool} {l : List Ev} {i : Nat} {x : Ev} (hx : l[i]? = some x) : mvs put (l.take (i + 1)) = mvs put (l.take i) ++ (if movesB put x then [x.v] else []) := by
  unfold mvs
  rw [List.take_add_one, hx]
  simp only [Option.toList_some, List.filter_append, List.map_append]
  cases h : movesB put x <;> simp [h]
theorem mvs_yes {put : Bool} {l : List Ev} {i : Nat} {x : Ev} (hx : l[i]? = some x) (h : movesB put x = true) : mvs put (l.take (i + 1)) = mvs put (l.take i) ++ [x.v] := by rw [mvs_snoc hx, h]; rfl
theorem mvs_no {put : Bool} {l : List Ev} {i : Nat} {x : Ev} (hx : l[i]? = some x) (h : movesB put x = false) : mvs put (l.take (i + 1)) = mvs put (l.take i) := by rw [mvs_snoc hx, h]; simp
theorem vals_small (put : Bool) {l : List Ev} {n : Nat} (h : l.length = n) (hn : n ≤ 1048576) : (valsOf put l).length ≤ 1048576 := by
  unfold valsOf
  split
  · have := mvs_len put l; omega
  · simp
theorem storyOk_at {l : List Ev} (h : storyOk l = true) {i : Nat} {x : Ev} (hx : l[i]? = some x) : evOk x = true := by
  simp only [storyOk, Bool.and_eq_true] at h
  exact List.all_eq_true.1 h.1 x (List.mem_of_getElem? hx)
theorem story_len {l : List Ev} (h : storyOk l = true) : l.length ≤ 16 := by simp [storyOk] at h; exact h.2

theorem int1 (z : Int) : ∀ u ∈ [Value.int .i64 z], u.oneCell' = true := by intro u hu; simp at hu; subst hu; rfl
theorem ints_ge {N : Nat} {w : World} {v : Value} {l : List Int} (h : IntsO N w v l) : ∀ g, v.ownBlock = some g → N ≤ g := fun g hg => by
  rcases h.2 with ⟨h1, _⟩ | ⟨g', cap, cur, hv, hg', _⟩
  · rw [h1] at hg; cases hg
  · rw [hv] at hg
    have : g' = g := by simpa [Value.ownBlock] using hg
    omega
/-- Behind an append of one number to a list of the call's own. -/
theorem ints_snoc {N : Nat} {w' : World} {v' : Value} {o : List Int} {z : Int} (h : w'.ownsRow N 2 1 v' (o.length + 1) (o.flatMap ic ++ [Value.int .i64 z])) : ∃ B c, v' = .slice B (o ++ [z]).length c ∧ IntsO N w' (.slice B (o ++ [z]).length c) (o ++ [z]) := by
  obtain ⟨g', c', rfl, hP⟩ := Own.of_row (f := ic) (l := o ++ [z]) (n := o.length + 1) (by rw [List.flatMap_append]; exact h) (by simp) (by omega)
  exact ⟨some ⟨g', 0, none⟩, c', by simp, by unfold IntsO; have := hP.own ic_len; simpa using this⟩

set_option maxRecDepth 100000 in
set_option maxHeartbeats 4000000 in
theorem l11Values_any (put : Bool) (l : List Ev) (A : Option Addr) (n cap : Nat) (w : World) (h : EvsR w A n l) (hm : n ≤ 1048576) :
    Calls Try.prog 26 #[.slice A n cap, .bool put] w (RetInts (valsOf put l) w) := by
  obtain ⟨i0, hi0, hz0, hz1, hz2⟩ := info_parts int_info
  have HI := Lib.hid hi0
  have HZ0 := Lib.hid hz0
  have HZ1 := Lib.hid hz1
  have HZ2 := Lib.hid hz2
  clear hi0 hz0 hz1 hz2
  have HL := Lib.hid h.1
  go_enter Try.func26, Try.ntmps26
  go_wp2
  go_loopw [5, 6] (fun s5 s6 W => ∃ (i : Nat) (o : List Int) (B : Option Addr) (c : Nat), i ≤ n ∧ s6 = .int .i64 i ∧ s5 = .slice B o.length c ∧ Below w.heap.size w W ∧ IntsO w.heap.size W (.slice B o.length c) o ∧ o = mvs put (l.take i) ∧ (0 < i → storyOk l = true)) (fun _ s6 _ => n - (intOf s6).toNat)
  case atStart => exact ⟨0, [], _, _, Nat.zero_le _, rfl, rfl, (Below.refl _ _).alloc (Nat.le_refl _) _, ints_made rfl (Nat.le_refl _), rfl, fun h => absurd h (by omega)⟩
  case round =>
    obtain ⟨i, o, B, c, hin, rfl, rfl, hB, hO, ho, hst⟩ := hrel
    have HO := Lib.hid ho; clear ho
    have HS := Lib.hid hst; clear hst
    have hol : o.length ≤ 1048576 := by rw [HO.out]; have h1 := mvs_len put (l.take i); have h2 := HL.out; rw [List.length_take] at h1; omega
    have HLN := Lib.hid hol
    by_cases hlt : i < n
    · have g1 : (i : Int) < (n : Int) := by omega
      go_wp2_with fail
      refine (sstory_any l A n cap _ (h.below hB) hm).mono ?_
      rintro e w1 ⟨rfl, hb1⟩
      replace hO := hO.below hb1
      replace hB := bstep hB hB.size hb1
      clear hb1
      cases hok : storyOk l
      · go_wp2
        go_ret
        obtain rfl : i = 0 := by
          rcases Nat.eq_zero_or_pos i with h0 | h0
          · exact h0
          · have := HS.out h0; rw [hok] at this; cases this
        obtain rfl : o = [] := by rw [HO.out]; rfl
        rw [show valsOf put l = [] by unfold valsOf; rw [hok]; rfl]
        refine ⟨_, _, rfl, ?_, hB⟩
        obtain ⟨A', c', e1, hW⟩ := SlW.of_own (f := ic) (l := []) hO rfl
        injection e1 with e1 _ e3
        subst e1 e3
        exact hW
      have HOK := Lib.hid hok; clear hok HS
      obtain ⟨b, o', x, rfl, _, hx, c0, c1, c2, c3, c4, c5⟩ := SlE.at_ (h.below hB) hlt
      have HX := Lib.hid hx; clear hx
      have g2 : (0 : Int) ≤ (i : Int) := by omega
      clear c0 c4 c5
      cases hp : (x.put == put)
      · have HM := Lib.hid (show movesB put x = false by simp [movesB, hp])
        go_wp2
        go_roundw
        case rel => exact ⟨i + 1, o, B, c, by omega, by go_num, rfl, hB, hO, by rw [mvs_no HX.out HM.out]; exact HO.out, fun _ => HOK.out⟩
        case measure => simp [intOf]; omega
      · cases h1 : (x.re == 1)
        · cases h4 : (x.re == 4)
          · have HM := Lib.hid (show movesB put x = false by simp [movesB, h1, h4])
            go_wp2
            go_roundw
            case rel => exact ⟨i + 1, o, B, c, by omega, by go_num, rfl, hB, hO, by rw [mvs_no HX.out HM.out]; exact HO.out, fun _ => HOK.out⟩
            case measure => simp [intOf]; omega
          · have HM := Lib.hid (show movesB put x = true by simp [movesB, hp, h4])
            go_wp2_with (at_builtin; go_must (refine wpList_append_own_at _ rfl (.tmp 41) (.tmp 47) _ rfl w.heap.size 2 i0 _ 1 8 Try.underlying35 HI.out HZ0.out HZ1.out HZ2.out rfl (by omega) (.slice B o.length c) o.length _ rfl (hO.alloc _) ⟨w1.heap.size, 0, none⟩ 1 1 [.int .i64 x.v] rfl rfl (news_alloc _ _ _) (int1 _) (by unfold maxLen; omega) (by omega) (by simp; have := hB.size; omega) ?_; intro v' w' hO' hg' hz' hat'; clear hz' hat'; obtain ⟨B', c', rfl, hP'⟩ := ints_snoc hO'; have hB' := Below.grown (hB.alloc hB.size _) hg' (by simp; have := hB.size; omega) (ints_ge hO)))
            go_roundw
            case rel => exact ⟨i + 1, o ++ [x.v], B', c', by omega, by go_num, by simp, hB', hP', by rw [mvs_yes HX.out HM.out, ← HO.out], fun _ => HOK.out⟩
            case measure => simp [intOf]; omega
        · have HM := Lib.hid (show movesB put x = true by simp [movesB, hp, h1])
          go_wp2_with (at_builtin; go_must (refine wpList_append_own_at _ rfl (.tmp 41) (.tmp 47) _ rfl w.heap.size 2 i0 _ 1 8 Try.underlying35 HI.out HZ0.out HZ1.out HZ2.out rfl (by omega) (.slice B o.length c) o.length _ rfl (hO.alloc _) ⟨w1.heap.size, 0, none⟩ 1 1 [.int .i64 x.v] rfl rfl (news_alloc _ _ _) (int1 _) (by unfold maxLen; omega) (by omega) (by simp; have := hB.size; omega) ?_; intro v' w' hO' hg' hz' hat'; clear hz' hat'; obtain ⟨B', c', rfl, hP'⟩ := ints_snoc hO'; have hB' := Below.grown (hB.alloc hB.size _) hg' (by simp; have := hB.size; omega) (ints_ge hO)))
          go_roundw
          case rel => exact ⟨i + 1, o ++ [x.v], B', c', by omega, by go_num, by simp, hB', hP', by rw [mvs_yes HX.out HM.out, ← HO.out], fun _ => HOK.out⟩
          case measure => simp [intOf]; omega
    · have g1 : ¬ (i : Int) < (n : Int) := by omega
      obtain rfl : n = i := by omega
      have HV := Lib.hid (show valsOf put l = o by
        have e1 : mvs put l = o := by rw [HO.out, List.take_of_length_le (Nat.le_of_eq HL.out)]
        unfold valsOf
        rw [e1]
        rcases Nat.eq_zero_or_pos n with h0 | h0
        · have : l = [] := List.eq_nil_of_length_eq_zero (HL.out.trans h0)
          subst this
          rfl
        · rw [HS.out h0]; rfl)
      go_wp2
      go_ret
      rw [HV.out]
      refine ⟨_, _, rfl, ?_, hB⟩
      obtain ⟨A', c', e1, hW⟩ := SlW.of_own (f := ic) (l := o) hO rfl
      injection e1 with e1 _ e3
      subst e1 e3
      exact hW

set_option maxHeartbeats 400000 in
theorem sputsIn_any (l : List Ev) (A : Option Addr) (n cap : Nat) (w : World) (h : EvsR w A n l) (hm : n ≤ 1048576) :
    Calls Try.prog 15 #[.slice A n cap] w (RetInts (valsOf true l) w) := by
  go_enter Try.func15, Try.ntmps15
  go_wp2_with fail
  refine (l11Values_any true l A n cap _ h hm).mono ?_
  rintro e w1 ⟨B, c, rfl, hW, hb⟩
  go_wp2
  go_ret
  exact ⟨B, c, rfl, hW, hb⟩

set_option maxHeartbeats 400000 in
theorem sgotsIn_any (l : List Ev) (A : Option Addr) (n cap : Nat) (w : World) (h : EvsR w A n l) (hm : n ≤ 1048576) :
    Calls Try.prog 21 #[.slice A n cap] w (RetInts (valsOf false l) w) := by
  go_enter Try.func21, Try.ntmps21
  go_wp2_with fail
  refine (l11Values_any false l A n cap _ h hm).mono ?_
  rintro e w1 ⟨B, c, rfl, hW, hb⟩
  go_wp2
  go_ret
  exact ⟨B, c, rfl, hW, hb⟩

/-- Two lists of the call's own are returned, one behind the other. -/
def RetInts2 (l m : List Int) (w : World) (e : Ending) (w' : World) : Prop := ∃ A c B d, e = .returned (.tuple #[.slice A l.length c, .slice B m.length d]) ∧ IntsW w.heap.size w'.heap.size w' A l.length c l ∧ IntsW w.heap.size w'.heap.size w' B m.length d m ∧ Below w.heap.size w w'

/-- They lie in two blocks. -/
def BlkNe (v u : Value) : Prop := ∀ k, v.ownBlock = some k → u.ownBlock ≠ some k
theorem BlkNe.symm {v u : Value} (h : BlkNe v u) : BlkNe u v := fun k h1 h2 => h k h2 h1
theorem ints_keep {N : Nat} {w w' : World} {v u : Value} {l : List Int} (h : IntsO N w v l) (hg : w.grownBy w' u.ownBlock) (hne : BlkNe u v) : IntsO N w' v l := by
  refine ⟨h.1, ?_⟩
  rcases h.2 with h' | ⟨g, cap, cur, hv, hgN, hbx, hr⟩
  · exact .inl h'
  · exact .inr ⟨g, cap, cur, hv, hgN, BoxAt.grown2 hbx hg (fun e => hne g e (by rw [hv]; simp [Value.ownBlock])), hr⟩
theorem ints_lt {N : Nat} {w : World} {v : Value} {l : List Int} (h : IntsO N w v l) : ∀ k, v.ownBlock = some k → k < w.heap.size := fun k hk => by
  rcases h.2 with ⟨h1, _⟩ | ⟨g, cap, cur, hv, hgN, hbx, hr⟩
  · rw [h1] at hk; cases hk
  · rw [hv] at hk
    have : g = k := by simpa [Value.ownBlock] using hk
    subst this
    exact (Array.getElem?_eq_some_iff.1 hbx).1
theorem BlkNe.grown {N : Nat} {w w0 : World} {v v' u : Value} {l : List Int} (h : BlkNe v u) (hu : IntsO N w0 u l) (hs : w0.heap.size ≤ w.heap.size) (h' : v'.ownBlock = v.ownBlock ∨ v'.ownBlock = some w.heap.size) : BlkNe v' u := fun k hk hu' => by
  rcases h' with h' | h'
  · exact h k (h'.symm.trans hk) hu'
  · rw [h'] at hk
    injection hk with hk
    have := ints_lt hu k hu'
    omega
theorem ints_w {N : Nat} {w : World} {A : Option Addr} {c : Nat} {l : List Int} (h : IntsO N w (.slice A l.length c) l) : IntsW N w.heap.size w A l.length c l := by
  obtain ⟨A', c', e1, hW⟩ := SlW.of_own (f := ic) (l := l) h rfl
  injection e1 with e1 _ e3
  subst e1 e3
  exact hW

theorem news_at {W : World} {cs : List Value} {t : TypeId} {k : Nat} (h : k = W.heap.size) : ∀ j u, cs[j]? = some u → (W.alloc (.cells cs.toArray t)).cell? ((⟨k, 0, none⟩ : Addr).add j) = some u := by subst h; exact news_alloc W cs t
theorem ta_putDone_putDone (v : Int) (W : World) : (Instr.typeAssert (.iface 53 (.agg #[.int .i64 v])) 47 53 true).run Try.prog W = .ok (.tuple #[.agg #[.int .i64 v], .bool true]) W := by kernel_rfl
theorem ta_putDone_gotOne (v : Int) (W : World) : (Instr.typeAssert (.iface 53 (.agg #[.int .i64 v])) 47 54 true).run Try.prog W = .ok (.tuple #[.agg #[.int .i64 0], .bool false]) W := by kernel_rfl
theorem ta_putFull_putDone (v : Int) (W : World) : (Instr.typeAssert (.iface 55 (.agg #[.int .i64 v])) 47 53 true).run Try.prog W = .ok (.tuple #[.agg #[.int .i64 0], .bool false]) W := by kernel_rfl
theorem ta_putFull_gotOne (v : Int) (W : World) : (Instr.typeAssert (.iface 55 (.agg #[.int .i64 v])) 47 54 true).run Try.prog W = .ok (.tuple #[.agg #[.int .i64 0], .bool false]) W := by kernel_rfl
theorem ta_gotOne_putDone (v : Int) (W : World) : (Instr.typeAssert (.iface 54 (.agg #[.int .i64 v])) 47 53 true).run Try.prog W = .ok (.tuple #[.agg #[.int .i64 0], .bool false]) W := by kernel_rfl
theorem ta_gotOne_gotOne (v : Int) (W : World) : (Instr.typeAssert (.iface 54 (.agg #[.int .i64 v])) 47 54 true).run Try.prog W = .ok (.tuple #[.agg #[.int .i64 v], .bool true]) W := by kernel_rfl
theorem ta_gotNone_putDone (v : Int) (W : World) : (Instr.typeAssert (.iface 56 (.agg #[.int .i64 v])) 47 53 true).run Try.prog W = .ok (.tuple #[.agg #[.int .i64 0], .bool false]) W := by kernel_rfl
theorem ta_gotNone_gotOne (v : Int) (W : World) : (Instr.typeAssert (.iface 56 (.agg #[.int .i64 v])) 47 54 true).run Try.prog W = .ok (.tuple #[.agg #[.int .i64 0], .bool false]) W := by kernel_rfl

set_option maxRecDepth 100000 in
set_option maxHeartbeats 4000000 in
theorem movedIn_any (l : List Ev) (A : Option Addr) (n cap : Nat) (w : World) (h : EvsR w A n l) (hm : n ≤ 1048576) :
    Calls Try.prog 27 #[.slice A n cap] w (RetInts2 (valsOf true l) (valsOf false l) w) := by
  obtain ⟨i0, hi0, hz0, hz1, hz2⟩ := info_parts int_info
  have HI := Lib.hid hi0
  have HZ0 := Lib.hid hz0
  have HZ1 := Lib.hid hz1
  have HZ2 := Lib.hid hz2
  clear hi0 hz0 hz1 hz2
  have HL := Lib.hid h.1
  go_enter Try.func27, Try.ntmps27
  go_wp2_with fail
  refine calls_abs (fun W => Below w.heap.size w W ∧ IntsO w.heap.size W (.slice (some ⟨w.heap.size, 0, none⟩) 0 0) [] ∧ IntsO w.heap.size W (.slice (some ⟨w.heap.size + 1, 0, none⟩) 0 0) []) ⟨((Below.refl _ _).alloc (Nat.le_refl _) _).alloc (by simp) _, (ints_made rfl (Nat.le_refl _)).below ((Below.refl _ _).alloc (Nat.le_refl _) _), ints_made (by simp) (by simp)⟩ ?_
  rintro W ⟨hB, hO, hP⟩
  refine (istory_any l A n cap _ (h.below hB) hm).mono ?_
  rintro e w1 ⟨rfl, hb1⟩
  replace hO := hO.below hb1
  replace hP := hP.below hb1
  replace hB := bstep hB hB.size hb1
  clear hb1
  cases hok : storyOk l
  · have HV := Lib.hid (show ∀ put, valsOf put l = [] from fun put => by unfold valsOf; rw [hok]; rfl)
    clear hok
    go_wp2
    go_ret2
    rw [HV.out, HV.out]
    exact ⟨_, _, _, _, rfl, ints_w hO, ints_w hP, hB⟩
  have HOK := Lib.hid hok
  have hn16 : n ≤ 16 := by rw [← HL.out]; exact story_len hok
  have HV := Lib.hid (show ∀ put, valsOf put l = mvs put l from fun put => by unfold valsOf; rw [hok]; rfl)
  clear hok
  go_wp2
  go_loopw [2, 3, 17] (fun s2 s3 s17 W => ∃ (i : Nat) (o p : List Int) (B D : Option Addr) (c d : Nat), i ≤ n ∧ s17 = .int .i64 i ∧ s2 = .slice B o.length c ∧ s3 = .slice D p.length d ∧ Below w.heap.size w W ∧ IntsO w.heap.size W (.slice B o.length c) o ∧ IntsO w.heap.size W (.slice D p.length d) p ∧ BlkNe (.slice B o.length c) (.slice D p.length d) ∧ o = mvs true (l.take i) ∧ p = mvs false (l.take i)) (fun _ _ s17 _ => n - (intOf s17).toNat)
  case atStart => exact ⟨0, [], [], _, _, _, _, Nat.zero_le _, rfl, rfl, rfl, hB, hO, hP, fun k h1 h2 => by simp [Value.ownBlock] at h1 h2; omega, rfl, rfl⟩
  case round =>
    clear hB hO hP
    obtain ⟨i, o, p, B, D, c, d, hin, rfl, rfl, rfl, hB, hO, hP, hne, ho, hp⟩ := hrel
    have HO := Lib.hid ho; clear ho
    have HP := Lib.hid hp; clear hp
    have hol : o.length ≤ 16 := by rw [HO.out]; have h1 := mvs_len true (l.take i); have h2 := HL.out; rw [List.length_take] at h1; omega
    have hpl : p.length ≤ 16 := by rw [HP.out]; have h1 := mvs_len false (l.take i); have h2 := HL.out; rw [List.length_take] at h1; omega
    by_cases hlt : i < n
    · have g1 : (i : Int) < (n : Int) := by omega
      have g2 : (0 : Int) ≤ (i : Int) := by omega
      obtain ⟨b, o', x, rfl, _, hx, c0, c1, c2, c3, c4, c5⟩ := SlE.at_ (h.below hB) hlt
      have HX := Lib.hid hx; clear hx
      go_wp2_with fail
      refine (shapeOf_any x _).mono ?_
      rintro e w2 ⟨rfl, hb2⟩
      have hb3 := (Below.refl wr.heap.size wr).alloc (Nat.le_refl _) (.cells #[.int .i64 x.who, .bool x.put, .int .i64 x.v, .int .i64 x.re, .int .i64 x.b, .int .i64 x.e] 32)
      have hs2 := hb2.size
      replace hO := (hO.below hb3).below hb2
      replace hP := (hP.below hb3).below hb2
      replace hB := bstep (hB.alloc hB.size _) (by simp; have := hB.size; omega) hb2
      clear hb2 hb3 hs2 c0 c1 c2 c3 c4 c5
      cases hp : x.put
      · by_cases r4 : x.re = 4
        · rw [show shV false x.re x.v = .iface 54 (.agg #[.int .i64 x.v]) by simp [shV, r4]]
          have ta1 := ta_gotOne_putDone
          have ta2 := ta_gotOne_gotOne
          have HM1 := Lib.hid (show movesB true x = false by simp [movesB, hp, r4])
          have HM2 := Lib.hid (show movesB false x = true by simp [movesB, hp, r4])
          go_wp2_with (at_builtin; go_must (refine wpList_append_own_at _ rfl (.tmp 35) (.tmp 39) _ rfl w.heap.size 2 i0 _ 1 8 Try.underlying35 HI.out HZ0.out HZ1.out HZ2.out rfl (by omega) (.slice D p.length d) p.length _ rfl ((hP.below ((Below.refl _ _).alloc (Nat.le_refl _) _)).below ((Below.refl _ _).alloc (Nat.le_refl _) _)) ⟨w2.heap.size + 1, 0, none⟩ 1 1 [.int .i64 x.v] rfl rfl (news_at (by simp)) (int1 _) (by unfold maxLen; omega) (by omega) (by simp; have := hB.size; omega) ?_; intro v' w' hO' hg' hz' hat'; obtain ⟨B', c', rfl, hN'⟩ := ints_snoc hO'; have hK' := ints_keep ((hO.below ((Below.refl _ _).alloc (Nat.le_refl _) _)).below ((Below.refl _ _).alloc (Nat.le_refl _) _)) hg' hne.symm; have hne' := BlkNe.grown (v' := .slice B' (p ++ [x.v]).length c') hne.symm hO (by simp; omega) hat'; have hB' := Below.grown ((hB.alloc hB.size _).alloc (by simp; have := hB.size; omega) _) hg' (by simp; have := hB.size; omega) (ints_ge hP)))
          go_roundw
          case rel => exact ⟨i + 1, o, p ++ [x.v], B, B', c, c', by omega, by go_num, rfl, by simp, hB', hK', hN', hne'.symm, by rw [mvs_no HX.out HM1.out]; exact HO.out, by rw [mvs_yes HX.out HM2.out, ← HP.out]⟩
          case measure => simp [intOf]; omega
        · by_cases r3 : x.re = 3
          · rw [show shV false x.re x.v = .iface 56 (.agg #[.int .i64 x.v]) by simp [shV, r3]]
            have ta1 := ta_gotNone_putDone
            have ta2 := ta_gotNone_gotOne
            have HM1 := Lib.hid (show movesB true x = false by simp [movesB, hp, r3])
            have HM2 := Lib.hid (show movesB false x = false by simp [movesB, hp, r3])
            go_wp2
            go_roundw
            case rel => exact ⟨i + 1, o, p, B, D, c, d, by omega, by go_num, rfl, rfl, hB, hO, hP, hne, by rw [mvs_no HX.out HM1.out]; exact HO.out, by rw [mvs_no HX.out HM2.out]; exact HP.out⟩
            case measure => simp [intOf]; omega
          · exfalso
            have := storyOk_at HOK.out HX.out
            simp [evOk, hp, r3, r4] at this
      · by_cases r1 : x.re = 1
        · rw [show shV true x.re x.v = .iface 53 (.agg #[.int .i64 x.v]) by simp [shV, r1]]
          have ta1 := ta_putDone_putDone
          have ta2 := ta_putDone_gotOne
          have HM1 := Lib.hid (show movesB true x = true by simp [movesB, hp, r1])
          have HM2 := Lib.hid (show movesB false x = false by simp [movesB, hp, r1])
          go_wp2_with (at_builtin; go_must (refine wpList_append_own_at _ rfl (.tmp 26) (.tmp 30) _ rfl w.heap.size 2 i0 _ 1 8 Try.underlying35 HI.out HZ0.out HZ1.out HZ2.out rfl (by omega) (.slice B o.length c) o.length _ rfl ((hO.below ((Below.refl _ _).alloc (Nat.le_refl _) _)).below ((Below.refl _ _).alloc (Nat.le_refl _) _)) ⟨w2.heap.size + 1, 0, none⟩ 1 1 [.int .i64 x.v] rfl rfl (news_at (by simp)) (int1 _) (by unfold maxLen; omega) (by omega) (by simp; have := hB.size; omega) ?_; intro v' w' hO' hg' hz' hat'; obtain ⟨B', c', rfl, hN'⟩ := ints_snoc hO'; have hK' := ints_keep ((hP.below ((Below.refl _ _).alloc (Nat.le_refl _) _)).below ((Below.refl _ _).alloc (Nat.le_refl _) _)) hg' hne; have hne' := BlkNe.grown (v' := .slice B' (o ++ [x.v]).length c') hne hP (by simp; omega) hat'; have hB' := Below.grown ((hB.alloc hB.size _).alloc (by simp; have := hB.size; omega) _) hg' (by simp; have := hB.size; omega) (ints_ge hO)))
          go_roundw
          case rel => exact ⟨i + 1, o ++ [x.v], p, B', D, c', d, by omega, by go_num, by simp, rfl, hB', hN', hK', hne', by rw [mvs_yes HX.out HM1.out, ← HO.out], by rw [mvs_no HX.out HM2.out]; exact HP.out⟩
          case measure => simp [intOf]; omega
        · by_cases r2 : x.re = 2
          · rw [show shV true x.re x.v = .iface 55 (.agg #[.int .i64 x.v]) by simp [shV, r2]]
            have ta1 := ta_putFull_putDone
            have ta2 := ta_putFull_gotOne
            have HM1 := Lib.hid (show movesB true x = false by simp [movesB, hp, r2])
            have HM2 := Lib.hid (show movesB false x = false by simp [movesB, hp, r2])
            go_wp2
            go_roundw
            case rel => exact ⟨i + 1, o, p, B, D, c, d, by omega, by go_num, rfl, rfl, hB, hO, hP, hne, by rw [mvs_no HX.out HM1.out]; exact HO.out, by rw [mvs_no HX.out HM2.out]; exact HP.out⟩
            case measure => simp [intOf]; omega
          · exfalso
            have := storyOk_at HOK.out HX.out
            simp [evOk, hp, r1, r2] at this
    · have g1 : ¬ (i : Int) < (n : Int) := by omega
      obtain rfl : n = i := by omega
      go_wp2
      go_ret2
      have HT := Lib.hid (List.take_of_length_le (Nat.le_of_eq HL.out))
      rw [HV.out, HV.out, show mvs true l = o by rw [HO.out, HT.out], show mvs false l = p by rw [HP.out, HT.out]]
      exact ⟨_, _, _, _, rfl, ints_w hO, ints_w hP, hB⟩

set_option maxHeartbeats 400000 in
theorem iputsIn_any (l : List Ev) (A : Option Addr) (n cap : Nat) (w : World) (h : EvsR w A n l) (hm : n ≤ 1048576) :
    Calls Try.prog 16 #[.slice A n cap] w (RetInts (valsOf true l) w) := by
  go_enter Try.func16, Try.ntmps16
  go_wp2_with fail
  refine (movedIn_any l A n cap _ h hm).mono ?_
  rintro e w1 ⟨B, c, D, d, rfl, hW, _, hb⟩
  go_wp2
  go_ret
  exact ⟨B, c, rfl, hW, hb⟩

set_option maxHeartbeats 400000 in
theorem igotsIn_any (l : List Ev) (A : Option Addr) (n cap : Nat) (w : World) (h : EvsR w A n l) (hm : n ≤ 1048576) :
    Calls Try.prog 22 #[.slice A n cap] w (RetInts (valsOf false l) w) := by
  go_enter Try.func22, Try.ntmps22
  go_wp2_with fail
  refine (movedIn_any l A n cap _ h hm).mono ?_
  rintro e w1 ⟨B, c, D, d, rfl, _, hW, hb⟩
  go_wp2
  go_ret
  exact ⟨D, d, rfl, hW, hb⟩

end Go.Proofs.Ytcbmloadnopjdaa

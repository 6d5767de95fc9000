/-
  Clones of hands, of numbers, of events and of lists, and the copy of jobs, of the program.
-/
import Derived.Test.YtomfaabifpndbaaGreatCrewM
import Derived.Test.YtomfaabifpndbaaGreatStoI
import Derived.Lib.LazyBuf
namespace Go.Proofs.YtomfaabifpndbaaGreat
set_option linter.unusedSimpArgs false
set_option linter.unusedVariables false
open Go.RowKit
set_option linter.unusedVariables false
attribute [local go_sem ↓] Go.wp_at_zero Go.wp_at_succ

theorem hd_one {l : List Hd} : ∀ u ∈ l.flatMap Hd.cs, u.oneCell' = true := by
  intro u hu
  obtain ⟨p, _, hp⟩ := List.mem_flatMap.1 hu
  simp [Hd.cs] at hp
  rcases hp with rfl | rfl | rfl | rfl | rfl | rfl | rfl | rfl | rfl | rfl | rfl | rfl <;> rfl
theorem jw_one {l : List Jw} : ∀ u ∈ l.flatMap Jw.cs, u.oneCell' = true := by
  intro u hu
  obtain ⟨p, _, hp⟩ := List.mem_flatMap.1 hu
  simp [Jw.cs] at hp
  subst hp; rfl
theorem handb_info : (Tryz.prog.info? 58).map (fun i => (i.zero, i.size, i.bytes)) = some (some (.agg #[.int .i64 0, .int .i64 0, .int .i64 0, .int .i64 0, .bool false, .int .i64 0, .bool false, .int .i64 0, .int .i64 0, .int .i64 0, .bool false, .int .i64 0]), 12, 96) := by kernel_rfl

set_option maxRecDepth 100000 in
set_option maxHeartbeats 1000000 in
theorem iclone_hd (l : List Hd) (A : Option Addr) (n cap lo hi : Nat) (w : World) (h : SlW Hd.cs 12 58 lo hi w A n cap l) (hn : n ≤ 1048576) :
    Calls Tryz.prog 65 #[.slice A n cap] w (fun e w' => ∃ A' c, e = .returned (.slice A' n c) ∧ SlW Hd.cs 12 58 w.heap.size w'.heap.size w' A' n c l ∧ Below w.heap.size w w') := by
  obtain ⟨i0, hi0, hz0, hz1, hz2⟩ := info_parts handb_info
  have HI := Lib.hid hi0
  have HZ0 := Lib.hid hz0
  have HZ1 := Lib.hid hz1
  have HZ2 := Lib.hid hz2
  clear hi0 hz0 hz1 hz2
  have HL := Lib.hid h.1
  have HH := Lib.hid (SlW.src h (f := Hd.cs) Hd.cs_len)
  rcases h.2 with ⟨rfl, rfl, rfl⟩ | ⟨b, rfl, _, _⟩
  · obtain rfl := List.eq_nil_of_length_eq_zero h.1
    have hnil : ∀ W : World, (binOp .eql 27 (.slice none 0 0) (.slice none 0 0)).run Tryz.prog W = .ok (.bool true) W := fun W => Go.run_eql_slice_nil W _ _ _ _ _ Tryz.underlying27
    go_enter Tryz.func65, Tryz.ntmps65
    go_wp2
    go_ret
    exact ⟨none, 0, rfl, SlW.nil, Below.refl _ _⟩
  · have hnil : ∀ W : World, (binOp .eql 27 (.slice (some ⟨b, 0, none⟩) n cap) (.slice none 0 0)).run Tryz.prog W = .ok (.bool false) W := fun W => Go.run_eql_slice_nil W _ _ _ _ _ Tryz.underlying27
    go_enter Tryz.func65, Tryz.ntmps65
    go_wp2_with (at_builtin; go_must (refine wpList_append_any rfl (.tmp 5) (.tmp 6) _ rfl w.heap.size 58 i0 _ 12 96 Tryz.underlying27 HI.out HZ0.out HZ1.out HZ2.out rfl (by omega) (.slice (some ⟨w.heap.size, 0, none⟩) 0 0) 0 [] rfl (own_made rfl (Nat.le_refl _)) (some ⟨b, 0, none⟩) n cap (l.flatMap Hd.cs) rfl HH.out.2.1 (by rw [flat_len _ 12 Hd.cs_len, HL.out]) (HH.out.al _).2.2 hd_one (by unfold maxLen; omega) (by omega) (by simp) ?_; intro v' w' hO' hg'; obtain ⟨A', cap', rfl, hP'⟩ := SlW.of_own (f := Hd.cs) (l := l) (n := n) (by simpa using hO') HL.out; have hB' : Below w.heap.size w w' := Below.grown ((Below.refl w.heap.size w).alloc (by omega) _) hg' (by simp) (fun k hk => by have := own_blk hk; omega)))
    go_ret
    exact ⟨A', cap', rfl, hP', hB'⟩

set_option maxRecDepth 100000 in
set_option maxHeartbeats 1000000 in
theorem iclone_int (l : List Int) (A : Option Addr) (n cap lo hi : Nat) (w : World) (h : SlW ic 1 2 lo hi w A n cap l) (hn : n ≤ 1048576) :
    Calls Tryz.prog 67 #[.slice A n cap] w (fun e w' => ∃ A' c, e = .returned (.slice A' n c) ∧ SlW ic 1 2 w.heap.size w'.heap.size w' A' n c l ∧ Below w.heap.size w w') := by
  obtain ⟨i0, hi0, hz0, hz1, hz2⟩ := info_parts int_info
  have HI := Lib.hid hi0
  have HZ0 := Lib.hid hz0
  have HZ1 := Lib.hid hz1
  have HZ2 := Lib.hid hz2
  clear hi0 hz0 hz1 hz2
  have HL := Lib.hid h.1
  have HH := Lib.hid (SlW.src h (f := ic) ic_len)
  rcases h.2 with ⟨rfl, rfl, rfl⟩ | ⟨b, rfl, _, _⟩
  · obtain rfl := List.eq_nil_of_length_eq_zero h.1
    have hnil : ∀ W : World, (binOp .eql 28 (.slice none 0 0) (.slice none 0 0)).run Tryz.prog W = .ok (.bool true) W := fun W => Go.run_eql_slice_nil W _ _ _ _ _ Tryz.underlying28
    go_enter Tryz.func67, Tryz.ntmps67
    go_wp2
    go_ret
    exact ⟨none, 0, rfl, SlW.nil, Below.refl _ _⟩
  · have hnil : ∀ W : World, (binOp .eql 28 (.slice (some ⟨b, 0, none⟩) n cap) (.slice none 0 0)).run Tryz.prog W = .ok (.bool false) W := fun W => Go.run_eql_slice_nil W _ _ _ _ _ Tryz.underlying28
    go_enter Tryz.func67, Tryz.ntmps67
    go_wp2_with (at_builtin; go_must (refine wpList_append_any rfl (.tmp 5) (.tmp 6) _ rfl w.heap.size 2 i0 _ 1 8 Tryz.underlying28 HI.out HZ0.out HZ1.out HZ2.out rfl (by omega) (.slice (some ⟨w.heap.size, 0, none⟩) 0 0) 0 [] rfl (own_made rfl (Nat.le_refl _)) (some ⟨b, 0, none⟩) n cap (l.flatMap ic) rfl HH.out.2.1 (by rw [flat_len _ 1 ic_len, HL.out]) (HH.out.al _).2.2 ic_one (by unfold maxLen; omega) (by omega) (by simp) ?_; intro v' w' hO' hg'; obtain ⟨A', cap', rfl, hP'⟩ := SlW.of_own (f := ic) (l := l) (n := n) (by simpa using hO') HL.out; have hB' : Below w.heap.size w w' := Below.grown ((Below.refl w.heap.size w).alloc (by omega) _) hg' (by simp) (fun k hk => by have := own_blk hk; omega)))
    go_ret
    exact ⟨A', cap', rfl, hP', hB'⟩

set_option maxRecDepth 100000 in
set_option maxHeartbeats 1000000 in
theorem iclone_ev (l : List Ev) (A : Option Addr) (n cap lo hi : Nat) (w : World) (h : SlW Ev.cs 6 77 lo hi w A n cap l) (hn : n ≤ 1048576) :
    Calls Tryz.prog 68 #[.slice A n cap] w (fun e w' => ∃ A' c, e = .returned (.slice A' n c) ∧ SlW Ev.cs 6 77 w.heap.size w'.heap.size w' A' n c l ∧ Below w.heap.size w w') := by
  obtain ⟨i0, hi0, hz0, hz1, hz2⟩ := info_parts event_info
  have HI := Lib.hid hi0
  have HZ0 := Lib.hid hz0
  have HZ1 := Lib.hid hz1
  have HZ2 := Lib.hid hz2
  clear hi0 hz0 hz1 hz2
  have HL := Lib.hid h.1
  have HH := Lib.hid (SlW.src h (f := Ev.cs) Ev.cs_len)
  rcases h.2 with ⟨rfl, rfl, rfl⟩ | ⟨b, rfl, _, _⟩
  · obtain rfl := List.eq_nil_of_length_eq_zero h.1
    have hnil : ∀ W : World, (binOp .eql 29 (.slice none 0 0) (.slice none 0 0)).run Tryz.prog W = .ok (.bool true) W := fun W => Go.run_eql_slice_nil W _ _ _ _ _ Tryz.underlying29
    go_enter Tryz.func68, Tryz.ntmps68
    go_wp2
    go_ret
    exact ⟨none, 0, rfl, SlW.nil, Below.refl _ _⟩
  · have hnil : ∀ W : World, (binOp .eql 29 (.slice (some ⟨b, 0, none⟩) n cap) (.slice none 0 0)).run Tryz.prog W = .ok (.bool false) W := fun W => Go.run_eql_slice_nil W _ _ _ _ _ Tryz.underlying29
    go_enter Tryz.func68, Tryz.ntmps68
    go_wp2_with (at_builtin; go_must (refine wpList_append_any rfl (.tmp 5) (.tmp 6) _ rfl w.heap.size 77 i0 _ 6 48 Tryz.underlying29 HI.out HZ0.out HZ1.out HZ2.out rfl (by omega) (.slice (some ⟨w.heap.size, 0, none⟩) 0 0) 0 [] rfl (own_made rfl (Nat.le_refl _)) (some ⟨b, 0, none⟩) n cap (l.flatMap Ev.cs) rfl HH.out.2.1 (by rw [flat_len _ 6 Ev.cs_len, HL.out]) (HH.out.al _).2.2 ev_one (by unfold maxLen; omega) (by omega) (by simp) ?_; intro v' w' hO' hg'; obtain ⟨A', cap', rfl, hP'⟩ := SlW.of_own (f := Ev.cs) (l := l) (n := n) (by simpa using hO') HL.out; have hB' : Below w.heap.size w w' := Below.grown ((Below.refl w.heap.size w).alloc (by omega) _) hg' (by simp) (fun k hk => by have := own_blk hk; omega)))
    go_ret
    exact ⟨A', cap', rfl, hP', hB'⟩

set_option maxRecDepth 100000 in
set_option maxHeartbeats 1000000 in
theorem iclone_jw (l : List Jw) (A : Option Addr) (n cap lo hi : Nat) (w : World) (h : SlW Jw.cs 1 28 lo hi w A n cap l) (hn : n ≤ 1048576) :
    Calls Tryz.prog 92 #[.slice A n cap] w (fun e w' => ∃ A' c, e = .returned (.slice A' n c) ∧ SlW Jw.cs 1 28 w.heap.size w'.heap.size w' A' n c l ∧ Below w.heap.size w w') := by
  obtain ⟨i0, hi0, hz0, hz1, hz2⟩ := info_parts lists_info
  have HI := Lib.hid hi0
  have HZ0 := Lib.hid hz0
  have HZ1 := Lib.hid hz1
  have HZ2 := Lib.hid hz2
  clear hi0 hz0 hz1 hz2
  have HL := Lib.hid h.1
  have HH := Lib.hid (SlW.src h (f := Jw.cs) Jw.cs_len)
  rcases h.2 with ⟨rfl, rfl, rfl⟩ | ⟨b, rfl, _, _⟩
  · obtain rfl := List.eq_nil_of_length_eq_zero h.1
    have hnil : ∀ W : World, (binOp .eql 22 (.slice none 0 0) (.slice none 0 0)).run Tryz.prog W = .ok (.bool true) W := fun W => Go.run_eql_slice_nil W _ _ _ _ _ Tryz.underlying22
    go_enter Tryz.func92, Tryz.ntmps92
    go_wp2
    go_ret
    exact ⟨none, 0, rfl, SlW.nil, Below.refl _ _⟩
  · have hnil : ∀ W : World, (binOp .eql 22 (.slice (some ⟨b, 0, none⟩) n cap) (.slice none 0 0)).run Tryz.prog W = .ok (.bool false) W := fun W => Go.run_eql_slice_nil W _ _ _ _ _ Tryz.underlying22
    go_enter Tryz.func92, Tryz.ntmps92
    go_wp2_with (at_builtin; go_must (refine wpList_append_any rfl (.tmp 5) (.tmp 6) _ rfl w.heap.size 28 i0 _ 1 24 Tryz.underlying22 HI.out HZ0.out HZ1.out HZ2.out rfl (by omega) (.slice (some ⟨w.heap.size, 0, none⟩) 0 0) 0 [] rfl (own_made rfl (Nat.le_refl _)) (some ⟨b, 0, none⟩) n cap (l.flatMap Jw.cs) rfl HH.out.2.1 (by rw [flat_len _ 1 Jw.cs_len, HL.out]) (HH.out.al _).2.2 jw_one (by unfold maxLen; omega) (by omega) (by simp) ?_; intro v' w' hO' hg'; obtain ⟨A', cap', rfl, hP'⟩ := SlW.of_own (f := Jw.cs) (l := l) (n := n) (by simpa using hO') HL.out; have hB' : Below w.heap.size w w' := Below.grown ((Below.refl w.heap.size w).alloc (by omega) _) hg' (by simp) (fun k hk => by have := own_blk hk; omega)))
    go_ret
    exact ⟨A', cap', rfl, hP', hB'⟩

set_option maxRecDepth 100000 in
set_option maxHeartbeats 2000000 in
theorem copyOfJobs_d (L : List (List Int)) (A : Option Addr) (n cap lo hi : Nat) (w : World) (h : ListsW lo hi w A n cap L) (hh : hi ≤ w.heap.size) (hn : n ≤ 1048576) (hm : ∀ l ∈ L, l.length ≤ 1048576) :
    Calls Tryz.prog 66 #[.slice A n cap] w (fun e w' => ∃ A' c, e = .returned (.slice A' n c) ∧ ListsD w.heap.size w'.heap.size w' A' n c L ∧ Below w.heap.size w w') := by
  obtain ⟨rows0, hr0, hE0⟩ := h
  have hrn : rows0.length = n := hr0.1
  have hLn : L.length = n := by rw [← hE0.1]; exact hrn
  have HLN := Lib.hid hLn
  have HRN := Lib.hid hrn
  have HM := Lib.hid hm
  clear hm hLn hrn
  go_enter Tryz.func66, Tryz.ntmps66
  go_wp2_with fail
  refine (iclone_jw rows0 A n cap lo hi _ hr0 hn).mono ?_
  rintro e w1 ⟨A1, c1, rfl, hr, hb1⟩
  have hE := hE0.keep (.below hb1 hh)
  have hh1 := Nat.le_trans hh hb1.size
  have hsw := hb1.size
  clear hr0 hE0
  go_wp2
  go_loopw [8] (fun s8 W => ∃ (i : Nat) (rows : List Jw), i ≤ n ∧ s8 = .int .i64 i ∧ rows.length = i ∧ Below w.heap.size w W ∧ SlW Jw.cs 1 28 w.heap.size w1.heap.size W A1 n c1 (rows ++ rows0.drop i) ∧ w1.heap.size ≤ W.heap.size ∧ EachW w1.heap.size W.heap.size W rows (L.take i) ∧ Apart rows ∧ EachW lo hi W rows0 L) (fun s8 _ => n - (intOf s8).toNat)
  case atStart => exact ⟨0, [], Nat.zero_le _, rfl, rfl, hb1, by simpa using hr, Nat.le_refl _, ⟨rfl, fun i a l ha _ => by simp at ha⟩, fun i j a b ha _ => by simp at ha, hE⟩
  case round =>
    clear hb1 hr hE
    obtain ⟨i, rows, hi_, rfl, hrl, hB, hr, hs1, hE, hAp, hE0⟩ := hrel
    have hhW : hi ≤ wr.heap.size := Nat.le_trans hh1 hs1
    have HL := Lib.hid hrl; clear hrl
    by_cases hlt : i < n
    · obtain ⟨b, a, rfl, hlb, hbh, ha, hc⟩ := SlW.at_ hr Jw.cs_len hlt
      have c0 := hc 0 _ rfl
      rw [Nat.add_zero, Nat.mul_one] at c0
      have ha0 : rows0[i]? = some a := by
        rw [List.getElem?_append_right (by rw [HL.out]; exact Nat.le_refl _), HL.out, Nat.sub_self, List.getElem?_drop, Nat.add_zero] at ha
        exact ha
      obtain ⟨l, hl⟩ : ∃ l, L[i]? = some l := ⟨_, List.getElem?_eq_getElem (by rw [HLN.out]; exact hlt)⟩
      have hI := hE0.2 i a l ha0 hl
      have hle : a.n ≤ 1048576 := by have h1 := HM.out l (List.mem_of_getElem? hl); have h2 := hI.1; omega
      obtain ⟨g, hg, _, _, hO⟩ := SlW.at0 hr (by omega)
      injection hg with hg
      injection hg with hg
      subst hg
      have hbl := Own.lt hO
      have HA := Lib.hid ha
      have HLi := Lib.hid hl
      clear hc ha ha0 hl
      have h1 : (i : Int) < (n : Int) := by omega
      have h2 : (0 : Int) ≤ (i : Int) := by omega
      go_wp2_with fail
      refine (iclone_int l a.A a.n a.cap lo hi _ hI hle).mono ?_
      rintro e w2 ⟨X, d, rfl, hX, hb2⟩
      clear c0
      have hO1 := Own.below hO hb2
      have d0 := Own.cell_ Jw.cs_len hO1 (j := 0) HA.out rfl
      rw [Nat.add_zero, Nat.mul_one] at d0
      have df := Own.frozen_ hO1
      obtain ⟨csb, hbx⟩ := own_box hO1
      go_wp2
      go_roundw
      case rel =>
        have hLn := HLN.out
        refine ⟨i + 1, rows ++ [⟨X, a.n, d⟩], by omega, by go_num, by simp [HL.out], ?_, ?_, ?_, ?_, ?_, ?_⟩
        · exact (bstep hB hB.size hb2).setCell hlb _
        · have hst := Own.setEl hO1 Jw.cs_len (by omega) hlt (⟨X, a.n, d⟩ : Jw)
          have hdr : rows0.drop i = a :: rows0.drop (i + 1) := by
            have := HA.out
            rw [List.getElem?_append_right (by rw [HL.out]; exact Nat.le_refl _), HL.out, Nat.sub_self, List.getElem?_drop, Nat.add_zero] at this
            obtain ⟨hi2, e2⟩ := List.getElem?_eq_some_iff.1 this
            rw [List.drop_eq_getElem_cons hi2, e2]
          rw [List.set_append_right _ _ (by rw [HL.out]; exact Nat.le_refl _), HL.out, Nat.sub_self, hdr, List.set_cons_zero, Nat.mul_one] at hst
          rw [List.append_assoc]
          exact ⟨hst.1, .inr ⟨b, rfl, hbh, hst⟩⟩
        · have := hb2.size; simp; omega
        · have h0 : EachW w1.heap.size w2.heap.size w2 rows (L.take i) := (hE.keep (.below hb2 (Nat.le_refl _))).mono (Nat.le_refl _) hb2.size
          have hs : L.take (i + 1) = L.take i ++ [l] := by
            obtain ⟨hi', e⟩ := List.getElem?_eq_some_iff.1 HLi.out
            rw [List.take_succ_eq_append_getElem hi', e]
          have hx : EachW w1.heap.size w2.heap.size w2 (rows ++ [⟨X, a.n, d⟩]) (L.take (i + 1)) := by
            rw [hs]
            refine ⟨by simp [HL.out]; omega, fun j x l' hx hl => ?_⟩
            by_cases hj : j < i
            · rw [List.getElem?_append_left (by rw [HL.out]; exact hj)] at hx
              rw [List.getElem?_append_left (by simp; omega)] at hl
              exact h0.2 j x l' hx hl
            · have hj2 : j = i := by
                have := (List.getElem?_eq_some_iff.1 hx).1
                simp [HL.out] at this
                omega
              subst hj2
              rw [List.getElem?_append_right (by rw [HL.out]; exact Nat.le_refl _), HL.out, Nat.sub_self] at hx
              rw [List.getElem?_append_right (by rw [List.length_take]; exact Nat.min_le_left _ _)] at hl
              simp at hx
              have : (L.take j).length = j := by simp; omega
              rw [this, Nat.sub_self] at hl
              simp at hl
              subst hx hl
              exact SlW.mono hX hs1 (Nat.le_refl _)
          have hk := hx.setsT (us := [.slice X a.n d]) (o := i) hbx (by decide)
          exact hk.mono (Nat.le_refl _) (by simp)
        · refine hAp.snoc fun j x hb g hg hg2 => ?_
          have h1 : wr.heap.size ≤ g := by
            rcases hX.2 with ⟨h0, _⟩ | ⟨g', h0, _, ho⟩
            · dsimp only at hg; rw [h0] at hg; cases hg
            · dsimp only at hg; rw [h0] at hg; injection hg with hg; injection hg with hg; subst hg; exact ho.2.1
          have hj : j < i := by have := (List.getElem?_eq_some_iff.1 hb).1; have := HL.out; omega
          have hjl : (L.take i)[j]? = some (L[j]'(by have := HLN.out; omega)) := by rw [List.getElem?_take_of_lt hj]; exact List.getElem?_eq_getElem (by have := HLN.out; omega)
          rcases (hE.2 j x _ hb hjl).2 with ⟨h0, _⟩ | ⟨g', h0, h2, _⟩
          · rw [h0] at hg2; cases hg2
          · rw [h0] at hg2; injection hg2 with hg2; injection hg2 with hg2; subst hg2; omega
        · have h3 : EachW lo hi w2 rows0 L := hE0.keep (.below hb2 hhW)
          exact h3.setsT (us := [.slice X a.n d]) (o := i) hbx (by decide)
      case measure => simp [intOf]; omega
    · have h1 : ¬ (i : Int) < (n : Int) := by omega
      obtain rfl : i = n := by omega
      go_wp2
      go_ret
      rw [List.drop_eq_nil_of_le (by rw [HRN.out]; exact Nat.le_refl _), List.append_nil] at hr
      rw [List.take_of_length_le (by rw [HLN.out]; exact Nat.le_refl _)] at hE
      exact ⟨A1, c1, rfl, ⟨rows, SlW.mono hr (Nat.le_refl _) hs1, hE.mono hsw (Nat.le_refl _), hAp⟩, hB⟩

end Go.Proofs.YtomfaabifpndbaaGreat

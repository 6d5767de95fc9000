/-
  The program's PutStep, whole.
-/
import Derived.Laws.EntriesVeiled
import Derived.Laws.Tables
import Derived.Laws.Rows
import Derived.Test.YtaieigdnfdnnpaaGreatDoorPsB
import Derived.Test.YtaieigdnfdnnpaaGreatDoorStepP
namespace Go.Proofs.YtaieigdnfdnnpaaGreatDoor
set_option linter.unusedSimpArgs false
set_option linter.unusedVariables false
open Go.RowKit
set_option linter.unusedVariables false
attribute [local go_sem] OpUpon
attribute [local go_sem ↓] Go.wp_at_zero Go.wp_at_succ

theorem RgsD.setsT {lo hi : Nat} {A : Option Addr} {n cap : Nat} {L : List Rg} {k : Nat} {w : World} {cs : Array Value} {t : TypeId} (h : RgsD lo hi w A n cap L) (hk : BoxAt w k cs t) (h1 : t ≠ 56) (h2 : t ≠ 33) : ∀ (us : List Value) (o : Nat), RgsD lo hi (setCells w k o us) A n cap L
  | [], _ => h
  | u :: us, o => by
    refine RgsD.setsT (?_ : RgsD lo hi (w.setCell ⟨k, o, none⟩ u) A n cap L) (hk.set o u) h1 h2 us (o + 1)
    exact ⟨h.1, fun hn => by
      obtain ⟨b, rows, e, hb, ho, hd⟩ := h.2 hn
      obtain ⟨cb, hbx⟩ := own_box ho
      exact ⟨b, rows, e, hb, Own.set_ne ho (box_ne hbx hk (fun e => h1 e.symm)) _ _, hd.keep fun g _ _ _ hg => Below.heap_setCell w ⟨k, o, none⟩ u g (box_ne hg hk (fun e => h2 e.symm))⟩⟩

theorem gD_b {lo : Nat} {L : List Rg} (W W' : World) (A : Option Addr) (n c : Nat) (hb : Below W.heap.size W W') (h : RgsD lo W.heap.size W A n c L) : RgsD lo W'.heap.size W' A n c L := (h.below hb (Nat.le_refl _)).mono (Nat.le_refl _) hb.size
theorem gD_s {lo : Nat} {L : List Rg} (W : World) (A : Option Addr) (n c k : Nat) (cs : Array Value) (t : TypeId) (us : List Value) (h : RgsD lo W.heap.size W A n c L) (hk : BoxAt W k cs t) (h1 : t ≠ 56) (h2 : t ≠ 33) : RgsD lo (setCells W k 0 us).heap.size (setCells W k 0 us) A n c L := (h.setsT hk h1 h2 us 0).mono (Nat.le_refl _) (Nat.le_of_eq (sets_size _ _ _).symm)

def fidOf (z : Int) : Nat := [0, 121, 122, 123, 124, 125, 126, 127, 128, 129, 130, 131, 132].getD z.toNat 0
def asksB (z : Int) : Bool := z == 10
/-- A store, a hand and a bool are returned, the store in memory of its own. -/
def RetSHBD (q : St × Hd × Bool) (w : World) (e : Ending) (w' : World) : Prop :=
  ∃ A n cap, e = .returned (.tuple #[stV q.1 A n cap, hdV q.2.1, .bool q.2.2]) ∧ RgsD w.heap.size w'.heap.size w' A n cap q.1.rs ∧ Below w.heap.size w w'

theorem wpList_build_v {P : Program} {ops : Array Oper} {rest : List Oper} {o : Oper} {a : Act} {w : World} {Q : Exit → Act → World → Prop} (hg : o.guard = none) (t : TypeId) (parts : Array (Nat × Operand)) (ho : o.op = .build t parts) (cells : Array Value)
    (hf : P.built t (parts.map fun (i, x) => (i, a.eval x)).toList = some cells) (h : wpList P ops Q rest (a.put o.dst (.agg cells)) w) : wpList P ops Q (o :: rest) a w :=
  wpList_build hg t parts ho (by rw [hf]; rfl) (by rw [hf]; exact h)

set_option maxRecDepth 100000 in
set_option maxHeartbeats 4000000 in
theorem iputSteps_any (w : World) : Calls Tryz.prog 60 #[] w (RetBelow (.agg #[.nilFunc, .bool false, .func (.func 121) #[] #[], .bool false, .func (.func 122) #[] #[], .bool false, .func (.func 123) #[] #[], .bool false, .func (.func 124) #[] #[], .bool false, .func (.func 125) #[] #[], .bool false, .func (.func 126) #[] #[], .bool false, .func (.func 127) #[] #[], .bool false, .func (.func 128) #[] #[], .bool false, .func (.func 129) #[] #[], .bool false, .func (.func 130) #[] #[], .bool true, .func (.func 131) #[] #[], .bool false, .func (.func 132) #[] #[], .bool false]) w) := by
  go_enter Tryz.func60, Tryz.ntmps60
  go_upto_region 1 with fail
  refine wp_abs (fun W => Below w.heap.size w W ∧ BoxAt W w.heap.size #[.nilFunc, .bool false, .nilFunc, .bool false, .nilFunc, .bool false, .nilFunc, .bool false, .nilFunc, .bool false, .nilFunc, .bool false, .nilFunc, .bool false, .nilFunc, .bool false, .nilFunc, .bool false, .nilFunc, .bool false, .nilFunc, .bool false, .nilFunc, .bool false, .nilFunc, .bool false] 83) ⟨(Below.refl _ _).alloc (Nat.le_refl _) _, BoxAt.new _ _ _⟩ ?_
  rintro W ⟨hB, hz⟩
  go_cut [13] (fun _ W' => Below w.heap.size w W' ∧ BoxAt W' w.heap.size #[.nilFunc, .bool false, .func (.func 121) #[] #[], .bool false, .func (.func 122) #[] #[], .bool false, .func (.func 123) #[] #[], .bool false, .func (.func 124) #[] #[], .bool false, .func (.func 125) #[] #[], .bool false, .func (.func 126) #[] #[], .bool false, .func (.func 127) #[] #[], .bool false, .func (.func 128) #[] #[], .bool false, .func (.func 129) #[] #[], .bool false, .func (.func 130) #[] #[], .bool true, .func (.func 131) #[] #[], .bool false, .func (.func 132) #[] #[], .bool false] 83)
  case first =>
    refine wp_region_lit ?_
    refine wpList_build_v rfl _ _ rfl #[.func (.func 121) #[] #[], .bool false] (by kernel_rfl) ?_
    refine wpList_build_v rfl _ _ rfl #[.func (.func 122) #[] #[], .bool false] (by kernel_rfl) ?_
    refine wpList_build_v rfl _ _ rfl #[.func (.func 123) #[] #[], .bool false] (by kernel_rfl) ?_
    refine wpList_build_v rfl _ _ rfl #[.func (.func 124) #[] #[], .bool false] (by kernel_rfl) ?_
    refine wpList_build_v rfl _ _ rfl #[.func (.func 125) #[] #[], .bool false] (by kernel_rfl) ?_
    refine wpList_build_v rfl _ _ rfl #[.func (.func 126) #[] #[], .bool false] (by kernel_rfl) ?_
    refine wpList_build_v rfl _ _ rfl #[.func (.func 127) #[] #[], .bool false] (by kernel_rfl) ?_
    refine wpList_build_v rfl _ _ rfl #[.func (.func 128) #[] #[], .bool false] (by kernel_rfl) ?_
    refine wpList_build_v rfl _ _ rfl #[.func (.func 129) #[] #[], .bool false] (by kernel_rfl) ?_
    refine wpList_build_v rfl _ _ rfl #[.func (.func 130) #[] #[], .bool true] (by kernel_rfl) ?_
    refine wpList_build_v rfl _ _ rfl #[.func (.func 131) #[] #[], .bool false] (by kernel_rfl) ?_
    refine wpList_build_v rfl _ _ rfl #[.func (.func 132) #[] #[], .bool false] (by kernel_rfl) ?_
    refine wpList_build_v rfl _ _ rfl #[.nilFunc, .bool false, .func (.func 121) #[] #[], .bool false, .func (.func 122) #[] #[], .bool false, .func (.func 123) #[] #[], .bool false, .func (.func 124) #[] #[], .bool false, .func (.func 125) #[] #[], .bool false, .func (.func 126) #[] #[], .bool false, .func (.func 127) #[] #[], .bool false, .func (.func 128) #[] #[], .bool false, .func (.func 129) #[] #[], .bool false, .func (.func 130) #[] #[], .bool true, .func (.func 131) #[] #[], .bool false, .func (.func 132) #[] #[], .bool false] (by kernel_rfl) ?_
    refine wpList_store_row rfl 83 (.tmp 0) (.tmp 13) rfl w.heap.size #[.nilFunc, .bool false, .func (.func 121) #[] #[], .bool false, .func (.func 122) #[] #[], .bool false, .func (.func 123) #[] #[], .bool false, .func (.func 124) #[] #[], .bool false, .func (.func 125) #[] #[], .bool false, .func (.func 126) #[] #[], .bool false, .func (.func 127) #[] #[], .bool false, .func (.func 128) #[] #[], .bool false, .func (.func 129) #[] #[], .bool false, .func (.func 130) #[] #[], .bool true, .func (.func 131) #[] #[], .bool false, .func (.func 132) #[] #[], .bool false] (by kernel_rfl) (by kernel_rfl) 83 #[.nilFunc, .bool false, .nilFunc, .bool false, .nilFunc, .bool false, .nilFunc, .bool false, .nilFunc, .bool false, .nilFunc, .bool false, .nilFunc, .bool false, .nilFunc, .bool false, .nilFunc, .bool false, .nilFunc, .bool false, .nilFunc, .bool false, .nilFunc, .bool false, .nilFunc, .bool false] hz (by kernel_rfl) rfl (by kernel_rfl) ?_
    go_simp
    go_step
    go_step
    go_step
    go_meet
    exact ⟨hB.trans ⟨rfl, rfl, rfl, by simp, fun k hk => setRow_other _ _ _ _ (by omega)⟩, setRow_heap _ _ _ _ _ _ hz⟩
  case rest =>
    obtain ⟨hB', hz'⟩ := hcut
    clear hB hz
    go_wp2
    exact bodyPost_ret (v := .agg #[.nilFunc, .bool false, .func (.func 121) #[] #[], .bool false, .func (.func 122) #[] #[], .bool false, .func (.func 123) #[] #[], .bool false, .func (.func 124) #[] #[], .bool false, .func (.func 125) #[] #[], .bool false, .func (.func 126) #[] #[], .bool false, .func (.func 127) #[] #[], .bool false, .func (.func 128) #[] #[], .bool false, .func (.func 129) #[] #[], .bool false, .func (.func 130) #[] #[], .bool true, .func (.func 131) #[] #[], .bool false, .func (.func 132) #[] #[], .bool false]) (results_cell_row Tryz.results60 _ _ w.heap.size 83 _ _ _ rfl hz' Tryz.underlying83 rfl (by kernel_rfl)) rfl ⟨rfl, hB'⟩

end Go.Proofs.YtaieigdnfdnnpaaGreatDoor

/-
  The walk of the program's PutStep.
-/
namespace Go.Proofs.YtaieigdnfdnnpaaGreatDoor
set_option linter.unusedSimpArgs false
set_option linter.unusedVariables false
open Go.RowKit
set_option linter.unusedVariables false
attribute [local go_sem] OpUpon
attribute [local go_sem ↓] Go.wp_at_zero Go.wp_at_succ

theorem ips_any (s : St) (A : Option Addr) (n cap lo hi B : Nat) (a0 a1 a2 a3 a4 a5 : Addr) (h : Hd) (w : World) (hs : RgsW lo hi w A n cap s.rs) (hh : hi ≤ w.heap.size) (hok : stOk s = true) (hrb : ringB s h.r = true) (hE : Snt B a0 a1 a2 a3 a4 a5 w) (hho : h.ok = true) (hp : putB h.at_ = true) (hsp : h.at_ = 10 → h.sp = -1 ∨ ringB s h.sp = true) :
    Calls Tryz.prog (fidOf h.at_) #[stV s A n cap, hdV h] w (RetSH (PH (putS s h)) w) := by
  obtain ⟨ht, htr⟩ := hd_nums hho
  obtain ⟨_, _, hv⟩ := hd_facts hho hp
  obtain ⟨a, v, r, t, seen, tr, sp, ag, re⟩ := h
  dsimp only at hrb hp ht htr hsp hv
  have hc : a = 1 ∨ a = 2 ∨ a = 3 ∨ a = 4 ∨ a = 5 ∨ a = 6 ∨ a = 7 ∨ a = 8 ∨ a = 9 ∨ a = 10 ∨ a = 11 ∨ a = 12 := by
    simp only [putB, inB, Bool.and_eq_true, decide_eq_true_eq] at hp
    omega
  clear hp hho
  rcases hc with rfl | rfl | rfl | rfl | rfl | rfl | rfl | rfl | rfl | rfl | rfl | rfl
  · exact ips_1 s A n cap lo hi B a0 a1 a2 a3 a4 a5 v r t seen tr sp ag re w hs hh hok hrb hE
  · exact ips_2 s A n cap lo hi B a0 a1 a2 a3 a4 a5 v r t seen tr sp ag re w hs hh hok hrb hE
  · exact ips_3 s A n cap lo hi B a0 a1 a2 a3 a4 a5 v r t seen tr sp ag re w hs hh hok hrb hE
  · exact ips_4 s A n cap lo hi B a0 a1 a2 a3 a4 a5 v r t seen tr sp ag re w hs hh hok hrb hE
  · exact ips_5 s A n cap lo hi B a0 a1 a2 a3 a4 a5 v r t seen tr sp ag re w hs hh hok hrb hE ht
  · exact ips_6 s A n cap lo hi B a0 a1 a2 a3 a4 a5 v r t seen tr sp ag re w hs hh hok hrb hE
  · exact ips_7 s A n cap lo hi B a0 a1 a2 a3 a4 a5 v r t seen tr sp ag re w hs hh hok hrb hE ht
  · exact ips_8 s A n cap lo hi B a0 a1 a2 a3 a4 a5 v r t seen tr sp ag re w hs hh hok hrb hE ht htr
  · exact ips_9 s A n cap lo hi B a0 a1 a2 a3 a4 a5 v r t seen tr sp ag re w hs hh hok hrb hE
  · rcases hsp rfl with rfl | hsp
    · exact ips_10a s A n cap lo hi B a0 a1 a2 a3 a4 a5 v r t seen tr 0 ag re w hs hh hok hrb hE
    · exact ips_10b s A n cap lo hi B a0 a1 a2 a3 a4 a5 v r t seen tr sp ag re w hs hh hok hrb hE hsp hv
  · exact ips_11 s A n cap lo hi B a0 a1 a2 a3 a4 a5 v r t seen tr sp ag re w hs hh hok hrb hE
  · exact ips_12 s A n cap lo hi B a0 a1 a2 a3 a4 a5 v r t seen tr sp ag re w hs hh hok hrb hE

def blkB (s : St) (a r sp : Int) : Bool := !ringB s r || (asksB a && (sp != -1) && !ringB s sp)
theorem stepS_blk {s : St} (hok : stOk s = true) {h : Hd} (hho : h.ok = true) (hp : putB h.at_ = true) (hb : blkB s h.at_ h.r h.sp = true) : stepS putS putB s h = (s, h, false) := by
  cases hrb : ringB s h.r
  · simp [stepS, hok, hho, hrb]
  · simp only [blkB, hrb, asksB, Bool.not_true, Bool.false_or, Bool.and_eq_true, beq_iff_eq, bne_iff_ne, Bool.not_eq_true'] at hb
    exact stepS_none hok hho hp hrb hb.1.1 hb.1.2 hb.2
theorem blk_no {s : St} {a r sp : Int} (hb : blkB s a r sp = false) : ringB s r = true ∧ (a = 10 → sp = -1 ∨ ringB s sp = true) := by
  simp only [blkB, asksB, Bool.or_eq_false_iff, Bool.not_eq_false', Bool.and_eq_false_iff, beq_eq_false_iff_ne, bne_eq_false_iff_eq] at hb
  refine ⟨hb.1, fun h => ?_⟩
  rcases hb.2 with (h' | h') | h'
  · exact absurd h h'
  · exact .inl h'
  · exact .inr h'

def ipAV (s : St) (N M0 n cap : Nat) (A : Option Addr) (at_ v r t : Int) (seen : Pl) (tr sp : Int) (ag : Bool) (re : Int) : List Sl := [.v (.agg #[.nilFunc, .bool false, .func (.func 121) #[] #[], .bool false, .func (.func 122) #[] #[], .bool false, .func (.func 123) #[] #[], .bool false, .func (.func 124) #[] #[], .bool false, .func (.func 125) #[] #[], .bool false, .func (.func 126) #[] #[], .bool false, .func (.func 127) #[] #[], .bool false, .func (.func 128) #[] #[], .bool false, .func (.func 129) #[] #[], .bool false, .func (.func 130) #[] #[], .bool true, .func (.func 131) #[] #[], .bool false, .func (.func 132) #[] #[], .bool false]),
  .v (.pointer (some ⟨(N + 1), 0, none⟩)),
  .v (.int .i64 at_),
  .v (.agg #[.func (.func (fidOf at_)) #[] #[], .bool (asksB at_)]),
  .e fun σ w => ∃ g4, σ 4 = .pointer (some ⟨g4, 0, none⟩) ∧ M0 ≤ g4 ∧ ∃ x0 x1, BoxAt w g4 #[x0, x1] 82,
  .e fun σ w => ∃ g4, σ 4 = .pointer (some ⟨g4, 0, none⟩) ∧ M0 ≤ g4 ∧ BoxAt w g4 #[.func (.func (fidOf at_)) #[] #[], .bool (asksB at_)] 82]

set_option maxRecDepth 100000 in
set_option maxHeartbeats 8000000 in
theorem iputStep_any (s : St) (A : Option Addr) (n cap lo hi B : Nat) (a0 a1 a2 a3 a4 a5 : Addr) (h : Hd) (w : World) (hs : RgsW lo hi w A n cap s.rs) (hh : hi ≤ w.heap.size) (hm : n ≤ 1048576) (hpn : ∀ r ∈ s.rs, r.ps.length ≤ 1048576) (hE : Snt B a0 a1 a2 a3 a4 a5 w) :
    Calls Tryz.prog 12 #[stV s A n cap, hdV h] w (RetSHBD (stepS putS putB s h) w) := by
  have HPN := Lib.hid hpn; clear hpn
  have HLN := Lib.hid hs.1
  obtain ⟨at_, v, r, t, seen, tr, sp, ag, re⟩ := h
  unfold stV hdV
  dsimp only
  go_enter Tryz.func12, Tryz.ntmps12
  go_upto_region 1 with fail
  refine wp_abs (fun W => Below w.heap.size w W ∧ BoxAt W w.heap.size #[.int .i64 s.rd, .int .i64 s.mo, .slice A n cap, .int .i64 s.fi, .int .i64 s.la] 32 ∧ BoxAt W (w.heap.size + 1) #[.int .i64 at_, .int .i64 v, .int .i64 r, .int .i64 t, .bool seen.s, .int .i64 seen.n, .bool seen.f, .int .i64 seen.v, .int .i64 tr, .int .i64 sp, .bool ag, .int .i64 re] 35 ∧ BoxAt W (w.heap.size + 1 + 1) #[.int .i64 0, .int .i64 0, .slice none 0 0, .int .i64 0, .int .i64 0] 32 ∧ BoxAt W (w.heap.size + 1 + 1 + 1) #[.int .i64 0, .int .i64 0, .int .i64 0, .int .i64 0, .bool false, .int .i64 0, .bool false, .int .i64 0, .int .i64 0, .int .i64 0, .bool false, .int .i64 0] 35) ⟨(((((Below.refl _ _).alloc (Nat.le_refl _) _).alloc (by simp) _).alloc (by simp; omega) _).alloc (by simp; omega) _), (((BoxAt.new _ _ _).alloc _).alloc _).alloc _, ((BoxAt.new' (by simp)).alloc _).alloc _, (BoxAt.new' (by simp)).alloc _, BoxAt.new' (by simp)⟩ ?_
  rintro W0 ⟨hB, hx, hy, hz, hw_⟩
  have lw0 := hw_.lt
  have hs0 := hs.below hB hh
  have kx := hx.cell
  have ky := hy.cell
  have fy := hy.frozen
  go_wp2_with fail
  clear kx ky fy
  refine (istoreOk_any s A n cap lo hi _ hs0 (Nat.le_trans hh hB.size) hm HPN.out).mono ?_
  rintro e w1 ⟨rfl, hb⟩
  replace hx := hx.below hb hx.lt
  replace hy := hy.below hb hy.lt
  replace hz := hz.below hb hz.lt
  replace hw_ := hw_.below hb hw_.lt
  have h1 := hb.size
  replace hB := bstep hB hB.size hb
  clear hb
  clear hs0
  cases hok : stOk s
  · have HV := Lib.hid (show stepS putS putB s (⟨at_, v, r, t, seen, tr, sp, ag, re⟩ : Hd) = (St.zero, Hd.zero, false) by simp [stepS, hok])
    have kz := hz.cell
    have fz := hz.frozen
    have kw := hw_.cell
    have fw := hw_.frozen
    go_wp2
    refine bodyPost_ret (v := .tuple #[stV .zero none 0 0, hdV .zero, .bool false]) (by simp [results, Tryz.results12, go_sem, kz, kw, stV, St.zero, hdV, Hd.zero]) rfl ⟨none, 0, 0, by rw [HV.out], ?_, ?_⟩
    · rw [HV.out]; exact RgsD.nil
    · exact Below.setCells (by omega) [.int .i64 0, .int .i64 0, .int .i64 0, .int .i64 0, .bool false, .int .i64 0, .bool false, .int .i64 0, .int .i64 0, .int .i64 0, .bool false, .int .i64 0] 0 (Below.setCells (by omega) [.int .i64 0, .int .i64 0, .slice none 0 0, .int .i64 0, .int .i64 0] 0 hB)
  have HOK := Lib.hid hok
  have HNT := Lib.hid (stOk_neat hok)
  clear hok
  have ky := hy.cell
  go_wp2_with fail
  clear ky
  refine (ihandOk_any (⟨at_, v, r, t, seen, tr, sp, ag, re⟩ : Hd) _).mono ?_
  rintro e w2 ⟨rfl, hb⟩
  replace hx := hx.below hb hx.lt
  replace hy := hy.below hb hy.lt
  replace hz := hz.below hb hz.lt
  replace hw_ := hw_.below hb hw_.lt
  have h2 := hb.size
  replace hB := bstep hB hB.size hb
  clear hb
  cases hho : (⟨at_, v, r, t, seen, tr, sp, ag, re⟩ : Hd).ok
  · have HV := Lib.hid (show stepS putS putB s (⟨at_, v, r, t, seen, tr, sp, ag, re⟩ : Hd) = (St.zero, Hd.zero, false) by simp [stepS, HOK.out, hho])
    have kz := hz.cell
    have fz := hz.frozen
    have kw := hw_.cell
    have fw := hw_.frozen
    go_wp2
    refine bodyPost_ret (v := .tuple #[stV .zero none 0 0, hdV .zero, .bool false]) (by simp [results, Tryz.results12, go_sem, kz, kw, stV, St.zero, hdV, Hd.zero]) rfl ⟨none, 0, 0, by rw [HV.out], ?_, ?_⟩
    · rw [HV.out]; exact RgsD.nil
    · exact Below.setCells (by omega) [.int .i64 0, .int .i64 0, .int .i64 0, .int .i64 0, .bool false, .int .i64 0, .bool false, .int .i64 0, .int .i64 0, .int .i64 0, .bool false, .int .i64 0] 0 (Below.setCells (by omega) [.int .i64 0, .int .i64 0, .slice none 0 0, .int .i64 0, .int .i64 0] 0 hB)
  have HHO := Lib.hid hho
  have hip : isPutting (⟨at_, v, r, t, seen, tr, sp, ag, re⟩ : Hd) = putB at_ := by simp [isPutting, hho]
  clear hho
  have ky := hy.cell
  go_wp2_with fail
  clear ky
  refine (iisPutting_any (⟨at_, v, r, t, seen, tr, sp, ag, re⟩ : Hd) _).mono ?_
  rintro e w3 ⟨rfl, hb⟩
  replace hx := hx.below hb hx.lt
  replace hy := hy.below hb hy.lt
  replace hz := hz.below hb hz.lt
  replace hw_ := hw_.below hb hw_.lt
  have h3 := hb.size
  replace hB := bstep hB hB.size hb
  clear hb
  rw [hip]
  clear hip
  cases hpb : putB at_
  · have HPB := Lib.hid hpb; clear hpb
    go_upto_region 4 with fail
    have HV := Lib.hid (show stepS putS putB s (⟨at_, v, r, t, seen, tr, sp, ag, re⟩ : Hd) = (s, (⟨at_, v, r, t, seen, tr, sp, ag, re⟩ : Hd), false) by simp [stepS, HOK.out, HHO.out, HPB.out])
    refine ret6 (fun W A n c => RgsD w.heap.size W.heap.size W A n c (s).rs) gD_b gD_s w false s lo hi A n cap (⟨at_, v, r, t, seen, tr, sp, ag, re⟩ : Hd) w.heap.size (w.heap.size + 1) (by kernel_rfl) (by kernel_rfl) (by kernel_rfl) (by kernel_rfl) (by kernel_rfl) (by omega) ⟨hB, hx, hy, hz, hw_, hs.below hB hh, Nat.le_trans hh hB.size⟩ ?k0 ?k1 ?k2 ?k3 ?k4 ?k5 ?hQ
    case k0 | k2 | k3 | k4 =>
      intros
      rename_i k
      have kc_ := k.cell
      have kf_ := k.frozen
      refine OpGoes.step fun K hK => ?_
      unfold OpGoes
      go_simp
      first | exact hK _ _ ⟨rfl, rfl⟩ | exact hK _ _ rfl
    case k5 =>
      intros
      refine OpGoes.step fun K hK => ?_
      unfold OpGoes
      go_simp
      exact hK _ _ ⟨rfl, rfl⟩
    case k1 =>
      intro W' hBW hGW hhW
      refine OpGoes.step fun K hK => ?_
      unfold OpGoes
      go_simp
      refine (icopy_any s A n cap lo hi _ hGW hhW (by have := HNT.out.1; have := HLN.out; omega) (by have := HNT.out.2.1; have := HLN.out; omega) HNT.out.cp).mono ?_
      rintro e w9 ⟨b9, c9, rfl, hD, hb9⟩
      exact ⟨_, rfl, hK _ _ ⟨_, _, _, rfl, hD.mono hBW.size (Nat.le_refl _), hb9⟩⟩
    case hQ =>
      clear hB hx hy hz hw_
      intro σ W' A9 n9 c9 e5 hB k7 k8 hD
      replace k7 := k7.cell
      replace k8 := k8.cell
      simp only [lexAll]
      go_simp
      go_step
      go_wp2
      refine bodyPost_ret (v := .tuple #[stV s A9 n9 c9, hdV (⟨at_, v, r, t, seen, tr, sp, ag, re⟩ : Hd), .bool false]) (by simp [results, Tryz.results12, go_sem, k7, k8, stV, hdV]) rfl ⟨A9, n9, c9, by rw [HV.out], ?_, hB⟩
      rw [HV.out]
      exact hD
  have HPB := Lib.hid hpb
  have HC12 := Lib.hid (show at_ = 1 ∨ at_ = 2 ∨ at_ = 3 ∨ at_ = 4 ∨ at_ = 5 ∨ at_ = 6 ∨ at_ = 7 ∨ at_ = 8 ∨ at_ = 9 ∨ at_ = 10 ∨ at_ = 11 ∨ at_ = 12 by
    simp only [putB, inB, Bool.and_eq_true, decide_eq_true_eq] at hpb
    omega)
  clear hpb
  obtain ⟨M0, hMe⟩ : ∃ M0, M0 = w3.heap.size := ⟨_, rfl⟩
  have hM0 : M0 ≤ w3.heap.size := by omega
  have hM4 : w.heap.size + 4 ≤ M0 := by have := hw_.lt; omega
  clear hMe
  go_upto_region 5 with fail
  go_cut [7] (fun u7 W' => Below w.heap.size w W' ∧ BoxAt W' w.heap.size #[.int .i64 s.rd, .int .i64 s.mo, .slice A n cap, .int .i64 s.fi, .int .i64 s.la] 32 ∧ BoxAt W' (w.heap.size + 1) #[.int .i64 at_, .int .i64 v, .int .i64 r, .int .i64 t, .bool seen.s, .int .i64 seen.n, .bool seen.f, .int .i64 seen.v, .int .i64 tr, .int .i64 sp, .bool ag, .int .i64 re] 35 ∧ BoxAt W' (w.heap.size + 1 + 1) #[.int .i64 0, .int .i64 0, .slice none 0 0, .int .i64 0, .int .i64 0] 32 ∧ BoxAt W' (w.heap.size + 1 + 1 + 1) #[.int .i64 0, .int .i64 0, .int .i64 0, .int .i64 0, .bool false, .int .i64 0, .bool false, .int .i64 0, .int .i64 0, .int .i64 0, .bool false, .int .i64 0] 35 ∧ M0 ≤ W'.heap.size ∧ ∃ X, M0 ≤ X ∧ BoxAt W' X #[.func (.func (fidOf at_)) #[] #[], .bool (asksB at_)] 82 ∧ u7 = .pointer (some ⟨X, 0, none⟩))
  case first =>
    refine wp_region2v (fun w w' => Below w.heap.size w w') (fun _ _ h => h.size) (fun _ => Below.refl _ _) (fun L W' => Below w.heap.size w W' ∧ BoxAt W' w.heap.size #[.int .i64 s.rd, .int .i64 s.mo, .slice A n cap, .int .i64 s.fi, .int .i64 s.la] 32 ∧ BoxAt W' (w.heap.size + 1) #[.int .i64 at_, .int .i64 v, .int .i64 r, .int .i64 t, .bool seen.s, .int .i64 seen.n, .bool seen.f, .int .i64 seen.v, .int .i64 tr, .int .i64 sp, .bool ag, .int .i64 re] 35 ∧ BoxAt W' (w.heap.size + 1 + 1) #[.int .i64 0, .int .i64 0, .slice none 0 0, .int .i64 0, .int .i64 0] 32 ∧ BoxAt W' (w.heap.size + 1 + 1 + 1) #[.int .i64 0, .int .i64 0, .int .i64 0, .int .i64 0, .bool false, .int .i64 0, .bool false, .int .i64 0, .int .i64 0, .int .i64 0, .bool false, .int .i64 0] 35 ∧ M0 ≤ W'.heap.size) (ipAV s w.heap.size M0 n cap A at_ v r t seen tr sp ag re) (fun j => [0, 0, 0, 0, 2, 1].getD j 0) [(5, 4)] (by kernel_rfl) (by kernel_rfl) ?_ ?_ ?_
      (.grow rfl ?a0 <| .still rfl ?a1 <| .still rfl ?a2 <| .grow rfl ?a3 <| .make rfl ?a4 <| .store rfl ?a5 <| .nil) ?_ ?_
    · exact ⟨fun _ _ _ h ⟨g, e, hp⟩ => ⟨g, (h 4 (List.mem_singleton.2 rfl)).symm.trans e, hp⟩, fun _ _ _ h ⟨g, e, hp⟩ => ⟨g, (h 4 (List.mem_singleton.2 rfl)).symm.trans e, hp⟩, trivial⟩
    · exact ⟨fun σ w w' hb ⟨g, e, hg, x0, x1, hx⟩ => ⟨g, e, hg, x0, x1, hx.below hb hx.lt⟩, fun σ w w' hb ⟨g, e, hg, hx⟩ => ⟨g, e, hg, hx.below hb hx.lt⟩, trivial⟩
    · exact ⟨hB.drew, hx, hy, hz, hw_, hM0⟩
    case a1 =>
      go_light
      intro L σ W' hcl hL hC hw
      clear hw hcl hL hC
      refine OpGoes.step fun K hK => ?_
      unfold OpGoes
      go_simp
      exact hK _ _ ⟨rfl, rfl⟩
    case a2 =>
      go_light
      intro L σ W' hcl hL hC hw
      have e1 := wV hw 1 rfl
      have kh := hC.2.2.1.cell
      clear hw hcl hL hC
      refine OpGoes.step fun K hK => ?_
      unfold OpGoes
      go_simp
      exact hK _ _ ⟨rfl, rfl⟩
    case a0 =>
      go_light
      intro L σ W' hcl hL hC hw
      clear hw
      have HC := Lib.hid hC
      clear hC
      clear hcl hL
      refine OpGoes.step fun K hK => ?_
      unfold OpGoes
      go_simp
      obtain ⟨hB, hx, hy, hz, hw_, hM0⟩ := HC.out
      refine (iputSteps_any _).mono ?_
      rintro e w1 ⟨rfl, hb1⟩
      exact ⟨_, rfl, hK _ _ ⟨⟨bstep hB hB.size hb1, hx.below hb1 hx.lt, hy.below hb1 hy.lt, hz.below hb1 hz.lt, hw_.below hb1 hw_.lt, Nat.le_trans hM0 hb1.size⟩, rfl, hb1⟩⟩
    case a3 =>
      go_light
      intro L σ W' hcl hL hC hw
      have e0 := wV hw 0 rfl
      have e2 := wV hw 2 rfl
      clear hw
      obtain ⟨hB, hx, hy, hz, hw_, hM0⟩ := hC
      clear hcl hL
      have hc12 := HC12.out
      refine OpGoes.step fun K hK => ?_
      rcases hc12 with h | h | h | h | h | h | h | h | h | h | h | h <;> (subst h; unfold OpGoes; go_simp; exact hK _ _ ⟨⟨hB, hx, hy, hz, hw_, hM0⟩, rfl, Below.refl _ _⟩)
    case a4 =>
      go_light
      intro L σ W' hcl hL hC hw
      clear hw
      have HC := Lib.hid hC
      clear hC
      clear hcl hL
      refine OpGoes.step fun K hK => ?_
      unfold OpGoes
      go_simp
      obtain ⟨hB, hx, hy, hz, hw_, hM0⟩ := HC.out
      have hb1 : Below W'.heap.size W' (W'.alloc (.cells #[.nilFunc, .bool false] 82)) := (Below.refl _ _).alloc (Nat.le_refl _) _
      exact hK _ _ ⟨⟨bstep hB hB.size hb1, hx.below hb1 hx.lt, hy.below hb1 hy.lt, hz.below hb1 hz.lt, hw_.below hb1 hw_.lt, Nat.le_trans hM0 hb1.size⟩, ⟨_, rfl, hM0, _, _, BoxAt.new _ _ _⟩, hb1, rfl, by simp⟩
    case a5 =>
      go_light
      intro L σ W' hcl hL hC hw hne
      have e3 := wV hw 3 rfl
      obtain ⟨g4, e4, hg4, x0, x1, hbox4⟩ := wE hw 4 rfl
      clear hw hne
      have HC := Lib.hid hC
      clear hC
      clear hcl hL
      have kc_ := hbox4.cell
      have kf_ := hbox4.frozen
      refine OpGoes.step fun K hK => ?_
      unfold OpGoes
      go_simp
      obtain ⟨hB, hx, hy, hz, hw_, hM0⟩ := HC.out
      have hset := ((hbox4.set 0 (.func (.func (fidOf at_)) #[] #[])).set 1 (.bool (asksB at_)))
      simp only [List.setIfInBounds_toArray, List.set_cons_zero, List.set_cons_succ] at hset
      refine hK _ _ ⟨⟨((hB.setCell (by dsimp only; omega) _).setCell (by dsimp only; omega) _), ((hx.set_ne (by omega) _ _).set_ne (by omega) _ _), ((hy.set_ne (by omega) _ _).set_ne (by omega) _ _), ((hz.set_ne (by omega) _ _).set_ne (by omega) _ _), ((hw_.set_ne (by omega) _ _).set_ne (by omega) _ _), (size_st (size_st hM0))⟩, ⟨g4, e4, hg4, hset⟩, by simp, keepV ?_⟩
      exact ⟨fun _ _ _ => ⟨g4, e4, hg4, _, _, hset⟩, fun h => absurd rfl h, trivial⟩
    · intro L L' W' hLL hC
      obtain ⟨hB, hx, hy, hz, hw_, hM0⟩ := hC
      exact ⟨hB, hx, hy, hz, hw_, hM0⟩
    · intro σ L W' hall hC hRR
      obtain ⟨hB, hx, hy, hz, hw_, hM0⟩ := hC
      obtain ⟨g4, e4, hg5, s5⟩ := dE hRR 5 rfl
      clear hRR
      simp only [lexAll]
      go_simp
      go_step
      go_meet
      exact ⟨hB, hx, hy, hz, hw_, hM0, g4, hg5, s5, rfl⟩
  case rest =>
    clear hB hx hy hz hw_ hM0
    obtain ⟨hB, hx, hy, hz, hw_, hM0, X, hXM, hX, rfl⟩ := hcut
    go_upto_region 6 with fail
    go_cut [50] (fun u W' => Below w.heap.size w W' ∧ BoxAt W' w.heap.size #[.int .i64 s.rd, .int .i64 s.mo, .slice A n cap, .int .i64 s.fi, .int .i64 s.la] 32 ∧ BoxAt W' (w.heap.size + 1) #[.int .i64 at_, .int .i64 v, .int .i64 r, .int .i64 t, .bool seen.s, .int .i64 seen.n, .bool seen.f, .int .i64 seen.v, .int .i64 tr, .int .i64 sp, .bool ag, .int .i64 re] 35 ∧ BoxAt W' (w.heap.size + 1 + 1) #[.int .i64 0, .int .i64 0, .slice none 0 0, .int .i64 0, .int .i64 0] 32 ∧ BoxAt W' (w.heap.size + 1 + 1 + 1) #[.int .i64 0, .int .i64 0, .int .i64 0, .int .i64 0, .bool false, .int .i64 0, .bool false, .int .i64 0, .int .i64 0, .int .i64 0, .bool false, .int .i64 0] 35 ∧ BoxAt W' X #[.func (.func (fidOf at_)) #[] #[], .bool (asksB at_)] 82 ∧ u = .bool (blkB s at_ r sp))
    case first =>
      have kx := hx.cell
      have ky := hy.cell
      go_wp2_with fail
      clear kx ky
      refine (hasRing_any s A n cap r _ HLN.out hm).mono ?_
      rintro e w4 ⟨rfl, hb⟩
      replace hX := hX.below hb hX.lt
      replace hx := hx.below hb hx.lt
      replace hy := hy.below hb hy.lt
      replace hz := hz.below hb hz.lt
      replace hw_ := hw_.below hb hw_.lt
      have h4 := hb.size
      replace hB := bstep hB hB.size hb
      clear hb
      cases hrb : ringB s r
      · go_wp2_with fail
        go_meet
        exact ⟨hB, hx, hy, hz, hw_, hX, by simp [blkB, hrb]⟩
      · have kX := hX.cell
        have ky := hy.cell
        cases hak : asksB at_
        · rw [hak] at kX
          go_wp2_with fail
          go_meet
          exact ⟨hB, hx, hy, hz, hw_, hX, by simp [blkB, hrb, hak]⟩
        · rw [hak] at kX
          by_cases hs1 : sp = -1
          · have hs2 : (sp != -1) = false := by simp [hs1]
            clear hs1
            go_wp2_with fail
            go_meet
            exact ⟨hB, hx, hy, hz, hw_, hX, by simp [blkB, hrb, hak, hs2]⟩
          · have hs2 : (sp != -1) = true := by simp [hs1]
            have kx := hx.cell
            go_wp2_with fail
            clear kx ky kX
            refine (hasRing_any s A n cap sp _ HLN.out hm).mono ?_
            rintro e w5 ⟨rfl, hb⟩
            replace hX := hX.below hb hX.lt
            replace hx := hx.below hb hx.lt
            replace hy := hy.below hb hy.lt
            replace hz := hz.below hb hz.lt
            replace hw_ := hw_.below hb hw_.lt
            have h5 := hb.size
            replace hB := bstep hB hB.size hb
            clear hb
            go_wp2_with fail
            go_meet
            exact ⟨hB, hx, hy, hz, hw_, hX, by simp [blkB, hrb, hak, hs2]⟩
    case rest =>
      clear hB hx hy hz hw_ hX
      obtain ⟨hB, hx, hy, hz, hw_, hX, rfl⟩ := hcut
      cases hbl : blkB s at_ r sp
      rotate_left
      · have HBL := Lib.hid hbl; clear hbl
        go_upto_region 7 with fail
        have HV := Lib.hid (show stepS putS putB s (⟨at_, v, r, t, seen, tr, sp, ag, re⟩ : Hd) = (s, (⟨at_, v, r, t, seen, tr, sp, ag, re⟩ : Hd), false) by exact stepS_blk (h := (⟨at_, v, r, t, seen, tr, sp, ag, re⟩ : Hd)) HOK.out HHO.out HPB.out HBL.out)
        refine ret6 (fun W A n c => RgsD w.heap.size W.heap.size W A n c (s).rs) gD_b gD_s w false s lo hi A n cap (⟨at_, v, r, t, seen, tr, sp, ag, re⟩ : Hd) w.heap.size (w.heap.size + 1) (by kernel_rfl) (by kernel_rfl) (by kernel_rfl) (by kernel_rfl) (by kernel_rfl) (by omega) ⟨hB, hx, hy, hz, hw_, hs.below hB hh, Nat.le_trans hh hB.size⟩ ?k0 ?k1 ?k2 ?k3 ?k4 ?k5 ?hQ
        case k0 | k2 | k3 | k4 =>
          intros
          rename_i k
          have kc_ := k.cell
          have kf_ := k.frozen
          refine OpGoes.step fun K hK => ?_
          unfold OpGoes
          go_simp
          first | exact hK _ _ ⟨rfl, rfl⟩ | exact hK _ _ rfl
        case k5 =>
          intros
          refine OpGoes.step fun K hK => ?_
          unfold OpGoes
          go_simp
          exact hK _ _ ⟨rfl, rfl⟩
        case k1 =>
          intro W' hBW hGW hhW
          refine OpGoes.step fun K hK => ?_
          unfold OpGoes
          go_simp
          refine (icopy_any s A n cap lo hi _ hGW hhW (by have := HNT.out.1; have := HLN.out; omega) (by have := HNT.out.2.1; have := HLN.out; omega) HNT.out.cp).mono ?_
          rintro e w9 ⟨b9, c9, rfl, hD, hb9⟩
          exact ⟨_, rfl, hK _ _ ⟨_, _, _, rfl, hD.mono hBW.size (Nat.le_refl _), hb9⟩⟩
        case hQ =>
          clear hB hx hy hz hw_ hX
          intro σ W' A9 n9 c9 e5 hB k7 k8 hD
          replace k7 := k7.cell
          replace k8 := k8.cell
          simp only [lexAll]
          go_simp
          go_step
          go_wp2
          refine bodyPost_ret (v := .tuple #[stV s A9 n9 c9, hdV (⟨at_, v, r, t, seen, tr, sp, ag, re⟩ : Hd), .bool false]) (by simp [results, Tryz.results12, go_sem, k7, k8, stV, hdV]) rfl ⟨A9, n9, c9, by rw [HV.out], ?_, hB⟩
          rw [HV.out]
          exact hD
      obtain ⟨hrb, hsp⟩ := blk_no hbl
      clear hbl
      obtain ⟨q, hq⟩ : ∃ q, PH (putS s (⟨at_, v, r, t, seen, tr, sp, ag, re⟩ : Hd)) = q := ⟨_, rfl⟩
      have HST := Lib.hid (show ∀ W : World, Below w.heap.size w W → Calls Tryz.prog (fidOf at_) #[stV s A n cap, hdV (⟨at_, v, r, t, seen, tr, sp, ag, re⟩ : Hd)] W (RetSH q W) from fun W hBW => by
        have := ips_any s A n cap lo hi B a0 a1 a2 a3 a4 a5 (⟨at_, v, r, t, seen, tr, sp, ag, re⟩ : Hd) W (hs.below hBW hh) (Nat.le_trans hh hBW.size) HOK.out hrb (hE.below hBW) HHO.out HPB.out hsp
        rw [hq] at this
        exact this)
      unfold stV hdV at HST
      have HSP := Lib.hid (show stepS putS putB s (⟨at_, v, r, t, seen, tr, sp, ag, re⟩ : Hd) = if q.2.ok then (q.1, q.2, true) else (s, (⟨at_, v, r, t, seen, tr, sp, ag, re⟩ : Hd), false) by
        have := stepS_put (h := (⟨at_, v, r, t, seen, tr, sp, ag, re⟩ : Hd)) HOK.out HHO.out HPB.out hrb hsp
        rw [this, ← hq]
        rfl)
      have HQO := Lib.hid (show stOk q.1 = true by rw [← hq]; exact (putS_ok (h := (⟨at_, v, r, t, seen, tr, sp, ag, re⟩ : Hd)) HOK.out HHO.out HPB.out hsp).1)
      clear hrb hsp hq
      go_upto_region 8 with fail
      go_cut [8, 9] (fun u8 u9 W' => Below w.heap.size w W' ∧ BoxAt W' w.heap.size #[.int .i64 s.rd, .int .i64 s.mo, .slice A n cap, .int .i64 s.fi, .int .i64 s.la] 32 ∧ BoxAt W' (w.heap.size + 1) #[.int .i64 at_, .int .i64 v, .int .i64 r, .int .i64 t, .bool seen.s, .int .i64 seen.n, .bool seen.f, .int .i64 seen.v, .int .i64 tr, .int .i64 sp, .bool ag, .int .i64 re] 35 ∧ BoxAt W' (w.heap.size + 1 + 1) #[.int .i64 0, .int .i64 0, .slice none 0 0, .int .i64 0, .int .i64 0] 32 ∧ BoxAt W' (w.heap.size + 1 + 1 + 1) #[.int .i64 0, .int .i64 0, .int .i64 0, .int .i64 0, .bool false, .int .i64 0, .bool false, .int .i64 0, .int .i64 0, .int .i64 0, .bool false, .int .i64 0] 35 ∧ ∃ (X2 Y2 : Nat) (A5 : Option Addr) (n5 c5 : Nat), M0 ≤ X2 ∧ M0 ≤ Y2 ∧ BoxAt W' X2 #[.int .i64 q.1.rd, .int .i64 q.1.mo, .slice A5 n5 c5, .int .i64 q.1.fi, .int .i64 q.1.la] 32 ∧ BoxAt W' Y2 #[.int .i64 q.2.at_, .int .i64 q.2.v, .int .i64 q.2.r, .int .i64 q.2.t, .bool q.2.seen.s, .int .i64 q.2.seen.n, .bool q.2.seen.f, .int .i64 q.2.seen.v, .int .i64 q.2.tr, .int .i64 q.2.sp, .bool q.2.ag, .int .i64 q.2.re] 35 ∧ RgsW 0 W'.heap.size W' A5 n5 c5 q.1.rs ∧ u8 = .pointer (some ⟨X2, 0, none⟩) ∧ u9 = .pointer (some ⟨Y2, 0, none⟩))
      case first =>
        have hc12 := HC12.out
        have kX := hX.cell
        have kx := hx.cell
        have ky := hy.cell
        have lX := hX.lt
        rcases hc12 with h | h | h | h | h | h | h | h | h | h | h | h
        all_goals
          subst h
          go_wp2_with fail
          refine (HST.out _ hB).mono ?_
          rintro e w6 ⟨A5, n5, c5, rfl, hG5, hb6⟩
          clear kX kx ky
          unfold stV hdV
          go_wp2_with fail
          go_meet
          have h6 := hb6.size
          exact ⟨((bstep hB hB.size hb6).alloc (Nat.le_trans hB.size hb6.size) _).alloc (by simp; have := hB.size; omega) _, ((hx.below hb6 hx.lt).alloc _).alloc _, ((hy.below hb6 hy.lt).alloc _).alloc _, ((hz.below hb6 hz.lt).alloc _).alloc _, ((hw_.below hb6 hw_.lt).alloc _).alloc _, w6.heap.size, w6.heap.size + 1, A5, n5, c5, by omega, by omega, (BoxAt.new _ _ _).alloc _, BoxAt.new' (by simp), ((hG5.al (Nat.le_refl _) _).al (by simp) _).mono (Nat.le_refl _) (by simp; omega), rfl, rfl⟩
      case rest =>
        clear hB hx hy hz hw_ hX
        obtain ⟨hB, hx, hy, hz, hw_, X2, Y2, A5, n5, c5, hX2, hY2, hX, hY, hG, rfl, rfl⟩ := hcut
        have ky := hY.cell
        go_wp2_with fail
        clear ky
        refine (ihandOk_any q.2 _).mono ?_
        rintro e w7 ⟨rfl, hb⟩
        replace hX := hX.below hb hX.lt
        replace hY := hY.below hb hY.lt
        replace hG := (hG.below hb (Nat.le_refl _)).mono (Nat.le_refl _) hb.size
        replace hx := hx.below hb hx.lt
        replace hy := hy.below hb hy.lt
        replace hz := hz.below hb hz.lt
        replace hw_ := hw_.below hb hw_.lt
        have h7 := hb.size
        replace hB := bstep hB hB.size hb
        clear hb
        cases hqo : q.2.ok
        · have HQK := Lib.hid hqo; clear hqo
          go_upto_region 10 with fail
          have HV := Lib.hid (show stepS putS putB s (⟨at_, v, r, t, seen, tr, sp, ag, re⟩ : Hd) = (s, (⟨at_, v, r, t, seen, tr, sp, ag, re⟩ : Hd), false) by rw [HSP.out, HQK.out]; rfl)
          refine ret6 (fun W A n c => RgsD w.heap.size W.heap.size W A n c (s).rs) gD_b gD_s w false s lo hi A n cap (⟨at_, v, r, t, seen, tr, sp, ag, re⟩ : Hd) w.heap.size (w.heap.size + 1) (by kernel_rfl) (by kernel_rfl) (by kernel_rfl) (by kernel_rfl) (by kernel_rfl) (by omega) ⟨hB, hx, hy, hz, hw_, hs.below hB hh, Nat.le_trans hh hB.size⟩ ?k0 ?k1 ?k2 ?k3 ?k4 ?k5 ?hQ
          case k0 | k2 | k3 | k4 =>
            intros
            rename_i k
            have kc_ := k.cell
            have kf_ := k.frozen
            refine OpGoes.step fun K hK => ?_
            unfold OpGoes
            go_simp
            first | exact hK _ _ ⟨rfl, rfl⟩ | exact hK _ _ rfl
          case k5 =>
            intros
            refine OpGoes.step fun K hK => ?_
            unfold OpGoes
            go_simp
            exact hK _ _ ⟨rfl, rfl⟩
          case k1 =>
            intro W' hBW hGW hhW
            refine OpGoes.step fun K hK => ?_
            unfold OpGoes
            go_simp
            refine (icopy_any s A n cap lo hi _ hGW hhW (by have := HNT.out.1; have := HLN.out; omega) (by have := HNT.out.2.1; have := HLN.out; omega) HNT.out.cp).mono ?_
            rintro e w9 ⟨b9, c9, rfl, hD, hb9⟩
            exact ⟨_, rfl, hK _ _ ⟨_, _, _, rfl, hD.mono hBW.size (Nat.le_refl _), hb9⟩⟩
          case hQ =>
            clear hB hx hy hz hw_ hX hY hG
            intro σ W' A9 n9 c9 e5 hB k7 k8 hD
            replace k7 := k7.cell
            replace k8 := k8.cell
            simp only [lexAll]
            go_simp
            go_step
            go_wp2
            refine bodyPost_ret (v := .tuple #[stV s A9 n9 c9, hdV (⟨at_, v, r, t, seen, tr, sp, ag, re⟩ : Hd), .bool false]) (by simp [results, Tryz.results12, go_sem, k7, k8, stV, hdV]) rfl ⟨A9, n9, c9, by rw [HV.out], ?_, hB⟩
            rw [HV.out]
            exact hD
        · have HQK := Lib.hid hqo; clear hqo
          have HQN := Lib.hid (stOk_neat HQO.out)
          go_upto_region 11 with fail
          have HV := Lib.hid (show stepS putS putB s (⟨at_, v, r, t, seen, tr, sp, ag, re⟩ : Hd) = (q.1, q.2, true) by rw [HSP.out, HQK.out]; rfl)
          refine ret6 (fun W A n c => RgsD w.heap.size W.heap.size W A n c (q.1).rs) gD_b gD_s w true q.1 0 w7.heap.size A5 n5 c5 q.2 X2 Y2 (by kernel_rfl) (by kernel_rfl) (by kernel_rfl) (by kernel_rfl) (by kernel_rfl) (by omega) ⟨hB, hX, hY, hz, hw_, hG, Nat.le_refl _⟩ ?k0 ?k1 ?k2 ?k3 ?k4 ?k5 ?hQ
          case k0 | k2 | k3 | k4 =>
            intros
            rename_i k
            have kc_ := k.cell
            have kf_ := k.frozen
            refine OpGoes.step fun K hK => ?_
            unfold OpGoes
            go_simp
            first | exact hK _ _ ⟨rfl, rfl⟩ | exact hK _ _ rfl
          case k5 =>
            intros
            refine OpGoes.step fun K hK => ?_
            unfold OpGoes
            go_simp
            exact hK _ _ ⟨rfl, rfl⟩
          case k1 =>
            intro W' hBW hGW hhW
            refine OpGoes.step fun K hK => ?_
            unfold OpGoes
            go_simp
            refine (icopy_any q.1 A5 n5 c5 0 w7.heap.size _ hGW hhW (by have := HQN.out.1; have := hGW.1; omega) (by have := HQN.out.2.1; have := hGW.1; omega) HQN.out.cp).mono ?_
            rintro e w9 ⟨b9, c9, rfl, hD, hb9⟩
            exact ⟨_, rfl, hK _ _ ⟨_, _, _, rfl, hD.mono hBW.size (Nat.le_refl _), hb9⟩⟩
          case hQ =>
            clear hB hx hy hz hw_ hX hY hG
            intro σ W' A9 n9 c9 e5 hB k7 k8 hD
            replace k7 := k7.cell
            replace k8 := k8.cell
            simp only [lexAll]
            go_simp
            go_step
            go_wp2
            refine bodyPost_ret (v := .tuple #[stV q.1 A9 n9 c9, hdV q.2, .bool true]) (by simp [results, Tryz.results12, go_sem, k7, k8, stV, hdV]) rfl ⟨A9, n9, c9, by rw [HV.out], ?_, hB⟩
            rw [HV.out]
            exact hD

end Go.Proofs.YtaieigdnfdnnpaaGreatDoor


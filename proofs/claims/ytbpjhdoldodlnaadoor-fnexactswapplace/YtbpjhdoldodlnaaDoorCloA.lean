/-
  A change of one ring, of the program.
-/
import Derived.Test.YtbpjhdoldodlnaaDoorDonA
namespace Go.Proofs.YtbpjhdoldodlnaaDoor
open Go.RowKit
set_option linter.unusedVariables false
attribute [local go_sem] OpUpon
attribute [local go_sem ↓] Go.wp_at_zero Go.wp_at_succ

theorem Till.drewN {M T : Nat} {a b : World} (h : Till M T a b) (n : Nat) : Till M T a (b.drewN n) := ⟨h.os, h.tape, h.output, h.size, h.block⟩
theorem ChPost.ret {c : St → Option St} {s : St} {a0 : Addr} {B X M T : Nat} {K : World → Prop} {w : World} {e : Ending} {w' : World} (h : ChPost c s a0 B X M T K w e w') : ∃ v, e = .returned v := by
  unfold ChPost at h
  have h2 := h.2
  cases hc : c s with
  | none => rw [hc] at h2; obtain ⟨a, _, _, h, _⟩ := h2; exact ⟨_, h⟩
  | some t => rw [hc] at h2; exact ⟨_, h2.1⟩
theorem ChPost.from {c : St → Option St} {s : St} {a0 : Addr} {B X M T : Nat} {K : World → Prop} {w w1 : World} {e : Ending} {w' : World} (ht : Till M T w w1) (h : ChPost c s a0 B X M T K w1 e w') : ChPost c s a0 B X M T K w e w' := by
  unfold ChPost at h ⊢
  exact ⟨ht.trans h.1, h.2⟩
theorem ChPost.size {c : St → Option St} {s : St} {a0 : Addr} {B X M T : Nat} {K : World → Prop} {w : World} {e : Ending} {w' : World} (h : ChPost c s a0 B X M T K w e w') : w.heap.size ≤ w'.heap.size := h.1.size
theorem ChPost.mkNo {c : St → Option St} {s : St} {a0 : Addr} {B X M T : Nat} {K : World → Prop} {w w' : World} {a : Addr} (hc : c s = none) (ht : Till M T w w') (hne : a ≠ a0) (hl : a.block < B) (hx : ExBox w' a) : ChPost c s a0 B X M T K w (.returned (.iface 153 (.pointer (some a)))) w' := by
  unfold ChPost
  rw [hc]
  obtain ⟨cs, t, hx⟩ := hx
  exact ⟨ht, a, cs, t, rfl, hne, hx, hl⟩
theorem ChPost.mkYes {c : St → Option St} {s t : St} {a0 : Addr} {B X M T : Nat} {K : World → Prop} {w w' : World} (hc : c s = some t) (ht : Till M T w w') (hk : K w') {b n cap : Nat} (hX : BoxAt w' X (sC t (some ⟨b, 0, none⟩) n cap) 28) (hR : RgsD M w'.heap.size w' (some ⟨b, 0, none⟩) n cap t.rs) : ChPost c s a0 B X M T K w (.returned .nilIface) w' := by
  unfold ChPost
  rw [hc]
  exact ⟨ht, rfl, hk, b, n, cap, hX, hR⟩

/-- One number or flag of a ring turned. -/
theorem RgsD.turn1 {M X : Nat} {W : World} {b n m : Nat} {L : List Rg} (h : RgsD M X W (some ⟨b, 0, none⟩) n m L) {i : Nat} {r r' : Rg} (hr : L[i]? = some r) (hps : r'.ps = r.ps) {j : Nat} {u : Value} (hj : j < 5)
    (hcs : ∀ a : Rw, a.h = r.h → a.t = r.t → a.c = r.c → a.x = r.x → a.cs.set j u = (⟨r'.h, r'.t, r'.c, r'.x, a.A, a.n, a.cap⟩ : Rw).cs) :
    RgsD M X (W.setCell ⟨b, i * 5 + j, none⟩ u) (some ⟨b, 0, none⟩) n m (L.set i r') := by
  have hi : i < n := by have := (List.getElem?_eq_some_iff.1 hr).1; have := h.1; omega
  obtain ⟨b', rows, e, hb, ho, hd⟩ := h.2 (by omega)
  injection e with e
  injection e with e
  subst e
  have hil : i < rows.length := by have := ho.1; omega
  have ha : rows[i]? = some rows[i] := List.getElem?_eq_getElem hil
  obtain ⟨r0, hr0, h1, h2, h3, h4, g, hg, hh, hp⟩ := hd.1 i _ ha
  obtain rfl : r = r0 := by rw [hr] at hr0; injection hr0
  obtain ⟨cb, hbx⟩ := own_box ho
  obtain ⟨cg, hbg⟩ := own_box hp
  refine ⟨by simpa using h.1, fun _ => ⟨b, rows.set i ⟨r'.h, r'.t, r'.c, r'.x, rows[i].A, rows[i].n, rows[i].cap⟩, rfl, hb, Own.set1 ho Rw.cs_len ha hj (hcs _ h1 h2 h3 h4), ?_⟩⟩
  have := hd.turn (w' := W.setCell ⟨b, i * 5 + j, none⟩ u) ha hr hg (h' := r'.h) (t' := r'.t) (x' := r'.x) (c' := r'.c) (ps' := r'.ps) (fun k cs hk _ => Below.heap_setCell W ⟨b, i * 5 + j, none⟩ u k (box_ne hk hbx (by decide))) (by rw [hps]; exact Own.set_ne hp (box_ne hbg hbx (by decide)) _ _)
  exact this
theorem RgsD.ring {M X : Nat} {W : World} {b n m : Nat} {L : List Rg} (h : RgsD M X W (some ⟨b, 0, none⟩) n m L) {i : Nat} {r : Rg} (hr : L[i]? = some r) :
    M ≤ b ∧ b < X ∧ (∃ cs, BoxAt W b cs 55) ∧ W.cell? ⟨b, i * 5, none⟩ = some (.int .i64 r.h) ∧ W.cell? ⟨b, i * 5 + 1, none⟩ = some (.int .i64 r.t) ∧ W.cell? ⟨b, i * 5 + 2, none⟩ = some (.bool r.c) ∧ W.cell? ⟨b, i * 5 + 3, none⟩ = some (.int .i64 r.x) ∧ (∀ o, W.frozen? ⟨b, o, none⟩ = false) ∧
    ∃ g k c, W.cell? ⟨b, i * 5 + 4, none⟩ = some (.slice (some ⟨g, 0, none⟩) k c) ∧ M ≤ g ∧ g < X ∧ PlsO M W g k c r.ps := by
  have hi : i < n := by have := (List.getElem?_eq_some_iff.1 hr).1; have := h.1; omega
  obtain ⟨b', rows, e, hb, ho, hd⟩ := h.2 (by omega)
  injection e with e
  injection e with e
  subst e
  have hil : i < rows.length := by have := ho.1; omega
  have ha : rows[i]? = some rows[i] := List.getElem?_eq_getElem hil
  obtain ⟨r0, hr0, h1, h2, h3, h4, g, hg, hh, hp⟩ := hd.1 i _ ha
  obtain rfl : r = r0 := by rw [hr] at hr0; injection hr0
  obtain ⟨d0, d1, d2, d3, d4⟩ := rws_at ho ha
  rw [h1] at d0
  rw [h2] at d1
  rw [h3] at d2
  rw [h4] at d3
  rw [hg] at d4
  exact ⟨ho.2.1, hb, own_box ho, d0, d1, d2, d3, Own.frozen_ ho, g, _, _, d4, hp.ge, hh, hp⟩

/-- changeSeen: another one was seen. -/
theorem ichangeSeen_no (k o : Nat) (x seen y : Int) (a : Addr) (w : World) (hc : w.cell? ⟨k, o, none⟩ = some (.int .i64 x)) (hg : CellIs w 5 (.iface 153 (.pointer (some a)))) (hne : (x != seen) = true) :
    Calls Tryd.prog 53 #[.pointer (some ⟨k, o, none⟩), .int .i64 seen, .int .i64 y] w (fun e w' => e = .returned (.iface 153 (.pointer (some a))) ∧ w' = w) := by
  unfold CellIs at hg
  have h1 : ¬ x = seen := by simpa using hne
  go_enter Tryd.func53, Tryd.ntmps53
  go_wp2
  go_ret
  exact ⟨rfl, rfl⟩
theorem ichangeSeen_yes (k o : Nat) (x y : Int) (w : World) (hc : w.cell? ⟨k, o, none⟩ = some (.int .i64 x)) (hf : w.frozen? ⟨k, o, none⟩ = false) :
    Calls Tryd.prog 53 #[.pointer (some ⟨k, o, none⟩), .int .i64 x, .int .i64 y] w (fun e w' => e = .returned .nilIface ∧ w' = w.setCell ⟨k, o, none⟩ (.int .i64 y)) := by
  go_enter Tryd.func53, Tryd.ntmps53
  go_wp2
  go_ret
  exact ⟨rfl, rfl⟩

/-- onRing hands back a change of the store out of one of a ring. -/
theorem ionRing_any (z : Int) (f : FuncId) (cs : List Value) (w : World) :
    Calls Tryd.prog 48 #[.int .i64 z, .func (.func f) #[] cs.toArray] w (fun e w' => e = .returned (.func (.func 74) #[] #[.pointer (some ⟨w.heap.size, 0, none⟩), .pointer (some ⟨w.heap.size + 1, 0, none⟩)]) ∧ BoxAt w' w.heap.size #[.int .i64 z] 2 ∧ BoxAt w' (w.heap.size + 1) #[.func (.func f) #[] cs.toArray] 73 ∧ w'.heap.size = w.heap.size + 2 ∧ Below w.heap.size w w') := by
  go_enter Tryd.func48, Tryd.ntmps48
  go_wp2
  go_ret
  exact ⟨rfl, (BoxAt.new _ _ _).alloc _, BoxAt.new' (by first | simp | rfl), by first | simp | rfl, ((Below.refl _ _).alloc (Nat.le_refl _) _).alloc (by simp) _⟩

/-- A change of ring z, as a function that was handed in. -/
def RChanges (h : Rg → Option Rg) (s : St) (z : Int) (n : Nat) (a0 : Addr) (T : Nat) (K : World → Prop) (f : FuncId) (cs : List Value) (w : World) : Prop :=
  ∀ (W : World) (X b m M : Nat) (r : Rg), Below w.heap.size w W → w.heap.size ≤ M → M ≤ X → X < W.heap.size → BoxAt W X (sC s (some ⟨b, 0, none⟩) n m) 28 → RgsD M X W (some ⟨b, 0, none⟩) n m s.rs → ringB s z = true → s.rs[z.toNat]? = some r →
    Calls Tryd.prog f (.pointer (some ⟨b, z.toNat * 5, none⟩) :: cs).toArray W (ChPost (onRingC z h) s a0 w.heap.size X M T K W)

def orAR (s : St) (X b n m R : Nat) (z : Int) (j : Nat) (σ : Nat → Value) (w : World) : Prop :=
  match j with
  | 0 => σ 0 = .pointer (some ⟨X, 0, none⟩)
  | 1 => σ 1 = .pointer (some ⟨X, 0, none⟩)
  | 2 => σ 2 = .agg #[.int .i64 s.rd, .int .i64 s.mo, .slice (some ⟨b, 0, none⟩) n m, .int .i64 s.fi, .int .i64 s.la]
  | 3 => σ 3 = .int .i64 z
  | 4 => σ 4 = .bool ((ringB s z))
  | 5 => σ 5 = .bool (!(ringB s z))
  | _ => True

def orAS (j : Nat) : List Nat := [[0], [1], [2], [3], [4], [5]].getD j [j]
def orAK (j : Nat) : Nat := [0, 0, 0, 0, 0, 0].getD j 0

def orBR (h : Rg → Option Rg) (s : St) (X b n m R F M T N : Nat) (z : Int) (f : FuncId) (cs : List Value) (a0 : Addr) (K : World → Prop) (W0 : World) (j : Nat) (σ : Nat → Value) (w : World) : Prop :=
  match j with
  | 0 => σ 0 = .func (.func f) #[] cs.toArray
  | 1 => σ 1 = .pointer (some ⟨X, 0, none⟩)
  | 2 => σ 2 = .pointer (some ⟨X, 0, none⟩)
  | 3 => σ 3 = .pointer (some ⟨X, 2, none⟩)
  | 4 => σ 4 = .slice (some ⟨b, 0, none⟩) n m
  | 5 => σ 5 = .int .i64 z
  | 6 => σ 6 = .pointer (some ⟨b, z.toNat * 5, none⟩)
  | 7 => ∃ (v : Value), σ 7 = v ∧ ChPost (onRingC z h) s a0 N X M T K W0 (.returned v) w
  | 8 => ∃ (v : Value), σ 8 = v ∧ ChPost (onRingC z h) s a0 N X M T K W0 (.returned v) w
  | _ => True

def orBS (j : Nat) : List Nat := [[0], [1], [2], [3], [4], [5], [6], [7], [8]].getD j [j]
def orBK (j : Nat) : Nat := [0, 0, 0, 0, 0, 0, 0, 1, 0].getD j 0

set_option maxRecDepth 100000 in
set_option maxHeartbeats 4000000 in
theorem ionRing1_any (h : Rg → Option Rg) (s : St) (z : Int) (n R F B : Nat) (a0 a2 : Addr) (T : Nat) (K : World → Prop) (f : FuncId) (cs : List Value) (w : World) (hR : BoxAt w R #[.int .i64 z] 2) (hF : BoxAt w F #[.func (.func f) #[] cs.toArray] 73)
    (hrc : RChanges h s z n a0 T K f cs w) (hen : Enters Tryd.prog f) (hse : Sent B w 2 a2) (hne : a2 ≠ a0) (hBw : B ≤ w.heap.size) (hBT : B ≤ T) (hn2 : n ≤ 1048576) :
    Changes (onRingC z h) s n a0 T K 74 [.pointer (some ⟨R, 0, none⟩), .pointer (some ⟨F, 0, none⟩)] w := by
  intro W X b m M hbb hNM hMX hXW hX hRg
  have HRC := Lib.hid hrc; clear hrc
  have HEN := Lib.hid hen; clear hen
  have HLN := Lib.hid hRg.1
  obtain ⟨N, hN⟩ : ∃ N, N = w.heap.size := ⟨_, rfl⟩
  have hN1 : w.heap.size ≤ N := by omega
  have hNw : N ≤ w.heap.size := by omega
  have HN := Lib.hid hN
  have hMW : M ≤ W.heap.size := by omega
  replace hbb : Below N w W := hbb.mono (by omega)
  have hRr := hR.below hbb (by have := hR.lt; omega)
  replace hF := hF.below hbb (by have := hF.lt; omega)
  replace hRg : RgsD M X W (some ⟨b, 0, none⟩) n m s.rs ∧ X ≤ W.heap.size := ⟨hRg, by omega⟩
  have hti : Till M T W W := .refl _ _ _
  unfold sC at hX
  clear hR hN
  go_enter Tryd.func74, Tryd.ntmps74
  go_upto_region 1 with fail
  go_cut [10] (fun s10 W' => Below N w W' ∧ BoxAt W' X #[.int .i64 s.rd, .int .i64 s.mo, .slice (some ⟨b, 0, none⟩) n m, .int .i64 s.fi, .int .i64 s.la] 28 ∧ (RgsD M X W' (some ⟨b, 0, none⟩) n m s.rs ∧ X ≤ W'.heap.size) ∧ Till M T W W' ∧ BoxAt W' R #[.int .i64 z] 2 ∧ BoxAt W' F #[.func (.func f) #[] cs.toArray] 73 ∧ s10 = .bool (!ringB s z))
  case first =>
    refine wp_region2 (fun w w' => Below w.heap.size w w') (fun _ _ h => h.size) (fun L W' => Below N w W' ∧ BoxAt W' X #[.int .i64 s.rd, .int .i64 s.mo, .slice (some ⟨b, 0, none⟩) n m, .int .i64 s.fi, .int .i64 s.la] 28 ∧ (RgsD M X W' (some ⟨b, 0, none⟩) n m s.rs ∧ X ≤ W'.heap.size) ∧ Till M T W W' ∧ BoxAt W' R #[.int .i64 z] 2 ∧ BoxAt W' F #[.func (.func f) #[] cs.toArray] 73) (orAR s X b n m R z) orAK orAS (by kernel_rfl) (by kernel_rfl) ?_ ?_ ?_
      (.grow rfl ?_ <| .grow rfl ?_ <| .grow rfl ?_ <| .grow rfl ?_ <| .grow rfl ?_ <| .grow rfl ?_ <| .nil) ?_
    · intro j σ τ w h hR
      match j, h, hR with
      | 0, h, hR => exact (h 0 (List.mem_singleton.2 rfl)).symm.trans hR
      | 1, h, hR => exact (h 1 (List.mem_singleton.2 rfl)).symm.trans hR
      | 2, h, hR => exact (h 2 (List.mem_singleton.2 rfl)).symm.trans hR
      | 3, h, hR => exact (h 3 (List.mem_singleton.2 rfl)).symm.trans hR
      | 4, h, hR => exact (h 4 (List.mem_singleton.2 rfl)).symm.trans hR
      | 5, h, hR => exact (h 5 (List.mem_singleton.2 rfl)).symm.trans hR
      | _ + 6, _, _ => exact trivial
    · intro j σ w w' hb hR
      match j, hR with
      | 0, hR => exact hR
      | 1, hR => exact hR
      | 2, hR => exact hR
      | 3, hR => exact hR
      | 4, hR => exact hR
      | 5, hR => exact hR
      | _ + 6, _ => exact trivial
    · exact ⟨hbb.drew, hX, hRg, hti.drewN _, hRr, hF⟩
    · -- 0: Op.move t0
      go_light
      intro L σ W' hcl hL hC hw
      clear hw
      have HC := Lib.hid hC
      clear hC
      clear hcl hL
      refine OpGoes.step fun K hK => ?_
      unfold OpGoes
      go_simp
      obtain ⟨hbb, hX, hRg, hti, hRr, hF⟩ := HC.out
      exact hK _ _ ⟨⟨hbb, hX, hRg, hti, hRr, hF⟩, rfl, Below.refl _ _⟩
    · -- 1: Op.nilCheck t5
      go_light
      intro L σ W' hcl hL hC hw
      have e0 : σ 0 = .pointer (some ⟨X, 0, none⟩) := hw 0 (by kernel_rfl)
      clear hw
      have HC := Lib.hid hC
      clear hC
      clear hcl hL
      refine OpGoes.step fun K hK => ?_
      unfold OpGoes
      go_simp
      obtain ⟨hbb, hX, hRg, hti, hRr, hF⟩ := HC.out
      exact hK _ _ ⟨⟨hbb, hX, hRg, hti, hRr, hF⟩, rfl, Below.refl _ _⟩
    · -- 2: Op.load 28 t6
      go_light
      intro L σ W' hcl hL hC hw
      have e1 : σ 1 = .pointer (some ⟨X, 0, none⟩) := hw 1 (by kernel_rfl)
      clear hw
      have HC := Lib.hid hC
      obtain ⟨hbb, hX, hRg, hti, hRr, hF⟩ := hC
      have kX := hX.cell
      clear hcl hL
      clear hbb hX hRg hti hRr hF
      refine OpGoes.step fun K hK => ?_
      unfold OpGoes
      go_simp
      obtain ⟨hbb, hX, hRg, hti, hRr, hF⟩ := HC.out
      exact hK _ _ ⟨⟨hbb, hX, hRg, hti, hRr, hF⟩, rfl, Below.refl _ _⟩
    · -- 3: Op.load 2 t1
      go_light
      intro L σ W' hcl hL hC hw
      clear hw
      have HC := Lib.hid hC
      obtain ⟨hbb, hX, hRg, hti, hRr, hF⟩ := hC
      have kR := hRr.cell
      clear hcl hL
      clear hbb hX hRg hti hRr hF
      refine OpGoes.step fun K hK => ?_
      unfold OpGoes
      go_simp
      obtain ⟨hbb, hX, hRg, hti, hRr, hF⟩ := HC.out
      exact hK _ _ ⟨⟨hbb, hX, hRg, hti, hRr, hF⟩, rfl, Below.refl _ _⟩
    · -- 4: Op.call { value (Operand.func 59), args := #[t7, t8], argTypes := #[28, 2] }
      go_light
      intro L σ W' hcl hL hC hw
      have e2 : σ 2 = .agg #[.int .i64 s.rd, .int .i64 s.mo, .slice (some ⟨b, 0, none⟩) n m, .int .i64 s.fi, .int .i64 s.la] := hw 2 (by kernel_rfl)
      have e3 : σ 3 = .int .i64 z := hw 3 (by kernel_rfl)
      clear hw
      have HC := Lib.hid hC
      clear hC
      clear hcl hL
      refine OpGoes.step fun K hK => ?_
      unfold OpGoes
      go_simp
      obtain ⟨hbb, hX, hRg, hti, hRr, hF⟩ := HC.out
      refine (hasRing_any s _ n m z _ HLN.out hn2).mono ?_
      rintro e w1 ⟨rfl, hb1⟩
      exact ⟨_, rfl, hK _ _ ⟨⟨bstep hbb (Nat.le_trans hNw hbb.size) hb1, hX.below hb1 hX.lt, ⟨hRg.1.keep (.below hb1 hRg.2), Nat.le_trans hRg.2 hb1.size⟩, hti.trans (.of_below hb1 (Nat.le_trans hMW hti.size)), hRr.below hb1 hRr.lt, hF.below hb1 hF.lt⟩, rfl, hb1⟩⟩
    · -- 5: Op.unOp UnOp.not 4 t9
      go_light
      intro L σ W' hcl hL hC hw
      have e4 : σ 4 = .bool ((ringB s z)) := hw 4 (by kernel_rfl)
      clear hw
      have HC := Lib.hid hC
      clear hC
      clear hcl hL
      refine OpGoes.step fun K hK => ?_
      unfold OpGoes
      go_simp
      obtain ⟨hbb, hX, hRg, hti, hRr, hF⟩ := HC.out
      exact hK _ _ ⟨⟨hbb, hX, hRg, hti, hRr, hF⟩, rfl, Below.refl _ _⟩
    · intro σ L W' hall hC hR
      obtain ⟨hbb, hX, hRg, hti, hRr, hF⟩ := hC
      have e5 : σ 5 = .bool (!(ringB s z)) := hR 5 (by decide)
      clear hR
      simp only [lexAll]
      go_simp
      go_step
      go_meet
      exact ⟨hbb, hX, hRg, hti, hRr, hF, rfl⟩

  case rest =>
    clear hbb hX hRg hti hRr hF
    obtain ⟨hbb, hX, hRg, hti, hRr, hF, rfl⟩ := hcut
    cases hrb : ringB s z
    · have hg := (hse.keep (W' := wc) (fun j hj => hbb.block j (by omega)))
      obtain ⟨hg0, hq0, hg1, cq, tq, hQ0⟩ := hg
      go_wp2
      go_ret
      exact .mkNo (onRingC_no hrb) hti hne (by omega) ⟨cq, tq, hQ0⟩
    · have HRB := Lib.hid hrb
      obtain ⟨r, hri, _, _⟩ := ringB_some hrb
      have HRI := Lib.hid hri
      obtain ⟨z0, z1, z2⟩ := ringB_at HLN.out hrb
      clear hrb hri
      go_upto_region 3 with fail
      refine wp_region2 (fun w w' => w = w') (fun _ _ h => Nat.le_of_eq (by rw [h])) (fun L W' => (L 7 = false → Below N w W') ∧ (L 7 = false → BoxAt W' X #[.int .i64 s.rd, .int .i64 s.mo, .slice (some ⟨b, 0, none⟩) n m, .int .i64 s.fi, .int .i64 s.la] 28) ∧ (L 7 = false → (RgsD M X W' (some ⟨b, 0, none⟩) n m s.rs ∧ X ≤ W'.heap.size)) ∧ (L 7 = false → Till M T W W') ∧ (L 7 = false → BoxAt W' R #[.int .i64 z] 2) ∧ (L 7 = false → BoxAt W' F #[.func (.func f) #[] cs.toArray] 73)) (orBR h s X b n m R F M T N z f cs a0 K W) orBK orBS (by kernel_rfl) (by kernel_rfl) ?_ ?_ ?_
        (.grow rfl ?_ <| .grow rfl ?_ <| .grow rfl ?_ <| .grow rfl ?_ <| .grow rfl ?_ <| .grow rfl ?_ <| .grow rfl ?_ <| .store rfl ?_ <| .grow rfl ?_ <| .nil) ?_
      · intro j σ τ w h hR
        match j, h, hR with
        | 0, h, hR => exact (h 0 (List.mem_singleton.2 rfl)).symm.trans hR
        | 1, h, hR => exact (h 1 (List.mem_singleton.2 rfl)).symm.trans hR
        | 2, h, hR => exact (h 2 (List.mem_singleton.2 rfl)).symm.trans hR
        | 3, h, hR => exact (h 3 (List.mem_singleton.2 rfl)).symm.trans hR
        | 4, h, hR => exact (h 4 (List.mem_singleton.2 rfl)).symm.trans hR
        | 5, h, hR => exact (h 5 (List.mem_singleton.2 rfl)).symm.trans hR
        | 6, h, hR => exact (h 6 (List.mem_singleton.2 rfl)).symm.trans hR
        | 7, h, hR => obtain ⟨v, e, hp⟩ := hR; exact ⟨v, (h 7 (List.mem_singleton.2 rfl)).symm.trans e, hp⟩
        | 8, h, hR => obtain ⟨v, e, hp⟩ := hR; exact ⟨v, (h 8 (List.mem_singleton.2 rfl)).symm.trans e, hp⟩
        | _ + 9, _, _ => exact trivial
      · intro j σ w w' hb hR
        match j, hR with
        | 0, hR => exact hR
        | 1, hR => exact hR
        | 2, hR => exact hR
        | 3, hR => exact hR
        | 4, hR => exact hR
        | 5, hR => exact hR
        | 6, hR => exact hR
        | 7, hR => obtain ⟨v, e, hp⟩ := hR; exact ⟨v, e, hb ▸ hp⟩
        | 8, hR => obtain ⟨v, e, hp⟩ := hR; exact ⟨v, e, hb ▸ hp⟩
        | _ + 9, _ => exact trivial
      · exact ⟨fun _ => hbb.drew, fun _ => hX, fun _ => hRg, fun _ => hti.drewN _, fun _ => hRr, fun _ => hF⟩
      · -- 0: Op.load 73 t2
        go_light
        intro L σ W' hcl hL hC hw
        clear hw
        have HC := Lib.hid hC
        obtain ⟨hbb, hX, hRg, hti, hRr, hF⟩ := hC
        have hF_ := (hF (hcl.not (j := 7) (k := 0) (by kernel_rfl) hL))
        have kF := hF_.cell
        clear hcl hL
        clear hbb hX hRg hti hRr hF
        refine OpGoes.step fun K hK => ?_
        unfold OpGoes
        go_simp
        obtain ⟨hbb, hX, hRg, hti, hRr, hF⟩ := HC.out
        exact hK _ _ ⟨⟨fun h => (hbb (by simpa [upd] using h)), fun h => (hX (by simpa [upd] using h)), fun h => (hRg (by simpa [upd] using h)), fun h => (hti (by simpa [upd] using h)), fun h => (hRr (by simpa [upd] using h)), fun h => (hF (by simpa [upd] using h))⟩, rfl, rfl⟩
      · -- 1: Op.move t0
        go_light
        intro L σ W' hcl hL hC hw
        clear hw
        have HC := Lib.hid hC
        clear hC
        clear hcl hL
        refine OpGoes.step fun K hK => ?_
        unfold OpGoes
        go_simp
        obtain ⟨hbb, hX, hRg, hti, hRr, hF⟩ := HC.out
        exact hK _ _ ⟨⟨fun h => (hbb (by simpa [upd] using h)), fun h => (hX (by simpa [upd] using h)), fun h => (hRg (by simpa [upd] using h)), fun h => (hti (by simpa [upd] using h)), fun h => (hRr (by simpa [upd] using h)), fun h => (hF (by simpa [upd] using h))⟩, rfl, rfl⟩
      · -- 2: Op.nilCheck t13
        go_light
        intro L σ W' hcl hL hC hw
        have e1 : σ 1 = .pointer (some ⟨X, 0, none⟩) := hw 1 (by kernel_rfl)
        clear hw
        have HC := Lib.hid hC
        clear hC
        clear hcl hL
        refine OpGoes.step fun K hK => ?_
        unfold OpGoes
        go_simp
        obtain ⟨hbb, hX, hRg, hti, hRr, hF⟩ := HC.out
        exact hK _ _ ⟨⟨fun h => (hbb (by simpa [upd] using h)), fun h => (hX (by simpa [upd] using h)), fun h => (hRg (by simpa [upd] using h)), fun h => (hti (by simpa [upd] using h)), fun h => (hRr (by simpa [upd] using h)), fun h => (hF (by simpa [upd] using h))⟩, rfl, rfl⟩
      · -- 3: Op.fieldAddr 28 t14 2
        go_light
        intro L σ W' hcl hL hC hw
        have e2 : σ 2 = .pointer (some ⟨X, 0, none⟩) := hw 2 (by kernel_rfl)
        clear hw
        have HC := Lib.hid hC
        clear hC
        clear hcl hL
        refine OpGoes.step fun K hK => ?_
        unfold OpGoes
        go_simp
        obtain ⟨hbb, hX, hRg, hti, hRr, hF⟩ := HC.out
        exact hK _ _ ⟨⟨fun h => (hbb (by simpa [upd] using h)), fun h => (hX (by simpa [upd] using h)), fun h => (hRg (by simpa [upd] using h)), fun h => (hti (by simpa [upd] using h)), fun h => (hRr (by simpa [upd] using h)), fun h => (hF (by simpa [upd] using h))⟩, rfl, rfl⟩
      · -- 4: Op.load 26 t15
        go_light
        intro L σ W' hcl hL hC hw
        have e3 : σ 3 = .pointer (some ⟨X, 2, none⟩) := hw 3 (by kernel_rfl)
        clear hw
        have HC := Lib.hid hC
        obtain ⟨hbb, hX, hRg, hti, hRr, hF⟩ := hC
        have hX_ := (hX (hcl.not (j := 7) (k := 6) (by kernel_rfl) (hcl.not (j := 6) (k := 4) (by kernel_rfl) hL)))
        have kX := hX_.cell
        clear hcl hL
        clear hbb hX hRg hti hRr hF
        refine OpGoes.step fun K hK => ?_
        unfold OpGoes
        go_simp
        obtain ⟨hbb, hX, hRg, hti, hRr, hF⟩ := HC.out
        exact hK _ _ ⟨⟨fun h => (hbb (by simpa [upd] using h)), fun h => (hX (by simpa [upd] using h)), fun h => (hRg (by simpa [upd] using h)), fun h => (hti (by simpa [upd] using h)), fun h => (hRr (by simpa [upd] using h)), fun h => (hF (by simpa [upd] using h))⟩, rfl, rfl⟩
      · -- 5: Op.load 2 t1
        go_light
        intro L σ W' hcl hL hC hw
        clear hw
        have HC := Lib.hid hC
        obtain ⟨hbb, hX, hRg, hti, hRr, hF⟩ := hC
        have hR_ := (hRr (hcl.not (j := 7) (k := 6) (by kernel_rfl) (hcl.not (j := 6) (k := 5) (by kernel_rfl) hL)))
        have kR := hR_.cell
        clear hcl hL
        clear hbb hX hRg hti hRr hF
        refine OpGoes.step fun K hK => ?_
        unfold OpGoes
        go_simp
        obtain ⟨hbb, hX, hRg, hti, hRr, hF⟩ := HC.out
        exact hK _ _ ⟨⟨fun h => (hbb (by simpa [upd] using h)), fun h => (hX (by simpa [upd] using h)), fun h => (hRg (by simpa [upd] using h)), fun h => (hti (by simpa [upd] using h)), fun h => (hRr (by simpa [upd] using h)), fun h => (hF (by simpa [upd] using h))⟩, rfl, rfl⟩
      · -- 6: Op.indexAddr 26 t16 t17
        go_light
        intro L σ W' hcl hL hC hw
        have e4 : σ 4 = .slice (some ⟨b, 0, none⟩) n m := hw 4 (by kernel_rfl)
        have e5 : σ 5 = .int .i64 z := hw 5 (by kernel_rfl)
        clear hw
        have HC := Lib.hid hC
        clear hC
        clear hcl hL
        refine OpGoes.step fun K hK => ?_
        unfold OpGoes
        go_simp
        obtain ⟨hbb, hX, hRg, hti, hRr, hF⟩ := HC.out
        exact hK _ _ ⟨⟨fun h => (hbb (by simpa [upd] using h)), fun h => (hX (by simpa [upd] using h)), fun h => (hRg (by simpa [upd] using h)), fun h => (hti (by simpa [upd] using h)), fun h => (hRr (by simpa [upd] using h)), fun h => (hF (by simpa [upd] using h))⟩, rfl, rfl⟩
      · -- 7: Op.call { value t12, args := #[t18], argTypes := #[59] }
        go_light
        intro L σ W' hcl hL hC hw hne
        have e0 : σ 0 = .func (.func f) #[] cs.toArray := hw 0 (by kernel_rfl)
        have e6 : σ 6 = .pointer (some ⟨b, z.toNat * 5, none⟩) := hw 6 (by kernel_rfl)
        clear hw hne
        obtain ⟨hbb, hX, hRg, hti, hRr, hF⟩ := hC
        have hb7 := (hbb hL)
        have hX7 := (hX hL)
        have hRg7 := (hRg hL)
        have hti7 := (hti hL)
        have hen := HEN.out
        unfold Enters at hen
        clear hcl hL
        refine OpGoes.step fun K hK => ?_
        unfold OpGoes
        go_simp
        refine (HRC.out _ X b m M r (hb7.mono hN1) hNM hMX hX7.lt hX7 hRg7.1 HRB.out HRI.out).mono ?_
        intro e w1 hp
        obtain ⟨v, rfl⟩ := hp.ret
        have hpost := hp.from hti7
        rw [← HN.out] at hpost
        have hsz := hp.size
        refine ⟨_, rfl, hK _ _ ⟨⟨fun h => absurd h (by simp [upd]), fun h => absurd h (by simp [upd]), fun h => absurd h (by simp [upd]), fun h => absurd h (by simp [upd]), fun h => absurd h (by simp [upd]), fun h => absurd h (by simp [upd])⟩, ⟨v, rfl, hpost⟩, hsz, fun j hj hn hR => ?_⟩⟩
        match j, hj, hn, hR with
        | 0, _, _, hR => exact (show σ 0 = .func (.func f) #[] cs.toArray from hR)
        | 1, _, _, hR => exact (show σ 1 = .pointer (some ⟨X, 0, none⟩) from hR)
        | 2, _, _, hR => exact (show σ 2 = .pointer (some ⟨X, 0, none⟩) from hR)
        | 3, _, _, hR => exact (show σ 3 = .pointer (some ⟨X, 2, none⟩) from hR)
        | 4, _, _, hR => exact (show σ 4 = .slice (some ⟨b, 0, none⟩) n m from hR)
        | 5, _, _, hR => exact (show σ 5 = .int .i64 z from hR)
        | 6, _, _, hR => exact (show σ 6 = .pointer (some ⟨b, z.toNat * 5, none⟩) from hR)
        | 7, hj, _, _ => exact absurd rfl hj
        | 8, _, hn, _ => exact absurd (hn.symm.trans (show waits _ _ _ = true by kernel_rfl)) (by decide)
        | _ + 9, _, _, _ => exact trivial
      · -- 8: Op.assign t19
        go_light
        intro L σ W' hcl hL hC hw
        obtain ⟨v, e7, hp7⟩ : ∃ (v : Value), σ 7 = v ∧ ChPost (onRingC z h) s a0 N X M T K W (.returned v) W' := hw 7 (by kernel_rfl)
        clear hw
        have HC := Lib.hid hC
        clear hC
        clear hcl hL
        refine OpGoes.step fun K hK => ?_
        unfold OpGoes
        go_simp
        obtain ⟨hbb, hX, hRg, hti, hRr, hF⟩ := HC.out
        exact hK _ _ ⟨⟨fun h => (hbb (by simpa [upd] using h)), fun h => (hX (by simpa [upd] using h)), fun h => (hRg (by simpa [upd] using h)), fun h => (hti (by simpa [upd] using h)), fun h => (hRr (by simpa [upd] using h)), fun h => (hF (by simpa [upd] using h))⟩, ⟨v, rfl, hp7⟩, rfl⟩
      · intro σ L W' hall hC hR
        obtain ⟨hbb, hX, hRg, hti, hRr, hF⟩ := hC
        obtain ⟨v, e8, hp8⟩ : ∃ (v : Value), σ 8 = v ∧ ChPost (onRingC z h) s a0 N X M T K W (.returned v) W' := hR 8 (by decide)
        clear hR
        simp only [lexAll]
        go_simp
        go_step
        go_wp2
        go_ret
        rw [← HN.out]
        exact hp8

end Go.Proofs.YtbpjhdoldodlnaaDoor

/-
  Close, RaiseTail and Link of the program.
-/
import Derived.Test.YtbpjhdoldodlnaaDoorCloA
namespace Go.Proofs.YtbpjhdoldodlnaaDoor
open Go.RowKit
set_option linter.unusedVariables false
attribute [local go_sem] OpUpon
attribute [local go_sem ↓] Go.wp_at_zero Go.wp_at_succ

/-- What onRing has caught. -/
def OnR (N : Nat) (w : World) (k : Nat) (z : Int) (f : FuncId) (cs : List Value) : Prop := BoxAt w k #[.int .i64 z] 2 ∧ BoxAt w (k + 1) #[.func (.func f) #[] cs.toArray] 73 ∧ N ≤ k
theorem OnR.below {N : Nat} {w w' : World} {k : Nat} {z : Int} {f : FuncId} {cs : List Value} (h : OnR N w k z f cs) (hb : Below w.heap.size w w') : OnR N w' k z f cs := ⟨h.1.below hb h.1.lt, h.2.1.below hb h.2.1.lt, h.2.2⟩
theorem OnR.but {N T : Nat} {w w' : World} {k : Nat} {z : Int} {f : FuncId} {cs : List Value} (h : OnR N w k z f cs) (hb : But T w w') (hT : T < N) : OnR N w' k z f cs := by
  have := h.2.2
  exact ⟨hb.box h.1 (by omega), hb.box h.2.1 (by omega), h.2.2⟩
theorem OnR.setO {N : Nat} {w : World} {k : Nat} {z : Int} {f : FuncId} {cs : List Value} (h : OnR N w k z f cs) {g : Nat} (hg : g < N) (i : Nat) (u : Value) : OnR N (w.setCell ⟨g, i, none⟩ u) k z f cs := by
  have := h.2.2
  exact ⟨h.1.set_ne (by omega) _ _, h.2.1.set_ne (by omega) _ _, h.2.2⟩
theorem OnR.sets {N : Nat} {k : Nat} {z : Int} {f : FuncId} {cs : List Value} {g : Nat} (hg : g < N) : ∀ (us : List Value) (o : Nat) {w : World}, OnR N w k z f cs → OnR N (setCells w g o us) k z f cs
  | [], _, _, h => h
  | u :: us, o, _, h => OnR.sets hg us (o + 1) (h.setO hg o u)
/-- What doneOrNot has answered. -/
def DnF (N : Nat) (K : World → Prop) (q : St × Bool) (w : World) (A : Option Addr) (n c : Nat) : Prop := (∃ hi, hi ≤ w.heap.size ∧ RgsD N hi w A n c q.1.rs) ∧ (q.2 = true → K w)
theorem DnF.below {N : Nat} {K : World → Prop} {q : St × Bool} {w w' : World} {A : Option Addr} {n c : Nat} (h : DnF N K q w A n c) (hb : Below w.heap.size w w') (hK : ∀ W W', K W → Below W.heap.size W W' → K W') : DnF N K q w' A n c := by
  obtain ⟨⟨hi, hl, hd⟩, hk⟩ := h
  exact ⟨⟨hi, Nat.le_trans hl hb.size, hd.below hb hl⟩, fun e => hK _ _ (hk e) hb⟩
theorem DnF.but {N T : Nat} {q : St × Bool} {w w' : World} {A : Option Addr} {n c : Nat} (h : DnF N (fun _ => True) q w A n c) (hb : But T w w') (hT : T < N) : DnF N (fun _ => True) q w' A n c := by
  obtain ⟨⟨hi, hl, hd⟩, hk⟩ := h
  exact ⟨⟨hi, Nat.le_trans hl hb.size, hd.keep (fun j h1 h2 => hb.block j (by omega) (by omega))⟩, fun _ => trivial⟩
theorem DnF.setF {N : Nat} {q : St × Bool} {w : World} {A : Option Addr} {n c : Nat} (h : DnF N (fun _ => True) q w A n c) {g : Nat} (hg : g < N) (i : Nat) (u : Value) : DnF N (fun _ => True) q (w.setCell ⟨g, i, none⟩ u) A n c := by
  obtain ⟨⟨hi, hl, hd⟩, hk⟩ := h
  exact ⟨⟨hi, by simpa using hl, hd.setD (.inl hg) i u⟩, fun _ => trivial⟩
theorem DnF.sets {N : Nat} {q : St × Bool} {A : Option Addr} {n c : Nat} {g : Nat} (hg : g < N) : ∀ (us : List Value) (o : Nat) {w : World}, DnF N (fun _ => True) q w A n c → DnF N (fun _ => True) q (setCells w g o us) A n c
  | [], _, _, h => h
  | u :: us, o, _, h => DnF.sets hg us (o + 1) (h.setF hg o u)
/-- A store of the call's own is returned, no list of it shared, and a bool. -/
def RetSBD (q : St × Bool) (w : World) (e : Ending) (w' : World) : Prop :=
  ∃ A n cap, e = .returned (.tuple #[stV q.1 A n cap, .bool q.2]) ∧ RgsD w.heap.size w'.heap.size w' A n cap q.1.rs ∧ Below w.heap.size w w'

theorem mild_ring {s t : St} {z : Int} {h : Rg → Option Rg} (hh : ∀ r r', h r = some r' → r'.ps.length = r.ps.length) (hok : stOk s = true) (ht : onRingC z h s = some t) : Mild t := by
  have hn := stOk_neat hok
  unfold onRingC at ht
  split at ht
  · rename_i hz
    obtain ⟨r, hr, ha, hm⟩ := ringB_some hz
    rw [ha] at ht
    cases hq : h r with
    | none => rw [hq] at ht; cases ht
    | some q =>
      rw [hq] at ht
      injection ht with ht
      subst ht
      refine ⟨by simp; have := hn.2.1; omega, fun x hx => ?_⟩
      rcases List.mem_or_eq_of_mem_set hx with hx | rfl
      · have := (hn.2.2 x hx).2; omega
      · rw [hh r _ hq]; have := (hn.2.2 r hm).2; omega
  · cases ht

/-- The change that Close makes. -/
theorem iclose1 (s : St) (z : Int) (n : Nat) (a0 : Addr) (T : Nat) (w : World) : RChanges closeC s z n a0 T (fun _ => True) 51 [] w := by
  intro W X b m M r hbb hNM hMX hXW hX hRg hrb hri
  obtain ⟨hMb, hbX, ⟨cb, hbx⟩, d0, d1, d2, d3, df, _⟩ := hRg.ring hri
  have HRg := Lib.hid hRg; clear hRg
  have HRI := Lib.hid hri; clear hri
  have HRB := Lib.hid hrb; clear hrb
  have HX := Lib.hid hX
  show Calls Tryd.prog 51 #[.pointer (some ⟨b, z.toNat * 5, none⟩)] W _
  go_enter Tryd.func51, Tryd.ntmps51
  go_wp2
  go_ret
  refine .mkYes (t := { s with rs := s.rs.set z.toNat { r with c := true } }) (by rw [onRingC_yes HRB.out HRI.out]; rfl) ((Till.refl _ _ _).set (.inl hMb) _ _) trivial (HX.out.set_ne (by omega) _ _) ?_
  exact (HRg.out.turn1 (r' := { r with c := true }) (j := 2) HRI.out rfl (by omega) (fun a h1 h2 h3 h4 => by simp [Rw.cs, h1, h2, h4])).mono (Nat.le_refl _) (by simp; omega)

def dn_closeR (s : St) (A : Option Addr) (n cap N : Nat) (z : Int) (j : Nat) (σ : Nat → Value) (w : World) : Prop :=
  match j with
  | 0 => σ 0 = .agg #[.int .i64 s.rd, .int .i64 s.mo, .slice A n cap, .int .i64 s.fi, .int .i64 s.la]
  | 1 => σ 1 = .int .i64 z
  | 2 => ∃ (k : Nat), σ 2 = .func (.func 74) #[] #[.pointer (some ⟨k, 0, none⟩), .pointer (some ⟨k + 1, 0, none⟩)] ∧ OnR (N + 2) w k z 51 []
  | 3 => ∃ (A' : Option Addr) (n' c' : Nat), σ 3 = .tuple #[.agg #[.int .i64 ((done (onRingC z closeC) s).1.rd), .int .i64 ((done (onRingC z closeC) s).1.mo), .slice A' n' c', .int .i64 ((done (onRingC z closeC) s).1.fi), .int .i64 ((done (onRingC z closeC) s).1.la)], .bool ((done (onRingC z closeC) s).2)] ∧ DnF (N + 2) (fun _ => True) (done (onRingC z closeC) s) w A' n' c'
  | 4 => ∃ (A' : Option Addr) (n' c' : Nat), σ 4 = .agg #[.int .i64 ((done (onRingC z closeC) s).1.rd), .int .i64 ((done (onRingC z closeC) s).1.mo), .slice A' n' c', .int .i64 ((done (onRingC z closeC) s).1.fi), .int .i64 ((done (onRingC z closeC) s).1.la)] ∧ DnF (N + 2) (fun _ => True) (done (onRingC z closeC) s) w A' n' c'
  | 5 => σ 5 = .bool ((done (onRingC z closeC) s).2)
  | 6 => ∃ (A' : Option Addr) (n' c' : Nat), BoxAt w (N + 1) #[.int .i64 ((done (onRingC z closeC) s).1.rd), .int .i64 ((done (onRingC z closeC) s).1.mo), .slice A' n' c', .int .i64 ((done (onRingC z closeC) s).1.fi), .int .i64 ((done (onRingC z closeC) s).1.la)] 28 ∧ DnF (N + 2) (fun _ => True) (done (onRingC z closeC) s) w A' n' c'
  | 7 => σ 7 = .bool ((done (onRingC z closeC) s).2)
  | _ => True

def dn_closeS (j : Nat) : List Nat := [[0], [1], [2], [3], [4], [5], [6], [7]].getD j [j]
def dn_closeK (j : Nat) : Nat := [0, 0, 0, 1, 0, 0, 1, 0].getD j 0

set_option maxRecDepth 100000 in
set_option maxHeartbeats 4000000 in
theorem iclose_any (s : St) (A : Option Addr) (n cap lo hi B : Nat) (a0 a1 a2 : Addr) (z : Int) (w : World) (hs : RgsW lo hi w A n cap s.rs) (hh : hi ≤ w.heap.size) (hBw : B ≤ w.heap.size) (he : Errs B w a0 a1) (hS0 : Sent B w 2 a2) (hN0 : a2 ≠ a0) (hm : n ≤ 1048576) (hpn : ∀ r ∈ s.rs, r.ps.length ≤ 1048576) :
    Calls Tryd.prog 24 #[stV s A n cap, .int .i64 z] w (RetSBD (closeR s z) w) := by
  have HPN := Lib.hid hpn; clear hpn
  have HLN := Lib.hid hs.1
  have HV := Lib.hid (close_done s z)
  obtain ⟨N, hN⟩ : ∃ N, N = w.heap.size := ⟨_, rfl⟩
  have hN1 : w.heap.size ≤ N := by omega
  have hNw : N ≤ w.heap.size := by omega
  have HN := Lib.hid hN
  have hBN : B ≤ N := by omega
  unfold stV
  go_enter Tryd.func24, Tryd.ntmps24
  go_upto_region 1 with fail
  rw [← HN.out]
  refine wp_abs (fun W => Below N w W ∧ N + 2 ≤ W.heap.size ∧ BoxAt W N #[.int .i64 s.rd, .int .i64 s.mo, .slice A n cap, .int .i64 s.fi, .int .i64 s.la] 28 ∧ BoxAt W (N + 1) #[.int .i64 0, .int .i64 0, .slice none 0 0, .int .i64 0, .int .i64 0] 28) ⟨(((Below.refl _ _).alloc hNw _).alloc (by simp; omega) _), by simp; omega, ((BoxAt.new' (by omega)).alloc _), (BoxAt.new' (by simp; omega))⟩ ?_
  clear hN
  rintro W0 ⟨hB, hsz, hx, hz⟩
  refine wp_region2 (fun w w' => Below w.heap.size w w') (fun _ _ h => h.size) (fun L W' => Below N w W' ∧ N + 2 ≤ W'.heap.size ∧ (L 3 = false → BoxAt W' N #[.int .i64 s.rd, .int .i64 s.mo, .slice A n cap, .int .i64 s.fi, .int .i64 s.la] 28) ∧ (∃ x0 x1 x2 x3 x4, BoxAt W' (N + 1) #[x0, x1, x2, x3, x4] 28) ∧ (L 6 = false → BoxAt W' (N + 1) #[.int .i64 0, .int .i64 0, .slice none 0 0, .int .i64 0, .int .i64 0] 28)) (dn_closeR s A n cap N z) dn_closeK dn_closeS (by kernel_rfl) (by kernel_rfl) ?_ ?_ ?_
    (.grow rfl ?_ <| .grow rfl ?_ <| .grow rfl ?_ <| .store rfl ?_ <| .grow rfl ?_ <| .grow rfl ?_ <| .store rfl ?_ <| .grow rfl ?_ <| .nil) ?_
  · intro j σ τ w h hR
    match j, h, hR with
    | 0, h, hR => exact (h 0 (List.mem_singleton.2 rfl)).symm.trans hR
    | 1, h, hR => exact (h 1 (List.mem_singleton.2 rfl)).symm.trans hR
    | 2, h, hR => obtain ⟨k, e, hp⟩ := hR; exact ⟨k, (h 2 (List.mem_singleton.2 rfl)).symm.trans e, hp⟩
    | 3, h, hR => obtain ⟨A', n', c', e, hp⟩ := hR; exact ⟨A', n', c', (h 3 (List.mem_singleton.2 rfl)).symm.trans e, hp⟩
    | 4, h, hR => obtain ⟨A', n', c', e, hp⟩ := hR; exact ⟨A', n', c', (h 4 (List.mem_singleton.2 rfl)).symm.trans e, hp⟩
    | 5, h, hR => exact (h 5 (List.mem_singleton.2 rfl)).symm.trans hR
    | 6, _, hR => exact hR
    | 7, h, hR => exact (h 7 (List.mem_singleton.2 rfl)).symm.trans hR
    | _ + 8, _, _ => exact trivial
  · intro j σ w w' hb hR
    match j, hR with
    | 0, hR => exact hR
    | 1, hR => exact hR
    | 2, hR => obtain ⟨k, e, hp⟩ := hR; exact ⟨k, e, hp.below hb⟩
    | 3, hR => obtain ⟨A', n', c', e, hp⟩ := hR; exact ⟨A', n', c', e, hp.below hb (fun _ _ _ _ => trivial)⟩
    | 4, hR => obtain ⟨A', n', c', e, hp⟩ := hR; exact ⟨A', n', c', e, hp.below hb (fun _ _ _ _ => trivial)⟩
    | 5, hR => exact hR
    | 6, hR => obtain ⟨A', n', c', hx, hp⟩ := hR; exact ⟨A', n', c', hx.below hb hx.lt, hp.below hb (fun _ _ _ _ => trivial)⟩
    | 7, hR => exact hR
    | _ + 8, _ => exact trivial
  · exact ⟨hB.drew, hsz, fun _ => hx, ⟨_, _, _, _, _, hz⟩, fun _ => hz⟩
  · -- 0: Op.load 28 t2
    go_light
    intro L σ W' hcl hL hC hw
    clear hw
    have HC := Lib.hid hC
    obtain ⟨hB, hsz, hx, ⟨hz_x0, hz_x1, hz_x2, hz_x3, hz_x4, hz⟩, hz_o⟩ := hC
    have hx_ := (hx (hcl.not (j := 3) (k := 0) (by kernel_rfl) hL))
    have ks := hx_.cell
    clear hcl hL
    clear hB hsz hx hz hz_o
    refine OpGoes.step fun K hK => ?_
    unfold OpGoes
    go_simp
    obtain ⟨hB, hsz, hx, ⟨hz_x0, hz_x1, hz_x2, hz_x3, hz_x4, hz⟩, hz_o⟩ := HC.out
    exact hK _ _ ⟨⟨hB, hsz, fun h => (hx (by simpa [upd] using h)), ⟨_, _, _, _, _, hz⟩, fun h => hz_o (by simpa [upd] using h)⟩, rfl, Below.refl _ _⟩
  · -- 1: Op.move t1
    go_light
    intro L σ W' hcl hL hC hw
    clear hw
    have HC := Lib.hid hC
    clear hC
    clear hcl hL
    refine OpGoes.step fun K hK => ?_
    unfold OpGoes
    go_simp
    obtain ⟨hB, hsz, hx, ⟨hz_x0, hz_x1, hz_x2, hz_x3, hz_x4, hz⟩, hz_o⟩ := HC.out
    exact hK _ _ ⟨⟨hB, hsz, fun h => (hx (by simpa [upd] using h)), ⟨_, _, _, _, _, hz⟩, fun h => hz_o (by simpa [upd] using h)⟩, rfl, Below.refl _ _⟩
  · -- 2: Op.call { value (Operand.func 48), args := #[t7, Operand.func 51], argTypes := #[2, 73] }
    go_light
    intro L σ W' hcl hL hC hw
    have e1 : σ 1 = .int .i64 z := hw 1 (by kernel_rfl)
    clear hw
    have HC := Lib.hid hC
    clear hC
    clear hcl hL
    refine OpGoes.step fun K hK => ?_
    unfold OpGoes
    go_simp
    obtain ⟨hB, hsz, hx, ⟨hz_x0, hz_x1, hz_x2, hz_x3, hz_x4, hz⟩, hz_o⟩ := HC.out
    refine (ionRing_any z 51 [] _).mono ?_
    rintro e w1 ⟨rfl, hk1, hk2, hk3, hb1⟩
    exact ⟨_, rfl, hK _ _ ⟨⟨bstep hB (Nat.le_trans hNw hB.size) hb1, Nat.le_trans hsz hb1.size, fun h => (hx (by simpa [upd] using h)).below hb1 (hx (by simpa [upd] using h)).lt, ⟨_, _, _, _, _, hz.below hb1 hz.lt⟩, fun h => (hz_o (by simpa [upd] using h)).below hb1 (hz_o (by simpa [upd] using h)).lt⟩, ⟨_, rfl, hk1, hk2, hsz⟩, hb1⟩⟩
  · -- 3: Op.call { value (Operand.func 47), args := #[t6, t8], argTypes := #[28, 68] }
    go_light
    intro L σ W' hcl hL hC hw hne
    have e0 : σ 0 = .agg #[.int .i64 s.rd, .int .i64 s.mo, .slice A n cap, .int .i64 s.fi, .int .i64 s.la] := hw 0 (by kernel_rfl)
    obtain ⟨k, e2, hp2⟩ : ∃ (k : Nat), σ 2 = .func (.func 74) #[] #[.pointer (some ⟨k, 0, none⟩), .pointer (some ⟨k + 1, 0, none⟩)] ∧ OnR (N + 2) W' k z 51 [] := hw 2 (by kernel_rfl)
    clear hw hne
    obtain ⟨hB, hsz, hx, ⟨hz_x0, hz_x1, hz_x2, hz_x3, hz_x4, hz⟩, hz_o⟩ := hC
    have hx3 := (hx hL)
    clear hcl hL
    refine OpGoes.step fun K hK => ?_
    unfold OpGoes
    go_simp
    have hs3 := hs.keep (w' := W') (fun j _ hj => hB.block j (by omega))
    have he3 := he.below hB (by omega)
    refine (idoneOrNot_any (onRingC z closeC) s A n cap lo hi B N a0 a1 (fun _ => True) 74 [.pointer (some ⟨k, 0, none⟩), .pointer (some ⟨k + 1, 0, none⟩)] W' hs3 (by omega) (by omega) (by omega) hBN (by omega) he3 hm HPN.out (fun t hok ht => mild_ring (fun r r' h => by injection h with h; subst h; rfl) hok ht) (fun _ _ _ _ => trivial) (fun hok => ionRing1_any (closeC) s z n k (k + 1) B a0 a2 N (fun _ => True) 51 [] W' hp2.1 hp2.2.1 (iclose1 s z n a0 N W') (enters_of Tryd.func51 (by kernel_rfl) rfl) (hS0.keep (fun j hj => hB.block j (by omega))) hN0 (by omega) hBN hm) (enters_of Tryd.func74 (by kernel_rfl) rfl)).mono ?_
    rintro e w1 ⟨A', n', c', rfl, hR1, hk1, hbt⟩
    have hbt2 := hbt.size
    refine ⟨_, rfl, hK _ _ ⟨⟨hB.trans (hbt.below (Nat.le_refl _) (by omega)), by omega, fun h => absurd h (by simp [upd]), ⟨_, _, _, _, _, hbt.box hz (by omega)⟩, fun h => hbt.box (hz_o (by simpa [upd] using h)) (by omega)⟩, ⟨A', n', c', rfl, ⟨_, Nat.le_refl _, hR1.mono (by omega) (Nat.le_refl _)⟩, hk1⟩, hbt2, fun j hj hn hR => ?_⟩⟩
    match j, hj, hn, hR with
    | 0, _, _, hR => exact (show σ 0 = .agg #[.int .i64 s.rd, .int .i64 s.mo, .slice A n cap, .int .i64 s.fi, .int .i64 s.la] from hR)
    | 1, _, _, hR => exact (show σ 1 = .int .i64 z from hR)
    | 2, _, _, hR => obtain ⟨k, e, hp⟩ := hR; exact ⟨k, e, hp.but hbt (by omega)⟩
    | 3, hj, _, _ => exact absurd rfl hj
    | 4, _, hn, _ => exact absurd (hn.symm.trans (show waits _ _ _ = true by kernel_rfl)) (by decide)
    | 5, _, hn, _ => exact absurd (hn.symm.trans (show waits _ _ _ = true by kernel_rfl)) (by decide)
    | 6, _, _, hR => obtain ⟨A'_x, n'_x, c'_x, hx, hp⟩ := hR; exact ⟨A'_x, n'_x, c'_x, hbt.box hx (by omega), hp.but hbt (by omega)⟩
    | 7, _, _, hR => exact (show σ 7 = .bool ((done (onRingC z closeC) s).2) from hR)
    | _ + 8, _, _, _ => exact trivial
  · -- 4: Op.extract t9 0
    go_light
    intro L σ W' hcl hL hC hw
    obtain ⟨A', n', c', e3, hp3⟩ : ∃ (A' : Option Addr) (n' c' : Nat), σ 3 = .tuple #[.agg #[.int .i64 ((done (onRingC z closeC) s).1.rd), .int .i64 ((done (onRingC z closeC) s).1.mo), .slice A' n' c', .int .i64 ((done (onRingC z closeC) s).1.fi), .int .i64 ((done (onRingC z closeC) s).1.la)], .bool ((done (onRingC z closeC) s).2)] ∧ DnF (N + 2) (fun _ => True) (done (onRingC z closeC) s) W' A' n' c' := hw 3 (by kernel_rfl)
    clear hw
    have HC := Lib.hid hC
    clear hC
    clear hcl hL
    refine OpGoes.step fun K hK => ?_
    unfold OpGoes
    go_simp
    obtain ⟨hB, hsz, hx, ⟨hz_x0, hz_x1, hz_x2, hz_x3, hz_x4, hz⟩, hz_o⟩ := HC.out
    exact hK _ _ ⟨⟨hB, hsz, fun h => (hx (by simpa [upd] using h)), ⟨_, _, _, _, _, hz⟩, fun h => hz_o (by simpa [upd] using h)⟩, ⟨A', n', c', rfl, hp3⟩, Below.refl _ _⟩
  · -- 5: Op.extract t9 1
    go_light
    intro L σ W' hcl hL hC hw
    obtain ⟨A', n', c', e3, hp3⟩ : ∃ (A' : Option Addr) (n' c' : Nat), σ 3 = .tuple #[.agg #[.int .i64 ((done (onRingC z closeC) s).1.rd), .int .i64 ((done (onRingC z closeC) s).1.mo), .slice A' n' c', .int .i64 ((done (onRingC z closeC) s).1.fi), .int .i64 ((done (onRingC z closeC) s).1.la)], .bool ((done (onRingC z closeC) s).2)] ∧ DnF (N + 2) (fun _ => True) (done (onRingC z closeC) s) W' A' n' c' := hw 3 (by kernel_rfl)
    clear hw
    have HC := Lib.hid hC
    clear hC
    clear hcl hL
    refine OpGoes.step fun K hK => ?_
    unfold OpGoes
    go_simp
    obtain ⟨hB, hsz, hx, ⟨hz_x0, hz_x1, hz_x2, hz_x3, hz_x4, hz⟩, hz_o⟩ := HC.out
    exact hK _ _ ⟨⟨hB, hsz, fun h => (hx (by simpa [upd] using h)), ⟨_, _, _, _, _, hz⟩, fun h => hz_o (by simpa [upd] using h)⟩, rfl, Below.refl _ _⟩
  · -- 6: Op.store 28 t4 t10
    go_light
    intro L σ W' hcl hL hC hw hne
    obtain ⟨A', n', c', e4, hp4⟩ : ∃ (A' : Option Addr) (n' c' : Nat), σ 4 = .agg #[.int .i64 ((done (onRingC z closeC) s).1.rd), .int .i64 ((done (onRingC z closeC) s).1.mo), .slice A' n' c', .int .i64 ((done (onRingC z closeC) s).1.fi), .int .i64 ((done (onRingC z closeC) s).1.la)] ∧ DnF (N + 2) (fun _ => True) (done (onRingC z closeC) s) W' A' n' c' := hw 4 (by kernel_rfl)
    clear hw hne
    have HC := Lib.hid hC
    obtain ⟨hB, hsz, hx, ⟨hz_x0, hz_x1, hz_x2, hz_x3, hz_x4, hz⟩, hz_o⟩ := hC
    clear hcl hL
    have kc_ := hz.cell
    have kf_ := hz.frozen
    clear hB hsz hx hz hz_o
    refine OpGoes.step fun K hK => ?_
    unfold OpGoes
    go_simp
    obtain ⟨hB, hsz, hx, ⟨hz_x0, hz_x1, hz_x2, hz_x3, hz_x4, hz⟩, hz_o⟩ := HC.out
    have hset := sets_all (us := [.int .i64 ((done (onRingC z closeC) s).1.rd), .int .i64 ((done (onRingC z closeC) s).1.mo), .slice A' n' c', .int .i64 ((done (onRingC z closeC) s).1.fi), .int .i64 ((done (onRingC z closeC) s).1.la)]) hz rfl
    refine hK undef (setCells W' (N + 1) 0 [.int .i64 ((done (onRingC z closeC) s).1.rd), .int .i64 ((done (onRingC z closeC) s).1.mo), .slice A' n' c', .int .i64 ((done (onRingC z closeC) s).1.fi), .int .i64 ((done (onRingC z closeC) s).1.la)]) ⟨⟨(Below.setCells (by omega) [.int .i64 ((done (onRingC z closeC) s).1.rd), .int .i64 ((done (onRingC z closeC) s).1.mo), .slice A' n' c', .int .i64 ((done (onRingC z closeC) s).1.fi), .int .i64 ((done (onRingC z closeC) s).1.la)] 0 hB), (size_sts hsz [.int .i64 ((done (onRingC z closeC) s).1.rd), .int .i64 ((done (onRingC z closeC) s).1.mo), .slice A' n' c', .int .i64 ((done (onRingC z closeC) s).1.fi), .int .i64 ((done (onRingC z closeC) s).1.la)] 0), fun h => (BoxAt.sets_ne [.int .i64 ((done (onRingC z closeC) s).1.rd), .int .i64 ((done (onRingC z closeC) s).1.mo), .slice A' n' c', .int .i64 ((done (onRingC z closeC) s).1.fi), .int .i64 ((done (onRingC z closeC) s).1.la)] 0 (hx (by simpa [upd] using h)) (by omega)), ⟨_, _, _, _, _, hset⟩, fun h => absurd h (by simp [upd])⟩, ⟨A', n', c', hset, (DnF.sets (by omega) [.int .i64 ((done (onRingC z closeC) s).1.rd), .int .i64 ((done (onRingC z closeC) s).1.mo), .slice A' n' c', .int .i64 ((done (onRingC z closeC) s).1.fi), .int .i64 ((done (onRingC z closeC) s).1.la)] 0 hp4)⟩, Nat.le_of_eq (sets_size _ _ _).symm, fun j hj hn hR => ?_⟩
    match j, hj, hn, hR with
    | 0, _, _, hR => exact (show σ 0 = .agg #[.int .i64 s.rd, .int .i64 s.mo, .slice A n cap, .int .i64 s.fi, .int .i64 s.la] from hR)
    | 1, _, _, hR => exact (show σ 1 = .int .i64 z from hR)
    | 2, _, _, hR => obtain ⟨k_x, e, hp⟩ := hR; exact ⟨k_x, e, (OnR.sets (by omega) [.int .i64 ((done (onRingC z closeC) s).1.rd), .int .i64 ((done (onRingC z closeC) s).1.mo), .slice A' n' c', .int .i64 ((done (onRingC z closeC) s).1.fi), .int .i64 ((done (onRingC z closeC) s).1.la)] 0 hp)⟩
    | 3, _, _, hR => obtain ⟨A'_x, n'_x, c'_x, e, hp⟩ := hR; exact ⟨A'_x, n'_x, c'_x, e, (DnF.sets (by omega) [.int .i64 ((done (onRingC z closeC) s).1.rd), .int .i64 ((done (onRingC z closeC) s).1.mo), .slice A' n' c', .int .i64 ((done (onRingC z closeC) s).1.fi), .int .i64 ((done (onRingC z closeC) s).1.la)] 0 hp)⟩
    | 4, _, _, hR => obtain ⟨A'_x, n'_x, c'_x, e, hp⟩ := hR; exact ⟨A'_x, n'_x, c'_x, e, (DnF.sets (by omega) [.int .i64 ((done (onRingC z closeC) s).1.rd), .int .i64 ((done (onRingC z closeC) s).1.mo), .slice A' n' c', .int .i64 ((done (onRingC z closeC) s).1.fi), .int .i64 ((done (onRingC z closeC) s).1.la)] 0 hp)⟩
    | 5, _, _, hR => exact (show σ 5 = .bool ((done (onRingC z closeC) s).2) from hR)
    | 6, hj, _, _ => exact absurd rfl hj
    | 7, _, _, hR => exact (show σ 7 = .bool ((done (onRingC z closeC) s).2) from hR)
    | _ + 8, _, _, _ => exact trivial
  · -- 7: Op.assign t11
    go_light
    intro L σ W' hcl hL hC hw
    have e5 : σ 5 = .bool ((done (onRingC z closeC) s).2) := hw 5 (by kernel_rfl)
    clear hw
    have HC := Lib.hid hC
    clear hC
    clear hcl hL
    refine OpGoes.step fun K hK => ?_
    unfold OpGoes
    go_simp
    obtain ⟨hB, hsz, hx, ⟨hz_x0, hz_x1, hz_x2, hz_x3, hz_x4, hz⟩, hz_o⟩ := HC.out
    exact hK _ _ ⟨⟨hB, hsz, fun h => (hx (by simpa [upd] using h)), ⟨_, _, _, _, _, hz⟩, fun h => hz_o (by simpa [upd] using h)⟩, rfl, Below.refl _ _⟩
  · intro σ L W' hall hC hR
    obtain ⟨hB, hsz, hx, ⟨hz_x0, hz_x1, hz_x2, hz_x3, hz_x4, hz⟩, hz_o⟩ := hC
    obtain ⟨A', n', c', s6, hp6⟩ : ∃ (A' : Option Addr) (n' c' : Nat), BoxAt W' (N + 1) #[.int .i64 ((done (onRingC z closeC) s).1.rd), .int .i64 ((done (onRingC z closeC) s).1.mo), .slice A' n' c', .int .i64 ((done (onRingC z closeC) s).1.fi), .int .i64 ((done (onRingC z closeC) s).1.la)] 28 ∧ DnF (N + 2) (fun _ => True) (done (onRingC z closeC) s) W' A' n' c' := hR 6 (by decide)
    have e7 : σ 7 = .bool ((done (onRingC z closeC) s).2) := hR 7 (by decide)
    clear hR
    simp only [lexAll]
    go_simp
    go_step
    have k6 := s6.cell
    go_wp2
    refine bodyPost_ret (v := .tuple #[stV (done (onRingC z closeC) s).1 A' n' c', .bool (done (onRingC z closeC) s).2]) (by simp [results, Tryd.results24, go_sem, k6, stV]) rfl ?_
    rw [HV.out]
    obtain ⟨hi', hl', hd'⟩ := hp6.1
    exact ⟨A', n', c', rfl, hd'.mono (by omega) hl', hB.mono hN1⟩

end Go.Proofs.YtbpjhdoldodlnaaDoor

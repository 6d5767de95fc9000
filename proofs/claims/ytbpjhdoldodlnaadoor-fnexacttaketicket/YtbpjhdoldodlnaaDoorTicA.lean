/-
  TakeTicket and PutTicket of the program.
-/
import Derived.Test.YtbpjhdoldodlnaaDoorCloB
namespace Go.Proofs.YtbpjhdoldodlnaaDoor
open Go.RowKit
set_option linter.unusedVariables false
attribute [local go_sem] OpUpon
attribute [local go_sem ↓] Go.wp_at_zero Go.wp_at_succ

theorem RgsD.setT {lo hi : Nat} {w : World} {A : Option Addr} {n cap : Nat} {L : List Rg} (h : RgsD lo hi w A n cap L) {k : Nat} {cs : Array Value} {t : TypeId} (hk : BoxAt w k cs t) (h1 : t ≠ 55) (h2 : t ≠ 39) (i : Nat) (u : Value) : RgsD lo hi (w.setCell ⟨k, i, none⟩ u) A n cap L :=
  ⟨h.1, fun hn => by
    obtain ⟨b, rows, e, hb, ho, hd⟩ := h.2 hn
    obtain ⟨cb, hbx⟩ := own_box ho
    exact ⟨b, rows, e, hb, Own.set_ne ho (box_ne hbx hk (fun e => h1 e.symm)) _ _, hd.keep fun g _ _ _ hg => Below.heap_setCell w ⟨k, i, none⟩ u g (box_ne hg hk (fun e => h2 e.symm))⟩⟩
/-- What doneOrNot has answered, and the number that was drawn. -/
def TkF (N T : Nat) (x : Int) (q : St × Bool) (w : World) (A : Option Addr) (n c : Nat) : Prop := (∃ hi, hi ≤ w.heap.size ∧ RgsD N hi w A n c q.1.rs) ∧ (q.2 = true → BoxAt w T #[.int .i64 x] 2)
theorem TkF.below {N T : Nat} {x : Int} {q : St × Bool} {w w' : World} {A : Option Addr} {n c : Nat} (h : TkF N T x q w A n c) (hb : Below w.heap.size w w') : TkF N T x q w' A n c := by
  obtain ⟨⟨hi, hl, hd⟩, hk⟩ := h
  exact ⟨⟨hi, Nat.le_trans hl hb.size, hd.below hb hl⟩, fun e => (hk e).below hb (hk e).lt⟩
theorem TkF.setT {N T : Nat} {x : Int} {q : St × Bool} {w : World} {A : Option Addr} {n c : Nat} (h : TkF N T x q w A n c) {k : Nat} {cs : Array Value} (hk : BoxAt w k cs 28) (hne : T ≠ k) (i : Nat) (u : Value) : TkF N T x q (w.setCell ⟨k, i, none⟩ u) A n c := by
  obtain ⟨⟨hi, hl, hd⟩, ht⟩ := h
  exact ⟨⟨hi, by simpa using hl, hd.setT hk (by decide) (by decide) i u⟩, fun e => (ht e).set_ne hne _ _⟩
theorem TkF.setsT {N T : Nat} {x : Int} {q : St × Bool} {A : Option Addr} {n c : Nat} {k : Nat} {w : World} {cs : Array Value} (h : TkF N T x q w A n c) (hk : BoxAt w k cs 28) (hne : T ≠ k) : ∀ (us : List Value) (o : Nat), TkF N T x q (setCells w k o us) A n c
  | [], _ => h
  | u :: us, o => TkF.setsT (h.setT hk hne o u) (hk.set o u) hne us (o + 1)
theorem TkF.but {N T : Nat} {x : Int} {q : St × Bool} {w w' : World} {A : Option Addr} {n c : Nat} (h : TkF N T x q w A n c) (hb : But T w w') (hT : T < N) (hx : q.2 = true → BoxAt w' T #[.int .i64 x] 2) : TkF N T x q w' A n c := by
  obtain ⟨⟨hi, hl, hd⟩, hk⟩ := h
  exact ⟨⟨hi, Nat.le_trans hl hb.size, hd.keep (fun j h1 h2 => hb.block j (by omega) (by omega))⟩, hx⟩
theorem OnR.setsT {N : Nat} {k : Nat} {z : Int} {f : FuncId} {cs : List Value} {g : Nat} {w : World} {ds : Array Value} (h : OnR N w k z f cs) (hk : BoxAt w g ds 28) : ∀ (us : List Value) (o : Nat), OnR N (setCells w g o us) k z f cs
  | [], _ => h
  | u :: us, o => OnR.setsT ⟨h.1.set_ne (box_ne h.1 hk (by decide)) _ _, h.2.1.set_ne (box_ne h.2.1 hk (by decide)) _ _, h.2.2⟩ (hk.set o u) us (o + 1)
/-- A store of the call's own is returned, no list of it shared, and a number. -/
def RetSID (q : St × Int) (w : World) (e : Ending) (w' : World) : Prop :=
  ∃ A n cap, e = .returned (.tuple #[stV q.1 A n cap, .int .i64 q.2]) ∧ RgsD w.heap.size w'.heap.size w' A n cap q.1.rs ∧ Below w.heap.size w w'

theorem itakeF (b o : Nat) (w : World) : Calls Tryd.prog 40 #[.pointer (some ⟨b, o, none⟩)] w (fun e w' => e = .returned (.pointer (some ⟨b, o, none⟩)) ∧ w = w') := by
  go_enter Tryd.func40, Tryd.ntmps40
  go_wp2
  go_ret
  exact ⟨rfl, rfl⟩
set_option maxRecDepth 100000 in
set_option maxHeartbeats 4000000 in
theorem itake1 (s : St) (z : Int) (n F T : Nat) (a0 : Addr) (x : Int) (w : World) (hF0 : BoxAt w F #[.func (.func 40) #[] #[]] 61) (hT0 : BoxAt w T #[.int .i64 (-1)] 2) (hx : x = (s.at z).h) (hnum : ∀ r ∈ s.rs, 0 ≤ r.h ∧ r.h ≤ 1000000) :
    RChanges headC s z n a0 T (fun W => BoxAt W T #[.int .i64 x] 2) 66 [.pointer (some ⟨F, 0, none⟩), .pointer (some ⟨T, 0, none⟩)] w := by
  intro W X b m M r hbb hNM hMX hXW hX hRg hrb hri
  obtain ⟨hMb, hbX, ⟨cb, hbx⟩, d0, d1, d2, d3, df, _⟩ := hRg.ring hri
  obtain rfl : x = r.h := by rw [hx, St.at_some hri]
  have hnr := hnum r (List.mem_of_getElem? hri)
  have HRI := Lib.hid hri
  have HRB := Lib.hid hrb
  have hF1 := hF0.below hbb hF0.lt
  have hT1 := hT0.below hbb hT0.lt
  have lT := hT0.lt
  have lF := hF0.lt
  have hFT : F ≠ T := box_ne hF0 hT0 (by decide)
  unfold sC at hX
  clear hF0 hT0 hri hrb hx hnum
  show Calls Tryd.prog 66 #[.pointer (some ⟨b, z.toNat * 5, none⟩), .pointer (some ⟨F, 0, none⟩), .pointer (some ⟨T, 0, none⟩)] W _
  have kF := hF1.cell
  have kT := hT1.cell
  have fT := hT1.frozen
  go_enter Tryd.func66, Tryd.ntmps66
  go_wp2_with fail
  refine (itakeF b (z.toNat * 5) _).mono ?_
  rintro e w1 ⟨rfl, rfl⟩
  go_upto_region 2 with fail
  refine wp_abs (fun W' => Till M T W W' ∧ BoxAt W' F #[.func (.func 40) #[] #[]] 61 ∧ BoxAt W' T #[.int .i64 r.h] 2 ∧ BoxAt W' X #[.int .i64 s.rd, .int .i64 s.mo, .slice (some ⟨b, 0, none⟩) n m, .int .i64 s.fi, .int .i64 s.la] 28 ∧ RgsD M X W' (some ⟨b, 0, none⟩) n m s.rs ∧ X < W'.heap.size) ⟨(Till.refl _ _ _).set (.inr rfl) _ _, hF1.set_ne hFT _ _, by simpa using hT1.set 0 (.int .i64 r.h), hX.set_ne (by omega) _ _, hRg.setD (.inl (by omega)) _ _, by simpa using hXW⟩ ?_
  clear kF kT fT d0 d1 d2 d3 df hF1 hT1 hX hRg hbx
  rintro W2 ⟨hti, hF1, hT1, hX, hRg, hXW2⟩
  obtain ⟨_, _, ⟨cb2, hbx⟩, d0, d1, d2, d3, df, _⟩ := hRg.ring HRI.out
  have kF := hF1.cell
  go_wp2_with fail
  clear kF
  refine (itakeF b (z.toNat * 5) _).mono ?_
  rintro e w1 ⟨rfl, rfl⟩
  obtain ⟨hr0, hr1⟩ := hnr
  go_wp2
  go_ret
  refine .mkYes (t := { s with rs := s.rs.set z.toNat { r with h := r.h + 1 } }) (by rw [onRingC_yes HRB.out HRI.out]; rfl) (hti.set (.inl hMb) _ _) (hT1.set_ne (by omega) _ _) (hX.set_ne (by omega) _ _) ?_
  exact (hRg.turn1 (r' := { r with h := r.h + 1 }) (j := 0) HRI.out rfl (by omega) (fun a h1 h2 h3 h4 => by simp [Rw.cs, h2, h3, h4])).mono (Nat.le_refl _) (by simp; omega)

theorem iputF (b o : Nat) (w : World) : Calls Tryd.prog 44 #[.pointer (some ⟨b, o, none⟩)] w (fun e w' => e = .returned (.pointer (some ⟨b, o + 1, none⟩)) ∧ w = w') := by
  go_enter Tryd.func44, Tryd.ntmps44
  go_wp2
  go_ret
  exact ⟨rfl, rfl⟩
set_option maxRecDepth 100000 in
set_option maxHeartbeats 4000000 in
theorem iput1 (s : St) (z : Int) (n F T : Nat) (a0 : Addr) (x : Int) (w : World) (hF0 : BoxAt w F #[.func (.func 44) #[] #[]] 61) (hT0 : BoxAt w T #[.int .i64 (-1)] 2) (hx : x = (s.at z).t) (hnum : ∀ r ∈ s.rs, 0 ≤ r.t ∧ r.t ≤ 1000000) :
    RChanges tailC s z n a0 T (fun W => BoxAt W T #[.int .i64 x] 2) 66 [.pointer (some ⟨F, 0, none⟩), .pointer (some ⟨T, 0, none⟩)] w := by
  intro W X b m M r hbb hNM hMX hXW hX hRg hrb hri
  obtain ⟨hMb, hbX, ⟨cb, hbx⟩, d0, d1, d2, d3, df, _⟩ := hRg.ring hri
  obtain rfl : x = r.t := by rw [hx, St.at_some hri]
  have hnr := hnum r (List.mem_of_getElem? hri)
  have HRI := Lib.hid hri
  have HRB := Lib.hid hrb
  have hF1 := hF0.below hbb hF0.lt
  have hT1 := hT0.below hbb hT0.lt
  have lT := hT0.lt
  have lF := hF0.lt
  have hFT : F ≠ T := box_ne hF0 hT0 (by decide)
  unfold sC at hX
  clear hF0 hT0 hri hrb hx hnum
  show Calls Tryd.prog 66 #[.pointer (some ⟨b, z.toNat * 5, none⟩), .pointer (some ⟨F, 0, none⟩), .pointer (some ⟨T, 0, none⟩)] W _
  have kF := hF1.cell
  have kT := hT1.cell
  have fT := hT1.frozen
  go_enter Tryd.func66, Tryd.ntmps66
  go_wp2_with fail
  refine (iputF b (z.toNat * 5) _).mono ?_
  rintro e w1 ⟨rfl, rfl⟩
  go_upto_region 2 with fail
  refine wp_abs (fun W' => Till M T W W' ∧ BoxAt W' F #[.func (.func 44) #[] #[]] 61 ∧ BoxAt W' T #[.int .i64 r.t] 2 ∧ BoxAt W' X #[.int .i64 s.rd, .int .i64 s.mo, .slice (some ⟨b, 0, none⟩) n m, .int .i64 s.fi, .int .i64 s.la] 28 ∧ RgsD M X W' (some ⟨b, 0, none⟩) n m s.rs ∧ X < W'.heap.size) ⟨(Till.refl _ _ _).set (.inr rfl) _ _, hF1.set_ne hFT _ _, by simpa using hT1.set 0 (.int .i64 r.t), hX.set_ne (by omega) _ _, hRg.setD (.inl (by omega)) _ _, by simpa using hXW⟩ ?_
  clear kF kT fT d0 d1 d2 d3 df hF1 hT1 hX hRg hbx
  rintro W2 ⟨hti, hF1, hT1, hX, hRg, hXW2⟩
  obtain ⟨_, _, ⟨cb2, hbx⟩, d0, d1, d2, d3, df, _⟩ := hRg.ring HRI.out
  have kF := hF1.cell
  go_wp2_with fail
  clear kF
  refine (iputF b (z.toNat * 5) _).mono ?_
  rintro e w1 ⟨rfl, rfl⟩
  obtain ⟨hr0, hr1⟩ := hnr
  go_wp2
  go_ret
  refine .mkYes (t := { s with rs := s.rs.set z.toNat { r with t := r.t + 1 } }) (by rw [onRingC_yes HRB.out HRI.out]; rfl) (hti.set (.inl hMb) _ _) (hT1.set_ne (by omega) _ _) (hX.set_ne (by omega) _ _) ?_
  exact (hRg.turn1 (r' := { r with t := r.t + 1 }) (j := 1) HRI.out rfl (by omega) (fun a h1 h2 h3 h4 => by simp [Rw.cs, h1, h3, h4])).mono (Nat.le_refl _) (by simp; omega)

end Go.Proofs.YtbpjhdoldodlnaaDoor

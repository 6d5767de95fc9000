/-
 What the functions on stores, hands, crews and stories answer, as plain functions on plain data.
-/
import Derived.Test.YthpckpnlohfcbaaGreatDoorRingD
namespace Go.Proofs.YthpckpnlohfcbaaGreatDoor
set_option linter.unusedSimpArgs false
set_option linter.unusedVariables false
structure Rg where
 h : Int
 t : Int
 c : Bool
 x : Int
 ps : List Pl
structure St where
 rd : Int
 mo : Int
 rs : List Rg
 fi : Int
 la : Int
structure AS where
 s : St
 A : Option Addr
 n : Nat
 c : Nat
def aS (s : St) (A : Option Addr) (n c : Nat) : AS := ⟨s, A, n, c⟩
instance (s : St) (A : Option Addr) (n c : Nat) : CoeDep AS (aS s A n c) (List Value) := ⟨[Value.int .i64 s.rd, Value.int .i64 s.mo, Value.slice A n c, Value.int .i64 s.fi, Value.int .i64 s.la]⟩
instance (s : St) (A : Option Addr) (n c : Nat) : CoeDep AS (aS s A n c) (Array Value) := ⟨#[Value.int .i64 s.rd, Value.int .i64 s.mo, Value.slice A n c, Value.int .i64 s.fi, Value.int .i64 s.la]⟩
structure DS where
 a : Int
 b : Int
 A : Option Addr
 n : Nat
 c : Nat
 f : Int
 l : Int
def dS (a b : Int) (A : Option Addr) (n c : Nat) (f l : Int) : DS := ⟨a, b, A, n, c, f, l⟩
instance (a b : Int) (A : Option Addr) (n c : Nat) (f l : Int) : CoeDep DS (dS a b A n c f l) (List Value) := ⟨[Value.int .i64 a, Value.int .i64 b, Value.slice A n c, Value.int .i64 f, Value.int .i64 l]⟩
instance (a b : Int) (A : Option Addr) (n c : Nat) (f l : Int) : CoeDep DS (dS a b A n c f l) (Array Value) := ⟨#[Value.int .i64 a, Value.int .i64 b, Value.slice A n c, Value.int .i64 f, Value.int .i64 l]⟩
inductive ZS where
 | z
def zS : ZS := .z
instance : CoeDep ZS zS (List Value) := ⟨[Value.int .i64 0, Value.int .i64 0, Value.slice none 0 0, Value.int .i64 0, Value.int .i64 0]⟩
instance : CoeDep ZS zS (Array Value) := ⟨#[Value.int .i64 0, Value.int .i64 0, Value.slice none 0 0, Value.int .i64 0, Value.int .i64 0]⟩
theorem rgOk_len' {h t x : Int} {c : Bool} {l : List Pl} (e : rgOk h t c x l = true) : 2 ≤ l.length ∧ l.length ≤ 8 := by
 simp [rgOk, roundB] at e; omega
def Rg.ok (r : Rg) : Bool := rgOk r.h r.t r.c r.x r.ps
def Rg.fresh (n : Nat) : Rg := ⟨0, 0, false, -1, Go.Proofs.YthpckpnlohfcbaaGreatDoor.fresh n⟩
def Rg.seed (n : Nat) (v : Int) : Rg := ⟨0, 1, false, -1, (Go.Proofs.YthpckpnlohfcbaaGreatDoor.fresh n).set 0 ⟨true, 0, true, v⟩⟩
def St.zero : St := ⟨0, 0, [], 0, 0⟩
def chain (rs : List Rg) : Nat → Int → Option (List Int)
 | k, z => if z < 0 then some [] else match k with
  | 0 => none
  | k + 1 => match rs[z.toNat]? with
   | some r => (chain rs k r.x).map (z :: ·)
   | none => none
termination_by k => k
theorem chain_neg {rs : List Rg} {k : Nat} {z : Int} (h : z < 0) : chain rs k z = some [] := by
 unfold chain; simp [h]
theorem chain_zero {rs : List Rg} {z : Int} (h : ¬ z < 0) : chain rs 0 z = none := by
 unfold chain; simp [h]
theorem chain_succ {rs : List Rg} {k : Nat} {z : Int} {r : Rg} (h : ¬ z < 0) (hr : rs[z.toNat]? = some r) : chain rs (k + 1) z = (chain rs k r.x).map (z :: ·) := by
 conv => lhs; unfold chain
 simp [h, hr]
def inSt (rd : Int) (n : Nat) (r : Rg) : Bool := r.ok && ((r.ps.length : Int) == rd) && decide (r.x < n)
def stHead (s : St) : Bool := roundB s.rd && inB s.mo 1 16 && inB s.rs.length 1 s.mo && inB s.fi 0 (s.rs.length - 1) && inB s.la 0 (s.rs.length - 1)
def stOk (s : St) : Bool := stHead s && s.rs.all (inSt s.rd s.rs.length) && (List.range s.rs.length).all fun i => (chain s.rs s.rs.length (i : Int)).isSome
def ringB (s : St) (z : Int) : Bool := inB z 0 ((s.rs.length : Int) - 1)
def St.turn (s : St) (z : Int) (f : Rg → Rg) : St := match s.rs[z.toNat]? with
 | some r => { s with rs := s.rs.set z.toNat (f r) }
 | none => s
def St.at (s : St) (z : Int) : Rg := s.rs.getD z.toNat ⟨0, 0, false, -1, []⟩
theorem St.turn_some {s : St} {z : Int} {f : Rg → Rg} {r : Rg} (h : s.rs[z.toNat]? = some r) : s.turn z f = { s with rs := s.rs.set z.toNat (f r) } := by simp [St.turn, h]
theorem St.at_some {s : St} {z : Int} {r : Rg} (h : s.rs[z.toNat]? = some r) : s.at z = r := by simp [St.at, h]
def thenB (s out : St) : St × Bool := if stOk out then (out, true) else (s, false)
def takeTicket (s : St) (z : Int) : St × Int :=
 if !stOk s then (.zero, -1) else if !ringB s z then (s, -1) else
 if (thenB s (s.turn z fun r => { r with h := r.h + 1 })).2 then ((thenB s (s.turn z fun r => { r with h := r.h + 1 })).1, (s.at z).h) else ((thenB s (s.turn z fun r => { r with h := r.h + 1 })).1, -1)
def putTicket (s : St) (z : Int) : St × Int :=
 if !stOk s then (.zero, -1) else if !ringB s z then (s, -1) else
 if (thenB s (s.turn z fun r => { r with t := r.t + 1 })).2 then ((thenB s (s.turn z fun r => { r with t := r.t + 1 })).1, (s.at z).t) else ((thenB s (s.turn z fun r => { r with t := r.t + 1 })).1, -1)
def closeR (s : St) (z : Int) : St × Bool :=
 if !stOk s then (.zero, false) else if !ringB s z then (s, false) else (s.turn z fun r => { r with c := true }, true)
def raiseTail (s : St) (z seen y : Int) : St × Bool :=
 if !stOk s then (.zero, false) else if !ringB s z || (s.at z).c || (s.at z).t != seen then (s, false) else thenB s (s.turn z fun r => { r with t := y })
def linkR (s : St) (z y : Int) : St × Bool :=
 if !stOk s then (.zero, false) else if !ringB s z || !ringB s y || (s.at z).x != -1 then (s, false) else thenB s (s.turn z fun r => { r with x := y })
def swing (s : St) (last : Bool) (seen y : Int) : St × Bool :=
 if !stOk s then (.zero, false) else if (if last then s.la else s.fi) != seen || !ringB s y then (s, false) else
 (if last then { s with la := y } else { s with fi := y }, true)
def addRing (s : St) (v : Int) : St × Int :=
 if !stOk s then (.zero, -1) else if (s.rs.length : Int) == s.mo || !valB v then (s, -1) else ({ s with rs := s.rs ++ [Rg.seed s.rd.toNat v] }, s.rs.length)
def Pl.eqB (p q : Pl) : Bool := p.s == q.s && p.n == q.n && p.f == q.f && p.v == q.v
def swapPlace (s : St) (z at_ : Int) (seen y : Pl) : St × Bool :=
 if !stOk s then (.zero, false) else if !ringB s z || !inB at_ 0 (s.rd - 1) then (s, false) else
 match (s.at z).ps[at_.toNat]? with
 | some p => if p.eqB seen then thenB s (s.turn z fun r => { r with ps := r.ps.set at_.toNat y }) else (s, false)
 | none => (s, false)
def Neat (s : St) : Prop := 1 ≤ s.rs.length ∧ s.rs.length ≤ 16 ∧ ∀ r ∈ s.rs, 0 < r.ps.length ∧ r.ps.length ≤ 8
theorem stOk_neat {s : St} (h : stOk s = true) : Neat s := by
 simp only [stOk, Bool.and_eq_true] at h
 obtain ⟨⟨h1, h2⟩, _⟩ := h
 simp only [stHead, Bool.and_eq_true, inB, decide_eq_true_eq] at h1
 refine ⟨by omega, by omega, fun r hr => ?_⟩
 have := List.all_eq_true.1 h2 r hr
 simp only [inSt, Bool.and_eq_true, Rg.ok] at this
 have := rgOk_len' this.1.1
 omega
theorem stOk_places {s : St} (h : stOk s = true) : ∀ r ∈ s.rs, (r.ps.length : Int) = s.rd := by
 intro r hr
 simp only [stOk, Bool.and_eq_true] at h
 have := List.all_eq_true.1 h.1.2 r hr
 simp only [inSt, Bool.and_eq_true, beq_iff_eq] at this
 exact this.1.2
theorem stOk_rd {s : St} (h : stOk s = true) : 2 ≤ s.rd ∧ s.rd ≤ 8 := by
 simp only [stOk, stHead, Bool.and_eq_true, roundB, decide_eq_true_eq] at h
 exact h.1.1.1.1.1.1
end Go.Proofs.YthpckpnlohfcbaaGreatDoor

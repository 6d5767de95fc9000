/-
 Crews: what the functions on them answer, as plain functions on plain data; how they lie in memory.
-/
import Derived.Test.YtibmbanbaopeiaaGreatStep2
import Derived.Test.YtibmbanbaopeiaaGreatGrow3
import Derived.Test.YtibmbanbaopeiaaGreatStoreN
namespace Go.Proofs.YtibmbanbaopeiaaGreat
set_option linter.unusedSimpArgs false
set_option linter.unusedVariables false
open Go.RowKit
set_option linter.unusedVariables false
attribute [local go_sem ↓] Go.wp_at_zero Go.wp_at_succ

structure Ev where
 who : Int
 put : Bool
 v : Int
 re : Int
 b : Int
 e : Int
def Ev.cs (x : Ev) : List Value := [.int .i64 x.who, .bool x.put, .int .i64 x.v, .int .i64 x.re, .int .i64 x.b, .int .i64 x.e]
theorem Ev.cs_len (x : Ev) : x.cs.length = 6 := rfl
def Hd.cs (h : Hd) : List Value := [.int .i64 h.at_, .int .i64 h.v, .int .i64 h.r, .int .i64 h.t, .bool h.seen.s, .int .i64 h.seen.n, .bool h.seen.f, .int .i64 h.seen.v, .int .i64 h.tr, .int .i64 h.sp, .bool h.ag, .int .i64 h.re]
theorem Hd.cs_len (h : Hd) : h.cs.length = 12 := rfl

structure Cr where
 st : St
 hs : List Hd
 js : List (List Int)
 bs : List Int
 ck : Int
 es : List Ev
def Cr.zero : Cr := ⟨.zero, [], [], [], 0, []⟩

def evOk (x : Ev) : Bool := inB x.who 0 3 && inB x.e 0 2000 && inB x.b 0 x.e && (bif x.put then valB x.v && (x.re == 1 || x.re == 2) else (x.re == 4 && valB x.v) || (x.re == 3 && x.v == 0))
def storyOk (l : List Ev) : Bool := l.all evOk && decide (l.length ≤ 16)
def jobB (z : Int) : Bool := inB z 0 1000000
def jobsOk (l : List Int) : Bool := l.all jobB && decide (l.length ≤ 4)
def crHead (c : Cr) : Bool := stOk c.st && inB c.hs.length 1 4 && (c.js.length == c.hs.length) && (c.bs.length == c.hs.length) && inB c.ck 0 2000 && storyOk c.es
def crAt (c : Cr) (i : Nat) : Bool := fits c.st (c.hs.getD i .zero) && jobsOk (c.js.getD i []) && inB (c.bs.getD i 0) 0 c.ck
def crOk (c : Cr) : Bool := crHead c && (List.range c.hs.length).all (crAt c)

/-! ### Slices of rows of their own -/

/-- A slice that is nil, or a row of its own from block lo on and below hi. -/
def SlW {α : Type} (f : α → List Value) (k : Nat) (e : TypeId) (lo hi : Nat) (w : World) (A : Option Addr) (n cap : Nat) (l : List α) : Prop :=
 l.length = n ∧ ((A = none ∧ n = 0 ∧ cap = 0) ∨ ∃ b, A = some ⟨b, 0, none⟩ ∧ b < hi ∧ Own f k e lo w b n cap l)

/-- What can be copied out of a slice. -/
def SrcW {α : Type} (f : α → List Value) (w : World) (A : Option Addr) (n cap : Nat) (l : List α) : Prop :=
 l.length = n ∧ (A = none → n = 0 ∧ cap = 0) ∧ ∀ ad, A = some ad → ∀ j u, (l.flatMap f)[j]? = some u → w.cell? (ad.add j) = some u

section
variable {α : Type} {f : α → List Value} {k : Nat} {e : TypeId} {lo hi lo' hi' : Nat} {w w' : World} {A : Option Addr} {n cap : Nat} {l : List α}
theorem SlW.keep (h : SlW f k e lo hi w A n cap l) (hs : SameIn lo hi w w') : SlW f k e lo hi w' A n cap l :=
 ⟨h.1, by
  rcases h.2 with h2 | ⟨b, e, hb, ho⟩
  · exact .inl h2
  · exact .inr ⟨b, e, hb, Own.keep ho (hs b ho.2.1 hb)⟩⟩
theorem SlW.mono (h : SlW f k e lo hi w A n cap l) (h1 : lo' ≤ lo) (h2 : hi ≤ hi') : SlW f k e lo' hi' w A n cap l :=
 ⟨h.1, by
  rcases h.2 with h2 | ⟨b, e, hb, ho⟩
  · exact .inl h2
  · exact .inr ⟨b, e, by omega, ho.mono h1⟩⟩
theorem SlW.cut (h : SlW f k e lo hi w A n cap l) : SlW f k e lo w.heap.size w A n cap l :=
 ⟨h.1, by
  rcases h.2 with h2 | ⟨b, e, hb, ho⟩
  · exact .inl h2
  · exact .inr ⟨b, e, Own.lt ho, ho⟩⟩
theorem SlW.below (h : SlW f k e lo hi w A n cap l) (hb : Below w.heap.size w w') (hh : hi ≤ w.heap.size) : SlW f k e lo hi w' A n cap l := h.keep (.below hb hh)
theorem SlW.st (h : SlW f k e lo hi w A n cap l) {b : Nat} (hk : b < lo ∨ hi ≤ b) (i : Nat) (u : Value) : SlW f k e lo hi (w.setCell ⟨b, i, none⟩ u) A n cap l := h.keep (.set hk i u)
theorem SlW.sts (h : SlW f k e lo hi w A n cap l) {b : Nat} (hk : b < lo ∨ hi ≤ b) (us : List Value) (o : Nat) : SlW f k e lo hi (setCells w b o us) A n cap l :=
 h.keep fun j h1 h2 => sets_block (by omega) us o w
theorem SlW.al (h : SlW f k e lo hi w A n cap l) (hh : hi ≤ w.heap.size) (o : Obj) : SlW f k e lo hi (w.alloc o) A n cap l := h.keep (.alloc hh o)
/-- Cells of a block of another type are written. -/
theorem SlW.setsT (h : SlW f k e lo hi w A n cap l) {b : Nat} {cs : Array Value} {t : TypeId} (hk : BoxAt w b cs t) (ht : t ≠ e) (us : List Value) (o : Nat) : SlW f k e lo hi (setCells w b o us) A n cap l :=
 ⟨h.1, by
  rcases h.2 with h2 | ⟨g, eq, hb, ho⟩
  · exact .inl h2
  ·
   refine .inr ⟨g, eq, hb, Own.keep ho (sets_block ?_ us o w)⟩
   rintro rfl
   obtain ⟨_, _, _, _, cur, hc, _⟩ := ho
   unfold BoxAt at hc hk
   rw [hk] at hc
   injection hc with hc
   injection hc with _ hc
   exact ht hc⟩
theorem SlW.of_own {v : Value} (h : w.ownsRow lo e k v n (l.flatMap f)) (hl : l.length = n) : ∃ A cap, v = .slice A n cap ∧ SlW f k e lo w.heap.size w A n cap l := by
 rcases h.2 with ⟨hv, h1⟩ | ⟨g, cap, cur, hv, hg, hb, hc, hm, hs, ht⟩
 · exact ⟨none, 0, by rw [hv, h1], hl, .inl ⟨rfl, h1, rfl⟩⟩
 · exact ⟨some ⟨g, 0, none⟩, cap, hv, hl, .inr ⟨g, rfl, (Array.getElem?_eq_some_iff.1 hb).1, hl, hg, hc, hm, cur, hb, hs, ht⟩⟩
theorem SlW.own (h : SlW f k e lo hi w A n cap l) (hf : ∀ x, (f x).length = k) : w.ownsRow lo e k (.slice A n cap) n (l.flatMap f) := by
 rcases h.2 with ⟨rfl, rfl, rfl⟩ | ⟨g, rfl, _, ho⟩
 ·
  have : l = [] := List.eq_nil_of_length_eq_zero h.1
  subst this
  exact World.ownsRow_nil w lo e k
 · exact Own.own ho hf
theorem SlW.nil : SlW f k e lo hi w none 0 0 [] := ⟨rfl, .inl ⟨rfl, rfl, rfl⟩⟩
theorem SlW.src (h : SlW f k e lo hi w A n cap l) (hf : ∀ x, (f x).length = k) : SrcW f w A n cap l := by
 refine ⟨h.1, fun hA => ?_, fun ad had => ?_⟩
 ·
  rcases h.2 with ⟨_, h2, h3⟩ | ⟨g, hg, _⟩
  · exact ⟨h2, h3⟩
  · rw [hg] at hA; cases hA
 ·
  rcases h.2 with ⟨h1, _⟩ | ⟨g, hg, _, ho⟩
  · rw [h1] at had; cases had
  ·
   rw [hg] at had
   injection had with had
   subst had
   exact (Own.own ho hf).cells rfl
/-- One element's cells. -/
theorem SlW.at_ (h : SlW f k e lo hi w A n cap l) (hf : ∀ x, (f x).length = k) {i : Nat} (hin : i < n) : ∃ (b : Nat) (x : α), A = some ⟨b, 0, none⟩ ∧ lo ≤ b ∧ b < hi ∧ l[i]? = some x ∧ ∀ j u, (f x)[j]? = some u → w.cell? ⟨b, i * k + j, none⟩ = some u := by
 rcases h.2 with ⟨_, h1, _⟩ | ⟨g, hg, hb, ho⟩
 · omega
 ·
  have hl : i < l.length := by have := h.1; omega
  exact ⟨g, l[i], hg, ho.2.1, hb, List.getElem?_eq_getElem hl, fun j u hu => Own.cell_ hf ho (List.getElem?_eq_getElem hl) hu⟩
end

/-- A list's one cell. -/
structure Jw where
 A : Option Addr
 n : Nat
 cap : Nat
def Jw.cs (a : Jw) : List Value := [.slice a.A a.n a.cap]
theorem Jw.cs_len (a : Jw) : a.cs.length = 1 := rfl
def IntsW (lo hi : Nat) (w : World) (A : Option Addr) (n cap : Nat) (l : List Int) : Prop := SlW ic 1 2 lo hi w A n cap l
def EachW (lo hi : Nat) (w : World) (rows : List Jw) (L : List (List Int)) : Prop := rows.length = L.length ∧ ∀ (i : Nat) (a : Jw) (l : List Int), rows[i]? = some a → L[i]? = some l → IntsW lo hi w a.A a.n a.cap l
/-- Lists in a slice of their own. -/
def ListsW (lo hi : Nat) (w : World) (A : Option Addr) (n cap : Nat) (L : List (List Int)) : Prop := ∃ rows : List Jw, SlW Jw.cs 1 32 lo hi w A n cap rows ∧ EachW lo hi w rows L

section
variable {lo hi lo' hi' : Nat} {w w' : World} {A : Option Addr} {n cap : Nat} {L : List (List Int)} {rows : List Jw}
theorem EachW.keep (h : EachW lo hi w rows L) (hs : SameIn lo hi w w') : EachW lo hi w' rows L := ⟨h.1, fun i a l ha hl => SlW.keep (h.2 i a l ha hl) hs⟩
theorem EachW.mono (h : EachW lo hi w rows L) (h1 : lo' ≤ lo) (h2 : hi ≤ hi') : EachW lo' hi' w rows L := ⟨h.1, fun i a l ha hl => SlW.mono (h.2 i a l ha hl) h1 h2⟩
theorem EachW.cut (h : EachW lo hi w rows L) : EachW lo w.heap.size w rows L := ⟨h.1, fun i a l ha hl => SlW.cut (h.2 i a l ha hl)⟩
theorem EachW.setsT (h : EachW lo hi w rows L) {b : Nat} {cs : Array Value} {t : TypeId} (hk : BoxAt w b cs t) (ht : t ≠ 2) (us : List Value) (o : Nat) : EachW lo hi (setCells w b o us) rows L :=
 ⟨h.1, fun i a l ha hl => SlW.setsT (h.2 i a l ha hl) hk ht us o⟩
theorem ListsW.len (h : ListsW lo hi w A n cap L) : L.length = n := by obtain ⟨rows, h1, h2⟩ := h; rw [← h2.1]; exact h1.1
theorem ListsW.keep (h : ListsW lo hi w A n cap L) (hs : SameIn lo hi w w') : ListsW lo hi w' A n cap L := by
 obtain ⟨rows, h1, h2⟩ := h; exact ⟨rows, h1.keep hs, h2.keep hs⟩
theorem ListsW.mono (h : ListsW lo hi w A n cap L) (h1 : lo' ≤ lo) (h2 : hi ≤ hi') : ListsW lo' hi' w A n cap L := by
 obtain ⟨rows, k1, k2⟩ := h; exact ⟨rows, k1.mono h1 h2, k2.mono h1 h2⟩
theorem ListsW.cut (h : ListsW lo hi w A n cap L) : ListsW lo w.heap.size w A n cap L := by
 obtain ⟨rows, k1, k2⟩ := h; exact ⟨rows, k1.cut, k2.cut⟩
theorem ListsW.below (h : ListsW lo hi w A n cap L) (hb : Below w.heap.size w w') (hh : hi ≤ w.heap.size) : ListsW lo hi w' A n cap L := h.keep (.below hb hh)
theorem ListsW.setsT (h : ListsW lo hi w A n cap L) {b : Nat} {cs : Array Value} {t : TypeId} (hk : BoxAt w b cs t) (ht : t ≠ 2) (ht' : t ≠ 32) (us : List Value) (o : Nat) : ListsW lo hi (setCells w b o us) A n cap L := by
 obtain ⟨rows, k1, k2⟩ := h; exact ⟨rows, k1.setsT hk ht' us o, k2.setsT hk ht us o⟩
theorem ListsW.nil : ListsW lo hi w none 0 0 [] := ⟨[], SlW.nil, rfl, fun i a l h => by simp at h⟩
theorem ListsW.at_ (h : ListsW lo hi w A n cap L) {i : Nat} (hin : i < n) : ∃ (b : Nat) (l : List Int) (A' : Option Addr) (n' cap' : Nat), A = some ⟨b, 0, none⟩ ∧ lo ≤ b ∧ b < hi ∧ L[i]? = some l ∧ w.cell? ⟨b, i, none⟩ = some (.slice A' n' cap') ∧ IntsW lo hi w A' n' cap' l := by
 have hL := h.len
 obtain ⟨rows, h1, h2⟩ := h
 obtain ⟨b, x, hA, h3, h4, hx, hc⟩ := h1.at_ Jw.cs_len hin
 have hl : L[i]? = some (L[i]'(by omega)) := List.getElem?_eq_getElem (by omega)
 refine ⟨b, L[i]'(by omega), x.A, x.n, x.cap, hA, h3, h4, hl, ?_, h2.2 i x _ hx hl⟩
 have := hc 0 _ rfl
 simpa using this
end

/-- Where a crew's lists lie. -/
structure Slc where
 A : Option Addr
 n : Nat
 cap : Nat
structure CrL where
 s : Slc
 h : Slc
 j : Slc
 b : Slc
 e : Slc
def crCs (c : Cr) (y : CrL) : List Value := [.int .i64 c.st.rd, .int .i64 c.st.mo, .slice y.s.A y.s.n y.s.cap, .int .i64 c.st.fi, .int .i64 c.st.la, .slice y.h.A y.h.n y.h.cap, .slice y.j.A y.j.n y.j.cap, .slice y.b.A y.b.n y.b.cap, .int .i64 c.ck, .slice y.e.A y.e.n y.e.cap]
def crV (c : Cr) (y : CrL) : Value := .agg #[.int .i64 c.st.rd, .int .i64 c.st.mo, .slice y.s.A y.s.n y.s.cap, .int .i64 c.st.fi, .int .i64 c.st.la, .slice y.h.A y.h.n y.h.cap, .slice y.j.A y.j.n y.j.cap, .slice y.b.A y.b.n y.b.cap, .int .i64 c.ck, .slice y.e.A y.e.n y.e.cap]
def HdsW (lo hi : Nat) (w : World) (A : Option Addr) (n cap : Nat) (l : List Hd) : Prop := SlW Hd.cs 12 116 lo hi w A n cap l
def EvsW (lo hi : Nat) (w : World) (A : Option Addr) (n cap : Nat) (l : List Ev) : Prop := SlW Ev.cs 6 135 lo hi w A n cap l
structure CrW (lo hi : Nat) (w : World) (c : Cr) (y : CrL) : Prop where
 s : RgsW lo hi w y.s.A y.s.n y.s.cap c.st.rs
 h : HdsW lo hi w y.h.A y.h.n y.h.cap c.hs
 j : ListsW lo hi w y.j.A y.j.n y.j.cap c.js
 b : IntsW lo hi w y.b.A y.b.n y.b.cap c.bs
 e : EvsW lo hi w y.e.A y.e.n y.e.cap c.es

section
variable {lo hi lo' hi' : Nat} {w w' : World} {c : Cr} {y : CrL}
theorem CrW.keep (h : CrW lo hi w c y) (hs : SameIn lo hi w w') : CrW lo hi w' c y := ⟨h.s.keep hs, SlW.keep h.h hs, h.j.keep hs, SlW.keep h.b hs, SlW.keep h.e hs⟩
theorem CrW.mono (h : CrW lo hi w c y) (h1 : lo' ≤ lo) (h2 : hi ≤ hi') : CrW lo' hi' w c y := ⟨h.s.mono h1 h2, SlW.mono h.h h1 h2, h.j.mono h1 h2, SlW.mono h.b h1 h2, SlW.mono h.e h1 h2⟩
theorem CrW.cut (h : CrW lo hi w c y) : CrW lo w.heap.size w c y := ⟨h.s.cut, SlW.cut h.h, h.j.cut, SlW.cut h.b, SlW.cut h.e⟩
theorem CrW.below (h : CrW lo hi w c y) (hb : Below w.heap.size w w') (hh : hi ≤ w.heap.size) : CrW lo hi w' c y := h.keep (.below hb hh)
theorem CrW.st (h : CrW lo hi w c y) {b : Nat} (hk : b < lo ∨ hi ≤ b) (i : Nat) (u : Value) : CrW lo hi (w.setCell ⟨b, i, none⟩ u) c y := h.keep (.set hk i u)
theorem CrW.drew (h : CrW lo hi w c y) : CrW lo hi w.drew c y := ⟨h.s, h.h, h.j, h.b, h.e⟩
theorem CrW.sts (h : CrW lo hi w c y) {b : Nat} (hk : b < lo ∨ hi ≤ b) (us : List Value) (o : Nat) : CrW lo hi (setCells w b o us) c y := h.keep fun j h1 h2 => sets_block (by omega) us o w
end
theorem CrW.sl {lo hi : Nat} {w : World} {c : Cr} {y : CrL} (h : CrW lo hi w c y) {b : Nat} {i : Nat} {u : Value} (hk : b < lo := by omega) : CrW lo hi (w.setCell ⟨b, i, none⟩ u) c y := h.st (.inl hk) i u

/-- Its lists are no longer than what is reckoned with. -/
structure CrFit (c : Cr) : Prop where
 s : c.st.rs.length ≤ 1048576
 p : ∀ r ∈ c.st.rs, r.ps.length ≤ 1048576
 h : c.hs.length ≤ 1048576
 j : c.js.length ≤ 1048576
 l : ∀ l ∈ c.js, l.length ≤ 1048576
 b : c.bs.length ≤ 1048576
 e : c.es.length ≤ 1048576

/-- A crew is returned. -/
def RetCr (q : Cr) (w : World) (e : Ending) (w' : World) : Prop := ∃ y, e = .returned (crV q y) ∧ CrW w.heap.size w'.heap.size w' q y ∧ Below w.heap.size w w'
/-- A crew and a bool are returned. -/
def RetCrB (q : Cr × Bool) (w : World) (e : Ending) (w' : World) : Prop := ∃ y, e = .returned (.tuple #[crV q.1 y, .bool q.2]) ∧ CrW w.heap.size w'.heap.size w' q.1 y ∧ Below w.heap.size w w'

/-! ### The tests of events, of stories and of jobs -/

set_option maxHeartbeats 1000000 in
theorem l10Event_any (x : Ev) (w : World) : Calls Tryz.prog 102 #[.agg #[.int .i64 x.who, .bool x.put, .int .i64 x.v, .int .i64 x.re, .int .i64 x.b, .int .i64 x.e]] w (RetBelow (.bool (evOk x)) w) := by
 obtain ⟨who, put, v, re, b, en⟩ := x
 dsimp only
 go_enter Tryz.func102, Tryz.ntmps102
 go_wp2_with fail
 refine calls_abs (fun W => Below w.heap.size w W ∧ BoxAt W w.heap.size #[.int .i64 who, .bool put, .int .i64 v, .int .i64 re, .int .i64 b, .int .i64 en] 135) ⟨(Below.refl _ _).alloc (Nat.le_refl _) _, BoxAt.new _ _ _⟩ ?_
 rintro W ⟨hB, hx⟩
 have kx := hx.cell
 refine (l1In_any _ _ _ _).mono ?_
 rintro e w' ⟨rfl, rfl⟩
 cases h0 : inB who 0 3
 ·
  go_wp2
  go_ret
  exact .mk (by simp [evOk, h0]) hB
 go_wp2_with fail
 refine (l1In_any _ _ _ _).mono ?_
 rintro e w' ⟨rfl, rfl⟩
 cases h1 : inB en 0 2000
 ·
  go_wp2
  go_ret
  exact .mk (by simp [evOk, h1]) hB
 go_wp2_with fail
 refine (l1In_any _ _ _ _).mono ?_
 rintro e w' ⟨rfl, rfl⟩
 cases h2 : inB b 0 en
 ·
  go_wp2
  go_ret
  exact .mk (by simp [evOk, h2]) hB
 have HE := Lib.hid (show evOk ⟨who, put, v, re, b, en⟩ = (bif put then valB v && (re == 1 || re == 2) else (re == 4 && valB v) || (re == 3 && v == 0)) by simp [evOk, h0, h1, h2])
 clear h0 h1 h2
 cases put
 ·
  by_cases r4 : re = 4
  ·
   have e4 : (re == 4) = true := by simp [r4]
   have e3 : (re == 3) = false := by simp [r4]
   go_wp2_with fail
   refine (l1Value_any _ _).mono ?_
   rintro e w' ⟨rfl, rfl⟩
   cases hv : valB v
   ·
    go_wp2
    go_ret
    exact .mk (by rw [HE.out, hv, e3]; simp) hB
   ·
    go_wp2
    go_ret
    exact .mk (by rw [HE.out, hv, e4]; rfl) hB
  ·
   have e4 : (re == 4) = false := by simp [r4]
   by_cases r3 : re = 3
   ·
    have e3 : (re == 3) = true := by simp [r3]
    have HE2 := Lib.hid (show evOk ⟨who, false, v, re, b, en⟩ = (v == 0) by rw [HE.out, e4, e3]; simp)
    go_wp2
    go_ret
    exact .mk (congrArg Value.bool HE2.out.symm) hB
   ·
    have e3 : (re == 3) = false := by simp [r3]
    have HE2 := Lib.hid (show evOk ⟨who, false, v, re, b, en⟩ = false by rw [HE.out, e4, e3]; simp)
    go_wp2
    go_ret
    exact .mk (congrArg Value.bool HE2.out.symm) hB
 ·
  go_wp2_with fail
  refine (l1Value_any _ _).mono ?_
  rintro e w' ⟨rfl, rfl⟩
  cases hv : valB v
  ·
   go_wp2
   go_ret
   exact .mk (by rw [HE.out, hv]; rfl) hB
  ·
   by_cases r1 : re = 1
   ·
    have e1 : (re == 1) = true := by simp [r1]
    go_wp2
    go_ret
    exact .mk (by rw [HE.out, hv, e1]; rfl) hB
   ·
    have e1 : (re == 1) = false := by simp [r1]
    have HE2 := Lib.hid (show evOk ⟨who, true, v, re, b, en⟩ = (re == 2) by rw [HE.out, hv, e1]; simp)
    go_wp2
    go_ret
    exact .mk (congrArg Value.bool HE2.out.symm) hB

set_option maxHeartbeats 1000000 in
theorem sstoryOk_any (l : List Ev) (A : Option Addr) (n cap lo hi : Nat) (w : World) (h : EvsW lo hi w A n cap l) (hh : hi ≤ w.heap.size) (hm : n ≤ 1048576) :
  Calls Tryz.prog 94 #[.slice A n cap] w (RetBelow (.bool (storyOk l)) w) := by
 have HL := Lib.hid h.1
 go_enter Tryz.func94, Tryz.ntmps94
 go_wp2
 go_loopw [3] (fun s3 W => ∃ i : Nat, i ≤ n ∧ s3 = .int .i64 i ∧ Below w.heap.size w W ∧ ∀ (j : Nat) x, j < i → l[j]? = some x → evOk x = true) (fun s3 _ => n - (intOf s3).toNat)
 case atStart => exact ⟨0, Nat.zero_le _, rfl, Below.refl _ _, fun j x h => absurd h (by omega)⟩
 case round =>
  obtain ⟨i, hin, rfl, hB, hal⟩ := hrel
  have HAL := Lib.hid hal; clear hal
  by_cases hlt : i < n
  ·
   obtain ⟨b, x, rfl, hlb, hbh, hx, hc⟩ := SlW.at_ (SlW.below h hB hh) Ev.cs_len hlt
   have HX := Lib.hid hx; clear hx
   have c0 := hc 0 _ rfl
   have c1 := hc 1 _ rfl
   have c2 := hc 2 _ rfl
   have c3 := hc 3 _ rfl
   have c4 := hc 4 _ rfl
   have c5 := hc 5 _ rfl
   rw [Nat.add_zero] at c0
   clear hc
   have g1 : (i : Int) < (n : Int) := by omega
   have g2 : (0 : Int) ≤ (i : Int) := by omega
   go_wp2_with fail
   refine (l10Event_any x _).mono ?_
   rintro e w1 ⟨rfl, hb1⟩
   replace hB := bstep hB hB.size hb1
   clear c0 c1 c2 c3 c4 c5 hb1
   cases hok : evOk x
   ·
    go_wp2
    go_ret
    exact .mk (by
     have : l.all evOk = false := by rw [List.all_eq_false]; exact ⟨x, List.mem_of_getElem? HX.out, by simp [hok]⟩
     simp [storyOk, this]) hB
   ·
    have HOK := Lib.hid hok; clear hok
    go_wp2
    go_roundw
    case rel =>
     refine ⟨i + 1, by omega, by go_num, hB, fun j x' hj hx' => ?_⟩
     by_cases hji : j < i
     · exact HAL.out j x' hji hx'
     ·
      obtain rfl : j = i := by omega
      obtain rfl : x = x' := by have := HX.out; rw [hx'] at this; injection this with this; exact this.symm
      exact HOK.out
    case measure => simp [intOf]; omega
  ·
   have g1 : ¬ (i : Int) < (n : Int) := by omega
   obtain rfl : n = i := by omega
   have HV := Lib.hid (show storyOk l = decide ((n : Int) ≤ 16) by
    have : l.all evOk = true := by
     rw [List.all_eq_true]
     intro x hx
     obtain ⟨j, hj⟩ := List.mem_iff_getElem?.1 hx
     exact HAL.out j x (by have := (List.getElem?_eq_some_iff.1 hj).1; rw [HL.out] at this; exact this) hj
    rw [storyOk, this, HL.out, Bool.true_and]
    exact decide_eq_decide.2 (by omega))
   go_wp2
   go_ret
   exact .mk (congrArg Value.bool HV.out.symm) hB

set_option maxHeartbeats 1000000 in
theorem l10Jobs_any (l : List Int) (A : Option Addr) (n cap lo hi : Nat) (w : World) (h : IntsW lo hi w A n cap l) (hh : hi ≤ w.heap.size) (hm : n ≤ 1048576) :
  Calls Tryz.prog 96 #[.slice A n cap] w (RetBelow (.bool (jobsOk l)) w) := by
 have HL := Lib.hid h.1
 go_enter Tryz.func96, Tryz.ntmps96
 go_wp2
 go_loopw [3] (fun s3 W => ∃ i : Nat, i ≤ n ∧ s3 = .int .i64 i ∧ Below w.heap.size w W ∧ ∀ (j : Nat) x, j < i → l[j]? = some x → jobB x = true) (fun s3 _ => n - (intOf s3).toNat)
 case atStart => exact ⟨0, Nat.zero_le _, rfl, Below.refl _ _, fun j x h => absurd h (by omega)⟩
 case round =>
  obtain ⟨i, hin, rfl, hB, hal⟩ := hrel
  have HAL := Lib.hid hal; clear hal
  by_cases hlt : i < n
  ·
   obtain ⟨b, x, rfl, hlb, hbh, hx, hc⟩ := SlW.at_ (SlW.below h hB hh) ic_len hlt
   have HX := Lib.hid hx; clear hx
   have c0 := hc 0 _ rfl
   simp only [Nat.mul_one, Nat.add_zero] at c0
   clear hc
   have g1 : (i : Int) < (n : Int) := by omega
   have g2 : (0 : Int) ≤ (i : Int) := by omega
   go_wp2_with fail
   refine (l1In_any _ _ _ _).mono ?_
   rintro e w1 ⟨rfl, rfl⟩
   cases hok : inB x 0 1000000
   ·
    go_wp2
    go_ret
    exact .mk (by
     have : l.all jobB = false := by rw [List.all_eq_false]; exact ⟨x, List.mem_of_getElem? HX.out, by simp [jobB, hok]⟩
     simp [jobsOk, this]) hB
   ·
    have HOK := Lib.hid hok; clear hok
    go_wp2
    go_roundw
    case rel =>
     refine ⟨i + 1, by omega, by go_num, hB, fun j x' hj hx' => ?_⟩
     by_cases hji : j < i
     · exact HAL.out j x' hji hx'
     ·
      obtain rfl : j = i := by omega
      obtain rfl : x = x' := by have := HX.out; rw [hx'] at this; injection this with this; exact this.symm
      exact HOK.out
    case measure => simp [intOf]; omega
  ·
   have g1 : ¬ (i : Int) < (n : Int) := by omega
   obtain rfl : n = i := by omega
   have HV := Lib.hid (show jobsOk l = decide ((n : Int) ≤ 4) by
    have : l.all jobB = true := by
     rw [List.all_eq_true]
     intro x hx
     obtain ⟨j, hj⟩ := List.mem_iff_getElem?.1 hx
     exact HAL.out j x (by have := (List.getElem?_eq_some_iff.1 hj).1; rw [HL.out] at this; exact this) hj
    rw [jobsOk, this, HL.out, Bool.true_and]
    exact decide_eq_decide.2 (by omega))
   go_wp2
   go_ret
   exact .mk (congrArg Value.bool HV.out.symm) hB

end Go.Proofs.YtibmbanbaopeiaaGreat

/-
  Crews: what the functions on them answer, as plain functions on plain data; how they lie in memory.
-/
import Derived.Test.YtaieigdnfdnnpaaStep
import Derived.Test.YtaieigdnfdnnpaaGrow3
import Derived.Test.YtaieigdnfdnnpaaStoreN
namespace Go.Proofs.Ytaieigdnfdnnpaa
set_option linter.unusedSimpArgs false
set_option linter.unusedVariables false
open Go.RowKit
set_option linter.unusedVariables false
attribute [local go_sem ↓] Go.wp_at_zero Go.wp_at_succ

structure Ev where
  who : Int
  put : Bool
  v : Int
  re : Int
  b : Int
  e : Int
def Ev.cs (x : Ev) : List Value := [.int .i64 x.who, .bool x.put, .int .i64 x.v, .int .i64 x.re, .int .i64 x.b, .int .i64 x.e]
theorem Ev.cs_len (x : Ev) : x.cs.length = 6 := rfl
def Hd.cs (h : Hd) : List Value := [.int .i64 h.at_, .int .i64 h.v, .int .i64 h.r, .int .i64 h.t, .bool h.seen.s, .int .i64 h.seen.n, .bool h.seen.f, .int .i64 h.seen.v, .int .i64 h.tr, .int .i64 h.sp, .bool h.ag, .int .i64 h.re]
theorem Hd.cs_len (h : Hd) : h.cs.length = 12 := rfl

structure Cr where
  st : St
  hs : List Hd
  js : List (List Int)
  bs : List Int
  ck : Int
  es : List Ev
def Cr.zero : Cr := ⟨.zero, [], [], [], 0, []⟩

def evOk (x : Ev) : Bool := inB x.who 0 3 && inB x.e 0 2000 && inB x.b 0 x.e && (bif x.put then valB x.v && (x.re == 1 || x.re == 2) else (x.re == 4 && valB x.v) || (x.re == 3 && x.v == 0))
def storyOk (l : List Ev) : Bool := l.all evOk && decide (l.length ≤ 16)
def jobB (z : Int) : Bool := inB z 0 1000000
def jobsOk (l : List Int) : Bool := l.all jobB && decide (l.length ≤ 4)
def crHead (c : Cr) : Bool := stOk c.st && inB c.hs.length 1 4 && (c.js.length == c.hs.length) && (c.bs.length == c.hs.length) && inB c.ck 0 2000 && storyOk c.es
def crAt (c : Cr) (i : Nat) : Bool := fits c.st (c.hs.getD i .zero) && jobsOk (c.js.getD i []) && inB (c.bs.getD i 0) 0 c.ck
def crOk (c : Cr) : Bool := crHead c && (List.range c.hs.length).all (crAt c)

/-! ### Slices of rows of their own -/

/-- A slice that is nil, or a row of its own from block lo on and below hi. -/
def SlW {α : Type} (f : α → List Value) (k : Nat) (e : TypeId) (lo hi : Nat) (w : World) (A : Option Addr) (n cap : Nat) (l : List α) : Prop :=
  l.length = n ∧ ((A = none ∧ n = 0 ∧ cap = 0) ∨ ∃ b, A = some ⟨b, 0, none⟩ ∧ b < hi ∧ Own f k e lo w b n cap l)

/-- What can be copied out of a slice. -/
def SrcW {α : Type} (f : α → List Value) (w : World) (A : Option Addr) (n cap : Nat) (l : List α) : Prop :=
  l.length = n ∧ (A = none → n = 0 ∧ cap = 0) ∧ ∀ ad, A = some ad → ∀ j u, (l.flatMap f)[j]? = some u → w.cell? (ad.add j) = some u

section
variable {α : Type} {f : α → List Value} {k : Nat} {e : TypeId} {lo hi lo' hi' : Nat} {w w' : World} {A : Option Addr} {n cap : Nat} {l : List α}
theorem SlW.keep (h : SlW f k e lo hi w A n cap l) (hs : SameIn lo hi w w') : SlW f k e lo hi w' A n cap l :=
  ⟨h.1, by
    rcases h.2 with h2 | ⟨b, e, hb, ho⟩
    · exact .inl h2
    · exact .inr ⟨b, e, hb, Own.keep ho (hs b ho.2.1 hb)⟩⟩
theorem SlW.mono (h : SlW f k e lo hi w A n cap l) (h1 : lo' ≤ lo) (h2 : hi ≤ hi') : SlW f k e lo' hi' w A n cap l :=
  ⟨h.1, by
    rcases h.2 with h2 | ⟨b, e, hb, ho⟩
    · exact .inl h2
    · exact .inr ⟨b, e, by omega, ho.mono h1⟩⟩
theorem SlW.cut (h : SlW f k e lo hi w A n cap l) : SlW f k e lo w.heap.size w A n cap l :=
  ⟨h.1, by
    rcases h.2 with h2 | ⟨b, e, hb, ho⟩
    · exact .inl h2
    · exact .inr ⟨b, e, Own.lt ho, ho⟩⟩
theorem SlW.below (h : SlW f k e lo hi w A n cap l) (hb : Below w.heap.size w w') (hh : hi ≤ w.heap.size) : SlW f k e lo hi w' A n cap l := h.keep (.below hb hh)
theorem SlW.st (h : SlW f k e lo hi w A n cap l) {b : Nat} (hk : b < lo ∨ hi ≤ b) (i : Nat) (u : Value) : SlW f k e lo hi (w.setCell ⟨b, i, none⟩ u) A n cap l := h.keep (.set hk i u)
theorem SlW.sts (h : SlW f k e lo hi w A n cap l) {b : Nat} (hk : b < lo ∨ hi ≤ b) (us : List Value) (o : Nat) : SlW f k e lo hi (setCells w b o us) A n cap l :=
  h.keep fun j h1 h2 => sets_block (by omega) us o w
theorem SlW.al (h : SlW f k e lo hi w A n cap l) (hh : hi ≤ w.heap.size) (o : Obj) : SlW f k e lo hi (w.alloc o) A n cap l := h.keep (.alloc hh o)
/-- Cells of a block of another type are written. -/
theorem SlW.setsT (h : SlW f k e lo hi w A n cap l) {b : Nat} {cs : Array Value} {t : TypeId} (hk : BoxAt w b cs t) (ht : t ≠ e) (us : List Value) (o : Nat) : SlW f k e lo hi (setCells w b o us) A n cap l :=
  ⟨h.1, by
    rcases h.2 with h2 | ⟨g, eq, hb, ho⟩
    · exact .inl h2
    · refine .inr ⟨g, eq, hb, Own.keep ho (sets_block ?_ us o w)⟩
      rintro rfl
      obtain ⟨_, _, _, _, cur, hc, _⟩ := ho
      unfold BoxAt at hc hk
      rw [hk] at hc
      injection hc with hc
      injection hc with _ hc
      exact ht hc⟩
theorem SlW.of_own {v : Value} (h : w.ownsRow lo e k v n (l.flatMap f)) (hl : l.length = n) : ∃ A cap, v = .slice A n cap ∧ SlW f k e lo w.heap.size w A n cap l := by
  rcases h.2 with ⟨hv, h1⟩ | ⟨g, cap, cur, hv, hg, hb, hc, hm, hs, ht⟩
  · exact ⟨none, 0, by rw [hv, h1], hl, .inl ⟨rfl, h1, rfl⟩⟩
  · exact ⟨some ⟨g, 0, none⟩, cap, hv, hl, .inr ⟨g, rfl, (Array.getElem?_eq_some_iff.1 hb).1, hl, hg, hc, hm, cur, hb, hs, ht⟩⟩
theorem SlW.own (h : SlW f k e lo hi w A n cap l) (hf : ∀ x, (f x).length = k) : w.ownsRow lo e k (.slice A n cap) n (l.flatMap f) := by
  rcases h.2 with ⟨rfl, rfl, rfl⟩ | ⟨g, rfl, _, ho⟩
  · have : l = [] := List.eq_nil_of_length_eq_zero h.1
    subst this
    exact World.ownsRow_nil w lo e k
  · exact Own.own ho hf
theorem SlW.nil : SlW f k e lo hi w none 0 0 [] := ⟨rfl, .inl ⟨rfl, rfl, rfl⟩⟩
theorem SlW.src (h : SlW f k e lo hi w A n cap l) (hf : ∀ x, (f x).length = k) : SrcW f w A n cap l := by
  refine ⟨h.1, fun hA => ?_, fun ad had => ?_⟩
  · rcases h.2 with ⟨_, h2, h3⟩ | ⟨g, hg, _⟩
    · exact ⟨h2, h3⟩
    · rw [hg] at hA; cases hA
  · rcases h.2 with ⟨h1, _⟩ | ⟨g, hg, _, ho⟩
    · rw [h1] at had; cases had
    · rw [hg] at had
      injection had with had
      subst had
      exact (Own.own ho hf).cells rfl
/-- One element's cells. -/
theorem SlW.at_ (h : SlW f k e lo hi w A n cap l) (hf : ∀ x, (f x).length = k) {i : Nat} (hin : i < n) : ∃ (b : Nat) (x : α), A = some ⟨b, 0, none⟩ ∧ lo ≤ b ∧ b < hi ∧ l[i]? = some x ∧ ∀ j u, (f x)[j]? = some u → w.cell? ⟨b, i * k + j, none⟩ = some u := by
  rcases h.2 with ⟨_, h1, _⟩ | ⟨g, hg, hb, ho⟩
  · omega
  · have hl : i < l.length := by have := h.1; omega
    exact ⟨g, l[i], hg, ho.2.1, hb, List.getElem?_eq_getElem hl, fun j u hu => Own.cell_ hf ho (List.getElem?_eq_getElem hl) hu⟩
end

/-- A list's one cell. -/
structure Jw where
  A : Option Addr
  n : Nat
  cap : Nat
def Jw.cs (a : Jw) : List Value := [.slice a.A a.n a.cap]
theorem Jw.cs_len (a : Jw) : a.cs.length = 1 := rfl
def IntsW (lo hi : Nat) (w : World) (A : Option Addr) (n cap : Nat) (l : List Int) : Prop := SlW ic 1 2 lo hi w A n cap l
def EachW (lo hi : Nat) (w : World) (rows : List Jw) (L : List (List Int)) : Prop := rows.length = L.length ∧ ∀ (i : Nat) (a : Jw) (l : List Int), rows[i]? = some a → L[i]? = some l → IntsW lo hi w a.A a.n a.cap l
/-- Lists in a slice of their own. -/
def ListsW (lo hi : Nat) (w : World) (A : Option Addr) (n cap : Nat) (L : List (List Int)) : Prop := ∃ rows : List Jw, SlW Jw.cs 1 55 lo hi w A n cap rows ∧ EachW lo hi w rows L

section
variable {lo hi lo' hi' : Nat} {w w' : World} {A : Option Addr} {n cap : Nat} {L : List (List Int)} {rows : List Jw}
theorem EachW.keep (h : EachW lo hi w rows L) (hs : SameIn lo hi w w') : EachW lo hi w' rows L := ⟨h.1, fun i a l ha hl => SlW.keep (h.2 i a l ha hl) hs⟩
theorem EachW.mono (h : EachW lo hi w rows L) (h1 : lo' ≤ lo) (h2 : hi ≤ hi') : EachW lo' hi' w rows L := ⟨h.1, fun i a l ha hl => SlW.mono (h.2 i a l ha hl) h1 h2⟩
theorem EachW.cut (h : EachW lo hi w rows L) : EachW lo w.heap.size w rows L := ⟨h.1, fun i a l ha hl => SlW.cut (h.2 i a l ha hl)⟩
theorem EachW.setsT (h : EachW lo hi w rows L) {b : Nat} {cs : Array Value} {t : TypeId} (hk : BoxAt w b cs t) (ht : t ≠ 2) (us : List Value) (o : Nat) : EachW lo hi (setCells w b o us) rows L :=
  ⟨h.1, fun i a l ha hl => SlW.setsT (h.2 i a l ha hl) hk ht us o⟩
theorem ListsW.len (h : ListsW lo hi w A n cap L) : L.length = n := by obtain ⟨rows, h1, h2⟩ := h; rw [← h2.1]; exact h1.1
theorem ListsW.keep (h : ListsW lo hi w A n cap L) (hs : SameIn lo hi w w') : ListsW lo hi w' A n cap L := by
  obtain ⟨rows, h1, h2⟩ := h; exact ⟨rows, h1.keep hs, h2.keep hs⟩
theorem ListsW.mono (h : ListsW lo hi w A n cap L) (h1 : lo' ≤ lo) (h2 : hi ≤ hi') : ListsW lo' hi' w A n cap L := by
  obtain ⟨rows, k1, k2⟩ := h; exact ⟨rows, k1.mono h1 h2, k2.mono h1 h2⟩
theorem ListsW.cut (h : ListsW lo hi w A n cap L) : ListsW lo w.heap.size w A n cap L := by
  obtain ⟨rows, k1, k2⟩ := h; exact ⟨rows, k1.cut, k2.cut⟩
theorem ListsW.below (h : ListsW lo hi w A n cap L) (hb : Below w.heap.size w w') (hh : hi ≤ w.heap.size) : ListsW lo hi w' A n cap L := h.keep (.below hb hh)
theorem ListsW.setsT (h : ListsW lo hi w A n cap L) {b : Nat} {cs : Array Value} {t : TypeId} (hk : BoxAt w b cs t) (ht : t ≠ 2) (ht' : t ≠ 55) (us : List Value) (o : Nat) : ListsW lo hi (setCells w b o us) A n cap L := by
  obtain ⟨rows, k1, k2⟩ := h; exact ⟨rows, k1.setsT hk ht' us o, k2.setsT hk ht us o⟩
theorem ListsW.nil : ListsW lo hi w none 0 0 [] := ⟨[], SlW.nil, rfl, fun i a l h => by simp at h⟩
theorem ListsW.at_ (h : ListsW lo hi w A n cap L) {i : Nat} (hin : i < n) : ∃ (b : Nat) (l : List Int) (A' : Option Addr) (n' cap' : Nat), A = some ⟨b, 0, none⟩ ∧ lo ≤ b ∧ b < hi ∧ L[i]? = some l ∧ w.cell? ⟨b, i, none⟩ = some (.slice A' n' cap') ∧ IntsW lo hi w A' n' cap' l := by
  have hL := h.len
  obtain ⟨rows, h1, h2⟩ := h
  obtain ⟨b, x, hA, h3, h4, hx, hc⟩ := h1.at_ Jw.cs_len hin
  have hl : L[i]? = some (L[i]'(by omega)) := List.getElem?_eq_getElem (by omega)
  refine ⟨b, L[i]'(by omega), x.A, x.n, x.cap, hA, h3, h4, hl, ?_, h2.2 i x _ hx hl⟩
  have := hc 0 _ rfl
  simpa using this
end

/-- Where a crew's lists lie. -/
structure Slc where
  A : Option Addr
  n : Nat
  cap : Nat
structure CrL where
  s : Slc
  h : Slc
  j : Slc
  b : Slc
  e : Slc
def crCs (c : Cr) (y : CrL) : List Value := [.int .i64 c.st.rd, .int .i64 c.st.mo, .slice y.s.A y.s.n y.s.cap, .int .i64 c.st.fi, .int .i64 c.st.la, .slice y.h.A y.h.n y.h.cap, .slice y.j.A y.j.n y.j.cap, .slice y.b.A y.b.n y.b.cap, .int .i64 c.ck, .slice y.e.A y.e.n y.e.cap]
def crV (c : Cr) (y : CrL) : Value := .agg #[.int .i64 c.st.rd, .int .i64 c.st.mo, .slice y.s.A y.s.n y.s.cap, .int .i64 c.st.fi, .int .i64 c.st.la, .slice y.h.A y.h.n y.h.cap, .slice y.j.A y.j.n y.j.cap, .slice y.b.A y.b.n y.b.cap, .int .i64 c.ck, .slice y.e.A y.e.n y.e.cap]
def HdsW (lo hi : Nat) (w : World) (A : Option Addr) (n cap : Nat) (l : List Hd) : Prop := SlW Hd.cs 12 27 lo hi w A n cap l
def EvsW (lo hi : Nat) (w : World) (A : Option Addr) (n cap : Nat) (l : List Ev) : Prop := SlW Ev.cs 6 110 lo hi w A n cap l
structure CrW (lo hi : Nat) (w : World) (c : Cr) (y : CrL) : Prop where
  s : RgsW lo hi w y.s.A y.s.n y.s.cap c.st.rs
  h : HdsW lo hi w y.h.A y.h.n y.h.cap c.hs
  j : ListsW lo hi w y.j.A y.j.n y.j.cap c.js
  b : IntsW lo hi w y.b.A y.b.n y.b.cap c.bs
  e : EvsW lo hi w y.e.A y.e.n y.e.cap c.es

section
variable {lo hi lo' hi' : Nat} {w w' : World} {c : Cr} {y : CrL}
theorem CrW.keep (h : CrW lo hi w c y) (hs : SameIn lo hi w w') : CrW lo hi w' c y := ⟨h.s.keep hs, SlW.keep h.h hs, h.j.keep hs, SlW.keep h.b hs, SlW.keep h.e hs⟩
theorem CrW.mono (h : CrW lo hi w c y) (h1 : lo' ≤ lo) (h2 : hi ≤ hi') : CrW lo' hi' w c y := ⟨h.s.mono h1 h2, SlW.mono h.h h1 h2, h.j.mono h1 h2, SlW.mono h.b h1 h2, SlW.mono h.e h1 h2⟩
theorem CrW.cut (h : CrW lo hi w c y) : CrW lo w.heap.size w c y := ⟨h.s.cut, SlW.cut h.h, h.j.cut, SlW.cut h.b, SlW.cut h.e⟩
theorem CrW.below (h : CrW lo hi w c y) (hb : Below w.heap.size w w') (hh : hi ≤ w.heap.size) : CrW lo hi w' c y := h.keep (.below hb hh)
theorem CrW.st (h : CrW lo hi w c y) {b : Nat} (hk : b < lo ∨ hi ≤ b) (i : Nat) (u : Value) : CrW lo hi (w.setCell ⟨b, i, none⟩ u) c y := h.keep (.set hk i u)
theorem CrW.drew (h : CrW lo hi w c y) : CrW lo hi w.drew c y := ⟨h.s, h.h, h.j, h.b, h.e⟩
theorem CrW.sts (h : CrW lo hi w c y) {b : Nat} (hk : b < lo ∨ hi ≤ b) (us : List Value) (o : Nat) : CrW lo hi (setCells w b o us) c y := h.keep fun j h1 h2 => sets_block (by omega) us o w
end

/-- Its lists are no longer than what is reckoned with. -/
structure CrFit (c : Cr) : Prop where
  s : c.st.rs.length ≤ 1048576
  p : ∀ r ∈ c.st.rs, r.ps.length ≤ 1048576
  h : c.hs.length ≤ 1048576
  j : c.js.length ≤ 1048576
  l : ∀ l ∈ c.js, l.length ≤ 1048576
  b : c.bs.length ≤ 1048576
  e : c.es.length ≤ 1048576

/-- A crew is returned. -/
def RetCr (q : Cr) (w : World) (e : Ending) (w' : World) : Prop := ∃ y, e = .returned (crV q y) ∧ CrW w.heap.size w'.heap.size w' q y ∧ Below w.heap.size w w'
/-- A crew and a bool are returned. -/
def RetCrB (q : Cr × Bool) (w : World) (e : Ending) (w' : World) : Prop := ∃ y, e = .returned (.tuple #[crV q.1 y, .bool q.2]) ∧ CrW w.heap.size w'.heap.size w' q.1 y ∧ Below w.heap.size w w'

/-! ### The tests of events, of stories and of jobs -/

set_option maxHeartbeats 1000000 in
theorem l10Event_any (x : Ev) (w : World) : Calls Try.prog 86 #[.agg #[.int .i64 x.who, .bool x.put, .int .i64 x.v, .int .i64 x.re, .int .i64 x.b, .int .i64 x.e]] w (RetBelow (.bool (evOk x)) w) := by
  obtain ⟨who, put, v, re, b, en⟩ := x
  dsimp only
  go_enter Try.func86, Try.ntmps86
  go_wp2_with fail
  refine calls_abs (fun W => Below w.heap.size w W ∧ BoxAt W w.heap.size #[.int .i64 who, .bool put, .int .i64 v, .int .i64 re, .int .i64 b, .int .i64 en] 110) ⟨(Below.refl _ _).alloc (Nat.le_refl _) _, BoxAt.new _ _ _⟩ ?_
  rintro W ⟨hB, hx⟩
  have kx := hx.cell
  refine (l1In_any _ _ _ _).mono ?_
  rintro e w' ⟨rfl, rfl⟩
  cases h0 : inB who 0 3
  · go_wp2
    go_ret
    exact .mk (by simp [evOk, h0]) hB
  go_wp2_with fail
  refine (l1In_any _ _ _ _).mono ?_
  rintro e w' ⟨rfl, rfl⟩
  cases h1 : inB en 0 2000
  · go_wp2
    go_ret
    exact .mk (by simp [evOk, h1]) hB
  go_wp2_with fail
  refine (l1In_any _ _ _ _).mono ?_
  rintro e w' ⟨rfl, rfl⟩
  cases h2 : inB b 0 en
  · go_wp2
    go_ret
    exact .mk (by simp [evOk, h2]) hB
  have HE := Lib.hid (show evOk ⟨who, put, v, re, b, en⟩ = (bif put then valB v && (re == 1 || re == 2) else (re == 4 && valB v) || (re == 3 && v == 0)) by simp [evOk, h0, h1, h2])
  clear h0 h1 h2
  cases put
  · by_cases r4 : re = 4
    · have e4 : (re == 4) = true := by simp [r4]
      have e3 : (re == 3) = false := by simp [r4]
      go_wp2_with fail
      refine (l1Value_any _ _).mono ?_
      rintro e w' ⟨rfl, rfl⟩
      cases hv : valB v
      · go_wp2
        go_ret
        exact .mk (by rw [HE.out, hv, e3]; simp) hB
      · go_wp2
        go_ret
        exact .mk (by rw [HE.out, hv, e4]; rfl) hB
    · have e4 : (re == 4) = false := by simp [r4]
      by_cases r3 : re = 3
      · have e3 : (re == 3) = true := by simp [r3]
        have HE2 := Lib.hid (show evOk ⟨who, false, v, re, b, en⟩ = (v == 0) by rw [HE.out, e4, e3]; simp)
        go_wp2
        go_ret
        exact .mk (congrArg Value.bool HE2.out.symm) hB
      · have e3 : (re == 3) = false := by simp [r3]
        have HE2 := Lib.hid (show evOk ⟨who, false, v, re, b, en⟩ = false by rw [HE.out, e4, e3]; simp)
        go_wp2
        go_ret
        exact .mk (congrArg Value.bool HE2.out.symm) hB
  · go_wp2_with fail
    refine (l1Value_any _ _).mono ?_
    rintro e w' ⟨rfl, rfl⟩
    cases hv : valB v
    · go_wp2
      go_ret
      exact .mk (by rw [HE.out, hv]; rfl) hB
    · by_cases r1 : re = 1
      · have e1 : (re == 1) = true := by simp [r1]
        go_wp2
        go_ret
        exact .mk (by rw [HE.out, hv, e1]; rfl) hB
      · have e1 : (re == 1) = false := by simp [r1]
        have HE2 := Lib.hid (show evOk ⟨who, true, v, re, b, en⟩ = (re == 2) by rw [HE.out, hv, e1]; simp)
        go_wp2
        go_ret
        exact .mk (congrArg Value.bool HE2.out.symm) hB

set_option maxHeartbeats 1000000 in
theorem sstoryOk_any (l : List Ev) (A : Option Addr) (n cap lo hi : Nat) (w : World) (h : EvsW lo hi w A n cap l) (hh : hi ≤ w.heap.size) (hm : n ≤ 1048576) :
    Calls Try.prog 80 #[.slice A n cap] w (RetBelow (.bool (storyOk l)) w) := by
  have HL := Lib.hid h.1
  go_enter Try.func80, Try.ntmps80
  go_wp2
  go_loopw [3] (fun s3 W => ∃ i : Nat, i ≤ n ∧ s3 = .int .i64 i ∧ Below w.heap.size w W ∧ ∀ (j : Nat) x, j < i → l[j]? = some x → evOk x = true) (fun s3 _ => n - (intOf s3).toNat)
  case atStart => exact ⟨0, Nat.zero_le _, rfl, Below.refl _ _, fun j x h => absurd h (by omega)⟩
  case round =>
    obtain ⟨i, hin, rfl, hB, hal⟩ := hrel
    have HAL := Lib.hid hal; clear hal
    by_cases hlt : i < n
    · obtain ⟨b, x, rfl, hlb, hbh, hx, hc⟩ := SlW.at_ (SlW.below h hB hh) Ev.cs_len hlt
      have HX := Lib.hid hx; clear hx
      have c0 := hc 0 _ rfl
      have c1 := hc 1 _ rfl
      have c2 := hc 2 _ rfl
      have c3 := hc 3 _ rfl
      have c4 := hc 4 _ rfl
      have c5 := hc 5 _ rfl
      rw [Nat.add_zero] at c0
      clear hc
      have g1 : (i : Int) < (n : Int) := by omega
      have g2 : (0 : Int) ≤ (i : Int) := by omega
      go_wp2_with fail
      refine (l10Event_any x _).mono ?_
      rintro e w1 ⟨rfl, hb1⟩
      replace hB := bstep hB hB.size hb1
      clear c0 c1 c2 c3 c4 c5 hb1
      cases hok : evOk x
      · go_wp2
        go_ret
        exact .mk (by
          have : l.all evOk = false := by rw [List.all_eq_false]; exact ⟨x, List.mem_of_getElem? HX.out, by simp [hok]⟩
          simp [storyOk, this]) hB
      · have HOK := Lib.hid hok; clear hok
        go_wp2
        go_roundw
        case rel =>
          refine ⟨i + 1, by omega, by go_num, hB, fun j x' hj hx' => ?_⟩
          by_cases hji : j < i
          · exact HAL.out j x' hji hx'
          · obtain rfl : j = i := by omega
            obtain rfl : x = x' := by have := HX.out; rw [hx'] at this; injection this with this; exact this.symm
            exact HOK.out
        case measure => simp [intOf]; omega
    · have g1 : ¬ (i : Int) < (n : Int) := by omega
      obtain rfl : n = i := by omega
      have HV := Lib.hid (show storyOk l = decide ((n : Int) ≤ 16) by
        have : l.all evOk = true := by
          rw [List.all_eq_true]
          intro x hx
          obtain ⟨j, hj⟩ := List.mem_iff_getElem?.1 hx
          exact HAL.out j x (by have := (List.getElem?_eq_some_iff.1 hj).1; rw [HL.out] at this; exact this) hj
        rw [storyOk, this, HL.out, Bool.true_and]
        exact decide_eq_decide.2 (by omega))
      go_wp2
      go_ret
      exact .mk (congrArg Value.bool HV.out.symm) hB

set_option maxHeartbeats 1000000 in
theorem l10Jobs_any (l : List Int) (A : Option Addr) (n cap lo hi : Nat) (w : World) (h : IntsW lo hi w A n cap l) (hh : hi ≤ w.heap.size) (hm : n ≤ 1048576) :
    Calls Try.prog 82 #[.slice A n cap] w (RetBelow (.bool (jobsOk l)) w) := by
  have HL := Lib.hid h.1
  go_enter Try.func82, Try.ntmps82
  go_wp2
  go_loopw [3] (fun s3 W => ∃ i : Nat, i ≤ n ∧ s3 = .int .i64 i ∧ Below w.heap.size w W ∧ ∀ (j : Nat) x, j < i → l[j]? = some x → jobB x = true) (fun s3 _ => n - (intOf s3).toNat)
  case atStart => exact ⟨0, Nat.zero_le _, rfl, Below.refl _ _, fun j x h => absurd h (by omega)⟩
  case round =>
    obtain ⟨i, hin, rfl, hB, hal⟩ := hrel
    have HAL := Lib.hid hal; clear hal
    by_cases hlt : i < n
    · obtain ⟨b, x, rfl, hlb, hbh, hx, hc⟩ := SlW.at_ (SlW.below h hB hh) ic_len hlt
      have HX := Lib.hid hx; clear hx
      have c0 := hc 0 _ rfl
      simp only [Nat.mul_one, Nat.add_zero] at c0
      clear hc
      have g1 : (i : Int) < (n : Int) := by omega
      have g2 : (0 : Int) ≤ (i : Int) := by omega
      go_wp2_with fail
      refine (l1In_any _ _ _ _).mono ?_
      rintro e w1 ⟨rfl, rfl⟩
      cases hok : inB x 0 1000000
      · go_wp2
        go_ret
        exact .mk (by
          have : l.all jobB = false := by rw [List.all_eq_false]; exact ⟨x, List.mem_of_getElem? HX.out, by simp [jobB, hok]⟩
          simp [jobsOk, this]) hB
      · have HOK := Lib.hid hok; clear hok
        go_wp2
        go_roundw
        case rel =>
          refine ⟨i + 1, by omega, by go_num, hB, fun j x' hj hx' => ?_⟩
          by_cases hji : j < i
          · exact HAL.out j x' hji hx'
          · obtain rfl : j = i := by omega
            obtain rfl : x = x' := by have := HX.out; rw [hx'] at this; injection this with this; exact this.symm
            exact HOK.out
        case measure => simp [intOf]; omega
    · have g1 : ¬ (i : Int) < (n : Int) := by omega
      obtain rfl : n = i := by omega
      have HV := Lib.hid (show jobsOk l = decide ((n : Int) ≤ 4) by
        have : l.all jobB = true := by
          rw [List.all_eq_true]
          intro x hx
          obtain ⟨j, hj⟩ := List.mem_iff_getElem?.1 hx
          exact HAL.out j x (by have := (List.getElem?_eq_some_iff.1 hj).1; rw [HL.out] at this; exact this) hj
        rw [jobsOk, this, HL.out, Bool.true_and]
        exact decide_eq_decide.2 (by omega))
      go_wp2
      go_ret
      exact .mk (congrArg Value.bool HV.out.symm) hB

end Go.Proofs.Ytaieigdnfdnnpaa

/-
  Copies of lists, of the model; what is kept by type.
-/
namespace Go.Proofs.Ytaieigdnfdnnpaa
set_option linter.unusedSimpArgs false
set_option linter.unusedVariables false
open Go.RowKit
set_option linter.unusedVariables false
attribute [local go_sem ↓] Go.wp_at_zero Go.wp_at_succ

/-! ### What is kept by type -/

/-- Blocks of type T are as they were. -/
def KeepT (T : TypeId) (w w' : World) : Prop := ∀ g cs, BoxAt w g cs T → w'.heap[g]? = w.heap[g]?
theorem KeepT.refl (T : TypeId) (w : World) : KeepT T w w := fun _ _ _ => rfl
theorem KeepT.trans {T : TypeId} {a b c : World} (h : KeepT T a b) (h' : KeepT T b c) : KeepT T a c := fun g cs hg => (h' g cs (by unfold BoxAt at *; rw [h g cs hg]; exact hg)).trans (h g cs hg)
theorem KeepT.below {T : TypeId} {w w' : World} (h : Below w.heap.size w w') : KeepT T w w' := fun g _ hg => h.block g hg.lt
theorem KeepT.alloc {T : TypeId} (w : World) (o : Obj) : KeepT T w (w.alloc o) := .below ((Below.refl _ _).alloc (Nat.le_refl _) _)
theorem KeepT.sets {T : TypeId} {w : World} {b : Nat} {cs : Array Value} {t : TypeId} (hk : BoxAt w b cs t) (ht : t ≠ T) (us : List Value) (o : Nat) : KeepT T w (setCells w b o us) := fun g cs' hg => sets_block (by
  rintro rfl
  unfold BoxAt at hg hk
  rw [hg] at hk
  injection hk with hk
  injection hk with _ hk
  exact ht hk.symm) us o w
theorem KeepT.set {T : TypeId} {w : World} {b : Nat} {cs : Array Value} {t : TypeId} (hk : BoxAt w b cs t) (ht : t ≠ T) (i : Nat) (u : Value) : KeepT T w (w.setCell ⟨b, i, none⟩ u) := KeepT.sets hk ht [u] i
theorem KeepT.grown {T : TypeId} {w w' : World} {N : Nat} {e : TypeId} {k n : Nat} {v : Value} {xs : List Value} (ho : w.ownsRow N e k v n xs) (hg : w.grownBy w' v.ownBlock) (ht : e ≠ T) : KeepT T w w' := fun g cs hb => hg.block g hb.lt (by
  intro h
  rcases ho.2 with ⟨rfl, _⟩ | ⟨g', cap', cur, rfl, _, hc, _⟩
  · simp [Value.ownBlock] at h
  · have := own_blk h.symm
    subst this
    unfold BoxAt at hb
    rw [hb] at hc
    injection hc with hc
    injection hc with _ hc
    exact ht hc.symm)

section
variable {lo hi : Nat} {w w' : World} {A : Option Addr} {n cap : Nat}
theorem Own.keepT {α : Type} {f : α → List Value} {k : Nat} {e : TypeId} {b : Nat} {l : List α} (h : Own f k e lo w b n cap l) (hk : KeepT e w w') : Own f k e lo w' b n cap l := by
  have h' := h
  obtain ⟨_, _, _, _, cur, hb, _⟩ := h'
  exact Own.keep h (hk b cur hb)
theorem SlW.keepT {α : Type} {f : α → List Value} {k : Nat} {e : TypeId} {l : List α} (h : SlW f k e lo hi w A n cap l) (hk : KeepT e w w') : SlW f k e lo hi w' A n cap l :=
  ⟨h.1, by
    rcases h.2 with h2 | ⟨g, eq, hb, ho⟩
    · exact .inl h2
    · exact .inr ⟨g, eq, hb, ho.keepT hk⟩⟩
theorem EachW.keepT {rows : List Jw} {L : List (List Int)} (h : EachW lo hi w rows L) (hk : KeepT 2 w w') : EachW lo hi w' rows L := ⟨h.1, fun i a l ha hl => SlW.keepT (h.2 i a l ha hl) hk⟩
theorem ListsW.keepT {L : List (List Int)} (h : ListsW lo hi w A n cap L) (hk : KeepT 2 w w') (hk' : KeepT 55 w w') : ListsW lo hi w' A n cap L := by
  obtain ⟨rows, h1, h2⟩ := h
  exact ⟨rows, h1.keepT hk', h2.keepT hk⟩
theorem PlsW.keepT {l : List Pl} (h : PlsW lo hi w A n cap l) (hk : KeepT 25 w w') : PlsW lo hi w' A n cap l :=
  ⟨h.1, fun hn => by obtain ⟨b, e, hb, ho⟩ := h.2 hn; exact ⟨b, e, hb, Own.keepT ho hk⟩⟩
theorem RgsW.keepT {L : List Rg} (h : RgsW lo hi w A n cap L) (hk : KeepT 25 w w') (hk' : KeepT 39 w w') : RgsW lo hi w' A n cap L :=
  ⟨h.1, fun hn => by
    obtain ⟨b, rows, e, hb, ho, ha⟩ := h.2 hn
    exact ⟨b, rows, e, hb, Own.keepT ho hk', fun i a hi => by obtain ⟨r, hr, e1, e2, e3, e4, hp⟩ := ha i a hi; exact ⟨r, hr, e1, e2, e3, e4, hp.keepT hk⟩⟩⟩
theorem CrW.keepT {c : Cr} {y : CrL} (h : CrW lo hi w c y) (k1 : KeepT 25 w w') (k2 : KeepT 39 w w') (k3 : KeepT 27 w w') (k4 : KeepT 2 w w') (k5 : KeepT 55 w w') (k6 : KeepT 110 w w') : CrW lo hi w' c y :=
  ⟨h.s.keepT k1 k2, SlW.keepT h.h k3, h.j.keepT k4 k5, SlW.keepT h.b k4, SlW.keepT h.e k6⟩
/-- Cells of a variable that is a crew are written. -/
theorem CrW.setsC {c : Cr} {y : CrL} (h : CrW lo hi w c y) {b : Nat} {cs : Array Value} (hk : BoxAt w b cs 88) (us : List Value) (o : Nat) : CrW lo hi (setCells w b o us) c y :=
  h.keepT (.sets hk (by decide) us o) (.sets hk (by decide) us o) (.sets hk (by decide) us o) (.sets hk (by decide) us o) (.sets hk (by decide) us o) (.sets hk (by decide) us o)
end

/-- Cells of a block, from an offset on. -/
def CellsAt (w : World) (b o : Nat) (us : List Value) : Prop := ∀ j u, us[j]? = some u → w.cell? ⟨b, o + j, none⟩ = some u
theorem CellsAt.below {w w' : World} {b o : Nat} {us : List Value} (h : CellsAt w b o us) (hb : Below w.heap.size w w') : CellsAt w' b o us := fun j u hu => by
  have := h j u hu
  exact (hb.cell (p := ⟨b, o + j, none⟩) (World.block_lt_of_cell? w _ this)).trans this
theorem CellsAt.same {w w' : World} {b o : Nat} {us : List Value} (h : CellsAt w b o us) (hb : w'.heap[b]? = w.heap[b]?) : CellsAt w' b o us := fun j u hu => (World.cell?_of_block hb).trans (h j u hu)

/-! ### An append onto a slice of the call's own, out of any slice -/

section
variable {P : Program}
theorem run_append_any (w : World) (base : Nat) (t ty e : TypeId) (i : TypeInfo) (z : Value) (size bytes : Nat) (ht : P.underlying t = some (.slice e)) (hi : P.info? e = some i) (hz : i.zero = some z)
    (hsize : i.size = size) (hby : i.bytes = bytes) (hzs : z.cells.size = size) (hsz : 0 < size)
    (v : Value) (n : Nat) (xs : List Value) (hown : w.ownsRow base e size v n xs)
    (A : Option Addr) (m c : Nat) (news : List Value) (hA : A = none → m = 0 ∧ c = 0) (hl : news.length = m * size) (hnews : ∀ ad, A = some ad → ∀ j u, news[j]? = some u → w.cell? (ad.add j) = some u) (h1 : ∀ u ∈ news, u.oneCell' = true)
    (h63 : n + m ≤ maxLen) (hbytes : (n + m) * bytes ≤ 140737488355328) (hbase : base ≤ w.heap.size) :
    ∃ v' w', (Builtin.append_ #[t, t] ty #[v, .slice A m c]).run P w = .ok v' w' ∧ w'.ownsRow base e size v' (n + m) (xs ++ news) ∧ w.grownBy w' v.ownBlock := by
  cases A with
  | none =>
    obtain ⟨rfl, rfl⟩ := hA rfl
    have : news = [] := List.eq_nil_of_length_eq_zero (by simpa using hl)
    subst this
    exact ⟨v, w, run_append_owned_none (P := P) w base t ty e i size ht hi v n xs hown, by simpa using hown, ⟨rfl, rfl, rfl, Nat.le_refl _, fun _ _ _ => rfl⟩⟩
  | some ad =>
    obtain ⟨v', w', hr, h2, h3, _, _⟩ := run_append_own_at (P := P) w base t ty e i z size bytes ht hi hz hsize hby hzs hsz v n xs hown ad m c news hl (hnews ad rfl) h1 h63 hbytes hbase
    exact ⟨v', w', hr, h2, h3⟩

theorem wpList_append_any {w : World} {ops : Array Oper} {rest : List Oper} {o : Oper} {a : Act} {Q : Exit → Act → World → Prop} (hgd : o.guard = none) (s x : Operand) (t : TypeId)
    (ho : o.op = .call { callee := .builtin .append, args := #[s, x], argTypes := #[t, t] })
    (base : Nat) (e : TypeId) (i : TypeInfo) (z : Value) (size bytes : Nat) (ht : P.underlying t = some (.slice e)) (hi : P.info? e = some i) (hz : i.zero = some z)
    (hsize : i.size = size) (hby : i.bytes = bytes) (hzs : z.cells.size = size) (hsz : 0 < size)
    (v : Value) (n : Nat) (xs : List Value) (hs : a.eval s = v) (hown : w.ownsRow base e size v n xs)
    (A : Option Addr) (m c : Nat) (news : List Value) (hx : a.eval x = .slice A m c) (hA : A = none → m = 0 ∧ c = 0) (hl : news.length = m * size) (hnews : ∀ ad, A = some ad → ∀ j u, news[j]? = some u → w.cell? (ad.add j) = some u) (h1 : ∀ u ∈ news, u.oneCell' = true)
    (h63 : n + m ≤ maxLen) (hbytes : (n + m) * bytes ≤ 140737488355328) (hbase : base ≤ w.heap.size)
    (h : ∀ v' w', w'.ownsRow base e size v' (n + m) (xs ++ news) → w.grownBy w' v.ownBlock → wpList P ops Q rest (a.put o.dst v') w') :
    wpList P ops Q (o :: rest) a w := by
  refine wpList_plain hgd fun K hK => ?_
  obtain ⟨v', w', hr, h2, h3⟩ := run_append_any (P := P) w base t o.type e i z size bytes ht hi hz hsize hby hzs hsz v n xs hown A m c news hA hl hnews h1 h63 hbytes hbase
  unfold Oper.wp execOp
  simp only [ho, resolve, invoke, builtin, Sem.run_bind, Sem.run_pure, Result.andThen_ok, List.map_toArray, List.map_cons, List.map_nil, hs, hx, hr]
  exact hK _ _ (h v' w' h2 h3)

theorem OpGoes.append_any {ops : Array Oper} {o : Oper} {a : Act} {w : World} {K : Value → World → Prop} (hgd : o.guard = none) (s x : Operand) (t : TypeId)
    (ho : o.op = .call { callee := .builtin .append, args := #[s, x], argTypes := #[t, t] })
    (base : Nat) (e : TypeId) (i : TypeInfo) (z : Value) (size bytes : Nat) (ht : P.underlying t = some (.slice e)) (hi : P.info? e = some i) (hz : i.zero = some z)
    (hsize : i.size = size) (hby : i.bytes = bytes) (hzs : z.cells.size = size) (hsz : 0 < size)
    (v : Value) (n : Nat) (xs : List Value) (hs : a.eval s = v) (hown : w.ownsRow base e size v n xs)
    (A : Option Addr) (m c : Nat) (news : List Value) (hx : a.eval x = .slice A m c) (hA : A = none → m = 0 ∧ c = 0) (hl : news.length = m * size) (hnews : ∀ ad, A = some ad → ∀ j u, news[j]? = some u → w.cell? (ad.add j) = some u) (h1 : ∀ u ∈ news, u.oneCell' = true)
    (h63 : n + m ≤ maxLen) (hbytes : (n + m) * bytes ≤ 140737488355328) (hbase : base ≤ w.heap.size)
    (h : ∀ v' w', w'.ownsRow base e size v' (n + m) (xs ++ news) → w.grownBy w' v.ownBlock → K v' w') : OpGoes P ops o a w K := by
  obtain ⟨v', w', hr, h2, h3⟩ := run_append_any (P := P) w base t o.type e i z size bytes ht hi hz hsize hby hzs hsz v n xs hown A m c news hA hl hnews h1 h63 hbytes hbase
  refine ⟨fun _ => ?_, fun hw => ?_⟩
  · unfold execOp
    simp only [ho, resolve, invoke, builtin, Sem.run_bind, Sem.run_pure, Result.andThen_ok, List.map_toArray, List.map_cons, List.map_nil, hs, hx, hr]
    exact h v' w' h2 h3
  · simp [Region.wanted, hgd] at hw
end

theorem ic_one {l : List Int} : ∀ u ∈ l.flatMap ic, u.oneCell' = true := by
  intro u hu
  obtain ⟨p, _, hp⟩ := List.mem_flatMap.1 hu
  simp [ic] at hp
  subst hp; rfl
theorem SrcW.al {α : Type} {f : α → List Value} {w : World} {A : Option Addr} {n cap : Nat} {l : List α} (h : SrcW f w A n cap l) (o : Obj) : SrcW f (w.alloc o) A n cap l :=
  ⟨h.1, h.2.1, fun ad had j u hu => by
    have := h.2.2 ad had j u hu
    exact (((Below.refl _ _).alloc (Nat.le_refl _) o).cell (World.block_lt_of_cell? w _ this)).trans this⟩
theorem SrcW.below {α : Type} {f : α → List Value} {w w' : World} {A : Option Addr} {n cap : Nat} {l : List α} (h : SrcW f w A n cap l) (hb : Below w.heap.size w w') : SrcW f w' A n cap l :=
  ⟨h.1, h.2.1, fun ad had j u hu => by
    have := h.2.2 ad had j u hu
    exact (hb.cell (World.block_lt_of_cell? w _ this)).trans this⟩

/-- A list of numbers of the call's own is returned. -/
def RetInts (l : List Int) (w : World) (e : Ending) (w' : World) : Prop := ∃ A cap, e = .returned (.slice A l.length cap) ∧ IntsW w.heap.size w'.heap.size w' A l.length cap l ∧ Below w.heap.size w w'

set_option maxHeartbeats 1000000 in
theorem l1Copy_any (l : List Int) (A : Option Addr) (n cap : Nat) (w : World) (h : SrcW ic w A n cap l) (hn : n ≤ 1048576) :
    Calls Try.prog 78 #[.slice A n cap] w (RetInts l w) := by
  obtain ⟨i0, hi0, hz0, hz1, hz2⟩ := info_parts int_info
  have HI := Lib.hid hi0
  have HZ0 := Lib.hid hz0
  have HZ1 := Lib.hid hz1
  have HZ2 := Lib.hid hz2
  clear hi0 hz0 hz1 hz2
  have HH := Lib.hid h
  have HL := Lib.hid h.1
  clear h
  go_enter Try.func78, Try.ntmps78
  go_wp2_with (at_builtin; go_must (refine wpList_append_any rfl (.tmp 3) (.tmp 4) _ rfl w.heap.size 2 i0 _ 1 8 Try.underlying55 HI.out HZ0.out HZ1.out HZ2.out rfl (by omega) (.slice (some ⟨w.heap.size, 0, none⟩) 0 0) 0 [] rfl (own_made rfl (Nat.le_refl _)) A n cap (l.flatMap ic) rfl HH.out.2.1 (by rw [flat_len _ 1 ic_len, HL.out]) (HH.out.al _).2.2 ic_one (by unfold maxLen; omega) (by omega) (by simp) ?_; intro v' w' hO' hg'; obtain ⟨A', cap', rfl, hP'⟩ := SlW.of_own (f := ic) (l := l) (n := n) (by simpa using hO') HL.out; have hB' : Below w.heap.size w w' := Below.grown ((Below.refl w.heap.size w).alloc (by omega) _) hg' (by simp) (fun k hk => by have := own_blk hk; omega)))
  go_ret
  refine ⟨A', cap', by rw [HL.out]; rfl, ?_, hB'⟩
  rw [HL.out]
  exact hP'

theorem list_info : (Try.prog.info? 55).map (fun i => (i.zero, i.size, i.bytes)) = some (some (.slice none 0 0), 1, 24) := by kernel_rfl

/-- Lists of the call's own are returned. -/
def RetLists (L : List (List Int)) (w : World) (e : Ending) (w' : World) : Prop := ∃ A cap, e = .returned (.slice A L.length cap) ∧ ListsW w.heap.size w'.heap.size w' A L.length cap L ∧ Below w.heap.size w w'

theorem EachW.snoc {lo hi : Nat} {w : World} {rows : List Jw} {L : List (List Int)} {i : Nat} {l : List Int} {a : Jw} (h : EachW lo hi w rows (L.take i)) (hl : L[i]? = some l) (ha : IntsW lo hi w a.A a.n a.cap l) : EachW lo hi w (rows ++ [a]) (L.take (i + 1)) := by
  have hi' : i < L.length := (List.getElem?_eq_some_iff.1 hl).1
  have hr : rows.length = i := by rw [h.1]; simp; omega
  refine ⟨by simp [hr]; omega, fun j b m hb hm => ?_⟩
  by_cases hj : j < i
  · rw [List.getElem?_append_left (by omega)] at hb
    rw [List.getElem?_take_of_lt (by omega)] at hm
    exact h.2 j b m hb (by rw [List.getElem?_take_of_lt hj]; exact hm)
  · obtain rfl : j = i := by
      have := (List.getElem?_eq_some_iff.1 hb).1
      simp [hr] at this; omega
    rw [List.getElem?_append_right (by omega), hr] at hb
    simp at hb
    rw [List.getElem?_take_of_lt (by omega), hl] at hm
    injection hm with hm
    subst hb hm
    exact ha

set_option maxRecDepth 100000 in
set_option maxHeartbeats 2000000 in
theorem l10Lists_any (L : List (List Int)) (A : Option Addr) (n cap lo hi : Nat) (w : World) (h : ListsW lo hi w A n cap L) (hh : hi ≤ w.heap.size) (hm : n ≤ 1048576) (hml : ∀ l ∈ L, l.length ≤ 1048576) :
    Calls Try.prog 74 #[.slice A n cap] w (RetLists L w) := by
  obtain ⟨i0, hi0, hz0, hz1, hz2⟩ := info_parts list_info
  have HI := Lib.hid hi0
  have HZ0 := Lib.hid hz0
  have HZ1 := Lib.hid hz1
  have HZ2 := Lib.hid hz2
  clear hi0 hz0 hz1 hz2
  have HL := Lib.hid h.len
  have HML := Lib.hid hml; clear hml
  go_enter Try.func74, Try.ntmps74
  go_wp2
  go_loopw [3, 4] (fun s3 s4 W => ∃ (i : Nat) (B : Option Addr) (c : Nat) (rows : List Jw), i ≤ n ∧ s4 = .int .i64 i ∧ s3 = .slice B i c ∧ rows.length = i ∧ Below w.heap.size w W ∧ W.ownsRow w.heap.size 55 1 (.slice B i c) i (rows.flatMap Jw.cs) ∧ EachW w.heap.size W.heap.size W rows (L.take i)) (fun _ s4 _ => n - (intOf s4).toNat)
  case atStart =>
    refine ⟨0, _, 0, [], Nat.zero_le _, rfl, rfl, rfl, (Below.refl _ _).alloc (Nat.le_refl _) _, own_made rfl (Nat.le_refl _), ?_⟩
    exact ⟨by simp, fun i a l ha => by simp at ha⟩
  case round =>
    obtain ⟨i, B, c, rows, hin, rfl, rfl, hrl, hB, hO, hE⟩ := hrel
    by_cases hlt : i < n
    · obtain ⟨b, l, A', n', cap', rfl, hlb, hbh, hl, hc, hI⟩ := (h.below hB hh).at_ hlt
      have hn' : n' ≤ 1048576 := by rw [← hI.1]; exact HML.out l (List.mem_of_getElem? hl)
      have HLI := Lib.hid hl; clear hl
      have HNL := Lib.hid hI.1
      have g1 : (i : Int) < (n : Int) := by omega
      have g2 : (0 : Int) ≤ (i : Int) := by omega
      go_wp2_with fail
      refine (l1Copy_any l A' n' cap' _ (SlW.src hI ic_len) hn').mono ?_
      rintro e w1 ⟨A2, c2, rfl, hI2, hb1⟩
      have hbs := hb1.size
      have hws := hB.size
      replace hB := bstep hB hB.size hb1
      replace hO := own_keep hO hb1
      replace hE := (hE.keep (.below hb1 (Nat.le_refl _))).mono (Nat.le_refl _) hb1.size
      have hI3 : IntsW w.heap.size w1.heap.size w1 A2 l.length c2 l := SlW.mono hI2 (by omega) (Nat.le_refl _)
      clear hb1 hc hI hI2
      have HRL := Lib.hid hrl; clear hrl
      go_wp2_with (at_builtin; go_must (refine wpList_append_own_at _ rfl (.tmp 12) (.tmp 18) _ rfl w.heap.size 55 i0 _ 1 24 Try.underlying85 HI.out HZ0.out HZ1.out HZ2.out rfl (by omega) (.slice B i c) i _ rfl (hO.alloc _) ⟨w1.heap.size, 0, none⟩ 1 1 [.slice A2 l.length c2] rfl rfl (news_alloc _ _ _) (by intro u hu; simp at hu; subst hu; rfl) (by unfold maxLen; omega) (by omega) (by simp; omega) ?_; intro v' w' hO' hg' hz' hat'; clear hz' hat'; obtain ⟨g', cap'', rfl, hP'⟩ := Own.of_row (f := Jw.cs) (l := rows ++ [(⟨A2, l.length, c2⟩ : Jw)]) (n := i + 1) (by rw [List.flatMap_append]; exact hO') (by simp [HRL.out]) (by omega); have hB' := Below.grown (hB.alloc (by omega) _) hg' (by simp; omega) (fun k hk => (hO.lt k hk).1)))
      have hkk : KeepT 2 w1 w' := (KeepT.alloc w1 _).trans (KeepT.grown (hO.alloc _) hg' (by decide))
      have hsz : w1.heap.size ≤ w'.heap.size := by have := hg'.size; simp at this; omega
      go_roundw
      case rel =>
        refine ⟨i + 1, some ⟨g', 0, none⟩, cap'', rows ++ [⟨A2, l.length, c2⟩], by omega, by go_num, rfl, by simp [HRL.out], hB', hP'.own Jw.cs_len, ?_⟩
        exact EachW.snoc ((hE.keepT hkk).mono (Nat.le_refl _) hsz) HLI.out (SlW.mono (SlW.keepT hI3 hkk) (Nat.le_refl _) hsz)
      case measure => simp [intOf]; omega
    · have g1 : ¬ (i : Int) < (n : Int) := by omega
      obtain rfl : n = i := by omega
      have HE := Lib.hid hE
      have HO := Lib.hid hO
      clear hE hO
      go_wp2
      go_ret
      refine ⟨B, c, by rw [HL.out]; rfl, ?_, hB⟩
      have hE := HE.out
      rw [List.take_of_length_le (by rw [HL.out]; exact Nat.le_refl _)] at hE
      obtain ⟨A1, c1, e1, hS⟩ := SlW.of_own (f := Jw.cs) HO.out hrl
      injection e1 with e1 _ e2
      subst e1 e2
      rw [HL.out]
      exact ⟨rows, hS, hE⟩

end Go.Proofs.Ytaieigdnfdnnpaa


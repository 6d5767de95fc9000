/-
 Crews: what the functions on them answer, as plain functions on plain data; how they lie in memory.
-/
import Derived.Test.YtiiaimjlohpemaaGreatFitS
import Derived.Test.YtiiaimjlohpemaaGreatEvI
import Derived.Test.YtiiaimjlohpemaaGreatStoreC
namespace Go.Proofs.YtiiaimjlohpemaaGreat
set_option linter.unusedSimpArgs false
set_option linter.unusedVariables false
open Go.RowKit
set_option linter.unusedVariables false
attribute [local go_sem ↓] Go.wp_at_zero Go.wp_at_succ

def Hd.cs (h : Hd) : List Value := (aH h)
theorem Hd.cs_len (h : Hd) : h.cs.length = 12 := rfl

structure Cr where
 st : St
 hs : List Hd
 js : List (List Int)
 bs : List Int
 ck : Int
 es : List Ev
def Cr.zero : Cr := ⟨.zero, [], [], [], 0, []⟩

def jobB (z : Int) : Bool := inB z 0 1000000
def jobsOk (l : List Int) : Bool := l.all jobB && decide (l.length ≤ 4)
def crHead (c : Cr) : Bool := stOk c.st && inB c.hs.length 1 4 && (c.js.length == c.hs.length) && (c.bs.length == c.hs.length) && inB c.ck 0 2000 && storyOk c.es
def crAt (c : Cr) (i : Nat) : Bool := fits c.st (c.hs.getD i .zero) && jobsOk (c.js.getD i []) && inB (c.bs.getD i 0) 0 c.ck
def crOk (c : Cr) : Bool := crHead c && (List.range c.hs.length).all (crAt c)

/-- A list's one cell. -/
structure Jw where
 A : Option Addr
 n : Nat
 cap : Nat
def Jw.cs (a : Jw) : List Value := [.slice a.A a.n a.cap]
theorem Jw.cs_len (a : Jw) : a.cs.length = 1 := rfl
def EachW (lo hi : Nat) (w : World) (rows : List Jw) (L : List (List Int)) : Prop := rows.length = L.length ∧ ∀ (i : Nat) (a : Jw) (l : List Int), rows[i]? = some a → L[i]? = some l → IntsW lo hi w a.A a.n a.cap l
/-- Lists in a slice of their own. -/
def ListsW (lo hi : Nat) (w : World) (A : Option Addr) (n cap : Nat) (L : List (List Int)) : Prop := ∃ rows : List Jw, SlW Jw.cs 1 42 lo hi w A n cap rows ∧ EachW lo hi w rows L

section
variable {lo hi lo' hi' : Nat} {w w' : World} {A : Option Addr} {n cap : Nat} {L : List (List Int)} {rows : List Jw}
theorem EachW.keep (h : EachW lo hi w rows L) (hs : SameIn lo hi w w') : EachW lo hi w' rows L := ⟨h.1, fun i a l ha hl => SlW.keep (h.2 i a l ha hl) hs⟩
theorem EachW.mono (h : EachW lo hi w rows L) (h1 : lo' ≤ lo) (h2 : hi ≤ hi') : EachW lo' hi' w rows L := ⟨h.1, fun i a l ha hl => SlW.mono (h.2 i a l ha hl) h1 h2⟩
theorem EachW.cut (h : EachW lo hi w rows L) : EachW lo w.heap.size w rows L := ⟨h.1, fun i a l ha hl => SlW.cut (h.2 i a l ha hl)⟩
theorem EachW.setsT (h : EachW lo hi w rows L) {b : Nat} {cs : Array Value} {t : TypeId} (hk : BoxAt w b cs t) (ht : t ≠ 2) (us : List Value) (o : Nat) : EachW lo hi (setCells w b o us) rows L :=
 ⟨h.1, fun i a l ha hl => SlW.setsT (h.2 i a l ha hl) hk ht us o⟩
theorem ListsW.len (h : ListsW lo hi w A n cap L) : L.length = n := by obtain ⟨rows, h1, h2⟩ := h; rw [← h2.1]; exact h1.1
theorem ListsW.keep (h : ListsW lo hi w A n cap L) (hs : SameIn lo hi w w') : ListsW lo hi w' A n cap L := by
 obtain ⟨rows, h1, h2⟩ := h; exact ⟨rows, h1.keep hs, h2.keep hs⟩
theorem ListsW.mono (h : ListsW lo hi w A n cap L) (h1 : lo' ≤ lo) (h2 : hi ≤ hi') : ListsW lo' hi' w A n cap L := by
 obtain ⟨rows, k1, k2⟩ := h; exact ⟨rows, k1.mono h1 h2, k2.mono h1 h2⟩
theorem ListsW.cut (h : ListsW lo hi w A n cap L) : ListsW lo w.heap.size w A n cap L := by
 obtain ⟨rows, k1, k2⟩ := h; exact ⟨rows, k1.cut, k2.cut⟩
theorem ListsW.below (h : ListsW lo hi w A n cap L) (hb : Below w.heap.size w w') (hh : hi ≤ w.heap.size) : ListsW lo hi w' A n cap L := h.keep (.below hb hh)
theorem ListsW.setsT (h : ListsW lo hi w A n cap L) {b : Nat} {cs : Array Value} {t : TypeId} (hk : BoxAt w b cs t) (ht : t ≠ 2) (ht' : t ≠ 42) (us : List Value) (o : Nat) : ListsW lo hi (setCells w b o us) A n cap L := by
 obtain ⟨rows, k1, k2⟩ := h; exact ⟨rows, k1.setsT hk ht' us o, k2.setsT hk ht us o⟩
theorem ListsW.nil : ListsW lo hi w none 0 0 [] := ⟨[], SlW.nil, rfl, fun i a l h => by simp at h⟩
theorem ListsW.at_ (h : ListsW lo hi w A n cap L) {i : Nat} (hin : i < n) : ∃ (b : Nat) (l : List Int) (A' : Option Addr) (n' cap' : Nat), A = some ⟨b, 0, none⟩ ∧ lo ≤ b ∧ b < hi ∧ L[i]? = some l ∧ w.cell? ⟨b, i, none⟩ = some (.slice A' n' cap') ∧ IntsW lo hi w A' n' cap' l := by
 have hL := h.len
 obtain ⟨rows, h1, h2⟩ := h
 obtain ⟨b, x, hA, h3, h4, hx, hc⟩ := h1.at_ Jw.cs_len hin
 have hl : L[i]? = some (L[i]'(by omega)) := List.getElem?_eq_getElem (by omega)
 refine ⟨b, L[i]'(by omega), x.A, x.n, x.cap, hA, h3, h4, hl, ?_, h2.2 i x _ hx hl⟩
 have := hc 0 _ rfl
 simpa using this
end

/-- Where a crew's lists lie. -/
structure Slc where
 A : Option Addr
 n : Nat
 cap : Nat
structure CrL where
 s : Slc
 h : Slc
 j : Slc
 b : Slc
 e : Slc
def crCs (c : Cr) (y : CrL) : List Value := [c.st.rd, c.st.mo, .slice y.s.A y.s.n y.s.cap, c.st.fi, c.st.la, .slice y.h.A y.h.n y.h.cap, .slice y.j.A y.j.n y.j.cap, .slice y.b.A y.b.n y.b.cap, c.ck, .slice y.e.A y.e.n y.e.cap]
def crV (c : Cr) (y : CrL) : Value := .agg #[c.st.rd, c.st.mo, .slice y.s.A y.s.n y.s.cap, c.st.fi, c.st.la, .slice y.h.A y.h.n y.h.cap, .slice y.j.A y.j.n y.j.cap, .slice y.b.A y.b.n y.b.cap, c.ck, .slice y.e.A y.e.n y.e.cap]
def HdsW (lo hi : Nat) (w : World) (A : Option Addr) (n cap : Nat) (l : List Hd) : Prop := SlW Hd.cs 12 106 lo hi w A n cap l
structure CrW (lo hi : Nat) (w : World) (c : Cr) (y : CrL) : Prop where
 s : RgsW lo hi w y.s.A y.s.n y.s.cap c.st.rs
 h : HdsW lo hi w y.h.A y.h.n y.h.cap c.hs
 j : ListsW lo hi w y.j.A y.j.n y.j.cap c.js
 b : IntsW lo hi w y.b.A y.b.n y.b.cap c.bs
 e : EvsW lo hi w y.e.A y.e.n y.e.cap c.es

section
variable {lo hi lo' hi' : Nat} {w w' : World} {c : Cr} {y : CrL}
theorem CrW.keep (h : CrW lo hi w c y) (hs : SameIn lo hi w w') : CrW lo hi w' c y := ⟨h.s.keep hs, SlW.keep h.h hs, h.j.keep hs, SlW.keep h.b hs, SlW.keep h.e hs⟩
theorem CrW.mono (h : CrW lo hi w c y) (h1 : lo' ≤ lo) (h2 : hi ≤ hi') : CrW lo' hi' w c y := ⟨h.s.mono h1 h2, SlW.mono h.h h1 h2, h.j.mono h1 h2, SlW.mono h.b h1 h2, SlW.mono h.e h1 h2⟩
theorem CrW.cut (h : CrW lo hi w c y) : CrW lo w.heap.size w c y := ⟨h.s.cut, SlW.cut h.h, h.j.cut, SlW.cut h.b, SlW.cut h.e⟩
theorem CrW.below (h : CrW lo hi w c y) (hb : Below w.heap.size w w') (hh : hi ≤ w.heap.size) : CrW lo hi w' c y := h.keep (.below hb hh)
theorem CrW.st (h : CrW lo hi w c y) {b : Nat} (hk : b < lo ∨ hi ≤ b) (i : Nat) (u : Value) : CrW lo hi (w.setCell ⟨b, i, none⟩ u) c y := h.keep (.set hk i u)
theorem CrW.drew (h : CrW lo hi w c y) : CrW lo hi w.drew c y := ⟨h.s, h.h, h.j, h.b, h.e⟩
theorem CrW.sts (h : CrW lo hi w c y) {b : Nat} (hk : b < lo ∨ hi ≤ b) (us : List Value) (o : Nat) : CrW lo hi (setCells w b o us) c y := h.keep fun j h1 h2 => sets_block (by omega) us o w
end
theorem CrW.sl {lo hi : Nat} {w : World} {c : Cr} {y : CrL} (h : CrW lo hi w c y) {b : Nat} {i : Nat} {u : Value} (hk : b < lo := by omega) : CrW lo hi (w.setCell ⟨b, i, none⟩ u) c y := h.st (.inl hk) i u

/-- Its lists are no longer than what is reckoned with. -/
structure CrFit (c : Cr) : Prop where
 s : c.st.rs.length ≤ 1048576
 p : ∀ r ∈ c.st.rs, r.ps.length ≤ 1048576
 h : c.hs.length ≤ 1048576
 j : c.js.length ≤ 1048576
 l : ∀ l ∈ c.js, l.length ≤ 1048576
 b : c.bs.length ≤ 1048576
 e : c.es.length ≤ 1048576

/-- A crew is returned. -/
def RetCr (q : Cr) (w : World) (e : Ending) (w' : World) : Prop := ∃ y, e = .returned (crV q y) ∧ CrW w.heap.size w'.heap.size w' q y ∧ Below w.heap.size w w'
/-- A crew and a bool are returned. -/
def RetCrB (q : Cr × Bool) (w : World) (e : Ending) (w' : World) : Prop := ∃ y, e = .returned (.tuple #[crV q.1 y, .bool q.2]) ∧ CrW w.heap.size w'.heap.size w' q.1 y ∧ Below w.heap.size w w'

/-! ### The tests of events, of stories and of jobs -/

set_option maxHeartbeats 1000000 in
theorem l10Jobs_any (l : List Int) (A : Option Addr) (n cap lo hi : Nat) (w : World) (h : IntsW lo hi w A n cap l) (hh : hi ≤ w.heap.size) (hm : n ≤ 1048576) :
  Calls Tryz.prog 68 #[.slice A n cap] w (RetBelow (.bool (jobsOk l)) w) := by
 have HL := Lib.hid h.1
 go_enter Tryz.func68, Tryz.ntmps68
 go_wp2
 go_loopw [3] (fun s3 W => ∃ i : Nat, i ≤ n ∧ s3 = .int .i64 i ∧ Below w.heap.size w W ∧ ∀ (j : Nat) x, j < i → l[j]? = some x → jobB x = true) (fun s3 _ => n - (intOf s3).toNat)
 case atStart => exact ⟨0, Nat.zero_le _, rfl, Below.refl _ _, fun j x h => absurd h (by omega)⟩
 case round =>
  obtain ⟨i, hin, rfl, hB, hal⟩ := hrel
  have HAL := Lib.hid hal; clear hal
  by_cases hlt : i < n
  ·
   obtain ⟨b, x, rfl, hlb, hbh, hx, hc⟩ := SlW.at_ (SlW.below h hB hh) ic_len hlt
   have HX := Lib.hid hx; clear hx
   have c0 := hc 0 _ rfl
   simp only [Nat.mul_one, Nat.add_zero] at c0
   clear hc
   have g1 : (i : Int) < (n : Int) := by omega
   have g2 : (0 : Int) ≤ (i : Int) := by omega
   go_wp2_with fail
   refine (l1In_any _ _ _ _).mono ?_
   rintro e w1 ⟨rfl, rfl⟩
   cases hok : inB x 0 1000000
   ·
    go_wp2
    go_ret
    exact .mk (by
     have : l.all jobB = false := by rw [List.all_eq_false]; exact ⟨x, List.mem_of_getElem? HX.out, by simp [jobB, hok]⟩
     simp [jobsOk, this]) hB
   ·
    have HOK := Lib.hid hok; clear hok
    go_wp2
    go_roundw
    case rel =>
     refine ⟨i + 1, by omega, by go_num, hB, fun j x' hj hx' => ?_⟩
     by_cases hji : j < i
     · exact HAL.out j x' hji hx'
     ·
      obtain rfl : j = i := by omega
      obtain rfl : x = x' := by have := HX.out; rw [hx'] at this; injection this with this; exact this.symm
      exact HOK.out
    case measure => simp [intOf]; omega
  ·
   have g1 : ¬ (i : Int) < (n : Int) := by omega
   obtain rfl : n = i := by omega
   have HV := Lib.hid (show jobsOk l = decide ((n : Int) ≤ 4) by
    have : l.all jobB = true := by
     rw [List.all_eq_true]
     intro x hx
     obtain ⟨j, hj⟩ := List.mem_iff_getElem?.1 hx
     exact HAL.out j x (by have := (List.getElem?_eq_some_iff.1 hj).1; rw [HL.out] at this; exact this) hj
    rw [jobsOk, this, HL.out, Bool.true_and]
    exact decide_eq_decide.2 (by omega))
   go_wp2
   go_ret
   exact .mk (congrArg Value.bool HV.out.symm) hB

end Go.Proofs.YtiiaimjlohpemaaGreat

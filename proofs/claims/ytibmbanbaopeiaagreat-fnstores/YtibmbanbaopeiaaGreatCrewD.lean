/-
 The walk of the copy of a crew, of the model.
-/
import Derived.Test.YtibmbanbaopeiaaGreatCrewC
namespace Go.Proofs.YtibmbanbaopeiaaGreat
set_option linter.unusedSimpArgs false
set_option linter.unusedVariables false
open Go.RowKit
set_option linter.unusedVariables false
attribute [local go_sem] OpUpon
attribute [local go_sem ↓] Go.wp_at_zero Go.wp_at_succ

/-! ### An append onto an empty row: nothing old is written -/

section
variable {P : Program}
theorem run_append_zero (w : World) (base : Nat) (t ty e : TypeId) (i : TypeInfo) (z : Value) (size bytes : Nat) (ht : P.underlying t = some (.slice e)) (hi : P.info? e = some i) (hz : i.zero = some z)
  (hsize : i.size = size) (hby : i.bytes = bytes) (hzs : z.cells.size = size) (hsz : 0 < size) (g : Nat) (hg : BoxAt w g #[] e) (hbg : base ≤ g)
  (A : Option Addr) (m c : Nat) (news : List Value) (hA : A = none → m = 0 ∧ c = 0) (hl : news.length = m * size) (hnews : ∀ ad, A = some ad → ∀ j u, news[j]? = some u → w.cell? (ad.add j) = some u) (h1 : ∀ u ∈ news, u.oneCell' = true)
  (h63 : m ≤ maxLen) (hbytes : m * bytes ≤ 140737488355328) (hbase : base ≤ w.heap.size) :
  ∃ A' cap' w', (Builtin.append_ #[t, t] ty #[.slice (some ⟨g, 0, none⟩) 0 0, .slice A m c]).run P w = .ok (.slice A' m cap') w' ∧ w'.ownsRow base e size (.slice A' m cap') m news ∧ Below w.heap.size w w' := by
 have hown : w.ownsRow base e size (.slice (some ⟨g, 0, none⟩) 0 0) 0 [] := ⟨by simp, .inr ⟨g, 0, #[], rfl, hbg, hg, Nat.le_refl _, Nat.zero_le _, by simp, by simp⟩⟩
 rcases Nat.eq_zero_or_pos m with h0 | h0
 ·
  subst h0
  have hn : news = [] := List.eq_nil_of_length_eq_zero (by simpa using hl)
  subst hn
  refine ⟨some ⟨g, 0, none⟩, 0, w, ?_, hown, Below.refl _ _⟩
  cases A with
  | none =>
   obtain ⟨_, rfl⟩ := hA rfl
   exact run_append_owned_none (P := P) w base t ty e i size ht hi _ 0 [] hown
  | some ad =>
   simp [Builtin.append_, run_underlying ht, sizeOf, typeInfo, hi, Builtin.lenOf, Builtin.firstCells, loadCells, loadCellsFrom, storeCells]
 ·
  cases A with
  | none => obtain ⟨h2, _⟩ := hA rfl; omega
  | some ad =>
   subst hsize
   subst hby
   have hr := run_append_grow (P := P) w t ty e i z ht hi hz ⟨g, 0, none⟩ 0 0 [] (by simp) (fun j u hu => by simp at hu) ad m c news hl (hnews ad rfl) (by omega) (by simp only [maxLen] at h63; omega) (growslice_fits (by omega) (by simpa using hbytes))
   have hge := grownCap_ge w (0 + m) 0 e
   have hcm : grownCap w (0 + m) 0 e ≤ maxLen := grownCap_le_maxLen w (0 + m) 0 e (by simpa using h63)
   simp only [Nat.zero_add] at hr hge hcm
   refine ⟨_, _, _, hr, ⟨hl, .inr ⟨w.heap.size, _, _, rfl, hbase, heap_alloc_new w.drew _, hge, hcm, ?_, ?_⟩⟩, ?_⟩
   ·
    simp only [Array.size_append, List.size_toArray, size_zeroCells, hzs, List.length_nil, hl, Nat.zero_add, ← Nat.add_mul]
    congr 1
    omega
   ·
    simp only [Array.toList_append, List.append_assoc]
    rw [← hl]
    simp
   · exact (Below.refl _ _).drew.alloc (Nat.le_refl _) _

theorem OpGoes.append_zero {ops : Array Oper} {o : Oper} {a : Act} {w : World} {K : Value → World → Prop} (hgd : o.guard = none) (s x : Operand) (t : TypeId)
  (ho : o.op = .call { callee := .builtin .append, args := #[s, x], argTypes := #[t, t] })
  (base : Nat) (e : TypeId) (i : TypeInfo) (z : Value) (size bytes : Nat) (ht : P.underlying t = some (.slice e)) (hi : P.info? e = some i) (hz : i.zero = some z)
  (hsize : i.size = size) (hby : i.bytes = bytes) (hzs : z.cells.size = size) (hsz : 0 < size) (g : Nat) (hs : a.eval s = .slice (some ⟨g, 0, none⟩) 0 0) (hg : BoxAt w g #[] e) (hbg : base ≤ g)
  (A : Option Addr) (m c : Nat) (news : List Value) (hx : a.eval x = .slice A m c) (hA : A = none → m = 0 ∧ c = 0) (hl : news.length = m * size) (hnews : ∀ ad, A = some ad → ∀ j u, news[j]? = some u → w.cell? (ad.add j) = some u) (h1 : ∀ u ∈ news, u.oneCell' = true)
  (h63 : m ≤ maxLen) (hbytes : m * bytes ≤ 140737488355328) (hbase : base ≤ w.heap.size)
  (h : ∀ A' cap' w', w'.ownsRow base e size (.slice A' m cap') m news → Below w.heap.size w w' → K (.slice A' m cap') w') : OpGoes P ops o a w K := by
 obtain ⟨A', cap', w', hr, h2, h3⟩ := run_append_zero (P := P) w base t o.type e i z size bytes ht hi hz hsize hby hzs hsz g hg hbg A m c news hA hl hnews h1 h63 hbytes hbase
 refine ⟨fun _ => ?_, fun hw => ?_⟩
 ·
  unfold execOp
  simp only [ho, resolve, invoke, builtin, Sem.run_bind, Sem.run_pure, Result.andThen_ok, List.map_toArray, List.map_cons, List.map_nil, hs, hx, hr]
  exact h A' cap' w' h2 h3
 · simp [Region.wanted, hgd] at hw
end

theorem SlW.of_own' {α : Type} {f : α → List Value} {k : Nat} {e : TypeId} {lo : Nat} {w : World} {A : Option Addr} {n cap : Nat} {l : List α} (h : w.ownsRow lo e k (.slice A n cap) n (l.flatMap f)) (hl : l.length = n) : SlW f k e lo w.heap.size w A n cap l := by
 obtain ⟨A', cap', e1, h1⟩ := SlW.of_own h hl
 injection e1 with e1 _ e2
 subst e1 e2
 exact h1
theorem Hd.cs_one {l : List Hd} : ∀ u ∈ l.flatMap Hd.cs, u.oneCell' = true := by
 intro u hu
 obtain ⟨p, _, hp⟩ := List.mem_flatMap.1 hu
 simp [Hd.cs] at hp
 rcases hp with rfl | rfl | rfl | rfl | rfl | rfl | rfl | rfl | rfl | rfl | rfl | rfl <;> rfl
theorem Ev.cs_one {l : List Ev} : ∀ u ∈ l.flatMap Ev.cs, u.oneCell' = true := by
 intro u hu
 obtain ⟨p, _, hp⟩ := List.mem_flatMap.1 hu
 simp [Ev.cs] at hp
 rcases hp with rfl | rfl | rfl | rfl | rfl | rfl <;> rfl
theorem hand_info : (Tryz.prog.info? 116).map (fun i => (i.zero, i.size, i.bytes)) = some (some (.agg #[.int .i64 0, .int .i64 0, .int .i64 0, .int .i64 0, .bool false, .int .i64 0, .bool false, .int .i64 0, .int .i64 0, .int .i64 0, .bool false, .int .i64 0]), 12, 96) := by kernel_rfl
theorem event_info : (Tryz.prog.info? 135).map (fun i => (i.zero, i.size, i.bytes)) = some (some (.agg #[.int .i64 0, .bool false, .int .i64 0, .int .i64 0, .int .i64 0, .int .i64 0]), 6, 48) := by kernel_rfl

/-! ### The parts of a copy, all from block N on -/

def EmptyAt (N : Nat) (w : World) (g : Nat) (T : TypeId) : Prop := BoxAt w g #[] T ∧ N ≤ g
def RgsN (N : Nat) (w : World) (A : Option Addr) (n cap : Nat) (L : List Rg) : Prop := RgsW N w.heap.size w A n cap L
def HdsN (N : Nat) (w : World) (A : Option Addr) (n cap : Nat) (L : List Hd) : Prop := HdsW N w.heap.size w A n cap L
def EvsN (N : Nat) (w : World) (A : Option Addr) (n cap : Nat) (L : List Ev) : Prop := EvsW N w.heap.size w A n cap L
def SpL (N : Nat) (w : World) (l u : Nat) (A : Option Addr) (n cap : Nat) (L : List (List Int)) : Prop := ListsW l u w A n cap L ∧ u ≤ w.heap.size ∧ N ≤ l
def SpI (N : Nat) (w : World) (l u : Nat) (A : Option Addr) (n cap : Nat) (L : List Int) : Prop := IntsW l u w A n cap L ∧ u ≤ w.heap.size ∧ N ≤ l
/-- A copy of a crew: the numbers' list lies apart from the lists'. -/
structure CopyCr (N : Nat) (w : World) (c : Cr) (y : CrL) (l u l' u' : Nat) : Prop where
 s : RgsN N w y.s.A y.s.n y.s.cap c.st.rs
 h : HdsN N w y.h.A y.h.n y.h.cap c.hs
 j : SpL N w l u y.j.A y.j.n y.j.cap c.js
 b : SpI N w l' u' y.b.A y.b.n y.b.cap c.bs
 e : EvsN N w y.e.A y.e.n y.e.cap c.es
 x : u ≤ l' ∨ u' ≤ l

section
variable {N M : Nat} {w w' : World} {A : Option Addr} {n cap l u l' u' : Nat}
theorem EmptyAt.belowN {g : Nat} {T : TypeId} (h : EmptyAt N w g T) (hb : Below w.heap.size w w') : EmptyAt N w' g T := ⟨h.1.below hb h.1.lt, h.2⟩
theorem EmptyAt.stsN {g : Nat} {T : TypeId} (h : EmptyAt N w g T) {b : Nat} (hb : b < N) (us : List Value) (o : Nat) : EmptyAt N (setCells w b o us) g T := ⟨BoxAt.sets_ne us o h.1 (by have := h.2; omega), h.2⟩
theorem RgsN.belowN {L : List Rg} (h : RgsN N w A n cap L) (hb : Below w.heap.size w w') : RgsN N w' A n cap L := RgsW.mono (RgsW.below h hb (Nat.le_refl _)) (Nat.le_refl _) hb.size
theorem RgsN.stsN {L : List Rg} (h : RgsN N w A n cap L) {b : Nat} (hb : b < N) (us : List Value) (o : Nat) : RgsN N (setCells w b o us) A n cap L := RgsW.mono (RgsW.sts h (.inl hb) us o) (Nat.le_refl _) (Nat.le_of_eq (sets_size _ _ _).symm)
theorem HdsN.belowN {L : List Hd} (h : HdsN N w A n cap L) (hb : Below w.heap.size w w') : HdsN N w' A n cap L := SlW.mono (SlW.below h hb (Nat.le_refl _)) (Nat.le_refl _) hb.size
theorem HdsN.stsN {L : List Hd} (h : HdsN N w A n cap L) {b : Nat} (hb : b < N) (us : List Value) (o : Nat) : HdsN N (setCells w b o us) A n cap L := SlW.mono (SlW.sts h (.inl hb) us o) (Nat.le_refl _) (Nat.le_of_eq (sets_size _ _ _).symm)
theorem EvsN.belowN {L : List Ev} (h : EvsN N w A n cap L) (hb : Below w.heap.size w w') : EvsN N w' A n cap L := SlW.mono (SlW.below h hb (Nat.le_refl _)) (Nat.le_refl _) hb.size
theorem EvsN.stsN {L : List Ev} (h : EvsN N w A n cap L) {b : Nat} (hb : b < N) (us : List Value) (o : Nat) : EvsN N (setCells w b o us) A n cap L := SlW.mono (SlW.sts h (.inl hb) us o) (Nat.le_refl _) (Nat.le_of_eq (sets_size _ _ _).symm)
theorem SpL.belowN {L : List (List Int)} (h : SpL N w l u A n cap L) (hb : Below w.heap.size w w') : SpL N w' l u A n cap L := ⟨h.1.below hb h.2.1, Nat.le_trans h.2.1 hb.size, h.2.2⟩
theorem SpL.stsN {L : List (List Int)} (h : SpL N w l u A n cap L) {b : Nat} (hb : b < N) (us : List Value) (o : Nat) : SpL N (setCells w b o us) l u A n cap L := ⟨h.1.keep fun j h1 h2 => sets_block (by have := h.2.2; omega) us o w, by rw [sets_size]; exact h.2.1, h.2.2⟩
theorem SpI.belowN {L : List Int} (h : SpI N w l u A n cap L) (hb : Below w.heap.size w w') : SpI N w' l u A n cap L := ⟨SlW.below h.1 hb h.2.1, Nat.le_trans h.2.1 hb.size, h.2.2⟩
theorem SpI.stsN {L : List Int} (h : SpI N w l u A n cap L) {b : Nat} (hb : b < N) (us : List Value) (o : Nat) : SpI N (setCells w b o us) l u A n cap L := ⟨SlW.keep h.1 fun j h1 h2 => sets_block (by have := h.2.2; omega) us o w, by rw [sets_size]; exact h.2.1, h.2.2⟩
theorem CopyCr.belowN {c : Cr} {y : CrL} (h : CopyCr N w c y l u l' u') (hb : Below w.heap.size w w') : CopyCr N w' c y l u l' u' := ⟨h.s.belowN hb, h.h.belowN hb, h.j.belowN hb, h.b.belowN hb, h.e.belowN hb, h.x⟩
theorem CopyCr.stsN {c : Cr} {y : CrL} (h : CopyCr N w c y l u l' u') {b : Nat} (hb : b < N) (us : List Value) (o : Nat) : CopyCr N (setCells w b o us) c y l u l' u' := ⟨h.s.stsN hb us o, h.h.stsN hb us o, h.j.stsN hb us o, h.b.stsN hb us o, h.e.stsN hb us o, h.x⟩
theorem CopyCr.mono {c : Cr} {y : CrL} (h : CopyCr N w c y l u l' u') (hM : M ≤ N) : CopyCr M w c y l u l' u' := ⟨RgsW.mono h.s hM (Nat.le_refl _), SlW.mono h.h hM (Nat.le_refl _), ⟨h.j.1, h.j.2.1, Nat.le_trans hM h.j.2.2⟩, ⟨h.b.1, h.b.2.1, Nat.le_trans hM h.b.2.2⟩, SlW.mono h.e hM (Nat.le_refl _), h.x⟩
theorem CopyCr.crw {c : Cr} {y : CrL} (h : CopyCr N w c y l u l' u') : CrW N w.heap.size w c y := ⟨h.s, h.h, h.j.1.mono h.j.2.2 h.j.2.1, SlW.mono h.b.1 h.b.2.2 h.b.2.1, h.e⟩
end

theorem l3CopyN (s : St) (A : Option Addr) (n cap lo hi : Nat) (w : World) (hr0 : RgsW lo hi w A n cap s.rs) (hh : hi ≤ w.heap.size) (h0 : 1 ≤ n) (hm : n ≤ 1048576) (hps : ∀ r ∈ s.rs, 0 < r.ps.length ∧ r.ps.length ≤ 1048576) :
  Calls Tryz.prog 97 #[.agg #[.int .i64 s.rd, .int .i64 s.mo, .slice A n cap, .int .i64 s.fi, .int .i64 s.la]] w (fun e w' => ∃ b c, e = .returned (.agg #[.int .i64 s.rd, .int .i64 s.mo, .slice (some ⟨b, 0, none⟩) n c, .int .i64 s.fi, .int .i64 s.la]) ∧ RgsW w.heap.size w'.heap.size w' (some ⟨b, 0, none⟩) n c s.rs ∧ Below w.heap.size w w') := by
 refine (l3Copy_any s A n cap lo hi w hr0 hh h0 hm hps).mono ?_
 rintro e w' ⟨b, c, rows, rfl, hR, hC, hb⟩
 exact ⟨b, c, rfl, hC.rgs hR hr0.1, hb⟩
theorem l10ListsN (L : List (List Int)) (A : Option Addr) (n cap lo hi : Nat) (w : World) (h : ListsW lo hi w A n cap L) (hh : hi ≤ w.heap.size) (hm : n ≤ 1048576) (hml : ∀ l ∈ L, l.length ≤ 1048576) :
  Calls Tryz.prog 87 #[.slice A n cap] w (fun e w' => ∃ A' c, e = .returned (.slice A' n c) ∧ ListsW w.heap.size w'.heap.size w' A' n c L ∧ Below w.heap.size w w') := by
 have hl := h.len
 refine (l10Lists_any L A n cap lo hi w h hh hm hml).mono ?_
 rintro e w' ⟨A', c, rfl, h1, hb⟩
 rw [hl] at h1 ⊢
 exact ⟨A', c, rfl, h1, hb⟩
theorem l1CopyN (l : List Int) (A : Option Addr) (n cap : Nat) (w : World) (h : SrcW ic w A n cap l) (hn : n ≤ 1048576) :
  Calls Tryz.prog 93 #[.slice A n cap] w (fun e w' => ∃ A' c, e = .returned (.slice A' n c) ∧ IntsW w.heap.size w'.heap.size w' A' n c l ∧ Below w.heap.size w w') := by
 have hl := h.1
 refine (l1Copy_any l A n cap w h hn).mono ?_
 rintro e w' ⟨A', c, rfl, h1, hb⟩
 rw [hl] at h1 ⊢
 exact ⟨A', c, rfl, h1, hb⟩

/-- What a right crew is. -/
structure CrNeat (c : Cr) : Prop where
 s : stOk c.st = true
 h : 1 ≤ c.hs.length ∧ c.hs.length ≤ 4
 j : c.js.length = c.hs.length
 b : c.bs.length = c.hs.length
 e : c.es.length ≤ 16
 l : ∀ l ∈ c.js, l.length ≤ 4
 k : 0 ≤ c.ck ∧ c.ck ≤ 2000
theorem crOk_neat {c : Cr} (h : crOk c = true) : CrNeat c := by
 simp only [crOk, crHead, Bool.and_eq_true, beq_iff_eq, List.all_eq_true, List.mem_range] at h
 obtain ⟨⟨⟨⟨⟨⟨h1, h2⟩, h3⟩, h4⟩, h5⟩, h6⟩, h7⟩ := h
 simp only [inB, Bool.and_eq_true, decide_eq_true_eq] at h2 h5
 simp only [storyOk, Bool.and_eq_true, decide_eq_true_eq] at h6
 refine ⟨h1, by omega, h3, h4, h6.2, fun l hl => ?_, h5⟩
 obtain ⟨i, hi⟩ := List.mem_iff_getElem?.1 hl
 have hil : i < c.hs.length := by have := (List.getElem?_eq_some_iff.1 hi).1; omega
 have := h7 i hil
 simp only [crAt, Bool.and_eq_true, jobsOk, decide_eq_true_eq] at this
 have h8 := this.1.2.2
 rwa [getD_some hi] at h8
theorem CrNeat.fit {c : Cr} (h : CrNeat c) : CrFit c :=
 ⟨by have := (stOk_neat h.s).2.1; omega, (stOk_neat h.s).len, by have := h.h; omega, by have := h.h; have := h.j; omega, fun l hl => by have := h.l l hl; omega, by have := h.h; have := h.b; omega, by have := h.e; omega⟩

/-- A copy of a crew is returned. -/
def RetCopyCr (c : Cr) (w : World) (e : Ending) (w' : World) : Prop := ∃ y l u l' u', e = .returned (crV c y) ∧ CopyCr w.heap.size w' c y l u l' u' ∧ Below w.heap.size w w'

def ccRR (c : Cr) (N mS kS mH kH mJ kJ mB kB mE kE : Nat) (sA hA jA bA eA : Option Addr) (j : Nat) (ω : Nat → Nat × Nat) (σ : Nat → Value) (w : World) : Prop :=
 match j with
 | 0 => σ 0 = .pointer (some ⟨N, 0, none⟩)
 | 1 => σ 1 = .agg #[.int .i64 c.st.rd, .int .i64 c.st.mo, .slice sA mS kS, .int .i64 c.st.fi, .int .i64 c.st.la]
 | 2 => ∃ (b2 c2 : Nat), σ 2 = .agg #[.int .i64 c.st.rd, .int .i64 c.st.mo, .slice (some ⟨b2, 0, none⟩) mS c2, .int .i64 c.st.fi, .int .i64 c.st.la] ∧ RgsN (N + 2) w (some ⟨b2, 0, none⟩) mS c2 c.st.rs
 | 3 => ∃ (g3 : Nat), σ 3 = .slice (some ⟨g3, 0, none⟩) 0 0 ∧ EmptyAt (N + 2) w g3 116
 | 4 => σ 4 = .pointer (some ⟨N, 5, none⟩)
 | 5 => σ 5 = .slice hA mH kH
 | 6 => ∃ (A6 : Option Addr) (c6 : Nat), σ 6 = .slice A6 mH c6 ∧ HdsN (N + 2) w A6 mH c6 c.hs
 | 7 => σ 7 = .pointer (some ⟨N, 6, none⟩)
 | 8 => σ 8 = .slice jA mJ kJ
 | 9 => ∃ (A9 : Option Addr) (c9 : Nat), σ 9 = .slice A9 mJ c9 ∧ SpL (N + 2) w (ω 9).1 (ω 9).2 A9 mJ c9 c.js
 | 10 => σ 10 = .pointer (some ⟨N, 7, none⟩)
 | 11 => σ 11 = .slice bA mB kB
 | 12 => ∃ (A12 : Option Addr) (c12 : Nat), σ 12 = .slice A12 mB c12 ∧ SpI (N + 2) w (ω 12).1 (ω 12).2 A12 mB c12 c.bs
 | 13 => σ 13 = .pointer (some ⟨N, 8, none⟩)
 | 14 => σ 14 = .int .i64 c.ck
 | 15 => ∃ (g15 : Nat), σ 15 = .slice (some ⟨g15, 0, none⟩) 0 0 ∧ EmptyAt (N + 2) w g15 135
 | 16 => σ 16 = .pointer (some ⟨N, 9, none⟩)
 | 17 => σ 17 = .slice eA mE kE
 | 18 => ∃ (A18 : Option Addr) (c18 : Nat), σ 18 = .slice A18 mE c18 ∧ EvsN (N + 2) w A18 mE c18 c.es
 | 19 => ∃ (y : CrL) (l9 u9 l12 u12 : Nat), σ 19 = .agg #[.int .i64 c.st.rd, .int .i64 c.st.mo, .slice y.s.A y.s.n y.s.cap, .int .i64 c.st.fi, .int .i64 c.st.la, .slice y.h.A y.h.n y.h.cap, .slice y.j.A y.j.n y.j.cap, .slice y.b.A y.b.n y.b.cap, .int .i64 c.ck, .slice y.e.A y.e.n y.e.cap] ∧ CopyCr (N + 2) w c y l9 u9 l12 u12
 | 20 => ∃ (y : CrL) (l9 u9 l12 u12 : Nat), BoxAt w (N + 1) #[.int .i64 c.st.rd, .int .i64 c.st.mo, .slice y.s.A y.s.n y.s.cap, .int .i64 c.st.fi, .int .i64 c.st.la, .slice y.h.A y.h.n y.h.cap, .slice y.j.A y.j.n y.j.cap, .slice y.b.A y.b.n y.b.cap, .int .i64 c.ck, .slice y.e.A y.e.n y.e.cap] 84 ∧ CopyCr (N + 2) w c y l9 u9 l12 u12
 | _ => True

def ccRS (j : Nat) : List Nat := [[0], [1], [2], [3], [4], [5], [6], [7], [8], [9], [10], [11], [12], [13], [14], [15], [16], [17], [18], [19], [20]].getD j [j]
def ccRK (j : Nat) : Nat := [0, 0, 0, 0, 0, 0, 0, 0, 0, 0, 0, 0, 0, 0, 0, 0, 0, 0, 0, 0, 1].getD j 0

set_option maxRecDepth 100000 in
set_option maxHeartbeats 4000000 in
theorem l10Copy_any (c : Cr) (y : CrL) (lo hi : Nat) (w : World) (hW0 : CrW lo hi w c y) (hh : hi ≤ w.heap.size) (hn : CrNeat c) :
  Calls Tryz.prog 90 #[crV c y] w (RetCopyCr c w) := by
 obtain ⟨iH, hi0, hz0, hz1, hz2⟩ := info_parts hand_info
 have HI := Lib.hid hi0
 have HZ0 := Lib.hid hz0
 have HZ1 := Lib.hid hz1
 have HZ2 := Lib.hid hz2
 clear hi0 hz0 hz1 hz2
 obtain ⟨iE, hi0, hz0, hz1, hz2⟩ := info_parts event_info
 have EI := Lib.hid hi0
 have EZ0 := Lib.hid hz0
 have EZ1 := Lib.hid hz1
 have EZ2 := Lib.hid hz2
 clear hi0 hz0 hz1 hz2
 obtain ⟨⟨sA, mS, kS⟩, ⟨hA, mH, kH⟩, ⟨jA, mJ, kJ⟩, ⟨bA, mB, kB⟩, ⟨eA, mE, kE⟩⟩ := y
 have hf := hn.fit
 have nt := stOk_neat hn.s
 have e1 : c.st.rs.length = mS := hW0.s.1
 have e2 : c.hs.length = mH := hW0.h.1
 have e3 : c.js.length = mJ := hW0.j.len
 have e4 : c.bs.length = mB := hW0.b.1
 have e5 : c.es.length = mE := hW0.e.1
 have h0 : 1 ≤ mS := by have := nt.1; omega
 have hm1 : mS ≤ 1048576 := by have := hf.s; omega
 have hm2 : mH ≤ 1048576 := by have := hf.h; omega
 have hm3 : mJ ≤ 1048576 := by have := hf.j; omega
 have hm4 : mB ≤ 1048576 := by have := hf.b; omega
 have hm5 : mE ≤ 1048576 := by have := hf.e; omega
 have HPS := Lib.hid nt.cp
 have HJ := Lib.hid hf.l
 clear e1 e2 e3 e4 e5 hf nt hn
 obtain ⟨N, hNe⟩ : ∃ N, N = w.heap.size := ⟨_, rfl⟩
 have hN1 : w.heap.size ≤ N := by omega
 have hN2 : N ≤ w.heap.size := by omega
 have HN := Lib.hid hNe
 unfold crV
 dsimp only
 go_enter Tryz.func90, Tryz.ntmps90
 go_upto_region 1 with fail
 rw [← HN.out]
 refine wp_abs (fun W => Below N w W ∧ BoxAt W N #[.int .i64 c.st.rd, .int .i64 c.st.mo, .slice sA mS kS, .int .i64 c.st.fi, .int .i64 c.st.la, .slice hA mH kH, .slice jA mJ kJ, .slice bA mB kB, .int .i64 c.ck, .slice eA mE kE] 84 ∧ BoxAt W (N + 1) #[.int .i64 0, .int .i64 0, .slice none 0 0, .int .i64 0, .int .i64 0, .slice none 0 0, .slice none 0 0, .slice none 0 0, .int .i64 0, .slice none 0 0] 84) ⟨((Below.refl _ _).alloc (by omega) _).alloc (by simp; omega) _, (BoxAt.new' (by omega)).alloc _, BoxAt.new' (by simp; omega)⟩ ?_
 clear hNe
 rintro W ⟨hB, hs, hz⟩
 have hW := hW0.below (hB.mono hN1) hh
 have hhi : hi ≤ W.heap.size := by have := hB.size; omega
 have hM : N + 2 ≤ W.heap.size := by have := hz.lt; omega
 refine wp_region3 (fun w w' => Below w.heap.size w w') (fun _ _ h => h.size) (fun L W' => Below N w W' ∧ BoxAt W' N #[.int .i64 c.st.rd, .int .i64 c.st.mo, .slice sA mS kS, .int .i64 c.st.fi, .int .i64 c.st.la, .slice hA mH kH, .slice jA mJ kJ, .slice bA mB kB, .int .i64 c.ck, .slice eA mE kE] 84 ∧ CrW lo hi W' c (⟨⟨sA, mS, kS⟩, ⟨hA, mH, kH⟩, ⟨jA, mJ, kJ⟩, ⟨bA, mB, kB⟩, ⟨eA, mE, kE⟩⟩ : CrL) ∧ hi ≤ W'.heap.size ∧ N + 2 ≤ W'.heap.size ∧ (∃ x0 x1 x2 x3 x4 x5 x6 x7 x8 x9, BoxAt W' (N + 1) #[x0, x1, x2, x3, x4, x5, x6, x7, x8, x9] 84) ∧ (L 20 = false → BoxAt W' (N + 1) #[.int .i64 0, .int .i64 0, .slice none 0 0, .int .i64 0, .int .i64 0, .slice none 0 0, .slice none 0 0, .slice none 0 0, .int .i64 0, .slice none 0 0] 84)) (ccRR c N mS kS mH kH mJ kJ mB kB mE kE sA hA jA bA eA) ccRK ccRS (by kernel_rfl) (by kernel_rfl) ?_ ?_ ?_
  (.grow rfl ?_ <| .grow rfl ?_ <| .grow rfl ?_ <| .grow rfl ?_ <| .grow rfl ?_ <| .grow rfl ?_ <| .grow rfl ?_ <| .grow rfl ?_ <| .grow rfl ?_ <| .grow rfl ?_ <| .grow rfl ?_ <| .grow rfl ?_ <| .grow rfl ?_ <| .grow rfl ?_ <| .grow rfl ?_ <| .grow rfl ?_ <| .grow rfl ?_ <| .grow rfl ?_ <| .grow rfl ?_ <| .grow rfl ?_ <| .store rfl ?_ <| .nil) ?_
 ·
  intro j ω ω' σ τ w h hω hR
  match j, h, hω, hR with
  | 0, h, hω, hR => exact (h 0 (List.mem_singleton.2 rfl)).symm.trans hR
  | 1, h, hω, hR => exact (h 1 (List.mem_singleton.2 rfl)).symm.trans hR
  | 2, h, hω, hR => obtain ⟨b2, c2, e, hp⟩ := hR; exact ⟨b2, c2, (h 2 (List.mem_singleton.2 rfl)).symm.trans e, hp⟩
  | 3, h, hω, hR => obtain ⟨g3, e, hp⟩ := hR; exact ⟨g3, (h 3 (List.mem_singleton.2 rfl)).symm.trans e, hp⟩
  | 4, h, hω, hR => exact (h 4 (List.mem_singleton.2 rfl)).symm.trans hR
  | 5, h, hω, hR => exact (h 5 (List.mem_singleton.2 rfl)).symm.trans hR
  | 6, h, hω, hR => obtain ⟨A6, c6, e, hp⟩ := hR; exact ⟨A6, c6, (h 6 (List.mem_singleton.2 rfl)).symm.trans e, hp⟩
  | 7, h, hω, hR => exact (h 7 (List.mem_singleton.2 rfl)).symm.trans hR
  | 8, h, hω, hR => exact (h 8 (List.mem_singleton.2 rfl)).symm.trans hR
  | 9, h, hω, hR => obtain ⟨A9, c9, e, hp⟩ := hR; exact ⟨A9, c9, (h 9 (List.mem_singleton.2 rfl)).symm.trans e, by rw [← hω]; exact hp⟩
  | 10, h, hω, hR => exact (h 10 (List.mem_singleton.2 rfl)).symm.trans hR
  | 11, h, hω, hR => exact (h 11 (List.mem_singleton.2 rfl)).symm.trans hR
  | 12, h, hω, hR => obtain ⟨A12, c12, e, hp⟩ := hR; exact ⟨A12, c12, (h 12 (List.mem_singleton.2 rfl)).symm.trans e, by rw [← hω]; exact hp⟩
  | 13, h, hω, hR => exact (h 13 (List.mem_singleton.2 rfl)).symm.trans hR
  | 14, h, hω, hR => exact (h 14 (List.mem_singleton.2 rfl)).symm.trans hR
  | 15, h, hω, hR => obtain ⟨g15, e, hp⟩ := hR; exact ⟨g15, (h 15 (List.mem_singleton.2 rfl)).symm.trans e, hp⟩
  | 16, h, hω, hR => exact (h 16 (List.mem_singleton.2 rfl)).symm.trans hR
  | 17, h, hω, hR => exact (h 17 (List.mem_singleton.2 rfl)).symm.trans hR
  | 18, h, hω, hR => obtain ⟨A18, c18, e, hp⟩ := hR; exact ⟨A18, c18, (h 18 (List.mem_singleton.2 rfl)).symm.trans e, hp⟩
  | 19, h, hω, hR => obtain ⟨y, l9, u9, l12, u12, e, hp⟩ := hR; exact ⟨y, l9, u9, l12, u12, (h 19 (List.mem_singleton.2 rfl)).symm.trans e, hp⟩
  | 20, _, _, hR => exact hR
  | _ + 21, _, _, _ => exact trivial
 ·
  intro j ω σ w w' hb hR
  match j, hR with
  | 0, hR => exact hR
  | 1, hR => exact hR
  | 2, hR => obtain ⟨b2, c2, e, hp⟩ := hR; exact ⟨b2, c2, e, hp.belowN hb⟩
  | 3, hR => obtain ⟨g3, e, hp⟩ := hR; exact ⟨g3, e, hp.belowN hb⟩
  | 4, hR => exact hR
  | 5, hR => exact hR
  | 6, hR => obtain ⟨A6, c6, e, hp⟩ := hR; exact ⟨A6, c6, e, hp.belowN hb⟩
  | 7, hR => exact hR
  | 8, hR => exact hR
  | 9, hR => obtain ⟨A9, c9, e, hp⟩ := hR; exact ⟨A9, c9, e, hp.belowN hb⟩
  | 10, hR => exact hR
  | 11, hR => exact hR
  | 12, hR => obtain ⟨A12, c12, e, hp⟩ := hR; exact ⟨A12, c12, e, hp.belowN hb⟩
  | 13, hR => exact hR
  | 14, hR => exact hR
  | 15, hR => obtain ⟨g15, e, hp⟩ := hR; exact ⟨g15, e, hp.belowN hb⟩
  | 16, hR => exact hR
  | 17, hR => exact hR
  | 18, hR => obtain ⟨A18, c18, e, hp⟩ := hR; exact ⟨A18, c18, e, hp.belowN hb⟩
  | 19, hR => obtain ⟨y, l9, u9, l12, u12, e, hp⟩ := hR; exact ⟨y, l9, u9, l12, u12, e, hp.belowN hb⟩
  | 20, hR => obtain ⟨y, l9, u9, l12, u12, hx, hp⟩ := hR; exact ⟨y, l9, u9, l12, u12, hx.below hb hx.lt, hp.belowN hb⟩
  | _ + 21, _ => exact trivial
 · exact ⟨hB.drew, hs, hW.drew, hhi, hM, ⟨_, _, _, _, _, _, _, _, _, _, hz⟩, fun _ => hz⟩
 ·
  go_light
  intro L ω σ W' hcl hL hC hw hx
  clear hw
  have HC := Lib.hid hC
  clear hC
  clear hcl hL
  refine OpGoes.go fun K hK => ?_
  go_simp
  obtain ⟨hB, hs, hW, hhi, hM, ⟨_, _, _, _, _, _, _, _, _, _, hz⟩, hz_o⟩ := HC.out
  exact hK _ _ ⟨⟨hB, hs, hW, hhi, hM, ⟨_, _, _, _, _, _, _, _, _, _, hz⟩, fun h => hz_o (by simpa [upd] using h)⟩, rfl, Below.refl _ _⟩
 ·
  go_light
  intro L ω σ W' hcl hL hC hw hx
  have e0 : σ 0 = .pointer (some ⟨N, 0, none⟩) := hw 0 (by kernel_rfl)
  clear hw
  have HC := Lib.hid hC
  obtain ⟨hB, hs, hW, hhi, hM, ⟨_, _, _, _, _, _, _, _, _, _, hz⟩, hz_o⟩ := hC
  have ks := hs.cell
  clear hcl hL
  clear hB hs hW hhi hM hz hz_o
  refine OpGoes.go fun K hK => ?_
  go_simp
  obtain ⟨hB, hs, hW, hhi, hM, ⟨_, _, _, _, _, _, _, _, _, _, hz⟩, hz_o⟩ := HC.out
  exact hK _ _ ⟨⟨hB, hs, hW, hhi, hM, ⟨_, _, _, _, _, _, _, _, _, _, hz⟩, fun h => hz_o (by simpa [upd] using h)⟩, rfl, Below.refl _ _⟩
 ·
  go_light
  intro L ω σ W' hcl hL hC hw hx
  have e1 : σ 1 = _ := hw 1 (by kernel_rfl)
  clear hw
  have HC := Lib.hid hC
  clear hC
  clear hcl hL
  refine OpGoes.go fun K hK => ?_
  go_simp
  obtain ⟨hB, hs, hW, hhi, hM, ⟨_, _, _, _, _, _, _, _, _, _, hz⟩, hz_o⟩ := HC.out
  refine (l3CopyN c.st sA mS kS lo hi _ hW.s hhi h0 hm1 HPS.out).mono ?_
  rintro e w1 ⟨b2, c2, rfl, hO2, hb1⟩
  exact ⟨_, rfl, hK _ _ ⟨⟨bstep hB (Nat.le_trans hN2 hB.size) hb1, hs.below hb1 hs.lt, hW.below hb1 hhi, Nat.le_trans hhi hb1.size, Nat.le_trans hM hb1.size, ⟨_, _, _, _, _, _, _, _, _, _, hz.below hb1 hz.lt⟩, fun h => (hz_o (by simpa [upd] using h)).below hb1 (hz_o (by simpa [upd] using h)).lt⟩, ⟨b2, c2, rfl, RgsW.mono hO2 hM (Nat.le_refl _)⟩, hb1⟩⟩
 ·
  go_light
  intro L ω σ W' hcl hL hC hw hx
  clear hw
  have HC := Lib.hid hC
  clear hC
  clear hcl hL
  refine OpGoes.go fun K hK => ?_
  go_simp
  obtain ⟨hB, hs, hW, hhi, hM, ⟨_, _, _, _, _, _, _, _, _, _, hz⟩, hz_o⟩ := HC.out
  have hb1 : Below W'.heap.size W' (W'.alloc (.cells #[] 116)) := (Below.refl _ _).alloc (Nat.le_refl _) _
  exact hK _ _ ⟨⟨bstep hB (Nat.le_trans hN2 hB.size) hb1, hs.below hb1 hs.lt, hW.below hb1 hhi, Nat.le_trans hhi hb1.size, Nat.le_trans hM hb1.size, ⟨_, _, _, _, _, _, _, _, _, _, hz.below hb1 hz.lt⟩, fun h => (hz_o (by simpa [upd] using h)).below hb1 (hz_o (by simpa [upd] using h)).lt⟩, ⟨W'.heap.size, rfl, BoxAt.new _ _ _, hM⟩, hb1⟩
 ·
  go_light
  intro L ω σ W' hcl hL hC hw hx
  clear hw
  have HC := Lib.hid hC
  clear hC
  clear hcl hL
  refine OpGoes.go fun K hK => ?_
  go_simp
  obtain ⟨hB, hs, hW, hhi, hM, ⟨_, _, _, _, _, _, _, _, _, _, hz⟩, hz_o⟩ := HC.out
  exact hK _ _ ⟨⟨hB, hs, hW, hhi, hM, ⟨_, _, _, _, _, _, _, _, _, _, hz⟩, fun h => hz_o (by simpa [upd] using h)⟩, rfl, Below.refl _ _⟩
 ·
  go_light
  intro L ω σ W' hcl hL hC hw hx
  have e4 : σ 4 = .pointer (some ⟨N, 5, none⟩) := hw 4 (by kernel_rfl)
  clear hw
  have HC := Lib.hid hC
  obtain ⟨hB, hs, hW, hhi, hM, ⟨_, _, _, _, _, _, _, _, _, _, hz⟩, hz_o⟩ := hC
  have ks := hs.cell
  clear hcl hL
  clear hB hs hW hhi hM hz hz_o
  refine OpGoes.go fun K hK => ?_
  go_simp
  obtain ⟨hB, hs, hW, hhi, hM, ⟨_, _, _, _, _, _, _, _, _, _, hz⟩, hz_o⟩ := HC.out
  exact hK _ _ ⟨⟨hB, hs, hW, hhi, hM, ⟨_, _, _, _, _, _, _, _, _, _, hz⟩, fun h => hz_o (by simpa [upd] using h)⟩, rfl, Below.refl _ _⟩
 ·
  go_light
  intro L ω σ W' hcl hL hC hw hx
  obtain ⟨g3, e3, hp3⟩ : ∃ (g3 : Nat), σ 3 = .slice (some ⟨g3, 0, none⟩) 0 0 ∧ EmptyAt (N + 2) W' g3 116 := hw 3 (by kernel_rfl)
  have e5 : σ 5 = .slice hA mH kH := hw 5 (by kernel_rfl)
  clear hw
  obtain ⟨hB, hs, hW, hhi, hM, ⟨_, _, _, _, _, _, _, _, _, _, hz⟩, hz_o⟩ := hC
  clear hcl hL
  refine OpGoes.append_zero rfl (.tmp 6) (.tmp 8) _ rfl (N + 2) 116 iH _ 12 96 Tryz.underlying80 HI.out HZ0.out HZ1.out HZ2.out rfl (by omega) g3 (by go_simp) hp3.1 hp3.2 hA mH kH (c.hs.flatMap Hd.cs) (by go_simp) (SlW.src hW.h Hd.cs_len).2.1 (by rw [flat_len _ 12 Hd.cs_len, (SlW.src hW.h Hd.cs_len).1]) (SlW.src hW.h Hd.cs_len).2.2 Hd.cs_one (by unfold maxLen; omega) (by omega) hM ?_
  intro A6 c6 w1 hO hb1
  refine ⟨⟨bstep hB (Nat.le_trans hN2 hB.size) hb1, hs.below hb1 hs.lt, hW.below hb1 hhi, Nat.le_trans hhi hb1.size, Nat.le_trans hM hb1.size, ⟨_, _, _, _, _, _, _, _, _, _, hz.below hb1 hz.lt⟩, fun h => (hz_o (by simpa [upd] using h)).below hb1 (hz_o (by simpa [upd] using h)).lt⟩, ⟨A6, c6, rfl, ?_⟩, hb1⟩
  exact SlW.of_own' (f := Hd.cs) hO (SlW.src hW.h Hd.cs_len).1
 ·
  go_light
  intro L ω σ W' hcl hL hC hw hx
  clear hw
  have HC := Lib.hid hC
  clear hC
  clear hcl hL
  refine OpGoes.go fun K hK => ?_
  go_simp
  obtain ⟨hB, hs, hW, hhi, hM, ⟨_, _, _, _, _, _, _, _, _, _, hz⟩, hz_o⟩ := HC.out
  exact hK _ _ ⟨⟨hB, hs, hW, hhi, hM, ⟨_, _, _, _, _, _, _, _, _, _, hz⟩, fun h => hz_o (by simpa [upd] using h)⟩, rfl, Below.refl _ _⟩
 ·
  go_light
  intro L ω σ W' hcl hL hC hw hx
  have e7 : σ 7 = .pointer (some ⟨N, 6, none⟩) := hw 7 (by kernel_rfl)
  clear hw
  have HC := Lib.hid hC
  obtain ⟨hB, hs, hW, hhi, hM, ⟨_, _, _, _, _, _, _, _, _, _, hz⟩, hz_o⟩ := hC
  have ks := hs.cell
  clear hcl hL
  clear hB hs hW hhi hM hz hz_o
  refine OpGoes.go fun K hK => ?_
  go_simp
  obtain ⟨hB, hs, hW, hhi, hM, ⟨_, _, _, _, _, _, _, _, _, _, hz⟩, hz_o⟩ := HC.out
  exact hK _ _ ⟨⟨hB, hs, hW, hhi, hM, ⟨_, _, _, _, _, _, _, _, _, _, hz⟩, fun h => hz_o (by simpa [upd] using h)⟩, rfl, Below.refl _ _⟩
 ·
  go_light
  intro L ω σ W' hcl hL hC hw hx
  have e8 : σ 8 = .slice jA mJ kJ := hw 8 (by kernel_rfl)
  clear hw
  have HC := Lib.hid hC
  clear hC
  clear hcl hL
  refine OpGoes.go fun K hK => ?_
  go_simp
  obtain ⟨hB, hs, hW, hhi, hM, ⟨_, _, _, _, _, _, _, _, _, _, hz⟩, hz_o⟩ := HC.out
  refine (l10ListsN c.js jA mJ kJ lo hi _ hW.j hhi hm3 HJ.out).mono ?_
  rintro e w1 ⟨A9, c9, rfl, hO9, hb1⟩
  exact ⟨_, rfl, hK _ _ ⟨⟨bstep hB (Nat.le_trans hN2 hB.size) hb1, hs.below hb1 hs.lt, hW.below hb1 hhi, Nat.le_trans hhi hb1.size, Nat.le_trans hM hb1.size, ⟨_, _, _, _, _, _, _, _, _, _, hz.below hb1 hz.lt⟩, fun h => (hz_o (by simpa [upd] using h)).below hb1 (hz_o (by simpa [upd] using h)).lt⟩, ⟨A9, c9, rfl, hO9, Nat.le_refl _, hM⟩, hb1⟩⟩
 ·
  go_light
  intro L ω σ W' hcl hL hC hw hx
  clear hw
  have HC := Lib.hid hC
  clear hC
  clear hcl hL
  refine OpGoes.go fun K hK => ?_
  go_simp
  obtain ⟨hB, hs, hW, hhi, hM, ⟨_, _, _, _, _, _, _, _, _, _, hz⟩, hz_o⟩ := HC.out
  exact hK _ _ ⟨⟨hB, hs, hW, hhi, hM, ⟨_, _, _, _, _, _, _, _, _, _, hz⟩, fun h => hz_o (by simpa [upd] using h)⟩, rfl, Below.refl _ _⟩
 ·
  go_light
  intro L ω σ W' hcl hL hC hw hx
  have e10 : σ 10 = .pointer (some ⟨N, 7, none⟩) := hw 10 (by kernel_rfl)
  clear hw
  have HC := Lib.hid hC
  obtain ⟨hB, hs, hW, hhi, hM, ⟨_, _, _, _, _, _, _, _, _, _, hz⟩, hz_o⟩ := hC
  have ks := hs.cell
  clear hcl hL
  clear hB hs hW hhi hM hz hz_o
  refine OpGoes.go fun K hK => ?_
  go_simp
  obtain ⟨hB, hs, hW, hhi, hM, ⟨_, _, _, _, _, _, _, _, _, _, hz⟩, hz_o⟩ := HC.out
  exact hK _ _ ⟨⟨hB, hs, hW, hhi, hM, ⟨_, _, _, _, _, _, _, _, _, _, hz⟩, fun h => hz_o (by simpa [upd] using h)⟩, rfl, Below.refl _ _⟩
 ·
  go_light
  intro L ω σ W' hcl hL hC hw hx
  have e11 : σ 11 = .slice bA mB kB := hw 11 (by kernel_rfl)
  clear hw
  have HC := Lib.hid hC
  clear hC
  clear hcl hL
  refine OpGoes.go fun K hK => ?_
  go_simp
  obtain ⟨hB, hs, hW, hhi, hM, ⟨_, _, _, _, _, _, _, _, _, _, hz⟩, hz_o⟩ := HC.out
  refine (l1CopyN c.bs bA mB kB _ (SlW.src hW.b ic_len) hm4).mono ?_
  rintro e w1 ⟨A12, c12, rfl, hO12, hb1⟩
  exact ⟨_, rfl, hK _ _ ⟨⟨bstep hB (Nat.le_trans hN2 hB.size) hb1, hs.below hb1 hs.lt, hW.below hb1 hhi, Nat.le_trans hhi hb1.size, Nat.le_trans hM hb1.size, ⟨_, _, _, _, _, _, _, _, _, _, hz.below hb1 hz.lt⟩, fun h => (hz_o (by simpa [upd] using h)).below hb1 (hz_o (by simpa [upd] using h)).lt⟩, ⟨A12, c12, rfl, hO12, Nat.le_refl _, hM⟩, hb1⟩⟩
 ·
  go_light
  intro L ω σ W' hcl hL hC hw hx
  clear hw
  have HC := Lib.hid hC
  clear hC
  clear hcl hL
  refine OpGoes.go fun K hK => ?_
  go_simp
  obtain ⟨hB, hs, hW, hhi, hM, ⟨_, _, _, _, _, _, _, _, _, _, hz⟩, hz_o⟩ := HC.out
  exact hK _ _ ⟨⟨hB, hs, hW, hhi, hM, ⟨_, _, _, _, _, _, _, _, _, _, hz⟩, fun h => hz_o (by simpa [upd] using h)⟩, rfl, Below.refl _ _⟩
 ·
  go_light
  intro L ω σ W' hcl hL hC hw hx
  have e13 : σ 13 = .pointer (some ⟨N, 8, none⟩) := hw 13 (by kernel_rfl)
  clear hw
  have HC := Lib.hid hC
  obtain ⟨hB, hs, hW, hhi, hM, ⟨_, _, _, _, _, _, _, _, _, _, hz⟩, hz_o⟩ := hC
  have ks := hs.cell
  clear hcl hL
  clear hB hs hW hhi hM hz hz_o
  refine OpGoes.go fun K hK => ?_
  go_simp
  obtain ⟨hB, hs, hW, hhi, hM, ⟨_, _, _, _, _, _, _, _, _, _, hz⟩, hz_o⟩ := HC.out
  exact hK _ _ ⟨⟨hB, hs, hW, hhi, hM, ⟨_, _, _, _, _, _, _, _, _, _, hz⟩, fun h => hz_o (by simpa [upd] using h)⟩, rfl, Below.refl _ _⟩
 ·
  go_light
  intro L ω σ W' hcl hL hC hw hx
  clear hw
  have HC := Lib.hid hC
  clear hC
  clear hcl hL
  refine OpGoes.go fun K hK => ?_
  go_simp
  obtain ⟨hB, hs, hW, hhi, hM, ⟨_, _, _, _, _, _, _, _, _, _, hz⟩, hz_o⟩ := HC.out
  have hb1 : Below W'.heap.size W' (W'.alloc (.cells #[] 135)) := (Below.refl _ _).alloc (Nat.le_refl _) _
  exact hK _ _ ⟨⟨bstep hB (Nat.le_trans hN2 hB.size) hb1, hs.below hb1 hs.lt, hW.below hb1 hhi, Nat.le_trans hhi hb1.size, Nat.le_trans hM hb1.size, ⟨_, _, _, _, _, _, _, _, _, _, hz.below hb1 hz.lt⟩, fun h => (hz_o (by simpa [upd] using h)).below hb1 (hz_o (by simpa [upd] using h)).lt⟩, ⟨W'.heap.size, rfl, BoxAt.new _ _ _, hM⟩, hb1⟩
 ·
  go_light
  intro L ω σ W' hcl hL hC hw hx
  clear hw
  have HC := Lib.hid hC
  clear hC
  clear hcl hL
  refine OpGoes.go fun K hK => ?_
  go_simp
  obtain ⟨hB, hs, hW, hhi, hM, ⟨_, _, _, _, _, _, _, _, _, _, hz⟩, hz_o⟩ := HC.out
  exact hK _ _ ⟨⟨hB, hs, hW, hhi, hM, ⟨_, _, _, _, _, _, _, _, _, _, hz⟩, fun h => hz_o (by simpa [upd] using h)⟩, rfl, Below.refl _ _⟩
 ·
  go_light
  intro L ω σ W' hcl hL hC hw hx
  have e16 : σ 16 = .pointer (some ⟨N, 9, none⟩) := hw 16 (by kernel_rfl)
  clear hw
  have HC := Lib.hid hC
  obtain ⟨hB, hs, hW, hhi, hM, ⟨_, _, _, _, _, _, _, _, _, _, hz⟩, hz_o⟩ := hC
  have ks := hs.cell
  clear hcl hL
  clear hB hs hW hhi hM hz hz_o
  refine OpGoes.go fun K hK => ?_
  go_simp
  obtain ⟨hB, hs, hW, hhi, hM, ⟨_, _, _, _, _, _, _, _, _, _, hz⟩, hz_o⟩ := HC.out
  exact hK _ _ ⟨⟨hB, hs, hW, hhi, hM, ⟨_, _, _, _, _, _, _, _, _, _, hz⟩, fun h => hz_o (by simpa [upd] using h)⟩, rfl, Below.refl _ _⟩
 ·
  go_light
  intro L ω σ W' hcl hL hC hw hx
  obtain ⟨g15, e15, hp15⟩ : ∃ (g15 : Nat), σ 15 = .slice (some ⟨g15, 0, none⟩) 0 0 ∧ EmptyAt (N + 2) W' g15 135 := hw 15 (by kernel_rfl)
  have e17 : σ 17 = .slice eA mE kE := hw 17 (by kernel_rfl)
  clear hw
  obtain ⟨hB, hs, hW, hhi, hM, ⟨_, _, _, _, _, _, _, _, _, _, hz⟩, hz_o⟩ := hC
  clear hcl hL
  refine OpGoes.append_zero rfl (.tmp 18) (.tmp 20) _ rfl (N + 2) 135 iE _ 6 48 Tryz.underlying82 EI.out EZ0.out EZ1.out EZ2.out rfl (by omega) g15 (by go_simp) hp15.1 hp15.2 eA mE kE (c.es.flatMap Ev.cs) (by go_simp) (SlW.src hW.e Ev.cs_len).2.1 (by rw [flat_len _ 6 Ev.cs_len, (SlW.src hW.e Ev.cs_len).1]) (SlW.src hW.e Ev.cs_len).2.2 Ev.cs_one (by unfold maxLen; omega) (by omega) hM ?_
  intro A18 c18 w1 hO hb1
  refine ⟨⟨bstep hB (Nat.le_trans hN2 hB.size) hb1, hs.below hb1 hs.lt, hW.below hb1 hhi, Nat.le_trans hhi hb1.size, Nat.le_trans hM hb1.size, ⟨_, _, _, _, _, _, _, _, _, _, hz.below hb1 hz.lt⟩, fun h => (hz_o (by simpa [upd] using h)).below hb1 (hz_o (by simpa [upd] using h)).lt⟩, ⟨A18, c18, rfl, ?_⟩, hb1⟩
  exact SlW.of_own' (f := Ev.cs) hO (SlW.src hW.e Ev.cs_len).1
 ·
  go_light
  intro L ω σ W' hcl hL hC hw hx
  obtain ⟨b2, c2, e2, hp2⟩ : ∃ (b2 c2 : Nat), σ 2 = .agg #[.int .i64 c.st.rd, .int .i64 c.st.mo, .slice (some ⟨b2, 0, none⟩) mS c2, .int .i64 c.st.fi, .int .i64 c.st.la] ∧ RgsN (N + 2) W' (some ⟨b2, 0, none⟩) mS c2 c.st.rs := hw 2 (by kernel_rfl)
  obtain ⟨A6, c6, e6, hp6⟩ : ∃ (A6 : Option Addr) (c6 : Nat), σ 6 = .slice A6 mH c6 ∧ HdsN (N + 2) W' A6 mH c6 c.hs := hw 6 (by kernel_rfl)
  obtain ⟨A9, c9, e9, hp9⟩ : ∃ (A9 : Option Addr) (c9 : Nat), σ 9 = .slice A9 mJ c9 ∧ SpL (N + 2) W' (ω 9).1 (ω 9).2 A9 mJ c9 c.js := hw 9 (by kernel_rfl)
  obtain ⟨A12, c12, e12, hp12⟩ : ∃ (A12 : Option Addr) (c12 : Nat), σ 12 = .slice A12 mB c12 ∧ SpI (N + 2) W' (ω 12).1 (ω 12).2 A12 mB c12 c.bs := hw 12 (by kernel_rfl)
  have e14 : σ 14 = .int .i64 c.ck := hw 14 (by kernel_rfl)
  obtain ⟨A18, c18, e18, hp18⟩ : ∃ (A18 : Option Addr) (c18 : Nat), σ 18 = .slice A18 mE c18 ∧ EvsN (N + 2) W' A18 mE c18 c.es := hw 18 (by kernel_rfl)
  clear hw
  have HC := Lib.hid hC
  clear hC
  clear hcl hL
  refine OpGoes.go fun K hK => ?_
  go_simp
  obtain ⟨hB, hs, hW, hhi, hM, ⟨_, _, _, _, _, _, _, _, _, _, hz⟩, hz_o⟩ := HC.out
  exact hK _ _ ⟨⟨hB, hs, hW, hhi, hM, ⟨_, _, _, _, _, _, _, _, _, _, hz⟩, fun h => hz_o (by simpa [upd] using h)⟩, ⟨⟨⟨some ⟨b2, 0, none⟩, mS, c2⟩, ⟨A6, mH, c6⟩, ⟨A9, mJ, c9⟩, ⟨A12, mB, c12⟩, ⟨A18, mE, c18⟩⟩, (ω 9).1, (ω 9).2, (ω 12).1, (ω 12).2, rfl, ⟨hp2, hp6, hp9, hp12, hp18, hx 9 12 (by kernel_rfl) (by kernel_rfl) (by decide)⟩⟩, Below.refl _ _⟩
 ·
  go_light
  intro L ω σ W' hcl hL hC hw hx hne
  obtain ⟨y, l9, u9, l12, u12, e19, hp19⟩ : ∃ (y : CrL) (l9 u9 l12 u12 : Nat), σ 19 = .agg #[.int .i64 c.st.rd, .int .i64 c.st.mo, .slice y.s.A y.s.n y.s.cap, .int .i64 c.st.fi, .int .i64 c.st.la, .slice y.h.A y.h.n y.h.cap, .slice y.j.A y.j.n y.j.cap, .slice y.b.A y.b.n y.b.cap, .int .i64 c.ck, .slice y.e.A y.e.n y.e.cap] ∧ CopyCr (N + 2) W' c y l9 u9 l12 u12 := hw 19 (by kernel_rfl)
  clear hw hne
  have HC := Lib.hid hC
  obtain ⟨hB, hs, hW, hhi, hM, ⟨_, _, _, _, _, _, _, _, _, _, hz⟩, hz_o⟩ := hC
  clear hcl hL
  have kc_ := hz.cell
  have kf_ := hz.frozen
  clear hB hs hW hhi hM hz hz_o
  refine OpGoes.go fun K hK => ?_
  go_simp
  obtain ⟨hB, hs, hW, hhi, hM, ⟨_, _, _, _, _, _, _, _, _, _, hz⟩, hz_o⟩ := HC.out
  have hset := sets_all (us := [.int .i64 c.st.rd, .int .i64 c.st.mo, .slice y.s.A y.s.n y.s.cap, .int .i64 c.st.fi, .int .i64 c.st.la, .slice y.h.A y.h.n y.h.cap, .slice y.j.A y.j.n y.j.cap, .slice y.b.A y.b.n y.b.cap, .int .i64 c.ck, .slice y.e.A y.e.n y.e.cap]) hz rfl
  refine hK undef (setCells W' (N + 1) 0 [.int .i64 c.st.rd, .int .i64 c.st.mo, .slice y.s.A y.s.n y.s.cap, .int .i64 c.st.fi, .int .i64 c.st.la, .slice y.h.A y.h.n y.h.cap, .slice y.j.A y.j.n y.j.cap, .slice y.b.A y.b.n y.b.cap, .int .i64 c.ck, .slice y.e.A y.e.n y.e.cap]) ⟨⟨(Below.setCells (by omega) [.int .i64 c.st.rd, .int .i64 c.st.mo, .slice y.s.A y.s.n y.s.cap, .int .i64 c.st.fi, .int .i64 c.st.la, .slice y.h.A y.h.n y.h.cap, .slice y.j.A y.j.n y.j.cap, .slice y.b.A y.b.n y.b.cap, .int .i64 c.ck, .slice y.e.A y.e.n y.e.cap] 0 hB), (BoxAt.sets_ne [.int .i64 c.st.rd, .int .i64 c.st.mo, .slice y.s.A y.s.n y.s.cap, .int .i64 c.st.fi, .int .i64 c.st.la, .slice y.h.A y.h.n y.h.cap, .slice y.j.A y.j.n y.j.cap, .slice y.b.A y.b.n y.b.cap, .int .i64 c.ck, .slice y.e.A y.e.n y.e.cap] 0 hs (by omega)), (CrW.sts hW (by omega) [.int .i64 c.st.rd, .int .i64 c.st.mo, .slice y.s.A y.s.n y.s.cap, .int .i64 c.st.fi, .int .i64 c.st.la, .slice y.h.A y.h.n y.h.cap, .slice y.j.A y.j.n y.j.cap, .slice y.b.A y.b.n y.b.cap, .int .i64 c.ck, .slice y.e.A y.e.n y.e.cap] 0), (size_sts hhi [.int .i64 c.st.rd, .int .i64 c.st.mo, .slice y.s.A y.s.n y.s.cap, .int .i64 c.st.fi, .int .i64 c.st.la, .slice y.h.A y.h.n y.h.cap, .slice y.j.A y.j.n y.j.cap, .slice y.b.A y.b.n y.b.cap, .int .i64 c.ck, .slice y.e.A y.e.n y.e.cap] 0), (size_sts hM [.int .i64 c.st.rd, .int .i64 c.st.mo, .slice y.s.A y.s.n y.s.cap, .int .i64 c.st.fi, .int .i64 c.st.la, .slice y.h.A y.h.n y.h.cap, .slice y.j.A y.j.n y.j.cap, .slice y.b.A y.b.n y.b.cap, .int .i64 c.ck, .slice y.e.A y.e.n y.e.cap] 0), ⟨_, _, _, _, _, _, _, _, _, _, hset⟩, fun h => absurd h (by simp [upd])⟩, ⟨y, l9, u9, l12, u12, hset, (hp19.stsN (by omega) [.int .i64 c.st.rd, .int .i64 c.st.mo, .slice y.s.A y.s.n y.s.cap, .int .i64 c.st.fi, .int .i64 c.st.la, .slice y.h.A y.h.n y.h.cap, .slice y.j.A y.j.n y.j.cap, .slice y.b.A y.b.n y.b.cap, .int .i64 c.ck, .slice y.e.A y.e.n y.e.cap] 0)⟩, Nat.le_of_eq (sets_size _ _ _).symm, fun j hj hn hR => ?_⟩
  match j, hj, hn, hR with
  | 0, _, _, hR => exact (show σ 0 = _ from hR)
  | 1, _, _, hR => exact (show σ 1 = _ from hR)
  | 2, _, _, hR => obtain ⟨b2_x, c2_x, e, hp⟩ := hR; exact ⟨b2_x, c2_x, e, (hp.stsN (by omega) [.int .i64 c.st.rd, .int .i64 c.st.mo, .slice y.s.A y.s.n y.s.cap, .int .i64 c.st.fi, .int .i64 c.st.la, .slice y.h.A y.h.n y.h.cap, .slice y.j.A y.j.n y.j.cap, .slice y.b.A y.b.n y.b.cap, .int .i64 c.ck, .slice y.e.A y.e.n y.e.cap] 0)⟩
  | 3, _, _, hR => obtain ⟨g3_x, e, hp⟩ := hR; exact ⟨g3_x, e, (hp.stsN (by omega) [.int .i64 c.st.rd, .int .i64 c.st.mo, .slice y.s.A y.s.n y.s.cap, .int .i64 c.st.fi, .int .i64 c.st.la, .slice y.h.A y.h.n y.h.cap, .slice y.j.A y.j.n y.j.cap, .slice y.b.A y.b.n y.b.cap, .int .i64 c.ck, .slice y.e.A y.e.n y.e.cap] 0)⟩
  | 4, _, _, hR => exact (show σ 4 = _ from hR)
  | 5, _, _, hR => exact (show σ 5 = _ from hR)
  | 6, _, _, hR => obtain ⟨A6_x, c6_x, e, hp⟩ := hR; exact ⟨A6_x, c6_x, e, (hp.stsN (by omega) [.int .i64 c.st.rd, .int .i64 c.st.mo, .slice y.s.A y.s.n y.s.cap, .int .i64 c.st.fi, .int .i64 c.st.la, .slice y.h.A y.h.n y.h.cap, .slice y.j.A y.j.n y.j.cap, .slice y.b.A y.b.n y.b.cap, .int .i64 c.ck, .slice y.e.A y.e.n y.e.cap] 0)⟩
  | 7, _, _, hR => exact (show σ 7 = _ from hR)
  | 8, _, _, hR => exact (show σ 8 = _ from hR)
  | 9, _, _, hR => obtain ⟨A9_x, c9_x, e, hp⟩ := hR; exact ⟨A9_x, c9_x, e, (hp.stsN (by omega) [.int .i64 c.st.rd, .int .i64 c.st.mo, .slice y.s.A y.s.n y.s.cap, .int .i64 c.st.fi, .int .i64 c.st.la, .slice y.h.A y.h.n y.h.cap, .slice y.j.A y.j.n y.j.cap, .slice y.b.A y.b.n y.b.cap, .int .i64 c.ck, .slice y.e.A y.e.n y.e.cap] 0)⟩
  | 10, _, _, hR => exact (show σ 10 = _ from hR)
  | 11, _, _, hR => exact (show σ 11 = _ from hR)
  | 12, _, _, hR => obtain ⟨A12_x, c12_x, e, hp⟩ := hR; exact ⟨A12_x, c12_x, e, (hp.stsN (by omega) [.int .i64 c.st.rd, .int .i64 c.st.mo, .slice y.s.A y.s.n y.s.cap, .int .i64 c.st.fi, .int .i64 c.st.la, .slice y.h.A y.h.n y.h.cap, .slice y.j.A y.j.n y.j.cap, .slice y.b.A y.b.n y.b.cap, .int .i64 c.ck, .slice y.e.A y.e.n y.e.cap] 0)⟩
  | 13, _, _, hR => exact (show σ 13 = _ from hR)
  | 14, _, _, hR => exact (show σ 14 = _ from hR)
  | 15, _, _, hR => obtain ⟨g15_x, e, hp⟩ := hR; exact ⟨g15_x, e, (hp.stsN (by omega) [.int .i64 c.st.rd, .int .i64 c.st.mo, .slice y.s.A y.s.n y.s.cap, .int .i64 c.st.fi, .int .i64 c.st.la, .slice y.h.A y.h.n y.h.cap, .slice y.j.A y.j.n y.j.cap, .slice y.b.A y.b.n y.b.cap, .int .i64 c.ck, .slice y.e.A y.e.n y.e.cap] 0)⟩
  | 16, _, _, hR => exact (show σ 16 = _ from hR)
  | 17, _, _, hR => exact (show σ 17 = _ from hR)
  | 18, _, _, hR => obtain ⟨A18_x, c18_x, e, hp⟩ := hR; exact ⟨A18_x, c18_x, e, (hp.stsN (by omega) [.int .i64 c.st.rd, .int .i64 c.st.mo, .slice y.s.A y.s.n y.s.cap, .int .i64 c.st.fi, .int .i64 c.st.la, .slice y.h.A y.h.n y.h.cap, .slice y.j.A y.j.n y.j.cap, .slice y.b.A y.b.n y.b.cap, .int .i64 c.ck, .slice y.e.A y.e.n y.e.cap] 0)⟩
  | 19, _, _, hR => obtain ⟨y_x, l9_x, u9_x, l12_x, u12_x, e, hp⟩ := hR; exact ⟨y_x, l9_x, u9_x, l12_x, u12_x, e, (hp.stsN (by omega) [.int .i64 c.st.rd, .int .i64 c.st.mo, .slice y.s.A y.s.n y.s.cap, .int .i64 c.st.fi, .int .i64 c.st.la, .slice y.h.A y.h.n y.h.cap, .slice y.j.A y.j.n y.j.cap, .slice y.b.A y.b.n y.b.cap, .int .i64 c.ck, .slice y.e.A y.e.n y.e.cap] 0)⟩
  | 20, hj, _, _ => exact absurd rfl hj
  | _ + 21, _, _, _ => exact trivial
 ·
  intro ω σ L W' hall hC hR hx
  obtain ⟨hB, hs, hW, hhi, hM, ⟨_, _, _, _, _, _, _, _, _, _, hz⟩, hz_o⟩ := hC
  obtain ⟨y, l9, u9, l12, u12, s20, hp20⟩ : ∃ (y : CrL) (l9 u9 l12 u12 : Nat), BoxAt W' (N + 1) #[.int .i64 c.st.rd, .int .i64 c.st.mo, .slice y.s.A y.s.n y.s.cap, .int .i64 c.st.fi, .int .i64 c.st.la, .slice y.h.A y.h.n y.h.cap, .slice y.j.A y.j.n y.j.cap, .slice y.b.A y.b.n y.b.cap, .int .i64 c.ck, .slice y.e.A y.e.n y.e.cap] 84 ∧ CopyCr (N + 2) W' c y l9 u9 l12 u12 := hR 20 (by decide)
  clear hR
  simp only [lexAll]
  go_simp
  go_step
  have kz := s20.cell
  go_wp2
  refine bodyPost_ret (v := crV c y) (by simp [results, Tryz.results90, go_sem, kz, crV]) rfl ⟨y, l9, u9, l12, u12, rfl, ?_, ?_⟩
  · rw [← HN.out]; exact hp20.mono (by omega)
  · rw [← HN.out]; exact hB

end Go.Proofs.YtibmbanbaopeiaaGreat

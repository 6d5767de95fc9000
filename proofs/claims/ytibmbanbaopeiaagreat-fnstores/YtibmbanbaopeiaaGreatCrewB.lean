/-
 Copies of lists, of the model; what is kept by type.
-/
import Derived.Test.YtibmbanbaopeiaaGreatCrewA
namespace Go.Proofs.YtibmbanbaopeiaaGreat
set_option linter.unusedSimpArgs false
set_option linter.unusedVariables false
open Go.RowKit
set_option linter.unusedVariables false
attribute [local go_sem ↓] Go.wp_at_zero Go.wp_at_succ

/-! ### What is kept by type -/

/-- Blocks of type T are as they were. -/
def KeepT (T : TypeId) (w w' : World) : Prop := ∀ g cs, BoxAt w g cs T → w'.heap[g]? = w.heap[g]?
theorem KeepT.refl (T : TypeId) (w : World) : KeepT T w w := fun _ _ _ => rfl
theorem KeepT.trans {T : TypeId} {a b c : World} (h : KeepT T a b) (h' : KeepT T b c) : KeepT T a c := fun g cs hg => (h' g cs (by unfold BoxAt at *; rw [h g cs hg]; exact hg)).trans (h g cs hg)
theorem KeepT.below {T : TypeId} {w w' : World} (h : Below w.heap.size w w') : KeepT T w w' := fun g _ hg => h.block g hg.lt
theorem KeepT.alloc {T : TypeId} (w : World) (o : Obj) : KeepT T w (w.alloc o) := .below ((Below.refl _ _).alloc (Nat.le_refl _) _)
theorem KeepT.sets {T : TypeId} {w : World} {b : Nat} {cs : Array Value} {t : TypeId} (hk : BoxAt w b cs t) (ht : t ≠ T) (us : List Value) (o : Nat) : KeepT T w (setCells w b o us) := fun g cs' hg => sets_block (by
 rintro rfl
 unfold BoxAt at hg hk
 rw [hg] at hk
 injection hk with hk
 injection hk with _ hk
 exact ht hk.symm) us o w
theorem KeepT.set {T : TypeId} {w : World} {b : Nat} {cs : Array Value} {t : TypeId} (hk : BoxAt w b cs t) (ht : t ≠ T) (i : Nat) (u : Value) : KeepT T w (w.setCell ⟨b, i, none⟩ u) := KeepT.sets hk ht [u] i
theorem KeepT.grown {T : TypeId} {w w' : World} {N : Nat} {e : TypeId} {k n : Nat} {v : Value} {xs : List Value} (ho : w.ownsRow N e k v n xs) (hg : w.grownBy w' v.ownBlock) (ht : e ≠ T) : KeepT T w w' := fun g cs hb => hg.block g hb.lt (by
 intro h
 rcases ho.2 with ⟨rfl, _⟩ | ⟨g', cap', cur, rfl, _, hc, _⟩
 · simp [Value.ownBlock] at h
 ·
  have := own_blk h.symm
  subst this
  unfold BoxAt at hb
  rw [hb] at hc
  injection hc with hc
  injection hc with _ hc
  exact ht hc.symm)

section
variable {lo hi : Nat} {w w' : World} {A : Option Addr} {n cap : Nat}
theorem Own.keepT {α : Type} {f : α → List Value} {k : Nat} {e : TypeId} {b : Nat} {l : List α} (h : Own f k e lo w b n cap l) (hk : KeepT e w w') : Own f k e lo w' b n cap l := by
 have h' := h
 obtain ⟨_, _, _, _, cur, hb, _⟩ := h'
 exact Own.keep h (hk b cur hb)
theorem SlW.keepT {α : Type} {f : α → List Value} {k : Nat} {e : TypeId} {l : List α} (h : SlW f k e lo hi w A n cap l) (hk : KeepT e w w') : SlW f k e lo hi w' A n cap l :=
 ⟨h.1, by
  rcases h.2 with h2 | ⟨g, eq, hb, ho⟩
  · exact .inl h2
  · exact .inr ⟨g, eq, hb, ho.keepT hk⟩⟩
theorem EachW.keepT {rows : List Jw} {L : List (List Int)} (h : EachW lo hi w rows L) (hk : KeepT 2 w w') : EachW lo hi w' rows L := ⟨h.1, fun i a l ha hl => SlW.keepT (h.2 i a l ha hl) hk⟩
theorem ListsW.keepT {L : List (List Int)} (h : ListsW lo hi w A n cap L) (hk : KeepT 2 w w') (hk' : KeepT 32 w w') : ListsW lo hi w' A n cap L := by
 obtain ⟨rows, h1, h2⟩ := h
 exact ⟨rows, h1.keepT hk', h2.keepT hk⟩
theorem PlsW.keepT {l : List Pl} (h : PlsW lo hi w A n cap l) (hk : KeepT 58 w w') : PlsW lo hi w' A n cap l :=
 ⟨h.1, fun hn => by obtain ⟨b, e, hb, ho⟩ := h.2 hn; exact ⟨b, e, hb, Own.keepT ho hk⟩⟩
theorem RgsW.keepT {L : List Rg} (h : RgsW lo hi w A n cap L) (hk : KeepT 58 w w') (hk' : KeepT 42 w w') : RgsW lo hi w' A n cap L :=
 ⟨h.1, fun hn => by
  obtain ⟨b, rows, e, hb, ho, ha⟩ := h.2 hn
  exact ⟨b, rows, e, hb, Own.keepT ho hk', fun i a hi => by obtain ⟨r, hr, e1, e2, e3, e4, hp⟩ := ha i a hi; exact ⟨r, hr, e1, e2, e3, e4, hp.keepT hk⟩⟩⟩
theorem CrW.keepT {c : Cr} {y : CrL} (h : CrW lo hi w c y) (k1 : KeepT 58 w w') (k2 : KeepT 42 w w') (k3 : KeepT 116 w w') (k4 : KeepT 2 w w') (k5 : KeepT 32 w w') (k6 : KeepT 135 w w') : CrW lo hi w' c y :=
 ⟨h.s.keepT k1 k2, SlW.keepT h.h k3, h.j.keepT k4 k5, SlW.keepT h.b k4, SlW.keepT h.e k6⟩
/-- Cells of a variable that is a crew are written. -/
theorem CrW.setsC {c : Cr} {y : CrL} (h : CrW lo hi w c y) {b : Nat} {cs : Array Value} (hk : BoxAt w b cs 84) (us : List Value) (o : Nat) : CrW lo hi (setCells w b o us) c y :=
 h.keepT (.sets hk (by decide) us o) (.sets hk (by decide) us o) (.sets hk (by decide) us o) (.sets hk (by decide) us o) (.sets hk (by decide) us o) (.sets hk (by decide) us o)
end

/-- Cells of a block, from an offset on. -/
def CellsAt (w : World) (b o : Nat) (us : List Value) : Prop := ∀ j u, us[j]? = some u → w.cell? ⟨b, o + j, none⟩ = some u
theorem CellsAt.below {w w' : World} {b o : Nat} {us : List Value} (h : CellsAt w b o us) (hb : Below w.heap.size w w') : CellsAt w' b o us := fun j u hu => by
 have := h j u hu
 exact (hb.cell (p := ⟨b, o + j, none⟩) (World.block_lt_of_cell? w _ this)).trans this
theorem CellsAt.same {w w' : World} {b o : Nat} {us : List Value} (h : CellsAt w b o us) (hb : w'.heap[b]? = w.heap[b]?) : CellsAt w' b o us := fun j u hu => (World.cell?_of_block hb).trans (h j u hu)

/-! ### An append onto a slice of the call's own, out of any slice -/

section
variable {P : Program}
theorem run_append_any (w : World) (base : Nat) (t ty e : TypeId) (i : TypeInfo) (z : Value) (size bytes : Nat) (ht : P.underlying t = some (.slice e)) (hi : P.info? e = some i) (hz : i.zero = some z)
  (hsize : i.size = size) (hby : i.bytes = bytes) (hzs : z.cells.size = size) (hsz : 0 < size)
  (v : Value) (n : Nat) (xs : List Value) (hown : w.ownsRow base e size v n xs)
  (A : Option Addr) (m c : Nat) (news : List Value) (hA : A = none → m = 0 ∧ c = 0) (hl : news.length = m * size) (hnews : ∀ ad, A = some ad → ∀ j u, news[j]? = some u → w.cell? (ad.add j) = some u) (h1 : ∀ u ∈ news, u.oneCell' = true)
  (h63 : n + m ≤ maxLen) (hbytes : (n + m) * bytes ≤ 140737488355328) (hbase : base ≤ w.heap.size) :
  ∃ v' w', (Builtin.append_ #[t, t] ty #[v, .slice A m c]).run P w = .ok v' w' ∧ w'.ownsRow base e size v' (n + m) (xs ++ news) ∧ w.grownBy w' v.ownBlock := by
 cases A with
 | none =>
  obtain ⟨rfl, rfl⟩ := hA rfl
  have : news = [] := List.eq_nil_of_length_eq_zero (by simpa using hl)
  subst this
  exact ⟨v, w, run_append_owned_none (P := P) w base t ty e i size ht hi v n xs hown, by simpa using hown, ⟨rfl, rfl, rfl, Nat.le_refl _, fun _ _ _ => rfl⟩⟩
 | some ad =>
  obtain ⟨v', w', hr, h2, h3, _, _⟩ := run_append_own_at (P := P) w base t ty e i z size bytes ht hi hz hsize hby hzs hsz v n xs hown ad m c news hl (hnews ad rfl) h1 h63 hbytes hbase
  exact ⟨v', w', hr, h2, h3⟩

theorem wpList_append_any {w : World} {ops : Array Oper} {rest : List Oper} {o : Oper} {a : Act} {Q : Exit → Act → World → Prop} (hgd : o.guard = none) (s x : Operand) (t : TypeId)
  (ho : o.op = .call { callee := .builtin .append, args := #[s, x], argTypes := #[t, t] })
  (base : Nat) (e : TypeId) (i : TypeInfo) (z : Value) (size bytes : Nat) (ht : P.underlying t = some (.slice e)) (hi : P.info? e = some i) (hz : i.zero = some z)
  (hsize : i.size = size) (hby : i.bytes = bytes) (hzs : z.cells.size = size) (hsz : 0 < size)
  (v : Value) (n : Nat) (xs : List Value) (hs : a.eval s = v) (hown : w.ownsRow base e size v n xs)
  (A : Option Addr) (m c : Nat) (news : List Value) (hx : a.eval x = .slice A m c) (hA : A = none → m = 0 ∧ c = 0) (hl : news.length = m * size) (hnews : ∀ ad, A = some ad → ∀ j u, news[j]? = some u → w.cell? (ad.add j) = some u) (h1 : ∀ u ∈ news, u.oneCell' = true)
  (h63 : n + m ≤ maxLen) (hbytes : (n + m) * bytes ≤ 140737488355328) (hbase : base ≤ w.heap.size)
  (h : ∀ v' w', w'.ownsRow base e size v' (n + m) (xs ++ news) → w.grownBy w' v.ownBlock → wpList P ops Q rest (a.put o.dst v') w') :
  wpList P ops Q (o :: rest) a w := by
 refine wpList_plain hgd fun K hK => ?_
 obtain ⟨v', w', hr, h2, h3⟩ := run_append_any (P := P) w base t o.type e i z size bytes ht hi hz hsize hby hzs hsz v n xs hown A m c news hA hl hnews h1 h63 hbytes hbase
 unfold Oper.wp execOp
 simp only [ho, resolve, invoke, builtin, Sem.run_bind, Sem.run_pure, Result.andThen_ok, List.map_toArray, List.map_cons, List.map_nil, hs, hx, hr]
 exact hK _ _ (h v' w' h2 h3)

theorem OpGoes.append_any {ops : Array Oper} {o : Oper} {a : Act} {w : World} {K : Value → World → Prop} (hgd : o.guard = none) (s x : Operand) (t : TypeId)
  (ho : o.op = .call { callee := .builtin .append, args := #[s, x], argTypes := #[t, t] })
  (base : Nat) (e : TypeId) (i : TypeInfo) (z : Value) (size bytes : Nat) (ht : P.underlying t = some (.slice e)) (hi : P.info? e = some i) (hz : i.zero = some z)
  (hsize : i.size = size) (hby : i.bytes = bytes) (hzs : z.cells.size = size) (hsz : 0 < size)
  (v : Value) (n : Nat) (xs : List Value) (hs : a.eval s = v) (hown : w.ownsRow base e size v n xs)
  (A : Option Addr) (m c : Nat) (news : List Value) (hx : a.eval x = .slice A m c) (hA : A = none → m = 0 ∧ c = 0) (hl : news.length = m * size) (hnews : ∀ ad, A = some ad → ∀ j u, news[j]? = some u → w.cell? (ad.add j) = some u) (h1 : ∀ u ∈ news, u.oneCell' = true)
  (h63 : n + m ≤ maxLen) (hbytes : (n + m) * bytes ≤ 140737488355328) (hbase : base ≤ w.heap.size)
  (h : ∀ v' w', w'.ownsRow base e size v' (n + m) (xs ++ news) → w.grownBy w' v.ownBlock → K v' w') : OpGoes P ops o a w K := by
 obtain ⟨v', w', hr, h2, h3⟩ := run_append_any (P := P) w base t o.type e i z size bytes ht hi hz hsize hby hzs hsz v n xs hown A m c news hA hl hnews h1 h63 hbytes hbase
 refine ⟨fun _ => ?_, fun hw => ?_⟩
 ·
  unfold execOp
  simp only [ho, resolve, invoke, builtin, Sem.run_bind, Sem.run_pure, Result.andThen_ok, List.map_toArray, List.map_cons, List.map_nil, hs, hx, hr]
  exact h v' w' h2 h3
 · simp [Region.wanted, hgd] at hw
end

theorem ic_one {l : List Int} : ∀ u ∈ l.flatMap ic, u.oneCell' = true := by
 intro u hu
 obtain ⟨p, _, hp⟩ := List.mem_flatMap.1 hu
 simp [ic] at hp
 subst hp; rfl
theorem SrcW.al {α : Type} {f : α → List Value} {w : World} {A : Option Addr} {n cap : Nat} {l : List α} (h : SrcW f w A n cap l) (o : Obj) : SrcW f (w.alloc o) A n cap l :=
 ⟨h.1, h.2.1, fun ad had j u hu => by
  have := h.2.2 ad had j u hu
  exact (((Below.refl _ _).alloc (Nat.le_refl _) o).cell (World.block_lt_of_cell? w _ this)).trans this⟩
theorem SrcW.below {α : Type} {f : α → List Value} {w w' : World} {A : Option Addr} {n cap : Nat} {l : List α} (h : SrcW f w A n cap l) (hb : Below w.heap.size w w') : SrcW f w' A n cap l :=
 ⟨h.1, h.2.1, fun ad had j u hu => by
  have := h.2.2 ad had j u hu
  exact (hb.cell (World.block_lt_of_cell? w _ this)).trans this⟩

/-- A list of numbers of the call's own is returned. -/
def RetInts (l : List Int) (w : World) (e : Ending) (w' : World) : Prop := ∃ A cap, e = .returned (.slice A l.length cap) ∧ IntsW w.heap.size w'.heap.size w' A l.length cap l ∧ Below w.heap.size w w'

set_option maxHeartbeats 1000000 in
theorem l1Copy_any (l : List Int) (A : Option Addr) (n cap : Nat) (w : World) (h : SrcW ic w A n cap l) (hn : n ≤ 1048576) :
  Calls Tryz.prog 93 #[.slice A n cap] w (RetInts l w) := by
 obtain ⟨i0, hi0, hz0, hz1, hz2⟩ := info_parts int_info
 have HI := Lib.hid hi0
 have HZ0 := Lib.hid hz0
 have HZ1 := Lib.hid hz1
 have HZ2 := Lib.hid hz2
 clear hi0 hz0 hz1 hz2
 have HH := Lib.hid h
 have HL := Lib.hid h.1
 clear h
 go_enter Tryz.func93, Tryz.ntmps93
 go_wp2_with (at_builtin; go_must (refine wpList_append_any rfl (.tmp 3) (.tmp 4) _ rfl w.heap.size 2 i0 _ 1 8 Tryz.underlying32 HI.out HZ0.out HZ1.out HZ2.out rfl (by omega) (.slice (some ⟨w.heap.size, 0, none⟩) 0 0) 0 [] rfl (own_made rfl (Nat.le_refl _)) A n cap (l.flatMap ic) rfl HH.out.2.1 (by rw [flat_len _ 1 ic_len, HL.out]) (HH.out.al _).2.2 ic_one (by unfold maxLen; omega) (by omega) (by simp) ?_; intro v' w' hO' hg'; obtain ⟨A', cap', rfl, hP'⟩ := SlW.of_own (f := ic) (l := l) (n := n) (by simpa using hO') HL.out; have hB' : Below w.heap.size w w' := Below.grown ((Below.refl w.heap.size w).alloc (by omega) _) hg' (by simp) (fun k hk => by have := own_blk hk; omega)))
 go_ret
 refine ⟨A', cap', by rw [HL.out]; rfl, ?_, hB'⟩
 rw [HL.out]
 exact hP'

theorem list_info : (Tryz.prog.info? 32).map (fun i => (i.zero, i.size, i.bytes)) = some (some (.slice none 0 0), 1, 24) := by kernel_rfl

/-- Lists of the call's own are returned. -/
def RetLists (L : List (List Int)) (w : World) (e : Ending) (w' : World) : Prop := ∃ A cap, e = .returned (.slice A L.length cap) ∧ ListsW w.heap.size w'.heap.size w' A L.length cap L ∧ Below w.heap.size w w'

theorem EachW.snoc {lo hi : Nat} {w : World} {rows : List Jw} {L : List (List Int)} {i : Nat} {l : List Int} {a : Jw} (h : EachW lo hi w rows (L.take i)) (hl : L[i]? = some l) (ha : IntsW lo hi w a.A a.n a.cap l) : EachW lo hi w (rows ++ [a]) (L.take (i + 1)) := by
 have hi' : i < L.length := (List.getElem?_eq_some_iff.1 hl).1
 have hr : rows.length = i := by rw [h.1]; simp; omega
 refine ⟨by simp [hr]; omega, fun j b m hb hm => ?_⟩
 by_cases hj : j < i
 ·
  rw [List.getElem?_append_left (by omega)] at hb
  rw [List.getElem?_take_of_lt (by omega)] at hm
  exact h.2 j b m hb (by rw [List.getElem?_take_of_lt hj]; exact hm)
 ·
  obtain rfl : j = i := by
   have := (List.getElem?_eq_some_iff.1 hb).1
   simp [hr] at this; omega
  rw [List.getElem?_append_right (by omega), hr] at hb
  simp at hb
  rw [List.getElem?_take_of_lt (by omega), hl] at hm
  injection hm with hm
  subst hb hm
  exact ha

set_option maxRecDepth 100000 in
set_option maxHeartbeats 2000000 in
theorem l10Lists_any (L : List (List Int)) (A : Option Addr) (n cap lo hi : Nat) (w : World) (h : ListsW lo hi w A n cap L) (hh : hi ≤ w.heap.size) (hm : n ≤ 1048576) (hml : ∀ l ∈ L, l.length ≤ 1048576) :
  Calls Tryz.prog 87 #[.slice A n cap] w (RetLists L w) := by
 obtain ⟨i0, hi0, hz0, hz1, hz2⟩ := info_parts list_info
 have HI := Lib.hid hi0
 have HZ0 := Lib.hid hz0
 have HZ1 := Lib.hid hz1
 have HZ2 := Lib.hid hz2
 clear hi0 hz0 hz1 hz2
 have HL := Lib.hid h.len
 have HML := Lib.hid hml; clear hml
 go_enter Tryz.func87, Tryz.ntmps87
 go_wp2
 go_loopw [3, 4] (fun s3 s4 W => ∃ (i : Nat) (B : Option Addr) (c : Nat) (rows : List Jw), i ≤ n ∧ s4 = .int .i64 i ∧ s3 = .slice B i c ∧ rows.length = i ∧ Below w.heap.size w W ∧ W.ownsRow w.heap.size 32 1 (.slice B i c) i (rows.flatMap Jw.cs) ∧ EachW w.heap.size W.heap.size W rows (L.take i)) (fun _ s4 _ => n - (intOf s4).toNat)
 case atStart =>
  refine ⟨0, _, 0, [], Nat.zero_le _, rfl, rfl, rfl, (Below.refl _ _).alloc (Nat.le_refl _) _, own_made rfl (Nat.le_refl _), ?_⟩
  exact ⟨by simp, fun i a l ha => by simp at ha⟩
 case round =>
  obtain ⟨i, B, c, rows, hin, rfl, rfl, hrl, hB, hO, hE⟩ := hrel
  by_cases hlt : i < n
  ·
   obtain ⟨b, l, A', n', cap', rfl, hlb, hbh, hl, hc, hI⟩ := (h.below hB hh).at_ hlt
   have hn' : n' ≤ 1048576 := by rw [← hI.1]; exact HML.out l (List.mem_of_getElem? hl)
   have HLI := Lib.hid hl; clear hl
   have HNL := Lib.hid hI.1
   have g1 : (i : Int) < (n : Int) := by omega
   have g2 : (0 : Int) ≤ (i : Int) := by omega
   go_wp2_with fail
   refine (l1Copy_any l A' n' cap' _ (SlW.src hI ic_len) hn').mono ?_
   rintro e w1 ⟨A2, c2, rfl, hI2, hb1⟩
   have hbs := hb1.size
   have hws := hB.size
   replace hB := bstep hB hB.size hb1
   replace hO := own_keep hO hb1
   replace hE := (hE.keep (.below hb1 (Nat.le_refl _))).mono (Nat.le_refl _) hb1.size
   have hI3 : IntsW w.heap.size w1.heap.size w1 A2 l.length c2 l := SlW.mono hI2 (by omega) (Nat.le_refl _)
   clear hb1 hc hI hI2
   have HRL := Lib.hid hrl; clear hrl
   go_wp2_with (at_builtin; go_must (refine wpList_append_own_at _ rfl (.tmp 12) (.tmp 18) _ rfl w.heap.size 32 i0 _ 1 24 Tryz.underlying81 HI.out HZ0.out HZ1.out HZ2.out rfl (by omega) (.slice B i c) i _ rfl (hO.alloc _) ⟨w1.heap.size, 0, none⟩ 1 1 [.slice A2 l.length c2] rfl rfl (news_alloc _ _ _) (by intro u hu; simp at hu; subst hu; rfl) (by unfold maxLen; omega) (by omega) (by simp; omega) ?_; intro v' w' hO' hg' hz' hat'; clear hz' hat'; obtain ⟨g', cap'', rfl, hP'⟩ := Own.of_row (f := Jw.cs) (l := rows ++ [(⟨A2, l.length, c2⟩ : Jw)]) (n := i + 1) (by rw [List.flatMap_append]; exact hO') (by simp [HRL.out]) (by omega); have hB' := Below.grown (hB.alloc (by omega) _) hg' (by simp; omega) (fun k hk => (hO.lt k hk).1)))
   have hkk : KeepT 2 w1 w' := (KeepT.alloc w1 _).trans (KeepT.grown (hO.alloc _) hg' (by decide))
   have hsz : w1.heap.size ≤ w'.heap.size := by have := hg'.size; simp at this; omega
   go_roundw
   case rel =>
    refine ⟨i + 1, some ⟨g', 0, none⟩, cap'', rows ++ [⟨A2, l.length, c2⟩], by omega, by go_num, rfl, by simp [HRL.out], hB', hP'.own Jw.cs_len, ?_⟩
    exact EachW.snoc ((hE.keepT hkk).mono (Nat.le_refl _) hsz) HLI.out (SlW.mono (SlW.keepT hI3 hkk) (Nat.le_refl _) hsz)
   case measure => simp [intOf]; omega
  ·
   have g1 : ¬ (i : Int) < (n : Int) := by omega
   obtain rfl : n = i := by omega
   have HE := Lib.hid hE
   have HO := Lib.hid hO
   clear hE hO
   go_wp2
   go_ret
   refine ⟨B, c, by rw [HL.out]; rfl, ?_, hB⟩
   have hE := HE.out
   rw [List.take_of_length_le (by rw [HL.out]; exact Nat.le_refl _)] at hE
   obtain ⟨A1, c1, e1, hS⟩ := SlW.of_own (f := Jw.cs) HO.out hrl
   injection e1 with e1 _ e2
   subst e1 e2
   rw [HL.out]
   exact ⟨rows, hS, hE⟩

end Go.Proofs.YtibmbanbaopeiaaGreat

/-
 The program's walk over the events that have one reply: what it hands on, and the law for a loop over it.
-/
import Derived.Test.YtghgfbncijfocaaRepA
namespace Go.Proofs.Ytghgfbncijfocaa
set_option linter.unusedSimpArgs false
set_option linter.unusedVariables false
open Go.RowKit Go.Shelf Go.Maps
set_option linter.unusedVariables false
attribute [local go_sem] Oper.semAt_some
attribute [local go_sem ↓] Go.wp_at_zero Go.wp_at_succ

/-- An event of the list that has the reply. -/
abbrev EvR (l : List Ev) (r : Int) := { x : Ev // x ∈ l ∧ (x.re == r) = true }
def evC (x : Ev) : Array Value := #[.int .i64 x.who, .bool x.put, .int .i64 x.v, .int .i64 x.re, .int .i64 x.b, .int .i64 x.e]
/-- Blocks below N₀ are kept, and P₀ and the next. -/
def KpR (N₀ P₀ : Nat) (W W' : World) : Prop := Below N₀ W W' ∧ SameIn P₀ (P₀ + 2) W W'
theorem kpR_t {N₀ P₀ : Nat} {A B C : World} (h : KpR N₀ P₀ A B) (k : KpR N₀ P₀ B C) : KpR N₀ P₀ A C := ⟨h.1.trans k.1, h.2.trans k.2⟩
theorem kpR_b {N₀ P₀ : Nat} {w : World} (hn : N₀ ≤ w.heap.size) (hb : P₀ + 2 ≤ w.heap.size) (W : World) (l : Nat) (o o' : Obj) (hl : w.heap.size ≤ l) (h : W.heap[l]? = some o) (h1 : o.isCells = false) (h2 : o.isWalk = false) : KpR N₀ P₀ W (W.putObj l o') :=
 ⟨belowK_b hn W l o o' hl h h1 h2, fun j _ hj => World.putObj_heap_other (by omega)⟩

set_option maxHeartbeats 400000 in
theorem replied_any (A : Option Addr) (n cap : Nat) (r : Int) (w : World) :
  Calls Try.prog 24 #[.slice A n cap, .int .i64 r] w (fun e w' => e = .returned (.func (.func 36) #[] #[.pointer (some ⟨w.heap.size, 0, none⟩), .pointer (some ⟨w.heap.size + 1, 0, none⟩)]) ∧ w' = (w.alloc (.cells #[.slice A n cap] 25)).alloc (.cells #[.int .i64 r] 2)) := by
 go_enter Try.func24, Try.ntmps24
 go_wp2
 go_ret
 exact ⟨by simp, rfl⟩

def StopsR {l : List Ev} {r : Int} (J Jx : List (EvR l r) → World → Prop) (e : Ending) (W' : World) : Prop :=
 (∃ v, e = .returned v) ∧ ((∃ ys : List (EvR l r), ys.map (fun y => y.1) = l.filter (fun x => x.re == r) ∧ J ys W') ∨ (∃ pre : List (EvR l r), pre.map (fun y => y.1) <+: l.filter (fun x => x.re == r) ∧ Jx pre W'))

theorem abidesB {β : Type} {B : Nat} {J : β → World → Prop} (hJ : AbidesFrom B J) {s : β} {w w' : World} (h : J s w) (hb : Below w.heap.size w w') : J s w' := hJ s w w' none h (grown_b hb) (fun r e => by cases e)

set_option maxRecDepth 100000 in
set_option maxHeartbeats 2000000 in
theorem rep1_in (m lp N₀ P₀ n cap : Nat) (A : Option Addr) (l : List Ev) (r : Int) (hm : 1 ≤ m) (hn2 : n ≤ 1048576) (J Jx : List (EvR l r) → World → Prop)
  (hY : ∀ pre x W, J pre W → pre.length < n → YieldAt Fence.wide (m - 1) Try.prog lp #[.agg (evC x.1)] W fun e W' => (e = .returned (.bool true) ∧ J (pre ++ [x]) W' ∧ KpR N₀ P₀ W W') ∨ (e = .returned (.bool false) ∧ Jx (pre ++ [x]) W'))
  (W : World) (hJ : AbidesFrom W.heap.size J) (hl : BoxAt W P₀ #[.slice A n cap] 25) (hr : BoxAt W (P₀ + 1) #[.int .i64 r] 2) (hL : ∀ Z, Below N₀ W Z → EvsR Z A n l) (hN : N₀ ≤ W.heap.size) (h0 : J [] W) :
  CallsIn Fence.wide m Try.prog 36 #[.func (.yield lp) #[] #[], .pointer (some ⟨P₀, 0, none⟩), .pointer (some ⟨P₀ + 1, 0, none⟩)] W (StopsR J Jx) := by
 have HL := Lib.hid (hL W (Below.refl _ _)).1
 refine callsIn_of_wp Try.func36 rfl trivial ?_ rfl
 simp only [Try.ntmps36, List.size_toArray, List.length_cons, List.length_nil, Nat.reduceAdd, Nat.reduceSub, Array.replicate_succ, Array.replicate_zero, List.push_toArray, List.append_toArray, List.nil_append, List.cons_append]
 have kl := hl.cell
 gi_wp2
 clear kl
 gi_loopw [8] (fun s8 wr => ∃ (i : Nat) (pre : List (EvR l r)), i ≤ n ∧ s8 = .int .i64 i ∧ pre.map (fun y => y.1) = (l.take i).filter (fun x => x.re == r) ∧ J pre wr ∧ BoxAt wr (P₀ + 1) #[.int .i64 r] 2 ∧ Below N₀ W wr) (fun s8 _ => n - (intOf s8).toNat)
 case atStart => exact ⟨0, [], Nat.zero_le _, rfl, rfl, h0, hr, Below.refl _ _⟩
 case round =>
  clear hl hr h0
  obtain ⟨i, pre, hi, rfl, hp, hj, hr, hb⟩ := hrel
  have HP := Lib.hid hp; clear hp
  have hlv := hL wr hb
  by_cases hlt : i < n
  ·
   obtain ⟨b, o, x, rfl, _, hx, c0, c1, c2, c3, c4, c5⟩ := SlE.at_ hlv hlt
   have HX := Lib.hid hx; clear hx
   have g1 : (i : Int) < (n : Int) := by omega
   have g2 : (0 : Int) ≤ (i : Int) := by omega
   have hba : Below wr.heap.size wr (wr.alloc (.cells #[.int .i64 x.who, .bool x.put, .int .i64 x.v, .int .i64 x.re, .int .i64 x.b, .int .i64 x.e] 31)) := (Below.refl _ _).alloc (Nat.le_refl _) _
   have hj1 := abidesB hJ hj hba
   have hr1 := hr.below hba hr.lt
   have hb1 : Below N₀ W (wr.alloc (.cells #[.int .i64 x.who, .bool x.put, .int .i64 x.v, .int .i64 x.re, .int .i64 x.b, .int .i64 x.e] 31)) := hb.alloc (Nat.le_trans hN hb.size) _
   have kr := hr1.cell
   clear hba hlv
   have hlen : pre.length ≤ i := by
    have h1 : (pre.map fun y => y.1).length ≤ i := by rw [HP.out]; exact cnt_le
    simpa using h1
   cases hq : (x.re == r)
   ·
    have HN := Lib.hid (show pre.map (fun y => y.1) = (l.take (i + 1)).filter (fun x => x.re == r) by rw [HP.out, take_next HX.out, List.filter_append]; simp [hq])
    gi_wp2
    refine ⟨fun _ h => (by cases h), ?_⟩
    gi_wp2
    go_roundw
    case rel => exact ⟨i + 1, pre, by omega, by go_num, HN.out, hj1, hr1, hb1⟩
    case measure => simp [intOf]; omega
   ·
    have hmem : x ∈ l := List.mem_of_getElem? HX.out
    have HN := Lib.hid (show ((pre ++ [⟨x, hmem, hq⟩] : List (EvR l r)).map fun y => y.1) = (l.take (i + 1)).filter (fun x => x.re == r) by rw [List.map_append, HP.out, take_next HX.out, List.filter_append]; simp [hq])
    obtain ⟨fn, tmps, assign, body, hy, hR⟩ := hY pre ⟨x, hmem, hq⟩ _ hj1 (by omega)
    have HPF := Lib.hid (show ((pre ++ [⟨x, hmem, hq⟩] : List (EvR l r)).map fun y => y.1) <+: l.filter (fun x => x.re == r) by
     rw [HN.out]
     refine ⟨(l.drop (i + 1)).filter (fun x => x.re == r), ?_⟩
     rw [← List.filter_append, List.take_append_drop])
    unfold evC at hy
    dsimp only at hy
    gi_wp2
    refine hR.mono ?_
    rintro e W3 (⟨rfl, hJ3, hk3⟩ | ⟨rfl, hJx3⟩)
    ·
     clear c0 c1 c2 c3 c4 c5 kr hy
     have hr3 : BoxAt W3 (P₀ + 1) #[.int .i64 r] 2 := by
      unfold BoxAt at hr1 ⊢
      rw [hk3.2 (P₀ + 1) (by omega) (by omega)]; exact hr1
     have hb3 := hb1.trans hk3.1
     gi_wp2
     go_roundw
     case rel => exact ⟨i + 1, _, by omega, by go_num, HN.out, hJ3, hr3, hb3⟩
     case measure => simp [intOf]; omega
    ·
     gi_wp2
     refine bodyPost_ret (results_none rfl _ _ _) rfl ?_
     exact ⟨⟨_, rfl⟩, .inr ⟨_, HPF.out, hJx3⟩⟩
  ·
   have g1 : ¬ (i : Int) < (n : Int) := by omega
   obtain rfl : n = i := by omega
   have HF := Lib.hid (show pre.map (fun y => y.1) = l.filter (fun x => x.re == r) by have := HP.out; rw [← HL.out, List.take_length] at this; exact this)
   gi_wp2
   go_end0
   exact ⟨⟨_, rfl⟩, .inl ⟨_, HF.out, hj⟩⟩

theorem rep_stops (m N₀ P₀ n cap : Nat) (A : Option Addr) (l : List Ev) (r : Int) (hm : 1 ≤ m) (hn2 : n ≤ 1048576) (w : World) (hl : BoxAt w P₀ #[.slice A n cap] 25) (hr : BoxAt w (P₀ + 1) #[.int .i64 r] 2) (hL : ∀ Z, Below N₀ w Z → EvsR Z A n l) (hN : N₀ ≤ w.heap.size) :
  SeqStopsK Fence.wide m Try.prog 36 #[.pointer (some ⟨P₀, 0, none⟩), .pointer (some ⟨P₀ + 1, 0, none⟩)] (fun x : EvR l r => #[.agg (evC x.1)]) (KpR N₀ P₀) (fun ys => ys.map (fun y => y.1) = l.filter (fun x => x.re == r)) (fun pre => pre.map (fun y => y.1) <+: l.filter (fun x => x.re == r)) n w := fun lp J Jx W hW hJ _ hY h0 =>
 rep1_in m lp N₀ P₀ n cap A l r hm hn2 J Jx hY W hJ (hl.below hW hl.lt) (hr.below hW hr.lt) (fun Z hZ => hL Z ((hW.mono hN).trans hZ)) (Nat.le_trans hN hW.size) h0

/-- How a round of such a loop may be left: one block was written that is older than the walk. -/
def repPost (N₀ P₀ : Nat) (I Ix : List Ev → World → Prop) (xs : List Ev) (W : World) : Exit → Act → World → Prop
 | .normal, _, W' => (∃ k, N₀ ≤ k ∧ k < P₀ ∧ But k W W') ∧ I xs W'
 | .ret, _, W' => (∃ k, N₀ ≤ k ∧ k < P₀ ∧ But k W W') ∧ Ix xs W'
 | _, _, _ => False

theorem ownFrom_sz {β : Type} {B N : Nat} : OwnFrom B (fun (_ : β) W => N ≤ W.heap.size) := fun _ _ _ _ h hg _ => Nat.le_trans h hg.size
theorem belowS_own {β : Type} {N C : Nat} {w0 : World} (hN : N ≤ w0.heap.size) (hC : w0.heap.size ≤ C) : OwnFrom C (fun (_ : β) W => Below N w0 W) := fun _ W W' row h hg hr =>
 h.grown hg (Nat.le_trans hN h.size) (fun k e => by have := (hr k e).1; omega)

theorem wpIn_rep {l : List Ev} {r : Int} {A : Option Addr} {nn cap : Nat} {g : Operand} {t : Tmp} {assign body : Code} {Q : Exit → Act → World → Prop} {a : Act} {w : World} (w0 : World) {P₀ : Nat}
  (hg : a.eval g = .func (.func 36) #[] #[.pointer (some ⟨P₀, 0, none⟩), .pointer (some ⟨P₀ + 1, 0, none⟩)])
  (h0 : EvsR w0 A nn l) (hn : nn ≤ 1048576) (hB : Below w0.heap.size w0 w) (hP : w0.heap.size ≤ P₀) (hPw : P₀ + 2 ≤ w.heap.size) (hl : BoxAt w P₀ #[.slice A nn cap] 25) (hr : BoxAt w (P₀ + 1) #[.int .i64 r] 2)
  (I Ix : List Ev → World → Prop) (hI : OwnFrom w.heap.size I) (hIx : OwnFrom w.heap.size Ix) (hI0 : I [] w) (a₁ : Ev → Nat → Act)
  (hassign : ∀ (lp : Nat) (x : Ev) (W : World) (K : Act → World → Prop), K (a₁ x W.heap.size) (W.alloc (.cells (evC x) 31)) →
   assign.wpIn (Fence.wide.inRound lp) 1 Try.prog (Exit.then K (fun _ _ _ => False)) { tmps := ((#[t] : Array Tmp).zip #[Value.agg (evC x)]).foldl (fun t (p, v) => t.setIfInBounds p v) a.tmps, defers := [] } W)
  (hbody : ∀ (lp : Nat) (pre : List Ev) (x : Ev) (E : Nat) (W : World), w.heap.size ≤ E → x ∈ l → (x.re == r) = true → Below w0.heap.size w0 W → w.heap.size ≤ W.heap.size → BoxAt W E (evC x) 31 → I pre W → pre.length < nn →
   body.wpIn (Fence.wide.inRound lp) 1 Try.prog (repPost w0.heap.size P₀ I Ix (pre ++ [x]) W) (a₁ x E) W)
  (hdone : ∀ (D : Nat) (W : World), w.heap.size ≤ D → Below w0.heap.size w0 W → w.heap.size ≤ W.heap.size → I (l.filter fun x => x.re == r) W → W.heap[D]? = some (.deferred (some [])) → Q .normal { a with defers := { target := .collected D, args := #[] } :: a.defers } W)
  (hstop : ∀ (D : Nat) (pre : List Ev) (W : World), w.heap.size ≤ D → Below w0.heap.size w0 W → w.heap.size ≤ W.heap.size → pre <+: (l.filter fun x => x.re == r) → Ix pre W → W.heap[D]? = some (.deferred (some [])) → Code.ret.wpIn Fence.wide 3 Try.prog Q { a with defers := { target := .collected D, args := #[] } :: a.defers } W) :
  (Code.rangeFunc g #[t] assign body).wpIn Fence.wide 3 Try.prog Q a w := by
 have keep : ∀ {W W' : World} {k : Nat}, w.heap.size ≤ W.heap.size → w0.heap.size ≤ k → k < P₀ → But k W W' → KeepsFrom w.heap.size W W' ∧ KpR w0.heap.size P₀ W W' := fun {W W' k} hs hk hkP hb =>
  ⟨⟨hb.size, fun j o hj ho _ => (hb.block j (lt_of_some ho) (by omega)).trans ho⟩, hb.below hk (by have := hB.size; omega), fun j h1 h2 => hb.block j (by omega) (by omega)⟩
 refine wpIn_rangeFunc_ownH rfl (by omega) (gf := 36) (lb := #[.pointer (some ⟨P₀, 0, none⟩), .pointer (some ⟨P₀ + 1, 0, none⟩)]) hg trivial (enters_of Try.func36 (by kernel_rfl) rfl)
  (rep_stops 2 w0.heap.size P₀ nn cap A l r (by omega) hn w hl hr (fun Z hZ => SlE.keep EvE.kept h0 (fun j _ hj => (hB.trans hZ).block j hj)) hB.size) kpR_t (kpR_b hB.size hPw) (Below.refl _ _) (fun _ => rfl)
  (fun pre W' => I (pre.map fun y => y.1) W' ∧ w.heap.size ≤ W'.heap.size ∧ Below w0.heap.size w0 W')
  (fun c pre W' => c = .ret ∧ Ix (pre.map fun y => y.1) W' ∧ w.heap.size ≤ W'.heap.size ∧ Below w0.heap.size w0 W')
  (OwnFrom.and (fun s => hI _) (OwnFrom.and ownFrom_sz (belowS_own (Nat.le_refl _) hB.size)))
  (fun c => OwnFrom.and (ownFrom_pure _ (fun _ => c = .ret)) (OwnFrom.and (fun s => hIx _) (OwnFrom.and ownFrom_sz (belowS_own (Nat.le_refl _) hB.size))))
  ⟨hI0, Nat.le_refl _, hB⟩
  (fun x a' W' => ∃ E, w.heap.size ≤ E ∧ BoxAt W' E (evC x.1) 31 ∧ a' = a₁ x.1 E)
  (fun x a' _ X Y row hs hg hr => by obtain ⟨E, h1, h2, h3⟩ := hs; exact ⟨E, h1, box_own (β := Unit) (C := w.heap.size) () X Y row h2 hg hr, h3⟩)
  ?assign ?body ?done ?stop
 case assign =>
  rintro lp pre x W K ⟨hi, hs, hb⟩ hK
  refine hassign lp x.1 W K (hK _ _ ((KeepsOthers.alloc _ _).from _) ⟨(Below.refl _ W).alloc (by have := hB.size; omega) _, fun j _ hj => Below.heap_alloc _ _ _ (by omega)⟩ ⟨hI.alloc _ hi, by simp; omega, hb.alloc hb.size _⟩ ⟨_, hs, BoxAt.new _ _ _, rfl⟩)
 case body =>
  rintro lp pre x a' W _ _ ⟨hi, hs, hb⟩ ⟨E, hE, hx, rfl⟩ hlen
  refine wpIn_mono (hbody lp _ x.1 E W hE x.2.1 x.2.2 hb hs hx hi (by simpa using hlen)) ?_
  rintro e a3 W3 hp
  cases e with
  | normal =>
   obtain ⟨⟨k, h1, h2, h3⟩, h4⟩ := hp
   exact ⟨(keep hs h1 h2 h3).1, (keep hs h1 h2 h3).2, by rw [List.map_append]; exact h4, by have := h3.size; omega, hb.trans (keep hs h1 h2 h3).2.1⟩
  | ret =>
   obtain ⟨⟨k, h1, h2, h3⟩, h4⟩ := hp
   exact ⟨(keep hs h1 h2 h3).1, rfl, by rw [List.map_append]; exact h4, by have := h3.size; omega, hb.trans (keep hs h1 h2 h3).2.1⟩
  | exit id => exact hp.elim
  | goto t => exact hp.elim
  | panic ch => exact hp.elim
  | outgrown => exact hp.elim
 case done =>
  rintro D ys W hD hS ⟨hi, hs, hb⟩ hd
  exact hdone D W hD hb hs (by rw [← hS]; exact hi) hd
 case stop =>
  rintro D c pre W hD hS ⟨rfl, hi, hs, hb⟩ hd
  exact hstop D _ W hD hb hs hS hi hd

/-- A function leaves past its marks. -/
theorem leavesR {n : Nat} {P : Program} {fn : Func} {tmps : Array Value} {R : Ending → World → Prop} {M : Nat} (G : World → Prop) (hr : ∀ W, G W → ∃ v, (results fn tmps).run P W = .ok v W ∧ R (.returned v) W)
  (hp : ∀ W D, M ≤ D → G W → W.heap[D]? = some (.deferred (some [])) → G (W.putObj D (.deferred none))) :
  ∀ (Ds : List Nat) (W : World), Ds.Nodup → (∀ D ∈ Ds, M ≤ D ∧ W.heap[D]? = some (.deferred (some []))) → G W →
   LeavesInM Fence.wide n P fn tmps R (Ds.map fun D => { target := .collected D, args := #[] }) .returning W
 | [], W, _, _, h => hr W h
 | D :: Ds, W, hd, hD, h => by
  have h1 := hD D List.mem_cons_self
  refine ⟨by simp, .inl ⟨D, _, rfl, run_takeDeferred h1.2, ?_⟩⟩
  refine leavesR G hr hp Ds _ (List.nodup_cons.1 hd).2 (fun E hE => ?_) (hp W D h1.1 h h1.2)
  have h2 := hD E (List.mem_cons_of_mem _ hE)
  exact ⟨h2.1, (World.putObj_heap_other (fun e => (List.nodup_cons.1 hd).1 (by rw [← e]; exact hE))).trans h2.2⟩

end Go.Proofs.Ytghgfbncijfocaa

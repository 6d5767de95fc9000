/-
 The row of a law that lists package-level errors with what they hold: what is left to be shown is its contract, in a world where each of them holds an error of errors.New's make, no two the same.
-/
import Derived.Stop.Joined
import Derived.Stop.LaidTwo
import Derived.LaidLaws
import Derived.LaidHandle
import Derived.RowKitTokens
import Derived.SevenTiedAt
import Derived.Test.YthpckpnlohfcbaaGreatDoorCpyA
import Derived.Test.YthpckpnlohfcbaaGreatDoorOpenS
import Derived.Test.YthpckpnlohfcbaaGreatDoorCards
import Derived.Test.YthpckpnlohfcbaaGreatDoorTie
namespace Go.Proofs.YthpckpnlohfcbaaGreatDoor
set_option linter.unusedSimpArgs false
set_option linter.unusedVariables false
open Go.RowKit Go.WideShapes Go.ChangeShapes
set_option linter.unusedVariables false
section
variable {H : Type} {enc : TypeId × Value → H} {P : Program}
theorem vars_stay (W : World) : ∀ (vs : List String), (∀ n ∈ vs, ∃ g ti ms x, P.globalNamed n = some g ∧ (P.globals[g]?).map (·.type) = some ti ∧ P.underlying ti = some (.interface ms) ∧ W.var? P n = some #[x] ∧ IsIface x) →
  ∃ gs q, ∀ (X : World) (sp : Nat → Bool), (∀ n ∈ vs, X.var? P n = W.var? P n) → DataW.TrodVars enc P X sp vs gs q
 | [], _ => ⟨[], [], fun _ _ _ => rfl⟩
 | n :: vs, h => by
  obtain ⟨g, ti, ms, x, hg, ht, hi, hv, hx⟩ := h n (by simp)
  obtain ⟨gs, q, hr⟩ := vars_stay W vs (fun m hm => h m (by simp [hm]))
  exact ⟨tok enc x :: gs, MemPlace.row ⟨g, 0, none⟩ 1 ++ [] ++ q, fun X sp hX => ⟨g, ti, #[x], 1, [], q, hg, ht, (hX n (by simp)).trans hv, trod_held hi hx 0, hr X sp (fun m hm => hX m (by simp [hm])), rfl⟩⟩
theorem var_below {W W' : World} (hb : Below W.heap.size W W') {n : String} {cs : Array Value} (h : W.var? P n = some cs) : W'.var? P n = W.var? P n := by
 unfold World.var? at h ⊢
 cases hg : P.globalNamed n with
 | none => rw [hg] at h; cases h
 | some g =>
  rw [hg] at h
  simp only [Option.bind_some] at h ⊢
  have hl : g < W.heap.size := by
   rcases Nat.lt_or_ge g W.heap.size with h' | h'
   · exact h'
   · rw [Array.getElem?_eq_none h'] at h; cases h
  rw [hb.block g hl]
theorem law_postL {fn : Func} {s : ChangeSpec} {apart fresh handsOn : Bool} {tb : TypeId} (hl : laidOutB P = true) (hub : P.underlying tb = some .bool) (hres : fn.resultTypes = #[tb])
  (hrd : fn.params.toList.all (fun t => P.readableRec t && decide (t < P.types.size)) = true)
  (hsp : ∀ ds gs : List (DataW H), ds.length = fn.params.size → gs.length = s.vars.length → s.fn H (ds ++ gs) = { results := [.lit (.bool true)], args := ds, vars := gs })
  {W W' : World} {args : Array Value} {ds gs : List (DataW H)} {before : List MemPlace}
  (hvars : ∀ n ∈ s.vars, ∃ g ti ms x, P.globalNamed n = some g ∧ (P.globals[g]?).map (·.type) = some ti ∧ P.underlying ti = some (.interface ms) ∧ W.var? P n = some #[x] ∧ IsIface x)
  (hW : DataW.Whole enc P fn.params.toList s.vars apart W args.toList ds gs before) (hb : Below W.heap.size W W') :
  s.post enc P fn apart fresh handsOn false W args (.bool true) W' := by
 have hW' := hW
 obtain ⟨p, q, hA, hV, rfl, _, _⟩ := hW
 obtain ⟨gs0, q0, hst⟩ := vars_stay (enc := enc) W s.vars hvars
 obtain ⟨rfl, rfl⟩ := hV.unique (hst W _ (fun _ _ => rfl))
 have hlen : ds.length = fn.params.size := by have := trodAll_len hA; simpa using this
 have hgl : gs.length = s.vars.length := by
  have : ∀ {vs : List String} {gs : List (DataW H)} {q : List MemPlace}, DataW.TrodVars enc P W (fun _ => true) vs gs q → gs.length = vs.length := by
   intro vs
   induction vs with
   | nil => intro gs q h; cases gs with
    | nil => rfl
    | cons => exact h.elim
   | cons n vs ih => intro gs q h; cases gs with
    | nil => exact h.elim
    | cons d gs => obtain ⟨_, _, _, _, _, _, _, _, _, _, h', _⟩ := h; simp [ih h']
  exact this hV
 have e := hsp ds gs hlen hgl
 have hr : ∀ t ∈ fn.params.toList, P.readableRec t = true ∧ t < P.types.size := fun t ht => by
  have := List.all_eq_true.1 hrd t ht
  simpa using this
 refine ⟨ds, gs, _, [], p, q, hW', ?_, ?_, ?_, hb.frame _, fun h => by cases h⟩
 ·
  rw [e, hres]
  exact trodAll_mk1 (shut_bool hub _)
 ·
  rw [e]
  exact trodAll_below hl hb hr hA
 ·
  rw [e]
  refine hst W' _ (fun n hn => ?_)
  obtain ⟨g, ti, ms, x, _, _, _, hv, _⟩ := hvars n hn
  exact var_below hb hv
end
theorem law_liftedL {C : Checked} {os : Os} {f : FuncId} {fn : Func} {s : ChangeSpec} {conds : List PathCond} {apart fresh handsOn : Bool} {tb : TypeId} {H : Type} {enc : TypeId × Value → H} {laid : List (String × DataW Unit)}
  (own : ownKnob C.prog.godebug = none) (started : os.Started) (noInit : C.prog.inits.idxOf? f = none) (hfn : C.prog.funcs[f]? = some fn)
  (hl : laidOutB C.prog = true) (hub : C.prog.underlying tb = some .bool) (hres : fn.resultTypes = #[tb])
  (hrd : fn.params.toList.all (fun t => C.prog.readableRec t && decide (t < C.prog.types.size)) = true)
  (hsp : ∀ ds gs : List (DataW H), ds.length = fn.params.size → gs.length = s.vars.length → s.fn H (ds ++ gs) = { results := [.lit (.bool true)], args := ds, vars := gs })
  (hvars : ∀ W : World, laidMetH C.prog laid W → ∀ n ∈ s.vars, ∃ g ti ms x, C.prog.globalNamed n = some g ∧ (C.prog.globals[g]?).map (·.type) = some ti ∧ C.prog.underlying ti = some (.interface ms) ∧ W.var? C.prog n = some #[x] ∧ IsIface x)
  (witness : ∃ (w : World) (tape : Tape) (i : Input), w.os = os ∧ (w.forCall tape i).Shaped C.prog ∧ i.vars = [] ∧ Input.okWide C.prog (w.forCall tape i) .any w.heap.size f i ∧
   ((s.pre enc C.prog fn conds apart (w.forCall tape i).memory i.args ∧ laidMetH C.prog laid (w.forCall tape i).memory) ∧ sizedMet enc C.prog fn (OpenSpec.ofChange s) apart (w.forCall tape i).memory i.args) ∧ ({} : Assume).holds C.prog (lone (Frame.enter C.prog f i.args .normal) [] (w.forCall tape i)))
  (contract : ∀ (W : World) (base : Nat) (args : Array Value) (ds : List (DataW H)) (p : List MemPlace),
   (∀ (j : Nat) t v, fn.params[j]? = some t → args[j]? = some v → Value.okWide C.prog W .any base t v) →
   DataW.TrodAll enc C.prog W 0 (fun _ => true) true fn.params.toList args.toList ds p → laidMetH C.prog laid W →
   Calls C.prog f args W (RetBelow (.bool true) W)) :
  ReturnsInHanded {} C os f .any (fun w args => (s.pre enc C.prog fn conds apart w args ∧ laidMetH C.prog laid w) ∧ sizedMet enc C.prog fn (OpenSpec.ofChange s) apart w args) (s.post enc C.prog fn apart fresh handsOn false) := by
 refine returnsInHanded_of_change_and (C := C) (X := fun w _ => laidMetH C.prog laid w) (fun _ _ _ hh h => h.of_heap hh) own started noInit hfn witness ?_
 intro W base args ds gs before hval hW _ _ hL _
 have hW' := hW
 obtain ⟨p, q, hA, _, _, _, _⟩ := hW
 refine (contract W base args ds p hval hA hL).mono ?_
 rintro e W' ⟨rfl, hb⟩
 exact ⟨_, rfl, law_postL hl hub hres hrd hsp (hvars W hL) hW' hb⟩
section
variable {P : Program} {W : World} {ti tp te ts : TypeId} {ms : Array (String × TypeId)} {nm : String} {f : Field}
def sentD (text : List UInt8) : DataW Unit := .iface "*errors.errorString" (.ptr (.agg [.lit (.string text)]))
def cellOf (a : Addr) : MemPlace := .cell a.block a.off
theorem laidVars_sents (hi : P.underlying ti = some (.interface ms)) (hrow : ∀ u, P.typeName? 3 u = some "*errors.errorString" → u = tp)
  (hp : P.underlying tp = some (.pointer te)) (he : P.underlying te = some (.struct #[f])) (hft : f.type = ts) (hfo : f.offset = 0) (hs : P.underlying ts = some .string) (hc : P.cellsOf te = 1) (hcs : P.cellsOf ts = 1) :
  ∀ (L : List (String × List UInt8)) (ps : List MemPlace), (∀ x ∈ L, ∃ g, P.globalNamed x.1 = some g ∧ (P.globals[g]?).map (·.type) = some ti) →
   DataW.LaidVars P W (L.map fun x => (x.1, sentD x.2)) ps → (∀ b off, MemPlace.cell b off ∈ ps → (∃ c t, W.heap[b]? = some (.cells c t (0, 0))) ∧ ∀ u v, W.cell? ⟨b, off, none⟩ = some (.iface u v) → Value.okWide P W .any 0 u v) →
   ∃ ads : List Addr, ads.length = L.length ∧ (ads.map cellOf).Sublist ps ∧ ∀ (i : Nat) x a, L[i]? = some x → ads[i]? = some a → W.var? P x.1 = some #[.iface tp (.pointer (some a))] ∧ ∃ c t, W.heap[a.block]? = some (.cells c t (0, 0))
 | [], ps, _, h, _ => ⟨[], rfl, by simp, fun i x a hx => by simp at hx⟩
 | x :: L, ps, hg, h, hr => by
  obtain ⟨g', t', cs, fuel, p, q, hg', ht', hv, hd, hrest, e⟩ := h
  obtain ⟨g, hgn, hgt⟩ := hg x (by simp)
  obtain rfl := Option.some.inj (hgn.symm.trans hg')
  obtain rfl := Option.some.inj (hgt.symm.trans ht')
  subst e
  obtain ⟨l⟩ := cs
  have ok : ∀ u v, l = [.iface u v] → Value.okWide P W .any 0 u v := fun u v e => by
   subst e
   exact (hr g 0 (by simp [MemPlace.row])).2 u v (by simpa using World.var?_cell hg' hv 0)
  obtain ⟨a, s, hl, hca, hsa, hza, rfl⟩ := errorString_of_trod hi hrow hp he hft hfo hs hc hcs hd ok
  have hl' : l = [.iface tp (.pointer (some a))] := by simpa using hl
  subst hl'
  obtain ⟨ads, h1, h2, h3⟩ := laidVars_sents hi hrow hp he hft hfo hs hc hcs L q (fun y hy => hg y (by simp [hy])) hrest (fun b off hb => hr b off (by simp [hb]))
  refine ⟨a :: ads, by simp [h1], ?_, fun i y b hy hb => ?_⟩
  ·
   simp only [List.map_cons, cellOf, MemPlace.row, List.range_one, List.map_nil]
   refine List.Sublist.trans (List.Sublist.cons_cons (.cell a.block a.off) h2) ?_
   simp only [Nat.add_zero]
   rw [List.append_assoc]
   exact List.sublist_append_right _ _
  ·
   match i, hy, hb with
   | 0, hy, hb =>
    have ey : x = y := by simpa using hy
    have eb : a = b := by simpa using hb
    subst ey eb
    refine ⟨hv, ?_⟩
    exact (hr a.block a.off (by simp [MemPlace.row])).1
   | i + 1, hy, hb => exact h3 i y b (by simpa using hy) (by simpa using hb)
theorem laid_sents (hi : P.underlying ti = some (.interface ms)) (hrow : ∀ u, P.typeName? 3 u = some "*errors.errorString" → u = tp)
  (hp : P.underlying tp = some (.pointer te)) (he : P.underlying te = some (.struct #[f])) (hft : f.type = ts) (hfo : f.offset = 0) (hs : P.underlying ts = some .string) (hc : P.cellsOf te = 1) (hcs : P.cellsOf ts = 1)
  (L : List (String × List UInt8)) (hg : ∀ x ∈ L, ∃ g, P.globalNamed x.1 = some g ∧ (P.globals[g]?).map (·.type) = some ti) (h : laidMet P (L.map fun x => (x.1, sentD x.2)) W) :
  ∃ ads : List Addr, ads.length = L.length ∧ ads.Nodup ∧ ∀ (i : Nat) x a, L[i]? = some x → ads[i]? = some a → W.var? P x.1 = some #[.iface tp (.pointer (some a))] ∧ ∃ c t, W.heap[a.block]? = some (.cells c t (0, 0)) := by
 obtain ⟨ps, hl, hn, hr⟩ := h
 obtain ⟨ads, h1, h2, h3⟩ := laidVars_sents hi hrow hp he hft hfo hs hc hcs L ps hg hl hr
 refine ⟨ads, h1, ?_, h3⟩
 have := h2.nodup hn
 exact (List.pairwise_map.1 this).imp fun h e => h (by rw [e])
end
theorem sent_of {W : World} {n : String} {g : Nat} {a : Addr} (hg : Tryz.prog.globalNamed n = some g) (hv : W.var? Tryz.prog n = some #[.iface 194 (.pointer (some a))]) (hx : ∃ c t, W.heap[a.block]? = some (.cells c t (0, 0))) : Sent W.heap.size W g a := by
 have hc : W.cell? ⟨g, 0, none⟩ = some (.iface 194 (.pointer (some a))) := by simpa using World.var?_cell hg hv 0
 obtain ⟨c, t, hx⟩ := hx
 exact ⟨World.block_lt_of_cell? _ _ hc, (Array.getElem?_eq_some_iff.1 hx).1, hc, c, t, hx⟩
end Go.Proofs.YthpckpnlohfcbaaGreatDoor
namespace Go.Proofs.YthpckpnlohfcbaaGreatDoor
set_option linter.unusedSimpArgs false
set_option linter.unusedVariables false
open Go.RowKit Go.WideShapes Go.ChangeShapes
set_option linter.unusedVariables false
theorem gl_errClosed : Tryz.prog.globalNamed "loop.example/g00610/impl.errClosed" = some 0 := by kernel_rfl
theorem gt_errClosed : (Tryz.prog.globals[0]?).map (·.type) = some 136 := by kernel_rfl
theorem gl_errNoValue : Tryz.prog.globalNamed "loop.example/g00610/impl.errNoValue" = some 1 := by kernel_rfl
theorem gt_errNoValue : (Tryz.prog.globals[1]?).map (·.type) = some 136 := by kernel_rfl
theorem gl_errNoRing : Tryz.prog.globalNamed "loop.example/g00610/impl.errNoRing" = some 2 := by kernel_rfl
theorem gt_errNoRing : (Tryz.prog.globals[2]?).map (·.type) = some 136 := by kernel_rfl
theorem gl_errNotRight : Tryz.prog.globalNamed "loop.example/g00610/impl.errNotRight" = some 3 := by kernel_rfl
theorem gt_errNotRight : (Tryz.prog.globals[3]?).map (·.type) = some 136 := by kernel_rfl
theorem gl_errNotSeen : Tryz.prog.globalNamed "loop.example/g00610/impl.errNotSeen" = some 4 := by kernel_rfl
theorem gt_errNotSeen : (Tryz.prog.globals[4]?).map (·.type) = some 136 := by kernel_rfl
theorem gl_errNoPlace : Tryz.prog.globalNamed "loop.example/g00610/impl.errNoPlace" = some 5 := by kernel_rfl
theorem gt_errNoPlace : (Tryz.prog.globals[5]?).map (·.type) = some 136 := by kernel_rfl
theorem gl_errNotRightThen : Tryz.prog.globalNamed "loop.example/g00610/impl.errNotRightThen" = some 6 := by kernel_rfl
theorem gt_errNotRightThen : (Tryz.prog.globals[6]?).map (·.type) = some 136 := by kernel_rfl
theorem gl_type : Tryz.prog.globalNamed "errors.errorType" = some 7 := by kernel_rfl
theorem cells_es : Tryz.prog.cellsOf 216 = 1 := by kernel_rfl
theorem cells_str : Tryz.prog.cellsOf 9 = 1 := by kernel_rfl
theorem star_es : "*" ++ "errors.errorString" = "*errors.errorString" := by decide
theorem row_es (u : TypeId) (h : Tryz.prog.typeName? 3 u = some "*errors.errorString") : u = 194 :=
 typeName_ptr_named (nm := "errors.errorString") (by rw [star_es]; kernel_rfl) (by kernel_rfl) (by decide) u (by rw [star_es]; exact h)
theorem rt_row : (Tryz.prog.cutTypes.find? (·.1 == "internal/reflectlite.rtype")).map (·.2) = some 179 := by kernel_rfl
theorem one_row : ((List.range 228).filter fun t => Tryz.prog.rowNamed t [101, 114, 114, 111, 114]) = [136] := by kernel_rfl
theorem types_size : Tryz.prog.types.size = 228 := by kernel_rfl
theorem handle_of {W : World} (h : handlesMet Tryz.prog [("errors.errorType", Rows.laid_errors_errorType)] W) : W.cell? ⟨7, 0, none⟩ = some (.iface 179 (.agg #[.pointer (some ⟨8, 136, none⟩)])) := by
 obtain ⟨name, u, ty, e1, e2, e3, e4, e5⟩ := h _ (List.mem_singleton.2 rfl)
 have en : name = [101, 114, 114, 111, 114] := (Option.some.inj e1).symm
 subst en
 obtain rfl := Option.some.inj (rt_row.symm.trans e2)
 have hm : ty ∈ (List.range 228).filter fun t => Tryz.prog.rowNamed t [101, 114, 114, 111, 114] := List.mem_filter.2 ⟨List.mem_range.2 (by rw [← types_size]; exact e3), e4⟩
 rw [one_row] at hm
 obtain rfl := List.mem_singleton.1 hm
 have hh : typeHandle Tryz.prog 136 = .pointer (some ⟨8, 136, none⟩) := by kernel_rfl
 rw [hh] at e5
 simpa using World.var?_cell gl_type e5 0
noncomputable def low : Nat := (World.holding Tryz.prog default ⟨#[], #[], []⟩).heap.size
def layCell (v : Value) : Obj → Obj
 | .cells _ t frozen => .cells #[v] t frozen
 | o => o
noncomputable def laidWorld (os : Os) : World :=
 let w0 := World.holding Tryz.prog os ⟨#[.cells #[.string { data := #[116, 104, 101, 32, 114, 105, 110, 103, 32, 105, 115, 32, 99, 108, 111, 115, 101, 100] }] 216, .cells #[.string { data := #[105, 116, 32, 105, 115, 32, 110, 111, 32, 118, 97, 108, 117, 101] }] 216, .cells #[.string { data := #[116, 104, 101, 114, 101, 32, 105, 115, 32, 110, 111, 32, 115, 117, 99, 104, 32, 114, 105, 110, 103] }] 216, .cells #[.string { data := #[116, 104, 101, 32, 115, 116, 111, 114, 101, 32, 105, 115, 32, 110, 111, 116, 32, 114, 105, 103, 104, 116] }] 216, .cells #[.string { data := #[105, 116, 32, 105, 115, 32, 110, 111, 116, 32, 119, 104, 97, 116, 32, 119, 97, 115, 32, 115, 101, 101, 110] }] 216, .cells #[.string { data := #[116, 104, 101, 114, 101, 32, 105, 115, 32, 110, 111, 32, 115, 117, 99, 104, 32, 112, 108, 97, 99, 101] }] 216, .cells #[.string { data := #[116, 104, 101, 32, 115, 116, 111, 114, 101, 32, 119, 111, 117, 108, 100, 32, 110, 111, 116, 32, 98, 101, 32, 114, 105, 103, 104, 116, 32, 116, 104, 101, 110] }] 216], #[], []⟩
 { w0 with heap := (((((((w0.heap.modify 0 (layCell (.iface 194 (pT (low + 0))))).modify 1 (layCell (.iface 194 (pT (low + 1))))).modify 2 (layCell (.iface 194 (pT (low + 2))))).modify 3 (layCell (.iface 194 (pT (low + 3))))).modify 4 (layCell (.iface 194 (pT (low + 4))))).modify 5 (layCell (.iface 194 (pT (low + 5))))).modify 6 (layCell (.iface 194 (pT (low + 6))))).modify 7 (layCell (.iface 179 (.agg #[.pointer (some ⟨8, 136, none⟩)]))) }
end Go.Proofs.YthpckpnlohfcbaaGreatDoor

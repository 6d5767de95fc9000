/-
  The law on SwapPlace holds: for every store and whatever else it is given the program answers as the model, its answer is memory of its own, and the argument stays as it was. Condition: the listed package-level variables start as the program text lays them (the card ties them).
-/
import Derived.Test.YtbpjhdoldodlnaaDoorRowB
import Derived.Test.YtbpjhdoldodlnaaDoorLawSP
namespace Go.Proofs.YtbpjhdoldodlnaaDoor
open Go.RowKit Go.WideShapes Go.ChangeShapes Go.ChangeAt Go.Joins
set_option linter.unusedVariables false

theorem cellsP : Tryd.prog.cellsOf 36 = 4 := by kernel_rfl
set_option maxRecDepth 100000 in
/-- A place that came in by value. -/
theorem open_place {H : Type} {enc : TypeId × Value → H} {W : World} {base : Nat} {v : Value} {d : DataW H} {p : List MemPlace}
    (hv : Value.okWide Tryd.prog W .any base 36 v) (h : DataW.Trod enc Tryd.prog W 0 (fun _ => true) true 36 v d p) :
    ∃ (a c : Bool) (b d : Int), v = .agg #[.bool a, .int .i64 b, .bool c, .int .i64 d] := by
  obtain ⟨v0, v1, v2, v3, y0, y1, y2, y3, m, rfl, _, _, h0, h1, h2, h3⟩ := open_agg4 Tryd.underlying36 (by kernel_rfl) cellsP hv h
  obtain ⟨a, e0, _⟩ := DataW.trod_bool Tryd.underlying4 h0
  obtain ⟨b, e1, _, _⟩ := DataW.trod_int Tryd.underlying2 h1
  obtain ⟨c, e2, _⟩ := DataW.trod_bool Tryd.underlying4 h2
  obtain ⟨d, e3, _, _⟩ := DataW.trod_int Tryd.underlying2 h3
  simp at e0 e1 e2 e3
  exact ⟨a, c, b, d, by rw [e0, e1, e2, e3]⟩

def fnExactSwapPlace_list : List (String × List UInt8) := [("loop.example/g00610/impl.errNotRight", [116, 104, 101, 32, 115, 116, 111, 114, 101, 32, 105, 115, 32, 110, 111, 116, 32, 114, 105, 103, 104, 116]), ("loop.example/g00610/impl.errNotRightThen", [116, 104, 101, 32, 115, 116, 111, 114, 101, 32, 119, 111, 117, 108, 100, 32, 110, 111, 116, 32, 98, 101, 32, 114, 105, 103, 104, 116, 32, 116, 104, 101, 110]), ("loop.example/g00610/impl.errNoRing", [116, 104, 101, 114, 101, 32, 105, 115, 32, 110, 111, 32, 115, 117, 99, 104, 32, 114, 105, 110, 103]), ("loop.example/g00610/impl.errNoPlace", [116, 104, 101, 114, 101, 32, 105, 115, 32, 110, 111, 32, 115, 117, 99, 104, 32, 112, 108, 97, 99, 101]), ("loop.example/g00610/impl.errNotSeen", [105, 116, 32, 105, 115, 32, 110, 111, 116, 32, 119, 104, 97, 116, 32, 119, 97, 115, 32, 115, 101, 101, 110])]
theorem fnExactSwapPlace_globals : ∀ x ∈ fnExactSwapPlace_list, ∃ g, Tryd.prog.globalNamed x.1 = some g ∧ (Tryd.prog.globals[g]?).map (·.type) = some 71 := by
  intro x hx
  simp only [fnExactSwapPlace_list, List.mem_cons, List.not_mem_nil, or_false] at hx
  rcases hx with rfl | rfl | rfl | rfl | rfl
  · exact ⟨_, gl_errNotRight, gt_errNotRight⟩
  · exact ⟨_, gl_errNotRightThen, gt_errNotRightThen⟩
  · exact ⟨_, gl_errNoRing, gt_errNoRing⟩
  · exact ⟨_, gl_errNoPlace, gt_errNoPlace⟩
  · exact ⟨_, gl_errNotSeen, gt_errNotSeen⟩
theorem fnExactSwapPlace_laid {W : World} (h : laidMetH Tryd.prog Rows.fnExactSwapPlaceRow.laid W) : ∃ ads : List Addr, ads.length = 5 ∧ ads.Nodup ∧ (∀ (i : Nat) x a, fnExactSwapPlace_list[i]? = some x → ads[i]? = some a → W.var? Tryd.prog x.1 = some #[.iface 153 (.pointer (some a))] ∧ ∃ c t, W.heap[a.block]? = some (.cells c t (0, 0))) ∧ W.cell? ⟨7, 0, none⟩ = some (.iface 128 (.agg #[.pointer (some ⟨8, 71, none⟩)])) := by
  have h' : laidMet Tryd.prog (fnExactSwapPlace_list.map fun x => (x.1, sentD x.2)) W ∧ handlesMet Tryd.prog [("errors.errorType", Rows.laid_errors_errorType)] W := h
  obtain ⟨ads, h1, h2, h3⟩ := laid_sents Tryd.underlying71 row_es Tryd.underlying153 Tryd.underlying175 rfl rfl Tryd.underlying9 cells_es cells_str fnExactSwapPlace_list fnExactSwapPlace_globals h'.1
  exact ⟨ads, h1, h2, h3, handle_of h'.2⟩
theorem fnExactSwapPlace_vars (W : World) (h : laidMetH Tryd.prog Rows.fnExactSwapPlaceRow.laid W) : ∀ n ∈ Rows.fnExactSwapPlaceSpec.vars, ∃ g ti ms x, Tryd.prog.globalNamed n = some g ∧ (Tryd.prog.globals[g]?).map (·.type) = some ti ∧ Tryd.prog.underlying ti = some (.interface ms) ∧ W.var? Tryd.prog n = some #[x] ∧ IsIface x := by
  obtain ⟨ads, h1, _, h3, _⟩ := fnExactSwapPlace_laid h
  match ads, h1 with
  | [b0, b1, b2, b3, b4], _ =>
    intro n hn
    replace hn : n ∈ ["loop.example/g00610/impl.errNoPlace", "loop.example/g00610/impl.errNotSeen", "loop.example/g00610/impl.errNoRing", "loop.example/g00610/impl.errNotRight", "loop.example/g00610/impl.errNotRightThen"] := hn
    simp only [List.mem_cons, List.not_mem_nil, or_false] at hn
    rcases hn with rfl | rfl | rfl | rfl | rfl
    · exact ⟨_, _, _, _, gl_errNoPlace, gt_errNoPlace, Tryd.underlying71, (h3 3 _ _ rfl rfl).1, trivial⟩
    · exact ⟨_, _, _, _, gl_errNotSeen, gt_errNotSeen, Tryd.underlying71, (h3 4 _ _ rfl rfl).1, trivial⟩
    · exact ⟨_, _, _, _, gl_errNoRing, gt_errNoRing, Tryd.underlying71, (h3 2 _ _ rfl rfl).1, trivial⟩
    · exact ⟨_, _, _, _, gl_errNotRight, gt_errNotRight, Tryd.underlying71, (h3 0 _ _ rfl rfl).1, trivial⟩
    · exact ⟨_, _, _, _, gl_errNotRightThen, gt_errNotRightThen, Tryd.underlying71, (h3 1 _ _ rfl rfl).1, trivial⟩
theorem fnExactSwapPlace_met (os : Os) (args : Array Value) : laidMetH Tryd.prog Rows.fnExactSwapPlaceRow.laid ((laidWorld os).forCall (fun _ _ => 0) ⟨#[], args, []⟩).memory :=
  laidMetH_of_parts (laidMet_of_run' 8 (by kernel_rfl) (by kernel_rfl)) (by kernel_rfl)

set_option maxRecDepth 100000 in
theorem fnExactSwapPlace_lifted (os : Os) (started : os.Started) (H : Type) (enc : TypeId × Value → H) :
    ReturnsInHanded {} Tryd.checked os 5 .any (fun w args => (Rows.fnExactSwapPlaceSpec.pre enc Tryd.prog Tryd.f5 Rows.fnExactSwapPlaceRow.domain false w args ∧ laidMetH Tryd.prog Rows.fnExactSwapPlaceRow.laid w) ∧ sizedMet enc Tryd.prog Tryd.f5 (OpenSpec.ofChange Rows.fnExactSwapPlaceSpec) false w args) (Rows.fnExactSwapPlaceSpec.post enc Tryd.prog Tryd.f5 false true false false) := by
  refine law_liftedL (C := Tryd.checked) (fn := Tryd.f5) own started (by kernel_rfl) Tryd.func5 laidOut Tryd.underlying4 rfl (by kernel_rfl) (fun ds gs h h2 => ?_) (fnExactSwapPlace_vars)
    (ChangeSpec.witness_at (enc := enc) (C := Tryd.checked) (os := os) (X := fun w _ => laidMetH Tryd.prog Rows.fnExactSwapPlaceRow.laid w) false (laidWorld os) #[.agg #[.int .i64 0, .int .i64 0, .slice none 0 0, .int .i64 0, .int .i64 0], .int .i64 0, .int .i64 0, .agg #[.bool false, .int .i64 0, .bool false, .int .i64 0], .agg #[.bool false, .int .i64 0, .bool false, .int .i64 0]] 8 rfl (by kernel_rfl) (by kernel_rfl) (by kernel_rfl) (by kernel_rfl) (by kernel_rfl) (fnExactSwapPlace_met os _)) ?_
  · match ds, gs, h, h2 with | [_, _, _, _, _], [_, _, _, _, _], _, _ => rfl
  intro W base args ds p hval0 hA0 hL
  have hval : ∀ (j : Nat) t v, Tryd.f5.params[j]? = some t → args[j]? = some v → Value.okWide Tryd.prog W .any base t v := hval0
  have hA : DataW.TrodAll enc Tryd.prog W 0 (fun _ => true) true Tryd.f5.params.toList args.toList ds p := hA0
  rw [Tryd.params5] at hA hval
  obtain ⟨v0, vs0, d0, ds0, p0, q0, hargs, rfl, rfl, h0, r0⟩ := trodAll_cons hA
  obtain ⟨v1, vs1, d1, ds1, p1, q1, rfl, rfl, rfl, h1, r1⟩ := trodAll_cons r0
  obtain ⟨v2, vs2, d2, ds2, p2, q2, rfl, rfl, rfl, h2, r2⟩ := trodAll_cons r1
  obtain ⟨v3, vs3, d3, ds3, p3, q3, rfl, rfl, rfl, h3, r3⟩ := trodAll_cons r2
  obtain ⟨v4, vs4, d4, ds4, p4, q4, rfl, rfl, rfl, h4, r4⟩ := trodAll_cons r3
  obtain ⟨rfl, rfl, rfl⟩ := trodAll_nil r4
  obtain rfl : args = #[v0, v1, v2, v3, v4] := by cases args; simp_all
  obtain ⟨s, A, n, cap, rfl, hn, hl⟩ := open_store (hval 0 24 v0 rfl rfl) h0
  obtain ⟨z, rfl, rfl, rfl, _⟩ := open_int Tryd.underlying2 (hval 1 2 v1 rfl rfl) h1
  obtain ⟨at_, rfl, rfl, rfl, _⟩ := open_int Tryd.underlying2 (hval 2 2 v2 rfl rfl) h2
  obtain ⟨a_p, c_p, b_p, d_p, rfl⟩ := open_place (hval 3 36 v3 rfl rfl) h3
  obtain ⟨a_q, c_q, b_q, d_q, rfl⟩ := open_place (hval 4 36 v4 rfl rfl) h4
  obtain ⟨ads, hads, hnd, h3, het⟩ := fnExactSwapPlace_laid hL
  match ads, hads with
  | [b0, b1, b2, b3, b4], _ =>
    have s_errNotRight := sent_of gl_errNotRight (h3 0 _ _ rfl rfl).1 (h3 0 _ _ rfl rfl).2
    have s_errNotRightThen := sent_of gl_errNotRightThen (h3 1 _ _ rfl rfl).1 (h3 1 _ _ rfl rfl).2
    have s_errNoRing := sent_of gl_errNoRing (h3 2 _ _ rfl rfl).1 (h3 2 _ _ rfl rfl).2
    have s_errNoPlace := sent_of gl_errNoPlace (h3 3 _ _ rfl rfl).1 (h3 3 _ _ rfl rfl).2
    have s_errNotSeen := sent_of gl_errNotSeen (h3 4 _ _ rfl rfl).1 (h3 4 _ _ rfl rfl).2
    simp only [List.nodup_cons, List.mem_cons, List.not_mem_nil, or_false, not_or, not_false_eq_true, List.nodup_nil, and_true] at hnd
    have n_errNotRightThen : b1 ≠ b0 := by intro e; subst e; simp at hnd
    have n_errNoRing : b2 ≠ b0 := by intro e; subst e; simp at hnd
    have n_errNoPlace : b3 ≠ b0 := by intro e; subst e; simp at hnd
    have n_errNotSeen : b4 ≠ b0 := by intro e; subst e; simp at hnd
    have he : Errs W.heap.size W b0 b1 := ⟨World.block_lt_of_cell? _ _ het, het, s_errNotRight, s_errNotRightThen, n_errNotRightThen⟩
    exact exactSwapPlace_any s A n cap z at_ ⟨a_p, b_p, c_p, d_p⟩ ⟨a_q, b_q, c_q, d_q⟩ W hl hn b0 b1 b2 b3 b4 he s_errNoRing n_errNoRing s_errNoPlace n_errNoPlace s_errNotSeen n_errNotSeen

theorem fnExactSwapPlace_holds : Rows.FnExactSwapPlaceSaid :=
  OpenClaim.holds_of_wide 5 Tryd.f5 rfl rfl rfl rfl rfl rfl rfl ⟨rfl, rfl, rfl, rfl, rfl⟩ rfl rfl rfl rfl rfl (by kernel_rfl) Tryd.func5 (by kernel_rfl)
    (of_decide_eq_true (by kernel_rfl)) (by unfold Func.isWrapper; first | (rw [if_pos (by decide +kernel)]; kernel_rfl) | (rw [if_neg (by decide +kernel)]; exact ⟨rfl, rfl⟩))
    (fun os started H enc _ => fnExactSwapPlace_lifted os started H enc)

theorem fnExactSwapPlace_card : Rows.FnExactSwapPlaceCardSaid :=
  Claim7.holds_tied_plain_at .later [] [.handle, .sentinel, .sentinel, .sentinel, .sentinel, .sentinel] true (true, "5aa285d7e3118682ddf95a577a8788554796463306424d12634acf9f8fc9e78d") true
    fnExactSwapPlace_holds (fun _ h => by cases h) (by kernel_rfl) (fun _ h => by cases h) fnExactSwapPlace_row_tie rfl ⟨rfl, rfl⟩ (by kernel_rfl) rfl
    (fun f fn hf hfn => by
      obtain rfl : f = 5 := Option.some.inj ((show Tryd.prog.funcNamed "loop.example/g00610/laws.FnExactSwapPlace" = some 5 by kernel_rfl).symm.trans hf) |>.symm
      obtain rfl : fn = Tryd.f5 := (Option.some.inj (Tryd.func5.symm.trans hfn)).symm
      exact ⟨by kernel_rfl, fun j t ht => by
        rw [Tryd.params5] at ht
        match j, ht with
        | 0, ht =>
          obtain rfl : 24 = t := (by simpa using ht)
          exact (show Tryd.prog.wantsStandIn 24 = false by kernel_rfl)
        | 1, ht =>
          obtain rfl : 2 = t := (by simpa using ht)
          exact (show Tryd.prog.wantsStandIn 2 = false by kernel_rfl)
        | 2, ht =>
          obtain rfl : 2 = t := (by simpa using ht)
          exact (show Tryd.prog.wantsStandIn 2 = false by kernel_rfl)
        | 3, ht =>
          obtain rfl : 36 = t := (by simpa using ht)
          exact (show Tryd.prog.wantsStandIn 36 = false by kernel_rfl)
        | 4, ht =>
          obtain rfl : 36 = t := (by simpa using ht)
          exact (show Tryd.prog.wantsStandIn 36 = false by kernel_rfl)
        | _ + 5, ht => (simp at ht)⟩)
    (by kernel_rfl)

end Go.Proofs.YtbpjhdoldodlnaaDoor

/-
  The law on Swing holds: for every store and whatever else it is given the program answers as the model, its answer is memory of its own, and the argument stays as it was. Condition: the listed package-level variables start as the program text lays them (the card ties them).
-/
import Derived.Test.YtbpjhdoldodlnaaDoorRowB
import Derived.Test.YtbpjhdoldodlnaaDoorLawSW
namespace Go.Proofs.YtbpjhdoldodlnaaDoor
open Go.RowKit Go.WideShapes Go.ChangeShapes
set_option linter.unusedVariables false

def fnExactSwing_list : List (String × List UInt8) := [("loop.example/g00610/impl.errNotRight", [116, 104, 101, 32, 115, 116, 111, 114, 101, 32, 105, 115, 32, 110, 111, 116, 32, 114, 105, 103, 104, 116]), ("loop.example/g00610/impl.errNotRightThen", [116, 104, 101, 32, 115, 116, 111, 114, 101, 32, 119, 111, 117, 108, 100, 32, 110, 111, 116, 32, 98, 101, 32, 114, 105, 103, 104, 116, 32, 116, 104, 101, 110]), ("loop.example/g00610/impl.errNotSeen", [105, 116, 32, 105, 115, 32, 110, 111, 116, 32, 119, 104, 97, 116, 32, 119, 97, 115, 32, 115, 101, 101, 110])]
theorem fnExactSwing_globals : ∀ x ∈ fnExactSwing_list, ∃ g, Tryd.prog.globalNamed x.1 = some g ∧ (Tryd.prog.globals[g]?).map (·.type) = some 71 := by
  intro x hx
  simp only [fnExactSwing_list, List.mem_cons, List.not_mem_nil, or_false] at hx
  rcases hx with rfl | rfl | rfl
  · exact ⟨_, gl_errNotRight, gt_errNotRight⟩
  · exact ⟨_, gl_errNotRightThen, gt_errNotRightThen⟩
  · exact ⟨_, gl_errNotSeen, gt_errNotSeen⟩
theorem fnExactSwing_laid {W : World} (h : laidMetH Tryd.prog Rows.fnExactSwingRow.laid W) : ∃ ads : List Addr, ads.length = 3 ∧ ads.Nodup ∧ (∀ (i : Nat) x a, fnExactSwing_list[i]? = some x → ads[i]? = some a → W.var? Tryd.prog x.1 = some #[.iface 153 (.pointer (some a))] ∧ ∃ c t, W.heap[a.block]? = some (.cells c t (0, 0))) ∧ W.cell? ⟨7, 0, none⟩ = some (.iface 128 (.agg #[.pointer (some ⟨8, 71, none⟩)])) := by
  have h' : laidMet Tryd.prog (fnExactSwing_list.map fun x => (x.1, sentD x.2)) W ∧ handlesMet Tryd.prog [("errors.errorType", Rows.laid_errors_errorType)] W := h
  obtain ⟨ads, h1, h2, h3⟩ := laid_sents Tryd.underlying71 row_es Tryd.underlying153 Tryd.underlying175 rfl rfl Tryd.underlying9 cells_es cells_str fnExactSwing_list fnExactSwing_globals h'.1
  exact ⟨ads, h1, h2, h3, handle_of h'.2⟩
theorem fnExactSwing_vars (W : World) (h : laidMetH Tryd.prog Rows.fnExactSwingRow.laid W) : ∀ n ∈ Rows.fnExactSwingSpec.vars, ∃ g ti ms x, Tryd.prog.globalNamed n = some g ∧ (Tryd.prog.globals[g]?).map (·.type) = some ti ∧ Tryd.prog.underlying ti = some (.interface ms) ∧ W.var? Tryd.prog n = some #[x] ∧ IsIface x := by
  obtain ⟨ads, h1, _, h3, _⟩ := fnExactSwing_laid h
  match ads, h1 with
  | [b0, b1, b2], _ =>
    intro n hn
    replace hn : n ∈ ["loop.example/g00610/impl.errNotSeen", "loop.example/g00610/impl.errNotRight", "loop.example/g00610/impl.errNotRightThen"] := hn
    simp only [List.mem_cons, List.not_mem_nil, or_false] at hn
    rcases hn with rfl | rfl | rfl
    · exact ⟨_, _, _, _, gl_errNotSeen, gt_errNotSeen, Tryd.underlying71, (h3 2 _ _ rfl rfl).1, trivial⟩
    · exact ⟨_, _, _, _, gl_errNotRight, gt_errNotRight, Tryd.underlying71, (h3 0 _ _ rfl rfl).1, trivial⟩
    · exact ⟨_, _, _, _, gl_errNotRightThen, gt_errNotRightThen, Tryd.underlying71, (h3 1 _ _ rfl rfl).1, trivial⟩
theorem fnExactSwing_met (os : Os) (args : Array Value) : laidMetH Tryd.prog Rows.fnExactSwingRow.laid ((laidWorld os).forCall (fun _ _ => 0) ⟨#[], args, []⟩).memory :=
  laidMetH_of_parts (laidMet_of_run' 8 (by kernel_rfl) (by kernel_rfl)) (by kernel_rfl)

set_option maxRecDepth 100000 in
theorem fnExactSwing_lifted (os : Os) (started : os.Started) (H : Type) (enc : TypeId × Value → H) :
    ReturnsInHanded {} Tryd.checked os 10 .any (fun w args => (Rows.fnExactSwingSpec.pre enc Tryd.prog Tryd.f10 Rows.fnExactSwingRow.domain false w args ∧ laidMetH Tryd.prog Rows.fnExactSwingRow.laid w) ∧ sizedMet enc Tryd.prog Tryd.f10 (OpenSpec.ofChange Rows.fnExactSwingSpec) false w args) (Rows.fnExactSwingSpec.post enc Tryd.prog Tryd.f10 false true false false) := by
  refine law_liftedL (C := Tryd.checked) (fn := Tryd.f10) own started (by kernel_rfl) Tryd.func10 laidOut Tryd.underlying4 rfl (by kernel_rfl) (fun ds gs h h2 => ?_) (fnExactSwing_vars)
    (ChangeSpec.witness_at (enc := enc) (C := Tryd.checked) (os := os) (X := fun w _ => laidMetH Tryd.prog Rows.fnExactSwingRow.laid w) false (laidWorld os) #[.agg #[.int .i64 0, .int .i64 0, .slice none 0 0, .int .i64 0, .int .i64 0], .bool false, .int .i64 0, .int .i64 0] 8 rfl (by kernel_rfl) (by kernel_rfl) (by kernel_rfl) (by kernel_rfl) (by kernel_rfl) (fnExactSwing_met os _)) ?_
  · match ds, gs, h, h2 with | [_, _, _, _], [_, _, _], _, _ => rfl
  intro W base args ds p hval0 hA0 hL
  have hval : ∀ (j : Nat) t v, Tryd.f10.params[j]? = some t → args[j]? = some v → Value.okWide Tryd.prog W .any base t v := hval0
  have hA : DataW.TrodAll enc Tryd.prog W 0 (fun _ => true) true Tryd.f10.params.toList args.toList ds p := hA0
  rw [Tryd.params10] at hA hval
  obtain ⟨v0, vs0, d0, ds0, p0, q0, hargs, rfl, rfl, h0, r0⟩ := trodAll_cons hA
  obtain ⟨v1, vs1, d1, ds1, p1, q1, rfl, rfl, rfl, h1, r1⟩ := trodAll_cons r0
  obtain ⟨v2, vs2, d2, ds2, p2, q2, rfl, rfl, rfl, h2, r2⟩ := trodAll_cons r1
  obtain ⟨v3, vs3, d3, ds3, p3, q3, rfl, rfl, rfl, h3, r3⟩ := trodAll_cons r2
  obtain ⟨rfl, rfl, rfl⟩ := trodAll_nil r3
  obtain rfl : args = #[v0, v1, v2, v3] := by cases args; simp_all
  obtain ⟨s, A, n, cap, rfl, hn, hl⟩ := open_store (hval 0 24 v0 rfl rfl) h0
  obtain ⟨last, rfl, rfl, rfl⟩ := open_bool Tryd.underlying4 (hval 1 4 v1 rfl rfl) h1
  obtain ⟨seen, rfl, rfl, rfl, _⟩ := open_int Tryd.underlying2 (hval 2 2 v2 rfl rfl) h2
  obtain ⟨y_, rfl, rfl, rfl, _⟩ := open_int Tryd.underlying2 (hval 3 2 v3 rfl rfl) h3
  obtain ⟨ads, hads, hnd, h3, het⟩ := fnExactSwing_laid hL
  match ads, hads with
  | [b0, b1, b2], _ =>
    have s_errNotRight := sent_of gl_errNotRight (h3 0 _ _ rfl rfl).1 (h3 0 _ _ rfl rfl).2
    have s_errNotRightThen := sent_of gl_errNotRightThen (h3 1 _ _ rfl rfl).1 (h3 1 _ _ rfl rfl).2
    have s_errNotSeen := sent_of gl_errNotSeen (h3 2 _ _ rfl rfl).1 (h3 2 _ _ rfl rfl).2
    simp only [List.nodup_cons, List.mem_cons, List.not_mem_nil, or_false, not_or, not_false_eq_true, List.nodup_nil, and_true] at hnd
    have n_errNotRightThen : b1 ≠ b0 := by intro e; subst e; simp at hnd
    have n_errNotSeen : b2 ≠ b0 := by intro e; subst e; simp at hnd
    have he : Errs W.heap.size W b0 b1 := ⟨World.block_lt_of_cell? _ _ het, het, s_errNotRight, s_errNotRightThen, n_errNotRightThen⟩
    exact exactSwing_any s A n cap last seen y_ W hl hn b0 b1 b2 he s_errNotSeen n_errNotSeen

theorem fnExactSwing_holds : Rows.FnExactSwingSaid :=
  OpenClaim.holds_of_wide 10 Tryd.f10 rfl rfl rfl rfl rfl rfl rfl ⟨rfl, rfl, rfl, rfl, rfl⟩ rfl rfl rfl rfl rfl (by kernel_rfl) Tryd.func10 (by kernel_rfl)
    (of_decide_eq_true (by kernel_rfl)) (by unfold Func.isWrapper; first | (rw [if_pos (by decide +kernel)]; kernel_rfl) | (rw [if_neg (by decide +kernel)]; exact ⟨rfl, rfl⟩))
    (fun os started H enc _ => fnExactSwing_lifted os started H enc)

theorem fnExactSwing_card : Rows.FnExactSwingCardSaid :=
  Claim7.holds_tied_plain_at .later [] [.handle, .sentinel, .sentinel, .sentinel] true (true, "5aa285d7e3118682ddf95a577a8788554796463306424d12634acf9f8fc9e78d") true
    fnExactSwing_holds (fun _ h => by cases h) (by kernel_rfl) (fun _ h => by cases h) fnExactSwing_row_tie rfl ⟨rfl, rfl⟩ (by kernel_rfl) rfl
    (fun f fn hf hfn => by
      obtain rfl : f = 10 := Option.some.inj ((show Tryd.prog.funcNamed "loop.example/g00610/laws.FnExactSwing" = some 10 by kernel_rfl).symm.trans hf) |>.symm
      obtain rfl : fn = Tryd.f10 := (Option.some.inj (Tryd.func10.symm.trans hfn)).symm
      exact ⟨by kernel_rfl, fun j t ht => by
        rw [Tryd.params10] at ht
        match j, ht with
        | 0, ht =>
          obtain rfl : 24 = t := (by simpa using ht)
          exact (show Tryd.prog.wantsStandIn 24 = false by kernel_rfl)
        | 1, ht =>
          obtain rfl : 4 = t := (by simpa using ht)
          exact (show Tryd.prog.wantsStandIn 4 = false by kernel_rfl)
        | 2, ht =>
          obtain rfl : 2 = t := (by simpa using ht)
          exact (show Tryd.prog.wantsStandIn 2 = false by kernel_rfl)
        | 3, ht =>
          obtain rfl : 2 = t := (by simpa using ht)
          exact (show Tryd.prog.wantsStandIn 2 = false by kernel_rfl)
        | _ + 4, ht => (simp at ht)⟩)
    (by kernel_rfl)

end Go.Proofs.YtbpjhdoldodlnaaDoor

/-
  The law on AddRing holds: for every store and whatever else it is given the program answers as the model, its answer is memory of its own, and the argument stays as it was. Condition: the listed package-level variables start as the program text lays them (the card ties them).
-/
import Derived.Test.YtbpjhdoldodlnaaDoorRowB
import Derived.Test.YtbpjhdoldodlnaaDoorLawAR
namespace Go.Proofs.YtbpjhdoldodlnaaDoor
open Go.RowKit Go.WideShapes Go.ChangeShapes
set_option linter.unusedVariables false

def fnExactAddRing_list : List (String × List UInt8) := [("loop.example/g00610/impl.errNotRight", [116, 104, 101, 32, 115, 116, 111, 114, 101, 32, 105, 115, 32, 110, 111, 116, 32, 114, 105, 103, 104, 116]), ("loop.example/g00610/impl.errNotRightThen", [116, 104, 101, 32, 115, 116, 111, 114, 101, 32, 119, 111, 117, 108, 100, 32, 110, 111, 116, 32, 98, 101, 32, 114, 105, 103, 104, 116, 32, 116, 104, 101, 110]), ("loop.example/g00610/impl.errNoValue", [105, 116, 32, 105, 115, 32, 110, 111, 32, 118, 97, 108, 117, 101])]
theorem fnExactAddRing_globals : ∀ x ∈ fnExactAddRing_list, ∃ g, Tryd.prog.globalNamed x.1 = some g ∧ (Tryd.prog.globals[g]?).map (·.type) = some 71 := by
  intro x hx
  simp only [fnExactAddRing_list, List.mem_cons, List.not_mem_nil, or_false] at hx
  rcases hx with rfl | rfl | rfl
  · exact ⟨_, gl_errNotRight, gt_errNotRight⟩
  · exact ⟨_, gl_errNotRightThen, gt_errNotRightThen⟩
  · exact ⟨_, gl_errNoValue, gt_errNoValue⟩
theorem fnExactAddRing_laid {W : World} (h : laidMetH Tryd.prog Rows.fnExactAddRingRow.laid W) : ∃ ads : List Addr, ads.length = 3 ∧ ads.Nodup ∧ (∀ (i : Nat) x a, fnExactAddRing_list[i]? = some x → ads[i]? = some a → W.var? Tryd.prog x.1 = some #[.iface 153 (.pointer (some a))] ∧ ∃ c t, W.heap[a.block]? = some (.cells c t (0, 0))) ∧ W.cell? ⟨7, 0, none⟩ = some (.iface 128 (.agg #[.pointer (some ⟨8, 71, none⟩)])) := by
  have h' : laidMet Tryd.prog (fnExactAddRing_list.map fun x => (x.1, sentD x.2)) W ∧ handlesMet Tryd.prog [("errors.errorType", Rows.laid_errors_errorType)] W := h
  obtain ⟨ads, h1, h2, h3⟩ := laid_sents Tryd.underlying71 row_es Tryd.underlying153 Tryd.underlying175 rfl rfl Tryd.underlying9 cells_es cells_str fnExactAddRing_list fnExactAddRing_globals h'.1
  exact ⟨ads, h1, h2, h3, handle_of h'.2⟩
theorem fnExactAddRing_vars (W : World) (h : laidMetH Tryd.prog Rows.fnExactAddRingRow.laid W) : ∀ n ∈ Rows.fnExactAddRingSpec.vars, ∃ g ti ms x, Tryd.prog.globalNamed n = some g ∧ (Tryd.prog.globals[g]?).map (·.type) = some ti ∧ Tryd.prog.underlying ti = some (.interface ms) ∧ W.var? Tryd.prog n = some #[x] ∧ IsIface x := by
  obtain ⟨ads, h1, _, h3, _⟩ := fnExactAddRing_laid h
  match ads, h1 with
  | [b0, b1, b2], _ =>
    intro n hn
    replace hn : n ∈ ["loop.example/g00610/impl.errNoValue", "loop.example/g00610/impl.errNotRight", "loop.example/g00610/impl.errNotRightThen"] := hn
    simp only [List.mem_cons, List.not_mem_nil, or_false] at hn
    rcases hn with rfl | rfl | rfl
    · exact ⟨_, _, _, _, gl_errNoValue, gt_errNoValue, Tryd.underlying71, (h3 2 _ _ rfl rfl).1, trivial⟩
    · exact ⟨_, _, _, _, gl_errNotRight, gt_errNotRight, Tryd.underlying71, (h3 0 _ _ rfl rfl).1, trivial⟩
    · exact ⟨_, _, _, _, gl_errNotRightThen, gt_errNotRightThen, Tryd.underlying71, (h3 1 _ _ rfl rfl).1, trivial⟩
theorem fnExactAddRing_met (os : Os) (args : Array Value) : laidMetH Tryd.prog Rows.fnExactAddRingRow.laid ((laidWorld os).forCall (fun _ _ => 0) ⟨#[], args, []⟩).memory :=
  laidMetH_of_parts (laidMet_of_run' 8 (by kernel_rfl) (by kernel_rfl)) (by kernel_rfl)

set_option maxRecDepth 100000 in
theorem fnExactAddRing_lifted (os : Os) (started : os.Started) (H : Type) (enc : TypeId × Value → H) :
    ReturnsInHanded {} Tryd.checked os 8 .any (fun w args => (Rows.fnExactAddRingSpec.pre enc Tryd.prog Tryd.f8 Rows.fnExactAddRingRow.domain false w args ∧ laidMetH Tryd.prog Rows.fnExactAddRingRow.laid w) ∧ sizedMet enc Tryd.prog Tryd.f8 (OpenSpec.ofChange Rows.fnExactAddRingSpec) false w args) (Rows.fnExactAddRingSpec.post enc Tryd.prog Tryd.f8 false true false false) := by
  refine law_liftedL (C := Tryd.checked) (fn := Tryd.f8) own started (by kernel_rfl) Tryd.func8 laidOut Tryd.underlying4 rfl (by kernel_rfl) (fun ds gs h h2 => ?_) (fnExactAddRing_vars)
    (ChangeSpec.witness_at (enc := enc) (C := Tryd.checked) (os := os) (X := fun w _ => laidMetH Tryd.prog Rows.fnExactAddRingRow.laid w) false (laidWorld os) #[.agg #[.int .i64 0, .int .i64 0, .slice none 0 0, .int .i64 0, .int .i64 0], .int .i64 0] 8 rfl (by kernel_rfl) (by kernel_rfl) (by kernel_rfl) (by kernel_rfl) (by kernel_rfl) (fnExactAddRing_met os _)) ?_
  · match ds, gs, h, h2 with | [_, _], [_, _, _], _, _ => rfl
  intro W base args ds p hval0 hA0 hL
  have hval : ∀ (j : Nat) t v, Tryd.f8.params[j]? = some t → args[j]? = some v → Value.okWide Tryd.prog W .any base t v := hval0
  have hA : DataW.TrodAll enc Tryd.prog W 0 (fun _ => true) true Tryd.f8.params.toList args.toList ds p := hA0
  rw [Tryd.params8] at hA hval
  obtain ⟨v0, vs0, d0, ds0, p0, q0, hargs, rfl, rfl, h0, r0⟩ := trodAll_cons hA
  obtain ⟨v1, vs1, d1, ds1, p1, q1, rfl, rfl, rfl, h1, r1⟩ := trodAll_cons r0
  obtain ⟨rfl, rfl, rfl⟩ := trodAll_nil r1
  obtain rfl : args = #[v0, v1] := by cases args; simp_all
  obtain ⟨s, A, n, cap, rfl, hn, hl⟩ := open_store (hval 0 24 v0 rfl rfl) h0
  obtain ⟨v, rfl, rfl, rfl, _⟩ := open_int Tryd.underlying2 (hval 1 2 v1 rfl rfl) h1
  obtain ⟨ads, hads, hnd, h3, het⟩ := fnExactAddRing_laid hL
  match ads, hads with
  | [b0, b1, b2], _ =>
    have s_errNotRight := sent_of gl_errNotRight (h3 0 _ _ rfl rfl).1 (h3 0 _ _ rfl rfl).2
    have s_errNotRightThen := sent_of gl_errNotRightThen (h3 1 _ _ rfl rfl).1 (h3 1 _ _ rfl rfl).2
    have s_errNoValue := sent_of gl_errNoValue (h3 2 _ _ rfl rfl).1 (h3 2 _ _ rfl rfl).2
    simp only [List.nodup_cons, List.mem_cons, List.not_mem_nil, or_false, not_or, not_false_eq_true, List.nodup_nil, and_true] at hnd
    have n_errNotRightThen : b1 ≠ b0 := by intro e; subst e; simp at hnd
    have n_errNoValue : b2 ≠ b0 := by intro e; subst e; simp at hnd
    have he : Errs W.heap.size W b0 b1 := ⟨World.block_lt_of_cell? _ _ het, het, s_errNotRight, s_errNotRightThen, n_errNotRightThen⟩
    exact exactAddRing_any s A n cap v W hl hn b0 b1 b2 he s_errNoValue n_errNoValue

theorem fnExactAddRing_holds : Rows.FnExactAddRingSaid :=
  OpenClaim.holds_of_wide 8 Tryd.f8 rfl rfl rfl rfl rfl rfl rfl ⟨rfl, rfl, rfl, rfl, rfl⟩ rfl rfl rfl rfl rfl (by kernel_rfl) Tryd.func8 (by kernel_rfl)
    (of_decide_eq_true (by kernel_rfl)) (by unfold Func.isWrapper; first | (rw [if_pos (by decide +kernel)]; kernel_rfl) | (rw [if_neg (by decide +kernel)]; exact ⟨rfl, rfl⟩))
    (fun os started H enc _ => fnExactAddRing_lifted os started H enc)

theorem fnExactAddRing_card : Rows.FnExactAddRingCardSaid :=
  Claim7.holds_tied_plain_at .later [] [.handle, .sentinel, .sentinel, .sentinel] true (true, "5aa285d7e3118682ddf95a577a8788554796463306424d12634acf9f8fc9e78d") true
    fnExactAddRing_holds (fun _ h => by cases h) (by kernel_rfl) (fun _ h => by cases h) fnExactAddRing_row_tie rfl ⟨rfl, rfl⟩ (by kernel_rfl) rfl
    (fun f fn hf hfn => by
      obtain rfl : f = 8 := Option.some.inj ((show Tryd.prog.funcNamed "loop.example/g00610/laws.FnExactAddRing" = some 8 by kernel_rfl).symm.trans hf) |>.symm
      obtain rfl : fn = Tryd.f8 := (Option.some.inj (Tryd.func8.symm.trans hfn)).symm
      exact ⟨by kernel_rfl, fun j t ht => by
        rw [Tryd.params8] at ht
        match j, ht with
        | 0, ht =>
          obtain rfl : 24 = t := (by simpa using ht)
          exact (show Tryd.prog.wantsStandIn 24 = false by kernel_rfl)
        | 1, ht =>
          obtain rfl : 2 = t := (by simpa using ht)
          exact (show Tryd.prog.wantsStandIn 2 = false by kernel_rfl)
        | _ + 2, ht => (simp at ht)⟩)
    (by kernel_rfl)

end Go.Proofs.YtbpjhdoldodlnaaDoor

/-
 The walk of a turn, of the model.
-/
import Derived.Test.YtiiaimjlohpemaaGreatCrewE
namespace Go.Proofs.YtiiaimjlohpemaaGreat
set_option linter.unusedSimpArgs false
set_option linter.unusedVariables false
open Go.RowKit
set_option linter.unusedVariables false
attribute [local go_sem] OpUpon
attribute [local go_sem ↓] Go.wp_at_zero Go.wp_at_succ

theorem zcrewF0 {p : Prop} (h : p := by
 clear hq5
 unfold hdV
 have kq := hq.cell
 have fq := hq.frozen
 go_wp2
 go_meet
 refine ⟨?_, ?_, ?_, ?_, ?_, ?_, HRS.out⟩
 · exact Below.setCells (by omega) [.int .i64 q5.1.at_, .int .i64 q5.1.v, .int .i64 q5.1.r, .int .i64 q5.1.t, .bool q5.1.seen.s, .int .i64 q5.1.seen.n, .bool q5.1.seen.f, .int .i64 q5.1.seen.v, .int .i64 q5.1.tr, .int .i64 q5.1.sp, .bool q5.1.ag, .int .i64 q5.1.re] 0 hB
 · exact BoxAt.sets_ne [.int .i64 q5.1.at_, .int .i64 q5.1.v, .int .i64 q5.1.r, .int .i64 q5.1.t, .bool q5.1.seen.s, .int .i64 q5.1.seen.n, .bool q5.1.seen.f, .int .i64 q5.1.seen.v, .int .i64 q5.1.tr, .int .i64 q5.1.sp, .bool q5.1.ag, .int .i64 q5.1.re] 0 hx (by omega)
 · exact BoxAt.sets_ne [.int .i64 q5.1.at_, .int .i64 q5.1.v, .int .i64 q5.1.r, .int .i64 q5.1.t, .bool q5.1.seen.s, .int .i64 q5.1.seen.n, .bool q5.1.seen.f, .int .i64 q5.1.seen.v, .int .i64 q5.1.tr, .int .i64 q5.1.sp, .bool q5.1.ag, .int .i64 q5.1.re] 0 hz (by omega)
 · exact BoxAt.sets_ne [.int .i64 q5.1.at_, .int .i64 q5.1.v, .int .i64 q5.1.r, .int .i64 q5.1.t, .bool q5.1.seen.s, .int .i64 q5.1.seen.n, .bool q5.1.seen.f, .int .i64 q5.1.seen.v, .int .i64 q5.1.tr, .int .i64 q5.1.sp, .bool q5.1.ag, .int .i64 q5.1.re] 0 ho (by omega)
 ·
  rw [HG.out]
  exact sets_all (us := [.int .i64 q5.1.at_, .int .i64 q5.1.v, .int .i64 q5.1.r, .int .i64 q5.1.t, .bool q5.1.seen.s, .int .i64 q5.1.seen.n, .bool q5.1.seen.f, .int .i64 q5.1.seen.v, .int .i64 q5.1.tr, .int .i64 q5.1.sp, .bool q5.1.ag, .int .i64 q5.1.re]) hq rfl
 ·
  have key : OutF Q O (setCells w5 X 0 [.int .i64 q5.1.at_, .int .i64 q5.1.v, .int .i64 q5.1.r, .int .i64 q5.1.t, .bool q5.1.seen.s, .int .i64 q5.1.seen.n, .bool q5.1.seen.f, .int .i64 q5.1.seen.v, .int .i64 q5.1.tr, .int .i64 q5.1.sp, .bool q5.1.ag, .int .i64 q5.1.re]) c (c.js.set i (jl.drop 1)) (c.bs.set i (c.ck + 1)) (⟨⟨oS, mS, cS⟩, ⟨oH, n, cH⟩, ⟨some ⟨gJ, 0, none⟩, n, cJ⟩, ⟨some ⟨gB, 0, none⟩, n, cB⟩, ⟨oE, mE, cE⟩⟩ : CrL) := hF.upd (fun j h1 h2 => sets_block (by omega) [.int .i64 q5.1.at_, .int .i64 q5.1.v, .int .i64 q5.1.r, .int .i64 q5.1.t, .bool q5.1.seen.s, .int .i64 q5.1.seen.n, .bool q5.1.seen.f, .int .i64 q5.1.seen.v, .int .i64 q5.1.tr, .int .i64 q5.1.sp, .bool q5.1.ag, .int .i64 q5.1.re] 0 w5) (.sets hq (by decide) [.int .i64 q5.1.at_, .int .i64 q5.1.v, .int .i64 q5.1.r, .int .i64 q5.1.t, .bool q5.1.seen.s, .int .i64 q5.1.seen.n, .bool q5.1.seen.f, .int .i64 q5.1.seen.v, .int .i64 q5.1.tr, .int .i64 q5.1.sp, .bool q5.1.ag, .int .i64 q5.1.re] 0) (.sets hq (by decide) [.int .i64 q5.1.at_, .int .i64 q5.1.v, .int .i64 q5.1.r, .int .i64 q5.1.t, .bool q5.1.seen.s, .int .i64 q5.1.seen.n, .bool q5.1.seen.f, .int .i64 q5.1.seen.v, .int .i64 q5.1.tr, .int .i64 q5.1.sp, .bool q5.1.ag, .int .i64 q5.1.re] 0) (Nat.le_of_eq (sets_size [.int .i64 q5.1.at_, .int .i64 q5.1.v, .int .i64 q5.1.r, .int .i64 q5.1.t, .bool q5.1.seen.s, .int .i64 q5.1.seen.n, .bool q5.1.seen.f, .int .i64 q5.1.seen.v, .int .i64 q5.1.tr, .int .i64 q5.1.sp, .bool q5.1.ag, .int .i64 q5.1.re] 0 _).symm)
  rw [HJS.out, HBS.out]
  exact key) : p := h -- 5ff11169
theorem zcrewF1 {p : Prop} (h : p := by
 rintro e w9 ⟨y9, l9, u9, l9', u9', rfl, hC9, hb9⟩
 have hsB := hB.size
 have hz9 := hz.below hb9 hz.lt
 have hB9 := bstep hB hB.size hb9
 have lz := hz.lt
 clear hb9 hz hB
 unfold crV
 have kz := hz9.cell
 have fz := hz9.frozen
 go_wp2
 refine bodyPost_ret (v := .tuple #[crV c y9, .bool false]) (by simp [results, Tryz.results60, go_sem, kz, crV]) rfl ⟨y9, by rw [HV.out], ?_, ?_⟩
 ·
  rw [HV.out]
  exact (CrW.sts hC9.crw (.inl (by omega)) (crCs c y9) 0).mono (by omega) (by simp)
 · exact Below.setCells (by omega) (crCs c y9) 0 hB9) : p := h -- 0fbca23a
theorem zcrewF2 {p : Prop} (h : p := by
 have hPf := CrP.setsC (hP.keepT (kT _ (by decide)) (kT _ (by decide)) (kT _ (by decide)) (kT _ (by decide)) (kT _ (by decide)) hz8) ho' [.slice (some ⟨g', 0, none⟩) (mE + 1) cap'] 9
 have hEf : EvsW Q (setCells w' O 9 [.slice (some ⟨g', 0, none⟩) (mE + 1) cap']).heap.size (setCells w' O 9 [.slice (some ⟨g', 0, none⟩) (mE + 1) cap']) (some ⟨g', 0, none⟩) (mE + 1) cap' (newC c i i).es := by
  rw [HES.out]
  refine ⟨by simp [E5.out], .inr ⟨g', rfl, by rw [sets_size]; exact Own.lt hP', Own.keepT hP' (KeepT.sets ho' (by decide) _ 9)⟩⟩
 have hof : BoxAt (setCells w' O 9 [.slice (some ⟨g', 0, none⟩) (mE + 1) cap']) O #[.int .i64 ((newC c i i).st.rd), .int .i64 ((newC c i i).st.mo), .slice A5 n5 c5, .int .i64 ((newC c i i).st.fi), .int .i64 ((newC c i i).st.la), .slice (some ⟨gH, 0, none⟩) n cH, .slice oJ n cJ, .slice (some ⟨gB, 0, none⟩) n cB, .int .i64 ((newC c i i).ck), .slice (some ⟨g', 0, none⟩) (mE + 1) cap'] 68 := ho'.set 9 _
 go_meet
 exact ⟨some ⟨g', 0, none⟩, mE + 1, cap', sc hB', hx'.sn, hz'.sn, hof, CrW.mk hPf.s hPf.h hPf.j hPf.b hEf⟩) : p := h -- 8404cf08
theorem zcrewF3 {p : Prop} (h : p := by
 clear hw hcl hL hC
 refine OpGoes.go fun K hK => ?_
 go_simp
 exact hK _ _ ⟨rfl, rfl⟩) : p := h -- ee92c020
theorem zcrewF4 {p : Prop} (h : p := by
 have ko := ho.cell
 have kz := hz.cell
 have fz := hz.frozen
 go_wp2
 refine bodyPost_ret (v := .tuple #[crV c (⟨⟨oS, mS, cS⟩, ⟨oH, n, cH⟩, ⟨oJ, n, cJ⟩, ⟨oB, n, cB⟩, ⟨oE, mE, cE⟩⟩ : CrL), .bool false]) (by simp [results, Tryz.results60, go_sem, kz, crV]) rfl ⟨(⟨⟨oS, mS, cS⟩, ⟨oH, n, cH⟩, ⟨oJ, n, cJ⟩, ⟨oB, n, cB⟩, ⟨oE, mE, cE⟩⟩ : CrL), by rw [HV.out], ?_, ?_⟩
 ·
  rw [HV.out]
  exact (CrW.sts hO.crw (.inl (by omega)) (crCs c (⟨⟨oS, mS, cS⟩, ⟨oH, n, cH⟩, ⟨oJ, n, cJ⟩, ⟨oB, n, cB⟩, ⟨oE, mE, cE⟩⟩ : CrL)) 0).mono (by omega) (by simp; omega)
 · exact Below.setCells (by omega) (crCs c (⟨⟨oS, mS, cS⟩, ⟨oH, n, cH⟩, ⟨oJ, n, cJ⟩, ⟨oB, n, cB⟩, ⟨oE, mE, cE⟩⟩ : CrL)) 0 hB) : p := h -- 22b08df7

def tuJV (c : Cr) (N O Q M i n mS mE kS kH kJ kB kE cS cH cJ cB cE gh gj gJ gB ga n' cap' : Nat) (sA bA eA oS oH oE : Option Addr) (h0 : Hd) (jl : List Int) : List Sl := [.v (.pointer (some ⟨O, 6, none⟩)),
 .v (.slice (some ⟨gJ, 0, none⟩) n cJ),
 .v (.int .i64 ((i : Int))),
 .v (.pointer (some ⟨N, 6, none⟩)),
 .v (.slice (some ⟨gj, 0, none⟩) n kJ),
 .v (.int .i64 ((i : Int))),
 .v (.pointer (some ⟨gj, i, none⟩)),
 .v (.slice (some ⟨ga, 0, none⟩) n' cap'),
 .e fun σ w => ∃ (A8 : Option Addr), σ 8 = .slice A8 (n' - 1) (cap' - 1) ∧ ((cap' = 1 ∧ A8 = some ⟨ga, 0, none⟩) ∨ A8 = some ⟨ga, 1, none⟩),
 .e fun σ w => ∃ (A9 : Option Addr) (c9 : Nat), σ 9 = .slice A9 (n' - 1) c9 ∧ IntsW M w.heap.size w A9 (n' - 1) c9 (jl.drop 1),
 .v (.pointer (some ⟨gJ, i, none⟩)),
 .e fun σ w => ∃ (A9 : Option Addr), σ 11 = undef ∧ O ≤ w.heap.size ∧ OutX Q O w c (c.js.set i (jl.drop 1)) (⟨⟨oS, mS, cS⟩, ⟨oH, n, cH⟩, ⟨some ⟨gJ, 0, none⟩, n, cJ⟩, ⟨some ⟨gB, 0, none⟩, n, cB⟩, ⟨oE, mE, cE⟩⟩ : CrL) gB]

def tuEV (c : Cr) (M O X Y i n n5 c5 cH cJ cB mE cE gH gB : Nat) (A5 oJ oE : Option Addr) (h : Hd) (q : St × Hd × Bool) (bz : Int) : List Sl := [.v (.int .i64 ((i : Int))),
 .v (.pointer (some ⟨X, 0, none⟩)),
 .v (.int .i64 h.at_),
 .v (.bool (putB h.at_)),
 .v (.pointer (some ⟨Y, 1, none⟩)),
 .v (.int .i64 q.2.1.v),
 .v (.pointer (some ⟨Y, 11, none⟩)),
 .v (.int .i64 q.2.1.re),
 .v (.pointer (some ⟨O, 7, none⟩)),
 .v (.slice (some ⟨gB, 0, none⟩) n cB),
 .v (.int .i64 ((i : Int))),
 .v (.pointer (some ⟨gB, i, none⟩)),
 .v (.int .i64 bz),
 .v (.pointer (some ⟨O, 8, none⟩)),
 .v (.int .i64 ((newC c i i).ck)),
 .v (.agg #[.int .i64 ((i : Int)), .bool (putB h.at_), .int .i64 q.2.1.v, .int .i64 q.2.1.re, .int .i64 bz, .int .i64 ((newC c i i).ck)]),
 .e fun σ w => ∃ g16, σ 16 = .pointer (some ⟨g16, 0, none⟩) ∧ M ≤ g16 ∧ ∃ x0 x1 x2 x3 x4 x5, BoxAt w g16 #[x0, x1, x2, x3, x4, x5] 32,
 .e fun σ w => ∃ g16, σ 16 = .pointer (some ⟨g16, 0, none⟩) ∧ M ≤ g16 ∧ BoxAt w g16 #[.int .i64 ((i : Int)), .bool (putB h.at_), .int .i64 q.2.1.v, .int .i64 q.2.1.re, .int .i64 bz, .int .i64 ((newC c i i).ck)] 32]

set_option maxRecDepth 100000 in
set_option maxHeartbeats 8000000 in
theorem l10Turn_any (c : Cr) (y : CrL) (lo hi : Nat) (who : Int) (w : World) (hW0 : CrW lo hi w c y) (hh : hi ≤ w.heap.size) (hok : crOk c = true) :
  Calls Tryz.prog 60 #[crV c y, .int .i64 who] w (RetCrB (turnS c who) w) := by
 obtain ⟨iE, ei0, ez0, ez1, ez2⟩ := info_parts event_info
 have EI := Lib.hid ei0
 have EZ0 := Lib.hid ez0
 have EZ1 := Lib.hid ez1
 have EZ2 := Lib.hid ez2
 clear ei0 ez0 ez1 ez2
 have hnt := crOk_neat hok
 have HNT := Lib.hid hnt
 have HOK := Lib.hid hok
 obtain ⟨⟨sA, mS, kS⟩, ⟨hA, n, kH⟩, ⟨jA, mJ, kJ⟩, ⟨bA, mB, kB⟩, ⟨eA, mE, kE⟩⟩ := y
 have e1 : c.st.rs.length = mS := hW0.s.1
 have e2 : c.hs.length = n := hW0.h.1
 have e3 : c.js.length = mJ := hW0.j.len
 have e4 : c.bs.length = mB := hW0.b.1
 have e5 : c.es.length = mE := hW0.e.1
 obtain rfl : n = mJ := by have := hnt.j; omega
 obtain rfl : n = mB := by have := hnt.b; omega
 have E1 := Lib.hid e1
 have E2 := Lib.hid e2
 have E3 := Lib.hid e3
 have E4 := Lib.hid e4
 have E5 := Lib.hid e5
 have hn1 : 1 ≤ n := by have := hnt.h; omega
 have hn4 : n ≤ 4 := by have := hnt.h; omega
 have hS16 : mS ≤ 16 := by have := (stOk_neat hnt.s).2.1; omega
 have hE16 : mE ≤ 16 := by have := hnt.e; omega
 have hk0 : 0 ≤ c.ck := hnt.k.1
 have hk1 : c.ck ≤ 2000 := hnt.k.2
 clear e1 e2 e3 e4 e5 hnt hok
 unfold crV
 dsimp only
 go_enter Tryz.func60, Tryz.ntmps60
 go_wp2_with fail
 refine calls_abs (fun W => Below w.heap.size w W ∧ BoxAt W w.heap.size #[.int .i64 c.st.rd, .int .i64 c.st.mo, .slice sA mS kS, .int .i64 c.st.fi, .int .i64 c.st.la, .slice hA n kH, .slice jA n kJ, .slice bA n kB, .int .i64 c.ck, .slice eA mE kE] 68 ∧ BoxAt W (w.heap.size + 1) #[.int .i64 0, .int .i64 0, .slice none 0 0, .int .i64 0, .int .i64 0, .slice none 0 0, .slice none 0 0, .slice none 0 0, .int .i64 0, .slice none 0 0] 68) ⟨((Below.refl _ _).alloc (Nat.le_refl _) _).alloc (by simp) _, (BoxAt.new _ _ _).alloc _, BoxAt.new' (by simp)⟩ ?_
 rintro W0 ⟨hB, hx, hz⟩
 refine (l10Copy_any c (⟨⟨sA, mS, kS⟩, ⟨hA, n, kH⟩, ⟨jA, n, kJ⟩, ⟨bA, n, kB⟩, ⟨eA, mE, kE⟩⟩ : CrL) lo hi _ (hW0.below hB hh) (Nat.le_trans hh hB.size) HNT.out).mono ?_
 rintro e w1 ⟨y1, l, u, l', u', rfl, hC1, hb1⟩
 have hQ : w.heap.size + 2 ≤ W0.heap.size := by have := hz.lt; omega
 have hO := hC1.out
 replace hx := hx.below hb1 hx.lt
 replace hz := hz.below hb1 hz.lt
 replace hB := bstep hB hB.size hb1
 have hQ1 := hb1.size
 clear hb1 hC1
 obtain ⟨⟨oS, mS1, cS⟩, ⟨oH, n1, cH⟩, ⟨oJ, n2, cJ⟩, ⟨oB, n3, cB⟩, ⟨oE, mE1, cE⟩⟩ := y1
 obtain rfl : mS = mS1 := by have q : c.st.rs.length = mS1 := hO.s.1; have := E1.out; omega
 obtain rfl : n = n1 := by have q : c.hs.length = n1 := hO.h.1; have := E2.out; omega
 obtain rfl : n = n2 := by have q : c.js.length = n2 := hO.j.len; have := E3.out; omega
 obtain rfl : n = n3 := by have q : c.bs.length = n3 := hO.b.1; have := E4.out; omega
 obtain rfl : mE = mE1 := by have q : c.es.length = mE1 := hO.e.1; have := E5.out; omega
 unfold crV
 dsimp only
 go_upto_region 2 with fail
 refine wp_abs (fun W => Below w.heap.size w W ∧ BoxAt W w.heap.size #[.int .i64 c.st.rd, .int .i64 c.st.mo, .slice sA mS kS, .int .i64 c.st.fi, .int .i64 c.st.la, .slice hA n kH, .slice jA n kJ, .slice bA n kB, .int .i64 c.ck, .slice eA mE kE] 68 ∧ BoxAt W (w.heap.size + 1) #[.int .i64 0, .int .i64 0, .slice none 0 0, .int .i64 0, .int .i64 0, .slice none 0 0, .slice none 0 0, .slice none 0 0, .int .i64 0, .slice none 0 0] 68 ∧ BoxAt W w1.heap.size #[.int .i64 c.st.rd, .int .i64 c.st.mo, .slice oS mS cS, .int .i64 c.st.fi, .int .i64 c.st.la, .slice oH n cH, .slice oJ n cJ, .slice oB n cB, .int .i64 c.ck, .slice oE mE cE] 68 ∧ OutCr W0.heap.size w1.heap.size W c (⟨⟨oS, mS, cS⟩, ⟨oH, n, cH⟩, ⟨oJ, n, cJ⟩, ⟨oB, n, cB⟩, ⟨oE, mE, cE⟩⟩ : CrL) l u l' u') ⟨hB.alloc hB.size _, hx.alloc _, hz.alloc _, BoxAt.new _ _ _, hO.keep (.alloc (Nat.le_refl _) _)⟩ ?_
 clear hB hx hz hO
 generalize W0.heap.size = Q at *
 generalize w1.heap.size = O at *
 rintro W1 ⟨hB, hx, hz, ho, hO⟩
 have hO1 := ho.lt
 have kx := hx.cell
 go_wp2_with fail
 clear kx
 refine (l1In_any _ _ _ _).mono ?_
 rintro e w' ⟨rfl, rfl⟩
 cases hin : inB who 0 ((n : Int) - 1)
 ·
  have HV := Lib.hid (show turnS c who = (c, false) by unfold turnS; rw [E2.out, hin]; rfl)
  exact zcrewF4
 cases hckb : (c.ck == 2000)
 case true =>
  have HV := Lib.hid (show turnS c who = (c, false) by unfold turnS; rw [hckb]; simp)
  have kx := hx.cell
  exact zcrewF4
 have hck : c.ck ≠ 2000 := by simpa using hckb
 obtain ⟨i, rfl, hil⟩ : ∃ i : Nat, who = i ∧ i < n := by
  simp [inB] at hin
  exact ⟨who.toNat, by omega, by omega⟩
 have HIN := Lib.hid (show (!inB (i : Int) 0 ((c.hs.length : Int) - 1) || c.ck == 2000) = false by rw [E2.out, hin, hckb]; rfl)
 clear hin
 have hW1 := hW0.below hB hh
 obtain ⟨gh, h0, hA', hgl, hgh, hh0, hhc⟩ := SlW.at_ hW1.h Hd.cs_len (i := i) hil
 dsimp only at hA'
 subst hA'
 have HH0 := Lib.hid (getD_some (d := Hd.zero) hh0)
 clear hh0
 have d0 := hhc 0 _ rfl
 have d1 := hhc 1 _ rfl
 have d2 := hhc 2 _ rfl
 have d3 := hhc 3 _ rfl
 have d4 := hhc 4 _ rfl
 have d5 := hhc 5 _ rfl
 have d6 := hhc 6 _ rfl
 have d7 := hhc 7 _ rfl
 have d8 := hhc 8 _ rfl
 have d9 := hhc 9 _ rfl
 have d10 := hhc 10 _ rfl
 have d11 := hhc 11 _ rfl
 rw [Nat.add_zero] at d0
 have kx := hx.cell
 have ko := ho.cell
 have fo := ho.frozen
 have g1 : (i : Int) < (n : Int) := by omega
 have g2 : (0 : Int) ≤ (i : Int) := by omega
 have gO : gh < O := by have := hB.size; omega
 go_upto_region 6 with fail
 refine wp_abs (fun W => Below w.heap.size w W ∧ BoxAt W w.heap.size #[.int .i64 c.st.rd, .int .i64 c.st.mo, .slice sA mS kS, .int .i64 c.st.fi, .int .i64 c.st.la, .slice (some ⟨gh, 0, none⟩) n kH, .slice jA n kJ, .slice bA n kB, .int .i64 c.ck, .slice eA mE kE] 68 ∧ BoxAt W (w.heap.size + 1) #[.int .i64 0, .int .i64 0, .slice none 0 0, .int .i64 0, .int .i64 0, .slice none 0 0, .slice none 0 0, .slice none 0 0, .int .i64 0, .slice none 0 0] 68 ∧ BoxAt W O #[.int .i64 c.st.rd, .int .i64 c.st.mo, .slice oS mS cS, .int .i64 c.st.fi, .int .i64 c.st.la, .slice oH n cH, .slice oJ n cJ, .slice oB n cB, .int .i64 (c.ck + 1), .slice oE mE cE] 68 ∧ BoxAt W W1.heap.size #[.int .i64 h0.at_, .int .i64 h0.v, .int .i64 h0.r, .int .i64 h0.t, .bool h0.seen.s, .int .i64 h0.seen.n, .bool h0.seen.f, .int .i64 h0.seen.v, .int .i64 h0.tr, .int .i64 h0.sp, .bool h0.ag, .int .i64 h0.re] 106 ∧ OutCr Q O W c (⟨⟨oS, mS, cS⟩, ⟨oH, n, cH⟩, ⟨oJ, n, cJ⟩, ⟨oB, n, cB⟩, ⟨oE, mE, cE⟩⟩ : CrL) l u l' u') ⟨(sc hB).alloc (by simp; omega) _, (hx.sn).alloc _, (hz.sn).alloc _, BoxAt.alloc (by simpa using ho.set 8 (.int .i64 (c.ck + 1))) _, BoxAt.new' (by simp), hO.keep ((SameIn.set (.inr (Nat.le_refl _)) _ _).trans (.alloc (by simp; omega) _))⟩ ?_
 clear hB hx hz ho hO kx ko fo d0 d1 d2 d3 d4 d5 d6 d7 d8 d9 d10 d11 hhc hW1
 generalize W1.heap.size = X at *
 rintro W2 ⟨hB, hx, hz, ho, hq, hO⟩
 have hX2 := hq.lt
 have kq := hq.cell
 go_upto_if 39 with fail
 go_cut [8] (fun u8 W' => Below w.heap.size w W' ∧ BoxAt W' w.heap.size #[.int .i64 c.st.rd, .int .i64 c.st.mo, .slice sA mS kS, .int .i64 c.st.fi, .int .i64 c.st.la, .slice (some ⟨gh, 0, none⟩) n kH, .slice jA n kJ, .slice bA n kB, .int .i64 c.ck, .slice eA mE kE] 68 ∧ BoxAt W' (w.heap.size + 1) #[.int .i64 0, .int .i64 0, .slice none 0 0, .int .i64 0, .int .i64 0, .slice none 0 0, .slice none 0 0, .slice none 0 0, .int .i64 0, .slice none 0 0] 68 ∧ BoxAt W' O #[.int .i64 c.st.rd, .int .i64 c.st.mo, .slice oS mS cS, .int .i64 c.st.fi, .int .i64 c.st.la, .slice oH n cH, .slice oJ n cJ, .slice oB n cB, .int .i64 (c.ck + 1), .slice oE mE cE] 68 ∧ BoxAt W' X #[.int .i64 (goH c i).at_, .int .i64 (goH c i).v, .int .i64 (goH c i).r, .int .i64 (goH c i).t, .bool (goH c i).seen.s, .int .i64 (goH c i).seen.n, .bool (goH c i).seen.f, .int .i64 (goH c i).seen.v, .int .i64 (goH c i).tr, .int .i64 (goH c i).sp, .bool (goH c i).ag, .int .i64 (goH c i).re] 106 ∧ OutF Q O W' c (goC c i).js (goC c i).bs (⟨⟨oS, mS, cS⟩, ⟨oH, n, cH⟩, ⟨oJ, n, cJ⟩, ⟨oB, n, cB⟩, ⟨oE, mE, cE⟩⟩ : CrL) ∧ ((c.hs.getD i .zero).at_ == 0 && (c.js.getD i []).length == 0) = false)
 case first =>
  cases hat : (h0.at_ == 0)
  ·
   have HAT := Lib.hid (show ¬ h0.at_ = 0 by simpa using hat)
   go_wp2
   go_meet
   refine ⟨hB, hx, hz, ho, ?_, ?_, ?_⟩
   ·
    have : goH c i = h0 := by unfold goH; rw [HH0.out, if_neg HAT.out]
    rw [this]; exact hq
   ·
    have e1 : (goC c i).js = c.js := by unfold goC; rw [HH0.out, if_neg HAT.out]
    have e2 : (goC c i).bs = c.bs := by unfold goC; rw [HH0.out, if_neg HAT.out]
    rw [e1, e2]; exact hO.f (by omega)
   · rw [HH0.out, hat]; rfl
  ·
   have HAT := Lib.hid (show h0.at_ = 0 by simpa using hat)
   have HATB := Lib.hid hat; clear hat
   have hW2 := hW0.below hB hh
   obtain ⟨gj, jl, A', n', cap', jA', hjl, hjh, hj1, hjc0, hI⟩ := hW2.j.at_ (i := i) hil
   dsimp only at jA'
   subst jA'
   have HJL := Lib.hid (getD_some (d := ([] : List Int)) hj1)
   have HNL := Lib.hid hI.1
   have hn4' : n' ≤ 4 := by have := HNT.out.l jl (List.mem_of_getElem? hj1); have := hI.1; omega
   clear hj1
   have kx := hx.cell
   cases hjb : (n' == 0)
   ·
    have hjb' : ((n' : Int) == 0) = false := by simp at hjb ⊢; omega
    have hn0 : 1 ≤ n' := by simp at hjb; omega
    clear hjb
    obtain ⟨ga, z, A'', -, -, hz0, hzc⟩ := SlW.at_ hI ic_len (i := 0) (by omega)
    subst A''
    have dz := hzc 0 _ rfl
    simp only [Nat.zero_mul, Nat.zero_add] at dz
    have HZ := Lib.hid (getD_some (d := (0 : Int)) hz0)
    clear hzc hz0
    have hgn : (0 : Int) < (n' : Int) := by omega
    have hgn1 : (1 : Int) ≤ (n' : Int) := by omega
    go_upto_region 10 with fail
    clear kx kq dz hjb'
    obtain ⟨gJ, -, -, -, -, oJ', -, -, -, -, -⟩ := hO.j.at_ (i := i) hil
    dsimp only at oJ'
    subst oJ'
    obtain ⟨gB, -, oB', -, -, -, -⟩ := SlW.at_ hO.b ic_len (i := i) hil
    dsimp only at oB'
    subst oB'
    have hjc : CellsAt W2 gj i [.slice (some ⟨ga, 0, none⟩) n' cap'] := fun j u hu => by
     obtain rfl : j = 0 := by have := (List.getElem?_eq_some_iff.1 hu).1; simp at this; exact this
     simp at hu; subst hu; exact hjc0
    clear hjc0 hW2
    obtain ⟨M, hMe⟩ : ∃ M, M = W2.heap.size := ⟨_, rfl⟩
    have hM : M ≤ W2.heap.size := by omega
    have hOM : O ≤ M := by omega
    have hhi : hi ≤ W2.heap.size := Nat.le_trans hh hB.size
    have hgj : gj < w.heap.size := by omega
    clear hMe
    refine wp_region2v (fun w w' => Below w.heap.size w w') (fun _ _ h => h.size) (fun _ => Below.refl _ _) (fun L W' => Below w.heap.size w W' ∧ BoxAt W' w.heap.size #[.int .i64 c.st.rd, .int .i64 c.st.mo, .slice sA mS kS, .int .i64 c.st.fi, .int .i64 c.st.la, .slice (some ⟨gh, 0, none⟩) n kH, .slice (some ⟨gj, 0, none⟩) n kJ, .slice bA n kB, .int .i64 c.ck, .slice eA mE kE] 68 ∧ BoxAt W' (w.heap.size + 1) #[.int .i64 0, .int .i64 0, .slice none 0 0, .int .i64 0, .int .i64 0, .slice none 0 0, .slice none 0 0, .slice none 0 0, .int .i64 0, .slice none 0 0] 68 ∧ BoxAt W' O #[.int .i64 c.st.rd, .int .i64 c.st.mo, .slice oS mS cS, .int .i64 c.st.fi, .int .i64 c.st.la, .slice oH n cH, .slice (some ⟨gJ, 0, none⟩) n cJ, .slice (some ⟨gB, 0, none⟩) n cB, .int .i64 (c.ck + 1), .slice oE mE cE] 68 ∧ BoxAt W' X #[.int .i64 h0.at_, .int .i64 h0.v, .int .i64 h0.r, .int .i64 h0.t, .bool h0.seen.s, .int .i64 h0.seen.n, .bool h0.seen.f, .int .i64 h0.seen.v, .int .i64 h0.tr, .int .i64 h0.sp, .bool h0.ag, .int .i64 h0.re] 106 ∧ M ≤ W'.heap.size ∧ hi ≤ W'.heap.size ∧ CellsAt W' gj i [.slice (some ⟨ga, 0, none⟩) n' cap'] ∧ IntsW lo hi W' (some ⟨ga, 0, none⟩) n' cap' jl ∧ (L 11 = false → OutCr Q O W' c (⟨⟨oS, mS, cS⟩, ⟨oH, n, cH⟩, ⟨some ⟨gJ, 0, none⟩, n, cJ⟩, ⟨some ⟨gB, 0, none⟩, n, cB⟩, ⟨oE, mE, cE⟩⟩ : CrL) l u l' u')) (tuJV c w.heap.size O Q M i n mS mE kS kH kJ kB kE cS cH cJ cB cE gh gj gJ gB ga n' cap' sA bA eA oS oH oE h0 jl) (fun j => [0, 0, 0, 0, 0, 0, 0, 0, 0, 0, 0, 1].getD j 0) [] (by kernel_rfl) (by kernel_rfl) ?_ ?_ ?_
     (.still rfl ?a0 <| .still rfl ?a1 <| .still rfl ?a2 <| .still rfl ?a3 <| .still rfl ?a4 <| .still rfl ?a5 <| .still rfl ?a6 <| .still rfl ?a7 <| .grow rfl ?a8 <| .grow rfl ?a9 <| .still rfl ?a10 <| .store rfl ?a11 <| .nil) ?_ ?_
    · exact ⟨fun _ _ _ h ⟨A8, e, hp⟩ => ⟨A8, (h 8 (List.mem_singleton.2 rfl)).symm.trans e, hp⟩, fun _ _ _ h ⟨A9, c9, e, hp⟩ => ⟨A9, c9, (h 9 (List.mem_singleton.2 rfl)).symm.trans e, hp⟩, fun _ _ _ h ⟨A9, e, hp⟩ => ⟨A9, (h 11 (List.mem_singleton.2 rfl)).symm.trans e, hp⟩, trivial⟩
    · exact ⟨fun σ w w' hb ⟨A8, e, hp⟩ => ⟨A8, e, hp⟩, fun σ w w' hb ⟨A9, c9, e, hp⟩ => ⟨A9, c9, e, hp.belowS hb⟩, fun σ w w' hb ⟨A9, e, hp⟩ => ⟨A9, e, ⟨Nat.le_trans hp.1 hb.size, hp.2.below hb hp.1⟩⟩, trivial⟩
    · exact ⟨hB.drew, hx, hz, ho, hq, hM, hhi, hjc, hI, fun _ => hO.keep (.refl _ _ _)⟩
    case a0 | a2 | a3 | a5 | a6 | a10 =>
     go_light
     intro L σ W' hcl hL hC hw
     try have e1 := wT hw 1 rfl
     try have e2 := wT hw 2 rfl
     try have e4 := wT hw 4 rfl
     try have e5 := wT hw 5 rfl
     exact zcrewF3
    case a1 =>
     go_light
     intro L σ W' hcl hL hC hw
     have e0 := wV hw 0 rfl
     have ko := hC.2.2.2.1.cell
     exact zcrewF3
    case a4 =>
     go_light
     intro L σ W' hcl hL hC hw
     have e3 := wV hw 3 rfl
     have kx := hC.2.1.cell
     exact zcrewF3
    case a7 =>
     go_light
     intro L σ W' hcl hL hC hw
     have e6 := wV hw 6 rfl
     have dj := hC.2.2.2.2.2.2.2.1 0 _ rfl
     rw [Nat.add_zero] at dj
     exact zcrewF3
    case a8 =>
     go_light
     intro L σ W' hcl hL hC hw
     have e7 := wV hw 7 rfl
     clear hw
     have HC := Lib.hid hC
     clear hC
     clear hcl hL
     refine OpGoes.go fun K hK => ?_
     go_simp
     obtain ⟨hB, hx, hz, ho, hq, hM, hhi, hjc, hI, hO⟩ := HC.out
     refine hK _ _ ⟨⟨hB, hx, hz, ho, hq, hM, hhi, hjc, hI, fun h => (hO (by simpa [upd] using h))⟩, ⟨_, rfl, ?_⟩, Below.refl _ _⟩
     by_cases hcp : cap' = 1
     · exact .inl ⟨hcp, by simp [hcp]⟩
     · exact .inr (by simp [hcp, Addr.add])
    case a9 =>
     go_light
     intro L σ W' hcl hL hC hw
     obtain ⟨A8, e8, hp8⟩ := wE hw 8 rfl
     clear hw
     have HC := Lib.hid hC
     clear hC
     clear hcl hL
     refine OpGoes.go fun K hK => ?_
     go_simp
     obtain ⟨hB, hx, hz, ho, hq, hM, hhi, hjc, hI, hO⟩ := HC.out
     refine (l1CopyN (jl.drop 1) A8 (n' - 1) (cap' - 1) _ (src_drop hI hn0 hp8) (by omega)).mono ?_
     rintro e w1 ⟨A9, c9, rfl, hO9, hb1⟩
     exact ⟨_, rfl, hK _ _ ⟨⟨bstep hB hB.size hb1, hx.below hb1 hx.lt, hz.below hb1 hz.lt, ho.below hb1 ho.lt, hq.below hb1 hq.lt, Nat.le_trans hM hb1.size, Nat.le_trans hhi hb1.size, hjc.below hb1, SlW.below hI hb1 hhi, fun h => (hO (by simpa [upd] using h)).keep (.below hb1 (Nat.le_trans hOM hM))⟩, ⟨A9, c9, rfl, SlW.mono hO9 hM (Nat.le_refl _)⟩, hb1⟩⟩
    case a11 =>
     go_light
     intro L σ W' hcl hL hC hw hne
     obtain ⟨A9, c9, e9, hp9⟩ := wE hw 9 rfl
     have e10 := wV hw 10 rfl
     clear hw hne
     obtain ⟨hB, hx, hz, ho, hq, hM, hhi, hjc, hI, hO⟩ := hC
     have hO11 := (hO hL)
     obtain ⟨⟨vj, kj⟩, fj, curJ, hJb⟩ := hO11.jrow (gJ := gJ) (i := i) rfl hil
     have hgJ : Q ≤ gJ ∧ gJ < O := hO11.jpos rfl
     clear hcl hL
     refine OpGoes.go fun K hK => ?_
     go_simp
     have hX11 := hO11.setJob (g := gB) (gJ := gJ) (i := i) (a := ⟨A9, n' - 1, c9⟩) (Nat.le_trans hOM hM) rfl rfl hil (SlW.mono hp9 hOM (Nat.le_refl _))
     refine hK _ _ ⟨⟨sc hB, hx.sn, hz.sn, ho.sn, hq.sn, size_st hM, size_st hhi, hjc.same (Below.heap_setCell _ ⟨gJ, i, none⟩ _ gj (by show gj ≠ gJ; omega)), SlW.keepT hI (KeepT.set hJb (by decide) i _), fun h => absurd h (by simp [upd])⟩, ⟨A9, rfl, size_st (Nat.le_trans hOM hM), hX11⟩, by simp, fun j hj hn hR => ?_⟩
     refine keepV ?_ j hj hn hR
     exact ⟨fun _ _ ⟨A8, e, hp⟩ => ⟨A8, e, hp⟩, fun _ _ ⟨A9, c9, e, hp⟩ => ⟨A9, c9, e, SlW.mono (SlW.keepT hp (KeepT.set hJb (by decide) i _)) (Nat.le_refl _) (by simp)⟩, fun h => absurd rfl h, trivial⟩
    ·
     intro L L' W' hLL hC
     obtain ⟨hB, hx, hz, ho, hq, hM, hhi, hjc, hI, hO⟩ := hC
     exact ⟨hB, hx, hz, ho, hq, hM, hhi, hjc, hI, fun h => hO (hLL _ h)⟩
    ·
     intro σ L W' hall hC hRR
     obtain ⟨hB, hx, hz, ho, hq, hM, hhi, hjc, hI, hO⟩ := hC
     obtain ⟨A9, e11, hp11⟩ := dE hRR 11 rfl
     clear hRR hO hI hjc
     simp only [lexAll]
     go_simp
     go_step
     have hOX := hp11.2
     have hOM' := hp11.1
     clear hp11 e11
     have hbi : c.bs[i]? = some (c.bs[i]'(by rw [E4.out]; exact hil)) := List.getElem?_eq_getElem (by rw [E4.out]; exact hil)
     have kb := Own.cell_ ic_len hOX.b (j := 0) hbi rfl
     rw [Nat.mul_one, Nat.add_zero] at kb
     have fb := Own.frozen_ hOX.b
     have ko := ho.cell
     have pB1 : Q ≤ gB := hOX.b.2.1
     have pB2 : gB < O := hOX.bg
     go_upto_region 12 with fail
     refine wp_abs (fun W => Below w.heap.size w W ∧ BoxAt W w.heap.size #[.int .i64 c.st.rd, .int .i64 c.st.mo, .slice sA mS kS, .int .i64 c.st.fi, .int .i64 c.st.la, .slice (some ⟨gh, 0, none⟩) n kH, .slice (some ⟨gj, 0, none⟩) n kJ, .slice bA n kB, .int .i64 c.ck, .slice eA mE kE] 68 ∧ BoxAt W (w.heap.size + 1) #[.int .i64 0, .int .i64 0, .slice none 0 0, .int .i64 0, .int .i64 0, .slice none 0 0, .slice none 0 0, .slice none 0 0, .int .i64 0, .slice none 0 0] 68 ∧ BoxAt W O #[.int .i64 c.st.rd, .int .i64 c.st.mo, .slice oS mS cS, .int .i64 c.st.fi, .int .i64 c.st.la, .slice oH n cH, .slice (some ⟨gJ, 0, none⟩) n cJ, .slice (some ⟨gB, 0, none⟩) n cB, .int .i64 (c.ck + 1), .slice oE mE cE] 68 ∧ BoxAt W X #[.int .i64 h0.at_, .int .i64 h0.v, .int .i64 h0.r, .int .i64 h0.t, .bool h0.seen.s, .int .i64 h0.seen.n, .bool h0.seen.f, .int .i64 h0.seen.v, .int .i64 h0.tr, .int .i64 h0.sp, .bool h0.ag, .int .i64 h0.re] 106 ∧ OutF Q O W c (c.js.set i (jl.drop 1)) (c.bs.set i (c.ck + 1)) (⟨⟨oS, mS, cS⟩, ⟨oH, n, cH⟩, ⟨some ⟨gJ, 0, none⟩, n, cJ⟩, ⟨some ⟨gB, 0, none⟩, n, cB⟩, ⟨oE, mE, cE⟩⟩ : CrL) ∧ O ≤ W.heap.size) ⟨sc hB, hx.sn, hz.sn, ho.sn, hq.sn, hOX.setBeg hil (c.ck + 1), by simpa using hOM'⟩ ?_
     clear hB hx hz ho hq hOX kb fb ko hbi hM hhi hOM'
     rintro W4 ⟨hB, hx, hz, ho, hq, hF, hOM'⟩
     have HJS := Lib.hid (show (goC c i).js = c.js.set i (jl.drop 1) by unfold goC; rw [HH0.out, if_pos HAT.out, HJL.out])
     have HBS := Lib.hid (show (goC c i).bs = c.bs.set i (c.ck + 1) by unfold goC; rw [HH0.out, if_pos HAT.out])
     have HRS := Lib.hid (show ((c.hs.getD i .zero).at_ == 0 && (c.js.getD i []).length == 0) = false by rw [HJL.out, HNL.out]; simp; omega)
     have kq := hq.cell
     cases hzp : decide (0 < z)
     ·
      have HG := Lib.hid (show goH c i = (toTake h0).1 by unfold goH jobH; rw [HH0.out, if_pos HAT.out, HJL.out, HZ.out]; exact if_neg (by simpa using hzp))
      go_wp2_with fail
      clear kq
      refine (stoTake_any h0 _).mono ?_
      rintro e w5 ⟨rfl, hb5⟩
      have h45 := hb5.size
      replace hF := hF.below hb5 hOM'
      replace hx := hx.below hb5 hx.lt
      replace hz := hz.below hb5 hz.lt
      replace ho := ho.below hb5 ho.lt
      replace hq := hq.below hb5 hq.lt
      replace hB := bstep hB hB.size hb5
      clear hb5
      generalize hq5 : toTake h0 = q5 at *
      exact zcrewF0
     ·
      have HG := Lib.hid (show goH c i = (toPut h0 z).1 by unfold goH jobH; rw [HH0.out, if_pos HAT.out, HJL.out, HZ.out]; exact if_pos (by simpa using hzp))
      go_wp2_with fail
      clear kq
      refine (stoPut_any h0 z _).mono ?_
      rintro e w5 ⟨rfl, hb5⟩
      have h45 := hb5.size
      replace hF := hF.below hb5 hOM'
      replace hx := hx.below hb5 hx.lt
      replace hz := hz.below hb5 hz.lt
      replace ho := ho.below hb5 ho.lt
      replace hq := hq.below hb5 hq.lt
      replace hB := bstep hB hB.size hb5
      clear hb5
      generalize hq5 : toPut h0 z = q5 at *
      exact zcrewF0
   ·
    have hjb' : ((n' : Int) == 0) = true := by simp at hjb ⊢; omega
    have HJ0 := Lib.hid (show (c.js.getD i []).length = 0 by rw [HJL.out, HNL.out]; simpa using hjb)
    clear hjb
    have HV := Lib.hid (show turnS c (i : Int) = (c, false) by exact turnS_no1 HIN.out (by rw [HH0.out, HATB.out, HJ0.out]; rfl))
    have kx := hx.cell
    go_wp2_with fail
    clear kx
    refine (l10Copy_any c (⟨⟨sA, mS, kS⟩, ⟨some ⟨gh, 0, none⟩, n, kH⟩, ⟨some ⟨gj, 0, none⟩, n, kJ⟩, ⟨bA, n, kB⟩, ⟨eA, mE, kE⟩⟩ : CrL) lo hi _ (hW0.below hB hh) (Nat.le_trans hh hB.size) HNT.out).mono ?_
    exact zcrewF1
 case rest =>
  clear hB hx hz ho hq hO kq hX2
  obtain ⟨hB, hx, hz, ho, hq, hF, hrs⟩ := hcut
  have HRS := Lib.hid hrs; clear hrs
  obtain ⟨h, hgh⟩ : ∃ h, h = goH c i := ⟨_, rfl⟩
  rw [← hgh] at hq
  have HGH := Lib.hid hgh; clear hgh
  have hX3 := hq.lt
  have ko := ho.cell
  have kq := hq.cell
  have HNE := Lib.hid (stOk_neat HNT.out.s)
  go_wp2_with fail
  clear ko kq
  refine (sstepped_any c.st oS mS cS Q O h _ hF.s (by omega) (by omega) HNE.out.len).mono ?_
  rintro e w5 ⟨A5, n5, c5, rfl, hG, hb5⟩
  have h45 := hb5.size
  replace hF := hF.below hb5 (by omega)
  replace hx := hx.below hb5 hx.lt
  replace hz := hz.below hb5 hz.lt
  replace ho := ho.below hb5 ho.lt
  replace hq := hq.below hb5 hq.lt
  replace hB := bstep hB hB.size hb5
  clear hb5
  generalize hq5 : stepped c.st h = q at *
  have HQ5 := Lib.hid hq5; clear hq5
  unfold stV hdV
  go_upto_region 16 with fail
  refine wp_abs (fun W => Below w.heap.size w W ∧ BoxAt W w.heap.size #[.int .i64 c.st.rd, .int .i64 c.st.mo, .slice sA mS kS, .int .i64 c.st.fi, .int .i64 c.st.la, .slice (some ⟨gh, 0, none⟩) n kH, .slice jA n kJ, .slice bA n kB, .int .i64 c.ck, .slice eA mE kE] 68 ∧ BoxAt W (w.heap.size + 1) #[.int .i64 0, .int .i64 0, .slice none 0 0, .int .i64 0, .int .i64 0, .slice none 0 0, .slice none 0 0, .slice none 0 0, .int .i64 0, .slice none 0 0] 68 ∧ BoxAt W O #[.int .i64 c.st.rd, .int .i64 c.st.mo, .slice oS mS cS, .int .i64 c.st.fi, .int .i64 c.st.la, .slice oH n cH, .slice oJ n cJ, .slice oB n cB, .int .i64 (c.ck + 1), .slice oE mE cE] 68 ∧ BoxAt W X #[.int .i64 h.at_, .int .i64 h.v, .int .i64 h.r, .int .i64 h.t, .bool h.seen.s, .int .i64 h.seen.n, .bool h.seen.f, .int .i64 h.seen.v, .int .i64 h.tr, .int .i64 h.sp, .bool h.ag, .int .i64 h.re] 106 ∧ BoxAt W w5.heap.size #[.int .i64 q.1.rd, .int .i64 q.1.mo, .slice A5 n5 c5, .int .i64 q.1.fi, .int .i64 q.1.la] 64 ∧ BoxAt W (w5.heap.size + 1) #[.int .i64 q.2.1.at_, .int .i64 q.2.1.v, .int .i64 q.2.1.r, .int .i64 q.2.1.t, .bool q.2.1.seen.s, .int .i64 q.2.1.seen.n, .bool q.2.1.seen.f, .int .i64 q.2.1.seen.v, .int .i64 q.2.1.tr, .int .i64 q.2.1.sp, .bool q.2.1.ag, .int .i64 q.2.1.re] 106 ∧ RgsW wc.heap.size w5.heap.size W A5 n5 c5 q.1.rs ∧ OutF Q O W c (goC c i).js (goC c i).bs (⟨⟨oS, mS, cS⟩, ⟨oH, n, cH⟩, ⟨oJ, n, cJ⟩, ⟨oB, n, cB⟩, ⟨oE, mE, cE⟩⟩ : CrL)) ⟨(hB.alloc hB.size _).alloc (by have := hB.size; simp; omega) _, (hx.alloc _).alloc _, (hz.alloc _).alloc _, (ho.alloc _).alloc _, (hq.alloc _).alloc _, (BoxAt.new _ _ _).alloc _, BoxAt.new' (by simp), (hG.al (Nat.le_refl _) _).al (by simp) _, (hF.below ((Below.refl _ _).alloc (Nat.le_refl _) _) (by omega)).below ((Below.refl _ _).alloc (Nat.le_refl _) _) (by simp; omega)⟩ ?_
  clear hB hx hz ho hq hG hF
  generalize wc.heap.size = P5 at *
  generalize w5.heap.size = S5 at *
  rintro W6 ⟨hB, hx, hz, ho, hq, hs5, hy, hG, hF⟩
  have hY6 := hy.lt
  cases hqb : q.2.2
  ·
   have HV := Lib.hid (show turnS c (i : Int) = (c, false) by exact turnS_no2 HIN.out HRS.out (by rw [← HGH.out, HQ5.out]; exact hqb))
   have kx := hx.cell
   go_wp2_with fail
   clear kx
   refine (l10Copy_any c (⟨⟨sA, mS, kS⟩, ⟨some ⟨gh, 0, none⟩, n, kH⟩, ⟨jA, n, kJ⟩, ⟨bA, n, kB⟩, ⟨eA, mE, kE⟩⟩ : CrL) lo hi _ (hW0.below hB hh) (Nat.le_trans hh hB.size) HNT.out).mono ?_
   exact zcrewF1
  have HQB := Lib.hid hqb; clear hqb
  have hHS := hF.h
  obtain ⟨gH, oH', hgO, hHo⟩ : ∃ gH, oH = some ⟨gH, 0, none⟩ ∧ gH < O ∧ Own Hd.cs 12 106 Q W6 gH n cH c.hs := by
   rcases hHS.2 with ⟨_, h1, _⟩ | ⟨b, e1, e2, e3⟩
   ·
    have h1' : n = 0 := h1
    omega
   · exact ⟨b, e1, e2, e3⟩
  subst oH'
  clear hHS
  have hQH : Q ≤ gH := hHo.2.1
  have hhi0 : c.hs[i]? = some (c.hs[i]'(by rw [E2.out]; exact hil)) := List.getElem?_eq_getElem (by rw [E2.out]; exact hil)
  have d0 := Own.cell_ Hd.cs_len hHo (j := 0) hhi0 rfl
  have d1 := Own.cell_ Hd.cs_len hHo (j := 1) hhi0 rfl
  have d2 := Own.cell_ Hd.cs_len hHo (j := 2) hhi0 rfl
  have d3 := Own.cell_ Hd.cs_len hHo (j := 3) hhi0 rfl
  have d4 := Own.cell_ Hd.cs_len hHo (j := 4) hhi0 rfl
  have d5 := Own.cell_ Hd.cs_len hHo (j := 5) hhi0 rfl
  have d6 := Own.cell_ Hd.cs_len hHo (j := 6) hhi0 rfl
  have d7 := Own.cell_ Hd.cs_len hHo (j := 7) hhi0 rfl
  have d8 := Own.cell_ Hd.cs_len hHo (j := 8) hhi0 rfl
  have d9 := Own.cell_ Hd.cs_len hHo (j := 9) hhi0 rfl
  have d10 := Own.cell_ Hd.cs_len hHo (j := 10) hhi0 rfl
  have d11 := Own.cell_ Hd.cs_len hHo (j := 11) hhi0 rfl
  rw [Nat.add_zero] at d0
  have fH := Own.frozen_ hHo
  clear hhi0
  have ks5 := hs5.cell
  have ky := hy.cell
  have ko := ho.cell
  have fo := ho.frozen
  have gHO : ¬ gH = O := by omega
  have gOH : ¬ O = gH := by omega
  go_upto_region 20 with fail
  clear d0 d1 d2 d3 d4 d5 d6 d7 d8 d9 d10 d11 fH ks5 ky ko fo
  have HST := Lib.hid (show (newC c i i).st = q.1 by unfold newC endC; rw [← HGH.out, HQ5.out])
  have HCK := Lib.hid (show (newC c i i).ck = c.ck + 1 from goC_ck c i)
  have HHS := Lib.hid (show (newC c i i).hs = c.hs.set i q.2.1 by unfold newC endC; rw [← HGH.out, HQ5.out, goC_hs])
  have j1 : KeepT 104 W6 (setCells (setCells W6 O 0 [.int .i64 q.1.rd, .int .i64 q.1.mo, .slice A5 n5 c5, .int .i64 q.1.fi, .int .i64 q.1.la]) gH (i * 12) [.int .i64 q.2.1.at_, .int .i64 q.2.1.v, .int .i64 q.2.1.r, .int .i64 q.2.1.t, .bool q.2.1.seen.s, .int .i64 q.2.1.seen.n, .bool q.2.1.seen.f, .int .i64 q.2.1.seen.v, .int .i64 q.2.1.tr, .int .i64 q.2.1.sp, .bool q.2.1.ag, .int .i64 q.2.1.re]) := (KeepT.sets ho (by decide) [.int .i64 q.1.rd, .int .i64 q.1.mo, .slice A5 n5 c5, .int .i64 q.1.fi, .int .i64 q.1.la] 0).trans (KeepT.sets ((show BoxAt (setCells W6 O 0 [.int .i64 q.1.rd, .int .i64 q.1.mo, .slice A5 n5 c5, .int .i64 q.1.fi, .int .i64 q.1.la]) gH _ _ from (Own.box (Own.sets_ne hHo (by omega) [.int .i64 q.1.rd, .int .i64 q.1.mo, .slice A5 n5 c5, .int .i64 q.1.fi, .int .i64 q.1.la] 0)).choose_spec)) (by decide) [.int .i64 q.2.1.at_, .int .i64 q.2.1.v, .int .i64 q.2.1.r, .int .i64 q.2.1.t, .bool q.2.1.seen.s, .int .i64 q.2.1.seen.n, .bool q.2.1.seen.f, .int .i64 q.2.1.seen.v, .int .i64 q.2.1.tr, .int .i64 q.2.1.sp, .bool q.2.1.ag, .int .i64 q.2.1.re] (i * 12))
  have j2 : KeepT 120 W6 (setCells (setCells W6 O 0 [.int .i64 q.1.rd, .int .i64 q.1.mo, .slice A5 n5 c5, .int .i64 q.1.fi, .int .i64 q.1.la]) gH (i * 12) [.int .i64 q.2.1.at_, .int .i64 q.2.1.v, .int .i64 q.2.1.r, .int .i64 q.2.1.t, .bool q.2.1.seen.s, .int .i64 q.2.1.seen.n, .bool q.2.1.seen.f, .int .i64 q.2.1.seen.v, .int .i64 q.2.1.tr, .int .i64 q.2.1.sp, .bool q.2.1.ag, .int .i64 q.2.1.re]) := (KeepT.sets ho (by decide) [.int .i64 q.1.rd, .int .i64 q.1.mo, .slice A5 n5 c5, .int .i64 q.1.fi, .int .i64 q.1.la] 0).trans (KeepT.sets ((show BoxAt (setCells W6 O 0 [.int .i64 q.1.rd, .int .i64 q.1.mo, .slice A5 n5 c5, .int .i64 q.1.fi, .int .i64 q.1.la]) gH _ _ from (Own.box (Own.sets_ne hHo (by omega) [.int .i64 q.1.rd, .int .i64 q.1.mo, .slice A5 n5 c5, .int .i64 q.1.fi, .int .i64 q.1.la] 0)).choose_spec)) (by decide) [.int .i64 q.2.1.at_, .int .i64 q.2.1.v, .int .i64 q.2.1.r, .int .i64 q.2.1.t, .bool q.2.1.seen.s, .int .i64 q.2.1.seen.n, .bool q.2.1.seen.f, .int .i64 q.2.1.seen.v, .int .i64 q.2.1.tr, .int .i64 q.2.1.sp, .bool q.2.1.ag, .int .i64 q.2.1.re] (i * 12))
  have j4 : KeepT 2 W6 (setCells (setCells W6 O 0 [.int .i64 q.1.rd, .int .i64 q.1.mo, .slice A5 n5 c5, .int .i64 q.1.fi, .int .i64 q.1.la]) gH (i * 12) [.int .i64 q.2.1.at_, .int .i64 q.2.1.v, .int .i64 q.2.1.r, .int .i64 q.2.1.t, .bool q.2.1.seen.s, .int .i64 q.2.1.seen.n, .bool q.2.1.seen.f, .int .i64 q.2.1.seen.v, .int .i64 q.2.1.tr, .int .i64 q.2.1.sp, .bool q.2.1.ag, .int .i64 q.2.1.re]) := (KeepT.sets ho (by decide) [.int .i64 q.1.rd, .int .i64 q.1.mo, .slice A5 n5 c5, .int .i64 q.1.fi, .int .i64 q.1.la] 0).trans (KeepT.sets ((show BoxAt (setCells W6 O 0 [.int .i64 q.1.rd, .int .i64 q.1.mo, .slice A5 n5 c5, .int .i64 q.1.fi, .int .i64 q.1.la]) gH _ _ from (Own.box (Own.sets_ne hHo (by omega) [.int .i64 q.1.rd, .int .i64 q.1.mo, .slice A5 n5 c5, .int .i64 q.1.fi, .int .i64 q.1.la] 0)).choose_spec)) (by decide) [.int .i64 q.2.1.at_, .int .i64 q.2.1.v, .int .i64 q.2.1.r, .int .i64 q.2.1.t, .bool q.2.1.seen.s, .int .i64 q.2.1.seen.n, .bool q.2.1.seen.f, .int .i64 q.2.1.seen.v, .int .i64 q.2.1.tr, .int .i64 q.2.1.sp, .bool q.2.1.ag, .int .i64 q.2.1.re] (i * 12))
  have j5 : KeepT 42 W6 (setCells (setCells W6 O 0 [.int .i64 q.1.rd, .int .i64 q.1.mo, .slice A5 n5 c5, .int .i64 q.1.fi, .int .i64 q.1.la]) gH (i * 12) [.int .i64 q.2.1.at_, .int .i64 q.2.1.v, .int .i64 q.2.1.r, .int .i64 q.2.1.t, .bool q.2.1.seen.s, .int .i64 q.2.1.seen.n, .bool q.2.1.seen.f, .int .i64 q.2.1.seen.v, .int .i64 q.2.1.tr, .int .i64 q.2.1.sp, .bool q.2.1.ag, .int .i64 q.2.1.re]) := (KeepT.sets ho (by decide) [.int .i64 q.1.rd, .int .i64 q.1.mo, .slice A5 n5 c5, .int .i64 q.1.fi, .int .i64 q.1.la] 0).trans (KeepT.sets ((show BoxAt (setCells W6 O 0 [.int .i64 q.1.rd, .int .i64 q.1.mo, .slice A5 n5 c5, .int .i64 q.1.fi, .int .i64 q.1.la]) gH _ _ from (Own.box (Own.sets_ne hHo (by omega) [.int .i64 q.1.rd, .int .i64 q.1.mo, .slice A5 n5 c5, .int .i64 q.1.fi, .int .i64 q.1.la] 0)).choose_spec)) (by decide) [.int .i64 q.2.1.at_, .int .i64 q.2.1.v, .int .i64 q.2.1.r, .int .i64 q.2.1.t, .bool q.2.1.seen.s, .int .i64 q.2.1.seen.n, .bool q.2.1.seen.f, .int .i64 q.2.1.seen.v, .int .i64 q.2.1.tr, .int .i64 q.2.1.sp, .bool q.2.1.ag, .int .i64 q.2.1.re] (i * 12))
  have j6 : KeepT 32 W6 (setCells (setCells W6 O 0 [.int .i64 q.1.rd, .int .i64 q.1.mo, .slice A5 n5 c5, .int .i64 q.1.fi, .int .i64 q.1.la]) gH (i * 12) [.int .i64 q.2.1.at_, .int .i64 q.2.1.v, .int .i64 q.2.1.r, .int .i64 q.2.1.t, .bool q.2.1.seen.s, .int .i64 q.2.1.seen.n, .bool q.2.1.seen.f, .int .i64 q.2.1.seen.v, .int .i64 q.2.1.tr, .int .i64 q.2.1.sp, .bool q.2.1.ag, .int .i64 q.2.1.re]) := (KeepT.sets ho (by decide) [.int .i64 q.1.rd, .int .i64 q.1.mo, .slice A5 n5 c5, .int .i64 q.1.fi, .int .i64 q.1.la] 0).trans (KeepT.sets ((show BoxAt (setCells W6 O 0 [.int .i64 q.1.rd, .int .i64 q.1.mo, .slice A5 n5 c5, .int .i64 q.1.fi, .int .i64 q.1.la]) gH _ _ from (Own.box (Own.sets_ne hHo (by omega) [.int .i64 q.1.rd, .int .i64 q.1.mo, .slice A5 n5 c5, .int .i64 q.1.fi, .int .i64 q.1.la] 0)).choose_spec)) (by decide) [.int .i64 q.2.1.at_, .int .i64 q.2.1.v, .int .i64 q.2.1.r, .int .i64 q.2.1.t, .bool q.2.1.seen.s, .int .i64 q.2.1.seen.n, .bool q.2.1.seen.f, .int .i64 q.2.1.seen.v, .int .i64 q.2.1.tr, .int .i64 q.2.1.sp, .bool q.2.1.ag, .int .i64 q.2.1.re] (i * 12))
  have jz : W6.heap.size = (setCells (setCells W6 O 0 [.int .i64 q.1.rd, .int .i64 q.1.mo, .slice A5 n5 c5, .int .i64 q.1.fi, .int .i64 q.1.la]) gH (i * 12) [.int .i64 q.2.1.at_, .int .i64 q.2.1.v, .int .i64 q.2.1.r, .int .i64 q.2.1.t, .bool q.2.1.seen.s, .int .i64 q.2.1.seen.n, .bool q.2.1.seen.f, .int .i64 q.2.1.seen.v, .int .i64 q.2.1.tr, .int .i64 q.2.1.sp, .bool q.2.1.ag, .int .i64 q.2.1.re]).heap.size := by rw [sets_size, sets_size]
  have p1 : Below w.heap.size w (setCells (setCells W6 O 0 [.int .i64 q.1.rd, .int .i64 q.1.mo, .slice A5 n5 c5, .int .i64 q.1.fi, .int .i64 q.1.la]) gH (i * 12) [.int .i64 q.2.1.at_, .int .i64 q.2.1.v, .int .i64 q.2.1.r, .int .i64 q.2.1.t, .bool q.2.1.seen.s, .int .i64 q.2.1.seen.n, .bool q.2.1.seen.f, .int .i64 q.2.1.seen.v, .int .i64 q.2.1.tr, .int .i64 q.2.1.sp, .bool q.2.1.ag, .int .i64 q.2.1.re]) := Below.setCells (by omega) [.int .i64 q.2.1.at_, .int .i64 q.2.1.v, .int .i64 q.2.1.r, .int .i64 q.2.1.t, .bool q.2.1.seen.s, .int .i64 q.2.1.seen.n, .bool q.2.1.seen.f, .int .i64 q.2.1.seen.v, .int .i64 q.2.1.tr, .int .i64 q.2.1.sp, .bool q.2.1.ag, .int .i64 q.2.1.re] (i * 12) (Below.setCells (by omega) [.int .i64 q.1.rd, .int .i64 q.1.mo, .slice A5 n5 c5, .int .i64 q.1.fi, .int .i64 q.1.la] 0 hB)
  have p2 : BoxAt (setCells (setCells W6 O 0 [.int .i64 q.1.rd, .int .i64 q.1.mo, .slice A5 n5 c5, .int .i64 q.1.fi, .int .i64 q.1.la]) gH (i * 12) [.int .i64 q.2.1.at_, .int .i64 q.2.1.v, .int .i64 q.2.1.r, .int .i64 q.2.1.t, .bool q.2.1.seen.s, .int .i64 q.2.1.seen.n, .bool q.2.1.seen.f, .int .i64 q.2.1.seen.v, .int .i64 q.2.1.tr, .int .i64 q.2.1.sp, .bool q.2.1.ag, .int .i64 q.2.1.re]) w.heap.size #[.int .i64 c.st.rd, .int .i64 c.st.mo, .slice sA mS kS, .int .i64 c.st.fi, .int .i64 c.st.la, .slice (some ⟨gh, 0, none⟩) n kH, .slice jA n kJ, .slice bA n kB, .int .i64 c.ck, .slice eA mE kE] 68 := BoxAt.sets_ne [.int .i64 q.2.1.at_, .int .i64 q.2.1.v, .int .i64 q.2.1.r, .int .i64 q.2.1.t, .bool q.2.1.seen.s, .int .i64 q.2.1.seen.n, .bool q.2.1.seen.f, .int .i64 q.2.1.seen.v, .int .i64 q.2.1.tr, .int .i64 q.2.1.sp, .bool q.2.1.ag, .int .i64 q.2.1.re] (i * 12) (BoxAt.sets_ne [.int .i64 q.1.rd, .int .i64 q.1.mo, .slice A5 n5 c5, .int .i64 q.1.fi, .int .i64 q.1.la] 0 hx (by omega)) (by omega)
  have p3 : BoxAt (setCells (setCells W6 O 0 [.int .i64 q.1.rd, .int .i64 q.1.mo, .slice A5 n5 c5, .int .i64 q.1.fi, .int .i64 q.1.la]) gH (i * 12) [.int .i64 q.2.1.at_, .int .i64 q.2.1.v, .int .i64 q.2.1.r, .int .i64 q.2.1.t, .bool q.2.1.seen.s, .int .i64 q.2.1.seen.n, .bool q.2.1.seen.f, .int .i64 q.2.1.seen.v, .int .i64 q.2.1.tr, .int .i64 q.2.1.sp, .bool q.2.1.ag, .int .i64 q.2.1.re]) (w.heap.size + 1) #[.int .i64 0, .int .i64 0, .slice none 0 0, .int .i64 0, .int .i64 0, .slice none 0 0, .slice none 0 0, .slice none 0 0, .int .i64 0, .slice none 0 0] 68 := BoxAt.sets_ne [.int .i64 q.2.1.at_, .int .i64 q.2.1.v, .int .i64 q.2.1.r, .int .i64 q.2.1.t, .bool q.2.1.seen.s, .int .i64 q.2.1.seen.n, .bool q.2.1.seen.f, .int .i64 q.2.1.seen.v, .int .i64 q.2.1.tr, .int .i64 q.2.1.sp, .bool q.2.1.ag, .int .i64 q.2.1.re] (i * 12) (BoxAt.sets_ne [.int .i64 q.1.rd, .int .i64 q.1.mo, .slice A5 n5 c5, .int .i64 q.1.fi, .int .i64 q.1.la] 0 hz (by omega)) (by omega)
  have p4 : BoxAt (setCells (setCells W6 O 0 [.int .i64 q.1.rd, .int .i64 q.1.mo, .slice A5 n5 c5, .int .i64 q.1.fi, .int .i64 q.1.la]) gH (i * 12) [.int .i64 q.2.1.at_, .int .i64 q.2.1.v, .int .i64 q.2.1.r, .int .i64 q.2.1.t, .bool q.2.1.seen.s, .int .i64 q.2.1.seen.n, .bool q.2.1.seen.f, .int .i64 q.2.1.seen.v, .int .i64 q.2.1.tr, .int .i64 q.2.1.sp, .bool q.2.1.ag, .int .i64 q.2.1.re]) O #[.int .i64 (newC c i i).st.rd, .int .i64 (newC c i i).st.mo, .slice A5 n5 c5, .int .i64 (newC c i i).st.fi, .int .i64 (newC c i i).st.la, .slice (some ⟨gH, 0, none⟩) n cH, .slice oJ n cJ, .slice oB n cB, .int .i64 ((newC c i i).ck), .slice oE mE cE] 68 := by
   rw [HST.out, HCK.out]
   exact BoxAt.sets_ne [.int .i64 q.2.1.at_, .int .i64 q.2.1.v, .int .i64 q.2.1.r, .int .i64 q.2.1.t, .bool q.2.1.seen.s, .int .i64 q.2.1.seen.n, .bool q.2.1.seen.f, .int .i64 q.2.1.seen.v, .int .i64 q.2.1.tr, .int .i64 q.2.1.sp, .bool q.2.1.ag, .int .i64 q.2.1.re] (i * 12) (show BoxAt (setCells W6 O 0 [.int .i64 q.1.rd, .int .i64 q.1.mo, .slice A5 n5 c5, .int .i64 q.1.fi, .int .i64 q.1.la]) O #[.int .i64 q.1.rd, .int .i64 q.1.mo, .slice A5 n5 c5, .int .i64 q.1.fi, .int .i64 q.1.la, .slice (some ⟨gH, 0, none⟩) n cH, .slice oJ n cJ, .slice oB n cB, .int .i64 (c.ck + 1), .slice oE mE cE] 68 from ((((ho.set 0 _).set 1 _).set 2 _).set 3 _).set 4 _) (by omega)
  have p5 : BoxAt (setCells (setCells W6 O 0 [.int .i64 q.1.rd, .int .i64 q.1.mo, .slice A5 n5 c5, .int .i64 q.1.fi, .int .i64 q.1.la]) gH (i * 12) [.int .i64 q.2.1.at_, .int .i64 q.2.1.v, .int .i64 q.2.1.r, .int .i64 q.2.1.t, .bool q.2.1.seen.s, .int .i64 q.2.1.seen.n, .bool q.2.1.seen.f, .int .i64 q.2.1.seen.v, .int .i64 q.2.1.tr, .int .i64 q.2.1.sp, .bool q.2.1.ag, .int .i64 q.2.1.re]) X #[.int .i64 h.at_, .int .i64 h.v, .int .i64 h.r, .int .i64 h.t, .bool h.seen.s, .int .i64 h.seen.n, .bool h.seen.f, .int .i64 h.seen.v, .int .i64 h.tr, .int .i64 h.sp, .bool h.ag, .int .i64 h.re] 106 := BoxAt.sets_ne [.int .i64 q.2.1.at_, .int .i64 q.2.1.v, .int .i64 q.2.1.r, .int .i64 q.2.1.t, .bool q.2.1.seen.s, .int .i64 q.2.1.seen.n, .bool q.2.1.seen.f, .int .i64 q.2.1.seen.v, .int .i64 q.2.1.tr, .int .i64 q.2.1.sp, .bool q.2.1.ag, .int .i64 q.2.1.re] (i * 12) (BoxAt.sets_ne [.int .i64 q.1.rd, .int .i64 q.1.mo, .slice A5 n5 c5, .int .i64 q.1.fi, .int .i64 q.1.la] 0 hq (by omega)) (by omega)
  have p6 : BoxAt (setCells (setCells W6 O 0 [.int .i64 q.1.rd, .int .i64 q.1.mo, .slice A5 n5 c5, .int .i64 q.1.fi, .int .i64 q.1.la]) gH (i * 12) [.int .i64 q.2.1.at_, .int .i64 q.2.1.v, .int .i64 q.2.1.r, .int .i64 q.2.1.t, .bool q.2.1.seen.s, .int .i64 q.2.1.seen.n, .bool q.2.1.seen.f, .int .i64 q.2.1.seen.v, .int .i64 q.2.1.tr, .int .i64 q.2.1.sp, .bool q.2.1.ag, .int .i64 q.2.1.re]) (S5 + 1) #[.int .i64 q.2.1.at_, .int .i64 q.2.1.v, .int .i64 q.2.1.r, .int .i64 q.2.1.t, .bool q.2.1.seen.s, .int .i64 q.2.1.seen.n, .bool q.2.1.seen.f, .int .i64 q.2.1.seen.v, .int .i64 q.2.1.tr, .int .i64 q.2.1.sp, .bool q.2.1.ag, .int .i64 q.2.1.re] 106 := BoxAt.sets_ne [.int .i64 q.2.1.at_, .int .i64 q.2.1.v, .int .i64 q.2.1.r, .int .i64 q.2.1.t, .bool q.2.1.seen.s, .int .i64 q.2.1.seen.n, .bool q.2.1.seen.f, .int .i64 q.2.1.seen.v, .int .i64 q.2.1.tr, .int .i64 q.2.1.sp, .bool q.2.1.ag, .int .i64 q.2.1.re] (i * 12) (BoxAt.sets_ne [.int .i64 q.1.rd, .int .i64 q.1.mo, .slice A5 n5 c5, .int .i64 q.1.fi, .int .i64 q.1.la] 0 hy (by omega)) (by omega)
  have p7 : CrP Q (setCells (setCells W6 O 0 [.int .i64 q.1.rd, .int .i64 q.1.mo, .slice A5 n5 c5, .int .i64 q.1.fi, .int .i64 q.1.la]) gH (i * 12) [.int .i64 q.2.1.at_, .int .i64 q.2.1.v, .int .i64 q.2.1.r, .int .i64 q.2.1.t, .bool q.2.1.seen.s, .int .i64 q.2.1.seen.n, .bool q.2.1.seen.f, .int .i64 q.2.1.seen.v, .int .i64 q.2.1.tr, .int .i64 q.2.1.sp, .bool q.2.1.ag, .int .i64 q.2.1.re]) (newC c i i) (⟨⟨A5, n5, c5⟩, ⟨some ⟨gH, 0, none⟩, n, cH⟩, ⟨oJ, n, cJ⟩, ⟨oB, n, cB⟩, ⟨oE, mE, cE⟩⟩ : CrL) := by
   refine ⟨?_, ?_, ?_, ?_⟩
   ·
    rw [HST.out, ← jz]
    exact (hG.keepT j1 j2).mono (by omega) (by omega)
   ·
    rw [HHS.out]
    refine ⟨by rw [List.length_set]; exact E2.out, .inr ⟨gH, rfl, by rw [← jz]; omega, ?_⟩⟩
    exact Own.setEl (Own.sets_ne hHo (by omega) [.int .i64 q.1.rd, .int .i64 q.1.mo, .slice A5 n5 c5, .int .i64 q.1.fi, .int .i64 q.1.la] 0) Hd.cs_len (by omega) hil q.2.1
   ·
    rw [← jz]
    exact hF.j.keepT j4 j5
   ·
    rw [← jz]
    exact SlW.mono (SlW.keepT hF.b j4) (Nat.le_refl _) (by omega)
  have p8 : EvsW Q O (setCells (setCells W6 O 0 [.int .i64 q.1.rd, .int .i64 q.1.mo, .slice A5 n5 c5, .int .i64 q.1.fi, .int .i64 q.1.la]) gH (i * 12) [.int .i64 q.2.1.at_, .int .i64 q.2.1.v, .int .i64 q.2.1.r, .int .i64 q.2.1.t, .bool q.2.1.seen.s, .int .i64 q.2.1.seen.n, .bool q.2.1.seen.f, .int .i64 q.2.1.seen.v, .int .i64 q.2.1.tr, .int .i64 q.2.1.sp, .bool q.2.1.ag, .int .i64 q.2.1.re]) oE mE cE c.es := SlW.keepT hF.e j6
  refine wp_abs (fun W => Below w.heap.size w W ∧ BoxAt W w.heap.size #[.int .i64 c.st.rd, .int .i64 c.st.mo, .slice sA mS kS, .int .i64 c.st.fi, .int .i64 c.st.la, .slice (some ⟨gh, 0, none⟩) n kH, .slice jA n kJ, .slice bA n kB, .int .i64 c.ck, .slice eA mE kE] 68 ∧ BoxAt W (w.heap.size + 1) #[.int .i64 0, .int .i64 0, .slice none 0 0, .int .i64 0, .int .i64 0, .slice none 0 0, .slice none 0 0, .slice none 0 0, .int .i64 0, .slice none 0 0] 68 ∧ BoxAt W O #[.int .i64 (newC c i i).st.rd, .int .i64 (newC c i i).st.mo, .slice A5 n5 c5, .int .i64 (newC c i i).st.fi, .int .i64 (newC c i i).st.la, .slice (some ⟨gH, 0, none⟩) n cH, .slice oJ n cJ, .slice oB n cB, .int .i64 ((newC c i i).ck), .slice oE mE cE] 68 ∧ BoxAt W X #[.int .i64 h.at_, .int .i64 h.v, .int .i64 h.r, .int .i64 h.t, .bool h.seen.s, .int .i64 h.seen.n, .bool h.seen.f, .int .i64 h.seen.v, .int .i64 h.tr, .int .i64 h.sp, .bool h.ag, .int .i64 h.re] 106 ∧ BoxAt W (S5 + 1) #[.int .i64 q.2.1.at_, .int .i64 q.2.1.v, .int .i64 q.2.1.r, .int .i64 q.2.1.t, .bool q.2.1.seen.s, .int .i64 q.2.1.seen.n, .bool q.2.1.seen.f, .int .i64 q.2.1.seen.v, .int .i64 q.2.1.tr, .int .i64 q.2.1.sp, .bool q.2.1.ag, .int .i64 q.2.1.re] 106 ∧ CrP Q W (newC c i i) (⟨⟨A5, n5, c5⟩, ⟨some ⟨gH, 0, none⟩, n, cH⟩, ⟨oJ, n, cJ⟩, ⟨oB, n, cB⟩, ⟨oE, mE, cE⟩⟩ : CrL) ∧ EvsW Q O W oE mE cE c.es) ⟨p1, p2, p3, p4, p5, p6, p7, p8⟩ ?_
  clear hB hx hz ho hq hs5 hy hG hF hHo j1 j2 j4 j5 j6 jz p1 p2 p3 p4 p5 p6 p7 p8
  rintro W7 ⟨hB, hx, hz, ho, hq, hy, hP, hE⟩
  have ky := hy.cell
  go_upto_if 107 with fail
  have hO7 := ho.lt
  go_cut [12] (fun u12 W' => ∃ (A8 : Option Addr) (n8 c8 : Nat), Below w.heap.size w W' ∧ BoxAt W' w.heap.size #[.int .i64 c.st.rd, .int .i64 c.st.mo, .slice sA mS kS, .int .i64 c.st.fi, .int .i64 c.st.la, .slice (some ⟨gh, 0, none⟩) n kH, .slice jA n kJ, .slice bA n kB, .int .i64 c.ck, .slice eA mE kE] 68 ∧ BoxAt W' (w.heap.size + 1) #[.int .i64 0, .int .i64 0, .slice none 0 0, .int .i64 0, .int .i64 0, .slice none 0 0, .slice none 0 0, .slice none 0 0, .int .i64 0, .slice none 0 0] 68 ∧ BoxAt W' O #[.int .i64 (newC c i i).st.rd, .int .i64 (newC c i i).st.mo, .slice A5 n5 c5, .int .i64 (newC c i i).st.fi, .int .i64 (newC c i i).st.la, .slice (some ⟨gH, 0, none⟩) n cH, .slice oJ n cJ, .slice oB n cB, .int .i64 ((newC c i i).ck), .slice A8 n8 c8] 68 ∧ CrW Q W'.heap.size W' (newC c i i) (⟨⟨A5, n5, c5⟩, ⟨some ⟨gH, 0, none⟩, n, cH⟩, ⟨oJ, n, cJ⟩, ⟨oB, n, cB⟩, ⟨A8, n8, c8⟩⟩ : CrL))
  case first =>
   cases hyt : (q.2.1.at_ == 0)
   ·
    have HES := Lib.hid (show (newC c i i).es = c.es by unfold newC endC; rw [← HGH.out, HQ5.out]; dsimp only; rw [if_neg (by simpa using hyt), goC_es])
    go_wp2
    go_meet
    exact ⟨oE, mE, cE, hB, hx, hz, ho, hP.crw (by rw [HES.out]; exact SlW.mono hE (Nat.le_refl _) (by omega))⟩
   ·
    have HES := Lib.hid (show (newC c i i).es = c.es ++ [evt (i : Int) i h q.2.1 (goC c i)] by unfold newC endC; rw [← HGH.out, HQ5.out]; dsimp only; rw [if_pos (by simpa using hyt), goC_es])
    clear hyt
    obtain ⟨gB, bz, oB', -, lB, hbz, hbc0⟩ := SlW.at_ hP.b ic_len (i := i) hil
    dsimp only at oB'
    subst oB'
    have HBZ := Lib.hid (show (goC c i).bs.getD i 0 = bz from getD_some hbz)
    have hbc : CellsAt W7 gB i [.int .i64 bz] := fun j u hu => by
     have := hbc0 j u hu
     rwa [Nat.mul_one] at this
    clear hbc0 hbz
    go_upto_region 21 with fail
    clear ky
    obtain ⟨M, hMe⟩ : ∃ M, M = W7.heap.size := ⟨_, rfl⟩
    have hM : M ≤ W7.heap.size := by omega
    have mN : w.heap.size + 1 < M := by have := hz.lt; omega
    have mO : O < M := by omega
    have mX : X < M := by have := hq.lt; omega
    have mY : S5 + 1 < M := by have := hy.lt; omega
    have mB : gB < M := by omega
    clear hMe lB
    refine wp_region2v (fun w w' => Below w.heap.size w w') (fun _ _ h => h.size) (fun _ => Below.refl _ _) (fun L W' => Below w.heap.size w W' ∧ BoxAt W' w.heap.size #[.int .i64 c.st.rd, .int .i64 c.st.mo, .slice sA mS kS, .int .i64 c.st.fi, .int .i64 c.st.la, .slice (some ⟨gh, 0, none⟩) n kH, .slice jA n kJ, .slice bA n kB, .int .i64 c.ck, .slice eA mE kE] 68 ∧ BoxAt W' (w.heap.size + 1) #[.int .i64 0, .int .i64 0, .slice none 0 0, .int .i64 0, .int .i64 0, .slice none 0 0, .slice none 0 0, .slice none 0 0, .int .i64 0, .slice none 0 0] 68 ∧ BoxAt W' O #[.int .i64 ((newC c i i).st.rd), .int .i64 ((newC c i i).st.mo), .slice A5 n5 c5, .int .i64 ((newC c i i).st.fi), .int .i64 ((newC c i i).st.la), .slice (some ⟨gH, 0, none⟩) n cH, .slice oJ n cJ, .slice (some ⟨gB, 0, none⟩) n cB, .int .i64 ((newC c i i).ck), .slice oE mE cE] 68 ∧ BoxAt W' X #[.int .i64 h.at_, .int .i64 h.v, .int .i64 h.r, .int .i64 h.t, .bool h.seen.s, .int .i64 h.seen.n, .bool h.seen.f, .int .i64 h.seen.v, .int .i64 h.tr, .int .i64 h.sp, .bool h.ag, .int .i64 h.re] 106 ∧ BoxAt W' (S5 + 1) #[.int .i64 q.2.1.at_, .int .i64 q.2.1.v, .int .i64 q.2.1.r, .int .i64 q.2.1.t, .bool q.2.1.seen.s, .int .i64 q.2.1.seen.n, .bool q.2.1.seen.f, .int .i64 q.2.1.seen.v, .int .i64 q.2.1.tr, .int .i64 q.2.1.sp, .bool q.2.1.ag, .int .i64 q.2.1.re] 106 ∧ M ≤ W'.heap.size ∧ CellsAt W' gB i [.int .i64 bz] ∧ CrP Q W' (newC c i i) (⟨⟨A5, n5, c5⟩, ⟨some ⟨gH, 0, none⟩, n, cH⟩, ⟨oJ, n, cJ⟩, ⟨some ⟨gB, 0, none⟩, n, cB⟩, ⟨oE, mE, cE⟩⟩ : CrL) ∧ EvsW Q O W' oE mE cE c.es) (tuEV c M O X (S5 + 1) i n n5 c5 cH cJ cB mE cE gH gB A5 oJ oE h q bz) (fun j => [0, 0, 0, 0, 0, 0, 0, 0, 0, 0, 0, 0, 0, 0, 0, 0, 2, 1].getD j 0) [(17, 16)] (by kernel_rfl) (by kernel_rfl) ?_ ?_ ?_
     (.still rfl ?a0 <| .still rfl ?a1 <| .still rfl ?a2 <| .grow rfl ?a3 <| .still rfl ?a4 <| .still rfl ?a5 <| .still rfl ?a6 <| .still rfl ?a7 <| .still rfl ?a8 <| .still rfl ?a9 <| .still rfl ?a10 <| .still rfl ?a11 <| .still rfl ?a12 <| .still rfl ?a13 <| .still rfl ?a14 <| .still rfl ?a15 <| .make rfl ?a16 <| .store rfl ?a17 <| .nil) ?_ ?_
    · exact ⟨fun _ _ _ h ⟨g, e, hp⟩ => ⟨g, (h 16 (List.mem_singleton.2 rfl)).symm.trans e, hp⟩, fun _ _ _ h ⟨g, e, hp⟩ => ⟨g, (h 16 (List.mem_singleton.2 rfl)).symm.trans e, hp⟩, trivial⟩
    · exact ⟨fun σ w w' hb ⟨g, e, hg, x0, x1, x2, x3, x4, x5, hx⟩ => ⟨g, e, hg, x0, x1, x2, x3, x4, x5, hx.below hb hx.lt⟩, fun σ w w' hb ⟨g, e, hg, hx⟩ => ⟨g, e, hg, hx.below hb hx.lt⟩, trivial⟩
    · exact ⟨hB.drew, hx, hz, ho, hq, hy, hM, hbc, hP.drew, hE⟩
    case a0 | a1 | a4 | a6 | a8 | a10 | a11 | a13 | a15 =>
     go_light
     intro L σ W' hcl hL hC hw
     try have e0 := wT hw 0 rfl
     try have e3 := wT hw 3 rfl
     try have e5 := wT hw 5 rfl
     try have e7 := wT hw 7 rfl
     try have e9 := wT hw 9 rfl
     try have e10 := wT hw 10 rfl
     try have e12 := wT hw 12 rfl
     try have e14 := wT hw 14 rfl
     exact zcrewF3
    case a2 =>
     go_light
     intro L σ W' hcl hL hC hw
     have e1 := wV hw 1 rfl
     have kq := hC.2.2.2.2.1.cell
     exact zcrewF3
    case a5 | a7 =>
     go_light
     intro L σ W' hcl hL hC hw
     try have e4 := wT hw 4 rfl
     try have e6 := wT hw 6 rfl
     have ky := hC.2.2.2.2.2.1.cell
     exact zcrewF3
    case a9 | a14 =>
     go_light
     intro L σ W' hcl hL hC hw
     try have e8 := wT hw 8 rfl
     try have e13 := wT hw 13 rfl
     have ko := hC.2.2.2.1.cell
     exact zcrewF3
    case a12 =>
     go_light
     intro L σ W' hcl hL hC hw
     have e11 := wV hw 11 rfl
     have db := hC.2.2.2.2.2.2.2.1 0 _ rfl
     rw [Nat.add_zero] at db
     exact zcrewF3
    case a3 =>
     go_light
     intro L σ W' hcl hL hC hw
     have e2 := wV hw 2 rfl
     clear hw
     have HC := Lib.hid hC
     clear hC
     clear hcl hL
     refine OpGoes.go fun K hK => ?_
     go_simp
     obtain ⟨hB, hx, hz, ho, hq, hy, hM, hbc, hP, hE⟩ := HC.out
     refine (l5PuttingB h.at_ _).mono ?_
     rintro e w1 ⟨rfl, hb1⟩
     exact ⟨_, rfl, hK _ _ ⟨⟨bstep hB hB.size hb1, hx.below hb1 hx.lt, hz.below hb1 hz.lt, ho.below hb1 ho.lt, hq.below hb1 hq.lt, hy.below hb1 hy.lt, Nat.le_trans hM hb1.size, hbc.below hb1, hP.belowS hb1, SlW.below hE hb1 (by omega)⟩, rfl, hb1⟩⟩
    case a16 =>
     go_light
     intro L σ W' hcl hL hC hw
     clear hw
     have HC := Lib.hid hC
     clear hC
     clear hcl hL
     refine OpGoes.go fun K hK => ?_
     go_simp
     obtain ⟨hB, hx, hz, ho, hq, hy, hM, hbc, hP, hE⟩ := HC.out
     have hb1 : Below W'.heap.size W' (W'.alloc (.cells #[.int .i64 0, .bool false, .int .i64 0, .int .i64 0, .int .i64 0, .int .i64 0] 32)) := (Below.refl _ _).alloc (Nat.le_refl _) _
     exact hK _ _ ⟨⟨bstep hB hB.size hb1, hx.below hb1 hx.lt, hz.below hb1 hz.lt, ho.below hb1 ho.lt, hq.below hb1 hq.lt, hy.below hb1 hy.lt, Nat.le_trans hM hb1.size, hbc.below hb1, hP.belowS hb1, SlW.below hE hb1 (by omega)⟩, ⟨_, rfl, hM, _, _, _, _, _, _, BoxAt.new _ _ _⟩, hb1, rfl, by simp⟩
    case a17 =>
     go_light
     intro L σ W' hcl hL hC hw hne
     have e15 := wV hw 15 rfl
     obtain ⟨g16, e16, hg16, x0, x1, x2, x3, x4, x5, hbox16⟩ := wE hw 16 rfl
     clear hw hne
     have HC := Lib.hid hC
     clear hC
     clear hcl hL
     have kc_ := hbox16.cell
     have kf_ := hbox16.frozen
     refine OpGoes.go fun K hK => ?_
     go_simp
     obtain ⟨hB, hx, hz, ho, hq, hy, hM, hbc, hP, hE⟩ := HC.out
     have hset := sets_all (us := [.int .i64 ((i : Int)), .bool (putB h.at_), .int .i64 q.2.1.v, .int .i64 q.2.1.re, .int .i64 bz, .int .i64 ((newC c i i).ck)]) hbox16 rfl
     refine hK undef (setCells W' g16 0 [.int .i64 ((i : Int)), .bool (putB h.at_), .int .i64 q.2.1.v, .int .i64 q.2.1.re, .int .i64 bz, .int .i64 ((newC c i i).ck)]) ⟨⟨(Below.setCells (by omega) _ 0 hB), (BoxAt.sets_ne _ 0 hx (by omega)), (BoxAt.sets_ne _ 0 hz (by omega)), (BoxAt.sets_ne _ 0 ho (by omega)), (BoxAt.sets_ne _ 0 hq (by omega)), (BoxAt.sets_ne _ 0 hy (by omega)), (size_sts hM _ 0), (CellsAt.same hbc (sets_block (by omega) _ 0 _)), (CrP.setsE hP hbox16 _ 0), (SlW.sts hE (by omega) _ 0)⟩, ⟨g16, e16, hg16, hset⟩, Nat.le_of_eq (sets_size _ _ _).symm, keepV ?_⟩
     exact ⟨fun _ _ _ => ⟨g16, e16, hg16, _, _, _, _, _, _, hset⟩, fun h => absurd rfl h, trivial⟩
    ·
     intro L L' W' hLL hC
     obtain ⟨hB, hx, hz, ho, hq, hy, hM, hbc, hP, hE⟩ := hC
     exact ⟨hB, hx, hz, ho, hq, hy, hM, hbc, hP, hE⟩
    ·
     intro σ L W' hall hC hRR
     obtain ⟨hB, hx, hz, ho, hq, hy, hM, hbc, hP, hE⟩ := hC
     obtain ⟨g16, e16, hg17, s17⟩ := dE hRR 17 rfl
     clear hRR hbc
     simp only [lexAll]
     go_simp
     go_step
     cases hpt : putB h.at_
     ·
      have s17b : BoxAt W' g16 #[.int .i64 (i : Int), .bool false, .int .i64 q.2.1.v, .int .i64 q.2.1.re, .int .i64 bz, .int .i64 (newC c i i).ck] 32 := by rw [← hpt]; exact s17
      have HEV := Lib.hid (show (evt (i : Int) i h q.2.1 (goC c i)).cs = [.int .i64 (i : Int), .bool false, .int .i64 q.2.1.v, .int .i64 q.2.1.re, .int .i64 bz, .int .i64 (newC c i i).ck] by unfold evt Ev.cs; rw [hpt, HBZ.out]; rfl)
      have kv := s17b.cell
      have fv := s17b.frozen
      have kq := hq.cell
      go_upto_region 24 with fail
      clear kv fv kq hpt s17
      refine wp_abs (fun W => Below w.heap.size w W ∧ BoxAt W w.heap.size #[.int .i64 c.st.rd, .int .i64 c.st.mo, .slice sA mS kS, .int .i64 c.st.fi, .int .i64 c.st.la, .slice (some ⟨gh, 0, none⟩) n kH, .slice jA n kJ, .slice bA n kB, .int .i64 c.ck, .slice eA mE kE] 68 ∧ BoxAt W (w.heap.size + 1) #[.int .i64 0, .int .i64 0, .slice none 0 0, .int .i64 0, .int .i64 0, .slice none 0 0, .slice none 0 0, .slice none 0 0, .int .i64 0, .slice none 0 0] 68 ∧ BoxAt W O #[.int .i64 ((newC c i i).st.rd), .int .i64 ((newC c i i).st.mo), .slice A5 n5 c5, .int .i64 ((newC c i i).st.fi), .int .i64 ((newC c i i).st.la), .slice (some ⟨gH, 0, none⟩) n cH, .slice oJ n cJ, .slice (some ⟨gB, 0, none⟩) n cB, .int .i64 ((newC c i i).ck), .slice oE mE cE] 68 ∧ BoxAt W g16 #[.int .i64 (i : Int), .bool false, .int .i64 q.2.1.v, .int .i64 q.2.1.re, .int .i64 bz, .int .i64 (newC c i i).ck] 32 ∧ CrP Q W (newC c i i) (⟨⟨A5, n5, c5⟩, ⟨some ⟨gH, 0, none⟩, n, cH⟩, ⟨oJ, n, cJ⟩, ⟨some ⟨gB, 0, none⟩, n, cB⟩, ⟨oE, mE, cE⟩⟩ : CrL) ∧ EvsW Q O W oE mE cE c.es ∧ M ≤ W.heap.size) ⟨hB, hx, hz, ho, s17b, hP, hE, hM⟩ ?_
      clear hB hx hz ho hq hy hP hE hM s17b
      rintro W8 ⟨hB, hx, hz, ho, hev, hP, hE, hM⟩
      have ko := ho.cell
      have fo := ho.frozen
      have kv := hev.cell
      have hEo := SlW.own hE Ev.cs_len
      have hBs := hB.size
      go_wp2_with (at_builtin; go_must (refine wpList_append_own_at _ rfl (.tmp 130) (.tmp 132) _ rfl Q 32 iE _ 6 48 Tryz.underlying24 EI.out EZ0.out EZ1.out EZ2.out rfl (by omega) (.slice oE mE cE) mE _ rfl (hEo.alloc _) ⟨W8.heap.size, 0, none⟩ 1 1 [.int .i64 (i : Int), .bool false, .int .i64 q.2.1.v, .int .i64 q.2.1.re, .int .i64 bz, .int .i64 (newC c i i).ck] rfl rfl (news_alloc _ _ _) (by intro u hu; simp at hu; rcases hu with rfl | rfl | rfl | rfl | rfl | rfl <;> rfl) (by unfold maxLen; omega) (by omega) (by simp; omega) ?_; intro v' w' hO' hg' hz' hat'; clear hz' hat' ko fo kv; obtain ⟨g', cap', rfl, hP'⟩ := Own.of_row (f := Ev.cs) (l := c.es ++ [evt (i : Int) i h q.2.1 (goC c i)]) (n := mE + 1) (by rw [List.flatMap_append]; simp only [List.flatMap_cons, List.flatMap_nil, List.append_nil, HEV.out]; exact hO') (by simp [E5.out]) (by omega); have hB' := Below.grown (hB.alloc (by omega) _) hg' (by simp; omega) (fun k hk => by have := (hEo.lt k hk).1; omega); have kT : ∀ T, 32 ≠ T → KeepT T W8 w' := fun T hT => (KeepT.alloc W8 _).trans (KeepT.grown (hEo.alloc _) hg' hT); have hz8 : W8.heap.size ≤ w'.heap.size := (by have := hg'.size; simp at this; omega); have ho' := ho.keepT (kT _ (by decide)); have hx' := hx.keepT (kT _ (by decide)); have hz' := hz.keepT (kT _ (by decide)); have ko := ho'.cell; have fo := ho'.frozen))
      exact zcrewF2
     ·
      have s17b : BoxAt W' g16 #[.int .i64 (i : Int), .bool true, .int .i64 q.2.1.v, .int .i64 q.2.1.re, .int .i64 bz, .int .i64 (newC c i i).ck] 32 := by rw [← hpt]; exact s17
      have HEV := Lib.hid (show (evt (i : Int) i h q.2.1 (goC c i)).cs = [.int .i64 (i : Int), .bool true, .int .i64 h.v, .int .i64 q.2.1.re, .int .i64 bz, .int .i64 (newC c i i).ck] by unfold evt Ev.cs; rw [hpt, HBZ.out]; rfl)
      have kv := s17b.cell
      have fv := s17b.frozen
      have kq := hq.cell
      go_upto_region 24 with fail
      clear kv fv kq hpt s17
      refine wp_abs (fun W => Below w.heap.size w W ∧ BoxAt W w.heap.size #[.int .i64 c.st.rd, .int .i64 c.st.mo, .slice sA mS kS, .int .i64 c.st.fi, .int .i64 c.st.la, .slice (some ⟨gh, 0, none⟩) n kH, .slice jA n kJ, .slice bA n kB, .int .i64 c.ck, .slice eA mE kE] 68 ∧ BoxAt W (w.heap.size + 1) #[.int .i64 0, .int .i64 0, .slice none 0 0, .int .i64 0, .int .i64 0, .slice none 0 0, .slice none 0 0, .slice none 0 0, .int .i64 0, .slice none 0 0] 68 ∧ BoxAt W O #[.int .i64 ((newC c i i).st.rd), .int .i64 ((newC c i i).st.mo), .slice A5 n5 c5, .int .i64 ((newC c i i).st.fi), .int .i64 ((newC c i i).st.la), .slice (some ⟨gH, 0, none⟩) n cH, .slice oJ n cJ, .slice (some ⟨gB, 0, none⟩) n cB, .int .i64 ((newC c i i).ck), .slice oE mE cE] 68 ∧ BoxAt W g16 #[.int .i64 (i : Int), .bool true, .int .i64 h.v, .int .i64 q.2.1.re, .int .i64 bz, .int .i64 (newC c i i).ck] 32 ∧ CrP Q W (newC c i i) (⟨⟨A5, n5, c5⟩, ⟨some ⟨gH, 0, none⟩, n, cH⟩, ⟨oJ, n, cJ⟩, ⟨some ⟨gB, 0, none⟩, n, cB⟩, ⟨oE, mE, cE⟩⟩ : CrL) ∧ EvsW Q O W oE mE cE c.es ∧ M ≤ W.heap.size) ⟨sc hB, hx.sn, hz.sn, ho.sn, by simpa using s17b.set 2 (.int .i64 h.v), CrP.setsE hP s17b [.int .i64 h.v] 2, SlW.st hE (.inr (by omega)) 2 _, by simpa using hM⟩ ?_
      clear hB hx hz ho hq hy hP hE hM s17b
      rintro W8 ⟨hB, hx, hz, ho, hev, hP, hE, hM⟩
      have ko := ho.cell
      have fo := ho.frozen
      have kv := hev.cell
      have hEo := SlW.own hE Ev.cs_len
      have hBs := hB.size
      go_wp2_with (at_builtin; go_must (refine wpList_append_own_at _ rfl (.tmp 130) (.tmp 132) _ rfl Q 32 iE _ 6 48 Tryz.underlying24 EI.out EZ0.out EZ1.out EZ2.out rfl (by omega) (.slice oE mE cE) mE _ rfl (hEo.alloc _) ⟨W8.heap.size, 0, none⟩ 1 1 [.int .i64 (i : Int), .bool true, .int .i64 h.v, .int .i64 q.2.1.re, .int .i64 bz, .int .i64 (newC c i i).ck] rfl rfl (news_alloc _ _ _) (by intro u hu; simp at hu; rcases hu with rfl | rfl | rfl | rfl | rfl | rfl <;> rfl) (by unfold maxLen; omega) (by omega) (by simp; omega) ?_; intro v' w' hO' hg' hz' hat'; clear hz' hat' ko fo kv; obtain ⟨g', cap', rfl, hP'⟩ := Own.of_row (f := Ev.cs) (l := c.es ++ [evt (i : Int) i h q.2.1 (goC c i)]) (n := mE + 1) (by rw [List.flatMap_append]; simp only [List.flatMap_cons, List.flatMap_nil, List.append_nil, HEV.out]; exact hO') (by simp [E5.out]) (by omega); have hB' := Below.grown (hB.alloc (by omega) _) hg' (by simp; omega) (fun k hk => by have := (hEo.lt k hk).1; omega); have kT : ∀ T, 32 ≠ T → KeepT T W8 w' := fun T hT => (KeepT.alloc W8 _).trans (KeepT.grown (hEo.alloc _) hg' hT); have hz8 : W8.heap.size ≤ w'.heap.size := (by have := hg'.size; simp at this; omega); have ho' := ho.keepT (kT _ (by decide)); have hx' := hx.keepT (kT _ (by decide)); have hz' := hz.keepT (kT _ (by decide)); have ko := ho'.cell; have fo := ho'.frozen))
      exact zcrewF2
  case rest =>
   clear hB hx hz ho hq hy hP hE ky hO7
   obtain ⟨A8, n8, c8, hB, hx, hz, ho, hC⟩ := hcut
   have HFIT := Lib.hid (newC_fit HNT.out (i : Int) i (by rw [← HGH.out]; exact stOk_neat (stepped_ok (by rw [HQ5.out]; exact HQB.out))))
   have ko := ho.cell
   have hO8 := ho.lt
   go_wp2_with fail
   clear ko
   refine (screwOk_any (newC c i i) (⟨⟨A5, n5, c5⟩, ⟨some ⟨gH, 0, none⟩, n, cH⟩, ⟨oJ, n, cJ⟩, ⟨oB, n, cB⟩, ⟨A8, n8, c8⟩⟩ : CrL) Q _ _ hC (Nat.le_refl _) HFIT.out).mono ?_
   rintro e w8 ⟨rfl, hb8⟩
   have h78 := hb8.size
   replace hC := hC.below hb8 (Nat.le_refl _)
   replace hx := hx.below hb8 hx.lt
   replace hz := hz.below hb8 hz.lt
   replace ho := ho.below hb8 ho.lt
   replace hB := bstep hB hB.size hb8
   clear hb8
   cases hcr : crOk (newC c i i)
   ·
    have HV := Lib.hid (show turnS c (i : Int) = (c, false) by exact turnS_no3 HIN.out HRS.out (by rw [← HGH.out, HQ5.out]; exact HQB.out) hcr)
    have kx := hx.cell
    go_wp2_with fail
    clear kx
    refine (l10Copy_any c (⟨⟨sA, mS, kS⟩, ⟨some ⟨gh, 0, none⟩, n, kH⟩, ⟨jA, n, kJ⟩, ⟨bA, n, kB⟩, ⟨eA, mE, kE⟩⟩ : CrL) lo hi _ (hW0.below hB hh) (Nat.le_trans hh hB.size) HNT.out).mono ?_
    exact zcrewF1
   ·
    have HV := Lib.hid (show turnS c (i : Int) = (newC c i i, true) from turnS_yes HIN.out HRS.out (by rw [← HGH.out, HQ5.out]; exact HQB.out) hcr)
    clear hcr
    have ko := ho.cell
    have kz := hz.cell
    have fz := hz.frozen
    go_wp2
    refine bodyPost_ret (v := .tuple #[crV (newC c i i) (⟨⟨A5, n5, c5⟩, ⟨some ⟨gH, 0, none⟩, n, cH⟩, ⟨oJ, n, cJ⟩, ⟨oB, n, cB⟩, ⟨A8, n8, c8⟩⟩ : CrL), .bool true]) (by simp [results, Tryz.results60, go_sem, kz, crV]) rfl ⟨(⟨⟨A5, n5, c5⟩, ⟨some ⟨gH, 0, none⟩, n, cH⟩, ⟨oJ, n, cJ⟩, ⟨oB, n, cB⟩, ⟨A8, n8, c8⟩⟩ : CrL), by rw [HV.out], ?_, ?_⟩
    ·
     rw [HV.out]
     exact (CrW.sts hC (.inl (by omega)) (crCs (newC c i i) (⟨⟨A5, n5, c5⟩, ⟨some ⟨gH, 0, none⟩, n, cH⟩, ⟨oJ, n, cJ⟩, ⟨oB, n, cB⟩, ⟨A8, n8, c8⟩⟩ : CrL)) 0).mono (by omega) (by simp; omega)
    · exact Below.setCells (by omega) (crCs (newC c i i) (⟨⟨A5, n5, c5⟩, ⟨some ⟨gH, 0, none⟩, n, cH⟩, ⟨oJ, n, cJ⟩, ⟨oB, n, cB⟩, ⟨A8, n8, c8⟩⟩ : CrL)) 0 hB

end Go.Proofs.YtiiaimjlohpemaaGreat

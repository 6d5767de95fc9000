/-
  The program's orders: as many values come as there are orders.
-/
import Derived.Test.YtdfbbekolcpbmaaOrdF
import Derived.Sort.CutIn
namespace Go.Proofs.Ytdfbbekolcpbmaa
set_option linter.unusedSimpArgs false
set_option linter.unusedVariables false
open Go.RowKit Go.Shelf
set_option linter.unusedVariables false
attribute [local go_sem] Oper.semAt_some
attribute [local go_sem ↓] Go.wp_at_zero Go.wp_at_succ

def OrdPost (X N : Nat) (J Jx : List Value → World → Prop) (W : World) (e : Ending) (W' : World) : Prop :=
  (∃ v, e = .returned v) ∧ KpO X W.heap.size W W' ∧ ((∃ xs, xs.length = N ∧ J xs W') ∨ (∃ pre, pre.length ≤ N ∧ Jx pre W'))

/-- What is there when the closure is called: the two captured variables, and what they hold. -/
structure OrdAt (X Bl Br : Nat) (left : List Ev) (A : Option Addr) (n cap lo hi : Nat) (line : List Int) (A' : Option Addr) (m c lo' hi' : Nat) (W : World) : Prop where
  l : BoxAt W Bl #[.slice A n cap] 25
  r : BoxAt W Br #[.slice A' m c] 32
  L : EvsW lo hi W A n cap left
  R : IntsW lo' hi' W A' m c line
  lX : Bl ≠ X
  rX : Br ≠ X
  LX : X < lo ∨ hi ≤ X
  RX : X < lo' ∨ hi' ≤ X
  hL : hi ≤ W.heap.size
  hR : hi' ≤ W.heap.size
theorem OrdAt.kp {X Bl Br : Nat} {left : List Ev} {A : Option Addr} {n cap lo hi : Nat} {line : List Int} {A' : Option Addr} {m c lo' hi' B : Nat} {W W' : World} (h : OrdAt X Bl Br left A n cap lo hi line A' m c lo' hi' W) (k : KpO X B W W') : OrdAt X Bl Br left A n cap lo hi line A' m c lo' hi' W' :=
  ⟨k.box h.l h.lX, k.box h.r h.rX, k.sl h.L h.LX, k.sl h.R h.RX, h.lX, h.rX, h.LX, h.RX, Nat.le_trans h.hL k.size, Nat.le_trans h.hR k.size⟩
theorem OrdAt.own {X Bl Br : Nat} {left : List Ev} {A : Option Addr} {n cap lo hi : Nat} {line : List Int} {A' : Option Addr} {m c lo' hi' B : Nat} {β : Type} : OwnFrom B (fun (_ : β) W => OrdAt X Bl Br left A n cap lo hi line A' m c lo' hi' W) := fun _ W W' row h hg hr => h.kp (.grown hg (fun r e => (hr r e).2) (Nat.le_refl _))

/-- A function leaves past its marks. -/
theorem leavesM {n : Nat} {P : Program} {fn : Func} {tmps : Array Value} {R : Ending → World → Prop} {M : Nat} (G : World → Prop) (hr : ∀ W, G W → ∃ v, (results fn tmps).run P W = .ok v W ∧ R (.returned v) W)
    (hp : ∀ W D, M ≤ D → G W → W.heap[D]? = some (.deferred (some [])) → G (W.putObj D (.deferred none))) :
    ∀ (Ds : List Nat) (W : World), Ds.Nodup → (∀ D ∈ Ds, M ≤ D ∧ W.heap[D]? = some (.deferred (some []))) → G W →
      LeavesInM Fence.wide n P fn tmps R (Ds.map fun D => { target := .collected D, args := #[] }) .returning W
  | [], W, _, _, h => hr W h
  | D :: Ds, W, hd, hD, h => by
    have h1 := hD D List.mem_cons_self
    refine ⟨by simp, .inl ⟨D, _, rfl, run_takeDeferred h1.2, ?_⟩⟩
    refine leavesM G hr hp Ds _ (List.nodup_cons.1 hd).2 (fun E hE => ?_) (hp W D h1.1 h h1.2)
    have h2 := hD E (List.mem_cons_of_mem _ hE)
    exact ⟨h2.1, (World.putObj_heap_other (fun e => (List.nodup_cons.1 hd).1 (by rw [← e]; exact hE))).trans h2.2⟩

theorem ords_nil {left : List Ev} (h : left.length = 0) : left = [] := List.eq_nil_of_length_eq_zero h

set_option maxRecDepth 100000 in
set_option maxHeartbeats 4000000 in
theorem ords_in : ∀ (k : Nat) (left : List Ev) (line : List Int) (X l Bl Br : Nat) (A : Option Addr) (n cap lo hi : Nat) (A' : Option Addr) (m c lo' hi' : Nat) (J Jx : List Value → World → Prop) (W : World),
    left.length = k → n ≤ 4096 → m ≤ 4096 → X < W.heap.size → OwnFrom W.heap.size J → OwnFrom W.heap.size Jx → OrdAt X Bl Br left A n cap lo hi line A' m c lo' hi' W →
    (∀ pre x W1, J pre W1 → pre.length < cntO k left line → YieldAt Fence.wide 0 Try.prog l #[x] W1 fun e W' =>
      (e = .returned (.bool true) ∧ J (pre ++ [x]) W' ∧ KpO X W.heap.size W1 W') ∨ (e = .returned (.bool false) ∧ Jx (pre ++ [x]) W' ∧ KpO X W.heap.size W1 W')) →
    J [] W → CallsIn Fence.wide 0 Try.prog 31 #[.func (.yield l) #[] #[], .pointer (some ⟨Bl, 0, none⟩), .pointer (some ⟨Br, 0, none⟩)] W (OrdPost X (cntO k left line) J Jx W) := by
  intro k
  induction k with
  | zero =>
    intro left line X l Bl Br A n cap lo hi A' m c lo' hi' J Jx W hlen hn hm hX hJ hJx hat hY h0
    have hn0 : n = 0 := by have := hat.L.1; omega
    subst hn0
    refine callsIn_of_wp_marks Try.func31 rfl trivial ?_ rfl
    simp only [Try.ntmps31, List.size_toArray, List.length_cons, List.length_nil, Nat.reduceAdd, Nat.reduceSub, Array.replicate_succ, Array.replicate_zero, List.push_toArray, List.append_toArray, List.nil_append, List.cons_append]
    have kk : KpO X W.heap.size W (W.alloc (.cells #[.func (.yield l) #[] #[]] 49)) := .below ((Below.refl _ _).alloc (Nat.le_refl _) _)
    have ha := hat.kp kk
    have k1 := ha.l.cell
    have k2 := ha.r.cell
    have hj := OwnFrom.below_ hJ h0 ((Below.refl W.heap.size W).alloc (Nat.le_refl _) (.cells #[.func (.yield l) #[] #[]] 49))
    obtain ⟨fn, tmps, assign, body, hy, hRd⟩ := hY [] (.slice A' m c) _ hj (by simp [cntO])
    replace hRd := RoundIn.wide0 (m := 0) hRd
    gi_wp2
    refine ⟨rfl, hRd.mono ?_⟩
    rintro e W3 (⟨rfl, hJ3, hk3⟩ | ⟨rfl, hJx3, hk3⟩)
    · gi_wp2
      refine ⟨_, results_none rfl _ _ _, ⟨_, rfl⟩, kk.trans hk3, .inl ⟨_, rfl, hJ3⟩⟩
    · gi_wp2
      refine ⟨_, results_none rfl _ _ _, ⟨_, rfl⟩, kk.trans hk3, .inr ⟨_, Nat.le_refl _, hJx3⟩⟩
  | succ k ih =>
    intro left line X l Bl Br A n cap lo hi A' m c lo' hi' J Jx W hlen hn hm hX hJ hJx hat hY h0
    have hn1 : left.length = n := hat.L.1
    have hpos : 0 < n := by omega
    refine callsIn_of_wp_marks Try.func31 rfl trivial ?_ rfl
    simp only [Try.ntmps31, List.size_toArray, List.length_cons, List.length_nil, Nat.reduceAdd, Nat.reduceSub, Array.replicate_succ, Array.replicate_zero, List.push_toArray, List.append_toArray, List.nil_append, List.cons_append]
    gi_upto_region 1 with fail
    have kk : KpO X W.heap.size W (W.alloc (.cells #[.func (.yield l) #[] #[]] 49)) := .below ((Below.refl _ _).alloc (Nat.le_refl _) _)
    have hat1 := hat.kp kk
    have hj1 := OwnFrom.below_ hJ h0 ((Below.refl W.heap.size W).alloc (Nat.le_refl _) (.cells #[.func (.yield l) #[] #[]] 49))
    have hy1 : BoxAt (W.alloc (.cells #[.func (.yield l) #[] #[]] 49)) W.heap.size #[.func (.yield l) #[] #[]] 49 := .new _ _ _
    clear h0 hat
    obtain ⟨W1, hW1⟩ : ∃ W1, W.alloc (.cells #[.func (.yield l) #[] #[]] 49) = W1 := ⟨_, rfl⟩
    rw [hW1] at kk hat1 hj1 hy1 ⊢
    clear hW1
    have k1 := hat1.l.cell
    have g0 : ¬ (n : Int) = 0 := by omega
    gi_wp2
    obtain ⟨b11, hb11⟩ : ∃ b11, Value.bool ((n : Int) == 0) = b11 := ⟨_, rfl⟩
    rw [hb11]
    clear hb11 k1
    refine wpIn_loop (fun a wr => ∃ (i : Nat) (pre : List Value) (Ds : List Nat) (s4 s5 s6 s7 s8 s18 s19 s20 s21 s22 s23 s24 s25 s26 s27 s28 s29 s30 s31 s32 s33 s34 s35 s36 s37 s38 s39 s40 s41 s42 s43 s44 s45 s46 : Value), a = { tmps := #[.func (.yield l) #[] #[], .pointer (some ⟨Bl, 0, none⟩), .pointer (some ⟨Br, 0, none⟩), .pointer (some ⟨W.heap.size, 0, none⟩), s4, s5, s6, s7, s8, .slice A n cap, .int .i64 (n : Int), b11, undef, undef, undef, .slice A n cap, .int .i64 (n : Int), .int .i64 (i : Int), s18, s19, s20, s21, s22, s23, s24, s25, s26, s27, s28, s29, s30, s31, s32, s33, s34, s35, s36, s37, s38, s39, s40, s41, s42, s43, s44, s45, s46], defers := Ds.map fun D => { target := .collected D, args := #[] } } ∧ i ≤ n ∧ pre.length = sumN (stepN (cntO k) left line) i ∧ J pre wr ∧ KpO X W.heap.size W wr ∧ OrdAt X Bl Br left A n cap lo hi line A' m c lo' hi' wr ∧ BoxAt wr W.heap.size #[.func (.yield l) #[] #[]] 49 ∧ Ds.Nodup ∧ ∀ D ∈ Ds, W.heap.size ≤ D ∧ wr.heap[D]? = some (.deferred (some []))) (fun a _ => n - (intOf (a.tmps.getD 17 undef)).toNat) ?_ ?_
    · exact ⟨0, [], [], _, _, _, _, _, _, _, _, _, _, _, _, _, _, _, _, _, _, _, _, _, _, _, _, _, _, _, _, _, _, _, _, _, _, rfl, Nat.zero_le _, rfl, hj1, kk, hat1, hy1, List.nodup_nil, fun D h => by simp at h⟩
    clear hj1 kk hat1 hy1
    rintro a wr ⟨i, pre, Ds, s4, s5, s6, s7, s8, s18, s19, s20, s21, s22, s23, s24, s25, s26, s27, s28, s29, s30, s31, s32, s33, s34, s35, s36, s37, s38, s39, s40, s41, s42, s43, s44, s45, s46, rfl, hi_, hpl, hj, kk, hat, hy, hnd, hDs⟩
    by_cases hlt : i < n
    · have g1 : (i : Int) < (n : Int) := by omega
      have g2 : (0 : Int) ≤ (i : Int) := by omega
      obtain ⟨b, x, rfl, hlb, hbh, hx, hc⟩ := SlW.at_ hat.L Ev.cs_len hlt
      have c0 := hc 0 _ rfl
      have c1 := hc 1 _ rfl
      have c2 := hc 2 _ rfl
      have c3 := hc 3 _ rfl
      have c4 := hc 4 _ rfl
      have c5 := hc 5 _ rfl
      simp only [Nat.add_zero] at c0
      gi_upto_region 6 with fail
      clear c0 c1 c2 c3 c4 c5 hc
      have ke : KpO X W.heap.size wr (wr.alloc (.cells #[.int .i64 x.who, .bool x.put, .int .i64 x.v, .int .i64 x.re, .int .i64 x.b, .int .i64 x.e] 34)) := .below ((Below.refl _ _).alloc (Nat.le_refl _) _)
      have hbe := (Below.refl wr.heap.size wr).alloc (Nat.le_refl _) (.cells #[.int .i64 x.who, .bool x.put, .int .i64 x.v, .int .i64 x.re, .int .i64 x.b, .int .i64 x.e] 34)
      have hx0 : BoxAt (wr.alloc (.cells #[.int .i64 x.who, .bool x.put, .int .i64 x.v, .int .i64 x.re, .int .i64 x.b, .int .i64 x.e] 34)) wr.heap.size #[.int .i64 x.who, .bool x.put, .int .i64 x.v, .int .i64 x.re, .int .i64 x.b, .int .i64 x.e] 34 := .new _ _ _
      replace hj := OwnFrom.below_ (OwnFrom.up hJ (B' := wr.heap.size) kk.size) hj hbe
      replace hDs : ∀ D ∈ Ds, W.heap.size ≤ D ∧ (wr.alloc (.cells #[.int .i64 x.who, .bool x.put, .int .i64 x.v, .int .i64 x.re, .int .i64 x.b, .int .i64 x.e] 34)).heap[D]? = some (.deferred (some [])) := fun D hD => ⟨(hDs D hD).1, (hbe.block D (lt_of_some (hDs D hD).2)).trans (hDs D hD).2⟩
      replace hat := hat.kp ke
      replace hy := hy.below hbe hy.lt
      have hWr := kk.size
      replace kk := kk.trans ke
      obtain ⟨E, hE⟩ : ∃ E, wr.heap.size = E := ⟨_, rfl⟩
      obtain ⟨w1, hw1⟩ : ∃ w1, wr.alloc (.cells #[.int .i64 x.who, .bool x.put, .int .i64 x.v, .int .i64 x.re, .int .i64 x.b, .int .i64 x.e] 34) = w1 := ⟨_, rfl⟩
      rw [hw1] at ke hbe hx0 hj hDs hat hy kk ⊢
      rw [hE] at hx0 hWr ⊢
      clear hw1 ke hbe hE
      have HX := Lib.hid hx
      clear hx
      have kr := hat.r.cell
      have kx := hx0.cell
      have hm1 : m ≤ 1048576 := by omega
      gi_wp2_with fail
      refine ⟨trivial, rfl, (callsIn_wide.2 (iexplains_any line x A' m c lo' hi' w1 hat.R hat.hR hm1)).mono ?_⟩
      obtain ⟨th, is, hq⟩ : ∃ th is, explains line x = (th, is) := ⟨_, _, rfl⟩
      have HQ := Lib.hid hq
      rw [hq]
      clear hq kr kx
      rintro e w2 ⟨A1, c1, rfl, hT, hb2⟩
      simp only at hT
      have keep : ∀ {u v : World}, Below u.heap.size u v → W.heap.size ≤ u.heap.size → J pre u → (∀ D ∈ Ds, W.heap.size ≤ D ∧ u.heap[D]? = some (.deferred (some []))) → J pre v ∧ ∀ D ∈ Ds, W.heap.size ≤ D ∧ v.heap[D]? = some (.deferred (some [])) := fun hb hs hj hd =>
        ⟨OwnFrom.below_ (OwnFrom.up hJ hs) hj hb, fun D hD => ⟨(hd D hD).1, (hb.block D (lt_of_some (hd D hD).2)).trans (hd D hD).2⟩⟩
      obtain ⟨hj2, hD2⟩ := keep hb2 kk.size hj hDs
      have hat2 := hat.kp (.below (B := W.heap.size) hb2)
      have hy2 := hy.below hb2 hy.lt
      have hx2 := hx0.below hb2 hx0.lt
      have kk2 := kk.trans (.below hb2)
      have hXT : X < w1.heap.size := by have := kk.size; omega
      have hs12 := hb2.size
      clear hj hDs hat hy hx0 kk hb2
      have goes : ∀ (w' : World) (s4 s5 s6 s7 s8 s18 s19 s20 s21 s22 s23 s24 s25 s26 s27 s28 s29 s30 s31 s32 s33 s34 s35 s36 s37 s38 s39 s40 s41 s42 s43 s44 s45 s46 : Value), J pre w' → (∀ D ∈ Ds, W.heap.size ≤ D ∧ w'.heap[D]? = some (.deferred (some []))) → KpO X W.heap.size W w' → OrdAt X Bl Br left (some ⟨b, 0, none⟩) n cap lo hi line A' m c lo' hi' w' → BoxAt w' W.heap.size #[.func (.yield l) #[] #[]] 49 → stepN (cntO k) left line i = 0 → True := fun _ _ _ _ _ _ _ _ _ _ _ _ _ _ _ _ _ _ _ _ _ _ _ _ _ _ _ _ _ _ _ _ _ _ _ _ _ _ _ _ _ => trivial
      clear goes
      cases is
      · have hs0 : stepN (cntO k) left line i = 0 := by rw [stepN_at HX.out, HQ.out]; rfl
        have HS := Lib.hid hs0; clear hs0
        gi_wp2
        refine ⟨trivial, ?_⟩
        gi_wp2
        refine ⟨⟨i + 1, pre, Ds, _, _, _, _, _, _, _, _, _, _, _, _, _, _, _, _, _, _, _, _, _, _, _, _, _, _, _, _, _, _, _, _, _, _, rfl, by omega, (by rw [hpl]; show _ = sumN _ i + _; rw [HS.out]; rfl), hj2, kk2, hat2, hy2, hnd, hD2⟩, ?_⟩
        simp [intOf]
        omega
      · have kl := hat2.l.cell
        have kx := hx2.cell
        have hn2 : n ≤ 1048576 := by omega
        gi_wp2_with fail
        refine ⟨trivial, rfl, (callsIn_wide.2 (mayBeNext_any left x _ n cap w2 (EvsW.r hat2.L) hn2)).mono ?_⟩
        clear kl kx
        rintro e w3 ⟨rfl, hb3⟩
        replace hT := SlW.below hT hb3 (Nat.le_refl _)
        have hs23 := hb3.size
        obtain ⟨hj3, hD3⟩ := keep hb3 kk2.size hj2 hD2
        have hat3 := hat2.kp (.below (B := W.heap.size) hb3)
        have hy3 := hy2.below hb3 hy2.lt
        have hx3 := hx2.below hb3 hx2.lt
        have kk3 := kk2.trans (.below hb3)
        clear hj2 hD2 hat2 hy2 hx2 kk2
        clear hb3
        cases hnx : nextB left x
        · have hs0 : stepN (cntO k) left line i = 0 := by rw [stepN_at HX.out, HQ.out, hnx]; rfl
          have HS := Lib.hid hs0; clear hs0 hnx
          gi_wp2
          refine ⟨⟨i + 1, pre, Ds, _, _, _, _, _, _, _, _, _, _, _, _, _, _, _, _, _, _, _, _, _, _, _, _, _, _, _, _, _, _, _, _, _, _, rfl, by omega, (by rw [hpl]; show _ = sumN _ i + _; rw [HS.out]; rfl), hj3, kk3, hat3, hy3, hnd, hD3⟩, ?_⟩
          simp [intOf]
          omega
        · have hs0 : stepN (cntO k) left line i = cntO k (left.eraseIdx i) th := by rw [stepN_at HX.out, HQ.out, hnx]; rfl
          have HS := Lib.hid hs0; clear hs0 hnx
          have hth : th.length ≤ 41 := by have := ex_small (l := line) (x := x) (by rw [HQ.out]); rw [HQ.out] at this; exact this
          have kl := hat3.l.cell
          gi_wp2_with fail
          refine ⟨trivial, rfl, (callsIn_wide.2 (without_any left _ n cap i lo hi w3 hat3.L hat3.hL hlt hn)).mono ?_⟩
          clear kl
          rintro e w4 ⟨A2, c2, rfl, hE2, hb4⟩
          replace hT := SlW.below hT hb4 hs23
          have hs34 := hb4.size
          obtain ⟨hj4, hD4⟩ := keep hb4 kk3.size hj3 hD3
          have hat4 := hat3.kp (.below (B := W.heap.size) hb4)
          have hy4 := hy3.below hb4 hy3.lt
          have hx4 := hx3.below hb4 hx3.lt
          have kk4 := kk3.trans (.below hb4)
          clear hj3 hD3 hat3 hy3 hx3 kk3
          clear hb4
          gi_wp2_with fail
          refine ⟨trivial, rfl, (callsIn_wide.2 (ordersFrom_any A2 A1 (n - 1) c2 th.length c1 w4)).mono ?_⟩
          rintro e w5 ⟨rfl, hw5⟩
          have hb5 : Below w4.heap.size w4 w5 := by rw [hw5]; exact ((Below.refl _ _).alloc (Nat.le_refl _) _).alloc (by simp) _
          have hs5 : w5.heap.size = w4.heap.size + 2 := by rw [hw5]; simp
          have hat6 : OrdAt X (w4.heap.size + 1) w4.heap.size (left.eraseIdx i) A2 (n - 1) c2 w3.heap.size w4.heap.size th A1 th.length c1 w1.heap.size w2.heap.size w5 := by
            have h1 : BoxAt w5 (w4.heap.size + 1) #[.slice A2 (n - 1) c2] 25 := by rw [hw5]; exact BoxAt.new' (by simp)
            have h2 : BoxAt w5 w4.heap.size #[.slice A1 th.length c1] 32 := by rw [hw5]; exact (BoxAt.new _ _ _).alloc _
            exact ⟨h1, h2, hE2.below hb5 (Nat.le_refl _), SlW.below hT hb5 (by omega), by omega, by omega, .inl (by omega), .inl (by omega), by omega, by omega⟩
          obtain ⟨hj5, hD5⟩ := keep hb5 kk4.size hj4 hD4
          have hat5 := hat4.kp (.below (B := W.heap.size) hb5)
          have hy5 := hy4.below hb5 hy4.lt
          have hx5 := hx4.below hb5 hx4.lt
          have kk5 := kk4.trans (.below hb5)
          clear hj4 hD4 hat4 hy4 hx4 kk4
          clear hb5 hE2 hT hw5
          obtain ⟨P, hP⟩ : ∃ P, w4.heap.size = P := ⟨_, rfl⟩
          rw [hP] at hat6 hs5 hs34 ⊢
          clear hP hs34
          gi_wp2_with fail
          have hDlt : ∀ D ∈ Ds, D < w5.heap.size := fun D hD => lt_of_some (hD5 D hD).2
          have hkl : (left.eraseIdx i).length = k := by rw [List.length_eraseIdx]; simp [hlen]; omega
          have hX5 : X < w5.heap.size := by have := kk5.size; omega
          have hsum : sumN (stepN (cntO k) left line) i + cntO k (left.eraseIdx i) th ≤ cntO (k + 1) left line := by
            have h1 := sumN_mono (f := stepN (cntO k) left line) (show i + 1 ≤ left.length by omega)
            have h2 : sumN (stepN (cntO k) left line) (i + 1) = sumN (stepN (cntO k) left line) i + stepN (cntO k) left line i := rfl
            rw [h2, HS.out] at h1
            exact h1
          have hseq : OrdSeq Try.prog X (cntO k (left.eraseIdx i) th) 31 #[.pointer (some ⟨P + 1, 0, none⟩), .pointer (some ⟨P, 0, none⟩)] w5 := fun l' J' Jx' W' hW' hJ' hJx' hY' h0' =>
            ih (left.eraseIdx i) th X l' _ _ A2 (n - 1) c2 _ _ A1 th.length c1 _ _ J' Jx' W' hkl (by omega) (by omega) (Nat.lt_of_lt_of_le hX5 hW'.size) hJ' hJx' (hat6.kp (.below (B := 0) hW')) hY' h0'
          refine wpIn_ord rfl (enters_of Try.func31 (by kernel_rfl) rfl) hseq
            (fun ys Wy => (J (pre ++ ys) Wy ∧ KpO X W.heap.size W Wy) ∧ OrdAt X Bl Br left (some ⟨b, 0, none⟩) n cap lo hi line A' m c lo' hi' Wy ∧ BoxAt Wy W.heap.size #[.func (.yield l) #[] #[]] 49 ∧ ∀ D ∈ Ds, Wy.heap[D]? = some (.deferred (some [])))
            (fun ys Wy => (Jx (pre ++ ys) Wy ∧ KpO X W.heap.size W Wy) ∧ ∀ D ∈ Ds, Wy.heap[D]? = some (.deferred (some [])))
            (OwnFrom.and (OwnFrom.and (fun s A B row h hg hr => OwnFrom.up hJ kk5.size (pre ++ s) A B row h hg hr) (KpO.own_ kk5.size)) (OwnFrom.and OrdAt.own (OwnFrom.and box_own (marks_own hDlt))))
            (OwnFrom.and (OwnFrom.and (fun s A B row h hg hr => OwnFrom.up hJx kk5.size (pre ++ s) A B row h hg hr) (KpO.own_ kk5.size)) (marks_own hDlt))
            ⟨⟨by rw [List.append_nil]; exact hj5, kk5⟩, hat5, hy5, fun D hD => (hD5 D hD).2⟩ (fun y => { tmps := #[.func (.yield l) #[] #[], .pointer (some ⟨Bl, 0, none⟩), .pointer (some ⟨Br, 0, none⟩), .pointer (some ⟨W.heap.size, 0, none⟩), .int .i64 (i : Int), .pointer (some ⟨E, 0, none⟩), .slice A1 th.length c1, .bool true, y, .slice (some ⟨b, 0, none⟩) n cap, .int .i64 (n : Int), b11, undef, undef, undef, .slice (some ⟨b, 0, none⟩) n cap, .int .i64 (n : Int), .int .i64 (i : Int), .bool true, .int .i64 (i : Int), .pointer (some ⟨b, i * 6, none⟩), .agg #[.int .i64 x.who, .bool x.put, .int .i64 x.v, .int .i64 x.re, .int .i64 x.b, .int .i64 x.e], .tuple #[.slice A1 th.length c1, .bool true], .slice A' m c, .agg #[.int .i64 x.who, .bool x.put, .int .i64 x.v, .int .i64 x.re, .int .i64 x.b, .int .i64 x.e], .tuple #[.slice A1 th.length c1, .bool true], .slice A1 th.length c1, .bool true, .bool true, .bool false, .bool false, .slice (some ⟨b, 0, none⟩) n cap, .agg #[.int .i64 x.who, .bool x.put, .int .i64 x.v, .int .i64 x.re, .int .i64 x.b, .int .i64 x.e], .bool true, .bool false, .bool false, .slice A1 th.length c1, .slice (some ⟨b, 0, none⟩) n cap, .int .i64 (i : Int), .slice A2 (n - 1) c2, .func (.func 31) #[] #[.pointer (some ⟨P + 1, 0, none⟩), .pointer (some ⟨P, 0, none⟩)], y, s42, s43, s44, s45, s46], defers := [] }) ?assign ?body ?done ?stop
          case assign =>
            intro l' y Wy K hK
            gi_wp2
            exact hK
          case body =>
            rintro l' ys y Wy hsz ⟨⟨hjy, hky⟩, haty, hyy, hdy⟩ hlt2
            have kyc := hyy.cell
            obtain ⟨fn, tmps, assign, body, hrun, hRd⟩ := hY (pre ++ ys) y Wy hjy (by rw [List.length_append, hpl]; omega)
            replace hRd := RoundIn.wideN (m := 0) l' hRd
            gi_wp2
            refine ⟨rfl, hRd.mono ?_⟩
            rintro e W3 (⟨rfl, hJ3, hk3⟩ | ⟨rfl, hJx3, hk3⟩)
            · gi_wp2
              rw [List.append_assoc] at hJ3
              exact ⟨hk3.mono kk5.size, ⟨hJ3, hky.trans hk3⟩, haty.kp hk3, hk3.box hyy (by omega), fun D hD => hk3.same D _ (hdy D hD) (.inr (hD5 D hD).1)⟩
            · gi_wp2
              rw [List.append_assoc] at hJx3
              exact ⟨hk3.mono kk5.size, ⟨hJx3, hky.trans hk3⟩, fun D hD => hk3.same D _ (hdy D hD) (.inr (hD5 D hD).1)⟩
          case done =>
            rintro xs Wd hkd hxl ⟨⟨hjd, hkd2⟩, hatd, hyd, hdd⟩ hdef
            have hnd2 : (w5.heap.size :: Ds).Nodup := List.nodup_cons.2 ⟨fun h => absurd (hDlt _ h) (by omega), hnd⟩
            have hD6 : ∀ D ∈ w5.heap.size :: Ds, W.heap.size ≤ D ∧ Wd.heap[D]? = some (.deferred (some [])) := fun D hD => by
              rcases List.mem_cons.1 hD with rfl | hD
              · exact ⟨kk5.size, hdef⟩
              · exact ⟨(hD5 D hD).1, hdd D hD⟩
            gi_wp2
            refine ⟨⟨i + 1, pre ++ xs, w5.heap.size :: Ds, _, _, _, _, _, _, _, _, _, _, _, _, _, _, _, _, _, _, _, _, _, _, _, _, _, _, _, _, _, _, _, _, _, _, rfl, by omega, (by rw [List.length_append, hpl, hxl, ← HS.out]; rfl), hjd, hkd2, hatd, hyd, hnd2, hD6⟩, ?_⟩
            simp [intOf]
            omega
          case stop =>
            rintro ps Ws hks hpl2 ⟨⟨hjs, hks2⟩, hds⟩ hdef
            have hnd2 : (w5.heap.size :: Ds).Nodup := List.nodup_cons.2 ⟨fun h => absurd (hDlt _ h) (by omega), hnd⟩
            have hD6 : ∀ D ∈ w5.heap.size :: Ds, W.heap.size ≤ D ∧ Ws.heap[D]? = some (.deferred (some [])) := fun D hD => by
              rcases List.mem_cons.1 hD with rfl | hD
              · exact ⟨kk5.size, hdef⟩
              · exact ⟨(hD5 D hD).1, hds D hD⟩
            gi_wp2
            exact leavesM (M := W.heap.size) (fun Wg => KpO X W.heap.size W Wg ∧ Jx (pre ++ ps) Wg) (fun Wg hG => ⟨_, results_none rfl _ _ _, ⟨_, rfl⟩, hG.1, .inr ⟨pre ++ ps, (by rw [List.length_append, hpl]; omega), hG.2⟩⟩) (fun Wg D hD hG hs => ⟨hG.1.putD hD, hJx.putObj _ hG.2 hD hs rfl⟩) (w5.heap.size :: Ds) Ws hnd2 hD6 ⟨hks2, hjs⟩
    · have g1 : ¬ (i : Int) < (n : Int) := by omega
      obtain rfl : i = n := by omega
      gi_wp2
      exact leavesM (M := W.heap.size) (fun Wg => KpO X W.heap.size W Wg ∧ J pre Wg) (fun Wg hG => ⟨_, results_none rfl _ _ _, ⟨_, rfl⟩, hG.1, .inl ⟨pre, (by rw [hpl]; show _ = sumN _ left.length; rw [hn1]), hG.2⟩⟩) (fun Wg D hD hG hs => ⟨hG.1.putD hD, hJ.putObj _ hG.2 hD hs rfl⟩) Ds wr hnd hDs ⟨kk, hj⟩

end Go.Proofs.Ytdfbbekolcpbmaa

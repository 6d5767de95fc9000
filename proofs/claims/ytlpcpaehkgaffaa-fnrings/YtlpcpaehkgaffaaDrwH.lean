/-
  The draws of a store, of a number of places, and of a ring with one parcel.
-/
import Derived.Test.YtlpcpaehkgaffaaDrwC
namespace Go.Proofs.Ytlpcpaehkgaffaa
set_option linter.unusedSimpArgs false
set_option linter.unusedVariables false
open Go.RowKit
set_option linter.unusedVariables false
attribute [local go_sem ↓] Go.wp_at_zero Go.wp_at_succ

/-- A right store is drawn. -/
def DrawsS (k : Nat) (a0 : Option Addr) (len cap : Nat) (w : World) (e : Ending) (w' : World) : Prop :=
  ∃ (s : St) (A : Option Addr) (n c : Nat), e = .returned (stV s A n c) ∧ stOk s = true ∧ RgsW w.heap.size w'.heap.size w' A n c s.rs ∧ But k w w' ∧ CurAt w' k a0 len cap

set_option maxRecDepth 100000 in
set_option maxHeartbeats 2000000 in
theorem l3Draw_any (K0 k : Nat) (a0 : Option Addr) (len cap : Nat) (w : World) (hc : CodeOk K0 w a0 len) (hkk : K0 ≤ k) (hN0 : K0 ≤ w.heap.size) (hcur : CurAt w k a0 len cap) :
    Calls Try.prog 37 #[.pointer (some ⟨k, 0, none⟩)] w (DrawsS k a0 len cap w) := by
  have hkN := hcur.lt
  go_enter Try.func37, Try.ntmps37
  go_wp2_with fail
  refine calls_abs (fun W => But k w W ∧ CurAt W k a0 len cap ∧ BoxAt W w.heap.size #[.int .i64 0, .int .i64 0, .slice none 0 0, .int .i64 0, .int .i64 0] 62) ⟨(But.refl _ _).alloc _, hcur.alloc _, BoxAt.new _ _ _⟩ ?_
  clear hcur
  rintro W0 ⟨hB, hcur, hz⟩
  refine (l10Draw_any K0 k a0 len cap _ (hc.below (hB.below hkk hN0)) hkk (Nat.le_trans hN0 hB.size) hcur).mono ?_
  rintro e w1 ⟨d, y, rfl, hdk, hC, hb1, hcur1⟩
  have lz := hz.lt
  have HDK := Lib.hid hdk; clear hdk
  replace hz := hb1.box hz (by omega)
  have hs1 := hb1.size
  replace hB := hB.trans hb1
  clear hb1 hcur
  replace hC : CrN (w.heap.size + 1) w1 d y := CrW.mono hC (by omega) (Nat.le_refl _)
  obtain ⟨⟨sA, mS, kS⟩, hS, jS, bS, eS⟩ := y
  unfold crV
  dsimp only
  go_upto_region 2 with fail
  refine wp_abs (fun W => But k w W ∧ CurAt W k a0 len cap ∧ BoxAt W w.heap.size #[.int .i64 0, .int .i64 0, .slice none 0 0, .int .i64 0, .int .i64 0] 62 ∧ BoxAt W w1.heap.size #[.int .i64 d.st.rd, .int .i64 d.st.mo, .slice sA mS kS, .int .i64 d.st.fi, .int .i64 d.st.la, .slice hS.A hS.n hS.cap, .slice jS.A jS.n jS.cap, .slice bS.A bS.n bS.cap, .int .i64 d.ck, .slice eS.A eS.n eS.cap] 73 ∧ CrN (w.heap.size + 1) W d (⟨⟨sA, mS, kS⟩, hS, jS, bS, eS⟩ : CrL)) ⟨hB.alloc _, hcur1.alloc _, hz.alloc _, BoxAt.new _ _ _, hC.belowN ((Below.refl _ _).alloc (Nat.le_refl _) _)⟩ ?_
  clear hB hcur1 hz hC
  rintro W5 ⟨hB, hcur, hz, hx, hC⟩
  have kz := hz.cell
  have fz := hz.frozen
  have kx := hx.cell
  go_wp2
  refine bodyPost_ret (v := stV d.st sA mS kS) (by simp [results, Try.results37, go_sem, kz, stV]) rfl ⟨d.st, sA, mS, kS, rfl, (crOk_neat HDK.out).s, ?_, ?_, ?_⟩
  rotate_left
  · exact But.setsNew hB (by omega) [.int .i64 d.st.rd, .int .i64 d.st.mo, .slice sA mS kS, .int .i64 d.st.fi, .int .i64 d.st.la] 0
  · exact CurAt.sets hcur (by omega) [.int .i64 d.st.rd, .int .i64 d.st.mo, .slice sA mS kS, .int .i64 d.st.fi, .int .i64 d.st.la] 0
  have hG : RgsW (w.heap.size + 1) W5.heap.size W5 sA mS kS d.st.rs := hC.s
  exact (RgsW.sts hG (.inl (by omega)) [.int .i64 d.st.rd, .int .i64 d.st.mo, .slice sA mS kS, .int .i64 d.st.fi, .int .i64 d.st.la] 0).cut.mono (by omega) (Nat.le_refl _)

def DrawnI (lo hi : Int) (w : World) (e : Ending) (w' : World) : Prop := ∃ v : Int, e = .returned (.int .i64 v) ∧ (lo ≤ v ∧ v ≤ hi) ∧ Below w.heap.size w w'
def DrawnII (w : World) (e : Ending) (w' : World) : Prop := ∃ n v : Int, e = .returned (.tuple #[.int .i64 n, .int .i64 v]) ∧ (1 ≤ n ∧ n ≤ 9) ∧ (0 ≤ v ∧ v ≤ 1000001) ∧ Below w.heap.size w w'

set_option maxRecDepth 100000 in
set_option maxHeartbeats 1000000 in
theorem drawNewRing_any (a0 : Option Addr) (len cap : Nat) (w : World) (hc : CodeOk w.heap.size w a0 len) :
    Calls Try.prog 5 #[.slice a0 len cap] w (DrawnI 0 10 w) := by
  go_enter Try.func5, Try.ntmps5
  go_wp2_with fail
  refine (l1New_any w.heap.size a0 len cap _ hc).mono ?_
  rintro e w1 ⟨h0, rfl, rfl⟩
  go_wp2_with fail
  refine calls_abs (fun W => Below w.heap.size w W ∧ CurAt W w.heap.size a0 len cap) ⟨(Below.refl _ _).alloc (Nat.le_refl _) _, 0, h0, Nat.zero_le _, BoxAt.new _ _ _⟩ ?_
  rintro W1 ⟨hB, hcur⟩
  refine (l1From_any w.heap.size w.heap.size a0 len cap _ _ _ (hc.below hB) (Nat.le_refl _) hB.size hcur (by omega) (by omega) (by omega)).mono ?_
  rintro e w2 ⟨v, hv, rfl, hb1, hcur1⟩
  go_wp2
  go_ret
  exact ⟨v, rfl, hv, hB.trans (hb1.below (Nat.le_refl _) hB.size)⟩

set_option maxRecDepth 100000 in
set_option maxHeartbeats 600000 in
theorem drawSeeded_any (a0 : Option Addr) (len cap : Nat) (w : World) (hc : CodeOk w.heap.size w a0 len) :
    Calls Try.prog 7 #[.slice a0 len cap] w (DrawnII w) := by
  go_enter Try.func7, Try.ntmps7
  go_wp2_with fail
  refine (l1New_any w.heap.size a0 len cap _ hc).mono ?_
  rintro e w1 ⟨h0, rfl, rfl⟩
  go_wp2_with fail
  refine calls_abs (fun W => Below w.heap.size w W ∧ CurAt W w.heap.size a0 len cap) ⟨(Below.refl _ _).alloc (Nat.le_refl _) _, 0, h0, Nat.zero_le _, BoxAt.new _ _ _⟩ ?_
  rintro W1 ⟨hB, hcur⟩
  refine (l1From_any w.heap.size w.heap.size a0 len cap _ _ _ (hc.below hB) (Nat.le_refl _) hB.size hcur (by omega) (by omega) (by omega)).mono ?_
  rintro e w2 ⟨n, hn, rfl, hb1, hcur1⟩
  replace hB := hB.trans (hb1.below (Nat.le_refl _) hB.size)
  clear hb1 hcur
  go_wp2_with fail
  refine (l1Below_any w.heap.size w.heap.size a0 len cap _ _ (hc.below hB) (Nat.le_refl _) hB.size hcur1 (by omega)).mono ?_
  rintro e w3 ⟨u, ⟨u0, u1⟩, rfl, hb1, hcur⟩
  replace hB := hB.trans (hb1.below (Nat.le_refl _) hB.size)
  clear hb1 hcur1
  have wr_ : IntKind.i64.wrap (1 + u) = 1 + u := by rw [IntKind.wrap_i64]; omega
  go_wp2_with fail
  refine (l1Once_any w.heap.size w.heap.size a0 len cap _ _ (hc.below hB) (Nat.le_refl _) hB.size hcur (by omega)).mono ?_
  rintro e w4 ⟨b, rfl, hb1, hcur1⟩
  replace hB := hB.trans (hb1.below (Nat.le_refl _) hB.size)
  clear hb1 hcur
  cases b
  · go_wp2
    exact bodyPost_ret (v := .tuple #[.int .i64 n, .int .i64 (1 + u)]) (by simp [results, Try.results7, go_sem]) rfl ⟨n, 1 + u, rfl, hn, by omega, hB⟩
  · go_wp2_with fail
    refine calls_abs (fun W => Below w.heap.size w W ∧ CurAt W w.heap.size a0 len cap ∧ BoxAt W w4.heap.size #[.int .i64 0, .int .i64 1000000, .int .i64 1000001] 2) ⟨hB.alloc hB.size _, hcur1.alloc _, BoxAt.new _ _ _⟩ ?_
    have lk := hcur1.lt
    clear hB hcur1
    rintro W5 ⟨hB, hcur, hlit⟩
    refine (l1Below_any w.heap.size w.heap.size a0 len cap _ _ (hc.below hB) (Nat.le_refl _) hB.size hcur (by omega)).mono ?_
    rintro e w6 ⟨x, ⟨x0, x1⟩, rfl, hb1, hcur1⟩
    replace hlit := hb1.box hlit (by omega)
    replace hB := hB.trans (hb1.below (Nat.le_refl _) hB.size)
    clear hb1 hcur
    have kl := hlit.cell
    have hx : x = 0 ∨ x = 1 ∨ x = 2 := by omega
    rcases hx with rfl | rfl | rfl
    · go_wp2
      exact bodyPost_ret (v := .tuple #[.int .i64 n, .int .i64 0]) (by simp [results, Try.results7, go_sem]) rfl ⟨n, 0, rfl, hn, by omega, hB⟩
    · go_wp2
      exact bodyPost_ret (v := .tuple #[.int .i64 n, .int .i64 1000000]) (by simp [results, Try.results7, go_sem]) rfl ⟨n, 1000000, rfl, hn, by omega, hB⟩
    · go_wp2
      exact bodyPost_ret (v := .tuple #[.int .i64 n, .int .i64 1000001]) (by simp [results, Try.results7, go_sem]) rfl ⟨n, 1000001, rfl, hn, by omega, hB⟩

end Go.Proofs.Ytlpcpaehkgaffaa

/-
  The draw of any ring.
-/
namespace Go.Proofs.Ytlpcpaehkgaffaa
set_option linter.unusedSimpArgs false
set_option linter.unusedVariables false
open Go.RowKit
set_option linter.unusedVariables false
attribute [local go_sem] OpUpon
attribute [local go_sem ↓] Go.wp_at_zero Go.wp_at_succ

/-- Rings, their rows laid open. -/
def RgsL (lo hi : Nat) (w : World) (b n c : Nat) (rows : List Rw) (L : List Rg) : Prop := RwsO lo w b n c rows ∧ AllIs lo hi w rows L ∧ b < hi
theorem RgsL.keep {lo hi : Nat} {w w' : World} {b n c : Nat} {rows : List Rw} {L : List Rg} (h : RgsL lo hi w b n c rows L) (hs : SameIn lo hi w w') : RgsL lo hi w' b n c rows L :=
  ⟨Own.keep h.1 (hs b h.1.2.1 h.2.2), fun i a ha => by obtain ⟨r, hr, his⟩ := h.2.1 i a ha; exact ⟨r, hr, his.keep hs⟩, h.2.2⟩
theorem RgsL.sts {lo hi : Nat} {w : World} {b n c : Nat} {rows : List Rw} {L : List Rg} (h : RgsL lo hi w b n c rows L) {k : Nat} (hk : k < lo ∨ hi ≤ k) : ∀ (us : List Value) (o : Nat), RgsL lo hi (setCells w k o us) b n c rows L
  | [], _ => h
  | u :: us, o => RgsL.sts (h.keep (.set hk o u)) hk us (o + 1)

/-- A ring is drawn, and its places. -/
def DrawsR (k : Nat) (a0 : Option Addr) (len cap : Nat) (w : World) (e : Ending) (w' : World) : Prop :=
  ∃ (h t : Int) (c : Bool) (x : Int) (pb n cp : Nat) (l : List Pl), e = .returned (rgV h t c x (some ⟨pb, 0, none⟩) n cp) ∧ PlsO w.heap.size w' pb n cp l ∧ n ≤ 8 ∧ But k w w' ∧ CurAt w' k a0 len cap

theorem PlsO.one {N : Nat} {w : World} {g n cap : Nat} {l : List Pl} (h : PlsO N w g n cap l) (hn : 1 ≤ n) : PlsO N w g 1 cap (l.take 1) := by
  obtain ⟨a, b, c, d, cur, hb, hs, ht⟩ := h
  cases l with
  | nil => simp at a; omega
  | cons x r =>
    refine ⟨by simp, b, by omega, d, cur, hb, hs, ?_⟩
    have e : cur.toList.take (1 * 4) = (cur.toList.take (n * 4)).take 4 := by rw [List.take_take]; congr 1; omega
    rw [e, ht]
    simp [Pl.cs]

def drRV (s : St) (N X M2 k b n c : Nat) (rows : List Rw) : List Sl := [.v (.pointer (some ⟨X, 2, none⟩)),
  .v (.slice (some ⟨b, 0, none⟩) n c),
  .v (.pointer (some ⟨k, 0, none⟩)),
  .v (.pointer (some ⟨X, 2, none⟩)),
  .v (.slice (some ⟨b, 0, none⟩) n c),
  .v (.int .i64 ((n : Int))),
  .e fun σ w => ∃ (x6 : Int), σ 6 = .int .i64 x6 ∧ (0 ≤ x6 ∧ x6 < (n : Int)),
  .e fun σ w => ∃ (x6 : Int), σ 7 = .pointer (some ⟨b, x6.toNat * 5, none⟩) ∧ (0 ≤ x6 ∧ x6 < (n : Int)),
  .e fun σ w => ∃ (a8 : Rw), σ 8 = .agg #[.int .i64 a8.h, .int .i64 a8.t, .bool a8.c, .int .i64 a8.x, .slice a8.A a8.n a8.cap] ∧ a8 ∈ rows,
  .e fun σ w => ∃ g9, σ 9 = .pointer (some ⟨g9, 0, none⟩) ∧ M2 ≤ g9 ∧ ∃ x0 x1 x2 x3 x4, BoxAt w g9 #[x0, x1, x2, x3, x4] 27,
  .e fun σ w => ∃ (g9 : Nat) (a8 : Rw), σ 9 = .pointer (some ⟨g9, 0, none⟩) ∧ M2 ≤ g9 ∧ BoxAt w g9 #[.int .i64 a8.h, .int .i64 a8.t, .bool a8.c, .int .i64 a8.x, .slice a8.A a8.n a8.cap] 27 ∧ a8 ∈ rows]

def drPV (N k g4 pb rn rcap : Nat) (rh rt : Int) (rc : Bool) (rx : Int) (ps : List Pl) : List Sl := [.v (.pointer (some ⟨g4, 4, none⟩)),
  .v (.slice (some ⟨pb, 0, none⟩) rn rcap),
  .v (.pointer (some ⟨k, 0, none⟩)),
  .e fun σ w => ∃ (p3 : Pl), σ 3 = .agg #[.bool p3.s, .int .i64 p3.n, .bool p3.f, .int .i64 p3.v] ∧ True,
  .v (.pointer (some ⟨pb, 0, none⟩)),
  .e fun σ w => ∃ (p3 : Pl), PlsO (N + 1) w pb rn rcap (ps.set 0 p3)]

set_option maxRecDepth 100000 in
set_option maxHeartbeats 1000000 in
theorem l2DrawAny_any (K0 k : Nat) (a0 : Option Addr) (len cap : Nat) (w : World) (hc : CodeOk K0 w a0 len) (hkk : K0 ≤ k) (hN0 : K0 ≤ w.heap.size) (hcur : CurAt w k a0 len cap) :
    Calls Try.prog 25 #[.pointer (some ⟨k, 0, none⟩)] w (DrawsR k a0 len cap w) := by
  have hkN := hcur.lt
  go_enter Try.func25, Try.ntmps25
  go_wp2_with fail
  refine calls_abs (fun W => But k w W ∧ CurAt W k a0 len cap ∧ BoxAt W w.heap.size #[.int .i64 0, .int .i64 0, .bool false, .int .i64 0, .slice none 0 0] 27) ⟨(But.refl _ _).alloc _, hcur.alloc _, BoxAt.new _ _ _⟩ ?_
  clear hcur
  rintro W0 ⟨hB, hcur, hz⟩
  refine (l3Draw_any K0 k a0 len cap _ (hc.below (hB.below hkk hN0)) hkk (Nat.le_trans hN0 hB.size) hcur).mono ?_
  rintro e w1 ⟨s, A, n, c, rfl, hok, hG, hb1, hcur1⟩
  have lz := hz.lt
  replace hz := hb1.box hz (by omega)
  have hs1 := hb1.size
  replace hB := hB.trans hb1
  clear hb1 hcur
  have HOK := Lib.hid hok
  have hne := (stOk_neat hok).1
  clear hok
  obtain ⟨b, rows, rfl, hbh, hro, hal⟩ := hG.2 (by have := hG.1; omega)
  have hn1 : 1 ≤ n := by have := hG.1; omega
  have hR : RgsL (w.heap.size + 1) w1.heap.size w1 b n c rows s.rs := ⟨Own.mono hro (by omega), fun i a ha => by obtain ⟨r, hr, his⟩ := hal i a ha; exact ⟨r, hr, his.mono (by omega) (Nat.le_refl _)⟩, hbh⟩
  have hn8 : n ≤ 1048576 := by have := (stOk_neat HOK.out).2.1; have := hG.1; omega
  clear hG hro hal
  unfold stV
  go_upto_region 2 with fail
  refine wp_abs (fun W => But k w W ∧ CurAt W k a0 len cap ∧ BoxAt W w.heap.size #[.int .i64 0, .int .i64 0, .bool false, .int .i64 0, .slice none 0 0] 27 ∧ BoxAt W w1.heap.size #[.int .i64 s.rd, .int .i64 s.mo, .slice (some ⟨b, 0, none⟩) n c, .int .i64 s.fi, .int .i64 s.la] 62 ∧ RgsL (w.heap.size + 1) w1.heap.size W b n c rows s.rs ∧ w1.heap.size < W.heap.size) ⟨hB.alloc _, hcur1.alloc _, hz.alloc _, BoxAt.new _ _ _, hR.keep (.alloc (Nat.le_refl _) _), by simp⟩ ?_
  clear hB hcur1 hz hR
  have hX1 : w.heap.size + 1 ≤ w1.heap.size := by omega
  generalize w1.heap.size = X at *
  rintro W2 ⟨hB, hcur, hz, hx, hR, hXW⟩
  obtain ⟨M2, hMe⟩ : ∃ M2, M2 = W2.heap.size := ⟨_, rfl⟩
  have hM2 : M2 ≤ W2.heap.size := by omega
  have hXM : X < M2 := by omega
  clear hMe hXW
  go_cut [4] (fun u W' => But k w W' ∧ CurAt W' k a0 len cap ∧ BoxAt W' w.heap.size #[.int .i64 0, .int .i64 0, .bool false, .int .i64 0, .slice none 0 0] 27 ∧ BoxAt W' X #[.int .i64 s.rd, .int .i64 s.mo, .slice (some ⟨b, 0, none⟩) n c, .int .i64 s.fi, .int .i64 s.la] 62 ∧ RgsL (w.heap.size + 1) X W' b n c rows s.rs ∧ ∃ (g4 : Nat) (a8 : Rw), M2 ≤ g4 ∧ BoxAt W' g4 #[.int .i64 a8.h, .int .i64 a8.t, .bool a8.c, .int .i64 a8.x, .slice a8.A a8.n a8.cap] 27 ∧ a8 ∈ rows ∧ u = .pointer (some ⟨g4, 0, none⟩))
  case first =>
    refine wp_region2v (fun w w' => But k w w') (fun _ _ h => h.size) (fun _ => But.refl _ _) (fun L W' => But k w W' ∧ CurAt W' k a0 len cap ∧ BoxAt W' w.heap.size #[.int .i64 0, .int .i64 0, .bool false, .int .i64 0, .slice none 0 0] 27 ∧ BoxAt W' X #[.int .i64 s.rd, .int .i64 s.mo, .slice (some ⟨b, 0, none⟩) n c, .int .i64 s.fi, .int .i64 s.la] 62 ∧ RgsL (w.heap.size + 1) X W' b n c rows s.rs ∧ M2 ≤ W'.heap.size) (drRV s w.heap.size X M2 k b n c rows) (fun j => [0, 0, 0, 0, 0, 0, 0, 0, 0, 2, 1].getD j 0) [(10, 9)] (by kernel_rfl) (by kernel_rfl) ?_ ?_ ?_
      (.still rfl ?a0 <| .still rfl ?a1 <| .still rfl ?a2 <| .still rfl ?a3 <| .still rfl ?a4 <| .still rfl ?a5 <| .grow rfl ?a6 <| .still rfl ?a7 <| .grow rfl ?a8 <| .make rfl ?a9 <| .store rfl ?a10 <| .nil) ?_ ?_
    · exact ⟨fun _ _ _ h ⟨x6, e, hp⟩ => ⟨x6, (h 6 (List.mem_singleton.2 rfl)).symm.trans e, hp⟩, fun _ _ _ h ⟨x6, e, hp⟩ => ⟨x6, (h 7 (List.mem_singleton.2 rfl)).symm.trans e, hp⟩, fun _ _ _ h ⟨a8, e, hp⟩ => ⟨a8, (h 8 (List.mem_singleton.2 rfl)).symm.trans e, hp⟩, fun _ _ _ h ⟨g, e, hp⟩ => ⟨g, (h 9 (List.mem_singleton.2 rfl)).symm.trans e, hp⟩, fun _ _ _ h ⟨g, a8, e, hp⟩ => ⟨g, a8, (h 9 (List.mem_singleton.2 rfl)).symm.trans e, hp⟩, trivial⟩
    · exact ⟨fun σ w w' hb ⟨x6, e, hp⟩ => ⟨x6, e, hp⟩, fun σ w w' hb ⟨x6, e, hp⟩ => ⟨x6, e, hp⟩, fun σ w w' hb ⟨a8, e, hp⟩ => ⟨a8, e, hp⟩, fun σ w w' hb ⟨g, e, hg, x0, x1, x2, x3, x4, hx⟩ => ⟨g, e, hg, x0, x1, x2, x3, x4, hb.box hx (by omega)⟩, fun σ w w' hb ⟨g, a8, e, hg, hx, hp⟩ => ⟨g, a8, e, hg, hb.box hx (by omega), hp⟩, trivial⟩
    · exact ⟨hB.drew, hcur, hz, hx, hR, hM2⟩
    case a0 | a2 | a3 | a5 =>
      go_light
      intro L σ W' hcl hL hC hw
      try have e4 := wT hw 4 rfl
      clear hw hcl hL hC
      refine OpGoes.step fun K hK => ?_
      unfold OpGoes
      go_simp
      exact hK _ _ ⟨rfl, rfl⟩
    case a1 | a4 =>
      go_light
      intro L σ W' hcl hL hC hw
      try have e0 := wT hw 0 rfl
      try have e3 := wT hw 3 rfl
      have kx := hC.2.2.2.1.cell
      clear hw hcl hL hC
      refine OpGoes.step fun K hK => ?_
      unfold OpGoes
      go_simp
      exact hK _ _ ⟨rfl, rfl⟩
    case a6 =>
      go_light
      intro L σ W' hcl hL hC hw
      have e2 := wV hw 2 rfl
      have e5 := wV hw 5 rfl
      clear hw
      have HC := Lib.hid hC
      clear hC
      clear hcl hL
      refine OpGoes.step fun K hK => ?_
      unfold OpGoes
      go_simp
      obtain ⟨hB, hcur, hz, hx, hR, hM2⟩ := HC.out
      refine (l1Below_any K0 k a0 len cap _ _ (hc.below (hB.below hkk hN0)) hkk (Nat.le_trans hN0 hB.size) hcur (by omega)).mono ?_
      rintro e w1 ⟨x6, hx6, rfl, hb1, hcur1⟩
      exact ⟨_, rfl, hK _ _ ⟨⟨hB.trans hb1, hcur1, hb1.box hz (by omega), hb1.box hx (by omega), hR.keep (.but hb1 (.inl (by omega)) (by omega)), Nat.le_trans hM2 hb1.size⟩, ⟨x6, rfl, hx6⟩, hb1⟩⟩
    case a7 =>
      go_light
      intro L σ W' hcl hL hC hw
      have e1 := wV hw 1 rfl
      obtain ⟨x6, e6, hp6⟩ := wE hw 6 rfl
      have q1 := hp6.1
      have q2 := hp6.2
      clear hw hcl hL hC
      refine OpGoes.step fun K hK => ?_
      unfold OpGoes
      go_simp
      exact hK _ _ ⟨rfl, ⟨x6, rfl, hp6⟩⟩
    case a8 =>
      go_light
      intro L σ W' hcl hL hC hw
      obtain ⟨x6, e7, hp7⟩ := wE hw 7 rfl
      clear hw
      obtain ⟨hB, hcur, hz, hx, hR, hM2⟩ := hC
      obtain ⟨q1, q2⟩ := hp7
      obtain ⟨a8, ha8⟩ : ∃ a8, rows[x6.toNat]? = some a8 := ⟨_, List.getElem?_eq_getElem (by have := hR.1.1; omega)⟩
      have d0 := Own.cell_ Rw.cs_len hR.1 (j := 0) ha8 rfl
      have d1 := Own.cell_ Rw.cs_len hR.1 (j := 1) ha8 rfl
      have d2 := Own.cell_ Rw.cs_len hR.1 (j := 2) ha8 rfl
      have d3 := Own.cell_ Rw.cs_len hR.1 (j := 3) ha8 rfl
      have d4 := Own.cell_ Rw.cs_len hR.1 (j := 4) ha8 rfl
      rw [Nat.add_zero] at d0
      have hm8 := List.mem_of_getElem? ha8
      clear ha8
      clear hcl hL
      refine OpGoes.step fun K hK => ?_
      unfold OpGoes
      go_simp
      exact hK _ _ ⟨⟨hB, hcur, hz, hx, hR, hM2⟩, ⟨a8, rfl, hm8⟩, But.refl _ _⟩
    case a9 =>
      go_light
      intro L σ W' hcl hL hC hw
      clear hw
      have HC := Lib.hid hC
      clear hC
      clear hcl hL
      refine OpGoes.step fun K hK => ?_
      unfold OpGoes
      go_simp
      obtain ⟨hB, hcur, hz, hx, hR, hM2⟩ := HC.out
      have hb1 : Below W'.heap.size W' (W'.alloc (.cells #[.int .i64 0, .int .i64 0, .bool false, .int .i64 0, .slice none 0 0] 27)) := (Below.refl _ _).alloc (Nat.le_refl _) _
      exact hK _ _ ⟨⟨hB.trans (But.of_below hb1), hcur.belowC hb1, hz.below hb1 hz.lt, hx.below hb1 hx.lt, hR.keep (.below hb1 (by omega)), Nat.le_trans hM2 hb1.size⟩, ⟨_, rfl, hM2, _, _, _, _, _, BoxAt.new _ _ _⟩, But.of_below hb1, rfl, by simp⟩
    case a10 =>
      go_light
      intro L σ W' hcl hL hC hw hne
      obtain ⟨a8, e8, hp8⟩ := wE hw 8 rfl
      obtain ⟨g9, e9, hg9, x0, x1, x2, x3, x4, hbox9⟩ := wE hw 9 rfl
      clear hw hne
      have HC := Lib.hid hC
      clear hC
      clear hcl hL
      have kc_ := hbox9.cell
      have kf_ := hbox9.frozen
      refine OpGoes.step fun K hK => ?_
      unfold OpGoes
      go_simp
      obtain ⟨hB, hcur, hz, hx, hR, hM2⟩ := HC.out
      have hset := sets_all (us := [.int .i64 a8.h, .int .i64 a8.t, .bool a8.c, .int .i64 a8.x, .slice a8.A a8.n a8.cap]) hbox9 rfl
      refine hK undef (setCells W' g9 0 [.int .i64 a8.h, .int .i64 a8.t, .bool a8.c, .int .i64 a8.x, .slice a8.A a8.n a8.cap]) ⟨⟨(But.setsNew hB (by omega) _ 0), (CurAt.sets hcur (by omega) _ 0), (BoxAt.sets_ne _ 0 hz (by omega)), (BoxAt.sets_ne _ 0 hx (by omega)), (RgsL.sts hR (by omega) _ 0), (size_sts hM2 _ 0)⟩, ⟨g9, a8, e9, hg9, hset, (((((hp8)))))⟩, Nat.le_of_eq (sets_size _ _ _).symm, keepV ?_⟩
      exact ⟨fun _ _ ⟨x6_x, e, hp⟩ => ⟨x6_x, e, (((((hp)))))⟩, fun _ _ ⟨x6_x, e, hp⟩ => ⟨x6_x, e, (((((hp)))))⟩, fun _ _ ⟨a8_x, e, hp⟩ => ⟨a8_x, e, (((((hp)))))⟩, fun _ _ _ => ⟨g9, e9, hg9, _, _, _, _, _, hset⟩, fun h => absurd rfl h, trivial⟩
    · intro L L' W' hLL hC
      obtain ⟨hB, hcur, hz, hx, hR, hM2⟩ := hC
      exact ⟨hB, hcur, hz, hx, hR, hM2⟩
    · intro σ L W' hall hC hRR
      obtain ⟨hB, hcur, hz, hx, hR, hM2⟩ := hC
      obtain ⟨g9, a8, e9, hg10, s10, hp10⟩ := dE hRR 10 rfl
      clear hRR
      simp only [lexAll]
      go_simp
      go_step
      go_meet
      exact ⟨hB, hcur, hz, hx, hR, g9, a8, hg10, s10, hp10, rfl⟩
  case rest =>
    clear hB hcur hz hx hR hM2
    obtain ⟨hB, hcur, hz, hx, hR, g4, a8, hg4, h4, hm8, rfl⟩ := hcut
    obtain ⟨i, hi⟩ := List.mem_iff_getElem?.1 hm8
    obtain ⟨r, hr, -, -, -, -, hpw⟩ := hR.2.1 i a8 hi
    have hrl := stOk_places HOK.out r (List.mem_of_getElem? hr)
    have hrd := stOk_rd HOK.out
    obtain ⟨rh, rt, rc, rx, rA, rn, rcap⟩ := a8
    dsimp only at hpw h4 ⊢
    have hnr := hpw.1
    obtain ⟨pb, rfl, hpbX, hpo⟩ := hpw.2 (by omega)
    have hpN : w.heap.size + 1 ≤ pb := hpo.2.1
    clear hm8 hi hpw hR hx hr
    go_wp2_with fail
    refine (l1Once_any K0 k a0 len cap _ _ (hc.below (hB.below hkk hN0)) hkk (Nat.le_trans hN0 hB.size) hcur (by omega)).mono ?_
    rintro e w3 ⟨bb, rfl, hb1, hcur1⟩
    replace hz := hb1.box hz (by omega)
    replace h4 := hb1.box h4 (by omega)
    replace hpo := Own.keep hpo (hb1.block pb (Own.lt hpo) (by omega))
    replace hB := hB.trans hb1
    clear hb1 hcur
    have hcur := hcur1
    clear hcur1
    go_upto_if 17 with fail
    go_cut [19] (fun _ W' => ∃ (h t : Int) (c : Bool) (x : Int) (n2 : Nat) (l : List Pl), But k w W' ∧ CurAt W' k a0 len cap ∧ BoxAt W' w.heap.size #[.int .i64 0, .int .i64 0, .bool false, .int .i64 0, .slice none 0 0] 27 ∧ BoxAt W' g4 #[.int .i64 h, .int .i64 t, .bool c, .int .i64 x, .slice (some ⟨pb, 0, none⟩) n2 rcap] 27 ∧ PlsO (w.heap.size + 1) W' pb n2 rcap l ∧ n2 ≤ 8)
    case first =>
      cases bb
      · go_wp2
        go_meet
        exact ⟨rh, rt, rc, rx, rn, _, hB, hcur, hz, h4, hpo, by omega⟩
      · go_wp2_with fail
        refine (l1Below_any K0 k a0 len cap _ _ (hc.below (hB.below hkk hN0)) hkk (Nat.le_trans hN0 hB.size) hcur (by omega)).mono ?_
        rintro e w4 ⟨u, ⟨u0, u1⟩, rfl, hb1, hcur1⟩
        replace hz := hb1.box hz (by omega)
        replace h4 := hb1.box h4 (by omega)
        replace hpo := Own.keep hpo (hb1.block pb (Own.lt hpo) (by omega))
        replace hB := hB.trans hb1
        clear hb1 hcur
        have hcur := hcur1
        clear hcur1
        have k4 := h4.cell
        have f4 := h4.frozen
        have hu : u = 0 ∨ u = 1 ∨ u = 2 ∨ u = 3 ∨ u = 4 := by omega
        rcases hu with rfl | rfl | rfl | rfl | rfl
        · go_wp2_with fail
          have l4 := h4.lt
          have lp := Own.lt hpo
          have lk := hcur.lt
          refine calls_abs (fun W => But k w W ∧ CurAt W k a0 len cap ∧ BoxAt W w.heap.size #[.int .i64 0, .int .i64 0, .bool false, .int .i64 0, .slice none 0 0] 27 ∧ BoxAt W g4 #[.int .i64 rh, .int .i64 rt, .bool rc, .int .i64 rx, .slice (some ⟨pb, 0, none⟩) rn rcap] 27 ∧ PlsO (w.heap.size + 1) W pb rn rcap r.ps ∧ BoxAt W w4.heap.size #[.int .i64 (-1), .int .i64 (1000000), .int .i64 (1000001)] 2) ⟨hB.alloc _, hcur.alloc _, hz.alloc _, h4.alloc _, Own.keep hpo (Below.heap_alloc _ _ _ lp), BoxAt.new _ _ _⟩ ?_
          clear hB hcur hz h4 hpo k4 f4
          rintro W5 ⟨hB, hcur, hz, h4, hpo, hlit⟩
          refine (l1Below_any K0 k a0 len cap _ _ (hc.below (hB.below hkk hN0)) hkk (Nat.le_trans hN0 hB.size) hcur (by omega)).mono ?_
          rintro e w6 ⟨y, ⟨y0, y1⟩, rfl, hb1, hcur1⟩
          replace hlit := hb1.box hlit (by omega)
          replace hz := hb1.box hz (by omega)
          replace h4 := hb1.box h4 (by omega)
          replace hpo := Own.keep hpo (hb1.block pb (Own.lt hpo) (by omega))
          replace hB := hB.trans hb1
          clear hb1 hcur
          have hcur := hcur1
          clear hcur1
          have k4 := h4.cell
          have f4 := h4.frozen
          have kl := hlit.cell
          have hy : y = 0 ∨ y = 1 ∨ y = 2 := by omega
          rcases hy with rfl | rfl | rfl
          · go_wp2
            go_meet
            exact ⟨(-1), rt, rc, rx, rn, _, hB.setNew (by omega) _ _, hcur.set_ne (by omega) _ _, hz.set_ne (by omega) _ _, by simpa using h4.set 0 (.int .i64 ((-1))), Own.set_ne hpo (by omega) _ _, by omega⟩
          · go_wp2
            go_meet
            exact ⟨1000000, rt, rc, rx, rn, _, hB.setNew (by omega) _ _, hcur.set_ne (by omega) _ _, hz.set_ne (by omega) _ _, by simpa using h4.set 0 (.int .i64 (1000000)), Own.set_ne hpo (by omega) _ _, by omega⟩
          · go_wp2
            go_meet
            exact ⟨1000001, rt, rc, rx, rn, _, hB.setNew (by omega) _ _, hcur.set_ne (by omega) _ _, hz.set_ne (by omega) _ _, by simpa using h4.set 0 (.int .i64 (1000001)), Own.set_ne hpo (by omega) _ _, by omega⟩
        · go_wp2_with fail
          have l4 := h4.lt
          have lp := Own.lt hpo
          have lk := hcur.lt
          refine calls_abs (fun W => But k w W ∧ CurAt W k a0 len cap ∧ BoxAt W w.heap.size #[.int .i64 0, .int .i64 0, .bool false, .int .i64 0, .slice none 0 0] 27 ∧ BoxAt W g4 #[.int .i64 rh, .int .i64 rt, .bool rc, .int .i64 rx, .slice (some ⟨pb, 0, none⟩) rn rcap] 27 ∧ PlsO (w.heap.size + 1) W pb rn rcap r.ps ∧ BoxAt W w4.heap.size #[.int .i64 (-1), .int .i64 (7)] 2) ⟨hB.alloc _, hcur.alloc _, hz.alloc _, h4.alloc _, Own.keep hpo (Below.heap_alloc _ _ _ lp), BoxAt.new _ _ _⟩ ?_
          clear hB hcur hz h4 hpo k4 f4
          rintro W5 ⟨hB, hcur, hz, h4, hpo, hlit⟩
          refine (l1Below_any K0 k a0 len cap _ _ (hc.below (hB.below hkk hN0)) hkk (Nat.le_trans hN0 hB.size) hcur (by omega)).mono ?_
          rintro e w6 ⟨y, ⟨y0, y1⟩, rfl, hb1, hcur1⟩
          replace hlit := hb1.box hlit (by omega)
          replace hz := hb1.box hz (by omega)
          replace h4 := hb1.box h4 (by omega)
          replace hpo := Own.keep hpo (hb1.block pb (Own.lt hpo) (by omega))
          replace hB := hB.trans hb1
          clear hb1 hcur
          have hcur := hcur1
          clear hcur1
          have k4 := h4.cell
          have f4 := h4.frozen
          have kl := hlit.cell
          have hy : y = 0 ∨ y = 1 := by omega
          rcases hy with rfl | rfl
          · go_wp2
            go_meet
            exact ⟨rh, (-1), rc, rx, rn, _, hB.setNew (by omega) _ _, hcur.set_ne (by omega) _ _, hz.set_ne (by omega) _ _, by simpa using h4.set 1 (.int .i64 ((-1))), Own.set_ne hpo (by omega) _ _, by omega⟩
          · go_wp2
            go_meet
            exact ⟨rh, 7, rc, rx, rn, _, hB.setNew (by omega) _ _, hcur.set_ne (by omega) _ _, hz.set_ne (by omega) _ _, by simpa using h4.set 1 (.int .i64 (7)), Own.set_ne hpo (by omega) _ _, by omega⟩
        · go_wp2_with fail
          refine (l1From_any K0 k a0 len cap _ _ _ (hc.below (hB.below hkk hN0)) hkk (Nat.le_trans hN0 hB.size) hcur (by omega) (by omega) (by omega)).mono ?_
          rintro e w5 ⟨v, hv, rfl, hb1, hcur1⟩
          clear k4 f4
          replace hz := hb1.box hz (by omega)
          replace h4 := hb1.box h4 (by omega)
          replace hpo := Own.keep hpo (hb1.block pb (Own.lt hpo) (by omega))
          replace hB := hB.trans hb1
          clear hb1 hcur
          have hcur := hcur1
          clear hcur1
          have k4 := h4.cell
          have f4 := h4.frozen
          go_wp2
          go_meet
          exact ⟨rh, rt, rc, v, rn, _, hB.setNew (by omega) _ _, hcur.set_ne (by omega) _ _, hz.set_ne (by omega) _ _, by simpa using h4.set 3 (.int .i64 (v)), Own.set_ne hpo (by omega) _ _, by omega⟩
        · go_upto_region 12 with fail
          clear k4 f4
          refine wp_region2v (fun w w' => But k w w') (fun _ _ h => h.size) (fun _ => But.refl _ _) (fun L W' => But k w W' ∧ CurAt W' k a0 len cap ∧ BoxAt W' w.heap.size #[.int .i64 0, .int .i64 0, .bool false, .int .i64 0, .slice none 0 0] 27 ∧ BoxAt W' g4 #[.int .i64 rh, .int .i64 rt, .bool rc, .int .i64 rx, .slice (some ⟨pb, 0, none⟩) rn rcap] 27 ∧ (L 5 = false → PlsO (w.heap.size + 1) W' pb rn rcap r.ps)) (drPV w.heap.size k g4 pb rn rcap rh rt rc rx r.ps) (fun j => [0, 0, 0, 0, 0, 1].getD j 0) [] (by kernel_rfl) (by kernel_rfl) ?_ ?_ ?_
            (.still rfl ?a0 <| .still rfl ?a1 <| .still rfl ?a2 <| .grow rfl ?a3 <| .still rfl ?a4 <| .store rfl ?a5 <| .nil) ?_ ?_
          · exact ⟨fun _ _ _ h ⟨p3, e, hp⟩ => ⟨p3, (h 3 (List.mem_singleton.2 rfl)).symm.trans e, hp⟩, fun _ _ _ _ h => h, trivial⟩
          · exact ⟨fun σ w w' hb ⟨p3, e, hp⟩ => ⟨p3, e, hp⟩, fun σ w w' hb ⟨p3, hp⟩ => ⟨p3, Own.keep hp (hb.block pb (Own.lt hp) (by omega))⟩, trivial⟩
          · exact ⟨hB.drew, hcur, hz, h4, fun _ => hpo⟩
          case a0 | a2 =>
            go_light
            intro L σ W' hcl hL hC hw
            clear hw hcl hL hC
            refine OpGoes.step fun K hK => ?_
            unfold OpGoes
            go_simp
            exact hK _ _ ⟨rfl, rfl⟩
          case a1 =>
            go_light
            intro L σ W' hcl hL hC hw
            have e0 := wV hw 0 rfl
            have k4 := hC.2.2.2.1.cell
            clear hw hcl hL hC
            refine OpGoes.step fun K hK => ?_
            unfold OpGoes
            go_simp
            exact hK _ _ ⟨rfl, rfl⟩
          case a3 =>
            go_light
            intro L σ W' hcl hL hC hw
            have e2 := wV hw 2 rfl
            clear hw
            have HC := Lib.hid hC
            clear hC
            clear hcl hL
            refine OpGoes.step fun K hK => ?_
            unfold OpGoes
            go_simp
            obtain ⟨hB, hcur, hz, h4, hpo⟩ := HC.out
            refine (l1DrawAny_any K0 k a0 len cap _ (hc.below (hB.below hkk hN0)) hkk (Nat.le_trans hN0 hB.size) hcur).mono ?_
            rintro e w1 ⟨pa, pc, pe, pd, rfl, hb1, hcur1⟩
            exact ⟨_, rfl, hK _ _ ⟨⟨hB.trans hb1, hcur1, hb1.box hz (by omega), hb1.box h4 (by omega), fun h => Own.keep (hpo (by simpa [upd] using h)) (hb1.block pb (Own.lt (hpo (by simpa [upd] using h))) (by omega))⟩, ⟨⟨pa, pe, pc, pd⟩, rfl, trivial⟩, hb1⟩⟩
          case a4 =>
            go_light
            intro L σ W' hcl hL hC hw
            have e1 := wV hw 1 rfl
            have q1 : 0 < rn := by omega
            clear hw hcl hL hC
            refine OpGoes.step fun K hK => ?_
            unfold OpGoes
            go_simp
            exact hK _ _ ⟨rfl, rfl⟩
          case a5 =>
            go_light
            intro L σ W' hcl hL hC hw hne
            obtain ⟨p3, e3, hp3⟩ := wE hw 3 rfl
            have e4 := wV hw 4 rfl
            clear hw hne
            obtain ⟨hB, hcur, hz, h4, hpo⟩ := hC
            have hq := (hpo hL)
            obtain ⟨p0, hp0⟩ : ∃ p0, r.ps[0]? = some p0 := ⟨_, List.getElem?_eq_getElem (by have := hq.1; omega)⟩
            have d0 := Own.cell_ Pl.cs_len hq (j := 0) hp0 rfl
            have d1 := Own.cell_ Pl.cs_len hq (j := 1) hp0 rfl
            have d2 := Own.cell_ Pl.cs_len hq (j := 2) hp0 rfl
            have d3 := Own.cell_ Pl.cs_len hq (j := 3) hp0 rfl
            rw [Nat.zero_mul, Nat.zero_add] at d0 d1 d2 d3
            have df := Own.frozen_ hq
            have HB_ := Lib.hid hB
            have HC_ := Lib.hid hcur
            have HZ_ := Lib.hid hz
            have H4_ := Lib.hid h4
            have HQ_ := Lib.hid hq
            clear hB hcur hz h4 hpo hq hp0
            clear hcl hL
            refine OpGoes.step fun K hK => ?_
            unfold OpGoes
            go_simp
            have hset := Own.setEl HQ_.out Pl.cs_len (by omega) (i := 0) (by omega) p3
            have hn4 : g4 ≠ pb := by omega
            refine hK _ _ ⟨⟨((((HB_.out).setNew (by omega) _ _).setNew (by omega) _ _).setNew (by omega) _ _).setNew (by omega) _ _, ((((HC_.out).set_ne (by omega) _ _).set_ne (by omega) _ _).set_ne (by omega) _ _).set_ne (by omega) _ _, ((((HZ_.out).set_ne (by omega) _ _).set_ne (by omega) _ _).set_ne (by omega) _ _).set_ne (by omega) _ _, ((((H4_.out).set_ne (by omega) _ _).set_ne (by omega) _ _).set_ne (by omega) _ _).set_ne (by omega) _ _, fun h => absurd h (by simp [upd])⟩, ⟨p3, hset⟩, by simp, fun j hj hn hR => ?_⟩
            refine keepV ?_ j hj hn hR
            exact ⟨fun _ _ ⟨p3, e, hp⟩ => ⟨p3, e, trivial⟩, fun h => absurd rfl h, trivial⟩
          · intro L L' W' hLL hC
            obtain ⟨hB, hcur, hz, h4, hpo⟩ := hC
            exact ⟨hB, hcur, hz, h4, fun h => hpo (hLL _ h)⟩
          · intro σ L W' hall hC hRR
            obtain ⟨hB, hcur, hz, h4, hpo⟩ := hC
            obtain ⟨p3, hset⟩ := dE hRR 5 rfl
            clear hRR
            simp only [lexAll]
            go_simp
            go_step
            go_meet
            exact ⟨rh, rt, rc, rx, rn, _, hB, hcur, hz, h4, hset, by omega⟩
        · have hcp : (1 : Int) ≤ (rcap : Int) := by have := hpo.2.2.1; omega
          have hcp2 : 1 ≤ rcap := by omega
          go_wp2
          go_meet
          exact ⟨rh, rt, rc, rx, 1, _, hB.setNew (by omega) _ _, hcur.set_ne (by omega) _ _, hz.set_ne (by omega) _ _, by simpa using h4.set 4 (.slice (some ⟨pb, 0, none⟩) 1 rcap), Own.set_ne (PlsO.one hpo (by omega)) (by omega) _ _, by omega⟩
    case rest =>
      clear hB hcur hz h4 hpo
      obtain ⟨h, t, c, x, n2, l, hB, hcur, hz, h4, hpo, hn2⟩ := hcut
      have kz := hz.cell
      have fz := hz.frozen
      have k4 := h4.cell
      go_wp2
      refine bodyPost_ret (v := rgV h t c x (some ⟨pb, 0, none⟩) n2 rcap) (by simp [results, Try.results25, go_sem, kz, rgV]) rfl ⟨h, t, c, x, pb, n2, rcap, l, rfl, ?_, hn2, ?_, ?_⟩
      rotate_left
      · exact But.setsNew hB (by omega) [.int .i64 h, .int .i64 t, .bool c, .int .i64 x, .slice (some ⟨pb, 0, none⟩) n2 rcap] 0
      · exact CurAt.sets hcur (by omega) [.int .i64 h, .int .i64 t, .bool c, .int .i64 x, .slice (some ⟨pb, 0, none⟩) n2 rcap] 0
      have hq : PlsO (w.heap.size + 1) (setCells wc w.heap.size 0 [.int .i64 h, .int .i64 t, .bool c, .int .i64 x, .slice (some ⟨pb, 0, none⟩) n2 rcap]) pb n2 rcap l := Own.sets_ne hpo (by omega) [.int .i64 h, .int .i64 t, .bool c, .int .i64 x, .slice (some ⟨pb, 0, none⟩) n2 rcap] 0
      exact Own.mono hq (by omega)

/-- A ring and a number are drawn. -/
def DrawnRI (w : World) (e : Ending) (w' : World) : Prop := ∃ (h t : Int) (c : Bool) (x : Int) (pb n cp : Nat) (l : List Pl) (z : Int), e = .returned (.tuple #[rgV h t c x (some ⟨pb, 0, none⟩) n cp, .int .i64 z]) ∧ PlsR 0 w' (some ⟨pb, 0, none⟩) n l ∧ n ≤ 8 ∧ (-1 ≤ z ∧ z ≤ 1000001) ∧ Below w.heap.size w w'

set_option maxRecDepth 100000 in
set_option maxHeartbeats 1000000 in
theorem drawPlaceAt_any (a0 : Option Addr) (len cap : Nat) (w : World) (hc : CodeOk w.heap.size w a0 len) :
    Calls Try.prog 9 #[.slice a0 len cap] w (DrawnRI w) := by
  go_enter Try.func9, Try.ntmps9
  go_wp2_with fail
  refine calls_abs (fun W => Below w.heap.size w W ∧ BoxAt W w.heap.size #[.int .i64 0, .int .i64 0, .bool false, .int .i64 0, .slice none 0 0] 27) ⟨(Below.refl _ _).alloc (Nat.le_refl _) _, BoxAt.new _ _ _⟩ ?_
  rintro W0 ⟨hB, hz⟩
  have lz := hz.lt
  refine (l1New_any w.heap.size a0 len cap _ (hc.below hB)).mono ?_
  rintro e w1 ⟨h0, rfl, rfl⟩
  go_wp2_with fail
  generalize hk : W0.heap.size = k at *
  refine calls_abs (fun W => Below w.heap.size w W ∧ BoxAt W w.heap.size #[.int .i64 0, .int .i64 0, .bool false, .int .i64 0, .slice none 0 0] 27 ∧ CurAt W k a0 len cap) ⟨hB.alloc hB.size _, hz.alloc _, 0, h0, Nat.zero_le _, by rw [← hk]; exact BoxAt.new _ _ _⟩ ?_
  clear hB hz
  rintro W1 ⟨hB, hz, hcur⟩
  have lk := hcur.lt
  refine (l2DrawAny_any w.heap.size k a0 len cap _ (hc.below hB) (by omega) hB.size hcur).mono ?_
  rintro e w2 ⟨h, t, c, x, pb, n, cp, l, rfl, hpo, hn, hb1, hcur1⟩
  have l2 := hb1.size
  replace hz := hb1.box hz (by omega)
  replace hB := hB.trans (hb1.below (by omega) hB.size)
  clear hb1 hcur
  unfold rgV
  go_wp2_with fail
  refine calls_abs (fun W => Below w.heap.size w W ∧ BoxAt W w.heap.size #[.int .i64 0, .int .i64 0, .bool false, .int .i64 0, .slice none 0 0] 27 ∧ CurAt W k a0 len cap ∧ BoxAt W w2.heap.size #[.int .i64 h, .int .i64 t, .bool c, .int .i64 x, .slice (some ⟨pb, 0, none⟩) n cp] 27 ∧ PlsO W1.heap.size W pb n cp l ∧ w2.heap.size < W.heap.size) ⟨hB.alloc hB.size _, hz.alloc _, hcur1.alloc _, BoxAt.new _ _ _, Own.keep hpo (Below.heap_alloc _ _ _ (Own.lt hpo)), by simp⟩ ?_
  have lp := Own.lt hpo
  clear hB hz hcur1 hpo
  generalize w2.heap.size = G5 at *
  generalize W1.heap.size = Q5 at *
  rintro W3 ⟨hB, hz, hcur, h5, hpo, l5⟩
  have hpk := hpo.2.1
  refine (l1Below_any w.heap.size k a0 len cap _ _ (hc.below hB) (by omega) hB.size hcur (by omega)).mono ?_
  rintro e w4 ⟨z, ⟨z0, z1⟩, rfl, hb1, hcur1⟩
  replace hz := hb1.box hz (by omega)
  replace h5 := hb1.box h5 (by omega)
  replace hpo := Own.keep hpo (hb1.block pb (Own.lt hpo) (by omega))
  replace hB := hB.trans (hb1.below (by omega) hB.size)
  clear hb1 hcur
  have hcur := hcur1
  clear hcur1
  go_wp2_with fail
  refine (l1Once_any w.heap.size k a0 len cap _ _ (hc.below hB) (by omega) hB.size hcur (by omega)).mono ?_
  rintro e w5 ⟨b, rfl, hb1, hcur1⟩
  replace hz := hb1.box hz (by omega)
  replace h5 := hb1.box h5 (by omega)
  replace hpo := Own.keep hpo (hb1.block pb (Own.lt hpo) (by omega))
  replace hB := hB.trans (hb1.below (by omega) hB.size)
  clear hb1 hcur
  have hcur := hcur1
  clear hcur1
  go_upto_if 14 with fail
  go_cut [6] (fun u6 W' => ∃ z : Int, u6 = .int .i64 z ∧ (-1 ≤ z ∧ z ≤ 1000001) ∧ Below w.heap.size w W' ∧ BoxAt W' w.heap.size #[.int .i64 0, .int .i64 0, .bool false, .int .i64 0, .slice none 0 0] 27 ∧ BoxAt W' G5 #[.int .i64 h, .int .i64 t, .bool c, .int .i64 x, .slice (some ⟨pb, 0, none⟩) n cp] 27 ∧ PlsO Q5 W' pb n cp l)
  case first =>
    cases b
    · go_wp2
      go_meet
      exact ⟨z, rfl, by omega, hB, hz, h5, hpo⟩
    · go_wp2_with fail
      have l6 := h5.lt
      have lp6 := Own.lt hpo
      have lk6 := hcur.lt
      refine calls_abs (fun W => Below w.heap.size w W ∧ BoxAt W w.heap.size #[.int .i64 0, .int .i64 0, .bool false, .int .i64 0, .slice none 0 0] 27 ∧ CurAt W k a0 len cap ∧ BoxAt W G5 #[.int .i64 h, .int .i64 t, .bool c, .int .i64 x, .slice (some ⟨pb, 0, none⟩) n cp] 27 ∧ PlsO Q5 W pb n cp l ∧ BoxAt W w5.heap.size #[.int .i64 (-1), .int .i64 1000000, .int .i64 1000001] 2) ⟨hB.alloc hB.size _, hz.alloc _, hcur.alloc _, h5.alloc _, Own.keep hpo (Below.heap_alloc _ _ _ lp6), BoxAt.new _ _ _⟩ ?_
      clear hB hz hcur h5 hpo
      rintro W6 ⟨hB, hz, hcur, h5, hpo, hlit⟩
      refine (l1Below_any w.heap.size k a0 len cap _ _ (hc.below hB) (by omega) hB.size hcur (by omega)).mono ?_
      rintro e w7 ⟨y, ⟨y0, y1⟩, rfl, hb1, hcur1⟩
      replace hlit := hb1.box hlit (by omega)
      replace hz := hb1.box hz (by omega)
      replace h5 := hb1.box h5 (by omega)
      replace hpo := Own.keep hpo (hb1.block pb (Own.lt hpo) (by omega))
      replace hB := hB.trans (hb1.below (by omega) hB.size)
      clear hb1 hcur
      have hcur := hcur1
      clear hcur1
      have kl := hlit.cell
      have hy : y = 0 ∨ y = 1 ∨ y = 2 := by omega
      rcases hy with rfl | rfl | rfl
      · go_wp2
        go_meet
        exact ⟨_, rfl, by omega, hB, hz, h5, hpo⟩
      · go_wp2
        go_meet
        exact ⟨_, rfl, by omega, hB, hz, h5, hpo⟩
      · go_wp2
        go_meet
        exact ⟨_, rfl, by omega, hB, hz, h5, hpo⟩
  case rest =>
    clear hB hz h5 hpo hcur
    obtain ⟨z, rfl, hzz, hB, hz, h5, hpo⟩ := hcut
    have kz := hz.cell
    have fz := hz.frozen
    have k5 := h5.cell
    go_wp2
    refine bodyPost_ret (v := .tuple #[rgV h t c x (some ⟨pb, 0, none⟩) n cp, .int .i64 z]) (by simp [results, Try.results9, go_sem, kz, rgV]) rfl ⟨h, t, c, x, pb, n, cp, l, z, rfl, ?_, hn, hzz, ?_⟩
    rotate_left
    · exact Below.setCells (Nat.le_refl _) [.int .i64 h, .int .i64 t, .bool c, .int .i64 x, .slice (some ⟨pb, 0, none⟩) n cp] 0 hB
    have hq : PlsO Q5 (setCells wc w.heap.size 0 [.int .i64 h, .int .i64 t, .bool c, .int .i64 x, .slice (some ⟨pb, 0, none⟩) n cp]) pb n cp l := Own.sets_ne hpo (by omega) [.int .i64 h, .int .i64 t, .bool c, .int .i64 x, .slice (some ⟨pb, 0, none⟩) n cp] 0
    exact (PlsO.r hq).mono (Nat.zero_le _)

end Go.Proofs.Ytlpcpaehkgaffaa


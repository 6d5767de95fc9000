/-
 The walk of StoreOk of the model.
-/
import Derived.Test.YthpckpnlohfcbaaGreatDoorStoreA
import Derived.Test.YthpckpnlohfcbaaGreatDoorGrowV
import Derived.Deep.Light
namespace Go.Proofs.YthpckpnlohfcbaaGreatDoor
set_option linter.unusedSimpArgs false
set_option linter.unusedVariables false
open Go.RowKit
set_option linter.unusedVariables false
attribute [local go_sem] OpUpon
attribute [local go_sem ↓] Go.wp_at_zero Go.wp_at_succ
theorem zstoreB0 {p : Prop} (h : p := by
 clear hw hcl hL hC
 refine OpGoes.go fun K hK => ?_
 go_simp
 exact hK _ _ ⟨rfl, rfl⟩) : p := h -- ee92c020
theorem zstoreB1 {p : Prop} (h : p := by
 go_light
 intro L σ W' hcl hL hC hw
 have e4 := wV hw 4 rfl
 clear hw
 have HC := Lib.hid hC
 clear hC
 clear hcl hL
 refine OpGoes.go fun K hK => ?_
 go_simp
 obtain ⟨hs, hc, hp, hB⟩ := HC.out
 refine (sringOk_is r A' n' cap' true _ hp hpn hok).mono ?_
 rintro e w1 ⟨rfl, hb1⟩
 exact ⟨_, rfl, hK _ _ ⟨⟨hs.below hb1 hs.lt, hc.below hb1, hp.below hb1, bstep hB hB.size hb1⟩, rfl, hb1⟩⟩) : p := h -- dd2d6589
theorem zstoreB2 {p : Prop} (h : p := by
 intro σ L W' hall hC hRR
 obtain ⟨hs, hc, hp, hB⟩ := hC
 have e28 := dV hRR 28 rfl
 clear hRR
 simp only [lexAll]
 go_simp
 go_step
 go_meet
 exact ⟨hs, hB, rfl⟩) : p := h -- 311fb31d
theorem zstoreB3 {p : Prop} (h : p := by
 intro L L' W' hLL hC
 obtain ⟨hs, hc, hp, hB⟩ := hC
 exact ⟨hs, hc, hp, hB⟩) : p := h -- b0c6cae8

def RgC (w : World) (b i : Nat) (r : Rg) (A : Option Addr) (n cap : Nat) : Prop :=
 w.cell? ⟨b, i * 5, none⟩ = some (.int .i64 r.h) ∧ w.cell? ⟨b, i * 5 + 1, none⟩ = some (.int .i64 r.t) ∧ w.cell? ⟨b, i * 5 + 2, none⟩ = some (.bool r.c) ∧ w.cell? ⟨b, i * 5 + 3, none⟩ = some (.int .i64 r.x) ∧ w.cell? ⟨b, i * 5 + 4, none⟩ = some (.slice A n cap)
theorem RgC.below {w w' : World} {b i : Nat} {r : Rg} {A : Option Addr} {n cap : Nat} (h : RgC w b i r A n cap) (hb : Below w.heap.size w w') : RgC w' b i r A n cap :=
 have hl : b < w.heap.size := World.block_lt_of_cell? w _ h.1
 ⟨(hb.cell (p := ⟨b, _, none⟩) hl).trans h.1, (hb.cell (p := ⟨b, _, none⟩) hl).trans h.2.1, (hb.cell (p := ⟨b, _, none⟩) hl).trans h.2.2.1, (hb.cell (p := ⟨b, _, none⟩) hl).trans h.2.2.2.1, (hb.cell (p := ⟨b, _, none⟩) hl).trans h.2.2.2.2⟩
theorem sringOk_is (r : Rg) (A : Option Addr) (n cap : Nat) (z : Bool) (w : World) (hl : PlsR 0 w A n r.ps) (hn : n ≤ 1048576) (h : r.ok = z) :
  Calls Tryz.prog 63 #[.agg #[r.h, r.t, r.c, r.x, .slice A n cap]] w (RetBelow (.bool z) w) := by
 rw [← h]; exact sringOk_any r.h r.t r.c r.x A n cap r.ps w hl hn
def stAV (s : St) (SB b i n cap : Nat) (r : Rg) (A' : Option Addr) (n' cap' : Nat) : List Sl := [.v (.pointer (some ⟨SB, 2, none⟩)),
 .v (.slice (some ⟨b, 0, none⟩) n cap),
 .v (.int .i64 ((i : Int))),
 .v (.pointer (some ⟨b, i * 5, none⟩)),
 .v (.agg #[r.h, r.t, r.c, r.x, .slice A' n' cap']),
 .v (.bool false),
 .v (.bool true),
 .v (.bool true),
 .v undef,
 .v undef,
 .v undef,
 .v undef,
 .v undef,
 .v undef,
 .v undef,
 .v undef,
 .v undef,
 .v undef,
 .v (.bool true),
 .v (.bool true),
 .v undef,
 .v undef,
 .v undef,
 .v undef,
 .v undef,
 .v undef,
 .v undef,
 .v undef,
 .v (.bool true)]
def stBV (s : St) (SB b i n cap : Nat) (r : Rg) (A' : Option Addr) (n' cap' : Nat) : List Sl := [.v (.pointer (some ⟨SB, 2, none⟩)),
 .v (.slice (some ⟨b, 0, none⟩) n cap),
 .v (.int .i64 ((i : Int))),
 .v (.pointer (some ⟨b, i * 5, none⟩)),
 .v (.agg #[r.h, r.t, r.c, r.x, .slice A' n' cap']),
 .v (.bool true),
 .v (.bool false),
 .v (.bool false),
 .v (.pointer (some ⟨SB, 2, none⟩)),
 .v (.slice (some ⟨b, 0, none⟩) n cap),
 .v (.int .i64 ((i : Int))),
 .v (.pointer (some ⟨b, i * 5, none⟩)),
 .v (.pointer (some ⟨b, i * 5 + 4, none⟩)),
 .v (.slice A' n' cap'),
 .v (.int .i64 ((n' : Int))),
 .v (pT SB),
 .v s.rd,
 .v (.bool true),
 .v (.bool true),
 .v (.bool true),
 .v undef,
 .v undef,
 .v undef,
 .v undef,
 .v undef,
 .v undef,
 .v undef,
 .v undef,
 .v (.bool true)]
def stCV (s : St) (SB b i n cap : Nat) (r : Rg) (A' : Option Addr) (n' cap' : Nat) : List Sl := [.v (.pointer (some ⟨SB, 2, none⟩)),
 .v (.slice (some ⟨b, 0, none⟩) n cap),
 .v (.int .i64 ((i : Int))),
 .v (.pointer (some ⟨b, i * 5, none⟩)),
 .v (.agg #[r.h, r.t, r.c, r.x, .slice A' n' cap']),
 .v (.bool true),
 .v (.bool false),
 .v (.bool false),
 .v (.pointer (some ⟨SB, 2, none⟩)),
 .v (.slice (some ⟨b, 0, none⟩) n cap),
 .v (.int .i64 ((i : Int))),
 .v (.pointer (some ⟨b, i * 5, none⟩)),
 .v (.pointer (some ⟨b, i * 5 + 4, none⟩)),
 .v (.slice A' n' cap'),
 .v (.int .i64 ((n' : Int))),
 .v (pT SB),
 .v s.rd,
 .v (.bool false),
 .v (.bool false),
 .v (.bool false),
 .v (.pointer (some ⟨SB, 2, none⟩)),
 .v (.slice (some ⟨b, 0, none⟩) n cap),
 .v (.int .i64 ((i : Int))),
 .v (.pointer (some ⟨b, i * 5, none⟩)),
 .v (.pointer (some ⟨b, i * 5 + 3, none⟩)),
 .v r.x,
 .v (.int .i64 ((n : Int))),
 .v (.bool true),
 .v (.bool true)]
def stDV (s : St) (SB b i n cap : Nat) (r : Rg) (A' : Option Addr) (n' cap' : Nat) : List Sl := [.v (.pointer (some ⟨SB, 2, none⟩)),
 .v (.slice (some ⟨b, 0, none⟩) n cap),
 .v (.int .i64 ((i : Int))),
 .v (.pointer (some ⟨b, i * 5, none⟩)),
 .v (.agg #[r.h, r.t, r.c, r.x, .slice A' n' cap']),
 .v (.bool true),
 .v (.bool false),
 .v (.bool false),
 .v (.pointer (some ⟨SB, 2, none⟩)),
 .v (.slice (some ⟨b, 0, none⟩) n cap),
 .v (.int .i64 ((i : Int))),
 .v (.pointer (some ⟨b, i * 5, none⟩)),
 .v (.pointer (some ⟨b, i * 5 + 4, none⟩)),
 .v (.slice A' n' cap'),
 .v (.int .i64 ((n' : Int))),
 .v (pT SB),
 .v s.rd,
 .v (.bool false),
 .v (.bool false),
 .v (.bool false),
 .v (.pointer (some ⟨SB, 2, none⟩)),
 .v (.slice (some ⟨b, 0, none⟩) n cap),
 .v (.int .i64 ((i : Int))),
 .v (.pointer (some ⟨b, i * 5, none⟩)),
 .v (.pointer (some ⟨b, i * 5 + 3, none⟩)),
 .v r.x,
 .v (.int .i64 ((n : Int))),
 .v (.bool false),
 .v (.bool false)]
theorem stOk_head {s : St} (h : stHead s = false) : stOk s = false := by simp [stOk, h]
theorem stOk_ring {s : St} {i : Nat} {r : Rg} (hr : s.rs[i]? = some r) (h : inSt s.rd s.rs.length r = false) : stOk s = false := by
 have : s.rs.all (inSt s.rd s.rs.length) = false := by rw [List.all_eq_false]; exact ⟨r, List.mem_of_getElem? hr, by simp [h]⟩
 simp [stOk, this]
theorem stOk_chain {s : St} {i : Nat} (hi : i < s.rs.length) (h : (chain s.rs s.rs.length (i : Int)).isSome = false) : stOk s = false := by
 have : ((List.range s.rs.length).all fun (i : Nat) => (chain s.rs s.rs.length (i : Int)).isSome) = false := by rw [List.all_eq_false]; exact ⟨i, List.mem_range.2 hi, by rw [h]; simp⟩
 simp only [stOk, this, Bool.and_false]
set_option maxRecDepth 100000 in
set_option maxHeartbeats 2000000 in
theorem sstoreOk_any (s : St) (A : Option Addr) (n cap : Nat) (lo hi : Nat) (w : World) (hr0 : RgsW lo hi w A n cap s.rs) (hh : hi ≤ w.heap.size) (hm : n ≤ 1048576) (hpn0 : ∀ r ∈ s.rs, r.ps.length ≤ 1048576) :
  Calls Tryz.prog 39 #[stV s A n cap] w (RetBelow (.bool (stOk s)) w) := by
 have hlen := hr0.1
 have HL := Lib.hid hlen
 have HPN := Lib.hid hpn0; clear hpn0
 have HB0 := Lib.hid (fun o => (Below.refl w.heap.size w).alloc (Nat.le_refl _) o)
 unfold stV
 go_enter Tryz.func39, Tryz.ntmps39
 go_wp2_with fail
 refine (l1In_any _ _ _ _).mono ?_
 rintro e w' ⟨rfl, rfl⟩
 cases h1 : inB s.rd 2 8
 ·
  go_wp2
  go_ret
  exact .mk (by rw [stOk_head (by simp [stHead, show roundB s.rd = false from h1])]; rfl) (HB0.out _)
 go_wp2_with fail
 refine (l1In_any _ _ _ _).mono ?_
 rintro e w' ⟨rfl, rfl⟩
 cases h2 : inB s.mo 1 16
 ·
  go_wp2
  go_ret
  exact .mk (by rw [stOk_head (by simp [stHead, h2])]; rfl) (HB0.out _)
 go_wp2_with fail
 refine (l1In_any _ _ _ _).mono ?_
 rintro e w' ⟨rfl, rfl⟩
 cases h3 : inB n 1 s.mo
 ·
  go_wp2
  go_ret
  exact .mk (by rw [stOk_head (by simp [stHead, HL.out, h3])]; rfl) (HB0.out _)
 have hn1 : 1 ≤ n ∧ n ≤ 16 := by simp [inB] at h2 h3; omega
 obtain ⟨hn1, hn16⟩ := hn1
 go_wp2_with fail
 refine (l1In_any _ _ _ _).mono ?_
 rintro e w' ⟨rfl, rfl⟩
 cases h4 : inB s.fi 0 ((n : Int) - 1)
 ·
  go_wp2
  go_ret
  exact .mk (by rw [stOk_head (by simp [stHead, HL.out, h4])]; rfl) (HB0.out _)
 go_wp2_with fail
 refine (l1In_any _ _ _ _).mono ?_
 rintro e w' ⟨rfl, rfl⟩
 cases h5 : inB s.la 0 ((n : Int) - 1)
 ·
  go_wp2
  go_ret
  exact .mk (by rw [stOk_head (by simp [stHead, HL.out, h5])]; rfl) (HB0.out _)
 have HH := Lib.hid (show stHead s = true by simp [stHead, HL.out, h3, h4, h5, h2, show roundB s.rd = true from h1])
 clear h1 h2 h3 h4 h5 hlen
 obtain ⟨b, rows, rfl, hbh, hro, hall⟩ := hr0.2 (by omega)
 clear rows hro hall
 go_wp2
 go_loopw [4] (fun s4 W => ∃ i : Nat, i ≤ n ∧ s4 = .int .i64 i ∧ Below w.heap.size w W ∧ BoxAt W w.heap.size (aS s (some ⟨b, 0, none⟩) n cap) 32 ∧ ∀ (j : Nat) r, j < i → s.rs[j]? = some r → inSt s.rd n r = true) (fun s4 _ => n - (intOf s4).toNat)
 case atStart => exact ⟨0, Nat.zero_le _, rfl, HB0.out _, BoxAt.new _ _ _, fun j r h => absurd h (by omega)⟩
 case round =>
  obtain ⟨i, hin, rfl, hB, hs, hal⟩ := hrel
  have HAL := Lib.hid hal; clear hal
  have ks := hs.cell
  by_cases hlt : i < n
  ·
   obtain ⟨b', r, A', n', cap', hbe, hlb, hbh', hri, c0, c1, c2, c3, c4, hpw⟩ := (hr0.below hB hh).at_ hlt
   obtain rfl : b = b' := by injection hbe with hbe; injection hbe
   clear hbe
   have hpn : n' ≤ 1048576 := by rw [← hpw.1]; exact HPN.out r (List.mem_of_getElem? hri)
   have hp := hpw.r
   have HPL := Lib.hid hpw.1
   have HRI := Lib.hid hri
   have hc : RgC wr b i r A' n' cap' := ⟨c0, c1, c2, c3, c4⟩
   clear c0 c1 c2 c3 c4 hri hpw
   have g1 : (i : Int) < (n : Int) := by omega
   have g2 : (0 : Int) ≤ (i : Int) := by omega
   cases hok : r.ok
   ·
    go_upto_region 7 with fail
    go_cut [77] (fun u77 W' => BoxAt W' w.heap.size (aS s (some ⟨b, 0, none⟩) n cap) 32 ∧ Below w.heap.size w W' ∧ u77 = .bool true)
    case first =>
     refine wp_region2v (fun w w' => Below w.heap.size w w') (fun _ _ h => h.size) (fun _ => Below.refl _ _) (fun L W' => BoxAt W' w.heap.size (aS s (some ⟨b, 0, none⟩) n cap) 32 ∧ RgC W' b i r A' n' cap' ∧ PlsR 0 W' A' n' r.ps ∧ Below w.heap.size w W') (stAV s w.heap.size b i n cap r A' n' cap') (fun _ => 0) [] (by kernel_rfl) (by kernel_rfl) ?_ ?_ ?_
      (.still rfl ?a0 <| .still rfl ?a1 <| .still rfl ?a2 <| .still rfl ?a3 <| .still rfl ?a4 <| .grow rfl ?a5 <| .still rfl ?a6 <| .still rfl ?a7 <| .still rfl ?a8 <| .still rfl ?a9 <| .still rfl ?a10 <| .still rfl ?a11 <| .still rfl ?a12 <| .still rfl ?a13 <| .still rfl ?a14 <| .still rfl ?a15 <| .still rfl ?a16 <| .still rfl ?a17 <| .still rfl ?a18 <| .still rfl ?a19 <| .still rfl ?a20 <| .still rfl ?a21 <| .still rfl ?a22 <| .still rfl ?a23 <| .still rfl ?a24 <| .still rfl ?a25 <| .still rfl ?a26 <| .still rfl ?a27 <| .still rfl ?a28 <| .nil) ?_ ?_
     · exact trivial
     · exact trivial
     · exact ⟨hs, hc, hp, hB.drew⟩
     case a0 | a2 | a3 | a6 | a7 | a8 | a9 | a10 | a11 | a12 | a13 | a14 | a15 | a16 | a17 | a18 | a19 | a20 | a21 | a22 | a23 | a24 | a25 | a26 | a27 | a28 =>
      go_light
      intro L σ W' hcl hL hC hw
      try have e1 := wT hw 1 rfl
      try have e2 := wT hw 2 rfl
      try have e5 := wT hw 5 rfl
      try have e6 := wT hw 6 rfl
      try have e7 := wT hw 7 rfl
      try have e8 := wT hw 8 rfl
      try have e9 := wT hw 9 rfl
      try have e10 := wT hw 10 rfl
      try have e11 := wT hw 11 rfl
      try have e12 := wT hw 12 rfl
      try have e13 := wT hw 13 rfl
      try have e14 := wT hw 14 rfl
      try have e15 := wT hw 15 rfl
      try have e16 := wT hw 16 rfl
      try have e17 := wT hw 17 rfl
      try have e18 := wT hw 18 rfl
      try have e19 := wT hw 19 rfl
      try have e20 := wT hw 20 rfl
      try have e21 := wT hw 21 rfl
      try have e22 := wT hw 22 rfl
      try have e23 := wT hw 23 rfl
      try have e24 := wT hw 24 rfl
      try have e25 := wT hw 25 rfl
      try have e26 := wT hw 26 rfl
      try have e27 := wT hw 27 rfl
      exact zstoreB0
     case a1 =>
      go_light
      intro L σ W' hcl hL hC hw
      have e0 := wV hw 0 rfl
      have ks := hC.1.cell
      exact zstoreB0
     case a4 =>
      go_light
      intro L σ W' hcl hL hC hw
      have e3 := wV hw 3 rfl
      have hc0 := hC.2.1
      obtain ⟨c0, c1, c2, c3, c4⟩ := hc0
      exact zstoreB0
     case a5 =>
      go_light
      intro L σ W' hcl hL hC hw
      have e4 := wV hw 4 rfl
      clear hw
      have HC := Lib.hid hC
      clear hC
      clear hcl hL
      refine OpGoes.go fun K hK => ?_
      go_simp
      obtain ⟨hs, hc, hp, hB⟩ := HC.out
      refine (sringOk_is r A' n' cap' false _ hp hpn hok).mono ?_
      rintro e w1 ⟨rfl, hb1⟩
      exact ⟨_, rfl, hK _ _ ⟨⟨hs.below hb1 hs.lt, hc.below hb1, hp.below hb1, bstep hB hB.size hb1⟩, rfl, hb1⟩⟩
     ·
      exact zstoreB3
     ·
      exact zstoreB2
    case rest =>
     obtain ⟨hs, hB, rfl⟩ := hcut
     go_wp2
     go_ret
     exact .mk (by rw [stOk_ring HRI.out (by simp [inSt, hok])]; rfl) hB
   ·
    have HOK := Lib.hid hok
    cases hq : ((n' : Int) == s.rd)
    ·
     have hq' : ((n' : Int) != s.rd) = true := by simpa using hq
     go_upto_region 7 with fail
     go_cut [77] (fun u77 W' => BoxAt W' w.heap.size (aS s (some ⟨b, 0, none⟩) n cap) 32 ∧ Below w.heap.size w W' ∧ u77 = .bool true)
     case first =>
      refine wp_region2v (fun w w' => Below w.heap.size w w') (fun _ _ h => h.size) (fun _ => Below.refl _ _) (fun L W' => BoxAt W' w.heap.size (aS s (some ⟨b, 0, none⟩) n cap) 32 ∧ RgC W' b i r A' n' cap' ∧ PlsR 0 W' A' n' r.ps ∧ Below w.heap.size w W') (stBV s w.heap.size b i n cap r A' n' cap') (fun _ => 0) [] (by kernel_rfl) (by kernel_rfl) ?_ ?_ ?_
       (.still rfl ?a0 <| .still rfl ?a1 <| .still rfl ?a2 <| .still rfl ?a3 <| .still rfl ?a4 <| .grow rfl ?a5 <| .still rfl ?a6 <| .still rfl ?a7 <| .still rfl ?a8 <| .still rfl ?a9 <| .still rfl ?a10 <| .still rfl ?a11 <| .still rfl ?a12 <| .still rfl ?a13 <| .still rfl ?a14 <| .still rfl ?a15 <| .still rfl ?a16 <| .still rfl ?a17 <| .still rfl ?a18 <| .still rfl ?a19 <| .still rfl ?a20 <| .still rfl ?a21 <| .still rfl ?a22 <| .still rfl ?a23 <| .still rfl ?a24 <| .still rfl ?a25 <| .still rfl ?a26 <| .still rfl ?a27 <| .still rfl ?a28 <| .nil) ?_ ?_
      · exact trivial
      · exact trivial
      · exact ⟨hs, hc, hp, hB.drew⟩
      case a0 | a2 | a3 | a6 | a7 | a8 | a10 | a11 | a12 | a14 | a15 | a18 | a19 | a20 | a21 | a22 | a23 | a24 | a25 | a26 | a27 | a28 =>
       go_light
       intro L σ W' hcl hL hC hw
       try have e1 := wT hw 1 rfl
       try have e2 := wT hw 2 rfl
       try have e5 := wT hw 5 rfl
       try have e6 := wT hw 6 rfl
       try have e7 := wT hw 7 rfl
       try have e9 := wT hw 9 rfl
       try have e10 := wT hw 10 rfl
       try have e11 := wT hw 11 rfl
       try have e13 := wT hw 13 rfl
       try have e17 := wT hw 17 rfl
       try have e18 := wT hw 18 rfl
       try have e19 := wT hw 19 rfl
       try have e20 := wT hw 20 rfl
       try have e21 := wT hw 21 rfl
       try have e22 := wT hw 22 rfl
       try have e23 := wT hw 23 rfl
       try have e24 := wT hw 24 rfl
       try have e25 := wT hw 25 rfl
       try have e26 := wT hw 26 rfl
       try have e27 := wT hw 27 rfl
       exact zstoreB0
      case a1 | a9 | a16 =>
       go_light
       intro L σ W' hcl hL hC hw
       try have e0 := wT hw 0 rfl
       try have e7 := wT hw 7 rfl
       try have e8 := wT hw 8 rfl
       try have e15 := wT hw 15 rfl
       have ks := hC.1.cell
       exact zstoreB0
      case a4 | a13 =>
       go_light
       intro L σ W' hcl hL hC hw
       try have e3 := wT hw 3 rfl
       try have e7 := wT hw 7 rfl
       try have e12 := wT hw 12 rfl
       have hc0 := hC.2.1
       obtain ⟨c0, c1, c2, c3, c4⟩ := hc0
       exact zstoreB0
      case a5 =>
       exact zstoreB1
      case a17 =>
       go_light
       intro L σ W' hcl hL hC hw
       have e7 := wV hw 7 rfl
       have e14 := wV hw 14 rfl
       have e16 := wV hw 16 rfl
       exact zstoreB0
      ·
       exact zstoreB3
      ·
       exact zstoreB2
     case rest =>
      obtain ⟨hs, hB, rfl⟩ := hcut
      have HQ := Lib.hid hq; clear hq hq'
      go_wp2
      go_ret
      exact .mk (by rw [stOk_ring HRI.out (by simp only [inSt, HPL.out, HQ.out, Bool.and_false, Bool.false_and])]; rfl) hB
    ·
     have HQ := Lib.hid hq
     have hq' : ((n' : Int) != s.rd) = false := by simpa using hq
     by_cases hge : (n : Int) ≤ r.x
     ·
      have hge' : decide ((n : Int) ≤ r.x) = true := by simpa using hge
      go_upto_region 7 with fail
      go_cut [77] (fun u77 W' => BoxAt W' w.heap.size (aS s (some ⟨b, 0, none⟩) n cap) 32 ∧ Below w.heap.size w W' ∧ u77 = .bool true)
      case first =>
       refine wp_region2v (fun w w' => Below w.heap.size w w') (fun _ _ h => h.size) (fun _ => Below.refl _ _) (fun L W' => BoxAt W' w.heap.size (aS s (some ⟨b, 0, none⟩) n cap) 32 ∧ RgC W' b i r A' n' cap' ∧ PlsR 0 W' A' n' r.ps ∧ Below w.heap.size w W') (stCV s w.heap.size b i n cap r A' n' cap') (fun _ => 0) [] (by kernel_rfl) (by kernel_rfl) ?_ ?_ ?_
        (.still rfl ?a0 <| .still rfl ?a1 <| .still rfl ?a2 <| .still rfl ?a3 <| .still rfl ?a4 <| .grow rfl ?a5 <| .still rfl ?a6 <| .still rfl ?a7 <| .still rfl ?a8 <| .still rfl ?a9 <| .still rfl ?a10 <| .still rfl ?a11 <| .still rfl ?a12 <| .still rfl ?a13 <| .still rfl ?a14 <| .still rfl ?a15 <| .still rfl ?a16 <| .still rfl ?a17 <| .still rfl ?a18 <| .still rfl ?a19 <| .still rfl ?a20 <| .still rfl ?a21 <| .still rfl ?a22 <| .still rfl ?a23 <| .still rfl ?a24 <| .still rfl ?a25 <| .still rfl ?a26 <| .still rfl ?a27 <| .still rfl ?a28 <| .nil) ?_ ?_
       · exact trivial
       · exact trivial
       · exact ⟨hs, hc, hp, hB.drew⟩
       case a0 | a2 | a3 | a6 | a7 | a8 | a10 | a11 | a12 | a14 | a15 | a17 | a18 | a19 | a20 | a22 | a23 | a24 | a26 | a27 | a28 =>
        go_light
        intro L σ W' hcl hL hC hw
        try have e1 := wT hw 1 rfl
        try have e2 := wT hw 2 rfl
        try have e5 := wT hw 5 rfl
        try have e6 := wT hw 6 rfl
        try have e7 := wT hw 7 rfl
        try have e9 := wT hw 9 rfl
        try have e10 := wT hw 10 rfl
        try have e11 := wT hw 11 rfl
        try have e13 := wT hw 13 rfl
        try have e14 := wT hw 14 rfl
        try have e16 := wT hw 16 rfl
        try have e17 := wT hw 17 rfl
        try have e18 := wT hw 18 rfl
        try have e19 := wT hw 19 rfl
        try have e21 := wT hw 21 rfl
        try have e22 := wT hw 22 rfl
        try have e23 := wT hw 23 rfl
        try have e25 := wT hw 25 rfl
        try have e26 := wT hw 26 rfl
        try have e27 := wT hw 27 rfl
        exact zstoreB0
       case a1 | a9 | a16 | a21 =>
        go_light
        intro L σ W' hcl hL hC hw
        try have e0 := wT hw 0 rfl
        try have e7 := wT hw 7 rfl
        try have e8 := wT hw 8 rfl
        try have e15 := wT hw 15 rfl
        try have e19 := wT hw 19 rfl
        try have e20 := wT hw 20 rfl
        have ks := hC.1.cell
        exact zstoreB0
       case a4 | a13 | a25 =>
        go_light
        intro L σ W' hcl hL hC hw
        try have e3 := wT hw 3 rfl
        try have e7 := wT hw 7 rfl
        try have e12 := wT hw 12 rfl
        try have e19 := wT hw 19 rfl
        try have e24 := wT hw 24 rfl
        have hc0 := hC.2.1
        obtain ⟨c0, c1, c2, c3, c4⟩ := hc0
        exact zstoreB0
       case a5 =>
        exact zstoreB1
       ·
        exact zstoreB3
       ·
        exact zstoreB2
      case rest =>
       obtain ⟨hs, hB, rfl⟩ := hcut
       go_wp2
       go_ret
       exact .mk (by rw [stOk_ring HRI.out (by simp [inSt, HL.out]; omega)]; rfl) hB
     ·
      have hge' : decide ((n : Int) ≤ r.x) = false := by simpa using hge
      go_upto_region 7 with fail
      go_cut [77] (fun u77 W' => BoxAt W' w.heap.size (aS s (some ⟨b, 0, none⟩) n cap) 32 ∧ Below w.heap.size w W' ∧ u77 = .bool false)
      case first =>
       refine wp_region2v (fun w w' => Below w.heap.size w w') (fun _ _ h => h.size) (fun _ => Below.refl _ _) (fun L W' => BoxAt W' w.heap.size (aS s (some ⟨b, 0, none⟩) n cap) 32 ∧ RgC W' b i r A' n' cap' ∧ PlsR 0 W' A' n' r.ps ∧ Below w.heap.size w W') (stDV s w.heap.size b i n cap r A' n' cap') (fun _ => 0) [] (by kernel_rfl) (by kernel_rfl) ?_ ?_ ?_
        (.still rfl ?a0 <| .still rfl ?a1 <| .still rfl ?a2 <| .still rfl ?a3 <| .still rfl ?a4 <| .grow rfl ?a5 <| .still rfl ?a6 <| .still rfl ?a7 <| .still rfl ?a8 <| .still rfl ?a9 <| .still rfl ?a10 <| .still rfl ?a11 <| .still rfl ?a12 <| .still rfl ?a13 <| .still rfl ?a14 <| .still rfl ?a15 <| .still rfl ?a16 <| .still rfl ?a17 <| .still rfl ?a18 <| .still rfl ?a19 <| .still rfl ?a20 <| .still rfl ?a21 <| .still rfl ?a22 <| .still rfl ?a23 <| .still rfl ?a24 <| .still rfl ?a25 <| .still rfl ?a26 <| .still rfl ?a27 <| .still rfl ?a28 <| .nil) ?_ ?_
       · exact trivial
       · exact trivial
       · exact ⟨hs, hc, hp, hB.drew⟩
       case a0 | a2 | a3 | a6 | a7 | a8 | a10 | a11 | a12 | a14 | a15 | a17 | a18 | a19 | a20 | a22 | a23 | a24 | a26 | a27 | a28 =>
        go_light
        intro L σ W' hcl hL hC hw
        try have e1 := wT hw 1 rfl
        try have e2 := wT hw 2 rfl
        try have e5 := wT hw 5 rfl
        try have e6 := wT hw 6 rfl
        try have e7 := wT hw 7 rfl
        try have e9 := wT hw 9 rfl
        try have e10 := wT hw 10 rfl
        try have e11 := wT hw 11 rfl
        try have e13 := wT hw 13 rfl
        try have e14 := wT hw 14 rfl
        try have e16 := wT hw 16 rfl
        try have e17 := wT hw 17 rfl
        try have e18 := wT hw 18 rfl
        try have e19 := wT hw 19 rfl
        try have e21 := wT hw 21 rfl
        try have e22 := wT hw 22 rfl
        try have e23 := wT hw 23 rfl
        try have e25 := wT hw 25 rfl
        try have e26 := wT hw 26 rfl
        try have e27 := wT hw 27 rfl
        exact zstoreB0
       case a1 | a9 | a16 | a21 =>
        go_light
        intro L σ W' hcl hL hC hw
        try have e0 := wT hw 0 rfl
        try have e7 := wT hw 7 rfl
        try have e8 := wT hw 8 rfl
        try have e15 := wT hw 15 rfl
        try have e19 := wT hw 19 rfl
        try have e20 := wT hw 20 rfl
        have ks := hC.1.cell
        exact zstoreB0
       case a4 | a13 | a25 =>
        go_light
        intro L σ W' hcl hL hC hw
        try have e3 := wT hw 3 rfl
        try have e7 := wT hw 7 rfl
        try have e12 := wT hw 12 rfl
        try have e19 := wT hw 19 rfl
        try have e24 := wT hw 24 rfl
        have hc0 := hC.2.1
        obtain ⟨c0, c1, c2, c3, c4⟩ := hc0
        exact zstoreB0
       case a5 =>
        exact zstoreB1
       ·
        exact zstoreB3
       ·
        exact zstoreB2
      case rest =>
       obtain ⟨hs, hB, rfl⟩ := hcut
       clear hq hok hq' hge'
       go_wp2
       go_roundw
       case rel =>
        refine ⟨i + 1, by omega, by go_num, hB, hs, fun j r' hj hr' => ?_⟩
        by_cases hji : j < i
        · exact HAL.out j r' hji hr'
        ·
         obtain rfl : j = i := by omega
         obtain rfl : r = r' := by have := HRI.out; rw [hr'] at this; injection this with this; exact this.symm
         have := HQ.out
         simp only [inSt, HOK.out, HPL.out, this, Bool.true_and, decide_eq_true_eq]
         omega
       case measure => simp [intOf]; omega
  ·
   have g1 : ¬ (i : Int) < (n : Int) := by omega
   obtain rfl : n = i := by omega
   have HIN := Lib.hid (show s.rs.all (inSt s.rd s.rs.length) = true by
    rw [List.all_eq_true]
    intro r hr
    obtain ⟨j, hj⟩ := List.mem_iff_getElem?.1 hr
    rw [HL.out]
    exact HAL.out j r (by have := (List.getElem?_eq_some_iff.1 hj).1; rw [HL.out] at this; exact this) hj)
   have HXX := Lib.hid (show ∀ r ∈ s.rs, r.x < n by
    intro r hr
    have := List.all_eq_true.1 HIN.out r hr
    simp [inSt, HL.out] at this
    exact this.2)
   clear HAL hlt g1
   go_wp2
   go_loopw [5] (fun s5 W => ∃ k : Nat, k ≤ n ∧ s5 = .int .i64 k ∧ Below w.heap.size w W ∧ BoxAt W w.heap.size (aS s (some ⟨b, 0, none⟩) n cap) 32 ∧ ∀ j : Nat, j < k → (chain s.rs n (j : Int)).isSome = true) (fun s5 _ => n - (intOf s5).toNat)
   case atStart => exact ⟨0, Nat.zero_le _, rfl, hB, hs, fun j h => absurd h (by omega)⟩
   case round =>
    clear ks hB hs
    obtain ⟨k, hk, rfl, hB, hs, hal⟩ := hrel
    have HAL := Lib.hid hal; clear hal
    have ks := hs.cell
    by_cases hlt : k < n
    ·
     have g1 : (k : Int) < (n : Int) := by omega
     have g2 : (0 : Int) ≤ (k : Int) := by omega
     go_wp2_with fail
     refine (l3Chain_any s (some ⟨b, 0, none⟩) n cap k lo hi _ (hr0.below hB hh) (Nat.le_trans hh hB.size) hm (by omega) HXX.out).mono ?_
     rintro e w1 ⟨v, rfl, _, hb1⟩
     have hs1 := hs.below hb1 hs.lt
     have hB1 := bstep hB hB.size hb1
     clear ks hs hB hb1
     cases hch : (chain s.rs n (k : Int)).isSome
     ·
      go_wp2
      go_ret
      exact .mk (by rw [stOk_chain (i := k) (by rw [HL.out]; exact hlt) (by rw [HL.out]; exact hch)]; rfl) hB1
     ·
      have HCH := Lib.hid hch; clear hch
      go_wp2
      go_roundw
      case rel =>
       refine ⟨k + 1, by omega, by go_num, hB1, hs1, fun j hj => ?_⟩
       by_cases hjk : j < k
       · exact HAL.out j hjk
       ·
        obtain rfl : j = k := by omega
        exact HCH.out
      case measure => simp [intOf]; omega
    ·
     have g1 : ¬ (k : Int) < (n : Int) := by omega
     obtain rfl : n = k := by omega
     have HOK := Lib.hid (show stOk s = true by
      simp only [stOk, HH.out, HIN.out, Bool.true_and, List.all_eq_true]
      intro j hj
      rw [HL.out] at hj ⊢
      exact HAL.out j (List.mem_range.1 hj))
     go_wp2
     go_ret
     exact .mk (by rw [HOK.out]; rfl) hB
end Go.Proofs.YthpckpnlohfcbaaGreatDoor

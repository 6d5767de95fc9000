/-
 The last region of a step, of the model: the store and the hand are laid into the results' variables.
-/
import Derived.Test.YthpckpnlohfcbaaGreatDoorTail
namespace Go.Proofs.YthpckpnlohfcbaaGreatDoor
set_option linter.unusedSimpArgs false
set_option linter.unusedVariables false
open Go.RowKit
attribute [local go_sem] OpUpon
attribute [local go_sem ↓] Go.wp_at_zero Go.wp_at_succ
theorem ztake10 {p : Prop} (h : p := by
 clear hq2
 intro _ _ _ _ _ _ _ W' hB k7 k8 hG _
 replace k7 := k7.cell
 replace k8 := k8.cell
 go_step
 go_wp2
 refine bodyPost_ret (v := .tuple #[stV s (some ⟨b, 0, none⟩) n cap, hdV h2, .bool (h2.ok)]) (by simp [results, Tryz.results51, go_sem, k7, k8, stV, hdV]) rfl ⟨(some ⟨b, 0, none⟩), n, cap, by rw [HV.out], ?_, hB⟩
 rw [HV.out]
 exact hG.cut.mono (by omega) (Nat.le_refl _)) : p := h -- a1b97dd3
theorem ztake11 {p : Prop} (h : p := by
 go_light
 intro L σ W' hcl hL hC hw hne
 have e1 := wV hw 1 rfl
 clear hw hne
 have HC := Lib.hid hC
 obtain ⟨hB, hx, hy, hG, hM, ⟨_, _, _, _, _, hz⟩, hz_o, ⟨_, _, _, _, _, _, _, _, _, _, _, _, hw_⟩, hw__o⟩ := hC
 clear hcl hL
 have kc_ := hw_.cell
 have kf_ := hw_.frozen
 clear hB hx hy hG hM hz hz_o hw_ hw__o
 refine OpGoes.go fun K hK => ?_
 go_simp
 obtain ⟨hB, hx, hy, hG, hM, ⟨_, _, _, _, _, hz⟩, hz_o, ⟨_, _, _, _, _, _, _, _, _, _, _, _, hw_⟩, hw__o⟩ := HC.out
 have hset := sets_all (us := [.int .i64 h2.at_, .int .i64 h2.v, .int .i64 h2.r, .int .i64 h2.t, .bool h2.seen.s, .int .i64 h2.seen.n, .bool h2.seen.f, .int .i64 h2.seen.v, .int .i64 h2.tr, .int .i64 h2.sp, .bool h2.ag, .int .i64 h2.re]) hw_ rfl
 refine hK undef (setCells W' (w.heap.size + 1 + 1 + 1) 0 [.int .i64 h2.at_, .int .i64 h2.v, .int .i64 h2.r, .int .i64 h2.t, .bool h2.seen.s, .int .i64 h2.seen.n, .bool h2.seen.f, .int .i64 h2.seen.v, .int .i64 h2.tr, .int .i64 h2.sp, .bool h2.ag, .int .i64 h2.re]) ⟨⟨(Below.setCells (by omega) _ 0 hB), (BoxAt.sets_ne _ 0 hx (by omega)), (BoxAt.sets_ne _ 0 hy (by omega)), (RgsW.sts hG (by omega) _ 0), (size_sts hM _ 0), ⟨_, _, _, _, _, (BoxAt.sets_ne _ 0 hz (by omega))⟩, fun h => (BoxAt.sets_ne _ 0 (hz_o (by simpa [upd] using h)) (by omega)), ⟨_, _, _, _, _, _, _, _, _, _, _, _, hset⟩, fun h => absurd h (by simp [upd])⟩, hset, Nat.le_of_eq (sets_size _ _ _).symm, keepV ?_⟩
 exact ⟨fun _ _ hR => (BoxAt.sets_ne _ 0 hR (by omega)), fun h => absurd rfl h, trivial⟩) : p := h -- 4d442997
theorem ztake12 {p : Prop} (h : p := by
 go_light
 intro L σ W' hcl hL hC hw hne
 have e0 := wV hw 0 rfl
 clear hw hne
 have HC := Lib.hid hC
 obtain ⟨hB, hx, hy, hG, hM, ⟨_, _, _, _, _, hz⟩, hz_o, ⟨_, _, _, _, _, _, _, _, _, _, _, _, hw_⟩, hw__o⟩ := hC
 clear hcl hL
 have kc_ := hz.cell
 have kf_ := hz.frozen
 clear hB hx hy hG hM hz hz_o hw_ hw__o
 refine OpGoes.go fun K hK => ?_
 go_simp
 obtain ⟨hB, hx, hy, hG, hM, ⟨_, _, _, _, _, hz⟩, hz_o, ⟨_, _, _, _, _, _, _, _, _, _, _, _, hw_⟩, hw__o⟩ := HC.out
 have hset := sets_all (us := [.int .i64 s2.rd, .int .i64 s2.mo, .slice A2 n2 c2, .int .i64 s2.fi, .int .i64 s2.la]) hz rfl
 refine hK undef (setCells W' (w.heap.size + 1 + 1) 0 [.int .i64 s2.rd, .int .i64 s2.mo, .slice A2 n2 c2, .int .i64 s2.fi, .int .i64 s2.la]) ⟨⟨(Below.setCells (by omega) _ 0 hB), (BoxAt.sets_ne _ 0 hx (by omega)), (BoxAt.sets_ne _ 0 hy (by omega)), (RgsW.sts hG (by omega) _ 0), (size_sts hM _ 0), ⟨_, _, _, _, _, hset⟩, fun h => absurd h (by simp [upd]), ⟨_, _, _, _, _, _, _, _, _, _, _, _, (BoxAt.sets_ne _ 0 hw_ (by omega))⟩, fun h => (BoxAt.sets_ne _ 0 (hw__o (by simpa [upd] using h)) (by omega))⟩, hset, Nat.le_of_eq (sets_size _ _ _).symm, keepV ?_⟩
 exact ⟨fun h => absurd rfl h, fun _ _ hR => (BoxAt.sets_ne _ 0 hR (by omega)), trivial⟩) : p := h -- 484bc327
theorem ztake13 {p : Prop} (h : p := by
 clear hw hcl hL hC
 refine OpGoes.go fun K hK => ?_
 go_simp
 exact hK _ _ ⟨rfl, rfl⟩) : p := h -- ee92c020
theorem ztake14 {p : Prop} (h : p := by
 intro σ L W' hall hC hRR
 obtain ⟨hB, hx, hy, hG, hM, ⟨_, _, _, _, _, hz⟩, hz_o, ⟨_, _, _, _, _, _, _, _, _, _, _, _, hw_⟩, hw__o⟩ := hC
 have s7 := dE hRR 7 rfl
 have s8 := dE hRR 8 rfl
 have e9 := dV hRR 9 rfl
 clear hRR
 simp only [lexAll]
 go_simp
 exact hQ _ _ _ _ _ _ _ _ hB s7 s8 hG (Nat.le_trans hhi2 hM)) : p := h -- 72a0e512
theorem ztake15 {p : Prop} (h : p := by
 intro L L' W' hLL hC
 obtain ⟨hB, hx, hy, hG, hM, ⟨_, _, _, _, _, hz⟩, hz_o, ⟨_, _, _, _, _, _, _, _, _, _, _, _, hw_⟩, hw__o⟩ := hC
 exact ⟨hB, hx, hy, hG, hM, ⟨_, _, _, _, _, hz⟩, fun h => hz_o (hLL _ h), ⟨_, _, _, _, _, _, _, _, _, _, _, _, hw_⟩, fun h => hw__o (hLL _ h)⟩) : p := h -- 81b9a1d4

def t7TV (s2 : St) (N n2 c2 : Nat) (A2 : Option Addr) (h2 : Hd) : List Sl := [.v (.agg #[.int .i64 s2.rd, .int .i64 s2.mo, .slice A2 n2 c2, .int .i64 s2.fi, .int .i64 s2.la]),
 .v (.agg #[.int .i64 h2.at_, .int .i64 h2.v, .int .i64 h2.r, .int .i64 h2.t, .bool h2.seen.s, .int .i64 h2.seen.n, .bool h2.seen.f, .int .i64 h2.seen.v, .int .i64 h2.tr, .int .i64 h2.sp, .bool h2.ag, .int .i64 h2.re]),
 .v (.bool true),
 .v (.bool true),
 .v (.agg #[.int .i64 h2.at_, .int .i64 h2.v, .int .i64 h2.r, .int .i64 h2.t, .bool h2.seen.s, .int .i64 h2.seen.n, .bool h2.seen.f, .int .i64 h2.seen.v, .int .i64 h2.tr, .int .i64 h2.sp, .bool h2.ag, .int .i64 h2.re]),
 .v (.bool h2.ok),
 .v (.bool h2.ok),
 .e fun σ w => BoxAt w (N + 1 + 1) #[.int .i64 s2.rd, .int .i64 s2.mo, .slice A2 n2 c2, .int .i64 s2.fi, .int .i64 s2.la] 32,
 .e fun σ w => BoxAt w (N + 1 + 1 + 1) #[.int .i64 h2.at_, .int .i64 h2.v, .int .i64 h2.r, .int .i64 h2.t, .bool h2.seen.s, .int .i64 h2.seen.n, .bool h2.seen.f, .int .i64 h2.seen.v, .int .i64 h2.tr, .int .i64 h2.sp, .bool h2.ag, .int .i64 h2.re] 35,
 .v (.bool h2.ok)]
set_option maxRecDepth 100000 in
set_option maxHeartbeats 4000000 in
theorem t7T_wp {Q : Exit → Act → World → Prop} {l : List Oper} (w : World) (s2 : St) (lo2 hi2 : Nat) (A2 : Option Addr) (n2 c2 : Nat) (h2 : Hd) {W : World} {x0 x1 x6 x7 x8 x10 x11 x12 x13 x14 x15 x16 x17 x18 x19 x20 x21 x22 x23 x24 x25 x26 x27 x28 x29 x30 x31 x32 x33 x34 x35 x36 x37 x38 x39 x40 x41 x42 x43 x44 x45 x46 x47 x48 x49 x50 x51 x52 x53 x54 x55 x56 x57 x58 x59 x60 x61 x62 x63 x64 x65 x66 x67 x68 x69 x70 x71 x72 x73 x74 x75 x76 x77 x78 x79 x80 x81 x82 x83 x84 x85 x86 x87 x88 x89 x90 x91 x92 x93 x94 x95 x96 x97 x98 x99 x100 x101 x102 x103 x104 x105 x106 x107 x108 x109 x110 x111 x112 x113 x114 x115 x116 x117 x118 x119 x120 x121 x122 x123 x124 x125 x126 x127 x128 x129 x130 x131 x132 x133 x134 x135 x136 x137 x138 x139 x140 x141 x142 x143 x144 x145 x146 x147 x148 x149 x150 x151 x152 x153 x154 x155 x156 x157 x158 x159 x160 x161 x162 x163 x164 x165 x166 x167 x168 x169 x170 x171 x172 x173 x174 x175 x176 x177 x178 x179 x180 x181 x182 x183 : Value} (hl : l = opsAt Tryz.f51 43) (hd : hi2 ≤ w.heap.size ∨ w.heap.size + 4 ≤ lo2)
  (hI : Below w.heap.size w W ∧ BoxAt W w.heap.size #[.int .i64 s2.rd, .int .i64 s2.mo, .slice A2 n2 c2, .int .i64 s2.fi, .int .i64 s2.la] 32 ∧ BoxAt W (w.heap.size + 1) #[.int .i64 h2.at_, .int .i64 h2.v, .int .i64 h2.r, .int .i64 h2.t, .bool h2.seen.s, .int .i64 h2.seen.n, .bool h2.seen.f, .int .i64 h2.seen.v, .int .i64 h2.tr, .int .i64 h2.sp, .bool h2.ag, .int .i64 h2.re] 35 ∧ BoxAt W (w.heap.size + 1 + 1) #[.int .i64 0, .int .i64 0, .slice none 0 0, .int .i64 0, .int .i64 0] 32 ∧ BoxAt W (w.heap.size + 1 + 1 + 1) #[.int .i64 0, .int .i64 0, .int .i64 0, .int .i64 0, .bool false, .int .i64 0, .bool false, .int .i64 0, .int .i64 0, .int .i64 0, .bool false, .int .i64 0] 35 ∧ RgsW lo2 hi2 W A2 n2 c2 s2.rs ∧ hi2 ≤ W.heap.size)
  (hQ : ∀ (y177 y178 y179 y180 y181 y182 y183 : Value) (W' : World), Below w.heap.size w W' → BoxAt W' (w.heap.size + 1 + 1) #[.int .i64 s2.rd, .int .i64 s2.mo, .slice A2 n2 c2, .int .i64 s2.fi, .int .i64 s2.la] 32 → BoxAt W' (w.heap.size + 1 + 1 + 1) #[.int .i64 h2.at_, .int .i64 h2.v, .int .i64 h2.r, .int .i64 h2.t, .bool h2.seen.s, .int .i64 h2.seen.n, .bool h2.seen.f, .int .i64 h2.seen.v, .int .i64 h2.tr, .int .i64 h2.sp, .bool h2.ag, .int .i64 h2.re] 35 → RgsW lo2 hi2 W' A2 n2 c2 s2.rs → hi2 ≤ W'.heap.size → Q .normal ⟨#[x0, x1, .pointer (some ⟨w.heap.size, 0, none⟩), .pointer (some ⟨w.heap.size + 1, 0, none⟩), .pointer (some ⟨w.heap.size + 1 + 1, 0, none⟩), .pointer (some ⟨w.heap.size + 1 + 1 + 1, 0, none⟩), .bool (h2.ok), x7, x8, .bool true, x10, x11, x12, x13, x14, x15, x16, x17, x18, x19, x20, x21, x22, x23, x24, x25, x26, x27, x28, x29, x30, x31, x32, x33, x34, x35, x36, x37, x38, x39, x40, x41, x42, x43, x44, x45, x46, x47, x48, x49, x50, x51, x52, x53, x54, x55, x56, x57, x58, x59, x60, x61, x62, x63, x64, x65, x66, x67, x68, x69, x70, x71, x72, x73, x74, x75, x76, x77, x78, x79, x80, x81, x82, x83, x84, x85, x86, x87, x88, x89, x90, x91, x92, x93, x94, x95, x96, x97, x98, x99, x100, x101, x102, x103, x104, x105, x106, x107, x108, x109, x110, x111, x112, x113, x114, x115, x116, x117, x118, x119, x120, x121, x122, x123, x124, x125, x126, x127, x128, x129, x130, x131, x132, x133, x134, x135, x136, x137, x138, x139, x140, x141, x142, x143, x144, x145, x146, x147, x148, x149, x150, x151, x152, x153, x154, x155, x156, x157, x158, x159, x160, x161, x162, x163, x164, x165, x166, x167, x168, x169, x170, x171, x172, x173, x174, x175, x176, y177, y178, y179, y180, y181, y182, y183], []⟩ W') :
  (Code.region 43 l.toArray true).wp Tryz.prog Q ⟨#[x0, x1, .pointer (some ⟨w.heap.size, 0, none⟩), .pointer (some ⟨w.heap.size + 1, 0, none⟩), .pointer (some ⟨w.heap.size + 1 + 1, 0, none⟩), .pointer (some ⟨w.heap.size + 1 + 1 + 1, 0, none⟩), x6, x7, x8, .bool true, x10, x11, x12, x13, x14, x15, x16, x17, x18, x19, x20, x21, x22, x23, x24, x25, x26, x27, x28, x29, x30, x31, x32, x33, x34, x35, x36, x37, x38, x39, x40, x41, x42, x43, x44, x45, x46, x47, x48, x49, x50, x51, x52, x53, x54, x55, x56, x57, x58, x59, x60, x61, x62, x63, x64, x65, x66, x67, x68, x69, x70, x71, x72, x73, x74, x75, x76, x77, x78, x79, x80, x81, x82, x83, x84, x85, x86, x87, x88, x89, x90, x91, x92, x93, x94, x95, x96, x97, x98, x99, x100, x101, x102, x103, x104, x105, x106, x107, x108, x109, x110, x111, x112, x113, x114, x115, x116, x117, x118, x119, x120, x121, x122, x123, x124, x125, x126, x127, x128, x129, x130, x131, x132, x133, x134, x135, x136, x137, x138, x139, x140, x141, x142, x143, x144, x145, x146, x147, x148, x149, x150, x151, x152, x153, x154, x155, x156, x157, x158, x159, x160, x161, x162, x163, x164, x165, x166, x167, x168, x169, x170, x171, x172, x173, x174, x175, x176, x177, x178, x179, x180, x181, x182, x183], []⟩ W := by
 have hl' : l = [_, _, _, _, _, _, _, _, _, _] := hl
 subst hl'
 clear hl
 obtain ⟨hB, hx, hy, hz, hw_, hG, hhi⟩ := hI
 have lw := hw_.lt
 obtain ⟨M, hMe⟩ : ∃ M, M = W.heap.size := ⟨_, rfl⟩
 have hM : M ≤ W.heap.size := by omega
 have hhi2 : hi2 ≤ M := by omega
 clear hMe
 refine wp_region2v (fun w w' => Below w.heap.size w w') (fun _ _ h => h.size) (fun _ => Below.refl _ _) (fun L W' => Below w.heap.size w W' ∧ BoxAt W' w.heap.size #[.int .i64 s2.rd, .int .i64 s2.mo, .slice A2 n2 c2, .int .i64 s2.fi, .int .i64 s2.la] 32 ∧ BoxAt W' (w.heap.size + 1) #[.int .i64 h2.at_, .int .i64 h2.v, .int .i64 h2.r, .int .i64 h2.t, .bool h2.seen.s, .int .i64 h2.seen.n, .bool h2.seen.f, .int .i64 h2.seen.v, .int .i64 h2.tr, .int .i64 h2.sp, .bool h2.ag, .int .i64 h2.re] 35 ∧ RgsW lo2 hi2 W' A2 n2 c2 s2.rs ∧ M ≤ W'.heap.size ∧ (∃ x0 x1 x2 x3 x4, BoxAt W' (w.heap.size + 1 + 1) #[x0, x1, x2, x3, x4] 32) ∧ (L 7 = false → BoxAt W' (w.heap.size + 1 + 1) #[.int .i64 0, .int .i64 0, .slice none 0 0, .int .i64 0, .int .i64 0] 32) ∧ (∃ x0 x1 x2 x3 x4 x5 x6 x7 x8 x9 x10 x11, BoxAt W' (w.heap.size + 1 + 1 + 1) #[x0, x1, x2, x3, x4, x5, x6, x7, x8, x9, x10, x11] 35) ∧ (L 8 = false → BoxAt W' (w.heap.size + 1 + 1 + 1) #[.int .i64 0, .int .i64 0, .int .i64 0, .int .i64 0, .bool false, .int .i64 0, .bool false, .int .i64 0, .int .i64 0, .int .i64 0, .bool false, .int .i64 0] 35)) (t7TV s2 w.heap.size n2 c2 A2 h2) (fun j => [0, 0, 0, 0, 0, 0, 0, 1, 1, 0].getD j 0) [] (by kernel_rfl) (by kernel_rfl) ?_ ?_ ?_
  (.still rfl ?a0 <| .still rfl ?a1 <| .still rfl ?a2 <| .still rfl ?a3 <| .still rfl ?a4 <| .grow rfl ?a5 <| .still rfl ?a6 <| .store rfl ?a7 <| .store rfl ?a8 <| .still rfl ?a9 <| .nil) ?_ ?_
 · exact ⟨fun _ _ _ _ h => h, fun _ _ _ _ h => h, trivial⟩
 · exact ⟨fun σ w w' hb hR => hR.below hb hR.lt, fun σ w w' hb hR => hR.below hb hR.lt, trivial⟩
 · exact ⟨hB.drew, hx, hy, hG, hM, ⟨_, _, _, _, _, hz⟩, fun _ => hz, ⟨_, _, _, _, _, _, _, _, _, _, _, _, hw_⟩, fun _ => hw_⟩
 case a0 =>
  go_light
  intro L σ W' hcl hL hC hw
  have ks := hC.2.1.cell
  exact ztake13
 case a1 | a4 =>
  go_light
  intro L σ W' hcl hL hC hw
  try have e3 := wT hw 3 rfl
  have kh := hC.2.2.1.cell
  exact ztake13
 case a2 | a3 | a6 | a9 =>
  go_light
  intro L σ W' hcl hL hC hw
  try have e2 := wT hw 2 rfl
  try have e3 := wT hw 3 rfl
  try have e5 := wT hw 5 rfl
  try have e6 := wT hw 6 rfl
  exact ztake13
 case a5 =>
  go_light
  intro L σ W' hcl hL hC hw
  have e3 := wV hw 3 rfl
  have e4 := wV hw 4 rfl
  clear hw
  have HC := Lib.hid hC
  clear hC
  clear hcl hL
  refine OpGoes.go fun K hK => ?_
  go_simp
  obtain ⟨hB, hx, hy, hG, hM, ⟨_, _, _, _, _, hz⟩, hz_o, ⟨_, _, _, _, _, _, _, _, _, _, _, _, hw_⟩, hw__o⟩ := HC.out
  refine (shandOk_any h2 _).mono ?_
  rintro e w1 ⟨rfl, hb1⟩
  exact ⟨_, rfl, hK _ _ ⟨⟨bstep hB hB.size hb1, hx.below hb1 hx.lt, hy.below hb1 hy.lt, hG.below hb1 (Nat.le_trans hhi2 hM), Nat.le_trans hM hb1.size, ⟨_, _, _, _, _, hz.below hb1 hz.lt⟩, fun h => (hz_o (by simpa [upd] using h)).below hb1 (hz_o (by simpa [upd] using h)).lt, ⟨_, _, _, _, _, _, _, _, _, _, _, _, hw_.below hb1 hw_.lt⟩, fun h => (hw__o (by simpa [upd] using h)).below hb1 (hw__o (by simpa [upd] using h)).lt⟩, rfl, hb1⟩⟩
 case a7 =>
  exact ztake12
 case a8 =>
  exact ztake11
 ·
  exact ztake15
 ·
  exact ztake14
def t7FV (s2 : St) (N n2 c2 : Nat) (A2 : Option Addr) (h2 : Hd) : List Sl := [.v (.agg #[.int .i64 s2.rd, .int .i64 s2.mo, .slice A2 n2 c2, .int .i64 s2.fi, .int .i64 s2.la]),
 .v (.agg #[.int .i64 h2.at_, .int .i64 h2.v, .int .i64 h2.r, .int .i64 h2.t, .bool h2.seen.s, .int .i64 h2.seen.n, .bool h2.seen.f, .int .i64 h2.seen.v, .int .i64 h2.tr, .int .i64 h2.sp, .bool h2.ag, .int .i64 h2.re]),
 .v (.bool false),
 .v (.bool false),
 .v undef,
 .v undef,
 .v (.bool false),
 .e fun σ w => BoxAt w (N + 1 + 1) #[.int .i64 s2.rd, .int .i64 s2.mo, .slice A2 n2 c2, .int .i64 s2.fi, .int .i64 s2.la] 32,
 .e fun σ w => BoxAt w (N + 1 + 1 + 1) #[.int .i64 h2.at_, .int .i64 h2.v, .int .i64 h2.r, .int .i64 h2.t, .bool h2.seen.s, .int .i64 h2.seen.n, .bool h2.seen.f, .int .i64 h2.seen.v, .int .i64 h2.tr, .int .i64 h2.sp, .bool h2.ag, .int .i64 h2.re] 35,
 .v (.bool false)]
set_option maxRecDepth 100000 in
set_option maxHeartbeats 4000000 in
theorem t7F_wp {Q : Exit → Act → World → Prop} {l : List Oper} (w : World) (s2 : St) (lo2 hi2 : Nat) (A2 : Option Addr) (n2 c2 : Nat) (h2 : Hd) {W : World} {x0 x1 x6 x7 x8 x10 x11 x12 x13 x14 x15 x16 x17 x18 x19 x20 x21 x22 x23 x24 x25 x26 x27 x28 x29 x30 x31 x32 x33 x34 x35 x36 x37 x38 x39 x40 x41 x42 x43 x44 x45 x46 x47 x48 x49 x50 x51 x52 x53 x54 x55 x56 x57 x58 x59 x60 x61 x62 x63 x64 x65 x66 x67 x68 x69 x70 x71 x72 x73 x74 x75 x76 x77 x78 x79 x80 x81 x82 x83 x84 x85 x86 x87 x88 x89 x90 x91 x92 x93 x94 x95 x96 x97 x98 x99 x100 x101 x102 x103 x104 x105 x106 x107 x108 x109 x110 x111 x112 x113 x114 x115 x116 x117 x118 x119 x120 x121 x122 x123 x124 x125 x126 x127 x128 x129 x130 x131 x132 x133 x134 x135 x136 x137 x138 x139 x140 x141 x142 x143 x144 x145 x146 x147 x148 x149 x150 x151 x152 x153 x154 x155 x156 x157 x158 x159 x160 x161 x162 x163 x164 x165 x166 x167 x168 x169 x170 x171 x172 x173 x174 x175 x176 x177 x178 x179 x180 x181 x182 x183 : Value} (hl : l = opsAt Tryz.f51 43) (hd : hi2 ≤ w.heap.size ∨ w.heap.size + 4 ≤ lo2)
  (hI : Below w.heap.size w W ∧ BoxAt W w.heap.size #[.int .i64 s2.rd, .int .i64 s2.mo, .slice A2 n2 c2, .int .i64 s2.fi, .int .i64 s2.la] 32 ∧ BoxAt W (w.heap.size + 1) #[.int .i64 h2.at_, .int .i64 h2.v, .int .i64 h2.r, .int .i64 h2.t, .bool h2.seen.s, .int .i64 h2.seen.n, .bool h2.seen.f, .int .i64 h2.seen.v, .int .i64 h2.tr, .int .i64 h2.sp, .bool h2.ag, .int .i64 h2.re] 35 ∧ BoxAt W (w.heap.size + 1 + 1) #[.int .i64 0, .int .i64 0, .slice none 0 0, .int .i64 0, .int .i64 0] 32 ∧ BoxAt W (w.heap.size + 1 + 1 + 1) #[.int .i64 0, .int .i64 0, .int .i64 0, .int .i64 0, .bool false, .int .i64 0, .bool false, .int .i64 0, .int .i64 0, .int .i64 0, .bool false, .int .i64 0] 35 ∧ RgsW lo2 hi2 W A2 n2 c2 s2.rs ∧ hi2 ≤ W.heap.size)
  (hQ : ∀ (y177 y178 y179 y180 y181 y182 y183 : Value) (W' : World), Below w.heap.size w W' → BoxAt W' (w.heap.size + 1 + 1) #[.int .i64 s2.rd, .int .i64 s2.mo, .slice A2 n2 c2, .int .i64 s2.fi, .int .i64 s2.la] 32 → BoxAt W' (w.heap.size + 1 + 1 + 1) #[.int .i64 h2.at_, .int .i64 h2.v, .int .i64 h2.r, .int .i64 h2.t, .bool h2.seen.s, .int .i64 h2.seen.n, .bool h2.seen.f, .int .i64 h2.seen.v, .int .i64 h2.tr, .int .i64 h2.sp, .bool h2.ag, .int .i64 h2.re] 35 → RgsW lo2 hi2 W' A2 n2 c2 s2.rs → hi2 ≤ W'.heap.size → Q .normal ⟨#[x0, x1, .pointer (some ⟨w.heap.size, 0, none⟩), .pointer (some ⟨w.heap.size + 1, 0, none⟩), .pointer (some ⟨w.heap.size + 1 + 1, 0, none⟩), .pointer (some ⟨w.heap.size + 1 + 1 + 1, 0, none⟩), .bool false, x7, x8, .bool false, x10, x11, x12, x13, x14, x15, x16, x17, x18, x19, x20, x21, x22, x23, x24, x25, x26, x27, x28, x29, x30, x31, x32, x33, x34, x35, x36, x37, x38, x39, x40, x41, x42, x43, x44, x45, x46, x47, x48, x49, x50, x51, x52, x53, x54, x55, x56, x57, x58, x59, x60, x61, x62, x63, x64, x65, x66, x67, x68, x69, x70, x71, x72, x73, x74, x75, x76, x77, x78, x79, x80, x81, x82, x83, x84, x85, x86, x87, x88, x89, x90, x91, x92, x93, x94, x95, x96, x97, x98, x99, x100, x101, x102, x103, x104, x105, x106, x107, x108, x109, x110, x111, x112, x113, x114, x115, x116, x117, x118, x119, x120, x121, x122, x123, x124, x125, x126, x127, x128, x129, x130, x131, x132, x133, x134, x135, x136, x137, x138, x139, x140, x141, x142, x143, x144, x145, x146, x147, x148, x149, x150, x151, x152, x153, x154, x155, x156, x157, x158, x159, x160, x161, x162, x163, x164, x165, x166, x167, x168, x169, x170, x171, x172, x173, x174, x175, x176, y177, y178, y179, y180, y181, y182, y183], []⟩ W') :
  (Code.region 43 l.toArray true).wp Tryz.prog Q ⟨#[x0, x1, .pointer (some ⟨w.heap.size, 0, none⟩), .pointer (some ⟨w.heap.size + 1, 0, none⟩), .pointer (some ⟨w.heap.size + 1 + 1, 0, none⟩), .pointer (some ⟨w.heap.size + 1 + 1 + 1, 0, none⟩), x6, x7, x8, .bool false, x10, x11, x12, x13, x14, x15, x16, x17, x18, x19, x20, x21, x22, x23, x24, x25, x26, x27, x28, x29, x30, x31, x32, x33, x34, x35, x36, x37, x38, x39, x40, x41, x42, x43, x44, x45, x46, x47, x48, x49, x50, x51, x52, x53, x54, x55, x56, x57, x58, x59, x60, x61, x62, x63, x64, x65, x66, x67, x68, x69, x70, x71, x72, x73, x74, x75, x76, x77, x78, x79, x80, x81, x82, x83, x84, x85, x86, x87, x88, x89, x90, x91, x92, x93, x94, x95, x96, x97, x98, x99, x100, x101, x102, x103, x104, x105, x106, x107, x108, x109, x110, x111, x112, x113, x114, x115, x116, x117, x118, x119, x120, x121, x122, x123, x124, x125, x126, x127, x128, x129, x130, x131, x132, x133, x134, x135, x136, x137, x138, x139, x140, x141, x142, x143, x144, x145, x146, x147, x148, x149, x150, x151, x152, x153, x154, x155, x156, x157, x158, x159, x160, x161, x162, x163, x164, x165, x166, x167, x168, x169, x170, x171, x172, x173, x174, x175, x176, x177, x178, x179, x180, x181, x182, x183], []⟩ W := by
 have hl' : l = [_, _, _, _, _, _, _, _, _, _] := hl
 subst hl'
 clear hl
 obtain ⟨hB, hx, hy, hz, hw_, hG, hhi⟩ := hI
 have lw := hw_.lt
 obtain ⟨M, hMe⟩ : ∃ M, M = W.heap.size := ⟨_, rfl⟩
 have hM : M ≤ W.heap.size := by omega
 have hhi2 : hi2 ≤ M := by omega
 clear hMe
 refine wp_region2v (fun w w' => Below w.heap.size w w') (fun _ _ h => h.size) (fun _ => Below.refl _ _) (fun L W' => Below w.heap.size w W' ∧ BoxAt W' w.heap.size #[.int .i64 s2.rd, .int .i64 s2.mo, .slice A2 n2 c2, .int .i64 s2.fi, .int .i64 s2.la] 32 ∧ BoxAt W' (w.heap.size + 1) #[.int .i64 h2.at_, .int .i64 h2.v, .int .i64 h2.r, .int .i64 h2.t, .bool h2.seen.s, .int .i64 h2.seen.n, .bool h2.seen.f, .int .i64 h2.seen.v, .int .i64 h2.tr, .int .i64 h2.sp, .bool h2.ag, .int .i64 h2.re] 35 ∧ RgsW lo2 hi2 W' A2 n2 c2 s2.rs ∧ M ≤ W'.heap.size ∧ (∃ x0 x1 x2 x3 x4, BoxAt W' (w.heap.size + 1 + 1) #[x0, x1, x2, x3, x4] 32) ∧ (L 7 = false → BoxAt W' (w.heap.size + 1 + 1) #[.int .i64 0, .int .i64 0, .slice none 0 0, .int .i64 0, .int .i64 0] 32) ∧ (∃ x0 x1 x2 x3 x4 x5 x6 x7 x8 x9 x10 x11, BoxAt W' (w.heap.size + 1 + 1 + 1) #[x0, x1, x2, x3, x4, x5, x6, x7, x8, x9, x10, x11] 35) ∧ (L 8 = false → BoxAt W' (w.heap.size + 1 + 1 + 1) #[.int .i64 0, .int .i64 0, .int .i64 0, .int .i64 0, .bool false, .int .i64 0, .bool false, .int .i64 0, .int .i64 0, .int .i64 0, .bool false, .int .i64 0] 35)) (t7FV s2 w.heap.size n2 c2 A2 h2) (fun j => [0, 0, 0, 0, 0, 0, 0, 1, 1, 0].getD j 0) [] (by kernel_rfl) (by kernel_rfl) ?_ ?_ ?_
  (.still rfl ?a0 <| .still rfl ?a1 <| .still rfl ?a2 <| .still rfl ?a3 <| .still rfl ?a4 <| .still rfl ?a5 <| .still rfl ?a6 <| .store rfl ?a7 <| .store rfl ?a8 <| .still rfl ?a9 <| .nil) ?_ ?_
 · exact ⟨fun _ _ _ _ h => h, fun _ _ _ _ h => h, trivial⟩
 · exact ⟨fun σ w w' hb hR => hR.below hb hR.lt, fun σ w w' hb hR => hR.below hb hR.lt, trivial⟩
 · exact ⟨hB.drew, hx, hy, hG, hM, ⟨_, _, _, _, _, hz⟩, fun _ => hz, ⟨_, _, _, _, _, _, _, _, _, _, _, _, hw_⟩, fun _ => hw_⟩
 case a0 =>
  go_light
  intro L σ W' hcl hL hC hw
  have ks := hC.2.1.cell
  exact ztake13
 case a1 =>
  go_light
  intro L σ W' hcl hL hC hw
  have kh := hC.2.2.1.cell
  exact ztake13
 case a2 | a3 | a4 | a5 | a6 | a9 =>
  go_light
  intro L σ W' hcl hL hC hw
  try have e2 := wT hw 2 rfl
  try have e3 := wT hw 3 rfl
  try have e4 := wT hw 4 rfl
  try have e5 := wT hw 5 rfl
  try have e6 := wT hw 6 rfl
  exact ztake13
 case a7 =>
  exact ztake12
 case a8 =>
  exact ztake11
 ·
  exact ztake15
 ·
  exact ztake14
end Go.Proofs.YthpckpnlohfcbaaGreatDoor
namespace Go.Proofs.YthpckpnlohfcbaaGreatDoor
set_option linter.unusedSimpArgs false
set_option linter.unusedVariables false
open Go.RowKit
set_option linter.unusedVariables false
attribute [local go_sem] OpUpon
attribute [local go_sem ↓] Go.wp_at_zero Go.wp_at_succ
def take13 (s : St) (h : Hd) : St × Hd × Bool := fin true s { h with r := s.fi, at_ := 14 }
def take14 (s : St) (h : Hd) : St × Hd × Bool := fin (decide (0 ≤ (takeTicket s h.r).2)) (takeTicket s h.r).1 { h with t := (takeTicket s h.r).2, at_ := 15 }
def take15 (s : St) (h : Hd) : St × Hd × Bool := fin true s { h with seen := lookAt s h, at_ := if h.t < (lookAt s h).n then 19 else if (lookAt s h).f then (if (lookAt s h).n = h.t then 16 else 17) else 18 }
def take19 (s : St) (h : Hd) : St × Hd × Bool := fin true s { h with at_ := if (s.at h.r).t ≤ h.t + 1 then 20 else 14 }
def take20 (s : St) (h : Hd) : St × Hd × Bool := fin true s { h with tr := (s.at h.r).h, at_ := 21 }
set_option maxRecDepth 100000 in
set_option maxHeartbeats 4000000 in
theorem l7Take_13 (s : St) (A : Option Addr) (n cap lo hi : Nat) (v r t : Int) (seen : Pl) (tr sp : Int) (ag : Bool) (re : Int) (w : World) (hs : RgsW lo hi w A n cap s.rs) (hh : hi ≤ w.heap.size) (hlo : lo ≤ w.heap.size) (hok : stOk s = true) (hrb : ringB s r = true) :
  Calls Tryz.prog 51 #[stV s A n cap, hdV ⟨13, v, r, t, seen, tr, sp, ag, re⟩] w (RetSHB lo (take13 s ⟨13, v, r, t, seen, tr, sp, ag, re⟩) w) := by
 have HOK := Lib.hid hok
 have HRB := Lib.hid hrb
 have HLN := Lib.hid hs.1
 have HNT := Lib.hid (stOk_neat hok)
 obtain ⟨z0, z1, z2⟩ := ringB_at HLN.out hrb
 clear hok hrb
 unfold stV hdV
 dsimp only
 go_enter Tryz.func51, Tryz.ntmps51
 go_upto_region 8 with fail
 refine wp_abs (fun W => Below w.heap.size w W ∧ BoxAt W w.heap.size (aS s A n cap) 32 ∧ BoxAt W (w.heap.size + 1) (dH 13 v r t seen tr sp ag re) 35 ∧ BoxAt W (w.heap.size + 1 + 1) zS 32 ∧ BoxAt W (w.heap.size + 1 + 1 + 1) zH 35) ⟨(((((Below.refl _ _).alloc (Nat.le_refl _) _).alloc (by simp) _).alloc (by simp; omega) _).alloc (by simp; omega) _), (((BoxAt.new _ _ _).alloc _).alloc _).alloc _, ((BoxAt.new' (by simp)).alloc _).alloc _, (BoxAt.new' (by simp)).alloc _, BoxAt.new' (by simp)⟩ ?_
 rintro W0 ⟨hB, hx, hy, hz, hw_⟩
 have lw0 := hw_.lt
 have hs0 := hs.below hB hh
 have kx := hx.cell
 have ky := hy.cell
 have fy := hy.frozen
 go_upto_region 43 with fail
 have HV := Lib.hid (show take13 s ⟨13, v, r, t, seen, tr, sp, ag, re⟩ = (s, (⟨14, v, s.fi, t, seen, tr, sp, ag, re⟩ : Hd), ((⟨14, v, s.fi, t, seen, tr, sp, ag, re⟩ : Hd)).ok) by rfl)
 refine t7T_wp w s lo hi A n cap (⟨14, v, s.fi, t, seen, tr, sp, ag, re⟩ : Hd) (by kernel_rfl) (by omega) ⟨(sc (sc hB)), ((hx.sn).sn), by simpa using ((hy.set 2 (.int .i64 s.fi)).set 0 (.int .i64 14)), ((hz.sn).sn), ((hw_.sn).sn), ((hs0.sr).sr), by simp; omega⟩ ?_
 clear kx ky fy hB hx hy hz hw_ hs0
 generalize hq2 : (⟨14, v, s.fi, t, seen, tr, sp, ag, re⟩ : Hd) = h2 at *
 clear hq2
 intro _ _ _ _ _ _ _ W' hB k7 k8 hG _
 replace k7 := k7.cell
 replace k8 := k8.cell
 go_step
 go_wp2
 refine bodyPost_ret (v := .tuple #[stV s A n cap, hdV h2, .bool (h2.ok)]) (by simp [results, Tryz.results51, go_sem, k7, k8, stV, hdV]) rfl ⟨A, n, cap, by rw [HV.out], ?_, hB⟩
 rw [HV.out]
 exact hG.cut.mono (by omega) (Nat.le_refl _)
set_option maxRecDepth 100000 in
set_option maxHeartbeats 4000000 in
theorem l7Take_20 (s : St) (A : Option Addr) (n cap lo hi : Nat) (v r t : Int) (seen : Pl) (tr sp : Int) (ag : Bool) (re : Int) (w : World) (hs : RgsW lo hi w A n cap s.rs) (hh : hi ≤ w.heap.size) (hlo : lo ≤ w.heap.size) (hok : stOk s = true) (hrb : ringB s r = true) :
  Calls Tryz.prog 51 #[stV s A n cap, hdV ⟨20, v, r, t, seen, tr, sp, ag, re⟩] w (RetSHB lo (take20 s ⟨20, v, r, t, seen, tr, sp, ag, re⟩) w) := by
 have HOK := Lib.hid hok
 have HRB := Lib.hid hrb
 have HLN := Lib.hid hs.1
 have HNT := Lib.hid (stOk_neat hok)
 obtain ⟨z0, z1, z2⟩ := ringB_at HLN.out hrb
 clear hok hrb
 unfold stV hdV
 dsimp only
 go_enter Tryz.func51, Tryz.ntmps51
 go_upto_region 41 with fail
 refine wp_abs (fun W => Below w.heap.size w W ∧ BoxAt W w.heap.size (aS s A n cap) 32 ∧ BoxAt W (w.heap.size + 1) (dH 20 v r t seen tr sp ag re) 35 ∧ BoxAt W (w.heap.size + 1 + 1) zS 32 ∧ BoxAt W (w.heap.size + 1 + 1 + 1) zH 35) ⟨(((((Below.refl _ _).alloc (Nat.le_refl _) _).alloc (by simp) _).alloc (by simp; omega) _).alloc (by simp; omega) _), (((BoxAt.new _ _ _).alloc _).alloc _).alloc _, ((BoxAt.new' (by simp)).alloc _).alloc _, (BoxAt.new' (by simp)).alloc _, BoxAt.new' (by simp)⟩ ?_
 rintro W0 ⟨hB, hx, hy, hz, hw_⟩
 have lw0 := hw_.lt
 have hs0 := hs.below hB hh
 have kx := hx.cell
 have ky := hy.cell
 have fy := hy.frozen
 obtain ⟨b, rg, A', n', cap', rfl, hlb, hbh, hri, c0, c1', c2, c3, c4, hpw⟩ := hs0.at_ z2
 have HAT := Lib.hid (St.at_some (s := s) (z := r) hri)
 have hnum := stOk_nums HOK.out rg (List.mem_of_getElem? hri)
 clear hri
 go_upto_region 43 with fail
 clear c0 c1' c2 c3 c4 hpw hnum
 have HV := Lib.hid (show take20 s ⟨20, v, r, t, seen, tr, sp, ag, re⟩ = (s, (⟨21, v, r, t, seen, rg.h, sp, ag, re⟩ : Hd), ((⟨21, v, r, t, seen, rg.h, sp, ag, re⟩ : Hd)).ok) by simp only [take20, HAT.out]; rfl)
 refine t7T_wp w s lo hi (some ⟨b, 0, none⟩) n cap (⟨21, v, r, t, seen, rg.h, sp, ag, re⟩ : Hd) (by kernel_rfl) (by omega) ⟨(sc (sc hB)), ((hx.sn).sn), by simpa using ((hy.set 8 (.int .i64 rg.h)).set 0 (.int .i64 21)), ((hz.sn).sn), ((hw_.sn).sn), ((hs0.sr).sr), by simp; omega⟩ ?_
 clear kx ky fy hB hx hy hz hw_ hs0
 generalize hq2 : (⟨21, v, r, t, seen, rg.h, sp, ag, re⟩ : Hd) = h2 at *
 exact ztake10
set_option maxRecDepth 100000 in
set_option maxHeartbeats 4000000 in
theorem l7Take_19 (s : St) (A : Option Addr) (n cap lo hi : Nat) (v r t : Int) (seen : Pl) (tr sp : Int) (ag : Bool) (re : Int) (w : World) (hs : RgsW lo hi w A n cap s.rs) (hh : hi ≤ w.heap.size) (hlo : lo ≤ w.heap.size) (hok : stOk s = true) (hrb : ringB s r = true) (ht : 0 ≤ t ∧ t ≤ 1000000) :
  Calls Tryz.prog 51 #[stV s A n cap, hdV ⟨19, v, r, t, seen, tr, sp, ag, re⟩] w (RetSHB lo (take19 s ⟨19, v, r, t, seen, tr, sp, ag, re⟩) w) := by
 have HOK := Lib.hid hok
 have HRB := Lib.hid hrb
 have HLN := Lib.hid hs.1
 have HNT := Lib.hid (stOk_neat hok)
 obtain ⟨z0, z1, z2⟩ := ringB_at HLN.out hrb
 clear hok hrb
 obtain ⟨t0, t1⟩ := ht
 unfold stV hdV
 dsimp only
 go_enter Tryz.func51, Tryz.ntmps51
 go_upto_region 39 with fail
 refine wp_abs (fun W => Below w.heap.size w W ∧ BoxAt W w.heap.size (aS s A n cap) 32 ∧ BoxAt W (w.heap.size + 1) (dH 19 v r t seen tr sp ag re) 35 ∧ BoxAt W (w.heap.size + 1 + 1) zS 32 ∧ BoxAt W (w.heap.size + 1 + 1 + 1) zH 35) ⟨(((((Below.refl _ _).alloc (Nat.le_refl _) _).alloc (by simp) _).alloc (by simp; omega) _).alloc (by simp; omega) _), (((BoxAt.new _ _ _).alloc _).alloc _).alloc _, ((BoxAt.new' (by simp)).alloc _).alloc _, (BoxAt.new' (by simp)).alloc _, BoxAt.new' (by simp)⟩ ?_
 rintro W0 ⟨hB, hx, hy, hz, hw_⟩
 have lw0 := hw_.lt
 have hs0 := hs.below hB hh
 have kx := hx.cell
 have ky := hy.cell
 have fy := hy.frozen
 obtain ⟨b, rg, A', n', cap', rfl, hlb, hbh, hri, c0, c1', c2, c3, c4, hpw⟩ := hs0.at_ z2
 have HAT := Lib.hid (St.at_some (s := s) (z := r) hri)
 have hnum := stOk_nums HOK.out rg (List.mem_of_getElem? hri)
 clear hri
 by_cases hx0 : rg.t ≤ t + 1
 ·
  have HV0 := Lib.hid hx0
  have hd0 : decide (rg.t ≤ t + 1) = true := by simpa using hx0
  go_wp2_with fail
  refine (l7Then_any _ _ _ _).mono ?_
  rintro e w' ⟨rfl, rfl⟩
  dsimp only [if_true]
  go_upto_region 43 with fail
  clear c0 c1' c2 c3 c4 hpw hnum
  have HV := Lib.hid (show take19 s ⟨19, v, r, t, seen, tr, sp, ag, re⟩ = (s, (⟨20, v, r, t, seen, tr, sp, ag, re⟩ : Hd), ((⟨20, v, r, t, seen, tr, sp, ag, re⟩ : Hd)).ok) by unfold take19; dsimp only; rw [HAT.out, if_pos (show rg.t ≤ t + 1 by omega)]; rfl)
  refine t7T_wp w s lo hi (some ⟨b, 0, none⟩) n cap (⟨20, v, r, t, seen, tr, sp, ag, re⟩ : Hd) (by kernel_rfl) (by omega) ⟨(sc hB), (hx.sn), by simpa using (hy.set 0 (.int .i64 20)), (hz.sn), (hw_.sn), (hs0.sr), by simp; omega⟩ ?_
  clear kx ky fy hB hx hy hz hw_ hs0
  generalize hq2 : (⟨20, v, r, t, seen, tr, sp, ag, re⟩ : Hd) = h2 at *
  exact ztake10
 ·
  have HV0 := Lib.hid hx0
  have hd0 : decide (rg.t ≤ t + 1) = false := by simpa using hx0
  go_wp2_with fail
  refine (l7Then_any _ _ _ _).mono ?_
  rintro e w' ⟨rfl, rfl⟩
  dsimp only [if_true]
  go_upto_region 43 with fail
  clear c0 c1' c2 c3 c4 hpw hnum
  have HV := Lib.hid (show take19 s ⟨19, v, r, t, seen, tr, sp, ag, re⟩ = (s, (⟨14, v, r, t, seen, tr, sp, ag, re⟩ : Hd), ((⟨14, v, r, t, seen, tr, sp, ag, re⟩ : Hd)).ok) by unfold take19; dsimp only; rw [HAT.out, if_neg (show ¬ rg.t ≤ t + 1 by omega)]; rfl)
  refine t7T_wp w s lo hi (some ⟨b, 0, none⟩) n cap (⟨14, v, r, t, seen, tr, sp, ag, re⟩ : Hd) (by kernel_rfl) (by omega) ⟨(sc hB), (hx.sn), by simpa using (hy.set 0 (.int .i64 14)), (hz.sn), (hw_.sn), (hs0.sr), by simp; omega⟩ ?_
  clear kx ky fy hB hx hy hz hw_ hs0
  generalize hq2 : (⟨14, v, r, t, seen, tr, sp, ag, re⟩ : Hd) = h2 at *
  exact ztake10
set_option maxRecDepth 100000 in
set_option maxHeartbeats 4000000 in
theorem l7Take_14 (s : St) (A : Option Addr) (n cap lo hi : Nat) (v r t : Int) (seen : Pl) (tr sp : Int) (ag : Bool) (re : Int) (w : World) (hs : RgsW lo hi w A n cap s.rs) (hh : hi ≤ w.heap.size) (hlo : lo ≤ w.heap.size) (hok : stOk s = true) (hrb : ringB s r = true) :
  Calls Tryz.prog 51 #[stV s A n cap, hdV ⟨14, v, r, t, seen, tr, sp, ag, re⟩] w (RetSHB lo (take14 s ⟨14, v, r, t, seen, tr, sp, ag, re⟩) w) := by
 have HOK := Lib.hid hok
 have HRB := Lib.hid hrb
 have HLN := Lib.hid hs.1
 have HNT := Lib.hid (stOk_neat hok)
 obtain ⟨z0, z1, z2⟩ := ringB_at HLN.out hrb
 clear hok hrb
 unfold stV hdV
 dsimp only
 go_enter Tryz.func51, Tryz.ntmps51
 go_upto_region 11 with fail
 refine wp_abs (fun W => Below w.heap.size w W ∧ BoxAt W w.heap.size (aS s A n cap) 32 ∧ BoxAt W (w.heap.size + 1) (dH 14 v r t seen tr sp ag re) 35 ∧ BoxAt W (w.heap.size + 1 + 1) zS 32 ∧ BoxAt W (w.heap.size + 1 + 1 + 1) zH 35) ⟨(((((Below.refl _ _).alloc (Nat.le_refl _) _).alloc (by simp) _).alloc (by simp; omega) _).alloc (by simp; omega) _), (((BoxAt.new _ _ _).alloc _).alloc _).alloc _, ((BoxAt.new' (by simp)).alloc _).alloc _, (BoxAt.new' (by simp)).alloc _, BoxAt.new' (by simp)⟩ ?_
 rintro W0 ⟨hB, hx, hy, hz, hw_⟩
 have lw0 := hw_.lt
 have hs0 := hs.below hB hh
 have kx := hx.cell
 have ky := hy.cell
 have fy := hy.frozen
 go_wp2_with fail
 clear kx ky fy
 refine (stakeTicket_any s A n cap lo hi r _ hs0 (Nat.le_trans hh hB.size) (by have := HNT.out.2.1; have := HLN.out; omega) HNT.out.len).mono ?_
 rintro e w1 ⟨A5, n5, c5, rfl, hG5, hb5⟩
 replace hx := hx.below hb5 hx.lt
 replace hy := hy.below hb5 hy.lt
 replace hz := hz.below hb5 hz.lt
 replace hw_ := hw_.below hb5 hw_.lt
 have h5 := hb5.size
 replace hB := bstep hB hB.size hb5
 clear hb5
 generalize hq5 : takeTicket s r = q at *
 have HQ5 := Lib.hid hq5; clear hq5
 unfold stV
 have kx := hx.cell
 have fx := hx.frozen
 have ky := hy.cell
 have fy := hy.frozen
 by_cases hq0 : 0 ≤ q.2
 ·
  have hq0d : decide (0 ≤ q.2) = true := by simpa using hq0
  have HQ0 := Lib.hid hq0d
  go_upto_region 43 with fail
  clear hq0d
  have HV := Lib.hid (show take14 s ⟨14, v, r, t, seen, tr, sp, ag, re⟩ = (q.1, (⟨15, v, r, q.2, seen, tr, sp, ag, re⟩ : Hd), ((⟨15, v, r, q.2, seen, tr, sp, ag, re⟩ : Hd)).ok) by simp only [take14, HQ5.out, fin, HQ0.out]; rfl)
  refine t7T_wp w q.1 W0.heap.size w1.heap.size A5 n5 c5 (⟨15, v, r, q.2, seen, tr, sp, ag, re⟩ : Hd) (by kernel_rfl) (by omega) ⟨(sc (sc ((sc (sc (sc (sc (sc hB)))))))), (((sets_all (us := (aS q.1 A5 n5 c5)) hx rfl).sn).sn), by simpa using ((((((((hy.sn).sn).sn).sn).sn)).set 3 (.int .i64 q.2)).set 0 (.int .i64 15)), ((((((((hz.sn).sn).sn).sn).sn)).sn).sn), ((((((((hw_.sn).sn).sn).sn).sn)).sn).sn), ((((((((hG5.sl).sl).sl).sl).sl)).sl).sl), by simp⟩ ?_
  have hQR : w.heap.size + 4 ≤ W0.heap.size := by omega
  clear kx fx ky fy hB hx hy hz hw_ hG5
  generalize hq2 : (⟨15, v, r, q.2, seen, tr, sp, ag, re⟩ : Hd) = h2 at *
  clear hq2
  intro _ _ _ _ _ _ _ W' hB k7 k8 hG _
  replace k7 := k7.cell
  replace k8 := k8.cell
  go_step
  go_wp2
  refine bodyPost_ret (v := .tuple #[stV q.1 A5 n5 c5, hdV h2, .bool (h2.ok)]) (by simp [results, Tryz.results51, go_sem, k7, k8, stV, hdV]) rfl ⟨A5, n5, c5, by rw [HV.out], ?_, hB⟩
  rw [HV.out]
  exact hG.cut.mono (by omega) (Nat.le_refl _)
 ·
  have hq0d : decide (0 ≤ q.2) = false := by simpa using hq0
  have HQ0 := Lib.hid hq0d
  go_upto_region 43 with fail
  clear hq0d
  have HV := Lib.hid (show take14 s ⟨14, v, r, t, seen, tr, sp, ag, re⟩ = (q.1, (⟨15, v, r, q.2, seen, tr, sp, ag, re⟩ : Hd), false) by simp only [take14, HQ5.out, fin, HQ0.out]; rfl)
  refine t7F_wp w q.1 W0.heap.size w1.heap.size A5 n5 c5 (⟨15, v, r, q.2, seen, tr, sp, ag, re⟩ : Hd) (by kernel_rfl) (by omega) ⟨(sc (sc ((sc (sc (sc (sc (sc hB)))))))), (((sets_all (us := (aS q.1 A5 n5 c5)) hx rfl).sn).sn), by simpa using ((((((((hy.sn).sn).sn).sn).sn)).set 3 (.int .i64 q.2)).set 0 (.int .i64 15)), ((((((((hz.sn).sn).sn).sn).sn)).sn).sn), ((((((((hw_.sn).sn).sn).sn).sn)).sn).sn), ((((((((hG5.sl).sl).sl).sl).sl)).sl).sl), by simp⟩ ?_
  have hQR : w.heap.size + 4 ≤ W0.heap.size := by omega
  clear kx fx ky fy hB hx hy hz hw_ hG5
  generalize hq2 : (⟨15, v, r, q.2, seen, tr, sp, ag, re⟩ : Hd) = h2 at *
  clear hq2
  intro _ _ _ _ _ _ _ W' hB k7 k8 hG _
  replace k7 := k7.cell
  replace k8 := k8.cell
  go_step
  go_wp2
  refine bodyPost_ret (v := .tuple #[stV q.1 A5 n5 c5, hdV h2, .bool (false)]) (by simp [results, Tryz.results51, go_sem, k7, k8, stV, hdV]) rfl ⟨A5, n5, c5, by rw [HV.out], ?_, hB⟩
  rw [HV.out]
  exact hG.cut.mono (by omega) (Nat.le_refl _)
def t15AV (s : St) (N b n cap pb : Nat) (rg : Rg) (p : Pl) (v r t : Int) (seen : Pl) (tr sp : Int) (ag : Bool) (re : Int) (n' cap' : Nat) : List Sl := [.v (.pointer (some ⟨N, 2, none⟩)),
 .v (.slice (some ⟨b, 0, none⟩) n cap),
 .v r,
 .v (.pointer (some ⟨b, r.toNat * 5, none⟩)),
 .v (.pointer (some ⟨b, r.toNat * 5 + 4, none⟩)),
 .v (.slice (some ⟨pb, 0, none⟩) n' cap'),
 .v t,
 .v (pT N),
 .v s.rd,
 .v (.int .i64 (t % s.rd)),
 .v (.pointer (some ⟨pb, (t % s.rd).toNat * 4, none⟩)),
 .v (.agg (cP p)),
 .v (.pointer (some ⟨(N + 1), 4, none⟩)),
 .e fun σ w => BoxAt w (N + 1) (dH 15 v r t p tr sp ag re) 35]
set_option maxRecDepth 100000 in
set_option maxHeartbeats 4000000 in
theorem l7Take_15 (s : St) (A : Option Addr) (n cap lo hi : Nat) (v r t : Int) (seen : Pl) (tr sp : Int) (ag : Bool) (re : Int) (w : World) (hs : RgsW lo hi w A n cap s.rs) (hh : hi ≤ w.heap.size) (hlo : lo ≤ w.heap.size) (hok : stOk s = true) (hrb : ringB s r = true) (ht : 0 ≤ t ∧ t ≤ 1000000) :
  Calls Tryz.prog 51 #[stV s A n cap, hdV ⟨15, v, r, t, seen, tr, sp, ag, re⟩] w (RetSHB lo (take15 s ⟨15, v, r, t, seen, tr, sp, ag, re⟩) w) := by
 have HOK := Lib.hid hok
 have HRB := Lib.hid hrb
 have HLN := Lib.hid hs.1
 have HNT := Lib.hid (stOk_neat hok)
 obtain ⟨z0, z1, z2⟩ := ringB_at HLN.out hrb
 clear hok hrb
 obtain ⟨t0, t1⟩ := ht
 unfold stV hdV
 dsimp only
 go_enter Tryz.func51, Tryz.ntmps51
 go_upto_region 15 with fail
 refine wp_abs (fun W => Below w.heap.size w W ∧ BoxAt W w.heap.size (aS s A n cap) 32 ∧ BoxAt W (w.heap.size + 1) (dH 15 v r t seen tr sp ag re) 35 ∧ BoxAt W (w.heap.size + 1 + 1) zS 32 ∧ BoxAt W (w.heap.size + 1 + 1 + 1) zH 35) ⟨(((((Below.refl _ _).alloc (Nat.le_refl _) _).alloc (by simp) _).alloc (by simp; omega) _).alloc (by simp; omega) _), (((BoxAt.new _ _ _).alloc _).alloc _).alloc _, ((BoxAt.new' (by simp)).alloc _).alloc _, (BoxAt.new' (by simp)).alloc _, BoxAt.new' (by simp)⟩ ?_
 rintro W0 ⟨hB, hx, hy, hz, hw_⟩
 have lw0 := hw_.lt
 have hs0 := hs.below hB hh
 have kx := hx.cell
 have ky := hy.cell
 have fy := hy.frozen
 obtain ⟨b, rg, A', n', cap', rfl, hlb, hbh, hri, c0, c1', c2, c3, c4, hpw⟩ := hs0.at_ z2
 have HAT := Lib.hid (St.at_some (s := s) (z := r) hri)
 have hrd := stOk_rd HOK.out
 have hrp := stOk_places HOK.out rg (List.mem_of_getElem? hri)
 have hn' : n' = rg.ps.length := hpw.1.symm
 obtain ⟨pb, rfl, hpbh, hpo⟩ := hpw.2 (by omega)
 have hm0 := Int.emod_nonneg t (show s.rd ≠ 0 by omega)
 have hm1 := Int.emod_lt_of_pos t (show 0 < s.rd by omega)
 have hkl : (t % s.rd).toNat < rg.ps.length := by omega
 obtain ⟨p, hpx⟩ : ∃ p, rg.ps[(t % s.rd).toNat]? = some p := ⟨_, List.getElem?_eq_getElem hkl⟩
 have he : PlE 0 W0 pb ((t % s.rd).toNat * 4) p := PlE.of_cells fun j u hu => Own.cell_ Pl.cs_len hpo hpx hu
 have hc : RgC W0 b r.toNat rg (some ⟨pb, 0, none⟩) n' cap' := ⟨c0, c1', c2, c3, c4⟩
 have hat0 : t % s.rd < (n' : Int) := by omega
 have hbl2 : b < w.heap.size ∧ pb < w.heap.size := by omega
 have HLK := Lib.hid (show lookAt s ⟨15, v, r, t, seen, tr, sp, ag, re⟩ = p by simp [lookAt, HAT.out, hpx])
 clear hri c0 c1' c2 c3 c4 hpx hpw hpo kx ky fy hs0 hn' hrp
 go_cut [58] (fun _ W' => Below w.heap.size w W' ∧ BoxAt W' w.heap.size (aS s (some ⟨b, 0, none⟩) n cap) 32 ∧ BoxAt W' (w.heap.size + 1) (dH 15 v r t p tr sp ag re) 35 ∧ BoxAt W' (w.heap.size + 1 + 1) zS 32 ∧ BoxAt W' (w.heap.size + 1 + 1 + 1) zH 35)
 case first =>
  refine wp_region2v (fun w w' => Below w.heap.size w w') (fun _ _ h => h.size) (fun _ => Below.refl _ _) (fun L W' => Below w.heap.size w W' ∧ BoxAt W' w.heap.size (aS s (some ⟨b, 0, none⟩) n cap) 32 ∧ BoxAt W' (w.heap.size + 1 + 1) zS 32 ∧ BoxAt W' (w.heap.size + 1 + 1 + 1) zH 35 ∧ RgC W' b r.toNat rg (some ⟨pb, 0, none⟩) n' cap' ∧ PlE 0 W' pb ((t % s.rd).toNat * 4) p ∧ (∃ x0 x1 x2 x3, BoxAt W' (w.heap.size + 1) #[.int .i64 15, v, r, t, x0, x1, x2, x3, tr, sp, ag, re] 35) ∧ (L 13 = false → BoxAt W' (w.heap.size + 1) (dH 15 v r t seen tr sp ag re) 35)) (t15AV s w.heap.size b n cap pb rg p v r t seen tr sp ag re n' cap') (fun j => [0, 0, 0, 0, 0, 0, 0, 0, 0, 0, 0, 0, 0, 1].getD j 0) [] (by kernel_rfl) (by kernel_rfl) ?_ ?_ ?_
   (.still rfl ?a0 <| .still rfl ?a1 <| .still rfl ?a2 <| .still rfl ?a3 <| .still rfl ?a4 <| .still rfl ?a5 <| .still rfl ?a6 <| .still rfl ?a7 <| .still rfl ?a8 <| .still rfl ?a9 <| .still rfl ?a10 <| .still rfl ?a11 <| .still rfl ?a12 <| .store rfl ?a13 <| .nil) ?_ ?_
  · exact ⟨fun _ _ _ _ h => h, trivial⟩
  · exact ⟨fun σ w w' hb hR => hR.below hb hR.lt, trivial⟩
  · exact ⟨hB.drew, hx, hz, hw_, hc, he, ⟨_, _, _, _, hy⟩, fun _ => hy⟩
  case a0 | a2 | a3 | a4 | a6 | a7 | a12 =>
   go_light
   intro L σ W' hcl hL hC hw
   try have e1 := wT hw 1 rfl
   try have e2 := wT hw 2 rfl
   try have e3 := wT hw 3 rfl
   exact ztake13
  case a1 | a8 =>
   go_light
   intro L σ W' hcl hL hC hw
   try have e0 := wT hw 0 rfl
   try have e7 := wT hw 7 rfl
   have ks := hC.2.1.cell
   exact ztake13
  case a5 =>
   go_light
   intro L σ W' hcl hL hC hw
   have e4 := wV hw 4 rfl
   have hc0 := hC.2.2.2.2.1
   obtain ⟨c0, c1_, c2, c3, c4⟩ := hc0
   exact ztake13
  case a11 =>
   go_light
   intro L σ W' hcl hL hC hw
   have e10 := wV hw 10 rfl
   have he0 := hC.2.2.2.2.2.1
   obtain ⟨d0, d1, d2, d3⟩ := he0
   exact ztake13
  case a9 =>
   go_light
   intro L σ W' hcl hL hC hw
   have e6 := wV hw 6 rfl
   have e8 := wV hw 8 rfl
   have nz_ : ¬ s.rd = 0 := by omega
   have rm_ : t.tmod s.rd = t % s.rd := Int.tmod_eq_emod_of_nonneg t0
   have wr_ : IntKind.i64.wrap (t % s.rd) = t % s.rd := by rw [IntKind.wrap_i64]; omega
   exact ztake13
  case a10 =>
   go_light
   intro L σ W' hcl hL hC hw
   have e5 := wV hw 5 rfl
   have e9 := wV hw 9 rfl
   exact ztake13
  case a13 =>
   go_light
   intro L σ W' hcl hL hC hw hne
   have e11 := wV hw 11 rfl
   have e12 := wV hw 12 rfl
   clear hw hne
   have HC := Lib.hid hC
   obtain ⟨hB, hx, hz, hw_, hc, he, ⟨_, _, _, _, hy⟩, hy_o⟩ := hC
   clear hcl hL
   have kc_ := hy.cell
   have kf_ := hy.frozen
   clear hB hx hz hw_ hc he hy hy_o
   refine OpGoes.go fun K hK => ?_
   go_simp
   obtain ⟨hB, hx, hz, hw_, hc, he, ⟨_, _, _, _, hy⟩, hy_o⟩ := HC.out
   have hset := ((((hy.set 4 (.bool p.s)).set 5 (.int .i64 p.n)).set 6 (.bool p.f)).set 7 (.int .i64 p.v))
   simp only [List.setIfInBounds_toArray, List.set_cons_zero, List.set_cons_succ] at hset
   refine hK _ _ ⟨⟨(sc (sc (sc (sc hB)))), ((((hx.sn).sn).sn).sn), ((((hz.sn).sn).sn).sn), ((((hw_.sn).sn).sn).sn), ((((hc.sn).sn).sn).sn), ((((he.sn).sn).sn).sn), ⟨_, _, _, _, hset⟩, fun h => absurd h (by simp [upd])⟩, hset, by simp, keepV ?_⟩
   exact ⟨fun h => absurd rfl h, trivial⟩
  ·
   intro L L' W' hLL hC
   obtain ⟨hB, hx, hz, hw_, hc, he, ⟨_, _, _, _, hy⟩, hy_o⟩ := hC
   exact ⟨hB, hx, hz, hw_, hc, he, ⟨_, _, _, _, hy⟩, fun h => hy_o (hLL _ h)⟩
  ·
   intro σ L W' hall hC hRR
   obtain ⟨hB, hx, hz, hw_, hc, he, ⟨_, _, _, _, hy⟩, hy_o⟩ := hC
   have s13 := dE hRR 13 rfl
   clear hRR
   simp only [lexAll]
   go_simp
   go_step
   go_meet
   exact ⟨hB, hx, s13, hz, hw_⟩
 case rest =>
  clear hB hx hy hz hw_ hc he
  obtain ⟨hB, hx, hy, hz, hw_⟩ := hcut
  have hs0 := hs.below hB hh
  have lwc := hw_.lt
  have ky := hy.cell
  have fy := hy.frozen
  by_cases h1 : t < p.n
  ·
   have H1 := Lib.hid h1
   go_upto_region 43 with fail
   have HV := Lib.hid (show take15 s ⟨15, v, r, t, seen, tr, sp, ag, re⟩ = (s, (⟨19, v, r, t, p, tr, sp, ag, re⟩ : Hd), ((⟨19, v, r, t, p, tr, sp, ag, re⟩ : Hd)).ok) by simp only [take15, HLK.out, H1.out, if_true]; rfl)
   refine t7T_wp w s lo hi (some ⟨b, 0, none⟩) n cap (⟨19, v, r, t, p, tr, sp, ag, re⟩ : Hd) (by kernel_rfl) (by omega) ⟨(sc hB), (hx.sn), by simpa using (hy.set 0 (.int .i64 19)), (hz.sn), (hw_.sn), (hs0.sr), by simp; omega⟩ ?_
   clear ky fy hB hx hy hz hw_ hs0
   generalize hq2 : (⟨19, v, r, t, p, tr, sp, ag, re⟩ : Hd) = h2 at *
   exact ztake10
  ·
   have H1 := Lib.hid h1
   cases hf : p.f
   ·
    have HF := Lib.hid hf
    rw [hf] at ky
    go_upto_region 43 with fail
    have HV := Lib.hid (show take15 s ⟨15, v, r, t, seen, tr, sp, ag, re⟩ = (s, (⟨18, v, r, t, p, tr, sp, ag, re⟩ : Hd), ((⟨18, v, r, t, p, tr, sp, ag, re⟩ : Hd)).ok) by simp only [take15, HLK.out, H1.out, HF.out, if_false]; rfl)
    refine t7T_wp w s lo hi (some ⟨b, 0, none⟩) n cap (⟨18, v, r, t, p, tr, sp, ag, re⟩ : Hd) (by kernel_rfl) (by omega) ⟨(sc hB), (hx.sn), by simpa using (hy.set 0 (.int .i64 18)), (hz.sn), (hw_.sn), (hs0.sr), by simp; omega⟩ ?_
    clear ky fy hB hx hy hz hw_ hs0
    generalize hq2 : (⟨18, v, r, t, p, tr, sp, ag, re⟩ : Hd) = h2 at *
    exact ztake10
   ·
    have HF := Lib.hid hf
    rw [hf] at ky
    by_cases h2 : p.n = t
    ·
     have H2 := Lib.hid h2
     have h2b : (p.n == t) = true := by simpa using h2
     go_upto_region 43 with fail
     have HV := Lib.hid (show take15 s ⟨15, v, r, t, seen, tr, sp, ag, re⟩ = (s, (⟨16, v, r, t, p, tr, sp, ag, re⟩ : Hd), ((⟨16, v, r, t, p, tr, sp, ag, re⟩ : Hd)).ok) by simp only [take15, HLK.out, HF.out, H2.out, Int.lt_irrefl, if_true, if_false]; rfl)
     refine t7T_wp w s lo hi (some ⟨b, 0, none⟩) n cap (⟨16, v, r, t, p, tr, sp, ag, re⟩ : Hd) (by kernel_rfl) (by omega) ⟨(sc hB), (hx.sn), by simpa using (hy.set 0 (.int .i64 16)), (hz.sn), (hw_.sn), (hs0.sr), by simp; omega⟩ ?_
     clear ky fy hB hx hy hz hw_ hs0
     generalize hq2 : (⟨16, v, r, t, p, tr, sp, ag, re⟩ : Hd) = h2 at *
     exact ztake10
    ·
     have H2 := Lib.hid h2
     have h2b : (p.n == t) = false := by simpa using h2
     go_upto_region 43 with fail
     have HV := Lib.hid (show take15 s ⟨15, v, r, t, seen, tr, sp, ag, re⟩ = (s, (⟨17, v, r, t, p, tr, sp, ag, re⟩ : Hd), ((⟨17, v, r, t, p, tr, sp, ag, re⟩ : Hd)).ok) by simp only [take15, HLK.out, H1.out, HF.out, H2.out, if_true, if_false]; rfl)
     refine t7T_wp w s lo hi (some ⟨b, 0, none⟩) n cap (⟨17, v, r, t, p, tr, sp, ag, re⟩ : Hd) (by kernel_rfl) (by omega) ⟨(sc hB), (hx.sn), by simpa using (hy.set 0 (.int .i64 17)), (hz.sn), (hw_.sn), (hs0.sr), by simp; omega⟩ ?_
     clear ky fy hB hx hy hz hw_ hs0
     generalize hq2 : (⟨17, v, r, t, p, tr, sp, ag, re⟩ : Hd) = h2 at *
     exact ztake10
end Go.Proofs.YthpckpnlohfcbaaGreatDoor

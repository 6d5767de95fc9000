/-
 The last region of a step, of the model: the store and the hand are laid into the results' variables.
-/
import Derived.Test.YtiiaimjlohpemaaGreatRetG
namespace Go.Proofs.YtiiaimjlohpemaaGreat
set_option linter.unusedSimpArgs false
set_option linter.unusedVariables false
open Go.RowKit
attribute [local go_sem] OpUpon
attribute [local go_sem ↓] Go.wp_at_zero Go.wp_at_succ

theorem ztailT0 {p : Prop} (h : p := by
 go_light
 intro L σ W' hcl hL hC hw hne
 have e1 := wV hw 1 rfl
 clear hw hne
 have HC := Lib.hid hC
 obtain ⟨hB, hx, hy, hG, hM, ⟨_, _, _, _, _, hz⟩, hz_o, ⟨_, _, _, _, _, _, _, _, _, _, _, _, hw_⟩, hw__o⟩ := hC
 clear hcl hL
 have kc_ := hw_.cell
 have kf_ := hw_.frozen
 clear hB hx hy hG hM hz hz_o hw_ hw__o
 refine OpGoes.go fun K hK => ?_
 go_simp
 obtain ⟨hB, hx, hy, hG, hM, ⟨_, _, _, _, _, hz⟩, hz_o, ⟨_, _, _, _, _, _, _, _, _, _, _, _, hw_⟩, hw__o⟩ := HC.out
 have hset := sets_all (us := [.int .i64 h2.at_, .int .i64 h2.v, .int .i64 h2.r, .int .i64 h2.t, .bool h2.seen.s, .int .i64 h2.seen.n, .bool h2.seen.f, .int .i64 h2.seen.v, .int .i64 h2.tr, .int .i64 h2.sp, .bool h2.ag, .int .i64 h2.re]) hw_ rfl
 refine hK undef (setCells W' (w.heap.size + 1 + 1 + 1) 0 [.int .i64 h2.at_, .int .i64 h2.v, .int .i64 h2.r, .int .i64 h2.t, .bool h2.seen.s, .int .i64 h2.seen.n, .bool h2.seen.f, .int .i64 h2.seen.v, .int .i64 h2.tr, .int .i64 h2.sp, .bool h2.ag, .int .i64 h2.re]) ⟨⟨(Below.setCells (by omega) _ 0 hB), (BoxAt.sets_ne _ 0 hx (by omega)), (BoxAt.sets_ne _ 0 hy (by omega)), (RgsW.sts hG (by omega) _ 0), (size_sts hM _ 0), ⟨_, _, _, _, _, (BoxAt.sets_ne _ 0 hz (by omega))⟩, fun h => (BoxAt.sets_ne _ 0 (hz_o (by simpa [upd] using h)) (by omega)), ⟨_, _, _, _, _, _, _, _, _, _, _, _, hset⟩, fun h => absurd h (by simp [upd])⟩, hset, Nat.le_of_eq (sets_size _ _ _).symm, keepV ?_⟩
 exact ⟨fun _ _ hR => (BoxAt.sets_ne _ 0 hR (by omega)), fun h => absurd rfl h, trivial⟩) : p := h -- 4d442997
theorem ztailT1 {p : Prop} (h : p := by
 go_light
 intro L σ W' hcl hL hC hw hne
 have e0 := wV hw 0 rfl
 clear hw hne
 have HC := Lib.hid hC
 obtain ⟨hB, hx, hy, hG, hM, ⟨_, _, _, _, _, hz⟩, hz_o, ⟨_, _, _, _, _, _, _, _, _, _, _, _, hw_⟩, hw__o⟩ := hC
 clear hcl hL
 have kc_ := hz.cell
 have kf_ := hz.frozen
 clear hB hx hy hG hM hz hz_o hw_ hw__o
 refine OpGoes.go fun K hK => ?_
 go_simp
 obtain ⟨hB, hx, hy, hG, hM, ⟨_, _, _, _, _, hz⟩, hz_o, ⟨_, _, _, _, _, _, _, _, _, _, _, _, hw_⟩, hw__o⟩ := HC.out
 have hset := sets_all (us := [.int .i64 s2.rd, .int .i64 s2.mo, .slice A2 n2 c2, .int .i64 s2.fi, .int .i64 s2.la]) hz rfl
 refine hK undef (setCells W' (w.heap.size + 1 + 1) 0 [.int .i64 s2.rd, .int .i64 s2.mo, .slice A2 n2 c2, .int .i64 s2.fi, .int .i64 s2.la]) ⟨⟨(Below.setCells (by omega) _ 0 hB), (BoxAt.sets_ne _ 0 hx (by omega)), (BoxAt.sets_ne _ 0 hy (by omega)), (RgsW.sts hG (by omega) _ 0), (size_sts hM _ 0), ⟨_, _, _, _, _, hset⟩, fun h => absurd h (by simp [upd]), ⟨_, _, _, _, _, _, _, _, _, _, _, _, (BoxAt.sets_ne _ 0 hw_ (by omega))⟩, fun h => (BoxAt.sets_ne _ 0 (hw__o (by simpa [upd] using h)) (by omega))⟩, hset, Nat.le_of_eq (sets_size _ _ _).symm, keepV ?_⟩
 exact ⟨fun h => absurd rfl h, fun _ _ hR => (BoxAt.sets_ne _ 0 hR (by omega)), trivial⟩) : p := h -- 484bc327
theorem ztailT2 {p : Prop} (h : p := by
 clear hw hcl hL hC
 refine OpGoes.go fun K hK => ?_
 go_simp
 exact hK _ _ ⟨rfl, rfl⟩) : p := h -- ee92c020
theorem ztailT3 {p : Prop} (h : p := by
 intro σ L W' hall hC hRR
 obtain ⟨hB, hx, hy, hG, hM, ⟨_, _, _, _, _, hz⟩, hz_o, ⟨_, _, _, _, _, _, _, _, _, _, _, _, hw_⟩, hw__o⟩ := hC
 have s7 := dE hRR 7 rfl
 have s8 := dE hRR 8 rfl
 have e9 := dV hRR 9 rfl
 clear hRR
 simp only [lexAll]
 go_simp
 exact hQ _ _ _ _ _ _ _ _ hB s7 s8 hG (Nat.le_trans hhi2 hM)) : p := h -- 72a0e512
theorem ztailT4 {p : Prop} (h : p := by
 intro L L' W' hLL hC
 obtain ⟨hB, hx, hy, hG, hM, ⟨_, _, _, _, _, hz⟩, hz_o, ⟨_, _, _, _, _, _, _, _, _, _, _, _, hw_⟩, hw__o⟩ := hC
 exact ⟨hB, hx, hy, hG, hM, ⟨_, _, _, _, _, hz⟩, fun h => hz_o (hLL _ h), ⟨_, _, _, _, _, _, _, _, _, _, _, _, hw_⟩, fun h => hw__o (hLL _ h)⟩) : p := h -- 81b9a1d4

def t7TV (s2 : St) (N n2 c2 : Nat) (A2 : Option Addr) (h2 : Hd) : List Sl := [.v (.agg #[.int .i64 s2.rd, .int .i64 s2.mo, .slice A2 n2 c2, .int .i64 s2.fi, .int .i64 s2.la]),
 .v (.agg #[.int .i64 h2.at_, .int .i64 h2.v, .int .i64 h2.r, .int .i64 h2.t, .bool h2.seen.s, .int .i64 h2.seen.n, .bool h2.seen.f, .int .i64 h2.seen.v, .int .i64 h2.tr, .int .i64 h2.sp, .bool h2.ag, .int .i64 h2.re]),
 .v (.bool true),
 .v (.bool true),
 .v (.agg #[.int .i64 h2.at_, .int .i64 h2.v, .int .i64 h2.r, .int .i64 h2.t, .bool h2.seen.s, .int .i64 h2.seen.n, .bool h2.seen.f, .int .i64 h2.seen.v, .int .i64 h2.tr, .int .i64 h2.sp, .bool h2.ag, .int .i64 h2.re]),
 .v (.bool h2.ok),
 .v (.bool h2.ok),
 .e fun σ w => BoxAt w (N + 1 + 1) #[.int .i64 s2.rd, .int .i64 s2.mo, .slice A2 n2 c2, .int .i64 s2.fi, .int .i64 s2.la] 64,
 .e fun σ w => BoxAt w (N + 1 + 1 + 1) #[.int .i64 h2.at_, .int .i64 h2.v, .int .i64 h2.r, .int .i64 h2.t, .bool h2.seen.s, .int .i64 h2.seen.n, .bool h2.seen.f, .int .i64 h2.seen.v, .int .i64 h2.tr, .int .i64 h2.sp, .bool h2.ag, .int .i64 h2.re] 106,
 .v (.bool h2.ok)]

set_option maxRecDepth 100000 in
set_option maxHeartbeats 4000000 in
theorem t7T_wp {Q : Exit → Act → World → Prop} {l : List Oper} (w : World) (s2 : St) (lo2 hi2 : Nat) (A2 : Option Addr) (n2 c2 : Nat) (h2 : Hd) {W : World} {x0 x1 x6 x7 x8 x10 x11 x12 x13 x14 x15 x16 x17 x18 x19 x20 x21 x22 x23 x24 x25 x26 x27 x28 x29 x30 x31 x32 x33 x34 x35 x36 x37 x38 x39 x40 x41 x42 x43 x44 x45 x46 x47 x48 x49 x50 x51 x52 x53 x54 x55 x56 x57 x58 x59 x60 x61 x62 x63 x64 x65 x66 x67 x68 x69 x70 x71 x72 x73 x74 x75 x76 x77 x78 x79 x80 x81 x82 x83 x84 x85 x86 x87 x88 x89 x90 x91 x92 x93 x94 x95 x96 x97 x98 x99 x100 x101 x102 x103 x104 x105 x106 x107 x108 x109 x110 x111 x112 x113 x114 x115 x116 x117 x118 x119 x120 x121 x122 x123 x124 x125 x126 x127 x128 x129 x130 x131 x132 x133 x134 x135 x136 x137 x138 x139 x140 x141 x142 x143 x144 x145 x146 x147 x148 x149 x150 x151 x152 x153 x154 x155 x156 x157 x158 x159 x160 x161 x162 x163 x164 x165 x166 x167 x168 x169 x170 x171 x172 x173 x174 x175 x176 x177 x178 x179 x180 x181 x182 x183 : Value} (hl : l = opsAt Tryz.f89 43) (hd : hi2 ≤ w.heap.size ∨ w.heap.size + 4 ≤ lo2)
  (hI : Below w.heap.size w W ∧ BoxAt W w.heap.size #[.int .i64 s2.rd, .int .i64 s2.mo, .slice A2 n2 c2, .int .i64 s2.fi, .int .i64 s2.la] 64 ∧ BoxAt W (w.heap.size + 1) #[.int .i64 h2.at_, .int .i64 h2.v, .int .i64 h2.r, .int .i64 h2.t, .bool h2.seen.s, .int .i64 h2.seen.n, .bool h2.seen.f, .int .i64 h2.seen.v, .int .i64 h2.tr, .int .i64 h2.sp, .bool h2.ag, .int .i64 h2.re] 106 ∧ BoxAt W (w.heap.size + 1 + 1) #[.int .i64 0, .int .i64 0, .slice none 0 0, .int .i64 0, .int .i64 0] 64 ∧ BoxAt W (w.heap.size + 1 + 1 + 1) #[.int .i64 0, .int .i64 0, .int .i64 0, .int .i64 0, .bool false, .int .i64 0, .bool false, .int .i64 0, .int .i64 0, .int .i64 0, .bool false, .int .i64 0] 106 ∧ RgsW lo2 hi2 W A2 n2 c2 s2.rs ∧ hi2 ≤ W.heap.size)
  (hQ : ∀ (y177 y178 y179 y180 y181 y182 y183 : Value) (W' : World), Below w.heap.size w W' → BoxAt W' (w.heap.size + 1 + 1) #[.int .i64 s2.rd, .int .i64 s2.mo, .slice A2 n2 c2, .int .i64 s2.fi, .int .i64 s2.la] 64 → BoxAt W' (w.heap.size + 1 + 1 + 1) #[.int .i64 h2.at_, .int .i64 h2.v, .int .i64 h2.r, .int .i64 h2.t, .bool h2.seen.s, .int .i64 h2.seen.n, .bool h2.seen.f, .int .i64 h2.seen.v, .int .i64 h2.tr, .int .i64 h2.sp, .bool h2.ag, .int .i64 h2.re] 106 → RgsW lo2 hi2 W' A2 n2 c2 s2.rs → hi2 ≤ W'.heap.size → Q .normal ⟨#[x0, x1, .pointer (some ⟨w.heap.size, 0, none⟩), .pointer (some ⟨w.heap.size + 1, 0, none⟩), .pointer (some ⟨w.heap.size + 1 + 1, 0, none⟩), .pointer (some ⟨w.heap.size + 1 + 1 + 1, 0, none⟩), .bool (h2.ok), x7, x8, .bool true, x10, x11, x12, x13, x14, x15, x16, x17, x18, x19, x20, x21, x22, x23, x24, x25, x26, x27, x28, x29, x30, x31, x32, x33, x34, x35, x36, x37, x38, x39, x40, x41, x42, x43, x44, x45, x46, x47, x48, x49, x50, x51, x52, x53, x54, x55, x56, x57, x58, x59, x60, x61, x62, x63, x64, x65, x66, x67, x68, x69, x70, x71, x72, x73, x74, x75, x76, x77, x78, x79, x80, x81, x82, x83, x84, x85, x86, x87, x88, x89, x90, x91, x92, x93, x94, x95, x96, x97, x98, x99, x100, x101, x102, x103, x104, x105, x106, x107, x108, x109, x110, x111, x112, x113, x114, x115, x116, x117, x118, x119, x120, x121, x122, x123, x124, x125, x126, x127, x128, x129, x130, x131, x132, x133, x134, x135, x136, x137, x138, x139, x140, x141, x142, x143, x144, x145, x146, x147, x148, x149, x150, x151, x152, x153, x154, x155, x156, x157, x158, x159, x160, x161, x162, x163, x164, x165, x166, x167, x168, x169, x170, x171, x172, x173, x174, x175, x176, y177, y178, y179, y180, y181, y182, y183], []⟩ W') :
  (Code.region 43 l.toArray true).wp Tryz.prog Q ⟨#[x0, x1, .pointer (some ⟨w.heap.size, 0, none⟩), .pointer (some ⟨w.heap.size + 1, 0, none⟩), .pointer (some ⟨w.heap.size + 1 + 1, 0, none⟩), .pointer (some ⟨w.heap.size + 1 + 1 + 1, 0, none⟩), x6, x7, x8, .bool true, x10, x11, x12, x13, x14, x15, x16, x17, x18, x19, x20, x21, x22, x23, x24, x25, x26, x27, x28, x29, x30, x31, x32, x33, x34, x35, x36, x37, x38, x39, x40, x41, x42, x43, x44, x45, x46, x47, x48, x49, x50, x51, x52, x53, x54, x55, x56, x57, x58, x59, x60, x61, x62, x63, x64, x65, x66, x67, x68, x69, x70, x71, x72, x73, x74, x75, x76, x77, x78, x79, x80, x81, x82, x83, x84, x85, x86, x87, x88, x89, x90, x91, x92, x93, x94, x95, x96, x97, x98, x99, x100, x101, x102, x103, x104, x105, x106, x107, x108, x109, x110, x111, x112, x113, x114, x115, x116, x117, x118, x119, x120, x121, x122, x123, x124, x125, x126, x127, x128, x129, x130, x131, x132, x133, x134, x135, x136, x137, x138, x139, x140, x141, x142, x143, x144, x145, x146, x147, x148, x149, x150, x151, x152, x153, x154, x155, x156, x157, x158, x159, x160, x161, x162, x163, x164, x165, x166, x167, x168, x169, x170, x171, x172, x173, x174, x175, x176, x177, x178, x179, x180, x181, x182, x183], []⟩ W := by
 have hl' : l = [_, _, _, _, _, _, _, _, _, _] := hl
 subst hl'
 clear hl
 obtain ⟨hB, hx, hy, hz, hw_, hG, hhi⟩ := hI
 have lw := hw_.lt
 obtain ⟨M, hMe⟩ : ∃ M, M = W.heap.size := ⟨_, rfl⟩
 have hM : M ≤ W.heap.size := by omega
 have hhi2 : hi2 ≤ M := by omega
 clear hMe
 refine wp_region2v (fun w w' => Below w.heap.size w w') (fun _ _ h => h.size) (fun _ => Below.refl _ _) (fun L W' => Below w.heap.size w W' ∧ BoxAt W' w.heap.size #[.int .i64 s2.rd, .int .i64 s2.mo, .slice A2 n2 c2, .int .i64 s2.fi, .int .i64 s2.la] 64 ∧ BoxAt W' (w.heap.size + 1) #[.int .i64 h2.at_, .int .i64 h2.v, .int .i64 h2.r, .int .i64 h2.t, .bool h2.seen.s, .int .i64 h2.seen.n, .bool h2.seen.f, .int .i64 h2.seen.v, .int .i64 h2.tr, .int .i64 h2.sp, .bool h2.ag, .int .i64 h2.re] 106 ∧ RgsW lo2 hi2 W' A2 n2 c2 s2.rs ∧ M ≤ W'.heap.size ∧ (∃ x0 x1 x2 x3 x4, BoxAt W' (w.heap.size + 1 + 1) #[x0, x1, x2, x3, x4] 64) ∧ (L 7 = false → BoxAt W' (w.heap.size + 1 + 1) #[.int .i64 0, .int .i64 0, .slice none 0 0, .int .i64 0, .int .i64 0] 64) ∧ (∃ x0 x1 x2 x3 x4 x5 x6 x7 x8 x9 x10 x11, BoxAt W' (w.heap.size + 1 + 1 + 1) #[x0, x1, x2, x3, x4, x5, x6, x7, x8, x9, x10, x11] 106) ∧ (L 8 = false → BoxAt W' (w.heap.size + 1 + 1 + 1) #[.int .i64 0, .int .i64 0, .int .i64 0, .int .i64 0, .bool false, .int .i64 0, .bool false, .int .i64 0, .int .i64 0, .int .i64 0, .bool false, .int .i64 0] 106)) (t7TV s2 w.heap.size n2 c2 A2 h2) (fun j => [0, 0, 0, 0, 0, 0, 0, 1, 1, 0].getD j 0) [] (by kernel_rfl) (by kernel_rfl) ?_ ?_ ?_
  (.still rfl ?a0 <| .still rfl ?a1 <| .still rfl ?a2 <| .still rfl ?a3 <| .still rfl ?a4 <| .grow rfl ?a5 <| .still rfl ?a6 <| .store rfl ?a7 <| .store rfl ?a8 <| .still rfl ?a9 <| .nil) ?_ ?_
 · exact ⟨fun _ _ _ _ h => h, fun _ _ _ _ h => h, trivial⟩
 · exact ⟨fun σ w w' hb hR => hR.below hb hR.lt, fun σ w w' hb hR => hR.below hb hR.lt, trivial⟩
 · exact ⟨hB.drew, hx, hy, hG, hM, ⟨_, _, _, _, _, hz⟩, fun _ => hz, ⟨_, _, _, _, _, _, _, _, _, _, _, _, hw_⟩, fun _ => hw_⟩
 case a0 =>
  go_light
  intro L σ W' hcl hL hC hw
  have ks := hC.2.1.cell
  exact ztailT2
 case a1 | a4 =>
  go_light
  intro L σ W' hcl hL hC hw
  try have e3 := wT hw 3 rfl
  have kh := hC.2.2.1.cell
  exact ztailT2
 case a2 | a3 | a6 | a9 =>
  go_light
  intro L σ W' hcl hL hC hw
  try have e2 := wT hw 2 rfl
  try have e3 := wT hw 3 rfl
  try have e5 := wT hw 5 rfl
  try have e6 := wT hw 6 rfl
  exact ztailT2
 case a5 =>
  go_light
  intro L σ W' hcl hL hC hw
  have e3 := wV hw 3 rfl
  have e4 := wV hw 4 rfl
  clear hw
  have HC := Lib.hid hC
  clear hC
  clear hcl hL
  refine OpGoes.go fun K hK => ?_
  go_simp
  obtain ⟨hB, hx, hy, hG, hM, ⟨_, _, _, _, _, hz⟩, hz_o, ⟨_, _, _, _, _, _, _, _, _, _, _, _, hw_⟩, hw__o⟩ := HC.out
  refine (shandOk_any h2 _).mono ?_
  rintro e w1 ⟨rfl, hb1⟩
  exact ⟨_, rfl, hK _ _ ⟨⟨bstep hB hB.size hb1, hx.below hb1 hx.lt, hy.below hb1 hy.lt, hG.below hb1 (Nat.le_trans hhi2 hM), Nat.le_trans hM hb1.size, ⟨_, _, _, _, _, hz.below hb1 hz.lt⟩, fun h => (hz_o (by simpa [upd] using h)).below hb1 (hz_o (by simpa [upd] using h)).lt, ⟨_, _, _, _, _, _, _, _, _, _, _, _, hw_.below hb1 hw_.lt⟩, fun h => (hw__o (by simpa [upd] using h)).below hb1 (hw__o (by simpa [upd] using h)).lt⟩, rfl, hb1⟩⟩
 case a7 =>
  exact ztailT1
 case a8 =>
  exact ztailT0
 ·
  exact ztailT4
 ·
  exact ztailT3

def t7FV (s2 : St) (N n2 c2 : Nat) (A2 : Option Addr) (h2 : Hd) : List Sl := [.v (.agg #[.int .i64 s2.rd, .int .i64 s2.mo, .slice A2 n2 c2, .int .i64 s2.fi, .int .i64 s2.la]),
 .v (.agg #[.int .i64 h2.at_, .int .i64 h2.v, .int .i64 h2.r, .int .i64 h2.t, .bool h2.seen.s, .int .i64 h2.seen.n, .bool h2.seen.f, .int .i64 h2.seen.v, .int .i64 h2.tr, .int .i64 h2.sp, .bool h2.ag, .int .i64 h2.re]),
 .v (.bool false),
 .v (.bool false),
 .v undef,
 .v undef,
 .v (.bool false),
 .e fun σ w => BoxAt w (N + 1 + 1) #[.int .i64 s2.rd, .int .i64 s2.mo, .slice A2 n2 c2, .int .i64 s2.fi, .int .i64 s2.la] 64,
 .e fun σ w => BoxAt w (N + 1 + 1 + 1) #[.int .i64 h2.at_, .int .i64 h2.v, .int .i64 h2.r, .int .i64 h2.t, .bool h2.seen.s, .int .i64 h2.seen.n, .bool h2.seen.f, .int .i64 h2.seen.v, .int .i64 h2.tr, .int .i64 h2.sp, .bool h2.ag, .int .i64 h2.re] 106,
 .v (.bool false)]

set_option maxRecDepth 100000 in
set_option maxHeartbeats 4000000 in
theorem t7F_wp {Q : Exit → Act → World → Prop} {l : List Oper} (w : World) (s2 : St) (lo2 hi2 : Nat) (A2 : Option Addr) (n2 c2 : Nat) (h2 : Hd) {W : World} {x0 x1 x6 x7 x8 x10 x11 x12 x13 x14 x15 x16 x17 x18 x19 x20 x21 x22 x23 x24 x25 x26 x27 x28 x29 x30 x31 x32 x33 x34 x35 x36 x37 x38 x39 x40 x41 x42 x43 x44 x45 x46 x47 x48 x49 x50 x51 x52 x53 x54 x55 x56 x57 x58 x59 x60 x61 x62 x63 x64 x65 x66 x67 x68 x69 x70 x71 x72 x73 x74 x75 x76 x77 x78 x79 x80 x81 x82 x83 x84 x85 x86 x87 x88 x89 x90 x91 x92 x93 x94 x95 x96 x97 x98 x99 x100 x101 x102 x103 x104 x105 x106 x107 x108 x109 x110 x111 x112 x113 x114 x115 x116 x117 x118 x119 x120 x121 x122 x123 x124 x125 x126 x127 x128 x129 x130 x131 x132 x133 x134 x135 x136 x137 x138 x139 x140 x141 x142 x143 x144 x145 x146 x147 x148 x149 x150 x151 x152 x153 x154 x155 x156 x157 x158 x159 x160 x161 x162 x163 x164 x165 x166 x167 x168 x169 x170 x171 x172 x173 x174 x175 x176 x177 x178 x179 x180 x181 x182 x183 : Value} (hl : l = opsAt Tryz.f89 43) (hd : hi2 ≤ w.heap.size ∨ w.heap.size + 4 ≤ lo2)
  (hI : Below w.heap.size w W ∧ BoxAt W w.heap.size #[.int .i64 s2.rd, .int .i64 s2.mo, .slice A2 n2 c2, .int .i64 s2.fi, .int .i64 s2.la] 64 ∧ BoxAt W (w.heap.size + 1) #[.int .i64 h2.at_, .int .i64 h2.v, .int .i64 h2.r, .int .i64 h2.t, .bool h2.seen.s, .int .i64 h2.seen.n, .bool h2.seen.f, .int .i64 h2.seen.v, .int .i64 h2.tr, .int .i64 h2.sp, .bool h2.ag, .int .i64 h2.re] 106 ∧ BoxAt W (w.heap.size + 1 + 1) #[.int .i64 0, .int .i64 0, .slice none 0 0, .int .i64 0, .int .i64 0] 64 ∧ BoxAt W (w.heap.size + 1 + 1 + 1) #[.int .i64 0, .int .i64 0, .int .i64 0, .int .i64 0, .bool false, .int .i64 0, .bool false, .int .i64 0, .int .i64 0, .int .i64 0, .bool false, .int .i64 0] 106 ∧ RgsW lo2 hi2 W A2 n2 c2 s2.rs ∧ hi2 ≤ W.heap.size)
  (hQ : ∀ (y177 y178 y179 y180 y181 y182 y183 : Value) (W' : World), Below w.heap.size w W' → BoxAt W' (w.heap.size + 1 + 1) #[.int .i64 s2.rd, .int .i64 s2.mo, .slice A2 n2 c2, .int .i64 s2.fi, .int .i64 s2.la] 64 → BoxAt W' (w.heap.size + 1 + 1 + 1) #[.int .i64 h2.at_, .int .i64 h2.v, .int .i64 h2.r, .int .i64 h2.t, .bool h2.seen.s, .int .i64 h2.seen.n, .bool h2.seen.f, .int .i64 h2.seen.v, .int .i64 h2.tr, .int .i64 h2.sp, .bool h2.ag, .int .i64 h2.re] 106 → RgsW lo2 hi2 W' A2 n2 c2 s2.rs → hi2 ≤ W'.heap.size → Q .normal ⟨#[x0, x1, .pointer (some ⟨w.heap.size, 0, none⟩), .pointer (some ⟨w.heap.size + 1, 0, none⟩), .pointer (some ⟨w.heap.size + 1 + 1, 0, none⟩), .pointer (some ⟨w.heap.size + 1 + 1 + 1, 0, none⟩), .bool false, x7, x8, .bool false, x10, x11, x12, x13, x14, x15, x16, x17, x18, x19, x20, x21, x22, x23, x24, x25, x26, x27, x28, x29, x30, x31, x32, x33, x34, x35, x36, x37, x38, x39, x40, x41, x42, x43, x44, x45, x46, x47, x48, x49, x50, x51, x52, x53, x54, x55, x56, x57, x58, x59, x60, x61, x62, x63, x64, x65, x66, x67, x68, x69, x70, x71, x72, x73, x74, x75, x76, x77, x78, x79, x80, x81, x82, x83, x84, x85, x86, x87, x88, x89, x90, x91, x92, x93, x94, x95, x96, x97, x98, x99, x100, x101, x102, x103, x104, x105, x106, x107, x108, x109, x110, x111, x112, x113, x114, x115, x116, x117, x118, x119, x120, x121, x122, x123, x124, x125, x126, x127, x128, x129, x130, x131, x132, x133, x134, x135, x136, x137, x138, x139, x140, x141, x142, x143, x144, x145, x146, x147, x148, x149, x150, x151, x152, x153, x154, x155, x156, x157, x158, x159, x160, x161, x162, x163, x164, x165, x166, x167, x168, x169, x170, x171, x172, x173, x174, x175, x176, y177, y178, y179, y180, y181, y182, y183], []⟩ W') :
  (Code.region 43 l.toArray true).wp Tryz.prog Q ⟨#[x0, x1, .pointer (some ⟨w.heap.size, 0, none⟩), .pointer (some ⟨w.heap.size + 1, 0, none⟩), .pointer (some ⟨w.heap.size + 1 + 1, 0, none⟩), .pointer (some ⟨w.heap.size + 1 + 1 + 1, 0, none⟩), x6, x7, x8, .bool false, x10, x11, x12, x13, x14, x15, x16, x17, x18, x19, x20, x21, x22, x23, x24, x25, x26, x27, x28, x29, x30, x31, x32, x33, x34, x35, x36, x37, x38, x39, x40, x41, x42, x43, x44, x45, x46, x47, x48, x49, x50, x51, x52, x53, x54, x55, x56, x57, x58, x59, x60, x61, x62, x63, x64, x65, x66, x67, x68, x69, x70, x71, x72, x73, x74, x75, x76, x77, x78, x79, x80, x81, x82, x83, x84, x85, x86, x87, x88, x89, x90, x91, x92, x93, x94, x95, x96, x97, x98, x99, x100, x101, x102, x103, x104, x105, x106, x107, x108, x109, x110, x111, x112, x113, x114, x115, x116, x117, x118, x119, x120, x121, x122, x123, x124, x125, x126, x127, x128, x129, x130, x131, x132, x133, x134, x135, x136, x137, x138, x139, x140, x141, x142, x143, x144, x145, x146, x147, x148, x149, x150, x151, x152, x153, x154, x155, x156, x157, x158, x159, x160, x161, x162, x163, x164, x165, x166, x167, x168, x169, x170, x171, x172, x173, x174, x175, x176, x177, x178, x179, x180, x181, x182, x183], []⟩ W := by
 have hl' : l = [_, _, _, _, _, _, _, _, _, _] := hl
 subst hl'
 clear hl
 obtain ⟨hB, hx, hy, hz, hw_, hG, hhi⟩ := hI
 have lw := hw_.lt
 obtain ⟨M, hMe⟩ : ∃ M, M = W.heap.size := ⟨_, rfl⟩
 have hM : M ≤ W.heap.size := by omega
 have hhi2 : hi2 ≤ M := by omega
 clear hMe
 refine wp_region2v (fun w w' => Below w.heap.size w w') (fun _ _ h => h.size) (fun _ => Below.refl _ _) (fun L W' => Below w.heap.size w W' ∧ BoxAt W' w.heap.size #[.int .i64 s2.rd, .int .i64 s2.mo, .slice A2 n2 c2, .int .i64 s2.fi, .int .i64 s2.la] 64 ∧ BoxAt W' (w.heap.size + 1) #[.int .i64 h2.at_, .int .i64 h2.v, .int .i64 h2.r, .int .i64 h2.t, .bool h2.seen.s, .int .i64 h2.seen.n, .bool h2.seen.f, .int .i64 h2.seen.v, .int .i64 h2.tr, .int .i64 h2.sp, .bool h2.ag, .int .i64 h2.re] 106 ∧ RgsW lo2 hi2 W' A2 n2 c2 s2.rs ∧ M ≤ W'.heap.size ∧ (∃ x0 x1 x2 x3 x4, BoxAt W' (w.heap.size + 1 + 1) #[x0, x1, x2, x3, x4] 64) ∧ (L 7 = false → BoxAt W' (w.heap.size + 1 + 1) #[.int .i64 0, .int .i64 0, .slice none 0 0, .int .i64 0, .int .i64 0] 64) ∧ (∃ x0 x1 x2 x3 x4 x5 x6 x7 x8 x9 x10 x11, BoxAt W' (w.heap.size + 1 + 1 + 1) #[x0, x1, x2, x3, x4, x5, x6, x7, x8, x9, x10, x11] 106) ∧ (L 8 = false → BoxAt W' (w.heap.size + 1 + 1 + 1) #[.int .i64 0, .int .i64 0, .int .i64 0, .int .i64 0, .bool false, .int .i64 0, .bool false, .int .i64 0, .int .i64 0, .int .i64 0, .bool false, .int .i64 0] 106)) (t7FV s2 w.heap.size n2 c2 A2 h2) (fun j => [0, 0, 0, 0, 0, 0, 0, 1, 1, 0].getD j 0) [] (by kernel_rfl) (by kernel_rfl) ?_ ?_ ?_
  (.still rfl ?a0 <| .still rfl ?a1 <| .still rfl ?a2 <| .still rfl ?a3 <| .still rfl ?a4 <| .still rfl ?a5 <| .still rfl ?a6 <| .store rfl ?a7 <| .store rfl ?a8 <| .still rfl ?a9 <| .nil) ?_ ?_
 · exact ⟨fun _ _ _ _ h => h, fun _ _ _ _ h => h, trivial⟩
 · exact ⟨fun σ w w' hb hR => hR.below hb hR.lt, fun σ w w' hb hR => hR.below hb hR.lt, trivial⟩
 · exact ⟨hB.drew, hx, hy, hG, hM, ⟨_, _, _, _, _, hz⟩, fun _ => hz, ⟨_, _, _, _, _, _, _, _, _, _, _, _, hw_⟩, fun _ => hw_⟩
 case a0 =>
  go_light
  intro L σ W' hcl hL hC hw
  have ks := hC.2.1.cell
  exact ztailT2
 case a1 =>
  go_light
  intro L σ W' hcl hL hC hw
  have kh := hC.2.2.1.cell
  exact ztailT2
 case a2 | a3 | a4 | a5 | a6 | a9 =>
  go_light
  intro L σ W' hcl hL hC hw
  try have e2 := wT hw 2 rfl
  try have e3 := wT hw 3 rfl
  try have e4 := wT hw 4 rfl
  try have e5 := wT hw 5 rfl
  try have e6 := wT hw 6 rfl
  exact ztailT2
 case a7 =>
  exact ztailT1
 case a8 =>
  exact ztailT0
 ·
  exact ztailT4
 ·
  exact ztailT3

end Go.Proofs.YtiiaimjlohpemaaGreat

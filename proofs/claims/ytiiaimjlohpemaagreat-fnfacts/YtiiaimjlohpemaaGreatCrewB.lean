/-
 Copies of lists, of the model; what is kept by type.
-/
import Derived.Test.YtiiaimjlohpemaaGreatCrewA
namespace Go.Proofs.YtiiaimjlohpemaaGreat
set_option linter.unusedSimpArgs false
set_option linter.unusedVariables false
open Go.RowKit
set_option linter.unusedVariables false
attribute [local go_sem ↓] Go.wp_at_zero Go.wp_at_succ

section
variable {lo hi : Nat} {w w' : World} {A : Option Addr} {n cap : Nat}
theorem EachW.keepT {rows : List Jw} {L : List (List Int)} (h : EachW lo hi w rows L) (hk : KeepT 2 w w') : EachW lo hi w' rows L := ⟨h.1, fun i a l ha hl => SlW.keepT (h.2 i a l ha hl) hk⟩
theorem ListsW.keepT {L : List (List Int)} (h : ListsW lo hi w A n cap L) (hk : KeepT 2 w w') (hk' : KeepT 42 w w') : ListsW lo hi w' A n cap L := by
 obtain ⟨rows, h1, h2⟩ := h
 exact ⟨rows, h1.keepT hk', h2.keepT hk⟩
theorem PlsW.keepT {l : List Pl} (h : PlsW lo hi w A n cap l) (hk : KeepT 104 w w') : PlsW lo hi w' A n cap l :=
 ⟨h.1, fun hn => by obtain ⟨b, e, hb, ho⟩ := h.2 hn; exact ⟨b, e, hb, Own.keepT ho hk⟩⟩
theorem RgsW.keepT {L : List Rg} (h : RgsW lo hi w A n cap L) (hk : KeepT 104 w w') (hk' : KeepT 120 w w') : RgsW lo hi w' A n cap L :=
 ⟨h.1, fun hn => by
  obtain ⟨b, rows, e, hb, ho, ha⟩ := h.2 hn
  exact ⟨b, rows, e, hb, Own.keepT ho hk', fun i a hi => by obtain ⟨r, hr, e1, e2, e3, e4, hp⟩ := ha i a hi; exact ⟨r, hr, e1, e2, e3, e4, hp.keepT hk⟩⟩⟩
theorem CrW.keepT {c : Cr} {y : CrL} (h : CrW lo hi w c y) (k1 : KeepT 104 w w') (k2 : KeepT 120 w w') (k3 : KeepT 106 w w') (k4 : KeepT 2 w w') (k5 : KeepT 42 w w') (k6 : KeepT 32 w w') : CrW lo hi w' c y :=
 ⟨h.s.keepT k1 k2, SlW.keepT h.h k3, h.j.keepT k4 k5, SlW.keepT h.b k4, SlW.keepT h.e k6⟩
/-- Cells of a variable that is a crew are written. -/
theorem CrW.setsC {c : Cr} {y : CrL} (h : CrW lo hi w c y) {b : Nat} {cs : Array Value} (hk : BoxAt w b cs 68) (us : List Value) (o : Nat) : CrW lo hi (setCells w b o us) c y :=
 h.keepT (.sets hk (by decide) us o) (.sets hk (by decide) us o) (.sets hk (by decide) us o) (.sets hk (by decide) us o) (.sets hk (by decide) us o) (.sets hk (by decide) us o)
end

theorem list_info : (Tryz.prog.info? 42).map (fun i => (i.zero, i.size, i.bytes)) = some (some (.slice none 0 0), 1, 24) := by kernel_rfl

/-- Lists of the call's own are returned. -/
def RetLists (L : List (List Int)) (w : World) (e : Ending) (w' : World) : Prop := ∃ A cap, e = .returned (.slice A L.length cap) ∧ ListsW w.heap.size w'.heap.size w' A L.length cap L ∧ Below w.heap.size w w'

theorem EachW.snoc {lo hi : Nat} {w : World} {rows : List Jw} {L : List (List Int)} {i : Nat} {l : List Int} {a : Jw} (h : EachW lo hi w rows (L.take i)) (hl : L[i]? = some l) (ha : IntsW lo hi w a.A a.n a.cap l) : EachW lo hi w (rows ++ [a]) (L.take (i + 1)) := by
 have hi' : i < L.length := (List.getElem?_eq_some_iff.1 hl).1
 have hr : rows.length = i := by rw [h.1]; simp; omega
 refine ⟨by simp [hr]; omega, fun j b m hb hm => ?_⟩
 by_cases hj : j < i
 ·
  rw [List.getElem?_append_left (by omega)] at hb
  rw [List.getElem?_take_of_lt (by omega)] at hm
  exact h.2 j b m hb (by rw [List.getElem?_take_of_lt hj]; exact hm)
 ·
  obtain rfl : j = i := by
   have := (List.getElem?_eq_some_iff.1 hb).1
   simp [hr] at this; omega
  rw [List.getElem?_append_right (by omega), hr] at hb
  simp at hb
  rw [List.getElem?_take_of_lt (by omega), hl] at hm
  injection hm with hm
  subst hb hm
  exact ha

set_option maxRecDepth 100000 in
set_option maxHeartbeats 2000000 in
theorem l10Lists_any (L : List (List Int)) (A : Option Addr) (n cap lo hi : Nat) (w : World) (h : ListsW lo hi w A n cap L) (hh : hi ≤ w.heap.size) (hm : n ≤ 1048576) (hml : ∀ l ∈ L, l.length ≤ 1048576) :
  Calls Tryz.prog 70 #[.slice A n cap] w (RetLists L w) := by
 obtain ⟨i0, hi0, hz0, hz1, hz2⟩ := info_parts list_info
 have HI := Lib.hid hi0
 have HZ0 := Lib.hid hz0
 have HZ1 := Lib.hid hz1
 have HZ2 := Lib.hid hz2
 clear hi0 hz0 hz1 hz2
 have HL := Lib.hid h.len
 have HML := Lib.hid hml; clear hml
 go_enter Tryz.func70, Tryz.ntmps70
 go_wp2
 go_loopw [3, 4] (fun s3 s4 W => ∃ (i : Nat) (B : Option Addr) (c : Nat) (rows : List Jw), i ≤ n ∧ s4 = .int .i64 i ∧ s3 = .slice B i c ∧ rows.length = i ∧ Below w.heap.size w W ∧ W.ownsRow w.heap.size 42 1 (.slice B i c) i (rows.flatMap Jw.cs) ∧ EachW w.heap.size W.heap.size W rows (L.take i)) (fun _ s4 _ => n - (intOf s4).toNat)
 case atStart =>
  refine ⟨0, _, 0, [], Nat.zero_le _, rfl, rfl, rfl, (Below.refl _ _).alloc (Nat.le_refl _) _, own_made rfl (Nat.le_refl _), ?_⟩
  exact ⟨by simp, fun i a l ha => by simp at ha⟩
 case round =>
  obtain ⟨i, B, c, rows, hin, rfl, rfl, hrl, hB, hO, hE⟩ := hrel
  by_cases hlt : i < n
  ·
   obtain ⟨b, l, A', n', cap', rfl, hlb, hbh, hl, hc, hI⟩ := (h.below hB hh).at_ hlt
   have hn' : n' ≤ 1048576 := by rw [← hI.1]; exact HML.out l (List.mem_of_getElem? hl)
   have HLI := Lib.hid hl; clear hl
   have HNL := Lib.hid hI.1
   have g1 : (i : Int) < (n : Int) := by omega
   have g2 : (0 : Int) ≤ (i : Int) := by omega
   go_wp2_with fail
   refine (l1Copy_any l A' n' cap' _ (SlW.src hI ic_len) hn').mono ?_
   rintro e w1 ⟨A2, c2, rfl, hI2, hb1⟩
   have hbs := hb1.size
   have hws := hB.size
   replace hB := bstep hB hB.size hb1
   replace hO := own_keep hO hb1
   replace hE := (hE.keep (.below hb1 (Nat.le_refl _))).mono (Nat.le_refl _) hb1.size
   have hI3 : IntsW w.heap.size w1.heap.size w1 A2 l.length c2 l := SlW.mono hI2 (by omega) (Nat.le_refl _)
   clear hb1 hc hI hI2
   have HRL := Lib.hid hrl; clear hrl
   go_wp2_with (at_builtin; go_must (refine wpList_append_own_at _ rfl (.tmp 12) (.tmp 18) _ rfl w.heap.size 42 i0 _ 1 24 Tryz.underlying66 HI.out HZ0.out HZ1.out HZ2.out rfl (by omega) (.slice B i c) i _ rfl (hO.alloc _) ⟨w1.heap.size, 0, none⟩ 1 1 [.slice A2 l.length c2] rfl rfl (news_alloc _ _ _) (by intro u hu; simp at hu; subst hu; rfl) (by unfold maxLen; omega) (by omega) (by simp; omega) ?_; intro v' w' hO' hg' hz' hat'; clear hz' hat'; obtain ⟨g', cap'', rfl, hP'⟩ := Own.of_row (f := Jw.cs) (l := rows ++ [(⟨A2, l.length, c2⟩ : Jw)]) (n := i + 1) (by rw [List.flatMap_append]; exact hO') (by simp [HRL.out]) (by omega); have hB' := Below.grown (hB.alloc (by omega) _) hg' (by simp; omega) (fun k hk => (hO.lt k hk).1)))
   have hkk : KeepT 2 w1 w' := (KeepT.alloc w1 _).trans (KeepT.grown (hO.alloc _) hg' (by decide))
   have hsz : w1.heap.size ≤ w'.heap.size := by have := hg'.size; simp at this; omega
   go_roundw
   case rel =>
    refine ⟨i + 1, some ⟨g', 0, none⟩, cap'', rows ++ [⟨A2, l.length, c2⟩], by omega, by go_num, rfl, by simp [HRL.out], hB', hP'.own Jw.cs_len, ?_⟩
    exact EachW.snoc ((hE.keepT hkk).mono (Nat.le_refl _) hsz) HLI.out (SlW.mono (SlW.keepT hI3 hkk) (Nat.le_refl _) hsz)
   case measure => simp [intOf]; omega
  ·
   have g1 : ¬ (i : Int) < (n : Int) := by omega
   obtain rfl : n = i := by omega
   have HE := Lib.hid hE
   have HO := Lib.hid hO
   clear hE hO
   go_wp2
   go_ret
   refine ⟨B, c, by rw [HL.out]; rfl, ?_, hB⟩
   have hE := HE.out
   rw [List.take_of_length_le (by rw [HL.out]; exact Nat.le_refl _)] at hE
   obtain ⟨A1, c1, e1, hS⟩ := SlW.of_own (f := Jw.cs) HO.out hrl
   injection e1 with e1 _ e2
   subst e1 e2
   rw [HL.out]
   exact ⟨rows, hS, hE⟩

end Go.Proofs.YtiiaimjlohpemaaGreat

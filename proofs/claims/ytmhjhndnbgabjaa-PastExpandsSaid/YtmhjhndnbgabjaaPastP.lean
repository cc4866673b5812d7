/- past: a past held against the document's. -/
import Derived.Test.YtmhjhndnbgabjaaPastO
import Derived.BigQuiet
import Derived.Deep.RegionHeld3
namespace Go.Proofs.Ytmhjhndnbgabjaa
open Go.RowKit
set_option linter.unusedVariables false
set_option linter.unusedSimpArgs false

/-! ### SameTexts -/
set_option maxHeartbeats 1000000 in
theorem sametexts_yes (u v : Value) (L : List (List Int)) (w : World) (hu : Txts w u L) (hv : Txts w v L) (hn : L.length ≤ 1000) : Calls Try.prog 26 #[u, v] w fun e w' => e = .returned (.bool true) ∧ Below w.heap.size w w' := by
  obtain ⟨A, c, rfl, hc, hc2⟩ := hu.is
  obtain ⟨B, d, rfl, hd, hd2⟩ := hv.is
  have HU := Lib.hid (And.intro hu hv)
  have h1 : (((L.length : Int) == (L.length : Int))) = true := by simp
  have h2 : (((L.length : Int) != (L.length : Int))) = false := by simp
  clear hu hv
  go_enter Try.func26, Try.ntmps26
  go_wp2
  go_loopw [5] (fun i wr => ∃ k : Nat, k ≤ L.length ∧ i = .int .i64 k ∧ Hid (Below w.heap.size w wr)) (fun i _ => L.length - (intOf i).toNat)
  case atStart => exact ⟨0, Nat.zero_le _, rfl, Lib.hid (Below.refl _ _)⟩
  case round =>
    obtain ⟨k, hk, rfl, HQ⟩ := hrel
    by_cases hlt : k < L.length
    · obtain ⟨a, i, A1, n1, c1, rfl, _, hca, hta⟩ := (HU.out.1.later HQ.out).at_ hlt
      obtain ⟨b, j, B1, n2, c2, rfl, _, hcb, htb⟩ := (HU.out.2.later HQ.out).at_ hlt
      have HS : Hid (∀ n, Calls Try.prog 13 #[.slice A1 n1 c1, .slice B1 n2 c2] (wr.drewN n) fun e w'' => e = .returned (.bool true) ∧ ∃ m, w'' = wr.drewN m) := Lib.hid (fun n => (same_txt (.slice A1 n1 c1) (.slice B1 n2 c2) _ (wr.drewN n) (hta.any.later (below_drewN (Below.refl _ _) _)) (htb.any.later (below_drewN (Below.refl _ _) _))).mono fun e w'' hh => ⟨hh.1, by obtain ⟨k, e⟩ := hh.2; exact ⟨_, e.trans (World.drewN_drewN _ _ _)⟩⟩)
      clear hta htb
      go_wp2
      go_quiet ((go_at_call 13; exact (HS.out _)))
      go_wp2
      go_roundw
      case rel => exact ⟨k + 1, by omega, by go_num, Lib.hid (HQ.out.trans (below_drewN (Below.refl _ _) _ |>.mono HQ.out.size))⟩
      case measure => simp [intOf]; omega
    · go_wp2
      go_ret
      exact ⟨rfl, HQ.out⟩


theorem bStep {A B C : World} (h : Below A.heap.size A B) (k : Below B.heap.size B C) : Below A.heap.size A C := h.trans (k.mono h.size)
theorem bNew {A B : World} (h : Below A.heap.size A B) (o : Obj) : Below A.heap.size A (B.alloc o) := h.alloc h.size o

set_option maxHeartbeats 8000000 in
theorem same_past (u lv u' lv' v : Value) (M : List (List Int)) (s now : List Int) (k i : Int) (w : World) (hu : Txts w u M) (hs : Txt w lv s) (hu' : Txts w u' M.reverse) (hs' : Txt w lv' s) (hv : Txt w v now) (hk : 0 ≤ k) (hn : M.length ≤ 1000) (h1 : ∀ l ∈ M, l.length ≤ 1000000) (h2 : s.length ≤ 1000000) (h3 : now.length ≤ 1000000) :
    Calls Try.prog 14 #[.agg #[u, .int .i64 k, lv], .agg #[u', .int .i64 k, lv'], .int .i64 i, v] w (Yes w) := by
  obtain ⟨A, c, rfl, hc, hc2⟩ := hu.is
  obtain ⟨B, d, rfl, hd, hd2⟩ := hu'.is
  obtain ⟨As, cs, rfl, _, _⟩ := Sl.is hs
  obtain ⟨Bs, ds, rfl, _, _⟩ := Sl.is hs'
  rw [List.length_reverse] at hd hu' ⊢
  have HU := Lib.hid (And.intro hu (And.intro hs (And.intro hu' (And.intro hs' hv))))
  have HN := Lib.hid (And.intro h1 (And.intro h2 h3))
  clear hu hs hu' hs' hv h1 h2 h3
  obtain ⟨x, hx⟩ : ∃ x, lineM M k s i now = x := ⟨_, rfl⟩
  have HX := Lib.hid hx
  clear hx
  go_enter Try.func14, Try.ntmps14
  go_wp2_with fail
  have C1 := Lib.hid (line_any (.slice A M.length c) v (.slice As s.length cs) M s now k i _ (HU.out.1.later (below_two w (.cells #[.slice A M.length c, .int .i64 k, .slice As s.length cs] 26) (.cells #[.slice B M.length d, .int .i64 k, .slice Bs s.length ds] 28))) (TxtS.later HU.out.2.1 (below_two w _ _)) (TxtS.later HU.out.2.2.2.2 (below_two w _ _)) HN.out.1 HN.out.2.1 HN.out.2.2)
  rw [HX.out] at C1
  (with_reducible refine C1.out.mono ?_)
  rintro e w1 ⟨A1, n1, c1, rfl, ht1, hb1⟩
  obtain ⟨⟨z0, z1⟩, B0, B1, hbw⟩ := two_later hb1
  have H1 := Lib.hid (And.intro (TxtS.any ht1) (And.intro hbw (And.intro B0 B1)))
  obtain ⟨_, y, _⟩ := (show _ from B1)
  have y0 := y 0
  have y1 := y 1
  have y2 := y 2
  clear ht1 hb1 hbw B0 B1 y z0 z1
  go_wp2_with fail
  have C2 := rline_any (.slice B M.length d) v (.slice Bs s.length ds) M.reverse s now k i Any w1 (HU.out.2.2.1.later H1.out.2.1) (TxtS.later HU.out.2.2.2.1 H1.out.2.1) (TxtS.later HU.out.2.2.2.2 H1.out.2.1)
  rw [line_rev M k hk, HX.out] at C2
  have C2 := Lib.hid C2
  (with_reducible refine C2.out.mono ?_)
  rintro e w2 ⟨A2, n2, c2, rfl, ht2, hb2⟩
  have H2 := Lib.hid (And.intro (H1.out.1.later hb2) (And.intro ht2 (And.intro (H1.out.2.1.trans (hb2.mono H1.out.2.1.size)) (And.intro (H1.out.2.2.1.later hb2 H1.out.2.2.1.1) (H1.out.2.2.2.later hb2 H1.out.2.2.2.1)))))
  clear ht2 hb2 y0 y1 y2
  obtain ⟨bb, hbb⟩ : ∃ b, x.isSome = b := ⟨_, rfl⟩
  rw [hbb]
  clear hbb
  have hbe : (bb == bb) = true := by simp
  have HS : Hid (∀ X, Below w2.heap.size w2 X → (fun X => X.cell? ⟨w.heap.size, 0, none⟩ = some (.slice A M.length c) ∧ X.cell? ⟨w.heap.size, 1, none⟩ = some (.int .i64 k) ∧ X.cell? ⟨w.heap.size, 2, none⟩ = some (.slice As s.length cs) ∧ X.cell? ⟨w.heap.size + 1, 0, none⟩ = some (.slice B M.length d) ∧ X.cell? ⟨w.heap.size + 1, 1, none⟩ = some (.int .i64 k) ∧ X.cell? ⟨w.heap.size + 1, 2, none⟩ = some (.slice Bs s.length ds) ∧ Below w2.heap.size w2 X) X) := Lib.hid (by
    intro X hX
    have h0 := H2.out.2.2.2.1.later hX H2.out.2.2.2.1.1
    have h1 := H2.out.2.2.2.2.later hX H2.out.2.2.2.2.1
    exact ⟨h0.2.1 0, h0.2.1 1, h0.2.1 2, h1.2.1 0, h1.2.1 1, h1.2.1 2, hX⟩)
  have hD := (Below.refl w2.heap.size w2).drew
  have HB2 := Lib.hid (fun X (hX : Below w2.heap.size w2 X) => bStep H2.out.2.2.1 hX)
  go_wp2_with fail
  go_region_held3 (fun X => X.cell? ⟨w.heap.size, 0, none⟩ = some (.slice A M.length c) ∧ X.cell? ⟨w.heap.size, 1, none⟩ = some (.int .i64 k) ∧ X.cell? ⟨w.heap.size, 2, none⟩ = some (.slice As s.length cs) ∧ X.cell? ⟨w.heap.size + 1, 0, none⟩ = some (.slice B M.length d) ∧ X.cell? ⟨w.heap.size + 1, 1, none⟩ = some (.int .i64 k) ∧ X.cell? ⟨w.heap.size + 1, 2, none⟩ = some (.slice Bs s.length ds) ∧ Below w2.heap.size w2 X)
    (first | exact HS.out _ (by repeat' (first | assumption | exact Below.refl _ _ | refine bNew ?_ _ | refine below_drewN ?_ _ | refine Below.drew ?_)) | go_keep)
    (first
    | (go_at_call 13; refine (same_far _ _ _ _ (TxtS.later H2.out.1 (by assumption)) (TxtS.later H2.out.2.1 (by assumption))).mono ?_; rintro e w3 ⟨rfl, hb3⟩; have hB3 := bStep (A := w2) (by assumption) hb3; clear hb3)
    | (go_at_call 17; refine (at_any _ _ _ _).mono ?_; rintro e w4 ⟨rfl, hw4⟩; have hB4 : Below w2.heap.size w2 w4 := (by rw [hw4]; exact bNew (by assumption) _); clear hw4)
    | (go_at_call 16; refine (len_any _ _ _ _ _ _).mono ?_; rintro e w5 ⟨rfl, hw5⟩; have hB5 : Below w2.heap.size w2 w5 := (by rw [hw5]; exact bNew (by assumption) _); clear hw5)
    | (go_at_call 18; refine (all_any _ _ _ _ _ M _ (HU.out.1.later (HB2.out _ (by assumption))) hn HN.out.1).mono ?_; rintro e w6 ⟨A6, n6, c6, rfl, ht6, hb6⟩; have hB6 := bStep (A := w2) (by assumption) hb6; clear hb6)
    | (go_at_call 26; refine (sametexts_yes _ _ M.reverse _ ht6.any (HU.out.2.2.1.later (HB2.out _ hB6)) (by simpa using hn)).mono ?_; rintro e w7 ⟨rfl, hb7⟩; have hB7 := bStep (A := w2) hB6 hb7; clear hb7))
  all_goals
    have HF := Lib.hid (HB2.out _ hB7)
    clear hB7
    go_wp2
    go_ret
    exact ⟨rfl, HF.out⟩

end Go.Proofs.Ytmhjhndnbgabjaa

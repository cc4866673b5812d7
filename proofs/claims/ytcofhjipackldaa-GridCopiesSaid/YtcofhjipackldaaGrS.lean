/- grid: GridWide's walk. -/
import Derived.Test.YtcofhjipackldaaGrR
namespace Go.Proofs.Ytcofhjipackldaa
open Go.RowKit
set_option linter.unusedVariables false
set_option linter.unusedSimpArgs false

theorem field_wd (a : ByteArray) (b : Int) (w : World) : (Instr.field 28 (.agg #[.string a, .int .i64 b]) 1).run Try.prog w = .ok (.int .i64 b) w := by
  simp [Instr.field, asAgg, go_sem]
theorem field_tx (a : ByteArray) (b : Int) (w : World) : (Instr.field 28 (.agg #[.string a, .int .i64 b]) 0).run Try.prog w = .ok (.string a) w := by
  simp [Instr.field, asAgg, go_sem]

theorem WF.prev {n : Nat} {G : Nat → Cl} (h : WF n G) {c : Nat} (hc : c + 1 < n) : (G c).2 = 2 ↔ (G (c + 1)).2 = 0 := by
  constructor
  · intro e
    rcases h c (by omega) with ⟨_, _, d⟩ | ⟨a, _⟩ | a
    · exact d
    · omega
    · omega
  · intro e
    rcases h (c + 1) hc with ⟨a, _⟩ | ⟨_, _, d, _⟩ | a
    · omega
    · exact d
    · omega
theorem WF.empty {n : Nat} {G : Nat → Cl} (h : WF n G) {c : Nat} (hc : c < n) (e : (G c).2 = 0) : (G c).1 = ⟨#[]⟩ ∧ 0 < c := by
  rcases h c hc with ⟨a, _⟩ | ⟨_, b, _, d⟩ | a
  · omega
  · exact ⟨d, b⟩
  · omega
theorem WF.last {n : Nat} {G : Nat → Cl} (h : WF n G) {c : Nat} (hc : c < n) (e : c + 1 = n) : (G c).2 ≠ 2 := by
  intro e2
  rcases h c hc with ⟨_, b, _⟩ | ⟨a, _⟩ | a <;> omega

set_option maxHeartbeats 4000000 in
set_option maxRecDepth 100000 in
theorem walk_GridWide (W : World) (rows : Int) (w0 : (Lit.int .i64 rows).wf = true) (cols : Int) (w1 : (Lit.int .i64 cols).wf = true) (A : Option Addr) (n c : Nat) (D : Nat → Dd) (hn : n ≤ c) (hc : c ≤ maxLen) (hD : ∀ i, i < n → DeedAt W A i (D i)) :
    Calls Try.prog 5 #[.int .i64 rows, .int .i64 cols, .slice A n c] W (Yes W) := by
  have HD := Lib.hid hD
  unfold maxLen at hc
  have hb1 := low3_bits rows
  have hb2 := low7_bits cols
  have hl1 := low3_le rows
  have hl2 := low7_le cols
  obtain ⟨R, hR⟩ : ∃ R, 1 + low3 rows = R := ⟨_, rfl⟩
  obtain ⟨m, hm⟩ : ∃ m, 2 + low7 cols = m := ⟨_, rfl⟩
  have eR : (1 : Int) + (low3 rows : Int) = (R : Int) := by omega
  have em : (2 : Int) + (low7 cols : Int) = (m : Int) := by omega
  have h1 : 1 ≤ R := by omega
  have h1' : R ≤ 4 := by omega
  have h2 : 2 ≤ m := by omega
  have h2' : m ≤ 9 := by omega
  clear hD hR hm
  have fw := field_wd
  have ft := field_tx
  go_enter Try.func5, Try.ntmps5
  go_wp2_with fail
  refine (new_in (R := R) (n := m) W h1 (by omega) h2 (by omega)).mono ?_
  rintro e w1 ⟨g, cb, C, rfl, P1, b1⟩
  have H1 := Lib.hid (And.intro P1 b1)
  clear P1 b1
  go_wp2_with fail
  refine (newR_in (R := R) (n := m) w1 h1 (by omega) h2 (by omega)).mono ?_
  rintro e w2 ⟨ob, Co, rb, Cr, rfl, P2, b2⟩
  have H2 := Lib.hid (And.intro (H1.out.1.later b2) (And.intro P2 (And.intro (belowStep H1.out.2 b2) b2.size)))
  have hCo := P2.cap
  have z1 := Lib.hid H1.out.2.size
  clear P2 b2
  go_wp2_with fail
  clear hb1 hb2 hl1 hl2 eR em
  go_loopw [9] (fun i wr => ∃ k : Nat, k ≤ n ∧ k ≤ 40 ∧ i = .int .i64 k ∧ Hid (∃ F, PG wr W.heap.size w1.heap.size g cb C R m F ∧ RG wr w1.heap.size w2.heap.size ob Co R m rb Cr F ∧ Below W.heap.size W wr ∧ w2.heap.size ≤ wr.heap.size)) (fun i _ => n - (intOf i).toNat)
  case atStart => exact ⟨0, Nat.zero_le _, Nat.zero_le _, rfl, ⟨_, H2.out.1, H2.out.2.1, H2.out.2.2.1, Nat.le_refl _⟩⟩
  case round =>
    obtain ⟨k, hk, hk40, rfl, HW⟩ := hrel
    obtain ⟨F, hF⟩ := HW.out
    have HF := Lib.hid hF
    clear hF
    by_cases hlt : k < n ∧ k < 40
    · obtain ⟨hkn, hk4⟩ := hlt
      have h4 : (k : Int) < 40 := by omega
      obtain ⟨b, o, rfl, hbl, c0, c1, c2, c3, c4⟩ := (HD.out k hkn).below HF.out.2.2.1
      obtain ⟨d, hd⟩ : ∃ d, D k = d := ⟨_, rfl⟩
      rw [hd] at c0 c1 c2 c3 c4
      clear hd
      have HA := Lib.hid (show Apart W.heap.size w1.heap.size w1.heap.size w2.heap.size wr.heap.size from ⟨.inl (Nat.le_refl _), Nat.le_trans H2.out.2.2.2 HF.out.2.2.2, HF.out.2.2.2⟩)
      go_wp2_with fail
      refine (does_any HF.out.1 HF.out.2.1 HA.out d.k d.r d.c d.t d.wd).mono ?_
      rintro e w3 ⟨⟨bl, rfl, hbt⟩, p3, r3, ch⟩
      have H3 := Lib.hid (And.intro p3 (And.intro r3 (And.intro (HF.out.2.2.1.trans (chg_two_below ch HF.out.2.2.1.size (Nat.le_refl _) z1.out)) (Nat.le_trans HF.out.2.2.2 ch.size))))
      clear p3 r3 ch hbt c0 c1 c2 c3 c4
      go_wp2_with fail
      go_roundw
      case rel => exact ⟨k + 1, by omega, by omega, by go_num, ⟨_, H3.out⟩⟩
      case measure => simp [intOf]; omega
    · have hx : n ≤ k ∨ (k < n ∧ 40 ≤ k) := by omega
      clear hlt
      rcases hx with hx | ⟨hx, hx2⟩
      all_goals
        go_wp2_with fail
        refine (size_any HF.out.1).mono ?_
        rintro e w3 ⟨rfl, q, rfl⟩
        have HP := Lib.hid (And.intro (HF.out.1.drewN q) (And.intro (below_drewN HF.out.2.2.1 q) HF.out.1.wf))
        go_wp2_with fail
        obtain ⟨X, hX⟩ : ∃ X, wr.drewN q = X := ⟨_, rfl⟩
        rw [hX] at HP ⊢
        clear hX
        go_loopw [12] (fun i wr => ∃ r : Nat, r ≤ R ∧ i = .int .i64 r ∧ Hid (Below X.heap.size X wr)) (fun i _ => R - (intOf i).toNat)
        case atStart => exact ⟨0, Nat.zero_le _, rfl, Below.refl _ _⟩
        case round =>
          obtain ⟨r, hr, rfl, HB⟩ := hrel
          by_cases hrR : r < R
          · go_wp2_with fail
            go_loopw [13] (fun i wr => ∃ j : Nat, j ≤ m ∧ i = .int .i64 j ∧ Hid (Below X.heap.size X wr)) (fun i _ => m - (intOf i).toNat)
            case atStart => exact ⟨0, Nat.zero_le _, rfl, HB.out⟩
            case round =>
              obtain ⟨j, hj, rfl, HB2⟩ := hrel
              by_cases hjm : j < m
              · by_cases hj0 : j = 0
                · subst hj0
                  obtain ⟨u, hu⟩ : ∃ u, F r 0 = u := ⟨_, rfl⟩
                  have hu0 : (u.2 == 0) = false := by
                    rw [← hu]
                    simp
                    intro e
                    exact absurd ((HP.out.2.2 r hrR).empty hjm e).2 (by omega)
                  have C1 := Lib.hid (fun X (P : PG X W.heap.size w1.heap.size g cb C R m F) => at_in (r := r) (c := 0) P hrR hjm)
                  rw [hu] at C1
                  clear hu
                  go_wp2_with fail
                  refine (C1.out _ (HP.out.1.later HB2.out)).mono ?_
                  rintro e w3 ⟨rfl, b3⟩
                  have H3 := Lib.hid (belowStep HB2.out b3)
                  clear b3
                  go_wp2_with fail
                  go_roundw
                  case rel => exact ⟨0 + 1, by omega, by go_num, H3.out⟩
                  case measure => simp [intOf]; omega
                · obtain ⟨i, rfl⟩ : ∃ i, j = i + 1 := ⟨j - 1, by omega⟩
                  obtain ⟨u, hu⟩ : ∃ u, F r (i + 1) = u := ⟨_, rfl⟩
                  obtain ⟨p, hp⟩ : ∃ p, F r i = p := ⟨_, rfl⟩
                  have hiff := (HP.out.2.2 r hrR).prev hjm
                  have hemp := (HP.out.2.2 r hrR).empty hjm
                  rw [hu, hp] at hiff
                  rw [hu] at hemp
                  have C1 := Lib.hid (fun X (P : PG X W.heap.size w1.heap.size g cb C R m F) => at_in (r := r) (c := i + 1) P hrR hjm)
                  have C2 := Lib.hid (fun X (P : PG X W.heap.size w1.heap.size g cb C R m F) => at_in (r := r) (c := i) P hrR (by omega))
                  rw [hu] at C1
                  rw [hp] at C2
                  have ei : (((i + 1 : Nat) : Int) - 1) = (i : Int) := by omega
                  obtain ⟨E, hE⟩ : ∃ E, i + 1 = E := ⟨_, rfl⟩
                  rw [hE] at C1 ei hjm hj ⊢
                  have hE0 : (0 : Int) < (E : Int) := by omega
                  have HE := Lib.hid hE
                  clear hu hp hE hj0
                  by_cases hw : p.2 = 2
                  · have hu0 := hiff.1 hw
                    have ht := (hemp hu0).1
                    obtain ⟨ut, ui⟩ := u
                    obtain ⟨pt, pi⟩ := p
                    simp only at hw hu0 ht
                    subst hw; subst hu0; subst ht
                    clear hiff hemp
                    go_wp2_with fail
                    refine (C2.out _ (HP.out.1.later HB2.out)).mono ?_
                    rintro e w3 ⟨rfl, b3⟩
                    have H3 := Lib.hid (belowStep HB2.out b3)
                    clear b3
                    go_wp2_with fail
                    refine (C1.out _ (HP.out.1.later H3.out)).mono ?_
                    rintro e w4 ⟨rfl, b4⟩
                    have H4 := Lib.hid (belowStep H3.out b4)
                    clear b4
                    go_wp2_with fail
                    refine (C1.out _ (HP.out.1.later H4.out)).mono ?_
                    rintro e w5 ⟨rfl, b5⟩
                    have H5 := Lib.hid (belowStep H4.out b5)
                    clear b5
                    go_wp2_with fail
                    go_roundw
                    case rel => exact ⟨E + 1, by omega, by go_num, H5.out⟩
                    case measure => simp [intOf]; omega
                  · have hp2 : (p.2 == 2) = false := by simpa using hw
                    have hu0 : (u.2 == 0) = false := by simp; exact fun e => hw (hiff.2 e)
                    clear hiff hemp hw
                    go_wp2_with fail
                    refine (C2.out _ (HP.out.1.later HB2.out)).mono ?_
                    rintro e w3 ⟨rfl, b3⟩
                    have H3 := Lib.hid (belowStep HB2.out b3)
                    clear b3
                    go_wp2_with fail
                    refine (C1.out _ (HP.out.1.later H3.out)).mono ?_
                    rintro e w4 ⟨rfl, b4⟩
                    have H4 := Lib.hid (belowStep H3.out b4)
                    clear b4
                    go_wp2_with fail
                    go_roundw
                    case rel => exact ⟨E + 1, by omega, by go_num, H4.out⟩
                    case measure => simp [intOf]; omega
              · obtain rfl : j = m := by omega
                obtain ⟨i, hi⟩ : ∃ i, j - 1 = i := ⟨_, rfl⟩
                have hi' : i + 1 = j := by omega
                obtain ⟨u, hu⟩ : ∃ u, F r i = u := ⟨_, rfl⟩
                have hu2 : (u.2 == 2) = false := by
                  rw [← hu]
                  simp
                  exact (HP.out.2.2 r hrR).last (by omega) hi'
                have C1 := Lib.hid (fun X (P : PG X W.heap.size w1.heap.size g cb C R j F) => at_in (r := r) (c := i) P hrR (by omega))
                rw [hu] at C1
                have ei : (j : Int) - 1 = (i : Int) := by omega
                clear hu hi hi'
                go_wp2_with fail
                refine (C1.out _ (HP.out.1.later HB2.out)).mono ?_
                rintro e w3 ⟨rfl, b3⟩
                have H3 := Lib.hid (belowStep HB2.out b3)
                clear b3
                go_wp2_with fail
                go_roundw
                case rel => exact ⟨r + 1, by omega, by go_num, H3.out⟩
                case measure => simp [intOf]; omega
          · go_wp2_with fail
            refine (awake_yes _).mono ?_
            rintro e w5 ⟨rfl, b5⟩
            have H5 := Lib.hid (belowStep HP.out.2.1 (belowStep HB.out b5))
            clear b5
            go_wp2_with fail
            go_ret
            exact ⟨rfl, H5.out⟩
end Go.Proofs.Ytcofhjipackldaa

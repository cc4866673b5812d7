/- past: Expand's walk, where nothing is named. -/
import Derived.Test.YtmhjhndnbgabjaaPastS
namespace Go.Proofs.Ytmhjhndnbgabjaa
open Go.RowKit
set_option linter.unusedVariables false
set_option linter.unusedSimpArgs false

set_option maxHeartbeats 4000000 in
set_option maxRecDepth 100000 in
theorem expand_any (u lv v : Value) (k : Int) (l r : List Int) (w : World) (hv : Txt w v l) (hr : expP l = some r) (hl : l.length ≤ 1000) :
    Calls Try.prog 19 #[.agg #[u, .int .i64 k, lv], v] w fun e w' => ∃ A n c, e = .returned (.tuple #[.slice A n c, .int .i64 0]) ∧ TxtS w' (fun b => w.heap.size ≤ b) (.slice A n c) r ∧ Below w.heap.size w w' := by
  obtain ⟨A, c, rfl, hrd, _, hc, hc2, _⟩ := hv
  unfold maxLen at hc2
  have HR := Lib.hid hr
  have HD := Lib.hid hrd
  clear hr hrd
  go_enter Try.func19, Try.ntmps19
  go_wp2
  go_loopw [6, 7, 8, 9, 10] (fun ov i _ _ _ wr => ∃ a n Ao co, a ≤ l.length ∧ n ≤ a ∧ i = .int .i64 ((a : Nat) : Int) ∧ ov = .slice Ao n co ∧ Hid (∃ done, EX w l r a n done (.slice Ao n co) wr)) (fun _ i _ _ _ _ => l.length - (intOf i).toNat)
  case atStart => exact ⟨0, 0, none, 0, Nat.zero_le _, Nat.le_refl _, rfl, rfl, ⟨[], World.ownsRow_nil _ _ _ _, rfl, ⟨r, HR.out, rfl⟩, below_one _ _, by simp [World.size_alloc]⟩⟩
  case round =>
    obtain ⟨a, n, Ao, co, ha, hna, rfl, rfl, HE⟩ := hrel
    obtain ⟨done, hE⟩ := HE.out
    have E1 := Lib.hid hE
    clear hE HE
    by_cases hlt : a < l.length
    · obtain ⟨b, o, rfl, hbl, hcx⟩ := HD.out a hlt
      have hcw : wr.cell? ⟨b, o + a, none⟩ = some (.int .i32 (l.getD a 0)) := (((E1.out.below).cell (p := ⟨b, o + a, none⟩) hbl)).trans hcx
      obtain ⟨x, hx⟩ : ∃ x, l.getD a 0 = x := ⟨_, rfl⟩
      rw [hx] at hcw
      have hdrop : l.drop a = x :: l.drop (a + 1) := by
        rw [List.drop_eq_getElem_cons hlt, ← hx]
        simp [List.getD, hlt]
      have HX := Lib.hid hdrop
      have hca : (a : Int) + 1 ≤ (c : Int) := by omega
      have d65 : decide ((65536 : Int) < (n : Int) + 1) = false := decide_eq_false (by omega)
      have hai : (a : Int) < (l.length : Int) := by omega
      clear hcx hx hdrop
      by_cases hq : x = 92 ∧ (l.drop (a + 1)).head? = some 33
      · obtain ⟨rfl, hy⟩ := hq
        have hlt2 : a + 1 < l.length := by
          rcases Nat.lt_or_ge (a + 1) l.length with h | h
          · exact h
          · rw [List.drop_eq_nil_of_le h] at hy; cases hy
        obtain ⟨b', o', e', _, hcy⟩ := HD.out (a + 1) hlt2
        injection e' with e'
        injection e' with x1 x2
        subst x1; subst x2
        have hdrop2 : l.drop (a + 1) = 33 :: l.drop (a + 2) := by
          rw [List.drop_eq_getElem_cons hlt2] at hy ⊢
          injection hy with hy
          rw [hy]
        have hy33 : l.getD (a + 1) 0 = 33 := by
          have := congrArg List.head? hdrop2
          rw [List.head?_drop] at this
          rw [List.getD, this]; rfl
        have hcv : wr.cell? ⟨b, o + (a + 1), none⟩ = some (.int .i32 33) := (((E1.out.below).cell (p := ⟨b, o + (a + 1), none⟩) hbl)).trans (by rw [hcy, ← hy33]; rfl)
        obtain ⟨rest, hrest, _⟩ := E1.out.rest
        rw [HX.out, hdrop2] at hrest
        obtain ⟨r', hr', hrr⟩ := expP_two hrest
        have HP := Lib.hid (show ∃ r', expP (l.drop (a + 2)) = some r' ∧ ∀ rest, expP (l.drop a) = some rest → rest = 33 :: r' from ⟨r', hr', fun rest2 h2 => by rw [HX.out, hdrop2, hrest] at h2; injection h2 with h2; rw [← h2, hrr]⟩)
        clear hrest hr' hrr hdrop2 hy33 hcy hy
        have hai2 : (a : Int) + 1 < (l.length : Int) := by omega
        have d2 : decide ((a : Int) + 1 < (l.length : Int)) = true := decide_eq_true hai2
        have hca2 : (a : Int) + 2 ≤ (c : Int) := by omega
        have hRx : Rd wr (some ⟨b, o + (a + 1), none⟩) 1 (fun _ => Value.int .i32 33) := fun j hj => ⟨b, o + (a + 1), rfl, Nat.lt_of_lt_of_le hbl E1.out.below.size, by obtain rfl : j = 0 := (by omega); exact hcv⟩
        have HRx := Lib.hid hRx
        clear hRx
        have h21 : a + 2 - (a + 1) = 1 := by omega
        go_wp2_with (at_builtin; (try rw [h21]); refine wpList_cat slR_elt E1.out.own E1.out.size rfl rfl rfl rfl HRx.out (fun h => by cases h) (fun j _ => rfl) (by unfold maxLen; omega) (by omega) ?_; intro A3 c3 w3 hp; have HQ := Lib.hid (E1.out.push hp HP.out); clear hp)
        go_roundw
        case rel => exact ⟨a + 2, n + 1, _, _, by omega, by omega, by go_num, rfl, ⟨_, HQ.out⟩⟩
        case measure => simp [intOf]; omega
      · obtain ⟨rest, hrest, _⟩ := E1.out.rest
        rw [HX.out] at hrest
        obtain ⟨hx33, r', hr', hrr⟩ := expP_one hrest hq
        have hpush : ∃ r', expP (l.drop (a + 1)) = some r' ∧ ∀ rest, expP (l.drop a) = some rest → rest = x :: r' := ⟨r', hr', fun rest2 h2 => by rw [HX.out, hrest] at h2; injection h2 with h2; rw [← h2, hrr]⟩
        have HP := Lib.hid hpush
        have d3 : (x == 33) = false := by simpa using hx33
        clear hrest hr' hrr hpush hx33
        by_cases h92 : x = 92
        · subst h92
          clear d3
          rcases Nat.lt_or_ge (a + 1) l.length with hlt2 | hge
          · obtain ⟨b', o', e', _, hcy⟩ := HD.out (a + 1) hlt2
            injection e' with e'
            injection e' with x1 x2
            subst x1; subst x2
            obtain ⟨y, hy⟩ : ∃ y, l.getD (a + 1) 0 = y := ⟨_, rfl⟩
            have hcv : wr.cell? ⟨b, o + (a + 1), none⟩ = some (.int .i32 y) := (((E1.out.below).cell (p := ⟨b, o + (a + 1), none⟩) hbl)).trans (by rw [hcy, ← hy]; rfl)
            have d4 : (y == 33) = false := by
              have hy33 : y ≠ 33 := fun e => hq ⟨rfl, by rw [List.head?_drop, List.getElem?_eq_getElem hlt2, ← e, ← hy]; simp [List.getD, hlt2]⟩
              simpa using hy33
            have hai2 : (a : Int) + 1 < (l.length : Int) := by omega
            have d2 : decide ((a : Int) + 1 < (l.length : Int)) = true := decide_eq_true hai2
            clear hcy hy hq
            have hRx : Rd wr (some ⟨b, o + a, none⟩) 1 (fun _ => Value.int .i32 92) := fun j hj => ⟨b, o + a, rfl, Nat.lt_of_lt_of_le hbl E1.out.below.size, by obtain rfl : j = 0 := (by omega); exact hcw⟩
            have HRx := Lib.hid hRx
            clear hRx
            go_wp2_with (at_builtin; refine wpList_cat slR_elt E1.out.own E1.out.size rfl rfl rfl rfl HRx.out (fun h => by cases h) (fun j _ => rfl) (by unfold maxLen; omega) (by omega) ?_; intro A3 c3 w3 hp; have HQ := Lib.hid (E1.out.push hp HP.out); clear hp)
            go_roundw
            case rel => exact ⟨a + 1, n + 1, _, _, by omega, by omega, by go_num, rfl, ⟨_, HQ.out⟩⟩
            case measure => simp [intOf]; omega
          · have d2 : decide ((a : Int) + 1 < (l.length : Int)) = false := decide_eq_false (by omega)
            clear hq
            have hRx : Rd wr (some ⟨b, o + a, none⟩) 1 (fun _ => Value.int .i32 92) := fun j hj => ⟨b, o + a, rfl, Nat.lt_of_lt_of_le hbl E1.out.below.size, by obtain rfl : j = 0 := (by omega); exact hcw⟩
            have HRx := Lib.hid hRx
            clear hRx
            go_wp2_with (at_builtin; refine wpList_cat slR_elt E1.out.own E1.out.size rfl rfl rfl rfl HRx.out (fun h => by cases h) (fun j _ => rfl) (by unfold maxLen; omega) (by omega) ?_; intro A3 c3 w3 hp; have HQ := Lib.hid (E1.out.push hp HP.out); clear hp)
            go_roundw
            case rel => exact ⟨a + 1, n + 1, _, _, by omega, by omega, by go_num, rfl, ⟨_, HQ.out⟩⟩
            case measure => simp [intOf]; omega
        · have d1 : (x == 92) = false := by simpa using h92
          clear h92 hq
          have hRx : Rd wr (some ⟨b, o + a, none⟩) 1 (fun _ => Value.int .i32 x) := fun j hj => ⟨b, o + a, rfl, Nat.lt_of_lt_of_le hbl E1.out.below.size, by obtain rfl : j = 0 := (by omega); exact hcw⟩
          have HRx := Lib.hid hRx
          clear hRx
          go_wp2_with (at_builtin; refine wpList_cat slR_elt E1.out.own E1.out.size rfl rfl rfl rfl HRx.out (fun h => by cases h) (fun j _ => rfl) (by unfold maxLen; omega) (by omega) ?_; intro A3 c3 w3 hp; have HQ := Lib.hid (E1.out.push hp HP.out); clear hp)
          go_roundw
          case rel => exact ⟨a + 1, n + 1, _, _, by omega, by omega, by go_num, rfl, ⟨_, HQ.out⟩⟩
          case measure => simp [intOf]; omega
    · obtain rfl : a = l.length := by omega
      obtain ⟨rest, hrest, hdr⟩ := E1.out.rest
      rw [List.drop_length] at hrest
      injection hrest with hrest
      subst hrest
      rw [List.append_nil] at hdr
      subst hdr
      have HZ := Lib.hid (And.intro (txt_own E1.out.len E1.out.own) E1.out.below)
      clear hlt
      go_wp2
      go_ret2
      exact ⟨_, _, _, rfl, Sl.mono HZ.out.1 fun b hb => by omega, HZ.out.2⟩
end Go.Proofs.Ytmhjhndnbgabjaa

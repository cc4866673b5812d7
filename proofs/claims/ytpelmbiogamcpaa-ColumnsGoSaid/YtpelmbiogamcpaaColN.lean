/- columns: the document's fewest rows; two slices of ints are held against each other; the chapter's example. -/
import Derived.Test.YtpelmbiogamcpaaColM
namespace Go.Proofs.Ytpelmbiogamcpaa
open Go.RowKit
set_option linter.unusedVariables false
set_option linter.unusedSimpArgs false

set_option maxHeartbeats 2000000 in
set_option maxRecDepth 100000 in
theorem ref_fit (A : Option Addr) (n c : Nat) (cols : Int) (f : Nat → Nat) (w : World) (hA : Rd w A n (nv f)) (hf : ∀ j, j < n → f j ≤ 1023) (h0 : 0 < n) (hn : n ≤ 60) :
    Calls Try.prog 14 #[.slice A n c, .int .i64 cols] w fun e w' => ∃ R : Nat, e = .returned (.int .i64 R) ∧ FitIs f n cols R ∧ Below w.heap.size w w' := by
  have HA := Lib.hid (And.intro hA hf)
  clear hA hf
  go_enter Try.func14, Try.ntmps14
  go_wp2
  go_loopw [5] (fun i wr => ∃ r : Nat, 1 ≤ r ∧ r ≤ n ∧ i = .int .i64 r ∧ Hid (Below w.heap.size w wr ∧ ∀ s, 1 ≤ s → s < r → cols < (totP f n s : Int))) (fun i _ => n - (intOf i).toNat)
  case atStart => exact ⟨1, Nat.le_refl _, h0, rfl, Below.refl _ _, fun s h1 h2 => absurd h2 (by omega)⟩
  case round =>
    obtain ⟨r, hr, hrn, rfl, HV⟩ := hrel
    by_cases hlt : r < n
    · have C1 := Lib.hid (ref_plan A n c r f wr (HA.out.1.later HV.out.1) HA.out.2 hn (by omega) (by omega))
      go_wp2_with fail
      (with_reducible refine C1.out.mono ?_)
      rintro e w1 ⟨A1, c1, rfl, hR, hb⟩
      have HR := Lib.hid (And.intro hR hb)
      have C2 := Lib.hid (ref_total A1 (colsN n r) c1 (colW f n r) w1 hR (fun j hj => colW_small HA.out.2 ((lt_cols (by omega)).1 hj)) (Nat.le_trans (cols_le (by omega)) hn))
      clear hR hb
      go_wp2_with fail
      (with_reducible refine C2.out.mono ?_)
      rintro e w2 ⟨rfl, rfl⟩
      obtain ⟨t, ht⟩ : ∃ t, totN (colW f n r) (colsN n r) = t := ⟨_, rfl⟩
      have HT := Lib.hid (show totP f n r = t from ht)
      rw [ht]
      clear ht
      by_cases hc : (t : Int) ≤ cols
      · have d1 : decide ((t : Int) ≤ cols) = true := decide_eq_true hc
        go_wp2
        go_ret
        exact ⟨r, rfl, ⟨hr, hrn, HV.out.2, fun _ => by rw [HT.out]; exact hc⟩, HV.out.1.trans (HR.out.2.mono HV.out.1.size)⟩
      · have d1 : decide ((t : Int) ≤ cols) = false := decide_eq_false hc
        go_wp2
        go_roundw
        case rel =>
          exact ⟨r + 1, by omega, by omega, by go_num, HV.out.1.trans (HR.out.2.mono HV.out.1.size), fun s h1 h2 => by
            rcases Nat.lt_or_ge s r with h | h
            · exact HV.out.2 s h1 h
            · rw [show s = r by omega, HT.out]; omega⟩
        case measure => simp [intOf]; omega
    · obtain rfl : r = n := by omega
      go_wp2
      go_ret
      exact ⟨r, rfl, ⟨hr, Nat.le_refl _, HV.out.2, fun h => absurd h (by omega)⟩, HV.out.1⟩

set_option maxHeartbeats 400000 in
theorem sameN (A B : Option Addr) (n c d : Nat) (f : Nat → Nat) (w : World) (hn : n ≤ 60) (hA : Rd w A n (nv f)) (hB : Rd w B n (nv f)) :
    Calls Try.prog 15 #[.slice A n c, .slice B n d] w fun e w' => e = .returned (.bool true) ∧ ∃ k, w' = w.drewN k := by
  have h1 : (((n : Int) == (n : Int))) = true := by simp
  have h2 : (((n : Int) != (n : Int))) = false := by simp
  go_enter Try.func15, Try.ntmps15
  go_wp2
  go_loopw [5] (fun i wr => ∃ k : Nat, k ≤ n ∧ i = .int .i64 k ∧ ∃ q, wr = w.drewN q) (fun i _ => n - (intOf i).toNat)
  case atStart => exact ⟨0, Nat.zero_le _, rfl, 0, rfl⟩
  case round =>
    obtain ⟨k, hk, rfl, q, rfl⟩ := hrel
    by_cases hlt : k < n
    · obtain ⟨a, i, rfl, _, ha⟩ := hA k hlt
      obtain ⟨b, j, rfl, _, hb⟩ := hB k hlt
      have h3 : ((((f k : Nat) : Int) == ((f k : Nat) : Int))) = true := by simp
      have h4 : ((((f k : Nat) : Int) != ((f k : Nat) : Int))) = false := by simp
      unfold nv at ha hb
      clear hA hB
      go_wp2
      go_quiet (fail)
      go_wp2
      go_roundw
      case rel => exact ⟨k + 1, by omega, by go_num, _, rfl⟩
      case measure => simp [intOf]; omega
    · go_wp2
      go_ret
      exact ⟨rfl, _, rfl⟩

theorem ex_fit : FitIs (fun j => j + 1) 3 7 2 :=
  ⟨by decide, by decide, fun r h1 h2 => by obtain rfl : r = 1 := by omega
                                           decide, fun _ => by decide⟩

theorem one_cell {w w1 : World} (hb : Below w.heap.size w w1) (cs : Array Value) (t : TypeId) : Below w.heap.size w (w1.alloc (.cells cs t)) := hb.alloc hb.size _

set_option maxHeartbeats 2000000 in
set_option maxRecDepth 100000 in
theorem awake (w : World) : Calls Try.prog 8 #[] w fun e w' => e = .returned (.bool true) ∧ Below w.heap.size w w' := by
  have C1 := Lib.hid (fit_some (some ⟨w.heap.size, 0, none⟩) 3 3 7 (fun j => j + 1) (w.alloc (.cells #[.int .i64 1, .int .i64 2, .int .i64 3] 3))
    (rd_new w _ _ 3 _ (fun j hj => by obtain rfl | rfl | rfl : j = 0 ∨ j = 1 ∨ j = 2 := by omega
                                      all_goals rfl)) (fun j hj => by omega) (by omega) (by omega))
  go_enter Try.func8, Try.ntmps8
  go_wp2_with fail
  (with_reducible refine C1.out.mono ?_)
  rintro e w1 ⟨R, A1, c1, rfl, hF, hR, hb⟩
  obtain rfl : R = 2 := hF.one ex_fit
  obtain ⟨K, hK⟩ : ∃ K, colsN 3 2 = K := ⟨_, rfl⟩
  obtain rfl : K = 2 := by rw [← hK]; decide
  rw [hK] at hR ⊢
  have HR := Lib.hid (And.intro hR ((Below.refl _ _).alloc (Nat.le_refl _) _ |>.trans (hb.mono (by simp [World.size_alloc]))))
  clear hF hR hb
  have hW : ∀ j, j < 2 → colW (fun j => j + 1) 3 2 j ≤ 1023 := fun j hj => by
    obtain rfl | rfl : j = 0 ∨ j = 1 := by omega
    all_goals decide
  have C2 := Lib.hid (sameN A1 (some ⟨w1.heap.size + 1, 0, none⟩) 2 c1 2 (colW (fun j => j + 1) 3 2) ((w1.alloc (.cells #[.int .i64 2, .slice A1 2 c1] 24)).alloc (.cells #[.int .i64 2, .int .i64 3] 3)) (by omega)
    ((HR.out.1.later ((Below.refl _ _).alloc (Nat.le_refl _) _)).later ((Below.refl _ _).alloc (Nat.le_refl _) _))
    (by
      have h := rd_new (w1.alloc (.cells #[.int .i64 2, .slice A1 2 c1] 24)) #[.int .i64 2, .int .i64 3] 3 2 (nv (colW (fun j => j + 1) 3 2)) (fun j hj => by
        obtain rfl | rfl : j = 0 ∨ j = 1 := by omega
        all_goals rfl)
      rwa [World.size_alloc] at h))
  have B2 := (blk_new w1 #[.int .i64 2, .slice A1 2 c1] 24).alloc (.cells #[.int .i64 2, .int .i64 3] 3)
  obtain ⟨z0, m0, n0⟩ := (show Blk _ _ _ from B2)
  go_wp2_with fail
  (with_reducible refine C2.out.mono ?_)
  rintro e w2 ⟨rfl, q, rfl⟩
  have C3 := Lib.hid (plan_total 2 A1 2 c1 (colW (fun j => j + 1) 3 2) (((w1.alloc (.cells #[.int .i64 2, .slice A1 2 c1] 24)).alloc (.cells #[.int .i64 2, .int .i64 3] 3)).drewN q)
    (((HR.out.1.later ((Below.refl _ _).alloc (Nat.le_refl _) _)).later ((Below.refl _ _).alloc (Nat.le_refl _) _)).drewN q) hW (by omega))
  go_wp2_with fail
  (with_reducible refine C3.out.mono ?_)
  rintro e w3 ⟨rfl, hb3⟩
  have HB := Lib.hid (show Below w.heap.size w w3 from (below_drewN ((HR.out.2.alloc HR.out.2.size _).alloc (by simp only [World.size_alloc]; have := HR.out.2.size; omega) _) q).trans (hb3.mono (by have := HR.out.2.size; show w.heap.size ≤ ((w1.alloc _).alloc _).heap.size; simp only [World.size_alloc]; omega)))
  obtain ⟨t, ht⟩ : ∃ t, totN (colW (fun j => j + 1) 3 2) 2 = t := ⟨_, rfl⟩
  obtain rfl : t = 7 := by rw [← ht]; decide
  rw [ht]
  clear hb3
  go_wp2
  go_ret
  exact ⟨rfl, HB.out⟩
end Go.Proofs.Ytpelmbiogamcpaa

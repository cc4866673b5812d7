/- diff: Rows. -/
import Derived.Test.YtednedklkbjihaaDoorDeC
import Derived.Test.YtednedklkbjihaaDoorTel
namespace Go.Proofs.YtednedklkbjihaaDoor
open Go.RowKit
set_option linter.unusedVariables false
set_option linter.unusedSimpArgs false
set_option maxRecDepth 100000

/-- What changes in a row. -/
structure Dr where
  r : Nat
  f : Nat
  t : Nat
  x : ByteArray
  e : Bool
def encD (d : Dr) : List Value := [.int .i64 d.r, .int .i64 d.f, .int .i64 d.t, .string d.x, .bool d.e]
theorem encD_len (d : Dr) : (encD d).length = 5 := rfl
theorem dr_elt : Elt Tryd.prog 29 34 5 48 := elt_of Tryd.underlying29 (z := .agg #[.int .i64 0, .int .i64 0, .int .i64 0, .string ⟨#[]⟩, .bool false]) (by kernel_rfl) rfl (by decide)
def changeD (G G' : Nat → Cl) (n r f : Nat) : Dr := ⟨r, f, max (filledN G' n) f, ⟨(textL G' f (max (filledN G' n) f - f)).toArray⟩, decide (max (filledN G' n) f < filledN G n)⟩
/-- What changes in the first rows. -/
def rowsD (F F' : Nat → Nat → Cl) (n : Nat) : Nat → List Dr
  | 0 => []
  | k + 1 => rowsD F F' n k ++ if diffN (F k) (F' k) n 0 < n then [changeD (F k) (F' k) n k (diffN (F k) (F' k) n 0)] else []
theorem rowsD_len (F F' : Nat → Nat → Cl) (n : Nat) : ∀ k, (rowsD F F' n k).length ≤ k
  | 0 => Nat.le_refl _
  | k + 1 => by
    have := rowsD_len F F' n k
    unfold rowsD
    rw [List.length_append]
    split
    · simp; omega
    · simp; omega
theorem rowsD_self (F : Nat → Nat → Cl) (n : Nat) : ∀ k, rowsD F F n k = []
  | 0 => rfl
  | k + 1 => by unfold rowsD; rw [rowsD_self F n k, diffN_self, if_neg (by omega)]; rfl
/-- Texts of rows are not too long. -/
def Short (F F' : Nat → Nat → Cl) (n R : Nat) : Prop := ∀ r, r < R → diffN (F r) (F' r) n 0 < n → ∀ j, j ≤ n - diffN (F r) (F' r) n 0 → (textL (F' r) (diffN (F r) (F' r) n 0) j).length ≤ 1000000000

set_option maxHeartbeats 2000000 in
set_option maxRecDepth 100000 in
theorem rows_other {w : World} {lo hi g cb C R n lo' hi' g' cb' C' R' n' : Nat} {F F' : Nat → Nat → Cl} (h : PG w lo hi g cb C R n F) (h' : PG w lo' hi' g' cb' C' R' n' F') (hne : ¬ (R = R' ∧ n = n')) :
    Calls Tryd.prog 7 #[ptr g, ptr g'] w fun e w' => e = .returned (.slice none 0 0) ∧ Below w.heap.size w w' := by
  have S1 := Lib.hid (size_any h')
  have S2 := Lib.hid (fun q => size_any (h.drewN q))
  by_cases hR : R = R'
  · have hn : n ≠ n' := fun e => hne ⟨hR, e⟩
    have d1 : ((R : Int) != (R' : Int)) = false := by simp [hR]
    have d2 : ((n : Int) != (n' : Int)) = true := by simp; omega
    clear hR hn hne h h'
    go_enter Tryd.func7, Tryd.ntmps7
    go_wp2_with fail
    refine S1.out.mono ?_
    rintro e w1 ⟨rfl, q0, rfl⟩
    go_wp2_with fail
    refine (S2.out q0).mono ?_
    rintro e w1 ⟨rfl, q1, rfl⟩
    go_wp2_with fail
    go_ret
    exact ⟨rfl, below_drewN (Below.refl _ _) _⟩
  · have d1 : ((R : Int) != (R' : Int)) = true := by simp; omega
    clear hR hne h h'
    go_enter Tryd.func7, Tryd.ntmps7
    go_wp2_with fail
    refine S1.out.mono ?_
    rintro e w1 ⟨rfl, q0, rfl⟩
    go_wp2_with fail
    refine (S2.out q0).mono ?_
    rintro e w1 ⟨rfl, q1, rfl⟩
    go_wp2_with fail
    go_ret
    exact ⟨rfl, below_drewN (Below.refl _ _) _⟩

set_option maxHeartbeats 2000000 in
set_option maxRecDepth 100000 in
theorem rows_any {w : World} {lo hi g cb C R n lo' hi' g' cb' C' : Nat} {F F' : Nat → Nat → Cl} (h : PG w lo hi g cb C R n F) (h' : PG w lo' hi' g' cb' C' R n F') (hs : Short F F' n R) :
    Calls Tryd.prog 7 #[ptr g, ptr g'] w (TellsO 34 5 encD (rowsD F F' n R) w) := by
  have S1 := Lib.hid (size_any h')
  have S2 := Lib.hid (fun q => size_any (h.drewN q))
  have HH := Lib.hid (And.intro h h')
  have HS := Lib.hid hs
  have hR := h.r2
  have hn := h.n2
  have d1 : ((R : Int) != (R : Int)) = false := by simp
  have d2 : ((n : Int) != (n : Int)) = false := by simp
  clear h h' hs
  go_enter Tryd.func7, Tryd.ntmps7
  go_wp2_with fail
  refine S1.out.mono ?_
  rintro e w1 ⟨rfl, q0, rfl⟩
  go_wp2_with fail
  refine (S2.out q0).mono ?_
  rintro e w1 ⟨rfl, q1, rfl⟩
  go_wp2_with fail
  go_loopw [9, 31] (fun u v wr => ∃ k A no co, k ≤ R ∧ v = .int .i64 (k : Nat) ∧ u = .slice A no co ∧ no ≤ k ∧ Hid (Grows w 34 5 encD A no co (rowsD F F' n k) wr)) (fun _ v _ => R - (intOf v).toNat)
  case atStart => exact ⟨0, none, 0, 0, Nat.zero_le _, rfl, rfl, Nat.le_refl _, ⟨World.ownsRow_nil _ _ _ _, below_drewN (Below.refl _ _) _⟩⟩
  case round =>
    obtain ⟨k, A, no, co, hk, rfl, rfl, hno, HG⟩ := hrel
    by_cases hlt : k < R
    · have D1 := Lib.hid (differs_any (HH.out.1.later HG.out.below) (HH.out.2.later HG.out.below) hlt)
      obtain ⟨f, hf⟩ : ∃ f, diffN (F k) (F' k) n 0 = f := ⟨_, rfl⟩
      rw [hf] at D1
      have hfl := (diffN_le (F k) (F' k) n 0).2
      rw [hf, Nat.zero_add] at hfl
      have HF := Lib.hid hf
      clear hf
      go_wp2_with fail
      refine D1.out.mono ?_
      rintro e w2 ⟨rfl, b2⟩
      have H2 := Lib.hid (HG.out.later b2)
      clear b2 D1 HG
      by_cases hfn : f < n
      · have d3 : decide ((f : Int) < (n : Int)) = true := decide_eq_true (by omega)
        have d4 : decide (f < n) = true := decide_eq_true (by omega)
        go_wp2_with fail
        refine (rowof_in (HH.out.1.later H2.out.below) hlt).mono ?_
        rintro e w3 ⟨b, c, cs, rfl, hbl, hB, hcs, hI, hc1, hc2, b3⟩
        have H3 := Lib.hid (And.intro (H2.out.later b3) (And.intro hB hI))
        clear hB hI b3 hbl H2
        go_wp2_with fail
        refine (rowof_in (HH.out.2.later H3.out.1.below) hlt).mono ?_
        rintro e w4 ⟨b', c', cs', rfl, hbl', hB', hcs', hI', hc1', hc2', b4⟩
        have H4 := Lib.hid (And.intro (H3.out.1.later b4) (And.intro (H3.out.2.1.later b4 H3.out.2.1.1) (And.intro H3.out.2.2 (And.intro hB' hI'))))
        clear hB' hI' b4 hbl' H3
        have C1 := Lib.hid (change_any (C := c) (C' := c') H4.out.2.1 H4.out.2.2.1 H4.out.2.2.2.1 H4.out.2.2.2.2 hn hc1' hc2' k f (Nat.le_of_lt hfn) (by have := HS.out k hlt (by rw [HF.out]; exact hfn); rw [HF.out] at this; exact this))
        obtain ⟨T, hT⟩ : ∃ T, max (filledN (F' k) n) f = T := ⟨_, rfl⟩
        obtain ⟨X, hX⟩ : ∃ X, (ByteArray.mk (textL (F' k) f (T - f)).toArray) = X := ⟨_, rfl⟩
        obtain ⟨E, hE⟩ : ∃ E, decide (T < filledN (F k) n) = E := ⟨_, rfl⟩
        rw [hT, hX, hE] at C1
        have HD := Lib.hid (show rowsD F F' n (k + 1) = rowsD F F' n k ++ [⟨k, f, T, X, E⟩] from by
          conv => lhs; unfold rowsD
          rw [HF.out, if_pos hfn]
          unfold changeD
          rw [hT, hX, hE])
        clear hT hX hE
        go_wp2_with fail
        refine C1.out.mono ?_
        rintro e w5 ⟨rfl, b5⟩
        have H5 := Lib.hid (H4.out.1.later b5)
        have hz : w.heap.size ≤ w5.heap.size := H5.out.below.size
        have HO := Lib.hid H5.out.own
        clear b5 C1 H4
        go_wp2_with (at_builtin; refine wpList_push dr_elt HO.out hz rfl rfl rfl rfl (by simp) rfl rfl (by unfold maxLen; omega) (by omega) ?_; intro A3 c3 w3 hp; have HP := Lib.hid hp; clear hp)
        go_roundw
        case rel => exact ⟨k + 1, _, _, _, by omega, by go_num, rfl, by omega, by rw [HD.out]; exact H5.out.push (Below.refl _ _) HP.out⟩
        case measure => simp [intOf]; omega
      · have d3 : decide ((f : Int) < (n : Int)) = false := decide_eq_false (by omega)
        have d4 : decide (f < n) = false := decide_eq_false (by omega)
        have HD := Lib.hid (show rowsD F F' n (k + 1) = rowsD F F' n k from by
          conv => lhs; unfold rowsD
          rw [HF.out, if_neg hfn, List.append_nil])
        clear hfn
        go_wp2_with fail
        go_roundw
        case rel => exact ⟨k + 1, _, _, _, by omega, by go_num, rfl, by omega, by rw [HD.out]; exact H2.out⟩
        case measure => simp [intOf]; omega
    · obtain rfl : k = R := by omega
      go_wp2_with fail
      go_ret
      exact HG.out.tells
end Go.Proofs.YtednedklkbjihaaDoor

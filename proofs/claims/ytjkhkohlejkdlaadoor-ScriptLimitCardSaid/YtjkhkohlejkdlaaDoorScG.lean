/- script: the document's Lines. -/
import Derived.Test.YtjkhkohlejkdlaaDoorScF
namespace Go.Proofs.YtjkhkohlejkdlaaDoor
open Go.RowKit
set_option linter.unusedVariables false
set_option linter.unusedSimpArgs false

/-- A text's lines, behind the beginning of one. -/
def linesL : List UInt8 → List UInt8 → List (List UInt8)
  | cur, [] => if cur = [] then [] else [cur]
  | cur, c :: t => if c.toNat = 10 then cur :: linesL [] t else linesL (cur ++ [c]) t
def ba (l : List UInt8) : ByteArray := ⟨l.toArray⟩
def encS (x : List UInt8) : List Value := [.string (ba x)]
theorem encS_len (x : List UInt8) : (encS x).length = 1 := rfl
theorem str_elt : Elt Tryd.prog 49 9 1 16 := elt_of Tryd.underlying49 (z := .string ⟨#[]⟩) (by kernel_rfl) rfl (by decide)
theorem ba_ext (s : ByteArray) (a b : Nat) : s.extract a b = ba ((s.data.toList.drop a).take (b - a)) := by
  apply ByteArray.ext
  show (s.extract a b).data = ((s.data.toList.drop a).take (b - a)).toArray
  rw [← Array.toList_inj, ByteArray.data_extract, Array.toList_extract]
/-- The part between two places. -/
def part (l : List UInt8) (a b : Nat) : List UInt8 := (l.drop a).take (b - a)
theorem part_snoc {l : List UInt8} {a b : Nat} {c : UInt8} (h : l[b]? = some c) (hab : a ≤ b) : part l a (b + 1) = part l a b ++ [c] := by
  unfold part
  rw [show b + 1 - a = (b - a) + 1 by omega, List.take_add_one, List.getElem?_drop, show a + (b - a) = b by omega, h]
  rfl
theorem lines_step {l cur : List UInt8} {j : Nat} {c : UInt8} (h : l[j]? = some c) : linesL cur (l.drop j) = if c.toNat = 10 then cur :: linesL [] (l.drop (j + 1)) else linesL (cur ++ [c]) (l.drop (j + 1)) := by
  obtain ⟨hj, e⟩ := List.getElem?_eq_some_iff.1 h
  rw [List.drop_eq_getElem_cons hj, e]
  rfl
set_option maxHeartbeats 4000000 in
theorem rlines_any (s : ByteArray) (hs : s.size ≤ 1000000) (w : World) : Calls Tryd.prog 19 #[.string s] w fun e w' => ∃ A c, e = .returned (.slice A (linesL [] s.data.toList).length c) ∧ LiV 1 encS w' (fun b => w.heap.size ≤ b) (.slice A (linesL [] s.data.toList).length c) (linesL [] s.data.toList) ∧ (linesL [] s.data.toList).length ≤ s.size + 1 ∧ Below w.heap.size w w' := by
  have hsz : s.data.toList.length = s.size := Array.length_toList
  obtain ⟨R, hR⟩ : ∃ R, linesL [] s.data.toList = R := ⟨_, rfl⟩
  have HR := Lib.hid (show ([] : List (List UInt8)) ++ linesL (part s.data.toList 0 0) (s.data.toList.drop 0) = R by rw [← hR]; rfl)
  rw [hR]
  clear hR
  go_enter Tryd.func19, Tryd.ntmps19
  go_wp2
  go_loopw [3, 4, 5] (fun ov f i wr => ∃ j a n A c, j ≤ s.size ∧ a ≤ j ∧ n ≤ j ∧ ov = .slice A n c ∧ f = .int .i64 (a : Nat) ∧ i = .int .i64 (j : Nat) ∧ Hid (∃ done, wr.ownsRow w.heap.size 9 1 (.slice A n c) n (flatL encS done) ∧ done.length = n ∧ done ++ linesL (part s.data.toList a j) (s.data.toList.drop j) = R ∧ Below w.heap.size w wr)) (fun _ _ i _ => s.size - (intOf i).toNat)
  case atStart => exact ⟨0, 0, 0, none, 0, Nat.zero_le _, Nat.le_refl _, Nat.le_refl _, rfl, rfl, rfl, Lib.hid ⟨[], World.ownsRow_nil _ _ _ _, rfl, HR.out, Below.refl _ _⟩⟩
  case round =>
    obtain ⟨j, a, n, A, c, hj, haj, hn, rfl, rfl, rfl, H⟩ := hrel
    obtain ⟨done, h1, h2, h3, h4⟩ := H.out
    have H1 := Lib.hid (And.intro h1 (And.intro h2 (And.intro h3 h4)))
    clear H h1 h2 h3 h4
    have hz := H1.out.2.2.2.size
    by_cases hlt : j < s.size
    · have hji : (j : Int) < (s.size : Int) := by omega
      have hj0 : (0 : Int) ≤ (j : Int) := by omega
      have HB := Lib.hid (byte_at s hlt)
      by_cases h10 : (s[j]'hlt).toNat = 10
      · have e1 : (((s[j]'hlt).toNat : Int) == 10) = true := by simp; omega
        have HN := Lib.hid (show (done ++ [part s.data.toList a j]) ++ linesL (part s.data.toList (j + 1) (j + 1)) (s.data.toList.drop (j + 1)) = R by
          have h := H1.out.2.2.1
          rw [lines_step HB.out, if_pos h10] at h
          rw [← h, show part s.data.toList (j + 1) (j + 1) = [] by unfold part; simp]
          simp)
        have HX := Lib.hid (ba_ext s a j)
        have g1 : (a : Int) ≤ (j : Int) := by omega
        have g2 : (j : Int) ≤ (s.size : Int) := by omega
        clear h10
        go_wp2_with (at_builtin; refine wpList_push str_elt H1.out.1 hz rfl rfl rfl rfl rfl rfl rfl (by unfold maxLen; omega) (by omega) ?_; intro A3 c3 w3 hp; have HQ := Lib.hid (And.intro hp.own (hp.below H1.out.2.2.2 H1.out.1 (Nat.le_refl _))); clear hp)
        go_roundw
        case rel =>
          refine ⟨j + 1, j + 1, n + 1, A3, c3, by omega, Nat.le_refl _, by omega, rfl, by go_num, by go_num, Lib.hid ⟨done ++ [part s.data.toList a j], ?_, by simp [H1.out.2.1], HN.out, HQ.out.2⟩⟩
          rw [flatL_snoc]
          have h := HQ.out.1
          rw [HX.out] at h
          exact h
        case measure => simp [intOf]; omega
      · have e1 : (((s[j]'hlt).toNat : Int) == 10) = false := by simp; omega
        have HN := Lib.hid (show done ++ linesL (part s.data.toList a (j + 1)) (s.data.toList.drop (j + 1)) = R by
          have h := H1.out.2.2.1
          rw [lines_step HB.out, if_neg h10] at h
          rw [← h, part_snoc HB.out haj])
        clear h10
        go_wp2
        go_roundw
        case rel => exact ⟨j + 1, a, n, A, c, by omega, by omega, by omega, rfl, rfl, by go_num, Lib.hid ⟨done, H1.out.1, H1.out.2.1, HN.out, H1.out.2.2.2⟩⟩
        case measure => simp [intOf]; omega
    · obtain rfl : j = s.size := by omega
      have hd : decide ((s.size : Int) < (s.size : Int)) = false := by simp
      have HE := Lib.hid (show done ++ (if part s.data.toList a s.size = [] then [] else [part s.data.toList a s.size]) = R by
        have h := H1.out.2.2.1
        rw [List.drop_eq_nil_of_le (by omega)] at h
        exact h)
      have hpl : (part s.data.toList a s.size).length = s.size - a := by unfold part; simp
      by_cases ha : a < s.size
      · have g1 : (a : Int) < (s.size : Int) := by omega
        have g2 : (a : Int) ≤ (s.size : Int) := by omega
        have HX := Lib.hid (ba_ext s a s.size)
        have HE2 := Lib.hid (show done ++ [part s.data.toList a s.size] = R by
          have h := HE.out
          rwa [if_neg (fun e => by rw [e, List.length_nil] at hpl; omega)] at h)
        clear hpl
        go_wp2_with (at_builtin; refine wpList_push str_elt H1.out.1 hz rfl rfl rfl rfl rfl rfl rfl (by unfold maxLen; omega) (by omega) ?_; intro A3 c3 w3 hp; have HQ := Lib.hid (And.intro hp.own (hp.below H1.out.2.2.2 H1.out.1 (Nat.le_refl _))); clear hp)
        go_ret
        have hl : R.length = n + 1 := by rw [← HE2.out]; simp [H1.out.2.1]
        rw [hl]
        refine ⟨A3, c3, rfl, ?_, by omega, HQ.out.2⟩
        have h := HQ.out.1
        rw [HX.out] at h
        rw [← HE2.out]
        exact LiV.own encS_len (by decide) (by rw [flatL_snoc]; exact h)
      · have g1 : ¬ (a : Int) < (s.size : Int) := by omega
        have HE2 := Lib.hid (show done = R by
          have h := HE.out
          rwa [if_pos (List.eq_nil_of_length_eq_zero (by omega)), List.append_nil] at h)
        clear hpl
        go_wp2
        go_ret
        have hl : R.length = n := by rw [← HE2.out]; exact H1.out.2.1
        rw [hl]
        exact ⟨A, c, rfl, by rw [← HE2.out]; exact LiV.own encS_len (by decide) H1.out.1, by omega, H1.out.2.2.2⟩
end Go.Proofs.YtjkhkohlejkdlaaDoor

/- script: Itoa; the program's number. -/
import Derived.Test.YtjkhkohlejkdlaaDoorScD
import Derived.Shelf.Strconv.Itoa4
import Derived.Lib.AppendIntMem
namespace Go.Proofs
open Go.Shelf
shelf_lay LaysM.n171 Nm 171 at Tryd as YtjkhkohlejkdlaaDoor.itoaL
end Go.Proofs
namespace Go.Proofs.YtjkhkohlejkdlaaDoor
open Go.RowKit Go.Shelf
set_option linter.unusedVariables false
set_option linter.unusedSimpArgs false

/-- The table that Itoa reads, whatever is done from block B on. -/
abbrev TabW (B : Nat) (w : World) : Prop := Lib.TabBelow Tryd.prog B w "internal/strconv.uint64pow10" .u64 Lib.pow10Tab
/-- A number's digits. -/
def dig (n : Nat) : ByteArray := ⟨(Lib.decDigits n).toArray⟩
theorem below_grow (w : World) (k : Nat) (os : Array Obj) : Below w.heap.size w (Sort.grow (w.drewN k) os) :=
  ⟨rfl, rfl, rfl, by simp, fun i hi => Sort.heap_grow_old (w.drewN k) os hi⟩
theorem itoa_any {B : Nat} {w : World} (hT : TabW B w) (n : Nat) (hn : n ≤ 1000000) : Calls Tryd.prog 24 #[.int .i64 n] w fun e w' => e = .returned (.string (dig n)) ∧ Below w.heap.size w w' := by
  refine (Any.strconv_Itoa itoaL n (by omega) (by omega) w hT.here).mono ?_
  rintro e w' ⟨rfl, k, os, rfl⟩
  exact ⟨by rw [Lib.itoa_nonneg]; rfl, below_grow w k os⟩
theorem dig_is (n : Nat) (s : ByteArray) : dig n = s ↔ Lib.decDigits n = s.data.toList := by
  constructor
  · intro h; rw [← h]; simp [dig]
  · intro h
    apply ByteArray.ext
    show (Lib.decDigits n).toArray = s.data
    rw [h]
theorem numL_short {l : List UInt8} : numL 0 l = none → numO l = none := by
  intro h
  unfold numO
  split
  · rfl
  · exact h
theorem numO_long {l : List UInt8} (h : 4 < l.length) : numO l = none := by unfold numO; rw [if_pos (.inr (.inl h))]
set_option maxHeartbeats 2000000 in
theorem number_any {B : Nat} {w : World} (hT : TabW B w) (s : ByteArray) (hs : s.size ≤ 1000000) : Calls Tryd.prog 32 #[.string s] w fun e w' => ∃ z : Int, e = .returned (.tuple #[.int .i64 z, .bool (numO s.data.toList).isSome]) ∧ (∀ m, numO s.data.toList = some m → z = (m : Nat)) ∧ Below w.heap.size w w' := by
  have hsz : s.data.toList.length = s.size := Array.length_toList
  obtain ⟨R, hR⟩ : ∃ R, numO s.data.toList = R := ⟨_, rfl⟩
  rw [hR]
  by_cases h4 : 4 < s.size
  · obtain rfl : R = none := by rw [← hR]; exact numO_long (by omega)
    have d2 : (4 : Int) < (s.size : Int) := by omega
    clear hR
    go_enter Tryd.func32, Tryd.ntmps32
    go_wp2
    go_ret2
    exact ⟨0, rfl, (fun m h => nomatch h), Below.refl _ _⟩
  · have d2 : ¬ (4 : Int) < (s.size : Int) := by omega
    obtain ⟨V, hV⟩ : ∃ V, numL 0 (s.data.toList.drop 0) = V := ⟨_, rfl⟩
    have HR := Lib.hid (And.intro hR hV)
    clear hR
    have HV := Lib.hid hV
    clear hV
    have HT := Lib.hid hT
    clear hT
    go_enter Tryd.func32, Tryd.ntmps32
    go_wp2
    go_loopw [4, 11] (fun n i wr => ∃ j m : Nat, j ≤ s.size ∧ n = .int .i64 (m : Nat) ∧ i = .int .i64 (j : Nat) ∧ m + 1 ≤ 10 ^ j ∧ Hid (numL m (s.data.toList.drop j) = V) ∧ w = wr) (fun _ i _ => s.size - (intOf i).toNat)
    case atStart => exact ⟨0, 0, Nat.zero_le _, rfl, rfl, Nat.le_refl _, HV, rfl⟩
    case round =>
      obtain ⟨j, m, hj, rfl, rfl, hm, HJ, rfl⟩ := hrel
      by_cases hlt : j < s.size
      · have hji : (j : Int) < (s.size : Int) := by omega
        have hj0 : (0 : Int) ≤ (j : Int) := by omega
        have HB := Lib.hid (byte_at s hlt)
        have hj4 : 10 ^ j ≤ 10 ^ 3 := Nat.pow_le_pow_right (by decide) (by omega)
        have hm4 : m ≤ 999 := by omega
        have hpow : 10 ^ (j + 1) = 10 ^ j * 10 := Nat.pow_succ ..
        by_cases hd : 48 ≤ (s[j]'hlt).toNat ∧ (s[j]'hlt).toNat ≤ 57
        · have HN := Lib.hid (show numL (m * 10 + ((s[j]'hlt).toNat - 48)) (s.data.toList.drop (j + 1)) = V by rw [← numL_yes HB.out hd]; exact HJ.out)
          obtain ⟨e1, e2⟩ := hd
          obtain ⟨d, hd⟩ : ∃ d : Nat, (s[j]'hlt).toNat - 48 = d := ⟨_, rfl⟩
          have f1 : ¬ ((s[j]'hlt).toNat : Int) < 48 := by omega
          have f2 : ¬ (57 : Int) < ((s[j]'hlt).toNat : Int) := by omega
          have f3 : ((s[j]'hlt).toNat : Int) - 48 = (d : Int) := by omega
          have f4 : IntKind.u8.wrap (d : Int) = (d : Int) := IntWalk.u8_in _ (by omega)
          have f5 : IntKind.i64.wrap (d : Int) = (d : Int) := IntWalk.i64_in _ (by omega)
          rw [hd] at HN
          clear e1 e2 hd
          go_wp2
          go_roundw
          case rel => exact ⟨j + 1, m * 10 + d, by omega, by go_num, by go_num, by omega, HN, trivial⟩
          case measure => simp [intOf]; omega
        · obtain rfl : V = none := by rw [← HJ.out]; exact numL_no HB.out hd
          obtain rfl : R = none := by rw [← HR.out.1]; exact numL_short (l := s.data.toList) HR.out.2
          by_cases e1 : (s[j]'hlt).toNat < 48
          · have f1 : ((s[j]'hlt).toNat : Int) < 48 := by omega
            clear hd
            go_wp2
            go_ret2
            first | exact ⟨0, rfl, (fun m h => nomatch h), Below.refl _ _⟩ | exact ⟨⟨_, rfl⟩, Below.refl _ _⟩
          · have f1 : ¬ ((s[j]'hlt).toNat : Int) < 48 := by omega
            have f2 : (57 : Int) < ((s[j]'hlt).toNat : Int) := by omega
            clear hd
            go_wp2
            go_ret2
            first | exact ⟨0, rfl, (fun m h => nomatch h), Below.refl _ _⟩ | exact ⟨⟨_, rfl⟩, Below.refl _ _⟩
      · obtain rfl : j = s.size := by omega
        obtain rfl : V = some m := by rw [← HJ.out, List.drop_eq_nil_of_le (by omega)]; rfl
        have hd : decide ((s.size : Int) < (s.size : Int)) = false := by simp
        have hj4 : 10 ^ s.size ≤ 10 ^ 4 := Nat.pow_le_pow_right (by decide) (by omega)
        have HK := number_is (l := s.data.toList) (n := m) (by omega) HR.out.2
        rw [HR.out.1] at HK
        have HK := Lib.hid (show (dig m = s → R = some m) ∧ (dig m ≠ s → R = none) from ⟨fun h => HK.1.1 ((dig_is m s).1 h), fun h => HK.2 fun h2 => h ((dig_is m s).2 h2)⟩)
        have C := Lib.hid (itoa_any HT.out m (by omega))
        go_wp2_with fail
        refine C.out.mono ?_
        rintro e w5 ⟨rfl, b5⟩
        have H5 := Lib.hid b5
        clear b5 C
        by_cases hk : dig m = s
        · obtain rfl : R = some m := HK.out.1 hk
          go_wp2
          go_ret2
          exact ⟨_, rfl, (fun m h => by injection h with h; rw [h]), H5.out⟩
        · obtain rfl : R = none := HK.out.2 hk
          have e1 : ((dig m).toList == s.toList) = false := by
            rw [beq_eq_false_iff_ne]
            intro h
            rw [ByteArray.toList_eq, ByteArray.toList_eq] at h
            exact hk ((dig_is m s).2 (by rw [← h]; rfl))
          go_wp2
          go_ret2
          first | exact ⟨_, rfl, (fun m h => nomatch h), H5.out⟩ | exact ⟨⟨_, rfl⟩, H5.out⟩
end Go.Proofs.YtjkhkohlejkdlaaDoor

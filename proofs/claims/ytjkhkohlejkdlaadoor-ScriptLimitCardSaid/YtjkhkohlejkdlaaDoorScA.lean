/- script: digits; what can be written. -/
import Derived.Test.YtjkhkohlejkdlaaDoorCat
import Derived.Ground.NamesProg
import Derived.Shelf.Lay
import Derived.Shelf.Small.Strs
import Derived.IntWalk
namespace Go.Proofs
open Go.Shelf
shelf_lay Lays.n137 Nm 137 at Tryd as YtjkhkohlejkdlaaDoor.idxbL
end Go.Proofs
namespace Go.Proofs.YtjkhkohlejkdlaaDoor
open Go.RowKit Go.Shelf
set_option linter.unusedVariables false
set_option linter.unusedSimpArgs false

/-- What a digit of a byte is; -1: it is none. -/
def digP (c : Nat) : Int := if 48 ≤ c ∧ c ≤ 57 then (c : Int) - 48 else if 97 ≤ c ∧ c ≤ 102 then (c : Int) - 87 else -1
def hexT : ByteArray := ⟨#[48, 49, 50, 51, 52, 53, 54, 55, 56, 57, 97, 98, 99, 100, 101, 102]⟩
theorem hex_is : ∀ c : Fin 256, Lib.indexByte hexT.data.toList (c.val : Int).toNat.toUInt8 = digP c.val := by decide +kernel
theorem digit_any (c : Nat) (hc : c < 256) (w : World) : Calls Tryd.prog 41 #[.int .u8 c] w fun e w' => e = .returned (.int .i64 (digP c)) ∧ w = w' := by
  have C := Any.strings_IndexByte idxbL hexT c w
  have hh : Lib.indexByte hexT.data.toList (c : Int).toNat.toUInt8 = digP c := hex_is ⟨c, hc⟩
  rw [hh] at C
  unfold hexT at C
  have C := Lib.hid C
  clear hh hc
  go_enter Tryd.func41, Tryd.ntmps41
  go_wp2_with fail
  refine C.out.mono ?_
  rintro e w1 ⟨rfl, rfl⟩
  go_wp2_with fail
  go_ret
  exact ⟨rfl, rfl⟩
theorem rdigit_any (c : Nat) (hc : c < 256) (w : World) : Calls Tryd.prog 36 #[.int .u8 c] w fun e w' => e = .returned (.int .i64 (digP c)) ∧ w = w' := by
  by_cases h1 : 48 ≤ c ∧ c ≤ 57
  · obtain ⟨a, b⟩ := h1
    have e : digP c = (c : Int) - 48 := by unfold digP; rw [if_pos ⟨a, b⟩]
    rw [e]
    have d1 : (48 : Int) ≤ (c : Int) := by omega
    have d2 : (c : Int) ≤ 57 := by omega
    obtain ⟨z, hz⟩ : ∃ z : Int, (c : Int) - 48 = z := ⟨_, rfl⟩
    have f1 : IntKind.u8.wrap z = z := by rw [← hz]; exact IntWalk.u8_in _ (by omega)
    have f2 : IntKind.i64.wrap z = z := IntWalk.i64_in _ (by omega)
    rw [hz]
    clear e hc
    go_enter Tryd.func36, Tryd.ntmps36
    go_wp2
    go_ret
    exact ⟨rfl, rfl⟩
  · by_cases h2 : 97 ≤ c ∧ c ≤ 102
    · obtain ⟨a, b⟩ := h2
      have e : digP c = (c : Int) - 87 := by unfold digP; rw [if_neg h1, if_pos ⟨a, b⟩]
      rw [e]
      have d1 : (48 : Int) ≤ (c : Int) := by omega
      have d2 : ¬ (c : Int) ≤ 57 := by omega
      have d3 : (97 : Int) ≤ (c : Int) := by omega
      have d4 : (c : Int) ≤ 102 := by omega
      obtain ⟨z, hz⟩ : ∃ z : Int, (c : Int) - 97 = z := ⟨_, rfl⟩
      obtain ⟨y, hy⟩ : ∃ y : Int, z + 10 = y := ⟨_, rfl⟩
      have f1 : IntKind.u8.wrap z = z := by rw [← hz]; exact IntWalk.u8_in _ (by omega)
      have f2 : IntKind.i64.wrap z = z := IntWalk.i64_in _ (by omega)
      have f3 : IntKind.i64.wrap y = y := IntWalk.i64_in _ (by omega)
      rw [show (c : Int) - 87 = y by omega]
      clear e hc h1
      go_enter Tryd.func36, Tryd.ntmps36
      go_wp2
      go_ret
      exact ⟨rfl, rfl⟩
    · have e : digP c = -1 := by unfold digP; rw [if_neg h1, if_neg h2]
      rw [e]
      obtain ⟨b1, hb1⟩ : ∃ b1, decide ((48 : Int) ≤ (c : Int)) = b1 := ⟨_, rfl⟩
      by_cases g1 : 48 ≤ c
      · have d1 : (48 : Int) ≤ (c : Int) := by omega
        have d2 : ¬ (c : Int) ≤ 57 := by omega
        by_cases g2 : 97 ≤ c
        · have d3 : (97 : Int) ≤ (c : Int) := by omega
          have d4 : ¬ (c : Int) ≤ 102 := by omega
          clear e hc h1 h2 hb1
          go_enter Tryd.func36, Tryd.ntmps36
          go_wp2
          go_ret
          exact ⟨rfl, rfl⟩
        · have d3 : ¬ (97 : Int) ≤ (c : Int) := by omega
          clear e hc h1 h2 hb1
          go_enter Tryd.func36, Tryd.ntmps36
          go_wp2
          go_ret
          exact ⟨rfl, rfl⟩
      · have d1 : ¬ (48 : Int) ≤ (c : Int) := by omega
        have d3 : ¬ (97 : Int) ≤ (c : Int) := by omega
        clear e hc h1 h2 hb1
        go_enter Tryd.func36, Tryd.ntmps36
        go_wp2
        go_ret
        exact ⟨rfl, rfl⟩
end Go.Proofs.YtjkhkohlejkdlaaDoor

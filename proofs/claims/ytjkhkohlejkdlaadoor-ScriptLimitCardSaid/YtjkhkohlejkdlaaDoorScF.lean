/- script: the document's begins. -/
import Derived.Test.YtjkhkohlejkdlaaDoorScE
namespace Go.Proofs.YtjkhkohlejkdlaaDoor
open Go.RowKit
set_option linter.unusedVariables false
set_option linter.unusedSimpArgs false

/-- Does a text begin with another one? -/
def preB (l p : List UInt8) : Bool := decide (p.length ≤ l.length) && (l.take p.length == p)
theorem ext_list (s : ByteArray) (a b : Nat) : (s.extract a b).toList = (s.data.toList.drop a).take (b - a) := by
  rw [ByteArray.toList_eq, ByteArray.data_extract, Array.toList_extract]
set_option maxHeartbeats 1000000 in
theorem rbegins_any (s p : ByteArray) (hs : s.size ≤ 1000000) (hp : p.size ≤ 1000000) (w : World) : Calls Tryd.prog 34 #[.string s, .string p] w fun e w' => e = .returned (.bool (preB s.data.toList p.data.toList)) ∧ w = w' := by
  have hsz : s.data.toList.length = s.size := Array.length_toList
  have hpz : p.data.toList.length = p.size := Array.length_toList
  obtain ⟨R, hR⟩ : ∃ R, preB s.data.toList p.data.toList = R := ⟨_, rfl⟩
  rw [hR]
  unfold preB at hR
  rw [hsz, hpz] at hR
  by_cases h : p.size ≤ s.size
  · rw [decide_eq_true h, Bool.true_and] at hR
    have d1 : (p.size : Int) ≤ (s.size : Int) := by omega
    have e1 : ((s.extract 0 p.size).toList == p.toList) = R := by
      rw [ext_list, ByteArray.toList_eq, List.drop_zero, Nat.sub_zero]
      exact hR
    clear hR
    go_enter Tryd.func34, Tryd.ntmps34
    go_wp2
    go_ret
    exact ⟨rfl, rfl⟩
  · rw [decide_eq_false h, Bool.false_and] at hR
    subst hR
    have d1 : ¬ (p.size : Int) ≤ (s.size : Int) := by omega
    go_enter Tryd.func34, Tryd.ntmps34
    go_wp2
    go_ret
    exact ⟨rfl, rfl⟩
end Go.Proofs.YtjkhkohlejkdlaaDoor

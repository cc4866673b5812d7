/- Few. -/
import Derived.Test.YtfnieoffgnnldaaDoorTxt
namespace Go.Proofs.YtfnieoffgnnldaaDoor
open Go.RowKit
set_option linter.unusedVariables false
set_option linter.unusedSimpArgs false

theorem few_any (v : Value) (l : List Int) (n : Nat) (w : World) (h : Txt w v l) (hn : n ≤ 1000000) : Calls Tryd.prog 9 #[v, .int .i64 n] w fun e w' => ∃ A c, e = .returned (.slice A (l.take n).length c) ∧ (∀ (X : World) (S : Nat → Prop), TxtS X S v l → TxtS X S (.slice A (l.take n).length c) (l.take n)) ∧ w = w' := by
  obtain ⟨A, c, rfl, hc, hc2⟩ := Sl.is h
  clear h
  rcases Nat.lt_or_ge n l.length with hlt | hge
  · have hlen : (l.take n).length = n := by simp; omega
    have ht : ∀ (X : World) (S : Nat → Prop), TxtS X S (.slice A l.length c) l → TxtS X S (.slice A n c) (l.take n) := by
      intro X S h
      have := Sl.take h n (by omega)
      unfold TxtS
      rw [hlen]
      exact this.congr fun j hj => by simp [liR, List.getD, List.getElem?_take, hj]
    have HT := Lib.hid (And.intro hlen ht)
    have d0 : decide ((n : Int) < (l.length : Int)) = true := by simp; omega
    have hcn : (n : Int) ≤ (c : Int) := by omega
    clear hlen ht
    go_enter Tryd.func9, Tryd.ntmps9
    go_wp2
    go_ret
    exact ⟨A, c, by rw [HT.out.1]; rfl, by rw [HT.out.1]; exact HT.out.2, rfl⟩
  · have hlen : l.take n = l := List.take_of_length_le hge
    have HT := Lib.hid hlen
    have d0 : decide ((n : Int) < (l.length : Int)) = false := by simp; omega
    clear hlen
    go_enter Tryd.func9, Tryd.ntmps9
    go_wp2
    go_ret
    exact ⟨A, c, by rw [HT.out]; rfl, fun X S h => by rw [HT.out]; exact h, rfl⟩


end Go.Proofs.YtfnieoffgnnldaaDoor

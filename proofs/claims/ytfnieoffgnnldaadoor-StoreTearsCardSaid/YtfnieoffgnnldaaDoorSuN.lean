/- utf: the document's rows. -/
import Derived.Test.YtfnieoffgnnldaaDoorSuM
namespace Go.Proofs.YtfnieoffgnnldaaDoor
open Go.RowKit
set_option linter.unusedVariables false
set_option linter.unusedSimpArgs false

/-- A function that tells a value and turns nothing. -/
def Tells (v : Value) (w : World) (e : Ending) (w' : World) : Prop := e = .returned v ∧ w = w'

/-- .. whose order the walk drew. -/
def Told (v : Value) (w : World) (e : Ending) (w' : World) : Prop := e = .returned v ∧ ∃ k, w' = w.drewN k

theorem long_any (c : Int) (w : World) : Calls Tryd.prog 71 #[.int .u8 c] w (Tells (.int .i64 (longI c)) w) := by
  by_cases h1 : c < 128
  · have E := Lib.hid (show longI c = 1 by simp [longI, h1])
    go_enter Tryd.func71, Tryd.ntmps71
    go_wp2
    go_ret
    rw [E.out]; exact ⟨rfl, rfl⟩
  · by_cases h2 : c < 224
    · have E := Lib.hid (show longI c = 2 by simp [longI, h1, h2])
      go_enter Tryd.func71, Tryd.ntmps71
      go_wp2
      go_ret
      rw [E.out]; exact ⟨rfl, rfl⟩
    · by_cases h3 : c < 240
      · have E := Lib.hid (show longI c = 3 by simp [longI, h1, h2, h3])
        go_enter Tryd.func71, Tryd.ntmps71
        go_wp2
        go_ret
        rw [E.out]; exact ⟨rfl, rfl⟩
      · have E := Lib.hid (show longI c = 4 by simp [longI, h1, h2, h3])
        go_enter Tryd.func71, Tryd.ntmps71
        go_wp2
        go_ret
        rw [E.out]; exact ⟨rfl, rfl⟩

theorem may_first (s : ByteArray) (h : 0 < s.size) (c : Int) (hc : (s[0].toNat : Int) = c) (x1 x2 x3 : Bool) (d1 : decide (c < 128) = x1) (d2 : decide (194 ≤ c) = x2) (d3 : decide (c ≤ 244) = x3) (w : World) :
    Calls Tryd.prog 72 #[.string s, .int .i64 0] w (Told (.bool (x1 || (x2 && x3))) w) := by
  cases x1 <;> cases x2 <;> cases x3
  all_goals
    go_enter Tryd.func72, Tryd.ntmps72
    go_wp2
    go_quiet (fail)
    go_wp2
    go_ret
    exact ⟨rfl, _, rfl⟩

set_option maxHeartbeats 2000000 in
theorem may_later (s : ByteArray) (i : Nat) (h : i < s.size) (h0 : 0 < s.size) (c b : Int) (hc : (s[0].toNat : Int) = c) (hb : (s[i].toNat : Int) = b) (y u1 u2 u3 u4 t1 t2 : Bool) (lo hi : Int)
    (dz : ((i : Int) == 0) = false) (dy : ((i : Int) == 1) = y) (e1 : (c == 224) = u1) (e2 : (c == 237) = u2) (e3 : (c == 240) = u3) (e4 : (c == 244) = u4)
    (hx : (u1 && (u2 || u3 || u4)) = false ∧ (u2 && (u3 || u4)) = false ∧ (u3 && u4) = false)
    (hlo : lo = bif y && u1 then 160 else bif y && u3 then 144 else 128) (hhi : hi = bif y && u2 then 159 else bif y && u4 then 143 else 191)
    (f1 : decide (lo ≤ b) = t1) (f2 : decide (b ≤ hi) = t2) (w : World) :
    Calls Tryd.prog 72 #[.string s, .int .i64 i] w (Told (.bool (t1 && t2)) w) := by
  cases y <;> cases u1 <;> cases u2 <;> cases u3 <;> cases u4 <;> simp at hx <;> simp at hlo hhi <;> subst hlo <;> subst hhi <;> cases t1 <;> cases t2
  all_goals
    go_enter Tryd.func72, Tryd.ntmps72
    go_wp2
    go_quiet (fail)
    go_wp2
    go_ret
    exact ⟨rfl, _, rfl⟩

theorem bts_atN (s : ByteArray) (i : Nat) (h : i < s.size) : (bts s).getD i 0 = (s[i].toNat : Int) := by
  have hl : i < s.data.toList.length := by simpa using h
  simp only [bts, List.getD, List.getElem?_map]
  rw [List.getElem?_eq_getElem hl]
  rfl

theorem may_any (s : ByteArray) (i : Nat) (h : i < s.size) : ∃ r : Bool, (r = true ↔ MayI ((bts s).getD 0 0) i ((bts s).getD i 0)) ∧ ∀ w, Calls Tryd.prog 72 #[.string s, .int .i64 i] w (Told (.bool r) w) := by
  have h0 : 0 < s.size := by omega
  rw [bts_atN s 0 h0, bts_atN s i h]
  by_cases hi : i = 0
  · subst hi
    refine ⟨_, ?_, fun w => may_first s h0 _ rfl _ _ _ rfl rfl rfl w⟩
    simp [MayI]
  · refine ⟨_, ?_, fun w => may_later s i h h0 _ _ rfl rfl _ _ _ _ _ _ _ _ _ (by simp; omega) rfl rfl rfl rfl rfl ?_ rfl rfl rfl rfl w⟩
    · generalize (s[0].toNat : Int) = c
      generalize (s[i].toNat : Int) = b
      simp only [MayI, if_neg hi]
      by_cases h1 : i = 1
      · subst h1
        by_cases g1 : c = 224
        · subst g1; simp
        · by_cases g2 : c = 237
          · subst g2; simp
          · by_cases g3 : c = 240
            · subst g3; simp
            · by_cases g4 : c = 244
              · subst g4; simp
              · simp [g1, g2, g3, g4, show (c == 224) = false by simpa using g1, show (c == 237) = false by simpa using g2, show (c == 240) = false by simpa using g3, show (c == 244) = false by simpa using g4]
      · have hj : ((i : Int) == 1) = false := by simp; omega
        simp [h1, hj]
    · generalize (s[0].toNat : Int) = c
      simp only [Bool.and_eq_false_iff, Bool.or_eq_false_iff, beq_eq_false_iff_ne, ne_eq]
      refine ⟨?_, ?_, ?_⟩ <;> omega

end Go.Proofs.YtfnieoffgnnldaaDoor

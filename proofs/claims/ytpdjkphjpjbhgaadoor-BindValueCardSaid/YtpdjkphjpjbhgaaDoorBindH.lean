/- bind: Look, at any map and any stroke. -/
import Derived.Test.YtpdjkphjpjbhgaaDoorBindG
namespace Go.Proofs.YtpdjkphjpjbhgaaDoor
open Go.RowKit Go.Maps
set_option linter.unusedVariables false
set_option linter.unusedSimpArgs false

abbrev usualS (s : Stk) : Int := usual s.1 s.2.1 s.2.2.1 s.2.2.2
def saidS (L : List (Stk × Int)) (s : Stk) : Int := (lastOf L s).getD (usualS s)

/-- Behind the two blocks that Look makes. -/
abbrev lookW (w : World) (v : Value) (p : Bool) (k r : Int) (m : Bool) : World := (w.alloc (.cells #[v] 34)).alloc (.cells #[.bool p, .int .i64 k, .int .i32 r, .bool m] 26)
theorem below_look (w : World) (v : Value) (p : Bool) (k r : Int) (m : Bool) : Below w.heap.size w (lookW w v p k r m) := ((Below.refl _ _).alloc (Nat.le_refl _) _).alloc (by simp) _

section
variable {w : World} {v : Value} (p : Bool) (k r : Int) (m : Bool)
set_option maxHeartbeats 8000000 in
theorem look_said (c : Int) (hl : (Instr.lookup 32 v (stk p k r m) true).run Tryd.prog (lookW w v p k r m) = .ok (.tuple #[.int .i64 c, .bool true]) (lookW w v p k r m)) :
    Calls Tryd.prog 10 #[.agg #[v], stk p k r m] w (Tells w c) := by
  have hb0 := Lib.hid (below_look w v p k r m)
  go_enter Tryd.func10, Tryd.ntmps10
  go_wp2
  go_ret
  exact ⟨rfl, hb0.out⟩

set_option maxHeartbeats 8000000 in
theorem look_usual (hT : TabW w) (hl : (Instr.lookup 32 v (stk p k r m) true).run Tryd.prog (lookW w v p k r m) = .ok (.tuple #[.int .i64 0, .bool false]) (lookW w v p k r m)) :
    Calls Tryd.prog 10 #[.agg #[v], stk p k r m] w (Tells w (usual p k r m)) := by
  have hb0 := Lib.hid (below_look w v p k r m)
  have hT2 := Lib.hid (hT.later hb0.out)
  clear hT
  by_cases c4 : k = 4
  · subst c4
    rw [show usual p 4 r m = 32 by simp [usual]]
    go_enter Tryd.func10, Tryd.ntmps10
    go_wp2
    go_ret
    exact ⟨rfl, hb0.out⟩
  have q4 : (k == 4) = false := by simpa using c4
  cases p
  · by_cases c3 : k = 3
    · subst c3
      cases m
      · rw [show usual false 3 r false = rowL nam r by simp [usual]]
        have C := Lib.hid (named_any r (lookW w v false 3 r false))
        clear q4 c4
        go_enter Tryd.func10, Tryd.ntmps10
        go_wp2_with fail
        (with_reducible refine C.out.mono ?_)
        rintro e w2 ⟨rfl, hb2⟩
        go_wp2
        go_ret
        exact ⟨rfl, hb0.out.trans (hb2.mono hb0.out.size)⟩
      · rw [show usual false 3 r true = 0 by simp [usual]]
        clear q4 c4
        go_enter Tryd.func10, Tryd.ntmps10
        go_wp2
        go_ret
        exact ⟨rfl, hb0.out⟩
    have q3 : (k == 3) = false := by simpa using c3
    by_cases c2 : k = 2
    · subst c2
      cases m
      · rw [show usual false 2 r false = rowL ctl r by simp [usual]]
        have C := Lib.hid (control_any r (lookW w v false 2 r false) hT2.out)
        clear q4 c4 q3 c3
        go_enter Tryd.func10, Tryd.ntmps10
        go_wp2_with fail
        (with_reducible refine C.out.mono ?_)
        rintro e w2 ⟨rfl, hb2⟩
        go_wp2
        go_ret
        exact ⟨rfl, hb0.out.trans (hb2.mono hb0.out.size)⟩
      · rw [show usual false 2 r true = rowL ctm r by simp [usual]]
        have C := Lib.hid (control_meta r (lookW w v false 2 r true))
        clear q4 c4 q3 c3
        go_enter Tryd.func10, Tryd.ntmps10
        go_wp2_with fail
        (with_reducible refine C.out.mono ?_)
        rintro e w2 ⟨rfl, hb2⟩
        go_wp2
        go_ret
        exact ⟨rfl, hb0.out.trans (hb2.mono hb0.out.size)⟩
    have q2 : (k == 2) = false := by simpa using c2
    by_cases c1 : k = 1
    · subst c1
      cases m
      · rw [show usual false 1 r false = 1 by simp [usual]]
        clear q4 c4 q3 c3 q2 c2
        go_enter Tryd.func10, Tryd.ntmps10
        go_wp2
        go_ret
        exact ⟨rfl, hb0.out⟩
      · rw [show usual false 1 r true = (if 48 ≤ r ∧ r ≤ 57 then 29 else rowL met r) by simp [usual]]
        have C := meta_any r (lookW w v false 1 r true)
        obtain ⟨z, hz⟩ : ∃ z, (if 48 ≤ r ∧ r ≤ 57 then 29 else rowL met r) = z := ⟨_, rfl⟩
        rw [hz] at C ⊢
        have C := Lib.hid C
        clear hz
        clear q4 c4 q3 c3 q2 c2
        go_enter Tryd.func10, Tryd.ntmps10
        go_wp2_with fail
        (with_reducible refine C.out.mono ?_)
        rintro e w2 ⟨rfl, hb2⟩
        go_wp2
        go_ret
        exact ⟨rfl, hb0.out.trans (hb2.mono hb0.out.size)⟩
    have q1 : (k == 1) = false := by simpa using c1
    rw [show usual false k r m = 0 by simp [usual, c1, c2, c3, c4]]
    clear c1 c2 c3 c4
    cases m
    · go_enter Tryd.func10, Tryd.ntmps10
      go_wp2
      go_ret
      exact ⟨rfl, hb0.out⟩
    · go_enter Tryd.func10, Tryd.ntmps10
      go_wp2
      go_ret
      exact ⟨rfl, hb0.out⟩
  · have C := Lib.hid (pre_any k r m c4 (lookW w v true k r m))
    clear c4
    go_enter Tryd.func10, Tryd.ntmps10
    go_wp2_with fail
    (with_reducible refine C.out.mono ?_)
    rintro e w2 ⟨rfl, hb2⟩
    go_wp2
    go_ret
    exact ⟨rfl, hb0.out.trans (hb2.mono hb0.out.size)⟩
end

theorem look_any {w : World} {v : Value} {L : List (Stk × Int)} (h : MapOf w v L) (hT : TabW w) (s : Stk) (hs : Wf s) :
    Calls Tryd.prog 10 #[.agg #[v], sv s] w (Tells w (saidS L s)) := by
  have hl := look_at (h.later (below_look w v s.1 s.2.1 s.2.2.1 s.2.2.2)) hs
  unfold saidS
  cases hc : lastOf L s with
  | some c =>
    rw [hc] at hl
    exact look_said _ _ _ _ c hl
  | none =>
    rw [hc] at hl
    exact look_usual _ _ _ _ hT hl
end Go.Proofs.YtpdjkphjpjbhgaaDoor

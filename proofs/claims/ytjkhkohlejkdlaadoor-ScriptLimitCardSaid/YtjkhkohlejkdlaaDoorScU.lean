/- script: awake; ScriptBytes' walk. -/
import Derived.Test.YtjkhkohlejkdlaaDoorScT
namespace Go.Proofs.YtjkhkohlejkdlaaDoor
open Go.RowKit
set_option linter.unusedVariables false
set_option linter.unusedSimpArgs false

def YesO (w : World) (e : Ending) (w' : World) : Prop := e = .returned (.bool true) ∧ Below w.heap.size w w'
theorem parse_any (s : ByteArray) (hs : s.size ≤ 1000000) (w : World) (hT : TabW w.heap.size w) : Calls Tryd.prog 8 #[.string s] w fun e w' => ParseOut w w' (parseP s.data.toList) e :=
  (callsIn_wide (n := 6)).1 (parse_in s hs w hT)
def awL : List Evt := [⟨1, 97, 0, 0⟩, ⟨2, 0, 0, 0⟩, ⟨3, 0, 3, 80⟩]
theorem aw_is : parseP [98, 121, 116, 101, 115, 32, 54, 49, 10, 116, 105, 99, 107, 10, 115, 105, 122, 101, 32, 51, 32, 56, 48, 10] = (awL, 0, 0) := by decide +kernel
theorem aw_new (w : World) : LiV 4 encE (w.alloc (.cells #[.int .i64 1, .int .u8 97, .int .i64 0, .int .i64 0, .int .i64 2, .int .u8 0, .int .i64 0, .int .i64 0, .int .i64 3, .int .u8 0, .int .i64 3, .int .i64 80] 40)) (fun _ => True) (.slice (some ⟨w.heap.size, 0, none⟩) 3 3) awL :=
  (LiV.own (n := 3) (L := awL) encE_len (by decide) (own_newN w #[.int .i64 1, .int .u8 97, .int .i64 0, .int .i64 0, .int .i64 2, .int .u8 0, .int .i64 0, .int .i64 0, .int .i64 3, .int .u8 0, .int .i64 3, .int .i64 80] 40 4 3 rfl (by decide))).mono fun _ _ => trivial
set_option maxRecDepth 100000 in
set_option maxHeartbeats 4000000 in
theorem awake_yes (w : World) (hT : TabW w.heap.size w) : Calls Tryd.prog 11 #[] w (YesO w) := by
  have C1 := Lib.hid (parse_any ⟨#[98, 121, 116, 101, 115, 32, 54, 49, 10, 116, 105, 99, 107, 10, 115, 105, 122, 101, 32, 51, 32, 56, 48, 10]⟩ (by decide) w hT)
  rw [show (ByteArray.mk #[98, 121, 116, 101, 115, 32, 54, 49, 10, 116, 105, 99, 107, 10, 115, 105, 122, 101, 32, 51, 32, 56, 48, 10]).data.toList = [98, 121, 116, 101, 115, 32, 54, 49, 10, 116, 105, 99, 107, 10, 115, 105, 122, 101, 32, 51, 32, 56, 48, 10] from rfl, aw_is] at C1
  clear hT
  go_enter Tryd.func11, Tryd.ntmps11
  go_wp2_with fail
  refine C1.out.mono ?_
  rintro e w1 ⟨⟨A, c, rfl, hL, -⟩, hb⟩
  have hL' : LiV 4 encE (w1.alloc (.cells #[.int .i64 1, .int .u8 97, .int .i64 0, .int .i64 0, .int .i64 2, .int .u8 0, .int .i64 0, .int .i64 0, .int .i64 3, .int .u8 0, .int .i64 3, .int .i64 80] 40)) (fun _ => True) (.slice A 3 c) awL := (hL.later ((Below.refl _ _).alloc (Nat.le_refl _) _)).mono fun _ _ => trivial
  have C2 := Lib.hid (rsame_any A (some ⟨w1.heap.size, 0, none⟩) c 3 awL awL _ hL' (aw_new w1))
  have HB := Lib.hid hb
  rw [decide_eq_true rfl] at C2
  clear hL hL' hb C1
  rw [show ((awL, 0, 0) : List Evt × Nat × Int).1.length = 3 from rfl]
  go_wp2_with fail
  refine C2.out.mono ?_
  rintro e w2 ⟨rfl, k, hk⟩
  have H2 := Lib.hid hk
  clear hk C2
  go_wp2_with fail
  go_ret
  refine ⟨rfl, ?_⟩
  rw [H2.out]
  exact below_drewN (HB.out.alloc HB.out.size _) k
end Go.Proofs.YtjkhkohlejkdlaaDoor

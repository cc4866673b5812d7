/- trie: TrieNone's walk. -/
import Derived.Test.YtpbdamjpjpchiaaTrZ
namespace Go.Proofs.Ytpbdamjpjpchiaa
open Go.RowKit Go.Maps
set_option linter.unusedVariables false
set_option linter.unusedSimpArgs false
def Yes (w : World) (e : Ending) (w' : World) : Prop := e = .returned (.bool true) ∧ Below w.heap.size w w'
theorem wf_i64 {a : Int} (h : (Lit.int .i64 a).wf = true) : -9223372036854775808 ≤ a ∧ a ≤ 9223372036854775807 := by
  simp [Lit.wf, IntKind.min, IntKind.max, IntKind.bits, IntKind.signed] at h; omega
theorem below_step {w a b : World} (h : Below w.heap.size w a) (k : Below a.heap.size a b) : Below w.heap.size w b := h.trans (k.mono h.size)

set_option maxHeartbeats 4000000 in
set_option maxRecDepth 100000 in
theorem walk_TrieNone (a0 : Int) (w0 : (Lit.int .i64 a0).wf = true) (a1 : Int) (w1 : (Lit.int .i64 a1).wf = true) (W : World) :
    Calls Try.prog 7 #[.int .i64 a0, .int .i64 a1] W (Yes W) := by
  have hmm := wf_i64 w0
  by_cases h : 0 < a0
  · have hw : IntKind.i64.wrap (-a0) = -a0 := IntWalk.i64_in _ (by omega)
    have B0 := Lib.hid (build_none (-a0) 7 (.slice none 0 0) (by omega) W)
    have d0 : decide (0 < a0) = true := decide_eq_true h
    clear w0 w1 hmm
    go_enter Try.func7, Try.ntmps7
    go_wp2_with fail
    (with_reducible refine B0.out.mono ?_)
    rintro e W1 ⟨rfl, hb⟩
    have H1 := Lib.hid hb
    clear hb B0
    have C := Lib.hid (len_none W1)
    go_wp2_with fail
    (with_reducible refine C.out.mono ?_)
    rintro e W2 ⟨rfl, hb⟩
    have H2 := Lib.hid (below_step H1.out hb)
    clear hb C H1
    have C := Lib.hid (blocks_none W2)
    go_wp2_with fail
    (with_reducible refine C.out.mono ?_)
    rintro e W3 ⟨rfl, hb⟩
    have H3 := Lib.hid (below_step H2.out hb)
    clear hb C H2
    have C := Lib.hid (get_none a1 W3)
    go_wp2_with fail
    (with_reducible refine C.out.mono ?_)
    rintro e W4 ⟨rfl, hb⟩
    have H4 := Lib.hid (below_step H3.out hb)
    clear hb C H3
    have C := Lib.hid (pieces_none W4)
    go_wp2_with fail
    (with_reducible refine C.out.mono ?_)
    rintro e W5 ⟨rfl, hb⟩
    have H5 := Lib.hid (below_step H4.out hb)
    clear hb C H4
    have C := Lib.hid (awake_yes W5)
    go_wp2_with fail
    (with_reducible refine C.out.mono ?_)
    rintro e W6 ⟨rfl, hb⟩
    have H6 := Lib.hid (below_step H5.out hb)
    clear hb C H5
    go_wp2
    go_ret
    exact ⟨rfl, H6.out⟩
  · have B0 := Lib.hid (build_none a0 7 (.slice none 0 0) (by omega) W)
    have d0 : decide (0 < a0) = false := decide_eq_false h
    clear w0 w1 hmm
    go_enter Try.func7, Try.ntmps7
    go_wp2_with fail
    (with_reducible refine B0.out.mono ?_)
    rintro e W1 ⟨rfl, hb⟩
    have H1 := Lib.hid hb
    clear hb B0
    have C := Lib.hid (len_none W1)
    go_wp2_with fail
    (with_reducible refine C.out.mono ?_)
    rintro e W2 ⟨rfl, hb⟩
    have H2 := Lib.hid (below_step H1.out hb)
    clear hb C H1
    have C := Lib.hid (blocks_none W2)
    go_wp2_with fail
    (with_reducible refine C.out.mono ?_)
    rintro e W3 ⟨rfl, hb⟩
    have H3 := Lib.hid (below_step H2.out hb)
    clear hb C H2
    have C := Lib.hid (get_none a1 W3)
    go_wp2_with fail
    (with_reducible refine C.out.mono ?_)
    rintro e W4 ⟨rfl, hb⟩
    have H4 := Lib.hid (below_step H3.out hb)
    clear hb C H3
    have C := Lib.hid (pieces_none W4)
    go_wp2_with fail
    (with_reducible refine C.out.mono ?_)
    rintro e W5 ⟨rfl, hb⟩
    have H5 := Lib.hid (below_step H4.out hb)
    clear hb C H4
    have C := Lib.hid (awake_yes W5)
    go_wp2_with fail
    (with_reducible refine C.out.mono ?_)
    rintro e W6 ⟨rfl, hb⟩
    have H6 := Lib.hid (below_step H5.out hb)
    clear hb C H5
    go_wp2
    go_ret
    exact ⟨rfl, H6.out⟩
end Go.Proofs.Ytpbdamjpjpchiaa

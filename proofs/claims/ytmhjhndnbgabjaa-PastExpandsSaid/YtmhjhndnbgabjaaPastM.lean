/- past: the document's Add, another way. -/
import Derived.Test.YtmhjhndnbgabjaaPastJ
namespace Go.Proofs.Ytmhjhndnbgabjaa
open Go.RowKit
set_option linter.unusedVariables false
set_option linter.unusedSimpArgs false

set_option maxHeartbeats 4000000 in
set_option maxRecDepth 100000 in
theorem radd_first (u v lv : Value) (L : List (List Int)) (l : List Int) (k : Int) (S : Nat → Prop) (w : World) (hL : TxtsS w S u L) (hn : L.length ≤ 1000) (hl : TxtS w S v l) (h0 : l ≠ []) (hL1 : L = []) :
    Calls Try.prog 10 #[.agg #[u, .int .i64 k, lv], v] w (TellsP ([l]) 0 [] S w) := by
  obtain ⟨A, c, rfl, hc, hc2⟩ := hL.is
  obtain ⟨Av, cv, rfl, _⟩ := Sl.is hl
  have hL0 := hL
  obtain ⟨vs, hvs, hts⟩ := hL
  have HV := Lib.hid (And.intro hvs (And.intro hts (And.intro hl hvs.parts.2.1)))
  have hl0 : 0 < l.length := List.length_pos_iff.2 h0
  have d0 : decide ((0 : Int) < (l.length : Int)) = true := decide_eq_true (by omega)
  subst hL1
  have HD := Lib.hid d0
  have RX := Lib.hid (rb_start0 w #[.slice A 0 c, .int .i64 k, lv] vs 28 28 28)
  clear h0
  clear hvs hts hl hL0
  go_enter Try.func10, Try.ntmps10
  go_wp2_with (at_builtin; refine wpList_push slT_elt RX.out.own (by have := RX.out.out.1; omega) rfl rfl rfl rfl (by simp) rfl rfl (by unfold maxLen; omega) (by omega) ?_; intro A3 c3 w3 hp; have RY := Lib.hid (RX.out.push (hd' := [.slice Av l.length cv]) (q' := 0) hp (by rfl)); have hB3 := RX.out.out.grown hp.grown (RX.out.far _ (by omega)); have u1 : w3.cell? ⟨w.heap.size + 1 + 1, 0, none⟩ = some (.slice none 0 0) := hB3.2.1 0; have f1 : w3.frozen? ⟨w.heap.size + 1 + 1, 0, none⟩ = false := hB3.2.2 0; clear hp hB3)
  clear HD d0
  go_loopw [6] (fun i wr => i = .int .i64 0 ∧ Hid (∃ Ao co, RB w #[.slice A 0 c, .int .i64 k, lv] [.slice Av l.length cv] vs 0 1 (.slice Ao 1 co) wr)) (fun _ _ => 0)
  case atStart => exact ⟨rfl, ⟨_, _, RY.out⟩⟩
  case round =>
    obtain ⟨rfl, HR⟩ := hrel
    obtain ⟨Ao, co, R⟩ := HR.out
    have R1 := Lib.hid R
    have TX := Lib.hid (R1.out.texts (hl := [l]) (by rfl) (by rfl) (fun j hj => ⟨_, by obtain rfl : j = 0 := (by simpa using hj); rfl, by obtain rfl : j = 0 := (by simpa using hj); exact HV.out.2.2.1⟩) HV.out.2.1 (Nat.zero_le _))
    have RS := Lib.hid R1.out.res
    obtain ⟨y0, k0, j0⟩ := (show _ from R.box)
    obtain ⟨y3, k3, j3⟩ := (show _ from R.out)
    obtain ⟨y1, k1, j1⟩ := (show _ from R.res)
    clear R HR
    go_wp2
    refine at_world (StoredP w S (w.heap.size + 1) (.slice Ao 1 co) 0 (.slice none 0 0) [l] []) (storedP_of RS.out R1.out.below TX.out (Sl.nil _ _ _)) ?_
    rintro X ⟨x0, x1, x2, hts, htt, hX⟩
    refine bodyPost_ret (v := .agg #[.slice Ao 1 co, .int .i64 0, .slice none 0 0]) (by simp [results, Try.results10, go_sem, x0, x1, x2]) rfl ⟨_, _, rfl, hts, htt, hX⟩
end Go.Proofs.Ytmhjhndnbgabjaa

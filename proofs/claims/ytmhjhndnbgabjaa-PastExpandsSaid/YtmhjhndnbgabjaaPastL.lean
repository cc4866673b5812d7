/- past: the document's Add, another way. -/
import Derived.Test.YtmhjhndnbgabjaaPastJ
namespace Go.Proofs.Ytmhjhndnbgabjaa
open Go.RowKit
set_option linter.unusedVariables false
set_option linter.unusedSimpArgs false

set_option maxHeartbeats 4000000 in
set_option maxRecDepth 100000 in
theorem radd_more (u v lv : Value) (L : List (List Int)) (l : List Int) (k : Int) (S : Nat → Prop) (w : World) (hL : TxtsS w S u L) (hn : L.length ≤ 1000) (hl : TxtS w S v l) (h0 : l ≠ []) (hL1 : L ≠ []) (hg : L.getD 0 [] ≠ l) :
    Calls Try.prog 10 #[.agg #[u, .int .i64 k, lv], v] w (TellsP (l :: L.take 499) 0 [] S w) := by
  obtain ⟨A, c, rfl, hc, hc2⟩ := hL.is
  obtain ⟨Av, cv, rfl, _⟩ := Sl.is hl
  have hL0 := hL
  obtain ⟨vs, hvs, hts⟩ := hL
  have HV := Lib.hid (And.intro hvs (And.intro hts (And.intro hl hvs.parts.2.1)))
  have hL00 : 0 < L.length := List.length_pos_iff.2 hL1
  have hl0 : 0 < l.length := List.length_pos_iff.2 h0
  obtain ⟨b0, o0, A0, n0, c0, rfl, hb0, hc0, ht0⟩ := hL0.at_ (j := 0) hL00
  rw [Nat.add_zero] at hc0
  have hcX := fun a b c : Obj => ((below_three w a b c).cell (p := ⟨b0, o0, none⟩) hb0).trans hc0
  have d0 : decide ((0 : Int) < (l.length : Int)) = true := decide_eq_true (by omega)
  have d1 : ((L.length : Int) == 0) = false := beq_eq_false_iff_ne.2 (by omega)
  have hne1 : L ≠ [] := hL1
  have hne2 : ¬ ((L.length : Int) = 0) := by omega
  have HT := Lib.hid (And.intro ht0.any (decide_eq_false hg))
  clear ht0 hg h0 hL1
  clear hvs hts hl hL0
  go_enter Try.func10, Try.ntmps10
  go_wp2_with (first
    | (go_at_call 13; refine (same_is _ _ _ _ _ (HT.out.1.later (below_three _ _ _ _)) (TxtS.later (TxtS.any HV.out.2.2.1) (below_three _ _ _ _))).mono ?_; rintro e w1 ⟨rfl, qq, rfl⟩; rw [HT.out.2]; have RX := Lib.hid (rb_start w #[.slice (some ⟨b0, o0, none⟩) L.length c, .int .i64 k, lv] vs 28 28 28 qq))
    | (at_builtin; refine wpList_push slT_elt RX.out.own (by have := RX.out.out.1; omega) rfl rfl rfl rfl (by simp) rfl rfl (by unfold maxLen; omega) (by omega) ?_; intro A3 c3 w3 hp; have RY := Lib.hid (RX.out.push (hd' := [.slice Av l.length cv]) (q' := 0) hp (by rfl)); have hB3 := RX.out.out.grown hp.grown (RX.out.far _ (by omega)); have u1 : w3.cell? ⟨w.heap.size + 1 + 1, 0, none⟩ = some (.slice none 0 0) := hB3.2.1 0; have f1 : w3.frozen? ⟨w.heap.size + 1 + 1, 0, none⟩ = false := hB3.2.2 0; clear hp hB3))
  clear hcX hc0 hb0 d0 d1 hne1 hne2 HT
  go_loopw [6] (fun i wr => ∃ q : Nat, q ≤ L.length ∧ q ≤ 499 ∧ i = .int .i64 q ∧ Hid (∃ Ao co, RB w #[.slice (some ⟨b0, o0, none⟩) L.length c, .int .i64 k, lv] [.slice Av l.length cv] vs q (q + 1) (.slice Ao (q + 1) co) wr)) (fun i _ => L.length - (intOf i).toNat)
  case atStart => exact ⟨0, Nat.zero_le _, Nat.zero_le _, rfl, ⟨_, _, RY.out⟩⟩
  case round =>
    obtain ⟨q, hq, hq59, rfl, HR⟩ := hrel
    obtain ⟨Ao, co, R⟩ := HR.out
    have R1 := Lib.hid R
    obtain ⟨y0, k0, j0⟩ := (show _ from R.box)
    obtain ⟨y3, k3, j3⟩ := (show _ from R.out)
    clear R HR
    by_cases hlt : q < L.length ∧ q < 499
    · obtain ⟨hqn, hq2⟩ := hlt
      obtain ⟨b, o, e1, hbl, hcell⟩ := HV.out.2.2.2 q hqn
      cases e1
      obtain ⟨As, cs, es, _⟩ := Sl.is (HV.out.2.1 q hqn)
      obtain ⟨m, hm⟩ : ∃ m, m = (L.getD q []).length := ⟨_, rfl⟩
      rw [← hm] at es
      have hcq : wr.cell? ⟨b0, o0 + q, none⟩ = some (.slice As m cs) := by rw [← es]; exact (R1.out.below.cell (p := ⟨b0, o0 + q, none⟩) hbl).trans hcell
      have hbl1 : b0 < wr.heap.size := Nat.lt_of_lt_of_le hbl R1.out.below.size
      have HE := Lib.hid es
      have hd1 : decide ((q : Int) < (L.length : Int)) = true := decide_eq_true (by omega)
      have hd2 : decide ((q : Int) + 1 < 500) = true := decide_eq_true (by omega)
      have i0 : (0 : Int) ≤ (q : Int) := by omega
      have i1 : (q : Int) < (L.length : Int) := by omega
      have HHb := Lib.hid hbl
      clear hcell es hm
      go_wp2
      have s1 : wr.cell? ⟨w.heap.size + 1 + 1, 0, none⟩ = some (.slice Ao (q + 1) co) := k3 0
      have s2 : wr.cell? ⟨w.heap.size, 0, none⟩ = some (.slice (some ⟨b0, o0, none⟩) L.length c) := k0 0
      have hne0 : w.heap.size + 1 + 1 ≠ w.heap.size := by omega
      have hne2 : w.heap.size + 1 + 1 ≠ b0 := by omega
      go_region_law ((refine step_push slT_elt R1.out.own (by have := R1.out.box.1; have := R1.out.out.1; omega) (by rfl) (by rfl) (by rfl) (by rfl) (by simp) (by rfl) (by rfl) (by unfold maxLen; omega) (by omega) ?_; intro A3 c3 w3 hp; have hB3 := R1.out.out.grown hp.grown (R1.out.far _ (by omega)); have hB0 := R1.out.box.grown hp.grown (R1.out.far _ (by omega)); have u1 : w3.cell? ⟨w.heap.size + 1 + 1, 0, none⟩ = some (.slice Ao (q + 1) co) := hB3.2.1 0; have f1 : w3.frozen? ⟨w.heap.size + 1 + 1, 0, none⟩ = false := hB3.2.2 0; have u2 : w3.cell? ⟨w.heap.size, 0, none⟩ = some (.slice (some ⟨b0, o0, none⟩) L.length c) := hB0.2.1 0; have u3 : w3.cell? ⟨b0, o0 + q, none⟩ = some (.slice As m cs) := (World.cell?_of_block (a := ⟨b0, o0 + q, none⟩) (hp.grown.block b0 hbl1 (R1.out.far b0 (by have := HHb.out; omega)))).trans hcq; have HP := Lib.hid (And.intro hp (And.intro hB3 hB0)); clear hp hB3 hB0))
      all_goals
        have HP2 := HP.out.1
        rw [← HE.out] at HP2
        have RN := Lib.hid (R1.out.next HP2)
        clear HP2
        go_wp2
        go_roundw
        case rel => exact ⟨q + 1, by omega, by omega, by go_num, ⟨_, _, by first | exact RN.out | exact RN.out.drew⟩⟩
        case measure => simp [intOf]; omega
    · have hor : q = L.length ∨ (q < L.length ∧ q = 499) := by omega
      clear hlt
      have HTK : Hid (L.take q = L.take 499) := Lib.hid (by
        rcases hor with rfl | ⟨_, rfl⟩
        · rw [List.take_of_length_le (Nat.le_refl _), List.take_of_length_le hq59]
        · rfl)
      have TX := R1.out.texts (hl := [l]) (by rfl) (by simp; omega) (fun j hj => ⟨_, by obtain rfl : j = 0 := (by simpa using hj); rfl, by obtain rfl : j = 0 := (by simpa using hj); exact HV.out.2.2.1⟩) HV.out.2.1 hq
      rw [HTK.out] at TX
      have TX := Lib.hid TX
      have RS := Lib.hid R1.out.res
      clear HTK
      obtain ⟨y1, k1, j1⟩ := (show _ from R1.out.res)
      rcases hor with rfl | ⟨hqn, rfl⟩
      · go_wp2
        refine at_world (StoredP w S (w.heap.size + 1) (.slice Ao (L.length + 1) co) 0 (.slice none 0 0) (l :: L.take 499) []) (storedP_of RS.out R1.out.below TX.out (Sl.nil _ _ _)) ?_
        rintro X ⟨x0, x1, x2, hts, htt, hX⟩
        refine bodyPost_ret (v := .agg #[.slice Ao (L.length + 1) co, .int .i64 0, .slice none 0 0]) (by simp [results, Try.results10, go_sem, x0, x1, x2]) rfl ⟨_, _, rfl, hts, htt, hX⟩
      · have hd1 : decide ((499 : Int) < (L.length : Int)) = true := decide_eq_true (by omega)
        go_wp2
        refine at_world (StoredP w S (w.heap.size + 1) (.slice Ao (499 + 1) co) 0 (.slice none 0 0) (l :: L.take 499) []) (storedP_of RS.out R1.out.below TX.out (Sl.nil _ _ _)) ?_
        rintro X ⟨x0, x1, x2, hts, htt, hX⟩
        refine bodyPost_ret (v := .agg #[.slice Ao (499 + 1) co, .int .i64 0, .slice none 0 0]) (by simp [results, Try.results10, go_sem, x0, x1, x2]) rfl ⟨_, _, rfl, hts, htt, hX⟩
end Go.Proofs.Ytmhjhndnbgabjaa

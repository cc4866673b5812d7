/- ring: what a deed does in the document's ring; two rings held against each other. -/
import Derived.Test.YtnninkbkndddhaaRing13
namespace Go.Proofs.Ytnninkbkndddhaa
open Go.RowKit
set_option linter.unusedVariables false
set_option linter.unusedSimpArgs false

set_option maxHeartbeats 1000000 in
theorem means_add (u v : Value) (L : List (List Int)) (k : Nat) (kind : Int) (l : List Int) (S : Nat → Prop) (w : World) (L' : List (List Int)) (k' : Nat)
    (d0 : (kind == 0) = true) (hL : TxtsS w S u L) (hl : TxtS w S v l)
    (c : ∀ (S : Nat → Prop) w, TxtsS w S u L → TxtS w S v l → Calls Try.prog 20 #[.agg #[u, .int .i64 k], v] w (TellsR L' k' S w)) :
    Calls Try.prog 15 #[.agg #[u, .int .i64 k], .agg #[.int .i64 kind, v]] w (TellsR L' k' S w) := by
  have HV := Lib.hid (And.intro hL.old hl.old)
  have C := Lib.hid c
  clear hL hl c
  obtain ⟨A, c, rfl, _⟩ := HV.out.1.is
  obtain ⟨Av, cv, rfl, _⟩ := Sl.is HV.out.2
  go_enter Try.func15, Try.ntmps15
  go_wp2_with fail
  refine (C.out _ _ (HV.out.1.later (below_three w _ _ _)) (HV.out.2.later (below_three w _ _ _))).mono ?_
  rintro e w1 ⟨A1, n1, c1, rfl, ht1, hb1⟩
  obtain ⟨z1, B1, hbw⟩ := third_later hb1
  have ht2 : TxtsS w1 (Out3 w S) (.slice A1 n1 c1) L' := ht1.mono fun b hb => by
    rcases hb with hb | hb
    · exact .inr (by simpa [World.size_alloc] using hb)
    · exact .inl hb
  have H := Lib.hid (And.intro ht2 hbw)
  have HB := Lib.hid B1
  obtain ⟨_, k1, j1⟩ := (show _ from B1)
  clear ht1 hb1 B1 hbw ht2
  go_wp2
  refine at_world (Stored w S (w.heap.size + 1 + 1) (.slice A1 n1 c1) (.int .i64 k') L') ?_ ?_
  · exact stored_at HB.out H.out.2 (by omega) H.out.1 Out3.new not_out3
  rintro X ⟨x0, x1, hts, hX⟩
  refine bodyPost_ret (v := .agg #[.slice A1 n1 c1, .int .i64 k']) (by simp [results, Try.results15, go_sem, x0, x1]) rfl ⟨_, _, _, rfl, hts, hX⟩

set_option maxHeartbeats 1000000 in
theorem means_ahead (u v : Value) (L : List (List Int)) (k : Nat) (kind : Int) (l : List Int) (S : Nat → Prop) (w : World) (L' : List (List Int)) (k' : Nat)
    (d0 : (kind == 0) = false) (d1 : (kind == 1) = true) (hL : TxtsS w S u L) (hl : TxtS w S v l)
    (c : ∀ (S : Nat → Prop) w, TxtsS w S u L → TxtS w S v l → Calls Try.prog 21 #[.agg #[u, .int .i64 k], v, .bool true] w (TellsR L' k' S w)) :
    Calls Try.prog 15 #[.agg #[u, .int .i64 k], .agg #[.int .i64 kind, v]] w (TellsR L' k' S w) := by
  have HV := Lib.hid (And.intro hL.old hl.old)
  have C := Lib.hid c
  clear hL hl c
  obtain ⟨A, c, rfl, _⟩ := HV.out.1.is
  obtain ⟨Av, cv, rfl, _⟩ := Sl.is HV.out.2
  go_enter Try.func15, Try.ntmps15
  go_wp2_with fail
  refine (C.out _ _ (HV.out.1.later (below_three w _ _ _)) (HV.out.2.later (below_three w _ _ _))).mono ?_
  rintro e w1 ⟨A1, n1, c1, rfl, ht1, hb1⟩
  obtain ⟨z1, B1, hbw⟩ := third_later hb1
  have ht2 : TxtsS w1 (Out3 w S) (.slice A1 n1 c1) L' := ht1.mono fun b hb => by
    rcases hb with hb | hb
    · exact .inr (by simpa [World.size_alloc] using hb)
    · exact .inl hb
  have H := Lib.hid (And.intro ht2 hbw)
  have HB := Lib.hid B1
  obtain ⟨_, k1, j1⟩ := (show _ from B1)
  clear ht1 hb1 B1 hbw ht2
  go_wp2
  refine at_world (Stored w S (w.heap.size + 1 + 1) (.slice A1 n1 c1) (.int .i64 k') L') ?_ ?_
  · exact stored_at HB.out H.out.2 (by omega) H.out.1 Out3.new not_out3
  rintro X ⟨x0, x1, hts, hX⟩
  refine bodyPost_ret (v := .agg #[.slice A1 n1 c1, .int .i64 k']) (by simp [results, Try.results15, go_sem, x0, x1]) rfl ⟨_, _, _, rfl, hts, hX⟩

set_option maxHeartbeats 1000000 in
theorem means_behind (u v : Value) (L : List (List Int)) (k : Nat) (kind : Int) (l : List Int) (S : Nat → Prop) (w : World) (L' : List (List Int)) (k' : Nat)
    (d0 : (kind == 0) = false) (d1 : (kind == 1) = false) (d2 : (kind == 2) = true) (hL : TxtsS w S u L) (hl : TxtS w S v l)
    (c : ∀ (S : Nat → Prop) w, TxtsS w S u L → TxtS w S v l → Calls Try.prog 21 #[.agg #[u, .int .i64 k], v, .bool false] w (TellsR L' k' S w)) :
    Calls Try.prog 15 #[.agg #[u, .int .i64 k], .agg #[.int .i64 kind, v]] w (TellsR L' k' S w) := by
  have HV := Lib.hid (And.intro hL.old hl.old)
  have C := Lib.hid c
  clear hL hl c
  obtain ⟨A, c, rfl, _⟩ := HV.out.1.is
  obtain ⟨Av, cv, rfl, _⟩ := Sl.is HV.out.2
  go_enter Try.func15, Try.ntmps15
  go_wp2_with fail
  refine (C.out _ _ (HV.out.1.later (below_three w _ _ _)) (HV.out.2.later (below_three w _ _ _))).mono ?_
  rintro e w1 ⟨A1, n1, c1, rfl, ht1, hb1⟩
  obtain ⟨z1, B1, hbw⟩ := third_later hb1
  have ht2 : TxtsS w1 (Out3 w S) (.slice A1 n1 c1) L' := ht1.mono fun b hb => by
    rcases hb with hb | hb
    · exact .inr (by simpa [World.size_alloc] using hb)
    · exact .inl hb
  have H := Lib.hid (And.intro ht2 hbw)
  have HB := Lib.hid B1
  obtain ⟨_, k1, j1⟩ := (show _ from B1)
  clear ht1 hb1 B1 hbw ht2
  go_wp2
  refine at_world (Stored w S (w.heap.size + 1 + 1) (.slice A1 n1 c1) (.int .i64 k') L') ?_ ?_
  · exact stored_at HB.out H.out.2 (by omega) H.out.1 Out3.new not_out3
  rintro X ⟨x0, x1, hts, hX⟩
  refine bodyPost_ret (v := .agg #[.slice A1 n1 c1, .int .i64 k']) (by simp [results, Try.results15, go_sem, x0, x1]) rfl ⟨_, _, _, rfl, hts, hX⟩

set_option maxHeartbeats 1000000 in
theorem means_turn (u v : Value) (L : List (List Int)) (k : Nat) (kind : Int) (l : List Int) (S : Nat → Prop) (w : World) (L' : List (List Int)) (k' : Nat)
    (d0 : (kind == 0) = false) (d1 : (kind == 1) = false) (d2 : (kind == 2) = false) (hL : TxtsS w S u L) (hl : TxtS w S v l)
    (c : ∀ (S : Nat → Prop) w, TxtsS w S u L → TxtS w S v l → Calls Try.prog 22 #[.agg #[u, .int .i64 k]] w (TellsR L' k' S w)) :
    Calls Try.prog 15 #[.agg #[u, .int .i64 k], .agg #[.int .i64 kind, v]] w (TellsR L' k' S w) := by
  have HV := Lib.hid (And.intro hL.old hl.old)
  have C := Lib.hid c
  clear hL hl c
  obtain ⟨A, c, rfl, _⟩ := HV.out.1.is
  obtain ⟨Av, cv, rfl, _⟩ := Sl.is HV.out.2
  go_enter Try.func15, Try.ntmps15
  go_wp2_with fail
  refine (C.out _ _ (HV.out.1.later (below_three w _ _ _)) (HV.out.2.later (below_three w _ _ _))).mono ?_
  rintro e w1 ⟨A1, n1, c1, rfl, ht1, hb1⟩
  obtain ⟨z1, B1, hbw⟩ := third_later hb1
  have ht2 : TxtsS w1 (Out3 w S) (.slice A1 n1 c1) L' := ht1.mono fun b hb => by
    rcases hb with hb | hb
    · exact .inr (by simpa [World.size_alloc] using hb)
    · exact .inl hb
  have H := Lib.hid (And.intro ht2 hbw)
  have HB := Lib.hid B1
  obtain ⟨_, k1, j1⟩ := (show _ from B1)
  clear ht1 hb1 B1 hbw ht2
  go_wp2
  refine at_world (Stored w S (w.heap.size + 1 + 1) (.slice A1 n1 c1) (.int .i64 k') L') ?_ ?_
  · exact stored_at HB.out H.out.2 (by omega) H.out.1 Out3.new not_out3
  rintro X ⟨x0, x1, hts, hX⟩
  refine bodyPost_ret (v := .agg #[.slice A1 n1 c1, .int .i64 k']) (by simp [results, Try.results15, go_sem, x0, x1]) rfl ⟨_, _, _, rfl, hts, hX⟩

theorem means_any (u v : Value) (L : List (List Int)) (k b : Nat) (kind : Int) (l : List Int) (S : Nat → Prop) (w : World) (hL : TxtsS w S u L) (hl : TxtS w S v l) (hf : Fine (L, k) b) (hb : b ≤ 10000) (hlen : l.length ≤ 20) :
    Calls Try.prog 15 #[.agg #[u, .int .i64 k], .agg #[.int .i64 kind, v]] w (TellsR (doesL (L, k) kind l).1 (doesL (L, k) kind l).2 S w) := by
  have hn : L.length ≤ 60 := hf.few
  unfold doesL
  by_cases h0 : kind = 0
  · rw [if_pos h0]
    exact means_add u v L k kind l S w _ _ (by simp [h0]) hL hl fun S w h1 h2 => radd_any u v L l k S w h1 (by omega) h2
  · rw [if_neg h0]
    by_cases h1 : kind = 1
    · rw [if_pos h1]
      exact means_ahead u v L k kind l S w _ _ (by simp [h0]) (by simp [h1]) hL hl fun S w h1 h2 => rjoin_any u v L l k true S w h1 h2 (by omega) (by have := getD_len hf 0; omega)
    · rw [if_neg h1]
      by_cases h2 : kind = 2
      · rw [if_pos h2]
        exact means_behind u v L k kind l S w _ _ (by simp [h0]) (by simp [h1]) (by simp [h2]) hL hl fun S w h1 h2 => rjoin_any u v L l k false S w h1 h2 (by omega) (by have := getD_len hf 0; omega)
      · rw [if_neg h2]
        exact means_turn u v L k kind l S w _ _ (by simp [h0]) (by simp [h1]) (by simp [h2]) hL hl fun S w h1 _ => rturn_any u k L S w h1 ⟨hf.few, hf.top, hf.zero, fun l hl => by have := hf.len l hl; omega⟩


/-! ### SameTexts -/
set_option maxHeartbeats 1000000 in
theorem sametexts_yes (u v : Value) (L : List (List Int)) (w : World) (hu : Txts w u L) (hv : Txts w v L) (hn : L.length ≤ 1000) : Calls Try.prog 19 #[u, v] w fun e w' => e = .returned (.bool true) ∧ Below w.heap.size w w' := by
  obtain ⟨A, c, rfl, hc, hc2⟩ := hu.is
  obtain ⟨B, d, rfl, hd, hd2⟩ := hv.is
  have HU := Lib.hid (And.intro hu hv)
  have h1 : (((L.length : Int) == (L.length : Int))) = true := by simp
  have h2 : (((L.length : Int) != (L.length : Int))) = false := by simp
  clear hu hv
  go_enter Try.func19, Try.ntmps19
  go_wp2
  go_loopw [5] (fun i wr => ∃ k : Nat, k ≤ L.length ∧ i = .int .i64 k ∧ Hid (Below w.heap.size w wr)) (fun i _ => L.length - (intOf i).toNat)
  case atStart => exact ⟨0, Nat.zero_le _, rfl, Lib.hid (Below.refl _ _)⟩
  case round =>
    obtain ⟨k, hk, rfl, HQ⟩ := hrel
    by_cases hlt : k < L.length
    · obtain ⟨a, i, A1, n1, c1, rfl, _, hca, hta⟩ := (HU.out.1.later HQ.out).at_ hlt
      obtain ⟨b, j, B1, n2, c2, rfl, _, hcb, htb⟩ := (HU.out.2.later HQ.out).at_ hlt
      have HS : Hid (∀ n, Calls Try.prog 8 #[.slice A1 n1 c1, .slice B1 n2 c2] (wr.drewN n) fun e w'' => e = .returned (.bool true) ∧ ∃ m, w'' = wr.drewN m) := Lib.hid (fun n => (same_txt (.slice A1 n1 c1) (.slice B1 n2 c2) _ (wr.drewN n) (hta.any.later (below_drewN (Below.refl _ _) _)) (htb.any.later (below_drewN (Below.refl _ _) _))).mono fun e w'' hh => ⟨hh.1, by obtain ⟨k, e⟩ := hh.2; exact ⟨_, e.trans (World.drewN_drewN _ _ _)⟩⟩)
      clear hta htb
      go_wp2
      go_quiet ((go_at_call 8; exact (HS.out _)))
      go_wp2
      go_roundw
      case rel => exact ⟨k + 1, by omega, by go_num, Lib.hid (HQ.out.trans (below_drewN (Below.refl _ _) _ |>.mono HQ.out.size))⟩
      case measure => simp [intOf]; omega
    · go_wp2
      go_ret
      exact ⟨rfl, HQ.out⟩
end Go.Proofs.Ytnninkbkndddhaa

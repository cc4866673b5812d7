/- trie: the document's Blocks; TrieBlocks' walk. -/
import Derived.Test.YtpbdamjpjpchiaaTrSm
import Derived.Test.YtpbdamjpjpchiaaTrGe
namespace Go.Proofs.Ytpbdamjpjpchiaa
open Go.RowKit Go.Maps
set_option linter.unusedVariables false
set_option linter.unusedSimpArgs false

/-- Each once. -/
def once (f : Nat → List Int) : Nat → List (List Int)
  | 0 => []
  | n + 1 => if f n ∈ once f n then once f n else once f n ++ [f n]
theorem once_mem (f : Nat → List Int) : ∀ (n : Nat) (B : List Int), B ∈ once f n ↔ ∃ j, j < n ∧ f j = B
  | 0, B => by simp [once]
  | n + 1, B => by
    have ih := once_mem f n
    unfold once
    by_cases h : f n ∈ once f n
    · rw [if_pos h, ih B]
      constructor
      · rintro ⟨j, hj, e⟩; exact ⟨j, by omega, e⟩
      · rintro ⟨j, hj, e⟩
        rcases Nat.lt_or_ge j n with h' | h'
        · exact ⟨j, h', e⟩
        · obtain rfl : j = n := by omega
          obtain ⟨i, hi, e'⟩ := (ih _).1 h
          exact ⟨i, hi, e'.trans e⟩
    · rw [if_neg h, List.mem_append, ih B, List.mem_singleton]
      constructor
      · rintro (⟨j, hj, e⟩ | rfl)
        · exact ⟨j, by omega, e⟩
        · exact ⟨n, by omega, rfl⟩
      · rintro ⟨j, hj, e⟩
        rcases Nat.lt_or_ge j n with h' | h'
        · exact .inl ⟨j, h', e⟩
        · obtain rfl : j = n := by omega
          exact .inr e.symm
theorem once_nodup (f : Nat → List Int) : ∀ n, (once f n).Nodup
  | 0 => List.nodup_nil
  | n + 1 => by
    have ih := once_nodup f n
    unfold once
    by_cases h : f n ∈ once f n
    · rw [if_pos h]; exact ih
    · rw [if_neg h, List.nodup_append]
      exact ⟨ih, by simp, fun a ha b hb e => by simp at hb; subst hb; subst e; exact h ha⟩
theorem nodup_le {α : Type} [DecidableEq α] : ∀ {l m : List α}, l.Nodup → (∀ x ∈ l, x ∈ m) → l.length ≤ m.length
  | [], _, _, _ => Nat.zero_le _
  | x :: l, m, hn, h => by
    obtain ⟨h1, h2⟩ := List.nodup_cons.1 hn
    have hx : x ∈ m := h x (by simp)
    have := nodup_le (m := m.erase x) h2 fun y hy => (List.mem_erase_of_ne (fun e => by subst e; exact h1 hy)).2 (h y (by simp [hy]))
    rw [List.length_erase_of_mem hx] at this
    have hp : 0 < m.length := List.length_pos_of_mem hx
    simp
    omega
theorem nodup_len {α : Type} [DecidableEq α] {l m : List α} (hl : l.Nodup) (hm : m.Nodup) (h : ∀ x, x ∈ l ↔ x ∈ m) : l.length = m.length :=
  Nat.le_antisymm (nodup_le hl fun x hx => (h x).1 hx) (nodup_le hm fun x hx => (h x).2 hx)
theorem once_le (f : Nat → List Int) : ∀ n, (once f n).length ≤ n
  | 0 => Nat.le_refl _
  | n + 1 => by
    have ih := once_le f n
    unfold once
    split
    · omega
    · simp; omega

theorem sees_blocks {L : List (Pc Int)} {z : Int} {n : Nat} {v : Option Addr} {W : World} (h : Sees L z (128 * n) v W) (hv : v.isNone = decide (128 * n < 1)) : Calls Try.prog 16 #[.pointer v] W (fun e w' => e = .returned (.int .i64 ((once (bk (pval L z) (128 * n)) n).length : Nat)) ∧ Below W.heap.size W w') := by
  rcases h with ⟨h0, rfl⟩ | ⟨tb, mb, base, hd, Bs, Ix, l, rfl, h⟩
  · obtain rfl : n = 0 := by omega
    exact blocks_none W
  · rcases Nat.eq_zero_or_pos n with rfl | hn
    · simp at hv
    · have hc : cntB (128 * n) = n := by unfold cntB; omega
      have he : Bs.length = (once (bk (pval L z) (128 * n)) n).length := nodup_len h.tr.ok.nd (once_nodup _ _) fun B => by
        rw [once_mem]
        constructor
        · intro hB
          obtain ⟨j, hj, e⟩ := h.mem B hB
          exact ⟨j, by omega, e.symm⟩
        · rintro ⟨j, hj, rfl⟩
          obtain ⟨i, _, h2⟩ := h.is j (by omega)
          exact List.mem_of_getElem? h2
      rw [← he]
      exact blocks_any h

set_option maxHeartbeats 8000000 in
set_option maxRecDepth 100000 in
theorem refblocks_any (A : Option Addr) (c : Nat) (L : List (Pc Int)) (z : Int) (n : Nat) (W : World) (hL : Li 3 encP W (fun _ => True) A L) (hn : L.length ≤ 100000) (hn2 : n ≤ 7) :
    Calls Try.prog 17 #[.slice A L.length c, .int .i64 z, .int .i64 ((128 * n : Nat) : Int)] W (fun e w' => e = .returned (.int .i64 ((once (bk (pval L z) (128 * n)) n).length : Nat)) ∧ Below W.heap.size W w') := by
  have H0 := Lib.hid (And.intro hL (Below.refl W.heap.size W))
  obtain ⟨N, hN⟩ : ∃ N, 128 * n = N := ⟨_, rfl⟩
  obtain ⟨f, hf⟩ : ∃ f, bk (pval L z) N = f := ⟨_, rfl⟩
  have HSm := Lib.hid (show ∀ (a b : Nat) (X : World), a < n → b < n → Li 3 encP X (fun _ => True) A L → Calls Try.prog 26 #[.slice A L.length c, .int .i64 z, .int .i64 (N : Nat), .int .i64 (a : Nat), .int .i64 (b : Nat)] X (fun e w' => e = .returned (.bool (decide (f a = f b))) ∧ Below X.heap.size X w') from fun a b X ha hb hX => by
    have := same_any A c L z n a b X hX hn hn2 ha hb
    rw [hN, hf] at this
    exact this)
  rw [hN, hf]
  clear hL hf
  go_enter Try.func17, Try.ntmps17
  go_wp2
  go_loopw [7, 8] (fun u v wr => ∃ a : Nat, a ≤ n ∧ v = .int .i64 a ∧ u = .int .i64 ((once f a).length : Nat) ∧ Hid (Li 3 encP wr (fun _ => True) A L ∧ Below W.heap.size W wr)) (fun _ v _ => n - (intOf v).toNat)
  case atStart => exact ⟨0, Nat.zero_le _, rfl, rfl, H0⟩
  case round =>
    obtain ⟨a, ha, rfl, rfl, HW⟩ := hrel
    have a1 : IntKind.i64.wrap (128 * ((a : Nat) : Int)) = 128 * ((a : Nat) : Int) := IntWalk.i64_in _ (by omega)
    have a2 : IntKind.i64.wrap (128 * ((a : Nat) : Int) + 128) = 128 * ((a : Nat) : Int) + 128 := IntWalk.i64_in _ (by omega)
    have hol := once_le f a
    by_cases hlt : a < n
    · have d1 : decide (128 * ((a : Nat) : Int) + 128 ≤ ((N : Nat) : Int)) = true := decide_eq_true (by omega)
      go_wp2_with fail
      go_loopw [9, 10] (fun u v wr => ∃ b : Nat, b ≤ a ∧ v = .int .i64 b ∧ u = .bool (decide (f a ∉ once f b)) ∧ Hid (Li 3 encP wr (fun _ => True) A L ∧ Below W.heap.size W wr)) (fun _ v _ => a - (intOf v).toNat)
      case atStart => exact ⟨0, Nat.zero_le _, rfl, by simp [once], HW⟩
      case round =>
        clear HW
        obtain ⟨b, hb, rfl, rfl, HW⟩ := hrel
        by_cases hlt2 : b < a
        · have d2 : decide (((b : Nat) : Int) < ((a : Nat) : Int)) = true := decide_eq_true (by omega)
          have C := Lib.hid (HSm.out a b wr hlt (by omega) HW.out.1)
          go_wp2_with fail
          (with_reducible refine C.out.mono ?_)
          rintro e w1 ⟨rfl, h1⟩
          have HW1 := Lib.hid (And.intro (HW.out.1.later h1) (HW.out.2.trans (h1.mono HW.out.2.size)))
          clear h1 C HW
          have hm : f a ∈ once f (b + 1) ↔ f a ∈ once f b ∨ f a = f b := by
            rw [once_mem, once_mem]
            constructor
            · rintro ⟨j, hj, e⟩
              rcases Nat.lt_or_ge j b with h' | h'
              · exact .inl ⟨j, h', e⟩
              · obtain rfl : j = b := by omega
                exact .inr e.symm
            · rintro (⟨j, hj, e⟩ | e)
              · exact ⟨j, by omega, e⟩
              · exact ⟨b, by omega, e.symm⟩
          by_cases heq : f a = f b
          · have HN := Lib.hid (show Value.bool false = .bool (decide (f a ∉ once f (b + 1))) by rw [decide_eq_false (fun h => h (hm.2 (.inr heq)))])
            have d3 : decide (f a = f b) = true := decide_eq_true heq
            clear hm heq
            go_wp2
            go_roundw
            case rel => exact ⟨b + 1, by omega, by go_num, HN.out, HW1⟩
            case measure => simp [intOf]; omega
          · have HN := Lib.hid (show Value.bool (decide (f a ∉ once f b)) = .bool (decide (f a ∉ once f (b + 1))) by
              have : f a ∉ once f b ↔ f a ∉ once f (b + 1) := by rw [hm]; exact ⟨fun h h' => h'.elim h heq, fun h h' => h (.inl h')⟩
              simp only [this])
            have d3 : decide (f a = f b) = false := decide_eq_false heq
            clear hm heq
            go_wp2
            go_roundw
            case rel => exact ⟨b + 1, by omega, by go_num, by first | exact HN.out | (rw [← decide_not]; exact HN.out) | simpa using HN.out, HW1⟩
            case measure => simp [intOf]; omega
        · obtain rfl : b = a := by omega
          have d2 : decide (((b : Nat) : Int) < ((b : Nat) : Int)) = false := decide_eq_false (by omega)
          by_cases hmem : f b ∈ once f b
          · have HO := Lib.hid (show once f (b + 1) = once f b from if_pos hmem)
            have d3 : decide (f b ∉ once f b) = false := decide_eq_false (fun h => h hmem)
            rw [d3]
            clear hmem
            go_wp2
            go_roundw
            case rel => exact ⟨b + 1, by omega, by go_num, by rw [HO.out], HW⟩
            case measure => simp [intOf]; omega
          · have HO := Lib.hid (show once f (b + 1) = once f b ++ [f b] from if_neg hmem)
            have d3 : decide (f b ∉ once f b) = true := decide_eq_true hmem
            have v9 : IntKind.i64.wrap (((once f b).length : Nat) + 1 : Int) = ((once f b).length : Nat) + 1 := IntWalk.i64_in _ (by omega)
            rw [d3]
            clear hmem
            go_wp2
            go_roundw
            case rel => exact ⟨b + 1, by omega, by go_num, by rw [HO.out, List.length_append]; rfl, HW⟩
            case measure => simp [intOf]; omega
    · obtain rfl : a = n := by omega
      have d1 : decide (128 * ((a : Nat) : Int) + 128 ≤ ((N : Nat) : Int)) = false := decide_eq_false (by omega)
      go_wp2
      go_ret
      exact ⟨rfl, HW.out.2⟩

set_option maxHeartbeats 8000000 in
set_option maxRecDepth 100000 in
theorem walk_TrieBlocks (W : World) (a0 : Int) (w0 : (Lit.int .i64 a0).wf = true) (a1 : Int) (w1 : (Lit.int .i64 a1).wf = true) (A : Option Addr) (L : List (Pc Int)) (c : Nat) (I : PcIn W A c L) :
    Calls Try.prog 5 #[.int .i64 a0, .int .i64 a1, .slice A L.length c] W (YesG W) := by
  obtain ⟨n, hn, hbits⟩ : ∃ r : Nat, r ≤ 7 ∧ bits .and .i64 a0 7 = (r : Int) := andMask a0 7 (by omega)
  obtain ⟨I2, hl⟩ := I.few
  have C := Lib.hid (few_any A L.length c I.le W)
  rw [← hl] at C
  obtain ⟨L2, hL2⟩ : ∃ L2, L.take 30 = L2 := ⟨_, rfl⟩
  rw [hL2] at C I2
  have hlen : L2.length ≤ 30 := by rw [← hL2, List.length_take]; omega
  have HI := Lib.hid I2
  have HZ := Lib.hid w1
  have hcast : ((128 * n : Nat) : Int) = 128 * ((n : Nat) : Int) := by omega
  have v1 : IntKind.i64.wrap (128 * ((n : Nat) : Int)) = 128 * ((n : Nat) : Int) := IntWalk.i64_in _ (by omega)
  clear I I2 hl hL2 w0 w1
  go_enter Try.func5, Try.ntmps5
  go_wp2_with fail
  (with_reducible refine C.out.mono ?_)
  rintro e W1 ⟨rfl, hb⟩
  have H1 := Lib.hid hb
  have HI1 := Lib.hid (show PcIn W1 A c L2 from ⟨HI.out.li.later hb, HI.out.le, HI.out.mx, HI.out.ok⟩)
  clear hb C HI
  have C := Lib.hid (sees_made (m := 128 * n) HI1.out (by omega) (by omega) HZ.out)
  rw [hcast] at C
  go_wp2_with fail
  (with_reducible refine C.out.mono ?_)
  rintro e W2 ⟨v, rfl, hS, hv, hb⟩
  have HS := Lib.hid hS
  have H2 := Lib.hid (below_next H1.out hb)
  have HI2 := Lib.hid (show PcIn W2 A c L2 from ⟨HI1.out.li.later hb, HI1.out.le, HI1.out.mx, HI1.out.ok⟩)
  have C := Lib.hid (sees_blocks hS hv)
  clear hb hS HI1 H1 hv
  go_wp2_with fail
  (with_reducible refine C.out.mono ?_)
  rintro e W3 ⟨rfl, hb⟩
  have H3 := Lib.hid (below_next H2.out hb)
  have HI3 := Lib.hid (show PcIn W3 A c L2 from ⟨HI2.out.li.later hb, HI2.out.le, HI2.out.mx, HI2.out.ok⟩)
  clear hb C HI2 H2
  have C := Lib.hid (refblocks_any A c L2 a1 n W3 HI3.out.li (by omega) hn)
  rw [hcast] at C
  go_wp2_with fail
  (with_reducible refine C.out.mono ?_)
  rintro e W4 ⟨rfl, hb⟩
  have H4 := Lib.hid (below_next H3.out hb)
  clear hb C HI3 H3
  have C := Lib.hid (awake_yes W4)
  go_wp2_with fail
  (with_reducible refine C.out.mono ?_)
  rintro e W5 ⟨rfl, hb⟩
  have H5 := Lib.hid (below_next H4.out hb)
  clear hb C H4
  go_wp2
  go_ret
  exact ⟨rfl, H5.out⟩
end Go.Proofs.Ytpbdamjpjpchiaa

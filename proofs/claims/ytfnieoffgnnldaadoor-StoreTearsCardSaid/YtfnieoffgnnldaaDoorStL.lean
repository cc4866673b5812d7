/- store: the document's line. -/
import Derived.Test.YtfnieoffgnnldaaDoorStK
import Derived.Test.YtfnieoffgnnldaaDoorSuV
namespace Go.Proofs.YtfnieoffgnnldaaDoor
open Go.RowKit
set_option linter.unusedVariables false
set_option linter.unusedSimpArgs false

theorem unesB_bad {b : Int} (h : b = 92) (out : List Int) {c : Int} (h1 : c ≠ 110) (h2 : c ≠ 92) (t : List Int) : unesB out (b :: c :: t) = none := by
  show (if b = 92 then (if c = 110 then _ else if c = 92 then _ else none) else _) = _
  rw [if_pos h, if_neg h1, if_neg h2]
theorem unesB_two {b : Int} (h : b = 92) (out : List Int) {c : Int} (h1 : c = 110 ∨ c = 92) (t : List Int) : unesB out (b :: c :: t) = unesB (out ++ [if c = 110 then 10 else 92]) t := by
  show (if b = 92 then (if c = 110 then unesB (out ++ [10]) t else if c = 92 then unesB (out ++ [92]) t else none) else _) = _
  rw [if_pos h]
  rcases h1 with rfl | rfl
  · rw [if_pos rfl, if_pos rfl]
  · rw [if_neg (by decide), if_pos rfl, if_neg (by decide)]
theorem drop_at {l : List Int} {k : Nat} (h : k < l.length) : l.drop k = l.getD k 0 :: l.drop (k + 1) := by
  rw [List.drop_eq_getElem_cons h]
  simp [List.getD, h]
theorem cat_one (s T : ByteArray) {k : Nat} (hk : k < s.size) (out : List Int) (hT : T = strOfNums out) : T ++ s.extract k (k + 1) = strOfNums (out ++ [((s[k]'hk).toNat : Int)]) := by
  rw [hT, ← str_append]
  congr 1
  apply bts_inj
  rw [bts_part, bts_str _ (fun b hb => by
    obtain rfl := List.mem_singleton.1 hb
    have := (s[k]'hk).toNat_lt
    omega)]
  unfold part
  rw [drop_at (by rw [bts_length]; exact hk), bts_at s hk]
  simp
theorem below_next' {w w1 w2 : World} (h1 : Below w.heap.size w w1) (h2 : Below w1.heap.size w1 w2) : Below w.heap.size w w2 := h1.trans (h2.mono h1.size)
theorem entI_rng (l : List Int) : ∀ b ∈ entI l, 0 ≤ b ∧ b ≤ 255 := by
  intro b hb
  unfold entI at hb
  simp only [List.mem_append, List.mem_singleton] at hb
  rcases hb with ((h | rfl) | h) | rfl
  · exact hx2_range _ (chk_range _) b h
  · omega
  · exact txtI_range l b h
  · omega
theorem bts_cat (s : ByteArray) : bts (s ++ ⟨#[10]⟩) = bts s ++ [10] := by
  unfold bts
  rw [show (s ++ ⟨#[10]⟩ : ByteArray).data = s.data ++ #[10] from ByteArray.data_append .., Array.toList_append, List.map_append]
  rfl
set_option maxRecDepth 100000 in
set_option maxHeartbeats 8000000 in
theorem rline_any (s : ByteArray) (hs : s.size ≤ 10000) (w : World) : Calls Tryd.prog 33 #[.string s] w fun e w' => LnOut w w' (linP (bts s)) e := by
  rw [← lin_eq]
  have hbl : (bts s).length = s.size := bts_length s
  obtain ⟨R, hR⟩ : ∃ R, rlinP (bts s) = R := ⟨_, rfl⟩
  rw [hR]
  unfold rlinP at hR
  rw [hbl] at hR
  by_cases h3 : s.size < 3
  · rw [if_pos (.inl h3)] at hR
    subst hR
    have d3 : (s.size : Int) < 3 := by omega
    clear hbl
    go_enter Tryd.func33, Tryd.ntmps33
    go_wp2_with fail
    go_ret2
    exact LnOut.no rfl (Below.refl _ _)
  · have d3 : ¬ (s.size : Int) < 3 := by omega
    have h2 : 2 < s.size := by omega
    have d4 : (2 : Int) < (s.size : Int) := by omega
    rw [bts_at s h2] at hR
    by_cases h32 : ((s[2]'h2).toNat : Int) = 32
    · rw [if_neg (by rintro (h | h); exact h3 h; exact h h32)] at hR
      have d2 : (((s[2]'h2).toNat : Int) != 32) = false := by simpa using h32
      obtain ⟨U, hU⟩ : ∃ U, unesB [] ((bts s).drop 3) = U := ⟨_, rfl⟩
      rw [hU] at hR
      have HU := Lib.hid hU
      have HR := Lib.hid hR
      clear hU hR h32 d3
      go_enter Tryd.func33, Tryd.ntmps33
      go_wp2_with fail
      clear d2
      go_loopw [4, 5] (fun tv i wr => ∃ (k : Nat) (T : ByteArray), 3 ≤ k ∧ k ≤ s.size ∧ i = .int .i64 (k : Nat) ∧ tv = .string T ∧ T.size ≤ k ∧ Hid (∃ out, T = strOfNums out ∧ (∀ b ∈ out, 0 ≤ b ∧ b ≤ 255) ∧ unesB out ((bts s).drop k) = U) ∧ w = wr) (fun _ i _ => s.size - (intOf i).toNat)
      case atStart => exact ⟨3, ⟨#[]⟩, Nat.le_refl _, by omega, rfl, rfl, Nat.zero_le _, Lib.hid ⟨[], rfl, (fun b hb => by cases hb), HU.out⟩, rfl⟩
      case round =>
        obtain ⟨k, T, hk3, hk, rfl, rfl, hT, HI, rfl⟩ := hrel
        by_cases hlt : k < s.size
        · have hki : (k : Int) < (s.size : Int) := by omega
          have hk0 : (0 : Int) ≤ (k : Int) := by omega
          have hd := drop_at (l := bts s) (k := k) (by rw [bts_length]; exact hlt)
          rw [bts_at s hlt] at hd
          by_cases h92 : ((s[k]'hlt).toNat : Int) = 92
          · have d9 : (((s[k]'hlt).toNat : Int) != 92) = false := by simpa using h92
            have v1 : IntKind.i64.wrap ((k : Int) + 1) = (k : Int) + 1 := IntWalk.i64_in _ (by omega)
            by_cases hl2 : k + 1 < s.size
            · have d10 : (k : Int) + 1 < (s.size : Int) := by omega
              have e1 : ((k : Int) + 1).toNat = k + 1 := by omega
              have d11 : (0 : Int) ≤ (k : Int) + 1 := by omega
              have hd2 := drop_at (l := bts s) (k := k + 1) (by rw [bts_length]; exact hl2)
              rw [bts_at s hl2] at hd2
              rw [hd2] at hd
              have HD := Lib.hid hd
              have v2 : IntKind.i64.wrap ((k : Int) + 1 + 1) = (k : Int) + 1 + 1 := IntWalk.i64_in _ (by omega)
              by_cases hn : ((s[k + 1]'hl2).toNat : Int) = 110
              · have d12 : (((s[k + 1]'hl2).toNat : Int) == 110) = true := by simpa using hn
                have q0 := fun w => run_cat w T ⟨#[10]⟩ (by have : (⟨#[10]⟩ : ByteArray).size = 1 := rfl; omega)
                have HF := Lib.hid (And.intro h92 hn)
                clear hd hd2 h92 hn
                go_wp2_with fail
                go_roundw
                case rel =>
                  obtain ⟨out, i1, i2, i3⟩ := HI.out
                  refine ⟨k + 2, T ++ ⟨#[10]⟩, by omega, by omega, by go_num, rfl, by rw [size_cat]; have : (⟨#[10]⟩ : ByteArray).size = 1 := rfl; omega, Lib.hid ⟨out ++ [10], by rw [i1, ← str_append]; rfl, ?_, ?_⟩, by first | rfl | trivial⟩
                  · intro b hb
                    rcases List.mem_append.1 hb with h | h
                    · exact i2 b h
                    · obtain rfl := List.mem_singleton.1 h; omega
                  · rw [HD.out, unesB_two HF.out.1 _ (.inl HF.out.2), if_pos HF.out.2] at i3
                    exact i3
                case measure => simp [intOf]; omega
              · have d12 : (((s[k + 1]'hl2).toNat : Int) == 110) = false := by rw [beq_eq_false_iff_ne]; exact hn
                by_cases hc : ((s[k + 1]'hl2).toNat : Int) = 92
                · have d13 : (((s[k + 1]'hl2).toNat : Int) == 92) = true := by simpa using hc
                  have q0 := fun w => run_cat w T ⟨#[92]⟩ (by have : (⟨#[92]⟩ : ByteArray).size = 1 := rfl; omega)
                  have HF := Lib.hid (And.intro h92 (And.intro hn hc))
                  clear hd hd2 h92 hn hc
                  go_wp2_with fail
                  go_roundw
                  case rel =>
                    obtain ⟨out, i1, i2, i3⟩ := HI.out
                    refine ⟨k + 2, T ++ ⟨#[92]⟩, by omega, by omega, by go_num, rfl, by rw [size_cat]; have : (⟨#[92]⟩ : ByteArray).size = 1 := rfl; omega, Lib.hid ⟨out ++ [92], by rw [i1, ← str_append]; rfl, ?_, ?_⟩, by first | rfl | trivial⟩
                    · intro b hb
                      rcases List.mem_append.1 hb with h | h
                      · exact i2 b h
                      · obtain rfl := List.mem_singleton.1 h; omega
                    · rw [HD.out, unesB_two HF.out.1 _ (.inr HF.out.2.2), if_neg HF.out.2.1] at i3
                      exact i3
                  case measure => simp [intOf]; omega
                · have d13 : (((s[k + 1]'hl2).toNat : Int) == 92) = false := by rw [beq_eq_false_iff_ne]; exact hc
                  have HF := Lib.hid (And.intro h92 (And.intro hn hc))
                  clear hd hd2 h92 hn hc
                  go_wp2_with fail
                  go_ret2
                  refine LnOut.no ?_ (Below.refl _ _)
                  obtain ⟨out, i1, i2, i3⟩ := HI.out
                  rw [HD.out, unesB_bad HF.out.1 _ HF.out.2.1 HF.out.2.2] at i3
                  rw [← HR.out, ← i3]
            · have d10 : ¬ (k : Int) + 1 < (s.size : Int) := by omega
              have hd3 : (bts s).drop (k + 1) = [] := List.drop_eq_nil_of_le (by rw [bts_length]; omega)
              rw [hd3] at hd
              have HF := Lib.hid (And.intro hd h92)
              clear hd hd3 h92
              go_wp2_with fail
              go_ret2
              refine LnOut.no ?_ (Below.refl _ _)
              obtain ⟨out, i1, i2, i3⟩ := HI.out
              rw [HF.out.1] at i3
              have i4 : (if ((s[k]'hlt).toNat : Int) = 92 then none else some (out ++ [((s[k]'hlt).toNat : Int)])) = U := i3
              rw [if_pos HF.out.2] at i4
              rw [← HR.out, ← i4]
          · have d9 : (((s[k]'hlt).toNat : Int) != 92) = true := by simpa using h92
            have v1 : IntKind.i64.wrap ((k : Int) + 1) = (k : Int) + 1 := IntWalk.i64_in _ (by omega)
            have e1 : ((k : Int) + 1).toNat = k + 1 := by omega
            have g1 : (k : Int) ≤ (k : Int) + 1 := by omega
            have g2 : (k : Int) + 1 ≤ (s.size : Int) := by omega
            have hz1 : (s.extract k (k + 1)).size = 1 := by rw [ByteArray.size_extract]; omega
            have q0 := fun w => run_cat w T (s.extract k (k + 1)) (by omega)
            have HF := Lib.hid (And.intro hd (And.intro h92 hz1))
            clear hd h92 hz1
            go_wp2_with fail
            go_roundw
            case rel =>
              obtain ⟨out, i1, i2, i3⟩ := HI.out
              refine ⟨k + 1, _, by omega, by omega, by go_num, rfl, by rw [size_cat]; have := HF.out.2.2; omega, Lib.hid ⟨out ++ [((s[k]'hlt).toNat : Int)], cat_one s T hlt out i1, ?_, ?_⟩, by first | rfl | trivial⟩
              · intro b hb
                rcases List.mem_append.1 hb with h | h
                · exact i2 b h
                · obtain rfl := List.mem_singleton.1 h
                  have := (s[k]'hlt).toNat_lt
                  omega
              · rw [HF.out.1, unesB_one _ HF.out.2.1] at i3
                exact i3
            case measure => simp [intOf]; omega
        · obtain rfl : k = s.size := by omega
          obtain ⟨out, i1, i2, i3⟩ := HI.out
          rw [List.drop_eq_nil_of_le (by rw [bts_length]; exact Nat.le_refl _)] at i3
          have i4 : some out = U := i3
          have hR := HR.out
          rw [← i4] at hR
          have hR2 : (if entI (decD out) = bts s ++ [10] then some (decD out) else none) = R := hR
          have hbT : bts T = out := by rw [i1]; exact bts_str _ i2
          have C1 := Lib.hid (refdec_any T w (by omega))
          have HG := Lib.hid (dec_rng T)
          have hdl := dec_len T
          rw [hbT] at C1 HG hdl
          have hT9 : T.size ≤ 10000 := by omega
          clear HI HR HU i1 i2 i3 i4 hR hbT
          obtain ⟨D, hD⟩ : ∃ D, decD out = D := ⟨_, rfl⟩
          rw [hD] at C1 HG hR2 hdl
          have HN := Lib.hid hR2
          have hdl2 : D.length ≤ 30000 := by omega
          clear hD hR2 hdl hT
          go_wp2_with fail
          refine C1.out.mono ?_
          rintro e w1 ⟨A, c, rfl, hrd, hown, b1⟩
          have H1 := Lib.hid (And.intro hown b1)
          have C2 := Lib.hid (rentry_any A D.length c (fun j => D.getD j 0) w1 (by omega) hrd HG.out)
          rw [upTo_all] at C2
          have het : (entI D).length ≤ 600000 := by have := entI_len D; have := txtI_len D; omega
          have hcmp := str_strOf (entI D) (fun b hb => entI_rng D b hb) (s ++ ⟨#[10]⟩)
          rw [show bts (s ++ ⟨#[10]⟩) = bts s ++ [10] from bts_cat s] at hcmp
          obtain ⟨E, hE⟩ : ∃ E, strOfNums (entI D) = E := ⟨_, rfl⟩
          unfold TellsS at C2
          rw [hE] at C2 hcmp
          have q0 := fun w => run_cat w s ⟨#[10]⟩ (by have : (⟨#[10]⟩ : ByteArray).size = 1 := rfl; omega)
          clear hrd hown b1 C1 hE het
          by_cases hx : entI D = bts s ++ [10]
          · rw [decide_eq_true hx] at hcmp
            have HO := Lib.hid (show some D = R by rw [← HN.out, if_pos hx])
            clear hx HN
            go_wp2_with fail
            refine C2.out.mono ?_
            rintro e w2 ⟨rfl, b2⟩
            have H2 := Lib.hid b2
            clear b2 C2
            go_wp2_with fail
            go_ret2
            refine ⟨.inl ⟨D, A, c, HO.out.symm, rfl, own_later H1.out.1 H2.out, fun x hx => ?_⟩, below_next' H1.out.2 H2.out⟩
            obtain ⟨j, hj, rfl⟩ := List.mem_iff_getElem.1 hx
            have := HG.out j hj
            simpa [List.getD, hj] using this
          · rw [decide_eq_false hx] at hcmp
            have HO := Lib.hid (show none = R by rw [← HN.out, if_neg hx])
            clear hx HN
            go_wp2_with fail
            refine C2.out.mono ?_
            rintro e w2 ⟨rfl, b2⟩
            have H2 := Lib.hid b2
            clear b2 C2
            go_wp2_with fail
            go_ret2
            exact LnOut.no HO.out.symm (below_next' H1.out.2 H2.out)
    · have d2 : (((s[2]'h2).toNat : Int) != 32) = true := by simpa using h32
      rw [if_pos (.inr h32)] at hR
      subst hR
      clear hbl h32
      go_enter Tryd.func33, Tryd.ntmps33
      go_wp2_with fail
      go_ret2
      exact LnOut.no rfl (Below.refl _ _)
end Go.Proofs.YtfnieoffgnnldaaDoor

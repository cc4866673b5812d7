/- store: lineOf. -/
import Derived.Test.YtfnieoffgnnldaaDoorStE
import Derived.Test.YtfnieoffgnnldaaDoorSuG
import Derived.Test.YtfnieoffgnnldaaDoorCat
import Derived.Deep.RegionHeld3
namespace Go.Proofs.YtfnieoffgnnldaaDoor
open Go.RowKit
set_option linter.unusedVariables false
set_option linter.unusedSimpArgs false

theorem whole_rng (s : DS) (b : Int) (h : s.Ok) (h0 : ¬ s.n = 0) : 0 ≤ wholeD s b ∧ wholeD s b < 8388608 := by
  have hr : 2 ≤ rowN s.h0 := by
    rcases h.2 with h | h | h | h <;> omega
  obtain ⟨r0, r1, _⟩ := row_bits s.h0 hr
  unfold wholeD
  split
  · omega
  · split <;> omega

theorem step_rng (s : DS) (b : Int) (h : s.Ok) (b0 : 0 ≤ b) (b1 : b ≤ 255) : ∀ x ∈ (stepD s b).2, 0 ≤ x ∧ x < 8388608 := by
  have hb : ∀ x ∈ (beginD b).2, 0 ≤ x ∧ x < 8388608 := by
    unfold beginD
    split
    · simp
    · split
      · simp; omega
      · simp
  unfold stepD
  split
  · exact hb
  · split
    · split
      · have := whole_rng s b h ‹_›
        simp; omega
      · split <;> simp
    · intro x hx
      simp only [List.mem_cons] at hx
      rcases hx with rfl | hx
      · omega
      · exact hb x hx

theorem decF_rng : ∀ (l : List Int) (s : DS), s.Ok → (∀ b ∈ l, 0 ≤ b ∧ b ≤ 255) → ∀ x ∈ decF s l, 0 ≤ x ∧ x < 8388608
  | [], s, _, _, x, hx => by
    simp only [decF, endD] at hx
    split at hx
    · simp at hx
    · simp at hx; omega
  | b :: l, s, hs, hb, x, hx => by
    simp only [decF, List.mem_append] at hx
    rcases hx with hx | hx
    · exact step_rng s b hs (hb b (by simp)).1 (hb b (by simp)).2 x hx
    · exact decF_rng l _ (stepD_ok s b hs (hb b (by simp)).1 (hb b (by simp)).2) (fun c hc => hb c (by simp [hc])) x hx

theorem dec_rng (s : ByteArray) (j : Nat) (hj : j < (decD (bts s)).length) : -2147483648 ≤ (decD (bts s)).getD j 0 ∧ (decD (bts s)).getD j 0 ≤ 2147483647 := by
  have h := decF_rng (bts s) DS.zero zero_ok (bts_range s) ((decD (bts s)).getD j 0) (by
    rw [← decD_is]
    rw [show (decD (bts s)).getD j 0 = (decD (bts s))[j] by simp [List.getD, List.getElem?_eq_getElem hj]]
    exact List.getElem_mem hj)
  omega

theorem upTo_all (l : List Int) : upTo (fun j => l.getD j 0) l.length = l := by
  apply List.ext_getElem
  · simp [upTo]
  · intro i h1 h2
    simp [upTo, List.getD, h2]

theorem dec_len (s : ByteArray) : (decD (bts s)).length ≤ 2 * s.size + 1 := by
  have h := runD_len (bts s)
  rw [bts_length] at h
  simp only [decD, List.length_append, endD]
  split <;> simp <;> omega

/-- Scalars in which what is written by two is put back. -/
def unesc : Bool → List Int → List Int → Option (List Int × Bool)
  | esc, out, [] => some (out, esc)
  | true, out, r :: t => if r = 110 then unesc false (out ++ [10]) t else if r = 92 then unesc false (out ++ [92]) t else none
  | false, out, r :: t => if r = 92 then unesc true out t else unesc false (out ++ [r]) t
/-- The line that an entry is of. -/
def linP (bs : List Int) : Option (List Int) :=
  if bs.length < 3 ∨ bs.getD 2 0 ≠ 32 ∨ hx2 (chkI (bs.drop 3)) ≠ bs.take 2 then none
  else match unesc false [] (decD (bs.drop 3)) with
    | none => none
    | some (l, esc) => if esc = false ∧ txtI l = bs.drop 3 then some l else none
def LnOut (w w' : World) (o : Option (List Int)) (e : Ending) : Prop :=
  ((∃ l A c, o = some l ∧ e = .returned (.tuple #[.slice A l.length c, .bool true]) ∧ w'.ownsRow w.heap.size 21 1 (.slice A l.length c) l.length (l.map (Value.int .i32)) ∧ (∀ x ∈ l, -2147483648 ≤ x ∧ x ≤ 2147483647)) ∨ (o = none ∧ ∃ A n c, e = .returned (.tuple #[.slice A n c, .bool false]))) ∧ Below w.heap.size w w'
theorem bts_ext (s : ByteArray) (a : Nat) (h : a ≤ s.size) : bts (s.extract a s.size) = (bts s).drop a := by
  unfold bts
  rw [ByteArray.data_extract, Array.toList_extract, List.map_take, List.map_drop, List.take_of_length_le]
  simp
theorem bts_first (s : ByteArray) (a : Nat) (h : a ≤ s.size) : bts (s.extract 0 a) = (bts s).take a := by
  unfold bts
  rw [ByteArray.data_extract, Array.toList_extract, List.map_take, List.map_drop, List.drop_zero, Nat.sub_zero]
theorem bts_at (s : ByteArray) {k : Nat} (h : k < s.size) : (bts s).getD k 0 = ((s[k]'h).toNat : Int) := by
  unfold bts
  have h2 : k < s.data.toList.length := by rw [Array.length_toList]; exact h
  simp only [List.getD, List.getElem?_map, List.getElem?_eq_getElem h2, Option.map_some, Option.getD_some]
  rfl
theorem bts_inj {a b : ByteArray} (h : bts a = bts b) : a = b := by
  have := congrArg strOfNums h
  rwa [str_bts, str_bts] at this
theorem str_same (a b : ByteArray) : (a.toList == b.toList) = decide (bts a = bts b) := by
  by_cases h : bts a = bts b
  · rw [decide_eq_true h, bts_inj h]; simp
  · rw [decide_eq_false h, beq_eq_false_iff_ne]
    intro e
    apply h
    rw [ByteArray.toList_eq, ByteArray.toList_eq] at e
    unfold bts
    rw [e]
theorem unesc_step {D : List Int} {k : Nat} {r : Int} (h : D[k]? = some r) (esc : Bool) (out : List Int) : unesc esc out (D.drop k) = if esc = true then (if r = 110 then unesc false (out ++ [10]) (D.drop (k + 1)) else if r = 92 then unesc false (out ++ [92]) (D.drop (k + 1)) else none) else if r = 92 then unesc true out (D.drop (k + 1)) else unesc false (out ++ [r]) (D.drop (k + 1)) := by
  obtain ⟨hk, e⟩ := List.getElem?_eq_some_iff.1 h
  rw [List.drop_eq_getElem_cons hk, e]
  cases esc <;> rfl
theorem LnOut.no {w w' : World} {o : Option (List Int)} {A : Option Addr} {n c : Nat} (ho : o = none) (hb : Below w.heap.size w w') : LnOut w w' o (.returned (.tuple #[.slice A n c, .bool false])) := ⟨.inr ⟨ho, A, n, c, rfl⟩, hb⟩
theorem hx2_range (n : Int) (h : 0 ≤ n ∧ n < 256) : ∀ b ∈ hx2 n, 0 ≤ b ∧ b ≤ 255 := by
  intro b hb
  unfold hx2 at hb
  simp only [List.mem_cons, List.not_mem_nil, or_false] at hb
  rcases hb with rfl | rfl
  · exact digI_range (by omega) (by omega)
  · exact digI_range (by omega) (by omega)
theorem own_base {w : World} {b0 base : Nat} {e : TypeId} {size n : Nat} {v : Value} {xs : List Value} (h : w.ownsRow base e size v n xs) (hb : b0 ≤ base) : w.ownsRow b0 e size v n xs := by
  refine ⟨h.1, ?_⟩
  rcases h.2 with h2 | ⟨g, cap, cur, hv, hg, rest⟩
  · exact .inl h2
  · exact .inr ⟨g, cap, cur, hv, Nat.le_trans hb hg, rest⟩
theorem str_strOf (l : List Int) (hl : ∀ b ∈ l, 0 ≤ b ∧ b ≤ 255) (b : ByteArray) : ((strOfNums l).toList == b.toList) = decide (l = bts b) := by
  rw [str_same, nums_bts l hl]
set_option maxRecDepth 100000 in
set_option maxHeartbeats 8000000 in
theorem lineOf_any (s : ByteArray) (hs : s.size ≤ 10000) (w : World) (hM : MaxW w) : Calls Tryd.prog 46 #[.string s] w fun e w' => LnOut w w' (linP (bts s)) e := by
  have hbl : (bts s).length = s.size := bts_length s
  obtain ⟨R, hR⟩ : ∃ R, linP (bts s) = R := ⟨_, rfl⟩
  rw [hR]
  unfold linP at hR
  rw [hbl] at hR
  by_cases h3 : s.size < 3
  · rw [if_pos (.inl h3)] at hR
    subst hR
    have d3 : (s.size : Int) < 3 := by omega
    clear hM hbl
    go_enter Tryd.func46, Tryd.ntmps46
    go_wp2_with fail
    go_quiet (fail)
    go_wp2_with fail
    go_ret2
    exact LnOut.no rfl (below_drewN (Below.refl _ _) _)
  · have d3 : ¬ (s.size : Int) < 3 := by omega
    have h2 : 2 < s.size := by omega
    rw [bts_at s h2] at hR
    by_cases h32 : ((s[2]'h2).toNat : Int) = 32
    · by_cases hck : hx2 (chkI ((bts s).drop 3)) = (bts s).take 2
      · rw [if_neg (by simp [h3, h32, hck])] at hR
        have C1 := Lib.hid (fun X => check_any (s.extract 3 s.size) (by rw [ByteArray.size_extract]; omega) X)
        rw [bts_ext s 3 (by omega)] at C1
        have e9 := str_strOf (hx2 (chkI ((bts s).drop 3))) (hx2_range _ (chk_range _)) (s.extract 0 2)
        rw [bts_first s 2 (by omega)] at e9
        obtain ⟨K, hK⟩ : ∃ K, strOfNums (hx2 (chkI ((bts s).drop 3))) = K := ⟨_, rfl⟩
        rw [hK] at C1 e9
        rw [decide_eq_true hck] at e9
        have d2 : (((s[2]'h2).toNat : Int) != 32) = false := by simpa using h32
        have d4 : (2 : Int) < (s.size : Int) := by omega
        have d5 : (3 : Int) ≤ (s.size : Int) := by omega
        have d6 : (2 : Int) ≤ (s.size : Int) := by omega
        have d7 : decide ((s.size : Int) < 3) = false := decide_eq_false (by omega)
        have d8 : decide (s.size < 3) = false := decide_eq_false (by omega)
        have hK0 := Lib.hid (Below.refl w.heap.size w)
        clear d3
        clear hK hck h32 hbl
        go_enter Tryd.func46, Tryd.ntmps46
        go_wp2_with fail
        go_region_held3 (fun X => True) (trivial)
          (first | (go_at_call 29; refine (C1.out _).mono ?_; rintro e w3 ⟨rfl, b3⟩; have hB3 : Below w.heap.size w w3 := (by first | exact hK0.out.trans b3 | exact (hK0.out.drew).trans (b3.mono (hK0.out.drew).size)); clear b3))
        have HB := Lib.hid hB3
        clear hB3 C1
        have hT : bts (s.extract 3 s.size) = (bts s).drop 3 := bts_ext s 3 (by omega)
        have hts : (s.extract 3 s.size).size ≤ 10000 := by rw [ByteArray.size_extract]; omega
        obtain ⟨T, hTT⟩ : ∃ T, s.extract 3 s.size = T := ⟨_, rfl⟩
        rw [hTT] at hT hts
        rw [← hT] at hR
        have C2 := Lib.hid (decode_any T w3 (by omega))
        have hdl := dec_len T
        have HDR := Lib.hid (dec_rng T)
        obtain ⟨D, hD⟩ : ∃ D, decD (bts T) = D := ⟨_, rfl⟩
        rw [hD] at C2 hdl hR HDR
        obtain ⟨U, hU⟩ : ∃ U, unesc false [] D = U := ⟨_, rfl⟩
        rw [hU] at hR
        have HU := Lib.hid (show unesc false [] (D.drop 0) = U by rw [List.drop_zero]; exact hU)
        have HR := Lib.hid hR
        have HM := Lib.hid (hM.later HB.out)
        obtain ⟨N, hN⟩ : ∃ N, D.length = N := ⟨_, rfl⟩
        rw [hN] at C2 hdl
        have HN := Lib.hid hN
        clear hD hU hR hT hM hN
        go_wp2_with fail
        refine C2.out.mono ?_
        rintro e w4 ⟨A4, c4, rfl, h4, b4⟩
        have H4 := Lib.hid (And.intro h4 (And.intro b4 (HB.out.trans (b4.mono HB.out.size))))
        have hz4 := b4.size
        have hz3 := HB.out.size
        clear h4 b4 C2 hTT
        go_wp2_with fail
        go_loopw [5, 6, 30] (fun lv ev i wr => ∃ (k : Nat) (esc : Bool) (n : Nat) (A : Option Addr) (c : Nat), k ≤ N ∧ i = .int .i64 (k : Nat) ∧ ev = .bool esc ∧ lv = .slice A n c ∧ n ≤ k ∧ Hid (∃ out, unesc esc out (D.drop k) = U ∧ out.length = n ∧ wr.ownsRow w4.heap.size 21 1 (.slice A n c) n (out.map (Value.int .i32)) ∧ Below w4.heap.size w4 wr ∧ ∀ x ∈ out, -2147483648 ≤ x ∧ x ≤ 2147483647)) (fun _ _ i _ => N - (intOf i).toNat)
        case atStart => exact ⟨0, false, 0, none, 0, Nat.zero_le _, rfl, rfl, rfl, Nat.le_refl _, Lib.hid ⟨[], HU.out, rfl, World.ownsRow_nil _ _ _ _, Below.refl _ _, fun x hx => by cases hx⟩⟩
        case round =>
          clear d2 d6 d7 d8 e9
          obtain ⟨k, esc, n, A, c, hk, rfl, rfl, rfl, hnk, HI⟩ := hrel
          obtain ⟨out, i1, i2, i3, i4, i5⟩ := HI.out
          have H1 := Lib.hid (And.intro i1 (And.intro i2 (And.intro i3 (And.intro i4 i5))))
          have hzw := i4.size
          clear HI i1 i2 i3 i4 i5
          by_cases hlt : k < N
          · have hki : (k : Int) < (N : Int) := by omega
            have hk0 : (0 : Int) ≤ (k : Int) := by omega
            have hkD : k < D.length := by rw [HN.out]; exact hlt
            obtain ⟨b, o, rfl, hbl, hc⟩ := (H4.out.1.later H1.out.2.2.2.1) k hlt
            unfold li at hc
            have hg : D[k]? = some (D.getD k 0) := by simp [List.getD, List.getElem?_eq_getElem hkD]
            have hrg := HDR.out k hkD
            obtain ⟨r, hr⟩ : ∃ r, D.getD k 0 = r := ⟨_, rfl⟩
            rw [hr] at hc hg hrg
            have HS := Lib.hid (unesc_step hg esc out)
            clear hg hr hkD
            cases esc with
            | true =>
              by_cases h110 : r = 110
              · subst h110
                have HN2 := Lib.hid (show unesc false (out ++ [10]) (D.drop (k + 1)) = U by rw [← H1.out.1, HS.out]; rfl)
                have HO := Lib.hid H1.out.2.2.1
                go_wp2_with (at_builtin; refine wpList_push eltI HO.out hzw rfl rfl rfl rfl rfl rfl rfl (by unfold maxLen; omega) (by omega) ?_; intro A6 c6 w6 hp; have HQ := Lib.hid (And.intro hp.own (hp.below H1.out.2.2.2.1 H1.out.2.2.1 (Nat.le_refl _))); clear hp)
                go_roundw
                case rel => exact ⟨k + 1, false, n + 1, A6, c6, by omega, by go_num, rfl, rfl, by omega, Lib.hid ⟨out ++ [10], HN2.out, by simp [H1.out.2.1], by rw [List.map_append]; exact HQ.out.1, HQ.out.2, fun x hx => by
                  rcases List.mem_append.1 hx with hx | hx
                  · exact H1.out.2.2.2.2 x hx
                  · obtain rfl := List.mem_singleton.1 hx
                    omega⟩⟩
                case measure => simp [intOf]; omega
              · have d110 : (r == 110) = false := by simpa using h110
                by_cases h92 : r = 92
                · subst h92
                  have HN2 := Lib.hid (show unesc false (out ++ [92]) (D.drop (k + 1)) = U by rw [← H1.out.1, HS.out]; rfl)
                  have HO := Lib.hid H1.out.2.2.1
                  go_wp2_with (at_builtin; refine wpList_push eltI HO.out hzw rfl rfl rfl rfl rfl rfl rfl (by unfold maxLen; omega) (by omega) ?_; intro A6 c6 w6 hp; have HQ := Lib.hid (And.intro hp.own (hp.below H1.out.2.2.2.1 H1.out.2.2.1 (Nat.le_refl _))); clear hp)
                  go_roundw
                  case rel => exact ⟨k + 1, false, n + 1, A6, c6, by omega, by go_num, rfl, rfl, by omega, Lib.hid ⟨out ++ [92], HN2.out, by simp [H1.out.2.1], by rw [List.map_append]; exact HQ.out.1, HQ.out.2, fun x hx => by
                    rcases List.mem_append.1 hx with hx | hx
                    · exact H1.out.2.2.2.2 x hx
                    · obtain rfl := List.mem_singleton.1 hx
                      omega⟩⟩
                  case measure => simp [intOf]; omega
                · have d92 : (r != 92) = true := by simpa using h92
                  obtain rfl : U = none := by rw [← H1.out.1, HS.out, if_pos rfl, if_neg h110, if_neg h92]
                  have HO := Lib.hid (LnOut.no (A := none) (n := 0) (c := 0) HR.out.symm (H4.out.2.2.trans (H1.out.2.2.2.1.mono (Nat.le_trans hz3 hz4))))
                  clear h110 h92 HS
                  go_wp2_with fail
                  go_ret2
                  exact HO.out
            | false =>
              by_cases h92 : r = 92
              · subst h92
                have HN2 := Lib.hid (show unesc true out (D.drop (k + 1)) = U by rw [← H1.out.1, HS.out]; rfl)
                go_wp2_with fail
                go_roundw
                case rel => exact ⟨k + 1, true, n, A, c, by omega, by go_num, rfl, rfl, by omega, Lib.hid ⟨out, HN2.out, H1.out.2⟩⟩
                case measure => simp [intOf]; omega
              · have d92 : (r == 92) = false := by simpa using h92
                have HN2 := Lib.hid (show unesc false (out ++ [r]) (D.drop (k + 1)) = U by rw [← H1.out.1, HS.out, if_neg (by decide), if_neg h92])
                clear h92
                have HO := Lib.hid H1.out.2.2.1
                go_wp2_with (at_builtin; refine wpList_push eltI HO.out hzw rfl rfl rfl rfl rfl rfl rfl (by unfold maxLen; omega) (by omega) ?_; intro A6 c6 w6 hp; have HQ := Lib.hid (And.intro hp.own (hp.below H1.out.2.2.2.1 H1.out.2.2.1 (Nat.le_refl _))); clear hp)
                go_roundw
                case rel => exact ⟨k + 1, false, n + 1, A6, c6, by omega, by go_num, rfl, rfl, by omega, Lib.hid ⟨out ++ [r], HN2.out, by simp [H1.out.2.1], by rw [List.map_append]; exact HQ.out.1, HQ.out.2, fun x hx => by
                  rcases List.mem_append.1 hx with hx | hx
                  · exact H1.out.2.2.2.2 x hx
                  · obtain rfl := List.mem_singleton.1 hx
                    omega⟩⟩
                case measure => simp [intOf]; omega
          · obtain rfl : k = N := by omega
            have hd : decide ((k : Int) < (k : Int)) = false := by simp
            have hU : U = some (out, esc) := by rw [← H1.out.1, List.drop_eq_nil_of_le (by rw [HN.out]; exact Nat.le_refl _)]; cases esc <;> rfl
            subst hU
            have HBB := Lib.hid (H4.out.2.2.trans (H1.out.2.2.2.1.mono (Nat.le_trans hz3 hz4)))
            cases esc with
            | true =>
              have HO := Lib.hid (LnOut.no (o := R) (A := A) (n := n) (c := c) (by rw [← HR.out]; exact if_neg (by simp)) HBB.out)
              go_wp2_with fail
              go_ret2
              exact HO.out
            | false =>
              have hrd : Rd wr A n (iv fun j => out.getD j 0) := rd_own H1.out.2.2.1 (fun j hj => by
                have : j < out.length := by rw [H1.out.2.1]; exact hj
                simp [iv, List.getD, this])
              have C5 := Lib.hid (textOf_any A n c (fun j => out.getD j 0) wr (HM.out.later (H4.out.2.1.trans (H1.out.2.2.2.1.mono hz4))) (by omega) hrd (fun j hj => by
                have hj2 : j < out.length := by rw [H1.out.2.1]; exact hj
                have := H1.out.2.2.2.2 (out[j]) (List.getElem_mem hj2)
                simpa [List.getD, hj2] using this))
              have hup : upTo (fun j => out.getD j 0) n = out := by rw [← H1.out.2.1]; exact upTo_all out
              rw [hup] at C5
              unfold TellsS at C5
              have e8 := str_strOf (txtI out) (txtI_range out) T
              obtain ⟨S5, hS5⟩ : ∃ S, strOfNums (txtI out) = S := ⟨_, rfl⟩
              rw [hS5] at C5 e8
              clear hrd hup hS5
              by_cases hte : txtI out = bts T
              · rw [decide_eq_true hte] at e8
                have HRR := Lib.hid (show R = some out by rw [← HR.out]; exact if_pos ⟨rfl, hte⟩)
                clear hte
                go_wp2_with fail
                refine C5.out.mono ?_
                rintro e w5 ⟨rfl, b5⟩
                have H5 := Lib.hid (And.intro (own_base (own_later H1.out.2.2.1 b5) (Nat.le_trans hz3 hz4)) (HBB.out.trans (b5.mono HBB.out.size)))
                clear b5 C5
                go_wp2_with fail
                go_ret2
                have hn := H1.out.2.1
                subst hn
                exact ⟨.inl ⟨out, A, c, HRR.out, rfl, H5.out.1, H1.out.2.2.2.2⟩, H5.out.2⟩
              · rw [decide_eq_false hte] at e8
                have HRR := Lib.hid (show R = none by rw [← HR.out]; exact if_neg (by simp [hte]))
                clear hte
                go_wp2_with fail
                refine C5.out.mono ?_
                rintro e w5 ⟨rfl, b5⟩
                have H5 := Lib.hid (HBB.out.trans (b5.mono HBB.out.size))
                clear b5 C5
                go_wp2_with fail
                go_ret2
                exact LnOut.no HRR.out H5.out
      · rw [if_pos (.inr (.inr hck))] at hR
        have C1 := Lib.hid (fun X => check_any (s.extract 3 s.size) (by rw [ByteArray.size_extract]; omega) X)
        rw [bts_ext s 3 (by omega)] at C1
        have e9 := str_strOf (hx2 (chkI ((bts s).drop 3))) (hx2_range _ (chk_range _)) (s.extract 0 2)
        rw [bts_first s 2 (by omega)] at e9
        obtain ⟨K, hK⟩ : ∃ K, strOfNums (hx2 (chkI ((bts s).drop 3))) = K := ⟨_, rfl⟩
        rw [hK] at C1 e9
        rw [decide_eq_false hck] at e9
        have d2 : (((s[2]'h2).toNat : Int) != 32) = false := by simpa using h32
        have d4 : (2 : Int) < (s.size : Int) := by omega
        have d5 : (3 : Int) ≤ (s.size : Int) := by omega
        have d6 : (2 : Int) ≤ (s.size : Int) := by omega
        have d7 : decide ((s.size : Int) < 3) = false := decide_eq_false (by omega)
        have d8 : decide (s.size < 3) = false := decide_eq_false (by omega)
        have hK0 := Lib.hid (Below.refl w.heap.size w)
        clear d3
        clear hK hck h32 hbl
        go_enter Tryd.func46, Tryd.ntmps46
        go_wp2_with fail
        go_region_held3 (fun X => True) (trivial)
          (first | (go_at_call 29; refine (C1.out _).mono ?_; rintro e w3 ⟨rfl, b3⟩; have hB3 : Below w.heap.size w w3 := (by first | exact hK0.out.trans b3 | exact (hK0.out.drew).trans (b3.mono (hK0.out.drew).size)); clear b3))
        have HB := Lib.hid hB3
        clear hB3 C1
        go_wp2_with fail
        go_ret2
        subst hR
        exact LnOut.no rfl HB.out
    · rw [if_pos (.inr (.inl h32))] at hR
      subst hR
      have d2 : (((s[2]'h2).toNat : Int) != 32) = true := by simpa using h32
      have d4 : (2 : Int) < (s.size : Int) := by omega
      clear hM hbl h32
      go_enter Tryd.func46, Tryd.ntmps46
      go_wp2_with fail
      go_quiet (fail)
      go_wp2_with fail
      go_ret2
      exact LnOut.no rfl (below_drewN (Below.refl _ _) _)
end Go.Proofs.YtfnieoffgnnldaaDoor

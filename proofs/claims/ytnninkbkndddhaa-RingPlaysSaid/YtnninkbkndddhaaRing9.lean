/- ring: RingTurns' walk. -/
import Derived.Test.YtnninkbkndddhaaRing8
namespace Go.Proofs.Ytnninkbkndddhaa
open Go.RowKit
set_option linter.unusedVariables false
set_option linter.unusedSimpArgs false

/-- Deeds that came in. -/
def Deeds (w : World) (A : Option Addr) (n : Nat) (K : Nat → Int) (sv : Nat → Value) (ls : Nat → List Int) : Prop :=
  ∀ i, i < n → ∃ b o, A = some ⟨b, o, none⟩ ∧ b < w.heap.size ∧ w.cell? ⟨b, o + i * 2, none⟩ = some (.int .i64 (K i)) ∧ w.cell? ⟨b, o + i * 2 + 1, none⟩ = some (sv i) ∧ Txt w (sv i) (ls i)
theorem Deeds.later {w w' : World} {A : Option Addr} {n : Nat} {K : Nat → Int} {sv : Nat → Value} {ls : Nat → List Int} (h : Deeds w A n K sv ls) (hb : Below w.heap.size w w') : Deeds w' A n K sv ls := by
  intro i hi
  obtain ⟨b, o, e, hl, h1, h2, h3⟩ := h i hi
  exact ⟨b, o, e, Nat.lt_of_lt_of_le hl hb.size, (hb.cell (p := ⟨b, o + i * 2, none⟩) hl).trans h1, (hb.cell (p := ⟨b, o + i * 2 + 1, none⟩) hl).trans h2, h3.later hb⟩

/-- Where the top is, i turns on. -/
def pos (L : List (List Int)) (k i : Nat) : Nat := if L.length = 0 then k else (k + i) % L.length

theorem few20 (v : Value) (l : List Int) (w : World) (h : Txt w v l) : Calls Try.prog 10 #[v, .int .i64 20] w fun e w' => ∃ A m c, e = .returned (.slice A m c) ∧ Hid (∀ X : World, Txt X v l → Txt X (.slice A m c) (l.take 20)) ∧ w = w' := by
  refine (few_any v l 20 w h (by omega)).mono fun e w' hh => ?_
  obtain ⟨A, c, he, ht, hw⟩ := hh
  exact ⟨A, _, c, he, Lib.hid (fun X h => ht X _ h), hw⟩

theorem fine_nil : Fine ([], 0) 0 := ⟨by simp, fun h => absurd rfl h, fun _ => rfl, fun l hl => by simp at hl⟩

set_option maxHeartbeats 4000000 in
set_option maxRecDepth 100000 in
theorem walk_RingTurns (w : World) (A : Option Addr) (n c : Nat) (K : Nat → Int) (sv : Nat → Value) (ls : Nat → List Int) (hD : Deeds w A n K sv ls) (hn : n ≤ c) (hc : c ≤ maxLen) : Calls Try.prog 4 #[.slice A n c] w (Yes w) := by
  have V0 := Lib.hid (var_new w 24)
  have HD := Lib.hid hD
  unfold maxLen at hc
  clear hD
  go_enter Try.func4, Try.ntmps4
  go_wp2
  go_loopw [4] (fun i wr => ∃ q : Nat, q ≤ n ∧ q ≤ 150 ∧ i = .int .i64 q ∧ Hid (∃ A n c k L, Var w (.slice A n c) k L wr ∧ Fine (L, k) (20 * q))) (fun i _ => n - (intOf i).toNat)
  case atStart => exact ⟨0, Nat.zero_le _, Nat.zero_le _, rfl, ⟨none, 0, 0, 0, [], V0.out, fine_nil⟩⟩
  case round =>
    obtain ⟨q, hq, hq150, rfl, HR⟩ := hrel
    obtain ⟨A1, n1, c1, k, L, V, hf⟩ := HR.out
    have V1 := Lib.hid (And.intro V hf)
    obtain ⟨y0, k0, j0⟩ := (show _ from V.blk)
    clear V hf HR
    by_cases hlt : q < n ∧ q < 150
    · obtain ⟨hqn, hq2⟩ := hlt
      obtain ⟨b, o, rfl, hbl, hk1, hk2, htx⟩ := HD.out.later V1.out.1.below q hqn
      obtain ⟨As, cs, es, _⟩ := Sl.is htx
      rw [es] at hk2 htx
      have HT := Lib.hid htx
      clear htx es
      have hd : decide ((q : Int) < 150) = true := by simp; omega
      have C1 := Lib.hid (few20 (.slice As (ls q).length cs) (ls q) (wr.alloc (.cells #[.int .i64 (K q), .slice As (ls q).length cs] 34)) (HT.out.later (below_one _ _)))
      go_wp2_with fail
      (with_reducible refine C1.out.mono ?_)
      rintro e w1 ⟨A2, m2, c2, rfl, H2, rfl⟩
      have hz := V1.out.1.blk.1
      have C2 := Lib.hid (does_any (.slice A1 n1 c1) (.slice A2 m2 c2) L k (20 * q) (K q) ((ls q).take 20) (Aft w.heap.size) (wr.alloc (.cells #[.int .i64 (K q), .slice A2 m2 c2] 34)) (V1.out.1.ts.later (below_one _ _)) (H2.out _ (HT.out.later (below_one _ _))) V1.out.2 (by omega) (List.length_take_le _ _))
      go_wp2_with fail
      (with_reducible refine C2.out.mono ?_)
      rintro e w3 ⟨A3, n3, c3, rfl, ht3, hb3⟩
      have T3 : Hid (TxtsS w3 (Aft w.heap.size) (.slice A3 n3 c3) (doesL (L, k) (K q) ((ls q).take 20)).1) := Lib.hid (ht3.mono fun b hb => aft_new (g := w.heap.size) (by simp only [World.size_alloc]; omega) hb)
      have V2 := Lib.hid ((V1.out.1.later (below_one _ _)).store (k' := (doesL (L, k) (K q) ((ls q).take 20)).2) hb3 T3.out)
      have V3 := Lib.hid (V1.out.1.later (one_later hb3))
      have hf2 := Lib.hid (V1.out.2.does (K q) ((ls q).take 20) (List.length_take_le _ _))
      clear y0 k0 j0 hb3 ht3
      obtain ⟨y1, k1, j1⟩ := (show _ from V3.out.blk)
      go_wp2
      go_roundw
      case rel => exact ⟨q + 1, by omega, by omega, by go_num, ⟨_, _, _, _, _, V2.out, by rw [Nat.mul_add]; exact hf2.out⟩⟩
      case measure => simp [intOf]; omega
    · have hor : q = n ∨ (q < n ∧ q = 150) := by omega
      clear hlt
      rcases hor with rfl | ⟨hqn, rfl⟩
      · obtain ⟨hk60, htop, hz0, hlb⟩ := V1.out.2
        simp only at hk60 htop hz0 hlb
        have C1 := Lib.hid (all_any (.slice A1 n1 c1) k L wr V1.out.1.ts.any (by omega) (fun l hl => by have := hlb l hl; omega))
        have HF := Lib.hid (And.intro htop (And.intro hz0 hlb))
        clear htop hz0 hlb
        go_wp2_with fail
        (with_reducible refine C1.out.mono ?_)
        rintro e w5 ⟨A5, m5, c5, rfl, ht5, hb5⟩
        obtain rfl : L.length = m5 := ht5.len.symm
        have V5 := Lib.hid (V1.out.1.later hb5)
        have T5 := Lib.hid (ht5.mono fun b hb => (show w.heap.size < b from Nat.lt_of_lt_of_le V1.out.1.blk.1 hb))
        clear ht5 hb5 y0 k0 j0
        go_wp2
        go_loopw [8, 9, 10] (fun i _ _ wx => ∃ j : Nat, j ≤ L.length ∧ i = .int .i64 j ∧ Hid (∃ A n c, Var w (.slice A n c) (pos L k j) L wx ∧ TxtsS wx (Aft w.heap.size) (.slice A5 L.length c5) L)) (fun i _ _ _ => L.length - (intOf i).toNat)
        case atStart => exact ⟨0, Nat.zero_le _, rfl, ⟨_, _, _, by
          have e : pos L k 0 = k := by
            unfold pos
            split
            · rfl
            · exact Nat.mod_eq_of_lt (HF.out.1 (fun e => by simp [e] at *))
          rw [e]; exact V5.out, T5.out⟩⟩
        case round =>
          obtain ⟨j, hj, rfl, HR⟩ := hrel
          rename World => wx
          obtain ⟨A6, n6, c6, V, T⟩ := HR.out
          have VT := Lib.hid (And.intro V T)
          clear V T HR
          by_cases hlt : j < L.length
          · obtain ⟨p, hp, hpl, hpm⟩ : ∃ p : Nat, p = pos L k j ∧ p < L.length ∧ ((k : Int) + (j : Int)) % (L.length : Int) = (p : Int) := by
              refine ⟨_, rfl, ?_, ?_⟩
              · unfold pos; rw [if_neg (by omega)]; exact Nat.mod_lt _ (by omega)
              · unfold pos; rw [if_neg (by omega), Int.natCast_emod, Int.natCast_add]
            have hnext : pos L k (j + 1) = (p + 1) % L.length := by
              rw [hp]; unfold pos; rw [if_neg (by omega), if_neg (by omega), Nat.mod_add_mod, Nat.add_assoc]
            rw [← hp] at VT
            obtain ⟨y0, k0, j0⟩ := (show _ from VT.out.1.blk)
            have HP := Lib.hid (And.intro hp hnext)
            have hkb : (k : Int) ≤ 60 := by have := HF.out.1 (fun e => by simp [e] at hlt); omega
            have hpl2 : (p : Int) < (L.length : Int) := by omega
            have hlen := getD_len V1.out.2 p
            have C2 := Lib.hid (top_some (.slice A6 n6 c6) p L wx VT.out.1.ts.any hpl (by omega))
            clear hp hnext hlen
            go_wp2_with fail
            (with_reducible refine C2.out.mono ?_)
            rintro e w6 ⟨A7, n7, c7, rfl, ht7, hb7⟩
            obtain ⟨b, o, Ap, np, cp, rfl, hbl, hcell, htp⟩ := (VT.out.2.later hb7).at_ hpl
            have V7 := Lib.hid (And.intro (VT.out.1.later hb7) (VT.out.2.later hb7))
            have C3 := Lib.hid (same_far (.slice A7 n7 c7) (.slice Ap np cp) _ w6 ht7 htp.any)
            clear y0 k0 j0 ht7 htp hb7
            obtain ⟨y7, k7, j7⟩ := (show _ from V7.out.1.blk)
            go_wp2_with fail
            (with_reducible refine C3.out.mono ?_)
            rintro e w8 ⟨rfl, hb8⟩
            have V8 := Lib.hid (And.intro (V7.out.1.later hb8) (V7.out.2.later hb8))
            clear y7 k7 j7 hb8
            obtain ⟨y8, k8, j8⟩ := (show _ from V8.out.1.blk)
            have C4 := Lib.hid (turn_some (.slice A6 n6 c6) p L w8 (Aft w.heap.size) V8.out.1.ts (by omega) (by omega) hpl)
            go_wp2_with fail
            (with_reducible refine C4.out.mono ?_)
            rintro e w9 ⟨A9, n9, c9, rfl, ht9, hb9⟩
            have V9 := Lib.hid (V8.out.1.later hb9)
            have T9 : Hid (TxtsS w9 (Aft w.heap.size) (.slice A9 n9 c9) L) := Lib.hid (ht9.mono fun b hb => aft_new (g := w.heap.size) V8.out.1.blk.1 hb)
            have V10 := Lib.hid (V8.out.1.store (k' := (p + 1) % L.length) hb9 T9.out)
            have T10 := Lib.hid (((V8.out.2.later hb9).far (p := ⟨w.heap.size, 0, none⟩) (fun e => Nat.lt_irrefl _ e) (.slice A9 n9 c9)).far (p := ⟨w.heap.size, 1, none⟩) (fun e => Nat.lt_irrefl _ e) (.int .i64 (((p + 1) % L.length : Nat) : Int)))
            clear y8 k8 j8 ht9 hb9
            obtain ⟨y9, k9, j9⟩ := (show _ from V9.out.blk)
            go_wp2
            go_roundw
            case rel => exact ⟨j + 1, by omega, by go_num, ⟨_, _, _, by rw [HP.out.2]; exact V10.out, T10.out⟩⟩
            case measure => simp [intOf]; omega
          · obtain rfl : j = L.length := by omega
            have hk : pos L k L.length = k := by
              unfold pos
              split
              · rfl
              · rw [Nat.add_mod_right]; exact Nat.mod_eq_of_lt (HF.out.1 (fun e => by simp [e] at *))
            rw [hk] at VT
            obtain ⟨y0, k0, j0⟩ := (show _ from VT.out.1.blk)
            have C5 := Lib.hid (all_any (.slice A6 n6 c6) k L wx VT.out.1.ts.any (by omega) (fun l hl => by have := HF.out.2.2 l hl; omega))
            clear hk
            go_wp2_with fail
            (with_reducible refine C5.out.mono ?_)
            rintro e w6 ⟨A7, n7, c7, rfl, ht7, hb7⟩
            have H7 := Lib.hid (VT.out.1.below.trans (hb7.mono VT.out.1.below.size))
            clear ht7 hb7
            go_wp2_with (go_at_call 9; refine (awake_yes _).mono ?_; rintro e w4 ⟨rfl, hb4⟩)
            go_ret
            exact ⟨rfl, H7.out.trans (hb4.mono H7.out.size)⟩
      · skip
        obtain ⟨hk60, htop, hz0, hlb⟩ := V1.out.2
        simp only at hk60 htop hz0 hlb
        have C1 := Lib.hid (all_any (.slice A1 n1 c1) k L wr V1.out.1.ts.any (by omega) (fun l hl => by have := hlb l hl; omega))
        have HF := Lib.hid (And.intro htop (And.intro hz0 hlb))
        clear htop hz0 hlb
        go_wp2_with fail
        (with_reducible refine C1.out.mono ?_)
        rintro e w5 ⟨A5, m5, c5, rfl, ht5, hb5⟩
        obtain rfl : L.length = m5 := ht5.len.symm
        have V5 := Lib.hid (V1.out.1.later hb5)
        have T5 := Lib.hid (ht5.mono fun b hb => (show w.heap.size < b from Nat.lt_of_lt_of_le V1.out.1.blk.1 hb))
        clear ht5 hb5 y0 k0 j0
        go_wp2
        go_loopw [8, 9, 10] (fun i _ _ wx => ∃ j : Nat, j ≤ L.length ∧ i = .int .i64 j ∧ Hid (∃ A n c, Var w (.slice A n c) (pos L k j) L wx ∧ TxtsS wx (Aft w.heap.size) (.slice A5 L.length c5) L)) (fun i _ _ _ => L.length - (intOf i).toNat)
        case atStart => exact ⟨0, Nat.zero_le _, rfl, ⟨_, _, _, by
          have e : pos L k 0 = k := by
            unfold pos
            split
            · rfl
            · exact Nat.mod_eq_of_lt (HF.out.1 (fun e => by simp [e] at *))
          rw [e]; exact V5.out, T5.out⟩⟩
        case round =>
          obtain ⟨j, hj, rfl, HR⟩ := hrel
          rename World => wx
          obtain ⟨A6, n6, c6, V, T⟩ := HR.out
          have VT := Lib.hid (And.intro V T)
          clear V T HR
          by_cases hlt : j < L.length
          · obtain ⟨p, hp, hpl, hpm⟩ : ∃ p : Nat, p = pos L k j ∧ p < L.length ∧ ((k : Int) + (j : Int)) % (L.length : Int) = (p : Int) := by
              refine ⟨_, rfl, ?_, ?_⟩
              · unfold pos; rw [if_neg (by omega)]; exact Nat.mod_lt _ (by omega)
              · unfold pos; rw [if_neg (by omega), Int.natCast_emod, Int.natCast_add]
            have hnext : pos L k (j + 1) = (p + 1) % L.length := by
              rw [hp]; unfold pos; rw [if_neg (by omega), if_neg (by omega), Nat.mod_add_mod, Nat.add_assoc]
            rw [← hp] at VT
            obtain ⟨y0, k0, j0⟩ := (show _ from VT.out.1.blk)
            have HP := Lib.hid (And.intro hp hnext)
            have hkb : (k : Int) ≤ 60 := by have := HF.out.1 (fun e => by simp [e] at hlt); omega
            have hpl2 : (p : Int) < (L.length : Int) := by omega
            have hlen := getD_len V1.out.2 p
            have C2 := Lib.hid (top_some (.slice A6 n6 c6) p L wx VT.out.1.ts.any hpl (by omega))
            clear hp hnext hlen
            go_wp2_with fail
            (with_reducible refine C2.out.mono ?_)
            rintro e w6 ⟨A7, n7, c7, rfl, ht7, hb7⟩
            obtain ⟨b, o, Ap, np, cp, rfl, hbl, hcell, htp⟩ := (VT.out.2.later hb7).at_ hpl
            have V7 := Lib.hid (And.intro (VT.out.1.later hb7) (VT.out.2.later hb7))
            have C3 := Lib.hid (same_far (.slice A7 n7 c7) (.slice Ap np cp) _ w6 ht7 htp.any)
            clear y0 k0 j0 ht7 htp hb7
            obtain ⟨y7, k7, j7⟩ := (show _ from V7.out.1.blk)
            go_wp2_with fail
            (with_reducible refine C3.out.mono ?_)
            rintro e w8 ⟨rfl, hb8⟩
            have V8 := Lib.hid (And.intro (V7.out.1.later hb8) (V7.out.2.later hb8))
            clear y7 k7 j7 hb8
            obtain ⟨y8, k8, j8⟩ := (show _ from V8.out.1.blk)
            have C4 := Lib.hid (turn_some (.slice A6 n6 c6) p L w8 (Aft w.heap.size) V8.out.1.ts (by omega) (by omega) hpl)
            go_wp2_with fail
            (with_reducible refine C4.out.mono ?_)
            rintro e w9 ⟨A9, n9, c9, rfl, ht9, hb9⟩
            have V9 := Lib.hid (V8.out.1.later hb9)
            have T9 : Hid (TxtsS w9 (Aft w.heap.size) (.slice A9 n9 c9) L) := Lib.hid (ht9.mono fun b hb => aft_new (g := w.heap.size) V8.out.1.blk.1 hb)
            have V10 := Lib.hid (V8.out.1.store (k' := (p + 1) % L.length) hb9 T9.out)
            have T10 := Lib.hid (((V8.out.2.later hb9).far (p := ⟨w.heap.size, 0, none⟩) (fun e => Nat.lt_irrefl _ e) (.slice A9 n9 c9)).far (p := ⟨w.heap.size, 1, none⟩) (fun e => Nat.lt_irrefl _ e) (.int .i64 (((p + 1) % L.length : Nat) : Int)))
            clear y8 k8 j8 ht9 hb9
            obtain ⟨y9, k9, j9⟩ := (show _ from V9.out.blk)
            go_wp2
            go_roundw
            case rel => exact ⟨j + 1, by omega, by go_num, ⟨_, _, _, by rw [HP.out.2]; exact V10.out, T10.out⟩⟩
            case measure => simp [intOf]; omega
          · obtain rfl : j = L.length := by omega
            have hk : pos L k L.length = k := by
              unfold pos
              split
              · rfl
              · rw [Nat.add_mod_right]; exact Nat.mod_eq_of_lt (HF.out.1 (fun e => by simp [e] at *))
            rw [hk] at VT
            obtain ⟨y0, k0, j0⟩ := (show _ from VT.out.1.blk)
            have C5 := Lib.hid (all_any (.slice A6 n6 c6) k L wx VT.out.1.ts.any (by omega) (fun l hl => by have := HF.out.2.2 l hl; omega))
            clear hk
            go_wp2_with fail
            (with_reducible refine C5.out.mono ?_)
            rintro e w6 ⟨A7, n7, c7, rfl, ht7, hb7⟩
            have H7 := Lib.hid (VT.out.1.below.trans (hb7.mono VT.out.1.below.size))
            clear ht7 hb7
            go_wp2_with (go_at_call 9; refine (awake_yes _).mono ?_; rintro e w4 ⟨rfl, hb4⟩)
            go_ret
            exact ⟨rfl, H7.out.trans (hb4.mono H7.out.size)⟩
end Go.Proofs.Ytnninkbkndddhaa

/- gap: GapPlays' walk. -/
import Derived.Test.YtganehhcnflgaaaGapU
namespace Go.Proofs.Ytganehhcnflgaaa
open Go.RowKit
set_option linter.unusedVariables false
set_option linter.unusedSimpArgs false

set_option maxHeartbeats 4000000 in
set_option maxRecDepth 100000 in
theorem walk_GapPlays (w : World) (vl : Value) (l : List Int) (hl : IntS w Any vl l) (A : Option Addr) (n c : Nat) (F T : Nat → Int) (sv : Nat → Value) (ls : Nat → List Int) (hD : Deeds w A n F T sv ls) (hn : n ≤ c) (hc : c ≤ maxLen) :
    Calls Try.prog 3 #[vl, .slice A n c] w (YesW w) := by
  obtain ⟨Al, cl, rfl, hl1, hl2⟩ := Sl.is hl
  have HD := Lib.hid hD
  unfold maxLen at hc
  obtain ⟨m, hm⟩ : ∃ m, min 200 l.length = m := ⟨_, rfl⟩
  have HL := Lib.hid (take_int hl m (by omega))
  have hm1 : m ≤ 200 := by omega
  have hm2 : m ≤ cl := by omega
  have hm3 : (l.take m).length = m := by rw [List.length_take]; omega
  have HM := Lib.hid hm3
  clear hD hl hm3
  go_enter Try.func3, Try.ntmps3
  go_upto_if 13 with fail
  go_cut [0] (fun s0 wx => s0 = .slice Al m cl ∧ w = wx)
  case first =>
    by_cases h : 200 < l.length
    · have d : decide ((200 : Int) < (l.length : Int)) = true := by simp; omega
      have e : m = 200 := by omega
      have h3 : (200 : Int) ≤ (cl : Int) := by omega
      have HE := Lib.hid e
      clear hm e
      go_wp2
      go_meet
      exact ⟨by rw [HE.out], rfl⟩
    · have d : decide ((200 : Int) < (l.length : Int)) = false := by simp; omega
      have e : m = l.length := by omega
      have HE := Lib.hid e
      clear hm e
      go_wp2
      go_meet
      exact ⟨by rw [HE.out], rfl⟩
  case rest =>
    obtain ⟨rfl, rfl⟩ := hcut
    clear hm hl1 hl2
    have HO := Lib.hid (World.ownsRow_nil w w.heap.size 3 1)
    have hp := Sl.parts HL.out
    have HR := Lib.hid hp.2
    rw [HM.out] at HR
    clear hp
    go_wp2_with (at_builtin; refine wpList_cat eltI HO.out (Nat.le_refl _) rfl rfl rfl rfl HR.out.1 HR.out.2.1 (fun j _ => rfl) (by unfold maxLen; omega) (by omega) ?_; intro A3 c3 w3 hp; rw [Nat.zero_add, List.nil_append, liI_of HM.out] at hp; have HP1 := Lib.hid (And.intro hp (below_row HO.out hp (Below.refl _ _))); clear hp)
    have C0 := Lib.hid (new_any (w := w3) (HR.out.1.later HP1.out.2) HR.out.2.1 HM.out (by omega))
    (with_reducible refine C0.out.mono ?_)
    rintro e w4 ⟨gb, AG, CG, rfl, G4, hb4, hgb⟩
    have hr4 : IntS w4 (fun b => ¬ Mine gb AG b) (.slice A3 m c3) (l.take m) := by
      have h3 := Sl.later (Sl.old (int_own HM.out HP1.out.1.own)) hb4
      refine Sl.mono h3 fun b hb hm => ?_
      rcases hm with rfl | hm
      · omega
      · have := (G4.mem.lt b hm).1; omega
    have V0 := Lib.hid (show St w gb w3.heap.size AG (l.take m) (.slice A3 m c3) w4 from ⟨⟨_, _, _, _, _, G4, by unfold held; rw [List.take_of_length_le (by rw [HM.out]; exact Nat.le_refl _), List.drop_eq_nil_of_le (by rw [HM.out]; exact Nat.le_refl _), List.append_nil]⟩, hr4, HP1.out.2.trans (hb4.mono HP1.out.2.size), HP1.out.2.size, hgb⟩)
    clear C0 hr4 G4 hb4 hgb
    go_wp2
    go_loopw [5, 7] (fun r i wr => ∃ q : Nat, q ≤ n ∧ q ≤ 60 ∧ i = .int .i64 q ∧ ∃ Ar nr cr, r = .slice Ar nr cr ∧ Hid (∃ AG L, St w gb w3.heap.size AG L (.slice Ar nr cr) wr ∧ L.length ≤ 200 + 50 * q)) (fun _ i _ => n - (intOf i).toNat)
    case atStart => exact ⟨0, Nat.zero_le _, Nat.zero_le _, rfl, _, _, _, rfl, ⟨_, _, V0.out, by rw [HM.out]; omega⟩⟩
    case round =>
      obtain ⟨q, hq, hq60, rfl, Ar, nr, cr, rfl, HR⟩ := hrel
      obtain ⟨AG, L, V, hlen⟩ := HR.out
      have hnr : nr = L.length := (Sl.parts V.r).1
      subst hnr
      have V1 := Lib.hid (And.intro V hlen)
      clear V HR V0
      by_cases hlt : q < n ∧ q < 60
      · obtain ⟨hqn, hq2⟩ := hlt
        obtain ⟨b0, o0, rfl, hbl, hk1, hk2, hk3, htx⟩ := deeds_later HD.out V1.out.1.below hqn
        obtain ⟨As, cs, es, hs1, hs2⟩ := Sl.is htx
        rw [es] at hk3 htx
        have hd : decide ((q : Int) < 60) = true := by simp; omega
        have HTX := Lib.hid htx
        clear htx es
        by_cases hbig : 50 < (ls q).length
        · have d50 : decide ((50 : Int) < ((ls q).length : Int)) = true := by simp; omega
          have hcs : (50 : Int) ≤ (cs : Int) := by omega
          obtain ⟨I, hI⟩ : ∃ I, IntS wr (fun b => b < w.heap.size) (.slice As 50 cs) I ∧ I.length ≤ 50 := ⟨_, take_int HTX.out 50 (by omega), List.length_take_le _ _⟩
          have HI := Lib.hid hI
          clear hI
          by_cases hno : F q < 0 ∨ T q < F q ∨ (L.length : Int) < T q
          · have C3 := Lib.hid (refsplice_no Ar L.length cr (.slice As 50 cs) (F q) (T q) (wr.alloc (.cells #[.int .i64 (F q), .int .i64 (T q), .slice As 50 cs] 27)) hno)
            go_wp2_with fail
            (with_reducible refine C3.out.mono ?_)
            rintro e w5 ⟨rfl, rfl⟩
            go_wp2_with fail
            have C4 := Lib.hid (lst_splice_no (w := wr.alloc (.cells #[.int .i64 (F q), .int .i64 (T q), .slice As 50 cs] 27)) (V1.out.1.later (one_later _ _)).lst (F q) (T q) (.slice As 50 cs) hno)
            (with_reducible refine C4.out.mono ?_)
            rintro e w6 ⟨rfl, q6, hw⟩
            have V6 := (V1.out.1.later (one_later wr (.cells #[.int .i64 (F q), .int .i64 (T q), .slice As 50 cs] 27))).drewN q6
            rw [← hw] at V6
            replace V6 := Lib.hid V6
            clear hw
            clear C3 C4
            have C6 := Lib.hid (lst_len V6.out.lst)
            go_wp2_with fail
            (with_reducible refine C6.out.mono ?_)
            rintro e w7 ⟨rfl, q7, hw⟩
            have V7 := V6.out.drewN q7
            rw [← hw] at V7
            replace V7 := Lib.hid V7
            clear hw
            clear C6
            have C7 := Lib.hid (lst_all V7.out.lst)
            go_wp2_with fail
            (with_reducible refine C7.out.mono ?_)
            rintro e w8 ⟨A8, n8, c8, rfl, ht8, hb8⟩
            have V8 := Lib.hid (And.intro (V7.out.later hb8) ht8)
            clear ht8 hb8 C7
            have C8 := Lib.hid (sameI_is (.slice A8 n8 c8) (.slice Ar L.length cr) L L _ _ w8 V8.out.2 V8.out.1.r)
            simp only [decide_true] at C8
            go_wp2_with fail
            (with_reducible refine C8.out.mono ?_)
            rintro e w9 ⟨rfl, q9, hw⟩
            have V9 := V8.out.1.drewN q9
            rw [← hw] at V9
            replace V9 := Lib.hid V9
            clear hw
            clear C8
            go_wp2
            go_roundw
            case rel => exact ⟨q + 1, by omega, by omega, by go_num, _, _, _, rfl, ⟨_, _, V9.out, by have := V1.out.2; omega⟩⟩
            case measure => simp [intOf]; omega
          · obtain ⟨a, ha⟩ := Int.eq_ofNat_of_zero_le (show 0 ≤ F q by omega)
            obtain ⟨b, hb⟩ := Int.eq_ofNat_of_zero_le (show 0 ≤ T q by omega)
            have hab : a ≤ b := by omega
            have hbL : b ≤ L.length := by omega
            rw [ha] at hk1
            rw [hb] at hk2
            clear ha hb hno
            have VX := Lib.hid (V1.out.1.later (one_later wr (.cells #[.int .i64 (a : Int), .int .i64 (b : Int), .slice As 50 cs] 27)))
            have TX := Lib.hid (Sl.later HI.out.1 (one_later wr (.cells #[.int .i64 (a : Int), .int .i64 (b : Int), .slice As 50 cs] 27)) : IntS _ _ _ _)
            have C3 := Lib.hid (refsplice_yes Ar As L.length cr 50 cs L I a b (wr.alloc (.cells #[.int .i64 (a : Int), .int .i64 (b : Int), .slice As 50 cs] 27)) _ _ VX.out.r TX.out hab hbL (by have := HI.out.2; omega))
            go_wp2_with fail
            (with_reducible refine C3.out.mono ?_)
            rintro e w5 ⟨A5, n5, c5, rfl, ht5, hb5⟩
            have H5 := Lib.hid (And.intro ht5 hb5)
            have C4 := Lib.hid (lst_splice (w := w5) (VX.out.later hb5).lst a b 50 cs As I hab hbL (fun k => k < w.heap.size) (Sl.later TX.out hb5) VX.out.far (VX.out.later hb5).size (by have := HI.out.2; omega))
            have D5 := (blk_new wr #[.int .i64 (a : Int), .int .i64 (b : Int), .slice As 50 cs] 27).later hb5 (by simp)
            obtain ⟨y5, k5, j5⟩ := (show Blk _ _ _ from D5)
            clear ht5 hb5 C3 D5
            go_wp2_with fail
            (with_reducible refine C4.out.mono ?_)
            intro e w6 hs
            obtain ⟨rfl, AG6, V⟩ := VX.out.splice H5.out.2 H5.out.1 hs
            have V6 := Lib.hid V
            clear hs V C4 y5 k5 j5
            obtain ⟨L6, hL6⟩ : ∃ L6, L.take a ++ I ++ L.drop b = L6 := ⟨_, rfl⟩
            have hlen6 : L6.length ≤ L.length + 50 := by rw [← hL6]; have := HI.out.2; simp; omega
            rw [hL6] at V6
            have hn5 : n5 = L6.length := (Sl.parts V6.out.r).1
            subst hn5
            clear hL6
            have C6 := Lib.hid (lst_len V6.out.lst)
            go_wp2_with fail
            (with_reducible refine C6.out.mono ?_)
            rintro e w7 ⟨rfl, q7, hw⟩
            have V7 := V6.out.drewN q7
            rw [← hw] at V7
            replace V7 := Lib.hid V7
            clear hw
            clear C6
            have C7 := Lib.hid (lst_all V7.out.lst)
            go_wp2_with fail
            (with_reducible refine C7.out.mono ?_)
            rintro e w8 ⟨A8, n8, c8, rfl, ht8, hb8⟩
            have V8 := Lib.hid (And.intro (V7.out.later hb8) ht8)
            clear ht8 hb8 C7
            have C8 := Lib.hid (sameI_is (.slice A8 n8 c8) (.slice A5 L6.length c5) L6 L6 _ _ w8 V8.out.2 V8.out.1.r)
            simp only [decide_true] at C8
            go_wp2_with fail
            (with_reducible refine C8.out.mono ?_)
            rintro e w9 ⟨rfl, q9, hw⟩
            have V9 := V8.out.1.drewN q9
            rw [← hw] at V9
            replace V9 := Lib.hid V9
            clear hw
            clear C8
            go_wp2
            go_roundw
            case rel => exact ⟨q + 1, by omega, by omega, by go_num, _, _, _, rfl, ⟨_, _, V9.out, by have := V1.out.2; omega⟩⟩
            case measure => simp [intOf]; omega
        · have d50 : decide ((50 : Int) < ((ls q).length : Int)) = false := by simp; omega
          obtain ⟨I, hI⟩ : ∃ I, IntS wr (fun b => b < w.heap.size) (.slice As (ls q).length cs) I ∧ I.length ≤ 50 := ⟨_, HTX.out, by omega⟩
          have HI := Lib.hid hI
          clear hI
          by_cases hno : F q < 0 ∨ T q < F q ∨ (L.length : Int) < T q
          · have C3 := Lib.hid (refsplice_no Ar L.length cr (.slice As (ls q).length cs) (F q) (T q) (wr.alloc (.cells #[.int .i64 (F q), .int .i64 (T q), .slice As (ls q).length cs] 27)) hno)
            go_wp2_with fail
            (with_reducible refine C3.out.mono ?_)
            rintro e w5 ⟨rfl, rfl⟩
            go_wp2_with fail
            have C4 := Lib.hid (lst_splice_no (w := wr.alloc (.cells #[.int .i64 (F q), .int .i64 (T q), .slice As (ls q).length cs] 27)) (V1.out.1.later (one_later _ _)).lst (F q) (T q) (.slice As (ls q).length cs) hno)
            (with_reducible refine C4.out.mono ?_)
            rintro e w6 ⟨rfl, q6, hw⟩
            have V6 := (V1.out.1.later (one_later wr (.cells #[.int .i64 (F q), .int .i64 (T q), .slice As (ls q).length cs] 27))).drewN q6
            rw [← hw] at V6
            replace V6 := Lib.hid V6
            clear hw
            clear C3 C4
            have C6 := Lib.hid (lst_len V6.out.lst)
            go_wp2_with fail
            (with_reducible refine C6.out.mono ?_)
            rintro e w7 ⟨rfl, q7, hw⟩
            have V7 := V6.out.drewN q7
            rw [← hw] at V7
            replace V7 := Lib.hid V7
            clear hw
            clear C6
            have C7 := Lib.hid (lst_all V7.out.lst)
            go_wp2_with fail
            (with_reducible refine C7.out.mono ?_)
            rintro e w8 ⟨A8, n8, c8, rfl, ht8, hb8⟩
            have V8 := Lib.hid (And.intro (V7.out.later hb8) ht8)
            clear ht8 hb8 C7
            have C8 := Lib.hid (sameI_is (.slice A8 n8 c8) (.slice Ar L.length cr) L L _ _ w8 V8.out.2 V8.out.1.r)
            simp only [decide_true] at C8
            go_wp2_with fail
            (with_reducible refine C8.out.mono ?_)
            rintro e w9 ⟨rfl, q9, hw⟩
            have V9 := V8.out.1.drewN q9
            rw [← hw] at V9
            replace V9 := Lib.hid V9
            clear hw
            clear C8
            go_wp2
            go_roundw
            case rel => exact ⟨q + 1, by omega, by omega, by go_num, _, _, _, rfl, ⟨_, _, V9.out, by have := V1.out.2; omega⟩⟩
            case measure => simp [intOf]; omega
          · obtain ⟨a, ha⟩ := Int.eq_ofNat_of_zero_le (show 0 ≤ F q by omega)
            obtain ⟨b, hb⟩ := Int.eq_ofNat_of_zero_le (show 0 ≤ T q by omega)
            have hab : a ≤ b := by omega
            have hbL : b ≤ L.length := by omega
            rw [ha] at hk1
            rw [hb] at hk2
            clear ha hb hno
            have VX := Lib.hid (V1.out.1.later (one_later wr (.cells #[.int .i64 (a : Int), .int .i64 (b : Int), .slice As (ls q).length cs] 27)))
            have TX := Lib.hid (Sl.later HI.out.1 (one_later wr (.cells #[.int .i64 (a : Int), .int .i64 (b : Int), .slice As (ls q).length cs] 27)) : IntS _ _ _ _)
            have C3 := Lib.hid (refsplice_yes Ar As L.length cr (ls q).length cs L I a b (wr.alloc (.cells #[.int .i64 (a : Int), .int .i64 (b : Int), .slice As (ls q).length cs] 27)) _ _ VX.out.r TX.out hab hbL (by have := HI.out.2; omega))
            go_wp2_with fail
            (with_reducible refine C3.out.mono ?_)
            rintro e w5 ⟨A5, n5, c5, rfl, ht5, hb5⟩
            have H5 := Lib.hid (And.intro ht5 hb5)
            have C4 := Lib.hid (lst_splice (w := w5) (VX.out.later hb5).lst a b (ls q).length cs As I hab hbL (fun k => k < w.heap.size) (Sl.later TX.out hb5) VX.out.far (VX.out.later hb5).size (by have := HI.out.2; omega))
            have D5 := (blk_new wr #[.int .i64 (a : Int), .int .i64 (b : Int), .slice As (ls q).length cs] 27).later hb5 (by simp)
            obtain ⟨y5, k5, j5⟩ := (show Blk _ _ _ from D5)
            clear ht5 hb5 C3 D5
            go_wp2_with fail
            (with_reducible refine C4.out.mono ?_)
            intro e w6 hs
            obtain ⟨rfl, AG6, V⟩ := VX.out.splice H5.out.2 H5.out.1 hs
            have V6 := Lib.hid V
            clear hs V C4 y5 k5 j5
            obtain ⟨L6, hL6⟩ : ∃ L6, L.take a ++ I ++ L.drop b = L6 := ⟨_, rfl⟩
            have hlen6 : L6.length ≤ L.length + 50 := by rw [← hL6]; have := HI.out.2; simp; omega
            rw [hL6] at V6
            have hn5 : n5 = L6.length := (Sl.parts V6.out.r).1
            subst hn5
            clear hL6
            have C6 := Lib.hid (lst_len V6.out.lst)
            go_wp2_with fail
            (with_reducible refine C6.out.mono ?_)
            rintro e w7 ⟨rfl, q7, hw⟩
            have V7 := V6.out.drewN q7
            rw [← hw] at V7
            replace V7 := Lib.hid V7
            clear hw
            clear C6
            have C7 := Lib.hid (lst_all V7.out.lst)
            go_wp2_with fail
            (with_reducible refine C7.out.mono ?_)
            rintro e w8 ⟨A8, n8, c8, rfl, ht8, hb8⟩
            have V8 := Lib.hid (And.intro (V7.out.later hb8) ht8)
            clear ht8 hb8 C7
            have C8 := Lib.hid (sameI_is (.slice A8 n8 c8) (.slice A5 L6.length c5) L6 L6 _ _ w8 V8.out.2 V8.out.1.r)
            simp only [decide_true] at C8
            go_wp2_with fail
            (with_reducible refine C8.out.mono ?_)
            rintro e w9 ⟨rfl, q9, hw⟩
            have V9 := V8.out.1.drewN q9
            rw [← hw] at V9
            replace V9 := Lib.hid V9
            clear hw
            clear C8
            go_wp2
            go_roundw
            case rel => exact ⟨q + 1, by omega, by omega, by go_num, _, _, _, rfl, ⟨_, _, V9.out, by have := V1.out.2; omega⟩⟩
            case measure => simp [intOf]; omega
      · have hor : q = n ∨ (q < n ∧ q = 60) := by omega
        clear hlt
        rcases hor with rfl | ⟨hqn, rfl⟩
        · go_wp2_with (go_at_call 11; refine (awake_yes _).mono ?_; rintro e w4 ⟨rfl, hb4⟩)
          go_ret
          exact ⟨rfl, V1.out.1.below.trans (hb4.mono V1.out.1.below.size)⟩
        · go_wp2_with (go_at_call 11; refine (awake_yes _).mono ?_; rintro e w4 ⟨rfl, hb4⟩)
          go_ret
          exact ⟨rfl, V1.out.1.below.trans (hb4.mono V1.out.1.below.size)⟩
end Go.Proofs.Ytganehhcnflgaaa

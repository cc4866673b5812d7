/- past: the document's event. -/
import Derived.Test.YtmhjhndnbgabjaaPxS
import Derived.Test.YtmhjhndnbgabjaaPxF
namespace Go.Proofs.Ytmhjhndnbgabjaa
open Go.RowKit
set_option linter.unusedVariables false
set_option linter.unusedSimpArgs false

/-- What is told of a name by the document. -/
def TellsV (ev : Option (List Int × Nat)) (w : World) (e : Ending) (w' : World) : Prop := ∃ A n c z, e = .returned (.tuple #[.slice A n c, .int .i64 z, .bool ev.isSome]) ∧ (∀ x, ev = some x → z = (x.2 : Nat) ∧ Txt w' (.slice A n c) x.1) ∧ Below w.heap.size w w'
theorem tellsV_of {r : Option (List Int)} {k : Nat} {z : Int} {A : Option Addr} {n c : Nat} {w w' : World} (hz : z = (k : Nat)) (ht : Txt w' (.slice A n c) (r.getD [])) (hb : Below w.heap.size w w') : TellsV (r.map fun l => (l, k)) w (.returned (.tuple #[.slice A n c, .int .i64 z, .bool r.isSome])) w' := by
  refine ⟨A, n, c, z, ?_, fun x hx => ?_, hb⟩
  · cases r <;> rfl
  · cases r with
    | none => cases hx
    | some l =>
      injection hx with hx
      subst hx
      exact ⟨hz, ht⟩
theorem add_at (b o n : Nat) : (⟨b, o, none⟩ : Addr).add n = ⟨b, o + n, none⟩ := by
  unfold Addr.add
  split
  · rename_i h; subst h; rfl
  · rfl
theorem notEnd_is (x : Int) : notEnd x = true ↔ (x ≠ 32 ∧ x ≠ 9 ∧ x ≠ 33) := by
  unfold notEnd
  simp only [Bool.not_eq_true', Bool.or_eq_false_iff, beq_eq_false_iff_ne, ne_eq]
  exact ⟨fun h => ⟨h.1.1, h.1.2, h.2⟩, fun h => ⟨⟨h.1, h.2.1⟩, h.2.2⟩⟩
theorem notQ_is (x : Int) : notQ x = true ↔ x ≠ 63 := by
  unfold notQ
  simp
set_option maxHeartbeats 8000000 in
set_option maxRecDepth 100000 in
theorem event_any (Al : Option Addr) (cl : Nat) (k : Int) (lv : Value) (M : List (List Int)) (A : Option Addr) (c : Nat) (s : List Int) (a : Nat) (w : World) (hL : Txts w (.slice Al M.length cl) M.reverse) (hn : M.length ≤ 1000) (hm : ∀ l ∈ M, l.length ≤ 100000) (hs : Txt w (.slice A s.length c) s) (hsl : s.length ≤ 100000) (ha : a ≤ s.length) :
    Calls Try.prog 29 #[.agg #[.slice Al M.length cl, .int .i64 k, lv], .slice A s.length c, .int .i64 (a : Nat)] w (TellsV (eventP M (s.drop a)) w) := by
  obtain ⟨-, -, -, hc, hc2⟩ := Sl.parts hs
  have HL := Lib.hid hL
  have HT := Lib.hid (fun Z (hZ : Below w.heap.size w Z) => (show Txt Z (.slice A s.length c) s from Txt.later hs hZ))
  have HM := Lib.hid hm
  obtain ⟨EV, hEV⟩ : ∃ EV, eventP M (s.drop a) = EV := ⟨_, rfl⟩
  have HEV := Lib.hid hEV
  rw [hEV]
  clear hL hs hm hEV
  go_enter Try.func29, Try.ntmps29
  go_upto_region 1 with fail
  refine at_world (fun X => Blk X w.heap.size #[.slice Al M.length cl, .int .i64 k, lv] ∧ Below w.heap.size w X) ⟨blk_new w _ _, belAl1 _ _⟩ ?_
  intro X hX
  have HX := Lib.hid hX
  clear hX
  by_cases h0 : a = s.length
  · subst h0
    obtain rfl : EV = some ([], 0) := by rw [← HEV.out, List.drop_length]; rfl
    have d0 : ((s.length : Int) == (s.length : Int)) = true := by simp
    clear HEV
    go_wp2
    go_ret3
    refine ⟨none, 0, 0, 0, rfl, fun x hx => ?_, HX.out.2⟩
    injection hx with hx
    subst hx
    exact ⟨rfl, Txt.nil _⟩
  · have hlt : a < s.length := by omega
    have d0 : ((a : Int) == (s.length : Int)) = false := by simp; omega
    have hA1 : (a : Int) < (s.length : Int) := by omega
    obtain ⟨b, o, rfl, hb, hcell⟩ := txt_at (HT.out w (Below.refl _ _)) hlt
    obtain ⟨x, hx⟩ : ∃ x, s.getD a 0 = x := ⟨_, rfl⟩
    obtain ⟨r, hr⟩ : ∃ r, s.drop (a + 1) = r := ⟨_, rfl⟩
    have ht : s.drop a = x :: r := by
      rw [List.drop_eq_getElem_cons hlt, hr, ← hx]
      congr 1
      simp [List.getD, hlt]
    have hrl : r.length + (a + 1) = s.length := by rw [← hr]; simp; omega
    rw [hx] at hcell
    have HC := Lib.hid (fun Z (hZ : Below w.heap.size w Z) => (hZ.cell (p := ⟨b, o + a, none⟩) hb).trans hcell)
    have HR := Lib.hid hr
    have HTT := Lib.hid ht
    have HRL := Lib.hid hrl
    rw [ht] at HEV
    have c0 := HC.out X HX.out.2
    have z0 : X.cell? ⟨w.heap.size, 0, none⟩ = some (.slice Al M.length cl) := (HX.out.1).2.1 0
    have z1 : X.cell? ⟨w.heap.size, 1, none⟩ = some (.int .i64 k) := (HX.out.1).2.1 1
    have z2 : X.cell? ⟨w.heap.size, 2, none⟩ = some (lv) := (HX.out.1).2.1 2
    have C := digits_any _ _ a X (HT.out X HX.out.2) (by omega) ha
    rw [ht] at C
    obtain ⟨⟨nn, kk⟩, hnk⟩ : ∃ R, numP 4 0 (x :: r) = R := ⟨_, rfl⟩
    have hnn := num_small (x :: r)
    have hkk := (numP_le 4 0 (x :: r)).2
    rw [hnk] at C hnn hkk
    dsimp only at C hnn hkk
    have C := Lib.hid C
    have HNK := Lib.hid hnk
    clear hnk hcell hx hr ht hrl
    go_wp2_with fail
    refine C.out.mono ?_
    rintro e w5 ⟨rfl, rfl⟩
    clear C
    by_cases h33 : x = 33
    · subst h33
      have hEV2 : EV = (backP M 1).map fun l => (l, 1) := by rw [← HEV.out]; rw [eventP_cons, if_pos rfl]
      have C := Lib.hid (rback_any (.slice Al M.length cl) lv k 1 M X (HL.out.later HX.out.2) hn (by omega) (by omega))
      obtain ⟨R, hR⟩ : ∃ R, backP M 1 = R := ⟨_, rfl⟩
      rw [hR] at C hEV2
      have HE2 := Lib.hid hEV2
      clear hR hEV2
      go_wp2_with fail
      refine C.out.mono ?_
      rintro e w5 ⟨A5, n5, c5, rfl, ht5, hb5⟩
      have H5 := Lib.hid (And.intro ht5 (HX.out.2.trans (hb5.mono HX.out.2.size)))
      clear ht5 hb5 C
      go_wp2
      go_ret3
      rw [HE2.out]
      exact tellsV_of rfl H5.out.1 H5.out.2
    · have d33 : (x == 33) = false := by simpa using h33
      by_cases hk0 : 0 < kk
      · have d1 : decide ((0 : Int) < (kk : Int)) = true := by simp; omega
        have d2 : (0 : Int) < (kk : Int) := by omega
        obtain ⟨z, hz⟩ : ∃ z : Int, (M.length : Int) + 1 - (nn : Int) = z := ⟨_, rfl⟩
        have hEV2 : EV = (backP M z).map fun l => (l, kk) := by
          rw [← HEV.out]
          rw [eventP_cons, if_neg h33, HNK.out, if_pos hk0]
          simp only
          rw [hz]
        obtain ⟨L1, hL1⟩ : ∃ L1 : Nat, M.length + 1 = L1 := ⟨_, rfl⟩
        have f1 : IntKind.i64.wrap ((M.length : Int) + 1) = (L1 : Int) := by rw [show (M.length : Int) + 1 = (L1 : Int) by omega]; exact IntWalk.i64_in _ (by omega)
        have f2 : IntKind.i64.wrap ((L1 : Int) - (nn : Int)) = z := by rw [show (L1 : Int) - (nn : Int) = z by omega]; exact IntWalk.i64_in _ (by omega)
        have C := Lib.hid (rback_any (.slice Al M.length cl) lv k z M X (HL.out.later HX.out.2) hn (by omega) (by omega))
        clear hL1
        obtain ⟨R, hR⟩ : ∃ R, backP M z = R := ⟨_, rfl⟩
        rw [hR] at C hEV2
        have HE2 := Lib.hid hEV2
        clear hR hEV2
        go_wp2_with fail
        refine C.out.mono ?_
        rintro e w5 ⟨A5, n5, c5, rfl, ht5, hb5⟩
        have H5 := Lib.hid (And.intro ht5 (HX.out.2.trans (hb5.mono HX.out.2.size)))
        clear ht5 hb5 C
        go_wp2
        go_ret3
        rw [HE2.out]
        exact tellsV_of rfl H5.out.1 H5.out.2
      · obtain rfl : kk = 0 := by omega
        have d1 : decide ((0 : Int) < ((0 : Nat) : Int)) = false := by simp
        have hE1 : ((a : Int) + 1) = ((a + 1 : Nat) : Int) := by omega
        obtain ⟨E, hE⟩ : ∃ E, a + 1 = E := ⟨_, rfl⟩
        rw [hE] at hE1
        have hE2 : IntKind.i64.wrap (E : Int) = (E : Int) := IntWalk.i64_in _ (by omega)
        have C := digits_any _ _ E X (HT.out X HX.out.2) (by omega) (by omega)
        rw [show s.drop E = r by rw [← hE]; exact HR.out] at C
        obtain ⟨⟨n2, k2⟩, hnk2⟩ : ∃ R, numP 4 0 r = R := ⟨_, rfl⟩
        have hn2 := num_small r
        have hk2 := (numP_le 4 0 r).2
        rw [hnk2] at C hn2 hk2
        dsimp only at C hn2 hk2
        have C := Lib.hid C
        have hEV3 : EV = if x = 45 ∧ 0 < k2 then (backP M n2).map fun l => (l, k2 + 1)
            else if x = 63 then (newestP M fun l => hasP l (r.takeWhile notQ)).map fun l => (l, if (r.takeWhile notQ).length < r.length then (r.takeWhile notQ).length + 2 else r.length + 1)
            else if ((x :: r).takeWhile notEnd).length = 0 then some ([], 0)
            else (newestP M fun l => begP l ((x :: r).takeWhile notEnd)).map fun l => (l, ((x :: r).takeWhile notEnd).length) := by
          rw [← HEV.out, eventP_cons, if_neg h33, HNK.out, if_neg (by simp), hnk2]
        have HEV3 := Lib.hid hEV3
        have HE := Lib.hid hE
        clear hnk2 hEV3 HEV HNK hnn hkk hk0 hE
        go_upto_region 10 with fail
        go_wp2_with fail
        refine C.out.mono ?_
        rintro e w5 ⟨rfl, rfl⟩
        clear C
        obtain ⟨qd, hqd⟩ : ∃ qd, decide (x = 45 ∧ 0 < k2) = qd := ⟨_, rfl⟩
        go_upto_region 11 with fail
        go_cut [76] (fun s wx => s = .bool qd ∧ X = wx)
        case first =>
          by_cases h45 : x = 45
          · subst h45
            by_cases hk : 0 < k2
            · obtain rfl : qd = true := by rw [← hqd]; exact decide_eq_true ⟨rfl, hk⟩
              have d3 : decide ((0 : Int) < (k2 : Int)) = true := by simp; omega
              clear hqd
              go_wp2_with fail
              go_meet
              exact ⟨rfl, rfl⟩
            · obtain rfl : qd = false := by rw [← hqd]; exact decide_eq_false fun h => hk h.2
              have d3 : decide ((0 : Int) < (k2 : Int)) = false := by simp; omega
              clear hqd
              go_wp2_with fail
              go_meet
              exact ⟨rfl, rfl⟩
          · obtain rfl : qd = false := by rw [← hqd]; exact decide_eq_false fun h => h45 h.1
            have d3 : (x == 45) = false := by simpa using h45
            clear hqd
            go_wp2_with fail
            go_meet
            exact ⟨rfl, rfl⟩
        case rest =>
          obtain ⟨rfl, rfl⟩ := hcut
          cases qd
          case true =>
            have hx := of_decide_eq_true hqd
            have hEV2 := HEV3.out
            rw [if_pos hx] at hEV2
            have C := Lib.hid (rback_any (.slice Al M.length cl) lv k n2 M X (HL.out.later HX.out.2) hn (by omega) (by omega))
            clear HEV3 hqd hx
            obtain ⟨R, hR⟩ : ∃ R, backP M n2 = R := ⟨_, rfl⟩
            rw [hR] at C hEV2
            have HE2 := Lib.hid hEV2
            clear hR hEV2
            go_wp2_with fail
            refine C.out.mono ?_
            rintro e w5 ⟨A5, n5, c5, rfl, ht5, hb5⟩
            have H5 := Lib.hid (And.intro ht5 (HX.out.2.trans (hb5.mono HX.out.2.size)))
            clear ht5 hb5 C
            go_wp2
            go_ret3
            rw [HE2.out]
            exact tellsV_of (by omega) H5.out.1 H5.out.2
          case false =>
            have hx := of_decide_eq_false hqd
            have hEV2 := HEV3.out
            rw [if_neg hx] at hEV2
            clear hqd hx HEV3
            by_cases h63 : x = 63
            · subst h63
              rw [if_pos rfl] at hEV2
              have HEV4 := Lib.hid hEV2
              clear hEV2
              obtain ⟨m, hm⟩ : ∃ m, (r.takeWhile notQ).length = m := ⟨_, rfl⟩
              have HTW := Lib.hid hm
              have hml := tw_le notQ r
              rw [hm] at hml
              have H0 := Lib.hid (twAt_zero notQ r)
              clear hm
              go_upto_region 15 with fail
              go_wp2
              go_loop [17] (fun i => ∃ j : Nat, j ≤ r.length ∧ i = .int .i64 ((E + j : Nat) : Int) ∧ Hid (twAt notQ r j)) (fun i => s.length - (intOf i).toNat)
              case atStart => exact ⟨0, Nat.zero_le _, rfl, H0⟩
              case round =>
                obtain ⟨j, hj, rfl, HJ⟩ := hrel
                obtain ⟨g, hg⟩ : ∃ g, E + j = g := ⟨_, rfl⟩
                rw [hg]
                have HG := Lib.hid hg
                have hEa := HE.out
                have hRL := HRL.out
                by_cases hjr : j < r.length
                · have hgs : g < s.length := by omega
                  obtain ⟨b', o', e', _, hcy⟩ := txt_at (HT.out w (Below.refl _ _)) hgs
                  injection e' with e'
                  injection e' with x1 x2
                  subst x1; subst x2
                  obtain ⟨y, hy⟩ : ∃ y, s.getD g 0 = y := ⟨_, rfl⟩
                  have hry : r.getD j 0 = y := by
                    rw [← HR.out, ← hy, ← hg, ← hEa]
                    simp only [List.getD, List.getElem?_drop]
                  rw [hy] at hcy
                  have hcv := (HX.out.2.cell (p := ⟨b, o + g, none⟩) hb).trans hcy
                  have e1 : decide ((g : Int) < (s.length : Int)) = true := by simp; omega
                  have e3 : (g : Int) < (s.length : Int) := by omega
                  have e4 : (0 : Int) ≤ (g : Int) := by omega
                  by_cases hq : y = 63
                  · subst hq
                    obtain rfl : m = j := by rw [← HTW.out]; exact twAt_end HJ.out (.inr (by rw [hry]; rfl))
                    clear hcy hy hry hEa hRL hg HJ
                    obtain ⟨AT, hAT⟩ : ∃ AT, (if c = E then (some ⟨b, o, none⟩ : Option Addr) else some ⟨b, o + E, none⟩) = AT := ⟨_, rfl⟩
                    obtain ⟨cT, hcT⟩ : ∃ cT, c - E = cT := ⟨_, rfl⟩
                    have hgm : g - E = m := by have := HG.out; omega
                    have HTM := Lib.hid (fun Z (hZ : Below w.heap.size w Z) => (show Txt Z (.slice AT m cT) (r.takeWhile notQ) from by
                      have h := txt_sub (HT.out Z hZ) (i := E) (n := m) (by have := HG.out; have := HE.out; have := HRL.out; omega)
                      rw [show (s.drop E).take m = r.takeWhile notQ by rw [tw_take, HTW.out, ← HE.out, HR.out], hcT] at h
                      rw [← hAT]
                      simp only [Option.map_some, add_at] at h
                      exact h))
                    have m1 : (E : Int) ≤ (g : Int) := by have := HG.out; omega
                    have m2 : (g : Int) ≤ (c : Int) := by have := HG.out; omega
                    have m3 : (E : Int) ≤ (c : Int) := by omega
                    have C := Lib.hid (fun Z (hZ : Below X.heap.size X Z) => rnamed_any Al cl k lv M (.slice AT m cT) (r.takeWhile notQ) true Z (HL.out.later (HX.out.2.trans (hZ.mono HX.out.2.size))) hn HM.out (HTM.out Z (HX.out.2.trans (hZ.mono HX.out.2.size))) (by rw [HTW.out]; have := HRL.out; omega))
                    have eR : newestP M (fun l => fitQ true l (r.takeWhile notQ)) = newestP M (fun l => hasP l (r.takeWhile notQ)) := by congr 1
                    obtain ⟨R, hR⟩ : ∃ R, newestP M (fun l => hasP l (r.takeWhile notQ)) = R := ⟨_, rfl⟩
                    have hEV5 := HEV4.out
                    rw [HTW.out, hR] at hEV5
                    rw [eR, hR] at C
                    have HEV5 := Lib.hid hEV5
                    have HSS := Lib.hid (show ∀ Z, Below X.heap.size X Z → (fun Z => Z.cell? ⟨w.heap.size, 0, none⟩ = some (.slice Al M.length cl) ∧ Z.cell? ⟨w.heap.size, 1, none⟩ = some (.int .i64 k) ∧ Z.cell? ⟨w.heap.size, 2, none⟩ = some (lv)) Z from fun Z hZ => by
                      have h := HX.out.1.later hZ HX.out.1.1
                      exact ⟨h.2.1 0, h.2.1 1, h.2.1 2⟩)
                    clear eR hR hEV5 HEV4 c0
                    go_upto_region 18 with fail
                    go_cut [18, 19] from 108 to 116 (fun s1 s2 wx => ∃ A5 n5 c5, s1 = .slice A5 n5 c5 ∧ s2 = .bool R.isSome ∧ Hid (Txt wx (.slice A5 n5 c5) (R.getD []) ∧ Below w.heap.size w wx))
                    case first =>
                      go_region_held3 (fun Z => Z.cell? ⟨w.heap.size, 0, none⟩ = some (.slice Al M.length cl) ∧ Z.cell? ⟨w.heap.size, 1, none⟩ = some (.int .i64 k) ∧ Z.cell? ⟨w.heap.size, 2, none⟩ = some (lv))
                        (first | with_reducible exact HSS.out _ B5.out | with_reducible exact HSS.out _ (Below.refl _ _) | with_reducible exact HSS.out _ (Below.refl _ _).drew)
                        (first
                        | (go_at_call 43; refine (C.out _ (by first | with_reducible exact Below.refl _ _ | with_reducible exact (Below.refl _ _).drew)).mono ?_; rintro e w5 ⟨A5, n5, c5, rfl, t5, b5⟩; have T5 := Lib.hid t5; have B5 := Lib.hid (show Below X.heap.size X w5 from (Below.refl X.heap.size X).drew.trans b5); clear b5 t5))
                      go_wp2_with fail
                      go_meet
                      exact ⟨_, _, _, rfl, rfl, Lib.hid ⟨T5.out, HX.out.2.trans (B5.out.mono HX.out.2.size)⟩⟩
                    case rest =>
                      obtain ⟨A5, n5, c5, rfl, rfl, H5⟩ := hcut
                      clear HSS C
                      have f6 : IntKind.i64.wrap ((g : Int) + 1) = ((g + 1 : Nat) : Int) := by rw [show (g : Int) + 1 = ((g + 1 : Nat) : Int) by omega]; exact IntWalk.i64_in _ (by omega)
                      have f7 : IntKind.i64.wrap (((g + 1 : Nat) : Int) - (a : Int)) = ((m + 2 : Nat) : Int) := by rw [show ((g + 1 : Nat) : Int) - (a : Int) = ((m + 2 : Nat) : Int) by have := HG.out; have := HE.out; omega]; exact IntWalk.i64_in _ (by omega)
                      go_wp2
                      go_ret3
                      rw [HEV5.out, if_pos hjr]
                      exact tellsV_of (by have := HG.out; have := HE.out; have := HRL.out; omega) H5.out.1 H5.out.2
                  · have e2 : (y == 63) = false := by simpa using hq
                    have HJ2 := Lib.hid (twAt_succ HJ.out hjr (by rw [hry]; exact (notQ_is y).2 hq))
                    clear hcy hy hry hEa hRL hg HJ
                    go_wp2
                    go_round
                    case rel => exact ⟨j + 1, by omega, by have := HG.out; go_num, HJ2⟩
                    case measure => simp [intOf]; omega
                · obtain rfl : j = r.length := by omega
                  obtain rfl : g = s.length := by omega
                  obtain rfl : m = r.length := by rw [← HTW.out]; exact twAt_end HJ.out (.inl (Nat.le_refl _))
                  have e1 : decide ((s.length : Int) < (s.length : Int)) = false := by simp
                  clear hEa hRL hg HJ
                  obtain ⟨AT, hAT⟩ : ∃ AT, (if c = E then (some ⟨b, o, none⟩ : Option Addr) else some ⟨b, o + E, none⟩) = AT := ⟨_, rfl⟩
                  obtain ⟨cT, hcT⟩ : ∃ cT, c - E = cT := ⟨_, rfl⟩
                  have hgm : s.length - E = r.length := by have := HG.out; omega
                  have HTM := Lib.hid (fun Z (hZ : Below w.heap.size w Z) => (show Txt Z (.slice AT r.length cT) (r.takeWhile notQ) from by
                    have h := txt_sub (HT.out Z hZ) (i := E) (n := r.length) (by have := HG.out; have := HE.out; have := HRL.out; omega)
                    rw [show (s.drop E).take r.length = r.takeWhile notQ by rw [tw_take, HTW.out, ← HE.out, HR.out], hcT] at h
                    rw [← hAT]
                    simp only [Option.map_some, add_at] at h
                    exact h))
                  have m1 : (E : Int) ≤ (s.length : Int) := by have := HG.out; omega
                  have m2 : (s.length : Int) ≤ (c : Int) := by have := HG.out; omega
                  have m3 : (E : Int) ≤ (c : Int) := by omega
                  have C := Lib.hid (fun Z (hZ : Below X.heap.size X Z) => rnamed_any Al cl k lv M (.slice AT r.length cT) (r.takeWhile notQ) true Z (HL.out.later (HX.out.2.trans (hZ.mono HX.out.2.size))) hn HM.out (HTM.out Z (HX.out.2.trans (hZ.mono HX.out.2.size))) (by rw [HTW.out]; have := HRL.out; omega))
                  have eR : newestP M (fun l => fitQ true l (r.takeWhile notQ)) = newestP M (fun l => hasP l (r.takeWhile notQ)) := by congr 1
                  obtain ⟨R, hR⟩ : ∃ R, newestP M (fun l => hasP l (r.takeWhile notQ)) = R := ⟨_, rfl⟩
                  have hEV5 := HEV4.out
                  rw [HTW.out, hR] at hEV5
                  rw [eR, hR] at C
                  have HEV5 := Lib.hid hEV5
                  have HSS := Lib.hid (show ∀ Z, Below X.heap.size X Z → (fun Z => Z.cell? ⟨w.heap.size, 0, none⟩ = some (.slice Al M.length cl) ∧ Z.cell? ⟨w.heap.size, 1, none⟩ = some (.int .i64 k) ∧ Z.cell? ⟨w.heap.size, 2, none⟩ = some (lv)) Z from fun Z hZ => by
                    have h := HX.out.1.later hZ HX.out.1.1
                    exact ⟨h.2.1 0, h.2.1 1, h.2.1 2⟩)
                  clear eR hR hEV5 HEV4 c0
                  go_upto_region 18 with fail
                  go_cut [18, 19] from 108 to 116 (fun s1 s2 wx => ∃ A5 n5 c5, s1 = .slice A5 n5 c5 ∧ s2 = .bool R.isSome ∧ Hid (Txt wx (.slice A5 n5 c5) (R.getD []) ∧ Below w.heap.size w wx))
                  case first =>
                    go_region_held3 (fun Z => Z.cell? ⟨w.heap.size, 0, none⟩ = some (.slice Al M.length cl) ∧ Z.cell? ⟨w.heap.size, 1, none⟩ = some (.int .i64 k) ∧ Z.cell? ⟨w.heap.size, 2, none⟩ = some (lv))
                      (first | with_reducible exact HSS.out _ B5.out | with_reducible exact HSS.out _ (Below.refl _ _) | with_reducible exact HSS.out _ (Below.refl _ _).drew)
                      (first
                      | (go_at_call 43; refine (C.out _ (by first | with_reducible exact Below.refl _ _ | with_reducible exact (Below.refl _ _).drew)).mono ?_; rintro e w5 ⟨A5, n5, c5, rfl, t5, b5⟩; have T5 := Lib.hid t5; have B5 := Lib.hid (show Below X.heap.size X w5 from (Below.refl X.heap.size X).drew.trans b5); clear b5 t5))
                    go_wp2_with fail
                    go_meet
                    exact ⟨_, _, _, rfl, rfl, Lib.hid ⟨T5.out, HX.out.2.trans (B5.out.mono HX.out.2.size)⟩⟩
                  case rest =>
                    obtain ⟨A5, n5, c5, rfl, rfl, H5⟩ := hcut
                    clear HSS C
                    have f7 : IntKind.i64.wrap ((s.length : Int) - (a : Int)) = ((r.length + 1 : Nat) : Int) := by rw [show (s.length : Int) - (a : Int) = ((r.length + 1 : Nat) : Int) by have := HRL.out; omega]; exact IntWalk.i64_in _ (by omega)
                    go_wp2
                    go_ret3
                    rw [HEV5.out, if_neg (by omega)]
                    exact tellsV_of (by have := HG.out; have := HE.out; have := HRL.out; omega) H5.out.1 H5.out.2
            · have d63 : (x == 63) = false := by simpa using h63
              rw [if_neg h63] at hEV2
              have HEV4 := Lib.hid hEV2
              clear hEV2
              obtain ⟨m, hm⟩ : ∃ m, ((x :: r).takeWhile notEnd).length = m := ⟨_, rfl⟩
              have HTW := Lib.hid hm
              have hml := tw_le notEnd (x :: r)
              rw [hm] at hml
              have H0 := Lib.hid (twAt_zero notEnd (x :: r))
              obtain ⟨NN, hNN⟩ : ∃ NN, (x :: r).length = NN := ⟨_, rfl⟩
              have hNa : a + NN = s.length := by rw [← hNN]; have := HRL.out; simp only [List.length_cons]; omega
              rw [hNN] at hml
              have HNN := Lib.hid hNN
              clear hm hNN
              go_upto_region 22 with fail
              go_wp2
              go_loop [20] (fun i => ∃ j : Nat, j ≤ NN ∧ i = .int .i64 ((a + j : Nat) : Int) ∧ Hid (twAt notEnd (x :: r) j)) (fun i => s.length - (intOf i).toNat)
              case atStart => exact ⟨0, Nat.zero_le _, rfl, H0⟩
              case round =>
                obtain ⟨j, hj, rfl, HJ⟩ := hrel
                obtain ⟨g, hg⟩ : ∃ g, a + j = g := ⟨_, rfl⟩
                rw [hg]
                have HG := Lib.hid hg
                have hRL := HRL.out
                by_cases hjr : j < NN
                · have hgs : g < s.length := by omega
                  obtain ⟨b', o', e', _, hcy⟩ := txt_at (HT.out w (Below.refl _ _)) hgs
                  injection e' with e'
                  injection e' with x1 x2
                  subst x1; subst x2
                  obtain ⟨y, hy⟩ : ∃ y, s.getD g 0 = y := ⟨_, rfl⟩
                  have hry : (x :: r).getD j 0 = y := by
                    rw [← HTT.out, ← hy, ← hg]
                    simp only [List.getD, List.getElem?_drop]
                  rw [hy] at hcy
                  have hcv := (HX.out.2.cell (p := ⟨b, o + g, none⟩) hb).trans hcy
                  have e1 : decide ((g : Int) < (s.length : Int)) = true := by simp; omega
                  have e3 : (g : Int) < (s.length : Int) := by omega
                  have e4 : (0 : Int) ≤ (g : Int) := by omega
                  have hjl : j < (x :: r).length := by rw [HNN.out]; exact hjr
                  cases hq : notEnd y with
                  | false =>
                    obtain rfl : m = j := by rw [← HTW.out]; exact twAt_end HJ.out (.inr (by rw [hry]; exact hq))
                    have hq2 : y = 32 ∨ (y ≠ 32 ∧ y = 9) ∨ (y ≠ 32 ∧ y ≠ 9 ∧ y = 33) := by
                      by_cases q1 : y = 32
                      · exact .inl q1
                      · by_cases q2 : y = 9
                        · exact .inr (.inl ⟨q1, q2⟩)
                        · by_cases q3 : y = 33
                          · exact .inr (.inr ⟨q1, q2, q3⟩)
                          · rw [(notEnd_is y).2 ⟨q1, q2, q3⟩] at hq; cases hq
                    clear hcy hy hry hRL hg HJ hq hjl
                    go_upto_region 23 with fail
                    go_cut [153] from 129 to 155 (fun s1 wx => s1 = .bool false ∧ X = wx)
                    case first =>
                      rcases hq2 with rfl | ⟨q1, rfl⟩ | ⟨q1, q2, rfl⟩
                      · go_wp2_with fail
                        go_meet
                        exact ⟨rfl, rfl⟩
                      · go_wp2_with fail
                        go_meet
                        exact ⟨rfl, rfl⟩
                      · go_wp2_with fail
                        go_meet
                        exact ⟨rfl, rfl⟩
                    case rest =>
                      obtain ⟨rfl, rfl⟩ := hcut
                      clear hcv hq2
                      by_cases hm0 : m = 0
                      · subst hm0
                        obtain rfl : g = a := HG.out.symm
                        have e2 : ((g : Int) == (g : Int)) = true := by simp
                        have hEV5 := HEV4.out
                        rw [if_pos HTW.out] at hEV5
                        have HEV5 := Lib.hid hEV5
                        clear hEV5 HEV4
                        go_wp2
                        go_ret3
                        rw [HEV5.out]
                        refine ⟨none, 0, 0, 0, rfl, fun x hx => ?_, HX.out.2⟩
                        injection hx with hx
                        subst hx
                        exact ⟨rfl, Txt.nil _⟩
                      · have e2 : ((g : Int) == (a : Int)) = false := by have := HG.out; simp; omega
                        obtain ⟨AT, hAT⟩ : ∃ AT, (if c = a then (some ⟨b, o, none⟩ : Option Addr) else some ⟨b, o + a, none⟩) = AT := ⟨_, rfl⟩
                        obtain ⟨cT, hcT⟩ : ∃ cT, c - a = cT := ⟨_, rfl⟩
                        have hgm : g - a = m := by have := HG.out; omega
                        have HTM := Lib.hid (fun Z (hZ : Below w.heap.size w Z) => (show Txt Z (.slice AT m cT) ((x :: r).takeWhile notEnd) from by
                          have h := txt_sub (HT.out Z hZ) (i := a) (n := m) (by have := HG.out; have := HE.out; have := HRL.out; omega)
                          rw [show (s.drop a).take m = (x :: r).takeWhile notEnd by rw [HTT.out, tw_take, HTW.out], hcT] at h
                          rw [← hAT]
                          simp only [Option.map_some, add_at] at h
                          exact h))
                        have m1 : (a : Int) ≤ (g : Int) := by have := HG.out; omega
                        have m2 : (g : Int) ≤ (c : Int) := by have := HG.out; omega
                        have m3 : (a : Int) ≤ (c : Int) := by omega
                        have C := Lib.hid (fun Z (hZ : Below X.heap.size X Z) => rnamed_any Al cl k lv M (.slice AT m cT) ((x :: r).takeWhile notEnd) false Z (HL.out.later (HX.out.2.trans (hZ.mono HX.out.2.size))) hn HM.out (HTM.out Z (HX.out.2.trans (hZ.mono HX.out.2.size))) (by rw [HTW.out]; have := HRL.out; omega))
                        have eR : newestP M (fun l => fitQ false l ((x :: r).takeWhile notEnd)) = newestP M (fun l => begP l ((x :: r).takeWhile notEnd)) := by congr 1
                        obtain ⟨R, hR⟩ : ∃ R, newestP M (fun l => begP l ((x :: r).takeWhile notEnd)) = R := ⟨_, rfl⟩
                        have hEV5 := HEV4.out
                        rw [HTW.out, hR] at hEV5
                        rw [eR, hR] at C
                        have HEV5 := Lib.hid hEV5
                        have HSS := Lib.hid (show ∀ Z, Below X.heap.size X Z → (fun Z => Z.cell? ⟨w.heap.size, 0, none⟩ = some (.slice Al M.length cl) ∧ Z.cell? ⟨w.heap.size, 1, none⟩ = some (.int .i64 k) ∧ Z.cell? ⟨w.heap.size, 2, none⟩ = some (lv)) Z from fun Z hZ => by
                          have h := HX.out.1.later hZ HX.out.1.1
                          exact ⟨h.2.1 0, h.2.1 1, h.2.1 2⟩)
                        clear eR hR hEV5 HEV4 c0
                        go_upto_region 27 with fail
                        go_cut [21, 22] from 160 to 167 (fun s1 s2 wx => ∃ A5 n5 c5, s1 = .slice A5 n5 c5 ∧ s2 = .bool R.isSome ∧ Hid (Txt wx (.slice A5 n5 c5) (R.getD []) ∧ Below w.heap.size w wx))
                        case first =>
                          go_region_held3 (fun Z => Z.cell? ⟨w.heap.size, 0, none⟩ = some (.slice Al M.length cl) ∧ Z.cell? ⟨w.heap.size, 1, none⟩ = some (.int .i64 k) ∧ Z.cell? ⟨w.heap.size, 2, none⟩ = some (lv))
                            (first | with_reducible exact HSS.out _ B5.out | with_reducible exact HSS.out _ (Below.refl _ _) | with_reducible exact HSS.out _ (Below.refl _ _).drew)
                            (first
                            | (go_at_call 43; refine (C.out _ (by first | with_reducible exact Below.refl _ _ | with_reducible exact (Below.refl _ _).drew)).mono ?_; rintro e w5 ⟨A5, n5, c5, rfl, t5, b5⟩; have T5 := Lib.hid t5; have B5 := Lib.hid (show Below X.heap.size X w5 from (Below.refl X.heap.size X).drew.trans b5); clear b5 t5))
                          go_wp2_with fail
                          go_meet
                          exact ⟨_, _, _, rfl, rfl, Lib.hid ⟨T5.out, HX.out.2.trans (B5.out.mono HX.out.2.size)⟩⟩
                        case rest =>
                          obtain ⟨A5, n5, c5, rfl, rfl, H5⟩ := hcut
                          clear HSS C
                          go_wp2
                          go_ret3
                          rw [HEV5.out, if_neg hm0]
                          exact tellsV_of (by have := HG.out; omega) H5.out.1 H5.out.2
                  | true =>
                    obtain ⟨q1, q2, q3⟩ := (notEnd_is y).1 hq
                    have u1 : (y == 32) = false := by simpa using q1
                    have u2 : (y == 9) = false := by simpa using q2
                    have u3 : (y == 33) = false := by simpa using q3
                    have v1 : (y != 32) = true := by simpa using q1
                    have v2 : (y != 9) = true := by simpa using q2
                    have v3 : (y != 33) = true := by simpa using q3
                    have HJ2 := Lib.hid (twAt_succ HJ.out hjl (by rw [hry]; exact hq))
                    clear hcy hy hry hRL hg HJ hq q1 q2 q3 hjl
                    go_wp2
                    go_round
                    case rel => exact ⟨j + 1, by omega, by have := HG.out; go_num, HJ2⟩
                    case measure => simp [intOf]; omega
                · obtain rfl : j = NN := by omega
                  obtain rfl : g = s.length := by omega
                  obtain rfl : m = j := by rw [← HTW.out]; exact twAt_end HJ.out (.inl (by rw [HNN.out]; exact Nat.le_refl _))
                  have e1 : decide ((s.length : Int) < (s.length : Int)) = false := by simp
                  have e2 : ((s.length : Int) == (a : Int)) = false := by simp; omega
                  clear hRL hg HJ
                  obtain ⟨AT, hAT⟩ : ∃ AT, (if c = a then (some ⟨b, o, none⟩ : Option Addr) else some ⟨b, o + a, none⟩) = AT := ⟨_, rfl⟩
                  obtain ⟨cT, hcT⟩ : ∃ cT, c - a = cT := ⟨_, rfl⟩
                  have hgm : s.length - a = m := by have := HG.out; omega
                  have HTM := Lib.hid (fun Z (hZ : Below w.heap.size w Z) => (show Txt Z (.slice AT m cT) ((x :: r).takeWhile notEnd) from by
                    have h := txt_sub (HT.out Z hZ) (i := a) (n := m) (by have := HG.out; have := HE.out; have := HRL.out; omega)
                    rw [show (s.drop a).take m = (x :: r).takeWhile notEnd by rw [HTT.out, tw_take, HTW.out], hcT] at h
                    rw [← hAT]
                    simp only [Option.map_some, add_at] at h
                    exact h))
                  have m1 : (a : Int) ≤ (s.length : Int) := by have := HG.out; omega
                  have m2 : (s.length : Int) ≤ (c : Int) := by have := HG.out; omega
                  have m3 : (a : Int) ≤ (c : Int) := by omega
                  have C := Lib.hid (fun Z (hZ : Below X.heap.size X Z) => rnamed_any Al cl k lv M (.slice AT m cT) ((x :: r).takeWhile notEnd) false Z (HL.out.later (HX.out.2.trans (hZ.mono HX.out.2.size))) hn HM.out (HTM.out Z (HX.out.2.trans (hZ.mono HX.out.2.size))) (by rw [HTW.out]; have := HRL.out; omega))
                  have eR : newestP M (fun l => fitQ false l ((x :: r).takeWhile notEnd)) = newestP M (fun l => begP l ((x :: r).takeWhile notEnd)) := by congr 1
                  obtain ⟨R, hR⟩ : ∃ R, newestP M (fun l => begP l ((x :: r).takeWhile notEnd)) = R := ⟨_, rfl⟩
                  have hEV5 := HEV4.out
                  rw [HTW.out, hR] at hEV5
                  rw [eR, hR] at C
                  have HEV5 := Lib.hid hEV5
                  have HSS := Lib.hid (show ∀ Z, Below X.heap.size X Z → (fun Z => Z.cell? ⟨w.heap.size, 0, none⟩ = some (.slice Al M.length cl) ∧ Z.cell? ⟨w.heap.size, 1, none⟩ = some (.int .i64 k) ∧ Z.cell? ⟨w.heap.size, 2, none⟩ = some (lv)) Z from fun Z hZ => by
                    have h := HX.out.1.later hZ HX.out.1.1
                    exact ⟨h.2.1 0, h.2.1 1, h.2.1 2⟩)
                  clear eR hR hEV5 HEV4 c0
                  go_upto_region 27 with fail
                  go_cut [21, 22] from 160 to 167 (fun s1 s2 wx => ∃ A5 n5 c5, s1 = .slice A5 n5 c5 ∧ s2 = .bool R.isSome ∧ Hid (Txt wx (.slice A5 n5 c5) (R.getD []) ∧ Below w.heap.size w wx))
                  case first =>
                    go_region_held3 (fun Z => Z.cell? ⟨w.heap.size, 0, none⟩ = some (.slice Al M.length cl) ∧ Z.cell? ⟨w.heap.size, 1, none⟩ = some (.int .i64 k) ∧ Z.cell? ⟨w.heap.size, 2, none⟩ = some (lv))
                      (first | with_reducible exact HSS.out _ B5.out | with_reducible exact HSS.out _ (Below.refl _ _) | with_reducible exact HSS.out _ (Below.refl _ _).drew)
                      (first
                      | (go_at_call 43; refine (C.out _ (by first | with_reducible exact Below.refl _ _ | with_reducible exact (Below.refl _ _).drew)).mono ?_; rintro e w5 ⟨A5, n5, c5, rfl, t5, b5⟩; have T5 := Lib.hid t5; have B5 := Lib.hid (show Below X.heap.size X w5 from (Below.refl X.heap.size X).drew.trans b5); clear b5 t5))
                    go_wp2_with fail
                    go_meet
                    exact ⟨_, _, _, rfl, rfl, Lib.hid ⟨T5.out, HX.out.2.trans (B5.out.mono HX.out.2.size)⟩⟩
                  case rest =>
                    obtain ⟨A5, n5, c5, rfl, rfl, H5⟩ := hcut
                    clear HSS C
                    have hm0 : m ≠ 0 := by omega
                    go_wp2
                    go_ret3
                    rw [HEV5.out, if_neg hm0]
                    exact tellsV_of (by have := HG.out; omega) H5.out.1 H5.out.2
end Go.Proofs.Ytmhjhndnbgabjaa

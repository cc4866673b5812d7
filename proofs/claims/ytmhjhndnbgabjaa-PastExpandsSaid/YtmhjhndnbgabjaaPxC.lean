/- past: named. -/
import Derived.Test.YtmhjhndnbgabjaaPxN
import Derived.Test.YtmhjhndnbgabjaaPxM
import Derived.OwnWalk
namespace Go.Proofs.Ytmhjhndnbgabjaa
open Go.RowKit
set_option linter.unusedVariables false
set_option linter.unusedSimpArgs false

/-- What is told of a name. -/
def TellsE (ev : Option (List Int × Nat)) (a : Nat) (w : World) (e : Ending) (w' : World) : Prop := ∃ A n c z, e = .returned (.tuple #[.slice A n c, .int .i64 z, .int .i64 (errO ev)]) ∧ (∀ x, ev = some x → z = ((a + 1 + x.2 : Nat) : Int) ∧ Txt w' (.slice A n c) (if x.2 = 0 then [33] else x.1)) ∧ Below w.heap.size w w'
theorem tellsE_of {r : Option (List Int)} {k a : Nat} {z : Int} {A : Option Addr} {n c : Nat} {w w' : World} (hk : k ≠ 0) (hz : z = ((a + 1 + k : Nat) : Int)) (ht : Txt w' (.slice A n c) (r.getD [])) (hb : Below w.heap.size w w') : TellsE (r.map fun l => (l, k)) a w (.returned (.tuple #[.slice A n c, .int .i64 z, .int .i64 (errO r)])) w' := by
  refine ⟨A, n, c, z, ?_, fun x hx => ?_, hb⟩
  · cases r <;> rfl
  · cases r with
    | none => cases hx
    | some l =>
      injection hx with hx
      subst hx
      exact ⟨hz, by rw [if_neg hk]; exact ht⟩
theorem belAl1 (w : World) (o : Obj) : Below w.heap.size w (w.alloc o) := (Below.refl _ _).alloc (Nat.le_refl _) _
set_option maxHeartbeats 8000000 in
set_option maxRecDepth 100000 in
theorem named_any (Al : Option Addr) (cl : Nat) (k : Int) (lv : Value) (M : List (List Int)) (A : Option Addr) (c : Nat) (s : List Int) (a : Nat) (w : World) (hL : Txts w (.slice Al M.length cl) M) (hn : M.length ≤ 1000) (hm : ∀ l ∈ M, l.length ≤ 100000) (hs : Txt w (.slice A s.length c) s) (hsl : s.length ≤ 100000) (ha : a < s.length) (h33 : s.getD a 0 = 33) :
    Calls Try.prog 28 #[.agg #[.slice Al M.length cl, .int .i64 k, lv], .slice A s.length c, .int .i64 (a : Nat)] w (TellsE (eventP M (s.drop (a + 1))) a w) := by
  obtain ⟨-, -, -, hc, hc2⟩ := Sl.parts hs
  obtain ⟨AS, hAS⟩ : ∃ AS, (if c = a then A else Option.map (fun x => x.add a) A) = AS := ⟨_, rfl⟩
  obtain ⟨AR, hAR⟩ : ∃ AR, (if c = a + 1 then A else Option.map (fun x => x.add (a + 1)) A) = AR := ⟨_, rfl⟩
  have hS := txt_sub hs (i := a) (n := 1) (by omega)
  have hR := txt_sub hs (i := a + 1) (n := s.length - (a + 1)) (by omega)
  have e1 : (s.drop a).take 1 = [33] := by
    rw [List.drop_eq_getElem_cons ha]
    have : s[a] = 33 := by rw [← h33]; simp [List.getD, ha]
    rw [this]; rfl
  rw [e1, hAS] at hS
  rw [if_neg (by omega)] at hAS
  rw [hAR, List.take_of_length_le (by simp)] at hR
  obtain ⟨t, ht⟩ : ∃ t, s.drop (a + 1) = t := ⟨_, rfl⟩
  have htl : s.length - (a + 1) = t.length := by rw [← ht]; simp
  rw [ht] at hR ⊢
  rw [htl] at hR
  obtain ⟨cr, hcr⟩ : ∃ cr, c - (a + 1) = cr := ⟨_, rfl⟩
  rw [hcr] at hR
  obtain ⟨E, hE⟩ : ∃ E, a + 1 = E := ⟨_, rfl⟩
  rw [hE] at hAR hcr htl
  obtain ⟨N, hN⟩ : ∃ N, t.length = N := ⟨_, rfl⟩
  rw [hN] at htl hR
  have g1 : (a : Int) + 1 = (E : Int) := by omega
  have g2 : IntKind.i64.wrap (E : Int) = (E : Int) := IntWalk.i64_in _ (by omega)
  have g3 : (E : Int) ≤ (s.length : Int) := by omega
  have g4 : (E : Int) ≤ (c : Int) := by omega
  have g5 : E - a = 1 := by omega
  have g6 : (a : Int) ≤ (E : Int) := by omega
  have g7 : (a : Int) ≤ (c : Int) := by omega
  have hNcr : N ≤ cr := by omega
  have hcrm : cr ≤ 9223372036854775807 := by omega
  have hNs : N ≤ 100000 := by omega
  have HL := Lib.hid hL
  have HS := Lib.hid hS
  have HT := Lib.hid (fun Z (hZ : Below w.heap.size w Z) => (show Txt Z (.slice AR N cr) t from Txt.later hR hZ))
  have HM := Lib.hid hm
  have HE := Lib.hid hE
  obtain ⟨EV, hEV⟩ : ∃ EV, eventP M t = EV := ⟨_, rfl⟩
  have HEV := Lib.hid hEV
  rw [hEV]
  have HN := Lib.hid hN
  have w1 : IntKind.i64.wrap ((a : Int) + 2) = ((E + 1 : Nat) : Int) := by rw [show (a : Int) + 2 = ((E + 1 : Nat) : Int) by omega]; exact IntWalk.i64_in _ (by omega)
  clear hL hS hR hs ht e1 h33 hm hE hEV hN
  go_enter Try.func28, Try.ntmps28
  go_wp2_with fail
  go_quiet (fail)
  refine at_world (fun X => Blk X w.heap.size #[.slice Al M.length cl, .int .i64 k, lv] ∧ Below w.heap.size w X) ⟨blk_new w _ _, below_drewN (belAl1 _ _) _⟩ ?_
  intro X hX
  have HX := Lib.hid hX
  clear hX
  by_cases h0 : N = 0
  · subst h0
    obtain rfl : t = [] := List.eq_nil_of_length_eq_zero HN.out
    obtain rfl : EV = some ([], 0) := HEV.out.symm
    have HZ := Lib.hid (show Txt X (.slice AS 1 (c - a)) [33] from Txt.later HS.out HX.out.2)
    clear HEV HT
    go_wp2
    go_ret3
    refine ⟨_, _, _, _, rfl, fun x hx => ?_, HX.out.2⟩
    injection hx with hx
    subst hx
    exact ⟨by have := HE.out; simp only; omega, HZ.out⟩
  · obtain ⟨x, r, rfl⟩ : ∃ x r, t = x :: r := by
      cases t with
      | nil => exact absurd HN.out.symm h0
      | cons x r => exact ⟨x, r, rfl⟩
    obtain ⟨b, o, rfl, hb, hcell⟩ := txt_at (HT.out w (Below.refl _ _)) (j := 0) (by simp)
    rw [Nat.add_zero, show (x :: r).getD 0 0 = x from rfl] at hcell
    have HC := Lib.hid (fun Z (hZ : Below w.heap.size w Z) => (hZ.cell (p := ⟨b, o, none⟩) hb).trans hcell)
    have c0 := HC.out X HX.out.2
    have z0 : X.cell? ⟨w.heap.size, 0, none⟩ = some (.slice Al M.length cl) := HX.out.1.2.1 0
    have z1 : X.cell? ⟨w.heap.size, 1, none⟩ = some (.int .i64 k) := HX.out.1.2.1 1
    have z2 : X.cell? ⟨w.heap.size, 2, none⟩ = some lv := HX.out.1.2.1 2
    have n0 : ((N : Int) == 0) = false := by simp; omega
    have n1 : (0 : Int) < (N : Int) := by omega
    clear hcell
    by_cases h33 : x = 33
    · subst h33
      have hEV2 : EV = (backP M 1).map fun l => (l, 1) := by rw [← HEV.out]; rw [eventP_cons, if_pos rfl]
      have C := Lib.hid (pback_any (.slice Al M.length cl) lv k 1 M X (HL.out.later HX.out.2) hn (by omega) (by omega))
      obtain ⟨R, hR⟩ : ∃ R, backP M 1 = R := ⟨_, rfl⟩
      rw [hR] at C hEV2
      have HE2 := Lib.hid hEV2
      clear hR hEV2 HEV
      go_wp2_with fail
      refine C.out.mono ?_
      rintro e w5 ⟨A5, n5, c5, rfl, ht5, hb5⟩
      have H5 := Lib.hid (And.intro ht5 (HX.out.2.trans (hb5.mono HX.out.2.size)))
      clear ht5 hb5 C
      go_wp2
      go_ret3
      rw [HE2.out]
      exact tellsE_of (by decide) (by have := HE.out; omega) H5.out.1 H5.out.2
    · have d33 : (x == 33) = false := by simpa using h33
      have C := pnumber_any _ _ X (HT.out X HX.out.2) (by rw [HN.out]; exact hNs)
      obtain ⟨⟨nn, kk⟩, hnk⟩ : ∃ R, numP 4 0 (x :: r) = R := ⟨_, rfl⟩
      have hnn := num_small (x :: r)
      have hkk := (numP_le 4 0 (x :: r)).2
      rw [hnk] at C hnn hkk
      dsimp only at C hnn hkk
      have C := Lib.hid C
      have HNK := Lib.hid hnk
      clear hnk
      go_wp2_with fail
      refine C.out.mono ?_
      rintro e w5 ⟨rfl, rfl⟩
      clear C
      by_cases hk0 : 0 < kk
      · have d0 : (0 : Int) < (kk : Int) := by omega
        obtain ⟨L1, hL1⟩ : ∃ L1 : Nat, M.length + 1 = L1 := ⟨_, rfl⟩
        obtain ⟨z, hz⟩ : ∃ z : Int, (L1 : Int) - (nn : Int) = z := ⟨_, rfl⟩
        have hEV2 : EV = (backP M z).map fun l => (l, kk) := by
          rw [← HEV.out]
          rw [eventP_cons, if_neg h33, HNK.out, if_pos hk0]
          simp only
          rw [show (M.length : Int) + 1 - (nn : Int) = z by omega]
        have f1 : IntKind.i64.wrap ((M.length : Int) + 1) = (L1 : Int) := by rw [show (M.length : Int) + 1 = (L1 : Int) by omega]; exact IntWalk.i64_in _ (by omega)
        have f2 : IntKind.i64.wrap ((L1 : Int) - (nn : Int)) = z := by rw [hz]; exact IntWalk.i64_in _ (by omega)
        have f3 : IntKind.i64.wrap ((E : Int) + (kk : Int)) = ((E + kk : Nat) : Int) := by rw [show (E : Int) + (kk : Int) = ((E + kk : Nat) : Int) by omega]; exact IntWalk.i64_in _ (by omega)
        have C := Lib.hid (pback_any (.slice Al M.length cl) lv k z M X (HL.out.later HX.out.2) hn (by omega) (by omega))
        obtain ⟨R, hR⟩ : ∃ R, backP M z = R := ⟨_, rfl⟩
        rw [hR] at C hEV2
        have HE2 := Lib.hid hEV2
        clear hR hEV2 HEV hL1 hz
        go_wp2_with fail
        refine C.out.mono ?_
        rintro e w5 ⟨A5, n5, c5, rfl, ht5, hb5⟩
        have H5 := Lib.hid (And.intro ht5 (HX.out.2.trans (hb5.mono HX.out.2.size)))
        clear ht5 hb5 C
        go_wp2
        go_ret3
        rw [HE2.out]
        exact tellsE_of (by omega) (by have := HE.out; omega) H5.out.1 H5.out.2
      · obtain rfl : kk = 0 := by omega
        obtain ⟨AT, hAT⟩ : ∃ AT, (if cr = 1 then some (⟨b, o, none⟩ : Addr) else some ⟨b, o + 1, none⟩) = AT := ⟨_, rfl⟩
        obtain ⟨N1, hN1⟩ : ∃ N1, N - 1 = N1 := ⟨_, rfl⟩
        obtain ⟨c1, hc1⟩ : ∃ c1, cr - 1 = c1 := ⟨_, rfl⟩
        have hrl : r.length = N1 := by have := HN.out; simp only [List.length_cons] at this; omega
        have HT1 := Lib.hid (fun Z (hZ : Below w.heap.size w Z) => (show Txt Z (.slice AT N1 c1) r from by
          have h := HT.out Z hZ
          rw [← HN.out] at h
          have h := txt_sub h (i := 1) (n := N1) (by have := HN.out; omega)
          rw [show ((x :: r).drop 1).take N1 = r by rw [← hrl]; simp, hc1] at h
          rw [← hAT]
          exact h))
        have HRL := Lib.hid hrl
        have m1 : (1 : Int) ≤ (N : Int) := by omega
        have m2 : (N : Int) ≤ (cr : Int) := by omega
        have m3 : (1 : Int) ≤ (cr : Int) := by omega
        have hN1s : N1 ≤ 100000 := by omega
        have hNc1 : N1 ≤ c1 := by omega
        have C := pnumber_any _ _ X (HT1.out X HX.out.2) (by rw [hrl]; exact hN1s)
        obtain ⟨⟨n2, k2⟩, hnk2⟩ : ∃ R, numP 4 0 r = R := ⟨_, rfl⟩
        have hn2 := num_small r
        have hk2 := (numP_le 4 0 r).2
        rw [hnk2] at C hn2 hk2
        dsimp only at C hn2 hk2
        have C := Lib.hid C
        have hEV3 : EV = if x = 45 ∧ 0 < k2 then (backP M n2).map fun l => (l, k2 + 1)
            else if x = 63 then (newestP M fun l => hasP l (r.takeWhile notQ)).map fun l => (l, if (r.takeWhile notQ).length < N1 then (r.takeWhile notQ).length + 2 else N1 + 1)
            else if ((x :: r).takeWhile notEnd).length = 0 then some ([], 0)
            else (newestP M fun l => begP l ((x :: r).takeWhile notEnd)).map fun l => (l, ((x :: r).takeWhile notEnd).length) := by
          rw [← HEV.out, eventP_cons, if_neg h33, HNK.out, if_neg (by simp), hnk2, hrl]
        have HEV3 := Lib.hid hEV3
        clear hnk2 hEV3 HEV HNK hrl hnn hkk hk0
        go_wp2_with fail
        refine C.out.mono ?_
        rintro e w5 ⟨rfl, rfl⟩
        clear C
        obtain ⟨qd, hqd⟩ : ∃ qd, decide (x = 45 ∧ 0 < k2) = qd := ⟨_, rfl⟩
        go_upto_region 12 with fail
        go_cut [95] (fun s wx => s = .bool qd ∧ X = wx)
        case first =>
          by_cases h45 : x = 45
          · subst h45
            by_cases hk : 0 < k2
            · obtain rfl : qd = true := by rw [← hqd]; exact decide_eq_true ⟨rfl, hk⟩
              have d0 : decide ((0 : Int) < (k2 : Int)) = true := by simp; omega
              clear hqd
              go_wp2_with fail
              go_meet
              exact ⟨rfl, rfl⟩
            · obtain rfl : qd = false := by rw [← hqd]; exact decide_eq_false fun h => hk h.2
              have d0 : decide ((0 : Int) < (k2 : Int)) = false := by simp; omega
              clear hqd
              go_wp2_with fail
              go_meet
              exact ⟨rfl, rfl⟩
          · obtain rfl : qd = false := by rw [← hqd]; exact decide_eq_false fun h => h45 h.1
            have d0 : (x == 45) = false := by simpa using h45
            clear hqd
            go_wp2_with fail
            go_meet
            exact ⟨rfl, rfl⟩
        case rest =>
          obtain ⟨rfl, rfl⟩ := hcut
          cases qd
          case true =>
            have hx := of_decide_eq_true hqd
            have hEV2 := HEV3.out
            rw [if_pos hx] at hEV2
            have C := Lib.hid (pback_any (.slice Al M.length cl) lv k n2 M X (HL.out.later HX.out.2) hn (by omega) (by omega))
            obtain ⟨R, hR⟩ : ∃ R, backP M n2 = R := ⟨_, rfl⟩
            rw [hR] at C hEV2
            have HE2 := Lib.hid hEV2
            obtain ⟨F, hF⟩ : ∃ F, E + 1 + k2 = F := ⟨_, rfl⟩
            have f3 : IntKind.i64.wrap ((E : Int) + 1 + (k2 : Int)) = (F : Int) := by rw [show (E : Int) + 1 + (k2 : Int) = (F : Int) by omega]; exact IntWalk.i64_in _ (by omega)
            clear hR hEV2 HEV3 hqd hx
            go_wp2_with fail
            refine C.out.mono ?_
            rintro e w5 ⟨A5, n5, c5, rfl, ht5, hb5⟩
            have H5 := Lib.hid (And.intro ht5 (HX.out.2.trans (hb5.mono HX.out.2.size)))
            clear ht5 hb5 C
            go_wp2
            go_ret3
            rw [HE2.out]
            exact tellsE_of (by omega) (by have := HE.out; omega) H5.out.1 H5.out.2
          case false =>
            have hx := of_decide_eq_false hqd
            have hEV2 := HEV3.out
            rw [if_neg hx] at hEV2
            clear hqd hx HEV3
            by_cases h63 : x = 63
            · subst h63
              rw [if_pos rfl] at hEV2
              have HEV4 := Lib.hid hEV2
              clear hEV2
              obtain ⟨m, hm⟩ : ∃ m, (r.takeWhile notQ).length = m := ⟨_, rfl⟩
              have HTW := Lib.hid hm
              have hml := tw_le notQ r
              rw [hm, HRL.out] at hml
              go_upto_region 17 with fail
              refine at_world (fun Z => Blk Z w.heap.size #[.slice Al M.length cl, .int .i64 k, lv] ∧ Below w.heap.size w Z ∧ Blk Z X.heap.size #[.slice AT N1 c1]) ⟨HX.out.1.alloc _, HX.out.2.alloc HX.out.2.size _, blk_new _ _ _⟩ ?_
              intro Y hY
              obtain ⟨g, hg⟩ : ∃ g, X.heap.size = g := ⟨_, rfl⟩
              rw [hg] at hY ⊢
              have HY := Lib.hid hY
              have hgw : w.heap.size ≤ g := by rw [← hg]; exact HX.out.2.size
              have hgp : w.heap.size < g := by rw [← hg]; exact HX.out.1.1
              clear hY hg z0 z1 z2 c0
              have p0 : Y.cell? ⟨w.heap.size, 0, none⟩ = some (.slice Al M.length cl) := HY.out.1.2.1 0
              have p1 : Y.cell? ⟨w.heap.size, 1, none⟩ = some (.int .i64 k) := HY.out.1.2.1 1
              have p2 : Y.cell? ⟨w.heap.size, 2, none⟩ = some (lv) := HY.out.1.2.1 2
              have b0 : Y.cell? ⟨g, 0, none⟩ = some (.slice AT N1 c1) := HY.out.2.2.2.1 0
              have b1 : Y.frozen? ⟨g, 0, none⟩ = false := HY.out.2.2.2.2 0
              have CI := index_any _ _ Y (HT1.out Y HY.out.2.1) (by rw [HRL.out]; exact hN1s)
              by_cases hmN : m < N1
              · rw [show firstP notQ r = (m : Int) by unfold firstP; rw [HTW.out, HRL.out, if_pos hmN]] at CI
                have CI := Lib.hid CI
                have d0 : (m : Int) ≤ (N1 : Int) := by omega
                have d1 : (m : Int) ≤ (c1 : Int) := by omega
                have f3 : IntKind.i64.wrap ((m : Int) + 2) = ((m + 2 : Nat) : Int) := by rw [show (m : Int) + 2 = ((m + 2 : Nat) : Int) by omega]; exact IntWalk.i64_in _ (by omega)
                have f4 : IntKind.i64.wrap ((E : Int) + ((m : Int) + 2)) = ((E + (m + 2) : Nat) : Int) := by rw [show (E : Int) + ((m : Int) + 2) = ((E + (m + 2) : Nat) : Int) by omega]; exact IntWalk.i64_in _ (by omega)
                have hEV3 := HEV4.out
                rw [HTW.out, if_pos hmN] at hEV3
                have HZ := Lib.hid (show Blk (Y.setCell ⟨g, 0, none⟩ (.slice AT m c1)) w.heap.size #[.slice Al M.length cl, .int .i64 k, lv] ∧ Below w.heap.size w (Y.setCell ⟨g, 0, none⟩ (.slice AT m c1)) ∧ Blk (Y.setCell ⟨g, 0, none⟩ (.slice AT m c1)) g #[.slice AT m c1] ∧ Txt (Y.setCell ⟨g, 0, none⟩ (.slice AT m c1)) (.slice AT m c1) (r.takeWhile notQ) from by
                  have hb := HY.out.2.1.setCell (p := ⟨g, 0, none⟩) hgw (.slice AT m c1)
                  refine ⟨HY.out.1.far (p := ⟨g, 0, none⟩) (by show g ≠ w.heap.size; omega) _, hb, HY.out.2.2.set_ 0 (by simp) _, ?_⟩
                  have h := HT1.out _ hb
                  rw [← HRL.out] at h
                  have h := txt_sub h (i := 0) (n := m) (by rw [HRL.out]; omega)
                  rw [List.drop_zero, Nat.sub_zero, ← HTW.out, ← tw_take, HTW.out] at h
                  have e : (if c1 = 0 then AT else Option.map (fun x => x.add 0) AT) = AT := by
                    split
                    · rfl
                    · cases AT <;> rfl
                  rw [e] at h
                  exact h)
                go_wp2_with fail
                refine CI.out.mono ?_
                rintro e w6 ⟨rfl, rfl⟩
                clear CI
                go_upto_region 20 with fail
                refine at_world (fun Z => Blk Z w.heap.size #[.slice Al M.length cl, .int .i64 k, lv] ∧ Below w.heap.size w Z ∧ Blk Z g #[.slice AT m c1] ∧ Txt Z (.slice AT m c1) (r.takeWhile notQ)) HZ.out ?_
                intro Z hZ
                have HZ := Lib.hid hZ
                clear hZ p0 p1 p2 b0 b1
                have p0 : Z.cell? ⟨w.heap.size, 0, none⟩ = some (.slice Al M.length cl) := HZ.out.1.2.1 0
                have p1 : Z.cell? ⟨w.heap.size, 1, none⟩ = some (.int .i64 k) := HZ.out.1.2.1 1
                have p2 : Z.cell? ⟨w.heap.size, 2, none⟩ = some (lv) := HZ.out.1.2.1 2
                have b0 : Z.cell? ⟨g, 0, none⟩ = some (.slice AT m c1) := HZ.out.2.2.1.2.1 0
                have b1 : Z.frozen? ⟨g, 0, none⟩ = false := HZ.out.2.2.1.2.2 0
                have C := Lib.hid (newest_n1_any Al M.length cl k lv M (r.takeWhile notQ) g Z (HL.out.later HZ.out.2.1) hn HM.out ⟨_, HZ.out.2.2.1.2.1 0, HZ.out.2.2.2⟩ HZ.out.2.2.1.1 (by rw [HTW.out]; omega))
                obtain ⟨R, hR⟩ : ∃ R, newestP M (fun l => hasP l (r.takeWhile notQ)) = R := ⟨_, rfl⟩
                rw [hR] at C hEV3
                have HE2 := Lib.hid hEV3
                clear hR hEV3
                go_wp2_with fail
                refine C.out.mono ?_
                rintro e w5 ⟨A5, n5, c5, rfl, ht5, hb5⟩
                have H5 := Lib.hid (And.intro ht5 (HZ.out.2.1.trans (hb5.mono HZ.out.2.1.size)))
                clear ht5 hb5 C p0 p1 p2 b0 b1
                go_wp2
                go_ret3
                rw [HE2.out]
                exact tellsE_of (by omega) (by have := HE.out; omega) H5.out.1 H5.out.2
              · obtain rfl : m = N1 := by omega
                rw [show firstP notQ r = -1 by unfold firstP; rw [HTW.out, HRL.out, if_neg hmN]] at CI
                have CI := Lib.hid CI
                have hEV3 := HEV4.out
                rw [HTW.out, if_neg hmN] at hEV3
                have hNm : N = m + 1 := by omega
                have f4 : IntKind.i64.wrap ((E : Int) + (N : Int)) = ((E + N : Nat) : Int) := by rw [show (E : Int) + (N : Int) = ((E + N : Nat) : Int) by omega]; exact IntWalk.i64_in _ (by omega)
                have HZ := Lib.hid (show Blk Y w.heap.size #[.slice Al M.length cl, .int .i64 k, lv] ∧ Below w.heap.size w Y ∧ Blk Y g #[.slice AT m c1] ∧ Txt Y (.slice AT m c1) (r.takeWhile notQ) from ⟨HY.out.1, HY.out.2.1, HY.out.2.2, by
                  rw [show r.takeWhile notQ = r by rw [tw_take, HTW.out, ← HRL.out, List.take_length]]
                  exact HT1.out Y HY.out.2.1⟩)
                go_wp2_with fail
                refine CI.out.mono ?_
                rintro e w6 ⟨rfl, rfl⟩
                clear CI
                go_upto_region 20 with fail
                have C := Lib.hid (newest_n1_any Al M.length cl k lv M (r.takeWhile notQ) g Y (HL.out.later HZ.out.2.1) hn HM.out ⟨_, HZ.out.2.2.1.2.1 0, HZ.out.2.2.2⟩ HZ.out.2.2.1.1 (by rw [HTW.out]; omega))
                obtain ⟨R, hR⟩ : ∃ R, newestP M (fun l => hasP l (r.takeWhile notQ)) = R := ⟨_, rfl⟩
                rw [hR] at C hEV3
                have HE2 := Lib.hid hEV3
                clear hR hEV3
                go_wp2_with fail
                refine C.out.mono ?_
                rintro e w5 ⟨A5, n5, c5, rfl, ht5, hb5⟩
                have H5 := Lib.hid (And.intro ht5 (HZ.out.2.1.trans (hb5.mono HZ.out.2.1.size)))
                clear ht5 hb5 C p0 p1 p2 b0 b1
                go_wp2
                go_ret3
                rw [HE2.out]
                exact tellsE_of (by omega) (by have := HE.out; omega) H5.out.1 H5.out.2
            · have d63 : (x == 63) = false := by simpa using h63
              rw [if_neg h63] at hEV2
              have HEV4 := Lib.hid hEV2
              clear hEV2
              obtain ⟨m, hm⟩ : ∃ m, ((x :: r).takeWhile notEnd).length = m := ⟨_, rfl⟩
              have HTW := Lib.hid hm
              have hml := tw_le notEnd (x :: r)
              rw [hm, HN.out] at hml
              go_upto_region 23 with fail
              refine at_world (fun Z => Blk Z w.heap.size #[.slice Al M.length cl, .int .i64 k, lv] ∧ Below w.heap.size w Z ∧ Blk Z X.heap.size #[.slice (some ⟨b, o, none⟩) N cr]) ⟨HX.out.1.alloc _, HX.out.2.alloc HX.out.2.size _, blk_new _ _ _⟩ ?_
              intro Y hY
              obtain ⟨g, hg⟩ : ∃ g, X.heap.size = g := ⟨_, rfl⟩
              rw [hg] at hY ⊢
              have HY := Lib.hid hY
              have hgw : w.heap.size ≤ g := by rw [← hg]; exact HX.out.2.size
              have hgp : w.heap.size < g := by rw [← hg]; exact HX.out.1.1
              clear hY hg z0 z1 z2 c0
              have p0 : Y.cell? ⟨w.heap.size, 0, none⟩ = some (.slice Al M.length cl) := HY.out.1.2.1 0
              have p1 : Y.cell? ⟨w.heap.size, 1, none⟩ = some (.int .i64 k) := HY.out.1.2.1 1
              have p2 : Y.cell? ⟨w.heap.size, 2, none⟩ = some (lv) := HY.out.1.2.1 2
              have b0 : Y.cell? ⟨g, 0, none⟩ = some (.slice (some ⟨b, o, none⟩) N cr) := HY.out.2.2.2.1 0
              have b1 : Y.frozen? ⟨g, 0, none⟩ = false := HY.out.2.2.2.2 0
              have CI := indexf_any _ _ Y (HT.out Y HY.out.2.1) (by rw [HN.out]; exact hNs)
              by_cases hmN : m < N
              · rw [show firstP notEnd (x :: r) = (m : Int) by unfold firstP; rw [HTW.out, HN.out, if_pos hmN]] at CI
                have CI := Lib.hid CI
                have d0 : (m : Int) ≤ (N : Int) := by omega
                have d1 : (m : Int) ≤ (cr : Int) := by omega
                have f4 : IntKind.i64.wrap ((E : Int) + (m : Int)) = ((E + m : Nat) : Int) := by rw [show (E : Int) + (m : Int) = ((E + m : Nat) : Int) by omega]; exact IntWalk.i64_in _ (by omega)
                have hEV3 := HEV4.out
                rw [HTW.out] at hEV3
                have HZ := Lib.hid (show Blk (Y.setCell ⟨g, 0, none⟩ (.slice (some ⟨b, o, none⟩) m cr)) w.heap.size #[.slice Al M.length cl, .int .i64 k, lv] ∧ Below w.heap.size w (Y.setCell ⟨g, 0, none⟩ (.slice (some ⟨b, o, none⟩) m cr)) ∧ Blk (Y.setCell ⟨g, 0, none⟩ (.slice (some ⟨b, o, none⟩) m cr)) g #[.slice (some ⟨b, o, none⟩) m cr] ∧ Txt (Y.setCell ⟨g, 0, none⟩ (.slice (some ⟨b, o, none⟩) m cr)) (.slice (some ⟨b, o, none⟩) m cr) ((x :: r).takeWhile notEnd) from by
                  have hb := HY.out.2.1.setCell (p := ⟨g, 0, none⟩) hgw (.slice (some ⟨b, o, none⟩) m cr)
                  refine ⟨HY.out.1.far (p := ⟨g, 0, none⟩) (by show g ≠ w.heap.size; omega) _, hb, HY.out.2.2.set_ 0 (by simp) _, ?_⟩
                  have h := HT.out _ hb
                  rw [← HN.out] at h
                  have h := txt_sub h (i := 0) (n := m) (by rw [HN.out]; omega)
                  rw [List.drop_zero, Nat.sub_zero, ← HTW.out, ← tw_take, HTW.out] at h
                  have e : (if cr = 0 then (some ⟨b, o, none⟩ : Option Addr) else Option.map (fun x : Addr => x.add 0) (some ⟨b, o, none⟩ : Option Addr)) = some ⟨b, o, none⟩ := by
                    split <;> rfl
                  rw [e] at h
                  exact h)
                by_cases hm0 : m = 0
                · subst hm0
                  rw [if_pos rfl] at hEV3
                  have HE2 := Lib.hid hEV3
                  have HZ2 := Lib.hid (show Txt _ (.slice AS 1 (c - a)) [33] from Txt.later HS.out HZ.out.2.1)
                  clear hEV3
                  go_wp2_with fail
                  refine CI.out.mono ?_
                  rintro e w6 ⟨rfl, rfl⟩
                  clear CI
                  go_wp2
                  go_ret3
                  rw [HE2.out]
                  refine ⟨_, _, _, _, rfl, fun x hx => ?_, HZ.out.2.1⟩
                  injection hx with hx
                  subst hx
                  exact ⟨by have := HE.out; simp only; omega, HZ2.out⟩
                · rw [if_neg hm0] at hEV3
                  have d2 : ((m : Int) == 0) = false := by simp; omega
                  go_wp2_with fail
                  refine CI.out.mono ?_
                  rintro e w6 ⟨rfl, rfl⟩
                  clear CI
                  go_upto_region 28 with fail
                  refine at_world (fun Z => Blk Z w.heap.size #[.slice Al M.length cl, .int .i64 k, lv] ∧ Below w.heap.size w Z ∧ Blk Z g #[.slice (some ⟨b, o, none⟩) m cr] ∧ Txt Z (.slice (some ⟨b, o, none⟩) m cr) ((x :: r).takeWhile notEnd)) HZ.out ?_
                  intro Z hZ
                  have HZ := Lib.hid hZ
                  clear hZ p0 p1 p2 b0 b1
                  have p0 : Z.cell? ⟨w.heap.size, 0, none⟩ = some (.slice Al M.length cl) := HZ.out.1.2.1 0
                  have p1 : Z.cell? ⟨w.heap.size, 1, none⟩ = some (.int .i64 k) := HZ.out.1.2.1 1
                  have p2 : Z.cell? ⟨w.heap.size, 2, none⟩ = some (lv) := HZ.out.1.2.1 2
                  have b0 : Z.cell? ⟨g, 0, none⟩ = some (.slice (some ⟨b, o, none⟩) m cr) := HZ.out.2.2.1.2.1 0
                  have b1 : Z.frozen? ⟨g, 0, none⟩ = false := HZ.out.2.2.1.2.2 0
                  have C := Lib.hid (newest_n3_any Al M.length cl k lv M ((x :: r).takeWhile notEnd) g Z (HL.out.later HZ.out.2.1) hn HM.out ⟨_, HZ.out.2.2.1.2.1 0, HZ.out.2.2.2⟩ HZ.out.2.2.1.1 (by rw [HTW.out]; omega))
                  obtain ⟨R, hR⟩ : ∃ R, newestP M (fun l => begP l ((x :: r).takeWhile notEnd)) = R := ⟨_, rfl⟩
                  rw [hR] at C hEV3
                  have HE2 := Lib.hid hEV3
                  clear hR hEV3
                  go_wp2_with fail
                  refine C.out.mono ?_
                  rintro e w5 ⟨A5, n5, c5, rfl, ht5, hb5⟩
                  have H5 := Lib.hid (And.intro ht5 (HZ.out.2.1.trans (hb5.mono HZ.out.2.1.size)))
                  have hb5c := (hb5.cell (p := ⟨g, 0, none⟩) HZ.out.2.2.1.1).trans b0
                  clear ht5 hb5 C p0 p1 p2 b0 b1
                  go_wp2
                  go_quiet (fail)
                  go_wp2
                  go_ret3
                  rw [HE2.out]
                  exact tellsE_of (by omega) (by have := HE.out; omega) (H5.out.1.later (below_drewN (Below.refl _ _) _)) (below_drewN H5.out.2 _)
              · obtain rfl : m = N := by omega
                rw [show firstP notEnd (x :: r) = -1 by unfold firstP; rw [HTW.out, HN.out, if_neg hmN]] at CI
                have CI := Lib.hid CI
                have hEV3 := HEV4.out
                rw [HTW.out, if_neg h0] at hEV3
                have f4 : IntKind.i64.wrap ((E : Int) + (m : Int)) = ((E + m : Nat) : Int) := by rw [show (E : Int) + (m : Int) = ((E + m : Nat) : Int) by omega]; exact IntWalk.i64_in _ (by omega)
                have d2 : ((m : Int) == 0) = false := by simp; omega
                have HZ := Lib.hid (show Blk Y w.heap.size #[.slice Al M.length cl, .int .i64 k, lv] ∧ Below w.heap.size w Y ∧ Blk Y g #[.slice (some ⟨b, o, none⟩) m cr] ∧ Txt Y (.slice (some ⟨b, o, none⟩) m cr) ((x :: r).takeWhile notEnd) from ⟨HY.out.1, HY.out.2.1, HY.out.2.2, by
                  rw [show (x :: r).takeWhile notEnd = x :: r by rw [tw_take, HTW.out, ← HN.out, List.take_length]]
                  exact HT.out Y HY.out.2.1⟩)
                go_wp2_with fail
                refine CI.out.mono ?_
                rintro e w6 ⟨rfl, rfl⟩
                clear CI
                go_upto_region 28 with fail
                have C := Lib.hid (newest_n3_any Al M.length cl k lv M ((x :: r).takeWhile notEnd) g Y (HL.out.later HZ.out.2.1) hn HM.out ⟨_, HZ.out.2.2.1.2.1 0, HZ.out.2.2.2⟩ HZ.out.2.2.1.1 (by rw [HTW.out]; omega))
                obtain ⟨R, hR⟩ : ∃ R, newestP M (fun l => begP l ((x :: r).takeWhile notEnd)) = R := ⟨_, rfl⟩
                rw [hR] at C hEV3
                have HE2 := Lib.hid hEV3
                clear hR hEV3
                go_wp2_with fail
                refine C.out.mono ?_
                rintro e w5 ⟨A5, n5, c5, rfl, ht5, hb5⟩
                have H5 := Lib.hid (And.intro ht5 (HZ.out.2.1.trans (hb5.mono HZ.out.2.1.size)))
                have hb5c := (hb5.cell (p := ⟨g, 0, none⟩) HZ.out.2.2.1.1).trans b0
                clear ht5 hb5 C p0 p1 p2 b0 b1
                go_wp2
                go_quiet (fail)
                go_wp2
                go_ret3
                rw [HE2.out]
                exact tellsE_of (by omega) (by have := HE.out; omega) (H5.out.1.later (below_drewN (Below.refl _ _) _)) (below_drewN H5.out.2 _)
end Go.Proofs.Ytmhjhndnbgabjaa

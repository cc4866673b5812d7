/- past: PastExpands' walk. -/
import Derived.Test.YtmhjhndnbgabjaaPxU
import Derived.Test.YtmhjhndnbgabjaaTxtsA
namespace Go.Proofs.Ytmhjhndnbgabjaa
open Go.RowKit
set_option linter.unusedVariables false
set_option linter.unusedSimpArgs false

theorem few40x (v : Value) (l : List Int) (w : World) (h : Txt w v l) : Calls Try.prog 8 #[v, .int .i64 40] w fun e w' => ∃ A c, e = .returned (.slice A (l.take 40).length c) ∧ Hid (∀ (X : World) (S : Nat → Prop), TxtS X S v l → TxtS X S (.slice A (l.take 40).length c) (l.take 40)) ∧ w = w' := by
  refine (few_any v l 40 w h (by omega)).mono fun e w' hh => ?_
  obtain ⟨A, c, he, ht, hw⟩ := hh
  exact ⟨A, c, he, Lib.hid ht, hw⟩
set_option maxHeartbeats 8000000 in
set_option maxRecDepth 100000 in
theorem walk_PastExpands (w : World) (u : Value) (L : List (List Int)) (hL : Txts w u L) (v : Value) (now : List Int) (hv : Txt w v now) :
    Calls Try.prog 6 #[u, v] w (Yes w) := by
  obtain ⟨Al, cl, rfl, hl1, hl2⟩ := hL.is
  obtain ⟨An, cn, rfl, hn1, hn2⟩ := Sl.is hv
  have HL := Lib.hid (And.intro hL.old (And.intro (TxtS.old hv) trivial))
  clear hL hv
  have V0 := Lib.hid (vq_new w 26 28)
  go_enter Try.func6, Try.ntmps6
  have C0 := Lib.hid (few40x (.slice An now.length cn) now w (TxtS.any HL.out.2.1))
  obtain ⟨t, ht⟩ : ∃ t, now.take 40 = t := ⟨_, rfl⟩
  have HT40 : Hid (t.length ≤ 40) := Lib.hid (by rw [← ht, List.length_take]; omega)
  have N0 := HL.out.2.1
  simp only [ht] at C0
  go_wp2_with fail
  (with_reducible refine C0.out.mono ?_)
  rintro e w0 ⟨A0, c0, rfl, H0, rfl⟩
  have N0 := Lib.hid (H0.out _ _ N0)
  clear ht H0 C0
  go_wp2
  go_loopw [7] (fun i wr => ∃ q : Nat, q ≤ L.length ∧ q ≤ 12 ∧ i = .int .i64 q ∧ Hid (∃ A c B d A' c' B' d' M, VQ w (.slice A M.length c) 0 (.slice B 0 d) M [] (.slice A' M.length c') 0 (.slice B' 0 d') M.reverse [] wr ∧ M.length ≤ q ∧ ∀ l ∈ M, l.length ≤ 20)) (fun i _ => L.length - (intOf i).toNat)
  case atStart => exact ⟨0, Nat.zero_le _, Nat.zero_le _, rfl, ⟨none, 0, none, 0, none, 0, none, 0, [], V0.out, Nat.le_refl _, fun l hl => by cases hl⟩⟩
  case round =>
    obtain ⟨q, hq, hq30, rfl, HR⟩ := hrel
    obtain ⟨A1, c1, B1, d1, A2, c2, B2, d2, M, V, hM, hM20⟩ := HR.out
    have V1 := Lib.hid V
    have HM := Lib.hid (And.intro hM hM20)
    clear V HR hM hM20 V0
    obtain ⟨_, yy, jj⟩ := (show _ from V1.out.bp)
    have py0 := yy 0
    have py1 := yy 1
    have py2 := yy 2
    have pj0 := jj 0
    have pj1 := jj 1
    have pj2 := jj 2
    clear yy jj
    by_cases hlt : q < L.length ∧ q < 12
    · obtain ⟨hqn, hq2⟩ := hlt
      obtain ⟨b, o, As, ns, cs, rfl, hbl, hce, htx⟩ := HL.out.1.at_ hqn
      have hcw := (V1.out.below.cell (p := ⟨b, o + q, none⟩) hbl).trans hce
      obtain ⟨l0, hl⟩ : ∃ l0, L.getD q [] = l0 := ⟨_, rfl⟩
      rw [hl] at htx
      have HT := Lib.hid htx
      have hd : decide ((q : Int) < 12) = true := decide_eq_true (by omega)
      clear htx hl hce
      have C1 := Lib.hid (few20q (.slice As ns cs) l0 wr (TxtS.any (TxtS.later HT.out V1.out.below)))
      go_wp2_with fail
      (with_reducible refine C1.out.mono ?_)
      rintro e w1 ⟨A3, m3, c3, rfl, H3, rfl⟩
      obtain ⟨l, hl⟩ : ∃ l, l0.take 20 = l := ⟨_, rfl⟩
      rw [hl] at H3
      have HL20 : Hid (l.length ≤ 20) := Lib.hid (by rw [← hl, List.length_take]; omega)
      clear hl C1
      have C2 := Lib.hid (add_any (.slice A1 M.length c1) (.slice A3 m3 c3) (.slice B1 0 d1) M l 0 (Off2 w) wr V1.out.tp (TxtS.any (H3.out _ _ (TxtS.later HT.out V1.out.below))) (by have := HM.out.1; omega) (by have := HL20.out; omega))
      go_wp2_with fail
      (with_reducible refine C2.out.mono ?_)
      rintro e w3 ⟨u3, v3, rfl, ht3, hs3, hb3⟩
      obtain ⟨M', hM'⟩ : ∃ M', addM M l = M' := ⟨_, rfl⟩
      rw [hM'] at ht3
      have HM' := Lib.hid hM'
      clear hM'
      obtain ⟨A4, c4, rfl, _⟩ := ht3.is
      obtain ⟨B4, d4, es, _⟩ := Sl.is hs3
      replace es : v3 = .slice B4 0 d4 := es
      subst es
      have hgt3 := V1.out.bx.1
      have V3 := Lib.hid ((V1.out.later hb3).setp (nk := 0) (ht3.mono fun b hb => off2_new hgt3 hb) (Sl.mono hs3 fun b hb => off2_new hgt3 hb))
      have U3 := Lib.hid (V1.out.later hb3)
      clear ht3 hs3 hb3 hgt3 C2
      clear py0 pj0 py1 pj1 py2 pj2
      obtain ⟨_, yy, jj⟩ := (show _ from U3.out.bp)
      have py0 := yy 0
      have py1 := yy 1
      have py2 := yy 2
      have pj0 := jj 0
      have pj1 := jj 1
      have pj2 := jj 2
      clear yy jj
      have C4 := radd_any (.slice A2 M.length c2) (.slice A3 m3 c3) (.slice B2 0 d2) M.reverse l 0 (Off2 w) _ V3.out.tx (by have := HM.out.1; rw [List.length_reverse]; omega) (Sl.mono (H3.out _ _ (TxtS.later HT.out V3.out.below)) fun b hb => (show Off2 w b from ⟨by have := hb.1; omega, by have := hb.1; omega⟩))
      rw [addL_rev M l (by have := HM.out.1; omega), HM'.out] at C4
      unfold put3 at C4
      have C4 := Lib.hid C4
      obtain ⟨_, yy, jj⟩ := (show _ from U3.out.bx)
      have xy0 := yy 0
      have xy1 := yy 1
      have xy2 := yy 2
      have xj0 := jj 0
      have xj1 := jj 1
      have xj2 := jj 2
      clear yy jj
      go_wp2_with fail
      (with_reducible refine C4.out.mono ?_)
      rintro e w6 ⟨u6, v6, rfl, ht6, hs6, hb6⟩
      obtain ⟨A6, c6, es6, _⟩ := ht6.is
      replace es6 : u6 = .slice A6 M'.length c6 := by rw [es6, List.length_reverse]
      subst es6
      obtain ⟨B6, d6, es, _⟩ := Sl.is hs6
      replace es : v6 = .slice B6 0 d6 := es
      subst es
      have hgt6 := V3.out.bx.1
      have V6 := Lib.hid ((V3.out.later hb6).setx (nk := 0) (ht6.mono fun b hb => off2_new hgt6 hb) (Sl.mono hs6 fun b hb => off2_new hgt6 hb))
      have U6 := Lib.hid (V3.out.later hb6)
      have HF6 := Lib.hid (show M'.length ≤ q + 1 ∧ ∀ l ∈ M', l.length ≤ 20 from by rw [← HM'.out]; exact ⟨addM_len' HM.out.1, addM_mem' HM.out.2 HL20.out⟩)
      clear ht6 hs6 hb6 hgt6 C4
      clear py0 pj0 py1 pj1 py2 pj2
      clear xy0 xj0 xy1 xj1 xy2 xj2
      obtain ⟨_, yy, jj⟩ := (show _ from U6.out.bx)
      have xy0 := yy 0
      have xy1 := yy 1
      have xy2 := yy 2
      have xj0 := jj 0
      have xj1 := jj 1
      have xj2 := jj 2
      clear yy jj
      go_wp2
      go_roundw
      case rel => exact ⟨q + 1, by omega, by omega, by go_num, ⟨_, _, _, _, _, _, _, _, _, V6.out, HF6.out.1, HF6.out.2⟩⟩
      case measure => simp [intOf]; omega
    · have hM30 : M.length ≤ 12 := by have := HM.out.1; omega
      have hstop : q = L.length ∨ (q < L.length ∧ q = 12) := by omega
      clear hlt
      rcases hstop with rfl | ⟨hqn, rfl⟩
      · obtain ⟨R, hR⟩ : ∃ R, expQ M t.length t = R := ⟨_, rfl⟩
        have C5 := expandQ_any A1 c1 0 (.slice B1 0 d1) M A0 c0 t wr V1.out.tp.any (by omega) HM.out.2 (TxtS.any (TxtS.later N0.out V1.out.below)) HT40.out
        rw [hR] at C5
        have C5 := Lib.hid C5
        have HR := Lib.hid hR
        clear hR
        go_wp2_with fail
        (with_reducible refine C5.out.mono ?_)
        rintro e w5 ⟨A5, n5, c5, rfl, ht5, hb5⟩
        have V5 := Lib.hid (V1.out.later hb5)
        have T5 := Lib.hid ht5
        clear ht5 hb5 C5
        clear py0 pj0 py1 pj1 py2 pj2
        have C6 := rexpand_any A2 c2 0 (.slice B2 0 d2) M A0 c0 t w5 V5.out.tx.any (by omega) HM.out.2 (TxtS.any (TxtS.later N0.out V5.out.below)) HT40.out
        rw [HR.out] at C6
        have C6 := Lib.hid C6
        obtain ⟨_, yy, jj⟩ := (show _ from V5.out.bx)
        have xy0 := yy 0
        have xy1 := yy 1
        have xy2 := yy 2
        have xj0 := jj 0
        have xj1 := jj 1
        have xj2 := jj 2
        clear yy jj
        go_wp2_with fail
        (with_reducible refine C6.out.mono ?_)
        rintro e w6 ⟨A6, n6, c6, rfl, ht6, hb6⟩
        have H6 := Lib.hid (And.intro (T5.out.later hb6) (And.intro ht6 (V5.out.below.trans (hb6.mono V5.out.below.size))))
        clear ht6 hb6 C6
        clear xy0 xj0 xy1 xj1 xy2 xj2
        have C7 := Lib.hid (same_far (.slice A5 n5 c5) (.slice A6 n6 c6) (R.getD []) w6 H6.out.1 H6.out.2.1)
        have hee : (errO R == errO R) = true := by simp
        go_wp2_with fail
        (with_reducible refine C7.out.mono ?_)
        rintro e w7 ⟨rfl, hb7⟩
        have H7 := Lib.hid (H6.out.2.2.trans (hb7.mono H6.out.2.2.size))
        clear hb7 C7
        go_wp2_with (go_at_call 15; refine (awake_yes _).mono ?_; rintro e w9 ⟨rfl, hb9⟩)
        go_ret
        exact ⟨rfl, H7.out.trans (hb9.mono H7.out.size)⟩
      · obtain ⟨R, hR⟩ : ∃ R, expQ M t.length t = R := ⟨_, rfl⟩
        have C5 := expandQ_any A1 c1 0 (.slice B1 0 d1) M A0 c0 t wr V1.out.tp.any (by omega) HM.out.2 (TxtS.any (TxtS.later N0.out V1.out.below)) HT40.out
        rw [hR] at C5
        have C5 := Lib.hid C5
        have HR := Lib.hid hR
        clear hR
        go_wp2_with fail
        (with_reducible refine C5.out.mono ?_)
        rintro e w5 ⟨A5, n5, c5, rfl, ht5, hb5⟩
        have V5 := Lib.hid (V1.out.later hb5)
        have T5 := Lib.hid ht5
        clear ht5 hb5 C5
        clear py0 pj0 py1 pj1 py2 pj2
        have C6 := rexpand_any A2 c2 0 (.slice B2 0 d2) M A0 c0 t w5 V5.out.tx.any (by omega) HM.out.2 (TxtS.any (TxtS.later N0.out V5.out.below)) HT40.out
        rw [HR.out] at C6
        have C6 := Lib.hid C6
        obtain ⟨_, yy, jj⟩ := (show _ from V5.out.bx)
        have xy0 := yy 0
        have xy1 := yy 1
        have xy2 := yy 2
        have xj0 := jj 0
        have xj1 := jj 1
        have xj2 := jj 2
        clear yy jj
        go_wp2_with fail
        (with_reducible refine C6.out.mono ?_)
        rintro e w6 ⟨A6, n6, c6, rfl, ht6, hb6⟩
        have H6 := Lib.hid (And.intro (T5.out.later hb6) (And.intro ht6 (V5.out.below.trans (hb6.mono V5.out.below.size))))
        clear ht6 hb6 C6
        clear xy0 xj0 xy1 xj1 xy2 xj2
        have C7 := Lib.hid (same_far (.slice A5 n5 c5) (.slice A6 n6 c6) (R.getD []) w6 H6.out.1 H6.out.2.1)
        have hee : (errO R == errO R) = true := by simp
        go_wp2_with fail
        (with_reducible refine C7.out.mono ?_)
        rintro e w7 ⟨rfl, hb7⟩
        have H7 := Lib.hid (H6.out.2.2.trans (hb7.mono H6.out.2.2.size))
        clear hb7 C7
        go_wp2_with (go_at_call 15; refine (awake_yes _).mono ?_; rintro e w9 ⟨rfl, hb9⟩)
        go_ret
        exact ⟨rfl, H7.out.trans (hb9.mono H7.out.size)⟩
end Go.Proofs.Ytmhjhndnbgabjaa

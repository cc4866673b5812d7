/- past: PastPlain's walk. -/
import Derived.Test.YtmhjhndnbgabjaaPastU
import Derived.Test.YtmhjhndnbgabjaaFewT
import Derived.Handy
import Derived.Deep.RegionHeld3
namespace Go.Proofs.Ytmhjhndnbgabjaa
open Go.RowKit
set_option linter.unusedVariables false
set_option linter.unusedSimpArgs false

theorem belowStep {A B C : World} (h : Below A.heap.size A B) (k : Below B.heap.size B C) : Below A.heap.size A C := h.trans (k.mono h.size)
theorem bAlloc {A B : World} (h : Below A.heap.size A B) (o : Obj) : Below A.heap.size A (B.alloc o) := h.alloc h.size o

theorem few_n (n : Nat) (v : Value) (l : List Int) (w : World) (h : Txt w v l) (hn : n ≤ 1000000) : Calls Try.prog 8 #[v, .int .i64 n] w fun e w' => ∃ A m c, e = .returned (.slice A m c) ∧ Hid (∀ (X : World) (S : Nat → Prop), TxtS X S v l → TxtS X S (.slice A m c) (l.take n)) ∧ w = w' := by
  refine (few_any v l n w h hn).mono fun e w' hh => ?_
  obtain ⟨A, c, he, ht, hw⟩ := hh
  exact ⟨A, _, c, he, Lib.hid ht, hw⟩

theorem few20 (v : Value) (l : List Int) (w : World) (h : Txt w v l) : Calls Try.prog 8 #[v, .int .i64 20] w fun e w' => ∃ A m c, e = .returned (.slice A m c) ∧ Hid (∀ (X : World) (S : Nat → Prop), TxtS X S v l → TxtS X S (.slice A m c) (l.take 20)) ∧ w = w' := few_n 20 v l w h (by omega)
theorem few40 (v : Value) (l : List Int) (w : World) (h : Txt w v l) : Calls Try.prog 8 #[v, .int .i64 40] w fun e w' => ∃ A m c, e = .returned (.slice A m c) ∧ Hid (∀ (X : World) (S : Nat → Prop), TxtS X S v l → TxtS X S (.slice A m c) (l.take 40)) ∧ w = w' := few_n 40 v l w h (by omega)
theorem addM_mem {M : List (List Int)} {l : List Int} {b : Nat} (h : ∀ x ∈ M, x.length ≤ b) (hl : l.length ≤ b) : ∀ x ∈ addM M l, x.length ≤ b := by
  intro x hx
  unfold addM at hx
  split at hx
  · exact h x hx
  · rcases List.mem_append.1 hx with hx | hx
    · exact h x (List.mem_of_mem_drop hx)
    · simp at hx; subst hx; exact hl
theorem addM_len {M : List (List Int)} {l : List Int} {q : Nat} (h : M.length ≤ q) : (addM M l).length ≤ q + 1 := by
  unfold addM
  split
  · omega
  · simp only [List.length_append, List.length_drop, List.length_singleton]; omega

set_option maxHeartbeats 8000000 in
set_option maxRecDepth 100000 in
theorem walk_PastPlain (w : World) (u : Value) (L : List (List Int)) (hL : Txts w u L) (v : Value) (now : List Int) (hv : Txt w v now) :
    Calls Try.prog 7 #[u, v] w (Yes w) := by
  obtain ⟨Al, cl, rfl, hl1, hl2⟩ := hL.is
  obtain ⟨An, cn, rfl, hn1, hn2⟩ := Sl.is hv
  have HL := Lib.hid (And.intro hL.old (And.intro (TxtS.old hv) trivial))
  clear hL hv
  go_enter Try.func7, Try.ntmps7
  have C0 := Lib.hid (few40 (.slice An now.length cn) now w (TxtS.any HL.out.2.1))
  go_wp2_with fail
  (with_reducible refine C0.out.mono ?_)
  rintro e w0 ⟨A0, m0, c0, rfl, H0, rfl⟩
  have V0 := Lib.hid (varP_new w 26)
  have N0 : Hid (TxtS w (fun b => b < w.heap.size ∧ Any b) (.slice A0 m0 c0) (now.take 40)) := Lib.hid (H0.out _ _ HL.out.2.1)
  obtain ⟨t, ht⟩ : ∃ t, now.take 40 = t := ⟨_, rfl⟩
  have HT30 : Hid (t.length ≤ 40) := Lib.hid (by rw [← ht, List.length_take]; omega)
  rw [ht] at N0
  clear ht
  go_wp2
  go_loopw [6] (fun i wr => ∃ q : Nat, q ≤ L.length ∧ q ≤ 12 ∧ i = .int .i64 q ∧ Hid (∃ A c B d M, VarP w (.slice A M.length c) 0 (.slice B 0 d) M [] wr ∧ M.length ≤ q ∧ ∀ l ∈ M, l.length ≤ 20)) (fun i _ => L.length - (intOf i).toNat)
  case atStart => exact ⟨0, Nat.zero_le _, Nat.zero_le _, rfl, ⟨none, 0, none, 0, [], V0.out, Nat.le_refl _, fun l hl => by cases hl⟩⟩
  case round =>
    obtain ⟨q, hq, hq30, rfl, HR⟩ := hrel
    obtain ⟨A1, c1, B1, d1, M, V, hM, hM20⟩ := HR.out
    have V1 := Lib.hid V
    have HM := Lib.hid (And.intro hM hM20)
    clear V HR hM hM20
    obtain ⟨_, y, j⟩ := (show _ from V1.out.blk)
    have y0 := y 0
    have y1 := y 1
    have y2 := y 2
    have j0 := j 0
    have j1 := j 1
    have j2 := j 2
    clear y j
    by_cases hlt : q < L.length ∧ q < 12
    · obtain ⟨hqn, hq2⟩ := hlt
      obtain ⟨b, o, As, ns, cs, rfl, hbl, hce, htx⟩ := (HL.out.1.later V1.out.below).at_ hqn
      obtain ⟨l, hl⟩ : ∃ l, L.getD q [] = l := ⟨_, rfl⟩
      rw [hl] at htx
      have HT := Lib.hid htx
      have hd : decide ((q : Int) < 12) = true := decide_eq_true (by omega)
      clear htx hl
      have HS : Hid (∀ X, Below wr.heap.size wr X → (fun X => X.cell? ⟨w.heap.size, 0, none⟩ = some (.slice A1 M.length c1) ∧ X.cell? ⟨w.heap.size, 1, none⟩ = some (.int .i64 0) ∧ X.cell? ⟨w.heap.size, 2, none⟩ = some (.slice B1 0 d1) ∧ X.frozen? ⟨w.heap.size, 0, none⟩ = false ∧ X.frozen? ⟨w.heap.size, 1, none⟩ = false ∧ X.frozen? ⟨w.heap.size, 2, none⟩ = false ∧ X.cell? ⟨b, o + q, none⟩ = some (.slice As ns cs)) X) := Lib.hid (by
        intro X hX
        have hB := V1.out.blk.later hX V1.out.blk.1
        exact ⟨hB.2.1 0, hB.2.1 1, hB.2.1 2, hB.2.2 0, hB.2.2 1, hB.2.2 2, (hX.cell (p := ⟨b, o + q, none⟩) hbl).trans hce⟩)
      have hD := (Below.refl wr.heap.size wr).drew
      go_wp2_with fail
      obtain ⟨p0, p1, p2, f0, f1, f2, pe⟩ := HS.out _ hD
      go_region_with
        (first
        | (go_at_call 8; refine (few20 _ l _ (TxtS.any (TxtS.later HT.out hD))).mono ?_; rintro e w1 ⟨A2, m2, c2, rfl, H2, rfl⟩)
        | (go_at_call 9; refine (add_any _ _ _ M (l.take 20) 0 (Aft w.heap.size) _ (V1.out.later hD).ts (H2.out _ _ (TxtS.any (TxtS.later HT.out hD))) (by have := HM.out.1; omega) (by rw [List.length_take]; omega)).mono ?_; rintro e w3 ⟨u3, v3, rfl, ht3, hs3, hb3⟩; obtain ⟨A3, c3, rfl, _⟩ := ht3.is; obtain ⟨B3, d3, es, _⟩ := Sl.is hs3; replace es : v3 = .slice B3 0 d3 := es; subst es; have hB3 := belowStep hD hb3; obtain ⟨g0, g1, g2, h0, h1, h2, _⟩ := HS.out _ hB3))
      all_goals
        have hlt : w.heap.size < wr.drew.heap.size := V1.out.blk.1
        have V2 := Lib.hid ((V1.out.later hD).store (k' := 0) hb3 (ht3.mono fun b hb => aft_new (g := w.heap.size) hlt hb) (Sl.mono hs3 fun b hb => aft_new (g := w.heap.size) hlt hb))
        clear g0 g1 g2 h0 h1 h2 p0 p1 p2 f0 f1 f2 pe hb3 ht3 hs3 hB3 H2 hlt
        go_wp2
        go_roundw
        case rel => exact ⟨q + 1, by omega, by omega, by go_num, ⟨_, _, _, _, _, V2.out, addM_len HM.out.1, addM_mem HM.out.2 (by rw [List.length_take]; omega)⟩⟩
        case measure => simp [intOf]; omega
    · have hM30 : M.length ≤ 12 := by have := HM.out.1; omega
      have HM2 := Lib.hid (And.intro hM30 HM.out.2)
      have hstop : q = L.length ∨ (q < L.length ∧ q = 12) := by omega
      clear hlt HM hM30
      rcases hstop with rfl | ⟨hqn, rfl⟩
      · have V2 := Lib.hid V1.out
        have T2 := Lib.hid (TxtS.any (TxtS.later N0.out V1.out.below))
        obtain ⟨At, ct, et, hrt, _, hct, hct2, _⟩ := T2.out
        have ht40 := HT30.out
        unfold maxLen at hct2
        injection et with x1 x2 x3
        subst x1; subst x2; subst x3
        clear y0 y1 y2 j0 j1 j2
        clear V0 H0 C0
        go_wp2
        go_loopw [7, 8, 9, 10] (fun o1 o2 o3 i wx => ∃ p A1 n1 c1 A2 n2 c2 A3 n3 c3, p ≤ t.length ∧ n1 ≤ p ∧ n2 ≤ 2 * p ∧ n3 ≤ p ∧ i = .int .i64 ((p : Nat) : Int) ∧ o1 = .slice A1 n1 c1 ∧ o2 = .slice A2 n2 c2 ∧ o3 = .slice A3 n3 c3 ∧ Hid (PL wr (.slice A1 n1 c1) (.slice A2 n2 c2) (.slice A3 n3 c3) n1 n2 n3 (plainL (t.take p)) (quoteL (t.take p)) (wantL (t.take p)) wx)) (fun _ _ _ i _ => t.length - (intOf i).toNat)
        case atStart => exact ⟨0, _, _, _, _, _, _, _, _, _, Nat.zero_le _, Nat.le_refl _, Nat.le_refl _, Nat.le_refl _, rfl, rfl, rfl, rfl, pl_nil _⟩
        case round =>
          obtain ⟨p, X1, n1, x1, X2, n2, x2, X3, n3, x3, hp, hn1, hn2, hn3, rfl, rfl, rfl, rfl, P1⟩ := hrel
          rename World => wx
          by_cases hlt : p < t.length
          · obtain ⟨b, o, rfl, hbl, hcx⟩ := hrt p hlt
            obtain ⟨x, hx⟩ : ∃ x, t.getD p 0 = x := ⟨_, rfl⟩
            have hcx' : wr.cell? ⟨b, o + p, none⟩ = some (.int .i32 x) := by rw [hcx, ← hx]; rfl
            have HC : Hid (∀ X, Below wr.heap.size wr X → X.cell? ⟨b, o + p, none⟩ = some (.int .i32 x)) := Lib.hid fun X hX => (hX.cell (p := ⟨b, o + p, none⟩) hbl).trans hcx'
            have htk : t.take (p + 1) = t.take p ++ [x] := by rw [List.take_succ_eq_append_getElem hlt, ← hx]; simp [List.getD, hlt]
            have k0 := HC.out _ P1.out.below
            have hpi : (p : Int) < (t.length : Int) := by omega
            have HK := Lib.hid (And.intro htk (And.intro hrt hcx))
            clear htk hx hcx hcx' hrt
            by_cases h33 : x = 33
            · subst h33
              have HS := Lib.hid (show plainL (t.take (p + 1)) = plainL (t.take p) ∧ quoteL (t.take (p + 1)) = quoteL (t.take p) ++ [92] ++ [33] ∧ wantL (t.take (p + 1)) = wantL (t.take p) ++ [33] by rw [HK.out.1, plain_snoc, quote_snoc, want_snoc]; simp)
              go_wp2_with (first
                | (at_builtin; refine wpList_push slR_elt Q2.out.r3.own Q2.out.size rfl rfl rfl rfl (by simp) rfl rfl (by unfold maxLen; omega) (by omega) ?_; intro D5 e5 w5 hp; have Q3 := Lib.hid (Q2.out.push3 hp); have kk3 := HC.out _ Q3.out.below; clear hp)
                | (at_builtin; refine wpList_push slR_elt Q1.out.r2.own Q1.out.size rfl rfl rfl rfl (by simp) rfl rfl (by unfold maxLen; omega) (by omega) ?_; intro D4 e4 w4 hp; have Q2 := Lib.hid (Q1.out.push2 hp); have kk2 := HC.out _ Q2.out.below; clear hp)
                | (at_builtin; refine wpList_push slR_elt P1.out.r2.own P1.out.size rfl rfl rfl rfl (by simp) rfl rfl (by unfold maxLen; omega) (by omega) ?_; intro D3 e3 w3 hp; have Q1 := Lib.hid (P1.out.push2 hp); have kk1 := HC.out _ Q1.out.below; clear hp))
              have PN := Lib.hid (by have := Q3.out; rw [← HS.out.1, ← HS.out.2.1, ← HS.out.2.2] at this; exact this)
              go_roundw
              case rel => exact ⟨p + 1, _, _, _, _, _, _, _, _, _, by omega, by omega, by omega, by omega, by go_num, rfl, rfl, rfl, PN⟩
              case measure => simp [intOf]; omega
            · by_cases h92 : x = 92
              · subst h92
                clear h33
                have HS := Lib.hid (show plainL (t.take (p + 1)) = plainL (t.take p) ++ [92] ∧ quoteL (t.take (p + 1)) = quoteL (t.take p) ∧ wantL (t.take (p + 1)) = wantL (t.take p) by rw [HK.out.1, plain_snoc, quote_snoc, want_snoc]; simp)
                go_wp2_with (first
                  | (at_builtin; refine wpList_push slR_elt P1.out.r1.own P1.out.size rfl rfl rfl rfl (by simp) rfl rfl (by unfold maxLen; omega) (by omega) ?_; intro D3 e3 w3 hp; have Q1 := Lib.hid (P1.out.push1 hp); have kk1 := HC.out _ Q1.out.below; clear hp))
                have PN := Lib.hid (by have := Q1.out; rw [← HS.out.1, ← HS.out.2.1, ← HS.out.2.2] at this; exact this)
                go_roundw
                case rel => exact ⟨p + 1, _, _, _, _, _, _, _, _, _, by omega, by omega, by omega, by omega, by go_num, rfl, rfl, rfl, PN⟩
                case measure => simp [intOf]; omega
              · have HS := Lib.hid (show plainL (t.take (p + 1)) = plainL (t.take p) ++ [x] ∧ quoteL (t.take (p + 1)) = quoteL (t.take p) ++ [x] ∧ wantL (t.take (p + 1)) = wantL (t.take p) ++ [x] by rw [HK.out.1, plain_snoc, quote_snoc, want_snoc, if_neg h33, if_neg h92, if_neg h92, if_neg h33]; exact ⟨rfl, rfl, rfl⟩)
                have d33 : (x == 33) = false := by simpa using h33
                have d92 : (x == 92) = false := by simpa using h92
                have e33 : (x != 33) = true := by simpa using h33
                clear h33 h92
                go_wp2_with (first
                  | (at_builtin; refine wpList_push slR_elt Q2.out.r3.own Q2.out.size rfl rfl rfl rfl (by simp) rfl rfl (by unfold maxLen; omega) (by omega) ?_; intro D5 e5 w5 hp; have Q3 := Lib.hid (Q2.out.push3 hp); have kk3 := HC.out _ Q3.out.below; clear hp)
                  | (at_builtin; refine wpList_push slR_elt Q1.out.r2.own Q1.out.size rfl rfl rfl rfl (by simp) rfl rfl (by unfold maxLen; omega) (by omega) ?_; intro D4 e4 w4 hp; have Q2 := Lib.hid (Q1.out.push2 hp); have kk2 := HC.out _ Q2.out.below; clear hp)
                  | (at_builtin; refine wpList_push slR_elt P1.out.r1.own P1.out.size rfl rfl rfl rfl (by simp) rfl rfl (by unfold maxLen; omega) (by omega) ?_; intro D3 e3 w3 hp; have Q1 := Lib.hid (P1.out.push1 hp); have kk1 := HC.out _ Q1.out.below; clear hp))
                have PN := Lib.hid (by have := Q3.out; rw [← HS.out.1, ← HS.out.2.1, ← HS.out.2.2] at this; exact this)
                go_roundw
                case rel => exact ⟨p + 1, _, _, _, _, _, _, _, _, _, by omega, by omega, by omega, by omega, by go_num, rfl, rfl, rfl, PN⟩
                case measure => simp [intOf]; omega
          · obtain rfl : p = t.length := by omega
            rw [List.take_of_length_le (Nat.le_refl _)] at P1
            have V3 := Lib.hid (V2.out.later P1.out.below)
            clear hlt
            obtain ⟨_, y, j'⟩ := (show _ from V3.out.blk)
            have y0 := y 0
            have y1 := y 1
            have y2 := y 2
            have j0 := j' 0
            have j1 := j' 1
            have j2 := j' 2
            clear y j'
            have C5 := Lib.hid (expand_any (.slice A1 M.length c1) (.slice B1 0 d1) (.slice X1 n1 x1) 0 (plainL t) (plainL t) wx P1.out.r1.txt (exp_plain t) (by have := P1.out.r1.len; omega))
            go_wp2_with fail
            (with_reducible refine C5.out.mono ?_)
            rintro e w5 ⟨A5, n5, c5, rfl, ht5, hb5⟩
            have V5 := Lib.hid (V3.out.later hb5)
            have H5 := Lib.hid (And.intro (TxtS.any ht5) (And.intro (P1.out.r1.txt.later hb5) (And.intro (P1.out.r2.txt.later hb5) (P1.out.r3.txt.later hb5))))
            clear ht5 hb5
            clear y0 y1 y2 j0 j1 j2
            obtain ⟨_, y, j'⟩ := (show _ from V5.out.blk)
            have y0 := y 0
            have y1 := y 1
            have y2 := y 2
            have j0 := j' 0
            have j1 := j' 1
            have j2 := j' 2
            clear y j'
            have C6 := Lib.hid (expand_any (.slice A1 M.length c1) (.slice B1 0 d1) (.slice X2 n2 x2) 0 (quoteL t) (wantL t) w5 H5.out.2.2.1 (exp_quote t) (by have := P1.out.r2.len; omega))
            go_wp2_with fail
            (with_reducible refine C6.out.mono ?_)
            rintro e w6 ⟨A6, n6, c6, rfl, ht6, hb6⟩
            have H6 := Lib.hid (And.intro (H5.out.1.later hb6) (And.intro (H5.out.2.1.later hb6) (And.intro (TxtS.any ht6) (And.intro (H5.out.2.2.2.later hb6) (V5.out.below.trans (hb6.mono V5.out.below.size))))))
            clear ht6 hb6
            clear y0 y1 y2 j0 j1 j2
            have C7 := Lib.hid (same_far (.slice A5 n5 c5) (.slice X1 n1 x1) (plainL t) w6 H6.out.1 H6.out.2.1)
            go_wp2_with fail
            (with_reducible refine C7.out.mono ?_)
            rintro e w7 ⟨rfl, hb7⟩
            have H7 := Lib.hid (And.intro (H6.out.2.2.1.later hb7) (And.intro (H6.out.2.2.2.1.later hb7) (H6.out.2.2.2.2.trans (hb7.mono H6.out.2.2.2.2.size))))
            clear hb7
            have C8 := Lib.hid (same_far (.slice A6 n6 c6) (.slice X3 n3 x3) (wantL t) w7 H7.out.1 H7.out.2.1)
            go_wp2_with fail
            (with_reducible refine C8.out.mono ?_)
            rintro e w8 ⟨rfl, hb8⟩
            have H8 := Lib.hid (H7.out.2.2.trans (hb8.mono H7.out.2.2.size))
            clear hb8
            go_wp2_with (go_at_call 15; refine (awake_yes _).mono ?_; rintro e w9 ⟨rfl, hb9⟩)
            go_ret
            exact ⟨rfl, H8.out.trans (hb9.mono H8.out.size)⟩
      · have V2 := Lib.hid V1.out
        have T2 := Lib.hid (TxtS.any (TxtS.later N0.out V1.out.below))
        obtain ⟨At, ct, et, hrt, _, hct, hct2, _⟩ := T2.out
        have ht40 := HT30.out
        unfold maxLen at hct2
        injection et with x1 x2 x3
        subst x1; subst x2; subst x3
        clear y0 y1 y2 j0 j1 j2
        clear V0 H0 C0
        go_wp2
        go_loopw [7, 8, 9, 10] (fun o1 o2 o3 i wx => ∃ p A1 n1 c1 A2 n2 c2 A3 n3 c3, p ≤ t.length ∧ n1 ≤ p ∧ n2 ≤ 2 * p ∧ n3 ≤ p ∧ i = .int .i64 ((p : Nat) : Int) ∧ o1 = .slice A1 n1 c1 ∧ o2 = .slice A2 n2 c2 ∧ o3 = .slice A3 n3 c3 ∧ Hid (PL wr (.slice A1 n1 c1) (.slice A2 n2 c2) (.slice A3 n3 c3) n1 n2 n3 (plainL (t.take p)) (quoteL (t.take p)) (wantL (t.take p)) wx)) (fun _ _ _ i _ => t.length - (intOf i).toNat)
        case atStart => exact ⟨0, _, _, _, _, _, _, _, _, _, Nat.zero_le _, Nat.le_refl _, Nat.le_refl _, Nat.le_refl _, rfl, rfl, rfl, rfl, pl_nil _⟩
        case round =>
          obtain ⟨p, X1, n1, x1, X2, n2, x2, X3, n3, x3, hp, hn1, hn2, hn3, rfl, rfl, rfl, rfl, P1⟩ := hrel
          rename World => wx
          by_cases hlt : p < t.length
          · obtain ⟨b, o, rfl, hbl, hcx⟩ := hrt p hlt
            obtain ⟨x, hx⟩ : ∃ x, t.getD p 0 = x := ⟨_, rfl⟩
            have hcx' : wr.cell? ⟨b, o + p, none⟩ = some (.int .i32 x) := by rw [hcx, ← hx]; rfl
            have HC : Hid (∀ X, Below wr.heap.size wr X → X.cell? ⟨b, o + p, none⟩ = some (.int .i32 x)) := Lib.hid fun X hX => (hX.cell (p := ⟨b, o + p, none⟩) hbl).trans hcx'
            have htk : t.take (p + 1) = t.take p ++ [x] := by rw [List.take_succ_eq_append_getElem hlt, ← hx]; simp [List.getD, hlt]
            have k0 := HC.out _ P1.out.below
            have hpi : (p : Int) < (t.length : Int) := by omega
            have HK := Lib.hid (And.intro htk (And.intro hrt hcx))
            clear htk hx hcx hcx' hrt
            by_cases h33 : x = 33
            · subst h33
              have HS := Lib.hid (show plainL (t.take (p + 1)) = plainL (t.take p) ∧ quoteL (t.take (p + 1)) = quoteL (t.take p) ++ [92] ++ [33] ∧ wantL (t.take (p + 1)) = wantL (t.take p) ++ [33] by rw [HK.out.1, plain_snoc, quote_snoc, want_snoc]; simp)
              go_wp2_with (first
                | (at_builtin; refine wpList_push slR_elt Q2.out.r3.own Q2.out.size rfl rfl rfl rfl (by simp) rfl rfl (by unfold maxLen; omega) (by omega) ?_; intro D5 e5 w5 hp; have Q3 := Lib.hid (Q2.out.push3 hp); have kk3 := HC.out _ Q3.out.below; clear hp)
                | (at_builtin; refine wpList_push slR_elt Q1.out.r2.own Q1.out.size rfl rfl rfl rfl (by simp) rfl rfl (by unfold maxLen; omega) (by omega) ?_; intro D4 e4 w4 hp; have Q2 := Lib.hid (Q1.out.push2 hp); have kk2 := HC.out _ Q2.out.below; clear hp)
                | (at_builtin; refine wpList_push slR_elt P1.out.r2.own P1.out.size rfl rfl rfl rfl (by simp) rfl rfl (by unfold maxLen; omega) (by omega) ?_; intro D3 e3 w3 hp; have Q1 := Lib.hid (P1.out.push2 hp); have kk1 := HC.out _ Q1.out.below; clear hp))
              have PN := Lib.hid (by have := Q3.out; rw [← HS.out.1, ← HS.out.2.1, ← HS.out.2.2] at this; exact this)
              go_roundw
              case rel => exact ⟨p + 1, _, _, _, _, _, _, _, _, _, by omega, by omega, by omega, by omega, by go_num, rfl, rfl, rfl, PN⟩
              case measure => simp [intOf]; omega
            · by_cases h92 : x = 92
              · subst h92
                clear h33
                have HS := Lib.hid (show plainL (t.take (p + 1)) = plainL (t.take p) ++ [92] ∧ quoteL (t.take (p + 1)) = quoteL (t.take p) ∧ wantL (t.take (p + 1)) = wantL (t.take p) by rw [HK.out.1, plain_snoc, quote_snoc, want_snoc]; simp)
                go_wp2_with (first
                  | (at_builtin; refine wpList_push slR_elt P1.out.r1.own P1.out.size rfl rfl rfl rfl (by simp) rfl rfl (by unfold maxLen; omega) (by omega) ?_; intro D3 e3 w3 hp; have Q1 := Lib.hid (P1.out.push1 hp); have kk1 := HC.out _ Q1.out.below; clear hp))
                have PN := Lib.hid (by have := Q1.out; rw [← HS.out.1, ← HS.out.2.1, ← HS.out.2.2] at this; exact this)
                go_roundw
                case rel => exact ⟨p + 1, _, _, _, _, _, _, _, _, _, by omega, by omega, by omega, by omega, by go_num, rfl, rfl, rfl, PN⟩
                case measure => simp [intOf]; omega
              · have HS := Lib.hid (show plainL (t.take (p + 1)) = plainL (t.take p) ++ [x] ∧ quoteL (t.take (p + 1)) = quoteL (t.take p) ++ [x] ∧ wantL (t.take (p + 1)) = wantL (t.take p) ++ [x] by rw [HK.out.1, plain_snoc, quote_snoc, want_snoc, if_neg h33, if_neg h92, if_neg h92, if_neg h33]; exact ⟨rfl, rfl, rfl⟩)
                have d33 : (x == 33) = false := by simpa using h33
                have d92 : (x == 92) = false := by simpa using h92
                have e33 : (x != 33) = true := by simpa using h33
                clear h33 h92
                go_wp2_with (first
                  | (at_builtin; refine wpList_push slR_elt Q2.out.r3.own Q2.out.size rfl rfl rfl rfl (by simp) rfl rfl (by unfold maxLen; omega) (by omega) ?_; intro D5 e5 w5 hp; have Q3 := Lib.hid (Q2.out.push3 hp); have kk3 := HC.out _ Q3.out.below; clear hp)
                  | (at_builtin; refine wpList_push slR_elt Q1.out.r2.own Q1.out.size rfl rfl rfl rfl (by simp) rfl rfl (by unfold maxLen; omega) (by omega) ?_; intro D4 e4 w4 hp; have Q2 := Lib.hid (Q1.out.push2 hp); have kk2 := HC.out _ Q2.out.below; clear hp)
                  | (at_builtin; refine wpList_push slR_elt P1.out.r1.own P1.out.size rfl rfl rfl rfl (by simp) rfl rfl (by unfold maxLen; omega) (by omega) ?_; intro D3 e3 w3 hp; have Q1 := Lib.hid (P1.out.push1 hp); have kk1 := HC.out _ Q1.out.below; clear hp))
                have PN := Lib.hid (by have := Q3.out; rw [← HS.out.1, ← HS.out.2.1, ← HS.out.2.2] at this; exact this)
                go_roundw
                case rel => exact ⟨p + 1, _, _, _, _, _, _, _, _, _, by omega, by omega, by omega, by omega, by go_num, rfl, rfl, rfl, PN⟩
                case measure => simp [intOf]; omega
          · obtain rfl : p = t.length := by omega
            rw [List.take_of_length_le (Nat.le_refl _)] at P1
            have V3 := Lib.hid (V2.out.later P1.out.below)
            clear hlt
            obtain ⟨_, y, j'⟩ := (show _ from V3.out.blk)
            have y0 := y 0
            have y1 := y 1
            have y2 := y 2
            have j0 := j' 0
            have j1 := j' 1
            have j2 := j' 2
            clear y j'
            have C5 := Lib.hid (expand_any (.slice A1 M.length c1) (.slice B1 0 d1) (.slice X1 n1 x1) 0 (plainL t) (plainL t) wx P1.out.r1.txt (exp_plain t) (by have := P1.out.r1.len; omega))
            go_wp2_with fail
            (with_reducible refine C5.out.mono ?_)
            rintro e w5 ⟨A5, n5, c5, rfl, ht5, hb5⟩
            have V5 := Lib.hid (V3.out.later hb5)
            have H5 := Lib.hid (And.intro (TxtS.any ht5) (And.intro (P1.out.r1.txt.later hb5) (And.intro (P1.out.r2.txt.later hb5) (P1.out.r3.txt.later hb5))))
            clear ht5 hb5
            clear y0 y1 y2 j0 j1 j2
            obtain ⟨_, y, j'⟩ := (show _ from V5.out.blk)
            have y0 := y 0
            have y1 := y 1
            have y2 := y 2
            have j0 := j' 0
            have j1 := j' 1
            have j2 := j' 2
            clear y j'
            have C6 := Lib.hid (expand_any (.slice A1 M.length c1) (.slice B1 0 d1) (.slice X2 n2 x2) 0 (quoteL t) (wantL t) w5 H5.out.2.2.1 (exp_quote t) (by have := P1.out.r2.len; omega))
            go_wp2_with fail
            (with_reducible refine C6.out.mono ?_)
            rintro e w6 ⟨A6, n6, c6, rfl, ht6, hb6⟩
            have H6 := Lib.hid (And.intro (H5.out.1.later hb6) (And.intro (H5.out.2.1.later hb6) (And.intro (TxtS.any ht6) (And.intro (H5.out.2.2.2.later hb6) (V5.out.below.trans (hb6.mono V5.out.below.size))))))
            clear ht6 hb6
            clear y0 y1 y2 j0 j1 j2
            have C7 := Lib.hid (same_far (.slice A5 n5 c5) (.slice X1 n1 x1) (plainL t) w6 H6.out.1 H6.out.2.1)
            go_wp2_with fail
            (with_reducible refine C7.out.mono ?_)
            rintro e w7 ⟨rfl, hb7⟩
            have H7 := Lib.hid (And.intro (H6.out.2.2.1.later hb7) (And.intro (H6.out.2.2.2.1.later hb7) (H6.out.2.2.2.2.trans (hb7.mono H6.out.2.2.2.2.size))))
            clear hb7
            have C8 := Lib.hid (same_far (.slice A6 n6 c6) (.slice X3 n3 x3) (wantL t) w7 H7.out.1 H7.out.2.1)
            go_wp2_with fail
            (with_reducible refine C8.out.mono ?_)
            rintro e w8 ⟨rfl, hb8⟩
            have H8 := Lib.hid (H7.out.2.2.trans (hb8.mono H7.out.2.2.size))
            clear hb8
            go_wp2_with (go_at_call 15; refine (awake_yes _).mono ?_; rintro e w9 ⟨rfl, hb9⟩)
            go_ret
            exact ⟨rfl, H8.out.trans (hb9.mono H8.out.size)⟩
end Go.Proofs.Ytmhjhndnbgabjaa

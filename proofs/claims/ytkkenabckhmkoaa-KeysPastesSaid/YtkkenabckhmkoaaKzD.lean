/- keys: what is pasted is told. -/
import Derived.Test.YtkkenabckhmkoaaKzC
import Derived.Test.YtkkenabckhmkoaaKzP
import Derived.Test.YtkkenabckhmkoaaKuZ
namespace Go.Proofs.Ytkkenabckhmkoaa
open Go.RowKit
set_option linter.unusedVariables false
set_option linter.unusedSimpArgs false
set_option maxRecDepth 100000

theorem bts_append (a b : ByteArray) : bts (a ++ b) = bts a ++ bts b := by simp [bts, ByteArray.data_append]
def stQ (L : List Int) (i : Nat) : KS := if i = L.length + 12 then KS.zero else stP L i
theorem stQ_zero (L : List Int) : stQ L 0 = KS.zero := by unfold stQ; rw [if_neg (by omega)]; rfl
theorem stQ_end (L : List Int) : stQ L (L.length + 12) = KS.zero := if_pos rfl
theorem stQ_tx (L : List Int) (i : Nat) : (stQ L i).tx.length ≤ i := by
  unfold stQ
  split
  · exact Nat.zero_le _
  · exact stP_tx L i
theorem stQ_tick (L : List Int) (i : Nat) (hi : 5 < i) (hl : i < L.length + 12) : tickK (stQ L i) = (stQ L i, []) := by
  unfold stQ
  rw [if_neg (by omega)]
  exact tick_paste L i hi
theorem stQ_feed (L : List Int) (hno : ∀ i, i + 6 ≤ L.length → (L.drop i).take 6 ≠ pasteEnd) (i : Nat) (b : Int) (hb : (allP L)[i]? = some b) :
    feedK (stQ L i) b = (stQ L (i + 1), if i + 1 = L.length + 12 then [⟨4, 0, false, decD L⟩] else []) := by
  have hi : i < L.length + 12 := by rw [← allP_len]; exact (List.getElem?_eq_some_iff.1 hb).1
  have h := feed_paste L hno i b hb
  unfold stQ
  rw [if_neg (by omega), h]
  by_cases h1 : i + 1 = L.length + 12
  · rw [if_pos h1, if_pos h1, if_pos h1]
  · rw [if_neg h1, if_neg h1, if_neg h1]
theorem kyW_told (w : World) (t : TypeId) {A : Option Addr} {n c : Nat} {l : List Int} (h : Rd w A n (li l)) (hn : n = l.length) : KyW (w.alloc (.cells #[.int .i64 4, .int .i32 0, .bool false, .slice A n c] t)) (.slice (some ⟨w.heap.size, 0, none⟩) 1 1) [⟨4, 0, false, l⟩] :=
  ⟨[⟨4, 0, false, A, n, c⟩], (key_newT w ⟨4, 0, false, A, n, c⟩ t).mono fun _ _ => trivial, keysW_one ⟨rfl, rfl, rfl, hn, h.later (belAlloc _ _)⟩⟩

set_option maxHeartbeats 8000000 in
theorem walk_KeysPastes_at (s00 : ByteArray) (t : Int) (ht0 : -9223372036854775808 ≤ t) (ht1 : t ≤ 9223372036854775807) (hs9 : (s00.size : Int) ≤ 9223372036854775807) (w : World) :
    Calls Try.prog 5 #[.string s00, .int .i64 t] w (Yes w) := by
  have HW := Lib.hid awake_yes
  go_enter Try.func5, Try.ntmps5
  have d0 : decide ((300 : Int) < (s00.size : Int)) = decide (300 < s00.size) := by rw [decide_eq_decide]; omega
  obtain ⟨bb, hbb⟩ : ∃ bb, decide (300 < s00.size) = bb := ⟨_, rfl⟩
  rw [hbb] at d0
  go_upto_if 15 with fail
  go_cut [0] (fun v0 wx => ∃ s' : ByteArray, v0 = .string s' ∧ s'.size ≤ 300 ∧ w = wx)
  case first =>
    cases bb
    case true =>
      have hbig : 300 < s00.size := by simpa using hbb
      go_wp2_with fail
      go_meet
      exact ⟨s00.extract 0 300, rfl, by rw [ByteArray.size_extract]; omega, rfl⟩
    case false =>
      have hbig : ¬ 300 < s00.size := by simpa using hbb
      go_wp2_with fail
      go_meet
      exact ⟨s00, rfl, by omega, rfl⟩
  case rest =>
    obtain ⟨s, rfl, hsz, rfl⟩ := hcut
    clear hs9 d0 hbb bb s00
    go_wp2_with fail
    go_loopw [5] (fun i wr => ∃ k : Nat, k ≤ s.size ∧ i = .int .i64 (k : Nat) ∧ Hid (∀ j, j < k → ((bts s).drop j).take 6 ≠ pasteEnd) ∧ w = wr) (fun i _ => s.size - (intOf i).toNat)
    case atStart => exact ⟨0, Nat.zero_le _, rfl, fun j hj => absurd hj (Nat.not_lt_zero _), rfl⟩
    case round =>
      obtain ⟨k, hk, rfl, HN, rfl⟩ := hrel
      by_cases hlt : k + 6 ≤ s.size
      · obtain ⟨bq, hbq⟩ : ∃ bq, ((s.extract k (k + 6)).toList == [27, 91, 50, 48, 49, 126]) = bq := ⟨_, rfl⟩
        cases bq
        case true =>
          go_wp2_with (go_at_call 13; refine (HW.out _).mono ?_; rintro e w4 ⟨rfl, hb4⟩)
          go_ret
          exact ⟨rfl, hb4⟩
        case false =>
          have hne : ((bts s).drop k).take 6 ≠ pasteEnd := by
            intro h
            have h1 : bts (s.extract k (k + 6)) = pasteEnd := by rw [bts_extract, show k + 6 - k = 6 by omega]; exact h
            have h2 : s.extract k (k + 6) = strOfNums pasteEnd := by rw [← h1, str_bts]
            rw [h2, show ((strOfNums pasteEnd).toList == [27, 91, 50, 48, 49, 126]) = true by decide +kernel] at hbq
            cases hbq
          have HM := Lib.hid (show ∀ j, j < k + 1 → ((bts s).drop j).take 6 ≠ pasteEnd from fun j hj => by
            rcases Nat.lt_or_ge j k with h | h
            · exact HN.out j h
            · obtain rfl : j = k := by omega
              exact hne)
          clear hne HN
          go_wp2_with fail
          go_roundw
          case rel => exact ⟨k + 1, by omega, by go_num, HM.out, trivial⟩
          case measure => simp [intOf]; omega
      · have hno : ∀ i, i + 6 ≤ (bts s).length → ((bts s).drop i).take 6 ≠ pasteEnd := fun i hi => HN.out i (by rw [bts_length] at hi; omega)
        have hc1 := fun w => row_cat w ⟨#[27, 91, 50, 48, 48, 126]⟩ s (by show 6 + s.size ≤ _; omega)
        have hc2 := fun w => row_cat w (⟨#[27, 91, 50, 48, 48, 126]⟩ ++ s) ⟨#[27, 91, 50, 48, 49, 126]⟩ (by rw [ByteArray.size_append]; show 6 + s.size + 6 ≤ _; omega)
        have HO := Lib.hid hno
        clear hno HN
        go_upto_region 9 with fail
        clear hlt hk
        obtain ⟨S, hS⟩ : ∃ S, (⟨#[27, 91, 50, 48, 48, 126]⟩ : ByteArray) ++ s ++ ⟨#[27, 91, 50, 48, 49, 126]⟩ = S := ⟨_, rfl⟩
        rw [hS]
        have hbt : bts S = allP (bts s) := by rw [← hS, bts_append, bts_append, List.append_assoc]; rfl
        have hsS : S.size = s.size + 12 := by rw [← bts_length, hbt, allP_len, bts_length]
        have HB := Lib.hid (And.intro hbt hsS)
        have hS9 : S.size ≤ 400 := by omega
        clear hS hc1 hc2 hbt hsS hsz
        go_upto_region 10 with fail
        refine at_world (PS w w.heap.size KS.zero none) (ps_start (Below.refl _ _) _) ?_
        intro X hX
        have V0 := Lib.hid hX
        clear hX
        go_wp2_with fail
        go_loopw [8] (fun i wr => ∃ (q : Nat) (T : Option Addr), q ≤ S.size ∧ i = .int .i64 (q : Nat) ∧ Hid (PS w w.heap.size (stQ (bts s) q) T wr ∧ (stQ (bts s) q).Ok)) (fun i _ => S.size - (intOf i).toNat)
        case atStart => exact ⟨0, none, Nat.zero_le _, rfl, by rw [stQ_zero]; exact ⟨V0.out, ok_zero⟩⟩
        case round =>
          obtain ⟨q, T, hq, rfl, HI⟩ := hrel
          clear V0
          by_cases hlq : q < S.size
          · have hlts : (q : Int) < (S.size : Int) := by omega
            have hb0 : 0 ≤ (S[q].toNat : Int) := by omega
            have hb1 : (S[q].toNat : Int) ≤ 255 := by have := S[q].toNat_lt; omega
            have hbq : (allP (bts s))[q]? = some (S[q].toNat : Int) := by
              rw [← HB.out.1]
              simp [bts, hlq, ByteArray.getElem_eq_getElem_data]
            have hfs := stQ_feed (bts s) HO.out q _ hbq
            have hbl : (bts s).length + 12 = S.size := by rw [bts_length, HB.out.2]
            rw [hbl] at hfs
            have htk := fun h : 5 < q => stQ_tick (bts s) q h (by omega)
            have hps := HI.out
            have htx := stQ_tx (bts s) q
            obtain ⟨R, hR⟩ : ∃ R, stQ (bts s) q = R := ⟨_, rfl⟩
            rw [hR] at hps hfs htk htx
            have hokq := ok_feed R hps.2 (S[q].toNat : Int) hb0 hb1 (by omega)
            obtain ⟨⟨⟨rw_, ⟨x, y, z, nd⟩, rm, rrow, rtx, rcl⟩, ks⟩, hfd⟩ : ∃ r, feedK R (S[q].toNat : Int) = r := ⟨_, rfl⟩
            have CF := Lib.hid (show ∀ (T : Option Addr) Z, PS w w.heap.size R T Z → Calls Try.prog 7 #[psV R T, .int .u8 (S[q].toNat : Int)] Z (Tells (⟨rw_, ⟨x, y, z, nd⟩, rm, rrow, rtx, rcl⟩, ks) Z) from fun T Z hZ => by rw [← hfd]; exact feed_any R T _ hb0 hb1 hps.2 Z hZ.chain)
            have CT := Lib.hid (show 5 < q → ∀ (T : Option Addr) Z, PS w w.heap.size R T Z → Calls Try.prog 9 #[psV R T] Z (Tells (R, []) Z) from fun h T Z hZ => by rw [← htk h]; exact tick_any R T hps.2 Z hZ.chain)
            rw [hfd] at hfs hokq
            have hf1 := congrArg Prod.fst hfs
            have hf2 := congrArg Prod.snd hfs
            dsimp only at hf1 hf2
            have HF := Lib.hid (And.intro hf1 (And.intro hf2 hokq))
            clear hf1 hf2
            have VX := Lib.hid (show PS w w.heap.size R T wr from hps.1)
            clear hfd hps hR hfs hokq htk htx hbl HI
            obtain ⟨sw, ⟨h0, h1, h2, dn⟩, sm, srow, stx, scl⟩ := R
            go_upto_region 13 with fail
            go_cut [50] (fun v50 wx => ∃ bt : Bool, v50 = .bool bt ∧ (bt = true → 5 < q) ∧ Hid (PS w w.heap.size ⟨sw, ⟨h0, h1, h2, dn⟩, sm, srow, stx, scl⟩ T wx))
            case first =>
              by_cases h5 : 5 < q
              · have d5 : (5 : Int) < (q : Int) := by omega
                go_wp2_with fail
                go_meet
                exact ⟨_, rfl, fun _ => h5, VX⟩
              · have d5 : ¬ (5 : Int) < (q : Int) := by omega
                go_wp2_with fail
                go_meet
                exact ⟨false, rfl, (fun h => by cases h), VX⟩
            case rest =>
              obtain ⟨bt, rfl, hbt5, VY⟩ := hcut
              clear VX
              refine at_world (PS w w.heap.size ⟨sw, ⟨h0, h1, h2, dn⟩, sm, srow, stx, scl⟩ T) VY.out ?_
              intro X hX
              have VX := Lib.hid hX
              clear hX VY
              go_upto_if 50 with fail
              go_cut [] (fun wx => ∃ T' : Option Addr, Hid (PS w w.heap.size ⟨sw, ⟨h0, h1, h2, dn⟩, sm, srow, stx, scl⟩ T' wx))
              case first =>
                cases bt
                case true =>
                  have CT1 := Lib.hid (CT.out (hbt5 rfl) T X VX.out)
                  obtain ⟨yd, kd, jd⟩ := (show _ from VX.out.p)
                  have d0 : X.cell? ⟨w.heap.size, 0, none⟩ = _ := kd 0
                  have d1 : X.cell? ⟨w.heap.size, 1, none⟩ = _ := kd 1
                  have d2 : X.cell? ⟨w.heap.size, 2, none⟩ = _ := kd 2
                  have d3 : X.cell? ⟨w.heap.size, 3, none⟩ = _ := kd 3
                  have d4 : X.cell? ⟨w.heap.size, 4, none⟩ = _ := kd 4
                  have d5 : X.cell? ⟨w.heap.size, 5, none⟩ = _ := kd 5
                  have d6 : X.cell? ⟨w.heap.size, 6, none⟩ = _ := kd 6
                  have d7 : X.cell? ⟨w.heap.size, 7, none⟩ = _ := kd 7
                  have d8 : X.cell? ⟨w.heap.size, 8, none⟩ = _ := kd 8
                  simp at d0 d1 d2 d3 d4 d5 d6 d7 d8
                  clear kd jd
                  go_upto_region 15 with (go_at_call 9; refine CT1.out.mono ?_; rintro e w6 ⟨T6, A6, n6, c6, rfl, ch, hk, hn, b6⟩; have V6 := Lib.hid (And.intro (VX.out.later b6) (And.intro ch (And.intro hk (And.intro b6 hn)))); clear ch hk hn b6)
                  clear yd d0 d1 d2 d3 d4 d5 d6 d7 d8
                  refine at_world (fun Y => PQ w X w.heap.size w6.heap.size ⟨sw, ⟨h0, h1, h2, dn⟩, sm, srow, stx, scl⟩ ⟨sw, ⟨h0, h1, h2, dn⟩, sm, srow, stx, scl⟩ T T6 (.slice A6 n6 c6) [] Y) (pq_new (s := ⟨sw, ⟨h0, h1, h2, dn⟩, sm, srow, stx, scl⟩) (s' := ⟨sw, ⟨h0, h1, h2, dn⟩, sm, srow, stx, scl⟩) V6.out.1 V6.out.2.1 V6.out.2.2.1 V6.out.2.2.2.1 _) ?_
                  obtain ⟨gq, hgq⟩ : ∃ gq, w6.heap.size = gq := ⟨_, rfl⟩
                  rw [hgq]
                  clear hgq
                  intro Z hZ
                  have HQ := Lib.hid hZ
                  clear hZ
                  have hn0 : n6 = 0 := V6.out.2.2.2.2
                  subst hn0
                  obtain ⟨ye, ke, je⟩ := (show _ from HQ.out.q)
                  obtain ⟨yd, kd, jd⟩ := (show _ from HQ.out.ps.p)
                  have e0 : Z.cell? ⟨gq, 0, none⟩ = _ := ke 0
                  have e1 : Z.cell? ⟨gq, 1, none⟩ = _ := ke 1
                  have e2 : Z.cell? ⟨gq, 2, none⟩ = _ := ke 2
                  have e3 : Z.cell? ⟨gq, 3, none⟩ = _ := ke 3
                  have e4 : Z.cell? ⟨gq, 4, none⟩ = _ := ke 4
                  have e5 : Z.cell? ⟨gq, 5, none⟩ = _ := ke 5
                  have e6 : Z.cell? ⟨gq, 6, none⟩ = _ := ke 6
                  have e7 : Z.cell? ⟨gq, 7, none⟩ = _ := ke 7
                  have e8 : Z.cell? ⟨gq, 8, none⟩ = _ := ke 8
                  have d0 : Z.cell? ⟨w.heap.size, 0, none⟩ = _ := kd 0
                  have d1 : Z.cell? ⟨w.heap.size, 1, none⟩ = _ := kd 1
                  have d2 : Z.cell? ⟨w.heap.size, 2, none⟩ = _ := kd 2
                  have d3 : Z.cell? ⟨w.heap.size, 3, none⟩ = _ := kd 3
                  have d4 : Z.cell? ⟨w.heap.size, 4, none⟩ = _ := kd 4
                  have d5 : Z.cell? ⟨w.heap.size, 5, none⟩ = _ := kd 5
                  have d6 : Z.cell? ⟨w.heap.size, 6, none⟩ = _ := kd 6
                  have d7 : Z.cell? ⟨w.heap.size, 7, none⟩ = _ := kd 7
                  have d8 : Z.cell? ⟨w.heap.size, 8, none⟩ = _ := kd 8
                  have g0 := jd 0
                  have g1 := jd 1
                  have g2 := jd 2
                  have g3 := jd 3
                  have g4 := jd 4
                  have g5 := jd 5
                  have g6 := jd 6
                  have g7 := jd 7
                  have g8 := jd 8
                  have hne1 : gq ≠ w.heap.size := Nat.ne_of_gt HQ.out.ne
                  have hne2 : w.heap.size ≠ gq := Nat.ne_of_lt HQ.out.ne
                  simp at e0 e1 e2 e3 e4 e5 e6 e7 e8 d0 d1 d2 d3 d4 d5 d6 d7 d8
                  clear ke kd jd je
                  go_upto_region 16 with fail
                  refine at_world (fun Y => PS w w.heap.size ⟨sw, ⟨h0, h1, h2, dn⟩, sm, srow, stx, scl⟩ T6 Y) (pn_put (w := w) (X0 := X) (Y := Z) (g := w.heap.size) (gq := gq) (T' := T6) (s' := ⟨sw, ⟨h0, h1, h2, dn⟩, sm, srow, stx, scl⟩) HQ.out).ps ?_
                  clear e0 e1 e2 e3 e4 e5 e6 e7 e8 d0 d1 d2 d3 d4 d5 d6 d7 d8 g0 g1 g2 g3 g4 g5 g6 g7 g8 ye yd hne1 hne2 HQ
                  intro Y hY
                  have VY := Lib.hid hY
                  clear hY
                  go_wp2_with fail
                  go_meet
                  exact ⟨T6, VY⟩
                case false =>
                  go_wp2_with fail
                  go_meet
                  exact ⟨T, VX⟩
              case rest =>
                obtain ⟨T', HP⟩ := hcut
                refine at_world (PS w w.heap.size ⟨sw, ⟨h0, h1, h2, dn⟩, sm, srow, stx, scl⟩ T') HP.out ?_
                clear VX HP CT hbt5 bt
                intro X hX
                have VX := Lib.hid hX
                clear hX
                have HS := Lib.hid (show ∀ Z, Below X.heap.size X Z → SO w.heap.size ⟨sw, ⟨h0, h1, h2, dn⟩, sm, srow, stx, scl⟩ T' Z from fun Z hZ => so_blk (VX.out.later hZ).p)
                have CF1 := Lib.hid (show ∀ Z, PS w w.heap.size ⟨sw, ⟨h0, h1, h2, dn⟩, sm, srow, stx, scl⟩ T' Z → Below X.heap.size X Z → Calls Try.prog 7 #[psV ⟨sw, ⟨h0, h1, h2, dn⟩, sm, srow, stx, scl⟩ T', .int .u8 (S[q].toNat : Int)] Z (Tells (⟨rw_, ⟨x, y, z, nd⟩, rm, rrow, rtx, rcl⟩, ks) Z) from fun Z hZ _ => CF.out T' Z hZ)
                clear CF
                go_upto_region 18 with fail
                go_cut [11, 12] (fun v5 v6 wx => ∃ (gq : Nat) (T6 A6 : Option Addr) (n6 c6 : Nat), v5 = .pointer (some ⟨gq, 0, none⟩) ∧ v6 = .slice A6 n6 c6 ∧ n6 = ks.length ∧ Hid (PQ w X w.heap.size gq ⟨sw, ⟨h0, h1, h2, dn⟩, sm, srow, stx, scl⟩ ⟨rw_, ⟨x, y, z, nd⟩, rm, rrow, rtx, rcl⟩ T' T6 (.slice A6 n6 c6) ks wx))
                case first =>
                  refine wp_region_held (S := SO w.heap.size ⟨sw, ⟨h0, h1, h2, dn⟩, sm, srow, stx, scl⟩ T') (by kernel_rfl) ?_
                  change wpAnyH _ _ _ _ _ _ _ _ (World.drew _)
                  refine wpAnyH_take (i := 0) (oi := { dst := some 61, op := Go.Op.load 28 (Go.Operand.tmp 7), type := 28, pos := "law.go:95", after := #[], guard := none }) (v := ?_) rfl (by kernel_rfl) (by kernel_rfl) (by kernel_rfl) (fun _ _ _ h => h) (Or.inl ⟨by rfl, ?_⟩) (by exact HS.out _ (Below.refl X.heap.size X).drew) ?_
                  rotate_left
                  · intro Z hZ; obtain ⟨p0, p1, p2, p3, p4, p5, p6, p7, p8⟩ := hZ; dsimp only at p0 p1 p2 p3 p4 p5 p6 p7 p8; go_simp; try with_reducible rfl
                  simp only [Act.put, List.setIfInBounds_toArray, List.set_cons_zero, List.set_cons_succ]
                  refine wpAnyH_take (i := 1) (oi := { dst := some 62, op := Go.Op.move (Go.Operand.tmp 6), type := 9, pos := "law.go:95", after := #[], guard := none }) (v := ?_) rfl (by kernel_rfl) (by kernel_rfl) (by kernel_rfl) (fun _ _ _ h => h) (Or.inl ⟨by rfl, ?_⟩) (by exact HS.out _ (Below.refl X.heap.size X).drew) ?_
                  rotate_left
                  · intro Z hZ; clear hZ; go_simp; try with_reducible rfl
                  simp only [Act.put, List.setIfInBounds_toArray, List.set_cons_zero, List.set_cons_succ]
                  refine wpAnyH_take (i := 2) (oi := { dst := some 63, op := Go.Op.move (Go.Operand.tmp 8), type := 3, pos := "law.go:95", after := #[], guard := none }) (v := ?_) rfl (by kernel_rfl) (by kernel_rfl) (by kernel_rfl) (fun _ _ _ h => h) (Or.inl ⟨by rfl, ?_⟩) (by exact HS.out _ (Below.refl X.heap.size X).drew) ?_
                  rotate_left
                  · intro Z hZ; clear hZ; go_simp; try with_reducible rfl
                  simp only [Act.put, List.setIfInBounds_toArray, List.set_cons_zero, List.set_cons_succ]
                  refine wpAnyH_take (i := 3) (oi := { dst := some 64, op := Go.Op.index 9 (Go.Operand.tmp 62) (Go.Operand.tmp 63), type := 5, pos := "law.go:95", after := #[{ on := 1, ground := Go.Ground.data }, { on := 2, ground := Go.Ground.data }], guard := none }) (v := ?_) rfl (by kernel_rfl) (by kernel_rfl) (by kernel_rfl) (fun _ _ _ h => h) (Or.inl ⟨by rfl, ?_⟩) (by exact HS.out _ (Below.refl X.heap.size X).drew) ?_
                  rotate_left
                  · intro Z hZ; clear hZ; go_simp; try with_reducible rfl
                  simp only [Act.put, List.setIfInBounds_toArray, List.set_cons_zero, List.set_cons_succ]
                  refine wpAnyH_all (rs := [4, 8]) (by kernel_rfl) (by simp) (List.forall_mem_cons.2 ⟨wpOp_some (o := { dst := some 65, op := Go.Op.call { callee := Go.Callee.value (Go.Operand.func 7), args := #[Go.Operand.tmp 61, Go.Operand.tmp 64], argTypes := #[28, 5] }, type := 34, pos := "law.go:95", after := #[{ on := 0, ground := Go.Ground.data }, { on := 3, ground := Go.Ground.data }], guard := none }) rfl (by rfl) (fun J hJ => ?_), (List.forall_mem_cons.2 ⟨wpOp_some (o := { dst := some 11, op := Go.Op.alloc 28, type := 0, pos := "law.go:95", after := #[], guard := none }) rfl (by rfl) (fun J hJ => ?_), (by simp)⟩)⟩)
                  · go_simp; refine (CF1.out _ (VX.out.later (by exact (Below.refl X.heap.size X).drew)) (by exact (Below.refl X.heap.size X).drew)).mono ?_; rintro e w6 ⟨T6, A6, n6, c6, rfl, ch, hk, hn, b6⟩; have V6 := Lib.hid (And.intro (VX.out.later (((Below.refl X.heap.size X).drew).trans b6)) (And.intro ch (And.intro hk (And.intro hn (((Below.refl X.heap.size X).drew).trans b6))))); clear ch hk hn b6; dsimp only; refine hJ _ _ ⟨by exact so_blk V6.out.1.p, ?_⟩; clear hJ J
                    refine wpAnyH_take (i := 5) (oi := { dst := some 60, op := Go.Op.move (Go.Operand.tmp 65), type := 34, pos := "law.go:95", after := #[{ on := 4, ground := Go.Ground.data }], guard := none }) (v := ?_) rfl (by kernel_rfl) (by kernel_rfl) (by kernel_rfl) (fun _ _ _ h => h) (Or.inl ⟨by rfl, ?_⟩) (by exact so_blk V6.out.1.p) ?_
                    rotate_left
                    · intro Z hZ; clear hZ; go_simp; try with_reducible rfl
                    simp only [Act.put, List.setIfInBounds_toArray, List.set_cons_zero, List.set_cons_succ]
                    refine wpAnyH_take (i := 6) (oi := { dst := some 66, op := Go.Op.extract (Go.Operand.tmp 60) 0, type := 28, pos := "law.go:95", after := #[{ on := 5, ground := Go.Ground.data }], guard := none }) (v := ?_) rfl (by kernel_rfl) (by kernel_rfl) (by kernel_rfl) (fun _ _ _ h => h) (Or.inl ⟨by rfl, ?_⟩) (by exact so_blk V6.out.1.p) ?_
                    rotate_left
                    · intro Z hZ; clear hZ; go_simp; try with_reducible rfl
                    simp only [Act.put, List.setIfInBounds_toArray, List.set_cons_zero, List.set_cons_succ]
                    refine wpAnyH_take (i := 7) (oi := { dst := some 67, op := Go.Op.extract (Go.Operand.tmp 60) 1, type := 32, pos := "law.go:95", after := #[{ on := 5, ground := Go.Ground.data }, { on := 9, ground := Go.Ground.gcOnly Go.Departure.lateStores }], guard := none }) (v := ?_) rfl (by kernel_rfl) (by kernel_rfl) (by kernel_rfl) (fun _ _ _ h => h) (Or.inl ⟨by rfl, ?_⟩) (by exact so_blk V6.out.1.p) ?_
                    rotate_left
                    · intro Z hZ; clear hZ; go_simp; try with_reducible rfl
                    simp only [Act.put, List.setIfInBounds_toArray, List.set_cons_zero, List.set_cons_succ]
                    refine wpAnyH_all (rs := [8]) (by kernel_rfl) (by simp) (List.forall_mem_cons.2 ⟨wpOp_some (o := { dst := some 11, op := Go.Op.alloc 28, type := 0, pos := "law.go:95", after := #[], guard := none }) rfl (by rfl) (fun J hJ => ?_), (by simp)⟩)
                    go_simp; refine hJ _ _ ⟨by exact so_blk (V6.out.1.later (belAlloc _ _)).p, ?_⟩; clear hJ J
                    refine wpAnyH_all (rs := [9]) (by kernel_rfl) (by simp) (List.forall_mem_cons.2 ⟨wpOp_some (o := { dst := none, op := Go.Op.store 28 (Go.Operand.tmp 11) (Go.Operand.tmp 66), type := 0, pos := "law.go:95", after := #[{ on := 8, ground := Go.Ground.data }, { on := 6, ground := Go.Ground.data }, { on := 4, ground := Go.Ground.chain }, { on := 0, ground := Go.Ground.phase }, { on := 1, ground := Go.Ground.phase }, { on := 2, ground := Go.Ground.phase }, { on := 3, ground := Go.Ground.phase }, { on := 4, ground := Go.Ground.phase }, { on := 5, ground := Go.Ground.phase }, { on := 6, ground := Go.Ground.phase }, { on := 7, ground := Go.Ground.textOnly Go.Departure.lateStores }, { on := 8, ground := Go.Ground.phase }], guard := none }) rfl (by rfl) (fun J hJ => ?_), (by simp)⟩)
                    obtain ⟨y6, r6, j6⟩ := (show _ from (blk_new w6 zeroC 28)); have q0 : (w6.alloc (.cells #[.int .i64 0, .int .u8 0, .int .u8 0, .int .u8 0, .int .i64 0, .bool false, .string ⟨#[]⟩, .pointer none, .int .i64 0] 28)).cell? ⟨w6.heap.size, 0, none⟩ = some (.int .i64 0) := r6 0; have q1 : (w6.alloc (.cells #[.int .i64 0, .int .u8 0, .int .u8 0, .int .u8 0, .int .i64 0, .bool false, .string ⟨#[]⟩, .pointer none, .int .i64 0] 28)).cell? ⟨w6.heap.size, 1, none⟩ = some (.int .u8 0) := r6 1; have q2 : (w6.alloc (.cells #[.int .i64 0, .int .u8 0, .int .u8 0, .int .u8 0, .int .i64 0, .bool false, .string ⟨#[]⟩, .pointer none, .int .i64 0] 28)).cell? ⟨w6.heap.size, 2, none⟩ = some (.int .u8 0) := r6 2; have q3 : (w6.alloc (.cells #[.int .i64 0, .int .u8 0, .int .u8 0, .int .u8 0, .int .i64 0, .bool false, .string ⟨#[]⟩, .pointer none, .int .i64 0] 28)).cell? ⟨w6.heap.size, 3, none⟩ = some (.int .u8 0) := r6 3; have q4 : (w6.alloc (.cells #[.int .i64 0, .int .u8 0, .int .u8 0, .int .u8 0, .int .i64 0, .bool false, .string ⟨#[]⟩, .pointer none, .int .i64 0] 28)).cell? ⟨w6.heap.size, 4, none⟩ = some (.int .i64 0) := r6 4; have q5 : (w6.alloc (.cells #[.int .i64 0, .int .u8 0, .int .u8 0, .int .u8 0, .int .i64 0, .bool false, .string ⟨#[]⟩, .pointer none, .int .i64 0] 28)).cell? ⟨w6.heap.size, 5, none⟩ = some (.bool false) := r6 5; have q6 : (w6.alloc (.cells #[.int .i64 0, .int .u8 0, .int .u8 0, .int .u8 0, .int .i64 0, .bool false, .string ⟨#[]⟩, .pointer none, .int .i64 0] 28)).cell? ⟨w6.heap.size, 6, none⟩ = some (.string ⟨#[]⟩) := r6 6; have q7 : (w6.alloc (.cells #[.int .i64 0, .int .u8 0, .int .u8 0, .int .u8 0, .int .i64 0, .bool false, .string ⟨#[]⟩, .pointer none, .int .i64 0] 28)).cell? ⟨w6.heap.size, 7, none⟩ = some (.pointer none) := r6 7; have q8 : (w6.alloc (.cells #[.int .i64 0, .int .u8 0, .int .u8 0, .int .u8 0, .int .i64 0, .bool false, .string ⟨#[]⟩, .pointer none, .int .i64 0] 28)).cell? ⟨w6.heap.size, 8, none⟩ = some (.int .i64 0) := r6 8; have f0 : (w6.alloc (.cells #[.int .i64 0, .int .u8 0, .int .u8 0, .int .u8 0, .int .i64 0, .bool false, .string ⟨#[]⟩, .pointer none, .int .i64 0] 28)).frozen? ⟨w6.heap.size, 0, none⟩ = false := j6 0; have f1 : (w6.alloc (.cells #[.int .i64 0, .int .u8 0, .int .u8 0, .int .u8 0, .int .i64 0, .bool false, .string ⟨#[]⟩, .pointer none, .int .i64 0] 28)).frozen? ⟨w6.heap.size, 1, none⟩ = false := j6 1; have f2 : (w6.alloc (.cells #[.int .i64 0, .int .u8 0, .int .u8 0, .int .u8 0, .int .i64 0, .bool false, .string ⟨#[]⟩, .pointer none, .int .i64 0] 28)).frozen? ⟨w6.heap.size, 2, none⟩ = false := j6 2; have f3 : (w6.alloc (.cells #[.int .i64 0, .int .u8 0, .int .u8 0, .int .u8 0, .int .i64 0, .bool false, .string ⟨#[]⟩, .pointer none, .int .i64 0] 28)).frozen? ⟨w6.heap.size, 3, none⟩ = false := j6 3; have f4 : (w6.alloc (.cells #[.int .i64 0, .int .u8 0, .int .u8 0, .int .u8 0, .int .i64 0, .bool false, .string ⟨#[]⟩, .pointer none, .int .i64 0] 28)).frozen? ⟨w6.heap.size, 4, none⟩ = false := j6 4; have f5 : (w6.alloc (.cells #[.int .i64 0, .int .u8 0, .int .u8 0, .int .u8 0, .int .i64 0, .bool false, .string ⟨#[]⟩, .pointer none, .int .i64 0] 28)).frozen? ⟨w6.heap.size, 5, none⟩ = false := j6 5; have f6 : (w6.alloc (.cells #[.int .i64 0, .int .u8 0, .int .u8 0, .int .u8 0, .int .i64 0, .bool false, .string ⟨#[]⟩, .pointer none, .int .i64 0] 28)).frozen? ⟨w6.heap.size, 6, none⟩ = false := j6 6; have f7 : (w6.alloc (.cells #[.int .i64 0, .int .u8 0, .int .u8 0, .int .u8 0, .int .i64 0, .bool false, .string ⟨#[]⟩, .pointer none, .int .i64 0] 28)).frozen? ⟨w6.heap.size, 7, none⟩ = false := j6 7; have f8 : (w6.alloc (.cells #[.int .i64 0, .int .u8 0, .int .u8 0, .int .u8 0, .int .i64 0, .bool false, .string ⟨#[]⟩, .pointer none, .int .i64 0] 28)).frozen? ⟨w6.heap.size, 8, none⟩ = false := j6 8; clear r6 j6; go_simp; refine hJ _ _ ⟨by exact so_blk (V6.out.1.later (belAlloc _ _)).p, ?_⟩; clear hJ J
                    refine wpAnyH_take (i := 10) (oi := { dst := some 12, op := Go.Op.assign (Go.Operand.tmp 67), type := 32, pos := "law.go:95", after := #[{ on := 7, ground := Go.Ground.data }, { on := 9, ground := Go.Ground.chain }, { on := 0, ground := Go.Ground.phase }, { on := 1, ground := Go.Ground.phase }, { on := 2, ground := Go.Ground.phase }, { on := 3, ground := Go.Ground.phase }, { on := 4, ground := Go.Ground.phase }, { on := 5, ground := Go.Ground.phase }, { on := 6, ground := Go.Ground.phase }, { on := 7, ground := Go.Ground.phase }, { on := 8, ground := Go.Ground.phase }, { on := 9, ground := Go.Ground.phase }], guard := none }) (v := ?_) rfl (by kernel_rfl) (by kernel_rfl) (by kernel_rfl) (fun _ _ _ h => h) (Or.inl ⟨by rfl, ?_⟩) (by exact so_blk (V6.out.1.later (belAlloc _ _)).p) ?_
                    rotate_left
                    · intro Z hZ; clear hZ; go_simp; try with_reducible rfl
                    simp only [Act.put, List.setIfInBounds_toArray, List.set_cons_zero, List.set_cons_succ]
                    refine wpAnyH_done (by kernel_rfl) ?_ _
                    go_wp2_with fail; go_meet; exact ⟨w6.heap.size, T6, A6, n6, c6, rfl, rfl, V6.out.2.2.2.1, Lib.hid (pq_new (s := ⟨sw, ⟨h0, h1, h2, dn⟩, sm, srow, stx, scl⟩) (s' := ⟨rw_, ⟨x, y, z, nd⟩, rm, rrow, rtx, rcl⟩) V6.out.1 V6.out.2.1 V6.out.2.2.1 V6.out.2.2.2.2 _)⟩
                  · go_simp; refine hJ _ _ ⟨by exact HS.out _ ((Below.refl X.heap.size X).drew.alloc (Nat.le_refl _) _), ?_⟩; clear hJ J
                    refine wpAnyH_all (rs := [4]) (by kernel_rfl) (by simp) (List.forall_mem_cons.2 ⟨wpOp_some (o := { dst := some 65, op := Go.Op.call { callee := Go.Callee.value (Go.Operand.func 7), args := #[Go.Operand.tmp 61, Go.Operand.tmp 64], argTypes := #[28, 5] }, type := 34, pos := "law.go:95", after := #[{ on := 0, ground := Go.Ground.data }, { on := 3, ground := Go.Ground.data }], guard := none }) rfl (by rfl) (fun J hJ => ?_), (by simp)⟩)
                    go_simp; refine (CF1.out _ (VX.out.later (((Below.refl X.heap.size X).drew).alloc (Nat.le_refl _) _)) (((Below.refl X.heap.size X).drew).alloc (Nat.le_refl _) _)).mono ?_; rintro e w6 ⟨T6, A6, n6, c6, rfl, ch, hk, hn, b6⟩; have V6 := Lib.hid (And.intro (VX.out.later ((((Below.refl X.heap.size X).drew).alloc (Nat.le_refl _) (.cells #[.int .i64 0, .int .u8 0, .int .u8 0, .int .u8 0, .int .i64 0, .bool false, .string ⟨#[]⟩, .pointer none, .int .i64 0] 28)).trans (b6.mono (by rw [World.size_alloc]; exact Nat.le_succ _)))) (And.intro ch (And.intro hk (And.intro hn ((((Below.refl X.heap.size X).drew).alloc (Nat.le_refl _) (.cells #[.int .i64 0, .int .u8 0, .int .u8 0, .int .u8 0, .int .i64 0, .bool false, .string ⟨#[]⟩, .pointer none, .int .i64 0] 28)).trans (b6.mono (by rw [World.size_alloc]; exact Nat.le_succ _))))))); have Z6 := Lib.hid ((blk_new X.drew zeroC 28).later b6 (by rw [World.size_alloc]; exact Nat.lt_succ_self _)); clear ch hk hn b6; dsimp only; refine hJ _ _ ⟨by exact so_blk V6.out.1.p, ?_⟩; clear hJ J
                    refine wpAnyH_take (i := 5) (oi := { dst := some 60, op := Go.Op.move (Go.Operand.tmp 65), type := 34, pos := "law.go:95", after := #[{ on := 4, ground := Go.Ground.data }], guard := none }) (v := ?_) rfl (by kernel_rfl) (by kernel_rfl) (by kernel_rfl) (fun _ _ _ h => h) (Or.inl ⟨by rfl, ?_⟩) (by exact so_blk V6.out.1.p) ?_
                    rotate_left
                    · intro Z hZ; clear hZ; go_simp; try with_reducible rfl
                    simp only [Act.put, List.setIfInBounds_toArray, List.set_cons_zero, List.set_cons_succ]
                    refine wpAnyH_take (i := 6) (oi := { dst := some 66, op := Go.Op.extract (Go.Operand.tmp 60) 0, type := 28, pos := "law.go:95", after := #[{ on := 5, ground := Go.Ground.data }], guard := none }) (v := ?_) rfl (by kernel_rfl) (by kernel_rfl) (by kernel_rfl) (fun _ _ _ h => h) (Or.inl ⟨by rfl, ?_⟩) (by exact so_blk V6.out.1.p) ?_
                    rotate_left
                    · intro Z hZ; clear hZ; go_simp; try with_reducible rfl
                    simp only [Act.put, List.setIfInBounds_toArray, List.set_cons_zero, List.set_cons_succ]
                    refine wpAnyH_take (i := 7) (oi := { dst := some 67, op := Go.Op.extract (Go.Operand.tmp 60) 1, type := 32, pos := "law.go:95", after := #[{ on := 5, ground := Go.Ground.data }, { on := 9, ground := Go.Ground.gcOnly Go.Departure.lateStores }], guard := none }) (v := ?_) rfl (by kernel_rfl) (by kernel_rfl) (by kernel_rfl) (fun _ _ _ h => h) (Or.inl ⟨by rfl, ?_⟩) (by exact so_blk V6.out.1.p) ?_
                    rotate_left
                    · intro Z hZ; clear hZ; go_simp; try with_reducible rfl
                    simp only [Act.put, List.setIfInBounds_toArray, List.set_cons_zero, List.set_cons_succ]
                    refine wpAnyH_all (rs := [9]) (by kernel_rfl) (by simp) (List.forall_mem_cons.2 ⟨wpOp_some (o := { dst := none, op := Go.Op.store 28 (Go.Operand.tmp 11) (Go.Operand.tmp 66), type := 0, pos := "law.go:95", after := #[{ on := 8, ground := Go.Ground.data }, { on := 6, ground := Go.Ground.data }, { on := 4, ground := Go.Ground.chain }, { on := 0, ground := Go.Ground.phase }, { on := 1, ground := Go.Ground.phase }, { on := 2, ground := Go.Ground.phase }, { on := 3, ground := Go.Ground.phase }, { on := 4, ground := Go.Ground.phase }, { on := 5, ground := Go.Ground.phase }, { on := 6, ground := Go.Ground.phase }, { on := 7, ground := Go.Ground.textOnly Go.Departure.lateStores }, { on := 8, ground := Go.Ground.phase }], guard := none }) rfl (by rfl) (fun J hJ => ?_), (by simp)⟩)
                    obtain ⟨y6, r6, j6⟩ := (show _ from Z6.out); have q0 : w6.cell? ⟨X.heap.size, 0, none⟩ = some (.int .i64 0) := r6 0; have q1 : w6.cell? ⟨X.heap.size, 1, none⟩ = some (.int .u8 0) := r6 1; have q2 : w6.cell? ⟨X.heap.size, 2, none⟩ = some (.int .u8 0) := r6 2; have q3 : w6.cell? ⟨X.heap.size, 3, none⟩ = some (.int .u8 0) := r6 3; have q4 : w6.cell? ⟨X.heap.size, 4, none⟩ = some (.int .i64 0) := r6 4; have q5 : w6.cell? ⟨X.heap.size, 5, none⟩ = some (.bool false) := r6 5; have q6 : w6.cell? ⟨X.heap.size, 6, none⟩ = some (.string ⟨#[]⟩) := r6 6; have q7 : w6.cell? ⟨X.heap.size, 7, none⟩ = some (.pointer none) := r6 7; have q8 : w6.cell? ⟨X.heap.size, 8, none⟩ = some (.int .i64 0) := r6 8; have f0 : w6.frozen? ⟨X.heap.size, 0, none⟩ = false := j6 0; have f1 : w6.frozen? ⟨X.heap.size, 1, none⟩ = false := j6 1; have f2 : w6.frozen? ⟨X.heap.size, 2, none⟩ = false := j6 2; have f3 : w6.frozen? ⟨X.heap.size, 3, none⟩ = false := j6 3; have f4 : w6.frozen? ⟨X.heap.size, 4, none⟩ = false := j6 4; have f5 : w6.frozen? ⟨X.heap.size, 5, none⟩ = false := j6 5; have f6 : w6.frozen? ⟨X.heap.size, 6, none⟩ = false := j6 6; have f7 : w6.frozen? ⟨X.heap.size, 7, none⟩ = false := j6 7; have f8 : w6.frozen? ⟨X.heap.size, 8, none⟩ = false := j6 8; clear r6 j6; go_simp; refine hJ _ _ ⟨by exact so_blk (put9_far V6.out.1.p (Nat.ne_of_gt VX.out.p.1) _ _ _ _ _ _ _ _ _), ?_⟩; clear hJ J
                    refine wpAnyH_take (i := 10) (oi := { dst := some 12, op := Go.Op.assign (Go.Operand.tmp 67), type := 32, pos := "law.go:95", after := #[{ on := 7, ground := Go.Ground.data }, { on := 9, ground := Go.Ground.chain }, { on := 0, ground := Go.Ground.phase }, { on := 1, ground := Go.Ground.phase }, { on := 2, ground := Go.Ground.phase }, { on := 3, ground := Go.Ground.phase }, { on := 4, ground := Go.Ground.phase }, { on := 5, ground := Go.Ground.phase }, { on := 6, ground := Go.Ground.phase }, { on := 7, ground := Go.Ground.phase }, { on := 8, ground := Go.Ground.phase }, { on := 9, ground := Go.Ground.phase }], guard := none }) (v := ?_) rfl (by kernel_rfl) (by kernel_rfl) (by kernel_rfl) (fun _ _ _ h => h) (Or.inl ⟨by rfl, ?_⟩) (by exact so_blk (put9_far V6.out.1.p (Nat.ne_of_gt VX.out.p.1) _ _ _ _ _ _ _ _ _)) ?_
                    rotate_left
                    · intro Z hZ; clear hZ; go_simp; try with_reducible rfl
                    simp only [Act.put, List.setIfInBounds_toArray, List.set_cons_zero, List.set_cons_succ]
                    refine wpAnyH_done (by kernel_rfl) ?_ _
                    go_wp2_with fail; go_meet; exact ⟨X.heap.size, T6, A6, n6, c6, rfl, rfl, V6.out.2.2.2.1, Lib.hid (pq_put (w := w) (X0 := X) (Z := w6) (g := w.heap.size) (gq := X.heap.size) (T := T') (T' := T6) (v := .slice A6 n6 c6) (ks := ks) (s := ⟨sw, ⟨h0, h1, h2, dn⟩, sm, srow, stx, scl⟩) (s' := ⟨rw_, ⟨x, y, z, nd⟩, rm, rrow, rtx, rcl⟩) V6.out.1 Z6.out (Nat.le_refl _) VX.out.p.1 V6.out.2.1 V6.out.2.2.1 V6.out.2.2.2.2)⟩
                case rest =>
                  obtain ⟨gq, T6, A6, n6, c6, rfl, rfl, hn6, HQ⟩ := hcut
                  obtain ⟨ye, ke, je⟩ := (show _ from HQ.out.q)
                  obtain ⟨yd, kd, jd⟩ := (show _ from HQ.out.ps.p)
                  have e0 : wc.cell? ⟨gq, 0, none⟩ = _ := ke 0
                  have e1 : wc.cell? ⟨gq, 1, none⟩ = _ := ke 1
                  have e2 : wc.cell? ⟨gq, 2, none⟩ = _ := ke 2
                  have e3 : wc.cell? ⟨gq, 3, none⟩ = _ := ke 3
                  have e4 : wc.cell? ⟨gq, 4, none⟩ = _ := ke 4
                  have e5 : wc.cell? ⟨gq, 5, none⟩ = _ := ke 5
                  have e6 : wc.cell? ⟨gq, 6, none⟩ = _ := ke 6
                  have e7 : wc.cell? ⟨gq, 7, none⟩ = _ := ke 7
                  have e8 : wc.cell? ⟨gq, 8, none⟩ = _ := ke 8
                  have d0 : wc.cell? ⟨w.heap.size, 0, none⟩ = _ := kd 0
                  have d1 : wc.cell? ⟨w.heap.size, 1, none⟩ = _ := kd 1
                  have d2 : wc.cell? ⟨w.heap.size, 2, none⟩ = _ := kd 2
                  have d3 : wc.cell? ⟨w.heap.size, 3, none⟩ = _ := kd 3
                  have d4 : wc.cell? ⟨w.heap.size, 4, none⟩ = _ := kd 4
                  have d5 : wc.cell? ⟨w.heap.size, 5, none⟩ = _ := kd 5
                  have d6 : wc.cell? ⟨w.heap.size, 6, none⟩ = _ := kd 6
                  have d7 : wc.cell? ⟨w.heap.size, 7, none⟩ = _ := kd 7
                  have d8 : wc.cell? ⟨w.heap.size, 8, none⟩ = _ := kd 8
                  have g0 := jd 0
                  have g1 := jd 1
                  have g2 := jd 2
                  have g3 := jd 3
                  have g4 := jd 4
                  have g5 := jd 5
                  have g6 := jd 6
                  have g7 := jd 7
                  have g8 := jd 8
                  have hne1 : gq ≠ w.heap.size := Nat.ne_of_gt HQ.out.ne
                  have hne2 : w.heap.size ≠ gq := Nat.ne_of_lt HQ.out.ne
                  simp at e0 e1 e2 e3 e4 e5 e6 e7 e8 d0 d1 d2 d3 d4 d5 d6 d7 d8
                  clear ke kd jd je
                  go_upto_region 20 with fail
                  refine at_world (PN w X w.heap.size ⟨rw_, ⟨x, y, z, nd⟩, rm, rrow, rtx, rcl⟩ T6 (.slice A6 n6 c6) ks) (pn_put (w := w) (X0 := X) (Y := wc) (g := w.heap.size) (gq := gq) (T' := T6) (s' := ⟨rw_, ⟨x, y, z, nd⟩, rm, rrow, rtx, rcl⟩) HQ.out) ?_
                  clear e0 e1 e2 e3 e4 e5 e6 e7 e8 d0 d1 d2 d3 d4 d5 d6 d7 d8 g0 g1 g2 g3 g4 g5 g6 g7 g8 ye yd hne1 hne2 HQ
                  intro Y hY
                  have VY := Lib.hid (show PS w w.heap.size (stQ (bts s) (q + 1)) T6 Y ∧ KyW Y (.slice A6 n6 c6) ks ∧ (stQ (bts s) (q + 1)).Ok from ⟨by have h := hY.ps; rw [show _ = _ from HF.out.1] at h; exact h, hY.l, by have h := HF.out.2.2; rw [show _ = _ from HF.out.1] at h; exact h⟩)
                  have hks := HF.out.2.1
                  clear hY VX CF1 HS HF
                  by_cases hlast : q + 1 = S.size
                  · rw [if_pos hlast] at hks
                    have hn1 : n6 = 1 := by rw [hn6, hks]; rfl
                    subst hks hn1
                    have hd1 : decide ((q : Int) < (S.size : Int) - 1) = false := by simp; omega
                    have hd2 : ((q : Int) == (S.size : Int) - 1) = true := by simp; omega
                    have HLA := Lib.hid hlast
                    have hs1 : s.size ≤ 400 := by have := HB.out.2; omega
                    have hdl := decD_len s
                    obtain ⟨ln, hln⟩ : ∃ ln, (decD (bts s)).length = ln := ⟨_, rfl⟩
                    have CD := Lib.hid (fun Z => refdec_is s (decD (bts s)) ln (by omega) rfl hln Z)
                    have HLN := Lib.hid (And.intro hln (show (decD (bts s)).length ≤ 1000000 by omega))
                    clear hlast hn6 hdl hln hs1
                    go_wp2_with (first
                      | (go_at_call 17; refine (CD.out _).mono ?_; rintro e w7 ⟨A7, c7, rfl, r7, b7⟩; have V7 := Lib.hid (And.intro (VY.out.1.later b7) (And.intro (VY.out.2.1.later b7) r7)); clear r7 b7)
                      | (go_at_call 11; refine (sameK_eq _ _ [⟨4, 0, false, decD (bts s)⟩] _ (V7.out.2.1.later (belAlloc _ _)) (kyW_told w7 _ V7.out.2.2 HLN.out.1.symm) (by simp) (by intro y hy; rw [List.mem_singleton.1 hy]; exact HLN.out.2)).mono ?_; rintro e w4 ⟨rfl, b4⟩; have V4 := Lib.hid (V7.out.1.later ((belAlloc _ _).trans (b4.mono (by rw [World.size_alloc]; exact Nat.le_succ _)))); clear b4))
                    go_roundw
                    case rel => exact ⟨q + 1, T6, by have := HLA.out; omega, by go_num, V4.out, VY.out.2.2⟩
                    case measure => simp [intOf]; omega
                  · rw [if_neg hlast] at hks
                    have hn1 : n6 = 0 := by rw [hn6, hks]; rfl
                    subst hks hn1
                    have hd1 : decide ((q : Int) < (S.size : Int) - 1) = true := by simp; omega
                    have hd2 : ((q : Int) == (S.size : Int) - 1) = false := by simp; omega
                    have HLA := Lib.hid hlast
                    clear hlast hn6
                    go_wp2_with fail
                    go_roundw
                    case rel => exact ⟨q + 1, T6, by have := HLA.out; omega, by go_num, VY.out.1, VY.out.2.2⟩
                    case measure => simp [intOf]; omega
          · obtain rfl : q = S.size := by omega
            have hps : PS w w.heap.size KS.zero T wr := by have := HI.out.1; rw [HB.out.2, ← bts_length, stQ_end] at this; exact this
            have hT : T = none := hps.chain
            subst hT
            have VX := Lib.hid hps
            have CW := Lib.hid (fun Z => waits_any KS.zero none Z)
            obtain ⟨yd, kd, jd⟩ := (show _ from hps.p)
            clear hps HI
            have d0 : wr.cell? ⟨w.heap.size, 0, none⟩ = _ := kd 0
            have d1 : wr.cell? ⟨w.heap.size, 1, none⟩ = _ := kd 1
            have d2 : wr.cell? ⟨w.heap.size, 2, none⟩ = _ := kd 2
            have d3 : wr.cell? ⟨w.heap.size, 3, none⟩ = _ := kd 3
            have d4 : wr.cell? ⟨w.heap.size, 4, none⟩ = _ := kd 4
            have d5 : wr.cell? ⟨w.heap.size, 5, none⟩ = _ := kd 5
            have d6 : wr.cell? ⟨w.heap.size, 6, none⟩ = _ := kd 6
            have d7 : wr.cell? ⟨w.heap.size, 7, none⟩ = _ := kd 7
            have d8 : wr.cell? ⟨w.heap.size, 8, none⟩ = _ := kd 8
            simp [KS.zero, DS.zero] at d0 d1 d2 d3 d4 d5 d6 d7 d8
            clear kd jd
            go_wp2_with (first
              | (go_at_call 12; refine (CW.out _).mono ?_; rintro e w6 ⟨rfl, b6⟩; have V6 := Lib.hid (VX.out.later b6); clear b6)
              | (go_at_call 13; refine (HW.out _).mono ?_; rintro e w4 ⟨rfl, hb4⟩))
            go_ret
            exact ⟨rfl, belowStep V6.out.below hb4⟩

theorem walk_KeysPastes (s : ByteArray) (ws : s.size ≤ maxLen) (t : Int) (wt : (Lit.int .i64 t).wf = true) (w : World) : Calls Try.prog 5 #[.string s, .int .i64 t] w (Yes w) := by
  unfold maxLen at ws
  exact walk_KeysPastes_at s t (wf_i64 wt).1 (wf_i64 wt).2 (by omega) w
end Go.Proofs.Ytkkenabckhmkoaa

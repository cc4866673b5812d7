/- utf: feeding byte by byte. -/
import Derived.Test.YtpfldppoebgfgaaUtfWk
namespace Go.Proofs.Ytpfldppoebgfgaa
open Go.RowKit
set_option linter.unusedVariables false
set_option linter.unusedSimpArgs false

set_option maxHeartbeats 16000000 in
theorem feeds_walk (s : ByteArray) (w : World) (aw : ∀ w, Calls Try.prog 12 #[] w (Yes w)) (hsz : s.size ≤ 300) (d0 : decide ((300 : Int) < (s.size : Int)) = false) :
    Calls Try.prog 4 #[.string s] w (Yes w) := by
  go_enter Try.func4, Try.ntmps4
  go_wp2
  go_loopw [4, 5] (fun out i wr => ∃ k : Nat, k ≤ s.size ∧ i = .int .i64 k ∧ Fed w (runD ((bts s).take k)) out wr) (fun _ i _ => s.size - (intOf i).toNat)
  case atStart => exact ⟨0, Nat.zero_le _, rfl, World.ownsRow_nil _ _ _ _, blk_new _ _ _, (Below.refl _ _).alloc (Nat.le_refl _) _⟩
  case round =>
    obtain ⟨k, hk, rfl, hown, hB, hbw⟩ := hrel
    have hok := runD_ok ((bts s).take k) (fun b hb => bts_range s b (List.mem_of_mem_take hb))
    have hlen := runD_len ((bts s).take k)
    have htl : ((bts s).take k).length ≤ k := List.length_take_le _ _
    by_cases hlt : k < s.size
    · have hb0 : 0 ≤ (s[k].toNat : Int) := by omega
      have hb1 : (s[k].toNat : Int) ≤ 255 := by have := s[k].toNat_lt; omega
      have hnx := runD_snoc ((bts s).take k) (s[k].toNat : Int)
      rw [← bts_take_succ s k hlt] at hnx
      obtain ⟨⟨⟨h0, h1, h2, m⟩, ou⟩, hru⟩ : ∃ r, runD ((bts s).take k) = r := ⟨_, rfl⟩
      rw [hru] at hown hB hok hnx hlen
      obtain ⟨⟨⟨x, y, z, n⟩, l⟩, hst⟩ : ∃ r, stepD ⟨h0, h1, h2, m⟩ (s[k].toNat : Int) = r := ⟨_, rfl⟩
      simp only [hst] at hnx hown hB hlen
      have hll : l.length ≤ 2 := by have := stepD_len ⟨h0, h1, h2, m⟩ (s[k].toNat : Int); rw [hst] at this; exact this
      have Hf := Lib.hid (fun w => feed_is2 h0 h1 h2 m (s[k].toNat : Int) hok hb0 hb1 hst w)
      have Hn := Lib.hid hnx
      clear hok hnx hru hst
      obtain ⟨hz, kB, jB⟩ := (show _ from hB)
      have HO := Lib.hid (And.intro hown hbw)
      clear hown hbw
      go_wp2_with fail
      go_cut [6, 7] (fun v6 v7 wx => StpF wr x y z n l v6 v7 wx)
      case first =>
        have fz : ∀ j, wr.frozen? ⟨wr.heap.size, j, none⟩ = false := fun j => by simp [World.frozen?]
        clear Hn HO hB
        go_region_with (go_at_call 13; refine (Hf.out _).mono ?_; rintro e w1 ⟨AL, cl, rfl, hrd, hfr, hnl, hb1⟩; have gq := hb1.size; have HA := Lib.hid (And.intro hrd (And.intro hfr hnl)); clear hrd hfr hnl;  obtain ⟨gc, gf⟩ := below_cell hb1; have gz := hb1.size; simp only [World.size_drew, World.size_alloc] at gz; (try have gy : wr.heap.size < w1.heap.size := by omega); have n0 := gc wr.heap.size 0; have f0 := gf wr.heap.size 0; try simp at n0; try simp [fz] at f0; have n1 := gc wr.heap.size 1; have f1 := gf wr.heap.size 1; try simp at n1; try simp [fz] at f1; have n2 := gc wr.heap.size 2; have f2 := gf wr.heap.size 2; try simp at n2; try simp [fz] at f2; have n3 := gc wr.heap.size 3; have f3 := gf wr.heap.size 3; try simp at n3; try simp [fz] at f3; clear gc gf; have hbw1 : Below wr.heap.size wr w1 := below_from (by go_grown) hb1; clear hb1)
        all_goals (go_wp2_with fail; go_meet; refine ⟨_, AL, cl, rfl, rfl, ⟨?_, ?_, ?_, ?_⟩, ⟨?_, ?_⟩, ?_, ?_, ?_, HA.out.2.2⟩)
        all_goals first
          | exact Rd.set4 HA.out.1 (fun p hp e => by have h1 := HA.out.2.1 p hp; have h2 := h1.1; have h3 := h1.2; rw [e] at h2 h3; simp only [World.size_drew, World.size_alloc] at h2 h3; omega) _ _ _ _
          | exact Rd.set4 (HA.out.1.later ((Below.refl _ _).alloc (Nat.le_refl _) _)) (fun p hp e => by have h1 := HA.out.2.1 p hp; have h2 := h1.1; have h3 := h1.2; rw [e] at h2 h3; simp only [World.size_drew, World.size_alloc] at h2 h3; omega) _ _ _ _
          | exact fun p hp => by have h1 := (HA.out.2.1 p hp).1; simp only [World.size_drew, World.size_alloc] at h1; omega
          | exact HA.out.1.later ((Below.refl _ _).alloc (Nat.le_refl _) _)
          | exact HA.out.1
          | (simp; done) | (simp [*]; done) | (simp; omega) | (go_grown; done) | (go_cell; done)
      case rest =>
        obtain ⟨g, AL, cl, rfl, rfl, ⟨c0, c1, c2, c3⟩, ⟨hg1, hg2⟩, hbx, hrd, hAL, hAN⟩ := hcut
        have hbwc : Below w.heap.size w wc := HO.out.2.trans (hbx.mono HO.out.2.size)
        have hF := fed_next (r := (⟨h0, h1, h2, m⟩, ou)) (l := []) (a := x) (b := y) (c := z) (d := n) (r' := (⟨x, y, z, n⟩, ou)) (by simpa using own_later HO.out.1 hbx) (hB.later hbx hz) hbwc (by simp)
        have hR4 := Rd.set4 (g := w.heap.size) hrd (fun p hp e => by have := hAL p hp; omega) (.int .u8 x) (.int .u8 y) (.int .u8 z) (.int .i64 n)
        have C1 := hB.later hbx hz
        have HF := Lib.hid (And.intro hF (And.intro hR4 hAN))
        clear hF hR4 hAN hrd hAL hB kB jB
        obtain ⟨yz, yk, yj⟩ := (show _ from C1)
        have i3 : ¬ w.heap.size = g := by omega
        go_wp2_with (at_builtin; refine wpList_cat eltI HF.out.1.1 (Nat.succ_le_of_lt HF.out.1.2.1.1) rfl rfl rfl rfl HF.out.2.1 HF.out.2.2 (fun j _ => rfl) (show ou.length + l.length ≤ maxLen by unfold maxLen; omega) (show (ou.length + l.length) * 4 ≤ 140737488355328 by omega) ?_; intro A3 v3 w3 hp; have HP := Lib.hid hp; have hne0 : some w.heap.size ≠ u4.ownBlock := (fun e => Nat.not_succ_le_self _ (HF.out.1.1.lt _ e.symm).1); have B3 := HF.out.1.2.1.grown hp.grown hne0; have hb3 : Below w.heap.size w w3 := HF.out.1.2.2.grown hp.grown HF.out.1.2.2.size (fun k hk => Nat.le_of_succ_le (HF.out.1.1.lt k hk).1); clear hne0 hp c0 c1 c2 c3 yk yj C1 HF; obtain ⟨z3, k3, j3⟩ := (show _ from B3))
        have hL : bts (s.extract 0 (k + 1)) = (bts s).take (k + 1) := by rw [bts_extract]; simp
        have hrn : (runD ((bts s).take (k + 1))) = (⟨x, y, z, n⟩, ou ++ l) := Hn.out
        have hoi := out_is ((bts s).take (k + 1)) (fun b hb => bts_range s b (List.mem_of_mem_take hb))
        rw [hrn] at hoi
        simp only at hoi
        obtain ⟨n0, n1, n2⟩ := hoi
        have hLl : ((bts s).take (k + 1)).length = k + 1 := by rw [List.length_take, bts_length]; omega
        rw [hLl] at n1 n2
        obtain ⟨m', rfl⟩ : ∃ m' : Nat, n = m' := ⟨n.toNat, by omega⟩
        have hW : (stF DS.zero (bts (s.extract 0 (k + 1)))).n = (m' : Int) := by rw [hL, ← stF_is, hrn]
        have HW := Lib.hid (fun w => waits_any (s.extract 0 (k + 1)) w (by rw [ByteArray.size_extract]; omega))
        rw [hW] at HW
        have hD1 : decD (bts (s.extract 0 (k + 1 - m'))) = ou ++ l := by
          rw [n2, bts_extract]
          simp [List.take_take]
        have hD2 : decD (bts (s.extract 0 (k + 1))) = (ou ++ l) ++ endD ⟨x, y, z, m'⟩ := by rw [hL, decD, hrn]
        have HD := Lib.hid (And.intro hD1 hD2)
        have hmk : m' ≤ k + 1 := by omega
        have hnn : ((m' : Int) != (m' : Int)) = false := by simp
        have hown3 : w3.ownsRow (w.heap.size + 1) 21 1 (.slice A3 (ou.length + l.length) v3) (ou.length + l.length) ((ou ++ l).map (Value.int .i32)) := by
          have h := HP.out.own
          rw [List.map_append]
          have e : (List.range l.length).map (li l) = l.map (Value.int .i32) := by
            apply List.ext_getElem
            · simp
            · intro i h1 h2
              simp at h1
              simp [li, List.getD, h1]
          rw [e] at h
          exact h
        have hrd3 : Rd w3 A3 (ou.length + l.length) (li (ou ++ l)) := rd_own hown3 (fun j hj => by
          have hj' : j < (ou ++ l).length := by simpa using hj
          rw [List.getElem?_map, List.getElem?_eq_getElem hj']
          simp [li, List.getD, List.getElem?_eq_getElem hj'])
        have HO3 := Lib.hid (And.intro hown3 hrd3)
        clear hL hrn n0 n1 n2 hLl hW hD1 hD2 hown3 hrd3
        refine (HW.out _).mono ?_
        rintro e w4 ⟨rfl, q4, rfl⟩
        go_wp2_with fail
        refine (pending_any _ _ _ _ _).mono ?_
        rintro e w5 ⟨rfl, p5⟩
        have b35 : Below w3.heap.size w3 w5 := (below_drewN (Below.refl w3.heap.size w3) q4).trans p5
        have B5 := B3.later b35 z3
        clear k3 j3 p5
        obtain ⟨z5, k5, j5⟩ := (show _ from B5)
        have HQ1 := Lib.hid (fun w => refdec_is (s.extract 0 (k + 1 - m')) (ou ++ l) (ou.length + l.length) (by rw [ByteArray.size_extract]; omega) HD.out.1 (by simp) w)
        go_wp2_with fail
        refine (HQ1.out _).mono ?_
        rintro e w6 ⟨A6, e6, rfl, r6, b6⟩
        have b36 := b35.trans (b6.mono b35.size)
        have B6 := B3.later b36 z3
        clear k5 j5
        obtain ⟨z6, k6, j6⟩ := (show _ from B6)
        go_wp2_with fail
        refine (same_yes A3 A6 _ v3 e6 (fun j => (ou ++ l).getD j 0) _ (by omega) (HO3.out.2.later b36) r6).mono ?_
        rintro e w7 ⟨rfl, q7, rfl⟩
        have b37 := below_drewN b36 q7
        go_wp2_with (at_builtin; refine wpList_cat (base := w6.heap.size) eltI (World.ownsRow_nil _ _ _ _) (Nat.le_refl _) rfl rfl rfl rfl (HO3.out.2.later b37) (own_none HO3.out.1) (fun j _ => rfl) (show 0 + (ou.length + l.length) ≤ maxLen by unfold maxLen; omega) (show (0 + (ou.length + l.length)) * 4 ≤ 140737488355328 by omega) ?_; intro A8 v8 w8 hp; have HP8 := Lib.hid hp; have b38 : Below w3.heap.size w3 w8 := hp.below b37 (World.ownsRow_nil _ w6.heap.size _ _) b36.size; have B8 := B3.later b38 z3; clear k6 j6 hp; obtain ⟨z8, k8, j8⟩ := (show _ from B8))
        have h8 : w8.ownsRow w6.heap.size 21 1 (.slice A8 (ou.length + l.length) v8) (ou.length + l.length) ((ou ++ l).map (Value.int .i32)) := by
          have h := HP8.out.own
          have e : (List.range (ou.length + l.length)).map (li (ou ++ l)) = (ou ++ l).map (Value.int .i32) := by
            have := li_range (ou ++ l)
            rwa [List.length_append] at this
          have e2 : (List.range (ou.length + l.length)).map (iv (fun j => (ou ++ l).getD j 0)) = (ou ++ l).map (Value.int .i32) := e
          simp only [Nat.zero_add, List.nil_append] at h
          first
            | (rw [e] at h; exact h)
            | (rw [e2] at h; exact h)
        have H8 := Lib.hid (And.intro h8 (And.intro b38 (show w6.heap.size ≤ w8.heap.size from Nat.le_trans (by simp [World.drewN]) HP8.out.grown.size)))
        clear h8 b38
        by_cases hm0 : m' = 0
        · subst hm0
          refine (end_none _ _ _ _).mono ?_
          rintro e w9 ⟨rfl, b9⟩
          go_wp2_with (at_builtin; refine wpList_cat eltI (own_later H8.out.1 b9) (Nat.le_trans H8.out.2.2 b9.size) rfl rfl rfl rfl (Rd.empty w9 none (fun _ => .int .i32 0)) (fun _ => ⟨rfl, rfl⟩) (fun j hj => absurd hj (by omega)) (show ou.length + l.length + 0 ≤ maxLen by unfold maxLen; omega) (show (ou.length + l.length + 0) * 4 ≤ 140737488355328 by omega) ?_; intro A10 v10 w10 hp; have HP10 := Lib.hid hp; clear hp)
          have h10 : w10.ownsRow w6.heap.size 21 1 (.slice A10 (ou.length + l.length) v10) (ou.length + l.length) ((ou ++ l).map (Value.int .i32)) := by
            have h := HP10.out.own
            simpa [List.map_append] using h
          have b39 := H8.out.2.1.trans (b9.mono H8.out.2.1.size)
          have b310 : Below w3.heap.size w3 w10 := HP10.out.below b39 (own_later H8.out.1 b9) b36.size
          have HQ2 := Lib.hid (fun w => refdec_is (s.extract 0 (k + 1)) (ou ++ l) (ou.length + l.length) (by rw [ByteArray.size_extract]; omega) (by rw [HD.out.2]; simp [endD]) (by simp) w)
          have HR := Lib.hid (rd_ints h10 (by simp))
          clear h10
          refine (HQ2.out _).mono ?_
          rintro e w11 ⟨A11, e11, rfl, r11, b11⟩
          have b311 := b310.trans (b11.mono b310.size)
          go_wp2_with fail
          refine (same_yes A10 A11 _ v10 e11 (fun j => (ou ++ l).getD j 0) _ (by omega) (HR.out.later b11) r11).mono ?_
          rintro e w12 ⟨rfl, q12, rfl⟩
          have HB := Lib.hid (below_drewN b311 q12)
          go_wp2_with fail
          go_roundw
          case rel =>
            refine ⟨k + 1, by omega, by go_num, ?_⟩
            rw [Hn.out]
            refine ⟨?_, B3.later HB.out z3, hb3.trans (HB.out.mono hb3.size)⟩
            rw [List.length_append]
            exact own_later HO3.out.1 HB.out
          case measure => simp [intOf]; omega
        · have hm1 : (0 : Int) < (m' : Int) := by omega
          refine (end_some _ _ _ _ hm1 _).mono ?_
          rintro e w9 ⟨A9, rfl, r9, b9⟩
          go_wp2_with (at_builtin; refine wpList_cat eltI (own_later H8.out.1 b9) (Nat.le_trans H8.out.2.2 b9.size) rfl rfl rfl rfl r9 (fun h => by cases h) (fun j _ => rfl) (show ou.length + l.length + 1 ≤ maxLen by unfold maxLen; omega) (show (ou.length + l.length + 1) * 4 ≤ 140737488355328 by omega) ?_; intro A10 v10 w10 hp; have HP10 := Lib.hid hp; clear hp)
          have h10 : w10.ownsRow w6.heap.size 21 1 (.slice A10 (ou.length + l.length + 1) v10) (ou.length + l.length + 1) ((ou ++ l ++ [65533]).map (Value.int .i32)) := by
            have h := HP10.out.own
            simpa [List.map_append, show li [65533] 0 = Value.int .i32 65533 from rfl] using h
          have b39 := H8.out.2.1.trans (b9.mono H8.out.2.1.size)
          have b310 : Below w3.heap.size w3 w10 := HP10.out.below b39 (own_later H8.out.1 b9) b36.size
          have HQ2 := Lib.hid (fun w => refdec_is (s.extract 0 (k + 1)) (ou ++ l ++ [65533]) (ou.length + l.length + 1) (by rw [ByteArray.size_extract]; omega) (by rw [HD.out.2]; show (ou ++ l) ++ (if (m' : Int) = 0 then [] else [65533]) = _; rw [if_neg (show ¬ (m' : Int) = 0 by omega)]) (by simp only [List.length_append, List.length_singleton]) w)
          have HR := Lib.hid (rd_ints h10 (by simp only [List.length_append, List.length_singleton]))
          clear h10
          refine (HQ2.out _).mono ?_
          rintro e w11 ⟨A11, e11, rfl, r11, b11⟩
          have b311 := b310.trans (b11.mono b310.size)
          go_wp2_with fail
          refine (same_yes A10 A11 _ v10 e11 (fun j => (ou ++ l ++ [65533]).getD j 0) _ (by omega) (HR.out.later b11) r11).mono ?_
          rintro e w12 ⟨rfl, q12, rfl⟩
          have HB := Lib.hid (below_drewN b311 q12)
          go_wp2_with fail
          go_roundw
          case rel =>
            refine ⟨k + 1, by omega, by go_num, ?_⟩
            rw [Hn.out]
            refine ⟨?_, B3.later HB.out z3, hb3.trans (HB.out.mono hb3.size)⟩
            rw [List.length_append]
            exact own_later HO3.out.1 HB.out
          case measure => simp [intOf]; omega
    · obtain rfl : k = s.size := by omega
      go_wp2_with fail
      refine (aw _).mono ?_
      rintro e w5 ⟨rfl, p5⟩
      go_wp2_with fail
      go_ret
      exact ⟨rfl, hbw.trans (p5.mono hbw.size)⟩
end Go.Proofs.Ytpfldppoebgfgaa

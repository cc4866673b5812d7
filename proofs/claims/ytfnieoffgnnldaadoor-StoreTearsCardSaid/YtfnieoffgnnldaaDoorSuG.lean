/- utf: Decode's walk. -/
import Derived.Test.YtfnieoffgnnldaaDoorSuF
namespace Go.Proofs.YtfnieoffgnnldaaDoor
open Go.RowKit
set_option linter.unusedVariables false
set_option linter.unusedSimpArgs false

set_option maxHeartbeats 16000000 in
theorem decode_any (s : ByteArray) (w : World) (hsz : s.size ≤ 1000000000) :
    Calls Tryd.prog 57 #[.string s] w fun e w' => ∃ A c, e = .returned (.slice A (decD (bts s)).length c) ∧ Rd w' A (decD (bts s)).length (li (decD (bts s))) ∧ Below w.heap.size w w' := by
  go_enter Tryd.func57, Tryd.ntmps57
  go_wp2
  go_loopw [4, 11] (fun out i wr => ∃ k : Nat, k ≤ s.size ∧ i = .int .i64 k ∧ Fed w (runD ((bts s).take k)) out wr) (fun _ i _ => s.size - (intOf i).toNat)
  case atStart => exact ⟨0, Nat.zero_le _, rfl, World.ownsRow_nil _ _ _ _, blk_new _ _ _, (Below.refl _ _).alloc (Nat.le_refl _) _⟩
  case round =>
    obtain ⟨k, hk, rfl, hown, hB, hbw⟩ := hrel
    have hok := runD_ok ((bts s).take k) (fun b hb => bts_range s b (List.mem_of_mem_take hb))
    have hlen := runD_len ((bts s).take k)
    have htl : ((bts s).take k).length ≤ k := List.length_take_le _ _
    by_cases hlt : k < s.size
    · have hb0 : 0 ≤ (s[k].toNat : Int) := by omega
      have hb1 : (s[k].toNat : Int) ≤ 255 := by have := s[k].toNat_lt; omega
      have hnx := runD_snoc ((bts s).take k) (s[k].toNat : Int)
      rw [← bts_take_succ s k hlt] at hnx
      obtain ⟨⟨⟨h0, h1, h2, m⟩, ou⟩, hru⟩ : ∃ r, runD ((bts s).take k) = r := ⟨_, rfl⟩
      rw [hru] at hown hB hok hnx hlen
      obtain ⟨⟨⟨x, y, z, n⟩, l⟩, hst⟩ : ∃ r, stepD ⟨h0, h1, h2, m⟩ (s[k].toNat : Int) = r := ⟨_, rfl⟩
      simp only [hst] at hnx hown hB hlen
      have Hs := Lib.hid (fun w => step_k h0 h1 h2 m (s[k].toNat : Int) hok hb0 hb1 hst w)
      have Hn := Lib.hid hnx
      clear hok hnx hru hst
      obtain ⟨hz, kB, jB⟩ := (show _ from hB)
      go_wp2_with fail
      go_cut [6, 7, 8] (fun v6 v7 v8 wx => Stp wr x y z n l v6 v7 v8 wx)
      case first =>
        have fz : ∀ j, wr.frozen? ⟨wr.heap.size, j, none⟩ = false := fun j => by simp [World.frozen?]
        have fz1 : ∀ j, wr.frozen? ⟨wr.heap.size + 1, j, none⟩ = false := fun j => by simp [World.frozen?]
        clear hown hbw hlen htl Hn
        go_region_with (go_at_call 69; refine (Hs.out _).mono ?_; rintro e w1 ⟨p, q, kk, rfl, hl, hb1⟩; obtain ⟨gc, gf⟩ := below_cell hb1; have gz := hb1.size; have gy2 : wr.heap.size < wr.heap.size + 1 + 1 := (by omega); have gy3 : wr.heap.size + 1 < wr.heap.size + 1 + 1 := (by omega); simp only [World.size_drew, World.size_alloc] at gz; (try have gy : wr.heap.size < w1.heap.size := by omega); (try have gy1 : wr.heap.size + 1 < w1.heap.size := by omega); have n00 := gc (wr.heap.size) 0; have f00 := gf (wr.heap.size) 0; try simp [gy2, gy3] at n00; try simp [frozen?_alloc_cells, fz, fz1, gy2, gy3] at f00; have n01 := gc (wr.heap.size) 1; have f01 := gf (wr.heap.size) 1; try simp [gy2, gy3] at n01; try simp [frozen?_alloc_cells, fz, fz1, gy2, gy3] at f01; have n02 := gc (wr.heap.size) 2; have f02 := gf (wr.heap.size) 2; try simp [gy2, gy3] at n02; try simp [frozen?_alloc_cells, fz, fz1, gy2, gy3] at f02; have n03 := gc (wr.heap.size) 3; have f03 := gf (wr.heap.size) 3; try simp [gy2, gy3] at n03; try simp [frozen?_alloc_cells, fz, fz1, gy2, gy3] at f03; have n10 := gc (wr.heap.size + 1) 0; have f10 := gf (wr.heap.size + 1) 0; try simp [gy2, gy3] at n10; try simp [frozen?_alloc_cells, fz, fz1, gy2, gy3] at f10; have n11 := gc (wr.heap.size + 1) 1; have f11 := gf (wr.heap.size + 1) 1; try simp [gy2, gy3] at n11; try simp [frozen?_alloc_cells, fz, fz1, gy2, gy3] at f11; have n12 := gc (wr.heap.size + 1) 2; have f12 := gf (wr.heap.size + 1) 2; try simp [gy2, gy3] at n12; try simp [frozen?_alloc_cells, fz, fz1, gy2, gy3] at f12; have n13 := gc (wr.heap.size + 1) 3; have f13 := gf (wr.heap.size + 1) 3; try simp [gy2, gy3] at n13; try simp [frozen?_alloc_cells, fz, fz1, gy2, gy3] at f13; clear gc gf; have hbw1 : Below wr.heap.size wr w1 := below_from (by go_grown) hb1; clear hb1)
        all_goals (go_wp2_with fail; go_meet; refine ⟨_, _, p, q, kk, _, rfl, rfl, rfl, ⟨hl.out.1, rfl, hl.out.2⟩, ⟨?_, ?_, ?_, ?_⟩, ⟨?_, ?_⟩, ⟨?_, ?_, ?_, ?_⟩, ?_⟩ <;> first | (simp; done) | (simp [*]; done) | (simp; omega) | (go_grown; done) | (go_cell; done))
      case rest =>
        obtain ⟨g2, g3, p, q, kk, kz, rfl, rfl, rfl, hl, ⟨c0, c1, c2, c3⟩, ⟨e0, e1⟩, ⟨hg2, hg3, hg4, hg5⟩, hbx⟩ := hcut
        obtain ⟨rfl, rfl⟩ | ⟨rfl, rfl⟩ | ⟨rfl, rfl⟩ : (kk = 0 ∧ kz = 0) ∨ (kk = 1 ∧ kz = 1) ∨ (kk = 2 ∧ kz = 2) := by have h1 := hl.out.1; have h2 := hl.out.2.1; omega
        · obtain rfl : l = [] := hl.out.2.2.symm
          have howc := own_later hown hbx
          have hBx := hB.later hbx hz
          have hbwc : Below w.heap.size w wc := hbw.trans (hbx.mono hbw.size)
          have hsrc : Rd wc (some ⟨g3, 0, none⟩) 0 (fun j => .int .i32 ([p, q].getD j 0)) := by
            intro j hj
            refine ⟨g3, 0, rfl, hg4, ?_⟩
            obtain rfl | rfl : j = 0 ∨ j = 1 := by omega
            · simpa using e0
            · simpa using e1
          have HS := Lib.hid hsrc
          have HX := Lib.hid howc
          have HBx := Lib.hid hBx
          have HC := Lib.hid (And.intro (And.intro c0 c1) (And.intro c2 c3))
          have hlt4 : ∀ g, u4.ownBlock = some g → g < wr.heap.size := fun g h => (hown.lt g h).2
          have HG := Lib.hid hlt4
          clear howc hBx hsrc kB jB hB hown hlt4
          go_wp2_with (at_builtin; refine wpList_cat eltI HX.out (by have := hbwc.size; have := hbw.size; omega) rfl rfl rfl rfl HS.out (fun h => by cases h) (fun j _ => rfl) (by unfold maxLen; omega) (by omega) ?_; intro A3 v3 w3 hp; have HP := Lib.hid hp; have hne : some g2 ≠ u4.ownBlock := (fun e => by have := HG.out g2 e.symm; omega); have hne0 : some w.heap.size ≠ u4.ownBlock := (fun e => by have := (HX.out.lt _ e.symm).1; omega); have B3 := HBx.out.grown hp.grown hne0; have hb3 : Below w.heap.size w w3 := hbwc.grown hp.grown hbwc.size (fun k hk => by have := (HX.out.lt k hk).1; omega); have D0 := hp.grown.cell HC.out.1.1 hne; have D1 := hp.grown.cell HC.out.1.2 hne; have D2 := hp.grown.cell HC.out.2.1 hne; have D3 := hp.grown.cell HC.out.2.2 hne; obtain ⟨z3, k3, j3⟩ := (show _ from B3); clear hne hne0 hp c0 c1 c2 c3 e0 e1)
          go_roundw
          case rel => exact ⟨k + 1, by omega, by go_num, fed_next (r := (⟨h0, h1, h2, m⟩, ou)) (l := []) HP.out.own B3 hb3 Hn.out⟩
          case measure => simp [intOf]; omega
        · obtain rfl : l = [p] := hl.out.2.2.symm
          have howc := own_later hown hbx
          have hBx := hB.later hbx hz
          have hbwc : Below w.heap.size w wc := hbw.trans (hbx.mono hbw.size)
          have hsrc : Rd wc (some ⟨g3, 0, none⟩) 1 (fun j => .int .i32 ([p, q].getD j 0)) := by
            intro j hj
            refine ⟨g3, 0, rfl, hg4, ?_⟩
            obtain rfl | rfl : j = 0 ∨ j = 1 := by omega
            · simpa using e0
            · simpa using e1
          have HS := Lib.hid hsrc
          have HX := Lib.hid howc
          have HBx := Lib.hid hBx
          have HC := Lib.hid (And.intro (And.intro c0 c1) (And.intro c2 c3))
          have hlt4 : ∀ g, u4.ownBlock = some g → g < wr.heap.size := fun g h => (hown.lt g h).2
          have HG := Lib.hid hlt4
          clear howc hBx hsrc kB jB hB hown hlt4
          go_wp2_with (at_builtin; refine wpList_cat eltI HX.out (by have := hbwc.size; have := hbw.size; omega) rfl rfl rfl rfl HS.out (fun h => by cases h) (fun j _ => rfl) (by unfold maxLen; omega) (by omega) ?_; intro A3 v3 w3 hp; have HP := Lib.hid hp; have hne : some g2 ≠ u4.ownBlock := (fun e => by have := HG.out g2 e.symm; omega); have hne0 : some w.heap.size ≠ u4.ownBlock := (fun e => by have := (HX.out.lt _ e.symm).1; omega); have B3 := HBx.out.grown hp.grown hne0; have hb3 : Below w.heap.size w w3 := hbwc.grown hp.grown hbwc.size (fun k hk => by have := (HX.out.lt k hk).1; omega); have D0 := hp.grown.cell HC.out.1.1 hne; have D1 := hp.grown.cell HC.out.1.2 hne; have D2 := hp.grown.cell HC.out.2.1 hne; have D3 := hp.grown.cell HC.out.2.2 hne; obtain ⟨z3, k3, j3⟩ := (show _ from B3); clear hne hne0 hp c0 c1 c2 c3 e0 e1)
          go_roundw
          case rel => exact ⟨k + 1, by omega, by go_num, fed_next (r := (⟨h0, h1, h2, m⟩, ou)) (l := [p]) HP.out.own B3 hb3 Hn.out⟩
          case measure => simp [intOf]; omega
        · obtain rfl : l = [p, q] := hl.out.2.2.symm
          have howc := own_later hown hbx
          have hBx := hB.later hbx hz
          have hbwc : Below w.heap.size w wc := hbw.trans (hbx.mono hbw.size)
          have hsrc : Rd wc (some ⟨g3, 0, none⟩) 2 (fun j => .int .i32 ([p, q].getD j 0)) := by
            intro j hj
            refine ⟨g3, 0, rfl, hg4, ?_⟩
            obtain rfl | rfl : j = 0 ∨ j = 1 := by omega
            · simpa using e0
            · simpa using e1
          have HS := Lib.hid hsrc
          have HX := Lib.hid howc
          have HBx := Lib.hid hBx
          have HC := Lib.hid (And.intro (And.intro c0 c1) (And.intro c2 c3))
          have hlt4 : ∀ g, u4.ownBlock = some g → g < wr.heap.size := fun g h => (hown.lt g h).2
          have HG := Lib.hid hlt4
          clear howc hBx hsrc kB jB hB hown hlt4
          go_wp2_with (at_builtin; refine wpList_cat eltI HX.out (by have := hbwc.size; have := hbw.size; omega) rfl rfl rfl rfl HS.out (fun h => by cases h) (fun j _ => rfl) (by unfold maxLen; omega) (by omega) ?_; intro A3 v3 w3 hp; have HP := Lib.hid hp; have hne : some g2 ≠ u4.ownBlock := (fun e => by have := HG.out g2 e.symm; omega); have hne0 : some w.heap.size ≠ u4.ownBlock := (fun e => by have := (HX.out.lt _ e.symm).1; omega); have B3 := HBx.out.grown hp.grown hne0; have hb3 : Below w.heap.size w w3 := hbwc.grown hp.grown hbwc.size (fun k hk => by have := (HX.out.lt k hk).1; omega); have D0 := hp.grown.cell HC.out.1.1 hne; have D1 := hp.grown.cell HC.out.1.2 hne; have D2 := hp.grown.cell HC.out.2.1 hne; have D3 := hp.grown.cell HC.out.2.2 hne; obtain ⟨z3, k3, j3⟩ := (show _ from B3); clear hne hne0 hp c0 c1 c2 c3 e0 e1)
          go_roundw
          case rel => exact ⟨k + 1, by omega, by go_num, fed_next (r := (⟨h0, h1, h2, m⟩, ou)) (l := [p, q]) HP.out.own B3 hb3 Hn.out⟩
          case measure => simp [intOf]; omega
    · obtain rfl : k = s.size := by omega
      have htk : (bts s).take s.size = bts s := List.take_of_length_le (by rw [bts_length]; exact Nat.le_refl _)
      rw [htk] at hown hB hok hlen
      have hdec : decD (bts s) = (runD (bts s)).2 ++ endD (runD (bts s)).1 := rfl
      obtain ⟨⟨⟨h0, h1, h2, m⟩, ou⟩, hru⟩ : ∃ r, runD (bts s) = r := ⟨_, rfl⟩
      rw [hru] at hown hB hok hlen hdec
      simp only at hown hB hlen hdec
      have HD := Lib.hid hdec
      have hz := hB.1
      obtain ⟨_, kB, jB⟩ := (show _ from hB)
      have hm : 0 ≤ m := by have := hok.2; simp only at this; omega
      have hle : (bts s).length ≤ s.size := by rw [bts_length]; exact Nat.le_refl _
      clear hru hdec htk htl hok hB
      by_cases hm0 : m = 0
      · subst hm0
        have hE : decD (bts s) = ou := by rw [HD.out]; simp [endD]
        have HE := Lib.hid hE
        have HO := Lib.hid hown
        clear hE hown
        go_wp2_with (first
          | (go_at_call 70; refine (end_none _ _ _ _).mono ?_; rintro e w1 ⟨rfl, hb1⟩)
          | (at_builtin; refine wpList_cat eltI (own_later HO.out hb1) (by have := hb1.size; omega) rfl rfl rfl rfl (Rd.empty w1 none (fun _ => .int .i32 0)) (fun _ => ⟨rfl, rfl⟩) (fun j hj => absurd hj (by omega)) (by unfold maxLen; omega) (by omega) ?_; intro A3 v3 w3 hp))
        go_ret
        have hb3 := hp.grown
        refine ⟨A3, v3, by rw [HE.out]; rfl, ?_, ?_⟩
        · rw [HE.out]
          exact rd_own (by simpa using hp.own) (fun j hj => by simp [li, hj])
        · exact (hbw.trans (hb1.mono hbw.size)).grown hp.grown (Nat.le_trans hbw.size hb1.size) (fun k hk => by have := ((own_later HO.out hb1).lt k hk).1; omega)
      · have hE : decD (bts s) = ou ++ [65533] := by rw [HD.out]; simp [endD, hm0]
        have HE := Lib.hid hE
        have HO := Lib.hid hown
        have hm1 : 0 < m := by omega
        clear hE hown hm0
        go_wp2_with (first
          | (go_at_call 70; refine (end_some _ _ _ _ hm1 _).mono ?_; rintro e w1 ⟨A1, rfl, hr1, hb1⟩; have HR1 := Lib.hid hr1; clear hr1)
          | (at_builtin; refine wpList_cat eltI (own_later HO.out hb1) (by have := hb1.size; omega) rfl rfl rfl rfl HR1.out (fun h => by cases h) (fun j _ => rfl) (by unfold maxLen; omega) (by omega) ?_; intro A3 v3 w3 hp))
        go_ret
        refine ⟨A3, v3, by rw [HE.out, List.length_append]; rfl, ?_, ?_⟩
        · rw [HE.out, List.length_append]
          refine rd_own hp.own (fun j hj => ?_)
          have e1 : (List.range 1).map (li [65533]) = [Value.int .i32 65533] := rfl
          rw [e1, show [Value.int .i32 65533] = [65533].map (Value.int .i32) from rfl, ← List.map_append, List.getElem?_map]
          simp only [List.length_cons, List.length_nil] at hj
          rw [List.getElem?_eq_getElem (by simp; omega)]
          simp [li, List.getD, List.getElem?_eq_getElem (show j < (ou ++ [65533]).length by simp; omega)]
        · exact (hbw.trans (hb1.mono hbw.size)).grown hp.grown (Nat.le_trans hbw.size hb1.size) (fun k hk => by have := ((own_later HO.out hb1).lt k hk).1; omega)

end Go.Proofs.YtfnieoffgnnldaaDoor

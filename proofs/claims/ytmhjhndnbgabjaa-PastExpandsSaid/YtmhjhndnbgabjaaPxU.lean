/- past: the document's Expand. -/
import Derived.Test.YtmhjhndnbgabjaaPxT
namespace Go.Proofs.Ytmhjhndnbgabjaa
open Go.RowKit
set_option linter.unusedVariables false
set_option linter.unusedSimpArgs false

theorem EQ.push1 {w X Y : World} {P : Array Value} {M : List (List Int)} {l : List Int} {R : Option (List Int)} {a a' n : Nat} {done : List Int} {v : Value} {x : Int} {A : Option Addr} {c : Nat} (h : EQ w P M l R a n done v X) (hp : Pushed X Y (w.heap.size + 1) 21 1 v (n + 1) (done.map (Value.int .i32) ++ #[Value.int .i32 x].toList) A c) (hr : restQ M l R a' (done ++ [x])) : EQ w P M l R a' (n + 1) (done ++ [x]) (.slice A (n + 1) c) Y :=
  h.cat (m := 1) (xs := [x]) (Below.refl _ _) rfl hp hr
set_option maxHeartbeats 8000000 in
set_option maxRecDepth 100000 in
theorem rexpand_any (Al : Option Addr) (cl : Nat) (k : Int) (lv : Value) (M : List (List Int)) (A : Option Addr) (c : Nat) (l : List Int) (w : World) (hL : Txts w (.slice Al M.length cl) M.reverse) (hn : M.length ≤ 1000) (hm : ∀ l ∈ M, l.length ≤ 20) (hs : Txt w (.slice A l.length c) l) (hsl : l.length ≤ 40) :
    Calls Try.prog 20 #[.agg #[.slice Al M.length cl, .int .i64 k, lv], .slice A l.length c] w (TellsX (expQ M l.length l) w) := by
  obtain ⟨-, -, -, hc, hc2⟩ := Sl.parts hs
  obtain ⟨R, hR⟩ : ∃ R, expQ M l.length l = R := ⟨_, rfl⟩
  have H0 := Lib.hid (show restQ M l R 0 [] by rw [← hR]; exact restQ_start)
  have HS := Lib.hid hs
  have HL := Lib.hid hL
  have HM := Lib.hid hm
  rw [hR]
  clear hR hs hL hm
  go_enter Try.func20, Try.ntmps20
  go_upto_region 1 with fail
  refine at_world (fun X => EQ w #[.slice Al M.length cl, .int .i64 k, lv] M l R 0 0 [] (.slice none 0 0) X) ⟨World.ownsRow_nil _ _ _ _, rfl, H0.out, belAl1 _ _, blk_new _ _ _⟩ ?_
  intro X hX
  have HX := Lib.hid hX
  clear hX
  go_wp2
  go_loopw [6, 7, 8, 9, 10] (fun ov i _ _ _ wr => ∃ a n Ao co, a ≤ l.length ∧ n ≤ 20 * a ∧ i = .int .i64 ((a : Nat) : Int) ∧ ov = .slice Ao n co ∧ Hid (∃ done, EQ w #[.slice Al M.length cl, .int .i64 k, lv] M l R a n done (.slice Ao n co) wr)) (fun _ i _ _ _ _ => l.length - (intOf i).toNat)
  case atStart => exact ⟨0, 0, none, 0, Nat.zero_le _, Nat.le_refl _, rfl, rfl, Lib.hid ⟨[], HX.out⟩⟩
  case round =>
    obtain ⟨a, n, Ao, co, ha, hna, rfl, rfl, HE⟩ := hrel
    obtain ⟨done, hE⟩ := HE.out
    have E1 := Lib.hid hE
    clear hE HE
    by_cases hlt : a < l.length
    · obtain ⟨b, o, rfl, hbl, hcx⟩ := txt_at HS.out hlt
      have hcw := (E1.out.be.cell (p := ⟨b, o + a, none⟩) hbl).trans hcx
      obtain ⟨x, hx⟩ : ∃ x, l.getD a 0 = x := ⟨_, rfl⟩
      rw [hx] at hcw
      have HXX := Lib.hid hx
      have hai : (a : Int) < (l.length : Int) := by omega
      have hz := E1.out.blk.1
      have d65 : decide ((65536 : Int) < (n : Int) + 1) = false := decide_eq_false (by omega)
      clear hcx hx
      by_cases hq : x = 92 ∧ a + 1 < l.length ∧ l.getD (a + 1) 0 = 33
      · obtain ⟨rfl, hlt2, hy⟩ := hq
        obtain ⟨b', o', e', _, hcy⟩ := txt_at HS.out hlt2
        injection e' with e'
        injection e' with x1 x2
        subst x1; subst x2
        have hcv := (E1.out.be.cell (p := ⟨b, o + (a + 1), none⟩) hbl).trans hcy
        rw [hy] at hcv
        have HR2 := Lib.hid (restQ_two E1.out.rest hlt2 HXX.out hy)
        have hai2 : (a : Int) + 1 < (l.length : Int) := by omega
        have hai3 : (0 : Int) ≤ (a : Int) + 1 := by omega
        clear hcy hy
        go_wp2_with (at_builtin; refine wpList_push slR_elt E1.out.own hz rfl rfl rfl rfl rfl rfl rfl (by unfold maxLen; omega) (by omega) ?_; intro A3 c3 w3 hp; have HQ := Lib.hid (E1.out.push1 hp HR2.out); clear hp)
        go_roundw
        case rel => exact ⟨a + 2, n + 1, _, _, by omega, by omega, by go_num, rfl, Lib.hid ⟨_, HQ.out⟩⟩
        case measure => simp [intOf]; omega
      · by_cases h33 : x = 33
        · subst h33
          obtain ⟨E, hE⟩ : ∃ E, a + 1 = E := ⟨_, rfl⟩
          have g1 : (a : Int) + 1 = (E : Int) := by omega
          have g2 : IntKind.i64.wrap (E : Int) = (E : Int) := IntWalk.i64_in _ (by omega)
          have HEv := restQ_ev E1.out.rest hlt HXX.out
          rw [hE] at HEv
          have HEv := Lib.hid HEv
          have C := event_any Al cl k lv M (some ⟨b, o, none⟩) c l E wr (HL.out.later E1.out.be) hn (fun x hx => by have := HM.out x hx; omega) (HS.out.later E1.out.be) (by omega) (by omega)
          obtain ⟨ev, hev⟩ : ∃ ev, eventP M (l.drop E) = ev := ⟨_, rfl⟩
          rw [hev] at C HEv
          have C := Lib.hid C
          have HV := Lib.hid hev
          have p0 : wr.cell? ⟨w.heap.size, 0, none⟩ = some (.slice Al M.length cl) := E1.out.blk.2.1 0
          have p1 : wr.cell? ⟨w.heap.size, 1, none⟩ = some (.int .i64 k) := E1.out.blk.2.1 1
          have p2 : wr.cell? ⟨w.heap.size, 2, none⟩ = some lv := E1.out.blk.2.1 2
          have d92 : ((33 : Int) == 92) = false := rfl
          clear hev hq
          cases ev with
          | none =>
            obtain rfl : R = none := HEv.out.1 rfl
            go_wp2_with fail
            refine C.out.mono ?_
            rintro e w5 ⟨A5, n5, c5, z, rfl, -, hb5⟩
            have H5 := Lib.hid (E1.out.be.trans (hb5.mono E1.out.be.size))
            have d5 : (none : Option (List Int × Nat)).isSome = false := rfl
            clear hb5 C
            go_wp2
            go_ret2
            exact ⟨none, 0, 0, rfl, Txt.nil _, H5.out⟩
          | some e0 =>
            obtain ⟨lx, kx⟩ := e0
            have HI := Lib.hid (eventP_is HV.out)
            have HR2 := Lib.hid (HEv.out.2 _ rfl)
            have hkx : E + kx ≤ l.length := by have := HI.out.1; rw [List.length_drop] at this; simp only at this; omega
            have d5 : (some (lx, kx) : Option (List Int × Nat)).isSome = true := rfl
            go_wp2_with fail
            refine C.out.mono ?_
            rintro e w5 ⟨A5, n5, c5, z, rfl, h5, hb5⟩
            obtain ⟨hz5, ht5⟩ := h5 _ rfl
            dsimp only at hz5 ht5
            subst hz5
            have H5 := Lib.hid (And.intro hb5 (And.intro (own_later E1.out.own hb5) ht5))
            obtain rfl := Txt.len ht5
            obtain ⟨-, hr5, hn5, hc5, hm5⟩ := Sl.parts ht5
            have HRx := Lib.hid hr5
            have HN5 := Lib.hid hn5
            have hzz : w.heap.size + 1 ≤ w5.heap.size := Nat.le_trans E1.out.blk.1 hb5.size
            have HE5 := Lib.hid (show EQ w #[.slice Al M.length cl, .int .i64 k, lv] M l R a n done (.slice Ao n co) w5 from ⟨own_later E1.out.own hb5, E1.out.len, E1.out.rest, E1.out.be.trans (hb5.mono E1.out.be.size), E1.out.blk.later hb5 E1.out.blk.1⟩)
            clear hb5 C h5 ht5 hr5 hn5 p0 p1 p2 hcw
            by_cases hk : kx = 0
            · subst hk
              obtain rfl : lx = [] := HI.out.2.2 rfl
              have HR3 := Lib.hid (show restQ M l R E (done ++ [33]) from HR2.out)
              have HR4 := Lib.hid (show restQ M l R E (done ++ [33] ++ []) by rw [List.append_nil]; exact HR2.out)
              have d0 : ((((0 : Nat) : Int)) == 0) = true := rfl
              have hRd : ∀ X : World, Rd X A5 0 (liR []) := fun X j hj => absurd hj (Nat.not_lt_zero _)
              have hRd := Lib.hid hRd
              go_upto_region 15 with (at_builtin; refine wpList_push slR_elt HE5.out.own hzz rfl rfl rfl rfl rfl rfl rfl (by unfold maxLen; omega) (by omega) ?_; intro A3 c3 w3 hp; have HQ := Lib.hid (HE5.out.push1 hp HR3.out); clear hp)
              go_wp2_with (at_builtin; refine wpList_cat slR_elt HQ.out.own HQ.out.blk.1 rfl rfl rfl rfl (hRd.out _) (fun h => ⟨rfl, (HN5.out h).2⟩) (fun j _ => rfl) (by unfold maxLen; omega) (by omega) ?_; intro A4 c4 w4 hp; have HQ4 := Lib.hid (HQ.out.cat (m := 0) (xs := []) (Below.refl _ _) rfl hp HR4.out); clear hp)
              go_roundw
              case rel => exact ⟨E, n + 1, _, _, by omega, by omega, by go_num, rfl, Lib.hid ⟨_, HQ4.out⟩⟩
              case measure => simp [intOf]; omega
            · have d0 : ((kx : Int) == 0) = false := by simp; omega
              have htl : lx.length ≤ 20 := HM.out lx (HI.out.2.1.resolve_left hk)
              have HR3 := HR2.out
              simp only [if_neg hk] at HR3
              have HR3 := Lib.hid HR3
              have d66 : decide ((65536 : Int) < (n : Int) + (lx.length : Int)) = false := decide_eq_false (by omega)
              obtain ⟨F, hF⟩ : ∃ F, E + kx = F := ⟨_, rfl⟩
              rw [hF] at hkx
              have hF2 : F = a + 1 + kx := by omega
              rw [hF] at HR3
              clear hF hE
              go_wp2_with (at_builtin; refine wpList_cat slR_elt H5.out.2.1 hzz rfl rfl rfl rfl HRx.out HN5.out (fun j _ => rfl) (by unfold maxLen; omega) (by omega) ?_; intro A3 c3 w3 hp; have HQ := Lib.hid (HE5.out.cat (Below.refl _ _) rfl hp HR3.out); clear hp)
              go_roundw
              case rel => exact ⟨F, n + lx.length, _, _, hkx, by omega, by go_num, rfl, Lib.hid ⟨_, HQ.out⟩⟩
              case measure => simp [intOf]; omega
        · have HR2 := Lib.hid (show restQ M l R (a + 1) (done ++ [x]) by have := restQ_one E1.out.rest hlt (by rw [HXX.out]; exact h33) (by rw [HXX.out]; exact hq); rwa [HXX.out] at this)
          have d3 : (x == 33) = false := by simpa using h33
          have d4 : (x != 33) = true := by simpa using h33
          by_cases h92 : x = 92
          · subst h92
            by_cases hlt2 : a + 1 < l.length
            · obtain ⟨b', o', e', _, hcy⟩ := txt_at HS.out hlt2
              injection e' with e'
              injection e' with x1 x2
              subst x1; subst x2
              obtain ⟨y, hy⟩ : ∃ y, l.getD (a + 1) 0 = y := ⟨_, rfl⟩
              have hcv := (E1.out.be.cell (p := ⟨b, o + (a + 1), none⟩) hbl).trans hcy
              rw [hy] at hcv
              have d4 : (y == 33) = false := by
                have : y ≠ 33 := fun e => hq ⟨rfl, hlt2, by rw [hy]; exact e⟩
                simpa using this
              have hai2 : (a : Int) + 1 < (l.length : Int) := by omega
              have hai3 : (0 : Int) ≤ (a : Int) + 1 := by omega
              clear hcy hy hq
              go_wp2_with (at_builtin; refine wpList_push slR_elt E1.out.own hz rfl rfl rfl rfl rfl rfl rfl (by unfold maxLen; omega) (by omega) ?_; intro A3 c3 w3 hp; have HQ := Lib.hid (E1.out.push1 hp HR2.out); clear hp)
              go_roundw
              case rel => exact ⟨a + 1, n + 1, _, _, by omega, by omega, by go_num, rfl, Lib.hid ⟨_, HQ.out⟩⟩
              case measure => simp [intOf]; omega
            · have d2 : decide ((a : Int) + 1 < (l.length : Int)) = false := decide_eq_false (by omega)
              clear hq
              go_wp2_with (at_builtin; refine wpList_push slR_elt E1.out.own hz rfl rfl rfl rfl rfl rfl rfl (by unfold maxLen; omega) (by omega) ?_; intro A3 c3 w3 hp; have HQ := Lib.hid (E1.out.push1 hp HR2.out); clear hp)
              go_roundw
              case rel => exact ⟨a + 1, n + 1, _, _, by omega, by omega, by go_num, rfl, Lib.hid ⟨_, HQ.out⟩⟩
              case measure => simp [intOf]; omega
          · have d1 : (x == 92) = false := by simpa using h92
            clear hq
            go_wp2_with (at_builtin; refine wpList_push slR_elt E1.out.own hz rfl rfl rfl rfl rfl rfl rfl (by unfold maxLen; omega) (by omega) ?_; intro A3 c3 w3 hp; have HQ := Lib.hid (E1.out.push1 hp HR2.out); clear hp)
            go_roundw
            case rel => exact ⟨a + 1, n + 1, _, _, by omega, by omega, by go_num, rfl, Lib.hid ⟨_, HQ.out⟩⟩
            case measure => simp [intOf]; omega
    · obtain rfl : a = l.length := by omega
      obtain rfl : R = some done := restQ_end E1.out.rest
      have HZ := Lib.hid (And.intro E1.out.text E1.out.be)
      have d0 : decide ((l.length : Int) < (l.length : Int)) = false := by simp
      clear E1 HX H0
      go_wp2
      go_ret2
      exact ⟨_, _, _, rfl, HZ.out.1, HZ.out.2⟩
end Go.Proofs.Ytmhjhndnbgabjaa

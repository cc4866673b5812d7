/- bind: BindValue, more than forty. -/
import Derived.Test.YtpdjkphjpjbhgaaDoorBindS
import Derived.Test.YtpdjkphjpjbhgaaDoorBindO
namespace Go.Proofs.YtpdjkphjpjbhgaaDoor
open Go.RowKit Go.Maps
set_option linter.unusedVariables false
set_option linter.unusedSimpArgs false
set_option maxHeartbeats 8000000 in
theorem walk_BindValue_many (w : World) (hT : TabW w) (A : Option Addr) (N c : Nat) (L : List (Stk × Int)) (hN : L.length = N) (hr : OwnRd w A L) (hNc : N ≤ c) (p : Bool) (k r : Int) (m : Bool) (xc : Int) (hxc : (Lit.int .i64 xc).wf = true) (hs : Wf (p, k, r, m)) (h40 : 40 < N) :
    Calls Tryd.prog 5 #[.slice A N c, .agg #[.bool p, .int .i64 k, .int .i32 r, .bool m, .int .i64 xc]] w (YesW w) := by
  subst hN
  have hd : decide ((L.length : Int) > 40) = true := by simp; omega
  have h0 : (0 : Int) ≤ 40 := by decide
  have h1 : (40 : Int) ≤ (c : Int) := by omega
  have hA : (if c = 0 then A else Option.map (fun x => x.add 0) A) = A := by
    rw [if_neg (by omega)]
    cases A with
    | none => rfl
    | some a => simp [Addr.add]
  obtain ⟨L1, hL1⟩ : ∃ L1, L.take 40 = L1 := ⟨_, rfl⟩
  have HR := Lib.hid (hL1 ▸ hr.take 40 : OwnRd w A L1)
  have HN := Lib.hid (show L1.length = 40 by rw [← hL1, List.length_take]; omega)
  have HT := Lib.hid hT
  have HW := Lib.hid hs
  have HXC := Lib.hid hxc
  clear hr hT hs hL1 hxc
  go_enter Tryd.func5, Tryd.ntmps5
  go_wp2_with fail
  have W1 : Hid (Vm w (w.heap.size + 1) (.map none) [] ((w.alloc (.cells #[.bool p, .int .i64 k, .int .i32 r, .bool m, .int .i64 xc] 38)).alloc (.cells #[.map none] 34))) := Lib.hid (by
    have hb := blk_new (w.alloc (.cells #[.bool p, .int .i64 k, .int .i32 r, .bool m, .int .i64 xc] 38)) #[.map none] 34
    rw [World.size_alloc] at hb
    exact ⟨hb, .inl ⟨rfl, rfl⟩, ((Below.refl _ _).alloc (Nat.le_refl _) _).alloc (by simp) _⟩)
  have W2 : Hid (Blk ((w.alloc (.cells #[.bool p, .int .i64 k, .int .i32 r, .bool m, .int .i64 xc] 38)).alloc (.cells #[.map none] 34)) w.heap.size #[.bool p, .int .i64 k, .int .i32 r, .bool m, .int .i64 xc]) := Lib.hid ((blk_new w _ _).alloc _)
  go_loopw [6] (fun i wr => ∃ n : Nat, n ≤ 40 ∧ i = .int .i64 n ∧ Hid (∃ v, Vm w (w.heap.size + 1) v (L1.take n) wr ∧ Blk wr w.heap.size #[.bool p, .int .i64 k, .int .i32 r, .bool m, .int .i64 xc])) (fun i _ => 40 - measN i)
  case atStart => exact ⟨0, Nat.zero_le _, rfl, Lib.hid ⟨_, W1.out, W2.out⟩⟩
  case round =>
    obtain ⟨n, hn, rfl, HE⟩ := hrel
    obtain ⟨v, hV, hP⟩ := HE.out
    have HV := Lib.hid hV
    have HP := Lib.hid hP
    clear hV hP HE W1 W2
    by_cases hlt : n < 40
    · obtain ⟨b, o, s, cm, rfl, hLn, hws, hwc, a0, a1, a2, a3, a4⟩ := HR.out.later HV.out.2.2 n (by rw [HN.out]; exact hlt)
      obtain ⟨p', k', r', m'⟩ := s
      have HLn := Lib.hid (take_snoc hLn)
      have i0 : (0 : Int) ≤ (n : Int) := by omega
      have i1 : (n : Int) < (40 : Int) := by omega
      have hd1 := decide_eq_true i1
      have HS : Hid (∀ X, Below wr.heap.size wr X → (fun X => X.cell? ⟨w.heap.size + 1, 0, none⟩ = some v ∧ X.frozen? ⟨w.heap.size + 1, 0, none⟩ = false ∧ X.cell? ⟨b, o + n * 5, none⟩ = some (.bool p') ∧ X.cell? ⟨b, o + n * 5 + 1, none⟩ = some (.int .i64 k') ∧ X.cell? ⟨b, o + n * 5 + 2, none⟩ = some (.int .i32 r') ∧ X.cell? ⟨b, o + n * 5 + 3, none⟩ = some (.bool m') ∧ X.cell? ⟨b, o + n * 5 + 4, none⟩ = some (.int .i64 cm)) X) := Lib.hid (by
        intro X hX
        have st {a : Addr} {u : Value} (h : wr.cell? a = some u) : X.cell? a = some u := (hX.cell (World.block_lt_of_cell? _ _ h)).trans h
        have hB := HV.out.1.later hX HV.out.1.1
        exact ⟨by have := hB.2.1 0; simpa using this, hB.2.2 0, st a0, st a1, st a2, st a3, st a4⟩)
      obtain ⟨c0, _⟩ := HS.out wr (Below.refl _ _)
      clear hLn
      have hlen : (L1.take n).length ≤ 1000 := by have := HN.out; rw [List.length_take]; omega
      have hD := (Below.refl wr.heap.size wr).drew
      go_wp2
      go_region_with (first
        | (go_at_call 9; refine (stroke_any _ _ _ _ _).mono ?_; rintro e w3 ⟨rfl, hb3⟩; have hB3 := belowStep (A := wr) (by assumption) hb3; obtain ⟨u0, _, u1, u2, u3, u4, u5⟩ := HS.out w3 hB3; clear hb3)
        | (go_at_call 8; refine (with_any (HV.out.2.1.later (by assumption)) hlen (p', k', r', m') hws cm hwc).mono ?_; rintro e w4 ⟨v', rfl, hM4, hb4⟩; obtain ⟨q', rfl⟩ := hM4.shape; have hB4 := belowStep (A := wr) (by assumption) hb4; have HM4 := Lib.hid hM4; obtain ⟨y4, k4, j4⟩ := (show Blk w4 (w.heap.size + 1) _ from HV.out.1.later hB4 HV.out.1.1); clear hb4 hM4))
      all_goals
        have HF := Lib.hid (((HV.out.later hB4).store HM4.out (Nat.le_succ _)))
        have HG := Lib.hid ((HP.out.later hB4 HP.out.1).far (p := ⟨w.heap.size + 1, 0, none⟩) (by simp) (.map q'))
        clear hB4 HM4 HS
        go_wp2
        go_roundw
        case rel => exact ⟨n + 1, by omega, by go_num, Lib.hid ⟨_, by rw [HLn.out]; exact HF.out, HG.out⟩⟩
        case measure => simp [measN]; omega
    · have hne : n = 40 := by omega
      subst hne
      clear hlt
      have hfull : L1.take 40 = L1 := by have := HN.out; rw [List.take_of_length_le (by omega)]
      rw [hfull] at HV
      clear hfull
      have HRr := Lib.hid (HR.out.later HV.out.2.2)
      have HTr := Lib.hid (HT.out.later HV.out.2.2)
      go_wp2_with fail
      have HS : Hid (∀ X, Below wr.heap.size wr X → (fun X => X.cell? ⟨w.heap.size + 1, 0, none⟩ = some v ∧ X.cell? ⟨w.heap.size, 0, none⟩ = some (.bool p) ∧ X.cell? ⟨w.heap.size, 1, none⟩ = some (.int .i64 k) ∧ X.cell? ⟨w.heap.size, 2, none⟩ = some (.int .i32 r) ∧ X.cell? ⟨w.heap.size, 3, none⟩ = some (.bool m) ∧ X.cell? ⟨w.heap.size, 4, none⟩ = some (.int .i64 xc)) X) := Lib.hid (by
        intro X hX
        have hB := HV.out.1.later hX HV.out.1.1
        have hP := HP.out.later hX HP.out.1
        exact ⟨by have := hB.2.1 0; simpa using this, by have := hP.2.1 0; simpa using this, by have := hP.2.1 1; simpa using this, by have := hP.2.1 2; simpa using this, by have := hP.2.1 3; simpa using this, by have := hP.2.1 4; simpa using this⟩)
      obtain ⟨z, hz⟩ : ∃ z, saidS L1 (p, k, r, m) = z := ⟨_, rfl⟩
      have HZ := Lib.hid hz
      clear hz
      have hD := (Below.refl wr.heap.size wr).drew
      go_region_held3 (fun X => X.cell? ⟨w.heap.size + 1, 0, none⟩ = some v ∧ X.cell? ⟨w.heap.size, 0, none⟩ = some (.bool p) ∧ X.cell? ⟨w.heap.size, 1, none⟩ = some (.int .i64 k) ∧ X.cell? ⟨w.heap.size, 2, none⟩ = some (.int .i32 r) ∧ X.cell? ⟨w.heap.size, 3, none⟩ = some (.bool m) ∧ X.cell? ⟨w.heap.size, 4, none⟩ = some (.int .i64 xc))
        (first | exact HS.out _ (by assumption) | go_keep)
        (first
        | (go_at_call 9; refine (stroke_any _ _ _ _ _).mono ?_; rintro e w3 ⟨rfl, hb3⟩; have hB3 := belowStep (A := wr) (by assumption) hb3; clear hb3)
        | (go_at_call 10; refine (look_any (HV.out.2.1.later (by assumption)) (HTr.out.later (by assumption)) (p, k, r, m) HW.out).mono ?_; rw [HZ.out]; rintro e w4 ⟨rfl, hb4⟩; have hB4 := belowStep (A := wr) (by assumption) hb4; clear hb4))
      all_goals
        have HB4 := Lib.hid hB4
        clear hB4
        have V4 := Lib.hid (HV.out.later HB4.out)
        have P4 := Lib.hid (HP.out.later HB4.out HP.out.1)
        obtain ⟨c0, c1, c2, c3, c4, c5⟩ := HS.out w4 HB4.out
        clear HS
        have HS4 : Hid (∀ X, Below w4.heap.size w4 X → (fun X => X.cell? ⟨w.heap.size + 1, 0, none⟩ = some v ∧ X.cell? ⟨w.heap.size, 0, none⟩ = some (.bool p) ∧ X.cell? ⟨w.heap.size, 1, none⟩ = some (.int .i64 k) ∧ X.cell? ⟨w.heap.size, 2, none⟩ = some (.int .i32 r) ∧ X.cell? ⟨w.heap.size, 3, none⟩ = some (.bool m) ∧ X.cell? ⟨w.heap.size, 4, none⟩ = some (.int .i64 xc)) X) := Lib.hid (by
          intro X hX
          have hB := V4.out.1.later hX V4.out.1.1
          have hP := P4.out.later hX P4.out.1
          exact ⟨by have := hB.2.1 0; simpa using this, by have := hP.2.1 0; simpa using this, by have := hP.2.1 1; simpa using this, by have := hP.2.1 2; simpa using this, by have := hP.2.1 3; simpa using this, by have := hP.2.1 4; simpa using this⟩)
        have hD4 := (Below.refl w4.heap.size w4).drew
        go_wp2_with fail
        have hlen : L1.length ≤ 1000 := by have := HN.out; omega
        go_region_held3 (fun X => X.cell? ⟨w.heap.size + 1, 0, none⟩ = some v ∧ X.cell? ⟨w.heap.size, 0, none⟩ = some (.bool p) ∧ X.cell? ⟨w.heap.size, 1, none⟩ = some (.int .i64 k) ∧ X.cell? ⟨w.heap.size, 2, none⟩ = some (.int .i32 r) ∧ X.cell? ⟨w.heap.size, 3, none⟩ = some (.bool m) ∧ X.cell? ⟨w.heap.size, 4, none⟩ = some (.int .i64 xc))
          (first | exact HS4.out _ (by first | assumption | exact bAlloc (by assumption) _ | exact (bAlloc (Below.refl _ _) _).drew | exact bSet (by first | assumption | exact bAlloc (by assumption) _ | exact (bAlloc (Below.refl _ _) _).drew) (by first | exact Nat.le_refl _ | exact hB7.size | exact hB8.size) _) | go_keep)
          (first
          | (go_at_call 9; refine (stroke_any _ _ _ _ _).mono ?_; rintro e w7 ⟨rfl, hb7⟩; have hB7 := belowStep (A := w4) (by first | assumption | exact bAlloc (by assumption) _ | exact (bAlloc (Below.refl _ _) _).drew) hb7; first | (have n7 := cell_new7 hb7; obtain ⟨n7a, n7b⟩ := n7; clear hb7) | (have n7 := cell_newD hb7; obtain ⟨n7a, n7b⟩ := n7; clear hb7) | clear hb7)
          | (go_at_call 8; refine (with_any (V4.out.2.1.later (by first | assumption | exact bAlloc (by assumption) _ | exact (bAlloc (Below.refl _ _) _).drew)) hlen (p, k, r, m) HW.out xc HXC.out).mono ?_; rintro e w8 ⟨v', rfl, hM8, hb8⟩; obtain ⟨q', rfl⟩ := hM8.shape; have hB8 := belowStep (A := w4) (by first | assumption | exact bAlloc (by assumption) _ | exact (bAlloc (Below.refl _ _) _).drew) hb8; have HM8 := Lib.hid hM8; first | (have n8 := cell_new7 hb8; obtain ⟨n8a, n8b⟩ := n8; clear hb8 hM8) | (have n8 := cell_keep8 hb8 n7a n7b; obtain ⟨n8a, n8b⟩ := n8; clear hb8 hM8) | clear hb8 hM8))
        all_goals have hz2 : saidS (L1 ++ [((p, k, r, m), xc)]) (p, k, r, m) = xc := by unfold saidS; rw [lastOf_snoc, if_pos rfl]; rfl
        · refine at_world (fun X => X.cell? ⟨w8.heap.size, 0, none⟩ = some (.map q') ∧ MapOf X (.map q') (L1 ++ [((p, k, r, m), xc)]) ∧ Below w4.heap.size w4 X) ⟨by simp, HM8.out.later ((Below.refl _ _).alloc (Nat.le_refl _) _), bAlloc hB8 _⟩ ?_
          rintro X ⟨x0, hm, hl⟩
          have HX := Lib.hid (And.intro x0 (And.intro hm hl))
          have HS9 : Hid (∀ Y, Below X.heap.size X Y → (fun X => X.cell? ⟨w8.heap.size, 0, none⟩ = some (.map q') ∧ X.cell? ⟨w.heap.size + 1, 0, none⟩ = some v ∧ X.cell? ⟨w.heap.size, 0, none⟩ = some (.bool p) ∧ X.cell? ⟨w.heap.size, 1, none⟩ = some (.int .i64 k) ∧ X.cell? ⟨w.heap.size, 2, none⟩ = some (.int .i32 r) ∧ X.cell? ⟨w.heap.size, 3, none⟩ = some (.bool m) ∧ X.cell? ⟨w.heap.size, 4, none⟩ = some (.int .i64 xc)) Y) := Lib.hid (by
            intro Y hY
            exact ⟨(hY.cell (World.block_lt_of_cell? _ _ x0)).trans x0, HS4.out Y (belowStep hl hY)⟩)
          have HZ2 := Lib.hid hz2
          clear hz2
          have hDX := (Below.refl X.heap.size X).drew
          clear x0 hm hl HM8
          go_wp2_with fail
          go_region_held3 (fun X => X.cell? ⟨w8.heap.size, 0, none⟩ = some (.map q') ∧ X.cell? ⟨w.heap.size + 1, 0, none⟩ = some v ∧ X.cell? ⟨w.heap.size, 0, none⟩ = some (.bool p) ∧ X.cell? ⟨w.heap.size, 1, none⟩ = some (.int .i64 k) ∧ X.cell? ⟨w.heap.size, 2, none⟩ = some (.int .i32 r) ∧ X.cell? ⟨w.heap.size, 3, none⟩ = some (.bool m) ∧ X.cell? ⟨w.heap.size, 4, none⟩ = some (.int .i64 xc))
            (first | exact HS9.out _ (by assumption) | go_keep)
            (first
            | (go_at_call 9; refine (stroke_any _ _ _ _ _).mono ?_; rintro e wa ⟨rfl, hba⟩; have hBa := belowStep (A := X) (by assumption) hba; clear hba)
            | (go_at_call 10; refine (look_two (V4.out.2.1.later (belowStep HX.out.2.2 (by assumption))) (HX.out.2.1.later (by assumption)) (HTr.out.later (belowStep HB4.out (belowStep HX.out.2.2 (by assumption)))) (p, k, r, m) HW.out _ _ (by first | exact .inl ⟨rfl, HZ.out⟩ | exact .inr ⟨rfl, HZ2.out⟩)).mono ?_; rintro e wb ⟨rfl, hbb⟩; have hBb := belowStep (A := X) (by assumption) hbb; clear hbb)
            | (go_at_call 11; refine (reflook_any _ _ _ L1 _ HN.out (HRr.out.later (belowStep HB4.out (belowStep HX.out.2.2 (by assumption)))) (by omega) p k r m HW.out).mono ?_; rw [HZ.out]; rintro e wc ⟨rfl, hbc⟩; have hBc := belowStep (A := X) (by assumption) hbc; clear hbc)
            | (go_at_call 7; refine (awake_yes _ ((HTr.out.later (belowStep HB4.out (belowStep HX.out.2.2 (by assumption)))) 1 (by decide))).mono ?_; rintro e wd ⟨rfl, hbd⟩; have hBd := belowStep (A := X) (by assumption) hbd; clear hbd))
          all_goals
            have HF := Lib.hid (belowStep V4.out.2.2 (belowStep HX.out.2.2 hBd))
            clear hBd HS9
            go_wp2
            go_ret
            exact ⟨rfl, HF.out⟩
        · refine at_world (fun X => X.cell? ⟨w7.heap.size, 0, none⟩ = some (.map q') ∧ MapOf X (.map q') (L1 ++ [((p, k, r, m), xc)]) ∧ Below w4.heap.size w4 X) ⟨World.cell?_setCell_same' _ _ _ (by rw [n8a]; rfl), HM8.out.set n8a _, bSet hB8 (hB7.size) _⟩ ?_
          rintro X ⟨x0, hm, hl⟩
          have HX := Lib.hid (And.intro x0 (And.intro hm hl))
          have HS9 : Hid (∀ Y, Below X.heap.size X Y → (fun X => X.cell? ⟨w7.heap.size, 0, none⟩ = some (.map q') ∧ X.cell? ⟨w.heap.size + 1, 0, none⟩ = some v ∧ X.cell? ⟨w.heap.size, 0, none⟩ = some (.bool p) ∧ X.cell? ⟨w.heap.size, 1, none⟩ = some (.int .i64 k) ∧ X.cell? ⟨w.heap.size, 2, none⟩ = some (.int .i32 r) ∧ X.cell? ⟨w.heap.size, 3, none⟩ = some (.bool m) ∧ X.cell? ⟨w.heap.size, 4, none⟩ = some (.int .i64 xc)) Y) := Lib.hid (by
            intro Y hY
            exact ⟨(hY.cell (World.block_lt_of_cell? _ _ x0)).trans x0, HS4.out Y (belowStep hl hY)⟩)
          have HZ2 := Lib.hid hz2
          clear hz2
          have hDX := (Below.refl X.heap.size X).drew
          clear x0 hm hl HM8
          go_wp2_with fail
          go_region_held3 (fun X => X.cell? ⟨w7.heap.size, 0, none⟩ = some (.map q') ∧ X.cell? ⟨w.heap.size + 1, 0, none⟩ = some v ∧ X.cell? ⟨w.heap.size, 0, none⟩ = some (.bool p) ∧ X.cell? ⟨w.heap.size, 1, none⟩ = some (.int .i64 k) ∧ X.cell? ⟨w.heap.size, 2, none⟩ = some (.int .i32 r) ∧ X.cell? ⟨w.heap.size, 3, none⟩ = some (.bool m) ∧ X.cell? ⟨w.heap.size, 4, none⟩ = some (.int .i64 xc))
            (first | exact HS9.out _ (by assumption) | go_keep)
            (first
            | (go_at_call 9; refine (stroke_any _ _ _ _ _).mono ?_; rintro e wa ⟨rfl, hba⟩; have hBa := belowStep (A := X) (by assumption) hba; clear hba)
            | (go_at_call 10; refine (look_two (V4.out.2.1.later (belowStep HX.out.2.2 (by assumption))) (HX.out.2.1.later (by assumption)) (HTr.out.later (belowStep HB4.out (belowStep HX.out.2.2 (by assumption)))) (p, k, r, m) HW.out _ _ (by first | exact .inl ⟨rfl, HZ.out⟩ | exact .inr ⟨rfl, HZ2.out⟩)).mono ?_; rintro e wb ⟨rfl, hbb⟩; have hBb := belowStep (A := X) (by assumption) hbb; clear hbb)
            | (go_at_call 11; refine (reflook_any _ _ _ L1 _ HN.out (HRr.out.later (belowStep HB4.out (belowStep HX.out.2.2 (by assumption)))) (by omega) p k r m HW.out).mono ?_; rw [HZ.out]; rintro e wc ⟨rfl, hbc⟩; have hBc := belowStep (A := X) (by assumption) hbc; clear hbc)
            | (go_at_call 7; refine (awake_yes _ ((HTr.out.later (belowStep HB4.out (belowStep HX.out.2.2 (by assumption)))) 1 (by decide))).mono ?_; rintro e wd ⟨rfl, hbd⟩; have hBd := belowStep (A := X) (by assumption) hbd; clear hbd))
          all_goals
            have HF := Lib.hid (belowStep V4.out.2.2 (belowStep HX.out.2.2 hBd))
            clear hBd HS9
            go_wp2
            go_ret
            exact ⟨rfl, HF.out⟩
        · refine at_world (fun X => X.cell? ⟨w4.heap.size, 0, none⟩ = some (.map q') ∧ MapOf X (.map q') (L1 ++ [((p, k, r, m), xc)]) ∧ Below w4.heap.size w4 X) ⟨World.cell?_setCell_same' _ _ _ (by rw [n8a]; rfl), HM8.out.set n8a _, bSet hB8 (Nat.le_refl _) _⟩ ?_
          rintro X ⟨x0, hm, hl⟩
          have HX := Lib.hid (And.intro x0 (And.intro hm hl))
          have HS9 : Hid (∀ Y, Below X.heap.size X Y → (fun X => X.cell? ⟨w4.heap.size, 0, none⟩ = some (.map q') ∧ X.cell? ⟨w.heap.size + 1, 0, none⟩ = some v ∧ X.cell? ⟨w.heap.size, 0, none⟩ = some (.bool p) ∧ X.cell? ⟨w.heap.size, 1, none⟩ = some (.int .i64 k) ∧ X.cell? ⟨w.heap.size, 2, none⟩ = some (.int .i32 r) ∧ X.cell? ⟨w.heap.size, 3, none⟩ = some (.bool m) ∧ X.cell? ⟨w.heap.size, 4, none⟩ = some (.int .i64 xc)) Y) := Lib.hid (by
            intro Y hY
            exact ⟨(hY.cell (World.block_lt_of_cell? _ _ x0)).trans x0, HS4.out Y (belowStep hl hY)⟩)
          have HZ2 := Lib.hid hz2
          clear hz2
          have hDX := (Below.refl X.heap.size X).drew
          clear x0 hm hl HM8
          go_wp2_with fail
          go_region_held3 (fun X => X.cell? ⟨w4.heap.size, 0, none⟩ = some (.map q') ∧ X.cell? ⟨w.heap.size + 1, 0, none⟩ = some v ∧ X.cell? ⟨w.heap.size, 0, none⟩ = some (.bool p) ∧ X.cell? ⟨w.heap.size, 1, none⟩ = some (.int .i64 k) ∧ X.cell? ⟨w.heap.size, 2, none⟩ = some (.int .i32 r) ∧ X.cell? ⟨w.heap.size, 3, none⟩ = some (.bool m) ∧ X.cell? ⟨w.heap.size, 4, none⟩ = some (.int .i64 xc))
            (first | exact HS9.out _ (by assumption) | go_keep)
            (first
            | (go_at_call 9; refine (stroke_any _ _ _ _ _).mono ?_; rintro e wa ⟨rfl, hba⟩; have hBa := belowStep (A := X) (by assumption) hba; clear hba)
            | (go_at_call 10; refine (look_two (V4.out.2.1.later (belowStep HX.out.2.2 (by assumption))) (HX.out.2.1.later (by assumption)) (HTr.out.later (belowStep HB4.out (belowStep HX.out.2.2 (by assumption)))) (p, k, r, m) HW.out _ _ (by first | exact .inl ⟨rfl, HZ.out⟩ | exact .inr ⟨rfl, HZ2.out⟩)).mono ?_; rintro e wb ⟨rfl, hbb⟩; have hBb := belowStep (A := X) (by assumption) hbb; clear hbb)
            | (go_at_call 11; refine (reflook_any _ _ _ L1 _ HN.out (HRr.out.later (belowStep HB4.out (belowStep HX.out.2.2 (by assumption)))) (by omega) p k r m HW.out).mono ?_; rw [HZ.out]; rintro e wc ⟨rfl, hbc⟩; have hBc := belowStep (A := X) (by assumption) hbc; clear hbc)
            | (go_at_call 7; refine (awake_yes _ ((HTr.out.later (belowStep HB4.out (belowStep HX.out.2.2 (by assumption)))) 1 (by decide))).mono ?_; rintro e wd ⟨rfl, hbd⟩; have hBd := belowStep (A := X) (by assumption) hbd; clear hbd))
          all_goals
            have HF := Lib.hid (belowStep V4.out.2.2 (belowStep HX.out.2.2 hBd))
            clear hBd HS9
            go_wp2
            go_ret
            exact ⟨rfl, HF.out⟩
end Go.Proofs.YtpdjkphjpjbhgaaDoor

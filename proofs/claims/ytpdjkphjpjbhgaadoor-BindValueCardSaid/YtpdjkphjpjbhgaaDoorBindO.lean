/- bind: BindLooks, more than forty. -/
import Derived.Test.YtpdjkphjpjbhgaaDoorBindN
namespace Go.Proofs.YtpdjkphjpjbhgaaDoor
open Go.RowKit Go.Maps
set_option linter.unusedVariables false
set_option linter.unusedSimpArgs false


def measN : Value → Nat
  | .int _ z => z.toNat
  | _ => 0
theorem OwnRd.take {w : World} {A : Option Addr} {L : List (Stk × Int)} (h : OwnRd w A L) (n : Nat) : OwnRd w A (L.take n) := by
  intro j hj
  rw [List.length_take] at hj
  obtain ⟨b, o, s, c, e, h1, h2⟩ := h j (by omega)
  exact ⟨b, o, s, c, e, by rw [List.getElem?_take_of_lt (by omega)]; exact h1, h2⟩
set_option maxHeartbeats 8000000 in
theorem walk_BindLooks_many (w : World) (hT : TabW w) (A : Option Addr) (N c : Nat) (L : List (Stk × Int)) (hN : L.length = N) (hr : OwnRd w A L) (hNc : N ≤ c) (p : Bool) (k r : Int) (m : Bool) (hs : Wf (p, k, r, m)) (h40 : 40 < N) :
    Calls Tryd.prog 4 #[.slice A N c, stk p k r m] w (YesW w) := by
  subst hN
  have hd : decide ((L.length : Int) > 40) = true := by simp; omega
  have h0 : (0 : Int) ≤ 40 := by decide
  have h1 : (40 : Int) ≤ (c : Int) := by omega
  have hA : (if c = 0 then A else Option.map (fun x => x.add 0) A) = A := by
    rw [if_neg (by omega)]
    cases A with
    | none => rfl
    | some a => simp [Addr.add]
  obtain ⟨L1, hL1⟩ : ∃ L1, L.take 40 = L1 := ⟨_, rfl⟩
  have HR := Lib.hid (hL1 ▸ hr.take 40 : OwnRd w A L1)
  have HN := Lib.hid (show L1.length = 40 by rw [← hL1, List.length_take]; omega)
  have HT := Lib.hid hT
  have HW := Lib.hid hs
  clear hr hT hs hL1
  go_enter Tryd.func4, Tryd.ntmps4
  go_wp2_with fail
  have W1 : Hid (Vm w (w.heap.size + 1) (.map none) [] ((w.alloc (.cells #[.bool p, .int .i64 k, .int .i32 r, .bool m] 31)).alloc (.cells #[.map none] 34))) := Lib.hid (by
    have hb := blk_new (w.alloc (.cells #[.bool p, .int .i64 k, .int .i32 r, .bool m] 31)) #[.map none] 34
    rw [World.size_alloc] at hb
    exact ⟨hb, .inl ⟨rfl, rfl⟩, ((Below.refl _ _).alloc (Nat.le_refl _) _).alloc (by simp) _⟩)
  have W2 : Hid (Blk ((w.alloc (.cells #[.bool p, .int .i64 k, .int .i32 r, .bool m] 31)).alloc (.cells #[.map none] 34)) w.heap.size #[.bool p, .int .i64 k, .int .i32 r, .bool m]) := Lib.hid ((blk_new w _ _).alloc _)
  go_loopw [6] (fun i wr => ∃ n : Nat, n ≤ 40 ∧ i = .int .i64 n ∧ Hid (∃ v, Vm w (w.heap.size + 1) v (L1.take n) wr ∧ Blk wr w.heap.size #[.bool p, .int .i64 k, .int .i32 r, .bool m])) (fun i _ => 40 - measN i)
  case atStart => exact ⟨0, Nat.zero_le _, rfl, Lib.hid ⟨_, W1.out, W2.out⟩⟩
  case round =>
    obtain ⟨n, hn, rfl, HE⟩ := hrel
    obtain ⟨v, hV, hP⟩ := HE.out
    have HV := Lib.hid hV
    have HP := Lib.hid hP
    clear hV hP HE W1 W2
    by_cases hlt : n < 40
    · obtain ⟨b, o, s, cm, rfl, hLn, hws, hwc, a0, a1, a2, a3, a4⟩ := HR.out.later HV.out.2.2 n (by rw [HN.out]; exact hlt)
      obtain ⟨p', k', r', m'⟩ := s
      have HLn := Lib.hid (take_snoc hLn)
      have i0 : (0 : Int) ≤ (n : Int) := by omega
      have i1 : (n : Int) < (40 : Int) := by omega
      have hd1 := decide_eq_true i1
      have HS : Hid (∀ X, Below wr.heap.size wr X → (fun X => X.cell? ⟨w.heap.size + 1, 0, none⟩ = some v ∧ X.frozen? ⟨w.heap.size + 1, 0, none⟩ = false ∧ X.cell? ⟨b, o + n * 5, none⟩ = some (.bool p') ∧ X.cell? ⟨b, o + n * 5 + 1, none⟩ = some (.int .i64 k') ∧ X.cell? ⟨b, o + n * 5 + 2, none⟩ = some (.int .i32 r') ∧ X.cell? ⟨b, o + n * 5 + 3, none⟩ = some (.bool m') ∧ X.cell? ⟨b, o + n * 5 + 4, none⟩ = some (.int .i64 cm)) X) := Lib.hid (by
        intro X hX
        have st {a : Addr} {u : Value} (h : wr.cell? a = some u) : X.cell? a = some u := (hX.cell (World.block_lt_of_cell? _ _ h)).trans h
        have hB := HV.out.1.later hX HV.out.1.1
        exact ⟨by have := hB.2.1 0; simpa using this, hB.2.2 0, st a0, st a1, st a2, st a3, st a4⟩)
      obtain ⟨c0, _⟩ := HS.out wr (Below.refl _ _)
      clear hLn
      have hlen : (L1.take n).length ≤ 1000 := by have := HN.out; rw [List.length_take]; omega
      have hD := (Below.refl wr.heap.size wr).drew
      go_wp2
      go_region_with (first
        | (go_at_call 9; refine (stroke_any _ _ _ _ _).mono ?_; rintro e w3 ⟨rfl, hb3⟩; have hB3 := belowStep (A := wr) (by assumption) hb3; obtain ⟨u0, _, u1, u2, u3, u4, u5⟩ := HS.out w3 hB3; clear hb3)
        | (go_at_call 8; refine (with_any (HV.out.2.1.later (by assumption)) hlen (p', k', r', m') hws cm hwc).mono ?_; rintro e w4 ⟨v', rfl, hM4, hb4⟩; obtain ⟨q', rfl⟩ := hM4.shape; have hB4 := belowStep (A := wr) (by assumption) hb4; have HM4 := Lib.hid hM4; obtain ⟨y4, k4, j4⟩ := (show Blk w4 (w.heap.size + 1) _ from HV.out.1.later hB4 HV.out.1.1); clear hb4 hM4))
      all_goals
        have HF := Lib.hid (((HV.out.later hB4).store HM4.out (Nat.le_succ _)))
        have HG := Lib.hid ((HP.out.later hB4 HP.out.1).far (p := ⟨w.heap.size + 1, 0, none⟩) (by simp) (.map q'))
        clear hB4 HM4 HS
        go_wp2
        go_roundw
        case rel => exact ⟨n + 1, by omega, by go_num, Lib.hid ⟨_, by rw [HLn.out]; exact HF.out, HG.out⟩⟩
        case measure => simp [measN]; omega
    · have hne : n = 40 := by omega
      subst hne
      clear hlt
      have hfull : L1.take 40 = L1 := by have := HN.out; rw [List.take_of_length_le (by omega)]
      rw [hfull] at HV
      clear hfull
      have HRr := Lib.hid (HR.out.later HV.out.2.2)
      have HTr := Lib.hid (HT.out.later HV.out.2.2)
      go_wp2_with fail
      simp only [show ((40 : Nat) : Int) = 40 from rfl]
      rename World => wq
      go_loopw [7] (fun i wx => ∃ n : Nat, n ≤ 40 ∧ i = .int .i64 n ∧ Hid (Below wq.heap.size wq wx)) (fun i _ => 40 - measN i)
      case atStart => exact ⟨0, Nat.zero_le _, rfl, Lib.hid (Below.refl _ _)⟩
      case round =>
        obtain ⟨n, hn, rfl, HB⟩ := hrel
        by_cases hlt : n < 40
        · obtain ⟨b, o, s, cm, rfl, hLn, hws, hwc, a0, a1, a2, a3, a4⟩ := HRr.out n (by rw [HN.out]; exact hlt)
          obtain ⟨p', k', r', m'⟩ := s
          have i0 : (0 : Int) ≤ (n : Int) := by omega
          have i1 : (n : Int) < (40 : Int) := by omega
          have hd1 := decide_eq_true i1
          have HS : Hid (∀ X, Below wq.heap.size wq X → (fun X => X.cell? ⟨w.heap.size + 1, 0, none⟩ = some v ∧ X.cell? ⟨b, o + n * 5, none⟩ = some (.bool p') ∧ X.cell? ⟨b, o + n * 5 + 1, none⟩ = some (.int .i64 k') ∧ X.cell? ⟨b, o + n * 5 + 2, none⟩ = some (.int .i32 r') ∧ X.cell? ⟨b, o + n * 5 + 3, none⟩ = some (.bool m')) X) := Lib.hid (by
            intro X hX
            have st {a : Addr} {u : Value} (h : wq.cell? a = some u) : X.cell? a = some u := (hX.cell (World.block_lt_of_cell? _ _ h)).trans h
            have hB := HV.out.1.later hX HV.out.1.1
            exact ⟨by have := hB.2.1 0; simpa using this, st a0, st a1, st a2, st a3⟩)
          obtain ⟨z, hz⟩ : ∃ z, saidS L1 (p', k', r', m') = z := ⟨_, rfl⟩
          have HZ := Lib.hid hz
          clear a0 a1 a2 a3 a4 hLn hz
          have hD := HB.out.drew
          have hB0 := HB.out
          go_wp2
          go_region_held3 (fun X => X.cell? ⟨w.heap.size + 1, 0, none⟩ = some v ∧ X.cell? ⟨b, o + n * 5, none⟩ = some (.bool p') ∧ X.cell? ⟨b, o + n * 5 + 1, none⟩ = some (.int .i64 k') ∧ X.cell? ⟨b, o + n * 5 + 2, none⟩ = some (.int .i32 r') ∧ X.cell? ⟨b, o + n * 5 + 3, none⟩ = some (.bool m'))
            (first | exact HS.out _ (by assumption) | go_keep)
            (first
            | (go_at_call 9; refine (stroke_any _ _ _ _ _).mono ?_; rintro e w3 ⟨rfl, hb3⟩; have hB3 := belowStep (A := wq) (by assumption) hb3; clear hb3)
            | (go_at_call 10; refine (look_any (HV.out.2.1.later (by assumption)) (HTr.out.later (by assumption)) (p', k', r', m') hws).mono ?_; rw [HZ.out]; rintro e w4 ⟨rfl, hb4⟩; have hB4 := belowStep (A := wq) (by assumption) hb4; clear hb4)
            | (go_at_call 11; refine (reflook_any _ _ _ L1 _ HN.out (HRr.out.later (by assumption)) (by omega) p' k' r' m' hws).mono ?_; rw [HZ.out]; rintro e w5 ⟨rfl, hb5⟩; have hB5 := belowStep (A := wq) (by assumption) hb5; clear hb5))
          all_goals
            have HF := Lib.hid hB5
            clear hB5 HS
            go_wp2
            go_roundw
            case rel => exact ⟨n + 1, by omega, by go_num, HF⟩
            case measure => simp [measN]; omega
        · have hne : n = 40 := by omega
          subst hne
          clear hlt
          have HS : Hid (∀ X, Below wq.heap.size wq X → (fun X => X.cell? ⟨w.heap.size + 1, 0, none⟩ = some v ∧ X.cell? ⟨w.heap.size, 0, none⟩ = some (.bool p) ∧ X.cell? ⟨w.heap.size, 1, none⟩ = some (.int .i64 k) ∧ X.cell? ⟨w.heap.size, 2, none⟩ = some (.int .i32 r) ∧ X.cell? ⟨w.heap.size, 3, none⟩ = some (.bool m)) X) := Lib.hid (by
            intro X hX
            have hB := HV.out.1.later hX HV.out.1.1
            have hP := HP.out.later hX HP.out.1
            exact ⟨by have := hB.2.1 0; simpa using this, by have := hP.2.1 0; simpa using this, by have := hP.2.1 1; simpa using this, by have := hP.2.1 2; simpa using this, by have := hP.2.1 3; simpa using this⟩)
          obtain ⟨z, hz⟩ : ∃ z, saidS L1 (p, k, r, m) = z := ⟨_, rfl⟩
          have HZ := Lib.hid hz
          clear hz
          have hD := HB.out.drew
          have hB0 := HB.out
          go_wp2_with fail
          go_region_held3 (fun X => X.cell? ⟨w.heap.size + 1, 0, none⟩ = some v ∧ X.cell? ⟨w.heap.size, 0, none⟩ = some (.bool p) ∧ X.cell? ⟨w.heap.size, 1, none⟩ = some (.int .i64 k) ∧ X.cell? ⟨w.heap.size, 2, none⟩ = some (.int .i32 r) ∧ X.cell? ⟨w.heap.size, 3, none⟩ = some (.bool m))
            (first | exact HS.out _ (by assumption) | go_keep)
            (first
            | (go_at_call 9; refine (stroke_any _ _ _ _ _).mono ?_; rintro e w3 ⟨rfl, hb3⟩; have hB3 := belowStep (A := wq) (by assumption) hb3; clear hb3)
            | (go_at_call 10; refine (look_any (HV.out.2.1.later (by assumption)) (HTr.out.later (by assumption)) (p, k, r, m) HW.out).mono ?_; rw [HZ.out]; rintro e w4 ⟨rfl, hb4⟩; have hB4 := belowStep (A := wq) (by assumption) hb4; clear hb4)
            | (go_at_call 11; refine (reflook_any _ _ _ L1 _ HN.out (HRr.out.later (by assumption)) (by omega) p k r m HW.out).mono ?_; rw [HZ.out]; rintro e w5 ⟨rfl, hb5⟩; have hB5 := belowStep (A := wq) (by assumption) hb5; clear hb5)
            | (go_at_call 7; refine (awake_yes _ ((HTr.out.later (by assumption)) 1 (by decide))).mono ?_; rintro e w7 ⟨rfl, hb7⟩; have hB7 := belowStep (A := wq) (by assumption) hb7; clear hb7))
          all_goals
            have HF := Lib.hid hB7
            clear hB7 HS
            go_wp2
            go_ret
            exact ⟨rfl, HV.out.2.2.trans (HF.out.mono HV.out.2.2.size)⟩
end Go.Proofs.YtpdjkphjpjbhgaaDoor

/- loop: All. -/
import Derived.Test.YtcoffbgpdbhjfaaLoopF
import Derived.WalkMore
namespace Go.Proofs.Ytcoffbgpdbhjfaa
open Go.Conc Go.RowKit
set_option linter.unusedVariables false
set_option linter.unusedSimpArgs false

abbrev Que := List Evt × List Evt × List Evt
/-- All that is told, so many at most; and what waits on. -/
def takeQ : Nat → Que → List Evt × Que
  | 0, q => ([], q)
  | n + 1, q => if (nextQ q).2.1 then ((nextQ q).1 :: (takeQ n (nextQ q).2.2).1, (takeQ n (nextQ q).2.2).2) else ([], q)
def tot (q : Que) : Nat := q.1.length + q.2.1.length + q.2.2.length

theorem nextQ_yes {q : Que} (h : (nextQ q).2.1 = true) : tot (nextQ q).2.2 + 1 = tot q := by
  obtain ⟨qb, qt, qs⟩ := q
  rcases qs with _ | ⟨x, qs⟩
  · rcases qb with _ | ⟨x, qb⟩
    · rcases qt with _ | ⟨x, qt⟩
      · simp [nextQ] at h
      · simp [nextQ, tot]
    · simp [nextQ, tot]; omega
  · simp [nextQ, tot]; omega
theorem nextQ_no {q : Que} (h : (nextQ q).2.1 = false) : nextQ q = (zeroE, false, q) ∧ tot q = 0 := by
  obtain ⟨qb, qt, qs⟩ := q
  rcases qs with _ | ⟨x, qs⟩
  · rcases qb with _ | ⟨x, qb⟩
    · rcases qt with _ | ⟨x, qt⟩
      · exact ⟨rfl, rfl⟩
      · simp [nextQ] at h
    · simp [nextQ] at h
  · simp [nextQ] at h
theorem takeQ_no {q : Que} (h : (nextQ q).2.1 = false) : ∀ n, takeQ n q = ([], q)
  | 0 => rfl
  | n + 1 => by simp [takeQ, h]
theorem takeQ_yes {q : Que} (h : (nextQ q).2.1 = true) (n : Nat) : takeQ (n + 1) q = ((nextQ q).1 :: (takeQ n (nextQ q).2.2).1, (takeQ n (nextQ q).2.2).2) := by simp [takeQ, h]

theorem own_chg {T : Nat → Prop} {w w' : World} {base n size : Nat} {e : TypeId} {v : Value} {xs : List Value} (h : w.ownsRow base e size v n xs) (k : Chg T w w') (hT : ∀ g, base ≤ g → ¬ T g) : w'.ownsRow base e size v n xs := by
  refine ⟨h.1, ?_⟩
  rcases h.2 with h0 | ⟨g, cap, cur, hv, hb, hh, hr⟩
  · exact .inl h0
  · refine .inr ⟨g, cap, cur, hv, hb, ?_, hr⟩
    have hlt := (h.lt g (by rw [hv]; rfl)).2
    rw [k.block g hlt (hT g hb)]
    exact hh

def lenV : Value → Nat
  | .slice _ n _ => n
  | _ => 0

theorem eltE : Elt Try.prog 30 23 4 32 := elt_of Try.underlying30 (z := .agg #[.int .i64 0, .int .u8 0, .int .i64 0, .int .i64 0]) (by kernel_rfl) rfl (by decide)

/-- Behind All. -/
def AllIs (w : World) (bb cb ct cs room : Nat) (L : List Evt) (q : Que) (e : Ending) (w' : World) : Prop :=
  ∃ A c, e = .returned (.slice A L.length c) ∧ EvRd w' A L ∧ (∀ g o, A = some ⟨g, o, none⟩ → w.heap.size ≤ g) ∧ Bx w' bb cb ct cs room q.1 q.2.1 q.2.2 ∧ Chg (Cs cb ct cs) w w'

theorem all_nil (most : Int) (hm : 0 < most) (w : World) : Calls Try.prog 9 #[.pointer none, .int .i64 most] w fun e w' => e = .returned (.slice none 0 0) ∧ Below w.heap.size w w' := by
  have d1 : decide ((0 : Int) < most) = true := by simp; omega
  go_enter Try.func9, Try.ntmps9
  go_wp2
  go_step3
  go_wp2
  go_step3
  go_wp2
  refine wp_loop_rounds 1 ?_
  rw [rounds_succ]
  go_wp2_with fail
  (with_reducible refine (next_nil w).mono ?_)
  rintro e w1 ⟨rfl, hb⟩
  have H := Lib.hid hb
  clear hb
  go_wp2
  try rw [Exit.noGoto_ret]
  go_ret
  exact ⟨rfl, H.out.alloc H.out.size _⟩

set_option maxHeartbeats 4000000 in
set_option maxRecDepth 100000 in
theorem all_any {w : World} {bb cb ct cs room : Nat} {q : Que} (h : Bx w bb cb ct cs room q.1 q.2.1 q.2.2) (most : Int) (hT : tot q ≤ 1000000) :
    Calls Try.prog 9 #[ptr bb, .int .i64 most] w (AllIs w bb cb ct cs room (takeQ most.toNat q).1 (takeQ most.toNat q).2) := by
  obtain ⟨m, hm⟩ : ∃ m, most.toNat = m := ⟨_, rfl⟩
  rw [hm]
  have HM := Lib.hid hm
  obtain ⟨T, hTe⟩ : ∃ T, tot q = T := ⟨_, rfl⟩
  rw [hTe] at hT
  have HT := Lib.hid hTe
  have H := Lib.hid h
  clear h hm hTe
  go_enter Try.func9, Try.ntmps9
  go_wp2
  go_step3
  go_wp2
  go_step3
  go_wp2
  go_loopw [5] (fun v wr => ∃ A n c, v = .slice A n c ∧ n ≤ T ∧ Hid (∃ (O : List Evt) (p : Que), O.length = n ∧ wr.ownsRow w.heap.size 23 4 (.slice A n c) n (flat O) ∧ Bx wr bb cb ct cs room p.1 p.2.1 p.2.2 ∧ Chg (Cs cb ct cs) w wr ∧ n + tot p = T ∧ (takeQ m q).1 = O ++ (takeQ (m - n) p).1 ∧ (takeQ m q).2 = (takeQ (m - n) p).2)) (fun v _ => T - lenV v)
  case atStart => exact ⟨none, 0, 0, rfl, Nat.zero_le _, [], q, rfl, World.ownsRow_nil _ _ _ _, H.out, Chg.refl _ _, by rw [HT.out]; omega, rfl, rfl⟩
  case round =>
    obtain ⟨A1, n, c1, rfl, hn, HR⟩ := hrel
    obtain ⟨O, p, hO, hown, hbx, hch, htot, hq1, hq2⟩ := HR.out
    have R := Lib.hid (And.intro hO (And.intro hown (And.intro hbx (And.intro hch (And.intro htot (And.intro hq1 hq2))))))
    clear hO hown hbx hch hq1 hq2 HR htot
    by_cases hlt : (n : Int) < most
    · have d1 : decide ((n : Int) < most) = true := decide_eq_true hlt
      have C1 := Lib.hid (next_any R.out.2.2.1)
      by_cases hok : (nextQ p).2.1 = true
      · have e0 : nextQ (p.1, p.2.1, p.2.2) = nextQ p := rfl
        rw [e0, hok] at C1
        obtain ⟨x, hx⟩ : ∃ x, (nextQ p).1 = x := ⟨_, rfl⟩
        obtain ⟨p', hp'⟩ : ∃ p', (nextQ p).2.2 = p' := ⟨_, rfl⟩
        rw [hx, hp'] at C1
        have HX := Lib.hid (And.intro hok (And.intro hx hp'))
        clear e0 hok hx hp'
        go_wp2_with fail
        (with_reducible refine C1.out.mono ?_)
        rintro e w1 ⟨rfl, hb1, hc1⟩
        have hlts := H.out.lt
        have how := own_chg R.out.2.1 hc1 (fun g hg hC => by rcases hC with h | h | h <;> omega)
        have H1 := Lib.hid (And.intro hb1 (And.intro (R.out.2.2.2.1.trans hc1) how))
        clear hb1 hc1 C1 how hlts
        have hn1 : n + 1 ≤ T := by
          have h1 := nextQ_yes HX.out.1
          rw [HX.out.2.2] at h1
          have h2 := R.out.2.2.2.2.1
          omega
        have hA1 : n + 1 ≤ maxLen := by unfold maxLen; omega
        have hA2 : (n + 1) * 32 ≤ 140737488355328 := by omega
        have hz : w.heap.size ≤ w1.heap.size := H1.out.2.1.size
        go_wp2_with (at_builtin; refine wpList_push eltE (own_later H1.out.2.2 ((Below.refl _ _).alloc (Nat.le_refl _) (.cells x.cells 23))) (by simp; omega) rfl rfl rfl rfl (by simp) rfl rfl hA1 hA2 ?_; intro A3 c3 w3 hp; have HP := Lib.hid hp; clear hp)
        go_roundw
        case rel =>
          have hlts := H.out.lt
          have hown := HP.out.own
          have hk := Chg.of_grown HP.out.grown
          have hown0 : ∀ g, some g = (Value.slice A1 n c1).ownBlock → w.heap.size ≤ g := fun g hg => (R.out.2.1.lt g hg.symm).1
          have hmn : m - n = (m - (n + 1)) + 1 := by have := HM.out; omega
          have hy := takeQ_yes HX.out.1 (m - (n + 1))
          rw [HX.out.2.1, HX.out.2.2] at hy
          have h1 := nextQ_yes HX.out.1
          rw [HX.out.2.2] at h1
          refine ⟨A3, n + 1, c3, rfl, hn1, O ++ [x], p', by rw [List.length_append, R.out.1]; rfl, by rw [flat_push]; exact hown,
            (H1.out.1.later ((Below.refl _ _).alloc (Nat.le_refl _) _)).chg hk (fun e => by have := hown0 _ e; omega) (fun e => by have := hown0 _ e; omega) (fun e => by have := hown0 _ e; omega) (fun e => by have := hown0 _ e; omega),
            (H1.out.2.1.alloc _).next hk (fun j hj e => by have := hown0 _ e; omega), by have := R.out.2.2.2.2.1; omega, ?_, ?_⟩
          · rw [R.out.2.2.2.2.2.1, hmn, hy]; simp
          · rw [R.out.2.2.2.2.2.2, hmn, hy]
        case measure => simp only [lenV]; omega
      · have hno : (nextQ p).2.1 = false := by simpa using hok
        have e1 := nextQ_no hno
        have e0 : nextQ (p.1, p.2.1, p.2.2) = nextQ p := rfl
        rw [e0, e1.1] at C1
        have HN := Lib.hid hno
        clear e0 e1 hno hok
        go_wp2_with fail
        (with_reducible refine C1.out.mono ?_)
        rintro e w1 ⟨rfl, hb1, hc1⟩
        have hlts := H.out.lt
        have how := own_chg R.out.2.1 hc1 (fun g hg hC => by rcases hC with h | h | h <;> omega)
        have H1 := Lib.hid (And.intro hb1 (And.intro (R.out.2.2.2.1.trans hc1) how))
        clear hb1 hc1 C1 how hlts
        go_wp2
        try rw [Exit.noGoto_ret]
        go_ret
        have hz := takeQ_no HN.out (m - n)
        have hO : (takeQ m q).1 = O := by rw [R.out.2.2.2.2.2.1, hz]; simp
        have hQ : (takeQ m q).2 = p := by rw [R.out.2.2.2.2.2.2, hz]
        rw [hO, hQ]
        have ho4 := own_later H1.out.2.2 ((Below.refl _ _).alloc (Nat.le_refl _) (.cells #[.int .i64 0, .int .u8 0, .int .i64 0, .int .i64 0] 23))
        refine ⟨A1, c1, by rw [R.out.1]; rfl, ev_rd ho4 R.out.1, fun g o e => (ho4.lt g (by rw [e]; rfl)).1, H1.out.1.later ((Below.refl _ _).alloc (Nat.le_refl _) _), H1.out.2.1.alloc _⟩
    · have d1 : decide ((n : Int) < most) = false := decide_eq_false hlt
      have hz : m - n = 0 := by have := HM.out; omega
      have HZ := Lib.hid hz
      clear hz
      go_wp2
      try rw [Exit.noGoto_ret]
      go_ret
      have hO : (takeQ m q).1 = O := by rw [R.out.2.2.2.2.2.1, HZ.out]; simp [takeQ]
      have hQ : (takeQ m q).2 = p := by rw [R.out.2.2.2.2.2.2, HZ.out]; rfl
      rw [hO, hQ]
      exact ⟨A1, c1, by rw [R.out.1]; rfl, ev_rd R.out.2.1 R.out.1, fun g o e => (R.out.2.1.lt g (by rw [e]; rfl)).1, R.out.2.2.1, R.out.2.2.2.1⟩
end Go.Proofs.Ytcoffbgpdbhjfaa

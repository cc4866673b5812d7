/- loop: LoopAll's walk. -/
import Derived.Test.YtcoffbgpdbhjfaaLoopY
import Derived.Deep.CutBlock
namespace Go.Proofs.Ytcoffbgpdbhjfaa
open Go.Conc Go.RowKit
set_option linter.unusedVariables false
set_option linter.unusedSimpArgs false

theorem Want.own1 {w0 w w1 : World} {bb cb ct cs rb m F nw cw n c : Nat} {q0 q' : Que} {Aw A : Option Addr} {O L : List Evt} (h : Want w0 bb cb ct cs rb m F q0 Aw nw cw O A n c L w) (hr : RefDone w w0.heap.size rb 200 A n c L q' w1) :
    w1.ownsRow w0.heap.size 23 4 (.slice Aw nw cw) nw (flat O) ∧ w0.heap.size ≤ w1.heap.size := by
  obtain ⟨A', n', c', L', h1, hk, hl, hf, hc⟩ := h.half.ref hr
  exact ⟨own_chg' h.own hc (fun g hg hR => (h.apart g hg).2.2.2.2 hR), h1.size⟩


/-- While the rest is told once more. -/
structure Left (w0 : World) (bb cb ct cs rb : Nat) (Ar : Option Addr) (R : List Evt) (q2 : Que) (F i : Nat) (A : Option Addr) (n c : Nat) (L : List Evt) (w : World) : Prop where
  half : Half w0 bb cb ct cs rb 200 A n c L q2 w
  few : L.length ≤ F + i
  rd : EvRd w Ar R
  off : ∀ g o, Ar = some ⟨g, o, none⟩ → 0 < R.length → ¬ Rt rb A n c g ∧ g < w.heap.size
  rest : takeQ (1000 - i) (kinds L) = (R.drop i, q2)

theorem Left.later {w0 w w1 : World} {bb cb ct cs rb F i n c : Nat} {q2 : Que} {Ar A : Option Addr} {R L : List Evt} (h : Left w0 bb cb ct cs rb Ar R q2 F i A n c L w) (hb : Below w.heap.size w w1) : Left w0 bb cb ct cs rb Ar R q2 F i A n c L w1 :=
  ⟨h.half.later hb, h.few, h.rd.later hb, fun g o e h0 => ⟨(h.off g o e h0).1, Nat.lt_of_lt_of_le (h.off g o e h0).2 hb.size⟩, h.rest⟩

theorem takeQ_cons {n : Nat} {q q2 : Que} {x : Evt} {R : List Evt} (h : takeQ n q = (x :: R, q2)) : (nextQ q).2.1 = true ∧ (nextQ q).1 = x ∧ takeQ (n - 1) (nextQ q).2.2 = (R, q2) ∧ 0 < n := by
  cases n with
  | zero => simp [takeQ] at h
  | succ n =>
    by_cases hok : (nextQ q).2.1 = true
    · rw [takeQ_yes hok] at h
      simp only [Prod.mk.injEq, List.cons.injEq] at h
      exact ⟨hok, h.1.1, by rw [Nat.add_sub_cancel]; exact Prod.ext h.1.2 h.2, by omega⟩
    · rw [takeQ_no (by simpa using hok)] at h
      simp at h
theorem takeQ_nil {n : Nat} {q q2 : Que} (h : takeQ n q = ([], q2)) (hn : 0 < n) : (nextQ q).2.1 = false ∧ q2 = q ∧ tot q = 0 := by
  cases n with
  | zero => omega
  | succ n =>
    by_cases hok : (nextQ q).2.1 = true
    · rw [takeQ_yes hok] at h; simp at h
    · have hno : (nextQ q).2.1 = false := by simpa using hok
      rw [takeQ_no hno] at h
      simp only [Prod.mk.injEq, true_and] at h
      exact ⟨hno, h.symm, (nextQ_no hno).2⟩

theorem Left.yes {w0 w : World} {bb cb ct cs rb F i n c : Nat} {q2 : Que} {Ar A : Option Addr} {R L : List Evt} (h : Left w0 bb cb ct cs rb Ar R q2 F i A n c L w) (hi : i < R.length) : (nextQ (kinds L)).2.1 = true ∧ (nextQ (kinds L)).1 = R.getD i zeroE := by
  have hr := h.rest
  rw [List.drop_eq_getElem_cons hi] at hr
  obtain ⟨h1, h2, _, _⟩ := takeQ_cons hr
  exact ⟨h1, by rw [h2]; simp [List.getD, hi]⟩

theorem Left.next {w0 w w1 : World} {bb cb ct cs rb F i n c : Nat} {q2 : Que} {Ar A : Option Addr} {R L : List Evt} (h : Left w0 bb cb ct cs rb Ar R q2 F i A n c L w) (hi : i < R.length) (hr : RefDone w w0.heap.size rb 200 A n c L (nextQ (kinds L)).2.2 w1) :
    ∃ A' n' c' L', Left w0 bb cb ct cs rb Ar R q2 F (i + 1) A' n' c' L' w1 := by
  obtain ⟨A', n', c', L', h1, hk, hl, hf, hc⟩ := h.half.ref hr
  have hr := h.rest
  rw [List.drop_eq_getElem_cons hi] at hr
  obtain ⟨_, _, h3, h4⟩ := takeQ_cons hr
  refine ⟨A', n', c', L', h1, by have := h.few; omega, h.rd.chg hc (fun g o e => (h.off g o e (by omega)).1), fun g o e h0 => ⟨fun hR => ?_, Nat.lt_of_lt_of_le (h.off g o e h0).2 hc.size⟩, ?_⟩
  · rcases hf g hR with hR | hR
    · exact (h.off g o e h0).1 hR
    · have := (h.off g o e h0).2; omega
  · rw [hk, ← h3, Nat.sub_sub]

theorem Left.done {w0 w : World} {bb cb ct cs rb F n c : Nat} {q2 : Que} {Ar A : Option Addr} {R L : List Evt} (h : Left w0 bb cb ct cs rb Ar R q2 F R.length A n c L w) (hi : R.length < 1000) : (nextQ (kinds L)).2.1 = false ∧ q2 = kinds L ∧ tot (kinds L) = 0 := by
  have hr := h.rest
  rw [List.drop_length] at hr
  exact takeQ_nil hr (by omega)

/-- The rest begins to be told. -/
theorem Left.start {w0 w w1 : World} {bb cb ct cs rb F n c : Nat} {A Ar : Option Addr} {L : List Evt} (h : Both w0 bb cb ct cs rb 200 A n c L w) (hF : L.length ≤ F) (hr : EvRd w1 Ar (takeQ 1000 (kinds L)).1) (hA : ∀ g o, Ar = some ⟨g, o, none⟩ → w.heap.size ≤ g)
    (hb : Bx w1 bb cb ct cs 200 (takeQ 1000 (kinds L)).2.1 (takeQ 1000 (kinds L)).2.2.1 (takeQ 1000 (kinds L)).2.2.2) (hc : Chg (Cs cb ct cs) w w1) : Left w0 bb cb ct cs rb Ar (takeQ 1000 (kinds L)).1 (takeQ 1000 (kinds L)).2 F 0 A n c L w1 := by
  refine ⟨h.split.prog (q' := (takeQ 1000 (kinds L)).2) hb hc, by omega, hr, fun g o e h0 => ⟨fun hR => ?_, ?_⟩, by simp⟩
  · have h1 := (h.split.rt_lt g hR).2
    have h2 := hA g o e
    omega
  · obtain ⟨b, o', e', hl, _⟩ := hr 0 h0
    rw [e] at e'
    injection e' with e'
    injection e' with e1 e2
    omega

set_option maxHeartbeats 4000000 in
set_option maxRecDepth 100000 in
theorem walk_LoopAll (w : World) (Ad : Option Addr) (nd cd : Nat) (D : List Evt) (most : Int) (hD : D.length = nd) (hrd : EvRd w Ad D) (hnd : nd ≤ cd) (hcd : cd ≤ maxLen) :
    Calls Try.prog 5 #[.slice Ad nd cd, .int .i64 most] w (YesW w) := by
  have HD := Lib.hid hrd
  unfold maxLen at hcd
  subst hD
  clear hrd
  go_enter Try.func5, Try.ntmps5
  go_wp2_with fail
  have C0 := Lib.hid (new_is 200 w (by decide) (by decide))
  simp only [show ((200 : Nat) : Int) = 200 from rfl] at C0
  (with_reducible refine C0.out.mono ?_)
  rintro e w1 ⟨bb, cb, ct, cs, rfl, hbx, hl, n1, n2, n3, n4⟩
  have H0 := Lib.hid (show Own w bb cb ct cs 200 ([], [], []) w1 from ⟨hbx, hl, n1, n2, n3, n4⟩)
  clear C0 hbx hl n1 n2 n3 n4
  go_upto_block 0 with fail
  have H1 := Lib.hid (both_new H0.out 200)
  go_cut [5] (fun s5 wx => s5 = ptr bb ∧ Hid (∃ A n c L, Both w bb cb ct cs w1.heap.size 200 A n c L wx ∧ L.length ≤ 100))
  case first =>
   go_wp2_with fail
   go_loopw [7] (fun i wr => ∃ k : Nat, k ≤ D.length ∧ k ≤ 100 ∧ i = .int .i64 k ∧ Hid (∃ A n c L, Both w bb cb ct cs w1.heap.size 200 A n c L wr ∧ L.length ≤ k)) (fun i _ => D.length - (intOf i).toNat)
   case atStart => exact ⟨0, Nat.zero_le _, Nat.zero_le _, rfl, ⟨none, 0, 0, [], H1.out, Nat.le_refl _⟩⟩
   case round =>
     obtain ⟨k, hk, hk100, rfl, HR⟩ := hrel
     obtain ⟨A, n, c, L, HB, hL⟩ := HR.out
     have V := Lib.hid (And.intro HB hL)
     have hnL : n ≤ 1000000 := by rw [HB.len]; omega
     clear HB hL HR H0 H1
     by_cases hlt : k < D.length ∧ k < 100
     · obtain ⟨hkn, hk2⟩ := hlt
       obtain ⟨b, o, rfl, hbl, a0, a1, a2, a3⟩ := HD.out k hkn
       obtain ⟨x, hx⟩ : ∃ x, D.getD k zeroE = x := ⟨_, rfl⟩
       rw [hx] at a0 a1 a2 a3
       have hbel := V.out.1.own.below
       have c0 := (hbel.cell (p := ⟨b, o + k * 4, none⟩) hbl).trans a0
       have c1 := (hbel.cell (p := ⟨b, o + k * 4 + 1, none⟩) hbl).trans a1
       have c2 := (hbel.cell (p := ⟨b, o + k * 4 + 2, none⟩) hbl).trans a2
       have c3 := (hbel.cell (p := ⟨b, o + k * 4 + 3, none⟩) hbl).trans a3
       have hd : decide ((k : Int) < 100) = true := by simp; omega
       have HA := Lib.hid (And.intro hbl (And.intro a0 (And.intro a1 (And.intro a2 a3))))
       clear hbel hx a0 a1 a2 a3
       obtain ⟨N, hN⟩ : ∃ N, putQ 200 (kinds L) x = N := ⟨_, rfl⟩
       obtain ⟨ok, p⟩ := N
       have HN := Lib.hid hN
       have C1 := put_any V.out.1.own.bx x
       rw [hN] at C1
       have C1 := Lib.hid C1
       clear hN
       go_wp2_with fail
       (with_reducible refine C1.out.mono ?_)
       rintro e w3 ⟨rfl, hb3, hc3⟩
       have V3 := Lib.hid (V.out.1.half (q := p) hb3 hc3)
       have d0 := (V3.out.own.below.cell (p := ⟨b, o + k * 4, none⟩) HA.out.1).trans HA.out.2.1
       have d1 := (V3.out.own.below.cell (p := ⟨b, o + k * 4 + 1, none⟩) HA.out.1).trans HA.out.2.2.1
       have d2 := (V3.out.own.below.cell (p := ⟨b, o + k * 4 + 2, none⟩) HA.out.1).trans HA.out.2.2.2.1
       have d3 := (V3.out.own.below.cell (p := ⟨b, o + k * 4 + 3, none⟩) HA.out.1).trans HA.out.2.2.2.2
       clear hb3 hc3 C1 c0 c1 c2 c3
       go_wp2_with fail
       have C2 := refput_any V3.out.rb_ hnL V3.out.size x
       rw [HN.out] at C2
       have C2 := Lib.hid C2
       (with_reducible refine C2.out.mono ?_)
       rintro e w4 ⟨rfl, hr4⟩
       obtain ⟨A4, n4, c4, L4, hB4, hl4⟩ := V3.out.both hr4
       have V4 := Lib.hid (And.intro hB4 (show L4.length ≤ k + 1 by have := V.out.2; omega))
       clear hB4 hl4 hr4 C2 d0 d1 d2 d3
       go_wp2
       go_roundw
       case rel => exact ⟨k + 1, by omega, by omega, by go_num, ⟨_, _, _, _, V4.out.1, V4.out.2⟩⟩
       case measure => simp [intOf]; omega
     · have hor : k = D.length ∨ (k < D.length ∧ k = 100) := by omega
       clear hlt
       have V0 := Lib.hid (And.intro V.out.1 (show L.length ≤ 100 by have := V.out.2; omega))
       rcases hor with rfl | ⟨hkn, rfl⟩
       · go_wp2
         go_meet
         exact ⟨rfl, ⟨_, _, _, _, V0.out.1, V0.out.2⟩⟩
       · go_wp2
         go_meet
         exact ⟨rfl, ⟨_, _, _, _, V0.out.1, V0.out.2⟩⟩
  case rest =>
    obtain ⟨rfl, HC⟩ := hcut
    obtain ⟨A, n, c, L, hB, hL⟩ := HC.out
    obtain ⟨m, hm⟩ : ∃ m, most.toNat = m := ⟨_, rfl⟩
    have HM := Lib.hid hm
    obtain ⟨T, hT⟩ : ∃ T, tot (kinds L) = T := ⟨_, rfl⟩
    have hT3 : T ≤ 300 := by rw [← hT]; exact Nat.le_trans (tot_kinds L) (by omega)
    have HT := Lib.hid hT
    have V := Lib.hid (And.intro hB hL)
    clear hB hL HC H0 H1 HD hm hT
    go_upto_block 2 with fail
    go_cut [8] (fun v wx => ∃ Aw nw cw, v = .slice Aw nw cw ∧ Hid (∃ O A' n' c' L', Want w bb cb ct cs w1.heap.size m 101 (kinds L) Aw nw cw O A' n' c' L' wx ∧ (takeQ m (kinds L)).1 = O ∧ (takeQ m (kinds L)).2 = kinds L'))
    case first =>
      go_wp2_with fail
      go_loopw [8] (fun v wx => ∃ Aw nw cw, v = .slice Aw nw cw ∧ nw ≤ T ∧ Hid (∃ O A' n' c' L', Want w bb cb ct cs w1.heap.size m 100 (kinds L) Aw nw cw O A' n' c' L' wx)) (fun v _ => T - lenV v)
      case atStart => exact ⟨none, 0, 0, rfl, Nat.zero_le _, ⟨[], _, _, _, L, ⟨rfl, World.ownsRow_nil _ _ _ _, V.out.1.split, by have := V.out.2; omega, (fun g hg => by cases hg), by omega, rfl, rfl⟩⟩⟩
      case round =>
        obtain ⟨Aw, nw, cw, rfl, hnw, HR⟩ := hrel
        obtain ⟨O, A', n', c', L', hW⟩ := HR.out
        have W := Lib.hid hW
        have hn' : n' ≤ 1000000 := by rw [hW.half.len]; have := hW.few; omega
        clear HR hW
        by_cases hlt : (nw : Int) < most
        · have d1 : decide ((nw : Int) < most) = true := decide_eq_true hlt
          have hltm : nw < m := by have := HM.out; omega
          have C1 := Lib.hid (refnext_any W.out.half.rb_ hn' W.out.half.size)
          by_cases hok : (nextQ (kinds L')).2.1 = true
          · obtain ⟨x, hx⟩ : ∃ x, (nextQ (kinds L')).1 = x := ⟨_, rfl⟩
            rw [hok, hx] at C1
            have HX := Lib.hid (And.intro hok hx)
            clear hok hx
            go_wp2_with fail
            (with_reducible refine C1.out.mono ?_)
            rintro e w3 ⟨rfl, hr3⟩
            have HR3 := Lib.hid (And.intro hr3 (W.out.own1 hr3))
            have hn1 : nw + 1 ≤ T := by
              have h1 := nextQ_yes HX.out.1
              have h2 := W.out.tot_
              have h3 := HT.out
              omega
            have hA1 : nw + 1 ≤ maxLen := by unfold maxLen; omega
            have hA2 : (nw + 1) * 32 ≤ 140737488355328 := by omega
            have hz := HR3.out.2.2
            clear hr3 C1
            go_wp2_with (at_builtin; refine wpList_push eltE (own_later HR3.out.2.1 ((Below.refl _ _).alloc (Nat.le_refl _) (.cells x.cells 23))) (by simp; omega) rfl rfl rfl rfl (by simp) rfl rfl hA1 hA2 ?_; intro A5 c5 w5 hp; have HP := Lib.hid (W.out.push (x := x) hltm HX.out.1 HX.out.2 HR3.out.1 hp); clear hp)
            go_roundw
            case rel =>
              obtain ⟨A6, n6, c6, L6, h6⟩ := HP.out
              exact ⟨A5, nw + 1, c5, rfl, hn1, ⟨_, _, _, _, _, h6⟩⟩
            case measure => simp only [lenV]; omega
          · have hno : (nextQ (kinds L')).2.1 = false := by simpa using hok
            have e1 := (nextQ_no hno).1
            rw [e1] at C1
            have HN := Lib.hid hno
            clear e1 hno hok
            go_wp2_with fail
            (with_reducible refine C1.out.mono ?_)
            rintro e w3 ⟨rfl, hr3⟩
            have HR3 := Lib.hid (W.out.stay HN.out hr3)
            clear hr3 C1
            go_wp2
            go_meet
            obtain ⟨A6, n6, c6, L6, h6, hk6⟩ := HR3.out
            have hz := takeQ_no HN.out (m - nw)
            refine ⟨Aw, nw, cw, rfl, ⟨O, A6, n6, c6, L6, h6.later ((Below.refl _ _).alloc (Nat.le_refl _) _), ?_, ?_⟩⟩
            · rw [W.out.rest1, hz]; simp
            · rw [W.out.rest2, hz, hk6]
        · have d1 : decide ((nw : Int) < most) = false := decide_eq_false hlt
          have hz : m - nw = 0 := by have := HM.out; omega
          have HZ := Lib.hid hz
          clear hz
          go_wp2
          go_meet
          refine ⟨Aw, nw, cw, rfl, ⟨O, A', n', c', L', W.out.more, ?_, ?_⟩⟩
          · rw [W.out.rest1, HZ.out]; simp [takeQ]
          · rw [W.out.rest2, HZ.out]; rfl
    case rest =>
      obtain ⟨Aw, nw, cw, rfl, HC⟩ := hcut
      obtain ⟨O, A', n', c', L', hW, hO, hQ⟩ := HC.out
      have W := Lib.hid (And.intro hW (And.intro hO hQ))
      have hlO : O.length = nw := hW.len
      have hnw : nw ≤ T := by rw [← hlO, ← hO, ← HT.out]; exact takeQ_len _ _
      subst hlO
      have hfL : L'.length ≤ 500 := by have := hW.few; omega
      have hq1 : tot (kinds L') ≤ 300 := by have := hW.tot_; have := HT.out; omega
      clear HC hW hO hQ
      go_wp2_with fail
      have C1 := Lib.hid (all_any W.out.1.half.own.bx most (by have := HT.out; omega))
      rw [HM.out, W.out.2.1, W.out.2.2] at C1
      (with_reducible refine C1.out.mono ?_)
      rintro e w3 ⟨A3, c3, rfl, hr3, ha3, hbx3, hc3⟩
      rw [← W.out.2.2] at hbx3
      have B3 := Lib.hid (And.intro (W.out.1.told W.out.2.2 hbx3 hc3) hr3)
      clear hr3 ha3 hbx3 hc3 C1
      go_wp2_with fail
      have C2 := Lib.hid (same_at A3 Aw O.length c3 cw O O w3 rfl rfl (by omega) B3.out.2 B3.out.1.2)
      simp only [decide_true] at C2
      (with_reducible refine C2.out.mono ?_)
      rintro e w4 ⟨rfl, r4, hw4⟩
      have hb4 : Below w3.heap.size w3 w4 := by rw [hw4]; exact below_drewN (Below.refl _ _) _
      have B4 := Lib.hid (B3.out.1.1.later hb4)
      clear hw4 hb4 C2
      have CL : Hid (Calls Try.prog 8 #[ptr bb] w4 fun e w' => e = .returned (lens (ofK 1 L').length (ofK 2 L').length (ofK 3 L').length) ∧ Below w4.heap.size w4 w') := Lib.hid (len_any B4.out.own.bx)
      go_wp2_with fail
      (with_reducible refine CL.out.mono ?_)
      rintro e w5 ⟨rfl, hb5⟩
      have B5 := Lib.hid (B4.out.later hb5)
      clear hb5 CL
      have ql := neq_lens ((ofK 1 L').length : Int) ((ofK 2 L').length : Int) ((ofK 3 L').length : Int) ((ofK 1 L').length : Int) ((ofK 2 L').length : Int) ((ofK 3 L').length : Int)
      simp only [and_self, decide_true, Bool.not_true] at ql
      go_wp2_with fail
      have CR := Lib.hid (reflen_any B5.out.rb_ (by rw [B5.out.len]; omega))
      (with_reducible refine CR.out.mono ?_)
      rintro e w6 ⟨rfl, hb6⟩
      have B6 := Lib.hid (B5.out.later hb6)
      clear hb6 CR
      go_wp2_with fail
      have CA := all_any (q := kinds L') B6.out.own.bx 1000 (by omega)
      rw [show (1000 : Int).toNat = 1000 from rfl] at CA
      have CA := Lib.hid CA
      (with_reducible refine CA.out.mono ?_)
      rintro e w7 ⟨Ar, cr, rfl, hr7, ha7, hbx7, hc7⟩
      have HL7 := Left.start (F := 500) B6.out hfL hr7 ha7 hbx7 hc7
      have hR1 : (takeQ 1000 (kinds L')).1.length ≤ 300 := Nat.le_trans (takeQ_len _ _) hq1
      obtain ⟨R1, hR1e⟩ : ∃ R1, (takeQ 1000 (kinds L')).1 = R1 := ⟨_, rfl⟩
      obtain ⟨q2, hq2e⟩ : ∃ q2, (takeQ 1000 (kinds L')).2 = q2 := ⟨_, rfl⟩
      rw [hR1e, hq2e] at HL7
      rw [hR1e] at hR1
      rw [hR1e]
      have V7 := Lib.hid HL7
      clear HL7 hr7 ha7 hbx7 hc7 hR1e hq2e CA ql
      go_wp2_with fail
      go_loopw [12] (fun v wx => ∃ k : Nat, k ≤ R1.length ∧ v = .int .i64 k ∧ Hid (∃ A n c L, Left w bb cb ct cs w1.heap.size Ar R1 q2 500 k A n c L wx)) (fun v _ => R1.length - (intOf v).toNat)
      case atStart => exact ⟨0, Nat.zero_le _, rfl, ⟨_, _, _, _, V7.out⟩⟩
      case round =>
        obtain ⟨k, hk, rfl, HR⟩ := hrel
        obtain ⟨A8, n8, c8, L8, hW⟩ := HR.out
        have U := Lib.hid hW
        have hn8 : n8 ≤ 1000000 := by rw [hW.half.len]; have := hW.few; omega
        clear HR hW V7
        by_cases hlt : k < R1.length
        · have C1 := Lib.hid (refnext_any U.out.half.rb_ hn8 U.out.half.size)
          rw [(U.out.yes hlt).1, (U.out.yes hlt).2] at C1
          obtain ⟨x, hx⟩ : ∃ x, R1.getD k zeroE = x := ⟨_, rfl⟩
          rw [hx] at C1
          have HX := Lib.hid hx
          clear hx
          go_wp2_with fail
          (with_reducible refine C1.out.mono ?_)
          rintro e w8 ⟨rfl, hr8⟩
          obtain ⟨A9, n9, c9, L9, h9⟩ := U.out.next hlt hr8
          have h9 := Lib.hid h9
          clear hr8 C1
          go_wp2_with fail
          refine at_world (fun X => Left w bb cb ct cs w1.heap.size Ar R1 q2 500 (k + 1) A9 n9 c9 L9 X ∧ Blk X w8.heap.size x.cells) ⟨h9.out.later ((Below.refl _ _).alloc (Nat.le_refl _) _), blk_new _ _ _⟩ ?_
          rintro X ⟨LX, BX⟩
          have HX2 := Lib.hid LX
          obtain ⟨b, o, rfl, hbl, a0, a1, a2, a3⟩ := LX.rd k hlt
          rw [HX.out] at a0 a1 a2 a3
          obtain ⟨yy, ky, jy⟩ := (show Blk X w8.heap.size #[.int .i64 x.kind, .int .u8 x.byte, .int .i64 x.rows, .int .i64 x.cols] from BX)
          have qe := neq_evt x x
          simp only [decide_true, Bool.not_true] at qe
          clear LX BX h9
          go_quiet (fail)
          go_wp2
          go_roundw
          case rel => exact ⟨k + 1, by omega, by go_num, ⟨_, _, _, _, HX2.out.later (below_drewN (Below.refl _ _) _)⟩⟩
          case measure => simp [intOf]; omega
        · have hke : k = R1.length := by omega
          subst hke
          clear hlt
          have hdn := U.out.done (by omega)
          have C1 := Lib.hid (refnext_any U.out.half.rb_ hn8 U.out.half.size)
          rw [(nextQ_no hdn.1).1] at C1
          have HD := Lib.hid hdn
          clear hdn
          go_wp2_with fail
          (with_reducible refine C1.out.mono ?_)
          rintro e w8 ⟨rfl, hr8⟩
          obtain ⟨A9, n9, c9, L9, h9, hk9, _⟩ := U.out.half.ref hr8
          have h9 := Lib.hid h9
          clear hr8 C1
          have V9 := Lib.hid (h9.out.later ((Below.refl _ _).alloc (Nat.le_refl _) (.cells #[.int .i64 0, .int .u8 0, .int .i64 0, .int .i64 0] 23)))
          have hb9 : Hid (Below w.heap.size w (w8.alloc (.cells #[.int .i64 0, .int .u8 0, .int .i64 0, .int .i64 0] 23))) := Lib.hid V9.out.own.below
          have CL : Hid (Calls Try.prog 8 #[ptr bb] (w8.alloc (.cells #[.int .i64 0, .int .u8 0, .int .i64 0, .int .i64 0] 23)) fun e w' => e = .returned (.agg #[.int .i64 0, .int .i64 0, .int .i64 0]) ∧ Below (w8.alloc (.cells #[.int .i64 0, .int .u8 0, .int .i64 0, .int .i64 0] 23)).heap.size (w8.alloc (.cells #[.int .i64 0, .int .u8 0, .int .i64 0, .int .i64 0] 23)) w') := Lib.hid (by
            refine (len_any V9.out.own.bx).mono fun e w' ⟨he, hb⟩ => ⟨?_, hb⟩
            have h0 := HD.out.2.2
            have h1 := HD.out.2.1
            unfold tot at h0
            rw [he, h1, show (kinds L8).1.length = 0 by omega, show (kinds L8).2.1.length = 0 by omega, show (kinds L8).2.2.length = 0 by omega]
            rfl)
          have hs9 := Lib.hid V9.out.size
          clear V9 h9
          go_wp2_with fail
          (with_reducible refine CL.out.mono ?_)
          rintro e w10 ⟨rfl, hb10⟩
          have B10 := Lib.hid (hb9.out.trans (hb10.mono hs9.out))
          clear hb10 CL
          have ql := eql_lens 0 0 0 0 0 0
          simp only [and_self, decide_true] at ql
          go_wp2_with (go_at_call 11; refine (awake_yes _).mono ?_; rintro e w11 ⟨rfl, hb11⟩)
          go_ret
          exact ⟨rfl, B10.out.trans (hb11.mono B10.out.size)⟩
end Go.Proofs.Ytcoffbgpdbhjfaa

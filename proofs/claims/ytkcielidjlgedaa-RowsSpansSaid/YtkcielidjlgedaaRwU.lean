/- rows: RowsSpans' walk. -/
import Derived.Test.YtkcielidjlgedaaRwT
namespace Go.Proofs.Ytkcielidjlgedaa
open Go.RowKit
set_option linter.unusedVariables false
set_option linter.unusedSimpArgs false

/-- What is kept from round to round. -/
structure SpR (W : World) (A : Option Addr) (L : List Row) (A2 : Option Addr) (S : List Span) (A3 : Option Addr) (E : List Int) (X : World) : Prop where
  l : Li 5 encR X (fun _ => True) A L
  s : Li 4 encS X (fun _ => True) A2 S
  e : Li 1 encI X (fun _ => True) A3 E
  b : Below W.heap.size W X
theorem SpR.later {W X Y : World} {A A2 A3 : Option Addr} {L : List Row} {S : List Span} {E : List Int} (h : SpR W A L A2 S A3 E X) (hb : Below X.heap.size X Y) : SpR W A L A2 S A3 E Y :=
  ⟨h.l.later hb, h.s.later hb, h.e.later hb, h.b.trans (hb.mono h.b.size)⟩

theorem two_cases {kind u v : Int} {l : List Row} {S : List Span}
    (h : (∃ k x s t, Found kind l S u k x s ∧ Found kind l S (v - 1) k x t) ∨ (findV l kind u = -1 ∧ atP S u = none ∧ atP S (v - 1) = none)) :
    ∃ (fv : Int) (sa sb : Span) (ok : Bool), findV l kind u = fv ∧ atV (atP S u) = .tuple #[.agg #[.int .i64 sa.f, .int .i64 sa.t, .int .i64 sa.a, .int .i64 sa.b], .bool ok] ∧ atV (atP S (v - 1)) = .tuple #[.agg #[.int .i64 sb.f, .int .i64 sb.t, .int .i64 sb.a, .int .i64 sb.b], .bool ok] ∧
      ((ok = true ∧ ∃ (k : Nat) (x : Row), fv = (k : Int) ∧ l[k]? = some x ∧ sa.f ≤ u ∧ v - 1 ≤ sb.t ∧ sa.a = x.a ∧ sa.b = x.b ∧ sb.a = x.a ∧ sb.b = x.b) ∨ (ok = false ∧ fv = -1 ∧ sa = ⟨0, 0, 0, 0⟩ ∧ sb = ⟨0, 0, 0, 0⟩)) := by
  rcases h with ⟨k, x, s, t, h1, h2⟩ | ⟨h1, h2, h3⟩
  · exact ⟨k, s, t, true, h1.idx, by rw [h1.span]; rfl, by rw [h2.span]; rfl, .inl ⟨rfl, k, x, rfl, h1.row, h1.lo, h2.hi, h1.a, h1.b, h2.a, h2.b⟩⟩
  · exact ⟨-1, ⟨0, 0, 0, 0⟩, ⟨0, 0, 0, 0⟩, false, h1, by rw [h2]; rfl, by rw [h3]; rfl, .inr ⟨rfl, rfl, rfl, rfl⟩⟩

set_option maxHeartbeats 8000000 in
set_option maxRecDepth 100000 in
theorem walk_RowsSpans (W : World) (A : Option Addr) (c : Nat) (L : List Row) (hL : RowsIn W A c L) (kind : Int) (hk : (Lit.int .i64 kind).wf = true) :
    Calls Try.prog 3 #[.slice A L.length c, .int .i64 kind] W (YesL W) := by
  have hmx := hL.mx
  have F1 := few_rows A L.length c W hL.le (by unfold maxLen at hmx; omega)
  have hlen : (L.take 40).length = min L.length 40 := by rw [List.length_take, Nat.min_comm]
  obtain ⟨M, hM⟩ : ∃ M, L.take 40 = M := ⟨_, rfl⟩
  have HM := Lib.hid (show Li 5 encR W (fun _ => True) A M from hM ▸ hL.li.take 40)
  have HO := Lib.hid (show ∀ x ∈ M, rowOk x from fun x hx => hL.ok x (List.mem_of_mem_take (by rw [hM]; exact hx)))
  rw [hM] at hlen
  have hMc : M.length ≤ c := by have := hL.le; omega
  have hM40 : M.length ≤ 40 := by omega
  rw [← hlen] at F1
  have F2 := Lib.hid F1
  have O1 := Lib.hid (of_any A c M kind W HM.out hMc (by omega))
  clear F1 hlen hk hL hM hmx
  go_enter Try.func3, Try.ntmps3
  go_wp2_with fail
  refine F2.out.mono ?_
  rintro e w1 ⟨rfl, rfl⟩
  clear F2
  go_wp2_with fail
  refine O1.out.mono ?_
  rintro e w2 ⟨S, hG, A2, n2, c2, rfl, ho, hb⟩
  obtain rfl : S.length = n2 := own_count encS_len (by decide) ho
  have hl2 := good_len hG
  have hc2 := (LiV.own encS_len (by decide) ho).parts.2.2.2
  have HG := Lib.hid hG
  have HS2 := Lib.hid (show Li 4 encS w2 (fun _ => True) A2 S ∧ Below W.heap.size W w2 from ⟨(Li.own encS_len (by decide) ho).mono fun _ _ => trivial, hb⟩)
  have E1 := Lib.hid (edges_any A c M kind w2 (HM.out.later hb) hMc (by omega) (fun x hx => (HO.out x hx).2.2.1))
  clear ho hG hb O1
  go_wp2_with fail
  refine E1.out.mono ?_
  rintro e w3 ⟨A3, n3, c3, rfl, hv, hb3⟩
  obtain ⟨en, eli, enn, ele, emx⟩ := hv.parts
  subst en
  have HEI := Lib.hid (edges_inv kind M)
  obtain ⟨E, hE⟩ : ∃ E, edgesP kind M = E := ⟨_, rfl⟩
  rw [hE] at HEI eli ele
  rw [hE]
  have HX := Lib.hid (show SpR W A M A2 S A3 E w3 from ⟨(HM.out.later HS2.out.2).later hb3, HS2.out.1.later hb3, eli.mono fun _ _ => trivial, HS2.out.2.trans (hb3.mono HS2.out.2.size)⟩)
  have hEl := HEI.out.len
  clear hv eli enn hb3 E1 hE HM HS2
  go_wp2_with fail
  go_loopw [7] (fun i wr => ∃ (j : Nat), j < E.length ∧ i = .int .i64 j ∧ Hid (SpR W A M A2 S A3 E wr)) (fun i _ => E.length - (intOf i).toNat)
  case atStart => exact ⟨0, List.length_pos_of_mem HEI.out.lo, rfl, HX.out⟩
  case round =>
    obtain ⟨j, hj, rfl, HR⟩ := hrel
    have i0 : IntKind.i64.wrap ((j : Int) + 1) = (j : Int) + 1 := IntWalk.i64_in _ (by omega)
    by_cases hlt : j + 1 < E.length
    · have i1 : (j : Int) + 1 < (E.length : Int) := by omega
      have hf := found_edge HG.out HEI.out hlt
      obtain ⟨b, o, rfl, hbl, _, k0⟩ := HR.out.e.int (j := j) (by omega)
      obtain ⟨b', o', e', _, _, k1⟩ := HR.out.e.int (j := j + 1) hlt
      simp only [Option.some.injEq, Addr.mk.injEq, and_true] at e'
      obtain ⟨rfl, rfl⟩ := e'
      obtain ⟨u, hu⟩ : ∃ u, E.getD j 0 = u := ⟨_, rfl⟩
      obtain ⟨v, hv⟩ : ∃ v, E.getD (j + 1) 0 = v := ⟨_, rfl⟩
      rw [hu] at hf k0
      rw [hv] at hf k1
      obtain ⟨f0, f1, f2, hf⟩ := hf
      obtain ⟨fv, sa, sb, ok, e1, e2, e3, hf⟩ := two_cases hf
      have HF := Lib.hid hf
      clear hf hu hv
      have i2 : (0 : Int) ≤ (j : Int) := by omega
      have i3 : (j : Int) < (E.length : Int) := by omega
      have i4 : (0 : Int) ≤ (j : Int) + 1 := by omega
      have i5 : ((j : Int) + 1).toNat = j + 1 := by omega
      have v1 : IntKind.i64.wrap (v - 1) = v - 1 := IntWalk.i64_in _ (by omega)
      have v2 : IntKind.i32.wrap (v - 1) = v - 1 := IntWalk.i32_in _ (by omega)
      have v3 : IntKind.i32.wrap u = u := IntWalk.i32_in _ (by omega)
      have T1 := Lib.hid (find_any A c M kind u wr HR.out.l hMc (by omega))
      have A1 := Lib.hid (at_any A2 c2 S u wr HR.out.s hc2.1 hc2.2 (by omega) HG.out.rise (by omega) (by omega))
      have A1' := Lib.hid (fun X (hX : SpR W A M A2 S (some ⟨b, o, none⟩) E X) => at_any A2 c2 S (v - 1) X hX.s hc2.1 hc2.2 (by omega) HG.out.rise (by omega) (by omega))
      rw [e1] at T1
      rw [e2] at A1
      rw [e3] at A1'
      clear e1 e2 e3
      go_wp2_with fail
      refine T1.out.mono ?_
      rintro e w4 ⟨rfl, rfl⟩
      clear T1
      go_wp2_with fail
      refine A1.out.mono ?_
      rintro e w4 ⟨rfl, hb4⟩
      have HR4 := Lib.hid (HR.out.later hb4)
      have k0' := (hb4.cell (p := ⟨b, o + j, none⟩) hbl).trans k0
      have k1' := (hb4.cell (p := ⟨b, o + (j + 1), none⟩) hbl).trans k1
      have hbl4 : b < w4.heap.size := Nat.lt_of_lt_of_le hbl hb4.size
      clear hb4 A1 k0 k1
      go_wp2_with fail
      refine atCalls (fun X => Below w4.heap.size w4 X ∧ Blk X w4.heap.size (encS sa).toArray) ⟨(Below.refl _ _).alloc (Nat.le_refl _) _, blk_new _ _ _⟩ ?_
      rintro X ⟨hX, hB⟩
      have HR5 := Lib.hid (HR4.out.later hX)
      have k2 := (hX.cell (p := ⟨b, o + j, none⟩) hbl4).trans k0'
      have k3 := (hX.cell (p := ⟨b, o + (j + 1), none⟩) hbl4).trans k1'
      have hblX : b < X.heap.size := Nat.lt_of_lt_of_le hbl4 hX.size
      have HB := Lib.hid hB
      clear hX hB k0' k1' hbl4
      refine (A1'.out X HR5.out).mono ?_
      rintro e w5 ⟨rfl, hb5⟩
      have HR6 := Lib.hid (HR5.out.later hb5)
      have k4 := (hb5.cell (p := ⟨b, o + j, none⟩) hblX).trans k2
      have k5 := (hb5.cell (p := ⟨b, o + (j + 1), none⟩) hblX).trans k3
      have hB5 := HB.out.later hb5 HB.out.1
      have l0 : w5.cell? ⟨w4.heap.size, 0, none⟩ = some (.int .i64 sa.f) := hB5.2.1 0
      have l1 : w5.cell? ⟨w4.heap.size, 1, none⟩ = some (.int .i64 sa.t) := hB5.2.1 1
      have l2 : w5.cell? ⟨w4.heap.size, 2, none⟩ = some (.int .i64 sa.a) := hB5.2.1 2
      have l3 : w5.cell? ⟨w4.heap.size, 3, none⟩ = some (.int .i64 sa.b) := hB5.2.1 3
      have hbl5 : b < w5.heap.size := Nat.lt_of_lt_of_le hblX hb5.size
      have hB1 := hB5.1
      clear hb5 k2 k3 hB5 A1'
      have q1 := neq_span sa sb
      rcases HF.out with ⟨rfl, k, x, rfl, hx, h1, h2, h3, h4, h5, h6⟩ | ⟨rfl, rfl, rfl, rfl⟩
      · obtain ⟨x', rb, ro, hx', rfl, rbl, _, r0, r1', r2, r3, r4⟩ := HR6.out.l.row (j := k) (List.getElem?_eq_some_iff.1 hx).1
        rw [hx] at hx'
        injection hx' with hx'
        subst hx'
        have hkl : k < M.length := (List.getElem?_eq_some_iff.1 hx).1
        clear hx r0 r1' r2
        have d1 : decide ((0 : Int) ≤ (k : Int)) = true := decide_eq_true (by omega)
        obtain ⟨sf, st, sA, sB⟩ := sa
        obtain ⟨tf, tt, tA, tB⟩ := sb
        simp only at h1 h2 h3 h4 h5 h6 l0 l1 l2 l3
        subst h3 h4 h5 h6
        have d4 : decide (u < sf) = false := decide_eq_false (by omega)
        have d5 : decide (tt < v - 1) = false := decide_eq_false (by omega)
        have i6 : (0 : Int) ≤ (k : Int) := by omega
        have i7 : (k : Int) < (M.length : Int) := by omega
        have q2 := q1
        clear h1 h2 HF
        by_cases hab : sf = tf ∧ st = tt
        · obtain ⟨rfl, rfl⟩ := hab
          go_wp2_with fail
          refine at_world (fun X => Below w5.heap.size w5 X ∧ Blk X w5.heap.size (encS ⟨sf, st, x.a, x.b⟩).toArray) ⟨(Below.refl _ _).alloc (Nat.le_refl _) _, blk_new _ _ _⟩ ?_
          rintro Y ⟨hY, hC⟩
          have HY := Lib.hid (HR6.out.later hY)
          have m4 := (hY.cell (p := ⟨b, o + j, none⟩) hbl5).trans k4
          have m5 := (hY.cell (p := ⟨b, o + (j + 1), none⟩) hbl5).trans k5
          have m0 := (hY.cell (p := ⟨w4.heap.size, 0, none⟩) hB1).trans l0
          have m2 := (hY.cell (p := ⟨w4.heap.size, 2, none⟩) hB1).trans l2
          have m3 := (hY.cell (p := ⟨w4.heap.size, 3, none⟩) hB1).trans l3
          have n1 : Y.cell? ⟨w5.heap.size, 1, none⟩ = some (.int .i64 st) := hC.2.1 1
          have s3 := (hY.cell (p := ⟨rb, ro + k * 5 + 3, none⟩) rbl).trans r3
          have s4 := (hY.cell (p := ⟨rb, ro + k * 5 + 4, none⟩) rbl).trans r4
          clear hY hC k4 k5 l0 l1 l2 l3 r3 r4
          go_quiet (fail)
          go_wp2_with fail
          go_roundw
          case rel => exact ⟨j + 1, hlt, by go_num, HY.out.later (selfDrew _ _)⟩
          case measure => simp [intOf]; omega
        · have d8 : decide ((⟨sf, st, x.a, x.b⟩ : Span) = ⟨tf, tt, x.a, x.b⟩) = false := decide_eq_false (by intro e; injection e with e1 e2; exact hab ⟨e1, e2⟩)
          rw [d8] at q1
          clear hab d8
          go_wp2_with fail
          refine at_world (fun X => Below w5.heap.size w5 X ∧ Blk X w5.heap.size (encS ⟨tf, tt, x.a, x.b⟩).toArray) ⟨(Below.refl _ _).alloc (Nat.le_refl _) _, blk_new _ _ _⟩ ?_
          rintro Y ⟨hY, hC⟩
          have HY := Lib.hid (HR6.out.later hY)
          have m4 := (hY.cell (p := ⟨b, o + j, none⟩) hbl5).trans k4
          have m5 := (hY.cell (p := ⟨b, o + (j + 1), none⟩) hbl5).trans k5
          have m0 := (hY.cell (p := ⟨w4.heap.size, 0, none⟩) hB1).trans l0
          have m2 := (hY.cell (p := ⟨w4.heap.size, 2, none⟩) hB1).trans l2
          have m3 := (hY.cell (p := ⟨w4.heap.size, 3, none⟩) hB1).trans l3
          have n1 : Y.cell? ⟨w5.heap.size, 1, none⟩ = some (.int .i64 tt) := hC.2.1 1
          have s3 := (hY.cell (p := ⟨rb, ro + k * 5 + 3, none⟩) rbl).trans r3
          have s4 := (hY.cell (p := ⟨rb, ro + k * 5 + 4, none⟩) rbl).trans r4
          clear hY hC k4 k5 l0 l1 l2 l3 r3 r4
          go_quiet (fail)
          go_wp2_with fail
          go_roundw
          case rel => exact ⟨j + 1, hlt, by go_num, HY.out.later (selfDrew _ _)⟩
          case measure => simp [intOf]; omega
      · clear k4 k5
        have HY := Lib.hid (HR6.out.later ((Below.refl w5.heap.size w5).alloc (Nat.le_refl _) (.cells #[.int .i64 0, .int .i64 0, .int .i64 0, .int .i64 0] 30)))
        go_wp2_with fail
        go_quiet (fail)
        go_wp2_with fail
        go_roundw
        case rel => exact ⟨j + 1, hlt, by go_num, HY.out.later (selfDrew _ _)⟩
        case measure => simp [intOf]; omega
    · have i1 : ¬ ((j : Int) + 1 < (E.length : Int)) := by omega
      go_wp2_with fail
      refine (awake_yes wr).mono ?_
      rintro e w4 ⟨rfl, hb4⟩
      have HR9 := Lib.hid (show YesL W (.returned (.bool true)) w4 from ⟨rfl, HR.out.b.trans (hb4.mono HR.out.b.size)⟩)
      clear hb4
      go_wp2_with fail
      go_ret
      exact HR9.out
end Go.Proofs.Ytkcielidjlgedaa

/- grid: GridCopies' walk. -/
import Derived.Test.YtcofhjipackldaaGrS
namespace Go.Proofs.Ytcofhjipackldaa
open Go.ChangeShapes Go.WideShapes Go.ChangeAt Go.RowKit Go.Deep
set_option linter.unusedVariables false
set_option linter.unusedSimpArgs false

section
variable {H : Type} {enc : TypeId × Value → H} {W : World} {base : Nat} {spare : Nat → Bool} {held : Bool}
theorem arg_deed {v : Value} {r : Reach} {b0 : Nat} {d : DataW H} {p : List MemPlace} (hv : Value.okWide Try.prog W r b0 45 v) (h : DataW.Trod enc Try.prog W base spare held 45 v d p) :
    ∃ x : Dd, v = dV x.k x.r x.c x.t x.wd := by
  simp only [Value.okWide, Try.underlying45] at hv
  obtain ⟨cs, rfl, _, _⟩ := hv
  obtain ⟨fuel, hf⟩ := h
  obtain ⟨x, hx⟩ := trod_deed hf
  refine ⟨x, ?_⟩
  have e : cs.toList = [.int .i64 x.k, .int .i64 x.r, .int .i64 x.c, .string x.t, .int .i64 x.wd] := by simpa [Value.cells] using hx
  obtain ⟨l⟩ := cs
  simp only at e
  rw [e]
end

/-- The grid behind the first k deeds. -/
def seqF (R n : Nat) (D : Nat → Dd) : Nat → Nat → Nat → Cl
  | 0 => blankF
  | k + 1 => opF R n (seqF R n D k) (D k).k (D k).r (D k).c (D k).t (D k).wd

theorem agreeG_self (F : Nat → Nat → Cl) (R n : Nat) : agreeG F F R n = true := agreeG_yes.2 fun _ _ => agreeR_yes.2 fun _ _ => rfl

theorem Chg.two_off {w v : World} {lo hi lo' hi' : Nat} (h : Chg (Two lo hi lo' hi') w v) {b : Nat} (h1 : b < lo ∨ hi ≤ b) (h2 : b < lo' ∨ hi' ≤ b) : ¬ Two lo hi lo' hi' b := by unfold Two Iv; omega

set_option maxHeartbeats 4000000 in
set_option maxRecDepth 100000 in
theorem walk_GridCopies (W : World) (rows : Int) (w0 : (Lit.int .i64 rows).wf = true) (cols : Int) (w1 : (Lit.int .i64 cols).wf = true) (A : Option Addr) (n c : Nat) (D : Nat → Dd) (hn : n ≤ c) (hc : c ≤ maxLen) (hD : ∀ i, i < n → DeedAt W A i (D i)) (x : Dd) :
    Calls Try.prog 6 #[.int .i64 rows, .int .i64 cols, .slice A n c, dV x.k x.r x.c x.t x.wd] W (Yes W) := by
  have HD := Lib.hid hD
  unfold maxLen at hc
  have hb1 := low3_bits rows
  have hb2 := low7_bits cols
  have hl1 := low3_le rows
  have hl2 := low7_le cols
  obtain ⟨R, hR⟩ : ∃ R, 1 + low3 rows = R := ⟨_, rfl⟩
  obtain ⟨m, hm⟩ : ∃ m, 2 + low7 cols = m := ⟨_, rfl⟩
  have eR : (1 : Int) + (low3 rows : Int) = (R : Int) := by omega
  have em : (2 : Int) + (low7 cols : Int) = (m : Int) := by omega
  have h1 : 1 ≤ R := by omega
  have h1' : R ≤ 4 := by omega
  have h2 : 2 ≤ m := by omega
  have h2' : m ≤ 9 := by omega
  clear hD hR hm
  go_enter Try.func6, Try.ntmps6
  go_wp2_with fail
  refine at_calls (fun X => Below W.heap.size W X ∧ Blk X W.heap.size (dC x.k x.r x.c x.t x.wd)) ⟨(Below.refl _ _).alloc (Nat.le_refl _) _, blk_new _ _ _⟩ ?_
  rintro X ⟨hX, hB⟩
  have HX := Lib.hid (And.intro hX (And.intro hB (show W.heap.size < X.heap.size from hB.1)))
  clear hX hB
  refine (new_in (R := R) (n := m) X h1 (by omega) h2 (by omega)).mono ?_
  rintro e w1 ⟨g, cb, C, rfl, P1, b1⟩
  have H1 := Lib.hid (And.intro P1 b1)
  clear P1 b1
  go_wp2_with fail
  refine (newR_in (R := R) (n := m) w1 h1 (by omega) h2 (by omega)).mono ?_
  rintro e w2 ⟨ob, Co, rb, Cr, rfl, P2, b2⟩
  have H2 := Lib.hid (And.intro (H1.out.1.later b2) (And.intro P2 (And.intro (belowStep H1.out.2 b2) b2.size)))
  have hCo := P2.cap
  have z1 := Lib.hid H1.out.2.size
  clear P2 b2
  go_wp2_with fail
  go_loopw [11] (fun i wr => ∃ k : Nat, k ≤ n ∧ k ≤ 40 ∧ i = .int .i64 k ∧ Hid (PG wr X.heap.size w1.heap.size g cb C R m (seqF R m D k) ∧ RG wr w1.heap.size w2.heap.size ob Co R m rb Cr (seqF R m D k) ∧ Below X.heap.size X wr ∧ w2.heap.size ≤ wr.heap.size)) (fun i _ => n - (intOf i).toNat)
  case atStart => exact ⟨0, Nat.zero_le _, Nat.zero_le _, rfl, ⟨H2.out.1, H2.out.2.1, H2.out.2.2.1, Nat.le_refl _⟩⟩
  case round =>
    obtain ⟨k, hk, hk40, rfl, HF⟩ := hrel
    by_cases hlt : k < n ∧ k < 40
    · obtain ⟨hkn, hk4⟩ := hlt
      have h4 : (k : Int) < 40 := by omega
      obtain ⟨b, o, rfl, hbl, c0, c1, c2, c3, c4⟩ := (HD.out k hkn).below (belowStep HX.out.1 HF.out.2.2.1)
      obtain ⟨d, hd⟩ : ∃ d, D k = d := ⟨_, rfl⟩
      rw [hd] at c0 c1 c2 c3 c4
      have Hd := Lib.hid hd
      clear hd
      have HA := Lib.hid (show Apart X.heap.size w1.heap.size w1.heap.size w2.heap.size wr.heap.size from ⟨.inl (Nat.le_refl _), Nat.le_trans H2.out.2.2.2 HF.out.2.2.2, HF.out.2.2.2⟩)
      go_wp2_with fail
      refine (does_any HF.out.1 HF.out.2.1 HA.out d.k d.r d.c d.t d.wd).mono ?_
      rintro e w3 ⟨⟨bl, rfl, hbt⟩, p3, r3, ch⟩
      have H3 := Lib.hid (And.intro p3 (And.intro r3 (And.intro (HF.out.2.2.1.trans (chg_two_below ch HF.out.2.2.1.size (Nat.le_refl _) z1.out)) (Nat.le_trans HF.out.2.2.2 ch.size))))
      clear p3 r3 ch hbt c0 c1 c2 c3 c4
      go_wp2_with fail
      go_roundw
      case rel => exact ⟨k + 1, by omega, by omega, by go_num, by have h := H3.out; rw [← Hd.out] at h; exact h⟩
      case measure => simp [intOf]; omega
    · obtain ⟨K, hK⟩ : ∃ K, k = K := ⟨_, rfl⟩
      have HK := Lib.hid (show (n ≤ K ∨ 40 ≤ K) ∧ K ≤ n ∧ K ≤ 40 by omega)
      have hx : n ≤ k ∨ (k < n ∧ 40 ≤ k) := by omega
      rw [hK] at HF
      obtain ⟨F, hF⟩ : ∃ F, seqF R m D K = F := ⟨_, rfl⟩
      rw [hF] at HF
      have HFF := Lib.hid hF
      clear hlt hK hF
      rcases hx with hx | ⟨hx, hx2⟩
      all_goals
        go_wp2_with fail
        refine (copy_any HF.out.1).mono ?_
        rintro e w3 ⟨g', cb', C', rfl, p3, b3⟩
        have H3 := Lib.hid (And.intro (HF.out.1.later b3) (And.intro (HF.out.2.1.later b3) (And.intro p3 (And.intro (belowStep HF.out.2.2.1 b3) b3.size))))
        clear p3 b3
        have S1 := Lib.hid (same_any H3.out.1 H3.out.2.2.1)
        rw [agreeG_self] at S1
        go_wp2_with fail
        refine S1.out.mono ?_
        rintro e w4 ⟨rfl, q4, rfl⟩
        go_wp2_with fail
        refine (lawsame_any (H3.out.2.2.1.drewN q4) (H3.out.2.1.drewN q4)).mono ?_
        rintro e w5 ⟨rfl, b5'⟩
        have b5 := below_undrew b5'
        have H5 := Lib.hid (And.intro (H3.out.1.later b5) (And.intro (H3.out.2.1.later b5) (And.intro (H3.out.2.2.1.later b5) (And.intro (belowStep H3.out.2.2.2.1 b5) b5.size))))
        clear b5 b5' S1
        go_wp2_with fail
        refine (newR_in (R := R) (n := m) w5 h1 (by omega) h2 (by omega)).mono ?_
        rintro e w6 ⟨ob6, Co6, rb6, Cr6, rfl, P6, b6⟩
        have H6 := Lib.hid (And.intro (H5.out.1.later b6) (And.intro (H5.out.2.1.later b6) (And.intro (H5.out.2.2.1.later b6) (And.intro P6 (And.intro (belowStep H5.out.2.2.2.1 b6) b6.size)))))
        have hCo6 := P6.cap
        clear P6 b6
        have Z := Lib.hid (show X.heap.size ≤ w1.heap.size ∧ w1.heap.size ≤ w2.heap.size ∧ w2.heap.size ≤ wr.heap.size ∧ wr.heap.size ≤ w3.heap.size ∧ w3.heap.size ≤ w5.heap.size ∧ w5.heap.size ≤ w6.heap.size from ⟨z1.out, H2.out.2.2.2, HF.out.2.2.2, H3.out.2.2.2.2, H5.out.2.2.2.2, H6.out.2.2.2.2.2⟩)
        obtain ⟨B1, hB1⟩ : ∃ B1, wr.heap.size = B1 := ⟨_, rfl⟩
        rw [hB1] at Z H3 H5 H6
        clear hB1
        go_wp2_with fail
        go_loopw [14] (fun i wr => ∃ k : Nat, k ≤ n ∧ k ≤ 40 ∧ i = .int .i64 k ∧ Hid (PG wr X.heap.size w1.heap.size g cb C R m F ∧ RG wr w1.heap.size w2.heap.size ob Co R m rb Cr F ∧ PG wr B1 w3.heap.size g' cb' C' R m F ∧ RG wr w5.heap.size w6.heap.size ob6 Co6 R m rb6 Cr6 (seqF R m D k) ∧ Below X.heap.size X wr ∧ w6.heap.size ≤ wr.heap.size)) (fun i _ => n - (intOf i).toNat)
        case atStart => exact ⟨0, Nat.zero_le _, Nat.zero_le _, rfl, ⟨H6.out.1, H6.out.2.1, H6.out.2.2.1, H6.out.2.2.2.1, H6.out.2.2.2.2.1, Nat.le_refl _⟩⟩
        case round =>
          obtain ⟨k', hk', hk40', rfl, HG⟩ := hrel
          by_cases hlt' : k' < n ∧ k' < 40
          · obtain ⟨hkn', hk4'⟩ := hlt'
            have h4' : (k' : Int) < 40 := by omega
            go_wp2_with fail
            refine (new_in (R := 1) (n := 2) wr (by omega) (by omega) (by omega) (by omega)).mono ?_
            rintro e w7 ⟨gf, cf, Cf, rfl, P7, b7⟩
            have H7 := Lib.hid (And.intro (HG.out.1.later b7) (And.intro (HG.out.2.1.later b7) (And.intro (HG.out.2.2.1.later b7) (And.intro (HG.out.2.2.2.1.later b7) (And.intro (belowStep HG.out.2.2.2.2.1 b7) (And.intro P7 b7.size))))))
            clear P7 b7
            obtain ⟨b, o, rfl, hbl, c0, c1, c2, c3, c4⟩ := (HD.out k' hkn').below (belowStep HX.out.1 H7.out.2.2.2.2.1)
            obtain ⟨d, hd⟩ : ∃ d, D k' = d := ⟨_, rfl⟩
            rw [hd] at c0 c1 c2 c3 c4
            have Hd := Lib.hid hd
            clear hd
            have hz6 := Lib.hid HG.out.2.2.2.2.2
            have HA := Lib.hid (show Apart wr.heap.size w7.heap.size w5.heap.size w6.heap.size w7.heap.size from ⟨.inr hz6.out, Nat.le_refl _, Nat.le_trans hz6.out H7.out.2.2.2.2.2.2⟩)
            go_wp2_with fail
            refine (does_any H7.out.2.2.2.2.2.1 H7.out.2.2.2.1 HA.out d.k d.r d.c d.t d.wd).mono ?_
            rintro e w8 ⟨⟨bl, rfl, _⟩, _, r8, ch⟩
            have H8 := Lib.hid (show PG w8 X.heap.size w1.heap.size g cb C R m F ∧ RG w8 w1.heap.size w2.heap.size ob Co R m rb Cr F ∧ PG w8 B1 w3.heap.size g' cb' C' R m F ∧ RG w8 w5.heap.size w6.heap.size ob6 Co6 R m rb6 Cr6 (opF R m (seqF R m D k') d.k d.r d.c d.t d.wd) ∧ Below X.heap.size X w8 ∧ w6.heap.size ≤ w8.heap.size from by
              have z := Z.out
              have z7 := H7.out.2.2.2.2.2.2
              have z6 := hz6.out
              refine ⟨H7.out.1.chg ch fun j a b => ch.two_off (by omega) (by omega), H7.out.2.1.chg ch fun j a b => ch.two_off (by omega) (by omega), H7.out.2.2.1.chg ch fun j a b => ch.two_off (by omega) (by omega), r8, H7.out.2.2.2.2.1.trans (chg_two_below ch H7.out.2.2.2.2.1.size (by omega) (by omega)), by have := ch.size; omega⟩)
            clear r8 ch c0 c1 c2 c3 c4
            go_wp2_with fail
            go_roundw
            case rel => exact ⟨k' + 1, by omega, by omega, by go_num, by have h := H8.out; rw [← Hd.out] at h; exact h⟩
            case measure => simp [intOf]; omega
          · obtain rfl : k' = K := by have := HK.out; omega
            rw [HFF.out] at HG
            have HBx := Lib.hid (HX.out.2.1.later HG.out.2.2.2.2.1 HX.out.2.2)
            have l0 := HBx.out.2.1 0
            have l1 := HBx.out.2.1 1
            have l2 := HBx.out.2.1 2
            have l3 := HBx.out.2.1 3
            have l4 := HBx.out.2.1 4
            simp at l0 l1 l2 l3 l4
            have HA := Lib.hid (show Apart B1 w3.heap.size w5.heap.size w6.heap.size wr.heap.size from ⟨.inl Z.out.2.2.2.2.1, Nat.le_trans Z.out.2.2.2.2.1 (Nat.le_trans Z.out.2.2.2.2.2 HG.out.2.2.2.2.2), HG.out.2.2.2.2.2⟩)
            have hx' : n ≤ k' ∨ (k' < n ∧ 40 ≤ k') := by have := HK.out; omega
            clear hlt'
            rcases hx' with hx' | ⟨hx', hx2'⟩
            all_goals go_wp2_with fail
            all_goals
              refine (does_any HG.out.2.2.1 HG.out.2.2.2.1 HA.out x.k x.r x.c x.t x.wd).mono ?_
              rintro e w8 ⟨⟨bl, rfl, _⟩, p8, r8, ch⟩
              obtain ⟨F', hF'⟩ : ∃ F', opF R m F x.k x.r x.c x.t x.wd = F' := ⟨_, rfl⟩
              rw [hF'] at p8 r8
              clear hF'
              have H8 := Lib.hid (show PG w8 X.heap.size w1.heap.size g cb C R m F ∧ RG w8 w1.heap.size w2.heap.size ob Co R m rb Cr F ∧ PG w8 B1 w3.heap.size g' cb' C' R m F' ∧ RG w8 w5.heap.size w6.heap.size ob6 Co6 R m rb6 Cr6 F' ∧ Below X.heap.size X w8 from by
                have z := Z.out
                refine ⟨HG.out.1.chg ch fun j a b => ch.two_off (by omega) (by omega), HG.out.2.1.chg ch fun j a b => ch.two_off (by omega) (by omega), p8, r8, HG.out.2.2.2.2.1.trans (chg_two_below ch HG.out.2.2.2.2.1.size (by omega) (by omega))⟩)
              clear p8 r8 ch l0 l1 l2 l3 l4
              go_wp2_with fail
              refine (lawsame_any H8.out.1 H8.out.2.1).mono ?_
              rintro e w9 ⟨rfl, b9⟩
              have H9 := Lib.hid (And.intro (H8.out.1.later b9) (And.intro (H8.out.2.1.later b9) (And.intro (H8.out.2.2.1.later b9) (And.intro (H8.out.2.2.2.1.later b9) (belowStep H8.out.2.2.2.2 b9)))))
              clear b9
              go_wp2_with fail
              refine (lawsame_any H9.out.2.2.1 H9.out.2.2.2.1).mono ?_
              rintro e wa ⟨rfl, ba⟩
              have Ha := Lib.hid (And.intro (H9.out.1.later ba) (And.intro (H9.out.2.1.later ba) (And.intro (H9.out.2.2.1.later ba) (And.intro (H9.out.2.2.2.1.later ba) (belowStep H9.out.2.2.2.2 ba)))))
              clear ba
              have S1 := Lib.hid (same_any Ha.out.1 Ha.out.2.2.1)
              have S2 := Lib.hid (fun q => sameR_any (Ha.out.2.1.drewN q) (Ha.out.2.2.2.1.drewN q))
              obtain ⟨bb, hbb⟩ : ∃ bb, agreeG F F' R m = bb := ⟨_, rfl⟩
              rw [hbb] at S1 S2
              clear hbb
              go_wp2_with fail
              refine S1.out.mono ?_
              rintro e wb ⟨rfl, qb, rfl⟩
              go_wp2_with fail
              refine (S2.out qb).mono ?_
              rintro e wb ⟨rfl, qc, rfl⟩
              cases bb
              all_goals
                go_wp2_with fail
                refine (awake_yes _).mono ?_
                rintro e wd ⟨rfl, bd⟩
                have Hd := Lib.hid (belowStep HX.out.1 (belowStep (below_drewN Ha.out.2.2.2.2 (qb + qc)) bd))
                clear bd
                go_wp2_with fail
                go_ret
                exact ⟨rfl, Hd.out⟩
end Go.Proofs.Ytcofhjipackldaa

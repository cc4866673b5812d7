/- trie: block. -/
import Derived.Test.YtggapcfjcdafpaaGreatGb10
import Derived.Deep.CutRange
import Derived.StillTailTactics
import Derived.Test.YtggapcfjcdafpaaGreatGb05
import Derived.Test.YtggapcfjcdafpaaGreatGb04
import Derived.Sort.BigQuietIn
import Derived.Sort.CutIn
import Derived.Deep.MidRow
import Derived.RangeFuncNested
namespace Go.Proofs.YtggapcfjcdafpaaGreat.TP
open Go.RowKit
set_option linter.unusedVariables false
set_option linter.unusedSimpArgs false

set_option maxHeartbeats 8000000 in
set_option maxRecDepth 100000 in
theorem flat_any (m : Nat) (z : V2) (A : Option Addr) (n c : Nat) (L : List (Pc V2)) (w0 : World) (hL : LiV 4 encP w0 (fun _ => True) (.slice A n c) L) (hn : L.length ≤ 10000) (hm1 : 1 ≤ m) (hm : m ≤ 10000000) :
    Calls Tryz.prog 74 #[.int .i64 m, vV z, .slice A n c] w0 (fun e w' => ∃ P, Flat m L z P ∧ P.length ≤ 100000 ∧ TellsO 65 4 encP P w0 e w') := by
  obtain ⟨rfl, hLi, _⟩ := hL.parts
  have HL0 := Lib.hid hLi
  clear hL hLi
  go_enter Tryz.func74, Tryz.ntmps74
  go_upto_region 1 with fail
  refine at_world (fun X => Below w0.heap.size w0 X ∧ Blk X w0.heap.size (encV z).toArray) ⟨belAlloc _ _, blk_new _ _ _⟩ ?_
  intro w hw
  have HL := Lib.hid (HL0.out.later hw.1)
  have HZ := Lib.hid hw
  have T0 := Lib.hid (show Two w (some ⟨w.heap.size, 0, none⟩) 2 2 [0, (m : Int)] none 0 0 [] (w.alloc (.cells #[.int .i64 0, .int .i64 m] 3)) from
    ⟨by have := own_newN w #[.int .i64 0, .int .i64 m] 3 1 2 rfl (by unfold maxLen; omega); exact this, World.ownsRow_nil _ _ _ _, fun b _ e => (by cases e), (Below.refl _ _).alloc (Nat.le_refl _) _⟩)
  clear hw HL0
  go_wp2
  go_loopw [7, 8, 10, 25] (fun cv fv _ i wr => ∃ k : Nat, ∃ Ac nc cc Af nf cf, k ≤ L.length ∧ i = .int .i64 k ∧ cv = .slice Ac nc cc ∧ fv = .slice Af nf cf ∧ nf ≤ k ∧ nc ≤ 2 * k + 2 ∧ Hid (Two w Ac nc cc ([0, (m : Int)] ++ endsP (fits m (L.take k))) Af nf cf (fits m (L.take k)) wr)) (fun _ _ _ i _ => L.length - (intOf i).toNat)
  case atStart => exact ⟨0, _, 2, 2, none, 0, 0, Nat.zero_le _, rfl, rfl, rfl, Nat.le_refl _, Nat.le_refl _, T0.out⟩
  case round =>
    obtain ⟨k, Ac, nc, cc, Af, nf, cf, hk, rfl, rfl, rfl, hnf, hnc, HT⟩ := hrel
    by_cases hlt : k < L.length
    · obtain ⟨x, b, o, hx, rfl, hbl, _, c0, c1, c2, c3⟩ := (HL.out.later HT.out.be).pieceP hlt
      have HX := Lib.hid (fits_snoc (m := (m : Int)) hx)
      clear hx
      have TB := Lib.hid (HT.out.later (X := wr) (Y := wr.alloc (.cells #[.int .i64 (max x.f 0), .int .i64 (min x.t ((m : Int) - 1)), .int .i32 x.v.1, .int .i32 x.v.2] 65)) (belAlloc _ _))
      have hz := HT.out.be.size
      by_cases hft : max x.f 0 ≤ min x.t ((m : Int) - 1)
      · have HC := Lib.hid (show fits (m : Int) (L.take (k + 1)) = fits (m : Int) (L.take k) ++ [⟨max x.f 0, min x.t ((m : Int) - 1), x.v⟩] by rw [HX.out, show clip (m : Int) x = some ⟨max x.f 0, min x.t ((m : Int) - 1), x.v⟩ from if_pos hft]; rfl)
        have hb1 : 0 ≤ min x.t ((m : Int) - 1) := by omega
        have hb2 : min x.t ((m : Int) - 1) ≤ 10000000 := by omega
        have HB := Lib.hid (And.intro (blk_new wr #[.int .i64 (max x.f 0), .int .i64 (min x.t ((m : Int) - 1)), .int .i32 x.v.1, .int .i32 x.v.2] 65) HT.out.far.1)
        go_wp2_with (at_builtin; first
          | (refine wpList_push piece_elt TB.out.fi (by simp; omega) rfl rfl rfl rfl (by simp) rfl rfl (by unfold maxLen; omega) (by omega) ?_; intro A3 c3 w3 hp; have H3 := Lib.hid (TB.out.pushF (p := ⟨max x.f 0, min x.t ((m : Int) - 1), x.v⟩) hp rfl); obtain ⟨y3, k3, j3⟩ := (show _ from HB.out.1.grown hp.grown HB.out.2); have hz3 := hp.grown.size; simp only [World.size_alloc] at hz3; clear hp)
          | (refine wpList_pushM int_elt H3.out.cu (by omega) rfl rfl rfl rfl (by simp) rfl rfl (by unfold maxLen; omega) (by omega) ?_; intro A4 c4 w4 hp; have H4 := Lib.hid (H3.out.pushC (M := [max x.f 0, min x.t ((m : Int) - 1) + 1]) hp rfl); clear hp))
        go_roundw
        case rel => exact ⟨k + 1, _, _, _, _, _, _, by omega, by go_num, rfl, rfl, by omega, by omega, by rw [HC.out, endsP_snoc, ← List.append_assoc]; exact H4.out⟩
        case measure => simp [intOf]; omega
      · have HC := Lib.hid (show fits (m : Int) (L.take (k + 1)) = fits (m : Int) (L.take k) by rw [HX.out, show clip (m : Int) x = none from if_neg hft]; simp)
        go_wp2_with fail
        go_roundw
        case rel => exact ⟨k + 1, _, _, _, _, _, _, by omega, by go_num, rfl, rfl, by omega, by omega, by rw [HC.out]; exact TB.out⟩
        case measure => simp [intOf]; omega
    · obtain rfl : k = L.length := by omega
      rw [List.take_length] at HT
      have hlF := own_count encP_len (by decide) HT.out.fi
      have hlC := own_count encI_len (by decide) HT.out.cu
      rw [List.length_append, endsP_len, hlF] at hlC
      have hlC2 : 2 + 2 * nf = nc := hlC
      have hz := HT.out.be.size
      have z0 : wr.cell? ⟨w0.heap.size, 0, none⟩ = some (.int .i32 z.1) := (HT.out.be.cell (p := ⟨w0.heap.size, 0, none⟩) HZ.out.2.1).trans (HZ.out.2.2.1 0)
      have z1 : wr.cell? ⟨w0.heap.size, 1, none⟩ = some (.int .i32 z.2) := (HT.out.be.cell (p := ⟨w0.heap.size, 1, none⟩) HZ.out.2.1).trans (HZ.out.2.2.1 1)
      go_wp2_with (at_builtin; (refine wpList_push piece_elt HT.out.fi hz rfl rfl rfl rfl (by simp) rfl rfl (by unfold maxLen; omega) (by omega) ?_; intro A3 c3 w3 hp; have H3 := Lib.hid (HT.out.pushF (p := ⟨0, (m : Int) - 1, z⟩) hp rfl); clear hp))
      clear z0 z1
      obtain ⟨g, rfl, hgb, hgs, hnc', hcm, hH⟩ := holds_own H3.out.cu (by omega)
      obtain ⟨Cs, hCs⟩ : ∃ Cs, [0, (m : Int)] ++ endsP (fits (m : Int) L) = Cs := ⟨_, rfl⟩
      have hcl : Cs.length = nc := by rw [← hCs, List.length_append, endsP_len, hlF]; exact hlC2
      have hcut : sortedOnce Cs = cutsP m (fits (m : Int) L) := by rw [← hCs]; rfl
      rw [hCs] at hH H3
      have c1 := sort_ints g 0 cc Cs w3 hH hgs (by omega)
      rw [hcl] at c1
      have C1 := Lib.hid c1
      clear c1
      have C2 := Lib.hid (show ∀ Y n os, Y = Go.Sort.grow (Go.Sort.putRow (Value.int .i64) (Go.Sort.ahead w3 n) g 0 (Cs.mergeSort fun x y => decide (x ≤ y)).toArray) os → Calls Tryz.prog 63 #[.slice (some ⟨g, 0, none⟩) nc cc] Y fun e w' => e = .returned (.slice (some ⟨g, 0, none⟩) (sortedOnce Cs).length cc) ∧ Two w (some ⟨g, 0, none⟩) (sortedOnce Cs).length cc (sortedOnce Cs) A3 (nf + 1) c3 (fits (m : Int) L ++ [⟨0, (m : Int) - 1, z⟩]) w' from by
        intro Y n os hY
        have hml : (Cs.mergeSort fun x y => decide (x ≤ y)).length = nc := by rw [List.length_mergeSort, hcl]
        have hs := own_sorted (os := os) (q := n) H3.out.cu H3.out.be H3.out.be.size hml
        rw [← hY] at hs
        obtain ⟨g', e, _, h2, h3, h4, h5⟩ := holds_own hs.1 (by omega)
        injection e with e
        injection e with e
        subst e
        have := compact_ints g 0 cc _ Y h5 (by omega) (by omega)
        rw [hml] at this
        refine this.mono ?_
        rintro e w' ⟨rfl, q, rfl⟩
        exact ⟨rfl, H3.out.sorted (q := q) (by omega) Y hY _ (by rw [hml]; rfl)⟩)
      have HC := Lib.hid (And.intro (cutsP_ok m L z) hcut)
      have hcb : (sortedOnce Cs).length ≤ 30000 := by have := sortedOnce_len Cs; have := fits_len (m : Int) L; omega
      clear H3 hH hlC hlC2 hlF hcut hCs hgs hcl
      obtain ⟨C, hCe⟩ : ∃ C, sortedOnce Cs = C := ⟨_, rfl⟩
      rw [hCe] at C2 HC hcb
      clear hCe
      go_wp2_with fail
      refine C1.out.mono ?_
      rintro e w4 ⟨rfl, n, os, hY⟩
      have C3 := Lib.hid (C2.out w4 n os hY)
      clear hY C2 C1
      go_wp2_with fail
      refine C3.out.mono ?_
      rintro e w5 ⟨rfl, hT⟩
      have H5 := Lib.hid hT
      clear hT C3
      obtain ⟨S, hS⟩ : ∃ S, fitz (m : Int) L z = S := ⟨_, rfl⟩
      have hCC : Cuts S C := by rw [← hS, HC.out.2]; exact HC.out.1
      have hE := cuts_ends (m := (m : Int)) (L := L) (z := z) (C := C) (by rw [hS]; exact hCC) (by omega)
      obtain ⟨mm, hmm⟩ : ∃ mm, C.length = mm + 1 := ⟨C.length - 1, by omega⟩
      have hmm1 : 1 ≤ mm := by omega
      have hSl : S.length = nf + 1 := by have := own_count encP_len (by decide) H5.out.fi; rw [← hS]; exact this
      have h5 := H5.out.fi
      rw [show fits (m : Int) L ++ [(⟨0, (m : Int) - 1, z⟩ : Pc V2)] = S from hS] at h5
      have H5a := Lib.hid (And.intro H5.out.cu (And.intro h5 H5.out.be))
      rw [hmm] at hcb H5a hE
      have HQ := Lib.hid (And.intro hCC (And.intro hE (And.intro hS (And.intro hSl hmm))))
      clear h5 H5 hCC hE hSl HC HT
      rw [hmm]
      clear hmm hS
      obtain ⟨i0, hi0, hz0, hs0, hb0⟩ := info_parts (P := Tryz.prog) (e := 65) (z := .agg #[.int .i64 0, .int .i64 0, .int .i32 0, .int .i32 0]) (size := 4) (bytes := 24) (by kernel_rfl)
      obtain ⟨i1, hi1, hz1, hs1, hb1⟩ := info_parts (P := Tryz.prog) (e := 3) (z := .int .i64 0) (size := 1) (bytes := 8) (by kernel_rfl)
      go_wp2_with (at_make; first
        | (refine wpList_make_full w5 rfl _ _ _ rfl w5.heap.size 65 i0 _ 4 Tryz.underlying59 hi0 hz0 hs0 .i64 .i64 _ _ mm rfl rfl rfl rfl (by rw [hb0]; omega) (by unfold maxLen; omega) (Nat.le_refl _) ?_; intro w6 hown hg; have H6 := Lib.hid (And.intro hown hg); clear hown hg)
        | (refine wpList_make_full w6 rfl _ _ _ rfl w6.heap.size 3 i1 _ 1 Tryz.underlying27 hi1 hz1 hs1 .i64 .i64 _ _ (mm + 1) rfl rfl rfl rfl (by rw [hb1]; omega) (by unfold maxLen; omega) (Nat.le_refl _) ?_; intro w7 hown hg; have H7 := Lib.hid (And.intro hown hg); clear hown hg))
      obtain ⟨g6, cs6, e1, _, hB6, _, _, hsz6, _⟩ := own_blk H6.out.1 (by omega)
      injection e1 with e1
      injection e1 with e1
      subst e1
      obtain ⟨g7, cs7, e1, _, hB7, _, _, hsz7, _⟩ := own_blk H7.out.1 (by omega)
      injection e1 with e1
      injection e1 with e1
      subst e1
      have b56 : Below w5.heap.size w5 w6 := (Below.refl _ _).grown H6.out.2 (Nat.le_refl _) (fun k hk => by cases hk)
      have b67 : Below w6.heap.size w6 w7 := (Below.refl _ _).grown H7.out.2 (Nat.le_refl _) (fun k hk => by cases hk)
      have b57 : Below w5.heap.size w5 w7 := b56.trans (b67.mono b56.size)
      have H8 := Lib.hid (show NxP w7 w6.heap.size mm 0 ∧ Li 4 encP w7 (fun b => b < w5.heap.size) A3 S ∧ Li 1 encI w7 (fun b => b < w5.heap.size) (some ⟨g, 0, none⟩) C ∧ Outs w7 w5.heap.size mm (seg S z C) (fun _ => False) ∧ Below w.heap.size w w7 ∧ w6.heap.size < w7.heap.size from
        ⟨⟨cs7, hB7, by omega, fun j hj => absurd hj (by omega)⟩, ((LiV.own encP_len (by decide) H5a.out.2.1).parts.2.1.old.mono fun b hb => hb.1).later b57, ((LiV.own encI_len (by decide) H5a.out.1).parts.2.1.old.mono fun b hb => hb.1).later b57, ⟨cs6, hB6.later b67 hB6.1, hsz6, fun i h => h.elim⟩, H5a.out.2.2.trans (b57.mono H5a.out.2.2.size), hB7.1⟩)
      have hlo := H5a.out.2.2.size
      have hOw := hB6.1
      have hgcap := (LiV.own encI_len (by decide) H5a.out.1).parts.2.2.2
      have hscap := (LiV.own encP_len (by decide) H5a.out.2.1).parts.2.2.2
      have hccap1 := hgcap.1
      have hccap2 := hgcap.2
      have hscap1 := hscap.1
      have hscap2 := hscap.2
      clear hgcap hscap
      rw [HQ.out.2.2.2.2] at hccap1
      rw [HQ.out.2.2.2.1] at hscap1
      clear hB6 hB7 hsz6 hsz7 b56 b67 b57 H6 H7 H5a hi0 hz0 hs0 hb0 hi1 hz1 hs1 hb1
      obtain ⟨gO, hgO⟩ : ∃ gO, w5.heap.size = gO := ⟨_, rfl⟩
      obtain ⟨gN, hgN⟩ : ∃ gN, w6.heap.size = gN := ⟨_, rfl⟩
      rw [hgO] at H8 hlo hOw ⊢
      rw [hgN] at H8 hOw ⊢
      clear hgO hgN
      go_loopw [13, 77] (fun _ i wr => ∃ k : Nat, k ≤ mm + 1 ∧ i = .int .i64 k ∧ Hid (NxP wr gN mm k ∧ Li 4 encP wr (fun b => b < gO) A3 S ∧ Li 1 encI wr (fun b => b < gO) (some ⟨g, 0, none⟩) C ∧ Outs wr gO mm (seg S z C) (fun _ => False) ∧ Below w.heap.size w wr ∧ gN < wr.heap.size)) (fun _ i _ => mm + 1 - (intOf i).toNat)
      case atStart => exact ⟨0, Nat.zero_le _, rfl, H8.out⟩
      case round =>
        obtain ⟨k, hk, rfl, HN⟩ := hrel
        by_cases hlt : k < mm + 1
        · obtain ⟨u, hcu⟩ := HN.out.1.cellAny hlt
          have hfr : wr.frozen? ⟨gN, k, none⟩ = false := by obtain ⟨cs, hB, _⟩ := HN.out.1; exact hB.2.2 k
          have hgl : gN < wr.heap.size := HN.out.2.2.2.2.2
          have HY := Lib.hid (show NxP (wr.setCell ⟨gN, k, none⟩ (.int .i64 (k : Int))) gN mm (k + 1) ∧ Li 4 encP (wr.setCell ⟨gN, k, none⟩ (.int .i64 (k : Int))) (fun b => b < gO) A3 S ∧ Li 1 encI (wr.setCell ⟨gN, k, none⟩ (.int .i64 (k : Int))) (fun b => b < gO) (some ⟨g, 0, none⟩) C ∧ Outs (wr.setCell ⟨gN, k, none⟩ (.int .i64 (k : Int))) gO mm (seg S z C) (fun _ => False) ∧ Below w.heap.size w (wr.setCell ⟨gN, k, none⟩ (.int .i64 (k : Int))) ∧ gN < (wr.setCell ⟨gN, k, none⟩ (.int .i64 (k : Int))).heap.size from
            ⟨HN.out.1.set hlt, HN.out.2.1.far (by simp; omega) _, HN.out.2.2.1.far (by simp; omega) _, (by obtain ⟨cs, hB, hx⟩ := HN.out.2.2.2.1; exact ⟨cs, hB.far (by simp; omega) _, hx⟩), HN.out.2.2.2.2.1.setCell (by simp; omega) _, by rw [World.size_setCell]; exact HN.out.2.2.2.2.2⟩)
          clear HN
          go_wp2
          go_roundw
          case rel => exact ⟨k + 1, by omega, by go_num, HY.out⟩
          case measure => simp [intOf]; omega
        · obtain rfl : k = mm + 1 := by omega
          have HM := Lib.hid (show FM w S z C A3 (some ⟨g, 0, none⟩) gO gN mm (List.range (mm + 1)) (Tk S C mm 0) wr from (FM.congr (T := fun _ => False) ⟨HN.out.2.1, HN.out.2.2.1, HN.out.2.2.2.1, HN.out.1.done, nextInv_start _, HN.out.2.2.2.2.1, hlo, hOw, HN.out.2.2.2.2.2⟩ fun q => (tk_zero S C mm q).symm))
          clear HN hlt H8
          go_wp2_with fail
          go_loopw [15, 16, 17, 18, 19, 20, 87] (fun _ _ _ _ _ _ i wr => ∃ j : Nat, j ≤ nf + 1 ∧ i = .int .i64 j ∧ Hid (∃ N, FM w S z C A3 (some ⟨g, 0, none⟩) gO gN mm N (Tk S C mm j) wr)) (fun _ _ _ _ _ _ i _ => nf + 1 - (intOf i).toNat)
          case atStart => exact ⟨0, Nat.zero_le _, rfl, ⟨_, HM.out⟩⟩
          case round =>
            obtain ⟨j, hj, rfl, HJ⟩ := hrel
            obtain ⟨N, hM⟩ := HJ.out
            have M1 := Lib.hid hM
            clear hM HJ HM
            by_cases hlt : j < nf + 1
            · obtain ⟨x, b, o, hx, rfl, hbl, _, c0, c1, c2, c3⟩ := M1.out.sp.pieceP (show j < S.length by rw [HQ.out.2.2.2.1]; exact hlt)
              have hxm : x ∈ S := List.mem_of_getElem? hx
              have xb := fitz_bd (m := (m : Int)) (by omega) (show x ∈ fitz (m : Int) L z by rw [HQ.out.2.2.1]; exact hxm)
              have xb1 := xb.1
              have xb2 := xb.2.1
              have xb3 := xb.2.2
              have hf := count_at HQ.out.1.1 ((HQ.out.1.2 x.f).2 ⟨x, hxm, .inl rfl⟩)
              have ht := count_at HQ.out.1.1 ((HQ.out.1.2 (x.t + 1)).2 ⟨x, hxm, .inr rfl⟩)
              obtain ⟨fr, hfe⟩ : ∃ fr, C.countP (fun c => decide (c < x.f)) = fr := ⟨_, rfl⟩
              obtain ⟨tt, hte⟩ : ∃ tt, C.countP (fun c => decide (c < x.t + 1)) = tt := ⟨_, rfl⟩
              rw [hfe] at hf
              rw [hte] at ht
              have hf1 : fr ≤ mm := by have := hf.1; rw [HQ.out.2.2.2.2] at this; omega
              have ht1 : tt ≤ mm := by have := ht.1; rw [HQ.out.2.2.2.2] at this; omega
              have HF := Lib.hid (And.intro hf (And.intro ht (And.intro hfe hte)))
              have HX := Lib.hid hx
              clear hx hxm xb hf ht hfe hte
              go_wp2_with fail
              refine atCalls (fun X => Below wr.heap.size wr X ∧ Blk X wr.heap.size (encP x).toArray) ⟨(Below.refl _ _).alloc (Nat.le_refl _) _, blk_new _ _ _⟩ ?_
              rintro X ⟨hX, hB⟩
              have l0 : X.cell? ⟨wr.heap.size, 0, none⟩ = some (.int .i64 x.f) := hB.2.1 0
              have l1 : X.cell? ⟨wr.heap.size, 1, none⟩ = some (.int .i64 x.t) := hB.2.1 1
              have KB := Lib.hid hB
              have M2 := Lib.hid (M1.out.later hX)
              clear hX hB c0 c1 c2 c3
              obtain ⟨b2, o2, e2, hb2, _, hci⟩ := M2.out.cu.ints (by rw [HQ.out.2.2.2.2]; omega)
              injection e2 with e2
              injection e2 with e3 e4
              subst e3; subst e4
              have hle : (C.take (mm + 1)).Pairwise (· ≤ ·) := by rw [← HQ.out.2.2.2.2, List.take_length]; exact HQ.out.1.1.imp fun h => Int.le_of_lt h
              have s1 := search_ints g 0 (mm + 1) cc C x.f X (Nat.le_of_eq HQ.out.2.2.2.2.symm) (by omega) hci hle
              have s2 := fun q => search_ints g 0 (mm + 1) cc C (x.t + 1) (X.drewN q) (Nat.le_of_eq HQ.out.2.2.2.2.symm) (by omega) hci hle
              have htake : C.take (mm + 1) = C := by rw [← HQ.out.2.2.2.2, List.take_length]
              rw [htake, HF.out.2.2.1] at s1
              simp only [htake, HF.out.2.2.2] at s2
              have S1 := Lib.hid s1
              have S2 := Lib.hid s2
              clear s1 s2 hle hci htake
              refine S1.out.mono ?_
              rintro e w8 ⟨rfl, q4, rfl⟩
              go_wp2_with fail
              refine (S2.out q4).mono ?_
              rintro e w9 ⟨rfl, q5, rfl⟩
              clear S1 S2
              go_wp2_with fail
              refine atCalls (fun Y => FM w S z C (some ⟨b, o, none⟩) (some ⟨g, 0, none⟩) gO gN mm N (Tk S C mm j) Y ∧ Blk Y wr.heap.size (encP x).toArray) ⟨M2.out.later (selfDrew _ _), KB.out⟩ ?_
              rintro Y ⟨hM, hB⟩
              have hwr : gN < wr.heap.size := M1.out.hi
              have R1 := free_any gN (mm + 1) mm fr N (Tk S C mm j) Y hM.nx hM.ni hf1 (by omega)
              have R2 := Lib.hid (R1.mono fun e w' (h : ∃ (r : Nat) (N' : List Nat), e = .returned (.int .i64 r) ∧ FreeAt (Tk S C mm j) mm fr r ∧ NextInv N' (Tk S C mm j) mm ∧ Nx w' gN N' ∧ Y.grownBy w' (some gN)) =>
                (show ∃ r : Nat, e = .returned (.int .i64 r) ∧ fr ≤ r ∧ r ≤ mm ∧ Hid (∃ N', FM w S z C (some ⟨b, o, none⟩) (some ⟨g, 0, none⟩) gO gN mm N' (fun q => Tk S C mm j q ∨ (fr ≤ q ∧ q < r ∧ q < tt)) w' ∧ ¬ Tk S C mm j r ∧ (∀ q, fr ≤ q → q < r → Tk S C mm j q ∨ (fr ≤ q ∧ q < r ∧ q < tt)) ∧ Blk w' wr.heap.size (encP x).toArray) from by
                  obtain ⟨r, N', e1, ⟨f1, f2, f3, f4⟩, e3, e4, e5⟩ := h
                  exact ⟨r, e1, f1, f2, ⟨N', (hM.freed e4 e3 e5).congr (fun q => ⟨.inl, fun h => h.elim id fun h => f4 q h.1 h.2.1⟩), f3, fun q a b => .inl (f4 q a b), hB.grown e5 (fun e => by injection e with e; omega)⟩⟩))
              clear R1 hM hB M2 KB
              refine R2.out.mono ?_
              rintro e w10 ⟨r, rfl, hr1, hr2, HR⟩
              clear R2
              obtain ⟨B, hBe⟩ : ∃ B, wr.heap.size = B := ⟨_, rfl⟩
              rw [hBe] at HR hwr
              go_wp2_with fail
              clear hBe l0 l1
              go_loopw [20] (fun iv wq => ∃ i : Nat, iv = .int .i64 i ∧ fr ≤ i ∧ i ≤ mm ∧ Hid (∃ N', FM w S z C (some ⟨b, o, none⟩) (some ⟨g, 0, none⟩) gO gN mm N' (fun q => Tk S C mm j q ∨ (fr ≤ q ∧ q < i ∧ q < tt)) wq ∧ ¬ Tk S C mm j i ∧ (∀ q, fr ≤ q → q < i → Tk S C mm j q ∨ (fr ≤ q ∧ q < i ∧ q < tt)) ∧ Blk wq B (encP x).toArray)) (fun iv _ => mm - (intOf iv).toNat)
              case atStart => exact ⟨r, rfl, hr1, hr2, HR.out⟩
              case round =>
                obtain ⟨i, rfl, hi1, hi2, HI⟩ := hrel
                obtain ⟨N', hM, hni, hall, hB⟩ := HI.out
                have HM := Lib.hid (And.intro hM (And.intro hni (And.intro hall hB)))
                clear hM hni hall hB HI HR
                by_cases hit : i < tt
                · have hClen := HQ.out.2.2.2.2
                  obtain ⟨b2, o2, e2, hb2, _, hc0⟩ := HM.out.1.cu.int (j := i) (by omega)
                  injection e2 with e2
                  injection e2 with e3 e4
                  subst e3; subst e4
                  obtain ⟨b2, o2, e2, _, _, hc1⟩ := HM.out.1.cu.int (j := i + 1) (by omega)
                  injection e2 with e2
                  injection e2 with e3 e4
                  subst e3; subst e4
                  have hTk : ¬ Tk S C mm j i := HM.out.2.1
                  have hsv := seg_now (z := z) HX.out HQ.out.1.1 hClen HF.out.1 HF.out.2.1 hi1 hit hTk
                  obtain ⟨u, hu⟩ : ∃ u, C.getD i 0 = u := ⟨_, rfl⟩
                  obtain ⟨v, hv⟩ : ∃ v, C.getD (i + 1) 0 = v := ⟨_, rfl⟩
                  have hcb : ∀ q, q ≤ mm → 0 ≤ cAt C q ∧ cAt C q ≤ m := fun q hq => by
                    have a := cAt_le HQ.out.1.1 (Nat.zero_le q) (show q < C.length by omega)
                    have b := cAt_le HQ.out.1.1 hq (show mm < C.length by omega)
                    have c1 := HQ.out.2.1.2.1
                    have c2 := HQ.out.2.1.2.2
                    simp only [Nat.add_sub_cancel] at c2
                    omega
                  have hub := hcb i (by omega)
                  have hvb := hcb (i + 1) (by omega)
                  have hP := HM.out.1.put (i := i) (by omega) (T' := fun q => (Tk S C mm j q ∨ (fr ≤ q ∧ q < i ∧ q < tt)) ∨ q = i) (fun q => Iff.rfl) 1
                  have es1 : (seg S z C i).f = u := hu
                  have es2 : (seg S z C i).t = v - 1 := by rw [← hv]; rfl
                  rw [es1, es2, hsv, show ((i + 1 : Nat) : Int) = (i : Int) + 1 by omega] at hP
                  unfold cAt at hub hvb
                  rw [hu] at hc0 hub
                  rw [hv] at hc1 hvb
                  rw [Nat.zero_add] at hc0 hc1
                  have hu0 := hub.1
                  have hu1 := hub.2
                  have hv0 := hvb.1
                  have hv1 := hvb.2
                  obtain ⟨a0, a1, a2, a3, g0, g1, g2, g3, f0, f1, f2, f3⟩ := HM.out.1.out.cells (i := i) (by omega)
                  have ob := HM.out.1.out.lt
                  have nb := HM.out.1.nx.lt
                  have ltb := HM.out.1.lt
                  have n3c := HM.out.1.nx.cell (j := i) (by rw [HM.out.1.ni.1]; omega)
                  have n3f := HM.out.1.nx.free i
                  have lB := HM.out.2.2.2
                  have l2 : wr.cell? ⟨B, 2, none⟩ = some (.int .i32 x.v.1) := lB.2.1 2
                  have l3 : wr.cell? ⟨B, 3, none⟩ = some (.int .i32 x.v.2) := lB.2.1 3
                  have lBl := lB.1
                  have hlo' := HM.out.1.lo
                  have hNe : gO ≠ gN := by omega
                  have hi3 : (i : Int) + 1 < (mm : Int) + 1 := by omega
                  have hi4 : (i : Int) < (mm : Int) + 1 := by omega
                  have hi4' : (i : Int) < (mm : Int) := by omega
                  have hi5 : (0 : Int) ≤ (i : Int) := by omega
                  have hi6 : (0 : Int) ≤ (i : Int) + 1 := by omega
                  have hi7 : ((i : Int) + 1).toNat = i + 1 := by omega
                  have HP := Lib.hid (And.intro hP (((((lB.drewN 1).far (p := ⟨gO, i * 4, none⟩) (by simp; omega) (.int .i64 u)).far (p := ⟨gO, i * 4 + 1, none⟩) (by simp; omega) (.int .i64 (v - 1))).far (p := ⟨gO, i * 4 + 2, none⟩) (by simp; omega) (.int .i32 x.v.1)).far (p := ⟨gO, i * 4 + 3, none⟩) (by simp; omega) (.int .i32 x.v.2) |>.far (p := ⟨gN, i, none⟩) (by simp; omega) (.int .i64 ((i : Int) + 1))))
                  have hi8 : IntKind.i64.wrap ((i : Int) + 1) = (i : Int) + 1 := IntWalk.i64_in _ (by omega)
                  have hi9 : IntKind.i64.wrap (v - 1) = v - 1 := IntWalk.i64_in _ (by omega)
                  clear hP hTk hsv hu hv hcb hub hvb es1 es2 lB hClen
                  go_wp2_with fail
                  go_still_tail 16, (by kernel_rfl)
                  change wpList _ _ _ _ _ wr.drew
                  clear hi8 hi9 hi7
                  go_wp2_with fail
                  refine atCalls (fun Z => FM w S z C (some ⟨b, o, none⟩) (some ⟨g, 0, none⟩) gO gN mm (N'.set i (i + 1)) (fun q => (Tk S C mm j q ∨ (fr ≤ q ∧ q < i ∧ q < tt)) ∨ q = i) Z ∧ Blk Z B (encP x).toArray) HP.out ?_
                  rintro Z ⟨hM, hB⟩
                  have R1 := free_any gN (mm + 1) mm i (N'.set i (i + 1)) (fun q => (Tk S C mm j q ∨ (fr ≤ q ∧ q < i ∧ q < tt)) ∨ q = i) Z hM.nx hM.ni (by omega) (by omega)
                  have R2 := Lib.hid (R1.mono fun e w' (h : ∃ (r : Nat) (N'' : List Nat), e = .returned (.int .i64 r) ∧ FreeAt (fun q => (Tk S C mm j q ∨ (fr ≤ q ∧ q < i ∧ q < tt)) ∨ q = i) mm i r ∧ NextInv N'' (fun q => (Tk S C mm j q ∨ (fr ≤ q ∧ q < i ∧ q < tt)) ∨ q = i) mm ∧ Nx w' gN N'' ∧ Z.grownBy w' (some gN)) =>
                    (show ∃ r : Nat, e = .returned (.int .i64 r) ∧ i < r ∧ r ≤ mm ∧ Hid (∃ N', FM w S z C (some ⟨b, o, none⟩) (some ⟨g, 0, none⟩) gO gN mm N' (fun q => Tk S C mm j q ∨ (fr ≤ q ∧ q < r ∧ q < tt)) w' ∧ ¬ Tk S C mm j r ∧ (∀ q, fr ≤ q → q < r → Tk S C mm j q ∨ (fr ≤ q ∧ q < r ∧ q < tt)) ∧ Blk w' B (encP x).toArray) from by
                      obtain ⟨r, N'', e1, ⟨f1, f2, f3, f4⟩, e3, e4, e5⟩ := h
                      have hir : i < r := by
                        rcases Nat.lt_or_eq_of_le f1 with h | h
                        · exact h
                        · exact absurd (.inr h.symm) f3
                      have hall2 : ∀ q, fr ≤ q → q < r → Tk S C mm j q ∨ (fr ≤ q ∧ q < r ∧ q < tt) := fun q a b => by
                        rcases Nat.lt_or_ge q i with h | h
                        · rcases HM.out.2.2.1 q a h with h' | h'
                          · exact .inl h'
                          · exact .inr ⟨a, b, h'.2.2⟩
                        · rcases f4 q h b with (h' | h') | h'
                          · exact .inl h'
                          · exact .inr ⟨a, b, h'.2.2⟩
                          · exact .inr ⟨a, b, by omega⟩
                      refine ⟨r, e1, hir, f2, ⟨N'', (hM.freed e4 e3 e5).congr (fun q => ⟨?_, ?_⟩), fun h => f3 (.inl (.inl h)), hall2, hB.grown e5 (fun e => by injection e with e; omega)⟩⟩
                      · rintro ((h | h) | h)
                        · exact .inl h
                        · exact .inr ⟨h.1, by omega, h.2.2⟩
                        · exact .inr ⟨by omega, by omega, by omega⟩
                      · rintro (h | h)
                        · exact .inl (.inl h)
                        · rcases Nat.lt_or_ge q i with h' | h'
                          · exact .inl (.inr ⟨h.1, h', h.2.2⟩)
                          · exact f4 q h' h.2.1))
                  clear R1 hM hB HP HM
                  refine R2.out.mono ?_
                  rintro e w11 ⟨r', rfl, hr3, hr4, hR⟩
                  clear R2
                  go_wp2_with fail
                  go_roundw
                  case rel => exact ⟨r', rfl, by omega, hr4, hR⟩
                  case measure => simp [intOf]; omega
                · have hD := HM.out.1.congr (T' := Tk S C mm (j + 1)) (fun q => by
                    rw [tk_succ HX.out HQ.out.1.1 HQ.out.2.2.2.2 HF.out.1 HF.out.2.1]
                    exact ⟨fun h => h.elim .inl fun h => .inr ⟨h.1, h.2.2⟩, fun h => h.elim .inl fun h => .inr ⟨h.1, by omega, h.2⟩⟩)
                  have HD := Lib.hid hD
                  clear hD HM
                  go_wp2_with fail
                  go_roundw
                  case rel => exact ⟨j + 1, by omega, by go_num, ⟨N', HD.out⟩⟩
                  case measure => simp [intOf]; omega
            · obtain rfl : j = nf + 1 := by omega
              have hmmC := HQ.out.2.2.2.2
              have hcin : ∀ q, q < mm → 0 ≤ cAt C q ∧ cAt C q < m := fun q hq => by
                have a := cAt_le HQ.out.1.1 (Nat.zero_le q) (show q < C.length by omega)
                have b := cAt_lt HQ.out.1.1 hq (show mm < C.length by omega)
                have c1 := HQ.out.2.1.2.1
                have c2 := HQ.out.2.1.2.2
                simp only [Nat.add_sub_cancel] at c2
                omega
              have hallT : ∀ q, q < mm → Tk S C mm (nf + 1) q := fun q hq => ⟨hq, by
                rw [List.take_of_length_le (by rw [HQ.out.2.2.2.1]; omega), ← HQ.out.2.2.1, pget_fitz (m : Int) L z _ (hcin q hq).1 (hcin q hq).2]
                rfl⟩
              have hLi := M1.out.out.all hallT
              have hseg : ((List.range mm).map (seg S z C)).length = mm := by simp
              have hT : Tile 0 (m : Int) ((List.range mm).map (seg S z C)) := by
                have := segs_tile (S := S) (z := z) HQ.out.1.1 mm (by omega)
                have c1 := HQ.out.2.1.2.1
                have c2 := HQ.out.2.1.2.2
                simp only [Nat.add_sub_cancel] at c2
                rwa [c1, c2] at this
              have hV : Vals (pval L z) ((List.range mm).map (seg S z C)) := by
                intro p hp r h1 h2
                obtain ⟨q, hq, rfl⟩ := List.mem_map.1 hp
                have hq' := List.mem_range.1 hq
                have := segs_vals (m := (m : Int)) (L := L) (z := z) (C := C) (by rw [HQ.out.2.2.1]; exact HQ.out.1) (by omega) (q := q) (by omega) r
                rw [HQ.out.2.2.1] at this
                exact this h1 h2
              have J := joined_any (some ⟨gO, 0, none⟩) mm ((List.range mm).map (seg S z C)) (pval L z) m wr hLi (by omega) (by omega) hT hV (by omega)
              rw [hseg] at J
              have HJ := Lib.hid J
              have HBe := Lib.hid M1.out.be
              clear J hLi hT hV hallT hcin hseg M1 hmmC
              go_wp2_with fail
              refine HJ.out.mono ?_
              rintro e w9 ⟨P, hP, hPl, A9, n9, c9, rfl, ho, hb⟩
              have HE := Lib.hid (show ∃ P, Flat (m : Int) L z P ∧ P.length ≤ 100000 ∧ TellsO 65 4 encP P w0 (.returned (.slice A9 n9 c9)) w9 from ⟨P, ⟨hP.tile, hP.vals, hP.apt⟩, by omega, A9, n9, c9, rfl, ownLow ho (Nat.le_trans HZ.out.1.size HBe.out.size), HZ.out.1.trans ((HBe.out.trans (hb.mono HBe.out.size)).mono HZ.out.1.size)⟩)
              clear ho hb hP HJ
              go_wp2_with fail
              go_ret
              exact HE.out
end Go.Proofs.YtggapcfjcdafpaaGreat.TP

namespace Go.Proofs.YtggapcfjcdafpaaGreat.TP
open Go.RowKit Go.BigFrame
set_option linter.unusedVariables false
set_option linter.unusedSimpArgs false
attribute [local go_sem] Oper.semAt_some

/-- A region that draws its order and only reads, in a round. -/
theorem region_round_lit {F : Fence} {n : Nat} {P : Program} {L : List Oper} {Q : Exit → Act → World → Prop} (l : Nat) {id : Nat} {a : Act} {w : World} (hro : F.round = none) (hm : P.follows .mixedOrders = true) (hB : Region.lexB .any L.toArray = true) (hd : L.all (fun o => match o.op with | .defer _ => false | _ => true) = true)
    (h : wpQuietIn F n P L.toArray (fun w' => ∃ m, w' = w.drewN m) (fun a' => ∀ w', (∃ m, w' = w.drewN m) → Q .normal a' w') L a) : (Code.region id L.toArray true).wpIn (F.inRound l) n P Q a w :=
  region_round _ l hro hm hB hd ⟨1, rfl⟩ h

/-! ### pure -/
section
variable {lo m : Int} {P : List (Pc V2)} {g : Int → V2}
theorem tile_next (h : Tile lo m P) {a : Nat} {x y : Pc V2} (hx : P[a]? = some x) (hy : P[a + 1]? = some y) : y.f = x.t + 1 := by
  obtain ⟨h1, _, _⟩ := tile_at h hy
  obtain ⟨_, _, h2⟩ := tile_at h hx
  exact tile_uniq h1 h2
theorem tile_last (h : Tile lo m P) {a : Nat} {x : Pc V2} (hx : P[a]? = some x) (ha : P.length ≤ a + 1) : x.t + 1 = m := by
  obtain ⟨_, _, h2⟩ := tile_at h hx
  rw [List.take_of_length_le ha] at h2
  exact tile_uniq h2 h
theorem tile_first (h : Tile lo m P) {x : Pc V2} (hx : P[0]? = some x) : x.f = lo := by
  cases P with
  | nil => cases hx
  | cons p P => simp at hx; subst hx; exact h.1
/-- The value that block tells. -/
def bval (g : Int → V2) (m first : Int) (i : Nat) : V2 := g (min (first + i) (m - 1))
theorem bval_is (h : Tile lo m P) (hV : Vals g P) {a i : Nat} {x : Pc V2} {first : Int} (hx : P[a]? = some x) (h1 : x.f ≤ first + i) (h2 : first + i ≤ x.t ∨ P.length ≤ a + 1) : bval g m first i = x.v := by
  have hb := tile_bd h (List.mem_of_getElem? hx)
  have hv := hV x (List.mem_of_getElem? hx)
  unfold bval
  rcases h2 with h2 | h2
  · exact hv _ (by omega) (by omega)
  · have := tile_last h hx h2
    exact hv _ (by omega) (by omega)
theorem flatV_set : ∀ (L : List V2) (k : Nat) (x : V2), k < L.length → ((flatL encV L).set (k * 2) (.int .i32 x.1)).set (k * 2 + 1) (.int .i32 x.2) = flatL encV (L.set k x)
  | [], k, x, h => by simp at h
  | a :: L, 0, x, h => rfl
  | a :: L, k + 1, x, h => by
    have ih := flatV_set L k x (by simpa using h)
    have e : ∀ M : List V2, flatL encV (a :: M) = .int .i32 a.1 :: .int .i32 a.2 :: flatL encV M := fun _ => rfl
    rw [List.set_cons_succ, e, e, ← ih, show (k + 1) * 2 = k * 2 + 1 + 1 by omega]
    simp only [List.set_cons_succ]
def outV (g : Int → V2) (m first : Int) (k : Nat) : List V2 := (List.range 128).map fun i => if i < k then bval g m first i else (0, 0)
theorem outV_len (g : Int → V2) (m first : Int) (k : Nat) : (outV g m first k).length = 128 := by simp [outV]
/-- What stands in block's array when k rounds are over. -/
def outC (g : Int → V2) (m first : Int) (k : Nat) : List Value := flatL encV (outV g m first k)
theorem outC_len (g : Int → V2) (m first : Int) (k : Nat) : (outC g m first k).length = 256 := by
  unfold outC
  rw [flatL_len encV_len, outV_len]
theorem outV_set (g : Int → V2) (m first : Int) (k : Nat) (hk : k < 128) : (outV g m first k).set k (bval g m first k) = outV g m first (k + 1) := by
  apply List.ext_getElem
  · simp [outV]
  · intro i h1 h2
    simp only [outV, List.getElem_set, List.getElem_map, List.getElem_range]
    by_cases e : k = i
    · subst e; rw [if_pos rfl, if_pos (Nat.lt_succ_self _)]
    · rw [if_neg e]
      by_cases h : i < k
      · rw [if_pos h, if_pos (by omega)]
      · rw [if_neg h, if_neg (by omega)]
theorem outC_set (g : Int → V2) (m first : Int) (k : Nat) (hk : k < 128) : ((outC g m first k).set (k * 2) (.int .i32 (bval g m first k).1)).set (k * 2 + 1) (.int .i32 (bval g m first k).2) = outC g m first (k + 1) := by
  unfold outC
  rw [flatV_set _ _ _ (by rw [outV_len]; exact hk), outV_set _ _ _ _ hk]
set_option maxRecDepth 100000 in
theorem outC_zero (g : Int → V2) (m first : Int) : (outC g m first 0).toArray = Tryz.zeroCells109 := by
  unfold outC outV
  simp only [Nat.not_lt_zero, if_false]
  rfl
/-- A block's values. -/
def blk (g : Int → V2) (m first : Int) : List V2 := (List.range 128).map (bval g m first)
theorem outC_all (g : Int → V2) (m first : Int) : outC g m first 128 = flatL encV (blk g m first) := by
  have e : outV g m first 128 = blk g m first := by
    unfold outV blk
    apply List.map_congr_left
    intro i hi
    rw [if_pos (List.mem_range.1 hi)]
  unfold outC
  rw [e]
theorem outC_at (g : Int → V2) (m first : Int) (k i : Nat) (hi : i < 256) : ∃ u, (outC g m first k)[i]? = some u := ⟨_, List.getElem?_eq_getElem (by rw [outC_len]; exact hi)⟩
end

theorem grow_set (w : World) (g j : Nat) (u : Value) : w.grownBy (w.setCell ⟨g, j, none⟩ u) (some g) :=
  ⟨rfl, rfl, rfl, by simp, fun k _ hne => Below.heap_setCell _ _ _ _ (by intro e; exact hne (by rw [e]))⟩

/-! ### what stands in memory -/
/-- What a round of block keeps: s is the first of its blocks, j the piece, k the round. -/
structure BlI (w : World) (A : Option Addr) (nn c : Nat) (first : Int) (j : Nat) (cs : List Value) (W : World) : Prop where
  pcs : Boxed W w.heap.size 59 (.slice A nn c)
  fst : Boxed W (w.heap.size + 1) 3 (.int .i64 first)
  res : Blk W (w.heap.size + 1 + 1) Tryz.zeroCells109
  out : Blk W (w.heap.size + 1 + 1 + 1) cs.toArray
  at_ : Boxed W (w.heap.size + 1 + 1 + 1 + 1) 3 (.int .i64 j)
  be : Below w.heap.size w W
section
variable {w W W' : World} {A : Option Addr} {nn c : Nat} {first : Int} {j : Nat} {cs : List Value}
theorem BlI.grown (h : BlI w A nn c first j cs W) {row : Option Nat} (hg : W.grownBy W' row) (hr : ∀ r, row = some r → w.heap.size + 1 + 1 + 1 + 1 < r) : BlI w A nn c first j cs W' := by
  have n : ∀ k, k ≤ w.heap.size + 1 + 1 + 1 + 1 → some k ≠ row := fun k hk e => by have := hr k e.symm; omega
  exact ⟨Boxed.kept h.pcs hg (n _ (by omega)), Boxed.kept h.fst hg (n _ (by omega)), Blk.same h.res (hg.block _ h.res.1 (n _ (by omega))) hg.size, Blk.same h.out (hg.block _ h.out.1 (n _ (by omega))) hg.size, Boxed.kept h.at_ hg (n _ (by omega)), h.be.grown hg h.be.size (fun k e => by have := hr k e; omega)⟩
theorem BlI.drewN (h : BlI w A nn c first j cs W) (m : Nat) : BlI w A nn c first j cs (W.drewN m) :=
  h.grown (row := none) ⟨rfl, rfl, rfl, Nat.le_refl _, fun _ _ _ => rfl⟩ (fun r e => by cases e)
theorem BlI.next (h : BlI w A nn c first j cs W) (i : Nat) : BlI w A nn c first i cs (W.setCell ⟨w.heap.size + 1 + 1 + 1 + 1, 0, none⟩ (.int .i64 i)) :=
  ⟨Boxed.other h.pcs (by omega) _, Boxed.other h.fst (by omega) _, Blk.far h.res (by show w.heap.size + 1 + 1 + 1 + 1 ≠ _; omega) _, Blk.far h.out (by show w.heap.size + 1 + 1 + 1 + 1 ≠ _; omega) _, Boxed.set _ h.at_, h.be.setCell (p := ⟨w.heap.size + 1 + 1 + 1 + 1, 0, none⟩) (by simp; omega) _⟩
theorem BlI.put (h : BlI w A nn c first j cs W) (i : Nat) (hi : i < cs.length) (v : Value) : BlI w A nn c first j (cs.set i v) (W.setCell ⟨w.heap.size + 1 + 1 + 1, i, none⟩ v) := by
  have hg := grow_set W (w.heap.size + 1 + 1 + 1) i v
  have hs := Blk.set_ h.out i (by simpa using hi) v
  exact ⟨Boxed.kept h.pcs hg (by simp; omega), Boxed.kept h.fst hg (by simp), Blk.same h.res (hg.block _ h.res.1 (by simp)) hg.size, by simpa using hs, Boxed.kept h.at_ hg (by simp), h.be.setCell (p := ⟨w.heap.size + 1 + 1 + 1, i, none⟩) (by simp; omega) _⟩
end
end Go.Proofs.YtggapcfjcdafpaaGreat.TP

namespace Go.Proofs.YtggapcfjcdafpaaGreat.TP
open Go.RowKit Go.BigFrame
set_option linter.unusedVariables false
set_option linter.unusedSimpArgs false
attribute [local go_sem] Oper.semAt_some

theorem opIn_load_mid {F : Fence} {m : Nat} {P : Program} {o : Oper} {a : Act} {w : World} {K : Act → World → Prop} {Q : Exit → Act → World → Prop} (ty : TypeId) (x : Operand) (ho : o.op = .load ty x)
    (b off : Nat) (hx : a.eval x = .pointer (some ⟨b, off, none⟩)) (cs : List Value) (d : TypeDesc) (hc : w.rangeAt b off cs)
    (hu : P.underlying ty = some d) (hd : d.isRow = true) (hi : (P.info? ty).map (·.size) = some cs.length)
    (h : K (a.put o.dst (.agg cs.toArray)) w) : Oper.wpIn F m P o a w K Q := by
  unfold Oper.wpIn
  refine ⟨by simp [Oper.about, ho], ?_⟩
  rw [Oper.semAt_plain F _ _ (by rw [ho]; intro c hc'; cases hc')]
  simp only [execOp, ho, hx, run_loadAt_mid w b off ty cs d hc hu hd hi, Sem.run_bind, Sem.run_pure, Result.andThen_ok]
  exact h
theorem opIn_store_mid {F : Fence} {m : Nat} {P : Program} {o : Oper} {a : Act} {w : World} {K : Act → World → Prop} {Q : Exit → Act → World → Prop} (ty : TypeId) (x y : Operand) (ho : o.op = .store ty x y)
    (b off : Nat) (cells : Array Value) (hx : a.eval x = .pointer (some ⟨b, off, none⟩)) (hy : a.eval y = .agg cells)
    (ht : w.there b off cells.size) (hi : (P.info? ty).map (·.size) = some cells.size) (h1 : cells.all (·.oneCell') = true)
    (h : K (a.put o.dst undef) (w.setCells b off cells.toList)) : Oper.wpIn F m P o a w K Q := by
  unfold Oper.wpIn
  refine ⟨by simp [Oper.about, ho], ?_⟩
  rw [Oper.semAt_plain F _ _ (by rw [ho]; intro c hc'; cases hc')]
  simp only [execOp, ho, hx, hy, run_storeAt_mid w b off ty cells ht hi h1, Sem.run_bind, Sem.run_pure, Result.andThen_ok]
  exact h

theorem outC_one (g : Int → V2) (m first : Int) (k : Nat) : ∀ v ∈ outC g m first k, v.oneCell' = true := by
  intro v hv
  unfold outC flatL at hv
  obtain ⟨i, _, hi⟩ := List.mem_flatMap.1 hv
  simp only [encV, List.mem_cons, List.mem_nil_iff, or_false] at hi
  rcases hi with rfl | rfl <;> rfl
theorem grow_setCells (b : Nat) : ∀ (vs : List Value) (o : Nat) (w : World), w.grownBy (w.setCells b o vs) (some b)
  | [], o, w => World.grownBy.refl _ _
  | v :: r, o, w => by
    rw [World.setCells]
    exact (grow_set w b o v).trans (grow_setCells b r (o + 1) _)
theorem results_cell_mid {P : Program} {fn : Func} {p : Tmp} {ty : TypeId} (h : fn.results = #[.cell p ty]) (tmps : Array Value) (w : World) (b o : Nat) (hp : tmps.getD p undef = .pointer (some ⟨b, o, none⟩)) (cs : List Value) (d : TypeDesc) (hc : w.rangeAt b o cs)
    (hu : P.underlying ty = some d) (hd : d.isRow = true) (hi : (P.info? ty).map (·.size) = some cs.length) : (results fn tmps).run P w = .ok (.agg cs.toArray) w := by
  have hp' : tmps[p]?.getD undef = .pointer (some ⟨b, o, none⟩) := by simpa using hp
  simp [results, h, hp', asAddr, run_loadVar_mid w b o ty cs d hc hu hd hi]

/-- The number that stands in a box. -/
def atOf (w : World) (b : Nat) : Nat := (intOf ((w.cell? ⟨b, 0, none⟩).getD undef)).toNat

/-- What block tells. -/
def TellsB (g : Int → V2) (m first : Int) (w : World) (e : Ending) (w' : World) : Prop := e = .returned (.agg (flatL encV (blk g m first)).toArray) ∧ Below w.heap.size w w'

/-- .. between the rounds. -/
def BkI (w : World) (A : Option Addr) (c : Nat) (P : List (Pc V2)) (g : Int → V2) (m first : Int) (pre : List Nat) (O : Nat → Prop) (W : World) : Prop :=
  (∀ k, O k ↔ (k = w.heap.size + 1 + 1 + 1 ∨ k = w.heap.size + 1 + 1 + 1 + 1)) ∧ ∃ j x, P[j]? = some x ∧ x.f ≤ first + pre.length ∧ BlI w A P.length c first j (outC g m first pre.length) W
/-- .. with the loop's variable laid. -/
def BkM (w : World) (A : Option Addr) (c : Nat) (P : List (Pc V2)) (g : Int → V2) (m first : Int) (act : Nat → Act) (x : List Nat × Nat × Act) (O : Nat → Prop) (W : World) : Prop :=
  BkI w A c P g m first x.1 O W ∧ upTo 128 x.1 x.2.1 ∧ x.2.2 = act x.2.1
theorem BkI.bears {w : World} {A : Option Addr} {c : Nat} {P : List (Pc V2)} {g : Int → V2} {m first : Int} {b : Nat} (hb : w.heap.size + 1 + 1 + 1 + 1 < b) : BearsO (BkI w A c P g m first) b := by
  rintro pre O A' B row ⟨h1, j, x, h2, h3, h4⟩ hg hr
  exact ⟨h1, j, x, h2, h3, h4.grown hg fun r e => by have := (hr r e).1; omega⟩
theorem BkM.bears {w : World} {A : Option Addr} {c : Nat} {P : List (Pc V2)} {g : Int → V2} {m first : Int} {act : Nat → Act} {b : Nat} (hb : w.heap.size + 1 + 1 + 1 + 1 < b) : BearsO (BkM w A c P g m first act) b := by
  rintro ⟨pre, x, a'⟩ O A' B row ⟨h, h2, h3⟩ hg hr
  exact ⟨BkI.bears hb _ _ _ _ _ h hg hr, h2, h3⟩

/-- A round's end. -/
theorem blk_round {w W wr : World} {A : Option Addr} {c j x : Nat} {P : List (Pc V2)} {g : Int → V2} {lo m first : Int} {y : Pc V2} {O : Nat → Prop} (hT : Tile lo m P)
    (hI : P[j]? = some y ∧ BlI w A P.length c first j (outC g m first x) wr ∧ wr.heap.size = W.heap.size ∧ ∀ k, k ≠ w.heap.size + 1 + 1 + 1 + 1 → wr.heap[k]? = W.heap[k]?) (hyf : y.f ≤ first + x)
    (hO : ∀ k, O k ↔ (k = w.heap.size + 1 + 1 + 1 ∨ k = w.heap.size + 1 + 1 + 1 + 1)) (hs : wr.heap.size = W.heap.size) (hv : bval g m first x = y.v) (hx : x < 128) (hlt : ∀ k, O k → k < W.heap.size) (nq : Nat) :
    ∃ O', KeepO O O' W (((wr.drewN nq).setCell ⟨w.heap.size + 1 + 1 + 1, x * 2, none⟩ (.int .i32 y.v.1)).setCell ⟨w.heap.size + 1 + 1 + 1, x * 2 + 1, none⟩ (.int .i32 y.v.2)) ∧ BkI w A c P g m first (List.range x ++ [x]) O' (((wr.drewN nq).setCell ⟨w.heap.size + 1 + 1 + 1, x * 2, none⟩ (.int .i32 y.v.1)).setCell ⟨w.heap.size + 1 + 1 + 1, x * 2 + 1, none⟩ (.int .i32 y.v.2)) := by
  obtain ⟨h1, h2, _, h4⟩ := hI
  refine ⟨O, ⟨by simp [hs], fun k hk ho => ?_, fun k hk => .inl hk, fun k hk => by have := hlt k hk; simp; omega⟩, hO, j, y, h1, by simp; omega, ?_⟩
  · have n1 : k ≠ w.heap.size + 1 + 1 + 1 := fun e => ho ((hO k).2 (.inl e))
    have n2 : k ≠ w.heap.size + 1 + 1 + 1 + 1 := fun e => ho ((hO k).2 (.inr e))
    exact (Below.heap_setCell _ _ _ _ n1).trans ((Below.heap_setCell _ _ _ _ n1).trans (h4 k n2))
  · have := ((h2.drewN nq).put (x * 2) (by rw [outC_len]; omega) (.int .i32 (bval g m first x).1)).put (x * 2 + 1) (by rw [List.length_set, outC_len]; omega) (.int .i32 (bval g m first x).2)
    rw [outC_set _ _ _ _ hx, hv] at this
    rw [← List.range_succ, List.length_range]
    exact this

set_option maxRecDepth 100000 in
set_option maxHeartbeats 4000000 in
theorem block_in (A : Option Addr) (c : Nat) (P : List (Pc V2)) (g : Int → V2) (lo m first : Int) (w : World) (hLi : Li 4 encP w (fun _ => True) A P) (hT : Tile lo m P) (hV : Vals g P) (hne : 0 < P.length) (hlen : P.length ≤ 100000) (hcl : P.length ≤ c) (hf0 : 0 ≤ first) (hf : lo ≤ first) (hm : first < m) (hm2 : m ≤ 10000000) :
    CallsIn Fence.wide 5 Tryz.prog 76 #[.slice A P.length c, .int .i64 first] w (TellsB g m first w) := by
  have hro : Fence.wide.round = none := rfl
  have h1 : 1 ≤ 5 := by omega
  obtain ⟨p0, b, o, hp0, rfl, hb, _⟩ := hLi.pieceP hne
  have HL := Lib.hid hLi
  have HP0 := Lib.hid hp0
  have HT := Lib.hid (And.intro hT hV)
  clear hLi hp0 hT hV
  refine callsIn_of_wp_marks Tryz.func76 rfl trivial ?_ hro
  simp only [Tryz.ntmps76, List.size_toArray, List.length_cons, List.length_nil, Nat.reduceAdd, Nat.reduceSub, Array.replicate_succ, Array.replicate_zero, List.push_toArray, List.append_toArray, List.nil_append, List.cons_append]
  gi_wp2_with fail
  refine ⟨trivial, ?_⟩
  refine (numbers_in Fence.wide 4 trivial hro _ _ _).mono ?_
  rintro e w' ⟨rfl, rfl⟩
  have q0 := Boxed.new w 59 (.slice (some ⟨b, o, none⟩) P.length c)
  have q1 := Boxed.new (w.alloc (.cells #[.slice (some ⟨b, o, none⟩) P.length c] 59)) 3 (.int .i64 first)
  have q2 := blk_new ((w.alloc (.cells #[.slice (some ⟨b, o, none⟩) P.length c] 59)).alloc (.cells #[.int .i64 first] 3)) Tryz.zeroCells109 109
  have q3 := blk_new (((w.alloc (.cells #[.slice (some ⟨b, o, none⟩) P.length c] 59)).alloc (.cells #[.int .i64 first] 3)).alloc (.cells Tryz.zeroCells109 109)) Tryz.zeroCells109 109
  have q4 := Boxed.new ((((w.alloc (.cells #[.slice (some ⟨b, o, none⟩) P.length c] 59)).alloc (.cells #[.int .i64 first] 3)).alloc (.cells Tryz.zeroCells109 109)).alloc (.cells Tryz.zeroCells109 109)) 3 (.int .i64 0)
  simp only [World.size_alloc] at q1 q2 q3 q4 ⊢
  obtain ⟨Y, hY⟩ : ∃ Y, (((((w.alloc (.cells #[.slice (some ⟨b, o, none⟩) P.length c] 59)).alloc (.cells #[.int .i64 first] 3)).alloc (.cells Tryz.zeroCells109 109)).alloc (.cells Tryz.zeroCells109 109)).alloc (.cells #[.int .i64 0] 3)) = Y := ⟨_, rfl⟩
  have hYs : Y.heap.size = w.heap.size + 1 + 1 + 1 + 1 + 1 := by rw [← hY]; simp
  have hYI : BlI w (some ⟨b, o, none⟩) P.length c first (0 : Nat) (outC g m first 0) Y := by
    rw [← hY]
    exact ⟨(((q0.alloc _).alloc _).alloc _).alloc _, ((q1.alloc _).alloc _).alloc _, (q2.alloc _).alloc _, by rw [outC_zero]; exact q3.alloc _, q4, belPush (belPush (belPush (belPush (belAlloc _ _) _) _) _) _⟩
  clear q0 q1 q2 q3 q4
  rw [hY]
  clear hY
  obtain ⟨X, hX⟩ : ∃ X, (Y.alloc (.cells #[.int .i64 0] 3)).alloc (.cells #[.int .i64 128] 3) = X := ⟨_, rfl⟩
  have hXs : X.heap.size = w.heap.size + 1 + 1 + 1 + 1 + 1 + 1 + 1 := by rw [← hX]; simp [hYs]
  have hXg : Y.grownBy X none := by rw [← hX]; exact (World.grownBy_alloc _ _ _).trans (World.grownBy_alloc _ _ _)
  have c1 : X.cell? ⟨w.heap.size + 1 + 1 + 1 + 1 + 1, 0, none⟩ = some (.int .i64 0) := by
    have := (Boxed.new Y 3 (.int .i64 0)).alloc (.cells #[.int .i64 128] 3)
    rw [hX, hYs] at this
    exact this.cell
  have c2 : X.cell? ⟨w.heap.size + 1 + 1 + 1 + 1 + 1 + 1, 0, none⟩ = some (.int .i64 128) := by
    have := Boxed.new (Y.alloc (.cells #[.int .i64 0] 3)) 3 (.int .i64 128)
    rw [hX, World.size_alloc, hYs] at this
    exact this.cell
  have hXI := hYI.grown hXg (fun r e => by cases e)
  rw [hX]
  clear hX hXg hYI hYs
  have HX := Lib.hid hXI
  have hbe := hXI.be.size
  clear hXI
  gi_wp2_with fail
  refine wpIn_rangeBox hro h1 (gf := 102) (lb := #[.pointer (some ⟨w.heap.size + 1 + 1 + 1 + 1 + 1, 0, none⟩), .pointer (some ⟨w.heap.size + 1 + 1 + 1 + 1 + 1 + 1, 0, none⟩)]) rfl trivial (enters_of Tryz.func102 (by kernel_rfl) rfl)
    (numbers_seq Fence.wide (5 - 1) trivial hro (by omega) (w.heap.size + 1 + 1 + 1 + 1 + 1) (w.heap.size + 1 + 1 + 1 + 1 + 1 + 1) 0 128 (by omega) (by omega) X (by omega) (by omega) c1 c2) (fun _ => rfl)
    (fun k => k = w.heap.size + 1 + 1 + 1 ∨ k = w.heap.size + 1 + 1 + 1 + 1) ?hO (BkI w (some ⟨b, o, none⟩) c P g m first) (BkM w (some ⟨b, o, none⟩) c P g m first fun x => { tmps := #[.slice (some ⟨b, o, none⟩) P.length c, .int .i64 first,
      .pointer (some ⟨w.heap.size, 0, none⟩), .pointer (some ⟨w.heap.size + 1, 0, none⟩), .pointer (some ⟨w.heap.size + 1 + 1, 0, none⟩), .pointer (some ⟨w.heap.size + 1 + 1 + 1, 0, none⟩), .pointer (some ⟨w.heap.size + 1 + 1 + 1 + 1, 0, none⟩), .int .i64 (x : Int),
      .func (.func 102) #[] #[.pointer (some ⟨w.heap.size + 1 + 1 + 1 + 1 + 1, 0, none⟩), .pointer (some ⟨w.heap.size + 1 + 1 + 1 + 1 + 1 + 1, 0, none⟩)], .int .i64 (x : Int),
      undef, undef, undef, undef, undef, undef, undef, undef, undef, undef, undef, undef, undef, undef, undef, undef, undef, undef, undef, undef, undef, undef, undef, undef, undef, undef], defers := [] })
    (BkI.bears (by omega)) (BkM.bears (by omega)) ?start ?assign ?body ?done
  case hO =>
    rintro k (rfl | rfl)
    · exact ⟨by omega, by rintro (h | h) <;> omega⟩
    · exact ⟨by omega, by rintro (h | h) <;> omega⟩
  case start => exact ⟨fun _ => Iff.rfl, 0, p0, HP0.out, by have := tile_first HT.out.1 HP0.out; simp; omega, HX.out⟩
  case assign =>
    rintro l pre O x W hI hO hN
    simp only [encNum, Int.zero_add]
    gi_wp2
    exact ⟨World.grownBy.refl _ _, O, fun k h => .inl h, hO, hI, hN, rfl⟩
  case body =>
    rintro l pre O x a' W ⟨⟨hO, j, y, hy, hyf, hI⟩, ⟨hpre, hx⟩, hact⟩ hWs hlt
    dsimp only at hI hpre hx hact hyf
    subst hact
    subst hpre
    rw [List.length_range] at hyf hI
    have HI0 := Lib.hid hI
    have HO := Lib.hid hO
    have HY := Lib.hid hy
    clear hI hO hy
    have hx2 : (x : Int) < 128 := by omega
    have hx3 : (0 : Int) ≤ (x : Int) := by omega
    gi_wp2_with fail
    gi_loopw [] (fun wr => ∃ j y, Hid (P[j]? = some y ∧ BlI w (some ⟨b, o, none⟩) P.length c first j (outC g m first x) wr ∧ wr.heap.size = W.heap.size ∧ ∀ k, k ≠ w.heap.size + 1 + 1 + 1 + 1 → wr.heap[k]? = W.heap[k]?) ∧ y.f ≤ first + x) (fun wr => P.length - atOf wr (w.heap.size + 1 + 1 + 1 + 1))
    case atStart => exact ⟨j, y, Lib.hid ⟨HY.out, HI0.out, rfl, fun _ _ => rfl⟩, hyf⟩
    case round =>
      clear hyf HI0 HY
      obtain ⟨j, y, HI, hyf⟩ := hrel
      have hj : j < P.length := (List.getElem?_eq_some_iff.1 HI.out.1).1
      have hsz := HI.out.2.2.1
      have e0 := Boxed.cell HI.out.2.1.pcs
      have e1 := Boxed.cell HI.out.2.1.fst
      have e4 := Boxed.cell HI.out.2.1.at_
      have f4 := Boxed.frozen HI.out.2.1.at_
      obtain ⟨y', b', o', hy', e, _, _, c0, c1', c2', c3'⟩ := (HL.out.later HI.out.2.1.be).pieceP hj
      injection e with e
      injection e with e e'
      subst e; subst e'
      obtain rfl : y' = y := Option.some.inj (hy'.symm.trans HI.out.1)
      clear hy' c0
      have hat : atOf wr (w.heap.size + 1 + 1 + 1 + 1) = j := by unfold atOf; rw [e4]; rfl
      have hb2 : b < wr.heap.size := Nat.lt_of_lt_of_le hb HI.out.2.1.be.size
      have hbd := tile_bd HT.out.1 (List.mem_of_getElem? HI.out.1)
      have i0 : (0 : Int) ≤ (j : Int) := by omega
      have i1 : (j : Int) < (P.length : Int) := by omega
      have i2 : (j : Int) + 1 ≤ 100001 := by omega
      have i3 : first + (x : Int) ≤ 10000128 := by omega
      have i4 : 0 ≤ first + (x : Int) := by omega
      have v1 : IntKind.i64.wrap (first + (x : Int)) = first + (x : Int) := IntWalk.i64_in _ (by omega)
      have v2 : IntKind.i64.wrap ((j : Int) + 1) = (j : Int) + 1 := IntWalk.i64_in _ (by omega)
      by_cases hgt : y'.t < first + (x : Int)
      · have d1 : decide (y'.t < first + (x : Int)) = true := decide_eq_true hgt
        by_cases hmore : j + 1 < P.length
        · have d2 : decide ((j : Int) + 1 < (P.length : Int)) = true := decide_eq_true (by omega)
          gi_upto_region 5 with fail
          refine region_round_lit l rfl (by kernel_rfl) (by kernel_rfl) (by kernel_rfl) ?_
          repeat (gi_big_quiet_step (fail))
          refine wpQuietIn_nil ?_
          rintro _ ⟨nq, rfl⟩
          gi_wp2_with fail
          go_roundw
          case rel =>
            have hnx : P[j + 1]? = some P[j + 1] := List.getElem?_eq_getElem hmore
            have hn2 := tile_next HT.out.1 HI.out.1 hnx
            refine ⟨j + 1, _, Lib.hid ⟨hnx, (HI.out.2.1.drewN nq).next (j + 1), by simpa using hsz, fun k hk => (Below.heap_setCell _ _ _ _ hk).trans (HI.out.2.2.2 k hk)⟩, by omega⟩
          case measure =>
            rw [hat]
            have := Boxed.cell ((HI.out.2.1.drewN nq).next (j + 1)).at_
            have h2 : atOf ((wr.drewN nq).setCell ⟨w.heap.size + 1 + 1 + 1 + 1, 0, none⟩ (.int .i64 ((j + 1 : Nat) : Int))) (w.heap.size + 1 + 1 + 1 + 1) = j + 1 := by unfold atOf; rw [this]; rfl
            first | (rw [h2]; omega) | (have h3 := h2; push_cast at h3; rw [h3]; omega)
        · have d2 : decide ((j : Int) + 1 < (P.length : Int)) = false := decide_eq_false (by omega)
          have hy0 := outC_len g m first x
          obtain ⟨u3, hu3⟩ := outC_at g m first x (x * 2) (by omega)
          obtain ⟨u4, hu4⟩ := outC_at g m first x (x * 2 + 1) (by omega)
          have o3 : wr.cell? ⟨w.heap.size + 1 + 1 + 1, x * 2, none⟩ = some u3 := by rw [HI.out.2.1.out.2.1 (x * 2)]; simpa using hu3
          have o4 : wr.cell? ⟨w.heap.size + 1 + 1 + 1, x * 2 + 1, none⟩ = some u4 := by rw [HI.out.2.1.out.2.1 (x * 2 + 1)]; simpa using hu4
          have f3 := HI.out.2.1.out.2.2 (x * 2)
          have f4_ := HI.out.2.1.out.2.2 (x * 2 + 1)
          clear hu3 hu4
          have HV := Lib.hid (bval_is HT.out.1 HT.out.2 HI.out.1 hyf (.inr (by omega)))
          gi_upto_region 5 with fail
          refine region_round_lit l rfl (by kernel_rfl) (by kernel_rfl) (by kernel_rfl) ?_
          repeat (gi_big_quiet_step (fail))
          refine wpQuietIn_nil ?_
          rintro _ ⟨nq, rfl⟩
          gi_wp2_with fail
          exact blk_round HT.out.1 HI.out hyf HO.out hsz HV.out hx (fun k hk => hlt k hk) nq
      · have d1 : decide (y'.t < first + (x : Int)) = false := decide_eq_false hgt
        have hy0 := outC_len g m first x
        obtain ⟨u3, hu3⟩ := outC_at g m first x (x * 2) (by omega)
        obtain ⟨u4, hu4⟩ := outC_at g m first x (x * 2 + 1) (by omega)
        have o3 : wr.cell? ⟨w.heap.size + 1 + 1 + 1, x * 2, none⟩ = some u3 := by rw [HI.out.2.1.out.2.1 (x * 2)]; simpa using hu3
        have o4 : wr.cell? ⟨w.heap.size + 1 + 1 + 1, x * 2 + 1, none⟩ = some u4 := by rw [HI.out.2.1.out.2.1 (x * 2 + 1)]; simpa using hu4
        have f3 := HI.out.2.1.out.2.2 (x * 2)
        have f4_ := HI.out.2.1.out.2.2 (x * 2 + 1)
        clear hu3 hu4
        have HV := Lib.hid (bval_is HT.out.1 HT.out.2 HI.out.1 hyf (.inl (by omega)))
        gi_upto_region 5 with fail
        refine region_round_lit l rfl (by kernel_rfl) (by kernel_rfl) (by kernel_rfl) ?_
        repeat (gi_big_quiet_step (fail))
        refine wpQuietIn_nil ?_
        rintro _ ⟨nq, rfl⟩
        gi_wp2_with fail
        exact blk_round HT.out.1 HI.out hyf HO.out hsz HV.out hx (fun k hk => hlt k hk) nq
  case done =>
    rintro xs O W rfl ⟨hO, j, y, _, _, hI⟩ hK hn
    gi_upto_region 8 with fail
    have hlen128 := outC_len g m first 128
    rw [List.length_range] at hI
    have r3 : W.rangeAt (w.heap.size + 1 + 1 + 1) 0 (outC g m first 128) := fun i v hv => by
      rw [Nat.zero_add, hI.out.2.1 i]
      simpa using hv
    apply wpIn_region_lit
    refine wpListIn_plain rfl fun K2 hK2 => ?_
    refine opIn_load_mid 109 (Operand.tmp 5) rfl (w.heap.size + 1 + 1 + 1) 0 rfl (outC g m first 128) _ r3 Tryz.underlying109 rfl (by rw [hlen128]; kernel_rfl) ?_
    refine hK2 _ _ ?_
    clear hK2 K2
    refine wpListIn_plain rfl fun K2 hK2 => ?_
    refine opIn_store_mid 109 (Operand.tmp 4) (Operand.tmp 35) rfl (w.heap.size + 1 + 1) 0 (outC g m first 128).toArray rfl rfl ?there (by rw [List.size_toArray, hlen128]; kernel_rfl) ?one ?_
    case there =>
      intro i hi
      rw [List.size_toArray, hlen128] at hi
      rw [Nat.zero_add]
      exact ⟨by rw [hI.res.2.1 i, Array.getElem?_eq_getElem (by have : (Tryz.zeroCells109).size = 256 := by kernel_rfl
                                                                omega)]; rfl, hI.res.2.2 i⟩
    case one => exact all_oneCell_toArray (outC_one g m first 128)
    refine hK2 _ _ ?_
    clear hK2 K2
    apply wpListIn_nil
    have hth : W.there (w.heap.size + 1 + 1) 0 (outC g m first 128).length := by
      intro i hi
      rw [hlen128] at hi
      rw [Nat.zero_add]
      exact ⟨by rw [hI.res.2.1 i, Array.getElem?_eq_getElem (by have : (Tryz.zeroCells109).size = 256 := by kernel_rfl
                                                                omega)]; rfl, hI.res.2.2 i⟩
    have r4 := W.rangeAt_setCells_same (w.heap.size + 1 + 1) 0 (outC g m first 128) hth
    have hg4 := grow_setCells (w.heap.size + 1 + 1) (outC g m first 128) 0 W
    have hK4 := (hg4.block X.heap.size (Array.getElem?_eq_some_iff.1 hK).1 (by intro e; injection e with e; omega)).trans hK
    have hb4 := hI.be.grown hg4 hI.be.size (fun k e => by cases e; omega)
    obtain ⟨V, hV⟩ : ∃ V, W.setCells (w.heap.size + 1 + 1) 0 (outC g m first 128) = V := ⟨_, rfl⟩
    rw [hV] at r4 hg4 hK4 hb4
    have hg5 := grownBy_putObj' V X.heap.size (.deferred none)
    have r5 : (V.putObj X.heap.size (.deferred none)).rangeAt (w.heap.size + 1 + 1) 0 (outC g m first 128) := fun i v hv => (World.cell?_of_block (a := ⟨w.heap.size + 1 + 1, 0 + i, none⟩) (hg5.block _ (World.block_lt_of_cell? V _ (r4 i v hv)) (by intro e; injection e with e; have e' : w.heap.size + 1 + 1 = X.heap.size := e; omega))).trans (r4 i v hv)
    gi_wp2
    rw [hV]
    refine ⟨by simp, .inl ⟨_, _, rfl, run_takeDeferred hK4, ?_⟩⟩
    refine ⟨.agg (outC g m first 128).toArray, results_cell_mid rfl _ _ (w.heap.size + 1 + 1) 0 rfl _ _ r5 Tryz.underlying109 rfl (by rw [hlen128]; kernel_rfl), by rw [outC_all], ?_⟩
    exact hb4.grown hg5 hb4.size (fun k e => by cases e; omega)
theorem block_any (A : Option Addr) (c : Nat) (P : List (Pc V2)) (g : Int → V2) (lo m first : Int) (w : World) (hLi : Li 4 encP w (fun _ => True) A P) (hT : Tile lo m P) (hV : Vals g P) (hne : 0 < P.length) (hlen : P.length ≤ 100000) (hcl : P.length ≤ c) (hf0 : 0 ≤ first) (hf : lo ≤ first) (hm : first < m) (hm2 : m ≤ 10000000) :
    Calls Tryz.prog 76 #[.slice A P.length c, .int .i64 first] w (TellsB g m first w) :=
  (callsIn_wide (n := 5)).1 (block_in A c P g lo m first w hLi hT hV hne hlen hcl hf0 hf hm hm2)
end Go.Proofs.YtggapcfjcdafpaaGreat.TP

/- script: Print. -/
import Derived.Test.YtjkhkohlejkdlaaDoorScPa
namespace Go.Proofs.YtjkhkohlejkdlaaDoor
open Go.RowKit
set_option linter.unusedVariables false
set_option linter.unusedSimpArgs false

theorem run_cat (w : World) (x y : ByteArray) (h : x.size + y.size ≤ 1000000) : (Op.stringOp .add x y).run Tryd.prog w = .ok (.string (x ++ y)) w := by
  simp [go_sem]
  omega
theorem size_cat (x y : ByteArray) : (x ++ y).size = x.size + y.size := ByteArray.size_append
theorem and_fin : ∀ n : Fin 256, bits .and .u8 (n.val : Int) 15 = (n.val : Int) % 16 := by decide +kernel
theorem and_is {n : Nat} (h : n < 256) : bits .and .u8 (n : Int) 15 = (n : Int) % 16 := and_fin ⟨n, h⟩
theorem hex_ix {n : Nat} (h : n < hexT.size) : hexT[n]'h = hexC n := (byte_is hexT h).symm
def PrintOut (w w' : World) (r : List UInt8 × Int) (e : Ending) : Prop := e = .returned (.tuple #[.string (ba r.1), .int .i64 r.2]) ∧ Below w.heap.size w w'
set_option maxRecDepth 100000 in
set_option maxHeartbeats 8000000 in
theorem print_any (A : Option Addr) (c : Nat) (L : List Evt) (w : World) (hT : TabW w.heap.size w) (hL : LiV 4 encE w (fun _ => True) (.slice A L.length c) L) (hB : ∀ x ∈ L, Byt x) : Calls Tryd.prog 12 #[.slice A L.length c] w fun e w' => PrintOut w w' (printS L) e := by
  obtain ⟨N, hN⟩ : ∃ N, L.length = N := ⟨_, rfl⟩
  by_cases h : 65536 < L.length
  · have hR : printS L = ([], 7) := by unfold printS; rw [if_pos h]
    rw [hR]
    rw [hN] at h ⊢
    have d1 : (65536 : Int) < (N : Int) := by omega
    clear hR hL hT
    go_enter Tryd.func12, Tryd.ntmps12
    go_wp2_with fail
    go_ret2
    exact ⟨rfl, Below.refl _ _⟩
  · have hR := printS_short h
    obtain ⟨R, hR2⟩ : ∃ R, printL 0 L = R := ⟨_, rfl⟩
    rw [hR2] at hR
    rw [hR]
    have HR := Lib.hid (show (printL 0 (L.drop 0)).map (([] : List UInt8) ++ ·) = R by rw [List.drop_zero, hR2]; cases R <;> rfl)
    have HLi := Lib.hid hL.parts.2.1
    have HB := Lib.hid hB
    have HT := Lib.hid hT
    rw [hN] at h ⊢
    have HN := Lib.hid hN
    have d1 : ¬ (65536 : Int) < (N : Int) := by omega
    clear hR hR2 hL hT hB hN
    go_enter Tryd.func12, Tryd.ntmps12
    go_wp2_with fail
    go_loopw [5, 13] (fun o i wr => ∃ k q : Nat, k ≤ N ∧ q ≤ 32 ∧ i = .int .i64 (k : Nat) ∧ o = .int .i64 (q : Nat) ∧ w.heap.size < wr.heap.size ∧ Hid (∃ acc, (printL q (L.drop k)).map (acc ++ ·) = R ∧ acc.length ≤ 16 * k ∧ BldIs w.heap.size acc wr ∧ Below w.heap.size w wr)) (fun _ i _ => N - (intOf i).toNat)
    case atStart => exact ⟨0, 0, Nat.zero_le _, by omega, rfl, rfl, by simp, Lib.hid ⟨[], HR.out, by simp, bldIs_new w, (Below.refl _ _).alloc (Nat.le_refl _) _⟩⟩
    case round =>
      clear d1
      obtain ⟨k, q, hk, hq, rfl, rfl, hne, H⟩ := hrel
      obtain ⟨acc, h1, h2, h3, h4⟩ := H.out
      have H1 := Lib.hid (And.intro h1 (And.intro h3 h4))
      have hsW := h4.size
      clear H h1 h3 h4
      by_cases hlt : k < N
      · have hki : (k : Int) < (N : Int) := by omega
        have hk0 : (0 : Int) ≤ (k : Int) := by omega
        have hkL : k < L.length := by rw [HN.out]; exact hlt
        obtain ⟨x, b, o, hx, rfl, hbl, c0, c1, c2, c3⟩ := (HLi.out.later H1.out.2.2).evt hkL
        have HX := Lib.hid (And.intro hx (printL_step hx q acc))
        obtain ⟨hbx0, hbx1⟩ := HB.out x (List.mem_of_getElem? hx)
        obtain ⟨W1, hW1⟩ : ∃ W1, wr.alloc (.cells #[.int .i64 x.kind, .int .u8 x.byte, .int .i64 x.rows, .int .i64 x.cols] 40) = W1 := ⟨_, rfl⟩
        have CK := Lib.hid (known_any x W1)
        obtain ⟨xk, xb, xr, xc⟩ := x
        dsimp only at hbx0 hbx1 c0 c1 c2 c3 hW1
        obtain ⟨kn, hkn⟩ : ∃ kn, knownP ⟨xk, xb, xr, xc⟩ = kn := ⟨_, rfl⟩
        rw [hkn] at CK
        have HK := Lib.hid hkn
        have HI1 := Lib.hid (show PrI w wr.heap.size ⟨xk, xb, xr, xc⟩ acc W1 from ⟨by rw [← hW1]; exact H1.out.2.1.alloc _, by rw [← hW1]; exact H1.out.2.2.alloc hsW _, by rw [← hW1]; exact heap_alloc_new wr _, by have := hne; omega⟩)
        have hkk : k + 1 ≤ 65536 := by omega
        obtain ⟨z0, z1, z2, z3⟩ := HI1.out.cells
        dsimp only at z0 z1 z2 z3
        clear hx hkn
        go_wp2_with fail
        refine CK.out.mono ?_
        rintro e w2 ⟨rfl, bk⟩
        have HI2 := Lib.hid (HI1.out.later bk)
        clear CK bk hW1 c0 c1 c2 c3 z0 z1 z2 z3 HI1
        obtain ⟨e0, e1, e2, e3⟩ := HI2.out.cells
        dsimp only at e0 e1 e2 e3
        cases kn with
        | false =>
          obtain rfl : R = none := by rw [← H1.out.1, HX.out.2, HK.out]; rfl
          go_wp2_with fail
          go_ret2
          exact ⟨rfl, HI2.out.below⟩
        | true =>
          have HS := Lib.hid (show (printL (nxt q ⟨xk, xb, xr, xc⟩) (L.drop (k + 1))).map ((acc ++ outS q ⟨xk, xb, xr, xc⟩) ++ ·) = R by rw [← H1.out.1, HX.out.2, HK.out]; rfl)
          have hol := outS_len HK.out q
          have hal : acc.length ≤ 1048576 := by omega
          rcases known_kind HK.out with hk1 | hk1 | ⟨hk1, r0, r1, r2, r3⟩
          · dsimp only at hk1
            subst hk1
            obtain ⟨n, rfl⟩ : ∃ n : Nat, xb = (n : Int) := ⟨xb.toNat, by omega⟩
            have hn : n < 256 := by omega
            have hd0 : (0 : Int) ≤ (n : Int) / 16 := by omega
            have hd1 : (n : Int) / 16 < 16 := by omega
            have hd2 : (0 : Int) ≤ (n : Int) % 16 := by omega
            have hd3 : (n : Int) % 16 < 16 := by omega
            have hb : bits .and .u8 (n : Int) 15 = (n : Int) % 16 := and_is hn
            have HXE := Lib.hid (show hxE ⟨1, (n : Int), xr, xc⟩ = [hexT[((n : Int) / 16).toNat]'(by show _ < 16; omega), hexT[((n : Int) % 16).toNat]'(by show _ < 16; omega)] by
              rw [hex_ix, hex_ix]
              unfold hxE
              rw [show ((n : Int) / 16).toNat = n / 16 by omega, show ((n : Int) % 16).toNat = n % 16 by omega]
              rfl)
            by_cases hq0 : q = 0
            · subst hq0
              rw [(out_B (x := ⟨1, (n : Int), xr, xc⟩) rfl).1, (out_B (x := ⟨1, (n : Int), xr, xc⟩) rfl).2, HXE.out] at HS
              rw [(out_B (x := ⟨1, (n : Int), xr, xc⟩) rfl).1, HXE.out] at hol
              clear HXE
              go_wp2_with fail
              refine (HI2.out.write _ (by first | omega | (simp; omega) | (simp [ByteArray.size]; omega))).mono ?_
              rintro e w3 ⟨rfl, H3⟩
              have HI3 := Lib.hid H3
              clear H3
              obtain ⟨e0, e1, e2, e3⟩ := HI3.out.cells
              dsimp only at e0 e1 e2 e3
              go_wp2_with fail
              refine (HI3.out.byte _ (by first | omega | (simp; omega) | (simp [ByteArray.size]; omega))).mono ?_
              rintro e w4 ⟨rfl, H4⟩
              have HI4 := Lib.hid H4
              clear H4
              obtain ⟨e0, e1, e2, e3⟩ := HI4.out.cells
              dsimp only at e0 e1 e2 e3
              go_wp2_with fail
              refine (HI4.out.byte _ (by first | omega | (simp; omega) | (simp [ByteArray.size]; omega))).mono ?_
              rintro e w5 ⟨rfl, H5⟩
              have HI5 := Lib.hid H5
              clear H5
              obtain ⟨e0, e1, e2, e3⟩ := HI5.out.cells
              dsimp only at e0 e1 e2 e3
              go_wp2_with fail
              go_roundw
              case rel => exact ⟨k + 1, 1, by omega, by omega, by go_num, by first | rfl | go_num, Nat.lt_trans hne (Array.getElem?_eq_some_iff.1 HI5.out.box).1, Lib.hid ⟨_, HS.out, by rw [List.length_append]; omega, by have := HI5.out.bld; first | exact (by simp only [List.append_assoc, List.cons_append, List.nil_append] at this; exact this) | simpa [List.append_assoc, bytesT, tickT, hexT, restS] using this, HI5.out.below⟩⟩
              case measure => simp [intOf]; omega
            · by_cases hq32 : q = 32
              · subst hq32
                rw [(out_A (x := ⟨1, (n : Int), xr, xc⟩) rfl).1, (out_A (x := ⟨1, (n : Int), xr, xc⟩) rfl).2, HXE.out] at HS
                rw [(out_A (x := ⟨1, (n : Int), xr, xc⟩) rfl).1, HXE.out] at hol
                clear HXE
                go_wp2_with fail
                refine (HI2.out.write _ (by first | omega | (simp; omega) | (simp [ByteArray.size]; omega))).mono ?_
                rintro e w3 ⟨rfl, H3⟩
                have HI3 := Lib.hid H3
                clear H3
                obtain ⟨e0, e1, e2, e3⟩ := HI3.out.cells
                dsimp only at e0 e1 e2 e3
                go_wp2_with fail
                refine (HI3.out.write _ (by first | omega | (simp; omega) | (simp [ByteArray.size]; omega))).mono ?_
                rintro e w4 ⟨rfl, H4⟩
                have HI4 := Lib.hid H4
                clear H4
                obtain ⟨e0, e1, e2, e3⟩ := HI4.out.cells
                dsimp only at e0 e1 e2 e3
                go_wp2_with fail
                refine (HI4.out.byte _ (by first | omega | (simp; omega) | (simp [ByteArray.size]; omega))).mono ?_
                rintro e w5 ⟨rfl, H5⟩
                have HI5 := Lib.hid H5
                clear H5
                obtain ⟨e0, e1, e2, e3⟩ := HI5.out.cells
                dsimp only at e0 e1 e2 e3
                go_wp2_with fail
                refine (HI5.out.byte _ (by first | omega | (simp; omega) | (simp [ByteArray.size]; omega))).mono ?_
                rintro e w6 ⟨rfl, H6⟩
                have HI6 := Lib.hid H6
                clear H6
                obtain ⟨e0, e1, e2, e3⟩ := HI6.out.cells
                dsimp only at e0 e1 e2 e3
                go_wp2_with fail
                go_roundw
                case rel => exact ⟨k + 1, 1, by omega, by omega, by go_num, by first | rfl | go_num, Nat.lt_trans hne (Array.getElem?_eq_some_iff.1 HI6.out.box).1, Lib.hid ⟨_, HS.out, by rw [List.length_append]; omega, by have := HI6.out.bld; first | exact (by simp only [List.append_assoc, List.cons_append, List.nil_append] at this; exact this) | simpa [List.append_assoc, bytesT, tickT, hexT, restS] using this, HI6.out.below⟩⟩
                case measure => simp [intOf]; omega
              · have dq : (0 : Int) < (q : Int) := by omega
                have dq2 : ((q : Int) == 32) = false := by simp; omega
                have dq3 : ((q : Int) == 0) = false := by simp; omega
                rw [(out_C (x := ⟨1, (n : Int), xr, xc⟩) (o := q) rfl (by omega) (by omega)).1, (out_C (x := ⟨1, (n : Int), xr, xc⟩) (o := q) rfl (by omega) (by omega)).2, HXE.out] at HS
                rw [(out_C (x := ⟨1, (n : Int), xr, xc⟩) (o := q) rfl (by omega) (by omega)).1, HXE.out] at hol
                clear HXE
                go_wp2_with fail
                refine (HI2.out.byte _ (by first | omega | (simp; omega) | (simp [ByteArray.size]; omega))).mono ?_
                rintro e w3 ⟨rfl, H3⟩
                have HI3 := Lib.hid H3
                clear H3
                obtain ⟨e0, e1, e2, e3⟩ := HI3.out.cells
                dsimp only at e0 e1 e2 e3
                go_wp2_with fail
                refine (HI3.out.byte _ (by first | omega | (simp; omega) | (simp [ByteArray.size]; omega))).mono ?_
                rintro e w4 ⟨rfl, H4⟩
                have HI4 := Lib.hid H4
                clear H4
                obtain ⟨e0, e1, e2, e3⟩ := HI4.out.cells
                dsimp only at e0 e1 e2 e3
                go_wp2_with fail
                go_roundw
                case rel => exact ⟨k + 1, q + 1, by omega, by omega, by go_num, by first | rfl | go_num, Nat.lt_trans hne (Array.getElem?_eq_some_iff.1 HI4.out.box).1, Lib.hid ⟨_, HS.out, by rw [List.length_append]; omega, by have := HI4.out.bld; first | exact (by simp only [List.append_assoc, List.cons_append, List.nil_append] at this; exact this) | simpa [List.append_assoc, bytesT, tickT, hexT, restS] using this, HI4.out.below⟩⟩
                case measure => simp [intOf]; omega
          · dsimp only at hk1
            subst hk1
            by_cases hq0 : q = 0
            · subst hq0
              rw [(out_E (x := ⟨2, xb, xr, xc⟩) (by simp)).1, (out_E (x := ⟨2, xb, xr, xc⟩) (by simp)).2] at HS
              rw [(out_E (x := ⟨2, xb, xr, xc⟩) (by simp)).1] at hol
              go_wp2_with fail
              refine (HI2.out.write _ (by first | omega | (simp; omega) | (simp [ByteArray.size]; omega))).mono ?_
              rintro e w3 ⟨rfl, H3⟩
              have HI3 := Lib.hid H3
              clear H3
              obtain ⟨e0, e1, e2, e3⟩ := HI3.out.cells
              dsimp only at e0 e1 e2 e3
              go_wp2_with fail
              go_roundw
              case rel => exact ⟨k + 1, 0, by omega, by omega, by go_num, by first | rfl | go_num, Nat.lt_trans hne (Array.getElem?_eq_some_iff.1 HI3.out.box).1, Lib.hid ⟨_, HS.out, by rw [List.length_append]; omega, by have := HI3.out.bld; first | exact (by simp only [List.append_assoc, List.cons_append, List.nil_append] at this; exact this) | simpa [List.append_assoc, bytesT, tickT, hexT, restS] using this, HI3.out.below⟩⟩
              case measure => simp [intOf]; omega
            · have dq : (0 : Int) < (q : Int) := by omega
              rw [(out_D (x := ⟨2, xb, xr, xc⟩) (o := q) (by simp) (by omega)).1, (out_D (x := ⟨2, xb, xr, xc⟩) (o := q) (by simp) (by omega)).2] at HS
              rw [(out_D (x := ⟨2, xb, xr, xc⟩) (o := q) (by simp) (by omega)).1] at hol
              go_wp2_with fail
              refine (HI2.out.write _ (by first | omega | (simp; omega) | (simp [ByteArray.size]; omega))).mono ?_
              rintro e w3 ⟨rfl, H3⟩
              have HI3 := Lib.hid H3
              clear H3
              obtain ⟨e0, e1, e2, e3⟩ := HI3.out.cells
              dsimp only at e0 e1 e2 e3
              go_wp2_with fail
              refine (HI3.out.write _ (by first | omega | (simp; omega) | (simp [ByteArray.size]; omega))).mono ?_
              rintro e w4 ⟨rfl, H4⟩
              have HI4 := Lib.hid H4
              clear H4
              obtain ⟨e0, e1, e2, e3⟩ := HI4.out.cells
              dsimp only at e0 e1 e2 e3
              go_wp2_with fail
              go_roundw
              case rel => exact ⟨k + 1, 0, by omega, by omega, by go_num, by first | rfl | go_num, Nat.lt_trans hne (Array.getElem?_eq_some_iff.1 HI4.out.box).1, Lib.hid ⟨_, HS.out, by rw [List.length_append]; omega, by have := HI4.out.bld; first | exact (by simp only [List.append_assoc, List.cons_append, List.nil_append] at this; exact this) | simpa [List.append_assoc, bytesT, tickT, hexT, restS] using this, HI4.out.below⟩⟩
              case measure => simp [intOf]; omega
          · dsimp only at hk1 r0 r1 r2 r3
            subst hk1
            obtain ⟨nr, rfl⟩ : ∃ n : Nat, xr = (n : Int) := ⟨xr.toNat, by omega⟩
            obtain ⟨nc, rfl⟩ : ∃ n : Nat, xc = (n : Int) := ⟨xc.toNat, by omega⟩
            have hRS : restS ⟨3, xb, (nr : Int), (nc : Int)⟩ = (⟨#[115, 105, 122, 101, 32]⟩ ++ dig nr ++ ⟨#[32]⟩ ++ dig nc ++ ⟨#[10]⟩ : ByteArray).data.toList := by
              unfold restS
              rw [if_neg (by simp)]
              simp [dig, sizeT]
            by_cases hq0 : q = 0
            · subst hq0
              rw [(out_E (x := ⟨3, xb, (nr : Int), (nc : Int)⟩) (by simp)).1, (out_E (x := ⟨3, xb, (nr : Int), (nc : Int)⟩) (by simp)).2, hRS] at HS
              rw [(out_E (x := ⟨3, xb, (nr : Int), (nc : Int)⟩) (by simp)).1, hRS] at hol
              clear hRS
              have HC := Lib.hid (show ∀ X, Below w2.heap.size w2 X → (fun X => X.cell? ⟨wr.heap.size, 2, none⟩ = some (.int .i64 (nr : Int)) ∧ X.cell? ⟨wr.heap.size, 3, none⟩ = some (.int .i64 (nc : Int))) X from fun X hX => (HI2.out.later hX).cells.2.2)
              have s1 : (dig nr).size ≤ 4 := dec_four (n := nr) (by omega)
              have s2 : (dig nc).size ≤ 4 := dec_four (n := nc) (by omega)
              have CI1 := Lib.hid (fun X (hX : Below w2.heap.size w2 X) => itoa_any (tabW_next HT.out (Nat.le_refl _) (HI2.out.later hX).below) nr (by omega))
              have CI2 := Lib.hid (fun X (hX : Below w2.heap.size w2 X) => itoa_any (tabW_next HT.out (Nat.le_refl _) (HI2.out.later hX).below) nc (by omega))
              obtain ⟨D1, hD1⟩ : ∃ D, dig nr = D := ⟨_, rfl⟩
              obtain ⟨D2, hD2⟩ : ∃ D, dig nc = D := ⟨_, rfl⟩
              rw [hD1] at s1 CI1 HS hol
              rw [hD2] at s2 CI2 HS hol
              have u1 : (⟨#[115, 105, 122, 101, 32]⟩ : ByteArray).size = 5 := rfl
              have u2 : (⟨#[32]⟩ : ByteArray).size = 1 := rfl
              have u3 : (⟨#[10]⟩ : ByteArray).size = 1 := rfl
              have k1 := fun w => run_cat w ⟨#[115, 105, 122, 101, 32]⟩ D1 (by omega)
              have k2 := fun w => run_cat w (⟨#[115, 105, 122, 101, 32]⟩ ++ D1) ⟨#[32]⟩ (by rw [size_cat]; omega)
              have k3 := fun w => run_cat w (⟨#[115, 105, 122, 101, 32]⟩ ++ D1 ++ ⟨#[32]⟩) D2 (by rw [size_cat, size_cat]; omega)
              have k4 := fun w => run_cat w (⟨#[115, 105, 122, 101, 32]⟩ ++ D1 ++ ⟨#[32]⟩ ++ D2) ⟨#[10]⟩ (by rw [size_cat, size_cat, size_cat]; omega)
              have CW := Lib.hid (fun X (hX : Below w2.heap.size w2 X) => (HI2.out.later hX).write (⟨#[115, 105, 122, 101, 32]⟩ ++ D1 ++ ⟨#[32]⟩ ++ D2 ++ ⟨#[10]⟩) (by
                rw [size_cat, size_cat, size_cat, size_cat]
                first | omega | (simp; omega)))
              clear hD1 hD2 s1 s2 u1 u2 u3
              have hK := Lib.hid (Below.refl w2.heap.size w2)
              go_wp2_with fail
              go_region_held3 (fun X => X.cell? ⟨wr.heap.size, 2, none⟩ = some (.int .i64 (nr : Int)) ∧ X.cell? ⟨wr.heap.size, 3, none⟩ = some (.int .i64 (nc : Int)))
                (first | exact HC.out _ (by assumption) | exact H8.cells.2.2 | go_keep)
                (first
                | (go_at_call 24; (first | refine (CI1.out _ (by first | assumption | exact hK.out | exact hK.out.drew)).mono ?_ | refine (CI2.out _ (by first | assumption | exact hK.out | exact hK.out.drew)).mono ?_); rintro e w7 ⟨rfl, hb7⟩; have hB7 := below_next (w := w2) (by first | assumption | exact hK.out | exact hK.out.drew) hb7; clear hb7)
                | (go_at_call 22; refine (CW.out _ (by first | assumption | exact hK.out | exact hK.out.drew)).mono ?_; rintro e w8 ⟨rfl, H8⟩))
              have HI9 := Lib.hid H8
              clear H8 hK k1 k2 k3 k4 CI1 CI2 CW
              go_wp2_with fail
              go_roundw
              case rel => exact ⟨k + 1, 0, by omega, by omega, by go_num, by first | rfl | go_num, Nat.lt_trans hne (Array.getElem?_eq_some_iff.1 HI9.out.box).1, Lib.hid ⟨_, HS.out, by rw [List.length_append]; omega, by have := HI9.out.bld; first | exact (by simp only [List.append_assoc, List.cons_append, List.nil_append] at this; exact this) | simpa [List.append_assoc, bytesT, tickT, hexT, restS] using this, HI9.out.below⟩⟩
              case measure => simp [intOf]; omega
            · have dq : (0 : Int) < (q : Int) := by omega
              rw [(out_D (x := ⟨3, xb, (nr : Int), (nc : Int)⟩) (o := q) (by simp) (by omega)).1, (out_D (x := ⟨3, xb, (nr : Int), (nc : Int)⟩) (o := q) (by simp) (by omega)).2, hRS] at HS
              rw [(out_D (x := ⟨3, xb, (nr : Int), (nc : Int)⟩) (o := q) (by simp) (by omega)).1, hRS] at hol
              clear hRS
              go_wp2_with fail
              refine (HI2.out.write _ (by first | omega | (simp; omega) | (simp [ByteArray.size]; omega))).mono ?_
              rintro e w3 ⟨rfl, H3⟩
              have HI3 := Lib.hid H3
              clear H3
              obtain ⟨e0, e1, e2, e3⟩ := HI3.out.cells
              dsimp only at e0 e1 e2 e3
              have HC := Lib.hid (show ∀ X, Below w3.heap.size w3 X → (fun X => X.cell? ⟨wr.heap.size, 2, none⟩ = some (.int .i64 (nr : Int)) ∧ X.cell? ⟨wr.heap.size, 3, none⟩ = some (.int .i64 (nc : Int))) X from fun X hX => (HI3.out.later hX).cells.2.2)
              have s1 : (dig nr).size ≤ 4 := dec_four (n := nr) (by omega)
              have s2 : (dig nc).size ≤ 4 := dec_four (n := nc) (by omega)
              have CI1 := Lib.hid (fun X (hX : Below w3.heap.size w3 X) => itoa_any (tabW_next HT.out (Nat.le_refl _) (HI3.out.later hX).below) nr (by omega))
              have CI2 := Lib.hid (fun X (hX : Below w3.heap.size w3 X) => itoa_any (tabW_next HT.out (Nat.le_refl _) (HI3.out.later hX).below) nc (by omega))
              obtain ⟨D1, hD1⟩ : ∃ D, dig nr = D := ⟨_, rfl⟩
              obtain ⟨D2, hD2⟩ : ∃ D, dig nc = D := ⟨_, rfl⟩
              rw [hD1] at s1 CI1 HS hol
              rw [hD2] at s2 CI2 HS hol
              have u1 : (⟨#[115, 105, 122, 101, 32]⟩ : ByteArray).size = 5 := rfl
              have u2 : (⟨#[32]⟩ : ByteArray).size = 1 := rfl
              have u3 : (⟨#[10]⟩ : ByteArray).size = 1 := rfl
              have k1 := fun w => run_cat w ⟨#[115, 105, 122, 101, 32]⟩ D1 (by omega)
              have k2 := fun w => run_cat w (⟨#[115, 105, 122, 101, 32]⟩ ++ D1) ⟨#[32]⟩ (by rw [size_cat]; omega)
              have k3 := fun w => run_cat w (⟨#[115, 105, 122, 101, 32]⟩ ++ D1 ++ ⟨#[32]⟩) D2 (by rw [size_cat, size_cat]; omega)
              have k4 := fun w => run_cat w (⟨#[115, 105, 122, 101, 32]⟩ ++ D1 ++ ⟨#[32]⟩ ++ D2) ⟨#[10]⟩ (by rw [size_cat, size_cat, size_cat]; omega)
              have CW := Lib.hid (fun X (hX : Below w3.heap.size w3 X) => (HI3.out.later hX).write (⟨#[115, 105, 122, 101, 32]⟩ ++ D1 ++ ⟨#[32]⟩ ++ D2 ++ ⟨#[10]⟩) (by
                rw [size_cat, size_cat, size_cat, size_cat]
                first | omega | (simp; omega)))
              clear hD1 hD2 s1 s2 u1 u2 u3
              have hK := Lib.hid (Below.refl w3.heap.size w3)
              go_wp2_with fail
              go_region_held3 (fun X => X.cell? ⟨wr.heap.size, 2, none⟩ = some (.int .i64 (nr : Int)) ∧ X.cell? ⟨wr.heap.size, 3, none⟩ = some (.int .i64 (nc : Int)))
                (first | exact HC.out _ (by assumption) | exact H8.cells.2.2 | go_keep)
                (first
                | (go_at_call 24; (first | refine (CI1.out _ (by first | assumption | exact hK.out | exact hK.out.drew)).mono ?_ | refine (CI2.out _ (by first | assumption | exact hK.out | exact hK.out.drew)).mono ?_); rintro e w7 ⟨rfl, hb7⟩; have hB7 := below_next (w := w3) (by first | assumption | exact hK.out | exact hK.out.drew) hb7; clear hb7)
                | (go_at_call 22; refine (CW.out _ (by first | assumption | exact hK.out | exact hK.out.drew)).mono ?_; rintro e w8 ⟨rfl, H8⟩))
              have HI9 := Lib.hid H8
              clear H8 hK k1 k2 k3 k4 CI1 CI2 CW
              go_wp2_with fail
              go_roundw
              case rel => exact ⟨k + 1, 0, by omega, by omega, by go_num, by first | rfl | go_num, Nat.lt_trans hne (Array.getElem?_eq_some_iff.1 HI9.out.box).1, Lib.hid ⟨_, HS.out, by rw [List.length_append]; omega, by have := HI9.out.bld; first | exact (by simp only [List.append_assoc, List.cons_append, List.nil_append] at this; exact this) | simpa [List.append_assoc, bytesT, tickT, hexT, restS] using this, HI9.out.below⟩⟩
              case measure => simp [intOf]; omega
      · obtain rfl : k = N := by omega
        have hd : decide ((k : Int) < (k : Int)) = false := by simp
        have HE := Lib.hid (show R = some (acc ++ if 0 < q then [10] else []) by
          rw [← H1.out.1, List.drop_eq_nil_of_le (by rw [HN.out]; exact Nat.le_refl _)]
          rfl)
        have hal : acc.length ≤ 1048576 := by omega
        by_cases hq0 : q = 0
        · subst hq0
          have C9 := Lib.hid (bldIs_text H1.out.2.2 H1.out.2.1)
          go_wp2_with fail
          refine C9.out.mono ?_
          rintro e w9 ⟨rfl, b9⟩
          have H9 := Lib.hid b9
          clear b9 C9
          go_wp2_with fail
          go_ret2
          rw [HE.out, if_neg (by omega), List.append_nil]
          exact ⟨rfl, H9.out⟩
        · have dq : (0 : Int) < (q : Int) := by omega
          have C8 := Lib.hid (bldIs_write H1.out.2.2 H1.out.2.1 ⟨#[10]⟩ (by have : (⟨#[10]⟩ : ByteArray).size = 1 := rfl; omega))
          go_wp2_with fail
          refine C8.out.mono ?_
          rintro e w8 ⟨rfl, i8, b8⟩
          have C9 := Lib.hid (bldIs_text b8 i8)
          clear i8 b8 C8
          go_wp2_with fail
          refine C9.out.mono ?_
          rintro e w9 ⟨rfl, b9⟩
          have H9 := Lib.hid b9
          clear b9 C9
          go_wp2_with fail
          go_ret2
          rw [HE.out, if_pos (by omega)]
          exact ⟨rfl, H9.out⟩
end Go.Proofs.YtjkhkohlejkdlaaDoor

/- script: the document's Print. -/
import Derived.Test.YtjkhkohlejkdlaaDoorScPc
namespace Go.Proofs.YtjkhkohlejkdlaaDoor
open Go.RowKit
set_option linter.unusedVariables false
set_option linter.unusedSimpArgs false

theorem ba_app (l m : List UInt8) : ba (l ++ m) = ba l ++ ba m := by
  apply ByteArray.ext
  simp [ba]
theorem zNL : (⟨#[10]⟩ : ByteArray).size = 1 := rfl
theorem zB6 : (⟨#[98, 121, 116, 101, 115, 32]⟩ : ByteArray).size = 6 := rfl
theorem zTK : (⟨#[116, 105, 99, 107, 10]⟩ : ByteArray).size = 5 := rfl
theorem zSZ : (⟨#[115, 105, 122, 101, 32]⟩ : ByteArray).size = 5 := rfl
theorem zSP : (⟨#[32]⟩ : ByteArray).size = 1 := rfl
theorem zONE (c : UInt8) : (⟨#[c]⟩ : ByteArray).size = 1 := rfl
theorem hex_cut : ∀ n : Fin 16, hexT.extract n.val (n.val + 1) = ⟨#[hexC n.val]⟩ := by decide +kernel
theorem hex_cut' {n : Nat} (h : n < 16) : hexT.extract n (n + 1) = ⟨#[hexC n]⟩ := hex_cut ⟨n, h⟩
set_option maxRecDepth 100000 in
set_option maxHeartbeats 8000000 in
theorem rprint_any (A : Option Addr) (c : Nat) (L : List Evt) (w : World) (hN5 : L.length ≤ 500) (hL : LiV 4 encE w (fun _ => True) (.slice A L.length c) L) (hB : ∀ x ∈ L, Byt x) : Calls Tryd.prog 13 #[.slice A L.length c] w fun e w' => PrintOut w w' (printS L) e := by
  obtain ⟨N, hN⟩ : ∃ N, L.length = N := ⟨_, rfl⟩
  have hR := printS_short (L := L) (by omega)
  obtain ⟨R, hR2⟩ : ∃ R, printL 0 L = R := ⟨_, rfl⟩
  rw [hR2] at hR
  rw [hR]
  have HR := Lib.hid (show (printL 0 (L.drop 0)).map (([] : List UInt8) ++ ·) = R by rw [List.drop_zero, hR2]; cases R <;> rfl)
  have HLi := Lib.hid hL.parts.2.1
  have HB := Lib.hid hB
  rw [hN] at hN5 ⊢
  have HN := Lib.hid hN
  have d1 : ¬ (65536 : Int) < (N : Int) := by omega
  clear hR hR2 hL hB hN
  go_enter Tryd.func13, Tryd.ntmps13
  go_wp2_with fail
  go_loopw [4, 5, 6] (fun sv o i wr => ∃ (k q : Nat) (acc : List UInt8) (S : ByteArray), k ≤ N ∧ q ≤ 32 ∧ i = .int .i64 (k : Nat) ∧ o = .int .i64 (q : Nat) ∧ sv = .string S ∧ S.size ≤ 16 * k ∧ Hid (S = ba acc) ∧ Hid ((printL q (L.drop k)).map (acc ++ ·) = R ∧ Below w.heap.size w wr)) (fun _ _ i _ => N - (intOf i).toNat)
  case atStart => exact ⟨0, 0, [], ⟨#[]⟩, Nat.zero_le _, by omega, rfl, rfl, rfl, by decide, Lib.hid rfl, Lib.hid ⟨HR.out, Below.refl _ _⟩⟩
  case round =>
    clear d1
    obtain ⟨k, q, acc, S, hk, hq, rfl, rfl, rfl, hacc, HSA, H1⟩ := hrel
    have hsW := H1.out.2.size
    by_cases hlt : k < N
    · have hki : (k : Int) < (N : Int) := by omega
      have hk0 : (0 : Int) ≤ (k : Int) := by omega
      have hkL : k < L.length := by rw [HN.out]; exact hlt
      obtain ⟨x, b, o, hx, rfl, hbl, c0, c1, c2, c3⟩ := (HLi.out.later H1.out.2).evt hkL
      have HX := Lib.hid (And.intro hx (printL_step hx q acc))
      obtain ⟨hbx0, hbx1⟩ := HB.out x (List.mem_of_getElem? hx)
      obtain ⟨W1, hW1⟩ : ∃ W1, wr.alloc (.cells #[.int .i64 x.kind, .int .u8 x.byte, .int .i64 x.rows, .int .i64 x.cols] 40) = W1 := ⟨_, rfl⟩
      have hb1 : Below w.heap.size w W1 := by rw [← hW1]; exact H1.out.2.alloc hsW _
      have hbox : W1.heap[wr.heap.size]? = some (.cells #[.int .i64 x.kind, .int .u8 x.byte, .int .i64 x.rows, .int .i64 x.cols] 40 (0, 0)) := by rw [← hW1]; exact heap_alloc_new wr _
      have HI := Lib.hid (show ∀ X, Below W1.heap.size W1 X → X.cell? ⟨wr.heap.size, 0, none⟩ = some (.int .i64 x.kind) ∧ X.cell? ⟨wr.heap.size, 1, none⟩ = some (.int .u8 x.byte) ∧ X.cell? ⟨wr.heap.size, 2, none⟩ = some (.int .i64 x.rows) ∧ X.cell? ⟨wr.heap.size, 3, none⟩ = some (.int .i64 x.cols) from fun X hX => by
        have hh := (hX.block wr.heap.size (Array.getElem?_eq_some_iff.1 hbox).1).trans hbox
        refine ⟨?_, ?_, ?_, ?_⟩ <;> simp [World.cell?, hh])
      obtain ⟨z0, z1, z2, z3⟩ := HI.out W1 (Below.refl _ _)
      have HB1 := Lib.hid hb1
      obtain ⟨xk, xb, xr, xc⟩ := x
      dsimp only at hbx0 hbx1 c0 c1 c2 c3 hW1 HI z0 z1 z2 z3
      have hal : S.size ≤ 8000 := by omega
      have hsl : S.size = acc.length := by rw [HSA.out]; rfl
      obtain ⟨n, rfl⟩ : ∃ n : Nat, xb = (n : Int) := ⟨xb.toNat, by omega⟩
      obtain ⟨kn, hkn⟩ : ∃ kn, knownP ⟨xk, (n : Int), xr, xc⟩ = kn := ⟨_, rfl⟩
      have HK := Lib.hid hkn
      have HP := Lib.hid (And.intro H1.out.1 HX.out.2)
      clear hx hkn hb1 hbox
      cases kn with
      | true =>
        have HS0 := Lib.hid (show (printL (nxt q ⟨xk, (n : Int), xr, xc⟩) (L.drop (k + 1))).map ((acc ++ outS q ⟨xk, (n : Int), xr, xc⟩) ++ ·) = R by rw [← HP.out.1, HP.out.2, HK.out]; rfl)
        have HOL := Lib.hid (outS_len HK.out q)
        rcases known_kind HK.out with hk1 | hk1 | ⟨hk1, r0, r1, r2, r3⟩
        · dsimp only at hk1
          subst hk1
          obtain ⟨X1, hX1⟩ : ∃ X, hexC (n / 16) = X := ⟨_, rfl⟩
          obtain ⟨X2, hX2⟩ : ∃ X, hexC (n % 16) = X := ⟨_, rfl⟩
          have e1 : (n : Int).tdiv 16 = ((n / 16 : Nat) : Int) := by rw [Int.tdiv_eq_ediv_of_nonneg (by omega)]; omega
          have e2 : (n : Int).tmod 16 = ((n % 16 : Nat) : Int) := by rw [Int.tmod_eq_emod_of_nonneg (by omega)]; omega
          have x1 : (⟨#[48, 49, 50, 51, 52, 53, 54, 55, 56, 57, 97, 98, 99, 100, 101, 102]⟩ : ByteArray).extract (n / 16) (n / 16 + 1) = ⟨#[X1]⟩ := by rw [← hX1]; exact hex_cut' (by omega)
          have x2 : (⟨#[48, 49, 50, 51, 52, 53, 54, 55, 56, 57, 97, 98, 99, 100, 101, 102]⟩ : ByteArray).extract (n % 16) (n % 16 + 1) = ⟨#[X2]⟩ := by rw [← hX2]; exact hex_cut' (by omega)
          have hxe : hxE ⟨1, (n : Int), xr, xc⟩ = [X1, X2] := by rw [← hX1, ← hX2]; rfl
          have ha16 : n / 16 < 16 := by omega
          have hb16 : n % 16 < 16 := by omega
          obtain ⟨a, ha⟩ : ∃ a, n / 16 = a := ⟨_, rfl⟩
          obtain ⟨b', hb'⟩ : ∃ a, n % 16 = a := ⟨_, rfl⟩
          rw [ha] at e1 x1 ha16
          rw [hb'] at e2 x2 hb16
          have w1 : IntKind.u8.wrap (a : Int) = (a : Int) := IntWalk.u8_in _ (by omega)
          have w2 : IntKind.u8.wrap (b' : Int) = (b' : Int) := IntWalk.u8_in _ (by omega)
          have w3 : IntKind.u8.wrap ((a : Int) + 1) = (a : Int) + 1 := IntWalk.u8_in _ (by omega)
          have w4 : IntKind.u8.wrap ((b' : Int) + 1) = (b' : Int) + 1 := IntWalk.u8_in _ (by omega)
          have y1 : (0 : Int) ≤ (a : Int) ∧ (a : Int) ≤ (a : Int) + 1 ∧ (a : Int) + 1 ≤ 16 := by omega
          have y2 : (0 : Int) ≤ (b' : Int) ∧ (b' : Int) ≤ (b' : Int) + 1 ∧ (b' : Int) + 1 ≤ 16 := by omega
          have y3 : ((a : Int) + 1).toNat = a + 1 := by omega
          have y4 : ((b' : Int) + 1).toNat = b' + 1 := by omega
          clear hX1 hX2 ha hb'
          by_cases hq0 : q = 0
          · subst hq0
            have hS := HS0.out
            have hol := HOL.out
            rw [(out_B (x := ⟨1, (n : Int), xr, xc⟩) rfl).1, (out_B (x := ⟨1, (n : Int), xr, xc⟩) rfl).2, hxe] at hS
            rw [(out_B (x := ⟨1, (n : Int), xr, xc⟩) rfl).1, hxe] at hol
            have HS := Lib.hid hS
            clear hS hxe
            have q0 := fun w => run_cat w (S) ⟨#[98, 121, 116, 101, 115, 32]⟩ (by
              simp only [size_cat, zNL, zB6, zTK, zSZ, zSP, zONE]
              omega)
            have q1 := fun w => run_cat w (S ++ ⟨#[98, 121, 116, 101, 115, 32]⟩) ⟨#[X1]⟩ (by
              simp only [size_cat, zNL, zB6, zTK, zSZ, zSP, zONE]
              omega)
            have q2 := fun w => run_cat w (S ++ ⟨#[98, 121, 116, 101, 115, 32]⟩ ++ ⟨#[X1]⟩) ⟨#[X2]⟩ (by
              simp only [size_cat, zNL, zB6, zTK, zSZ, zSP, zONE]
              omega)
            go_wp2_with fail
            go_quiet (fail)
            go_wp2_with fail
            go_roundw
            case rel =>
              refine ⟨k + 1, 1, acc ++ (bytesT ++ ([X1] ++ [X2])), _, by omega, by omega, by go_num, by first | rfl | go_num, rfl, ?_, Lib.hid ?_, Lib.hid ⟨HS.out, ?_⟩⟩
              · simp only [size_cat, zNL, zB6, zTK, zSZ, zSP, zONE]
                first | omega | (simp only [List.length_append, List.length_cons, List.length_nil, Array.length_toList] at hol; omega) | (have zz1 : D1.data.size = D1.size := rfl; have zz2 : D2.data.size = D2.size := rfl; have zz3 : sizeT.length = 5 := rfl; simp only [List.length_append, List.length_cons, List.length_nil, Array.length_toList, zz1, zz2, zz3] at hol; omega)
              · rw [HSA.out]
                simp only [ba_app, ← ByteArray.append_assoc]
                rfl
              · exact below_drewN HB1.out _
            case measure => simp [intOf]; omega
          · by_cases hq32 : q = 32
            · subst hq32
              have hS := HS0.out
              have hol := HOL.out
              rw [(out_A (x := ⟨1, (n : Int), xr, xc⟩) rfl).1, (out_A (x := ⟨1, (n : Int), xr, xc⟩) rfl).2, hxe] at hS
              rw [(out_A (x := ⟨1, (n : Int), xr, xc⟩) rfl).1, hxe] at hol
              have HS := Lib.hid hS
              clear hS hxe
              have q0 := fun w => run_cat w (S) ⟨#[10]⟩ (by
                simp only [size_cat, zNL, zB6, zTK, zSZ, zSP, zONE]
                omega)
              have q1 := fun w => run_cat w (S ++ ⟨#[10]⟩) ⟨#[98, 121, 116, 101, 115, 32]⟩ (by
                simp only [size_cat, zNL, zB6, zTK, zSZ, zSP, zONE]
                omega)
              have q2 := fun w => run_cat w (S ++ ⟨#[10]⟩ ++ ⟨#[98, 121, 116, 101, 115, 32]⟩) ⟨#[X1]⟩ (by
                simp only [size_cat, zNL, zB6, zTK, zSZ, zSP, zONE]
                omega)
              have q3 := fun w => run_cat w (S ++ ⟨#[10]⟩ ++ ⟨#[98, 121, 116, 101, 115, 32]⟩ ++ ⟨#[X1]⟩) ⟨#[X2]⟩ (by
                simp only [size_cat, zNL, zB6, zTK, zSZ, zSP, zONE]
                omega)
              go_wp2_with fail
              go_quiet (fail)
              go_wp2_with fail
              go_roundw
              case rel =>
                refine ⟨k + 1, 1, acc ++ ([10] ++ (bytesT ++ ([X1] ++ [X2]))), _, by omega, by omega, by go_num, by first | rfl | go_num, rfl, ?_, Lib.hid ?_, Lib.hid ⟨HS.out, ?_⟩⟩
                · simp only [size_cat, zNL, zB6, zTK, zSZ, zSP, zONE]
                  first | omega | (simp only [List.length_append, List.length_cons, List.length_nil, Array.length_toList] at hol; omega) | (have zz1 : D1.data.size = D1.size := rfl; have zz2 : D2.data.size = D2.size := rfl; have zz3 : sizeT.length = 5 := rfl; simp only [List.length_append, List.length_cons, List.length_nil, Array.length_toList, zz1, zz2, zz3] at hol; omega)
                · rw [HSA.out]
                  simp only [ba_app, ← ByteArray.append_assoc]
                  rfl
                · exact below_drewN HB1.out _
              case measure => simp [intOf]; omega
            · have dq : (0 : Int) < (q : Int) := by omega
              have dq2 : ((q : Int) == 32) = false := by simp; omega
              have dq3 : ((q : Int) == 0) = false := by simp; omega
              have hS := HS0.out
              have hol := HOL.out
              rw [(out_C (x := ⟨1, (n : Int), xr, xc⟩) (o := q) rfl (by omega) (by omega)).1, (out_C (x := ⟨1, (n : Int), xr, xc⟩) (o := q) rfl (by omega) (by omega)).2, hxe] at hS
              rw [(out_C (x := ⟨1, (n : Int), xr, xc⟩) (o := q) rfl (by omega) (by omega)).1, hxe] at hol
              have HS := Lib.hid hS
              clear hS hxe
              have q0 := fun w => run_cat w (S) ⟨#[X1]⟩ (by
                simp only [size_cat, zNL, zB6, zTK, zSZ, zSP, zONE]
                omega)
              have q1 := fun w => run_cat w (S ++ ⟨#[X1]⟩) ⟨#[X2]⟩ (by
                simp only [size_cat, zNL, zB6, zTK, zSZ, zSP, zONE]
                omega)
              go_wp2_with fail
              go_quiet (fail)
              go_wp2_with fail
              go_roundw
              case rel =>
                refine ⟨k + 1, q + 1, acc ++ ([X1] ++ [X2]), _, by omega, by omega, by go_num, by first | rfl | go_num, rfl, ?_, Lib.hid ?_, Lib.hid ⟨HS.out, ?_⟩⟩
                · simp only [size_cat, zNL, zB6, zTK, zSZ, zSP, zONE]
                  first | omega | (simp only [List.length_append, List.length_cons, List.length_nil, Array.length_toList] at hol; omega) | (have zz1 : D1.data.size = D1.size := rfl; have zz2 : D2.data.size = D2.size := rfl; have zz3 : sizeT.length = 5 := rfl; simp only [List.length_append, List.length_cons, List.length_nil, Array.length_toList, zz1, zz2, zz3] at hol; omega)
                · rw [HSA.out]
                  simp only [ba_app, ← ByteArray.append_assoc]
                  rfl
                · exact below_drewN HB1.out _
              case measure => simp [intOf]; omega
        · dsimp only at hk1
          subst hk1
          by_cases hq0 : q = 0
          · subst hq0
            have hS := HS0.out
            have hol := HOL.out
            rw [(out_E (x := ⟨2, (n : Int), xr, xc⟩) (by simp)).1, (out_E (x := ⟨2, (n : Int), xr, xc⟩) (by simp)).2] at hS
            rw [(out_E (x := ⟨2, (n : Int), xr, xc⟩) (by simp)).1] at hol
            have HS := Lib.hid hS
            clear hS
            have q0 := fun w => run_cat w (S) ⟨#[116, 105, 99, 107, 10]⟩ (by
              simp only [size_cat, zNL, zB6, zTK, zSZ, zSP, zONE]
              omega)
            go_wp2_with fail
            go_roundw
            case rel =>
              refine ⟨k + 1, 0, acc ++ (restS ⟨2, (n : Int), xr, xc⟩), _, by omega, by omega, by go_num, by first | rfl | go_num, rfl, ?_, Lib.hid ?_, Lib.hid ⟨HS.out, ?_⟩⟩
              · simp only [size_cat, zNL, zB6, zTK, zSZ, zSP, zONE]
                first | omega | (simp only [List.length_append, List.length_cons, List.length_nil, Array.length_toList] at hol; omega) | (have zz1 : D1.data.size = D1.size := rfl; have zz2 : D2.data.size = D2.size := rfl; have zz3 : sizeT.length = 5 := rfl; simp only [List.length_append, List.length_cons, List.length_nil, Array.length_toList, zz1, zz2, zz3] at hol; omega)
              · rw [HSA.out]
                simp only [ba_app, ← ByteArray.append_assoc]
                rfl
              · exact HB1.out
            case measure => simp [intOf]; omega
          · have dq : (0 : Int) < (q : Int) := by omega
            have hS := HS0.out
            have hol := HOL.out
            rw [(out_D (x := ⟨2, (n : Int), xr, xc⟩) (o := q) (by simp) (by omega)).1, (out_D (x := ⟨2, (n : Int), xr, xc⟩) (o := q) (by simp) (by omega)).2] at hS
            rw [(out_D (x := ⟨2, (n : Int), xr, xc⟩) (o := q) (by simp) (by omega)).1] at hol
            have HS := Lib.hid hS
            clear hS
            have q0 := fun w => run_cat w (S) ⟨#[10]⟩ (by
              simp only [size_cat, zNL, zB6, zTK, zSZ, zSP, zONE]
              omega)
            have q1 := fun w => run_cat w (S ++ ⟨#[10]⟩) ⟨#[116, 105, 99, 107, 10]⟩ (by
              simp only [size_cat, zNL, zB6, zTK, zSZ, zSP, zONE]
              omega)
            go_wp2_with fail
            go_roundw
            case rel =>
              refine ⟨k + 1, 0, acc ++ ([10] ++ restS ⟨2, (n : Int), xr, xc⟩), _, by omega, by omega, by go_num, by first | rfl | go_num, rfl, ?_, Lib.hid ?_, Lib.hid ⟨HS.out, ?_⟩⟩
              · simp only [size_cat, zNL, zB6, zTK, zSZ, zSP, zONE]
                first | omega | (simp only [List.length_append, List.length_cons, List.length_nil, Array.length_toList] at hol; omega) | (have zz1 : D1.data.size = D1.size := rfl; have zz2 : D2.data.size = D2.size := rfl; have zz3 : sizeT.length = 5 := rfl; simp only [List.length_append, List.length_cons, List.length_nil, Array.length_toList, zz1, zz2, zz3] at hol; omega)
              · rw [HSA.out]
                simp only [ba_app, ← ByteArray.append_assoc]
                rfl
              · exact HB1.out
            case measure => simp [intOf]; omega
        · dsimp only at hk1 r0 r1 r2 r3
          subst hk1
          obtain ⟨nr, rfl⟩ : ∃ n : Nat, xr = (n : Int) := ⟨xr.toNat, by omega⟩
          obtain ⟨nc, rfl⟩ : ∃ n : Nat, xc = (n : Int) := ⟨xc.toNat, by omega⟩
          have s1 := dig_size (n := nr) (by omega)
          have s2 := dig_size (n := nc) (by omega)
          have HC := Lib.hid (show ∀ X, Below W1.heap.size W1 X → (fun X => X.cell? ⟨wr.heap.size, 2, none⟩ = some (.int .i64 (nr : Int)) ∧ X.cell? ⟨wr.heap.size, 3, none⟩ = some (.int .i64 (nc : Int))) X from fun X hX => (HI.out X hX).2.2)
          have CI1 := Lib.hid (fun X (hX : Below W1.heap.size W1 X) => rdigits nr (by omega) X)
          have CI2 := Lib.hid (fun X (hX : Below W1.heap.size W1 X) => rdigits nc (by omega) X)
          have hRS : restS ⟨3, (n : Int), (nr : Int), (nc : Int)⟩ = sizeT ++ (dig nr).data.toList ++ [32] ++ (dig nc).data.toList ++ [10] := by
            unfold restS
            rw [if_neg (by simp)]
            rfl
          obtain ⟨D1, hD1⟩ : ∃ D, dig nr = D := ⟨_, rfl⟩
          obtain ⟨D2, hD2⟩ : ∃ D, dig nc = D := ⟨_, rfl⟩
          rw [hD1] at s1 CI1 hRS
          rw [hD2] at s2 CI2 hRS
          clear hD1 hD2
          by_cases hq0 : q = 0
          · subst hq0
            have hS := HS0.out
            have hol := HOL.out
            rw [(out_E (x := ⟨3, (n : Int), (nr : Int), (nc : Int)⟩) (by simp)).1, (out_E (x := ⟨3, (n : Int), (nr : Int), (nc : Int)⟩) (by simp)).2, hRS] at hS
            rw [(out_E (x := ⟨3, (n : Int), (nr : Int), (nc : Int)⟩) (by simp)).1, hRS] at hol
            have HS := Lib.hid hS
            clear hS hRS
            have q0 := fun w => run_cat w (S) ⟨#[115, 105, 122, 101, 32]⟩ (by
              simp only [size_cat, zNL, zB6, zTK, zSZ, zSP, zONE]
              omega)
            have q1 := fun w => run_cat w (S ++ ⟨#[115, 105, 122, 101, 32]⟩) D1 (by
              simp only [size_cat, zNL, zB6, zTK, zSZ, zSP, zONE]
              omega)
            have q2 := fun w => run_cat w (S ++ ⟨#[115, 105, 122, 101, 32]⟩ ++ D1) ⟨#[32]⟩ (by
              simp only [size_cat, zNL, zB6, zTK, zSZ, zSP, zONE]
              omega)
            have q3 := fun w => run_cat w (S ++ ⟨#[115, 105, 122, 101, 32]⟩ ++ D1 ++ ⟨#[32]⟩) D2 (by
              simp only [size_cat, zNL, zB6, zTK, zSZ, zSP, zONE]
              omega)
            have q4 := fun w => run_cat w (S ++ ⟨#[115, 105, 122, 101, 32]⟩ ++ D1 ++ ⟨#[32]⟩ ++ D2) ⟨#[10]⟩ (by
              simp only [size_cat, zNL, zB6, zTK, zSZ, zSP, zONE]
              omega)
            clear s1 s2
            have hK := Lib.hid (Below.refl W1.heap.size W1)
            go_wp2_with fail
            clear hW1 c0 c1 c2 c3 z0 z1
            go_region_held3 (fun X => X.cell? ⟨wr.heap.size, 2, none⟩ = some (.int .i64 (nr : Int)) ∧ X.cell? ⟨wr.heap.size, 3, none⟩ = some (.int .i64 (nc : Int)))
              (first | exact HC.out _ (by assumption) | go_keep)
              (first | (go_at_call 26; (first | with_reducible refine (CI1.out _ (by first | assumption | exact hK.out | exact hK.out.drew)).mono ?_ | with_reducible refine (CI2.out _ (by first | assumption | exact hK.out | exact hK.out.drew)).mono ?_); rintro e w7 ⟨rfl, hb7⟩; have hB7 := below_next (w := W1) (by first | assumption | exact hK.out | exact hK.out.drew) hb7; clear hb7))
            have HB7 := Lib.hid (below_next HB1.out hB7)
            clear hB7
            go_wp2_with fail
            go_roundw
            case rel =>
              refine ⟨k + 1, 0, acc ++ (sizeT ++ D1.data.toList ++ [32] ++ D2.data.toList ++ [10]), _, by omega, by omega, by go_num, by first | rfl | go_num, rfl, ?_, Lib.hid ?_, Lib.hid ⟨HS.out, ?_⟩⟩
              · simp only [size_cat, zNL, zB6, zTK, zSZ, zSP, zONE]
                first | omega | (simp only [List.length_append, List.length_cons, List.length_nil, Array.length_toList] at hol; omega) | (have zz1 : D1.data.size = D1.size := rfl; have zz2 : D2.data.size = D2.size := rfl; have zz3 : sizeT.length = 5 := rfl; simp only [List.length_append, List.length_cons, List.length_nil, Array.length_toList, zz1, zz2, zz3] at hol; omega)
              · rw [HSA.out]
                simp only [ba_app, ← ByteArray.append_assoc]
                rfl
              · exact HB7.out
            case measure => simp [intOf]; omega
          · have dq : (0 : Int) < (q : Int) := by omega
            have hS := HS0.out
            have hol := HOL.out
            rw [(out_D (x := ⟨3, (n : Int), (nr : Int), (nc : Int)⟩) (o := q) (by simp) (by omega)).1, (out_D (x := ⟨3, (n : Int), (nr : Int), (nc : Int)⟩) (o := q) (by simp) (by omega)).2, hRS] at hS
            rw [(out_D (x := ⟨3, (n : Int), (nr : Int), (nc : Int)⟩) (o := q) (by simp) (by omega)).1, hRS] at hol
            have HS := Lib.hid hS
            clear hS hRS
            have q0 := fun w => run_cat w (S) ⟨#[10]⟩ (by
              simp only [size_cat, zNL, zB6, zTK, zSZ, zSP, zONE]
              omega)
            have q1 := fun w => run_cat w (S ++ ⟨#[10]⟩) ⟨#[115, 105, 122, 101, 32]⟩ (by
              simp only [size_cat, zNL, zB6, zTK, zSZ, zSP, zONE]
              omega)
            have q2 := fun w => run_cat w (S ++ ⟨#[10]⟩ ++ ⟨#[115, 105, 122, 101, 32]⟩) D1 (by
              simp only [size_cat, zNL, zB6, zTK, zSZ, zSP, zONE]
              omega)
            have q3 := fun w => run_cat w (S ++ ⟨#[10]⟩ ++ ⟨#[115, 105, 122, 101, 32]⟩ ++ D1) ⟨#[32]⟩ (by
              simp only [size_cat, zNL, zB6, zTK, zSZ, zSP, zONE]
              omega)
            have q4 := fun w => run_cat w (S ++ ⟨#[10]⟩ ++ ⟨#[115, 105, 122, 101, 32]⟩ ++ D1 ++ ⟨#[32]⟩) D2 (by
              simp only [size_cat, zNL, zB6, zTK, zSZ, zSP, zONE]
              omega)
            have q5 := fun w => run_cat w (S ++ ⟨#[10]⟩ ++ ⟨#[115, 105, 122, 101, 32]⟩ ++ D1 ++ ⟨#[32]⟩ ++ D2) ⟨#[10]⟩ (by
              simp only [size_cat, zNL, zB6, zTK, zSZ, zSP, zONE]
              omega)
            clear s1 s2
            have hK := Lib.hid (Below.refl W1.heap.size W1)
            go_wp2_with fail
            clear hW1 c0 c1 c2 c3 z0 z1
            go_region_held3 (fun X => X.cell? ⟨wr.heap.size, 2, none⟩ = some (.int .i64 (nr : Int)) ∧ X.cell? ⟨wr.heap.size, 3, none⟩ = some (.int .i64 (nc : Int)))
              (first | exact HC.out _ (by assumption) | go_keep)
              (first | (go_at_call 26; (first | with_reducible refine (CI1.out _ (by first | assumption | exact hK.out | exact hK.out.drew)).mono ?_ | with_reducible refine (CI2.out _ (by first | assumption | exact hK.out | exact hK.out.drew)).mono ?_); rintro e w7 ⟨rfl, hb7⟩; have hB7 := below_next (w := W1) (by first | assumption | exact hK.out | exact hK.out.drew) hb7; clear hb7))
            have HB7 := Lib.hid (below_next HB1.out hB7)
            clear hB7
            go_wp2_with fail
            go_roundw
            case rel =>
              refine ⟨k + 1, 0, acc ++ ([10] ++ (sizeT ++ D1.data.toList ++ [32] ++ D2.data.toList ++ [10])), _, by omega, by omega, by go_num, by first | rfl | go_num, rfl, ?_, Lib.hid ?_, Lib.hid ⟨HS.out, ?_⟩⟩
              · simp only [size_cat, zNL, zB6, zTK, zSZ, zSP, zONE]
                first | omega | (simp only [List.length_append, List.length_cons, List.length_nil, Array.length_toList] at hol; omega) | (have zz1 : D1.data.size = D1.size := rfl; have zz2 : D2.data.size = D2.size := rfl; have zz3 : sizeT.length = 5 := rfl; simp only [List.length_append, List.length_cons, List.length_nil, Array.length_toList, zz1, zz2, zz3] at hol; omega)
              · rw [HSA.out]
                simp only [ba_app, ← ByteArray.append_assoc]
                rfl
              · exact HB7.out
            case measure => simp [intOf]; omega
      | false =>
        obtain rfl : R = none := by rw [← HP.out.1, HP.out.2, HK.out]; rfl
        have hn : ¬ xk = 1 ∧ ¬ xk = 2 ∧ ¬ (xk = 3 ∧ (0 ≤ xr ∧ xr ≤ 9999 ∧ 0 ≤ xc ∧ xc ≤ 9999)) := by
          have hh := HK.out
          unfold knownP at hh
          simp only [Bool.or_eq_false_iff, Bool.and_eq_false_iff, decide_eq_false_iff_not] at hh
          refine ⟨hh.1.1, hh.1.2, fun e => ?_⟩
          rcases hh.2 with h | h
          · exact h e.1
          · exact h e.2
        obtain ⟨n1, n2, n3⟩ := hn
        have b1 : (xk == 1) = false := by simpa using n1
        have b1' : (xk != 1) = true := by simpa using n1
        have b2 : (xk == 2) = false := by simpa using n2
        have q0 := fun w => run_cat w S ⟨#[10]⟩ (by
          simp only [zNL]
          omega)
        by_cases h3 : xk = 3
        · subst h3
          by_cases g1 : 0 ≤ xr
          · by_cases g2 : xr ≤ 9999
            · by_cases g3 : 0 ≤ xc
              · have g4 : ¬ xc ≤ 9999 := fun e => n3 ⟨rfl, g1, g2, g3, e⟩
                clear n1 n2 n3
                by_cases hq0 : q = 0
                · subst hq0
                  go_wp2_with fail
                  go_ret2
                  exact ⟨rfl, HB1.out⟩
                · have dq : (0 : Int) < (q : Int) := by omega
                  go_wp2_with fail
                  go_ret2
                  exact ⟨rfl, HB1.out⟩
              · clear n1 n2 n3
                by_cases hq0 : q = 0
                · subst hq0
                  go_wp2_with fail
                  go_ret2
                  exact ⟨rfl, HB1.out⟩
                · have dq : (0 : Int) < (q : Int) := by omega
                  go_wp2_with fail
                  go_ret2
                  exact ⟨rfl, HB1.out⟩
            · clear n1 n2 n3
              by_cases hq0 : q = 0
              · subst hq0
                go_wp2_with fail
                go_ret2
                exact ⟨rfl, HB1.out⟩
              · have dq : (0 : Int) < (q : Int) := by omega
                go_wp2_with fail
                go_ret2
                exact ⟨rfl, HB1.out⟩
          · clear n1 n2 n3
            by_cases hq0 : q = 0
            · subst hq0
              go_wp2_with fail
              go_ret2
              exact ⟨rfl, HB1.out⟩
            · have dq : (0 : Int) < (q : Int) := by omega
              go_wp2_with fail
              go_ret2
              exact ⟨rfl, HB1.out⟩
        · have b3 : (xk == 3) = false := by simpa using h3
          clear n1 n2 n3 h3
          by_cases hq0 : q = 0
          · subst hq0
            go_wp2_with fail
            go_ret2
            exact ⟨rfl, HB1.out⟩
          · have dq : (0 : Int) < (q : Int) := by omega
            go_wp2_with fail
            go_ret2
            exact ⟨rfl, HB1.out⟩
    · obtain rfl : k = N := by omega
      have hd : decide ((k : Int) < (k : Int)) = false := by simp
      have HE := Lib.hid (show R = some (acc ++ if 0 < q then [10] else []) by
        rw [← H1.out.1, List.drop_eq_nil_of_le (by rw [HN.out]; exact Nat.le_refl _)]
        rfl)
      by_cases hq0 : q = 0
      · subst hq0
        go_wp2_with fail
        go_ret2
        rw [HE.out, if_neg (by omega), List.append_nil]
        exact ⟨by rw [HSA.out]; rfl, H1.out.2⟩
      · have dq : (0 : Int) < (q : Int) := by omega
        have q0 := fun w => run_cat w S ⟨#[10]⟩ (by
          simp only [zNL]
          omega)
        go_wp2_with fail
        go_ret2
        rw [HE.out, if_pos (by omega)]
        exact ⟨by rw [show (endS (some (acc ++ [10]))).1 = acc ++ [10] from rfl, ba_app, HSA.out]; rfl, H1.out.2⟩
end Go.Proofs.YtjkhkohlejkdlaaDoor

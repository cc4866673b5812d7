/- keys: a paste, its end. -/
import Derived.Test.YtkkenabckhmkoaaKyN
namespace Go.Proofs.Ytkkenabckhmkoaa
open Go.RowKit
set_option linter.unusedVariables false
set_option linter.unusedSimpArgs false
set_option maxRecDepth 100000


set_option maxHeartbeats 8000000 in
theorem paste_end (tx : List Int) (T : Option Addr) (w : World) (hc : Chain w T tx) (hbs : ∀ b ∈ tx, 0 ≤ b ∧ b ≤ 255) (h5 : 5 ≤ tx.length) (hlen : tx.length ≤ 100000) :
    Calls Try.prog 21 #[psV ⟨4, ⟨0, 0, 0, 0⟩, false, ⟨#[]⟩, tx, 5⟩ T, .int .u8 126] w (Tells (⟨0, ⟨0, 0, 0, 0⟩, false, ⟨#[]⟩, [], 0⟩, [⟨4, 0, false, decD ((126 :: tx).reverse.take ((126 :: tx).length - 6))⟩]) w) := by
  obtain ⟨l, hL⟩ : ∃ l, (126 :: tx : List Int) = l := ⟨_, rfl⟩
  have hbl : ∀ b ∈ l, 0 ≤ b ∧ b ≤ 255 := by
    rw [← hL]
    intro b hb
    rcases List.mem_cons.1 hb with rfl | hb
    · omega
    · exact hbs b hb
  have hlN : l.length = tx.length + 1 := by rw [← hL]; rfl
  rw [hL]
  obtain ⟨N, hN⟩ : ∃ N, l.length = N := ⟨_, rfl⟩
  rw [hN] at hlN ⊢
  have h6 : 6 ≤ N := by omega
  have hNm : N ≤ 100001 := by omega
  obtain ⟨m6, hm6⟩ : ∃ m, N - 6 = m := ⟨_, rfl⟩
  rw [hm6]
  have hm : m6 + 6 = N := by omega
  have em : (N : Int) - 6 = (m6 : Int) := by omega
  obtain ⟨M, hM⟩ : ∃ M, l.reverse.take m6 = M := ⟨_, rfl⟩
  rw [hM]
  have hMl : M.length = m6 := by rw [← hM, List.length_take, List.length_reverse, hN]; omega
  have hMb : bts (strOfNums M) = M := bts_strN M (fun b hb => hbl b (by rw [← hM] at hb; exact List.mem_reverse.1 (List.mem_of_mem_take hb)))
  have hMz : (strOfNums M).size ≤ 1000000000 := by
    have e := congrArg List.length hMb
    rw [bts_length] at e
    omega
  have CD := Lib.hid (fun X => decode_any (strOfNums M) X hMz)
  rw [hMb] at CD
  obtain ⟨D, hD⟩ : ∃ D, decD M = D := ⟨_, rfl⟩
  rw [hD] at CD ⊢
  obtain ⟨nD, hnD⟩ : ∃ n, D.length = n := ⟨_, rfl⟩
  rw [hnD] at CD
  have HND := Lib.hid hnD
  have HM := Lib.hid (And.intro hM hMl)
  have HL := Lib.hid hL
  have HN := Lib.hid hN
  obtain ⟨sM, hsM⟩ : ∃ sM, strOfNums M = sM := ⟨_, rfl⟩
  rw [hsM] at CD
  have HsM := Lib.hid hsM
  clear hbs hlen h5 hL hbl hlN hN hm6 hM hMl hMb hMz hD hnD hsM
  have m0 : ((126 : Int) == (((⟨#[27, 91, 50, 48, 49, 126]⟩ : ByteArray)[5]'(by decide)).toNat : Int)) = true := rfl
  have V0 := Lib.hid (fm_start w ⟨4, ⟨0, 0, 0, 0⟩, false, ⟨#[]⟩, tx, 5⟩ T)
  have HC := Lib.hid hc
  clear hc
  go_enter Try.func21, Try.ntmps21
  go_upto_region 1 with fail
  refine at_world (fun X => Fm w ⟨4, ⟨0, 0, 0, 0⟩, false, ⟨#[]⟩, tx, 5⟩ T X) V0.out ?_
  intro X hX
  have V1 := Lib.hid (And.intro hX ((HC.out).later hX.below))
  clear hX V0 HC
  have HY := Lib.hid (V1.out.1.later (belAlloc X (.cells #[.int .u8 126, .pointer T] 65)))
  have u7' : X.cell? ⟨w.heap.size, 7, none⟩ = some (.pointer T) := V1.out.1.b.2.1 7
  obtain ⟨yb, rb, jb⟩ := (show _ from HY.out.b); have u0 : (X.alloc (.cells #[.int .u8 126, .pointer T] 65)).cell? ⟨w.heap.size, 0, none⟩ = some (.int .i64 4) := rb 0; have u1 : (X.alloc (.cells #[.int .u8 126, .pointer T] 65)).cell? ⟨w.heap.size, 1, none⟩ = some (.int .u8 0) := rb 1; have u2 : (X.alloc (.cells #[.int .u8 126, .pointer T] 65)).cell? ⟨w.heap.size, 2, none⟩ = some (.int .u8 0) := rb 2; have u3 : (X.alloc (.cells #[.int .u8 126, .pointer T] 65)).cell? ⟨w.heap.size, 3, none⟩ = some (.int .u8 0) := rb 3; have u4 : (X.alloc (.cells #[.int .u8 126, .pointer T] 65)).cell? ⟨w.heap.size, 4, none⟩ = some (.int .i64 0) := rb 4; have u5 : (X.alloc (.cells #[.int .u8 126, .pointer T] 65)).cell? ⟨w.heap.size, 5, none⟩ = some (.bool false) := rb 5; have u6 : (X.alloc (.cells #[.int .u8 126, .pointer T] 65)).cell? ⟨w.heap.size, 6, none⟩ = some (.string ⟨#[]⟩) := rb 6; have u7 : (X.alloc (.cells #[.int .u8 126, .pointer T] 65)).cell? ⟨w.heap.size, 7, none⟩ = some (.pointer T) := rb 7; have u8 : (X.alloc (.cells #[.int .u8 126, .pointer T] 65)).cell? ⟨w.heap.size, 8, none⟩ = some (.int .i64 5) := rb 8; have v0 := jb 0; have v1 := jb 1; have v2 := jb 2; have v3 := jb 3; have v4 := jb 4; have v5 := jb 5; have v6 := jb 6; have v7 := jb 7; have v8 := jb 8; clear rb jb
  go_upto_region 3 with fail
  refine at_world (fun X' => Fm w ⟨4, ⟨0, 0, 0, 0⟩, false, ⟨#[]⟩, (126 :: tx), 5⟩ (some ⟨X.heap.size, 0, none⟩) X' ∧ Chain X' (some ⟨X.heap.size, 0, none⟩) (126 :: tx)) (fc_tx V1.out.1 V1.out.2 126 _) ?_
  clear u0 u1 u2 u3 u4 u5 u6 u7 u8 v0 v1 v2 v3 v4 v5 v6 v7 v8 yb u7' HY
  obtain ⟨T', hT'⟩ : ∃ T', (some ⟨X.heap.size, 0, none⟩ : Option Addr) = T' := ⟨_, rfl⟩
  rw [hT']
  clear hT' V1
  intro X2 hX
  have V2 := Lib.hid hX
  clear hX
  obtain ⟨yb, rb, jb⟩ := (show _ from V2.out.1.b); have u0 : X2.cell? ⟨w.heap.size, 0, none⟩ = some (.int .i64 4) := rb 0; have u1 : X2.cell? ⟨w.heap.size, 1, none⟩ = some (.int .u8 0) := rb 1; have u2 : X2.cell? ⟨w.heap.size, 2, none⟩ = some (.int .u8 0) := rb 2; have u3 : X2.cell? ⟨w.heap.size, 3, none⟩ = some (.int .u8 0) := rb 3; have u4 : X2.cell? ⟨w.heap.size, 4, none⟩ = some (.int .i64 0) := rb 4; have u5 : X2.cell? ⟨w.heap.size, 5, none⟩ = some (.bool false) := rb 5; have u6 : X2.cell? ⟨w.heap.size, 6, none⟩ = some (.string ⟨#[]⟩) := rb 6; have u7 : X2.cell? ⟨w.heap.size, 7, none⟩ = some (.pointer T') := rb 7; have u8 : X2.cell? ⟨w.heap.size, 8, none⟩ = some (.int .i64 5) := rb 8; have v0 := jb 0; have v1 := jb 1; have v2 := jb 2; have v3 := jb 3; have v4 := jb 4; have v5 := jb 5; have v6 := jb 6; have v7 := jb 7; have v8 := jb 8; clear rb jb
  go_upto_region 7 with fail
  refine at_world (fun X' => Fm w ⟨4, ⟨0, 0, 0, 0⟩, false, ⟨#[]⟩, (126 :: tx), 6⟩ T' X' ∧ Chain X' T' (126 :: tx)) (fc_cl V2.out 6 _ (by rfl)) ?_
  clear u0 u1 u2 u3 u4 u5 u6 u7 u8 v0 v1 v2 v3 v4 v5 v6 v7 v8 yb V2
  intro X3 hX
  have V3 := Lib.hid hX
  clear hX
  obtain ⟨y1, k1, j1⟩ := (show _ from V3.out.1.b)
  clear m0
  rw [HL.out] at V3
  go_wp2_with fail
  go_loopw [6, 7] (fun u v wr => ∃ (k : Nat) (A : Option Addr) (c : Nat) (T2 : Option Addr), k ≤ N ∧ u = .slice A k c ∧ v = .pointer T2 ∧ Hid (Grows X3 5 1 encB A k c (l.take k) wr ∧ Chain X3 T2 (l.drop k))) (fun u _ _ => N - lenV u)
  case atStart => exact ⟨0, none, 0, T', Nat.zero_le _, rfl, rfl, Grows.start _ _ _, V3.out.2⟩
  case round =>
    obtain ⟨k, A, c, T2, hk, rfl, rfl, HG⟩ := hrel
    by_cases hlt : k < N
    · have hkl : k < l.length := by rw [HN.out]; exact hlt
      obtain ⟨g, T3, rfl, hg, c0', c1', hch⟩ := chain_next HG.out.2 hkl (Below.refl _ _)
      have HCh := Lib.hid (And.intro hch c1')
      have HT := Lib.hid (take_snoc' (List.getElem?_eq_getElem hkl))
      have c0 := (HG.out.1.below.cell (p := ⟨g, 0, none⟩) hg).trans c0'
      obtain ⟨r, hr⟩ : ∃ r, l[k] = r := ⟨_, rfl⟩
      rw [hr] at c0 HT
      have hz1 := HG.out.1.below.size
      clear hkl hch c0' c1' hr y1 k1 j1
      go_wp2_with (at_builtin; refine wpList_push (w0 := wr) byte_elt HG.out.1.own hz1 rfl rfl rfl rfl rfl rfl rfl (by unfold maxLen; omega) (by omega) ?_; intro A6 c6 w6 hp; have V6 := Lib.hid (HG.out.1.push (x := r) (Below.refl _ _) hp); have d1 : w6.cell? ⟨g, 1, none⟩ = some (.pointer T3) := (V6.out.below.cell (p := ⟨g, 1, none⟩) hg).trans HCh.out.2; clear hp)
      go_roundw
      case rel => exact ⟨k + 1, A6, c6, T3, by omega, rfl, rfl, by rw [HT.out]; exact V6.out, HCh.out.1⟩
      case measure => simp only [lenV]; omega
    · obtain rfl : k = N := by omega
      obtain rfl := chain_end HG.out.2 HN.out.symm
      have HO := Lib.hid HG.out.1
      rw [show l.take k = l by rw [← HN.out, List.take_length]] at HO
      obtain ⟨g, rfl, hcap, hmx, hrv⟩ := rvB_own HO.out.own HO.out.below HN.out.symm (by omega)
      have CR := Lib.hid (rev_any g k c l X3 wr hrv (by omega) (by omega) HN.out.symm)
      have hcapi : (m6 : Int) ≤ (c : Int) := by omega
      have hm0 : (0 : Int) ≤ (m6 : Int) := by omega
      clear hrv y1 k1 j1 hlt hk
      go_wp2_with (first
        | (go_at_call 43; refine CR.out.mono ?_; rintro e w7 ⟨rfl, cs, hcs, hcc, hgg, b7⟩; have V7 := Lib.hid (V3.out.1.later b7); have cv := fun cap => run_convert_bytes_arg (P := Try.prog) w7 58 5 Try.underlying58 Try.underlying5 g 0 m6 cap M HM.out.2 (fun i hi => by
            rw [Nat.zero_add, hcs.2.1, hcc i (by omega), ← HM.out.1]
            simp [List.getD, List.getElem?_take, hi]) 9 Try.underlying9; rw [HsM.out] at cv; clear hcs hcc hgg b7)
        | (go_at_call 44; refine (CD.out _).mono ?_; rintro e w8 ⟨A8, c8, rfl, r8, b8⟩; have V8 := Lib.hid (And.intro (V7.out.later b8) r8); clear b8 r8; have HY := Lib.hid (V8.out.1.later (belAlloc w8 (.cells #[.int .i64 4, .int .i32 0, .bool false, .slice A8 nD c8] 47))); obtain ⟨y6, r6, j6⟩ := (show _ from HY.out.r); have q0 : (w8.alloc (.cells #[.int .i64 4, .int .i32 0, .bool false, .slice A8 nD c8] 47)).cell? ⟨w.heap.size + 1, 0, none⟩ = some (.int .i64 0) := r6 0; have q1 : (w8.alloc (.cells #[.int .i64 4, .int .i32 0, .bool false, .slice A8 nD c8] 47)).cell? ⟨w.heap.size + 1, 1, none⟩ = some (.int .u8 0) := r6 1; have q2 : (w8.alloc (.cells #[.int .i64 4, .int .i32 0, .bool false, .slice A8 nD c8] 47)).cell? ⟨w.heap.size + 1, 2, none⟩ = some (.int .u8 0) := r6 2; have q3 : (w8.alloc (.cells #[.int .i64 4, .int .i32 0, .bool false, .slice A8 nD c8] 47)).cell? ⟨w.heap.size + 1, 3, none⟩ = some (.int .u8 0) := r6 3; have q4 : (w8.alloc (.cells #[.int .i64 4, .int .i32 0, .bool false, .slice A8 nD c8] 47)).cell? ⟨w.heap.size + 1, 4, none⟩ = some (.int .i64 0) := r6 4; have q5 : (w8.alloc (.cells #[.int .i64 4, .int .i32 0, .bool false, .slice A8 nD c8] 47)).cell? ⟨w.heap.size + 1, 5, none⟩ = some (.bool false) := r6 5; have q6 : (w8.alloc (.cells #[.int .i64 4, .int .i32 0, .bool false, .slice A8 nD c8] 47)).cell? ⟨w.heap.size + 1, 6, none⟩ = some (.string ⟨#[]⟩) := r6 6; have q7 : (w8.alloc (.cells #[.int .i64 4, .int .i32 0, .bool false, .slice A8 nD c8] 47)).cell? ⟨w.heap.size + 1, 7, none⟩ = some (.pointer none) := r6 7; have q8 : (w8.alloc (.cells #[.int .i64 4, .int .i32 0, .bool false, .slice A8 nD c8] 47)).cell? ⟨w.heap.size + 1, 8, none⟩ = some (.int .i64 0) := r6 8; have f0 := j6 0; have f1 := j6 1; have f2 := j6 2; have f3 := j6 3; have f4 := j6 4; have f5 := j6 5; have f6 := j6 6; have f7 := j6 7; have f8 := j6 8; clear r6 j6))
      refine at_world (FinP w ⟨0, ⟨0, 0, 0, 0⟩, false, ⟨#[]⟩, [], 0⟩ none (.slice (some ⟨w8.heap.size, 0, none⟩) 1 1) 1 [⟨4, 0, false, D⟩]) (fin_put (s := ⟨0, ⟨0, 0, 0, 0⟩, false, ⟨#[]⟩, [], 0⟩) HY.out (kyW_text w8 _ 4 0 false A8 nD c8 D HND.out.symm V8.out.2) rfl rfl) ?_
      rintro Z ⟨⟨y9, k9, j9⟩, hk, hn, hb, hc⟩
      have HZ := Lib.hid (And.intro hc (And.intro hk (And.intro hn hb)))
      have e0 := k9 0
      have e1 := k9 1
      have e2 := k9 2
      have e3 := k9 3
      have e4 := k9 4
      have e5 := k9 5
      have e6 := k9 6
      have e7 := k9 7
      have e8 := k9 8
      clear hc hk hn hb k9 j9 y9 q0 q1 q2 q3 q4 q5 q6 q7 q8 f0 f1 f2 f3 f4 f5 f6 f7 f8 y6 
      refine bodyPost_ret (v := .tuple #[psV ⟨0, ⟨0, 0, 0, 0⟩, false, ⟨#[]⟩, [], 0⟩ none, .slice (some ⟨w8.heap.size, 0, none⟩) 1 1]) (by simp at e0 e1 e2 e3 e4 e5 e6 e7 e8; simp [results, Try.results21, go_sem, e0, e1, e2, e3, e4, e5, e6, e7, e8]) rfl ⟨none, (some ⟨w8.heap.size, 0, none⟩), 1, 1, rfl, HZ.out.1, HZ.out.2.1, HZ.out.2.2.1, HZ.out.2.2.2⟩
end Go.Proofs.Ytkkenabckhmkoaa

/- script: events; Bytes; the document's Same. -/
import Derived.Test.YtjkhkohlejkdlaaDoorScA
import Derived.Test.YtjkhkohlejkdlaaDoorLi
namespace Go.Proofs.YtjkhkohlejkdlaaDoor
open Go.RowKit
set_option linter.unusedVariables false
set_option linter.unusedSimpArgs false

/-- An event. -/
structure Evt where
  kind : Int
  byte : Int
  rows : Int
  cols : Int
instance : DecidableEq Evt := fun a b => decidable_of_iff (a.kind = b.kind ∧ a.byte = b.byte ∧ a.rows = b.rows ∧ a.cols = b.cols) (by
  obtain ⟨k, x, r, c⟩ := a
  obtain ⟨k', x', r', c'⟩ := b
  simp)
instance : Inhabited Evt := ⟨⟨0, 0, 0, 0⟩⟩
def encE (x : Evt) : List Value := [.int .i64 x.kind, .int .u8 x.byte, .int .i64 x.rows, .int .i64 x.cols]
theorem encE_len (x : Evt) : (encE x).length = 4 := rfl
abbrev ev (e : Evt) : Value := .agg #[.int .i64 e.kind, .int .u8 e.byte, .int .i64 e.rows, .int .i64 e.cols]
theorem evt_elt : Elt Tryd.prog 22 40 4 32 := elt_of Tryd.underlying22 (z := .agg #[.int .i64 0, .int .u8 0, .int .i64 0, .int .i64 0]) (by kernel_rfl) rfl (by decide)
theorem eq_evt (a b : Evt) (w : World) : (Op.equalIn 10000 40 (ev a) (ev b)).run Tryd.prog w = .ok (decide (a = b)) w := by
  rw [show (10000 : Nat) = 9999 + 1 from rfl, run_equalIn_agg w 9999 40 _ _ (by kernel_rfl) (by kernel_rfl)]
  simp only [Program.fieldsOf, Tryd.underlying40]
  have u3 := Tryd.underlying3
  have u4 := Tryd.underlying5
  have a3 := Tryd.isAgg3
  have a4 := Tryd.isAgg5
  have z3 := Tryd.sizeOf3
  have z4 := Tryd.sizeOf5
  obtain ⟨k, x, r, c⟩ := a
  obtain ⟨k', x', r', c'⟩ := b
  go_simp
  by_cases h1 : k = k' <;> by_cases h2 : x = x' <;> by_cases h3 : r = r' <;> by_cases h4 : c = c' <;> simp [h1, h2, h3, h4]
theorem neq_evt (a b : Evt) (w : World) : (Go.binOp .neq 40 (ev a) (ev b)).run Tryd.prog w = .ok (.bool (!decide (a = b))) w := by
  rw [run_neq_struct, eq_evt]
  rfl
theorem eql_evt (a b : Evt) (w : World) : (Go.binOp .eql 40 (ev a) (ev b)).run Tryd.prog w = .ok (.bool (decide (a = b))) w := by
  rw [run_eql_struct, eq_evt]
  rfl
theorem Li.evt {w : World} {S : Nat → Prop} {A : Option Addr} {L : List Evt} (h : Li 4 encE w S A L) {j : Nat} (hj : j < L.length) : ∃ x b o, L[j]? = some x ∧ A = some ⟨b, o, none⟩ ∧ b < w.heap.size ∧
    w.cell? ⟨b, o + j * 4, none⟩ = some (.int .i64 x.kind) ∧ w.cell? ⟨b, o + j * 4 + 1, none⟩ = some (.int .u8 x.byte) ∧ w.cell? ⟨b, o + j * 4 + 2, none⟩ = some (.int .i64 x.rows) ∧ w.cell? ⟨b, o + j * 4 + 3, none⟩ = some (.int .i64 x.cols) := by
  obtain ⟨b, o, e, hl, hs, hc⟩ := h.at hj
  exact ⟨L[j], b, o, List.getElem?_eq_getElem hj, e, hl, hc 0 _ rfl, by have := hc 1 _ rfl; rwa [← Nat.add_assoc] at this, by have := hc 2 _ rfl; rwa [← Nat.add_assoc] at this, by have := hc 3 _ rfl; rwa [← Nat.add_assoc] at this⟩

/-! ### Bytes -/
def bytesP (l : List UInt8) : List Evt := l.map fun b => ⟨1, (b.toNat : Nat), 0, 0⟩
theorem bytesP_snoc {l : List UInt8} {k : Nat} (hk : k < l.length) : bytesP (l.take (k + 1)) = bytesP (l.take k) ++ [⟨1, ((l.getD k 0).toNat : Nat), 0, 0⟩] := by
  unfold bytesP
  rw [List.take_succ_eq_append_getElem hk, List.map_append]
  simp [List.getD, hk]
theorem byte_is (s : ByteArray) {k : Nat} (h : k < s.size) : s.data.toList.getD k 0 = s[k]'h := by
  have h2 : k < s.data.toList.length := by rw [Array.length_toList]; exact h
  simp only [List.getD, List.getElem?_eq_getElem h2, Option.getD_some]
  rfl
set_option maxHeartbeats 2000000 in
theorem bytes_any (s : ByteArray) (hs : s.size ≤ 1000000) (w : World) : Calls Tryd.prog 15 #[.string s] w fun e w' => ∃ A c, e = .returned (.slice A s.size c) ∧ LiV 4 encE w' (fun b => w.heap.size ≤ b) (.slice A s.size c) (bytesP s.data.toList) ∧ Below w.heap.size w w' := by
  have hsz : s.data.toList.length = s.size := Array.length_toList
  go_enter Tryd.func15, Tryd.ntmps15
  go_wp2
  go_loopw [3, 7] (fun o i wr => ∃ k A c, k ≤ s.size ∧ i = .int .i64 ((k : Nat) : Int) ∧ o = .slice A k c ∧ Hid (wr.ownsRow w.heap.size 40 4 (.slice A k c) k (flatL encE (bytesP (s.data.toList.take k))) ∧ Below w.heap.size w wr)) (fun _ i _ => s.size - (intOf i).toNat)
  case atStart => exact ⟨0, none, 0, Nat.zero_le _, rfl, rfl, Lib.hid ⟨World.ownsRow_nil _ _ _ _, Below.refl _ _⟩⟩
  case round =>
    obtain ⟨k, A, c, hk, rfl, rfl, H⟩ := hrel
    by_cases hlt : k < s.size
    · have hki : (k : Int) < (s.size : Int) := by omega
      have HS := Lib.hid (show bytesP (s.data.toList.take (k + 1)) = bytesP (s.data.toList.take k) ++ [⟨1, ((s[k]'hlt).toNat : Nat), 0, 0⟩] by
        rw [bytesP_snoc (l := s.data.toList) (k := k) (by omega), byte_is s hlt])
      have hz := H.out.2.size
      go_wp2_with (at_builtin; refine wpList_push evt_elt H.out.1 hz rfl rfl rfl rfl rfl rfl rfl (by unfold maxLen; omega) (by omega) ?_; intro A3 c3 w3 hp; have HQ := Lib.hid (And.intro hp.own (hp.below H.out.2 H.out.1 (Nat.le_refl _))); clear hp)
      go_roundw
      case rel => exact ⟨k + 1, A3, c3, hlt, by go_num, rfl, Lib.hid ⟨by rw [HS.out, flatL_snoc]; exact HQ.out.1, HQ.out.2⟩⟩
      case measure => simp [intOf]; omega
    · obtain rfl : k = s.size := by omega
      have hd : decide ((s.size : Int) < (s.size : Int)) = false := by simp
      have HZ := Lib.hid (LiV.own encE_len (by decide) H.out.1)
      go_wp2
      go_ret
      exact ⟨A, c, rfl, by have := HZ.out; rwa [List.take_of_length_le (by omega)] at this, H.out.2⟩
/-! ### the document's Same -/
set_option maxHeartbeats 2000000 in
theorem rsame_any (A B : Option Addr) (c d : Nat) (L M : List Evt) (w : World) (hL : LiV 4 encE w (fun _ => True) (.slice A L.length c) L) (hM : LiV 4 encE w (fun _ => True) (.slice B M.length d) M) : Calls Tryd.prog 10 #[.slice A L.length c, .slice B M.length d] w fun e w' => e = .returned (.bool (decide (L = M))) ∧ ∃ k, w' = w.drewN k := by
  obtain ⟨-, HL, -, hc, hc2⟩ := hL.parts
  obtain ⟨-, HM, -, hd, hd2⟩ := hM.parts
  have HL := Lib.hid HL
  have HM := Lib.hid HM
  clear hL hM
  by_cases hlen : L.length = M.length
  · obtain ⟨N, hN⟩ : ∃ N, M.length = N := ⟨_, rfl⟩
    rw [hN] at hlen ⊢
    rw [hlen] at hc ⊢
    have HN := Lib.hid (And.intro hlen hN)
    have e0 : ((N : Int) != (N : Int)) = false := by simp
    clear hlen hN
    go_enter Tryd.func10, Tryd.ntmps10
    go_wp2
    go_loopw [5] (fun i wr => ∃ k, k ≤ N ∧ i = .int .i64 ((k : Nat) : Int) ∧ Hid (L.take k = M.take k ∧ ∃ q, wr = w.drewN q)) (fun i _ => N - (intOf i).toNat)
    case atStart => exact ⟨0, Nat.zero_le _, rfl, Lib.hid ⟨rfl, 0, rfl⟩⟩
    case round =>
      obtain ⟨k, hk, rfl, H⟩ := hrel
      obtain ⟨q, hw⟩ := H.out.2
      have HT := Lib.hid H.out.1
      have hA := HL.out.later (below_drewN (Below.refl _ _) q)
      have hB := HM.out.later (below_drewN (Below.refl _ _) q)
      rw [← hw] at hA hB
      have HW := Lib.hid hw
      clear H hw
      by_cases hlt : k < N
      · have hki : (k : Int) < (N : Int) := by omega
        obtain ⟨x, b, o, hx, rfl, hb, c0, c1, c2, c3⟩ := hA.evt (j := k) (by rw [HN.out.1]; exact hlt)
        obtain ⟨y, b', o', hy, rfl, hb', d0, d1, d2, d3⟩ := hB.evt (j := k) (by rw [HN.out.2]; exact hlt)
        have HXY := Lib.hid (And.intro hx hy)
        have hq := neq_evt x y
        clear hx hy hA hB
        by_cases hxy : x = y
        · subst hxy
          simp only [decide_true, Bool.not_true] at hq
          have HT2 := Lib.hid (show L.take (k + 1) = M.take (k + 1) by rw [List.take_add_one, List.take_add_one, HT.out, HXY.out.1, HXY.out.2])
          go_wp2
          go_quiet (fail)
          go_wp2
          go_roundw
          case rel => exact ⟨k + 1, by omega, by go_num, Lib.hid ⟨HT2.out, _, by rw [HW.out]; exact World.drewN_drewN _ _ _⟩⟩
          case measure => simp [intOf]; omega
        · simp only [decide_eq_false hxy, Bool.not_false] at hq
          have HF := Lib.hid (show decide (L = M) = false from decide_eq_false fun e => hxy (by have h1 := HXY.out.1; have h2 := HXY.out.2; rw [e, h2] at h1; injection h1 with h1; exact h1.symm))
          go_wp2
          go_quiet (fail)
          go_wp2
          go_ret
          rw [HF.out]
          exact ⟨rfl, _, by rw [HW.out]; exact World.drewN_drewN _ _ _⟩
      · obtain rfl : k = N := by omega
        have hd : decide ((k : Int) < (k : Int)) = false := by simp
        have HF := Lib.hid (show decide (L = M) = true from decide_eq_true (by
          have h := HT.out
          rwa [List.take_of_length_le (by rw [HN.out.1]; exact Nat.le_refl _), List.take_of_length_le (by rw [HN.out.2]; exact Nat.le_refl _)] at h))
        clear hA hB
        go_wp2
        go_ret
        rw [HF.out]
        exact ⟨rfl, _, HW.out⟩
  · rw [decide_eq_false (fun e => hlen (by rw [e]))]
    have e0 : ((L.length : Int) != (M.length : Int)) = true := by simp; omega
    clear HL HM
    go_enter Tryd.func10, Tryd.ntmps10
    go_wp2
    go_ret
    exact ⟨rfl, 0, rfl⟩
end Go.Proofs.YtjkhkohlejkdlaaDoor

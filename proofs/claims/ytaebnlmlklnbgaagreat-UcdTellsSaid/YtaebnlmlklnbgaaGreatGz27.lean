/- ucd: Conj and the truths, of the given table. -/
import Derived.Test.YtaebnlmlklnbgaaGreatGz25
import Derived.Test.YtaebnlmlklnbgaaGreatGz26
namespace Go.Proofs.YtaebnlmlklnbgaaGreat
open Go.RowKit
set_option linter.unusedVariables false
set_option linter.unusedSimpArgs false

theorem getK_any {g : Int → TK.V3} {t : Nat} {W : World} (h : IsK g t W) (r : Int) :
    Calls Tryz.prog 57 #[.pointer (some ⟨t, 0, none⟩), .int .i64 r] W (fun e w' => e = .returned (TK.vV (at0 (false, false, false) g r)) ∧ Below W.heap.size W w') := by
  obtain ⟨base, mb, hd, Bs, Ix, l, h⟩ := h
  unfold at0
  by_cases hr : 0 ≤ r ∧ r < 1114112
  · rw [if_pos hr]
    have := TK.get_any h (by omega) r.toNat (by omega)
    rw [show ((r.toNat : Nat) : Int) = r by omega] at this
    exact this
  · rw [if_neg hr]
    exact TK.get_out h r (by omega)
set_option maxHeartbeats 1000000 in
theorem has_any {g : Int → TK.V3} {tp t : Nat} {W : World} (k : W.cell? ⟨tp, 5, none⟩ = some (.pointer (some ⟨t, 0, none⟩))) (h : IsK g t W) (r : Int) (h0 : -2147483648 ≤ r) (h1 : r ≤ 2147483647) (j : Int) (v : Bool)
    (hv : ∀ Z, (Instr.index 75 (TK.vV (at0 (false, false, false) g r)) (.int .i64 j)).run Tryz.prog Z = .ok (.bool v) Z) :
    Calls Tryz.prog 37 #[.pointer (some ⟨tp, 0, none⟩), .int .i32 r, .int .i64 j] W (fun e w' => e = .returned (.bool v) ∧ Below W.heap.size W w') := by
  have C := Lib.hid (getK_any h r)
  obtain ⟨x, hx⟩ : ∃ x, at0 (false, false, false) g r = x := ⟨_, rfl⟩
  rw [hx] at C
  simp only [hx] at hv
  clear h hx
  go_enter Tryz.func37, Tryz.ntmps37
  go_wp2_with fail
  refine C.out.mono ?_
  rintro e w1 ⟨rfl, hb⟩
  go_wp2
  go_ret
  exact ⟨rfl, hb⟩
theorem truth_at {L : List RW.Row} {g : Int → TK.V3} (h : ∀ r, 0 ≤ r → r ≤ 1114111 → g r = (vget 5 L r == 1, vget 7 L r == 1, vget 8 L r == 1)) (r : Int) : at0 (false, false, false) g r = (at0 0 (vget 5 L) r == 1, at0 0 (vget 7 L) r == 1, at0 0 (vget 8 L) r == 1) := by
  unfold at0
  by_cases hr : 0 ≤ r ∧ r < 1114112
  · simp only [if_pos hr]
    exact h r hr.1 (by omega)
  · simp only [if_neg hr]
    rfl
/-- How a scalar goes in conjuncts. -/
def conjB (gj gb : Int → Int) (r : Int) : Int := if at0 0 gj r ≠ 0 then at0 0 gj r else if (breakB gb r = 4 ∨ breakB gb r = 5) ∧ r ≠ 8204 then 3 else 0
section
variable {lo hi : Nat} {L : List RW.Row} {tp : Nat} {W : World}
set_option maxHeartbeats 1000000 in
theorem upict (h : Ucd lo hi L tp W) (r : Int) (r0 : -2147483648 ≤ r) (r1 : r ≤ 2147483647) :
    Calls Tryz.prog 14 #[.pointer (some ⟨tp, 0, none⟩), .int .i32 r] W (fun e w' => e = .returned (.bool (at0 0 (vget 5 L) r == 1)) ∧ Below W.heap.size W w') := by
  obtain ⟨t0, t1, t2, t3, t4, t5, b6, b7, h⟩ := h
  obtain ⟨g5, i5, e5⟩ := h.h5
  have C := Lib.hid (has_any (h.blk.2.1 5) i5.is r r0 r1 0 (at0 0 (vget 5 L) r == 1) (fun Z => by rw [truth_at e5 r]; kernel_rfl))
  clear h i5 e5
  go_enter Tryz.func14, Tryz.ntmps14
  go_wp2_with fail
  refine C.out.mono ?_
  rintro e w1 ⟨rfl, hb⟩
  go_wp2
  go_ret
  exact ⟨rfl, hb⟩
set_option maxHeartbeats 1000000 in
theorem uwide (h : Ucd lo hi L tp W) (r : Int) (r0 : -2147483648 ≤ r) (r1 : r ≤ 2147483647) :
    Calls Tryz.prog 15 #[.pointer (some ⟨tp, 0, none⟩), .int .i32 r] W (fun e w' => e = .returned (.bool (at0 0 (vget 7 L) r == 1)) ∧ Below W.heap.size W w') := by
  obtain ⟨t0, t1, t2, t3, t4, t5, b6, b7, h⟩ := h
  obtain ⟨g5, i5, e5⟩ := h.h5
  have C := Lib.hid (has_any (h.blk.2.1 5) i5.is r r0 r1 1 (at0 0 (vget 7 L) r == 1) (fun Z => by rw [truth_at e5 r]; kernel_rfl))
  clear h i5 e5
  go_enter Tryz.func15, Tryz.ntmps15
  go_wp2_with fail
  refine C.out.mono ?_
  rintro e w1 ⟨rfl, hb⟩
  go_wp2
  go_ret
  exact ⟨rfl, hb⟩
set_option maxHeartbeats 1000000 in
theorem uletter (h : Ucd lo hi L tp W) (r : Int) (r0 : -2147483648 ≤ r) (r1 : r ≤ 2147483647) :
    Calls Tryz.prog 16 #[.pointer (some ⟨tp, 0, none⟩), .int .i32 r] W (fun e w' => e = .returned (.bool (at0 0 (vget 8 L) r == 1)) ∧ Below W.heap.size W w') := by
  obtain ⟨t0, t1, t2, t3, t4, t5, b6, b7, h⟩ := h
  obtain ⟨g5, i5, e5⟩ := h.h5
  have C := Lib.hid (has_any (h.blk.2.1 5) i5.is r r0 r1 2 (at0 0 (vget 8 L) r == 1) (fun Z => by rw [truth_at e5 r]; kernel_rfl))
  clear h i5 e5
  go_enter Tryz.func16, Tryz.ntmps16
  go_wp2_with fail
  refine C.out.mono ?_
  rintro e w1 ⟨rfl, hb⟩
  go_wp2
  go_ret
  exact ⟨rfl, hb⟩
set_option maxHeartbeats 4000000 in
theorem uconj (h : Ucd lo hi L tp W) (hh : hi ≤ W.heap.size) (r : Int) (r0 : -2147483648 ≤ r) (r1 : r ≤ 2147483647) :
    Calls Tryz.prog 12 #[.pointer (some ⟨tp, 0, none⟩), .int .i32 r] W (fun e w' => e = .returned (.int .i64 (conjB (vget 6 L) (vget 4 L) r)) ∧ Below W.heap.size W w') := by
  have CB := Lib.hid (fun (X : World) (hX : Below W.heap.size W X) => ubreak (h.later (hX.mono hh)) r r0 r1)
  obtain ⟨t0, t1, t2, t3, t4, t5, b6, b7, h⟩ := h
  obtain ⟨g2, i2, e2⟩ := h.h2
  have c1 := getT_any i2.is r
  rw [at0_congr e2 r] at c1
  have k := h.blk.2.1 2
  unfold conjB
  obtain ⟨x, hx⟩ : ∃ x, at0 0 (vget 6 L) r = x := ⟨_, rfl⟩
  obtain ⟨b, hb⟩ : ∃ b, breakB (vget 4 L) r = b := ⟨_, rfl⟩
  rw [hx] at c1 ⊢
  rw [hb] at CB ⊢
  have C := Lib.hid c1
  have k := (show W.cell? ⟨tp, 2, none⟩ = some (.pointer (some ⟨t2, 0, none⟩)) from k)
  clear h i2 e2 c1 hx hb
  by_cases e1 : x = 0
  · subst e1
    rw [if_neg (by simp)]
    obtain ⟨V, hV⟩ : ∃ V, (if (b = 4 ∨ b = 5) ∧ r ≠ 8204 then (3 : Int) else 0) = V := ⟨_, rfl⟩
    rw [hV]
    have HV := Lib.hid hV
    clear hV
    go_enter Tryz.func12, Tryz.ntmps12
    go_wp2_with fail
    refine C.out.mono ?_
    rintro e w1 ⟨rfl, hb1⟩
    have C2 := Lib.hid (CB.out w1 hb1)
    go_wp2_with fail
    refine C2.out.mono ?_
    rintro e w2 ⟨rfl, hb2⟩
    have HB := Lib.hid (hb1.trans (hb2.mono hb1.size))
    clear hb1 hb2 C2 CB C k
    by_cases e4 : b = 4
    · subst e4
      by_cases e8 : r = 8204
      · subst e8
        obtain rfl : 0 = V := by rw [← HV.out, if_neg (by simp)]
        clear HV
        go_wp2
        go_ret
        exact ⟨rfl, HB.out⟩
      · have d8 : (r != 8204) = true := by simpa using e8
        obtain rfl : 3 = V := by rw [← HV.out, if_pos ⟨.inl rfl, e8⟩]
        clear HV
        clear e8
        go_wp2
        go_ret
        exact ⟨rfl, HB.out⟩
    · have d4 : (b == 4) = false := by simpa using e4
      by_cases e5 : b = 5
      · subst e5
        by_cases e8 : r = 8204
        · subst e8
          obtain rfl : 0 = V := by rw [← HV.out, if_neg (by simp)]
          clear HV
          go_wp2
          go_ret
          exact ⟨rfl, HB.out⟩
        · have d8 : (r != 8204) = true := by simpa using e8
          obtain rfl : 3 = V := by rw [← HV.out, if_pos ⟨.inr rfl, e8⟩]
          clear HV
          clear e8 e4 d4
          go_wp2
          go_ret
          exact ⟨rfl, HB.out⟩
      · have d5 : (b == 5) = false := by simpa using e5
        obtain rfl : 0 = V := by rw [← HV.out, if_neg (fun h => h.1.elim e4 e5)]
        clear HV
        clear e4 e5
        go_wp2
        go_ret
        exact ⟨rfl, HB.out⟩
  · have d1 : (x != 0) = true := by simpa using e1
    rw [if_pos e1]
    clear e1
    go_enter Tryz.func12, Tryz.ntmps12
    go_wp2_with fail
    refine C.out.mono ?_
    rintro e w1 ⟨rfl, hb1⟩
    go_wp2
    go_ret
    exact ⟨rfl, hb1⟩
end
/-! ### the document's -/
set_option maxHeartbeats 4000000 in
theorem rbreak_any (A : Option Addr) (c : Nat) (L : List RW.Row) (r : Int) (w : World) (hL : Li 5 RW.encR w (fun _ => True) A L) (hc : L.length ≤ c) (hn : L.length ≤ 100000) (r0 : -2147483648 ≤ r) (r1 : r ≤ 2147483647) :
    Calls Tryz.prog 11 #[.slice A L.length c, .int .i32 r] w fun e w' => e = .returned (.int .i64 (breakB (vget 4 L) r)) ∧ w = w' := by
  have c1 := RW.ofR_any A c L 4 r w hL hc hn r0 r1
  rw [aR_eq] at c1
  unfold breakB
  obtain ⟨y, hy⟩ : ∃ y, at0 0 (vget 4 L) r = y := ⟨_, rfl⟩
  rw [hy] at c1 ⊢
  have C := Lib.hid c1
  clear hy c1 hL
  by_cases a : 44032 ≤ r
  · by_cases b : r ≤ 55203
    · rw [if_pos ⟨a, b⟩]
      have m1 : (r - 44032).tmod 28 = (r - 44032) % 28 := Int.tmod_eq_emod_of_nonneg (by omega)
      have m2 : IntKind.i32.wrap (r - 44032) = r - 44032 := IntWalk.i32_in _ (by omega)
      obtain ⟨q, hq⟩ : ∃ q, (r - 44032).tmod 28 = q := ⟨_, rfl⟩
      have q0 : 0 ≤ q ∧ q < 28 := by omega
      have m3 : IntKind.i32.wrap q = q := IntWalk.i32_in _ (by omega)
      rw [hq]
      clear m1 C
      by_cases c : q = 0
      · subst c
        rw [if_pos rfl]
        go_enter Tryz.func11, Tryz.ntmps11
        go_wp2
        go_ret
        exact ⟨rfl, rfl⟩
      · rw [if_neg c]
        have c' : (q == 0) = false := by simpa using c
        go_enter Tryz.func11, Tryz.ntmps11
        go_wp2
        go_ret
        exact ⟨rfl, rfl⟩
    · rw [if_neg (fun h => b h.2)]
      go_enter Tryz.func11, Tryz.ntmps11
      go_wp2_with fail
      refine C.out.mono ?_
      rintro e w1 ⟨rfl, rfl⟩
      go_wp2
      go_ret
      exact ⟨rfl, rfl⟩
  · rw [if_neg (fun h => a h.1)]
    go_enter Tryz.func11, Tryz.ntmps11
    go_wp2_with fail
    refine C.out.mono ?_
    rintro e w1 ⟨rfl, rfl⟩
    go_wp2
    go_ret
    exact ⟨rfl, rfl⟩
set_option maxHeartbeats 4000000 in
theorem rconj_any (A : Option Addr) (c : Nat) (L : List RW.Row) (r : Int) (w : World) (hL : Li 5 RW.encR w (fun _ => True) A L) (hc : L.length ≤ c) (hn : L.length ≤ 100000) (r0 : -2147483648 ≤ r) (r1 : r ≤ 2147483647) :
    Calls Tryz.prog 13 #[.slice A L.length c, .int .i32 r] w fun e w' => e = .returned (.int .i64 (conjB (vget 6 L) (vget 4 L) r)) ∧ w = w' := by
  have c1 := RW.ofR_any A c L 6 r w hL hc hn r0 r1
  have cb := rbreak_any A c L r w hL hc hn r0 r1
  rw [aR_eq] at c1
  unfold conjB
  obtain ⟨x, hx⟩ : ∃ x, at0 0 (vget 6 L) r = x := ⟨_, rfl⟩
  obtain ⟨b, hb⟩ : ∃ b, breakB (vget 4 L) r = b := ⟨_, rfl⟩
  rw [hx] at c1 ⊢
  rw [hb] at cb ⊢
  have C := Lib.hid c1
  have CB := Lib.hid cb
  clear c1 cb hx hb hL
  by_cases e1 : x = 0
  · subst e1
    rw [if_neg (by simp)]
    obtain ⟨V, hV⟩ : ∃ V, (if (b = 4 ∨ b = 5) ∧ r ≠ 8204 then (3 : Int) else 0) = V := ⟨_, rfl⟩
    rw [hV]
    have HV := Lib.hid hV
    clear hV
    go_enter Tryz.func13, Tryz.ntmps13
    go_wp2_with fail
    refine C.out.mono ?_
    rintro e w1 ⟨rfl, rfl⟩
    go_wp2_with fail
    refine CB.out.mono ?_
    rintro e w2 ⟨rfl, rfl⟩
    clear CB C
    by_cases e4 : b = 4
    · subst e4
      by_cases e8 : r = 8204
      · subst e8
        obtain rfl : 0 = V := by rw [← HV.out, if_neg (by simp)]
        clear HV
        go_wp2
        go_ret
        exact ⟨rfl, rfl⟩
      · have d8 : (r != 8204) = true := by simpa using e8
        obtain rfl : 3 = V := by rw [← HV.out, if_pos ⟨.inl rfl, e8⟩]
        clear HV
        clear e8
        go_wp2
        go_ret
        exact ⟨rfl, rfl⟩
    · have d4 : (b == 4) = false := by simpa using e4
      by_cases e5 : b = 5
      · subst e5
        by_cases e8 : r = 8204
        · subst e8
          obtain rfl : 0 = V := by rw [← HV.out, if_neg (by simp)]
          clear HV
          go_wp2
          go_ret
          exact ⟨rfl, rfl⟩
        · have d8 : (r != 8204) = true := by simpa using e8
          obtain rfl : 3 = V := by rw [← HV.out, if_pos ⟨.inr rfl, e8⟩]
          clear HV
          clear e8 e4 d4
          go_wp2
          go_ret
          exact ⟨rfl, rfl⟩
      · have d5 : (b == 5) = false := by simpa using e5
        obtain rfl : 0 = V := by rw [← HV.out, if_neg (fun h => h.1.elim e4 e5)]
        clear HV
        clear e4 e5
        go_wp2
        go_ret
        exact ⟨rfl, rfl⟩
  · have d1 : (x != 0) = true := by simpa using e1
    rw [if_pos e1]
    clear e1
    go_enter Tryz.func13, Tryz.ntmps13
    go_wp2_with fail
    refine C.out.mono ?_
    rintro e w1 ⟨rfl, rfl⟩
    go_wp2
    go_ret
    exact ⟨rfl, rfl⟩
end Go.Proofs.YtaebnlmlklnbgaaGreat

namespace Go.Proofs.YtaebnlmlklnbgaaGreat
open Go.RowKit
set_option linter.unusedVariables false
set_option linter.unusedSimpArgs false

theorem of_any (A : Option Addr) (c : Nat) (L : List RW.Row) (k r : Int) (w : World) (hL : Li 5 RW.encR w (fun _ => True) A L) (hc : L.length ≤ c) (hn : L.length ≤ 100000) (r0 : -2147483648 ≤ r) (r1 : r ≤ 2147483647) :
    Calls Tryz.prog 9 #[.slice A L.length c, .int .i64 k, .int .i32 r] w fun e w' => e = .returned (.int .i64 (at0 0 (vget k L) r)) ∧ w = w' := by
  have := RW.ofR_any A c L k r w hL hc hn r0 r1
  rwa [aR_eq] at this
section
variable {T : List RW.Row} {tp : Nat} {W : World}
theorem tpict (h : Tabs T tp W) (r : Int) (r0 : -2147483648 ≤ r) (r1 : r ≤ 2147483647) :
    Calls Tryz.prog 14 #[.pointer (some ⟨tp, 0, none⟩), .int .i32 r] W (fun e w' => e = .returned (.bool (at0 0 (vget 5 T) r == 1)) ∧ Below W.heap.size W w') := by
  obtain ⟨lo, hi, _, h⟩ := h
  exact upict h r r0 r1
theorem twide (h : Tabs T tp W) (r : Int) (r0 : -2147483648 ≤ r) (r1 : r ≤ 2147483647) :
    Calls Tryz.prog 15 #[.pointer (some ⟨tp, 0, none⟩), .int .i32 r] W (fun e w' => e = .returned (.bool (at0 0 (vget 7 T) r == 1)) ∧ Below W.heap.size W w') := by
  obtain ⟨lo, hi, _, h⟩ := h
  exact uwide h r r0 r1
theorem tletter (h : Tabs T tp W) (r : Int) (r0 : -2147483648 ≤ r) (r1 : r ≤ 2147483647) :
    Calls Tryz.prog 16 #[.pointer (some ⟨tp, 0, none⟩), .int .i32 r] W (fun e w' => e = .returned (.bool (at0 0 (vget 8 T) r == 1)) ∧ Below W.heap.size W w') := by
  obtain ⟨lo, hi, _, h⟩ := h
  exact uletter h r r0 r1
theorem tconj (h : Tabs T tp W) (r : Int) (r0 : -2147483648 ≤ r) (r1 : r ≤ 2147483647) :
    Calls Tryz.prog 12 #[.pointer (some ⟨tp, 0, none⟩), .int .i32 r] W (fun e w' => e = .returned (.int .i64 (conjB (vget 6 T) (vget 4 T) r)) ∧ Below W.heap.size W w') := by
  obtain ⟨lo, hi, hh, h⟩ := h
  exact uconj h hh r r0 r1
end
end Go.Proofs.YtaebnlmlklnbgaaGreat

/- trie: Get, Len, Blocks. -/
import Derived.Test.YtpbdamjpjpchiaaTs5
namespace Go.Proofs.Ytpbdamjpjpchiaa.TS
open Go.RowKit Go.Maps
set_option linter.unusedVariables false
set_option linter.unusedSimpArgs false

theorem row_cell {w : World} {base size n c g : Nat} {e : TypeId} {xs : List Value} (h : w.ownsRow base e size (.slice (some ⟨g, 0, none⟩) n c) n xs) {j : Nat} {u : Value} (hj : xs[j]? = some u) : w.cell? ⟨g, j, none⟩ = some u := by
  obtain ⟨h1, ⟨h2, _⟩ | ⟨g', cap, cur, e1, _, hh, _, _, _, ht⟩⟩ := h
  · cases h2
  · injection e1 with e1
    injection e1 with e1
    injection e1 with e1
    subst e1
    rw [← ht] at hj
    have hl : j < n * size := by
      have := (List.getElem?_eq_some_iff.1 hj).1
      simp at this; omega
    rw [List.getElem?_take_of_lt hl] at hj
    simp [World.cell?, hh]
    simpa using hj
theorem row_at {w : World} {base size n c : Nat} {e : TypeId} {A : Option Addr} {xs : List Value} (h : w.ownsRow base e size (.slice A n c) n xs) (hn : 0 < n) : ∃ g, A = some ⟨g, 0, none⟩ ∧ g < w.heap.size := by
  have hl := h.lt
  obtain ⟨h1, ⟨h2, h3⟩ | ⟨g', cap, cur, e1, _, hh, _⟩⟩ := h
  · omega
  · injection e1 with e1
    subst e1
    exact ⟨g', rfl, (Array.getElem?_eq_some_iff.1 hh).1⟩
theorem flatB_get : ∀ (Bs : List (List ByteArray)) (i r : Nat) (B : List ByteArray) (x : ByteArray), (∀ B ∈ Bs, B.length = 128) → Bs[i]? = some B → B[r]? = some x → (flatL cellsB Bs)[i * 128 + r]? = some (.string x)
  | [], _, _, _, _, _, h, _ => by simp at h
  | C :: Bs, 0, r, B, x, hl, h, hr => by
    simp only [List.getElem?_cons_zero, Option.some.injEq] at h
    subst h
    have hlt := (List.getElem?_eq_some_iff.1 hr).1
    have : flatL cellsB (C :: Bs) = cellsB C ++ flatL cellsB Bs := by simp [flatL]
    rw [this, Nat.zero_mul, Nat.zero_add, List.getElem?_append_left (by rw [cellsB_len]; exact hlt)]
    simp [cellsB, hr]
  | C :: Bs, i + 1, r, B, x, hl, h, hr => by
    have hC := hl C (by simp)
    have : flatL cellsB (C :: Bs) = cellsB C ++ flatL cellsB Bs := by simp [flatL]
    rw [this, List.getElem?_append_right (by rw [cellsB_len, hC]; omega), cellsB_len, hC, show (i + 1) * 128 + r - 128 = i * 128 + r by omega]
    exact flatB_get Bs i r B x (fun B hB => hl B (by simp [hB])) (by simpa using h) hr
theorem bk_at (g : Int → ByteArray) {m i : Nat} (hi : i < m) : (bk g m (i / 128))[i % 128]? = some (g i) := by
  unfold bk blk
  rw [List.getElem?_map, List.getElem?_range (Nat.mod_lt _ (by omega))]
  simp only [Option.map_some, bval]
  congr 2
  omega

section
variable {base m tb mb : Nat} {g : Int → ByteArray} {hd : Hd} {Bs : List (List ByteArray)} {Ix : List Nat} {l : List ByteArray → Option Nat} {W : World}
set_option maxHeartbeats 4000000 in
set_option maxRecDepth 100000 in
theorem get_any (h : BtI base g m tb mb hd Bs Ix l W) (hm : m ≤ 100000) (i : Nat) (hi : i < m) :
    Calls Try.prog 20 #[.pointer (some ⟨tb, 0, none⟩), .int .i64 (i : Nat)] W (fun e w' => e = .returned (.string (g i)) ∧ Below W.heap.size W w') := by
  have hq : i / 128 < cntB m := by unfold cntB; omega
  obtain ⟨q, hq1, hq2⟩ := h.is (i / 128) hq
  obtain ⟨tr, hix, _, _⟩ := h
  obtain ⟨A, n, c, A2, n2, c2⟩ := hd
  have hn2 := own_count (enc := encN) (fun _ => rfl) (Nat.zero_lt_one) tr.wh
  have hn := tr.len
  dsimp only at hn2 hn
  have hql := (List.getElem?_eq_some_iff.1 hq2).1
  have hq1l := (List.getElem?_eq_some_iff.1 hq1).1
  obtain ⟨g1, rfl, l1⟩ := row_at tr.bl (by show 0 < n; omega)
  obtain ⟨g2, rfl, l2⟩ := row_at tr.wh (by show 0 < n2; omega)
  have c2' : W.cell? ⟨g2, i / 128, none⟩ = some (.int .i32 (q : Nat)) := row_cell tr.wh (by
    have := flatL_get (enc := encN) (k := 1) (fun _ => rfl) Ix (i / 128) q 0 _ hq1 rfl
    simpa using this)
  have c1' : W.cell? ⟨g1, q * 128 + i % 128, none⟩ = some (.string (g i)) := row_cell tr.bl (flatB_get Bs q (i % 128) _ _ (fun B hB => (tr.wf B hB).1) hq2 (bk_at g hi))
  obtain ⟨y0, k0, j0⟩ := (show Blk _ _ _ from tr.cel)
  have k1 : W.cell? ⟨tb, 0, none⟩ = some (.int .i64 (m : Nat)) := k0 0
  have k2 : W.cell? ⟨tb, 1, none⟩ = some (.slice (some ⟨g1, 0, none⟩) n c) := k0 1
  have k3 : W.cell? ⟨tb, 2, none⟩ = some (.slice (some ⟨g2, 0, none⟩) n2 c2) := k0 2
  have f1 : decide (((i : Nat) : Int) < 0) = false := decide_eq_false (by omega)
  have f2 : decide (((m : Nat) : Int) ≤ ((i : Nat) : Int)) = false := decide_eq_false (by omega)
  have f3 : ((i : Nat) : Int).tdiv 128 = ((i / 128 : Nat) : Int) := by rw [Int.tdiv_eq_ediv_of_nonneg (by omega)]; omega
  have f4 : ((i : Nat) : Int).tmod 128 = ((i % 128 : Nat) : Int) := by rw [Int.tmod_eq_emod_of_nonneg (by omega)]; omega
  have f5 : IntKind.i64.wrap ((i / 128 : Nat) : Int) = ((i / 128 : Nat) : Int) := IntWalk.i64_in _ (by omega)
  have f6 : IntKind.i64.wrap ((i % 128 : Nat) : Int) = ((i % 128 : Nat) : Int) := IntWalk.i64_in _ (by omega)
  obtain ⟨a, ha⟩ : ∃ a, i / 128 = a := ⟨_, rfl⟩
  obtain ⟨b, hb⟩ : ∃ b, i % 128 = b := ⟨_, rfl⟩
  rw [ha] at c2' f3 f5 hq1l
  rw [hb] at c1' f4 f6
  have b1 : b < 128 := by omega
  have r1 : (0 : Int) ≤ (a : Nat) := by omega
  have r2 : ((a : Nat) : Int) < (n2 : Nat) := by omega
  have r3 : (0 : Int) ≤ (b : Nat) := by omega
  have r4 : ((b : Nat) : Int) < 128 := by omega
  have r5 : (0 : Int) ≤ (q : Nat) := by omega
  have r6 : ((q : Nat) : Int) < (n : Nat) := by omega
  clear k0 j0 hq1 hq2 tr ha hb hq hix
  go_enter Try.func20, Try.ntmps20
  go_wp2
  go_quiet (fail)
  go_wp2
  go_ret
  exact ⟨rfl, below_drewN (Below.refl _ _) _⟩
end
end Go.Proofs.Ytpbdamjpjpchiaa.TS
namespace Go.Proofs.Ytpbdamjpjpchiaa.TS
open Go.RowKit Go.Maps
set_option linter.unusedVariables false
set_option linter.unusedSimpArgs false
set_option maxRecDepth 100000
theorem BtI.later {base m tb mb : Nat} {g : Int → ByteArray} {hd : Hd} {Bs : List (List ByteArray)} {Ix : List Nat} {l : List ByteArray → Option Nat} {W W' : World} (h : BtI base g m tb mb hd Bs Ix l W) (hb : Below W.heap.size W W') : BtI base g m tb mb hd Bs Ix l W' := ⟨h.tr.later hb, h.ix, h.is, h.mem⟩
theorem get_out {base m tb mb : Nat} {g : Int → ByteArray} {hd : Hd} {Bs : List (List ByteArray)} {Ix : List Nat} {l : List ByteArray → Option Nat} {W : World} (h : BtI base g m tb mb hd Bs Ix l W) (i : Int) (hi : i < 0 ∨ (m : Int) ≤ i) :
    Calls Try.prog 20 #[.pointer (some ⟨tb, 0, none⟩), .int .i64 i] W (fun e w' => e = .returned (.string ⟨#[]⟩) ∧ Below W.heap.size W w') := by
  obtain ⟨y0, k0, j0⟩ := (show Blk _ _ _ from h.tr.cel)
  have k1 : W.cell? ⟨tb, 0, none⟩ = some (.int .i64 (m : Nat)) := k0 0
  clear h k0 j0
  by_cases h0 : i < 0
  · have d1 : decide (i < 0) = true := decide_eq_true h0
    go_enter Try.func20, Try.ntmps20
    go_wp2
    go_ret
    exact ⟨rfl, Below.refl _ _⟩
  · have d1 : decide (i < 0) = false := decide_eq_false h0
    have d2 : decide ((m : Int) ≤ i) = true := decide_eq_true (by omega)
    go_enter Try.func20, Try.ntmps20
    go_wp2
    go_ret
    exact ⟨rfl, Below.refl _ _⟩
end Go.Proofs.Ytpbdamjpjpchiaa.TS

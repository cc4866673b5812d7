/- columns: the rows of 1, 2, 4 .. widths are laid. -/
import Derived.Test.YtpelmbiogamcpaaColJ
import Derived.Deep.OwnRows
namespace Go.Proofs.Ytpelmbiogamcpaa
open Go.RowKit
set_option linter.unusedVariables false
set_option linter.unusedSimpArgs false

theorem wst_elt : Elt Try.prog 39 22 1 24 := elt_of Try.underlying39 (z := .slice none 0 0) (by kernel_rfl) rfl (by decide)

/-- A row's block is none of the list's own. -/
def Apart (v : Value) (B : Option Addr) : Prop := ∀ b o, B = some ⟨b, o, none⟩ → v.ownBlock ≠ some b

theorem Rd.kept {w w' : World} {row : Option Nat} {A : Option Addr} {n : Nat} {f : Nat → Value} (h : Rd w A n f) (hg : w.grownBy w' row) (hne : ∀ b o, A = some ⟨b, o, none⟩ → row ≠ some b) : Rd w' A n f := by
  intro j hj
  obtain ⟨b, o, e, hl, hc⟩ := h j hj
  exact ⟨b, o, e, Nat.lt_of_lt_of_le hl hg.size, (World.cell?_of_block (a := ⟨b, o + j, none⟩) (hg.block b hl (fun e2 => hne b o e e2.symm))).trans hc⟩

/-- What the outer loop holds: k + 1 rows. -/
def WTab (w : World) (v : Value) (k n : Nat) (f : Nat → Nat) (wr : World) : Prop :=
  ∃ (A : Option Addr) (c : Nat) (xs : List Value), v = .slice A (k + 1) c ∧ Hid (wr.ownsRow w.heap.size 22 1 (.slice A (k + 1) c) (k + 1) xs ∧ xs.length = k + 1 ∧
    (∀ i, i < k + 1 → ∃ B C, xs[i]? = some (.slice B (n + 1 - 2 ^ i) C) ∧ Rd wr B (n + 1 - 2 ^ i) (nv fun j => mx f j (2 ^ i)) ∧ Apart (.slice A (k + 1) c) B) ∧ Below w.heap.size w wr)

theorem rd_list {w : World} {base : Nat} {e : TypeId} {A : Option Addr} {c n : Nat} {xs : List Value} {j : Nat} {x : Value} (h : w.ownsRow base e 1 (.slice A n c) n xs) (hl : xs.length = n) (hj : xs[j]? = some x) : ∃ b o, A = some ⟨b, o, none⟩ ∧ b < w.heap.size ∧ w.cell? ⟨b, o + j, none⟩ = some x := by
  have hjn : j < n := by
    rcases Nat.lt_or_ge j n with h | h
    · exact h
    · rw [List.getElem?_eq_none (by omega)] at hj; cases hj
  have := rd_own (f := fun i => xs.getD i (.bool false)) h (fun i hi => by simp [List.getD, List.getElem?_eq_getElem (show i < xs.length by omega)]) j hjn
  simpa [List.getD, hj] using this

theorem WTab.tab {w wr : World} {A : Option Addr} {c k n : Nat} {f : Nat → Nat} {xs : List Value} (h : wr.ownsRow w.heap.size 22 1 (.slice A (k + 1) c) (k + 1) xs) (hl : xs.length = k + 1)
    (hr : ∀ i, i < k + 1 → ∃ B C, xs[i]? = some (.slice B (n + 1 - 2 ^ i) C) ∧ Rd wr B (n + 1 - 2 ^ i) (nv fun j => mx f j (2 ^ i)) ∧ Apart (.slice A (k + 1) c) B) : TabAt wr A (k + 1) n f := by
  intro i hi
  obtain ⟨B, C, hx, hrd, _⟩ := hr i hi
  obtain ⟨b, o, hA, hb, hc⟩ := rd_list h hl hx
  exact ⟨b, o, B, C, hA, hb, hc, hrd⟩

theorem WTab.push {w0 wr w3 : World} {base g R n k p : Nat} {f : Nat → Nat} {A A3 : Option Addr} {c c3 : Nat} {xs : List Value} (hown : wr.ownsRow base 22 1 (.slice A (k + 1) c) (k + 1) xs) (hl : xs.length = k + 1)
    (hr : ∀ i, i < k + 1 → ∃ B C, xs[i]? = some (.slice B (n + 1 - 2 ^ i) C) ∧ Rd w0 B (n + 1 - 2 ^ i) (nv fun j => mx f j (2 ^ i)) ∧ Apart (.slice A (k + 1) c) B) (hb : Below w0.heap.size w0 wr) (h0 : w0.heap.size = g) (hown0 : ∀ b, (Value.slice A (k + 1) c).ownBlock = some b → b < g)
    (hg : g < wr.heap.size) (hp : 2 ^ k = p) (hR : R = n + 1 - 2 * p) (hrow : Rd wr (some ⟨g, 0, none⟩) R (nv fun i => mx f i (2 * p))) (hn : ∀ i, i < k + 1 → 2 ^ i ≤ n)
    (P : Pushed wr w3 base 22 1 (.slice A (k + 1) c) (k + 1 + 1) (xs ++ [.slice (some ⟨g, 0, none⟩) R R]) A3 c3) :
    ∀ i, i < k + 1 + 1 → ∃ B C, (xs ++ [.slice (some ⟨g, 0, none⟩) R R])[i]? = some (.slice B (n + 1 - 2 ^ i) C) ∧ Rd w3 B (n + 1 - 2 ^ i) (nv fun j => mx f j (2 ^ i)) ∧ Apart (.slice A3 (k + 1 + 1) c3) B := by
  intro i hi
  rcases Nat.lt_or_ge i (k + 1) with h | h
  · obtain ⟨B, C, hx, hrd, hap⟩ := hr i h
    refine ⟨B, C, by rw [List.getElem?_append_left (by omega)]; exact hx, (hrd.later hb).kept P.grown hap, fun b o e1 e2 => ?_⟩
    rcases P.at_ with h3 | ⟨k3, h3, h4⟩
    · exact hap b o e1 (h3 ▸ e2)
    · rw [h3] at e2
      injection e2 with e2
      obtain ⟨b1, o1, e3, hlt, _⟩ := hrd 0 (by have := hn i h; omega)
      rw [e1] at e3
      injection e3 with e3
      injection e3 with e3 _ _
      have := hb.size
      omega
  · obtain rfl : i = k + 1 := by omega
    have e : 2 ^ (k + 1) = 2 * p := by rw [Nat.pow_succ, hp, Nat.mul_comm]
    refine ⟨some ⟨g, 0, none⟩, R, ?_, ?_, fun b o e1 e2 => ?_⟩
    · rw [e, ← hR, List.getElem?_append_right (by omega), hl, Nat.sub_self]; rfl
    · rw [e, ← hR]
      refine hrow.kept P.grown fun b o e1 e2 => ?_
      injection e1 with e1
      injection e1 with e1 _ _
      have := hown0 b e2
      omega
    · injection e1 with e1
      injection e1 with e1 _ _
      rcases P.at_ with h3 | ⟨k3, h3, h4⟩
      · rw [h3] at e2
        have := hown0 b e2
        omega
      · rw [h3] at e2
        injection e2 with e2
        omega

/-- What the inner loop holds: the new row's first j places. -/
def RowSet (w0 : World) (g R p2 : Nat) (f : Nat → Nat) (j : Nat) (wr : World) : Prop :=
  ∃ cs : Array Value, Blk wr g cs ∧ cs.size = R ∧ (∀ i, i < j → cs[i]? = some (nv (fun i => mx f i p2) i)) ∧ Below w0.heap.size w0 wr ∧ w0.heap.size = g

theorem RowSet.set_ {w0 wr : World} {g R p2 j : Nat} {f : Nat → Nat} (h : RowSet w0 g R p2 f j wr) (hj : j < R) {z : Value} (hz : z = nv (fun i => mx f i p2) j) : RowSet w0 g R p2 f (j + 1) (wr.setCell ⟨g, j, none⟩ z) := by
  obtain ⟨cs, hB, hs, hc, hb, hg⟩ := h
  refine ⟨cs.setIfInBounds j z, hB.set_ j (by omega) z, by simp [hs], fun i hi => ?_, hb.setCell (p := ⟨g, j, none⟩) (by simp [hg]) _, hg⟩
  rcases Nat.lt_or_ge i j with h1 | h1
  · rw [Array.getElem?_setIfInBounds, if_neg (by omega)]; exact hc i h1
  · obtain rfl : i = j := by omega
    rw [Array.getElem?_setIfInBounds, if_pos rfl, if_pos (by omega), hz]

theorem RowSet.drewN {w0 wr : World} {g R p2 j : Nat} {f : Nat → Nat} (h : RowSet w0 g R p2 f j wr) (k : Nat) : RowSet w0 g R p2 f j (wr.drewN k) := by
  obtain ⟨cs, hB, hs, hc, hb, hg⟩ := h
  exact ⟨cs, hB.drewN k, hs, hc, below_drewN hb k, hg⟩

theorem RowSet.start (w0 : World) (R p2 : Nat) (f : Nat → Nat) (cs : Array Value) (t : TypeId) (hs : cs.size = R) : RowSet w0 w0.heap.size R p2 f 0 (w0.alloc (.cells cs t)) :=
  ⟨cs, blk_new w0 cs t, hs, fun i hi => absurd hi (by omega), (Below.refl _ _).alloc (Nat.le_refl _) _, rfl⟩

theorem rd_new_blk {w : World} {g n : Nat} {cs : Array Value} {f : Nat → Value} (h : Blk w g cs) (hf : ∀ j, j < n → cs[j]? = some (f j)) : Rd w (some ⟨g, 0, none⟩) n f := by
  intro j hj
  exact ⟨g, 0, rfl, h.1, by rw [Nat.zero_add, h.2.1]; exact hf j hj⟩

set_option maxHeartbeats 2000000 in
set_option maxRecDepth 100000 in
theorem widest_of (A : Option Addr) (n c : Nat) (f : Nat → Nat) (w : World) (hA : Rd w A n (nv f)) (hf : ∀ j, j < n → f j ≤ 1023) (h0 : 0 < n) (hn : n ≤ 60) :
    Calls Try.prog 16 #[.slice A n c] w fun e w' => ∃ A' Lv c', e = .returned (.slice A' Lv c') ∧ TabAt w' A' Lv n f ∧ Levels Lv n ∧ Lv ≤ 60 ∧ Below w.heap.size w w' := by
  have HA := Lib.hid (And.intro hA hf)
  clear hA hf
  go_enter Try.func16, Try.ntmps16
  go_wp2
  go_loopw [3, 4] (fun v i wr => ∃ k p : Nat, i = .int .i64 p ∧ 0 < p ∧ p ≤ n ∧ k < p ∧ Hid (2 ^ k = p) ∧ WTab w v k n f wr) (fun _ i _ => n - (intOf i).toNat)
  case atStart =>
    refine ⟨0, 1, rfl, by omega, h0, by omega, rfl, _, _, [.slice A n c], rfl, own_new w #[.slice A n c] _ 1 rfl (by unfold maxLen; omega), rfl, ?_, (Below.refl _ _).alloc (Nat.le_refl _) _⟩
    intro i hi
    obtain rfl : i = 0 := by omega
    refine ⟨A, c, by simp, (HA.out.1.later ((Below.refl _ _).alloc (Nat.le_refl _) _)).congr fun j hj => ?_, fun b o e1 e2 => ?_⟩
    · unfold nv
      simp [mx]
    · obtain ⟨b1, o1, e3, hl, _⟩ := HA.out.1 0 h0
      rw [e1] at e3
      injection e3 with e3
      injection e3 with e3 _ _
      simp [Value.ownBlock] at e2
      omega
  case round =>
    obtain ⟨wo, hwo⟩ : ∃ wo, wo = wr := ⟨_, rfl⟩
    subst hwo
    obtain ⟨k, p, rfl, hp0, hpn, hkp, HP, A1, c1, xs, rfl, HR⟩ := hrel
    have hz := HR.out.2.2.2.size
    by_cases h2 : 2 * p ≤ n
    · obtain ⟨B, C, hx, hrd, _⟩ := HR.out.2.2.1 k (Nat.lt_succ_self _)
      obtain ⟨b, o, rfl, _, hc⟩ := rd_list HR.out.1 HR.out.2.1 hx
      rw [HP.out] at hc hrd
      obtain ⟨X, hX⟩ : ∃ X, n + 1 - p = X := ⟨_, rfl⟩
      obtain ⟨R, hR⟩ : ∃ R, X - p = R := ⟨_, rfl⟩
      have hXb : X ≤ 60 := by omega
      rw [hX] at hc hrd
      have HB := Lib.hid (And.intro hrd hx)
      have hRI : ((X : Int) - (p : Int)) = (R : Int) := by omega
      have hmk := run_make_row' (P := Try.prog) 22 3 (.int .i64 0) 8 Try.underlying22 (by kernel_rfl) rfl .i64 .i64 R (by omega) (by omega)
      have d1 : decide (2 * p ≤ n) = true := decide_eq_true h2
      have d1' : decide ((2 : Int) * (p : Int) ≤ (n : Int)) = true := decide_eq_true (by omega)
      clear hrd hx
      go_wp2
      go_loopw [7, 30] (fun _ i wr' => ∃ j : Nat, j ≤ R ∧ i = .int .i64 j ∧ Hid (RowSet wo wo.heap.size R (2 * p) f j wr')) (fun _ i _ => R - (intOf i).toNat)
      case atStart => exact ⟨0, Nat.zero_le _, rfl, RowSet.start wo R _ f _ _ (by simp [madeCells])⟩
      case round =>
        obtain ⟨j, hj, rfl, HS⟩ := hrel
        have hS := HS.out
        obtain ⟨cs, hBk, hcs, hci, hbl, hg⟩ := hS
        by_cases hjR : j < R
        · have hr2 := HB.out.1.later hbl
          obtain ⟨b2, o2, rfl, _, hcc⟩ := hr2.all (by omega)
          have l1 : wr.cell? ⟨b2, o2 + j, none⟩ = some (.int .i64 (mx f j p : Nat)) := hcc j (by omega)
          have l2 : wr.cell? ⟨b2, o2 + (j + p), none⟩ = some (.int .i64 (mx f (j + p) p : Nat)) := hcc (j + p) (by omega)
          obtain ⟨u, hu⟩ : ∃ u, mx f j p = u := ⟨_, rfl⟩
          obtain ⟨v, hv⟩ : ∃ v, mx f (j + p) p = v := ⟨_, rfl⟩
          have HU := Lib.hid (show max u v = mx f j (2 * p) by rw [← hu, ← hv, show j + p = j + 2 * p - p by omega]; exact mx_cut (by omega) (Nat.le_refl _))
          rw [hu] at l1
          rw [hv] at l2
          clear hu hv hcc hr2
          have hold : wr.cell? ⟨wo.heap.size, j, none⟩ = some cs[j] := by rw [hBk.2.1]; simp
          have hfr := hBk.2.2 j
          obtain ⟨old, ho⟩ : ∃ old, cs[j] = old := ⟨_, rfl⟩
          rw [ho] at hold
          clear hBk hci hbl
          go_wp2
          go_region
          generalize hq : (if u < v then (v : Int) else (u : Int)) = q
          refine at_world (RowSet wo wo.heap.size R (2 * p) f (j + 1)) ?_ ?_
          · refine RowSet.drewN (RowSet.set_ HS.out hjR ?_) 1
            show Value.int .i64 q = Value.int .i64 ((mx f j (2 * p) : Nat) : Int)
            rw [← hq, ← HU.out]
            congr 1
            split <;> omega
          intro X1 hX1
          have HX1 := Lib.hid hX1
          clear hX1 hq
          go_wp2
          go_roundw
          case rel => exact ⟨j + 1, by omega, by go_num, HX1.out⟩
          case measure => simp [intOf]; omega
        · obtain rfl : j = R := by omega
          have hz2 := hbl.size
          have HO := Lib.hid (And.intro (own_later (HR.out.1) hbl) (And.intro hbl (rd_new_blk hBk (fun i hi => hci i (by omega)))))
          have HN := Lib.hid (fun A3 c3 w3 => WTab.push (A3 := A3) (c3 := c3) (w3 := w3) HO.out.1 HR.out.2.1 HR.out.2.2.1 hbl rfl (fun b hb => (HR.out.1.lt b hb).2) hBk.1 HP.out (by omega) HO.out.2.2 (fun i hi => Nat.le_trans (Nat.pow_le_pow_right (by omega) (Nat.le_of_lt_succ hi)) (by rw [HP.out]; exact hpn)))
          have hA1 : k + 1 + 1 ≤ maxLen := by unfold maxLen; omega
          have hA2 : (k + 1 + 1) * 24 ≤ 140737488355328 := by omega
          clear hBk hci hbl
          go_wp2_with (at_builtin; refine wpList_push wst_elt HO.out.1 (by omega) rfl rfl rfl rfl (by simp) rfl rfl hA1 hA2 ?_; intro A3 c3 w3 hp; have HP3 := Lib.hid hp; clear hp)
          go_roundw
          case rel =>
            exact ⟨k + 1, 2 * p, by go_num, by omega, h2, by omega, (show 2 ^ (k + 1) = 2 * p by rw [Nat.pow_succ, HP.out, Nat.mul_comm]), A3, c3, _, rfl, HP3.out.own, by simp [HR.out.2.1], HN.out A3 c3 _ HP3.out, HP3.out.below (HR.out.2.2.2.trans (HO.out.2.1.mono HR.out.2.2.2.size)) HO.out.1 (Nat.le_refl _)⟩
          case measure => simp [intOf]; omega
    · have hL : Levels (k + 1) n := by
        intro i
        constructor
        · intro hi
          exact Nat.le_trans (Nat.pow_le_pow_right (by omega) (Nat.le_of_lt_succ hi)) (by rw [HP.out]; exact hpn)
        · intro hi
          rcases Nat.lt_or_ge i (k + 1) with h | h
          · exact h
          · have := Nat.pow_le_pow_right (n := 2) (by omega) h
            rw [Nat.pow_succ, HP.out] at this
            omega
      have HL := Lib.hid hL
      have d1 : decide (2 * p ≤ n) = false := decide_eq_false h2
      clear hL
      go_wp2
      go_ret
      exact ⟨A1, k + 1, c1, rfl, WTab.tab HR.out.1 HR.out.2.1 HR.out.2.2.1, HL.out, by omega, HR.out.2.2.2⟩
end Go.Proofs.Ytpelmbiogamcpaa

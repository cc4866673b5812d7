/- KrZ: KrP, KrA, KrB, KrC, KrD, KrE, KrF, KrG, KrH laid together. -/
import Derived.Test.YtkkenabckhmkoaaKzP
import Derived.Test.YtkkenabckhmkoaaKuZ
import Derived.Test.YtkkenabckhmkoaaKyX
import Derived.Test.YtkkenabckhmkoaaKzA
/- keys: the reference's parser, told by the program's: pure. -/
namespace Go.Proofs.Ytkkenabckhmkoaa
open Go.RowKit
set_option linter.unusedVariables false
set_option linter.unusedSimpArgs false
set_option maxRecDepth 100000

/-- The bytes that wait. -/
def waitB (d : DS) : List Int := [d.h0, d.h1, d.h2].take d.n.toNat
theorem waitB_len (d : DS) (hd : d.Ok) : ((waitB d).length : Int) = d.n ∧ (waitB d).length ≤ 3 := by
  unfold waitB
  rw [List.length_take]
  obtain ⟨_, h | h | h | h⟩ := hd
  all_goals
    have := h.1
    simp
    omega
theorem waitB_range (d : DS) (hd : d.Ok) : ∀ b ∈ waitB d, 0 ≤ b ∧ b ≤ 255 := by
  intro b hb
  have hb' := List.mem_of_mem_take hb
  obtain ⟨⟨g0, g1, g2, g3, g4, g5⟩, _⟩ := hd
  simp at hb'
  rcases hb' with rfl | rfl | rfl <;> omega
theorem rowN_goes {c : Int} (h : 2 ≤ rowN c) : ¬ rowN c = 0 ∧ ¬ rowN c = 1 := by omega
/-- The states that are come to. -/
def DS.At (d : DS) : Prop := d.Ok ∧ runD (waitB d) = (d, [])
theorem at_zero : DS.At DS.zero := ⟨zero_ok, rfl⟩
theorem begin_at (b : Int) (b0 : 0 ≤ b) (b1 : b ≤ 255) : (beginD b).1.At := by
  refine ⟨beginD_ok b b0 b1, ?_⟩
  unfold beginD
  by_cases h0 : rowN b = 0
  · rw [if_pos h0]; rfl
  rw [if_neg h0]
  by_cases h1 : rowN b = 1
  · rw [if_pos h1]; rfl
  rw [if_neg h1]
  show runD ([] ++ [b]) = _
  rw [runD_snoc]
  have e : stepD DS.zero b = (⟨b, 0, 0, 1⟩, []) := by rw [stepD_zero]; unfold beginD; rw [if_neg h0, if_neg h1]
  rw [show (runD []).1 = DS.zero from rfl, e]
  rfl
theorem step_at (d : DS) (hd : d.At) (b : Int) (b0 : 0 ≤ b) (b1 : b ≤ 255) : (stepD d b).1.At := by
  refine ⟨stepD_ok d b hd.1 b0 b1, ?_⟩
  obtain ⟨h0, h1, h2, n⟩ := d
  by_cases hn : n = 0
  · have e : stepD ⟨h0, h1, h2, n⟩ b = beginD b := by unfold stepD; rw [if_pos hn]
    rw [e]
    exact (begin_at b b0 b1).2
  by_cases hg : goes h0 n b = true
  · by_cases hr : rowN h0 = n + 1
    · have e : stepD ⟨h0, h1, h2, n⟩ b = (DS.zero, [wholeD ⟨h0, h1, h2, n⟩ b]) := by unfold stepD; rw [if_neg hn, if_pos hg, if_pos hr]
      rw [e]
      rfl
    · by_cases hn1 : n = 1
      · have e : stepD ⟨h0, h1, h2, n⟩ b = (⟨h0, b, 0, 2⟩, []) := by unfold stepD; rw [if_neg hn, if_pos hg, if_neg hr, if_pos hn1]
        subst hn1
        have h3 : runD [h0] = (⟨h0, h1, h2, 1⟩, []) := hd.2
        rw [e]
        show runD ([h0] ++ [b]) = _
        rw [runD_snoc, h3, e]
        rfl
      · have e : stepD ⟨h0, h1, h2, n⟩ b = (⟨h0, h1, b, 3⟩, []) := by unfold stepD; rw [if_neg hn, if_pos hg, if_neg hr, if_neg hn1]
        have hk : n = 2 := by
          obtain ⟨_, h | h | h | h⟩ := hd.1
          · exact absurd h.1 hn
          · exact absurd h.1 hn1
          · exact h.1
          · exfalso
            have h3 : n = 3 := h.1
            have h4 : 4 ≤ rowN h0 := h.2
            have h5 := rowN_le h0
            omega
        subst hk
        have h3 : runD [h0, h1] = (⟨h0, h1, h2, 2⟩, []) := hd.2
        rw [e]
        show runD ([h0, h1] ++ [b]) = _
        rw [runD_snoc, h3, e]
        rfl
  · have e : stepD ⟨h0, h1, h2, n⟩ b = ((beginD b).1, 65533 :: (beginD b).2) := by unfold stepD; rw [if_neg hn, if_neg hg]
    rw [e]
    exact (begin_at b b0 b1).2
theorem dec_wait (d : DS) (hd : d.At) : decD (waitB d) = endD d := by
  unfold decD
  rw [hd.2]
  rfl
/-- A byte behind those that wait: how many wait then, which, what is told. -/
theorem fed_pure (d : DS) (hd : d.At) (b : Int) (b0 : 0 ≤ b) (b1 : b ≤ 255) :
    stF DS.zero (waitB d ++ [b]) = (stepD d b).1 ∧
    (waitB d ++ [b]).drop ((waitB d ++ [b]).length - (stepD d b).1.n.toNat) = waitB (stepD d b).1 ∧
    decD ((waitB d ++ [b]).take ((waitB d ++ [b]).length - (stepD d b).1.n.toNat)) = (stepD d b).2 ∧
    ((stepD d b).1.n = 0 ∨ (stepD d b).2.length = 0 ∨ 0 < (stepD d b).2.length) := by
  have hrun : runD (waitB d ++ [b]) = stepD d b := by rw [runD_snoc, hd.2]; rfl
  have hst1 : stF DS.zero (waitB d ++ [b]) = (stepD d b).1 := by rw [← stF_is, hrun]
  refine ⟨hst1, ?_⟩
  have hB : ∀ d' l, stepD d b = (d', l) → (d'.n = 0 ∧ waitB d' = [] ∨ d' = ⟨b, 0, 0, 1⟩ ∧ (waitB d = [] ∧ l = [] ∨ l = [65533] ∧ ¬ d.n = 0) ∨ (waitB d' = waitB d ++ [b] ∧ l = [])) := by
    intro d' l h
    obtain ⟨h0, h1, h2, n⟩ := d
    by_cases hn : n = 0
    · subst hn
      have e : stepD ⟨h0, h1, h2, 0⟩ b = beginD b := by unfold stepD; rw [if_pos rfl]
      rw [e] at h
      unfold beginD at h
      split at h
      · cases h; exact .inl ⟨rfl, rfl⟩
      · split at h
        · cases h; exact .inl ⟨rfl, rfl⟩
        · cases h; exact .inr (.inl ⟨rfl, .inl ⟨rfl, rfl⟩⟩)
    · by_cases hg : goes h0 n b = true
      · by_cases hr : rowN h0 = n + 1
        · have e : stepD ⟨h0, h1, h2, n⟩ b = (DS.zero, [wholeD ⟨h0, h1, h2, n⟩ b]) := by unfold stepD; rw [if_neg hn, if_pos hg, if_pos hr]
          rw [e] at h
          cases h
          exact .inl ⟨rfl, rfl⟩
        · by_cases hn1 : n = 1
          · have e : stepD ⟨h0, h1, h2, n⟩ b = (⟨h0, b, 0, 2⟩, []) := by unfold stepD; rw [if_neg hn, if_pos hg, if_neg hr, if_pos hn1]
            rw [e] at h
            cases h
            subst hn1
            exact .inr (.inr ⟨rfl, rfl⟩)
          · have e : stepD ⟨h0, h1, h2, n⟩ b = (⟨h0, h1, b, 3⟩, []) := by unfold stepD; rw [if_neg hn, if_pos hg, if_neg hr, if_neg hn1]
            have hk : n = 2 := by
              obtain ⟨_, h | h | h | h⟩ := hd.1
              · exact absurd h.1 hn
              · exact absurd h.1 hn1
              · exact h.1
              · exfalso
                have h3 : n = 3 := h.1
                have h4 : 4 ≤ rowN h0 := h.2
                have h5 := rowN_le h0
                omega
            rw [e] at h
            cases h
            subst hk
            exact .inr (.inr ⟨rfl, rfl⟩)
      · have e : stepD ⟨h0, h1, h2, n⟩ b = ((beginD b).1, 65533 :: (beginD b).2) := by unfold stepD; rw [if_neg hn, if_neg hg]
        rw [e] at h
        unfold beginD at h
        split at h
        · cases h; exact .inl ⟨rfl, rfl⟩
        · split at h
          · cases h; exact .inl ⟨rfl, rfl⟩
          · cases h; exact .inr (.inl ⟨rfl, .inr ⟨rfl, hn⟩⟩)
  obtain ⟨⟨d', l⟩, hst⟩ : ∃ q, stepD d b = q := ⟨_, rfl⟩
  have hl := waitB_len d hd.1
  have hat := step_at d hd b b0 b1
  rw [hst] at hrun hat ⊢
  have hl' := waitB_len d' hat.1
  dsimp only
  rcases hB d' l hst with ⟨e1, e2⟩ | ⟨rfl, e2⟩ | ⟨e1, e2⟩
  · rw [e1, e2]
    refine ⟨by simp, ?_, .inl rfl⟩
    rw [show (waitB d ++ [b]).length - (0 : Int).toNat = (waitB d ++ [b]).length from rfl, List.take_length]
    unfold decD
    rw [hrun]
    have : endD d' = [] := if_pos e1
    simp [this]
  · have e3 : (waitB d ++ [b]).length - (1 : Int).toNat = (waitB d).length := by simp
    dsimp only
    rw [e3, List.drop_left, List.take_left]
    refine ⟨rfl, ?_, ?_⟩
    · rw [dec_wait d hd]
      rcases e2 with ⟨e4, e5⟩ | ⟨e4, e5⟩
      · rw [e5]
        have : d.n = 0 := by have := hl.1; rw [e4] at this; simpa using this.symm
        exact if_pos this
      · rw [e4]
        exact if_neg e5
    · rcases e2 with ⟨e4, e5⟩ | ⟨e4, e5⟩
      · rw [e5]; exact .inr (.inl rfl)
      · rw [e4]; exact .inr (.inr (by decide))
  · have e3 : (waitB d ++ [b]).length - d'.n.toNat = 0 := by
      rw [← hl'.1, e1]
      simp
    rw [e3, List.drop_zero, List.take_zero, e1, e2]
    exact ⟨rfl, rfl, .inr (.inl rfl)⟩
theorem fed_meta (d : DS) (b : Int) (hb : (stepD d b).2.length = 0) : ¬ (stepD d b).1.n = 0 := by
  unfold stepD at hb ⊢
  have hbe : (beginD b).2.length = 0 → ¬ (beginD b).1.n = 0 := by
    unfold beginD
    split
    · intro h; simp at h
    · split
      · intro h; simp at h
      · intro _; simp
  split
  · rename_i h; rw [if_pos h] at hb; exact hbe hb
  · rename_i h
    rw [if_neg h] at hb
    split
    · rename_i h1
      rw [if_pos h1] at hb
      split
      · rename_i h2; rw [if_pos h2] at hb; simp at hb
      · split <;> simp
    · rename_i h1; rw [if_neg h1] at hb; simp at hb
/-- A paste's bytes none of whose beginnings has the end. -/
def PInv (t : List Int) : Prop := ∀ j, j ≤ t.length → clP (t.take j) < 6
theorem pinv_nil : PInv [] := fun j _ => by simp [clP]
theorem pinv_snoc {t : List Int} {b : Int} (h : PInv t) (hb : closesK (clP t) b < 6) : PInv (t ++ [b]) := by
  intro j hj
  simp only [List.length_append, List.length_cons, List.length_nil] at hj
  rcases Nat.lt_or_ge t.length j with h1 | h1
  · obtain rfl : j = t.length + 1 := by omega
    rw [List.take_of_length_le (by simp), clP_snoc]
    exact hb
  · rw [List.take_append_of_le_length h1]
    exact h j h1
theorem pinv_end : ∀ (n : Nat) (t : List Int), t.length = n → PInv t → EndAt t (clP t)
  | 0, t, hn, _ => by
    obtain rfl := List.eq_nil_of_length_eq_zero hn
    exact ⟨by simp [clP], by simp [clP], fun q hq => by simp [clP] at hq⟩
  | n + 1, t, hn, h => by
    obtain ⟨u, b, rfl⟩ : ∃ u b, t = u ++ [b] := by
      rcases List.eq_nil_or_concat t with rfl | ⟨u, b, rfl⟩
      · simp at hn
      · exact ⟨u, b, by simp⟩
    have hu : u.length = n := by simpa using hn
    have hpu : PInv u := fun j hj => by
      have := h j (by simp; omega)
      rw [List.take_append_of_le_length hj] at this
      exact this
    have ih := pinv_end n u hu hpu
    rw [clP_snoc]
    refine endAt_step ih ?_
    rintro ⟨h5, h126⟩
    have h6 := h (n + 1) (by simp [hu])
    rw [List.take_of_length_le (by simp [hu]), clP_snoc, h5, h126] at h6
    exact absurd h6 (by decide)
/-- The end has come just if the last six bytes are it. -/
theorem paste_iff (t : List Int) (h : PInv t) (b : Int) : ¬ closesK (clP t) b < 6 ↔ (6 ≤ (t ++ [b]).length ∧ (t ++ [b]).drop ((t ++ [b]).length - 6) = pasteEnd) := by
  have he := pinv_end _ t rfl h
  have hlt := he.lt
  have hlen : (t ++ [b]).length = t.length + 1 := by simp
  constructor
  · intro h1
    have h2 : clP t = 5 ∧ b = 126 := by
      unfold closesK at h1
      by_cases h3 : b = pasteEnd.getD (clP t) 0
      · rw [if_pos h3] at h1
        have h4 : clP t = 5 := by omega
        rw [h4] at h3
        exact ⟨h4, h3⟩
      · rw [if_neg h3] at h1
        split at h1 <;> omega
    obtain ⟨h5, h126⟩ := h2
    have hle := he.le
    have heq := he.eq
    rw [h5] at hle heq
    refine ⟨by rw [hlen]; omega, ?_⟩
    apply List.ext_getElem?
    intro q
    rw [List.getElem?_drop, hlen]
    rcases Nat.lt_or_ge q 5 with h6 | h6
    · rw [show t.length + 1 - 6 + q = t.length - 5 + q by omega, List.getElem?_append_left (by omega)]
      exact heq q h6
    · rcases Nat.lt_or_ge q 6 with h7 | h7
      · obtain rfl : q = 5 := by omega
        rw [show t.length + 1 - 6 + 5 = t.length by omega, List.getElem?_append_right (Nat.le_refl _), Nat.sub_self, h126]
        rfl
      · rw [List.getElem?_eq_none (by rw [hlen]; omega), List.getElem?_eq_none (by simp [pasteEnd]; omega)]
  · rintro ⟨h1, h2⟩
    obtain ⟨u, hu⟩ : ∃ u, u = (t ++ [b]).take ((t ++ [b]).length - 6) := ⟨_, rfl⟩
    have h3 : t ++ [b] = u ++ pasteEnd := by
      rw [hu, ← h2, List.take_append_drop]
    have h4 : t ++ [b] = (u ++ [27, 91, 50, 48, 49]) ++ [126] := by rw [h3]; simp [pasteEnd]
    have h5 : t = u ++ [27, 91, 50, 48, 49] ∧ [b] = [126] := List.append_inj' h4 rfl
    obtain ⟨h6, h7⟩ := h5
    have h8 : clP u < 6 := by
      have := h u.length (by rw [h6]; simp)
      rw [h6, List.take_left] at this
      exact this
    have h9 := clP_end u h8
    rw [← h6] at h9
    rw [h9, show b = 126 by simpa using h7]
    decide
end Go.Proofs.Ytkkenabckhmkoaa

/- keys: the reference's parser in memory. -/
namespace Go.Proofs.Ytkkenabckhmkoaa
open Go.RowKit
set_option linter.unusedVariables false
set_option linter.unusedSimpArgs false
set_option maxRecDepth 100000

abbrev rC (i : Int) (row wt : ByteArray) (m : Bool) : Array Value := #[.int .i64 i, .string row, .string wt, .bool m]
theorem rC_noI32 (i : Int) (row wt : ByteArray) (m : Bool) (j : Nat) (x : Int) : (rC i row wt m)[j]? ≠ some (.int .i32 x) := by
  intro h
  rcases j with _ | _ | _ | _ | j <;> simp [rC] at h
/-- All blocks but g stay. -/
structure But (g : Nat) (w w' : World) : Prop where
  os : w'.os = w.os
  tape : w'.tape = w.tape
  output : w'.output = w.output
  size : w.heap.size ≤ w'.heap.size
  block : ∀ k, k < w.heap.size → k ≠ g → w'.heap[k]? = w.heap[k]?
theorem But.refl (g : Nat) (w : World) : But g w w := ⟨rfl, rfl, rfl, Nat.le_refl _, fun _ _ _ => rfl⟩
theorem But.trans {g : Nat} {a b c : World} (h : But g a b) (k : But g b c) : But g a c :=
  ⟨k.os.trans h.os, k.tape.trans h.tape, k.output.trans h.output, Nat.le_trans h.size k.size, fun i hi hne => (k.block i (Nat.lt_of_lt_of_le hi h.size) hne).trans (h.block i hi hne)⟩
theorem But.of {g : Nat} {w w' : World} (h : Below w.heap.size w w') : But g w w' := ⟨h.os, h.tape, h.output, h.size, fun k hk _ => h.block k hk⟩
theorem But.later {g : Nat} {a b c : World} (h : But g a b) (k : Below b.heap.size b c) : But g a c := h.trans (But.of k)
theorem But.set {g : Nat} {a b : World} (h : But g a b) (i : Nat) (u : Value) : But g a (b.setCell ⟨g, i, none⟩ u) :=
  ⟨h.os, h.tape, h.output, by rw [World.size_setCell]; exact h.size, fun k hk hne => (Below.heap_setCell _ _ _ k hne).trans (h.block k hk hne)⟩
theorem But.drew {g : Nat} {a b : World} (h : But g a b) : But g a b.drew := ⟨h.os, h.tape, h.output, h.size, h.block⟩
theorem But.low {g B : Nat} {a b : World} (h : But g a b) (hB : B ≤ g) (hs : B ≤ a.heap.size) : Below B a b := ⟨h.os, h.tape, h.output, h.size, fun k hk => h.block k (Nat.lt_of_lt_of_le hk hs) (by omega)⟩
theorem rd_but {w w' : World} {g n : Nat} {A : Option Addr} {l : List Int} {i : Int} {row wt : ByteArray} {m : Bool} (h : Rd w A n (li l)) (hb : Blk w g (rC i row wt m)) (hB : But g w w') : Rd w' A n (li l) := by
  intro j hj
  obtain ⟨b, o, e, hl, hc⟩ := h j hj
  have hne : b ≠ g := by
    rintro rfl
    have h4 := hb.2.1 (o + j)
    rw [hc] at h4
    exact rC_noI32 _ _ _ _ _ _ h4.symm
  exact ⟨b, o, e, Nat.lt_of_lt_of_le hl hB.size, (World.cell?_of_block (a := ⟨b, o + j, none⟩) (hB.block b hl hne)).trans hc⟩
theorem kyW_but {w w' : World} {g : Nat} {v : Value} {ks : List Ky} {i : Int} {row wt : ByteArray} {m : Bool} (h : KyW w v ks) (hb : Blk w g (rC i row wt m)) (hB : But g w w') : KyW w' v ks := by
  obtain ⟨hs, ⟨A, c, e, hli, hr⟩, h2⟩ := h
  refine ⟨hs, ⟨A, c, e, fun j x hj => ?_, hr⟩, h2.1, fun j x hx => ?_⟩
  · obtain ⟨b, o, e', hl, _, hc⟩ := hli j x hj
    have hne : b ≠ g := by
      rintro rfl
      have h3 := hc 1 (.int .i32 x.r) rfl
      have h4 := hb.2.1 (o + (j * 4 + 1))
      exact rC_noI32 _ _ _ _ _ _ (h4.symm.trans h3)
    exact ⟨b, o, e', Nat.lt_of_lt_of_le hl hB.size, trivial, fun q u hu => (World.cell?_of_block (a := ⟨b, o + (j * 4 + q), none⟩) (hB.block b hl hne)).trans (hc q u hu)⟩
  · obtain ⟨y, k1, k2⟩ := h2.2 j x hx
    exact ⟨y, k1, k2.1, k2.2.1, k2.2.2.1, k2.2.2.2.1, rd_but k2.2.2.2.2 hb hB⟩
theorem chain_but {w w' : World} {g : Nat} {i : Int} {row wt : ByteArray} {m : Bool} (hb : Blk w g (rC i row wt m)) (hB : But g w w') : ∀ {l : List Int} {T : Option Addr}, Chain w T l → Chain w' T l
  | [], T, h => h
  | b :: l, T, h => by
    obtain ⟨p, T', h1, h2, h3, h4, h5⟩ := h
    have hne : p ≠ g := by
      intro e
      subst e
      have h6 := hb.2.1 0
      rw [h3] at h6
      simp [rC] at h6
    exact ⟨p, T', h1, Nat.lt_of_lt_of_le h2 hB.size, (World.cell?_of_block (a := ⟨p, 0, none⟩) (hB.block p h2 hne)).trans h3, (World.cell?_of_block (a := ⟨p, 1, none⟩) (hB.block p h2 hne)).trans h4, chain_but hb hB h5⟩
theorem blk_but {w w' : World} {g q : Nat} {cs : Array Value} (h : Blk w q cs) (hB : But g w w') (hne : q ≠ g) : Blk w' q cs :=
  ⟨Nat.lt_of_lt_of_le h.1 hB.size, fun j => (World.cell?_of_block (a := ⟨q, j, none⟩) (hB.block q h.1 hne)).trans (h.2.1 j), fun j => (World.frozen?_of_block (a := ⟨q, j, none⟩) (hB.block q h.1 hne)).trans (h.2.2 j)⟩
def waitS (d : DS) : ByteArray := strOfNums (waitB d)
/-- The row, or what was pasted. -/
def rowS (s : KS) : ByteArray := if s.w = 4 then strOfNums s.tx.reverse else s.row
/-- What a step of the reference's tells: the same as the program's. -/
def TellsR (r : KS × List Ky) (g : Nat) (w : World) (e : Ending) (w' : World) : Prop := ∃ A n c, e = .returned (.slice A n c) ∧ Blk w' g (rC r.1.w (rowS r.1) (waitS r.1.d) r.1.m) ∧ KyW w' (.slice A n c) r.2 ∧ n = r.2.length ∧ But g w w'
end Go.Proofs.Ytkkenabckhmkoaa

/- keys: the reference's small functions. -/
namespace Go.Proofs.Ytkkenabckhmkoaa
open Go.RowKit
set_option linter.unusedVariables false
set_option linter.unusedSimpArgs false
set_option maxRecDepth 100000

theorem rcontrol_any (b : Int) (w : World) : Calls Try.prog 25 #[.int .u8 b] w fun e w' => e = .returned (.bool (ctlB b)) ∧ w = w' := by
  unfold ctlB
  by_cases h : b < 32
  · have d1 : decide (b < 32) = true := decide_eq_true h
    rw [d1]
    go_enter Try.func25, Try.ntmps25
    go_wp2
    go_ret
    exact ⟨rfl, rfl⟩
  · have d1 : decide (b < 32) = false := decide_eq_false h
    rw [d1]
    go_enter Try.func25, Try.ntmps25
    go_wp2
    go_ret
    exact ⟨by simp, rfl⟩
theorem keyAt_put {w X : World} (hb : Below w.heap.size w X) {a0 a1 a2 a3 : Value} (h : Blk X w.heap.size #[a0, a1, a2, a3]) (k r : Int) (m : Bool) :
    KeyAt w k r m ((((X.setCell ⟨w.heap.size, 0, none⟩ (.int .i64 k)).setCell ⟨w.heap.size, 1, none⟩ (.int .i32 r)).setCell ⟨w.heap.size, 2, none⟩ (.bool m)).setCell ⟨w.heap.size, 3, none⟩ (.slice none 0 0)) := by
  have q := (((h.set_ 0 (by simp) (.int .i64 k)).set_ 1 (by simp) (.int .i32 r)).set_ 2 (by simp) (.bool m)).set_ 3 (by simp) (.slice none 0 0)
  have q' : Blk ((((X.setCell ⟨w.heap.size, 0, none⟩ (.int .i64 k)).setCell ⟨w.heap.size, 1, none⟩ (.int .i32 r)).setCell ⟨w.heap.size, 2, none⟩ (.bool m)).setCell ⟨w.heap.size, 3, none⟩ (.slice none 0 0)) w.heap.size #[.int .i64 k, .int .i32 r, .bool m, .slice none 0 0] := by simpa using q
  exact ⟨q'.2.1 0, q'.2.1 1, q'.2.1 2, q'.2.1 3, (((hb.setCell (p := ⟨w.heap.size, 0, none⟩) (Nat.le_refl _) _).setCell (p := ⟨w.heap.size, 1, none⟩) (Nat.le_refl _) _).setCell (p := ⟨w.heap.size, 2, none⟩) (Nat.le_refl _) _).setCell (p := ⟨w.heap.size, 3, none⟩) (Nat.le_refl _) _⟩
theorem keyAt_two (w : World) (k r : Int) (m : Bool) (t : TypeId) (o : Obj) : KeyAt w k r m ((w.alloc (.cells #[.int .i64 k, .int .i32 r, .bool m, .slice none 0 0] t)).alloc o) := by
  have h := (blk_new w #[.int .i64 k, .int .i32 r, .bool m, .slice none 0 0] t).alloc o
  exact ⟨h.2.1 0, h.2.1 1, h.2.1 2, h.2.1 3, belPush (belAlloc _ _) _⟩
def rnames : List Int := [65, 66, 67, 68, 72, 70]
def letR (b : Int) : Nat → Int
  | 0 => 0
  | k + 1 => if rnames.getD k 0 = b then (k : Int) + 1 else letR b k
theorem letR_no {b : Int} (h : ∀ j, j < 6 → rnames.getD j 0 ≠ b) : ∀ k, k ≤ 6 → letR b k = 0
  | 0, _ => rfl
  | k + 1, hk => by rw [letR, if_neg (h k (by omega))]; exact letR_no h k (by omega)
theorem letR_is (b : Int) : letR b 6 = letteredK b := by
  by_cases h1 : b = 65
  · subst h1; rfl
  by_cases h2 : b = 66
  · subst h2; rfl
  by_cases h3 : b = 67
  · subst h3; rfl
  by_cases h4 : b = 68
  · subst h4; rfl
  by_cases h5 : b = 72
  · subst h5; rfl
  by_cases h6 : b = 70
  · subst h6; rfl
  have hno : ∀ j, j < 6 → rnames.getD j 0 ≠ b := by
    intro j hj
    obtain rfl | rfl | rfl | rfl | rfl | rfl : j = 0 ∨ j = 1 ∨ j = 2 ∨ j = 3 ∨ j = 4 ∨ j = 5 := by omega
    · exact fun h => h1 h.symm
    · exact fun h => h2 h.symm
    · exact fun h => h3 h.symm
    · exact fun h => h4 h.symm
    · exact fun h => h5 h.symm
    · exact fun h => h6 h.symm
  rw [letR_no hno 6 (Nat.le_refl _)]
  unfold letteredK
  rw [if_neg h1, if_neg h2, if_neg h3, if_neg h4, if_neg h5, if_neg h6]
theorem letR_rng (b : Int) : ∀ k, k ≤ 6 → 0 ≤ letR b k ∧ letR b k ≤ 6
  | 0, _ => by simp [letR]
  | k + 1, h => by
    have := letR_rng b k (by omega)
    simp only [letR]
    split <;> omega

set_option maxHeartbeats 4000000 in
theorem rletter_any (b : Int) (b0 : 0 ≤ b) (b1 : b ≤ 255) (w : World) : Calls Try.prog 27 #[.int .u8 b] w fun e w' => e = .returned (keyV (namedK (letteredK b))) ∧ Below w.heap.size w w' := by
  obtain ⟨y, hy⟩ : ∃ y, letteredK b = y := ⟨_, rfl⟩
  have HLY := Lib.hid ((letR_is b).trans hy)
  rw [hy]
  clear hy
  obtain ⟨S, hS⟩ : ∃ S : ByteArray, (⟨#[65, 66, 67, 68, 72, 70]⟩ : ByteArray) = S := ⟨_, rfl⟩
  have hbt : bts S = rnames := by rw [← hS]; rfl
  have hsz : S.size = 6 := by rw [← hS]; rfl
  have V0 := Lib.hid (And.intro (belAlloc w (.cells #[.int .i64 0, .int .i32 0, .bool false, .slice none 0 0] 47)) (blk_new w #[.int .i64 0, .int .i32 0, .bool false, .slice none 0 0] 47))
  go_enter Try.func27, Try.ntmps27
  go_upto_region 1 with fail
  refine at_world (fun X => Below w.heap.size w X ∧ Blk X w.heap.size #[.int .i64 0, .int .i32 0, .bool false, .slice none 0 0]) V0.out ?_
  intro X hX
  have V1 := Lib.hid hX
  clear hX V0
  go_upto_region 3 with fail
  rw [hS]
  have HS := Lib.hid (And.intro hbt hsz)
  clear hS hbt
  go_wp2_with fail
  go_loopw [3, 5] (fun at_ i wr => ∃ k : Nat, k ≤ 6 ∧ i = .int .i64 (k : Nat) ∧ at_ = .int .i64 (letR b k) ∧ X = wr) (fun _ i _ => 6 - (intOf i).toNat)
  case atStart => exact ⟨0, by omega, rfl, rfl, rfl⟩
  case round =>
    obtain ⟨k, hk, rfl, rfl, rfl⟩ := hrel
    by_cases hlt : k < 6
    · have hks : k < S.size := by omega
      have hx : rnames.getD k 0 = (S[k].toNat : Int) := by
        rw [← HS.out.1]
        simp [bts, List.getD, hks, ByteArray.getElem_eq_getElem_data]
      have hrg := letR_rng b k hk
      obtain ⟨bb, hbb⟩ : ∃ bb, ((S[k].toNat : Int) == b) = bb := ⟨_, rfl⟩
      cases bb
      case true =>
        have e : letR b (k + 1) = (k : Int) + 1 := by
          simp only [letR]
          rw [hx, if_pos (by simpa using hbb)]
        have HE := Lib.hid e
        clear e hx
        go_wp2_with fail
        go_roundw
        case rel => exact ⟨k + 1, by omega, by go_num, by rw [HE.out], trivial⟩
        case measure => simp [intOf]; omega
      case false =>
        have e : letR b (k + 1) = letR b k := by
          simp only [letR]
          rw [hx, if_neg (by simpa using hbb)]
        have HE := Lib.hid e
        clear e hx
        go_wp2_with fail
        go_roundw
        case rel => exact ⟨k + 1, by omega, by go_num, by rw [HE.out], trivial⟩
        case measure => simp [intOf]; omega
    · obtain rfl : k = 6 := by omega
      have hrg := letR_rng b 6 (by omega)
      have hl := HLY.out
      rw [hl] at hrg
      rw [hl]
      clear hl
      obtain ⟨y1, k1, j1⟩ := (show _ from V1.out.2)
      have q0 : X.cell? ⟨w.heap.size, 0, none⟩ = some (.int .i64 0) := k1 0
      have q1 : X.cell? ⟨w.heap.size, 1, none⟩ = some (.int .i32 0) := k1 1
      have q2 : X.cell? ⟨w.heap.size, 2, none⟩ = some (.bool false) := k1 2
      have q3 : X.cell? ⟨w.heap.size, 3, none⟩ = some (.slice none 0 0) := k1 3
      have f0 := j1 0
      have f1 := j1 1
      have f2 := j1 2
      have f3 := j1 3
      clear k1 j1
      by_cases hy0 : y = 0
      · subst hy0
        go_wp2_with fail
        refine at_world (KeyAt w 5 0 false) (keyAt_put V1.out.1 V1.out.2 5 0 false) ?_
        rintro Z ⟨x0, x1, x2, x3, hb⟩
        have HB := Lib.hid hb
        clear hb q0 q1 q2 q3 f0 f1 f2 f3
        refine bodyPost_ret (v := keyV ⟨5, 0, false, []⟩) (by simp [results, Try.results27, go_sem, x0, x1, x2, x3]) rfl ⟨rfl, HB.out⟩
      · have hyb : (y == 0) = false := by simpa using hy0
        have hnm : namedK y = ⟨3, y, false, []⟩ := if_neg hy0
        have HNM := Lib.hid hnm
        clear hnm
        go_wp2_with fail
        refine at_world (KeyAt w 3 y false) (keyAt_put V1.out.1 V1.out.2 3 y false) ?_
        rintro Z ⟨x0, x1, x2, x3, hb⟩
        have HB := Lib.hid hb
        clear hb q0 q1 q2 q3 f0 f1 f2 f3
        refine bodyPost_ret (v := keyV ⟨3, y, false, []⟩) (by simp [results, Try.results27, go_sem, x0, x1, x2, x3]) rfl ⟨by rw [HNM.out], HB.out⟩

set_option maxHeartbeats 4000000 in
theorem rchars_any (sm : Bool) (A : Option Addr) (n c : Nat) (l : List Int) (w : World) (hr : Rd w A n (li l)) (hn : n = l.length) (hl : n ≤ 100000) :
    Calls Try.prog 47 #[.slice A n c, .bool sm] w fun e w' => ∃ A' c', e = .returned (.slice A' n c') ∧ KyO w.heap.size w' (.slice A' n c') n (charsK sm l) ∧ Below w.heap.size w w' := by
  have HR := Lib.hid (And.intro hr hn)
  clear hr hn
  go_enter Try.func47, Try.ntmps47
  go_wp2_with fail
  go_loopw [5, 6] (fun u i wr => ∃ (k : Nat) (Ao : Option Addr) (co : Nat), k ≤ n ∧ i = .int .i64 (k : Nat) ∧ u = .slice Ao k co ∧ Hid (Grows w 47 4 encK Ao k co (bare (charsK sm (l.take k))) wr)) (fun _ i _ => n - (intOf i).toNat)
  case atStart => exact ⟨0, none, 0, Nat.zero_le _, rfl, rfl, ⟨World.ownsRow_nil _ _ _ _, Below.refl _ _⟩⟩
  case round =>
    obtain ⟨k, Ao, co, hk, rfl, rfl, HG⟩ := hrel
    by_cases hlt : k < n
    · have hkl : k < l.length := by rw [← HR.out.2]; exact hlt
      obtain ⟨b, o, rfl, hb, hc⟩ := HR.out.1 k hlt
      have l0 : wr.cell? ⟨b, o + k, none⟩ = some (.int .i32 l[k]) := (HG.out.below.cell (p := ⟨b, o + k, none⟩) hb).trans (by rw [hc]; simp [li, List.getD, hkl])
      have HY := Lib.hid (charsK_snoc sm (List.getElem?_eq_getElem hkl))
      obtain ⟨r, hr⟩ : ∃ r, l[k] = r := ⟨_, rfl⟩
      rw [hr] at l0 HY
      have g1 : (k : Int) < (n : Int) := by omega
      have g2 : (0 : Int) ≤ (k : Int) := by omega
      have hz1 := HG.out.below.size
      have q1 : ((k : Int) == 0) = decide (k = 0) := by
        by_cases h : k = 0
        · subst h; rfl
        · rw [decide_eq_false h]; simpa using h
      obtain ⟨bb, hbb⟩ : ∃ bb, decide (k = 0) = bb := ⟨_, rfl⟩
      rw [hbb] at HY q1
      clear hc hkl hr hbb
      cases sm
      all_goals
        go_wp2_with (at_builtin; refine wpList_push (w0 := wr) key_elt HG.out.own hz1 rfl rfl rfl rfl rfl rfl rfl (by unfold maxLen; omega) (by omega) ?_; intro A6 c6 w6 hp; have V6 := Lib.hid (HG.out.push (x := ⟨1, r, _, none, 0, 0⟩) (Below.refl _ _) hp); clear hp)
        go_roundw
        case rel =>
          refine ⟨k + 1, A6, c6, by omega, by go_num, rfl, ?_⟩
          rw [HY.out]
          have h := V6.out
          unfold bare
          rw [List.map_append]
          exact h
        case measure => simp [intOf]; omega
    · obtain rfl : k = n := by omega
      have hlk : l.take k = l := by rw [HR.out.2, List.take_length]
      have HT := Lib.hid HG.out
      rw [hlk] at HT
      go_wp2_with fail
      go_ret
      exact ⟨Ao, co, rfl, ⟨_, HT.out.own, keysW_bare _ (charsK_bare _ _)⟩, HT.out.below⟩

theorem num_odd {s : ByteArray} (h : s.size ≠ 1) : numberedK s = 0 := by
  unfold numberedK
  have hn : ∀ x : UInt8, ¬ s = ⟨#[x]⟩ := fun x e => h (by rw [e]; rfl)
  simp [hn]
theorem one_of {s : ByteArray} (h : s.size = 1) : s = ⟨#[s[0]'(by omega)]⟩ := by
  obtain ⟨⟨l⟩⟩ := s
  match l, h with
  | [x], _ => rfl

set_option maxHeartbeats 4000000 in
theorem rnumber_size (s : ByteArray) (h : s.size ≠ 1) (hz : s.size ≤ 1000000) (w : World) : Calls Try.prog 46 #[.string s] w fun e w' => e = .returned (keyV (namedK (numberedK s))) ∧ Below w.heap.size w w' := by
  rw [num_odd h]
  have d1 : ((s.size : Int) != 1) = true := by simp; omega
  have V := Lib.hid (keyAt_new w 5 0 false 47)
  go_enter Try.func46, Try.ntmps46
  go_wp2
  refine at_world (KeyAt w 5 0 false) V.out ?_
  rintro Z ⟨x0, x1, x2, x3, hb⟩
  have HB := Lib.hid hb
  clear hb
  refine bodyPost_ret (v := keyV (namedK 0)) (by simp [results, Try.results46, go_sem, x0, x1, x2, x3, namedK]) rfl ⟨rfl, HB.out⟩
theorem num_at (x : UInt8) : numberedK ⟨#[x]⟩ = if x.toNat < 49 ∨ 56 < x.toNat then 0 else [5, 7, 8, 6, 9, 10, 5, 6].getD (x.toNat - 49) 0 := by
  have h : ∀ x : UInt8, numberedK ⟨#[x]⟩ = if x.toNat < 49 ∨ 56 < x.toNat then 0 else [5, 7, 8, 6, 9, 10, 5, 6].getD (x.toNat - 49) 0 := by
    intro x
    have e : ∀ y : UInt8, (⟨#[x]⟩ : ByteArray) = ⟨#[y]⟩ ↔ x = y := fun y => by
      constructor
      · intro h; injection h with h; injection h with h; injection h
      · rintro rfl; rfl
    unfold numberedK
    simp only [e]
    clear e
    have h : ∀ n, n < 256 → (if UInt8.ofNat n = 49 ∨ UInt8.ofNat n = 55 then (5 : Int) else if UInt8.ofNat n = 52 ∨ UInt8.ofNat n = 56 then 6 else if UInt8.ofNat n = 50 then 7 else if UInt8.ofNat n = 51 then 8 else if UInt8.ofNat n = 53 then 9 else if UInt8.ofNat n = 54 then 10 else 0) =
        if (UInt8.ofNat n).toNat < 49 ∨ 56 < (UInt8.ofNat n).toNat then 0 else [5, 7, 8, 6, 9, 10, 5, 6].getD ((UInt8.ofNat n).toNat - 49) 0 := by decide +kernel
    have h2 := h x.toNat x.toNat_lt
    rw [UInt8.ofNat_toNat] at h2
    exact h2
  exact h x

set_option maxHeartbeats 4000000 in
theorem rnumber_lo (x : Int) (s : ByteArray) (hs : s.size = 1) (h0 : 0 < s.size) (hx : (s[0].toNat : Int) = x) (hr : numberedK s = 0) (hlt : x < 49) (w : World) : Calls Try.prog 46 #[.string s] w fun e w' => e = .returned (keyV (namedK (numberedK s))) ∧ Below w.heap.size w w' := by
  rw [hr]
  have d1 : ((s.size : Int) != 1) = false := by simp; omega
  have d2 : decide (x < 49) = true := by simp; omega
  
  have V := Lib.hid (keyAt_new w 5 0 false 47)
  clear hs hr
  go_enter Try.func46, Try.ntmps46
  go_wp2
  refine at_world (KeyAt w 5 0 false) V.out ?_
  rintro Z ⟨x0, x1, x2, x3, hb⟩
  have HB := Lib.hid hb
  clear hb
  refine bodyPost_ret (v := keyV (namedK 0)) (by simp [results, Try.results46, go_sem, x0, x1, x2, x3, namedK]) rfl ⟨rfl, HB.out⟩

set_option maxHeartbeats 4000000 in
theorem rnumber_hi (x : Int) (s : ByteArray) (hs : s.size = 1) (h0 : 0 < s.size) (hx : (s[0].toNat : Int) = x) (hr : numberedK s = 0) (hlt : 56 < x) (w : World) : Calls Try.prog 46 #[.string s] w fun e w' => e = .returned (keyV (namedK (numberedK s))) ∧ Below w.heap.size w w' := by
  rw [hr]
  have d1 : ((s.size : Int) != 1) = false := by simp; omega
  have d2 : decide (x < 49) = false := by simp; omega
  have d3 : decide (56 < x) = true := by simp; omega
  have V := Lib.hid (keyAt_new w 5 0 false 47)
  clear hs hr
  go_enter Try.func46, Try.ntmps46
  go_wp2
  refine at_world (KeyAt w 5 0 false) V.out ?_
  rintro Z ⟨x0, x1, x2, x3, hb⟩
  have HB := Lib.hid hb
  clear hb
  refine bodyPost_ret (v := keyV (namedK 0)) (by simp [results, Try.results46, go_sem, x0, x1, x2, x3, namedK]) rfl ⟨rfl, HB.out⟩

set_option maxHeartbeats 4000000 in
theorem rnumber_0 (s : ByteArray) (hs : s.size = 1) (h0 : 0 < s.size) (hx : (s[0].toNat : Int) = 49) (hr : numberedK s = 5) (w : World) : Calls Try.prog 46 #[.string s] w fun e w' => e = .returned (keyV (namedK (numberedK s))) ∧ Below w.heap.size w w' := by
  rw [hr]
  have d1 : ((s.size : Int) != 1) = false := by simp; omega
  have V := Lib.hid (And.intro (And.intro (belPush (belAlloc w (.cells #[.int .i64 0, .int .i32 0, .bool false, .slice none 0 0] 47)) (.cells #[.int .i32 5, .int .i32 7, .int .i32 8, .int .i32 6, .int .i32 9, .int .i32 10, .int .i32 5, .int .i32 6] 21)) ((blk_new w #[.int .i64 0, .int .i32 0, .bool false, .slice none 0 0] 47).alloc (.cells #[.int .i32 5, .int .i32 7, .int .i32 8, .int .i32 6, .int .i32 9, .int .i32 10, .int .i32 5, .int .i32 6] 21))) hs)
  clear hs hr
  go_enter Try.func46, Try.ntmps46
  go_wp2
  refine at_world (KeyAt w 3 5 false) (keyAt_two w 3 _ _ _ _) ?_
  rintro Z ⟨x0, x1, x2, x3, hb⟩
  have HB := Lib.hid hb
  clear hb
  refine bodyPost_ret (v := keyV (namedK 5)) (by simp [results, Try.results46, go_sem, x0, x1, x2, x3, namedK]) rfl ⟨rfl, HB.out⟩

set_option maxHeartbeats 4000000 in
theorem rnumber_1 (s : ByteArray) (hs : s.size = 1) (h0 : 0 < s.size) (hx : (s[0].toNat : Int) = 50) (hr : numberedK s = 7) (w : World) : Calls Try.prog 46 #[.string s] w fun e w' => e = .returned (keyV (namedK (numberedK s))) ∧ Below w.heap.size w w' := by
  rw [hr]
  have d1 : ((s.size : Int) != 1) = false := by simp; omega
  have V := Lib.hid (And.intro (And.intro (belPush (belAlloc w (.cells #[.int .i64 0, .int .i32 0, .bool false, .slice none 0 0] 47)) (.cells #[.int .i32 5, .int .i32 7, .int .i32 8, .int .i32 6, .int .i32 9, .int .i32 10, .int .i32 5, .int .i32 6] 21)) ((blk_new w #[.int .i64 0, .int .i32 0, .bool false, .slice none 0 0] 47).alloc (.cells #[.int .i32 5, .int .i32 7, .int .i32 8, .int .i32 6, .int .i32 9, .int .i32 10, .int .i32 5, .int .i32 6] 21))) hs)
  clear hs hr
  go_enter Try.func46, Try.ntmps46
  go_wp2
  refine at_world (KeyAt w 3 7 false) (keyAt_two w 3 _ _ _ _) ?_
  rintro Z ⟨x0, x1, x2, x3, hb⟩
  have HB := Lib.hid hb
  clear hb
  refine bodyPost_ret (v := keyV (namedK 7)) (by simp [results, Try.results46, go_sem, x0, x1, x2, x3, namedK]) rfl ⟨rfl, HB.out⟩

set_option maxHeartbeats 4000000 in
theorem rnumber_2 (s : ByteArray) (hs : s.size = 1) (h0 : 0 < s.size) (hx : (s[0].toNat : Int) = 51) (hr : numberedK s = 8) (w : World) : Calls Try.prog 46 #[.string s] w fun e w' => e = .returned (keyV (namedK (numberedK s))) ∧ Below w.heap.size w w' := by
  rw [hr]
  have d1 : ((s.size : Int) != 1) = false := by simp; omega
  have V := Lib.hid (And.intro (And.intro (belPush (belAlloc w (.cells #[.int .i64 0, .int .i32 0, .bool false, .slice none 0 0] 47)) (.cells #[.int .i32 5, .int .i32 7, .int .i32 8, .int .i32 6, .int .i32 9, .int .i32 10, .int .i32 5, .int .i32 6] 21)) ((blk_new w #[.int .i64 0, .int .i32 0, .bool false, .slice none 0 0] 47).alloc (.cells #[.int .i32 5, .int .i32 7, .int .i32 8, .int .i32 6, .int .i32 9, .int .i32 10, .int .i32 5, .int .i32 6] 21))) hs)
  clear hs hr
  go_enter Try.func46, Try.ntmps46
  go_wp2
  refine at_world (KeyAt w 3 8 false) (keyAt_two w 3 _ _ _ _) ?_
  rintro Z ⟨x0, x1, x2, x3, hb⟩
  have HB := Lib.hid hb
  clear hb
  refine bodyPost_ret (v := keyV (namedK 8)) (by simp [results, Try.results46, go_sem, x0, x1, x2, x3, namedK]) rfl ⟨rfl, HB.out⟩

set_option maxHeartbeats 4000000 in
theorem rnumber_3 (s : ByteArray) (hs : s.size = 1) (h0 : 0 < s.size) (hx : (s[0].toNat : Int) = 52) (hr : numberedK s = 6) (w : World) : Calls Try.prog 46 #[.string s] w fun e w' => e = .returned (keyV (namedK (numberedK s))) ∧ Below w.heap.size w w' := by
  rw [hr]
  have d1 : ((s.size : Int) != 1) = false := by simp; omega
  have V := Lib.hid (And.intro (And.intro (belPush (belAlloc w (.cells #[.int .i64 0, .int .i32 0, .bool false, .slice none 0 0] 47)) (.cells #[.int .i32 5, .int .i32 7, .int .i32 8, .int .i32 6, .int .i32 9, .int .i32 10, .int .i32 5, .int .i32 6] 21)) ((blk_new w #[.int .i64 0, .int .i32 0, .bool false, .slice none 0 0] 47).alloc (.cells #[.int .i32 5, .int .i32 7, .int .i32 8, .int .i32 6, .int .i32 9, .int .i32 10, .int .i32 5, .int .i32 6] 21))) hs)
  clear hs hr
  go_enter Try.func46, Try.ntmps46
  go_wp2
  refine at_world (KeyAt w 3 6 false) (keyAt_two w 3 _ _ _ _) ?_
  rintro Z ⟨x0, x1, x2, x3, hb⟩
  have HB := Lib.hid hb
  clear hb
  refine bodyPost_ret (v := keyV (namedK 6)) (by simp [results, Try.results46, go_sem, x0, x1, x2, x3, namedK]) rfl ⟨rfl, HB.out⟩

set_option maxHeartbeats 4000000 in
theorem rnumber_4 (s : ByteArray) (hs : s.size = 1) (h0 : 0 < s.size) (hx : (s[0].toNat : Int) = 53) (hr : numberedK s = 9) (w : World) : Calls Try.prog 46 #[.string s] w fun e w' => e = .returned (keyV (namedK (numberedK s))) ∧ Below w.heap.size w w' := by
  rw [hr]
  have d1 : ((s.size : Int) != 1) = false := by simp; omega
  have V := Lib.hid (And.intro (And.intro (belPush (belAlloc w (.cells #[.int .i64 0, .int .i32 0, .bool false, .slice none 0 0] 47)) (.cells #[.int .i32 5, .int .i32 7, .int .i32 8, .int .i32 6, .int .i32 9, .int .i32 10, .int .i32 5, .int .i32 6] 21)) ((blk_new w #[.int .i64 0, .int .i32 0, .bool false, .slice none 0 0] 47).alloc (.cells #[.int .i32 5, .int .i32 7, .int .i32 8, .int .i32 6, .int .i32 9, .int .i32 10, .int .i32 5, .int .i32 6] 21))) hs)
  clear hs hr
  go_enter Try.func46, Try.ntmps46
  go_wp2
  refine at_world (KeyAt w 3 9 false) (keyAt_two w 3 _ _ _ _) ?_
  rintro Z ⟨x0, x1, x2, x3, hb⟩
  have HB := Lib.hid hb
  clear hb
  refine bodyPost_ret (v := keyV (namedK 9)) (by simp [results, Try.results46, go_sem, x0, x1, x2, x3, namedK]) rfl ⟨rfl, HB.out⟩

set_option maxHeartbeats 4000000 in
theorem rnumber_5 (s : ByteArray) (hs : s.size = 1) (h0 : 0 < s.size) (hx : (s[0].toNat : Int) = 54) (hr : numberedK s = 10) (w : World) : Calls Try.prog 46 #[.string s] w fun e w' => e = .returned (keyV (namedK (numberedK s))) ∧ Below w.heap.size w w' := by
  rw [hr]
  have d1 : ((s.size : Int) != 1) = false := by simp; omega
  have V := Lib.hid (And.intro (And.intro (belPush (belAlloc w (.cells #[.int .i64 0, .int .i32 0, .bool false, .slice none 0 0] 47)) (.cells #[.int .i32 5, .int .i32 7, .int .i32 8, .int .i32 6, .int .i32 9, .int .i32 10, .int .i32 5, .int .i32 6] 21)) ((blk_new w #[.int .i64 0, .int .i32 0, .bool false, .slice none 0 0] 47).alloc (.cells #[.int .i32 5, .int .i32 7, .int .i32 8, .int .i32 6, .int .i32 9, .int .i32 10, .int .i32 5, .int .i32 6] 21))) hs)
  clear hs hr
  go_enter Try.func46, Try.ntmps46
  go_wp2
  refine at_world (KeyAt w 3 10 false) (keyAt_two w 3 _ _ _ _) ?_
  rintro Z ⟨x0, x1, x2, x3, hb⟩
  have HB := Lib.hid hb
  clear hb
  refine bodyPost_ret (v := keyV (namedK 10)) (by simp [results, Try.results46, go_sem, x0, x1, x2, x3, namedK]) rfl ⟨rfl, HB.out⟩

set_option maxHeartbeats 4000000 in
theorem rnumber_6 (s : ByteArray) (hs : s.size = 1) (h0 : 0 < s.size) (hx : (s[0].toNat : Int) = 55) (hr : numberedK s = 5) (w : World) : Calls Try.prog 46 #[.string s] w fun e w' => e = .returned (keyV (namedK (numberedK s))) ∧ Below w.heap.size w w' := by
  rw [hr]
  have d1 : ((s.size : Int) != 1) = false := by simp; omega
  have V := Lib.hid (And.intro (And.intro (belPush (belAlloc w (.cells #[.int .i64 0, .int .i32 0, .bool false, .slice none 0 0] 47)) (.cells #[.int .i32 5, .int .i32 7, .int .i32 8, .int .i32 6, .int .i32 9, .int .i32 10, .int .i32 5, .int .i32 6] 21)) ((blk_new w #[.int .i64 0, .int .i32 0, .bool false, .slice none 0 0] 47).alloc (.cells #[.int .i32 5, .int .i32 7, .int .i32 8, .int .i32 6, .int .i32 9, .int .i32 10, .int .i32 5, .int .i32 6] 21))) hs)
  clear hs hr
  go_enter Try.func46, Try.ntmps46
  go_wp2
  refine at_world (KeyAt w 3 5 false) (keyAt_two w 3 _ _ _ _) ?_
  rintro Z ⟨x0, x1, x2, x3, hb⟩
  have HB := Lib.hid hb
  clear hb
  refine bodyPost_ret (v := keyV (namedK 5)) (by simp [results, Try.results46, go_sem, x0, x1, x2, x3, namedK]) rfl ⟨rfl, HB.out⟩

set_option maxHeartbeats 4000000 in
theorem rnumber_7 (s : ByteArray) (hs : s.size = 1) (h0 : 0 < s.size) (hx : (s[0].toNat : Int) = 56) (hr : numberedK s = 6) (w : World) : Calls Try.prog 46 #[.string s] w fun e w' => e = .returned (keyV (namedK (numberedK s))) ∧ Below w.heap.size w w' := by
  rw [hr]
  have d1 : ((s.size : Int) != 1) = false := by simp; omega
  have V := Lib.hid (And.intro (And.intro (belPush (belAlloc w (.cells #[.int .i64 0, .int .i32 0, .bool false, .slice none 0 0] 47)) (.cells #[.int .i32 5, .int .i32 7, .int .i32 8, .int .i32 6, .int .i32 9, .int .i32 10, .int .i32 5, .int .i32 6] 21)) ((blk_new w #[.int .i64 0, .int .i32 0, .bool false, .slice none 0 0] 47).alloc (.cells #[.int .i32 5, .int .i32 7, .int .i32 8, .int .i32 6, .int .i32 9, .int .i32 10, .int .i32 5, .int .i32 6] 21))) hs)
  clear hs hr
  go_enter Try.func46, Try.ntmps46
  go_wp2
  refine at_world (KeyAt w 3 6 false) (keyAt_two w 3 _ _ _ _) ?_
  rintro Z ⟨x0, x1, x2, x3, hb⟩
  have HB := Lib.hid hb
  clear hb
  refine bodyPost_ret (v := keyV (namedK 6)) (by simp [results, Try.results46, go_sem, x0, x1, x2, x3, namedK]) rfl ⟨rfl, HB.out⟩

theorem rnumber_any (s : ByteArray) (hz : s.size ≤ 1000000) (w : World) : Calls Try.prog 46 #[.string s] w fun e w' => e = .returned (keyV (namedK (numberedK s))) ∧ Below w.heap.size w w' := by
  by_cases h : s.size = 1
  · have h0 : 0 < s.size := by omega
    have e : numberedK s = if s[0].toNat < 49 ∨ 56 < s[0].toNat then (0 : Int) else ([5, 7, 8, 6, 9, 10, 5, 6] : List Int).getD (s[0].toNat - 49) 0 := by
      conv => lhs; rw [one_of h]
      exact num_at _
    by_cases h1 : s[0].toNat < 49
    · exact rnumber_lo _ s h h0 rfl (by rw [e, if_pos (.inl h1)]) (by omega) w
    by_cases h2 : 56 < s[0].toNat
    · exact rnumber_hi _ s h h0 rfl (by rw [e, if_pos (.inr h2)]) (by omega) w
    rw [if_neg (by omega)] at e
    obtain h3 | h3 | h3 | h3 | h3 | h3 | h3 | h3 : s[0].toNat = 49 ∨ s[0].toNat = 50 ∨ s[0].toNat = 51 ∨ s[0].toNat = 52 ∨ s[0].toNat = 53 ∨ s[0].toNat = 54 ∨ s[0].toNat = 55 ∨ s[0].toNat = 56 := by omega
    all_goals rw [h3] at e
    · exact rnumber_0 s h h0 (by rw [h3]; rfl) (by rw [e]; rfl) w
    · exact rnumber_1 s h h0 (by rw [h3]; rfl) (by rw [e]; rfl) w
    · exact rnumber_2 s h h0 (by rw [h3]; rfl) (by rw [e]; rfl) w
    · exact rnumber_3 s h h0 (by rw [h3]; rfl) (by rw [e]; rfl) w
    · exact rnumber_4 s h h0 (by rw [h3]; rfl) (by rw [e]; rfl) w
    · exact rnumber_5 s h h0 (by rw [h3]; rfl) (by rw [e]; rfl) w
    · exact rnumber_6 s h h0 (by rw [h3]; rfl) (by rw [e]; rfl) w
    · exact rnumber_7 s h h0 (by rw [h3]; rfl) (by rw [e]; rfl) w
  · exact rnumber_size s h hz w
end Go.Proofs.Ytkkenabckhmkoaa

/- keys: rest and fed. -/
namespace Go.Proofs.Ytkkenabckhmkoaa
open Go.RowKit
set_option linter.unusedVariables false
set_option linter.unusedSimpArgs false
set_option maxRecDepth 100000

theorem waitS_zero : waitS DS.zero = ⟨#[]⟩ := rfl
theorem blk4_set0 {w : World} {g : Nat} {i : Int} {row wt : ByteArray} {m : Bool} (h : Blk w g (rC i row wt m)) (x : Int) : Blk (w.setCell ⟨g, 0, none⟩ (.int .i64 x)) g (rC x row wt m) := by
  have := h.set_ 0 (by simp) (.int .i64 x); simpa using this
theorem blk4_set1 {w : World} {g : Nat} {i : Int} {row wt : ByteArray} {m : Bool} (h : Blk w g (rC i row wt m)) (x : ByteArray) : Blk (w.setCell ⟨g, 1, none⟩ (.string x)) g (rC i x wt m) := by
  have := h.set_ 1 (by simp) (.string x); simpa using this
theorem blk4_set2 {w : World} {g : Nat} {i : Int} {row wt : ByteArray} {m : Bool} (h : Blk w g (rC i row wt m)) (x : ByteArray) : Blk (w.setCell ⟨g, 2, none⟩ (.string x)) g (rC i row x m) := by
  have := h.set_ 2 (by simp) (.string x); simpa using this
theorem blk4_set3 {w : World} {g : Nat} {i : Int} {row wt : ByteArray} {m : Bool} (h : Blk w g (rC i row wt m)) (x : Bool) : Blk (w.setCell ⟨g, 3, none⟩ (.bool x)) g (rC i row wt x) := by
  have := h.set_ 3 (by simp) (.bool x); simpa using this
theorem waitS_size (d : DS) (hd : d.Ok) : (waitS d).size ≤ 3 := by
  unfold waitS
  rw [strOfNums_size]
  exact (waitB_len d hd).2
theorem waitS_bts (d : DS) (hd : d.Ok) : bts (waitS d) = waitB d := bts_str _ (waitB_range d hd)
theorem endD_len (d : DS) : (endD d).length ≤ 1 := by unfold endD; split <;> simp
def TellsO4 (i : Int) (row wt : ByteArray) (m : Bool) (ks : List Ky) (g : Nat) (w : World) (e : Ending) (w' : World) : Prop := ∃ A n c, e = .returned (.slice A n c) ∧ KyO w.heap.size w' (.slice A n c) n ks ∧ Blk w' g (rC i row wt m) ∧ But g w w'
theorem kyO_g {X : World} {base n g : Nat} {v : Value} {ks : List Ky} (h : KyO base X v n ks) (hb : Bare ks) (hg : g < base) (i : Nat) (u : Value) : KyO base (X.setCell ⟨g, i, none⟩ u) v n ks := by
  obtain ⟨hs, h1, h2⟩ := h
  exact ⟨hs, ownsRow_setCell_below h1 (a := ⟨g, i, none⟩) hg u, keysW_move _ h2 hb⟩

set_option maxHeartbeats 4000000 in
theorem rest_any (i : Int) (row : ByteArray) (d : DS) (m : Bool) (g : Nat) (hd : d.At) (w : World) (hb : Blk w g (rC i row (waitS d) m)) :
    Calls Try.prog 32 #[.pointer (some ⟨g, 0, none⟩)] w (TellsO4 i row ⟨#[]⟩ false (charsK m (endD d)) g w) := by
  obtain ⟨le, hle⟩ : ∃ le, (endD d).length = le := ⟨_, rfl⟩
  have hle1 : le ≤ 1 := by rw [← hle]; exact endD_len d
  have hwz := waitS_size d hd.1
  have CD := Lib.hid (fun X => refdec_is (waitS d) (endD d) le (by omega) (by rw [waitS_bts d hd.1]; exact dec_wait d hd) hle X)
  have HB := Lib.hid hb
  have HE := Lib.hid (And.intro hle.symm (show le ≤ 100000 by omega))
  obtain ⟨wt, hwt⟩ : ∃ wt, waitS d = wt := ⟨_, rfl⟩
  rw [hwt] at CD hb HB
  clear hwt hwz hle
  have hgs := hb.1
  have HS := Lib.hid (show ∀ Z, Below w.heap.size w Z → (fun X => X.cell? ⟨g, 2, none⟩ = some (.string wt) ∧ X.cell? ⟨g, 3, none⟩ = some (.bool m)) Z from fun Z hZ => ⟨(hZ.cell (p := ⟨g, 2, none⟩) HB.out.1).trans (HB.out.2.1 2), (hZ.cell (p := ⟨g, 3, none⟩) HB.out.1).trans (HB.out.2.1 3)⟩)
  have c0 : w.cell? ⟨g, 0, none⟩ = some (.int .i64 i) := hb.2.1 0
  have c1 : w.cell? ⟨g, 1, none⟩ = some (.string row) := hb.2.1 1
  have c2 : w.cell? ⟨g, 2, none⟩ = some (.string wt) := hb.2.1 2
  have c3 : w.cell? ⟨g, 3, none⟩ = some (.bool m) := hb.2.1 3
  have f0 : w.frozen? ⟨g, 0, none⟩ = false := hb.2.2 0
  have f1 : w.frozen? ⟨g, 1, none⟩ = false := hb.2.2 1
  have f2 : w.frozen? ⟨g, 2, none⟩ = false := hb.2.2 2
  have f3 : w.frozen? ⟨g, 3, none⟩ = false := hb.2.2 3
  clear hb
  have hV : Below w.heap.size w w := Below.refl _ _
  have hD := hV.drew
  go_enter Try.func32, Try.ntmps32
  go_wp2_with fail
  go_region_held3 (fun X => X.cell? ⟨g, 2, none⟩ = some (.string wt) ∧ X.cell? ⟨g, 3, none⟩ = some (.bool m)) (first | exact HS.out _ (by assumption) | go_keep)
    (first
      | (go_at_call 17; refine (CD.out _).mono ?_; rintro e w3 ⟨A3, c3, rfl, r3, b3⟩; have hB3 : Below w.heap.size w w3 := (Below.refl _ _).drew.trans b3; have R3 := Lib.hid r3; clear r3 b3)
      | (go_at_call 47; refine (rchars_any m A3 le c3 _ _ R3.out HE.out.1 HE.out.2).mono ?_; rintro e w4 ⟨A4, c4, rfl, k4, b4⟩; have hB4 : Below w.heap.size w w4 := hB3.trans (b4.mono hB3.size); have K4 := Lib.hid (And.intro hB3.size k4); clear k4 b4))
  have HB4 := Lib.hid (show Blk w4 g (rC i row wt m) from HB.out.later hB4 HB.out.1)
  have c0 : w4.cell? ⟨g, 0, none⟩ = some (.int .i64 i) := HB4.out.2.1 0
  have c1 : w4.cell? ⟨g, 1, none⟩ = some (.string row) := HB4.out.2.1 1
  have c2 : w4.cell? ⟨g, 2, none⟩ = some (.string wt) := HB4.out.2.1 2
  have c3 : w4.cell? ⟨g, 3, none⟩ = some (.bool m) := HB4.out.2.1 3
  have f0 : w4.frozen? ⟨g, 0, none⟩ = false := HB4.out.2.2 0
  have f1 : w4.frozen? ⟨g, 1, none⟩ = false := HB4.out.2.2 1
  have f2 : w4.frozen? ⟨g, 2, none⟩ = false := HB4.out.2.2 2
  have f3 : w4.frozen? ⟨g, 3, none⟩ = false := HB4.out.2.2 3
  have V4 := Lib.hid hB4
  clear hV hD hB3 hB4
  go_wp2_with fail
  refine at_world (fun Z => KyO w.heap.size Z (.slice A4 le c4) le (charsK m (endD d)) ∧ Blk Z g (rC i row ⟨#[]⟩ false) ∧ But g w Z) ?_ ?_
  · refine ⟨kyO_g (kyO_g ?_ (charsK_bare _ _) hgs 2 _) (charsK_bare _ _) hgs 3 _, blk4_set3 (blk4_set2 HB4.out ⟨#[]⟩) false, ((But.of V4.out).set 2 _).set 3 _⟩
    obtain ⟨hs, h1, h2⟩ := K4.out.2
    exact ⟨hs, ownLow h1 K4.out.1, h2⟩
  · intro Z hZ
    have HZ := Lib.hid hZ
    clear hZ c0 c1 c2 c3 f0 f1 f2 f3
    go_ret
    exact ⟨A4, le, c4, rfl, HZ.out.1, HZ.out.2.1, HZ.out.2.2⟩
end Go.Proofs.Ytkkenabckhmkoaa

/- keys: fed. -/
namespace Go.Proofs.Ytkkenabckhmkoaa
open Go.RowKit
set_option linter.unusedVariables false
set_option linter.unusedSimpArgs false
set_option maxRecDepth 100000

theorem ext_bts (s : ByteArray) (k : Nat) : bts (s.extract 0 k) = (bts s).take k := by rw [bts_extract]; simp
theorem push_bts (s : ByteArray) (b : Int) (b0 : 0 ≤ b) (b1 : b ≤ 255) : bts (s ++ ⟨#[UInt8.ofNat b.toNat]⟩) = bts s ++ [b] := by
  have h : ((UInt8.ofNat b.toNat).toNat : Int) = b := by
    rw [UInt8.toNat_ofNat']
    omega
  simp only [bts, ByteArray.data_append, Array.toList_append, List.map_append, List.map_cons, List.map_nil, h]
theorem row_convD (w : World) (b : Int) :
    (convert 58 9 (.slice (some ⟨w.heap.size, 0, none⟩) 1 1)).run Try.prog (w.alloc (.cells #[.int .u8 b] 5)).drew = .ok (.string ⟨#[UInt8.ofNat b.toNat]⟩) (w.alloc (.cells #[.int .u8 b] 5)).drew := by
  rw [← row_str]
  refine run_convert_bytes_arg (P := Try.prog) _ 58 5 Try.underlying58 Try.underlying5 w.heap.size 0 1 1 [b] rfl (fun i hi => ?_) 9 Try.underlying9
  show (w.alloc _).cell? _ = _
  rw [Nat.zero_add, World.cell?_alloc_new]
  obtain rfl : i = 0 := by omega
  simp [List.getD]
/-- The text behind a byte that is fed. -/
structure FedS (d : DS) (b : Int) (al : ByteArray) (d' : DS) (l : List Int) (nn : Nat) : Prop where
  le : nn ≤ al.size
  sz : al.size ≤ 4
  n : (stF DS.zero (bts al)).n = (nn : Int)
  rest : al.extract (al.size - nn) al.size = waitS d'
  dec : decD (bts (al.extract 0 (al.size - nn))) = l
  len : l.length ≤ 2
  at_ : d'.At
  m : l.length = 0 → nn ≠ 0
theorem fedS (d : DS) (hd : d.At) (b : Int) (b0 : 0 ≤ b) (b1 : b ≤ 255) : FedS d b (waitS d ++ ⟨#[UInt8.ofNat b.toNat]⟩) (stepD d b).1 (stepD d b).2 (stepD d b).1.n.toNat := by
  obtain ⟨h1, h2, h3, _⟩ := fed_pure d hd b b0 b1
  have hb : bts (waitS d ++ ⟨#[UInt8.ofNat b.toNat]⟩) = waitB d ++ [b] := by rw [push_bts _ _ b0 b1, waitS_bts d hd.1]
  have hat := step_at d hd b b0 b1
  have hsz : (waitS d ++ ⟨#[UInt8.ofNat b.toNat]⟩).size = (waitB d ++ [b]).length := by rw [← hb, bts_length]
  have hn0 : 0 ≤ (stepD d b).1.n := by
    obtain ⟨_, h | h | h | h⟩ := hat.1
    all_goals
      have := h.1
      omega
  have hl' := waitB_len _ hat.1
  have hl := waitB_len d hd.1
  have hlen : (waitB d ++ [b]).length = (waitB d).length + 1 := by simp
  have hle : (stepD d b).1.n.toNat ≤ (waitB d ++ [b]).length := by
    have h4 := congrArg List.length h2
    rw [List.length_drop] at h4
    omega
  refine ⟨by rw [hsz]; exact hle, by rw [hsz]; omega, by rw [hb, h1]; omega, ?_, ?_, stepD_len d b, hat, fun h => ?_⟩
  · rw [← str_bts ((waitS d ++ ⟨#[UInt8.ofNat b.toNat]⟩).extract _ _), bts_tail, hb, hsz, h2]
    rfl
  · rw [ext_bts, hb, hsz, h3]
  · have := fed_meta d b h
    omega

set_option maxHeartbeats 4000000 in
theorem fed_any (i : Int) (d : DS) (m : Bool) (g : Nat) (b : Int) (b0 : 0 ≤ b) (b1 : b ≤ 255) (hd : d.At) (w : World) (hb : Blk w g (rC i ⟨#[]⟩ (waitS d) m)) :
    Calls Try.prog 45 #[.pointer (some ⟨g, 0, none⟩), .int .u8 b] w (TellsR (decodeK d m b) g w) := by
  have hF := fedS d hd b b0 b1
  have hwz := waitS_size d hd.1
  obtain ⟨wt, hwt⟩ : ∃ wt, waitS d = wt := ⟨_, rfl⟩
  obtain ⟨⟨d', l⟩, hst⟩ : ∃ q, stepD d b = q := ⟨_, rfl⟩
  have hD : decodeK d m b = (⟨0, d', m && decide (l.length = 0), ⟨#[]⟩, [], 0⟩, charsK m l) := by unfold decodeK; rw [hst]
  rw [hD]
  rw [hst] at hF
  dsimp only at hF
  obtain ⟨nn, hnn⟩ : ∃ nn, d'.n.toNat = nn := ⟨_, rfl⟩
  rw [hnn] at hF
  rw [hwt] at hb hF hwz
  clear hwt hst hD hnn
  have HF := Lib.hid hF
  have HB := Lib.hid hb
  have hc1 := row_convD w b
  have hc2 := fun X => row_cat X wt ⟨#[UInt8.ofNat b.toNat]⟩ (by show wt.size + 1 ≤ _; omega)
  have c0 : w.cell? ⟨g, 0, none⟩ = some (.int .i64 i) := hb.2.1 0
  have c1 : w.cell? ⟨g, 1, none⟩ = some (.string ⟨#[]⟩) := hb.2.1 1
  have c2 : w.cell? ⟨g, 2, none⟩ = some (.string wt) := hb.2.1 2
  have c3 : w.cell? ⟨g, 3, none⟩ = some (.bool m) := hb.2.1 3
  have f0 : w.frozen? ⟨g, 0, none⟩ = false := hb.2.2 0
  have f1 : w.frozen? ⟨g, 1, none⟩ = false := hb.2.2 1
  have f2 : w.frozen? ⟨g, 2, none⟩ = false := hb.2.2 2
  have f3 : w.frozen? ⟨g, 3, none⟩ = false := hb.2.2 3
  have hgs := hb.1
  clear hb hF
  go_enter Try.func45, Try.ntmps45
  go_upto_region 1 with fail
  go_region
  obtain ⟨al, hal⟩ : ∃ al, wt ++ ⟨#[UInt8.ofNat b.toNat]⟩ = al := ⟨_, rfl⟩
  rw [hal]
  rw [hal] at HF
  refine at_world (fun Z => Below w.heap.size w Z) (belAlloc w (.cells #[.int .u8 b] 5)).drew ?_
  intro X hX
  have VX := Lib.hid hX
  clear hX hal hc1 hc2 c0 c1 c2 c3 f0 f1 f2 f3 hwz
  obtain ⟨kk, hkk⟩ : ∃ kk, al.size - nn = kk := ⟨_, rfl⟩
  obtain ⟨le, hle⟩ : ∃ le, l.length = le := ⟨_, rfl⟩
  have hsz4 := HF.out.sz
  have hnle := HF.out.le
  have hle2 : le ≤ 2 := by rw [← hle]; exact HF.out.len
  have hm0 : le = 0 → nn ≠ 0 := by rw [← hle]; exact HF.out.m
  have hz : (al.size : Int) - (nn : Int) = (kk : Int) := by omega
  have hk4 : kk ≤ al.size := by omega
  have CW := Lib.hid (show ∀ Z, Calls Try.prog 52 #[.string al] Z (Told (.int .i64 (nn : Int)) Z) from fun Z => by rw [← HF.out.n]; exact rwaits_any al Z (by omega))
  have CD := Lib.hid (fun Z => refdec_is (al.extract 0 kk) l le (by rw [ByteArray.size_extract]; omega) (by rw [← hkk]; exact HF.out.dec) hle Z)
  have CC := Lib.hid (fun A c Z (h : Rd Z A le (li l)) => rchars_any m A le c l Z h hle.symm (by omega))
  have HR := Lib.hid (And.intro (show al.extract kk al.size = waitS d' by rw [← hkk]; exact HF.out.rest) hle)
  go_upto_region 3 with (go_at_call 52; refine (CW.out _).mono ?_; rintro e w2 ⟨rfl, hb2⟩; have V2 := Lib.hid (show Below w.heap.size w w2 by obtain ⟨q, rfl⟩ := hb2; exact belDrew VX.out q); clear hb2)
  clear hkk hle
  go_upto_region 4 with (go_at_call 17; refine (CD.out _).mono ?_; rintro e w3 ⟨A3, c3_, rfl, r3, b3⟩; have V3 := Lib.hid (And.intro (belowStep V2.out b3) r3); clear r3 b3)
  have HB3 := Lib.hid (HB.out.later V3.out.1 HB.out.1)
  have c0 : w3.cell? ⟨g, 0, none⟩ = some (.int .i64 i) := HB3.out.2.1 0
  have c1 : w3.cell? ⟨g, 1, none⟩ = some (.string ⟨#[]⟩) := HB3.out.2.1 1
  have c2 : w3.cell? ⟨g, 2, none⟩ = some (.string wt) := HB3.out.2.1 2
  have c3 : w3.cell? ⟨g, 3, none⟩ = some (.bool m) := HB3.out.2.1 3
  have f0 : w3.frozen? ⟨g, 0, none⟩ = false := HB3.out.2.2 0
  have f1 : w3.frozen? ⟨g, 1, none⟩ = false := HB3.out.2.2 1
  have f2 : w3.frozen? ⟨g, 2, none⟩ = false := HB3.out.2.2 2
  have f3 : w3.frozen? ⟨g, 3, none⟩ = false := HB3.out.2.2 3
  go_upto_region 5 with (go_at_call 47; refine (CC.out A3 _ _ V3.out.2).mono ?_; rintro e w4 ⟨A4, c4, rfl, k4, b4⟩; have V4 := Lib.hid (And.intro (belowStep V3.out.1 b4) (kyW_own k4)); clear k4 b4)
  clear c0 c1 c2 c3 f0 f1 f2 f3
  have HB4 := Lib.hid (HB.out.later V4.out.1 HB.out.1)
  have c0 : w4.cell? ⟨g, 0, none⟩ = some (.int .i64 i) := HB4.out.2.1 0
  have c1 : w4.cell? ⟨g, 1, none⟩ = some (.string ⟨#[]⟩) := HB4.out.2.1 1
  have c2 : w4.cell? ⟨g, 2, none⟩ = some (.string wt) := HB4.out.2.1 2
  have c3 : w4.cell? ⟨g, 3, none⟩ = some (.bool m) := HB4.out.2.1 3
  have f0 : w4.frozen? ⟨g, 0, none⟩ = false := HB4.out.2.2 0
  have f1 : w4.frozen? ⟨g, 1, none⟩ = false := HB4.out.2.2 1
  have f2 : w4.frozen? ⟨g, 2, none⟩ = false := HB4.out.2.2 2
  have f3 : w4.frozen? ⟨g, 3, none⟩ = false := HB4.out.2.2 3
  go_upto_region 6 with fail
  refine at_world (fun Z => KyW Z (.slice A4 le c4) (charsK m l) ∧ Blk Z g (rC i ⟨#[]⟩ (waitS d') m) ∧ But g w Z) ⟨kyW_but V4.out.2.1 HB4.out ((But.refl g w4).set 2 _), by rw [HR.out.1]; exact blk4_set2 HB4.out _, (But.of V4.out.1).set 2 _⟩ ?_
  intro Y hY
  have VY := Lib.hid hY
  clear hY c0 c1 c2 c3 f0 f1 f2 f3 HB4 HB3
  have c0 : Y.cell? ⟨g, 0, none⟩ = some (.int .i64 i) := VY.out.2.1.2.1 0
  have c1 : Y.cell? ⟨g, 1, none⟩ = some (.string ⟨#[]⟩) := VY.out.2.1.2.1 1
  have c2 : Y.cell? ⟨g, 2, none⟩ = some (.string (waitS d')) := VY.out.2.1.2.1 2
  have c3 : Y.cell? ⟨g, 3, none⟩ = some (.bool m) := VY.out.2.1.2.1 3
  have f0 : Y.frozen? ⟨g, 0, none⟩ = false := VY.out.2.1.2.2 0
  have f1 : Y.frozen? ⟨g, 1, none⟩ = false := VY.out.2.1.2.2 1
  have f2 : Y.frozen? ⟨g, 2, none⟩ = false := VY.out.2.1.2.2 2
  have f3 : Y.frozen? ⟨g, 3, none⟩ = false := VY.out.2.1.2.2 3
  by_cases hl0 : le = 0
  · have hn0 := hm0 hl0
    have d1 : ((nn : Int) == 0) = false := by simpa using hn0
    subst hl0
    go_wp2_with fail
    refine at_world (fun Z => KyW Z (.slice A4 0 c4) (charsK m l) ∧ Blk Z g (rC 0 ⟨#[]⟩ (waitS d') m) ∧ But g w Z) ⟨kyW_but VY.out.1 VY.out.2.1 ((But.refl g Y).set 0 _), blk4_set0 VY.out.2.1 0, VY.out.2.2.set 0 _⟩ ?_
    intro Z hZ
    have VZ := Lib.hid hZ
    clear hZ c0 c1 c2 c3 f0 f1 f2 f3
    go_ret
    refine ⟨A4, 0, c4, rfl, ?_, VZ.out.1, by rw [charsK_len]; exact HR.out.2.symm, VZ.out.2.2⟩
    have e : (m && decide (l = [])) = m := by rw [List.eq_nil_of_length_eq_zero HR.out.2]; simp
    show Blk Z g (rC 0 ⟨#[]⟩ (waitS d') (m && decide (l = [])))
    rw [e]
    exact VZ.out.2.1
  · have d1 : (0 : Int) < (le : Int) := by omega
    go_wp2_with fail
    refine at_world (fun Z => KyW Z (.slice A4 le c4) (charsK m l) ∧ Blk Z g (rC 0 ⟨#[]⟩ (waitS d') false) ∧ But g w Z) ⟨kyW_but VY.out.1 VY.out.2.1 (((But.refl g Y).set 3 _).set 0 _), blk4_set0 (blk4_set3 VY.out.2.1 false) 0, (VY.out.2.2.set 3 _).set 0 _⟩ ?_
    intro Z hZ
    have VZ := Lib.hid hZ
    clear hZ c0 c1 c2 c3 f0 f1 f2 f3
    go_ret
    refine ⟨A4, le, c4, rfl, ?_, VZ.out.1, by rw [charsK_len]; exact HR.out.2.symm, VZ.out.2.2⟩
    have e : (m && decide (l.length = 0)) = false := by rw [HR.out.2]; simp [hl0]
    show Blk Z g (rC 0 ⟨#[]⟩ (waitS d') (m && decide (l.length = 0)))
    rw [e]
    exact VZ.out.2.1
end Go.Proofs.Ytkkenabckhmkoaa

/- keys: alone, escaped, broken. -/
namespace Go.Proofs.Ytkkenabckhmkoaa
open Go.RowKit
set_option linter.unusedVariables false
set_option linter.unusedSimpArgs false
set_option maxRecDepth 100000

theorem but_own {w w' : World} {base g size n : Nat} {E : TypeId} {v : Value} {xs : List Value} (h : w.ownsRow base E size v n xs) (hB : But g w w') (hg : g < base) : w'.ownsRow base E size v n xs :=
  own_kept h hB.block hg
theorem But.push {g : Nat} {w w1 w6 : World} {E : TypeId} {size n : Nat} {v : Value} {xs : List Value} (h : But g w w1) (ho : w1.ownsRow w.heap.size E size v n xs) (hp : w1.grownBy w6 v.ownBlock) : But g w w6 := by
  obtain ⟨o, t, u, s, f⟩ := hp
  refine ⟨o.trans h.os, t.trans h.tape, u.trans h.output, Nat.le_trans h.size s, fun k hk hne => (f k (Nat.lt_of_lt_of_le hk h.size) ?_).trans (h.block k hk hne)⟩
  intro e
  have := (ho.lt k e.symm).1
  omega
theorem kyO_snoc {X Y : World} {base n c c6 : Nat} {A A6 : Option Addr} {hs : List Kp} {ks : List Ky} {k r : Int} {m : Bool} (hk : KeysW X hs ks) (hb : Bare ks) (hp : Pushed X Y base 47 4 (.slice A n c) (n + 1) (flatL encK hs ++ (#[Value.int .i64 k, .int .i32 r, .bool m, .slice none 0 0] : Array Value).toList) A6 c6) : KyW Y (.slice A6 (n + 1) c6) (ks ++ [⟨k, r, m, []⟩]) ∧ n + 1 = (ks ++ [(⟨k, r, m, []⟩ : Ky)]).length :=
  kyW_own (kyO_push hk hb hp)
theorem brk_out {w X Y : World} {g q n1 c c' : Nat} {A A' : Option Addr} {i : Int} {row wt : ByteArray} {m : Bool} {gs : List Kp} {ks : List Ky} (hb : Blk X g (rC i row wt m)) (hB : But g w X) (ho : X.ownsRow q 47 4 (.slice A 1 c) 1 (flatL encK [⟨5, 0, false, none, 0, 0⟩])) (hgq : g < q) (hwq : w.heap.size ≤ q) (hk : KeysW X gs ks) (hn : n1 = ks.length)
    (hp : Pushed X Y q 47 4 (.slice A 1 c) (1 + n1) (flatL encK [⟨5, 0, false, none, 0, 0⟩] ++ flatL encK gs) A' c') (hbk : Bare ks) : Blk Y g (rC i row wt m) ∧ KyW Y (.slice A' (1 + n1) c') (⟨5, 0, false, []⟩ :: ks) ∧ 1 + n1 = ((⟨5, 0, false, []⟩ : Ky) :: ks).length ∧ But g w Y := by
  refine ⟨hb.grown hp.grown (fun e => absurd (ho.lt _ e.symm).1 (Nat.not_le_of_lt hgq)), ?_, by rw [hn, List.length_cons]; omega, ?_⟩
  · refine (kyW_own (base := q) (ks := ⟨5, 0, false, []⟩ :: ks) ⟨⟨5, 0, false, none, 0, 0⟩ :: gs, ?_, (keysW_one (keyW_bare _ _ _ _)).append (keysW_move Y hk hbk)⟩).1
    have := hp.own
    rw [← flatL_append] at this
    exact this
  · have ho' := ho
    obtain ⟨o, t, u, s, f⟩ := hp.grown
    refine ⟨o.trans hB.os, t.trans hB.tape, u.trans hB.output, Nat.le_trans hB.size s, fun k hk hne => (f k (Nat.lt_of_lt_of_le hk hB.size) ?_).trans (hB.block k hk hne)⟩
    intro e
    have := (ho.lt k e.symm).1
    omega
theorem aloneK_bare (d : DS) (m : Bool) (b : Int) : Bare (aloneK d m b).2 := by
  unfold aloneK
  split
  · split
    · exact charsK_bare _ _
    · intro y hy
      rcases List.mem_append.1 hy with h | h
      · exact charsK_bare _ _ y h
      · rw [List.mem_singleton.1 h]
  · exact charsK_bare _ _

set_option maxHeartbeats 4000000 in
theorem ralone_esc (d : DS) (m : Bool) (g : Nat) (hd : d.At) (w : World) (hb : Blk w g (rC 0 ⟨#[]⟩ (waitS d) m)) :
    Calls Try.prog 29 #[.pointer (some ⟨g, 0, none⟩), .int .u8 27] w (TellsR (KS.at 1, charsK m (endD d)) g w) := by
  have CR := Lib.hid (rest_any 0 ⟨#[]⟩ d m g hd w hb)
  clear hb
  go_enter Try.func29, Try.ntmps29
  go_upto_region 3 with (go_at_call 32; refine CR.out.mono ?_; rintro e w1 ⟨A1, n1, c1_, rfl, k1, hb1, hB1⟩; have V1 := Lib.hid (And.intro (kyW_own k1) (And.intro hb1 hB1)); clear k1 hb1 hB1)
  have c0 : w1.cell? ⟨g, 0, none⟩ = some (.int .i64 0) := V1.out.2.1.2.1 0
  have c1 : w1.cell? ⟨g, 1, none⟩ = some (.string ⟨#[]⟩) := V1.out.2.1.2.1 1
  have c2 : w1.cell? ⟨g, 2, none⟩ = some (.string ⟨#[]⟩) := V1.out.2.1.2.1 2
  have c3 : w1.cell? ⟨g, 3, none⟩ = some (.bool false) := V1.out.2.1.2.1 3
  have f0 : w1.frozen? ⟨g, 0, none⟩ = false := V1.out.2.1.2.2 0
  have f1 : w1.frozen? ⟨g, 1, none⟩ = false := V1.out.2.1.2.2 1
  have f2 : w1.frozen? ⟨g, 2, none⟩ = false := V1.out.2.1.2.2 2
  have f3 : w1.frozen? ⟨g, 3, none⟩ = false := V1.out.2.1.2.2 3
  go_wp2_with fail
  refine at_world (fun Z => KyW Z (.slice A1 n1 c1_) (charsK m (endD d)) ∧ Blk Z g (rC 1 ⟨#[]⟩ ⟨#[]⟩ false) ∧ But g w Z) ⟨kyW_but V1.out.1.1 V1.out.2.1 ((But.refl g w1).set 0 _), blk4_set0 V1.out.2.1 1, V1.out.2.2.set 0 _⟩ ?_
  intro Z hZ
  have VZ := Lib.hid hZ
  clear hZ c0 c1 c2 c3 f0 f1 f2 f3
  go_ret
  exact ⟨A1, n1, c1_, rfl, VZ.out.2.1, VZ.out.1, V1.out.1.2, VZ.out.2.2⟩

set_option maxHeartbeats 4000000 in
theorem ralone_ctl (d : DS) (m : Bool) (g : Nat) (b : Int) (b0 : 0 ≤ b) (b1 : b ≤ 255) (hne : (b == 27) = false) (hc : ctlB b = true) (hd : d.At) (w : World) (hb : Blk w g (rC 0 ⟨#[]⟩ (waitS d) m)) :
    Calls Try.prog 29 #[.pointer (some ⟨g, 0, none⟩), .int .u8 b] w (TellsR (KS.zero, charsK m (endD d) ++ [⟨2, b, false, []⟩]) g w) := by
  have CR := Lib.hid (fun (X : World) (h : w = X) => show Calls Try.prog 32 #[.pointer (some ⟨g, 0, none⟩)] X (TellsO4 0 ⟨#[]⟩ ⟨#[]⟩ false (charsK m (endD d)) g X) from by subst h; exact rest_any 0 ⟨#[]⟩ d m g hd w hb)
  have CC := Lib.hid (fun X => rcontrol_any b X)
  rw [hc] at CC
  have hle := endD_len d
  obtain ⟨le, hle'⟩ : ∃ le, (endD d).length = le := ⟨_, rfl⟩
  rw [hle'] at hle
  have HLE := Lib.hid hle'
  have hgs := hb.1
  clear hb hc hle'
  go_enter Try.func29, Try.ntmps29
  go_wp2_with (first
    | (go_at_call 25; refine (CC.out _).mono ?_; rintro e _ ⟨rfl, rfl⟩)
    | (go_at_call 32; refine (CR.out _ rfl).mono ?_; rintro e w1 ⟨A1, n1, c1_, rfl, ⟨hs, ho, hk⟩, hb1, hB1⟩; obtain rfl : n1 = le := (by rw [(kyW_own ⟨hs, ho, hk⟩).2, charsK_len]; exact HLE.out); have V1 := Lib.hid (And.intro ho (And.intro hk (And.intro hb1 hB1))); have hz1 := hB1.size; clear ho hk hb1 hB1)
    | (at_builtin; refine wpList_push (w0 := w1) key_elt V1.out.1 hz1 rfl rfl rfl rfl rfl rfl rfl (by unfold maxLen; omega) (by omega) ?_; intro A6 c6 w6 hp; have V6 := Lib.hid (And.intro (kyO_snoc V1.out.2.1 (charsK_bare _ _) hp) (And.intro (V1.out.2.2.1.grown hp.grown (fun e => absurd (V1.out.1.lt _ e.symm).1 (Nat.not_le_of_lt hgs))) (V1.out.2.2.2.push V1.out.1 hp.grown))); clear hp))
  go_ret
  exact ⟨A6, n1 + 1, c6, rfl, V6.out.2.1, V6.out.1.1, V6.out.1.2, V6.out.2.2⟩

set_option maxHeartbeats 4000000 in
theorem ralone_fed (d : DS) (m : Bool) (g : Nat) (b : Int) (b0 : 0 ≤ b) (b1 : b ≤ 255) (hne : (b == 27) = false) (hc : ctlB b = false) (hd : d.At) (w : World) (hb : Blk w g (rC 0 ⟨#[]⟩ (waitS d) m)) :
    Calls Try.prog 29 #[.pointer (some ⟨g, 0, none⟩), .int .u8 b] w (TellsR (decodeK d m b) g w) := by
  have CF := Lib.hid (fun (X : World) (h : w = X) => show Calls Try.prog 45 #[.pointer (some ⟨g, 0, none⟩), .int .u8 b] X (TellsR (decodeK d m b) g X) from by subst h; exact fed_any 0 d m g b b0 b1 hd w hb)
  have CC := Lib.hid (fun X => rcontrol_any b X)
  rw [hc] at CC
  clear hb hc
  obtain ⟨R, hR⟩ : ∃ R, decodeK d m b = R := ⟨_, rfl⟩
  rw [hR] at CF ⊢
  clear hR
  go_enter Try.func29, Try.ntmps29
  go_wp2_with (first
    | (go_at_call 25; refine (CC.out _).mono ?_; rintro e _ ⟨rfl, rfl⟩)
    | (go_at_call 45; refine (CF.out _ rfl).mono ?_; rintro e w1 ⟨A1, n1, c1_, rfl, hb1, hk1, hn1, hB1⟩; have V1 := Lib.hid (And.intro hb1 (And.intro hk1 (And.intro hn1 hB1))); clear hb1 hk1 hn1 hB1))
  go_ret
  exact ⟨A1, n1, c1_, rfl, V1.out.1, V1.out.2.1, V1.out.2.2.1, V1.out.2.2.2⟩

theorem ralone_any (d : DS) (m : Bool) (g : Nat) (b : Int) (b0 : 0 ≤ b) (b1 : b ≤ 255) (hd : d.At) (w : World) (hb : Blk w g (rC 0 ⟨#[]⟩ (waitS d) m)) :
    Calls Try.prog 29 #[.pointer (some ⟨g, 0, none⟩), .int .u8 b] w (TellsR (aloneK d m b) g w) := by
  unfold aloneK
  by_cases hc : ctlB b = true
  · rw [if_pos hc]
    by_cases h : b = 27
    · rw [if_pos h]; subst h; exact ralone_esc d m g hd w hb
    · rw [if_neg h]; exact ralone_ctl d m g b b0 b1 (by simpa using h) hc hd w hb
  · rw [if_neg hc]
    have h : ¬ b = 27 := by rintro rfl; exact hc (by decide)
    exact ralone_fed d m g b b0 b1 (by simpa using h) (by simpa using hc) hd w hb

set_option maxHeartbeats 4000000 in
theorem resc_row (g : Nat) (w : World) (hb : Blk w g (rC 1 ⟨#[]⟩ ⟨#[]⟩ false)) : Calls Try.prog 23 #[.pointer (some ⟨g, 0, none⟩), .int .u8 91] w (TellsR (KS.at 2, []) g w) := by
  have HB := Lib.hid hb
  have c0 : w.cell? ⟨g, 0, none⟩ = some (.int .i64 1) := hb.2.1 0
  have c1 : w.cell? ⟨g, 1, none⟩ = some (.string ⟨#[]⟩) := hb.2.1 1
  have c2 : w.cell? ⟨g, 2, none⟩ = some (.string ⟨#[]⟩) := hb.2.1 2
  have c3 : w.cell? ⟨g, 3, none⟩ = some (.bool false) := hb.2.1 3
  have f0 : w.frozen? ⟨g, 0, none⟩ = false := hb.2.2 0
  have f1 : w.frozen? ⟨g, 1, none⟩ = false := hb.2.2 1
  have f2 : w.frozen? ⟨g, 2, none⟩ = false := hb.2.2 2
  have f3 : w.frozen? ⟨g, 3, none⟩ = false := hb.2.2 3
  have hgs := hb.1
  clear hb
  go_enter Try.func23, Try.ntmps23
  go_wp2_with fail
  refine at_world (fun Z => Blk Z g (rC 2 ⟨#[]⟩ ⟨#[]⟩ false) ∧ But g w Z) ⟨(blk4_set1 (blk4_set0 (blk4_set0 HB.out 0) 2) ⟨#[]⟩), ((((But.refl g w).set 0 _).set 0 _).set 1 _)⟩ ?_
  intro Z hZ
  have VZ := Lib.hid hZ
  clear hZ c0 c1 c2 c3 f0 f1 f2 f3
  go_ret
  exact ⟨none, 0, 0, rfl, VZ.out.1, kyW_nil _, rfl, VZ.out.2⟩

set_option maxHeartbeats 4000000 in
theorem resc_let (g : Nat) (w : World) (hb : Blk w g (rC 1 ⟨#[]⟩ ⟨#[]⟩ false)) : Calls Try.prog 23 #[.pointer (some ⟨g, 0, none⟩), .int .u8 79] w (TellsR (KS.at 3, []) g w) := by
  have HB := Lib.hid hb
  have c0 : w.cell? ⟨g, 0, none⟩ = some (.int .i64 1) := hb.2.1 0
  have c1 : w.cell? ⟨g, 1, none⟩ = some (.string ⟨#[]⟩) := hb.2.1 1
  have c2 : w.cell? ⟨g, 2, none⟩ = some (.string ⟨#[]⟩) := hb.2.1 2
  have c3 : w.cell? ⟨g, 3, none⟩ = some (.bool false) := hb.2.1 3
  have f0 : w.frozen? ⟨g, 0, none⟩ = false := hb.2.2 0
  have f1 : w.frozen? ⟨g, 1, none⟩ = false := hb.2.2 1
  have f2 : w.frozen? ⟨g, 2, none⟩ = false := hb.2.2 2
  have f3 : w.frozen? ⟨g, 3, none⟩ = false := hb.2.2 3
  have hgs := hb.1
  clear hb
  go_enter Try.func23, Try.ntmps23
  go_wp2_with fail
  refine at_world (fun Z => Blk Z g (rC 3 ⟨#[]⟩ ⟨#[]⟩ false) ∧ But g w Z) ⟨(blk4_set0 (blk4_set0 HB.out 0) 3), (((But.refl g w).set 0 _).set 0 _)⟩ ?_
  intro Z hZ
  have VZ := Lib.hid hZ
  clear hZ c0 c1 c2 c3 f0 f1 f2 f3
  go_ret
  exact ⟨none, 0, 0, rfl, VZ.out.1, kyW_nil _, rfl, VZ.out.2⟩

set_option maxHeartbeats 4000000 in
theorem resc_esc (g : Nat) (w : World) (hb : Blk w g (rC 1 ⟨#[]⟩ ⟨#[]⟩ false)) : Calls Try.prog 23 #[.pointer (some ⟨g, 0, none⟩), .int .u8 27] w (TellsR (KS.at 1, [⟨2, 27, false, []⟩]) g w) := by
  have HB := Lib.hid hb
  have hgs := hb.1
  clear hb
  go_enter Try.func23, Try.ntmps23
  go_wp2_with fail
  refine at_world (fun Z => KyW Z (.slice (some ⟨w.heap.size, 0, none⟩) 1 1) [⟨2, 27, false, []⟩] ∧ Blk Z g (rC 1 ⟨#[]⟩ ⟨#[]⟩ false) ∧ But g w Z) ⟨kyW_new1 w _ 2 27 false, HB.out.alloc _, But.of (belAlloc _ _)⟩ ?_
  intro Z hZ
  have VZ := Lib.hid hZ
  clear hZ
  go_ret
  exact ⟨_, 1, 1, rfl, VZ.out.2.1, VZ.out.1, rfl, VZ.out.2.2⟩

set_option maxHeartbeats 4000000 in
theorem resc_ctl (g : Nat) (b : Int) (b0 : 0 ≤ b) (b1 : b ≤ 255) (n1 : (b == 27) = false) (n2 : (b == 91) = false) (n3 : (b == 79) = false) (hc : ctlB b = true) (w : World) (hb : Blk w g (rC 1 ⟨#[]⟩ ⟨#[]⟩ false)) : Calls Try.prog 23 #[.pointer (some ⟨g, 0, none⟩), .int .u8 b] w (TellsR (KS.zero, [⟨2, b, true, []⟩]) g w) := by
  have CC := Lib.hid (fun X => rcontrol_any b X)
  rw [hc] at CC
  have HB := Lib.hid hb
  have c0 : w.cell? ⟨g, 0, none⟩ = some (.int .i64 1) := hb.2.1 0
  have c1 : w.cell? ⟨g, 1, none⟩ = some (.string ⟨#[]⟩) := hb.2.1 1
  have c2 : w.cell? ⟨g, 2, none⟩ = some (.string ⟨#[]⟩) := hb.2.1 2
  have c3 : w.cell? ⟨g, 3, none⟩ = some (.bool false) := hb.2.1 3
  have f0 : w.frozen? ⟨g, 0, none⟩ = false := hb.2.2 0
  have f1 : w.frozen? ⟨g, 1, none⟩ = false := hb.2.2 1
  have f2 : w.frozen? ⟨g, 2, none⟩ = false := hb.2.2 2
  have f3 : w.frozen? ⟨g, 3, none⟩ = false := hb.2.2 3
  have hgs := hb.1
  clear hb hc
  go_enter Try.func23, Try.ntmps23
  go_upto_region 4 with fail
  refine at_world (fun Z => Blk Z g (rC 0 ⟨#[]⟩ ⟨#[]⟩ false) ∧ But g w Z) ⟨blk4_set0 HB.out 0, (But.refl g w).set 0 _⟩ ?_
  intro Y hY
  have VY := Lib.hid hY
  clear hY c0 c1 c2 c3 f0 f1 f2 f3
  go_wp2_with (go_at_call 25; refine (CC.out _).mono ?_; rintro e _ ⟨rfl, rfl⟩)
  refine at_world (fun Z => KyW Z (.slice (some ⟨Y.heap.size, 0, none⟩) 1 1) [⟨2, b, true, []⟩] ∧ Blk Z g (rC 0 ⟨#[]⟩ ⟨#[]⟩ false) ∧ But g w Z) ⟨kyW_new1 Y _ 2 b true, VY.out.1.alloc _, VY.out.2.later (belAlloc _ _)⟩ ?_
  intro Z hZ
  have VZ := Lib.hid hZ
  clear hZ
  go_ret
  exact ⟨_, 1, 1, rfl, VZ.out.2.1, VZ.out.1, rfl, VZ.out.2.2⟩

set_option maxHeartbeats 4000000 in
theorem resc_dec (g : Nat) (b : Int) (b0 : 0 ≤ b) (b1 : b ≤ 255) (n1 : (b == 27) = false) (n2 : (b == 91) = false) (n3 : (b == 79) = false) (hc : ctlB b = false) (w : World) (hb : Blk w g (rC 1 ⟨#[]⟩ ⟨#[]⟩ false)) : Calls Try.prog 23 #[.pointer (some ⟨g, 0, none⟩), .int .u8 b] w (TellsR (decodeK DS.zero true b) g w) := by
  have CC := Lib.hid (fun X => rcontrol_any b X)
  rw [hc] at CC
  have CF := Lib.hid (fun (X : World) (h : Blk X g (rC 0 ⟨#[]⟩ ⟨#[]⟩ true)) => fed_any 0 DS.zero true g b b0 b1 at_zero X h)
  obtain ⟨R, hR⟩ : ∃ R, decodeK DS.zero true b = R := ⟨_, rfl⟩
  rw [hR] at CF ⊢
  clear hR
  have HB := Lib.hid hb
  have c0 : w.cell? ⟨g, 0, none⟩ = some (.int .i64 1) := hb.2.1 0
  have c1 : w.cell? ⟨g, 1, none⟩ = some (.string ⟨#[]⟩) := hb.2.1 1
  have c2 : w.cell? ⟨g, 2, none⟩ = some (.string ⟨#[]⟩) := hb.2.1 2
  have c3 : w.cell? ⟨g, 3, none⟩ = some (.bool false) := hb.2.1 3
  have f0 : w.frozen? ⟨g, 0, none⟩ = false := hb.2.2 0
  have f1 : w.frozen? ⟨g, 1, none⟩ = false := hb.2.2 1
  have f2 : w.frozen? ⟨g, 2, none⟩ = false := hb.2.2 2
  have f3 : w.frozen? ⟨g, 3, none⟩ = false := hb.2.2 3
  have hgs := hb.1
  clear hb hc
  go_enter Try.func23, Try.ntmps23
  go_upto_region 14 with (go_at_call 25; refine (CC.out _).mono ?_; rintro e _ ⟨rfl, rfl⟩)
  refine at_world (fun Z => Blk Z g (rC 0 ⟨#[]⟩ ⟨#[]⟩ true) ∧ But g w Z) ⟨blk4_set3 (blk4_set0 HB.out 0) true, ((But.refl g w).set 0 _).set 3 _⟩ ?_
  intro Y hY
  have VY := Lib.hid hY
  clear hY c0 c1 c2 c3 f0 f1 f2 f3
  go_wp2_with (go_at_call 45; refine (CF.out _ VY.out.1).mono ?_; rintro e w1 ⟨A1, n1, c1_, rfl, hb1, hk1, hn1, hB1⟩; have V1 := Lib.hid (And.intro hb1 (And.intro hk1 (And.intro hn1 (VY.out.2.trans hB1)))); clear hb1 hk1 hn1 hB1)
  go_ret
  exact ⟨A1, n1, c1_, rfl, V1.out.1, V1.out.2.1, V1.out.2.2.1, V1.out.2.2.2⟩

theorem rescaped_any (g : Nat) (b : Int) (b0 : 0 ≤ b) (b1 : b ≤ 255) (w : World) (hb : Blk w g (rC 1 ⟨#[]⟩ ⟨#[]⟩ false)) : Calls Try.prog 23 #[.pointer (some ⟨g, 0, none⟩), .int .u8 b] w (TellsR (escapedK b) g w) := by
  unfold escapedK
  by_cases h1 : b = 91
  · rw [if_pos h1]; subst h1; exact resc_row g w hb
  rw [if_neg h1]
  by_cases h2 : b = 79
  · rw [if_pos h2]; subst h2; exact resc_let g w hb
  rw [if_neg h2]
  by_cases h3 : b = 27
  · rw [if_pos h3]; subst h3; exact resc_esc g w hb
  rw [if_neg h3]
  by_cases hc : ctlB b = true
  · rw [if_pos hc]; exact resc_ctl g b b0 b1 (by simpa using h3) (by simpa using h1) (by simpa using h2) hc w hb
  · rw [if_neg hc]; exact resc_dec g b b0 b1 (by simpa using h3) (by simpa using h1) (by simpa using h2) (by simpa using hc) w hb

set_option maxHeartbeats 4000000 in
theorem rbroken_any (i : Int) (row : ByteArray) (g : Nat) (b : Int) (b0 : 0 ≤ b) (b1 : b ≤ 255) (w : World) (hb : Blk w g (rC i row ⟨#[]⟩ false)) : Calls Try.prog 26 #[.pointer (some ⟨g, 0, none⟩), .int .u8 b] w (TellsR (oddK b) g w) := by
  have CA := Lib.hid (fun (X : World) (h : Blk X g (rC 0 ⟨#[]⟩ ⟨#[]⟩ false)) => ralone_any DS.zero false g b b0 b1 at_zero X h)
  have hal := aloneK_len DS.zero false b
  have hba := aloneK_bare DS.zero false b
  obtain ⟨R, hR⟩ : ∃ R, aloneK DS.zero false b = R := ⟨_, rfl⟩
  have eO : oddK b = (R.1, ⟨5, 0, false, []⟩ :: R.2) := by unfold oddK; rw [hR]
  rw [eO]
  rw [hR] at CA hal hba
  have HBA := Lib.hid hba
  clear hR eO hba
  have HB := Lib.hid hb
  have c0 : w.cell? ⟨g, 0, none⟩ = some (.int .i64 i) := hb.2.1 0
  have c1 : w.cell? ⟨g, 1, none⟩ = some (.string row) := hb.2.1 1
  have c2 : w.cell? ⟨g, 2, none⟩ = some (.string ⟨#[]⟩) := hb.2.1 2
  have c3 : w.cell? ⟨g, 3, none⟩ = some (.bool false) := hb.2.1 3
  have f0 : w.frozen? ⟨g, 0, none⟩ = false := hb.2.2 0
  have f1 : w.frozen? ⟨g, 1, none⟩ = false := hb.2.2 1
  have f2 : w.frozen? ⟨g, 2, none⟩ = false := hb.2.2 2
  have f3 : w.frozen? ⟨g, 3, none⟩ = false := hb.2.2 3
  have hgs := hb.1
  clear hb
  go_enter Try.func26, Try.ntmps26
  go_upto_region 3 with fail
  refine at_world (fun Z => Blk Z g (rC 0 ⟨#[]⟩ ⟨#[]⟩ false) ∧ But g w Z) ⟨blk4_set1 (blk4_set0 HB.out 0) ⟨#[]⟩, ((But.refl g w).set 0 _).set 1 _⟩ ?_
  intro Y hY
  have VY := Lib.hid hY
  clear hY c0 c1 c2 c3 f0 f1 f2 f3
  go_upto_region 4 with fail
  refine at_world (fun Z => Z.ownsRow Y.heap.size 47 4 (.slice (some ⟨Y.heap.size, 0, none⟩) 1 1) 1 (flatL encK [⟨5, 0, false, none, 0, 0⟩]) ∧ Blk Z g (rC 0 ⟨#[]⟩ ⟨#[]⟩ false) ∧ But g w Z ∧ Y.heap.size ≤ Z.heap.size) ⟨own_new1 Y Y.heap.size (Nat.le_refl _) 5 0 false, VY.out.1.alloc _, VY.out.2.later (belAlloc _ _), by rw [World.size_alloc]; exact Nat.le_succ _⟩ ?_
  obtain ⟨q, hq⟩ : ∃ q, Y.heap.size = q := ⟨_, rfl⟩
  have hgq : g < q := by rw [← hq]; exact VY.out.1.1
  have hwq : w.heap.size ≤ q := by rw [← hq]; exact VY.out.2.size
  rw [hq]
  clear hq
  intro X hX
  have VX := Lib.hid hX
  clear hX VY
  go_wp2_with (first
    | (go_at_call 29; refine (CA.out _ VX.out.2.1).mono ?_; rintro e w1 ⟨A1, n1, c1_, rfl, hb1, hk1, hn1, hB1⟩; obtain ⟨gs, hl1, hkk1⟩ := hk1; have hn3 : n1 ≤ 3 := (by rw [hn1]; exact hal); have V1 := Lib.hid (And.intro hb1 (And.intro hl1 (And.intro hkk1 (And.intro hn1 (And.intro (VX.out.2.2.1.trans hB1) (but_own VX.out.1 hB1 hgq)))))); have hz1 : q ≤ w1.heap.size := Nat.le_trans VX.out.2.2.2 hB1.size; clear hb1 hl1 hkk1 hn1 hB1)
    | (at_builtin; refine wpList_li encK_len encK_one key_elt V1.out.2.2.2.2.2 hz1 rfl rfl rfl rfl V1.out.2.1 (by unfold maxLen; omega) (by omega) ?_; intro A6 c6 w6 hp; have V6 := Lib.hid (brk_out V1.out.1 V1.out.2.2.2.2.1 V1.out.2.2.2.2.2 hgq hwq V1.out.2.2.1 V1.out.2.2.2.1 hp HBA.out); clear hp))
  go_ret
  exact ⟨A6, 1 + n1, c6, rfl, V6.out.1, V6.out.2.1, V6.out.2.2.1, V6.out.2.2.2⟩
end Go.Proofs.Ytkkenabckhmkoaa

/- keys: row, pasted, Feed, Tick. -/
namespace Go.Proofs.Ytkkenabckhmkoaa
open Go.RowKit
set_option linter.unusedVariables false
set_option linter.unusedSimpArgs false
set_option maxRecDepth 100000


set_option maxHeartbeats 4000000 in
theorem rrow_odd1 (row : ByteArray) (g : Nat) (b : Int) (b0 : 0 ≤ b) (b1 : b ≤ 255) (hc : ctlB b = true) (w : World) (hb : Blk w g (rC 2 row ⟨#[]⟩ false)) : Calls Try.prog 24 #[.pointer (some ⟨g, 0, none⟩), .int .u8 b] w (TellsR (oddK b) g w) := by
  have CC := Lib.hid (fun X => rcontrol_any b X)
  rw [hc] at CC
  have CB := Lib.hid (fun (X : World) (h : w = X) => show Calls Try.prog 26 #[.pointer (some ⟨g, 0, none⟩), .int .u8 b] X (TellsR (oddK b) g X) from by subst h; exact rbroken_any 2 row g b b0 b1 w hb)
  obtain ⟨R, hR⟩ : ∃ R, oddK b = R := ⟨_, rfl⟩
  rw [hR] at CB ⊢
  clear hR hb hc
  go_enter Try.func24, Try.ntmps24
  go_wp2_with (first
    | (go_at_call 25; refine (CC.out _).mono ?_; rintro e _ ⟨rfl, rfl⟩)
    | (go_at_call 26; refine (CB.out _ rfl).mono ?_; rintro e w1 ⟨A1, n1, c1_, rfl, hb1, hk1, hn1, hB1⟩; have V1 := Lib.hid (And.intro hb1 (And.intro hk1 (And.intro hn1 hB1))); clear hb1 hk1 hn1 hB1))
  go_ret
  exact ⟨A1, n1, c1_, rfl, V1.out.1, V1.out.2.1, V1.out.2.2.1, V1.out.2.2.2⟩

set_option maxHeartbeats 4000000 in
theorem rrow_odd2 (row : ByteArray) (g : Nat) (b : Int) (b0 : 0 ≤ b) (b1 : b ≤ 255) (hc : ctlB b = false) (hg : 127 < b) (w : World) (hb : Blk w g (rC 2 row ⟨#[]⟩ false)) : Calls Try.prog 24 #[.pointer (some ⟨g, 0, none⟩), .int .u8 b] w (TellsR (oddK b) g w) := by
  have CC := Lib.hid (fun X => rcontrol_any b X)
  rw [hc] at CC
  have CB := Lib.hid (fun (X : World) (h : w = X) => show Calls Try.prog 26 #[.pointer (some ⟨g, 0, none⟩), .int .u8 b] X (TellsR (oddK b) g X) from by subst h; exact rbroken_any 2 row g b b0 b1 w hb)
  obtain ⟨R, hR⟩ : ∃ R, oddK b = R := ⟨_, rfl⟩
  rw [hR] at CB ⊢
  clear hR hb hc
  go_enter Try.func24, Try.ntmps24
  go_wp2_with (first
    | (go_at_call 25; refine (CC.out _).mono ?_; rintro e _ ⟨rfl, rfl⟩)
    | (go_at_call 26; refine (CB.out _ rfl).mono ?_; rintro e w1 ⟨A1, n1, c1_, rfl, hb1, hk1, hn1, hB1⟩; have V1 := Lib.hid (And.intro hb1 (And.intro hk1 (And.intro hn1 hB1))); clear hb1 hk1 hn1 hB1))
  go_ret
  exact ⟨A1, n1, c1_, rfl, V1.out.1, V1.out.2.1, V1.out.2.2.1, V1.out.2.2.2⟩

set_option maxHeartbeats 4000000 in
theorem rrow_push (row : ByteArray) (g : Nat) (b : Int) (b0 : 0 ≤ b) (b1 : b ≤ 255) (hc : ctlB b = false) (hg : ¬ 127 < b) (h64 : b < 64) (h16 : row.size < 16) (w : World) (hb : Blk w g (rC 2 row ⟨#[]⟩ false)) : Calls Try.prog 24 #[.pointer (some ⟨g, 0, none⟩), .int .u8 b] w (TellsR (⟨2, DS.zero, false, row.push (UInt8.ofNat b.toNat), [], 0⟩, []) g w) := by
  have CC := Lib.hid (fun X => rcontrol_any b X)
  rw [hc] at CC
  have HB := Lib.hid hb
  have c0 : w.cell? ⟨g, 0, none⟩ = some (.int .i64 2) := hb.2.1 0
  have c1 : w.cell? ⟨g, 1, none⟩ = some (.string row) := hb.2.1 1
  have c2 : w.cell? ⟨g, 2, none⟩ = some (.string ⟨#[]⟩) := hb.2.1 2
  have c3 : w.cell? ⟨g, 3, none⟩ = some (.bool false) := hb.2.1 3
  have f0 : w.frozen? ⟨g, 0, none⟩ = false := hb.2.2 0
  have f1 : w.frozen? ⟨g, 1, none⟩ = false := hb.2.2 1
  have f2 : w.frozen? ⟨g, 2, none⟩ = false := hb.2.2 2
  have f3 : w.frozen? ⟨g, 3, none⟩ = false := hb.2.2 3
  have hgs := hb.1
  have hc1 := row_conv w b
  have hc2 := fun X => row_cat X row ⟨#[UInt8.ofNat b.toNat]⟩ (by show row.size + 1 ≤ _; omega)
  have h16' : (row.size : Int) < 16 := by omega
  rw [row_push] at hc2
  clear hb hc
  go_enter Try.func24, Try.ntmps24
  go_wp2_with (go_at_call 25; refine (CC.out _).mono ?_; rintro e _ ⟨rfl, rfl⟩)
  refine at_world (fun Z => Blk Z g (rC 2 (row.push (UInt8.ofNat b.toNat)) ⟨#[]⟩ false) ∧ But g w Z) ?_ ?_
  · first
      | exact ⟨blk4_set1 (HB.out.alloc _) _, (But.of (belAlloc _ _)).set 1 _⟩
      | exact ⟨(blk4_set1 HB.out _).alloc _, ((But.refl g w).set 1 _).later (belAlloc _ _)⟩
  · intro Z hZ
    have VZ := Lib.hid hZ
    clear hZ c0 c1 c2 c3 f0 f1 f2 f3
    go_ret
    exact ⟨none, 0, 0, rfl, VZ.out.1, kyW_nil _, rfl, VZ.out.2⟩

set_option maxHeartbeats 4000000 in
theorem rrow_full (row : ByteArray) (g : Nat) (b : Int) (b0 : 0 ≤ b) (b1 : b ≤ 255) (hc : ctlB b = false) (hg : ¬ 127 < b) (h64 : b < 64) (h16 : ¬ row.size < 16) (w : World) (hb : Blk w g (rC 2 row ⟨#[]⟩ false)) : Calls Try.prog 24 #[.pointer (some ⟨g, 0, none⟩), .int .u8 b] w (TellsR (KS.zero, [⟨5, 0, false, []⟩]) g w) := by
  have CC := Lib.hid (fun X => rcontrol_any b X)
  rw [hc] at CC
  have HB := Lib.hid hb
  have c0 : w.cell? ⟨g, 0, none⟩ = some (.int .i64 2) := hb.2.1 0
  have c1 : w.cell? ⟨g, 1, none⟩ = some (.string row) := hb.2.1 1
  have c2 : w.cell? ⟨g, 2, none⟩ = some (.string ⟨#[]⟩) := hb.2.1 2
  have c3 : w.cell? ⟨g, 3, none⟩ = some (.bool false) := hb.2.1 3
  have f0 : w.frozen? ⟨g, 0, none⟩ = false := hb.2.2 0
  have f1 : w.frozen? ⟨g, 1, none⟩ = false := hb.2.2 1
  have f2 : w.frozen? ⟨g, 2, none⟩ = false := hb.2.2 2
  have f3 : w.frozen? ⟨g, 3, none⟩ = false := hb.2.2 3
  have hgs := hb.1
  have h16' : ¬ (row.size : Int) < 16 := by omega
  clear hb hc
  go_enter Try.func24, Try.ntmps24
  go_upto_region 9 with (go_at_call 25; refine (CC.out _).mono ?_; rintro e _ ⟨rfl, rfl⟩)
  refine at_world (fun Z => Blk Z g (rC 0 ⟨#[]⟩ ⟨#[]⟩ false) ∧ But g w Z) ⟨blk4_set1 (blk4_set0 HB.out 0) ⟨#[]⟩, ((But.refl g w).set 0 _).set 1 _⟩ ?_
  intro Y hY
  have VY := Lib.hid hY
  clear hY c0 c1 c2 c3 f0 f1 f2 f3
  go_wp2_with fail
  refine at_world (fun Z => KyW Z (.slice (some ⟨Y.heap.size, 0, none⟩) 1 1) [⟨5, 0, false, []⟩] ∧ Blk Z g (rC 0 ⟨#[]⟩ ⟨#[]⟩ false) ∧ But g w Z) ⟨kyW_new1 Y _ 5 0 false, VY.out.1.alloc _, VY.out.2.later (belAlloc _ _)⟩ ?_
  intro Z hZ
  have VZ := Lib.hid hZ
  clear hZ
  go_ret
  exact ⟨_, 1, 1, rfl, VZ.out.2.1, VZ.out.1, rfl, VZ.out.2.2⟩

set_option maxHeartbeats 4000000 in
theorem rrow_paste (g : Nat) (w : World) (hb : Blk w g (rC 2 ⟨#[50, 48, 48]⟩ ⟨#[]⟩ false)) : Calls Try.prog 24 #[.pointer (some ⟨g, 0, none⟩), .int .u8 126] w (TellsR (KS.at 4, []) g w) := by
  have CC := Lib.hid (fun X => rcontrol_any 126 X)
  rw [show ctlB 126 = false by decide] at CC
  have HB := Lib.hid hb
  have c0 : w.cell? ⟨g, 0, none⟩ = some (.int .i64 2) := hb.2.1 0
  have c1 : w.cell? ⟨g, 1, none⟩ = some (.string ⟨#[50, 48, 48]⟩) := hb.2.1 1
  have c2 : w.cell? ⟨g, 2, none⟩ = some (.string ⟨#[]⟩) := hb.2.1 2
  have c3 : w.cell? ⟨g, 3, none⟩ = some (.bool false) := hb.2.1 3
  have f0 : w.frozen? ⟨g, 0, none⟩ = false := hb.2.2 0
  have f1 : w.frozen? ⟨g, 1, none⟩ = false := hb.2.2 1
  have f2 : w.frozen? ⟨g, 2, none⟩ = false := hb.2.2 2
  have f3 : w.frozen? ⟨g, 3, none⟩ = false := hb.2.2 3
  have hgs := hb.1
  have hq1 : ((⟨#[50, 48, 48]⟩ : ByteArray).toList == [50, 48, 48]) = true := by decide +kernel
  clear hb
  go_enter Try.func24, Try.ntmps24
  go_wp2_with (go_at_call 25; refine (CC.out _).mono ?_; rintro e _ ⟨rfl, rfl⟩)
  refine at_world (fun Z => Blk Z g (rC 4 ⟨#[]⟩ ⟨#[]⟩ false) ∧ But g w Z) ⟨blk4_set0 (blk4_set1 (blk4_set0 HB.out 0) ⟨#[]⟩) 4, (((But.refl g w).set 0 _).set 1 _).set 0 _⟩ ?_
  intro Z hZ
  have VZ := Lib.hid hZ
  clear hZ c0 c1 c2 c3 f0 f1 f2 f3
  go_ret
  exact ⟨none, 0, 0, rfl, VZ.out.1, kyW_nil _, rfl, VZ.out.2⟩

set_option maxHeartbeats 4000000 in
theorem rrow_num (row : ByteArray) (g : Nat) (b : Int) (b0 : 0 ≤ b) (b1 : b ≤ 255) (hc : ctlB b = false) (hg : ¬ 127 < b) (hb126 : b = 126) (hr : ¬ row = ⟨#[50, 48, 48]⟩) (h16 : row.size ≤ 16) (w : World) (hb : Blk w g (rC 2 row ⟨#[]⟩ false)) : Calls Try.prog 24 #[.pointer (some ⟨g, 0, none⟩), .int .u8 b] w (TellsR (KS.zero, [namedK (numberedK row)]) g w) := by
  have CC := Lib.hid (fun X => rcontrol_any b X)
  rw [hc] at CC
  have HB := Lib.hid hb
  have c0 : w.cell? ⟨g, 0, none⟩ = some (.int .i64 2) := hb.2.1 0
  have c1 : w.cell? ⟨g, 1, none⟩ = some (.string row) := hb.2.1 1
  have c2 : w.cell? ⟨g, 2, none⟩ = some (.string ⟨#[]⟩) := hb.2.1 2
  have c3 : w.cell? ⟨g, 3, none⟩ = some (.bool false) := hb.2.1 3
  have f0 : w.frozen? ⟨g, 0, none⟩ = false := hb.2.2 0
  have f1 : w.frozen? ⟨g, 1, none⟩ = false := hb.2.2 1
  have f2 : w.frozen? ⟨g, 2, none⟩ = false := hb.2.2 2
  have f3 : w.frozen? ⟨g, 3, none⟩ = false := hb.2.2 3
  have hgs := hb.1
  have hq1 : (row.toList == [50, 48, 48]) = false := ba_noL hr
  subst hb126
  clear hb hc
  go_enter Try.func24, Try.ntmps24
  go_upto_region 9 with (go_at_call 25; refine (CC.out _).mono ?_; rintro e _ ⟨rfl, rfl⟩)
  refine at_world (fun Z => Blk Z g (rC 0 ⟨#[]⟩ ⟨#[]⟩ false) ∧ But g w Z) ⟨blk4_set1 (blk4_set0 HB.out 0) ⟨#[]⟩, ((But.refl g w).set 0 _).set 1 _⟩ ?_
  intro Y hY
  have VY := Lib.hid hY
  clear hY c0 c1 c2 c3 f0 f1 f2 f3
  have CN := Lib.hid (fun X => rnumber_any row (by omega) X)
  obtain ⟨⟨kk, kr, km, kt⟩, hky⟩ : ∃ y, namedK (numberedK row) = y := ⟨_, rfl⟩
  have hkm : km = false ∧ kt = [] := by
    have : (namedK (numberedK row)).m = false ∧ (namedK (numberedK row)).t = [] := by unfold namedK; split <;> exact ⟨rfl, rfl⟩
    rw [hky] at this
    exact this
  obtain ⟨rfl, rfl⟩ := hkm
  rw [hky] at CN
  have HKY := Lib.hid hky
  clear hky
  go_wp2_with (go_at_call 46; refine (CN.out _).mono ?_; rintro e w3 ⟨rfl, b3⟩; have V3 := Lib.hid (And.intro (VY.out.1.later b3 VY.out.1.1) (VY.out.2.later b3)); clear b3)
  refine at_world (fun Z => KyW Z (.slice (some ⟨w3.heap.size, 0, none⟩) 1 1) [⟨kk, kr, false, []⟩] ∧ Blk Z g (rC 0 ⟨#[]⟩ ⟨#[]⟩ false) ∧ But g w Z) ⟨kyW_new1 w3 _ kk kr false, V3.out.1.alloc _, V3.out.2.later (belAlloc _ _)⟩ ?_
  intro Z hZ
  have VZ := Lib.hid hZ
  clear hZ
  go_ret
  exact ⟨_, 1, 1, rfl, VZ.out.2.1, by rw [show namedK (numberedK row) = _ from HKY.out]; exact VZ.out.1, rfl, VZ.out.2.2⟩

set_option maxHeartbeats 4000000 in
theorem rrow_none (row : ByteArray) (g : Nat) (b : Int) (b0 : 0 ≤ b) (b1 : b ≤ 255) (hc : ctlB b = false) (hg : ¬ 127 < b) (h64 : ¬ b < 64) (hb126 : (b == 126) = false) (hr : ¬ row = ⟨#[]⟩) (w : World) (hb : Blk w g (rC 2 row ⟨#[]⟩ false)) : Calls Try.prog 24 #[.pointer (some ⟨g, 0, none⟩), .int .u8 b] w (TellsR (KS.zero, [⟨5, 0, false, []⟩]) g w) := by
  have CC := Lib.hid (fun X => rcontrol_any b X)
  rw [hc] at CC
  have HB := Lib.hid hb
  have c0 : w.cell? ⟨g, 0, none⟩ = some (.int .i64 2) := hb.2.1 0
  have c1 : w.cell? ⟨g, 1, none⟩ = some (.string row) := hb.2.1 1
  have c2 : w.cell? ⟨g, 2, none⟩ = some (.string ⟨#[]⟩) := hb.2.1 2
  have c3 : w.cell? ⟨g, 3, none⟩ = some (.bool false) := hb.2.1 3
  have f0 : w.frozen? ⟨g, 0, none⟩ = false := hb.2.2 0
  have f1 : w.frozen? ⟨g, 1, none⟩ = false := hb.2.2 1
  have f2 : w.frozen? ⟨g, 2, none⟩ = false := hb.2.2 2
  have f3 : w.frozen? ⟨g, 3, none⟩ = false := hb.2.2 3
  have hgs := hb.1
  have hq1 : (row.toList == []) = false := ba_noL hr
  have hq2 : (row.toList != []) = true := by simp [bne, hq1]
  clear hb hc
  go_enter Try.func24, Try.ntmps24
  go_upto_region 9 with (go_at_call 25; refine (CC.out _).mono ?_; rintro e _ ⟨rfl, rfl⟩)
  refine at_world (fun Z => Blk Z g (rC 0 ⟨#[]⟩ ⟨#[]⟩ false) ∧ But g w Z) ⟨blk4_set1 (blk4_set0 HB.out 0) ⟨#[]⟩, ((But.refl g w).set 0 _).set 1 _⟩ ?_
  intro Y hY
  have VY := Lib.hid hY
  clear hY c0 c1 c2 c3 f0 f1 f2 f3
  go_wp2_with fail
  refine at_world (fun Z => KyW Z (.slice (some ⟨Y.heap.size, 0, none⟩) 1 1) [⟨5, 0, false, []⟩] ∧ Blk Z g (rC 0 ⟨#[]⟩ ⟨#[]⟩ false) ∧ But g w Z) ⟨kyW_new1 Y _ 5 0 false, VY.out.1.alloc _, VY.out.2.later (belAlloc _ _)⟩ ?_
  intro Z hZ
  have VZ := Lib.hid hZ
  clear hZ
  go_ret
  exact ⟨_, 1, 1, rfl, VZ.out.2.1, VZ.out.1, rfl, VZ.out.2.2⟩

set_option maxHeartbeats 4000000 in
theorem rrow_letter (row : ByteArray) (g : Nat) (b : Int) (b0 : 0 ≤ b) (b1 : b ≤ 255) (hc : ctlB b = false) (hg : ¬ 127 < b) (h64 : ¬ b < 64) (hb126 : (b == 126) = false) (hr : row = ⟨#[]⟩) (w : World) (hb : Blk w g (rC 2 row ⟨#[]⟩ false)) : Calls Try.prog 24 #[.pointer (some ⟨g, 0, none⟩), .int .u8 b] w (TellsR (KS.zero, [namedK (letteredK b)]) g w) := by
  have CC := Lib.hid (fun X => rcontrol_any b X)
  rw [hc] at CC
  have HB := Lib.hid hb
  have c0 : w.cell? ⟨g, 0, none⟩ = some (.int .i64 2) := hb.2.1 0
  have c1 : w.cell? ⟨g, 1, none⟩ = some (.string row) := hb.2.1 1
  have c2 : w.cell? ⟨g, 2, none⟩ = some (.string ⟨#[]⟩) := hb.2.1 2
  have c3 : w.cell? ⟨g, 3, none⟩ = some (.bool false) := hb.2.1 3
  have f0 : w.frozen? ⟨g, 0, none⟩ = false := hb.2.2 0
  have f1 : w.frozen? ⟨g, 1, none⟩ = false := hb.2.2 1
  have f2 : w.frozen? ⟨g, 2, none⟩ = false := hb.2.2 2
  have f3 : w.frozen? ⟨g, 3, none⟩ = false := hb.2.2 3
  have hgs := hb.1
  subst hr
  have hq1 : ((⟨#[]⟩ : ByteArray).toList != []) = false := by decide +kernel
  clear hb hc
  go_enter Try.func24, Try.ntmps24
  go_upto_region 9 with (go_at_call 25; refine (CC.out _).mono ?_; rintro e _ ⟨rfl, rfl⟩)
  refine at_world (fun Z => Blk Z g (rC 0 ⟨#[]⟩ ⟨#[]⟩ false) ∧ But g w Z) ⟨blk4_set1 (blk4_set0 HB.out 0) ⟨#[]⟩, ((But.refl g w).set 0 _).set 1 _⟩ ?_
  intro Y hY
  have VY := Lib.hid hY
  clear hY c0 c1 c2 c3 f0 f1 f2 f3
  have CN := Lib.hid (fun X => rletter_any b b0 b1 X)
  obtain ⟨⟨kk, kr, km, kt⟩, hky⟩ : ∃ y, namedK (letteredK b) = y := ⟨_, rfl⟩
  have hkm : km = false ∧ kt = [] := by
    have : (namedK (letteredK b)).m = false ∧ (namedK (letteredK b)).t = [] := by unfold namedK; split <;> exact ⟨rfl, rfl⟩
    rw [hky] at this
    exact this
  obtain ⟨rfl, rfl⟩ := hkm
  rw [hky] at CN
  have HKY := Lib.hid hky
  clear hky
  go_wp2_with (go_at_call 27; refine (CN.out _).mono ?_; rintro e w3 ⟨rfl, b3⟩; have V3 := Lib.hid (And.intro (VY.out.1.later b3 VY.out.1.1) (VY.out.2.later b3)); clear b3)
  refine at_world (fun Z => KyW Z (.slice (some ⟨w3.heap.size, 0, none⟩) 1 1) [⟨kk, kr, false, []⟩] ∧ Blk Z g (rC 0 ⟨#[]⟩ ⟨#[]⟩ false) ∧ But g w Z) ⟨kyW_new1 w3 _ kk kr false, V3.out.1.alloc _, V3.out.2.later (belAlloc _ _)⟩ ?_
  intro Z hZ
  have VZ := Lib.hid hZ
  clear hZ
  go_ret
  exact ⟨_, 1, 1, rfl, VZ.out.2.1, by rw [show namedK (letteredK b) = _ from HKY.out]; exact VZ.out.1, rfl, VZ.out.2.2⟩

theorem rrow_any (row : ByteArray) (g : Nat) (b : Int) (b0 : 0 ≤ b) (b1 : b ≤ 255) (h16 : row.size ≤ 16) (w : World) (hb : Blk w g (rC 2 row ⟨#[]⟩ false)) : Calls Try.prog 24 #[.pointer (some ⟨g, 0, none⟩), .int .u8 b] w (TellsR (inRowK row b) g w) := by
  unfold inRowK
  by_cases hc : ctlB b = true
  · rw [if_pos (by simp [hc])]; exact rrow_odd1 row g b b0 b1 hc w hb
  have hc' : ctlB b = false := by simpa using hc
  by_cases hg : 127 < b
  · rw [if_pos (by simp [hg])]; exact rrow_odd2 row g b b0 b1 hc' hg w hb
  rw [if_neg (by simp [hc', hg])]
  by_cases h1 : b < 64 ∧ row.size < 16
  · rw [if_pos h1]; exact rrow_push row g b b0 b1 hc' hg h1.1 h1.2 w hb
  rw [if_neg h1]
  by_cases h64 : b < 64
  · have h2 : ¬ row.size < 16 := fun h => h1 ⟨h64, h⟩
    have h3 : ¬ b = 126 := by omega
    have h4 : ¬ row = ⟨#[]⟩ := by rintro rfl; exact h2 (by decide)
    rw [if_neg (fun h => h3 h.1), if_neg h3, if_neg h4]
    exact rrow_full row g b b0 b1 hc' hg h64 h2 w hb
  by_cases h3 : b = 126
  · by_cases h4 : row = ⟨#[50, 48, 48]⟩
    · rw [if_pos ⟨h3, h4⟩]; subst h3 h4; exact rrow_paste g w hb
    · rw [if_neg (fun h => h4 h.2), if_pos h3]; exact rrow_num row g b b0 b1 hc' hg h3 h4 h16 w hb
  rw [if_neg (fun h => h3 h.1), if_neg h3]
  by_cases h4 : row = ⟨#[]⟩
  · rw [if_pos h4]; exact rrow_letter row g b b0 b1 hc' hg h64 (by simpa using h3) h4 w hb
  · rw [if_neg h4]; exact rrow_none row g b b0 b1 hc' hg h64 (by simpa using h3) h4 w hb
end Go.Proofs.Ytkkenabckhmkoaa

/- keys: pasted, Tick, Feed. -/
namespace Go.Proofs.Ytkkenabckhmkoaa
open Go.RowKit
set_option linter.unusedVariables false
set_option linter.unusedSimpArgs false
set_option maxRecDepth 100000

theorem kyW_txt1 (w : World) (t : TypeId) {A : Option Addr} {n c : Nat} {l : List Int} (h : Rd w A n (li l)) (hn : n = l.length) : KyW (w.alloc (.cells #[.int .i64 4, .int .i32 0, .bool false, .slice A n c] t)) (.slice (some ⟨w.heap.size, 0, none⟩) 1 1) [⟨4, 0, false, l⟩] :=
  ⟨[⟨4, 0, false, A, n, c⟩], (key_newT w ⟨4, 0, false, A, n, c⟩ t).mono fun _ _ => trivial, keysW_one ⟨rfl, rfl, rfl, hn, h.later (belAlloc _ _)⟩⟩
theorem str_len (t : List Int) : (strOfNums t).size = t.length := strOfNums_size t
theorem pst_str {t : List Int} {b : Int} (ht : ∀ x ∈ t, 0 ≤ x ∧ x ≤ 255) (b0 : 0 ≤ b) (b1 : b ≤ 255) : strOfNums t ++ ⟨#[UInt8.ofNat b.toNat]⟩ = strOfNums (t ++ [b]) := by
  rw [← str_bts (strOfNums t ++ _), push_bts _ _ b0 b1, bts_str _ ht]
/-- The paste with the new byte. -/
structure PsT (t : List Int) (b : Int) (S : ByteArray) : Prop where
  bt : bts S = t ++ [b]
  s : S = strOfNums (t ++ [b])
  z : S.size = t.length + 1

set_option maxHeartbeats 4000000 in
theorem rpst_more (t : List Int) (g : Nat) (b : Int) (b0 : 0 ≤ b) (b1 : b ≤ 255) (ht : ∀ x ∈ t, 0 ≤ x ∧ x ≤ 255) (hl : t.length ≤ 100000) (hcl : closesK (clP t) b < 6) (hp : PInv t) (w : World) (hb : Blk w g (rC 4 (strOfNums t) ⟨#[]⟩ false)) :
    Calls Try.prog 28 #[.pointer (some ⟨g, 0, none⟩), .int .u8 b] w (TellsR (⟨4, DS.zero, false, ⟨#[]⟩, b :: t.reverse, closesK (clP t) b⟩, []) g w) := by
  have hiff := paste_iff t hp b
  have hrow : rowS ⟨4, DS.zero, false, ⟨#[]⟩, b :: t.reverse, closesK (clP t) b⟩ = strOfNums (t ++ [b]) := by unfold rowS; rw [if_pos rfl]; simp
  obtain ⟨S0, hS0⟩ : ∃ S0, strOfNums t = S0 := ⟨_, rfl⟩
  have hz0 : S0.size = t.length := by rw [← hS0, str_len]
  obtain ⟨S, hS⟩ : ∃ S, S0 ++ ⟨#[UInt8.ofNat b.toNat]⟩ = S := ⟨_, rfl⟩
  have hPT : PsT t b S := by
    rw [← hS, ← hS0]
    refine ⟨?_, pst_str ht b0 b1, ?_⟩
    · rw [push_bts _ _ b0 b1, bts_str _ ht]
    · rw [pst_str ht b0 b1, str_len]; simp
  have HPT := Lib.hid (And.intro hPT hrow)
  have hsz := hPT.z
  have hne : 6 ≤ S.size → ((S.extract (S.size - 6) S.size).toList == [27, 91, 50, 48, 49, 126]) = false := by
    intro h6
    refine ba_noL (l := [27, 91, 50, 48, 49, 126]) (fun e => ?_)
    have e2 : bts (S.extract (S.size - 6) S.size) = pasteEnd := by rw [e]; rfl
    rw [bts_tail, hPT.bt] at e2
    have hlen : S.size = (t ++ [b]).length := by rw [hsz]; simp
    rw [hlen] at e2 h6
    exact (hiff.2 ⟨h6, e2⟩) hcl
  rw [hS0] at hb
  have HB := Lib.hid hb
  have c0 : w.cell? ⟨g, 0, none⟩ = some (.int .i64 4) := hb.2.1 0
  have c1 : w.cell? ⟨g, 1, none⟩ = some (.string S0) := hb.2.1 1
  have c2 : w.cell? ⟨g, 2, none⟩ = some (.string ⟨#[]⟩) := hb.2.1 2
  have c3 : w.cell? ⟨g, 3, none⟩ = some (.bool false) := hb.2.1 3
  have f0 : w.frozen? ⟨g, 0, none⟩ = false := hb.2.2 0
  have f1 : w.frozen? ⟨g, 1, none⟩ = false := hb.2.2 1
  have f2 : w.frozen? ⟨g, 2, none⟩ = false := hb.2.2 2
  have f3 : w.frozen? ⟨g, 3, none⟩ = false := hb.2.2 3
  have hgs := hb.1
  have hc1 := row_convD w b
  have hc2 := fun X => row_cat X S0 ⟨#[UInt8.ofNat b.toNat]⟩ (by show S0.size + 1 ≤ _; omega)
  rw [hS] at hc2
  clear hb hiff hPT hrow hS hS0 hp hcl ht hz0
  go_enter Try.func28, Try.ntmps28
  go_upto_region 1 with fail
  go_region
  refine at_world (fun Z => Blk Z g (rC 4 S ⟨#[]⟩ false) ∧ But g w Z) ?_ ?_
  · first
      | exact ⟨blk4_set1 ((HB.out.alloc _).drew) _, ((But.of (belAlloc _ _)).drew).set 1 _⟩
      | exact ⟨((blk4_set1 HB.out _).alloc _).drew, (((But.refl g w).set 1 _).later (belAlloc _ _)).drew⟩
      | exact ⟨((blk4_set1 HB.out.drew _).alloc _), (((But.refl g w).drew.set 1 _).later (belAlloc _ _))⟩
  intro Y hY
  have VY := Lib.hid hY
  clear hY c0 c1 c2 c3 f0 f1 f2 f3 hc1 hc2 HB
  have c0 : Y.cell? ⟨g, 0, none⟩ = some (.int .i64 4) := VY.out.1.2.1 0
  have c1 : Y.cell? ⟨g, 1, none⟩ = some (.string S) := VY.out.1.2.1 1
  have c2 : Y.cell? ⟨g, 2, none⟩ = some (.string ⟨#[]⟩) := VY.out.1.2.1 2
  have c3 : Y.cell? ⟨g, 3, none⟩ = some (.bool false) := VY.out.1.2.1 3
  have f0 : Y.frozen? ⟨g, 0, none⟩ = false := VY.out.1.2.2 0
  have f1 : Y.frozen? ⟨g, 1, none⟩ = false := VY.out.1.2.2 1
  have f2 : Y.frozen? ⟨g, 2, none⟩ = false := VY.out.1.2.2 2
  have f3 : Y.frozen? ⟨g, 3, none⟩ = false := VY.out.1.2.2 3
  clear c0 c2 c3 f0 f1 f2 f3
  by_cases h6 : S.size < 6
  · have d1 : (S.size : Int) - 6 < 0 := by omega
    clear hsz hne
    go_wp2_with fail
    go_ret
    exact ⟨none, 0, 0, rfl, by rw [HPT.out.2, ← HPT.out.1.s]; exact VY.out.1, kyW_nil _, rfl, VY.out.2⟩
  · have hk := hne (by omega)
    obtain ⟨k, hkk⟩ : ∃ k, S.size - 6 = k := ⟨_, rfl⟩
    rw [hkk] at hk
    have hk2 : ((S.extract k S.size).toList != [27, 91, 50, 48, 49, 126]) = true := by simp [bne, hk]
    have d1 : (S.size : Int) - 6 = (k : Int) := by omega
    have d2 : ¬ (k : Int) < 0 := by omega
    have d3 : k ≤ S.size := by omega
    have d4 : k ≤ 200000 := by omega
    clear hsz hne
    go_wp2_with fail
    go_ret
    exact ⟨none, 0, 0, rfl, by rw [HPT.out.2, ← HPT.out.1.s]; exact VY.out.1, kyW_nil _, rfl, VY.out.2⟩

set_option maxHeartbeats 4000000 in
theorem rpst_end (t : List Int) (g : Nat) (b : Int) (b0 : 0 ≤ b) (b1 : b ≤ 255) (ht : ∀ x ∈ t, 0 ≤ x ∧ x ≤ 255) (hl : t.length ≤ 100000) (hcl : ¬ closesK (clP t) b < 6) (hp : PInv t) (w : World) (hb : Blk w g (rC 4 (strOfNums t) ⟨#[]⟩ false)) :
    Calls Try.prog 28 #[.pointer (some ⟨g, 0, none⟩), .int .u8 b] w (TellsR (KS.zero, [⟨4, 0, false, decD ((t ++ [b]).take ((t ++ [b]).length - 6))⟩]) g w) := by
  have hiff := (paste_iff t hp b).1 hcl
  obtain ⟨S0, hS0⟩ : ∃ S0, strOfNums t = S0 := ⟨_, rfl⟩
  have hz0 : S0.size = t.length := by rw [← hS0, str_len]
  obtain ⟨S, hS⟩ : ∃ S, S0 ++ ⟨#[UInt8.ofNat b.toNat]⟩ = S := ⟨_, rfl⟩
  have hPT : PsT t b S := by
    rw [← hS, ← hS0]
    refine ⟨?_, pst_str ht b0 b1, ?_⟩
    · rw [push_bts _ _ b0 b1, bts_str _ ht]
    · rw [pst_str ht b0 b1, str_len]; simp
  have hsz := hPT.z
  have hlen : S.size = (t ++ [b]).length := by rw [hsz]; simp
  obtain ⟨k, hkk⟩ : ∃ k, S.size - 6 = k := ⟨_, rfl⟩
  have h6 : 6 ≤ S.size := by rw [hlen]; exact hiff.1
  have hk : ((S.extract k S.size).toList == [27, 91, 50, 48, 49, 126]) = true := by
    have e2 : bts (S.extract k S.size) = pasteEnd := by rw [bts_tail, hPT.bt, ← hkk, hlen]; exact hiff.2
    have e3 : S.extract k S.size = strOfNums pasteEnd := by rw [← e2, str_bts]
    rw [e3]
    decide +kernel
  have hk2 : ((S.extract k S.size).toList != [27, 91, 50, 48, 49, 126]) = false := by simp [bne, hk]
  obtain ⟨L, hL⟩ : ∃ L, decD ((t ++ [b]).take ((t ++ [b]).length - 6)) = L := ⟨_, rfl⟩
  rw [hL]
  have hdec : decD (bts (S.extract 0 k)) = L := by rw [ext_bts, hPT.bt, ← hkk, hlen, hL]
  have hdl := decD_len (S.extract 0 k)
  rw [hdec, ByteArray.size_extract] at hdl
  obtain ⟨ln, hln⟩ : ∃ ln, L.length = ln := ⟨_, rfl⟩
  have CD := Lib.hid (fun Z => refdec_is (S.extract 0 k) L ln (by rw [ByteArray.size_extract]; omega) hdec hln Z)
  have HLN := Lib.hid hln.symm
  rw [hS0] at hb
  have HB := Lib.hid hb
  have c0 : w.cell? ⟨g, 0, none⟩ = some (.int .i64 4) := hb.2.1 0
  have c1 : w.cell? ⟨g, 1, none⟩ = some (.string S0) := hb.2.1 1
  have c2 : w.cell? ⟨g, 2, none⟩ = some (.string ⟨#[]⟩) := hb.2.1 2
  have c3 : w.cell? ⟨g, 3, none⟩ = some (.bool false) := hb.2.1 3
  have f0 : w.frozen? ⟨g, 0, none⟩ = false := hb.2.2 0
  have f1 : w.frozen? ⟨g, 1, none⟩ = false := hb.2.2 1
  have f2 : w.frozen? ⟨g, 2, none⟩ = false := hb.2.2 2
  have f3 : w.frozen? ⟨g, 3, none⟩ = false := hb.2.2 3
  have hgs := hb.1
  have hc1 := row_convD w b
  have hc2 := fun X => row_cat X S0 ⟨#[UInt8.ofNat b.toNat]⟩ (by show S0.size + 1 ≤ _; omega)
  rw [hS] at hc2
  have d1 : (S.size : Int) - 6 = (k : Int) := by omega
  have d2 : ¬ (k : Int) < 0 := by omega
  have d3 : k ≤ S.size := by omega
  have hS9 : S.size ≤ 200000 := by omega
  have d4 : k ≤ 200000 := by omega
  clear hb hiff hPT hS hS0 hp hcl ht hz0 hlen hsz hkk h6 hdec hdl hln hk2 hL
  go_enter Try.func28, Try.ntmps28
  go_upto_region 1 with fail
  go_region
  refine at_world (fun Z => Blk Z g (rC 4 S ⟨#[]⟩ false) ∧ But g w Z) ?_ ?_
  · first
      | exact ⟨blk4_set1 ((HB.out.alloc _).drew) _, ((But.of (belAlloc _ _)).drew).set 1 _⟩
      | exact ⟨((blk4_set1 HB.out _).alloc _).drew, (((But.refl g w).set 1 _).later (belAlloc _ _)).drew⟩
      | exact ⟨((blk4_set1 HB.out.drew _).alloc _), (((But.refl g w).drew.set 1 _).later (belAlloc _ _))⟩
  intro Y hY
  have VY := Lib.hid hY
  clear hY c0 c1 c2 c3 f0 f1 f2 f3 hc1 hc2 HB
  have c0 : Y.cell? ⟨g, 0, none⟩ = some (.int .i64 4) := VY.out.1.2.1 0
  have c1 : Y.cell? ⟨g, 1, none⟩ = some (.string S) := VY.out.1.2.1 1
  have c2 : Y.cell? ⟨g, 2, none⟩ = some (.string ⟨#[]⟩) := VY.out.1.2.1 2
  have c3 : Y.cell? ⟨g, 3, none⟩ = some (.bool false) := VY.out.1.2.1 3
  have f0 : Y.frozen? ⟨g, 0, none⟩ = false := VY.out.1.2.2 0
  have f1 : Y.frozen? ⟨g, 1, none⟩ = false := VY.out.1.2.2 1
  have f2 : Y.frozen? ⟨g, 2, none⟩ = false := VY.out.1.2.2 2
  have f3 : Y.frozen? ⟨g, 3, none⟩ = false := VY.out.1.2.2 3
  clear c0 c2 c3 f0 f1 f2 f3
  go_upto_region 6 with (go_at_call 17; refine (CD.out _).mono ?_; rintro e w3 ⟨A3, c3_, rfl, r3, b3⟩; have V3 := Lib.hid (And.intro (VY.out.1.later b3 VY.out.1.1) (And.intro (VY.out.2.later b3) r3)); clear r3 b3)
  refine at_world (fun Z => KyW Z (.slice (some ⟨w3.heap.size, 0, none⟩) 1 1) [⟨4, 0, false, L⟩] ∧ Blk Z g (rC 4 S ⟨#[]⟩ false) ∧ But g w Z) ⟨kyW_txt1 w3 _ V3.out.2.2 HLN.out, V3.out.1.alloc _, V3.out.2.1.later (belAlloc _ _)⟩ ?_
  intro X hX
  have VX := Lib.hid hX
  clear hX c1 d1 d2 d3 hk V3
  have c0 : X.cell? ⟨g, 0, none⟩ = some (.int .i64 4) := VX.out.2.1.2.1 0
  have c1 : X.cell? ⟨g, 1, none⟩ = some (.string S) := VX.out.2.1.2.1 1
  have c2 : X.cell? ⟨g, 2, none⟩ = some (.string ⟨#[]⟩) := VX.out.2.1.2.1 2
  have c3 : X.cell? ⟨g, 3, none⟩ = some (.bool false) := VX.out.2.1.2.1 3
  have f0 : X.frozen? ⟨g, 0, none⟩ = false := VX.out.2.1.2.2 0
  have f1 : X.frozen? ⟨g, 1, none⟩ = false := VX.out.2.1.2.2 1
  have f2 : X.frozen? ⟨g, 2, none⟩ = false := VX.out.2.1.2.2 2
  have f3 : X.frozen? ⟨g, 3, none⟩ = false := VX.out.2.1.2.2 3
  go_wp2_with fail
  refine at_world (fun Z => KyW Z (.slice (some ⟨w3.heap.size, 0, none⟩) 1 1) [⟨4, 0, false, L⟩] ∧ Blk Z g (rC 0 ⟨#[]⟩ ⟨#[]⟩ false) ∧ But g w Z) ⟨kyW_but VX.out.1 VX.out.2.1 (((But.refl g X).set 0 _).set 1 _), blk4_set1 (blk4_set0 VX.out.2.1 0) ⟨#[]⟩, (VX.out.2.2.set 0 _).set 1 _⟩ ?_
  intro Z hZ
  have VZ := Lib.hid hZ
  clear hZ c0 c1 c2 c3 f0 f1 f2 f3
  go_ret
  exact ⟨_, 1, 1, rfl, VZ.out.2.1, VZ.out.1, rfl, VZ.out.2.2⟩

theorem rpasted_any (tx : List Int) (cl : Nat) (g : Nat) (b : Int) (b0 : 0 ≤ b) (b1 : b ≤ 255) (ht : ∀ x ∈ tx, 0 ≤ x ∧ x ≤ 255) (hl : tx.length ≤ 100000) (hc : cl = clP tx.reverse) (hp : PInv tx.reverse) (w : World) (hb : Blk w g (rC 4 (strOfNums tx.reverse) ⟨#[]⟩ false)) :
    Calls Try.prog 28 #[.pointer (some ⟨g, 0, none⟩), .int .u8 b] w (TellsR (inPasteK tx cl b) g w) := by
  unfold inPasteK
  subst hc
  by_cases h : closesK (clP tx.reverse) b < 6
  · rw [if_pos h]
    have := rpst_more tx.reverse g b b0 b1 (fun x hx => ht x (List.mem_reverse.1 hx)) (by simpa using hl) h hp w hb
    rw [List.reverse_reverse] at this
    exact this
  · rw [if_neg h]
    have := rpst_end tx.reverse g b b0 b1 (fun x hx => ht x (List.mem_reverse.1 hx)) (by simpa using hl) h hp w hb
    have e : (b :: tx).reverse.take ((b :: tx).length - 6) = (tx.reverse ++ [b]).take ((tx.reverse ++ [b]).length - 6) := by simp
    rw [e]
    exact this
end Go.Proofs.Ytkkenabckhmkoaa

/- keys: the reference's Tick and Feed. -/
namespace Go.Proofs.Ytkkenabckhmkoaa
open Go.RowKit
set_option linter.unusedVariables false
set_option linter.unusedSimpArgs false
set_option maxRecDepth 100000

/-- The parsers that there are, more closely. -/
def Good (s : KS) : Prop := s.Ok ∧ s.d.At ∧ (s.w = 4 → PInv s.tx.reverse ∧ s.cl = clP s.tx.reverse)
def rOf (s : KS) : Array Value := rC s.w (rowS s) (waitS s.d) s.m
theorem good_zero : Good KS.zero := ⟨ok_zero, at_zero, fun h => by simp [KS.zero] at h⟩
theorem good_alone (d : DS) (hd : d.At) (m : Bool) (b : Int) (b0 : 0 ≤ b) (b1 : b ≤ 255) : Good (aloneK d m b).1 := by
  refine ⟨ok_alone d hd.1 m b b0 b1, ?_, ?_⟩
  · unfold aloneK
    split
    · split
      · exact at_zero
      · exact at_zero
    · exact step_at d hd b b0 b1
  · unfold aloneK
    split
    · split
      · intro h; simp [KS.at] at h
      · intro h; simp [KS.zero] at h
    · intro h; simp [decodeK] at h
theorem good_feed (s : KS) (hg : Good s) (b : Int) (b0 : 0 ≤ b) (b1 : b ≤ 255) (hlen : s.tx.length < 100000) : Good (feedK s b).1 := by
  have hok := ok_feed s hg.1 b b0 b1 hlen
  obtain ⟨⟨hd, h | h | h | h | h⟩, hat, hp⟩ := hg
  · unfold feedK
    rw [h.1, if_neg (by decide), if_neg (by decide), if_neg (by decide), if_neg (by decide)]
    exact good_alone _ hat _ b b0 b1
  · subst h
    refine ⟨hok, ?_, ?_⟩
    · show (escapedK b).1.d.At
      unfold escapedK
      split
      · exact at_zero
      split
      · exact at_zero
      split
      · exact at_zero
      split
      · exact at_zero
      · exact step_at _ at_zero b b0 b1
    · show (escapedK b).1.w = 4 → _
      unfold escapedK
      split
      · intro h; simp [KS.at] at h
      split
      · intro h; simp [KS.at] at h
      split
      · intro h; simp [KS.at] at h
      split
      · intro h; simp [KS.zero] at h
      · intro h; simp [decodeK] at h
  · obtain ⟨r, rfl, _⟩ := h
    show Good (inRowK r b).1
    unfold inRowK
    split
    · exact good_alone _ at_zero _ b b0 b1
    split
    · rename_i h
      exact ⟨⟨zero_ok, .inr (.inr (.inl ⟨_, rfl, by rw [ByteArray.size_push]; omega⟩))⟩, at_zero, fun h => by simp at h⟩
    split
    · exact ⟨ok_4, at_zero, fun _ => ⟨pinv_nil, rfl⟩⟩
    split
    · exact good_zero
    split
    · exact good_zero
    · exact good_zero
  · subst h
    show Good (asLetterK b).1
    unfold asLetterK
    split
    · exact good_alone _ at_zero _ b b0 b1
    · exact good_zero
  · obtain ⟨tx, cl, rfl, h1, h2, h3, h4⟩ := h
    obtain ⟨hp1, hp2⟩ := hp rfl
    dsimp only at hp1 hp2
    refine ⟨hok, ?_, ?_⟩
    · show (inPasteK tx cl b).1.d.At
      unfold inPasteK
      split <;> exact at_zero
    · show (inPasteK tx cl b).1.w = 4 → _
      intro _
      show PInv (inPasteK tx cl b).1.tx.reverse ∧ _
      by_cases hc : closesK cl b < 6
      · have e : inPasteK tx cl b = (⟨4, DS.zero, false, ⟨#[]⟩, b :: tx, closesK cl b⟩, []) := by unfold inPasteK; rw [if_pos hc]
        have e2 : (feedK ⟨4, DS.zero, false, ⟨#[]⟩, tx, cl⟩ b).1 = (inPasteK tx cl b).1 := rfl
        rw [e2, e]
        dsimp only
        rw [List.reverse_cons, clP_snoc, ← hp2]
        exact ⟨pinv_snoc hp1 (by rw [← hp2]; exact hc), rfl⟩
      · have e : (inPasteK tx cl b).1 = KS.zero := by unfold inPasteK; rw [if_neg hc]
        have e2 : (feedK ⟨4, DS.zero, false, ⟨#[]⟩, tx, cl⟩ b).1 = (inPasteK tx cl b).1 := rfl
        rw [e2, e]
        exact ⟨pinv_nil, rfl⟩
theorem good_tick (s : KS) (hg : Good s) : Good (tickK s).1 := by
  unfold tickK
  split
  · exact hg
  split
  · exact good_zero
  split
  · exact good_zero
  · exact good_zero

set_option maxHeartbeats 4000000 in
theorem rtick_1  (g : Nat) (w : World) (hb : Blk w g (rC 1 ⟨#[]⟩ ⟨#[]⟩ false)) : Calls Try.prog 10 #[.pointer (some ⟨g, 0, none⟩)] w (TellsR (KS.zero, [⟨2, 27, false, []⟩]) g w) := by
  have HB := Lib.hid hb
  have c0 : w.cell? ⟨g, 0, none⟩ = some (.int .i64 1) := hb.2.1 0
  have c1 : w.cell? ⟨g, 1, none⟩ = some (.string ⟨#[]⟩) := hb.2.1 1
  have c2 : w.cell? ⟨g, 2, none⟩ = some (.string ⟨#[]⟩) := hb.2.1 2
  have c3 : w.cell? ⟨g, 3, none⟩ = some (.bool false) := hb.2.1 3
  have f0 : w.frozen? ⟨g, 0, none⟩ = false := hb.2.2 0
  have f1 : w.frozen? ⟨g, 1, none⟩ = false := hb.2.2 1
  have f2 : w.frozen? ⟨g, 2, none⟩ = false := hb.2.2 2
  have f3 : w.frozen? ⟨g, 3, none⟩ = false := hb.2.2 3
  have hgs := hb.1
  clear hb
  go_enter Try.func10, Try.ntmps10
  go_upto_region 6 with fail
  refine at_world (fun Z => Blk Z g (rC 0 ⟨#[]⟩ ⟨#[]⟩ false) ∧ But g w Z) ⟨blk4_set1 (blk4_set0 HB.out 0) ⟨#[]⟩, ((But.refl g w).set 0 _).set 1 _⟩ ?_
  intro Y hY
  have VY := Lib.hid hY
  clear hY c0 c1 c2 c3 f0 f1 f2 f3
  go_wp2_with fail
  refine at_world (fun Z => KyW Z (.slice (some ⟨Y.heap.size, 0, none⟩) 1 1) [⟨2, 27, false, []⟩] ∧ Blk Z g (rC 0 ⟨#[]⟩ ⟨#[]⟩ false) ∧ But g w Z) ⟨kyW_new1 Y _ 2 27 false, VY.out.1.alloc _, VY.out.2.later (belAlloc _ _)⟩ ?_
  intro Z hZ
  have VZ := Lib.hid hZ
  clear hZ
  go_ret
  exact ⟨_, 1, 1, rfl, VZ.out.2.1, VZ.out.1, rfl, VZ.out.2.2⟩

set_option maxHeartbeats 4000000 in
theorem rtick_2 (row : ByteArray) (g : Nat) (w : World) (hb : Blk w g (rC 2 row ⟨#[]⟩ false)) : Calls Try.prog 10 #[.pointer (some ⟨g, 0, none⟩)] w (TellsR (KS.zero, [⟨5, 0, false, []⟩]) g w) := by
  have HB := Lib.hid hb
  have c0 : w.cell? ⟨g, 0, none⟩ = some (.int .i64 2) := hb.2.1 0
  have c1 : w.cell? ⟨g, 1, none⟩ = some (.string row) := hb.2.1 1
  have c2 : w.cell? ⟨g, 2, none⟩ = some (.string ⟨#[]⟩) := hb.2.1 2
  have c3 : w.cell? ⟨g, 3, none⟩ = some (.bool false) := hb.2.1 3
  have f0 : w.frozen? ⟨g, 0, none⟩ = false := hb.2.2 0
  have f1 : w.frozen? ⟨g, 1, none⟩ = false := hb.2.2 1
  have f2 : w.frozen? ⟨g, 2, none⟩ = false := hb.2.2 2
  have f3 : w.frozen? ⟨g, 3, none⟩ = false := hb.2.2 3
  have hgs := hb.1
  clear hb
  go_enter Try.func10, Try.ntmps10
  go_upto_region 6 with fail
  refine at_world (fun Z => Blk Z g (rC 0 ⟨#[]⟩ ⟨#[]⟩ false) ∧ But g w Z) ⟨blk4_set1 (blk4_set0 HB.out 0) ⟨#[]⟩, ((But.refl g w).set 0 _).set 1 _⟩ ?_
  intro Y hY
  have VY := Lib.hid hY
  clear hY c0 c1 c2 c3 f0 f1 f2 f3
  go_wp2_with fail
  refine at_world (fun Z => KyW Z (.slice (some ⟨Y.heap.size, 0, none⟩) 1 1) [⟨5, 0, false, []⟩] ∧ Blk Z g (rC 0 ⟨#[]⟩ ⟨#[]⟩ false) ∧ But g w Z) ⟨kyW_new1 Y _ 5 0 false, VY.out.1.alloc _, VY.out.2.later (belAlloc _ _)⟩ ?_
  intro Z hZ
  have VZ := Lib.hid hZ
  clear hZ
  go_ret
  exact ⟨_, 1, 1, rfl, VZ.out.2.1, VZ.out.1, rfl, VZ.out.2.2⟩

set_option maxHeartbeats 4000000 in
theorem rtick_3  (g : Nat) (w : World) (hb : Blk w g (rC 3 ⟨#[]⟩ ⟨#[]⟩ false)) : Calls Try.prog 10 #[.pointer (some ⟨g, 0, none⟩)] w (TellsR (KS.zero, [⟨5, 0, false, []⟩]) g w) := by
  have HB := Lib.hid hb
  have c0 : w.cell? ⟨g, 0, none⟩ = some (.int .i64 3) := hb.2.1 0
  have c1 : w.cell? ⟨g, 1, none⟩ = some (.string ⟨#[]⟩) := hb.2.1 1
  have c2 : w.cell? ⟨g, 2, none⟩ = some (.string ⟨#[]⟩) := hb.2.1 2
  have c3 : w.cell? ⟨g, 3, none⟩ = some (.bool false) := hb.2.1 3
  have f0 : w.frozen? ⟨g, 0, none⟩ = false := hb.2.2 0
  have f1 : w.frozen? ⟨g, 1, none⟩ = false := hb.2.2 1
  have f2 : w.frozen? ⟨g, 2, none⟩ = false := hb.2.2 2
  have f3 : w.frozen? ⟨g, 3, none⟩ = false := hb.2.2 3
  have hgs := hb.1
  clear hb
  go_enter Try.func10, Try.ntmps10
  go_upto_region 6 with fail
  refine at_world (fun Z => Blk Z g (rC 0 ⟨#[]⟩ ⟨#[]⟩ false) ∧ But g w Z) ⟨blk4_set1 (blk4_set0 HB.out 0) ⟨#[]⟩, ((But.refl g w).set 0 _).set 1 _⟩ ?_
  intro Y hY
  have VY := Lib.hid hY
  clear hY c0 c1 c2 c3 f0 f1 f2 f3
  go_wp2_with fail
  refine at_world (fun Z => KyW Z (.slice (some ⟨Y.heap.size, 0, none⟩) 1 1) [⟨5, 0, false, []⟩] ∧ Blk Z g (rC 0 ⟨#[]⟩ ⟨#[]⟩ false) ∧ But g w Z) ⟨kyW_new1 Y _ 5 0 false, VY.out.1.alloc _, VY.out.2.later (belAlloc _ _)⟩ ?_
  intro Z hZ
  have VZ := Lib.hid hZ
  clear hZ
  go_ret
  exact ⟨_, 1, 1, rfl, VZ.out.2.1, VZ.out.1, rfl, VZ.out.2.2⟩

set_option maxHeartbeats 4000000 in
theorem rtick_4 (s : KS) (row : ByteArray) (hs : s.w = 4) (hd : waitS s.d = ⟨#[]⟩) (hm : s.m = false) (hr : rowS s = row) (g : Nat) (w : World) (hb : Blk w g (rC 4 row ⟨#[]⟩ false)) : Calls Try.prog 10 #[.pointer (some ⟨g, 0, none⟩)] w (TellsR (s, []) g w) := by
  have HB := Lib.hid (show Blk w g (rC s.w (rowS s) (waitS s.d) s.m) by rw [hs, hd, hm, hr]; exact hb)
  have c0 : w.cell? ⟨g, 0, none⟩ = some (.int .i64 4) := hb.2.1 0
  have c1 : w.cell? ⟨g, 1, none⟩ = some (.string row) := hb.2.1 1
  have c2 : w.cell? ⟨g, 2, none⟩ = some (.string ⟨#[]⟩) := hb.2.1 2
  have c3 : w.cell? ⟨g, 3, none⟩ = some (.bool false) := hb.2.1 3
  have f0 : w.frozen? ⟨g, 0, none⟩ = false := hb.2.2 0
  have f1 : w.frozen? ⟨g, 1, none⟩ = false := hb.2.2 1
  have f2 : w.frozen? ⟨g, 2, none⟩ = false := hb.2.2 2
  have f3 : w.frozen? ⟨g, 3, none⟩ = false := hb.2.2 3
  have hgs := hb.1
  clear hb hs hd hm hr
  go_enter Try.func10, Try.ntmps10
  go_wp2_with fail
  go_ret
  exact ⟨none, 0, 0, rfl, HB.out, kyW_nil _, rfl, But.refl _ _⟩

set_option maxHeartbeats 4000000 in
theorem rtick_0 (d : DS) (m : Bool) (hd : d.At) (g : Nat) (w : World) (hb : Blk w g (rC 0 ⟨#[]⟩ (waitS d) m)) : Calls Try.prog 10 #[.pointer (some ⟨g, 0, none⟩)] w (TellsR (KS.zero, charsK m (endD d)) g w) := by
  have HB := Lib.hid hb
  have c0 : w.cell? ⟨g, 0, none⟩ = some (.int .i64 0) := hb.2.1 0
  have c1 : w.cell? ⟨g, 1, none⟩ = some (.string ⟨#[]⟩) := hb.2.1 1
  have c2 : w.cell? ⟨g, 2, none⟩ = some (.string (waitS d)) := hb.2.1 2
  have c3 : w.cell? ⟨g, 3, none⟩ = some (.bool m) := hb.2.1 3
  have f0 : w.frozen? ⟨g, 0, none⟩ = false := hb.2.2 0
  have f1 : w.frozen? ⟨g, 1, none⟩ = false := hb.2.2 1
  have f2 : w.frozen? ⟨g, 2, none⟩ = false := hb.2.2 2
  have f3 : w.frozen? ⟨g, 3, none⟩ = false := hb.2.2 3
  have hgs := hb.1
  have CR := Lib.hid (fun (X : World) (h : Blk X g (rC 0 ⟨#[]⟩ (waitS d) m)) => rest_any 0 ⟨#[]⟩ d m g hd X h)
  clear hb
  go_enter Try.func10, Try.ntmps10
  go_upto_region 6 with fail
  refine at_world (fun Z => Blk Z g (rC 0 ⟨#[]⟩ (waitS d) m) ∧ But g w Z) ⟨blk4_set1 (blk4_set0 HB.out 0) ⟨#[]⟩, ((But.refl g w).set 0 _).set 1 _⟩ ?_
  intro Y hY
  have VY := Lib.hid hY
  clear hY c0 c1 c2 c3 f0 f1 f2 f3
  go_wp2_with (go_at_call 32; refine (CR.out _ VY.out.1).mono ?_; rintro e w1 ⟨A1, n1, c1_, rfl, k1, hb1, hB1⟩; have V1 := Lib.hid (And.intro (kyW_own k1) (And.intro hb1 (VY.out.2.trans hB1))); clear k1 hb1 hB1)
  go_ret
  exact ⟨A1, n1, c1_, rfl, V1.out.2.1, V1.out.1.1, V1.out.1.2, V1.out.2.2⟩

theorem rtick_any (s : KS) (hg : Good s) (g : Nat) (w : World) (hb : Blk w g (rOf s)) : Calls Try.prog 10 #[.pointer (some ⟨g, 0, none⟩)] w (TellsR (tickK s) g w) := by
  obtain ⟨⟨hd, h | h | h | h | h⟩, hat, hp⟩ := hg
  · obtain ⟨sw, d, m, srow, stx, scl⟩ := s
    obtain ⟨e1, e2, e3, e4⟩ := h
    dsimp only at e1 e2 e3 e4
    subst e1 e2 e3 e4
    exact rtick_0 d m hat g w hb
  · subst h
    exact rtick_1 g w hb
  · obtain ⟨r, rfl, _⟩ := h
    exact rtick_2 r g w hb
  · subst h
    exact rtick_3 g w hb
  · obtain ⟨tx, cl, rfl, _⟩ := h
    exact rtick_4 _ _ rfl rfl rfl rfl g w hb

set_option maxHeartbeats 4000000 in
theorem rfeed_0 (wt : ByteArray) (m : Bool) (b : Int) (b0 : 0 ≤ b) (b1 : b ≤ 255) (R : KS × List Ky) (g : Nat) (w : World) (hb : Blk w g (rC 0 ⟨#[]⟩ wt m)) (hc : ∀ X, w = X → Calls Try.prog 29 #[.pointer (some ⟨g, 0, none⟩), .int .u8 b] X (TellsR R g X)) : Calls Try.prog 8 #[.pointer (some ⟨g, 0, none⟩), .int .u8 b] w (TellsR R g w) := by
  have CF := Lib.hid hc
  have c0 : w.cell? ⟨g, 0, none⟩ = some (.int .i64 0) := hb.2.1 0
  have c1 : w.cell? ⟨g, 1, none⟩ = some (.string ⟨#[]⟩) := hb.2.1 1
  have c2 : w.cell? ⟨g, 2, none⟩ = some (.string wt) := hb.2.1 2
  have c3 : w.cell? ⟨g, 3, none⟩ = some (.bool m) := hb.2.1 3
  have f0 : w.frozen? ⟨g, 0, none⟩ = false := hb.2.2 0
  have f1 : w.frozen? ⟨g, 1, none⟩ = false := hb.2.2 1
  have f2 : w.frozen? ⟨g, 2, none⟩ = false := hb.2.2 2
  have f3 : w.frozen? ⟨g, 3, none⟩ = false := hb.2.2 3
  have hgs := hb.1
  clear hb hc
  go_enter Try.func8, Try.ntmps8
  go_wp2_with (go_at_call 29; refine (CF.out _ rfl).mono ?_; rintro e w1 ⟨A1, n1, c1_, rfl, hb1, hk1, hn1, hB1⟩; have V1 := Lib.hid (And.intro hb1 (And.intro hk1 (And.intro hn1 hB1))); clear hb1 hk1 hn1 hB1)
  go_ret
  exact ⟨A1, n1, c1_, rfl, V1.out.1, V1.out.2.1, V1.out.2.2.1, V1.out.2.2.2⟩

set_option maxHeartbeats 4000000 in
theorem rfeed_1  (b : Int) (b0 : 0 ≤ b) (b1 : b ≤ 255) (R : KS × List Ky) (g : Nat) (w : World) (hb : Blk w g (rC 1 ⟨#[]⟩ ⟨#[]⟩ false)) (hc : ∀ X, w = X → Calls Try.prog 23 #[.pointer (some ⟨g, 0, none⟩), .int .u8 b] X (TellsR R g X)) : Calls Try.prog 8 #[.pointer (some ⟨g, 0, none⟩), .int .u8 b] w (TellsR R g w) := by
  have CF := Lib.hid hc
  have c0 : w.cell? ⟨g, 0, none⟩ = some (.int .i64 1) := hb.2.1 0
  have c1 : w.cell? ⟨g, 1, none⟩ = some (.string ⟨#[]⟩) := hb.2.1 1
  have c2 : w.cell? ⟨g, 2, none⟩ = some (.string ⟨#[]⟩) := hb.2.1 2
  have c3 : w.cell? ⟨g, 3, none⟩ = some (.bool false) := hb.2.1 3
  have f0 : w.frozen? ⟨g, 0, none⟩ = false := hb.2.2 0
  have f1 : w.frozen? ⟨g, 1, none⟩ = false := hb.2.2 1
  have f2 : w.frozen? ⟨g, 2, none⟩ = false := hb.2.2 2
  have f3 : w.frozen? ⟨g, 3, none⟩ = false := hb.2.2 3
  have hgs := hb.1
  clear hb hc
  go_enter Try.func8, Try.ntmps8
  go_wp2_with (go_at_call 23; refine (CF.out _ rfl).mono ?_; rintro e w1 ⟨A1, n1, c1_, rfl, hb1, hk1, hn1, hB1⟩; have V1 := Lib.hid (And.intro hb1 (And.intro hk1 (And.intro hn1 hB1))); clear hb1 hk1 hn1 hB1)
  go_ret
  exact ⟨A1, n1, c1_, rfl, V1.out.1, V1.out.2.1, V1.out.2.2.1, V1.out.2.2.2⟩

set_option maxHeartbeats 4000000 in
theorem rfeed_2 (row : ByteArray) (b : Int) (b0 : 0 ≤ b) (b1 : b ≤ 255) (R : KS × List Ky) (g : Nat) (w : World) (hb : Blk w g (rC 2 row ⟨#[]⟩ false)) (hc : ∀ X, w = X → Calls Try.prog 24 #[.pointer (some ⟨g, 0, none⟩), .int .u8 b] X (TellsR R g X)) : Calls Try.prog 8 #[.pointer (some ⟨g, 0, none⟩), .int .u8 b] w (TellsR R g w) := by
  have CF := Lib.hid hc
  have c0 : w.cell? ⟨g, 0, none⟩ = some (.int .i64 2) := hb.2.1 0
  have c1 : w.cell? ⟨g, 1, none⟩ = some (.string row) := hb.2.1 1
  have c2 : w.cell? ⟨g, 2, none⟩ = some (.string ⟨#[]⟩) := hb.2.1 2
  have c3 : w.cell? ⟨g, 3, none⟩ = some (.bool false) := hb.2.1 3
  have f0 : w.frozen? ⟨g, 0, none⟩ = false := hb.2.2 0
  have f1 : w.frozen? ⟨g, 1, none⟩ = false := hb.2.2 1
  have f2 : w.frozen? ⟨g, 2, none⟩ = false := hb.2.2 2
  have f3 : w.frozen? ⟨g, 3, none⟩ = false := hb.2.2 3
  have hgs := hb.1
  clear hb hc
  go_enter Try.func8, Try.ntmps8
  go_wp2_with (go_at_call 24; refine (CF.out _ rfl).mono ?_; rintro e w1 ⟨A1, n1, c1_, rfl, hb1, hk1, hn1, hB1⟩; have V1 := Lib.hid (And.intro hb1 (And.intro hk1 (And.intro hn1 hB1))); clear hb1 hk1 hn1 hB1)
  go_ret
  exact ⟨A1, n1, c1_, rfl, V1.out.1, V1.out.2.1, V1.out.2.2.1, V1.out.2.2.2⟩

set_option maxHeartbeats 4000000 in
theorem rfeed_4 (row : ByteArray) (b : Int) (b0 : 0 ≤ b) (b1 : b ≤ 255) (R : KS × List Ky) (g : Nat) (w : World) (hb : Blk w g (rC 4 row ⟨#[]⟩ false)) (hc : ∀ X, w = X → Calls Try.prog 28 #[.pointer (some ⟨g, 0, none⟩), .int .u8 b] X (TellsR R g X)) : Calls Try.prog 8 #[.pointer (some ⟨g, 0, none⟩), .int .u8 b] w (TellsR R g w) := by
  have CF := Lib.hid hc
  have c0 : w.cell? ⟨g, 0, none⟩ = some (.int .i64 4) := hb.2.1 0
  have c1 : w.cell? ⟨g, 1, none⟩ = some (.string row) := hb.2.1 1
  have c2 : w.cell? ⟨g, 2, none⟩ = some (.string ⟨#[]⟩) := hb.2.1 2
  have c3 : w.cell? ⟨g, 3, none⟩ = some (.bool false) := hb.2.1 3
  have f0 : w.frozen? ⟨g, 0, none⟩ = false := hb.2.2 0
  have f1 : w.frozen? ⟨g, 1, none⟩ = false := hb.2.2 1
  have f2 : w.frozen? ⟨g, 2, none⟩ = false := hb.2.2 2
  have f3 : w.frozen? ⟨g, 3, none⟩ = false := hb.2.2 3
  have hgs := hb.1
  clear hb hc
  go_enter Try.func8, Try.ntmps8
  go_wp2_with (go_at_call 28; refine (CF.out _ rfl).mono ?_; rintro e w1 ⟨A1, n1, c1_, rfl, hb1, hk1, hn1, hB1⟩; have V1 := Lib.hid (And.intro hb1 (And.intro hk1 (And.intro hn1 hB1))); clear hb1 hk1 hn1 hB1)
  go_ret
  exact ⟨A1, n1, c1_, rfl, V1.out.1, V1.out.2.1, V1.out.2.2.1, V1.out.2.2.2⟩

set_option maxHeartbeats 4000000 in
theorem rfeed_3b (b : Int) (b0 : 0 ≤ b) (b1 : b ≤ 255) (cb : Bool) (hcb : ctlB b = cb) (hg : cb = true ∨ 127 < b) (g : Nat) (w : World) (hb : Blk w g (rC 3 ⟨#[]⟩ ⟨#[]⟩ false)) : Calls Try.prog 8 #[.pointer (some ⟨g, 0, none⟩), .int .u8 b] w (TellsR (oddK b) g w) := by
  have CC := Lib.hid (fun X => rcontrol_any b X)
  rw [hcb] at CC
  have CB := Lib.hid (fun (X : World) (h : w = X) => show Calls Try.prog 26 #[.pointer (some ⟨g, 0, none⟩), .int .u8 b] X (TellsR (oddK b) g X) from by subst h; exact rbroken_any 3 ⟨#[]⟩ g b b0 b1 w hb)
  obtain ⟨R, hR⟩ : ∃ R, oddK b = R := ⟨_, rfl⟩
  rw [hR] at CB ⊢
  have c0 : w.cell? ⟨g, 0, none⟩ = some (.int .i64 3) := hb.2.1 0
  have c1 : w.cell? ⟨g, 1, none⟩ = some (.string ⟨#[]⟩) := hb.2.1 1
  have c2 : w.cell? ⟨g, 2, none⟩ = some (.string ⟨#[]⟩) := hb.2.1 2
  have c3 : w.cell? ⟨g, 3, none⟩ = some (.bool false) := hb.2.1 3
  have f0 : w.frozen? ⟨g, 0, none⟩ = false := hb.2.2 0
  have f1 : w.frozen? ⟨g, 1, none⟩ = false := hb.2.2 1
  have f2 : w.frozen? ⟨g, 2, none⟩ = false := hb.2.2 2
  have f3 : w.frozen? ⟨g, 3, none⟩ = false := hb.2.2 3
  have hgs := hb.1
  clear hR hb hcb
  cases cb
  case true =>
    go_enter Try.func8, Try.ntmps8
    go_wp2_with (first
      | (go_at_call 25; refine (CC.out _).mono ?_; rintro e _ ⟨rfl, rfl⟩)
      | (go_at_call 26; refine (CB.out _ rfl).mono ?_; rintro e w1 ⟨A1, n1, c1_, rfl, hb1, hk1, hn1, hB1⟩; have V1 := Lib.hid (And.intro hb1 (And.intro hk1 (And.intro hn1 hB1))); clear hb1 hk1 hn1 hB1))
    go_ret
    exact ⟨A1, n1, c1_, rfl, V1.out.1, V1.out.2.1, V1.out.2.2.1, V1.out.2.2.2⟩
  case false =>
    have hg2 : 127 < b := by simpa using hg
    clear hg
    go_enter Try.func8, Try.ntmps8
    go_wp2_with (first
      | (go_at_call 25; refine (CC.out _).mono ?_; rintro e _ ⟨rfl, rfl⟩)
      | (go_at_call 26; refine (CB.out _ rfl).mono ?_; rintro e w1 ⟨A1, n1, c1_, rfl, hb1, hk1, hn1, hB1⟩; have V1 := Lib.hid (And.intro hb1 (And.intro hk1 (And.intro hn1 hB1))); clear hb1 hk1 hn1 hB1))
    go_ret
    exact ⟨A1, n1, c1_, rfl, V1.out.1, V1.out.2.1, V1.out.2.2.1, V1.out.2.2.2⟩

set_option maxHeartbeats 4000000 in
theorem rfeed_3l (b : Int) (b0 : 0 ≤ b) (b1 : b ≤ 255) (hc : ctlB b = false) (hg : ¬ 127 < b) (g : Nat) (w : World) (hb : Blk w g (rC 3 ⟨#[]⟩ ⟨#[]⟩ false)) : Calls Try.prog 8 #[.pointer (some ⟨g, 0, none⟩), .int .u8 b] w (TellsR (KS.zero, [namedK (letteredK b)]) g w) := by
  have CC := Lib.hid (fun X => rcontrol_any b X)
  rw [hc] at CC
  have HB := Lib.hid hb
  have c0 : w.cell? ⟨g, 0, none⟩ = some (.int .i64 3) := hb.2.1 0
  have c1 : w.cell? ⟨g, 1, none⟩ = some (.string ⟨#[]⟩) := hb.2.1 1
  have c2 : w.cell? ⟨g, 2, none⟩ = some (.string ⟨#[]⟩) := hb.2.1 2
  have c3 : w.cell? ⟨g, 3, none⟩ = some (.bool false) := hb.2.1 3
  have f0 : w.frozen? ⟨g, 0, none⟩ = false := hb.2.2 0
  have f1 : w.frozen? ⟨g, 1, none⟩ = false := hb.2.2 1
  have f2 : w.frozen? ⟨g, 2, none⟩ = false := hb.2.2 2
  have f3 : w.frozen? ⟨g, 3, none⟩ = false := hb.2.2 3
  have hgs := hb.1
  clear hb hc
  go_enter Try.func8, Try.ntmps8
  go_upto_region 10 with (go_at_call 25; refine (CC.out _).mono ?_; rintro e _ ⟨rfl, rfl⟩)
  refine at_world (fun Z => Blk Z g (rC 0 ⟨#[]⟩ ⟨#[]⟩ false) ∧ But g w Z) ⟨blk4_set0 HB.out 0, (But.refl g w).set 0 _⟩ ?_
  intro Y hY
  have VY := Lib.hid hY
  clear hY c0 c1 c2 c3 f0 f1 f2 f3
  have CN := Lib.hid (fun X => rletter_any b b0 b1 X)
  obtain ⟨⟨kk, kr, km, kt⟩, hky⟩ : ∃ y, namedK (letteredK b) = y := ⟨_, rfl⟩
  have hkm : km = false ∧ kt = [] := by
    have : (namedK (letteredK b)).m = false ∧ (namedK (letteredK b)).t = [] := by unfold namedK; split <;> exact ⟨rfl, rfl⟩
    rw [hky] at this
    exact this
  obtain ⟨rfl, rfl⟩ := hkm
  rw [hky] at CN
  have HKY := Lib.hid hky
  clear hky
  go_wp2_with (go_at_call 27; refine (CN.out _).mono ?_; rintro e w3 ⟨rfl, b3⟩; have V3 := Lib.hid (And.intro (VY.out.1.later b3 VY.out.1.1) (VY.out.2.later b3)); clear b3)
  refine at_world (fun Z => KyW Z (.slice (some ⟨w3.heap.size, 0, none⟩) 1 1) [⟨kk, kr, false, []⟩] ∧ Blk Z g (rC 0 ⟨#[]⟩ ⟨#[]⟩ false) ∧ But g w Z) ⟨kyW_new1 w3 _ kk kr false, V3.out.1.alloc _, V3.out.2.later (belAlloc _ _)⟩ ?_
  intro Z hZ
  have VZ := Lib.hid hZ
  clear hZ
  go_ret
  exact ⟨_, 1, 1, rfl, VZ.out.2.1, by rw [show namedK (letteredK b) = _ from HKY.out]; exact VZ.out.1, rfl, VZ.out.2.2⟩

theorem rfeed_any (s : KS) (hg : Good s) (b : Int) (b0 : 0 ≤ b) (b1 : b ≤ 255) (g : Nat) (w : World) (hb : Blk w g (rOf s)) : Calls Try.prog 8 #[.pointer (some ⟨g, 0, none⟩), .int .u8 b] w (TellsR (feedK s b) g w) := by
  obtain ⟨⟨hd, h | h | h | h | h⟩, hat, hp⟩ := hg
  · obtain ⟨sw, d, m, srow, stx, scl⟩ := s
    obtain ⟨e1, e2, e3, e4⟩ := h
    dsimp only at e1 e2 e3 e4
    subst e1 e2 e3 e4
    exact rfeed_0 (waitS d) m b b0 b1 _ g w hb (fun X h => by subst h; exact ralone_any d m g b b0 b1 hat w hb)
  · subst h
    exact rfeed_1 b b0 b1 _ g w hb (fun X h => by subst h; exact rescaped_any g b b0 b1 w hb)
  · obtain ⟨r, rfl, hr⟩ := h
    exact rfeed_2 r b b0 b1 _ g w hb (fun X h => by subst h; exact rrow_any r g b b0 b1 hr w hb)
  · subst h
    show Calls _ _ _ _ (TellsR (asLetterK b) g w)
    unfold asLetterK
    by_cases hc : ctlB b = true
    · rw [if_pos (by simp [hc])]
      exact rfeed_3b b b0 b1 _ rfl (.inl hc) g w hb
    have hc' : ctlB b = false := by simpa using hc
    by_cases hg : 127 < b
    · rw [if_pos (by simp [hg])]
      exact rfeed_3b b b0 b1 _ rfl (.inr hg) g w hb
    · rw [if_neg (by simp [hc', hg])]
      exact rfeed_3l b b0 b1 hc' hg g w hb
  · obtain ⟨tx, cl, rfl, h1, h2, h3, h4⟩ := h
    obtain ⟨hp1, hp2⟩ := hp rfl
    exact rfeed_4 _ b b0 b1 _ g w hb (fun X h => by subst h; exact rpasted_any tx cl g b b0 b1 h2 h4 hp2 hp1 w hb)
end Go.Proofs.Ytkkenabckhmkoaa

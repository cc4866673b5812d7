/- script: strings.Lines. -/
import Derived.Test.YtjkhkohlejkdlaaDoorScQ
import Derived.Test.YtjkhkohlejkdlaaDoorBoxS
import Derived.RangeFuncBox
import Derived.Shelf.Abstract
import Derived.Shelf.RegionOpen
import Derived.OwnWalkIn
import Derived.TacticsInMore
import Derived.LoopNIn
import Derived.LoopIn
namespace Go.Proofs.YtjkhkohlejkdlaaDoor
open Go.RowKit
set_option linter.unusedVariables false
set_option linter.unusedSimpArgs false
attribute [local go_sem] Oper.semAt_some

/-! ### pure -/
def headR (l : List UInt8) : List UInt8 := l.take (fnd 10 l + 1)
def tailR (l : List UInt8) : List UInt8 := l.drop (fnd 10 l + 1)
def restAt : Nat → List UInt8 → List UInt8
  | 0, l => l
  | k + 1, l => tailR (restAt k l)
theorem restAt_len : ∀ (k : Nat) (l : List UInt8), (restAt k l).length ≤ l.length
  | 0, l => Nat.le_refl _
  | k + 1, l => by
    have := restAt_len k l
    show (tailR (restAt k l)).length ≤ _
    unfold tailR
    rw [List.length_drop]
    omega
theorem tw_mem {p : UInt8 → Bool} {x : UInt8} : ∀ l : List UInt8, x ∈ l.takeWhile p → p x = true
  | [], h => by cases h
  | b :: t, h => by
    by_cases hb : p b = true
    · rw [List.takeWhile_cons_of_pos hb] at h
      rcases List.mem_cons.1 h with rfl | h
      · exact hb
      · exact tw_mem t h
    · rw [List.takeWhile_cons_of_neg hb] at h
      cases h
theorem fnd_take (c : UInt8) (l : List UInt8) : ∀ x ∈ l.take (fnd c l), x.toNat ≠ c.toNat := by
  intro x hx
  have : l.take (fnd c l) = l.takeWhile (fun x => decide (x.toNat ≠ c.toNat)) := by
    unfold fnd
    exact List.prefix_iff_eq_take.1 (List.takeWhile_prefix _) |>.symm
  rw [this] at hx
  have := tw_mem _ hx
  simpa using this
theorem fnd_at {c : UInt8} : ∀ {l : List UInt8}, fnd c l < l.length → ∃ t, l = l.take (fnd c l) ++ c :: t ∧ l.drop (fnd c l + 1) = t ∧ l[fnd c l]? = some c
  | [], h => absurd h (by simp [fnd])
  | b :: t, h => by
    by_cases e : b = c
    · subst e
      have : fnd b (b :: t) = 0 := by unfold fnd; rw [List.takeWhile_cons_of_neg (by simp)]; rfl
      rw [this]
      exact ⟨t, rfl, rfl, rfl⟩
    · have hn : b.toNat ≠ c.toNat := fun h => e (UInt8.toNat_inj.1 h)
      have h1 : fnd c (b :: t) = fnd c t + 1 := by unfold fnd; rw [List.takeWhile_cons_of_pos (by simpa using hn)]; rfl
      rw [h1] at h ⊢
      obtain ⟨u, h2, h3, h4⟩ := fnd_at (c := c) (l := t) (by simp at h; omega)
      exact ⟨u, by rw [List.take_succ_cons, List.cons_append, ← h2], by rw [List.drop_succ_cons]; exact h3, by rw [List.getElem?_cons_succ]; exact h4⟩
theorem suf_nl (a : List UInt8) : Lib.trimSuffix (a ++ [10]) [10] = a := by
  unfold Lib.trimSuffix
  have : Lib.hasSuffix (a ++ [10]) [10] = true := by
    unfold Lib.hasSuffix
    rw [List.isSuffixOf_iff_suffix]
    exact ⟨a, rfl⟩
  rw [if_pos this]
  simp
theorem suf_none {a : List UInt8} (h : noNl a) : Lib.trimSuffix a [10] = a := by
  unfold Lib.trimSuffix
  have : Lib.hasSuffix a [10] = false := by
    unfold Lib.hasSuffix
    rw [← Bool.not_eq_true, List.isSuffixOf_iff_suffix]
    rintro ⟨t, rfl⟩
    exact h 10 (by simp) rfl
  rw [this]
  rfl
theorem lines_raw {l : List UInt8} (h : l ≠ []) : linesL [] l = Lib.trimSuffix (headR l) [10] :: linesL [] (tailR l) := by
  have hn : noNl (l.take (fnd 10 l)) := fnd_take 10 l
  by_cases hf : fnd 10 l < l.length
  · obtain ⟨t, h1, h2, h3⟩ := fnd_at hf
    have hh : headR l = l.take (fnd 10 l) ++ [10] := by
      unfold headR
      rw [List.take_add_one, h3]
      rfl
    rw [hh, suf_nl]
    unfold tailR
    rw [h2]
    conv => lhs; rw [h1]
    exact lines_line hn t
  · have hl : fnd 10 l = l.length := Nat.le_antisymm (fnd_le 10 l) (by omega)
    rw [hl, List.take_length] at hn
    have hh : headR l = l := by unfold headR; rw [hl]; exact List.take_of_length_le (by omega)
    have ht : tailR l = [] := by unfold tailR; rw [hl]; exact List.drop_eq_nil_of_le (by omega)
    rw [hh, ht, suf_none hn]
    have := lines_app l [] [] hn
    rw [List.append_nil, List.nil_append] at this
    rw [this]
    show (if l = [] then [] else [l]) = _
    rw [if_neg h]
    rfl
theorem head_len (l : List UInt8) : (headR l).length ≤ l.length := by unfold headR; rw [List.length_take]; omega
theorem trim_len (a : List UInt8) : (Lib.trimSuffix a [10]).length ≤ a.length := by
  unfold Lib.trimSuffix
  split
  · rw [List.length_take]; omega
  · exact Nat.le_refl _

/-! ### the iterator -/
theorem grow_set (w : World) (g j : Nat) (u : Value) : w.grownBy (w.setCell ⟨g, j, none⟩ u) (some g) :=
  ⟨rfl, rfl, rfl, by simp, fun k _ hne => Below.heap_setCell _ _ _ _ (by intro e; exact hne (by rw [e]))⟩
theorem Blk.same {w w' : World} {b : Nat} {cs : Array Value} (h : Blk w b cs) (e : w'.heap[b]? = w.heap[b]?) (hs : w.heap.size ≤ w'.heap.size) : Blk w' b cs :=
  ⟨Nat.lt_of_lt_of_le h.1 hs, fun j => (World.cell?_of_block (a := ⟨b, j, none⟩) e).trans (h.2.1 j), fun j => (World.frozen?_of_block (a := ⟨b, j, none⟩) e).trans (h.2.2 j)⟩
structure LnI (W : World) (J : List (List UInt8) → (Nat → Prop) → World → Prop) (bx : Nat) (t : List UInt8) (k : Nat) (X : World) : Prop where
  j : ∃ pre O, pre.length = k ∧ J pre O X ∧ ∀ i, O i → i < X.heap.size ∧ i ≠ bx
  bx : Blk X bx #[.string (ba (restAt k t))]
  size : W.heap.size ≤ X.heap.size
def strLen (v : Option Value) : Nat := match v with
  | some (.string s) => s.size
  | _ => 0
theorem cell_len {X : World} {bx : Nat} {l : List UInt8} (h : Blk X bx #[.string (ba l)]) : strLen (X.cell? ⟨bx, 0, none⟩) = l.length := by
  rw [show X.cell? ⟨bx, 0, none⟩ = some (.string (ba l)) from h.2.1 0]
  rfl
set_option maxRecDepth 100000 in
set_option maxHeartbeats 4000000 in
theorem lines1_in (n : Nat) (hn : 1 ≤ n) (l bx : Nat) (t : List UInt8) (ht : t.length ≤ 1000000)
    (J Jx : List (List UInt8) → (Nat → Prop) → World → Prop) (O : Nat → Prop) (W : World) (hJ : BearsX J (fun k => k = bx) W.heap.size) (hJx : BearsX Jx (fun k => k = bx) W.heap.size)
    (hY : ∀ (pre : List (List UInt8)) (O : Nat → Prop) (x : List UInt8) (W1 : World), J pre O W1 → (∀ k, O k → k < W1.heap.size) → (x = restAt pre.length t ∧ x ≠ []) → YieldAt Fence.wide (n - 1) Tryd.prog l #[.string (ba (headR x))] W1 fun e W' =>
      (e = .returned (.bool true) ∧ ∃ O', J (pre ++ [x]) O' W' ∧ KeepX O O' W1 W') ∨ (e = .returned (.bool false) ∧ ∃ O', Jx (pre ++ [x]) O' W'))
    (hO : ∀ k, O k → k < W.heap.size ∧ k ≠ bx) (hb : Blk W bx #[.string (ba t)]) (h0 : J [] O W) :
    CallsIn Fence.wide n Tryd.prog 27 #[.func (.yield l) #[] #[], .pointer (some ⟨bx, 0, none⟩)] W fun e W' => (∃ v, e = .returned v) ∧ ((∃ xs O', restAt xs.length t = [] ∧ J xs O' W') ∨ (∃ xs O', True ∧ Jx xs O' W')) := by
  have hro : Fence.wide.round = none := rfl
  refine callsIn_of_wp Tryd.func27 rfl trivial ?_ hro
  simp only [Tryd.ntmps27, List.size_toArray, List.length_cons, List.length_nil, Nat.reduceAdd, Nat.reduceSub, Array.replicate_succ, Array.replicate_zero, List.push_toArray, List.append_toArray, List.nil_append, List.cons_append]
  have H0 := Lib.hid (show LnI W J bx t 0 W from ⟨⟨[], O, rfl, h0, hO⟩, hb, Nat.le_refl _⟩)
  clear h0 hb hO
  gi_wp2
  gi_loopw [3, 4] (fun a b wr => ∃ k : Nat, Hid (LnI W J bx t k wr)) (fun a b wr => strLen (wr.cell? ⟨bx, 0, none⟩))
  case atStart => exact ⟨0, H0⟩
  case round =>
    obtain ⟨k, HI⟩ := hrel
    have hrl := restAt_len k t
    have hsz := cell_len HI.out.bx
    obtain ⟨r, hr⟩ : ∃ r, restAt k t = r := ⟨_, rfl⟩
    obtain ⟨y0, y1, y2⟩ := HI.out.bx
    rw [hr] at hrl hsz y1
    have l0 : wr.cell? ⟨bx, 0, none⟩ = some (.string (ba r)) := y1 0
    have f0 := y2 0
    have HR := Lib.hid hr
    clear y1 y2 hr
    have hba : (ba r).size = r.length := rfl
    by_cases hz : 0 < r.length
    · have d0 : (0 : Int) < ((ba r).size : Int) := by rw [hba]; omega
      have C := Lib.hid (idxb_any (ba r) 10 wr)
      rw [ba_list] at C
      rw [show (((10 : UInt8).toNat : Nat) : Int) = 10 from rfl] at C
      have HE := Lib.hid (And.intro (ba_ext (ba r) 0 (fnd 10 r + 1)) (ba_ext (ba r) (fnd 10 r + 1) (ba r).size))
      obtain ⟨q, hq⟩ : ∃ q, fnd 10 r = q := ⟨_, rfl⟩
      have hql : q ≤ r.length := by rw [← hq]; exact fnd_le 10 r
      rw [hq] at C HE
      have HQ := Lib.hid hq
      clear hq
      by_cases hlt : q < r.length
      · rw [if_pos hlt] at C
        have g0 : (0 : Int) ≤ (q : Int) := by omega
        have g1 : (0 : Int) ≤ (q : Int) + 1 := by omega
        have g2 : (q : Int) + 1 ≤ ((ba r).size : Int) := by rw [hba]; omega
        have g3 : ((q : Int) + 1).toNat = q + 1 := by omega
        clear hba
        gi_wp2_with (refine ⟨trivial, ?_⟩; refine (callsIn_wide.2 C.out).mono ?_; rintro e w1 ⟨rfl, rfl⟩)
        gi_wp2
        gi_region
        obtain ⟨W1, hW1⟩ : ∃ W1, (wr.setCell ⟨bx, 0, none⟩ (.string ((ba r).extract (q + 1) (ba r).size))).drew = W1 := ⟨_, rfl⟩
        have HH := Lib.hid (show headR r = r.take (q + 1) ∧ tailR r = r.drop (q + 1) by unfold headR tailR; rw [HQ.out]; exact ⟨rfl, rfl⟩)
        have HB := Lib.hid (show wr.grownBy W1 (some bx) ∧ Blk W1 bx #[.string (ba (restAt (k + 1) t))] by
          rw [← hW1]
          refine ⟨⟨rfl, rfl, rfl, by simp, fun k _ hne => Below.heap_setCell _ _ _ _ (by intro e; exact hne (by rw [e]))⟩, ?_⟩
          show Blk _ bx #[.string (ba (tailR (restAt k t)))]
          rw [HR.out, HH.out.2]
          have := HI.out.bx.set_ 0 (by simp) (.string ((ba r).extract (q + 1) (ba r).size))
          rw [HE.out.2, ba_list, List.take_of_length_le (by rw [List.length_drop]; exact Nat.le_refl _)] at this
          rw [HE.out.2, ba_list, List.take_of_length_le (by rw [List.length_drop]; exact Nat.le_refl _)]
          exact this.drew)
        rw [HE.out.1, ba_list, List.drop_zero, Nat.sub_zero, ← HH.out.1, hW1]
        have HM := Lib.hid hsz
        obtain ⟨pre, O, hpre, hj, ho⟩ := HI.out.j
        have hq := hJ pre O wr W1 (some bx) hj HB.out.1 (fun r e => by cases e; exact ⟨.inr rfl, fun h => (ho _ h).2 rfl⟩)
        obtain ⟨fn, tmps, assign, body, hy, hY2⟩ := hY pre O r W1 hq (fun k hk => Nat.lt_of_lt_of_le (ho k hk).1 HB.out.1.size) ⟨by rw [hpre]; exact HR.out.symm, fun e => by rw [e] at hz; exact absurd hz (by simp)⟩
        have HP := Lib.hid (And.intro hpre ho)
        clear hsz hW1 hpre ho hj hq hY C l0 f0 y0 H0
        gi_wp2
        refine hY2.mono ?_
        rintro e W3 (⟨rfl, O', hJ3, hK3⟩ | ⟨rfl, O', hJ3⟩)
        · have HL := Lib.hid (show LnI W J bx t (k + 1) W3 from ⟨⟨pre ++ [r], O', by simp [HP.out.1], hJ3, fun i hi => ⟨hK3.lt i hi, by
            rcases hK3.new i hi with h | h
            · exact (HP.out.2 i h).2
            · have := HB.out.2.1
              omega⟩⟩, HB.out.2.same (hK3.old bx HB.out.2.1 fun h => (HP.out.2 _ h).2 rfl) hK3.size, Nat.le_trans HI.out.size (Nat.le_trans HB.out.1.size hK3.size)⟩)
          clear hJ3 hK3 hy hY2
          gi_wp2
          go_roundw
          case rel => exact ⟨k + 1, HL⟩
          case measure =>
            rw [HM.out, cell_len HL.out.bx]
            show (tailR (restAt k t)).length < r.length
            rw [HR.out]
            unfold tailR
            rw [List.length_drop]
            omega
        · have HL := Lib.hid hJ3
          clear hJ3 hy hY2
          gi_wp2
          refine bodyPost_ret (results_none rfl _ _ _) rfl ?_
          exact ⟨⟨_, rfl⟩, .inr ⟨_, O', trivial, HL.out⟩⟩
      · obtain rfl : q = r.length := by omega
        rw [if_neg hlt] at C
        have HH := Lib.hid (show headR r = r ∧ tailR r = [] by unfold headR tailR; rw [HQ.out]; exact ⟨List.take_of_length_le (by omega), List.drop_eq_nil_of_le (by omega)⟩)
        clear hba HE hql hlt
        obtain ⟨W1, hW1⟩ : ∃ W1, wr.setCell ⟨bx, 0, none⟩ (.string ⟨#[]⟩) = W1 := ⟨_, rfl⟩
        have HB := Lib.hid (show wr.grownBy W1 (some bx) ∧ Blk W1 bx #[.string (ba (restAt (k + 1) t))] by
          rw [← hW1]
          refine ⟨grow_set wr bx 0 _, ?_⟩
          show Blk _ bx #[.string (ba (tailR (restAt k t)))]
          rw [HR.out, HH.out.2]
          exact HI.out.bx.set_ 0 (by simp) (.string ⟨#[]⟩))
        have HM := Lib.hid hsz
        obtain ⟨pre, O, hpre, hj, ho⟩ := HI.out.j
        have hq := hJ pre O wr W1 (some bx) hj HB.out.1 (fun r e => by cases e; exact ⟨.inr rfl, fun h => (ho _ h).2 rfl⟩)
        obtain ⟨fn, tmps, assign, body, hy, hY2⟩ := hY pre O r W1 hq (fun k hk => Nat.lt_of_lt_of_le (ho k hk).1 HB.out.1.size) ⟨by rw [hpre]; exact HR.out.symm, fun e => by rw [e] at hz; exact absurd hz (by simp)⟩
        have HP := Lib.hid (And.intro hpre ho)
        clear hsz hpre ho hj hq hY H0
        rw [HH.out.1] at hy
        subst hW1
        gi_wp2_with (refine ⟨trivial, ?_⟩; refine (callsIn_wide.2 C.out).mono ?_; rintro e w1 ⟨rfl, rfl⟩)
        refine hY2.mono ?_
        rintro e W3 (⟨rfl, O', hJ3, hK3⟩ | ⟨rfl, O', hJ3⟩)
        · have HL := Lib.hid (show LnI W J bx t (k + 1) W3 from ⟨⟨pre ++ [r], O', by simp [HP.out.1], hJ3, fun i hi => ⟨hK3.lt i hi, by
            rcases hK3.new i hi with h | h
            · exact (HP.out.2 i h).2
            · have := HB.out.2.1
              omega⟩⟩, HB.out.2.same (hK3.old bx HB.out.2.1 fun h => (HP.out.2 _ h).2 rfl) hK3.size, Nat.le_trans HI.out.size (Nat.le_trans HB.out.1.size hK3.size)⟩)
          clear hJ3 hK3 hy hY2
          gi_wp2
          go_roundw
          case rel => exact ⟨k + 1, HL⟩
          case measure =>
            rw [HM.out, cell_len HL.out.bx]
            show (tailR (restAt k t)).length < r.length
            rw [HR.out, HH.out.2]
            exact hz
        · have HL := Lib.hid hJ3
          clear hJ3 hy hY2
          gi_wp2
          refine bodyPost_ret (results_none rfl _ _ _) rfl ?_
          exact ⟨⟨_, rfl⟩, .inr ⟨_, O', trivial, HL.out⟩⟩
    · obtain rfl : r = [] := List.eq_nil_of_length_eq_zero (by omega)
      obtain ⟨pre, O, hpre, hj, ho⟩ := HI.out.j
      have HL := Lib.hid (show restAt pre.length t = [] ∧ J pre O wr from ⟨by rw [hpre]; exact HR.out, hj⟩)
      have d0 : ((ba []).size : Int) = 0 := rfl
      clear hpre hj ho hY H0
      gi_wp2
      go_end0
      exact ⟨⟨_, rfl⟩, .inl ⟨pre, O, HL.out⟩⟩
end Go.Proofs.YtjkhkohlejkdlaaDoor

/- shift: Same and slices.Equal as the lists' equality; Joined; Few. -/
import Derived.Test.YtfmpldgeldocnaaTxt
import Derived.Test.YtfmpldgeldocnaaSlE
import Derived.Test.YtfmpldgeldocnaaSlR
namespace Go.Proofs.Ytfmpldgeldocnaa
open Go.RowKit
set_option linter.unusedVariables false
set_option linter.unusedSimpArgs false

theorem agree_is (l m : List Int) (h : l.length = m.length) : agree (fun j => l.getD j 0) (fun j => m.getD j 0) l.length = decide (l = m) := by
  rw [Bool.eq_iff_iff, decide_eq_true_iff]
  unfold agree
  rw [List.all_eq_true]
  constructor
  · intro hh
    apply List.ext_getElem h
    intro i h1 h2
    have := hh i (List.mem_range.2 h1)
    simpa [List.getD, h1, h2] using this
  · rintro rfl j hj
    simp

theorem equal_is (u v : Value) (l m : List Int) (w : World) (hu : Txt w u l) (hv : Txt w v m) : Calls Try.prog 29 #[u, v] w fun e w' => e = .returned (.bool (decide (l = m))) ∧ ∃ k, w' = w.drewN k := by
  obtain ⟨A, c, rfl, hA, _, h1, h2, _⟩ := hu
  obtain ⟨B, d, rfl, hB, _, h3, h4, _⟩ := hv
  unfold maxLen at h2 h4
  by_cases h : l.length = m.length
  · rw [← agree_is l m h, ← h]
    exact slE_equal_at A B l.length c d (fun j => l.getD j 0) (fun j => m.getD j 0) w (by omega) hA (by rw [h]; exact hB)
  · rw [show decide (l = m) = false from decide_eq_false (fun e => h (by rw [e]))]
    exact slE_equal_len A B l.length m.length c d w (by omega) (by omega) h

set_option maxHeartbeats 1000000 in
theorem sameq_at (A B : Option Addr) (n c d : Nat) (p q : Nat → Int) (w : World) (hn : n ≤ 9223372036854775807) (hA : Rd w A n (iv p)) (hB : Rd w B n (iv q)) :
    Calls Try.prog 19 #[.slice A n c, .slice B n d] w fun e w' => e = .returned (.bool (agree p q n)) ∧ ∃ r, w' = w.drewN r := by
  have h1 : (((n : Int) == (n : Int))) = true := by simp
  have h2 : (((n : Int) != (n : Int))) = false := by simp
  go_enter Try.func19, Try.ntmps19
  go_wp2
  go_loopw [5] (fun i wr => ∃ k : Nat, k ≤ n ∧ i = .int .i64 k ∧ Hid (∀ j, j < k → p j = q j) ∧ ∃ r, wr = w.drewN r) (fun i _ => n - (intOf i).toNat)
  case atStart => exact ⟨0, Nat.zero_le _, rfl, fun j h => absurd h (by omega), 0, rfl⟩
  case round =>
    obtain ⟨k, hk, rfl, HE, r, rfl⟩ := hrel
    by_cases hlt : k < n
    · obtain ⟨a, i, rfl, _, ha⟩ := hA k hlt
      obtain ⟨b, j, rfl, _, hb⟩ := hB k hlt
      unfold iv at ha hb
      by_cases he : p k = q k
      · have h3 : ((p k == q k)) = true := by simp [he]
        have h4 : ((p k != q k)) = false := by simp [he]
        have H4 := Lib.hid he
        clear hA hB he
        go_wp2
        go_quiet (fail)
        go_wp2
        go_roundw
        case rel => exact ⟨k + 1, by omega, by go_num, fun j hj => (by by_cases e : j = k; (· subst e; exact H4.out); (· exact HE.out j (by omega))), _, rfl⟩
        case measure => simp [intOf]; omega
      · have h3 : ((p k == q k)) = false := by simp [he]
        have h4 : ((p k != q k)) = true := by simp [he]
        have hf : agree p q n = false := by
          rw [Bool.eq_false_iff]
          intro h
          exact he (by simpa using List.all_eq_true.1 h k (List.mem_range.2 hlt))
        have HF := Lib.hid hf
        clear hA hB hf
        go_wp2
        go_quiet (fail)
        go_wp2
        go_ret
        rw [HF.out]
        exact ⟨rfl, _, World.drewN_drewN _ _ _⟩
    · have ht : agree p q n = true := List.all_eq_true.2 fun j hj => by simpa using HE.out j (by have := List.mem_range.1 hj; omega)
      have HT := Lib.hid ht
      clear ht
      go_wp2
      go_ret
      rw [HT.out]
      exact ⟨rfl, _, rfl⟩

theorem same_is (u v : Value) (l m : List Int) (w : World) (hu : Txt w u l) (hv : Txt w v m) : Calls Try.prog 19 #[u, v] w fun e w' => e = .returned (.bool (decide (l = m))) ∧ ∃ k, w' = w.drewN k := by
  obtain ⟨A, c, rfl, hA, _, h1, h2, _⟩ := hu
  obtain ⟨B, d, rfl, hB, _, h3, h4, _⟩ := hv
  unfold maxLen at h2 h4
  by_cases h : l.length = m.length
  · rw [← agree_is l m h, ← h]
    exact sameq_at A B l.length c d (fun j => l.getD j 0) (fun j => m.getD j 0) w (by omega) hA (by rw [h]; exact hB)
  · rw [show decide (l = m) = false from decide_eq_false (fun e => h (by rw [e]))]
    exact (same_no A B l.length m.length c d w (by omega) (by omega) h).mono fun e w' hh => ⟨hh.1, 0, hh.2.symm⟩

/-! ### Few -/
theorem few_any (v : Value) (l : List Int) (n : Nat) (w : World) (h : Txt w v l) (hn : n ≤ 1000000) : Calls Try.prog 16 #[v, .int .i64 n] w fun e w' => ∃ A c, e = .returned (.slice A (l.take n).length c) ∧ (∀ (X : World) (S : Nat → Prop), TxtS X S v l → TxtS X S (.slice A (l.take n).length c) (l.take n)) ∧ w = w' := by
  obtain ⟨A, c, rfl, hc, hc2⟩ := Sl.is h
  clear h
  rcases Nat.lt_or_ge n l.length with hlt | hge
  · have hlen : (l.take n).length = n := by simp; omega
    have ht : ∀ (X : World) (S : Nat → Prop), TxtS X S (.slice A l.length c) l → TxtS X S (.slice A n c) (l.take n) := by
      intro X S h
      have := Sl.take h n (by omega)
      unfold TxtS
      rw [hlen]
      exact this.congr fun j hj => by simp [liR, List.getD, List.getElem?_take, hj]
    have HT := Lib.hid (And.intro hlen ht)
    have d0 : decide ((n : Int) < (l.length : Int)) = true := by simp; omega
    have hcn : (n : Int) ≤ (c : Int) := by omega
    clear hlen ht
    go_enter Try.func16, Try.ntmps16
    go_wp2
    go_ret
    exact ⟨A, c, by rw [HT.out.1]; rfl, by rw [HT.out.1]; exact HT.out.2, rfl⟩
  · have hlen : l.take n = l := List.take_of_length_le hge
    have HT := Lib.hid hlen
    have d0 : decide ((n : Int) < (l.length : Int)) = false := by simp; omega
    clear hlen
    go_enter Try.func16, Try.ntmps16
    go_wp2
    go_ret
    exact ⟨A, c, by rw [HT.out]; rfl, fun X S h => by rw [HT.out]; exact h, rfl⟩

/-! ### Joined -/
theorem cat3 (a b c : List Int) : (a ++ b ++ c).map (Value.int .i32) = ([] ++ (List.range a.length).map (liR a) ++ (List.range b.length).map (liR b)) ++ (List.range c.length).map (liR c) := by
  rw [liR_map, liR_map, liR_map]; simp
theorem below_row {w w1 w2 : World} {e : TypeId} {v : Value} {n m : Nat} {xs ys : List Value} {A : Option Addr} {c : Nat} (h : w1.ownsRow w.heap.size e 1 v n xs) (hp : Pushed w1 w2 w.heap.size e 1 v m ys A c) (hb : Below w.heap.size w w1) : Below w.heap.size w w2 :=
  hb.grown hp.grown hb.size (fun k hk => (h.lt k hk).1)
set_option maxHeartbeats 1000000 in
theorem joined_any (u v x : Value) (a b c : List Int) (w : World) (hu : Txt w u a) (hv : Txt w v b) (hx : Txt w x c) (hl : a.length + b.length + c.length ≤ 1000000) : Calls Try.prog 39 #[u, v, x] w (TellsT (a ++ b ++ c) w) := by
  obtain ⟨A, ca, rfl, ra, na, ha, ma, _⟩ := hu
  obtain ⟨B, cb, rfl, rb, nb, hb, mb, _⟩ := hv
  obtain ⟨C, cc, rfl, rc, nc, hc, mc, _⟩ := hx
  have HR := Lib.hid (And.intro ra (And.intro rb rc))
  have HN := Lib.hid (And.intro na (And.intro nb nc))
  have h0 : w.ownsRow w.heap.size 21 1 (.slice none 0 0) 0 [] := World.ownsRow_nil _ _ _ _
  have HO := Lib.hid h0
  clear ra rb rc na nb nc h0
  go_enter Try.func39, Try.ntmps39
  go_wp2_with (first
    | (at_builtin; refine wpList_cat slE_elt HO.out (Nat.le_refl _) rfl rfl rfl rfl HR.out.1 HN.out.1 (fun j _ => rfl) (by unfold maxLen; omega) (by omega) ?_; intro A3 c3 w3 hp; rw [Nat.zero_add] at hp; have HP1 := Lib.hid (And.intro hp (below_row HO.out hp (Below.refl _ _))); clear hp)
    | (at_builtin; refine wpList_cat slE_elt HP1.out.1.own HP1.out.2.size rfl rfl rfl rfl (HR.out.2.1.later HP1.out.2) HN.out.2.1 (fun j _ => rfl) (by unfold maxLen; omega) (by omega) ?_; intro A4 c4 w4 hp; have HP2 := Lib.hid (And.intro hp (below_row HP1.out.1.own hp HP1.out.2)); clear hp)
    | (at_builtin; refine wpList_cat slE_elt HP2.out.1.own HP2.out.2.size rfl rfl rfl rfl (HR.out.2.2.later HP2.out.2) HN.out.2.2 (fun j _ => rfl) (by unfold maxLen; omega) (by omega) ?_; intro A5 c5 w5 hp; have HP3 := Lib.hid (And.intro hp (below_row HP2.out.1.own hp HP2.out.2)); clear hp))
  go_ret
  have hx := HP3.out.1.own
  rw [← cat3] at hx
  exact ⟨_, _, _, rfl, txt_own (by simp only [List.length_append]) hx, HP3.out.2⟩
end Go.Proofs.Ytfmpldgeldocnaa

/- gap: the document's Splice and Slice; Same. -/
import Derived.Test.YtganehhcnflgaaaGapI
namespace Go.Proofs.Ytganehhcnflgaaa
open Go.RowKit
set_option linter.unusedVariables false
set_option linter.unusedSimpArgs false

def agreeI (p q : Nat → Int) (n : Nat) : Bool := (List.range n).all fun j => p j == q j
def ivI (p : Nat → Int) (j : Nat) : Value := .int .i64 (p j)

theorem agreeI_is (l m : List Int) (h : l.length = m.length) : agreeI (fun j => l.getD j 0) (fun j => m.getD j 0) l.length = decide (l = m) := by
  rw [Bool.eq_iff_iff, decide_eq_true_iff]
  unfold agreeI
  rw [List.all_eq_true]
  constructor
  · intro hh
    apply List.ext_getElem h
    intro i h1 h2
    have := hh i (List.mem_range.2 h1)
    simpa [List.getD, h1, h2] using this
  · rintro rfl j hj
    simp

set_option maxHeartbeats 1000000 in
theorem sameI_at (A B : Option Addr) (n c d : Nat) (p q : Nat → Int) (w : World) (hn : n ≤ 9223372036854775807) (hA : Rd w A n (ivI p)) (hB : Rd w B n (ivI q)) :
    Calls Try.prog 9 #[.slice A n c, .slice B n d] w fun e w' => e = .returned (.bool (agreeI p q n)) ∧ ∃ r, w' = w.drewN r := by
  have h1 : (((n : Int) == (n : Int))) = true := by simp
  have h2 : (((n : Int) != (n : Int))) = false := by simp
  go_enter Try.func9, Try.ntmps9
  go_wp2
  go_loopw [5] (fun i wr => ∃ k : Nat, k ≤ n ∧ i = .int .i64 k ∧ Hid (∀ j, j < k → p j = q j) ∧ ∃ r, wr = w.drewN r) (fun i _ => n - (intOf i).toNat)
  case atStart => exact ⟨0, Nat.zero_le _, rfl, fun j h => absurd h (by omega), 0, rfl⟩
  case round =>
    obtain ⟨k, hk, rfl, HE, r, rfl⟩ := hrel
    by_cases hlt : k < n
    · obtain ⟨a, i, rfl, _, ha⟩ := hA k hlt
      obtain ⟨b, j, rfl, _, hb⟩ := hB k hlt
      unfold ivI at ha hb
      by_cases he : p k = q k
      · have h3 : ((p k == q k)) = true := by simp [he]
        have h4 : ((p k != q k)) = false := by simp [he]
        have H4 := Lib.hid he
        clear hA hB he
        go_wp2
        go_quiet (fail)
        go_wp2
        go_roundw
        case rel => exact ⟨k + 1, by omega, by go_num, fun j hj => (by by_cases e : j = k; (· subst e; exact H4.out); (· exact HE.out j (by omega))), _, rfl⟩
        case measure => simp [intOf]; omega
      · have h3 : ((p k == q k)) = false := by simp [he]
        have h4 : ((p k != q k)) = true := by simp [he]
        have hf : agreeI p q n = false := by
          rw [Bool.eq_false_iff]
          intro h
          exact he (by simpa using List.all_eq_true.1 h k (List.mem_range.2 hlt))
        have HF := Lib.hid hf
        clear hA hB hf
        go_wp2
        go_quiet (fail)
        go_wp2
        go_ret
        rw [HF.out]
        exact ⟨rfl, _, World.drewN_drewN _ _ _⟩
    · have ht : agreeI p q n = true := List.all_eq_true.2 fun j hj => by simpa using HE.out j (by have := List.mem_range.1 hj; omega)
      have HT := Lib.hid ht
      clear ht
      go_wp2
      go_ret
      rw [HT.out]
      exact ⟨rfl, _, rfl⟩

theorem sameI_no (A B : Option Addr) (n m c d : Nat) (w : World) (hn : n ≤ 9223372036854775807) (hm : m ≤ 9223372036854775807) (hne : n ≠ m) :
    Calls Try.prog 9 #[.slice A n c, .slice B m d] w fun e w' => e = .returned (.bool false) ∧ w = w' := by
  have h1 : ((n : Int) == (m : Int)) = false := by simp; omega
  have h2 : ((n : Int) != (m : Int)) = true := by simp; omega
  go_enter Try.func9, Try.ntmps9
  go_wp2
  go_ret
  exact ⟨rfl, rfl⟩

theorem sameI_is (u v : Value) (l m : List Int) (S T : Nat → Prop) (w : World) (hu : IntS w S u l) (hv : IntS w T v m) : Calls Try.prog 9 #[u, v] w fun e w' => e = .returned (.bool (decide (l = m))) ∧ ∃ k, w' = w.drewN k := by
  obtain ⟨A, c, rfl, hA, _, h1, h2, _⟩ := hu
  obtain ⟨B, d, rfl, hB, _, h3, h4, _⟩ := hv
  unfold maxLen at h2 h4
  by_cases h : l.length = m.length
  · rw [← agreeI_is l m h, ← h]
    exact sameI_at A B l.length c d (fun j => l.getD j 0) (fun j => m.getD j 0) w (by omega) hA (by rw [h]; exact hB)
  · rw [show decide (l = m) = false from decide_eq_false (fun e => h (by rw [e]))]
    exact (sameI_no A B l.length m.length c d w (by omega) (by omega) h).mono fun e w' hh => ⟨hh.1, 0, hh.2.symm⟩

/-! ### the document's Splice -/
theorem refsplice_no (A : Option Addr) (n c : Nat) (v : Value) (x y : Int) (w : World) (hno : x < 0 ∨ y < x ∨ (n : Int) < y) :
    Calls Try.prog 6 #[.slice A n c, .int .i64 x, .int .i64 y, v] w fun e w' => e = .returned (.tuple #[.slice A n c, .bool false]) ∧ w = w' := by
  go_enter Try.func6, Try.ntmps6
  by_cases h1 : x < 0
  · have d1 : decide (x < 0) = true := by simp; omega
    go_wp2
    go_ret2
    exact ⟨rfl, rfl⟩
  by_cases h2 : y < x
  · have d1 : decide (x < 0) = false := by simp; omega
    have d2 : decide (y < x) = true := by simp; omega
    go_wp2
    go_ret2
    exact ⟨rfl, rfl⟩
  · have d1 : decide (x < 0) = false := by simp; omega
    have d2 : decide (y < x) = false := by simp; omega
    have d3 : decide ((n : Int) < y) = true := by simp; omega
    go_wp2
    go_ret2
    exact ⟨rfl, rfl⟩

/-- A part of numbers. -/
theorem sub_int {w : World} {S : Nat → Prop} {A : Option Addr} {k c : Nat} {l : List Int} (h : IntS w S (.slice A k c) l) (a b : Nat) (hab : a ≤ b) (hb : b ≤ l.length) :
    IntS w S (.slice (if c = a then A else Option.map (fun x => x.add a) A) (b - a) (c - a)) ((l.drop a).take (b - a)) := by
  obtain ⟨A', c', e, hr, h0, h1, h2, h3⟩ := h
  injection e with e1 e2 e3
  subst e1; subst e2; subst e3
  have hl : ((l.drop a).take (b - a)).length = b - a := by simp; omega
  unfold maxLen at *
  refine ⟨_, _, by rw [hl], ?_, ?_, by rw [hl]; omega, by unfold maxLen; omega, ?_⟩
  · rw [hl]
    intro j hj
    obtain ⟨g, o, e1, hlt, hc⟩ := hr (a + j) (by omega)
    subst e1
    rw [if_neg (by omega)]
    refine ⟨g, o + a, (by rw [Option.map_some, Go.WideShapes.add_plain]), hlt, ?_⟩
    rw [Nat.add_assoc, hc]
    simp only [liI, List.getD, List.getElem?_take, List.getElem?_drop, hj, if_true]
  · intro e
    rw [hl]
    by_cases hca : c = a
    · rw [if_pos hca] at e
      have := h0 e
      omega
    · rw [if_neg hca] at e
      cases A with
      | none => have := h0 rfl; omega
      | some q => cases e
  · rw [hl]
    intro q hq hn
    rw [if_neg (by omega)] at hq
    cases A with
    | none => cases hq
    | some q0 =>
      injection hq with hq
      subst hq
      have := h3 q0 rfl (by omega)
      obtain ⟨g, o, e1, _⟩ := hr a (by omega)
      injection e1 with e1
      subst e1
      simp only [Go.WideShapes.add_plain]
      exact this

theorem take_int {w : World} {S : Nat → Prop} {A : Option Addr} {k c : Nat} {l : List Int} (h : IntS w S (.slice A k c) l) (n : Nat) (hn : n ≤ l.length) : IntS w S (.slice A n c) (l.take n) := by
  have hlen : (l.take n).length = n := by simp; omega
  have := Sl.take h n hn
  unfold IntS
  rw [hlen]
  exact this.congr fun j hj => by simp [liI, List.getD, List.getElem?_take, hj]

theorem below_row {w w1 w2 : World} {e : TypeId} {v : Value} {n m : Nat} {xs ys : List Value} {A : Option Addr} {c : Nat} (h : w1.ownsRow w.heap.size e 1 v n xs) (hp : Pushed w1 w2 w.heap.size e 1 v m ys A c) (hb : Below w.heap.size w w1) : Below w.heap.size w w2 :=
  hb.grown hp.grown hb.size (fun k hk => (h.lt k hk).1)

set_option maxHeartbeats 1000000 in
theorem refsplice_yes (A B : Option Addr) (k c m d : Nat) (L I : List Int) (a b : Nat) (w : World) (S T : Nat → Prop) (hA : IntS w S (.slice A k c) L) (hB : IntS w T (.slice B m d) I) (hab : a ≤ b) (hb : b ≤ L.length) (hl : L.length + I.length ≤ 1000000) :
    Calls Try.prog 6 #[.slice A k c, .int .i64 a, .int .i64 b, .slice B m d] w fun e w' => ∃ A' n' c', e = .returned (.tuple #[.slice A' n' c', .bool true]) ∧ IntS w' (fun g => w.heap.size ≤ g) (.slice A' n' c') (L.take a ++ I ++ L.drop b) ∧ Below w.heap.size w w' := by
  obtain ⟨rfl, ra, na, la, lc⟩ := Sl.parts hA
  obtain ⟨rfl, rb, nb, lb, ld⟩ := Sl.parts hB
  obtain ⟨AX, hAX⟩ : ∃ AA, (if c = b then A else Option.map (fun x => x.add b) A) = AA := ⟨_, rfl⟩
  have h1 := (Sl.parts (take_int hA a (by omega))).2
  have h3 := (Sl.parts (sub_int hA b L.length hb (Nat.le_refl _))).2
  rw [hAX] at h3
  have e1 : (L.take a).length = a := by simp; omega
  have e3 : ((L.drop b).take (L.length - b)).length = L.length - b := by simp
  rw [e1] at h1
  rw [e3] at h3
  have HR := Lib.hid (And.intro h1 (And.intro (And.intro rb nb) h3))
  have HO := Lib.hid (World.ownsRow_nil w w.heap.size 3 1)
  have d1 : decide ((a : Int) < 0) = false := by simp
  have d2 : decide ((b : Int) < (a : Int)) = false := by simp; omega
  have d3 : decide ((L.length : Int) < (b : Int)) = false := by simp; omega
  have p0 : (0 : Int) ≤ (a : Int) := by omega
  have p1 : (a : Int) ≤ (c : Int) := by omega
  have p2 : (0 : Int) ≤ (b : Int) := by omega
  have p3 : (b : Int) ≤ (L.length : Int) := by omega
  have p4 : (L.length : Int) ≤ (c : Int) := by omega
  have p5 : (b : Int) ≤ (c : Int) := by omega
  have HE := Lib.hid (And.intro e1 e3)
  clear hA hB ra na rb nb h1 h3 e1 e3
  go_enter Try.func6, Try.ntmps6
  go_wp2_with (first
    | (at_builtin; refine wpList_cat eltI HO.out (Nat.le_refl _) rfl rfl rfl rfl HR.out.1.1 HR.out.1.2.1 (fun j _ => rfl) (by unfold maxLen; omega) (by omega) ?_; intro A3 c3 w3 hp; rw [Nat.zero_add] at hp; have HP1 := Lib.hid (And.intro hp (below_row HO.out hp (Below.refl _ _))); clear hp)
    | (at_builtin; refine wpList_cat eltI HP1.out.1.own HP1.out.2.size rfl rfl rfl rfl (HR.out.2.1.1.later HP1.out.2) HR.out.2.1.2 (fun j _ => rfl) (by unfold maxLen; omega) (by omega) ?_; intro A4 c4 w4 hp; have HP2 := Lib.hid (And.intro hp (below_row HP1.out.1.own hp HP1.out.2)); clear hp)
    | (at_builtin; refine wpList_cat eltI HP2.out.1.own HP2.out.2.size rfl rfl rfl rfl (HR.out.2.2.1.later HP2.out.2) HR.out.2.2.2.1 (fun j _ => rfl) (by unfold maxLen; omega) (by omega) ?_; intro A5 c5 w5 hp; have HP3 := Lib.hid (And.intro hp (below_row HP2.out.1.own hp HP2.out.2)); clear hp))
  go_ret2
  have hx := HP3.out.1.own
  rw [liI_of HE.out.1, liI_of rfl, liI_of HE.out.2, List.nil_append, ← List.map_append, ← List.map_append, List.take_of_length_le (l := L.drop b) (by simp)] at hx
  exact ⟨_, _, _, rfl, int_own (by simp; omega) hx, HP3.out.2⟩
end Go.Proofs.Ytganehhcnflgaaa

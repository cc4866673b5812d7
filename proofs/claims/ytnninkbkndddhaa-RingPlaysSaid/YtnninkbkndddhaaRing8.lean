/- ring: a deed; deeds that came in. -/
import Derived.Test.YtnninkbkndddhaaRing6
import Derived.Test.YtnninkbkndddhaaArgS
namespace Go.Proofs.Ytnninkbkndddhaa
open Go.RowKit
set_option linter.unusedVariables false
set_option linter.unusedSimpArgs false

theorem few_any (v : Value) (l : List Int) (n : Nat) (w : World) (h : Txt w v l) (hn : n ≤ 1000000) : Calls Try.prog 10 #[v, .int .i64 n] w fun e w' => ∃ A c, e = .returned (.slice A (l.take n).length c) ∧ (∀ (X : World) (S : Nat → Prop), TxtS X S v l → TxtS X S (.slice A (l.take n).length c) (l.take n)) ∧ w = w' := by
  obtain ⟨A, c, rfl, hc, hc2⟩ := Sl.is h
  clear h
  rcases Nat.lt_or_ge n l.length with hlt | hge
  · have hlen : (l.take n).length = n := by simp; omega
    have ht : ∀ (X : World) (S : Nat → Prop), TxtS X S (.slice A l.length c) l → TxtS X S (.slice A n c) (l.take n) := by
      intro X S h
      have := Sl.take h n (by omega)
      unfold TxtS
      rw [hlen]
      exact this.congr fun j hj => by simp [liR, List.getD, List.getElem?_take, hj]
    have HT := Lib.hid (And.intro hlen ht)
    have d0 : decide ((n : Int) < (l.length : Int)) = true := by simp; omega
    have hcn : (n : Int) ≤ (c : Int) := by omega
    clear hlen ht
    go_enter Try.func10, Try.ntmps10
    go_wp2
    go_ret
    exact ⟨A, c, by rw [HT.out.1]; rfl, by rw [HT.out.1]; exact HT.out.2, rfl⟩
  · have hlen : l.take n = l := List.take_of_length_le hge
    have HT := Lib.hid hlen
    have d0 : decide ((n : Int) < (l.length : Int)) = false := by simp; omega
    clear hlen
    go_enter Try.func10, Try.ntmps10
    go_wp2
    go_ret
    exact ⟨A, c, by rw [HT.out]; rfl, fun X S h => by rw [HT.out]; exact h, rfl⟩

/-! ### A deed -/
/-- What a deed makes of a ring. -/
def doesL (q : List (List Int) × Nat) (kind : Int) (l : List Int) : List (List Int) × Nat :=
  if kind = 0 then (l :: q.1.take 59, 0) else if kind = 1 then (joinL q.1 l true, 0) else if kind = 2 then (joinL q.1 l false, 0) else (q.1, if q.1 = [] then q.2 else (q.2 + 1) % q.1.length)

/-- Rings that can be. -/
structure Fine (q : List (List Int) × Nat) (b : Nat) : Prop where
  few : q.1.length ≤ 60
  top : q.1 ≠ [] → q.2 < q.1.length
  zero : q.1 = [] → q.2 = 0
  len : ∀ l ∈ q.1, l.length ≤ b

theorem joinL_len (L : List (List Int)) (l : List Int) (a : Bool) : 1 ≤ (joinL L l a).length ∧ (joinL L l a).length ≤ max 1 L.length := by
  cases L <;> simp [joinL]
theorem Fine.does {q : List (List Int) × Nat} {b : Nat} (h : Fine q b) (kind : Int) (l : List Int) (hl : l.length ≤ 20) : Fine (doesL q kind l) (b + 20) := by
  have hj (a : Bool) : Fine (joinL q.1 l a, 0) (b + 20) := by
    have h1 := joinL_len q.1 l a
    have h2 := h.few
    refine ⟨by simp only; omega, fun _ => by simp only; omega, fun _ => rfl, fun m hm => ?_⟩
    obtain ⟨L, k⟩ := q
    cases L with
    | nil =>
      simp only [joinL, List.mem_singleton] at hm
      subst hm
      omega
    | cons t T =>
      simp only [joinL, List.mem_cons] at hm
      have ht := h.len t (by simp)
      rcases hm with rfl | hm
      · cases a <;> simp <;> omega
      · have := h.len m (by simp [hm]); omega
  unfold doesL
  split
  · refine ⟨by simp only [List.length_cons]; have := List.length_take_le 59 q.1; omega, fun _ => by simp only [List.length_cons]; omega, fun e => by simp at e, fun m hm => ?_⟩
    simp only [List.mem_cons] at hm
    rcases hm with rfl | hm
    · omega
    · have := h.len m (List.mem_of_mem_take hm); omega
  · split
    · exact hj true
    · split
      · exact hj false
      · refine ⟨h.few, fun hne => ?_, fun e => ?_, fun m hm => by have := h.len m hm; omega⟩
        · simp only [if_neg hne]
          exact Nat.mod_lt _ (by cases hq : q.1 <;> simp_all)
        · simp only at e
          simp only [if_pos e]
          exact h.zero e

theorem turn_any (u : Value) (k : Nat) (L : List (List Int)) (b : Nat) (w : World) (S : Nat → Prop) (hL : TxtsS w S u L) (hf : Fine (L, k) b) : Calls Try.prog 13 #[.agg #[u, .int .i64 k]] w (TellsR L (if L = [] then k else (k + 1) % L.length) S w) := by
  by_cases h : L = []
  · subst h
    simp only [if_true]
    exact turn_none u k w S hL
  · rw [if_neg h]
    have hlen : 0 < L.length := by cases L <;> simp_all
    exact turn_some u k L w S hL hlen (by have := hf.few; simp only at this; omega) (hf.top h)

/-- A store into a result's block. -/
theorem stored_at {w v : World} {g : Nat} {a b c d : Value} {L : List (List Int)} {S T : Nat → Prop} (hB : Blk v g #[c, d]) (hb : Below w.heap.size w v) (hg : w.heap.size ≤ g) (ht : TxtsS v T a L) (hT : ∀ b, T b → New w S b) (hn : ¬ T g) :
    Stored w S g a b L ((v.setCell ⟨g, 0, none⟩ a).setCell ⟨g, 1, none⟩ b) := by
  have h := (hB.set_ 0 (by simp) a).set_ 1 (by simp) b
  refine ⟨h.2.1 0, h.2.1 1, ?_, (hb.setCell (p := ⟨g, 0, none⟩) hg _).setCell (p := ⟨g, 1, none⟩) hg _⟩
  exact ((ht.far (p := ⟨g, 0, none⟩) hn a).far (p := ⟨g, 1, none⟩) hn b).mono hT

theorem third_later {w w' : World} {a b c : Array Value} {s t u : TypeId} (hb : Below (((w.alloc (.cells a s)).alloc (.cells b t)).alloc (.cells c u)).heap.size (((w.alloc (.cells a s)).alloc (.cells b t)).alloc (.cells c u)) w') :
    w.heap.size + 3 ≤ w'.heap.size ∧ Blk w' (w.heap.size + 1 + 1) c ∧ Below w.heap.size w w' := by
  obtain ⟨h1, h2, h3⟩ := blk_three w a b c s t u
  have hz := hb.size
  simp only [World.size_alloc] at hz
  exact ⟨by omega, h3.later hb h3.1, (below_three w _ _ _).trans (hb.mono (below_three w _ _ _).size)⟩

/-- Old blocks of S, or those behind three new ones. -/
def Out3 (w : World) (S : Nat → Prop) (b : Nat) : Prop := (b < w.heap.size ∧ S b) ∨ w.heap.size + 3 ≤ b
theorem Out3.new {w : World} {S : Nat → Prop} (b : Nat) (h : Out3 w S b) : New w S b := h.elim (fun h => .inr h.2) (fun h => .inl (by omega))
theorem not_out3 {w : World} {S : Nat → Prop} : ¬ Out3 w S (w.heap.size + 1 + 1) := fun h => by rcases h with h | h <;> omega

set_option maxHeartbeats 1000000 in
theorem does_add (u v : Value) (L : List (List Int)) (k : Nat) (kind : Int) (l : List Int) (S : Nat → Prop) (w : World) (L' : List (List Int)) (k' : Nat)
    (d0 : (kind == 0) = true) (hL : TxtsS w S u L) (hl : Txt w v l)
    (c : ∀ (S : Nat → Prop) w, TxtsS w S u L → Txt w v l → Calls Try.prog 6 #[.agg #[u, .int .i64 k], v] w (TellsR L' k' S w)) :
    Calls Try.prog 11 #[.agg #[u, .int .i64 k], .agg #[.int .i64 kind, v]] w (TellsR L' k' S w) := by
  have HV := Lib.hid (And.intro hL.old hl)
  have C := Lib.hid c
  clear hL hl c
  obtain ⟨A, c, rfl, _⟩ := HV.out.1.is
  obtain ⟨Av, cv, rfl, _⟩ := Sl.is HV.out.2
  go_enter Try.func11, Try.ntmps11
  go_wp2_with fail
  refine (C.out _ _ (HV.out.1.later (below_three w _ _ _)) (HV.out.2.later (below_three w _ _ _))).mono ?_
  rintro e w1 ⟨A1, n1, c1, rfl, ht1, hb1⟩
  obtain ⟨z1, B1, hbw⟩ := third_later hb1
  have ht2 : TxtsS w1 (Out3 w S) (.slice A1 n1 c1) L' := ht1.mono fun b hb => by
    rcases hb with hb | hb
    · exact .inr (by simpa [World.size_alloc] using hb)
    · exact .inl hb
  have H := Lib.hid (And.intro ht2 hbw)
  have HB := Lib.hid B1
  obtain ⟨_, k1, j1⟩ := (show _ from B1)
  clear ht1 hb1 B1 hbw ht2
  go_wp2
  refine at_world (Stored w S (w.heap.size + 1 + 1) (.slice A1 n1 c1) (.int .i64 k') L') ?_ ?_
  · exact stored_at HB.out H.out.2 (by omega) H.out.1 Out3.new not_out3
  rintro X ⟨x0, x1, hts, hX⟩
  refine bodyPost_ret (v := .agg #[.slice A1 n1 c1, .int .i64 k']) (by simp [results, Try.results11, go_sem, x0, x1]) rfl ⟨_, _, _, rfl, hts, hX⟩

set_option maxHeartbeats 1000000 in
theorem does_ahead (u v : Value) (L : List (List Int)) (k : Nat) (kind : Int) (l : List Int) (S : Nat → Prop) (w : World) (L' : List (List Int)) (k' : Nat)
    (d0 : (kind == 0) = false) (d1 : (kind == 1) = true) (hL : TxtsS w S u L) (hl : Txt w v l)
    (c : ∀ (S : Nat → Prop) w, TxtsS w S u L → Txt w v l → Calls Try.prog 18 #[.agg #[u, .int .i64 k], v, .bool true] w (TellsR L' k' S w)) :
    Calls Try.prog 11 #[.agg #[u, .int .i64 k], .agg #[.int .i64 kind, v]] w (TellsR L' k' S w) := by
  have HV := Lib.hid (And.intro hL.old hl)
  have C := Lib.hid c
  clear hL hl c
  obtain ⟨A, c, rfl, _⟩ := HV.out.1.is
  obtain ⟨Av, cv, rfl, _⟩ := Sl.is HV.out.2
  go_enter Try.func11, Try.ntmps11
  go_wp2_with fail
  refine (C.out _ _ (HV.out.1.later (below_three w _ _ _)) (HV.out.2.later (below_three w _ _ _))).mono ?_
  rintro e w1 ⟨A1, n1, c1, rfl, ht1, hb1⟩
  obtain ⟨z1, B1, hbw⟩ := third_later hb1
  have ht2 : TxtsS w1 (Out3 w S) (.slice A1 n1 c1) L' := ht1.mono fun b hb => by
    rcases hb with hb | hb
    · exact .inr (by simpa [World.size_alloc] using hb)
    · exact .inl hb
  have H := Lib.hid (And.intro ht2 hbw)
  have HB := Lib.hid B1
  obtain ⟨_, k1, j1⟩ := (show _ from B1)
  clear ht1 hb1 B1 hbw ht2
  go_wp2
  refine at_world (Stored w S (w.heap.size + 1 + 1) (.slice A1 n1 c1) (.int .i64 k') L') ?_ ?_
  · exact stored_at HB.out H.out.2 (by omega) H.out.1 Out3.new not_out3
  rintro X ⟨x0, x1, hts, hX⟩
  refine bodyPost_ret (v := .agg #[.slice A1 n1 c1, .int .i64 k']) (by simp [results, Try.results11, go_sem, x0, x1]) rfl ⟨_, _, _, rfl, hts, hX⟩

set_option maxHeartbeats 1000000 in
theorem does_behind (u v : Value) (L : List (List Int)) (k : Nat) (kind : Int) (l : List Int) (S : Nat → Prop) (w : World) (L' : List (List Int)) (k' : Nat)
    (d0 : (kind == 0) = false) (d1 : (kind == 1) = false) (d2 : (kind == 2) = true) (hL : TxtsS w S u L) (hl : Txt w v l)
    (c : ∀ (S : Nat → Prop) w, TxtsS w S u L → Txt w v l → Calls Try.prog 18 #[.agg #[u, .int .i64 k], v, .bool false] w (TellsR L' k' S w)) :
    Calls Try.prog 11 #[.agg #[u, .int .i64 k], .agg #[.int .i64 kind, v]] w (TellsR L' k' S w) := by
  have HV := Lib.hid (And.intro hL.old hl)
  have C := Lib.hid c
  clear hL hl c
  obtain ⟨A, c, rfl, _⟩ := HV.out.1.is
  obtain ⟨Av, cv, rfl, _⟩ := Sl.is HV.out.2
  go_enter Try.func11, Try.ntmps11
  go_wp2_with fail
  refine (C.out _ _ (HV.out.1.later (below_three w _ _ _)) (HV.out.2.later (below_three w _ _ _))).mono ?_
  rintro e w1 ⟨A1, n1, c1, rfl, ht1, hb1⟩
  obtain ⟨z1, B1, hbw⟩ := third_later hb1
  have ht2 : TxtsS w1 (Out3 w S) (.slice A1 n1 c1) L' := ht1.mono fun b hb => by
    rcases hb with hb | hb
    · exact .inr (by simpa [World.size_alloc] using hb)
    · exact .inl hb
  have H := Lib.hid (And.intro ht2 hbw)
  have HB := Lib.hid B1
  obtain ⟨_, k1, j1⟩ := (show _ from B1)
  clear ht1 hb1 B1 hbw ht2
  go_wp2
  refine at_world (Stored w S (w.heap.size + 1 + 1) (.slice A1 n1 c1) (.int .i64 k') L') ?_ ?_
  · exact stored_at HB.out H.out.2 (by omega) H.out.1 Out3.new not_out3
  rintro X ⟨x0, x1, hts, hX⟩
  refine bodyPost_ret (v := .agg #[.slice A1 n1 c1, .int .i64 k']) (by simp [results, Try.results11, go_sem, x0, x1]) rfl ⟨_, _, _, rfl, hts, hX⟩

set_option maxHeartbeats 1000000 in
theorem does_turn (u v : Value) (L : List (List Int)) (k : Nat) (kind : Int) (l : List Int) (S : Nat → Prop) (w : World) (L' : List (List Int)) (k' : Nat)
    (d0 : (kind == 0) = false) (d1 : (kind == 1) = false) (d2 : (kind == 2) = false) (hL : TxtsS w S u L) (hl : Txt w v l)
    (c : ∀ (S : Nat → Prop) w, TxtsS w S u L → Txt w v l → Calls Try.prog 13 #[.agg #[u, .int .i64 k]] w (TellsR L' k' S w)) :
    Calls Try.prog 11 #[.agg #[u, .int .i64 k], .agg #[.int .i64 kind, v]] w (TellsR L' k' S w) := by
  have HV := Lib.hid (And.intro hL.old hl)
  have C := Lib.hid c
  clear hL hl c
  obtain ⟨A, c, rfl, _⟩ := HV.out.1.is
  obtain ⟨Av, cv, rfl, _⟩ := Sl.is HV.out.2
  go_enter Try.func11, Try.ntmps11
  go_wp2_with fail
  refine (C.out _ _ (HV.out.1.later (below_three w _ _ _)) (HV.out.2.later (below_three w _ _ _))).mono ?_
  rintro e w1 ⟨A1, n1, c1, rfl, ht1, hb1⟩
  obtain ⟨z1, B1, hbw⟩ := third_later hb1
  have ht2 : TxtsS w1 (Out3 w S) (.slice A1 n1 c1) L' := ht1.mono fun b hb => by
    rcases hb with hb | hb
    · exact .inr (by simpa [World.size_alloc] using hb)
    · exact .inl hb
  have H := Lib.hid (And.intro ht2 hbw)
  have HB := Lib.hid B1
  obtain ⟨_, k1, j1⟩ := (show _ from B1)
  clear ht1 hb1 B1 hbw ht2
  go_wp2
  refine at_world (Stored w S (w.heap.size + 1 + 1) (.slice A1 n1 c1) (.int .i64 k') L') ?_ ?_
  · exact stored_at HB.out H.out.2 (by omega) H.out.1 Out3.new not_out3
  rintro X ⟨x0, x1, hts, hX⟩
  refine bodyPost_ret (v := .agg #[.slice A1 n1 c1, .int .i64 k']) (by simp [results, Try.results11, go_sem, x0, x1]) rfl ⟨_, _, _, rfl, hts, hX⟩

theorem getD_len {L : List (List Int)} {k b : Nat} (h : Fine (L, k) b) (j : Nat) : (L.getD j []).length ≤ b := by
  by_cases hj : j < L.length
  · rw [show L.getD j [] = L[j] by simp [List.getD, hj]]
    exact h.len _ (List.getElem_mem hj)
  · simp [List.getD, List.getElem?_eq_none (Nat.le_of_not_lt hj)]

theorem does_any (u v : Value) (L : List (List Int)) (k b : Nat) (kind : Int) (l : List Int) (S : Nat → Prop) (w : World) (hL : TxtsS w S u L) (hl : Txt w v l) (hf : Fine (L, k) b) (hb : b ≤ 10000) (hlen : l.length ≤ 20) :
    Calls Try.prog 11 #[.agg #[u, .int .i64 k], .agg #[.int .i64 kind, v]] w (TellsR (doesL (L, k) kind l).1 (doesL (L, k) kind l).2 S w) := by
  have hn : L.length ≤ 60 := hf.few
  unfold doesL
  by_cases h0 : kind = 0
  · rw [if_pos h0]
    exact does_add u v L k kind l S w _ _ (by simp [h0]) hL hl fun S w h1 h2 => add_any u v L l k S w h1 (by omega) h2 (by omega)
  · rw [if_neg h0]
    by_cases h1 : kind = 1
    · rw [if_pos h1]
      exact does_ahead u v L k kind l S w _ _ (by simp [h0]) (by simp [h1]) hL hl fun S w h1 h2 => join_any u v L l k true S w h1 h2 (by omega) (by have := getD_len hf 0; omega)
    · rw [if_neg h1]
      by_cases h2 : kind = 2
      · rw [if_pos h2]
        exact does_behind u v L k kind l S w _ _ (by simp [h0]) (by simp [h1]) (by simp [h2]) hL hl fun S w h1 h2 => join_any u v L l k false S w h1 h2 (by omega) (by have := getD_len hf 0; omega)
      · rw [if_neg h2]
        exact does_turn u v L k kind l S w _ _ (by simp [h0]) (by simp [h1]) (by simp [h2]) hL hl fun S w h1 _ => turn_any u k L b w S h1 hf

end Go.Proofs.Ytnninkbkndddhaa

/- store: read, Read. -/
import Derived.Test.YtfnieoffgnnldaaDoorStF
import Derived.Test.YtfnieoffgnnldaaDoorTxt
namespace Go.Proofs.YtfnieoffgnnldaaDoor
open Go.RowKit
set_option linter.unusedVariables false
set_option linter.unusedSimpArgs false

theorem eltT : Elt Tryd.prog 30 22 1 24 := elt_of Tryd.underlying30 (z := .slice none 0 0) (by kernel_rfl) rfl (by decide)
theorem eltN : Elt Tryd.prog 54 3 1 8 := elt_of Tryd.underlying54 (z := .int .i64 0) (by kernel_rfl) rfl (by decide)
/-- The lines, and where each entry ends. -/
def rdL : List Int → Nat → List Int → List (List Int × Nat)
  | cur, i, [] => []
  | cur, i, b :: t => if b = 10 then (match linP cur with
    | none => []
    | some l => (l, i + 1) :: rdL [] (i + 1) t) else rdL (cur ++ [b]) (i + 1) t
def part (l : List Int) (a b : Nat) : List Int := (l.drop a).take (b - a)
theorem part_snoc {l : List Int} {a b : Nat} {c : Int} (h : l[b]? = some c) (hab : a ≤ b) : part l a (b + 1) = part l a b ++ [c] := by
  unfold part
  rw [show b + 1 - a = (b - a) + 1 by omega, List.take_add_one, List.getElem?_drop, show a + (b - a) = b by omega, h]
  rfl
theorem part_nil (l : List Int) (a : Nat) : part l a a = [] := by unfold part; simp
theorem bts_part (s : ByteArray) (a b : Nat) : bts (s.extract a b) = part (bts s) a b := by
  unfold bts part
  rw [ByteArray.data_extract, Array.toList_extract, List.map_take, List.map_drop]
theorem rd_step {l cur : List Int} {j i : Nat} {b : Int} (h : l[j]? = some b) : rdL cur i (l.drop j) = if b = 10 then (match linP cur with
    | none => []
    | some x => (x, i + 1) :: rdL [] (i + 1) (l.drop (j + 1))) else rdL (cur ++ [b]) (i + 1) (l.drop (j + 1)) := by
  obtain ⟨hj, e⟩ := List.getElem?_eq_some_iff.1 h
  rw [List.drop_eq_getElem_cons hj, e]
  rfl
theorem own_apart {X : World} {b1 b2 : Nat} {e1 e2 : TypeId} {s1 s2 n1 n2 : Nat} {v1 v2 : Value} {xs1 xs2 : List Value} (h1 : X.ownsRow b1 e1 s1 v1 n1 xs1) (h2 : X.ownsRow b2 e2 s2 v2 n2 xs2) (hne : e1 ≠ e2) : v1.ownBlock = none ∨ v1.ownBlock ≠ v2.ownBlock := by
  rcases h1.2 with ⟨rfl, _⟩ | ⟨g, cap, cur, rfl, _, hgb, _⟩
  · exact .inl rfl
  · refine .inr fun e => ?_
    rcases h2.2 with ⟨rfl, _⟩ | ⟨g', cap', cur', rfl, _, hgb', _⟩
    · simp [Value.ownBlock] at e
    · obtain rfl : g = g' := by simpa [Value.ownBlock] using e
      rw [hgb] at hgb'
      simp at hgb'
      exact hne hgb'.2
/-- Two rows that grow. -/
structure RdI (w X : World) (A : Option Addr) (n c : Nat) (M : List (List Int)) (B : Option Addr) (m d : Nat) (E : List Nat) : Prop where
  vs : ∃ vs : List Value, X.ownsRow w.heap.size 22 1 (.slice A n c) n vs ∧ ∀ (j : Nat) (l : List Int), M[j]? = some l → ∃ Aj cj, vs[j]? = some (.slice Aj l.length cj) ∧ X.ownsRow w.heap.size 21 1 (.slice Aj l.length cj) l.length (l.map (Value.int .i32))
  es : X.ownsRow w.heap.size 3 1 (.slice B m d) m (E.map fun x => Value.int .i64 (x : Nat))
  la : M.length = n
  lb : E.length = m
  below : Below w.heap.size w X
section
variable {w X X' : World} {A : Option Addr} {n c : Nat} {M : List (List Int)} {B : Option Addr} {m d : Nat} {E : List Nat}
theorem RdI.start (w : World) : RdI w w none 0 0 [] none 0 0 [] := ⟨⟨[], World.ownsRow_nil _ _ _ _, fun j l h => by simp at h⟩, World.ownsRow_nil _ _ _ _, rfl, rfl, Below.refl _ _⟩
theorem RdI.later (h : RdI w X A n c M B m d E) (hb : Below X.heap.size X X') : RdI w X' A n c M B m d E := by
  obtain ⟨vs, h1, h2⟩ := h.vs
  exact ⟨⟨vs, own_later h1 hb, fun j l hj => by
    obtain ⟨Aj, cj, h3, h4⟩ := h2 j l hj
    exact ⟨Aj, cj, h3, own_later h4 hb⟩⟩, own_later h.es hb, h.la, h.lb, h.below.trans (hb.mono h.below.size)⟩
theorem RdI.pushA (h : RdI w X A n c M B m d E) {Al A' : Option Addr} {l : List Int} {cl c' : Nat} {vs : List Value} (hv : X.ownsRow w.heap.size 22 1 (.slice A n c) n vs ∧ ∀ (j : Nat) (l : List Int), M[j]? = some l → ∃ Aj cj, vs[j]? = some (.slice Aj l.length cj) ∧ X.ownsRow w.heap.size 21 1 (.slice Aj l.length cj) l.length (l.map (Value.int .i32)))
    (hl : X.ownsRow w.heap.size 21 1 (.slice Al l.length cl) l.length (l.map (Value.int .i32))) (hp : Pushed X X' w.heap.size 22 1 (.slice A n c) (n + 1) (vs ++ [.slice Al l.length cl]) A' c') : RdI w X' A' (n + 1) c' (M ++ [l]) B m d E := by
  obtain ⟨h1, h2⟩ := hv
  have hvl : vs.length = n := by have := h1.1; omega
  refine ⟨⟨vs ++ [.slice Al l.length cl], hp.own, fun j x hj => ?_⟩, h.es.kept hp.grown (own_apart h.es h1 (by decide)), by simp [h.la], h.lb, hp.below h.below h1 (Nat.le_refl _)⟩
  rcases Nat.lt_or_ge j M.length with hlt | hge
  · rw [List.getElem?_append_left hlt] at hj
    obtain ⟨Aj, cj, h3, h4⟩ := h2 j x hj
    exact ⟨Aj, cj, by rw [List.getElem?_append_left (by rw [hvl, ← h.la]; exact hlt)]; exact h3, h4.kept hp.grown (own_apart h4 h1 (by decide))⟩
  · rw [List.getElem?_append_right hge] at hj
    have hj0 : j - M.length = 0 := by
      have := (List.getElem?_eq_some_iff.1 hj).1
      simp at this
      omega
    rw [hj0] at hj
    simp at hj
    subst hj
    refine ⟨Al, cl, ?_, hl.kept hp.grown (own_apart hl h1 (by decide))⟩
    rw [List.getElem?_append_right (by rw [hvl, ← h.la]; exact hge), hvl, ← h.la, hj0]
    rfl
theorem RdI.pushB (h : RdI w X A n c M B m d E) {B' : Option Addr} {d' x : Nat} (hp : Pushed X X' w.heap.size 3 1 (.slice B m d) (m + 1) ((E.map fun x => Value.int .i64 (x : Nat)) ++ [.int .i64 (x : Nat)]) B' d') : RdI w X' A n c M B' (m + 1) d' (E ++ [x]) := by
  obtain ⟨vs, h1, h2⟩ := h.vs
  refine ⟨⟨vs, h1.kept hp.grown (own_apart h1 h.es (by decide)), fun j l hj => ?_⟩, by rw [List.map_append]; exact hp.own, h.la, by simp [h.lb], hp.below h.below h.es (Nat.le_refl _)⟩
  obtain ⟨Aj, cj, h3, h4⟩ := h2 j l hj
  exact ⟨Aj, cj, h3, h4.kept hp.grown (own_apart h4 h.es (by decide))⟩
theorem RdI.txts (h : RdI w X A n c M B m d E) : Txts X (.slice A n c) M := by
  obtain ⟨vs, h1, h2⟩ := h.vs
  exact txts_own h.la h1 (fun _ _ => trivial) fun j hj => by
    obtain ⟨Aj, cj, h3, h4⟩ := h2 j (M.getD j []) (by
      have : j < M.length := by rw [h.la]; exact hj
      simp [List.getD, this])
    exact ⟨_, h3, (txt_own rfl h4).mono fun _ _ => trivial⟩
theorem RdI.ends (h : RdI w X A n c M B m d E) : Rd X B m (fun j => .int .i64 ((E.getD j 0 : Nat) : Int)) := rd_own h.es fun j hj => by
  have : j < E.length := by rw [h.lb]; exact hj
  simp [List.getD, this]
end
def RdOut (w w' : World) (R : List (List Int × Nat)) (e : Ending) : Prop :=
  ∃ A c B d, e = .returned (.tuple #[.slice A R.length c, .slice B R.length d]) ∧ RdI w w' A R.length c (R.map (·.1)) B R.length d (R.map (·.2))
set_option maxRecDepth 100000 in
set_option maxHeartbeats 8000000 in
theorem read_any (s : ByteArray) (hs : s.size ≤ 10000) (w : World) (hM : MaxW w) : Calls Tryd.prog 32 #[.string s] w fun e w' => RdOut w w' (rdL [] 0 (bts s)) e := by
  obtain ⟨R, hR⟩ : ∃ R, rdL [] 0 (bts s) = R := ⟨_, rfl⟩
  have HR := Lib.hid (show ([] : List (List Int × Nat)) ++ rdL (part (bts s) 0 0) 0 ((bts s).drop 0) = R by rw [part_nil, List.drop_zero, List.nil_append]; exact hR)
  rw [hR]
  have HM := Lib.hid hM
  clear hR hM
  go_enter Tryd.func32, Tryd.ntmps32
  go_wp2_with fail
  go_loopw [4, 5, 6, 12] (fun lv ev fv i wr => ∃ (k a n : Nat) (A : Option Addr) (c : Nat) (B : Option Addr) (d : Nat), k ≤ s.size ∧ a ≤ k ∧ n ≤ k ∧ i = .int .i64 (k : Nat) ∧ fv = .int .i64 (a : Nat) ∧ lv = .slice A n c ∧ ev = .slice B n d ∧ Hid (∃ done, done ++ rdL (part (bts s) a k) k ((bts s).drop k) = R ∧ RdI w wr A n c (done.map (·.1)) B n d (done.map (·.2)))) (fun _ _ _ i _ => s.size - (intOf i).toNat)
  case atStart => exact ⟨0, 0, 0, none, 0, none, 0, Nat.zero_le _, Nat.le_refl _, Nat.le_refl _, rfl, rfl, rfl, rfl, Lib.hid ⟨[], HR.out, RdI.start w⟩⟩
  case round =>
    obtain ⟨k, a, n, A, c, B, d, hk, hak, hnk, rfl, rfl, rfl, rfl, HI⟩ := hrel
    obtain ⟨done, i1, i2⟩ := HI.out
    have H1 := Lib.hid (And.intro i1 i2)
    have hzw := i2.below.size
    clear HI i1 i2
    by_cases hlt : k < s.size
    · have hki : (k : Int) < (s.size : Int) := by omega
      have hk0 : (0 : Int) ≤ (k : Int) := by omega
      have hb : (bts s)[k]? = some ((s[k]'hlt).toNat : Int) := by
        have h2 : k < (bts s).length := by rw [bts_length]; exact hlt
        rw [List.getElem?_eq_getElem h2, ← bts_at s hlt]
        simp [List.getD, h2]
      have HS := Lib.hid (And.intro (rd_step (cur := part (bts s) a k) (i := k) hb) (part_snoc hb hak))
      by_cases h10 : (s[k]'hlt).toNat = 10
      · have d10 : (((s[k]'hlt).toNat : Int) != 10) = false := by simp; omega
        have hS2 := HS.out.1
        rw [if_pos (by omega)] at hS2
        have hpt : bts (s.extract a k) = part (bts s) a k := bts_part s a k
        have C1 := Lib.hid (lineOf_any (s.extract a k) (by rw [ByteArray.size_extract]; omega) wr (HM.out.later H1.out.2.below))
        rw [hpt] at C1
        obtain ⟨o, ho⟩ : ∃ o, linP (part (bts s) a k) = o := ⟨_, rfl⟩
        rw [ho] at C1 hS2
        have HS3 := Lib.hid hS2
        have g1 : (a : Int) ≤ (k : Int) := by omega
        have g2 : (k : Int) ≤ (s.size : Int) := by omega
        have g3 : (0 : Int) ≤ (a : Int) := by omega
        clear hb h10 hS2 hpt ho HS
        go_wp2_with fail
        refine C1.out.mono ?_
        rintro e w2 ⟨⟨l, Al, cl, ho, rfl, how, -⟩ | ⟨ho, A2, n2, c2, rfl⟩, hb2⟩
        · subst ho
          have H2 := Lib.hid (And.intro (H1.out.2.later hb2) (own_base how H1.out.2.below.size))
          have hz2 := H2.out.1.below.size
          have HN := Lib.hid (show (done ++ [(l, k + 1)]) ++ rdL (part (bts s) (k + 1) (k + 1)) (k + 1) ((bts s).drop (k + 1)) = R by
            rw [← H1.out.1, HS3.out, part_nil]
            simp)
          obtain ⟨vs, hvs⟩ := H2.out.1.vs
          have HV := Lib.hid hvs
          clear hvs how hb2 C1 HS3
          go_upto_region 12 with (at_builtin; refine wpList_push eltT HV.out.1 hz2 rfl rfl rfl rfl rfl rfl rfl (by unfold maxLen; omega) (by omega) ?_; intro A5 c5 w5 hp; have H5 := Lib.hid (H2.out.1.pushA HV.out H2.out.2 hp); clear hp)
          have hz5 := H5.out.below.size
          clear HV H2 hz2
          go_wp2_with (at_builtin; refine wpList_push eltN H5.out.es hz5 rfl rfl rfl rfl rfl rfl rfl (by unfold maxLen; omega) (by omega) ?_; intro B6 d6 w6 hp; have H6 := Lib.hid (H5.out.pushB (x := k + 1) hp); clear hp)
          go_roundw
          case rel => exact ⟨k + 1, k + 1, n + 1, A5, c5, B6, d6, by omega, Nat.le_refl _, by omega, by go_num, by go_num, rfl, rfl, Lib.hid ⟨done ++ [(l, k + 1)], HN.out, by rw [List.map_append, List.map_append]; exact H6.out⟩⟩
          case measure => simp [intOf]; omega
        · subst ho
          have H2 := Lib.hid (H1.out.2.later hb2)
          have HE := Lib.hid (show done = R by rw [← H1.out.1, HS3.out, List.append_nil])
          clear hb2 C1 HS3
          go_wp2_with fail
          go_ret2
          have hn : n = R.length := by rw [← HE.out, ← H2.out.la, List.length_map]
          subst hn
          exact ⟨A, c, B, d, rfl, by have := H2.out; rw [HE.out] at this; exact this⟩
      · have d10 : (((s[k]'hlt).toNat : Int) != 10) = true := by simp; omega
        have hS2 := HS.out.1
        rw [if_neg (by omega)] at hS2
        have HN := Lib.hid (show done ++ rdL (part (bts s) a (k + 1)) (k + 1) ((bts s).drop (k + 1)) = R by rw [← H1.out.1, hS2, HS.out.2])
        clear hb h10 hS2 HS
        go_wp2_with fail
        go_roundw
        case rel => exact ⟨k + 1, a, n, A, c, B, d, by omega, by omega, by omega, by go_num, rfl, rfl, rfl, Lib.hid ⟨done, HN.out, H1.out.2⟩⟩
        case measure => simp [intOf]; omega
    · obtain rfl : k = s.size := by omega
      have hd : decide ((s.size : Int) < (s.size : Int)) = false := by simp
      have HE := Lib.hid (show done = R by
        rw [← H1.out.1, List.drop_eq_nil_of_le (by rw [bts_length]; exact Nat.le_refl _)]
        exact (List.append_nil _).symm)
      go_wp2_with fail
      go_ret2
      have hn : n = R.length := by rw [← HE.out, ← H1.out.2.la, List.length_map]
      subst hn
      exact ⟨A, c, B, d, rfl, by have := H1.out.2; rw [HE.out] at this; exact this⟩
end Go.Proofs.YtfnieoffgnnldaaDoor

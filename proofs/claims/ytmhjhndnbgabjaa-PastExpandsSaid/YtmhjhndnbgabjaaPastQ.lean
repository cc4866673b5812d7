/- past: PastPlays' walk. -/
import Derived.Test.YtmhjhndnbgabjaaPastK
import Derived.Test.YtmhjhndnbgabjaaPastL
import Derived.Test.YtmhjhndnbgabjaaPastM
import Derived.Test.YtmhjhndnbgabjaaPastP
import Derived.Test.YtmhjhndnbgabjaaFewT
import Derived.Handy
namespace Go.Proofs.Ytmhjhndnbgabjaa
open Go.RowKit
set_option linter.unusedVariables false
set_option linter.unusedSimpArgs false

theorem radd_any (u v lv : Value) (L : List (List Int)) (l : List Int) (k : Int) (S : Nat → Prop) (w : World) (hL : TxtsS w S u L) (hn : L.length ≤ 1000) (hl : TxtS w S v l) :
    Calls Try.prog 10 #[.agg #[u, .int .i64 k, lv], v] w (TellsP (addL L l) 0 [] S w) := by
  unfold addL
  by_cases h0 : l = []
  · rw [if_pos (.inl h0)]; exact radd_nil u v lv L l k S w hL hn hl h0
  · by_cases h1 : L = []
    · have h := radd_first u v lv L l k S w hL hn hl h0 h1
      subst h1
      rw [if_neg (by simp [h0])]; exact h
    · have e : L.head? = some (L.getD 0 []) := by cases L with
        | nil => exact absurd rfl h1
        | cons a t => rfl
      by_cases hg : L.getD 0 [] = l
      · rw [if_pos (.inr (by rw [e, hg]))]; exact radd_again u v lv L l k S w hL hn hl h0 h1 hg
      · rw [if_neg (by rw [e]; simp only [h0, false_or]; intro h; injection h with h; exact hg h)]; exact radd_more u v lv L l k S w hL hn hl h0 h1 hg

theorem addL_rev (M : List (List Int)) (l : List Int) (hM : M.length ≤ 500) : addL M.reverse l = (addM M l).reverse := by
  unfold addL addM
  rw [List.head?_reverse]
  by_cases h : l = [] ∨ M.getLast? = some l
  · rw [if_pos h, if_pos h, List.take_of_length_le (by simpa using hM)]
  · rw [if_neg h, if_neg h, List.reverse_append, List.take_reverse, List.reverse_singleton, List.singleton_append]
theorem addM_mem' {M : List (List Int)} {l : List Int} {b : Nat} (h : ∀ x ∈ M, x.length ≤ b) (hl : l.length ≤ b) : ∀ x ∈ addM M l, x.length ≤ b := by
  intro x hx
  unfold addM at hx
  split at hx
  · exact h x hx
  · rcases List.mem_append.1 hx with hx | hx
    · exact h x (List.mem_of_mem_drop hx)
    · simp at hx; subst hx; exact hl
theorem addM_len' {M : List (List Int)} {l : List Int} {q : Nat} (h : M.length ≤ q) : (addM M l).length ≤ q + 1 := by
  unfold addM
  split
  · omega
  · simp only [List.length_append, List.length_drop, List.length_singleton]; omega
theorem few20q (v : Value) (l : List Int) (w : World) (h : Txt w v l) : Calls Try.prog 8 #[v, .int .i64 20] w fun e w' => ∃ A m c, e = .returned (.slice A m c) ∧ Hid (∀ (X : World) (S : Nat → Prop), TxtS X S v l → TxtS X S (.slice A m c) (l.take 20)) ∧ w = w' := by
  refine (few_any v l 20 w h (by omega)).mono fun e w' hh => ?_
  obtain ⟨A, c, he, ht, hw⟩ := hh
  exact ⟨A, _, c, he, Lib.hid ht, hw⟩

/-- Neither the law's past nor the document's. -/
def Off2 (w : World) (b : Nat) : Prop := b ≠ w.heap.size ∧ b ≠ w.heap.size + 1
theorem not_off0 {w : World} : ¬ Off2 w w.heap.size := fun h => h.1 rfl
theorem not_off1 {w : World} : ¬ Off2 w (w.heap.size + 1) := fun h => h.2 rfl
theorem off2_new {w X : World} (h : w.heap.size + 1 < X.heap.size) {b : Nat} (hb : New X (Off2 w) b) : Off2 w b := hb.elim (fun h' => ⟨by omega, by omega⟩) id
theorem ts_put3 {X : World} {S : Nat → Prop} {v : Value} {L : List (List Int)} {g : Nat} (hg : ¬ S g) (h : TxtsS X S v L) (a b c : Value) : TxtsS (put3 X g a b c) S v L :=
  ((h.far (p := ⟨g, 0, none⟩) hg a).far (p := ⟨g, 1, none⟩) hg b).far (p := ⟨g, 2, none⟩) hg c
theorem tt_put3 {X : World} {S : Nat → Prop} {v : Value} {l : List Int} {g : Nat} (hg : ¬ S g) (h : TxtS X S v l) (a b c : Value) : TxtS (put3 X g a b c) S v l :=
  Sl.far (p := ⟨g, 2, none⟩) (Sl.far (p := ⟨g, 1, none⟩) (Sl.far (p := ⟨g, 0, none⟩) h hg a) hg b) hg c
theorem blk_far3 {X : World} {g g' : Nat} {cs : Array Value} (h : Blk X g' cs) (hne : g ≠ g') (a b c : Value) : Blk (put3 X g a b c) g' cs :=
  ((h.far (p := ⟨g, 0, none⟩) hne a).far (p := ⟨g, 1, none⟩) hne b).far (p := ⟨g, 2, none⟩) hne c
theorem below_put3 {B : Nat} {w X : World} {g : Nat} (h : Below B w X) (hg : B ≤ g) (a b c : Value) : Below B w (put3 X g a b c) :=
  ((h.setCell (p := ⟨g, 0, none⟩) hg a).setCell (p := ⟨g, 1, none⟩) hg b).setCell (p := ⟨g, 2, none⟩) hg c

/-- The two variables of the law. -/
structure VQ (w : World) (a : Value) (k : Int) (b : Value) (M : List (List Int)) (s : List Int) (a' : Value) (k' : Int) (b' : Value) (L : List (List Int)) (s' : List Int) (X : World) : Prop where
  bp : Blk X w.heap.size #[a, .int .i64 k, b]
  bx : Blk X (w.heap.size + 1) #[a', .int .i64 k', b']
  tp : TxtsS X (Off2 w) a M
  tl : TxtS X (Off2 w) b s
  tx : TxtsS X (Off2 w) a' L
  tl' : TxtS X (Off2 w) b' s'
  below : Below w.heap.size w X
section
variable {w X Y : World} {a b a' b' na nb : Value} {k k' nk : Int} {M L nM : List (List Int)} {s s' ns : List Int}
theorem VQ.later (h : VQ w a k b M s a' k' b' L s' X) (hb : Below X.heap.size X Y) : VQ w a k b M s a' k' b' L s' Y :=
  ⟨h.bp.later hb h.bp.1, h.bx.later hb h.bx.1, h.tp.later hb, TxtS.later h.tl hb, h.tx.later hb, TxtS.later h.tl' hb, h.below.trans (hb.mono h.below.size)⟩
theorem VQ.setp (h : VQ w a k b M s a' k' b' L s' X) (ht : TxtsS X (Off2 w) na nM) (hs : TxtS X (Off2 w) nb ns) : VQ w na nk nb nM ns a' k' b' L s' (put3 X w.heap.size na (.int .i64 nk) nb) :=
  ⟨blk_put3 h.bp _ _ _, blk_far3 h.bx (by omega) _ _ _, ts_put3 not_off0 ht _ _ _, tt_put3 not_off0 hs _ _ _, ts_put3 not_off0 h.tx _ _ _, tt_put3 not_off0 h.tl' _ _ _, below_put3 h.below (Nat.le_refl _) _ _ _⟩
theorem VQ.setx (h : VQ w a k b M s a' k' b' L s' X) (ht : TxtsS X (Off2 w) na nM) (hs : TxtS X (Off2 w) nb ns) : VQ w a k b M s na nk nb nM ns (put3 X (w.heap.size + 1) na (.int .i64 nk) nb) :=
  ⟨blk_far3 h.bp (by omega) _ _ _, blk_put3 h.bx _ _ _, ts_put3 not_off1 h.tp _ _ _, tt_put3 not_off1 h.tl _ _ _, ts_put3 not_off1 ht _ _ _, tt_put3 not_off1 hs _ _ _, below_put3 h.below (Nat.le_succ _) _ _ _⟩
end
theorem vq_new (w : World) (r t : TypeId) : VQ w (.slice none 0 0) 0 (.slice none 0 0) [] [] (.slice none 0 0) 0 (.slice none 0 0) [] [] ((w.alloc (.cells #[.slice none 0 0, .int .i64 0, .slice none 0 0] r)).alloc (.cells #[.slice none 0 0, .int .i64 0, .slice none 0 0] t)) := by
  have h2 := blk_new (w.alloc (.cells #[.slice none 0 0, .int .i64 0, .slice none 0 0] r)) #[.slice none 0 0, .int .i64 0, .slice none 0 0] t
  rw [World.size_alloc] at h2
  exact ⟨(blk_new w _ r).alloc _, h2, Txts.nil _ _, Sl.nil _ _ _, Txts.nil _ _, Sl.nil _ _ _, below_two w _ _⟩

/-- Deeds that came in. -/
def Deeds3 (w : World) (A : Option Addr) (n : Nat) (K I : Nat → Int) (sv : Nat → Value) (ls : Nat → List Int) : Prop :=
  ∀ i, i < n → ∃ b o, A = some ⟨b, o, none⟩ ∧ b < w.heap.size ∧ w.cell? ⟨b, o + i * 3, none⟩ = some (.int .i64 (K i)) ∧ w.cell? ⟨b, o + i * 3 + 1, none⟩ = some (.int .i64 (I i)) ∧ w.cell? ⟨b, o + i * 3 + 2, none⟩ = some (sv i) ∧ Txt w (sv i) (ls i)
theorem Deeds3.later {w w' : World} {A : Option Addr} {n : Nat} {K I : Nat → Int} {sv : Nat → Value} {ls : Nat → List Int} (h : Deeds3 w A n K I sv ls) (hb : Below w.heap.size w w') : Deeds3 w' A n K I sv ls := by
  intro i hi
  obtain ⟨b, o, e, hl, h1, h2, h3, h4⟩ := h i hi
  exact ⟨b, o, e, Nat.lt_of_lt_of_le hl hb.size, (hb.cell (p := ⟨b, o + i * 3, none⟩) hl).trans h1, (hb.cell (p := ⟨b, o + i * 3 + 1, none⟩) hl).trans h2, (hb.cell (p := ⟨b, o + i * 3 + 2, none⟩) hl).trans h3, h4.later hb⟩

/-- Pasts that can be. -/
structure Fair (M : List (List Int)) (k : Int) (s : List Int) (q : Nat) : Prop where
  few : M.length ≤ q
  len : ∀ l ∈ M, l.length ≤ 20
  k0 : 0 ≤ k
  sl : s.length ≤ 20
theorem Fair.add {M : List (List Int)} {k : Int} {s : List Int} {q : Nat} (h : Fair M k s q) {l : List Int} (hl : l.length ≤ 20) : Fair (addM M l) 0 [] (q + 1) := ⟨addM_len' h.few, addM_mem' h.len hl, Int.le_refl _, by simp⟩
theorem Fair.go {M : List (List Int)} {k : Int} {s : List Int} {q : Nat} (h : Fair M k s q) (i : Int) {l : List Int} (hl : l.length ≤ 20) : Fair M (goM M k s i l).1 (goM M k s i l).2.1 (q + 1) := by
  have hx : ∀ x, lineM M k s i l = some x → 0 ≤ i := fun x hx => by
    unfold lineM at hx
    by_cases h : i < 0
    · rw [if_pos (.inl h)] at hx; cases hx
    · omega
  refine ⟨Nat.le_succ_of_le h.few, h.len, ?_, ?_⟩
  · unfold goM
    cases e : lineM M k s i l with
    | none => exact h.k0
    | some x => exact hx x e
  · unfold goM
    cases e : lineM M k s i l with
    | none => exact h.sl
    | some x =>
      show (leftM k s i l).length ≤ 20
      unfold leftM
      split
      · simp
      · split
        · exact hl
        · exact h.sl

set_option maxHeartbeats 8000000 in
set_option maxRecDepth 100000 in
theorem walk_PastPlays (w : World) (A : Option Addr) (n c : Nat) (K I : Nat → Int) (sv : Nat → Value) (ls : Nat → List Int) (hD : Deeds3 w A n K I sv ls) (hn : n ≤ c) (hc : c ≤ maxLen) : Calls Try.prog 3 #[.slice A n c] w (Yes w) := by
  have V0 := Lib.hid (vq_new w 26 28)
  have HD := Lib.hid hD
  unfold maxLen at hc
  clear hD
  go_enter Try.func3, Try.ntmps3
  go_wp2
  go_loopw [5] (fun i wr => ∃ q : Nat, q ≤ n ∧ q ≤ 100 ∧ i = .int .i64 q ∧ Hid (∃ A c B d A' c' B' d' k M s, VQ w (.slice A M.length c) k (.slice B s.length d) M s (.slice A' M.length c') k (.slice B' s.length d') M.reverse s wr ∧ Fair M k s q)) (fun i _ => n - (intOf i).toNat)
  case atStart => exact ⟨0, Nat.zero_le _, Nat.zero_le _, rfl, ⟨none, 0, none, 0, none, 0, none, 0, 0, [], [], V0.out, ⟨Nat.le_refl _, fun l hl => (by cases hl), Int.le_refl _, by simp⟩⟩⟩
  case round =>
    clear V0
    obtain ⟨q, hq, hq150, rfl, HR⟩ := hrel
    obtain ⟨A1, c1, B1, d1, A2, c2, B2, d2, k, M, s, V, hf⟩ := HR.out
    have V1 := Lib.hid V
    have HF := Lib.hid hf
    clear V hf HR
    obtain ⟨_, yy, jj⟩ := (show _ from V1.out.bp)
    have py0 := yy 0
    have py1 := yy 1
    have py2 := yy 2
    have pj0 := jj 0
    have pj1 := jj 1
    have pj2 := jj 2
    clear yy jj
    by_cases hlt : q < n ∧ q < 100
    · obtain ⟨hqn, hq2⟩ := hlt
      have hd : decide ((q : Int) < 100) = true := decide_eq_true (by omega)
      obtain ⟨b, o, rfl, hbl, hk1, hk2, hk3, htx⟩ := HD.out.later V1.out.below q hqn
      obtain ⟨l0, hl0⟩ : ∃ l0, ls q = l0 := ⟨_, rfl⟩
      obtain ⟨As, cs, es, _⟩ := Sl.is htx
      rw [hl0] at es htx
      rw [es] at hk3 htx
      have hto : Txt w (sv q) (ls q) := by
        obtain ⟨_, _, _, _, _, _, _, h⟩ := HD.out q hqn
        exact h
      rw [es, hl0] at hto
      have HTO : Hid (TxtS wr (Off2 w) (.slice As l0.length cs) l0) := Lib.hid (Sl.mono ((Sl.old hto).later V1.out.below) fun b hb => (show Off2 w b from ⟨by have := hb.1; omega, by have := hb.1; omega⟩))
      clear htx es hto hl0
      obtain ⟨Kq, hKq⟩ : ∃ x, K q = x := ⟨_, rfl⟩
      obtain ⟨Iq, hIq⟩ : ∃ x, I q = x := ⟨_, rfl⟩
      rw [hKq] at hk1
      rw [hIq] at hk2
      clear hKq hIq
      have C1 := Lib.hid (few20q (.slice As l0.length cs) l0 (wr.alloc (.cells #[.int .i64 Kq, .int .i64 Iq, .slice As l0.length cs] 30)) (TxtS.any (TxtS.later HTO.out (below_one _ _))))
      go_wp2_with fail
      (with_reducible refine C1.out.mono ?_)
      rintro e w1 ⟨A3, m3, c3, rfl, H3, rfl⟩
      obtain ⟨l, hl⟩ : ∃ l, l0.take 20 = l := ⟨_, rfl⟩
      rw [hl] at H3
      have HL20 : Hid (l.length ≤ 20) := Lib.hid (by rw [← hl, List.length_take]; omega)
      clear hl
      have hbWD := below_one wr (.cells #[.int .i64 Kq, .int .i64 Iq, .slice A3 m3 c3] 30)
      have VA := Lib.hid (V1.out.later hbWD)
      have BD := Lib.hid (blk_new wr #[.int .i64 Kq, .int .i64 Iq, .slice A3 m3 c3] 30)
      have TD := Lib.hid (H3.out _ _ (TxtS.later HTO.out hbWD))
      have hgt : w.heap.size + 1 < wr.heap.size := V1.out.bx.1
      have hne0 : w.heap.size ≠ wr.heap.size := by omega
      have hne1 : w.heap.size + 1 ≠ wr.heap.size := by omega
      have hne2 : wr.heap.size ≠ w.heap.size := by omega
      have hne3 : wr.heap.size ≠ w.heap.size + 1 := by omega
      clear hbWD hk1 hk2 hk3
      by_cases hK : Kq = 0
      · subst hK
        have C2 := Lib.hid (add_any (.slice A1 M.length c1) (.slice A3 m3 c3) (.slice B1 s.length d1) M l k (Off2 w) (wr.alloc (.cells #[.int .i64 0, .int .i64 Iq, .slice A3 m3 c3] 30)) VA.out.tp (TxtS.any TD.out) (by have := HF.out.few; omega) (by have := HL20.out; omega))
        go_wp2_with fail
        (with_reducible refine C2.out.mono ?_)
        rintro e w3 ⟨u3, v3, rfl, ht3, hs3, hb3⟩
        obtain ⟨M', hM'⟩ : ∃ M', addM M l = M' := ⟨_, rfl⟩
        rw [hM'] at ht3
        have HM' := Lib.hid hM'
        clear hM'
        obtain ⟨A4, c4, rfl, _⟩ := ht3.is
        obtain ⟨B4, d4, es, _⟩ := Sl.is hs3
        replace es : v3 = .slice B4 0 d4 := es
        subst es
        have hgt3 := VA.out.bx.1
        have V3 := Lib.hid ((VA.out.later hb3).setp (nk := 0) (ht3.mono fun b hb => off2_new hgt3 hb) (Sl.mono hs3 fun b hb => off2_new hgt3 hb))
        have U3 := Lib.hid (VA.out.later hb3)
        have D3 := Lib.hid (BD.out.later hb3 BD.out.1)
        have BD3 := Lib.hid (blk_far3 (BD.out.later hb3 BD.out.1) hne0 (.slice A4 M'.length c4) (.int .i64 0) (.slice B4 0 d4))
        have TD3 := Lib.hid (tt_put3 not_off0 (TxtS.later TD.out hb3) (.slice A4 M'.length c4) (.int .i64 0) (.slice B4 0 d4))
        clear ht3 hs3 hb3 hgt3
        clear py0 pj0 py1 pj1 py2 pj2
        obtain ⟨_, yy, jj⟩ := (show _ from U3.out.bp)
        have py0 := yy 0
        have py1 := yy 1
        have py2 := yy 2
        have pj0 := jj 0
        have pj1 := jj 1
        have pj2 := jj 2
        clear yy jj
        have C4 := radd_any (.slice A2 M.length c2) (.slice A3 m3 c3) (.slice B2 s.length d2) M.reverse l k (Off2 w) _ V3.out.tx (by have := HF.out.few; rw [List.length_reverse]; omega) TD3.out
        rw [addL_rev M l (by have := HF.out.few; omega), HM'.out] at C4
        unfold put3 at C4
        have C4 := Lib.hid C4
        obtain ⟨_, yy, jj⟩ := (show _ from U3.out.bx)
        have xy0 := yy 0
        have xy1 := yy 1
        have xy2 := yy 2
        have xj0 := jj 0
        have xj1 := jj 1
        have xj2 := jj 2
        clear yy jj
        obtain ⟨_, yy, jj⟩ := (show _ from D3.out)
        have dy0 := yy 0
        have dy1 := yy 1
        have dy2 := yy 2
        have dj0 := jj 0
        have dj1 := jj 1
        have dj2 := jj 2
        clear yy jj
        go_wp2_with fail
        (with_reducible refine C4.out.mono ?_)
        rintro e w6 ⟨u6, v6, rfl, ht6, hs6, hb6⟩
        obtain ⟨A6, c6, es6, _⟩ := ht6.is
        replace es6 : u6 = .slice A6 M'.length c6 := by rw [es6, List.length_reverse]
        subst es6
        obtain ⟨B6, d6, es, _⟩ := Sl.is hs6
        replace es : v6 = .slice B6 0 d6 := es
        subst es
        have hgt6 := V3.out.bx.1
        have V6 := Lib.hid ((V3.out.later hb6).setx (nk := 0) (ht6.mono fun b hb => off2_new hgt6 hb) (Sl.mono hs6 fun b hb => off2_new hgt6 hb))
        have U6 := Lib.hid (V3.out.later hb6)
        have D6 := Lib.hid (BD3.out.later hb6 BD3.out.1)
        have BD6 := Lib.hid (blk_far3 (BD3.out.later hb6 BD3.out.1) hne1 (.slice A6 M'.length c6) (.int .i64 0) (.slice B6 0 d6))
        have TD6 := Lib.hid (tt_put3 not_off1 (TxtS.later TD3.out hb6) (.slice A6 M'.length c6) (.int .i64 0) (.slice B6 0 d6))
        have HF6 : Hid (Fair M' 0 [] (q + 1)) := Lib.hid (by rw [← HM'.out]; exact HF.out.add HL20.out)
        clear ht6 hs6 hb6 hgt6
        clear py0 pj0 py1 pj1 py2 pj2
        clear xy0 xj0 xy1 xj1 xy2 xj2
        clear dy0 dj0 dy1 dj1 dy2 dj2
        obtain ⟨_, yy, jj⟩ := (show _ from U6.out.bp)
        have py0 := yy 0
        have py1 := yy 1
        have py2 := yy 2
        have pj0 := jj 0
        have pj1 := jj 1
        have pj2 := jj 2
        clear yy jj
        obtain ⟨_, yy, jj⟩ := (show _ from U6.out.bx)
        have xy0 := yy 0
        have xy1 := yy 1
        have xy2 := yy 2
        have xj0 := jj 0
        have xj1 := jj 1
        have xj2 := jj 2
        clear yy jj
        obtain ⟨_, yy, jj⟩ := (show _ from D6.out)
        have dy0 := yy 0
        have dy1 := yy 1
        have dy2 := yy 2
        have dj0 := jj 0
        have dj1 := jj 1
        have dj2 := jj 2
        clear yy jj
        have C8 := (same_past _ _ _ _ _ M' [] l 0 Iq _ V6.out.tp.any (TxtS.any V6.out.tl) V6.out.tx.any (TxtS.any V6.out.tl') (TxtS.any TD6.out) HF6.out.k0 (by have := HF6.out.few; omega) (fun x hx => by have := HF6.out.len x hx; omega) (by have := HF6.out.sl; omega) (by have := HL20.out; omega))
        unfold put3 at C8
        have C8 := Lib.hid C8
        go_wp2_with fail
        (with_reducible refine C8.out.mono ?_)
        rintro e w8 ⟨rfl, hb8⟩
        have V8 := Lib.hid (V6.out.later hb8)
        have T8 := Lib.hid (TxtS.later TD6.out hb8)
        have BD8 := Lib.hid (BD6.out.later hb8 BD6.out.1)
        clear hb8
        clear py0 pj0 py1 pj1 py2 pj2
        clear xy0 xj0 xy1 xj1 xy2 xj2
        clear dy0 dj0 dy1 dj1 dy2 dj2
        have C9 := Lib.hid (same_past _ _ _ _ _ M' [] l 0 0 _ V8.out.tp.any (TxtS.any V8.out.tl) V8.out.tx.any (TxtS.any V8.out.tl') (TxtS.any T8.out) HF6.out.k0 (by have := HF6.out.few; omega) (fun x hx => by have := HF6.out.len x hx; omega) (by have := HF6.out.sl; omega) (by have := HL20.out; omega))
        obtain ⟨_, yy, jj⟩ := (show _ from V8.out.bp)
        have py0 := yy 0
        have py1 := yy 1
        have py2 := yy 2
        have pj0 := jj 0
        have pj1 := jj 1
        have pj2 := jj 2
        clear yy jj
        obtain ⟨_, yy, jj⟩ := (show _ from V8.out.bx)
        have xy0 := yy 0
        have xy1 := yy 1
        have xy2 := yy 2
        have xj0 := jj 0
        have xj1 := jj 1
        have xj2 := jj 2
        clear yy jj
        obtain ⟨_, yy, jj⟩ := (show _ from BD8.out)
        have dy0 := yy 0
        have dy1 := yy 1
        have dy2 := yy 2
        have dj0 := jj 0
        have dj1 := jj 1
        have dj2 := jj 2
        clear yy jj
        go_wp2_with fail
        (with_reducible refine C9.out.mono ?_)
        rintro e w9 ⟨rfl, hb9⟩
        have V9 := Lib.hid (V8.out.later hb9)
        clear hb9
        clear py0 pj0 py1 pj1 py2 pj2
        clear xy0 xj0 xy1 xj1 xy2 xj2
        clear dy0 dj0 dy1 dj1 dy2 dj2
        go_wp2
        go_roundw
        case rel => exact ⟨q + 1, by omega, by omega, by go_num, ⟨_, _, _, _, _, _, _, _, _, _, _, V9.out, HF6.out⟩⟩
        case measure => simp [intOf]; omega
      · have dk : (Kq == 0) = false := by simpa using hK
        clear hK
        have HM1 := Lib.hid (show (∀ x ∈ M, x.length ≤ 1000000) ∧ s.length ≤ 1000000 ∧ l.length ≤ 1000000 from ⟨fun x hx => by have := HF.out.len x hx; omega, by have := HF.out.sl; omega, by have := HL20.out; omega⟩)
        have C2 := go_any (.slice A1 M.length c1) (.slice A3 m3 c3) (.slice B1 s.length d1) M s l k Iq (Off2 w) (wr.alloc (.cells #[.int .i64 Kq, .int .i64 Iq, .slice A3 m3 c3] 30)) VA.out.tp VA.out.tl (TxtS.any TD.out) HM1.out.1 HM1.out.2.1 HM1.out.2.2
        obtain ⟨⟨k', s', line, ok⟩, hg⟩ : ∃ g, goM M k s Iq l = g := ⟨_, rfl⟩
        rw [hg] at C2
        dsimp only at C2
        have C2 := Lib.hid C2
        have HG := Lib.hid hg
        have HF7 : Hid (Fair M k' s' (q + 1)) := Lib.hid (by have := HF.out.go Iq HL20.out; rw [hg] at this; exact this)
        clear hg
        go_wp2_with fail
        (with_reducible refine C2.out.mono ?_)
        rintro e w3 ⟨u3, v3, A4, n4, c4, rfl, ht3, hs3, hl3, hb3⟩
        obtain ⟨a3, e3, rfl, _⟩ := ht3.is
        obtain ⟨b3, f3, rfl, _⟩ := Sl.is hs3
        have hgt3 := VA.out.bx.1
        have U3 := Lib.hid (VA.out.later hb3)
        have D3 := Lib.hid (BD.out.later hb3 BD.out.1)
        have VQ3 := Lib.hid (U3.out.later (below_one w3 (.cells #[.slice a3 M.length e3, .int .i64 k', .slice b3 s'.length f3] 26)))
        have T3 := Lib.hid (And.intro (ht3.mono fun b hb => off2_new hgt3 hb) (And.intro (Sl.mono hs3 fun b hb => off2_new hgt3 hb) (TxtS.any hl3)))
        have TDQ := Lib.hid (TxtS.later (TxtS.later TD.out hb3) (below_one w3 (.cells #[.slice a3 M.length e3, .int .i64 k', .slice b3 s'.length f3] 26)))
        have hz3 : wr.heap.size < w3.heap.size := by have := hb3.size; simp only [World.size_alloc] at this; omega
        clear ht3 hs3 hl3 hb3 hgt3
        have C3 := rgo_any (.slice A2 M.length c2) (.slice A3 m3 c3) (.slice B2 s.length d2) M.reverse s l k Iq (Off2 w) (w3.alloc (.cells #[.slice a3 M.length e3, .int .i64 k', .slice b3 s'.length f3] 26)) VQ3.out.tx VQ3.out.tl' TDQ.out
        rw [go_rev M k HF.out.k0, HG.out] at C3
        dsimp only at C3
        have C3 := Lib.hid C3
        clear py0 pj0 py1 pj1 py2 pj2
        obtain ⟨_, yy, jj⟩ := (show _ from U3.out.bx)
        have xy0 := yy 0
        have xy1 := yy 1
        have xy2 := yy 2
        have xj0 := jj 0
        have xj1 := jj 1
        have xj2 := jj 2
        clear yy jj
        obtain ⟨_, yy, jj⟩ := (show _ from D3.out)
        have dy0 := yy 0
        have dy1 := yy 1
        have dy2 := yy 2
        have dj0 := jj 0
        have dj1 := jj 1
        have dj2 := jj 2
        clear yy jj
        go_wp2_with fail
        (with_reducible refine C3.out.mono ?_)
        rintro e w4 ⟨u4, v4, A5, n5, c5, rfl, ht4, hs4, hl4, hb4⟩
        obtain ⟨a4, e4, es4, _⟩ := ht4.is
        replace es4 : u4 = .slice a4 M.length e4 := by rw [es4, List.length_reverse]
        subst es4
        obtain ⟨b4, f4, rfl, _⟩ := Sl.is hs4
        have hgt4 := VQ3.out.bx.1
        have U4 := Lib.hid (VQ3.out.later hb4)
        have Q4 := Lib.hid ((blk_new w3 #[.slice a3 M.length e3, .int .i64 k', .slice b3 s'.length f3] 26).later hb4 (blk_new w3 _ _).1)
        have D4 := Lib.hid (((D3.out.alloc (.cells #[.slice a3 M.length e3, .int .i64 k', .slice b3 s'.length f3] 26))).later hb4 (D3.out.alloc (.cells #[.slice a3 M.length e3, .int .i64 k', .slice b3 s'.length f3] 26)).1)
        have TD4 := Lib.hid (TxtS.later TDQ.out hb4)
        have T4 := Lib.hid (And.intro (ht4.mono fun b hb => off2_new hgt4 hb) (And.intro (Sl.mono hs4 fun b hb => off2_new hgt4 hb) (TxtS.any hl4)))
        have T34 := Lib.hid (And.intro ((T3.out.1.later (below_one w3 (.cells #[.slice a3 M.length e3, .int .i64 k', .slice b3 s'.length f3] 26))).later hb4) (And.intro (TxtS.later (TxtS.later T3.out.2.1 (below_one w3 (.cells #[.slice a3 M.length e3, .int .i64 k', .slice b3 s'.length f3] 26))) hb4) (TxtS.later (TxtS.later T3.out.2.2 (below_one w3 (.cells #[.slice a3 M.length e3, .int .i64 k', .slice b3 s'.length f3] 26))) hb4)))
        have hz4 : w3.heap.size < w4.heap.size := by have := hb4.size; simp only [World.size_alloc] at this; omega
        clear ht4 hs4 hl4 hb4 hgt4
        have hbe : (ok != ok) = false := by simp
        have C5 := Lib.hid (same_far (.slice A4 n4 c4) (.slice A5 n5 c5) line (w4.alloc (.cells #[.slice a4 M.length e4, .int .i64 k', .slice b4 s'.length f4] 28)) (TxtS.later T34.out.2.2 (below_one _ _)) (TxtS.later T4.out.2.2 (below_one _ _)))
        clear xy0 xj0 xy1 xj1 xy2 xj2
        clear dy0 dj0 dy1 dj1 dy2 dj2
        obtain ⟨_, yy, jj⟩ := (show _ from U4.out.bp)
        have py0 := yy 0
        have py1 := yy 1
        have py2 := yy 2
        have pj0 := jj 0
        have pj1 := jj 1
        have pj2 := jj 2
        clear yy jj
        obtain ⟨_, yy, jj⟩ := (show _ from U4.out.bx)
        have xy0 := yy 0
        have xy1 := yy 1
        have xy2 := yy 2
        have xj0 := jj 0
        have xj1 := jj 1
        have xj2 := jj 2
        clear yy jj
        obtain ⟨_, yy, jj⟩ := (show _ from D4.out)
        have dy0 := yy 0
        have dy1 := yy 1
        have dy2 := yy 2
        have dj0 := jj 0
        have dj1 := jj 1
        have dj2 := jj 2
        clear yy jj
        go_wp2_with fail
        (with_reducible refine C5.out.mono ?_)
        rintro e w5 ⟨rfl, hb5⟩
        have hb5' := (below_one w4 (.cells #[.slice a4 M.length e4, .int .i64 k', .slice b4 s'.length f4] 28)).trans (hb5.mono (below_one w4 (.cells #[.slice a4 M.length e4, .int .i64 k', .slice b4 s'.length f4] 28)).size)
        have V5 := Lib.hid (U4.out.later hb5')
        have Q5 := Lib.hid (Q4.out.later hb5' Q4.out.1)
        have Y5 := Lib.hid ((blk_new w4 #[.slice a4 M.length e4, .int .i64 k', .slice b4 s'.length f4] 28).later hb5 (blk_new w4 _ _).1)
        have D5 := Lib.hid (D4.out.later hb5' D4.out.1)
        have TD5 := Lib.hid (TxtS.later TD4.out hb5')
        have T35 := Lib.hid (And.intro (T34.out.1.later hb5') (TxtS.later T34.out.2.1 hb5'))
        have T45 := Lib.hid (And.intro (T4.out.1.later hb5') (TxtS.later T4.out.2.1 hb5'))
        clear hb5 hb5'
        clear py0 pj0 py1 pj1 py2 pj2
        clear xy0 xj0 xy1 xj1 xy2 xj2
        clear dy0 dj0 dy1 dj1 dy2 dj2
        have C6 := Lib.hid (same_past _ _ _ _ _ M s l k Iq _ V5.out.tp.any (TxtS.any V5.out.tl) V5.out.tx.any (TxtS.any V5.out.tl') (TxtS.any TD5.out) HF.out.k0 (by have := HF.out.few; omega) (fun x hx => by have := HF.out.len x hx; omega) (by have := HF.out.sl; omega) (by have := HL20.out; omega))
        obtain ⟨_, yy, jj⟩ := (show _ from V5.out.bp)
        have py0 := yy 0
        have py1 := yy 1
        have py2 := yy 2
        have pj0 := jj 0
        have pj1 := jj 1
        have pj2 := jj 2
        clear yy jj
        obtain ⟨_, yy, jj⟩ := (show _ from V5.out.bx)
        have xy0 := yy 0
        have xy1 := yy 1
        have xy2 := yy 2
        have xj0 := jj 0
        have xj1 := jj 1
        have xj2 := jj 2
        clear yy jj
        obtain ⟨_, yy, jj⟩ := (show _ from D5.out)
        have dy0 := yy 0
        have dy1 := yy 1
        have dy2 := yy 2
        have dj0 := jj 0
        have dj1 := jj 1
        have dj2 := jj 2
        clear yy jj
        go_wp2_with fail
        (with_reducible refine C6.out.mono ?_)
        rintro e w6 ⟨rfl, hb6⟩
        have V6 := Lib.hid (V5.out.later hb6)
        have Q6 := Lib.hid (Q5.out.later hb6 Q5.out.1)
        have Y6 := Lib.hid (Y5.out.later hb6 Y5.out.1)
        have D6 := Lib.hid (D5.out.later hb6 D5.out.1)
        have TD6 := Lib.hid (TxtS.later TD5.out hb6)
        have T36 := Lib.hid (And.intro (T35.out.1.later hb6) (TxtS.later T35.out.2 hb6))
        have T46 := Lib.hid (And.intro (T45.out.1.later hb6) (TxtS.later T45.out.2 hb6))
        clear hb6
        have W7 := Lib.hid (V6.out.setp (nk := k') T36.out.1 T36.out.2)
        have V7 := Lib.hid (W7.out.setx (nk := k') (ts_put3 not_off0 T46.out.1 (.slice a3 M.length e3) (.int .i64 k') (.slice b3 s'.length f3)) (tt_put3 not_off0 T46.out.2 (.slice a3 M.length e3) (.int .i64 k') (.slice b3 s'.length f3)))
        have TD7 := Lib.hid (tt_put3 not_off1 (tt_put3 not_off0 TD6.out (.slice a3 M.length e3) (.int .i64 k') (.slice b3 s'.length f3)) (.slice a4 M.length e4) (.int .i64 k') (.slice b4 s'.length f4))
        have BD7 := Lib.hid (blk_far3 (blk_far3 D6.out hne0 (.slice a3 M.length e3) (.int .i64 k') (.slice b3 s'.length f3)) hne1 (.slice a4 M.length e4) (.int .i64 k') (.slice b4 s'.length f4))
        have g1 : w3.heap.size ≠ w.heap.size := by omega
        have g2 : w3.heap.size ≠ w.heap.size + 1 := by omega
        have g3 : w4.heap.size ≠ w.heap.size := by omega
        have g4 : w4.heap.size ≠ w.heap.size + 1 := by omega
        have g5 : w.heap.size ≠ w3.heap.size := by omega
        have g6 : w.heap.size + 1 ≠ w3.heap.size := by omega
        have g7 : w.heap.size ≠ w4.heap.size := by omega
        have g8 : w.heap.size + 1 ≠ w4.heap.size := by omega
        clear py0 pj0 py1 pj1 py2 pj2
        clear xy0 xj0 xy1 xj1 xy2 xj2
        clear dy0 dj0 dy1 dj1 dy2 dj2
        obtain ⟨_, yy, jj⟩ := (show _ from V6.out.bp)
        have py0 := yy 0
        have py1 := yy 1
        have py2 := yy 2
        have pj0 := jj 0
        have pj1 := jj 1
        have pj2 := jj 2
        clear yy jj
        obtain ⟨_, yy, jj⟩ := (show _ from V6.out.bx)
        have xy0 := yy 0
        have xy1 := yy 1
        have xy2 := yy 2
        have xj0 := jj 0
        have xj1 := jj 1
        have xj2 := jj 2
        clear yy jj
        obtain ⟨_, yy, jj⟩ := (show _ from D6.out)
        have dy0 := yy 0
        have dy1 := yy 1
        have dy2 := yy 2
        have dj0 := jj 0
        have dj1 := jj 1
        have dj2 := jj 2
        clear yy jj
        obtain ⟨_, yy, jj⟩ := (show _ from Q6.out)
        have gy0 := yy 0
        have gy1 := yy 1
        have gy2 := yy 2
        have gj0 := jj 0
        have gj1 := jj 1
        have gj2 := jj 2
        clear yy jj
        obtain ⟨_, yy, jj⟩ := (show _ from Y6.out)
        have hy0 := yy 0
        have hy1 := yy 1
        have hy2 := yy 2
        have hj0 := jj 0
        have hj1 := jj 1
        have hj2 := jj 2
        clear yy jj
        have C8 := (same_past _ _ _ _ _ M s' l k' Iq _ V7.out.tp.any (TxtS.any V7.out.tl) V7.out.tx.any (TxtS.any V7.out.tl') (TxtS.any TD7.out) HF7.out.k0 (by have := HF7.out.few; omega) (fun x hx => by have := HF7.out.len x hx; omega) (by have := HF7.out.sl; omega) (by have := HL20.out; omega))
        unfold put3 at C8
        have C8 := Lib.hid C8
        go_wp2_with fail
        (with_reducible refine C8.out.mono ?_)
        rintro e w8 ⟨rfl, hb8⟩
        have V8 := Lib.hid (V7.out.later hb8)
        have T8 := Lib.hid (TxtS.later TD7.out hb8)
        have BD8 := Lib.hid (BD7.out.later hb8 BD7.out.1)
        clear hb8
        clear gy0 gj0 gy1 gj1 gy2 gj2
        clear hy0 hj0 hy1 hj1 hy2 hj2
        clear py0 pj0 py1 pj1 py2 pj2
        clear xy0 xj0 xy1 xj1 xy2 xj2
        clear dy0 dj0 dy1 dj1 dy2 dj2
        have C9 := Lib.hid (same_past _ _ _ _ _ M s' l k' 0 _ V8.out.tp.any (TxtS.any V8.out.tl) V8.out.tx.any (TxtS.any V8.out.tl') (TxtS.any T8.out) HF7.out.k0 (by have := HF7.out.few; omega) (fun x hx => by have := HF7.out.len x hx; omega) (by have := HF7.out.sl; omega) (by have := HL20.out; omega))
        obtain ⟨_, yy, jj⟩ := (show _ from V8.out.bp)
        have py0 := yy 0
        have py1 := yy 1
        have py2 := yy 2
        have pj0 := jj 0
        have pj1 := jj 1
        have pj2 := jj 2
        clear yy jj
        obtain ⟨_, yy, jj⟩ := (show _ from V8.out.bx)
        have xy0 := yy 0
        have xy1 := yy 1
        have xy2 := yy 2
        have xj0 := jj 0
        have xj1 := jj 1
        have xj2 := jj 2
        clear yy jj
        obtain ⟨_, yy, jj⟩ := (show _ from BD8.out)
        have dy0 := yy 0
        have dy1 := yy 1
        have dy2 := yy 2
        have dj0 := jj 0
        have dj1 := jj 1
        have dj2 := jj 2
        clear yy jj
        go_wp2_with fail
        (with_reducible refine C9.out.mono ?_)
        rintro e w9 ⟨rfl, hb9⟩
        have V9 := Lib.hid (V8.out.later hb9)
        clear hb9
        clear py0 pj0 py1 pj1 py2 pj2
        clear xy0 xj0 xy1 xj1 xy2 xj2
        clear dy0 dj0 dy1 dj1 dy2 dj2
        go_wp2
        go_roundw
        case rel => exact ⟨q + 1, by omega, by omega, by go_num, ⟨_, _, _, _, _, _, _, _, _, _, _, V9.out, HF7.out⟩⟩
        case measure => simp [intOf]; omega
    · have hor : q = n ∨ (q < n ∧ q = 100) := by omega
      have HB := Lib.hid V1.out.below
      clear hlt
      rcases hor with rfl | ⟨hqn, rfl⟩
      · go_wp2_with (go_at_call 15; refine (awake_yes _).mono ?_; rintro e w4 ⟨rfl, hb4⟩)
        go_ret
        exact ⟨rfl, HB.out.trans (hb4.mono HB.out.size)⟩
      · go_wp2_with (go_at_call 15; refine (awake_yes _).mono ?_; rintro e w4 ⟨rfl, hb4⟩)
        go_ret
        exact ⟨rfl, HB.out.trans (hb4.mono HB.out.size)⟩
end Go.Proofs.Ytmhjhndnbgabjaa

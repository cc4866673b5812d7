/- store: the past of a store. -/
import Derived.Test.YtfnieoffgnnldaaDoorStN
import Derived.Test.YtfnieoffgnnldaaDoorSpZ
namespace Go.Proofs.YtfnieoffgnnldaaDoor
open Go.RowKit
set_option linter.unusedVariables false
set_option linter.unusedSimpArgs false

def pastM (L : List (List Int)) : List (List Int) := L.foldl addM []
theorem pastM_snoc (L : List (List Int)) (l : List Int) : pastM (L ++ [l]) = addM (pastM L) l := by simp [pastM]
theorem pastM_len (L : List (List Int)) : (pastM L).length ≤ L.length := by
  have : ∀ (L M : List (List Int)) (q : Nat), M.length ≤ q → (L.foldl addM M).length ≤ q + L.length := by
    intro L
    induction L with
    | nil => intro M q h; simpa using h
    | cons l L ih =>
      intro M q h
      have := ih (addM M l) (q + 1) (addM_len' h)
      simp only [List.foldl_cons, List.length_cons]
      omega
  simpa [pastM] using this L [] 0 (Nat.le_refl _)
theorem pastM_mem {L : List (List Int)} {b : Nat} (h : ∀ l ∈ L, l.length ≤ b) : ∀ l ∈ pastM L, l.length ≤ b := by
  have : ∀ (L M : List (List Int)), (∀ l ∈ L, l.length ≤ b) → (∀ l ∈ M, l.length ≤ b) → ∀ l ∈ L.foldl addM M, l.length ≤ b := by
    intro L
    induction L with
    | nil => intro M _ h; simpa using h
    | cons l L ih =>
      intro M h1 h2
      simp only [List.foldl_cons]
      exact ih _ (fun x hx => h1 x (by simp [hx])) (addM_mem' h2 (h1 l (by simp)))
  exact this L [] h (fun l hl => by cases hl)
theorem take_succ_at {L : List (List Int)} {k : Nat} (h : k < L.length) : L.take (k + 1) = L.take k ++ [L.getD k []] := by
  rw [List.take_add_one]
  simp [List.getD, h]
/-! ### How long a line is -/
theorem chT_pos (r : Int) : 1 ≤ (chT r).length := by
  unfold chT
  split
  · simp
  · split
    · simp
    · exact (putS_range r).2.1
theorem txtI_ge : ∀ l : List Int, l.length ≤ (txtI l).length
  | [] => Nat.le_refl _
  | r :: l => by
    rw [txtI_cons, List.length_append, List.length_cons]
    have := txtI_ge l
    have := chT_pos r
    omega
theorem lin_len {bs l : List Int} (h : linP bs = some l) : l.length ≤ bs.length := by
  have h1 := ent_parts (lin_ent h)
  have h2 := txtI_ge l
  rw [← h1.2.2.2, List.length_drop] at h2
  omega
theorem rdL_short : ∀ (l cur : List Int) (i : Nat), ∀ x ∈ rdL cur i l, x.1.length ≤ cur.length + l.length
  | [], cur, i, x, hx => by cases hx
  | b :: t, cur, i, x, hx => by
    have hx' : x ∈ (if b = 10 then (match linP cur with | none => [] | some l => (l, i + 1) :: rdL [] (i + 1) t) else rdL (cur ++ [b]) (i + 1) t) := hx
    split at hx'
    · cases hl : linP cur with
      | none => rw [hl] at hx'; cases hx'
      | some l =>
        rw [hl] at hx'
        rcases List.mem_cons.1 hx' with rfl | hx'
        · have := lin_len hl
          simp
          omega
        · have := rdL_short t [] (i + 1) x hx'
          simp at this
          simp
          omega
    · have := rdL_short t (cur ++ [b]) (i + 1) x hx'
      simp at this
      simp
      omega
/-! ### The variables -/
theorem ts_put3 {X : World} {S : Nat → Prop} {v : Value} {L : List (List Int)} {g : Nat} (hg : ¬ S g) (h : TxtsS X S v L) (a b c : Value) : TxtsS (put3 X g a b c) S v L :=
  ((h.far (p := ⟨g, 0, none⟩) hg a).far (p := ⟨g, 1, none⟩) hg b).far (p := ⟨g, 2, none⟩) hg c
theorem blk_far3 {X : World} {g g' : Nat} {cs : Array Value} (h : Blk X g' cs) (hne : g ≠ g') (a b c : Value) : Blk (put3 X g a b c) g' cs :=
  ((h.far (p := ⟨g, 0, none⟩) hne a).far (p := ⟨g, 1, none⟩) hne b).far (p := ⟨g, 2, none⟩) hne c
theorem below_put3 {B : Nat} {w X : World} {g : Nat} (h : Below B w X) (hg : B ≤ g) (a b c : Value) : Below B w (put3 X g a b c) :=
  ((h.setCell (p := ⟨g, 0, none⟩) hg a).setCell (p := ⟨g, 1, none⟩) hg b).setCell (p := ⟨g, 2, none⟩) hg c
structure PsI (w : World) (A : Option Addr) (c : Nat) (B : Option Addr) (d : Nat) (M : List (List Int)) (Q : Option Addr) (q : Nat) (L : List (List Int)) (X : World) : Prop where
  res : Blk X w.heap.size #[.slice none 0 0, .int .i64 0, .slice none 0 0]
  blk : Blk X (w.heap.size + 1) #[.slice A M.length c, .int .i64 0, .slice B 0 d]
  ts : TxtsS X (Aft (w.heap.size + 1)) (.slice A M.length c) M
  ls : TxtsS X (Aft (w.heap.size + 1)) (.slice Q L.length q) L
  below : Below w.heap.size w X
theorem PsI.later {w X Y : World} {A B Q : Option Addr} {c d q : Nat} {M L : List (List Int)} (h : PsI w A c B d M Q q L X) (hb : Below X.heap.size X Y) : PsI w A c B d M Q q L Y :=
  ⟨h.res.later hb h.res.1, h.blk.later hb h.blk.1, h.ts.later hb, h.ls.later hb, h.below.trans (hb.mono h.below.size)⟩
theorem PsI.add {w X Y : World} {A B Q A' B' : Option Addr} {c d q c' d' : Nat} {M M' L : List (List Int)} (h : PsI w A c B d M Q q L X) (hb : Below X.heap.size X Y) (ht : TxtsS Y (Aft (w.heap.size + 1)) (.slice A' M'.length c') M') :
    PsI w A' c' B' d' M' Q q L (put3 Y (w.heap.size + 1) (.slice A' M'.length c') (.int .i64 0) (.slice B' 0 d')) := by
  have h2 := h.later hb
  exact ⟨blk_far3 h2.res (by omega) _ _ _, blk_put3 h2.blk _ _ _, ts_put3 (fun e => Nat.lt_irrefl _ e) ht _ _ _, ts_put3 (fun e => Nat.lt_irrefl _ e) h2.ls _ _ _, below_put3 h2.below (by omega) _ _ _⟩
/-- The result's block, written. -/
structure PsX (w : World) (A : Option Addr) (c : Nat) (b : Value) (M : List (List Int)) (X : World) : Prop where
  x0 : X.cell? ⟨w.heap.size, 0, none⟩ = some (.slice A M.length c)
  x1 : X.cell? ⟨w.heap.size, 1, none⟩ = some (.int .i64 0)
  x2 : X.cell? ⟨w.heap.size, 2, none⟩ = some b
  ts : Txts X (.slice A M.length c) M
  below : Below w.heap.size w X
theorem PsI.done {w X : World} {A B Q : Option Addr} {c d q : Nat} {M L : List (List Int)} (h : PsI w A c B d M Q q L X) : PsX w A c (.slice B 0 d) M (put3 X w.heap.size (.slice A M.length c) (.int .i64 0) (.slice B 0 d)) := by
  have hB := blk_put3 h.res (.slice A M.length c) (.int .i64 0) (.slice B 0 d)
  exact ⟨hB.2.1 0, hB.2.1 1, hB.2.1 2, (ts_put3 (S := Aft (w.heap.size + 1)) (fun e => by unfold Aft at e; omega) h.ts _ _ _).any, below_put3 h.below (Nat.le_refl _) _ _ _⟩
theorem RdI.aft {w X : World} {A B : Option Addr} {n c m d : Nat} {M : List (List Int)} {E : List Nat} {S : Nat → Prop} (h : RdI w X A n c M B m d E) (hS : ∀ b, w.heap.size ≤ b → S b) : TxtsS X S (.slice A n c) M := by
  obtain ⟨vs, h1, h2⟩ := h.vs
  exact txts_own h.la h1 hS fun j hj => by
    obtain ⟨Aj, cj, h3, h4⟩ := h2 j (M.getD j []) (by
      have : j < M.length := by rw [h.la]; exact hj
      simp [List.getD, this])
    exact ⟨_, h3, (txt_own rfl h4).mono hS⟩
theorem psI_start {w X : World} {A : Option Addr} {n c m d : Nat} {B : Option Addr} {L : List (List Int)} {E : List Nat} {t : TypeId} (h : RdI ((w.alloc (.cells #[.slice none 0 0, .int .i64 0, .slice none 0 0] t)).alloc (.cells #[.slice none 0 0, .int .i64 0, .slice none 0 0] t)) X A n c L B m d E) : PsI w none 0 none 0 [] A c L X := by
  have h2 := blk_new (w.alloc (.cells #[.slice none 0 0, .int .i64 0, .slice none 0 0] t)) #[.slice none 0 0, .int .i64 0, .slice none 0 0] t
  rw [World.size_alloc] at h2
  have h1 := (blk_new w #[.slice none 0 0, .int .i64 0, .slice none 0 0] t).later (below_one (w.alloc (.cells #[.slice none 0 0, .int .i64 0, .slice none 0 0] t)) (.cells #[.slice none 0 0, .int .i64 0, .slice none 0 0] t)) (blk_new w _ t).1
  refine ⟨h1.later h.below h1.1, h2.later h.below h2.1, Txts.nil _ _, ?_, (below_two w _ _).trans (h.below.mono (below_two w _ _).size)⟩
  rw [h.la]
  exact h.aft fun b hb => by
    simp only [World.size_alloc] at hb
    show w.heap.size + 1 < b
    omega
set_option maxRecDepth 100000 in
set_option maxHeartbeats 8000000 in
theorem past_any (s : ByteArray) (hs : s.size ≤ 600) (w : World) (hM : MaxW w) : Calls Tryd.prog 21 #[.string s] w fun e w' => ∃ A c B d, e = .returned (.agg #[.slice A (pastM ((rdL [] 0 (bts s)).map (·.1))).length c, .int .i64 0, .slice B 0 d]) ∧ Txts w' (.slice A (pastM ((rdL [] 0 (bts s)).map (·.1))).length c) (pastM ((rdL [] 0 (bts s)).map (·.1))) ∧ Below w.heap.size w w' := by
  have C1 := Lib.hid (read_any s (by omega) ((w.alloc (.cells #[.slice none 0 0, .int .i64 0, .slice none 0 0] 43)).alloc (.cells #[.slice none 0 0, .int .i64 0, .slice none 0 0] 43)) (hM.later (below_two w _ _)))
  obtain ⟨R, hR⟩ : ∃ R, rdL [] 0 (bts s) = R := ⟨_, rfl⟩
  have hRl : R.length ≤ 600 := by
    have := rdL_len (bts s) [] 0
    rw [hR, bts_length] at this
    omega
  have hRs : ∀ l ∈ R.map (·.1), l.length ≤ 600 := by
    intro l hl
    obtain ⟨x, hx, rfl⟩ := List.mem_map.1 hl
    have := rdL_short (bts s) [] 0 x (by rw [hR]; exact hx)
    rw [bts_length] at this
    simp at this
    omega
  unfold RdOut at C1
  rw [hR] at C1 ⊢
  have hln : R.length = (R.map (·.1)).length := by simp
  rw [hln] at C1 hRl
  obtain ⟨L, hL⟩ : ∃ L, R.map (·.1) = L := ⟨_, rfl⟩
  rw [hL] at C1 hRl hRs ⊢
  have HS := Lib.hid hRs
  have HM := Lib.hid (pastM_len L)
  clear hR hln hL hM hRs
  go_enter Tryd.func21, Tryd.ntmps21
  go_wp2_with fail
  refine C1.out.mono ?_
  rintro e w1 ⟨Q, q, B0, d0, rfl, h1⟩
  have H1 := Lib.hid (psI_start h1)
  clear h1 C1
  dsimp only
  go_wp2_with fail
  go_loopw [15] (fun i wr => ∃ k : Nat, k ≤ L.length ∧ i = .int .i64 (k : Nat) ∧ Hid (∃ A c B d, PsI w A c B d (pastM (L.take k)) Q q L wr)) (fun i _ => L.length - (intOf i).toNat)
  case atStart => exact ⟨0, Nat.zero_le _, rfl, Lib.hid ⟨none, 0, none, 0, by rw [List.take_zero]; exact H1.out⟩⟩
  case round =>
    obtain ⟨k, hk, rfl, HI⟩ := hrel
    obtain ⟨A, c, B, d, hV⟩ := HI.out
    have V := Lib.hid hV
    clear HI hV
    have hMl : (pastM (L.take k)).length ≤ 600 := by have := pastM_len (L.take k); rw [List.length_take] at this; omega
    by_cases hlt : k < L.length
    · have hki : (k : Int) < (L.length : Int) := by omega
      have hk0 : (0 : Int) ≤ (k : Int) := by omega
      obtain ⟨b, o, As, ns, cs, rfl, hbl, hce, htx⟩ := V.out.ls.at_ hlt
      have hsl : (L.getD k []).length ≤ 600 := by
        have : L.getD k [] ∈ L := by
          rw [show L.getD k [] = L[k] by simp [List.getD, hlt]]
          exact List.getElem_mem hlt
        exact HS.out _ this
      have HP := Lib.hid (show pastM (L.take (k + 1)) = addM (pastM (L.take k)) (L.getD k []) by rw [take_succ_at hlt, pastM_snoc])
      obtain ⟨l, hl⟩ : ∃ l, L.getD k [] = l := ⟨_, rfl⟩
      rw [hl] at htx hsl HP
      obtain ⟨M, hM⟩ : ∃ M, pastM (L.take k) = M := ⟨_, rfl⟩
      rw [hM] at V hMl HP
      have C2 := Lib.hid (add_any (.slice A M.length c) (.slice As ns cs) (.slice B 0 d) M l 0 (Aft (w.heap.size + 1)) wr V.out.ts htx.any (by omega) (by omega))
      obtain ⟨_, y, j⟩ := (show _ from V.out.blk)
      have y0 := y 0
      have y1 := y 1
      have y2 := y 2
      have j0 := j 0
      have j1 := j 1
      have j2 := j 2
      clear y j hl hM htx hsl
      go_wp2_with fail
      (with_reducible refine C2.out.mono ?_)
      rintro e w2 ⟨u2, v2, rfl, ht2, hs2, hb2⟩
      rw [← HP.out] at ht2
      obtain ⟨A2, c2, rfl, _⟩ := ht2.is
      obtain ⟨B2, d2, es2, _⟩ := Sl.is hs2
      replace es2 : v2 = .slice B2 0 d2 := es2
      subst es2
      have hlt2 : w.heap.size + 1 < wr.heap.size := V.out.blk.1
      have V2 := Lib.hid (V.out.add (B' := B2) (d' := d2) hb2 (ht2.mono fun b hb => aft_new (g := w.heap.size + 1) hlt2 hb))
      have U2 := Lib.hid (V.out.later hb2)
      clear ht2 hs2 hb2 hlt2 y0 y1 y2 j0 j1 j2 hbl hce
      obtain ⟨_, y, j⟩ := (show _ from U2.out.blk)
      have y0 := y 0
      have y1 := y 1
      have y2 := y 2
      have j0 := j 0
      have j1 := j 1
      have j2 := j 2
      clear y j
      go_wp2_with fail
      go_roundw
      case rel => exact ⟨k + 1, by omega, by go_num, Lib.hid ⟨A2, c2, B2, d2, V2.out⟩⟩
      case measure => simp [intOf]; omega
    · obtain rfl : k = L.length := by omega
      rw [List.take_length] at V hMl
      obtain ⟨M, hM⟩ : ∃ M, pastM L = M := ⟨_, rfl⟩
      rw [hM] at V hMl
      have HQ := Lib.hid hM
      clear hM
      obtain ⟨_, y, j⟩ := (show _ from V.out.blk)
      have y0 := y 0
      have y1 := y 1
      have y2 := y 2
      clear y j
      obtain ⟨_, y, j⟩ := (show _ from V.out.res)
      have z0 := y 0
      have z1 := y 1
      have z2 := y 2
      have j0 := j 0
      have j1 := j 1
      have j2 := j 2
      clear y j
      have hd : decide ((L.length : Int) < (L.length : Int)) = false := by simp
      go_wp2_with fail
      refine at_world (PsX w A c (.slice B 0 d) M) V.out.done ?_
      rintro X ⟨x0, x1, x2, hts, hX⟩
      refine bodyPost_ret (v := .agg #[.slice A M.length c, .int .i64 0, .slice B 0 d]) (by simp [results, Tryd.results21, go_sem, x0, x1, x2]) rfl (by rw [HQ.out]; exact ⟨A, c, B, d, rfl, hts, hX⟩)
end Go.Proofs.YtfnieoffgnnldaaDoor

/- macro: Set. -/
import Derived.Test.YtgdfcojgifgjcaaMcE
import Derived.Shelf.Lay
import Derived.Shelf.SlMaps.Clone
import Derived.Deep.DeepCutAuto
namespace Go.Proofs
open Go.Shelf
shelf_lay_g SlLaysW.n5 Slmc 5 at Try 23 as Ytgdfcojgifgjcaa.cloneM
end Go.Proofs
namespace Go.Proofs.Ytgdfcojgifgjcaa
open Go.RowKit Go.Maps Go.Shelf
set_option linter.unusedVariables false
set_option linter.unusedSimpArgs false
set_option maxRecDepth 100000

/-- What Set keeps: the book that came, the result. -/
structure St (w : World) (m : Value) (n : Nat) (L : List (Int × Sv)) (X : World) : Prop where
  below : Below w.heap.size w X
  b : Blk X w.heap.size #[m]
  r : Blk X (w.heap.size + 1) #[.map none]
  book : BookOf X m n L
theorem St.later {w X Y : World} {m : Value} {n : Nat} {L : List (Int × Sv)} (h : St w m n L X) (hb : Below X.heap.size X Y) : St w m n L Y := ⟨belowStep h.below hb, h.b.later hb h.b.1, h.r.later hb h.r.1, h.book.later hb⟩
theorem st_start (w : World) (m : Value) (n : Nat) (L : List (Int × Sv)) (h : BookOf w m n L) : St w m n L ((w.alloc (.cells #[m] 24)).alloc (.cells #[.map none] 24)) := by
  refine ⟨belPush (belAlloc _ _) _, (blk_new w _ _).alloc _, ?_, h.later (belPush (belAlloc _ _) _)⟩
  have := blk_new (w.alloc (.cells #[m] 24)) #[.map none] 24
  simpa using this

/-- A map of Set's own. -/
structure Sm (w : World) (b n : Nat) (L : List (Int × Sv)) (D : DataW Unit) (X : World) : Prop where
  below : Below w.heap.size w X
  r : Blk X (w.heap.size + 1) #[.map none]
  own : X.ownsMap Try.prog 21 elS b L.length D
  sz : Maps.size D = n
  h3 : ∀ s kl, keyOf Try.prog 21 (.int .i32 s) = some kl → D.atKey kl (svD sv0) = svD ((lastB L s).getD sv0) ∧ Maps.has D kl = (lastB L s).isSome
  b0 : w.heap.size + 2 ≤ b
theorem Sm.later {w X Y : World} {b n : Nat} {L : List (Int × Sv)} {D : DataW Unit} (h : Sm w b n L D X) (hb : Below X.heap.size X Y) : Sm w b n L D Y := ⟨belowStep h.below hb, h.r.later hb h.r.1, ownsMap_below h.own hb, h.sz, h.h3, h.b0⟩

/-- A slice that holds copies of steps. -/
def StepsAt (H : List Sp) (T : Nat → List Int) (base : Nat) (X : World) (v : Value) : Prop := ∃ H', LiV 6 encS X (fun b => base ≤ b) v H' ∧ H'.length = H.length ∧ ∀ j x, H[j]? = some x → ∃ x', H'[j]? = some x' ∧ Cp X (fun b => base ≤ b) x x' (T j)
theorem StepsAt.grown {H : List Sp} {T : Nat → List Int} {base b : Nat} {X Y : World} {v : Value} (h : StepsAt H T base X v) (hg : X.grownBy Y (some b)) (hb : b < base) : StepsAt H T base Y v := by
  obtain ⟨H', h1, h2, h3⟩ := h
  refine ⟨H', h1.grown hg fun q hq e => by injection e with e; omega, h2, fun j x hx => ?_⟩
  obtain ⟨x', k1, k2⟩ := h3 j x hx
  exact ⟨x', k1, k2.1, k2.2.1, k2.2.2.1, k2.2.2.2.1, k2.2.2.2.2.1, Sl.grown k2.2.2.2.2.2 hg fun q hq e => by injection e with e; omega⟩
theorem StepsAt.far {H : List Sp} {T : Nat → List Int} {base : Nat} {X : World} {v : Value} (h : StepsAt H T base X v) {p : Addr} (hp : p.block < base) (u : Value) : StepsAt H T base (X.setCell p u) v := by
  obtain ⟨H', h1, h2, h3⟩ := h
  refine ⟨H', h1.far (by show ¬ base ≤ p.block; omega) u, h2, fun j x hx => ?_⟩
  obtain ⟨x', k1, k2⟩ := h3 j x hx
  exact ⟨x', k1, k2.1, k2.2.1, k2.2.2.1, k2.2.2.2.1, k2.2.2.2.2.1, Sl.far k2.2.2.2.2.2 (by show ¬ base ≤ p.block; omega) u⟩
theorem StepsAt.low {H : List Sp} {T : Nat → List Int} {base base' : Nat} {X : World} {v : Value} (h : StepsAt H T base X v) (hb : base' ≤ base) : StepsAt H T base' X v := by
  obtain ⟨H', h1, h2, h3⟩ := h
  refine ⟨H', h1.mono fun q hq => Nat.le_trans hb hq, h2, fun j x hx => ?_⟩
  obtain ⟨x', k1, k2⟩ := h3 j x hx
  exact ⟨x', k1, k2.1, k2.2.1, k2.2.2.1, k2.2.2.2.1, k2.2.2.2.2.1, Sl.mono k2.2.2.2.2.2 fun q hq => Nat.le_trans hb hq⟩
/-- What Set has told. -/
def Ws (w : World) (b q : Nat) (L : List (Int × Sv)) (X : World) : Prop := X.cell? ⟨w.heap.size + 1, 0, none⟩ = some (.map (some b)) ∧ BookOf X (.map (some b)) q L ∧ Below w.heap.size w X
theorem ws_store {w X : World} {b q : Nat} {L : List (Int × Sv)} (hb : Blk X (w.heap.size + 1) #[.map none]) (hm : BookOf X (.map (some b)) q L) (hl : Below w.heap.size w X) (hne : b ≠ w.heap.size + 1) :
    Ws w b q L (X.setCell ⟨w.heap.size + 1, 0, none⟩ (.map (some b))) := by
  have hs := hb.set_ 0 (by simp) (.map (some b))
  refine ⟨by have := hs.2.1 0; simpa using this, ?_, hl.setCell (p := ⟨w.heap.size + 1, 0, none⟩) (by show _ ≤ w.heap.size + 1; omega) _⟩
  rcases hm with ⟨h, _⟩ | ⟨b', D, h1, h2, hq, h3⟩
  · cases h
  · obtain rfl : b = b' := by simpa using h1
    exact .inr ⟨b, D, rfl, h2.setCell (a := ⟨w.heap.size + 1, 0, none⟩) hne _, hq, h3⟩

set_option maxHeartbeats 4000000 in
theorem set_any (m : Value) (n : Nat) (L : List (Int × Sv)) (name : Int) (hname : (Lit.int .i32 name).wf = true) (A : Option Addr) (c : Nat) (H : List Sp) (T : Nat → List Int) (w : World) (hB : BookOf w m n L) (hn : n < 100) (hL : L.length ≤ 100000)
    (hH : LiV 6 encS w (fun _ => True) (.slice A H.length c) H) (hT : ∀ j x, H[j]? = some x → Txt w (.slice x.A x.n x.c) (T j) ∧ (T j).length ≤ 1000000000) (hl : H.length ≤ 1000) :
    Calls Try.prog 7 #[.agg #[m], .int .i32 name, .slice A H.length c] w fun e w' => ∃ m' x, e = .returned (.tuple #[.agg #[m'], .int .i64 0]) ∧ BookOf w' m' (cntB n L name) (L ++ [(name, x)]) ∧ StepsAt H T w.heap.size w' (svV x) ∧ Below w.heap.size w w' ∧ ∀ b, m' = .map (some b) → w.heap.size ≤ b := by
  have V0 := Lib.hid (st_start w m n L hB)
  have HS := Lib.hid (And.intro hH hT)
  have hk := Lib.hid (fun X (h : BookOf X m n L) => book_look h hname)
  have hln := Lib.hid (fun X (h : BookOf X m n L) ty => book_len h ty)
  obtain ⟨N, hN⟩ : ∃ N, H.length = N := ⟨_, rfl⟩
  have HN := Lib.hid hN
  rw [hN] at hl ⊢
  clear hB hH hT hN
  go_enter Try.func7, Try.ntmps7
  go_upto_region 3 with fail
  refine at_world (St w m n L) V0.out ?_
  intro X hX
  have V1 := Lib.hid hX
  clear hX V0
  obtain ⟨y1, k1, j1⟩ := (show _ from V1.out.b)
  have q1 := hk.out X V1.out.book
  have q2 := hln.out X V1.out.book
  go_upto_region 6 with fail
  all_goals
    rcases (show BookOf X m n L from V1.out.book) with ⟨rfl, rfl, rfl⟩ | ⟨b, D, rfl, h2, hsz, h3⟩
    · have hcon := AnyW.maps_Clone_nil cloneM
      change ∀ w, Calls Try.prog 23 _ _ _ at hcon
      have hcon := Lib.hid hcon
      have hmm := @run_makeMap Try.prog
      have hq := fun w p => run_eql_map_nil_sl (P := Try.prog) w 22 _ _ p Try.underlying22
      have HO := Lib.hid (World.ownsMap_made X Try.prog 21 elS)
      go_upto_region 9 with (go_at_call 23; refine (hcon.out _).mono ?_; rintro e w' ⟨rfl, rfl⟩)
      refine at_world (Sm w _ 0 [] (.map [])) ⟨belPush V1.out.below _, V1.out.r.alloc _, HO.out, rfl, book_nil3, by have := V1.out.r.1; omega⟩ ?_
      intro Y hY
      have HY := Lib.hid hY
      have C1 := Lib.hid (stepscopy_any A c H T Y (HS.out.1.later hY.below) (fun j x hx => ⟨(HS.out.2 j x hx).1.later hY.below, (HS.out.2 j x hx).2⟩) (by rw [HN.out]; omega))
      rw [HN.out] at C1
      clear hY
      go_wp2_with fail
      refine C1.out.mono ?_
      rintro e w5 ⟨A5, n5, c5, H5, rfl, l5, ln5, cp5, b5, P5, i5, k5, e5⟩
      have H6 := Lib.hid (HY.out.later b5)
      have hel : elS (.slice A5 n5 c5) = some (svD (P5, i5, k5), []) := by rw [e5]; exact elS_sv (P5, i5, k5)
      have HEL := Lib.hid hel
      have HSA := Lib.hid (show StepsAt H T Y.heap.size w5 (.slice A5 n5 c5) from ⟨H5, l5, ln5, cp5⟩)
      have HE5 := Lib.hid e5
      have hYb := Lib.hid (And.intro HY.out.own.lt HY.out.r.1)
      have hkr := Lib.hid (key_r name hname)
      have hLn : ([] : List (Int × Sv)).length < maxLen := by unfold maxLen; first | omega | simp
      clear l5 ln5 cp5 b5 e5 hel C1 HY
      go_upto_region 10 with (at_mapUpdate; refine wpList_mapUpdate_own _ rfl _ _ _ 22 rfl 21 33 lawR Try.underlying22 elS _ _ _ rfl H6.out.own hLn _ _ (.int .i32 name) rfl rfl hkr.out _ [] HEL.out ?_; intro w7 hown7 hgrow7; have HM := Lib.hid (And.intro (BookOf.put H6.out.own H6.out.sz H6.out.h3 hname hown7) (And.intro (H6.out.r.grown hgrow7 (by have := H6.out.b0; intro e; injection e with e; omega)) (H6.out.below.grown hgrow7 (by have := H6.out.below.size; omega) (fun k hk => by injection hk with hk; have := H6.out.b0; omega)))); have HSB := Lib.hid (HSA.out.grown hgrow7 hYb.out.1))
      obtain ⟨y1, k1, j1⟩ := HM.out.2.1
      have hb6 := H6.out.b0
      go_wp2_with fail
      refine at_world (fun Z => Ws w _ _ _ Z ∧ StepsAt H T Y.heap.size Z (.slice A5 n5 c5)) ⟨ws_store HM.out.2.1 HM.out.1 HM.out.2.2 (by omega), HSB.out.far (p := ⟨w.heap.size + 1, 0, none⟩) hYb.out.2 _⟩ ?_
      rintro Z ⟨⟨x0, hm, hl⟩, hst⟩
      have HZ := Lib.hid (And.intro hm (And.intro (hst.low (base' := w.heap.size) (by have := hYb.out.2; omega)) hl))
      clear hm hl hst k1 j1 y1
      refine bodyPost_ret (v := .tuple #[.agg #[.map (some w'.heap.size)], .int .i64 0]) (by simp [results, Try.results7, go_sem, x0]) rfl ⟨_, _, rfl, HZ.out.1, by have h := HZ.out.2.1; rw [HE5.out] at h; exact h, HZ.out.2.2, fun b hb => by injection hb with hb; injection hb with hb; have := hYb.out.2; omega⟩
    · have hcon := AnyW.maps_Clone_owns cloneM 21 elS b L.length D X h2
      change Calls Try.prog 23 _ _ _ at hcon
      have hcon := Lib.hid hcon
      have hq := fun w p => run_eql_map_nil_sl (P := Try.prog) w 22 _ _ p Try.underlying22
      have H3 := Lib.hid (And.intro hsz h3)
      clear h2 hsz h3
      go_wp2_with fail
      refine hcon.out.mono ?_
      rintro e w8 ⟨rfl, o8, _, b8⟩
      have H8 := Lib.hid (show Sm w X.heap.size n L D w8 from ⟨belowStep V1.out.below b8, V1.out.r.later b8 V1.out.r.1, o8, H3.out.1, H3.out.2, by have := V1.out.r.1; omega⟩)
      clear o8 b8 k1 j1 y1
      go_upto_region 9 with fail
      refine at_world (Sm w X.heap.size n L D) H8.out ?_
      intro Y hY
      have HY := Lib.hid hY
      have C1 := Lib.hid (stepscopy_any A c H T Y (HS.out.1.later hY.below) (fun j x hx => ⟨(HS.out.2 j x hx).1.later hY.below, (HS.out.2 j x hx).2⟩) (by rw [HN.out]; omega))
      rw [HN.out] at C1
      clear hY
      go_wp2_with fail
      refine C1.out.mono ?_
      rintro e w5 ⟨A5, n5, c5, H5, rfl, l5, ln5, cp5, b5, P5, i5, k5, e5⟩
      have H6 := Lib.hid (HY.out.later b5)
      have hel : elS (.slice A5 n5 c5) = some (svD (P5, i5, k5), []) := by rw [e5]; exact elS_sv (P5, i5, k5)
      have HEL := Lib.hid hel
      have HSA := Lib.hid (show StepsAt H T Y.heap.size w5 (.slice A5 n5 c5) from ⟨H5, l5, ln5, cp5⟩)
      have HE5 := Lib.hid e5
      have hYb := Lib.hid (And.intro HY.out.own.lt HY.out.r.1)
      have hkr := Lib.hid (key_r name hname)
      have hLn : L.length < maxLen := by unfold maxLen; first | omega | simp
      clear l5 ln5 cp5 b5 e5 hel C1 HY
      go_upto_region 10 with (at_mapUpdate; refine wpList_mapUpdate_own _ rfl _ _ _ 22 rfl 21 33 lawR Try.underlying22 elS _ _ _ rfl H6.out.own hLn _ _ (.int .i32 name) rfl rfl hkr.out _ [] HEL.out ?_; intro w7 hown7 hgrow7; have HM := Lib.hid (And.intro (BookOf.put H6.out.own H6.out.sz H6.out.h3 hname hown7) (And.intro (H6.out.r.grown hgrow7 (by have := H6.out.b0; intro e; injection e with e; omega)) (H6.out.below.grown hgrow7 (by have := H6.out.below.size; omega) (fun k hk => by injection hk with hk; have := H6.out.b0; omega)))); have HSB := Lib.hid (HSA.out.grown hgrow7 hYb.out.1))
      obtain ⟨y1, k1, j1⟩ := HM.out.2.1
      have hb6 := H6.out.b0
      go_wp2_with fail
      refine at_world (fun Z => Ws w _ _ _ Z ∧ StepsAt H T Y.heap.size Z (.slice A5 n5 c5)) ⟨ws_store HM.out.2.1 HM.out.1 HM.out.2.2 (by omega), HSB.out.far (p := ⟨w.heap.size + 1, 0, none⟩) hYb.out.2 _⟩ ?_
      rintro Z ⟨⟨x0, hm, hl⟩, hst⟩
      have HZ := Lib.hid (And.intro hm (And.intro (hst.low (base' := w.heap.size) (by have := hYb.out.2; omega)) hl))
      clear hm hl hst k1 j1 y1
      refine bodyPost_ret (v := .tuple #[.agg #[.map (some X.heap.size)], .int .i64 0]) (by simp [results, Try.results7, go_sem, x0]) rfl ⟨_, _, rfl, HZ.out.1, by have h := HZ.out.2.1; rw [HE5.out] at h; exact h, HZ.out.2.2, fun b hb => by injection hb with hb; injection hb with hb; have := hb6; omega⟩
end Go.Proofs.Ytgdfcojgifgjcaa

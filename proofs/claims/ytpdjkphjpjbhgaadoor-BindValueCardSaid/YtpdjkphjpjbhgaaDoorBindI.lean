/- bind: With. -/
import Derived.Test.YtpdjkphjpjbhgaaDoorBindH
import Derived.Shelf.Lay
import Derived.Shelf.SlMaps.Clone
import Derived.Maps.Own
namespace Go.Proofs
open Go.Shelf
shelf_lay_g SlLaysW.n5 Slmc 5 at Tryd 12 as YtpdjkphjpjbhgaaDoor.cloneM
end Go.Proofs
namespace Go.Proofs.YtpdjkphjpjbhgaaDoor
open Go.RowKit Go.Maps Go.Shelf
set_option linter.unusedVariables false
set_option linter.unusedSimpArgs false

theorem MapOf.put {w w' : World} {b : Nat} {L : List (Stk × Int)} {D : DataW Unit} (h2 : w.ownsMap Tryd.prog 26 el b L.length D)
    (h3 : ∀ s kl, keyOf Tryd.prog 26 (sv s) = some kl → D.atKey kl (.lit (.int .i64 0)) = .lit (.int .i64 ((lastOf L s).getD 0)) ∧ Maps.has D kl = (lastOf L s).isSome)
    {t : Stk} {c : Int} {kl : Lit} (hk : keyOf Tryd.prog 26 (sv t) = some kl) (h' : w'.ownsMap Tryd.prog 26 el b (L.length + 1) (D.put kl (.lit (.int .i64 c)))) : MapOf w' (.map (some b)) (L ++ [(t, c)]) := by
  have hm := h2.isMap
  refine .inr ⟨b, _, rfl, by simpa using h', fun s kl' hk' => ?_⟩
  rw [lastOf_snoc]
  by_cases e : t = s
  · subst e
    obtain rfl : kl = kl' := Option.some.inj (hk.symm.trans hk')
    rw [if_pos rfl, atKey_put_same hm (law.key hk), has_put_same hm (law.key hk)]
    exact ⟨rfl, rfl⟩
  · have hne : kl' ≠ kl := fun e' => e (sv_inj (law.inj hk (e' ▸ hk')))
    rw [if_neg e, atKey_put_other hne, has_put_other hne]
    exact h3 s kl' hk'
theorem nil_h3 : ∀ s kl, keyOf Tryd.prog 26 (sv s) = some kl → (DataW.map [] : DataW Unit).atKey kl (.lit (.int .i64 0)) = .lit (.int .i64 ((lastOf [] s).getD 0)) ∧ Maps.has (DataW.map [] : DataW Unit) kl = (lastOf [] s).isSome := fun s kl _ => ⟨rfl, rfl⟩

/-- What With has told. -/
def Withs (w : World) (b : Nat) (L : List (Stk × Int)) (X : World) : Prop := X.cell? ⟨w.heap.size + 1 + 1, 0, none⟩ = some (.map (some b)) ∧ MapOf X (.map (some b)) L ∧ Below w.heap.size w X

/-- Behind the store into the result. -/
theorem withs_store {w X : World} {b : Nat} {L : List (Stk × Int)} (hb : Blk X (w.heap.size + 1 + 1) #[.map none]) (hm : MapOf X (.map (some b)) L) (hl : Below w.heap.size w X) (hne : b ≠ w.heap.size + 1 + 1) :
    Withs w b L (X.setCell ⟨w.heap.size + 1 + 1, 0, none⟩ (.map (some b))) := by
  have hs := hb.set_ 0 (by simp) (.map (some b))
  refine ⟨by have := hs.2.1 0; simpa using this, ?_, hl.setCell (p := ⟨w.heap.size + 1 + 1, 0, none⟩) (by simp; omega) _⟩
  rcases hm with ⟨h, _⟩ | ⟨b', D, h1, h2, h3⟩
  · cases h
  · obtain rfl : b = b' := by simpa using h1
    exact .inr ⟨b, D, rfl, h2.setCell (a := ⟨w.heap.size + 1 + 1, 0, none⟩) hne _, h3⟩

set_option maxHeartbeats 8000000 in
theorem with_nil (t : Stk) (ht : Wf t) (c : Int) (hc : (Lit.int .i64 c).wf = true) (w : World) :
    Calls Tryd.prog 8 #[.agg #[.map none], sv t, .int .i64 c] w fun e w' => ∃ v, e = .returned (.agg #[v]) ∧ MapOf w' v [(t, c)] ∧ Below w.heap.size w w' := by
  obtain ⟨kl, hk⟩ := key_of t ht
  have HK := Lib.hid hk
  have hcon := AnyW.maps_Clone_nil cloneM
  change ∀ w, Calls Tryd.prog 12 _ _ _ at hcon
  have hcon := Lib.hid hcon
  have hmm := @run_makeMap Tryd.prog
  have hq := fun w p => run_eql_map_nil_sl (P := Tryd.prog) w 32 _ _ p Tryd.underlying32
  have hown := World.ownsMap_made (((w.alloc (.cells #[.map none] 34)).alloc (.cells #[.bool t.1, .int .i64 t.2.1, .int .i32 t.2.2.1, .bool t.2.2.2] 26)).alloc (.cells #[.map none] 34)) Tryd.prog 26 el
  rw [show (((w.alloc (.cells #[.map none] 34)).alloc (.cells #[.bool t.1, .int .i64 t.2.1, .int .i32 t.2.2.1, .bool t.2.2.2] 26)).alloc (.cells #[.map none] 34)).heap.size = w.heap.size + 1 + 1 + 1 by simp] at hown
  have HO := Lib.hid hown
  have hb0 := (blk_new ((w.alloc (.cells #[.map none] 34)).alloc (.cells #[.bool t.1, .int .i64 t.2.1, .int .i32 t.2.2.1, .bool t.2.2.2] 26)) #[.map none] 34).alloc (.map #[] 0)
  rw [show ((w.alloc (.cells #[.map none] 34)).alloc (.cells #[.bool t.1, .int .i64 t.2.1, .int .i32 t.2.2.1, .bool t.2.2.2] 26)).heap.size = w.heap.size + 1 + 1 by simp] at hb0
  have HB := Lib.hid hb0
  have HL := Lib.hid (show Below w.heap.size w ((((w.alloc (.cells #[.map none] 34)).alloc (.cells #[.bool t.1, .int .i64 t.2.1, .int .i32 t.2.2.1, .bool t.2.2.2] 26)).alloc (.cells #[.map none] 34)).alloc (.map #[] 0)) from ((((Below.refl _ _).alloc (Nat.le_refl _) _).alloc (by simp) _).alloc (by simp; omega) _).alloc (by simp; omega) _)
  clear hown hb0 hk
  go_enter Tryd.func8, Tryd.ntmps8
  go_wp2_with (first
    | (go_at_call 12; refine (hcon.out _).mono ?_; rintro e w' ⟨rfl, rfl⟩)
    | (at_mapUpdate; refine wpList_mapUpdate_own _ rfl _ _ _ 32 rfl 26 3 law Tryd.underlying32 el (w.heap.size + 1 + 1 + 1) 0 _ rfl HO.out (by decide) _ _ kl rfl rfl HK.out _ [] (plainElem_int Tryd.underlying3 hc) ?_; intro w1 hown1 hgrow1; have HM := Lib.hid (MapOf.put (L := []) HO.out nil_h3 HK.out hown1); have HB1 := Lib.hid (HB.out.grown hgrow1 (by simp)); have HL1 := Lib.hid (HL.out.grown hgrow1 HL.out.size (fun k e => by cases e; omega)); clear hown1 hgrow1; obtain ⟨y1, k1, j1⟩ := (show Blk _ _ _ from HB1.out)))
  refine at_world (Withs w (w.heap.size + 1 + 1 + 1) [(t, c)]) (withs_store HB1.out HM.out HL1.out (by omega)) ?_
  rintro X ⟨x0, hm, hl⟩
  refine bodyPost_ret (v := .agg #[.map (some (w.heap.size + 1 + 1 + 1))]) (by simp [results, Tryd.results8, go_sem, x0]) rfl ⟨_, rfl, hm, hl⟩

set_option maxHeartbeats 8000000 in
theorem with_some {b : Nat} {L : List (Stk × Int)} {D : DataW Unit} {w : World} (h2 : w.ownsMap Tryd.prog 26 el b L.length D)
    (h3 : ∀ s kl, keyOf Tryd.prog 26 (sv s) = some kl → D.atKey kl (.lit (.int .i64 0)) = .lit (.int .i64 ((lastOf L s).getD 0)) ∧ Maps.has D kl = (lastOf L s).isSome)
    (hL : L.length ≤ 1000) (t : Stk) (ht : Wf t) (c : Int) (hc : (Lit.int .i64 c).wf = true) :
    Calls Tryd.prog 8 #[.agg #[.map (some b)], sv t, .int .i64 c] w fun e w' => ∃ v, e = .returned (.agg #[v]) ∧ MapOf w' v (L ++ [(t, c)]) ∧ Below w.heap.size w w' := by
  obtain ⟨kl, hk⟩ := key_of t ht
  have HK := Lib.hid hk
  have e1 : (w.alloc (.cells #[.map (some b)] 34)).heap.size = w.heap.size + 1 := by simp
  have e2 : ((w.alloc (.cells #[.map (some b)] 34)).alloc (.cells #[.bool t.1, .int .i64 t.2.1, .int .i32 t.2.2.1, .bool t.2.2.2] 26)).heap.size = w.heap.size + 1 + 1 := by simp
  have e3 : (((w.alloc (.cells #[.map (some b)] 34)).alloc (.cells #[.bool t.1, .int .i64 t.2.1, .int .i32 t.2.2.1, .bool t.2.2.2] 26)).alloc (.cells #[.map none] 34)).heap.size = w.heap.size + 1 + 1 + 1 := by simp
  have hB3 : Below w.heap.size w (((w.alloc (.cells #[.map (some b)] 34)).alloc (.cells #[.bool t.1, .int .i64 t.2.1, .int .i32 t.2.2.1, .bool t.2.2.2] 26)).alloc (.cells #[.map none] 34)) := (((Below.refl _ _).alloc (Nat.le_refl _) _).alloc (by simp) _).alloc (by simp; omega) _
  have hcon := AnyW.maps_Clone_owns cloneM 26 el b L.length D (((w.alloc (.cells #[.map (some b)] 34)).alloc (.cells #[.bool t.1, .int .i64 t.2.1, .int .i32 t.2.2.1, .bool t.2.2.2] 26)).alloc (.cells #[.map none] 34)) (((h2.alloc _).alloc _).alloc _)
  change Calls Tryd.prog 12 _ _ _ at hcon
  rw [e3] at hcon
  have hcon := Lib.hid hcon
  have hs1 := (blk_new (w.alloc (.cells #[.map (some b)] 34)) #[.bool t.1, .int .i64 t.2.1, .int .i32 t.2.2.1, .bool t.2.2.2] 26).alloc (.cells #[.map none] 34)
  rw [e1] at hs1
  have hr1 := blk_new ((w.alloc (.cells #[.map (some b)] 34)).alloc (.cells #[.bool t.1, .int .i64 t.2.1, .int .i32 t.2.2.1, .bool t.2.2.2] 26)) #[.map none] 34
  rw [e2] at hr1
  have HS := Lib.hid hs1
  have HR := Lib.hid hr1
  have H3 := Lib.hid h3
  have HB3 := Lib.hid hB3
  have hlt := Lib.hid h2.lt
  have hq := fun w p => run_eql_map_nil_sl (P := Tryd.prog) w 32 _ _ p Tryd.underlying32
  clear hs1 hr1 hk h3 hB3 h2 e1 e2
  go_enter Tryd.func8, Tryd.ntmps8
  go_wp2_with fail
  (with_reducible refine hcon.out.mono ?_)
  rintro e w2 ⟨rfl, hown, hold, hb⟩
  have HO := Lib.hid hown
  have HS2 := Lib.hid (HS.out.later hb (by omega))
  have HR2 := Lib.hid (HR.out.later hb (by omega))
  have HL2 := Lib.hid (HB3.out.trans (hb.mono (by omega)))
  obtain ⟨y0, k0, j0⟩ := (show Blk _ _ _ from HS2.out)
  obtain ⟨yr, kr, jr⟩ := (show Blk _ _ _ from HR2.out)
  clear hown hold hb hcon HS HR
  go_wp2_with
    (at_mapUpdate; refine wpList_mapUpdate_own _ rfl _ _ _ 32 rfl 26 3 law Tryd.underlying32 el (w.heap.size + 1 + 1 + 1) L.length _ rfl HO.out (Nat.lt_of_le_of_lt hL (by decide)) _ _ kl rfl rfl HK.out _ [] (plainElem_int Tryd.underlying3 hc) ?_; intro w5 hown1 hgrow1; have HM := Lib.hid (MapOf.put HO.out H3.out HK.out hown1); have HB1 := Lib.hid (HR2.out.grown hgrow1 (by simp)); have HL1 := Lib.hid (HL2.out.grown hgrow1 HL2.out.size (fun k e => by cases e; omega)); clear hown1 hgrow1; obtain ⟨y1, k1, j1⟩ := (show Blk _ _ _ from HB1.out))
  refine at_world (Withs w (w.heap.size + 1 + 1 + 1) (L ++ [(t, c)])) (withs_store HB1.out HM.out HL1.out (by omega)) ?_
  rintro X ⟨x0, hm, hl⟩
  refine bodyPost_ret (v := .agg #[.map (some (w.heap.size + 1 + 1 + 1))]) (by simp [results, Tryd.results8, go_sem, x0]) rfl ⟨_, rfl, hm, hl⟩

theorem with_any {w : World} {v : Value} {L : List (Stk × Int)} (h : MapOf w v L) (hL : L.length ≤ 1000) (t : Stk) (ht : Wf t) (c : Int) (hc : (Lit.int .i64 c).wf = true) :
    Calls Tryd.prog 8 #[.agg #[v], sv t, .int .i64 c] w fun e w' => ∃ v, e = .returned (.agg #[v]) ∧ MapOf w' v (L ++ [(t, c)]) ∧ Below w.heap.size w w' := by
  rcases h with ⟨rfl, rfl⟩ | ⟨b, D, rfl, h2, h3⟩
  · exact with_nil t ht c hc w
  · exact with_some h2 h3 hL t ht c hc
end Go.Proofs.YtpdjkphjpjbhgaaDoor

/- ring: the document's Join, walked. -/
import Derived.Test.YtnninkbkndddhaaRing12
namespace Go.Proofs.Ytnninkbkndddhaa
open Go.RowKit
set_option linter.unusedVariables false
set_option linter.unusedSimpArgs false

theorem rj_first {w X : World} {bx : Array Value} {A : Option Addr} {n c : Nat} {l : List Int} (h : RJ w bx A (0 + n) c ([] ++ l) X) : RJ w bx A n c l X := by
  rw [Nat.zero_add, List.nil_append] at h
  exact h

theorem rj_end0 {w X Y : World} {bx : Array Value} {Ax A3 : Option Addr} {nx cx c3 : Nat} {m : List Int} {S : Nat → Prop} {f : Nat → Value} {s t : TypeId} (R : RJ w bx Ax nx cx m X)
    (hp : Pushed ((X.alloc (.cells #[.slice Ax nx cx] s)).alloc (.cells #[.slice (some ⟨X.heap.size, 0, none⟩) 1 1, .int .i64 0] t)).drew Y X.heap.size 26 1 (.slice (some ⟨X.heap.size, 0, none⟩) 1 1) (1 + 0) ([.slice Ax nx cx] ++ (List.range 0).map f) A3 c3) :
    TxtsS (Y.setCell ⟨X.heap.size + 1, 0, none⟩ (.slice A3 1 c3)) (Out2 w S) (.slice A3 1 c3) (m :: []) ∧ Blk (Y.setCell ⟨X.heap.size + 1, 0, none⟩ (.slice A3 1 c3)) (X.heap.size + 1) #[.slice A3 1 c3, .int .i64 0] ∧
      Blk (Y.setCell ⟨X.heap.size + 1, 0, none⟩ (.slice A3 1 c3)) (w.heap.size + 1) #[.slice none 0 0, .int .i64 0] ∧ Below w.heap.size w (Y.setCell ⟨X.heap.size + 1, 0, none⟩ (.slice A3 1 c3)) :=
  rj_end (T := []) (n := 0) R rfl (fun j hj => absurd hj (by simp)) hp

set_option maxHeartbeats 4000000 in
set_option maxRecDepth 100000 in
theorem rjoin_ahead (u v : Value) (t : List Int) (T : List (List Int)) (l : List Int) (k : Int) (S : Nat → Prop) (w : World) (hL : TxtsS w S u (t :: T)) (hl : TxtS w S v l) (hn : T.length ≤ 1000) (hm : t.length + l.length ≤ 1000000) :
    Calls Try.prog 21 #[.agg #[u, .int .i64 k], v, .bool true] w (TellsR ((l ++ t) :: T) 0 S w) := by
  obtain ⟨A, c, rfl, hc, hc2⟩ := hL.is
  obtain ⟨b, o, At, nt, ct, rfl, hbl, hcell, ht⟩ := hL.at_ (j := 0) (by simp)
  obtain ⟨Av, cv, rfl, hcv, hcv2⟩ := Sl.is hl
  obtain ⟨vs, hs, hvs⟩ := hL
  simp only [List.length_cons] at hc hs ⊢
  have h0 : (((T.length + 1 : Nat) : Int) == 0) = false := beq_eq_false_iff_ne.2 (by omega)
  have h0' : ((T.length : Int) + 1 == 0) = false := beq_eq_false_iff_ne.2 (by omega)
  rw [Nat.add_zero] at hcell
  have ht' : TxtS w S (.slice At nt ct) t := ht
  obtain rfl := Txt.len ht'
  have hrd := hs.parts.2.1
  have HT : Hid (∀ j, j < T.length → TxtS w S (vs (1 + j)) (T.getD j [])) := Lib.hid fun j hj => by
    have := hvs (1 + j) (by simp; omega)
    rwa [show (t :: T).getD (1 + j) [] = T.getD j [] by rw [Nat.add_comm]; rfl] at this
  have HSl := Lib.hid (txt_rd hl)
  have HSt := Lib.hid (txt_rd ht')
  have HB := Lib.hid hbl
  have tok1 : True := trivial
  have R0 := Lib.hid (rj_start w #[.slice (some ⟨b, o, none⟩) (T.length + 1) c, .int .i64 k] 42)
  clear hl ht ht' hs hvs
  by_cases hc1 : c = 1
  · subst hc1
    obtain rfl : T = [] := List.eq_nil_of_length_eq_zero (by omega)
    clear h0 h0'
    simp only [List.length_nil, Nat.zero_add] at R0 hc ⊢
    have HRd : Hid (Rd w (some ⟨b, o, none⟩) 0 (fun j => vs (1 + j))) := Lib.hid (Rd.empty _ _ _)
    clear hrd
    go_enter Try.func21, Try.ntmps21
    go_wp2_with (first
      | (at_builtin; have _t := tok1; refine wpList_cat slR_elt R0.out.own (by have := R0.out.res.1; omega) rfl rfl rfl rfl (Rd.later HSl.out.1 R0.out.below) HSl.out.2.1 (fun j _ => rfl) (by unfold maxLen; omega) (by omega) ?_; intro A1 c1 w1 hp; have R1 := Lib.hid (rj_first (R0.out.cat HSl.out.2.2 hp)); have hcw : w1.cell? ⟨b, o, none⟩ = some (.slice At t.length ct) := (R1.out.below.cell (p := ⟨b, o, none⟩) HB.out).trans hcell; obtain ⟨y1, k1, j1⟩ := (show _ from R1.out.box); clear hp tok1 _t)
      | (at_builtin; refine wpList_cat slR_elt R1.out.own (by have := R1.out.res.1; omega) rfl rfl rfl rfl (Rd.later HSt.out.1 R1.out.below) HSt.out.2.1 (fun j _ => rfl) (by unfold maxLen; omega) (by omega) ?_; intro A2 c2 w2 hp; have R2 := Lib.hid (R1.out.cat HSt.out.2.2 hp); clear hp k1 j1 y1 hcw; obtain ⟨y2, k2, j2⟩ := (show _ from R2.out.box); have z2 := R2.out.res.1))
    have HW : Hid (Below w.heap.size w ((w2.alloc (.cells #[.slice A2 (l.length + t.length) c2] 26)).alloc (.cells #[.slice (some ⟨w2.heap.size, 0, none⟩) 1 1, .int .i64 0] 42)).drew) := Lib.hid (R2.out.below.trans ((below_two w2 _ _).drew.mono R2.out.below.size))
    have HO := Lib.hid (own_later (own_later (own_later (own_new w2 #[.slice A2 (l.length + t.length) c2] 26 1 rfl (by decide)) (below_one _ (.cells #[.slice (some ⟨w2.heap.size, 0, none⟩) 1 1, .int .i64 0] 42))) (Below.refl _ _).drew) (Below.refl _ _))
    go_region_law ((refine step_cat slT_elt HO.out (by simp [World.size_alloc]; omega) (by rfl) (by rfl) (by rfl) (by rfl) (HRd.out.later HW.out) (fun h => by cases h) (fun j hj => absurd hj (by omega)) (by unfold maxLen; omega) (by omega) ?_; intro A3 c3 w3 hp; have HO3 := ((out_start w2 (.slice A2 (l.length + t.length) c2) (.int .i64 0) 26 42).drew.grown hp.grown (by intro e; injection e with e; simp at e)); have u1 : w3.cell? ⟨w2.heap.size + 1, 0, none⟩ = some (.slice (some ⟨w2.heap.size, 0, none⟩) 1 1) := HO3.2.1 0; have f1 : w3.frozen? ⟨w2.heap.size + 1, 0, none⟩ = false := HO3.2.2 0; have HP := Lib.hid hp; clear hp HO3))
    all_goals
      have E3 := Lib.hid (rj_end0 (S := S) R2.out HP.out)
      obtain ⟨yo, ko, jo⟩ := (show _ from E3.out.2.1)
      obtain ⟨yr, kr, jr⟩ := (show _ from E3.out.2.2.1)
      go_wp2
      refine at_world (Stored w S (w.heap.size + 1) (.slice A3 1 c3) (.int .i64 0) ((l ++ t) :: [])) ?_ ?_
      · exact stored_at E3.out.2.2.1 E3.out.2.2.2 (by omega) E3.out.1 (fun b hb => hb.new) not_out2
      rintro X ⟨x0, x1, hts, hX⟩
      refine bodyPost_ret (v := .agg #[.slice A3 1 c3, .int .i64 0]) (by simp [results, Try.results21, go_sem, x0, x1]) rfl ⟨_, _, _, rfl, hts, hX⟩
  · have hle1 : (1 : Int) ≤ (T.length : Int) + 1 := by omega
    have HRd : Hid (Rd w (some ⟨b, o + 1, none⟩) T.length (fun j => vs (1 + j))) := Lib.hid (fun j hj => by obtain ⟨b1, o1, e1, g1, g2⟩ := hrd (1 + j) (by omega); injection e1 with e1; injection e1 with e1 e2; subst e1; subst e2; exact ⟨b, o + 1, rfl, g1, by rw [Nat.add_assoc]; exact g2⟩)
    clear hrd
    go_enter Try.func21, Try.ntmps21
    go_wp2_with (first
      | (at_builtin; have _t := tok1; refine wpList_cat slR_elt R0.out.own (by have := R0.out.res.1; omega) rfl rfl rfl rfl (Rd.later HSl.out.1 R0.out.below) HSl.out.2.1 (fun j _ => rfl) (by unfold maxLen; omega) (by omega) ?_; intro A1 c1 w1 hp; have R1 := Lib.hid (rj_first (R0.out.cat HSl.out.2.2 hp)); have hcw : w1.cell? ⟨b, o, none⟩ = some (.slice At t.length ct) := (R1.out.below.cell (p := ⟨b, o, none⟩) HB.out).trans hcell; obtain ⟨y1, k1, j1⟩ := (show _ from R1.out.box); clear hp tok1 _t)
      | (at_builtin; refine wpList_cat slR_elt R1.out.own (by have := R1.out.res.1; omega) rfl rfl rfl rfl (Rd.later HSt.out.1 R1.out.below) HSt.out.2.1 (fun j _ => rfl) (by unfold maxLen; omega) (by omega) ?_; intro A2 c2 w2 hp; have R2 := Lib.hid (R1.out.cat HSt.out.2.2 hp); clear hp k1 j1 y1 hcw; obtain ⟨y2, k2, j2⟩ := (show _ from R2.out.box); have z2 := R2.out.res.1))
    have HW : Hid (Below w.heap.size w ((w2.alloc (.cells #[.slice A2 (l.length + t.length) c2] 26)).alloc (.cells #[.slice (some ⟨w2.heap.size, 0, none⟩) 1 1, .int .i64 0] 42)).drew) := Lib.hid (R2.out.below.trans ((below_two w2 _ _).drew.mono R2.out.below.size))
    have HO := Lib.hid (own_later (own_later (own_later (own_new w2 #[.slice A2 (l.length + t.length) c2] 26 1 rfl (by decide)) (below_one _ (.cells #[.slice (some ⟨w2.heap.size, 0, none⟩) 1 1, .int .i64 0] 42))) (Below.refl _ _).drew) (Below.refl _ _))
    go_region_law ((refine step_cat slT_elt HO.out (by simp [World.size_alloc]; omega) (by rfl) (by rfl) (by rfl) (by rfl) (HRd.out.later HW.out) (fun h => by cases h) (fun j hj => (HT.out j hj).one) (by unfold maxLen; omega) (by omega) ?_; intro A3 c3 w3 hp; have HO3 := ((out_start w2 (.slice A2 (l.length + t.length) c2) (.int .i64 0) 26 42).drew.grown hp.grown (by intro e; injection e with e; simp at e)); have u1 : w3.cell? ⟨w2.heap.size + 1, 0, none⟩ = some (.slice (some ⟨w2.heap.size, 0, none⟩) 1 1) := HO3.2.1 0; have f1 : w3.frozen? ⟨w2.heap.size + 1, 0, none⟩ = false := HO3.2.2 0; have HP := Lib.hid hp; clear hp HO3))
    all_goals
      have E3 := Lib.hid (rj_end R2.out rfl HT.out HP.out)
      obtain ⟨yo, ko, jo⟩ := (show _ from E3.out.2.1)
      obtain ⟨yr, kr, jr⟩ := (show _ from E3.out.2.2.1)
      go_wp2
      refine at_world (Stored w S (w.heap.size + 1) (.slice A3 (1 + T.length) c3) (.int .i64 0) ((l ++ t) :: T)) ?_ ?_
      · exact stored_at E3.out.2.2.1 E3.out.2.2.2 (by omega) E3.out.1 (fun b hb => hb.new) not_out2
      rintro X ⟨x0, x1, hts, hX⟩
      refine bodyPost_ret (v := .agg #[.slice A3 (1 + T.length) c3, .int .i64 0]) (by simp [results, Try.results21, go_sem, x0, x1]) rfl ⟨_, _, _, rfl, hts, hX⟩

set_option maxHeartbeats 4000000 in
set_option maxRecDepth 100000 in
theorem rjoin_behind (u v : Value) (t : List Int) (T : List (List Int)) (l : List Int) (k : Int) (S : Nat → Prop) (w : World) (hL : TxtsS w S u (t :: T)) (hl : TxtS w S v l) (hn : T.length ≤ 1000) (hm : t.length + l.length ≤ 1000000) :
    Calls Try.prog 21 #[.agg #[u, .int .i64 k], v, .bool false] w (TellsR ((t ++ l) :: T) 0 S w) := by
  obtain ⟨A, c, rfl, hc, hc2⟩ := hL.is
  obtain ⟨b, o, At, nt, ct, rfl, hbl, hcell, ht⟩ := hL.at_ (j := 0) (by simp)
  obtain ⟨Av, cv, rfl, hcv, hcv2⟩ := Sl.is hl
  obtain ⟨vs, hs, hvs⟩ := hL
  simp only [List.length_cons] at hc hs ⊢
  have h0 : (((T.length + 1 : Nat) : Int) == 0) = false := beq_eq_false_iff_ne.2 (by omega)
  have h0' : ((T.length : Int) + 1 == 0) = false := beq_eq_false_iff_ne.2 (by omega)
  rw [Nat.add_zero] at hcell
  have ht' : TxtS w S (.slice At nt ct) t := ht
  obtain rfl := Txt.len ht'
  have hrd := hs.parts.2.1
  have HT : Hid (∀ j, j < T.length → TxtS w S (vs (1 + j)) (T.getD j [])) := Lib.hid fun j hj => by
    have := hvs (1 + j) (by simp; omega)
    rwa [show (t :: T).getD (1 + j) [] = T.getD j [] by rw [Nat.add_comm]; rfl] at this
  have HSl := Lib.hid (txt_rd hl)
  have HSt := Lib.hid (txt_rd ht')
  have HB := Lib.hid hbl
  have tok1 : True := trivial
  have R0 := Lib.hid (rj_start w #[.slice (some ⟨b, o, none⟩) (T.length + 1) c, .int .i64 k] 42)
  clear hl ht ht' hs hvs
  by_cases hc1 : c = 1
  · subst hc1
    obtain rfl : T = [] := List.eq_nil_of_length_eq_zero (by omega)
    clear h0 h0'
    simp only [List.length_nil, Nat.zero_add] at R0 hc ⊢
    have HRd : Hid (Rd w (some ⟨b, o, none⟩) 0 (fun j => vs (1 + j))) := Lib.hid (Rd.empty _ _ _)
    clear hrd
    go_enter Try.func21, Try.ntmps21
    go_wp2_with (first
      | (at_builtin; have _t := tok1; refine wpList_cat slR_elt R0.out.own (by have := R0.out.res.1; omega) rfl rfl rfl rfl (Rd.later HSt.out.1 R0.out.below) HSt.out.2.1 (fun j _ => rfl) (by unfold maxLen; omega) (by omega) ?_; intro A1 c1 w1 hp; have R1 := Lib.hid (rj_first (R0.out.cat HSt.out.2.2 hp)); have hcw : w1.cell? ⟨b, o, none⟩ = some (.slice At t.length ct) := (R1.out.below.cell (p := ⟨b, o, none⟩) HB.out).trans hcell; obtain ⟨y1, k1, j1⟩ := (show _ from R1.out.box); clear hp tok1 _t)
      | (at_builtin; refine wpList_cat slR_elt R1.out.own (by have := R1.out.res.1; omega) rfl rfl rfl rfl (Rd.later HSl.out.1 R1.out.below) HSl.out.2.1 (fun j _ => rfl) (by unfold maxLen; omega) (by omega) ?_; intro A2 c2 w2 hp; have R2 := Lib.hid (R1.out.cat HSl.out.2.2 hp); clear hp k1 j1 y1 hcw; obtain ⟨y2, k2, j2⟩ := (show _ from R2.out.box); have z2 := R2.out.res.1))
    have HW : Hid (Below w.heap.size w ((w2.alloc (.cells #[.slice A2 (t.length + l.length) c2] 26)).alloc (.cells #[.slice (some ⟨w2.heap.size, 0, none⟩) 1 1, .int .i64 0] 42)).drew) := Lib.hid (R2.out.below.trans ((below_two w2 _ _).drew.mono R2.out.below.size))
    have HO := Lib.hid (own_later (own_later (own_later (own_new w2 #[.slice A2 (t.length + l.length) c2] 26 1 rfl (by decide)) (below_one _ (.cells #[.slice (some ⟨w2.heap.size, 0, none⟩) 1 1, .int .i64 0] 42))) (Below.refl _ _).drew) (Below.refl _ _))
    go_region_law ((refine step_cat slT_elt HO.out (by simp [World.size_alloc]; omega) (by rfl) (by rfl) (by rfl) (by rfl) (HRd.out.later HW.out) (fun h => by cases h) (fun j hj => absurd hj (by omega)) (by unfold maxLen; omega) (by omega) ?_; intro A3 c3 w3 hp; have HO3 := ((out_start w2 (.slice A2 (t.length + l.length) c2) (.int .i64 0) 26 42).drew.grown hp.grown (by intro e; injection e with e; simp at e)); have u1 : w3.cell? ⟨w2.heap.size + 1, 0, none⟩ = some (.slice (some ⟨w2.heap.size, 0, none⟩) 1 1) := HO3.2.1 0; have f1 : w3.frozen? ⟨w2.heap.size + 1, 0, none⟩ = false := HO3.2.2 0; have HP := Lib.hid hp; clear hp HO3))
    all_goals
      have E3 := Lib.hid (rj_end0 (S := S) R2.out HP.out)
      obtain ⟨yo, ko, jo⟩ := (show _ from E3.out.2.1)
      obtain ⟨yr, kr, jr⟩ := (show _ from E3.out.2.2.1)
      go_wp2
      refine at_world (Stored w S (w.heap.size + 1) (.slice A3 1 c3) (.int .i64 0) ((t ++ l) :: [])) ?_ ?_
      · exact stored_at E3.out.2.2.1 E3.out.2.2.2 (by omega) E3.out.1 (fun b hb => hb.new) not_out2
      rintro X ⟨x0, x1, hts, hX⟩
      refine bodyPost_ret (v := .agg #[.slice A3 1 c3, .int .i64 0]) (by simp [results, Try.results21, go_sem, x0, x1]) rfl ⟨_, _, _, rfl, hts, hX⟩
  · have hle1 : (1 : Int) ≤ (T.length : Int) + 1 := by omega
    have HRd : Hid (Rd w (some ⟨b, o + 1, none⟩) T.length (fun j => vs (1 + j))) := Lib.hid (fun j hj => by obtain ⟨b1, o1, e1, g1, g2⟩ := hrd (1 + j) (by omega); injection e1 with e1; injection e1 with e1 e2; subst e1; subst e2; exact ⟨b, o + 1, rfl, g1, by rw [Nat.add_assoc]; exact g2⟩)
    clear hrd
    go_enter Try.func21, Try.ntmps21
    go_wp2_with (first
      | (at_builtin; have _t := tok1; refine wpList_cat slR_elt R0.out.own (by have := R0.out.res.1; omega) rfl rfl rfl rfl (Rd.later HSt.out.1 R0.out.below) HSt.out.2.1 (fun j _ => rfl) (by unfold maxLen; omega) (by omega) ?_; intro A1 c1 w1 hp; have R1 := Lib.hid (rj_first (R0.out.cat HSt.out.2.2 hp)); have hcw : w1.cell? ⟨b, o, none⟩ = some (.slice At t.length ct) := (R1.out.below.cell (p := ⟨b, o, none⟩) HB.out).trans hcell; obtain ⟨y1, k1, j1⟩ := (show _ from R1.out.box); clear hp tok1 _t)
      | (at_builtin; refine wpList_cat slR_elt R1.out.own (by have := R1.out.res.1; omega) rfl rfl rfl rfl (Rd.later HSl.out.1 R1.out.below) HSl.out.2.1 (fun j _ => rfl) (by unfold maxLen; omega) (by omega) ?_; intro A2 c2 w2 hp; have R2 := Lib.hid (R1.out.cat HSl.out.2.2 hp); clear hp k1 j1 y1 hcw; obtain ⟨y2, k2, j2⟩ := (show _ from R2.out.box); have z2 := R2.out.res.1))
    have HW : Hid (Below w.heap.size w ((w2.alloc (.cells #[.slice A2 (t.length + l.length) c2] 26)).alloc (.cells #[.slice (some ⟨w2.heap.size, 0, none⟩) 1 1, .int .i64 0] 42)).drew) := Lib.hid (R2.out.below.trans ((below_two w2 _ _).drew.mono R2.out.below.size))
    have HO := Lib.hid (own_later (own_later (own_later (own_new w2 #[.slice A2 (t.length + l.length) c2] 26 1 rfl (by decide)) (below_one _ (.cells #[.slice (some ⟨w2.heap.size, 0, none⟩) 1 1, .int .i64 0] 42))) (Below.refl _ _).drew) (Below.refl _ _))
    go_region_law ((refine step_cat slT_elt HO.out (by simp [World.size_alloc]; omega) (by rfl) (by rfl) (by rfl) (by rfl) (HRd.out.later HW.out) (fun h => by cases h) (fun j hj => (HT.out j hj).one) (by unfold maxLen; omega) (by omega) ?_; intro A3 c3 w3 hp; have HO3 := ((out_start w2 (.slice A2 (t.length + l.length) c2) (.int .i64 0) 26 42).drew.grown hp.grown (by intro e; injection e with e; simp at e)); have u1 : w3.cell? ⟨w2.heap.size + 1, 0, none⟩ = some (.slice (some ⟨w2.heap.size, 0, none⟩) 1 1) := HO3.2.1 0; have f1 : w3.frozen? ⟨w2.heap.size + 1, 0, none⟩ = false := HO3.2.2 0; have HP := Lib.hid hp; clear hp HO3))
    all_goals
      have E3 := Lib.hid (rj_end R2.out rfl HT.out HP.out)
      obtain ⟨yo, ko, jo⟩ := (show _ from E3.out.2.1)
      obtain ⟨yr, kr, jr⟩ := (show _ from E3.out.2.2.1)
      go_wp2
      refine at_world (Stored w S (w.heap.size + 1) (.slice A3 (1 + T.length) c3) (.int .i64 0) ((t ++ l) :: T)) ?_ ?_
      · exact stored_at E3.out.2.2.1 E3.out.2.2.2 (by omega) E3.out.1 (fun b hb => hb.new) not_out2
      rintro X ⟨x0, x1, hts, hX⟩
      refine bodyPost_ret (v := .agg #[.slice A3 (1 + T.length) c3, .int .i64 0]) (by simp [results, Try.results21, go_sem, x0, x1]) rfl ⟨_, _, _, rfl, hts, hX⟩

theorem rjoin_any (u v : Value) (L : List (List Int)) (l : List Int) (k : Int) (ahead : Bool) (S : Nat → Prop) (w : World) (hL : TxtsS w S u L) (hl : TxtS w S v l) (hn : L.length ≤ 1000) (hm : (L.getD 0 []).length + l.length ≤ 1000000) :
    Calls Try.prog 21 #[.agg #[u, .int .i64 k], v, .bool ahead] w (TellsR (joinL L l ahead) 0 S w) := by
  cases L with
  | nil => exact rjoin_none u v l k ahead S w hL hl
  | cons t T =>
    simp only [List.length_cons] at hn
    simp only [List.getD_cons_zero] at hm
    cases ahead with
    | false => exact rjoin_behind u v t T l k S w hL hl (by omega) hm
    | true => exact rjoin_ahead u v t T l k S w hL hl (by omega) hm

end Go.Proofs.Ytnninkbkndddhaa

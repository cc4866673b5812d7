/- past: the document's Add. -/
import Derived.Test.YtmhjhndnbgabjaaPastF
import Derived.Test.YtmhjhndnbgabjaaStep
import Derived.Test.YtmhjhndnbgabjaaSameI
import Derived.Deep.RegionLaw
namespace Go.Proofs.Ytmhjhndnbgabjaa
open Go.RowKit
set_option linter.unusedVariables false
set_option linter.unusedSimpArgs false

/-- What holds at the head of Add's round: hd, and q of the elder lines, have come. -/
structure RB (w : World) (p : Array Value) (hd : List Value) (vs : Nat → Value) (q N : Nat) (ov : Value) (wr : World) : Prop where
  own : wr.ownsRow (w.heap.size + 3) 24 1 ov N (hd ++ (List.range q).map vs)
  box : Blk wr w.heap.size p
  res : Blk wr (w.heap.size + 1) #[.slice none 0 0, .int .i64 0, .slice none 0 0]
  out : Blk wr (w.heap.size + 1 + 1) #[ov, .int .i64 0, .slice none 0 0]
  below : Below w.heap.size w wr

theorem RB.far {w wr : World} {p : Array Value} {hd : List Value} {vs : Nat → Value} {q N : Nat} {ov : Value} (R : RB w p hd vs q N ov wr) (g : Nat) (hg : g < w.heap.size + 3) : some g ≠ ov.ownBlock := fun e => by
  have := (R.own.lt g e.symm).1
  omega
theorem below_three (w : World) (a b c : Obj) : Below w.heap.size w (((w.alloc a).alloc b).alloc c) := (below_two w a b).alloc (by simp only [World.size_alloc]; omega) c
theorem rb_start (w : World) (p : Array Value) (vs : Nat → Value) (r s t : TypeId) (n : Nat) :
    RB w p [] vs 0 0 (.slice none 0 0) ((((w.alloc (.cells p r)).alloc (.cells #[.slice none 0 0, .int .i64 0, .slice none 0 0] s)).alloc (.cells #[.slice none 0 0, .int .i64 0, .slice none 0 0] t)).drewN n) := by
  obtain ⟨h1, h2, h3⟩ := blk_three w p #[.slice none 0 0, .int .i64 0, .slice none 0 0] #[.slice none 0 0, .int .i64 0, .slice none 0 0] r s t
  exact ⟨World.ownsRow_nil _ _ _ _, h1.drewN n, h2.drewN n, h3.drewN n, below_drewN (below_three w _ _ _) n⟩
theorem rb_start0 (w : World) (p : Array Value) (vs : Nat → Value) (r s t : TypeId) :
    RB w p [] vs 0 0 (.slice none 0 0) (((w.alloc (.cells p r)).alloc (.cells #[.slice none 0 0, .int .i64 0, .slice none 0 0] s)).alloc (.cells #[.slice none 0 0, .int .i64 0, .slice none 0 0] t)) := by
  obtain ⟨h1, h2, h3⟩ := blk_three w p #[.slice none 0 0, .int .i64 0, .slice none 0 0] #[.slice none 0 0, .int .i64 0, .slice none 0 0] r s t
  exact ⟨World.ownsRow_nil _ _ _ _, h1, h2, h3, below_three w _ _ _⟩

theorem own_setCell {w : World} {base : Nat} {e : TypeId} {size n : Nat} {v : Value} {xs : List Value} (h : w.ownsRow base e size v n xs) (g i : Nat) (u : Value) (hne : v.ownBlock ≠ some g) : (w.setCell ⟨g, i, none⟩ u).ownsRow base e size v n xs :=
  h.kept (row := some g) ⟨rfl, rfl, rfl, by simp [World.setCell], fun k _ hk => Below.heap_setCell _ _ _ _ (fun e => hk (by simp [e]))⟩ (.inr hne)

theorem RB.push {w wr w3 : World} {p : Array Value} {hd hd' : List Value} {vs : Nat → Value} {q q' N : Nat} {ov x : Value} {A3 : Option Addr} {c3 : Nat} (R : RB w p hd vs q N ov wr) (hp : Pushed wr w3 (w.heap.size + 3) 24 1 ov (N + 1) ((hd ++ (List.range q).map vs) ++ [x]) A3 c3) (he : (hd ++ (List.range q).map vs) ++ [x] = hd' ++ (List.range q').map vs) :
    RB w p hd' vs q' (N + 1) (.slice A3 (N + 1) c3) (w3.setCell ⟨w.heap.size + 1 + 1, 0, none⟩ (.slice A3 (N + 1) c3)) := by
  have ho := hp.own
  rw [he] at ho
  have hne : (Value.slice A3 (N + 1) c3).ownBlock ≠ some (w.heap.size + 1 + 1) := fun e => by
    have := (ho.lt _ e).1
    omega
  refine ⟨own_setCell ho _ _ _ hne, ?_, ?_, ?_, ?_⟩
  · exact (R.box.grown hp.grown (R.far _ (by omega))).far (by show w.heap.size + 1 + 1 ≠ w.heap.size; omega) _
  · exact (R.res.grown hp.grown (R.far _ (by omega))).far (by show w.heap.size + 1 + 1 ≠ w.heap.size + 1; omega) _
  · exact (R.out.grown hp.grown (R.far _ (by omega))).set_ 0 (by simp) _
  · exact (hp.below R.below R.own (by omega)).setCell (p := ⟨w.heap.size + 1 + 1, 0, none⟩) (by simp only; omega) _
theorem RB.next {w wr w3 : World} {p : Array Value} {hd : List Value} {vs : Nat → Value} {q N : Nat} {ov : Value} {A3 : Option Addr} {c3 : Nat} (R : RB w p hd vs q N ov wr) (hp : Pushed wr w3 (w.heap.size + 3) 24 1 ov (N + 1) ((hd ++ (List.range q).map vs) ++ [vs q]) A3 c3) :
    RB w p hd vs (q + 1) (N + 1) (.slice A3 (N + 1) c3) (w3.setCell ⟨w.heap.size + 1 + 1, 0, none⟩ (.slice A3 (N + 1) c3)) := R.push hp (by simp [List.range_succ])
theorem RB.drew {w wr : World} {p : Array Value} {hd : List Value} {vs : Nat → Value} {q N : Nat} {ov : Value} (R : RB w p hd vs q N ov wr) : RB w p hd vs q N ov wr.drew :=
  ⟨own_later R.own (Below.refl _ _).drew, R.box, R.res, R.out, R.below.drew⟩

theorem RB.texts {w wr : World} {p : Array Value} {hd : List Value} {hl : List (List Int)} {vs : Nat → Value} {q N c : Nat} {Ao : Option Addr} {L : List (List Int)} {S : Nat → Prop} (R : RB w p hd vs q N (.slice Ao N c) wr) (hlen : hl.length = hd.length) (hN : N = hd.length + q)
    (hh : ∀ j, j < hd.length → ∃ u, hd[j]? = some u ∧ TxtS w S u (hl.getD j [])) (hvs : ∀ j, j < L.length → TxtS w S (vs j) (L.getD j [])) (hql : q ≤ L.length) :
    TxtsS wr (Out2 w S) (.slice Ao N c) (hl ++ L.take q) := by
  refine txts_own (by simp; omega) R.own (fun b hb => .inr (by omega)) fun j hj => ?_
  have keep {x : Value} {m : List Int} (h : TxtS w S x m) : TxtS wr (Out2 w S) x m := Sl.mono (h.old.later R.below) fun b hb => .inl hb
  by_cases hjl : j < hd.length
  · obtain ⟨u, h1, h2⟩ := hh j hjl
    refine ⟨u, by rw [List.getElem?_append_left hjl]; exact h1, ?_⟩
    rw [show (hl ++ L.take q).getD j [] = hl.getD j [] by simp [List.getD, List.getElem?_append, hlen, hjl]]
    exact keep h2
  · refine ⟨vs (j - hd.length), ?_, ?_⟩
    · rw [List.getElem?_append_right (by omega), List.getElem?_map, List.getElem?_range (by omega)]; rfl
    · have := keep (hvs (j - hd.length) (by omega))
      rwa [show (hl ++ L.take q).getD j [] = L.getD (j - hd.length) [] by
        simp only [List.getD]
        rw [List.getElem?_append_right (by omega), hlen, List.getElem?_take, if_pos (by omega)]]

/-- The document's lines, with one more. -/
def addL (L : List (List Int)) (l : List Int) : List (List Int) := if l = [] ∨ L.head? = some l then L.take 500 else l :: L.take 499

set_option maxHeartbeats 4000000 in
set_option maxRecDepth 100000 in
theorem radd_nil (u v lv : Value) (L : List (List Int)) (l : List Int) (k : Int) (S : Nat → Prop) (w : World) (hL : TxtsS w S u L) (hn : L.length ≤ 1000) (hl : TxtS w S v l) (h0 : l = []) :
    Calls Try.prog 10 #[.agg #[u, .int .i64 k, lv], v] w (TellsP (L.take 500) 0 [] S w) := by
  obtain ⟨A, c, rfl, hc, hc2⟩ := hL.is
  obtain ⟨Av, cv, rfl, _⟩ := Sl.is hl
  have hL0 := hL
  obtain ⟨vs, hvs, hts⟩ := hL
  have HV := Lib.hid (And.intro hvs (And.intro hts (And.intro hl hvs.parts.2.1)))
  subst h0
  clear hvs hts hl hL0
  go_enter Try.func10, Try.ntmps10
  go_wp2
  go_loopw [6] (fun i wr => ∃ q : Nat, q ≤ L.length ∧ q ≤ 500 ∧ i = .int .i64 q ∧ Hid (∃ Ao co, RB w #[.slice A L.length c, .int .i64 k, lv] [] vs q q (.slice Ao q co) wr)) (fun i _ => L.length - (intOf i).toNat)
  case atStart => exact ⟨0, Nat.zero_le _, Nat.zero_le _, rfl, ⟨none, 0, rb_start0 w _ _ _ _ _⟩⟩
  case round =>
    obtain ⟨q, hq, hq59, rfl, HR⟩ := hrel
    obtain ⟨Ao, co, R⟩ := HR.out
    have R1 := Lib.hid R
    obtain ⟨y0, k0, j0⟩ := (show _ from R.box)
    obtain ⟨y3, k3, j3⟩ := (show _ from R.out)
    clear R HR
    by_cases hlt : q < L.length ∧ q < 500
    · obtain ⟨hqn, hq2⟩ := hlt
      obtain ⟨b, o, e1, hbl, hcell⟩ := HV.out.2.2.2 q hqn
      cases e1
      obtain ⟨As, cs, es, _⟩ := Sl.is (HV.out.2.1 q hqn)
      obtain ⟨m, hm⟩ : ∃ m, m = (L.getD q []).length := ⟨_, rfl⟩
      rw [← hm] at es
      have hcq : wr.cell? ⟨b, o + q, none⟩ = some (.slice As m cs) := by rw [← es]; exact (R1.out.below.cell (p := ⟨b, o + q, none⟩) hbl).trans hcell
      have hbl1 : b < wr.heap.size := Nat.lt_of_lt_of_le hbl R1.out.below.size
      have HE := Lib.hid es
      have hd1 : decide ((q : Int) < (L.length : Int)) = true := decide_eq_true (by omega)
      have hd2 : decide ((q : Int) < 500) = true := decide_eq_true (by omega)
      have i0 : (0 : Int) ≤ (q : Int) := by omega
      have i1 : (q : Int) < (L.length : Int) := by omega
      have HHb := Lib.hid hbl
      clear hcell es hm
      go_wp2
      have s1 : wr.cell? ⟨w.heap.size + 1 + 1, 0, none⟩ = some (.slice Ao q co) := k3 0
      have s2 : wr.cell? ⟨w.heap.size, 0, none⟩ = some (.slice (some ⟨b, o, none⟩) L.length c) := k0 0
      have hne0 : w.heap.size + 1 + 1 ≠ w.heap.size := by omega
      have hne2 : w.heap.size + 1 + 1 ≠ b := by omega
      go_region_law ((refine step_push slT_elt R1.out.own (by have := R1.out.box.1; have := R1.out.out.1; omega) (by rfl) (by rfl) (by rfl) (by rfl) (by simp) (by rfl) (by rfl) (by unfold maxLen; omega) (by omega) ?_; intro A3 c3 w3 hp; have hB3 := R1.out.out.grown hp.grown (R1.out.far _ (by omega)); have hB0 := R1.out.box.grown hp.grown (R1.out.far _ (by omega)); have u1 : w3.cell? ⟨w.heap.size + 1 + 1, 0, none⟩ = some (.slice Ao q co) := hB3.2.1 0; have f1 : w3.frozen? ⟨w.heap.size + 1 + 1, 0, none⟩ = false := hB3.2.2 0; have u2 : w3.cell? ⟨w.heap.size, 0, none⟩ = some (.slice (some ⟨b, o, none⟩) L.length c) := hB0.2.1 0; have u3 : w3.cell? ⟨b, o + q, none⟩ = some (.slice As m cs) := (World.cell?_of_block (a := ⟨b, o + q, none⟩) (hp.grown.block b hbl1 (R1.out.far b (by have := HHb.out; omega)))).trans hcq; have HP := Lib.hid (And.intro hp (And.intro hB3 hB0)); clear hp hB3 hB0))
      all_goals
        have HP2 := HP.out.1
        rw [← HE.out] at HP2
        have RN := Lib.hid (R1.out.next HP2)
        clear HP2
        go_wp2
        go_roundw
        case rel => exact ⟨q + 1, by omega, by omega, by go_num, ⟨_, _, by first | exact RN.out | exact RN.out.drew⟩⟩
        case measure => simp [intOf]; omega
    · have hor : q = L.length ∨ (q < L.length ∧ q = 500) := by omega
      clear hlt
      have HTK : Hid (L.take q = L.take 500) := Lib.hid (by
        rcases hor with rfl | ⟨_, rfl⟩
        · rw [List.take_of_length_le (Nat.le_refl _), List.take_of_length_le hq59]
        · rfl)
      have TX := R1.out.texts (hl := []) (by rfl) (by simp) (fun j hj => absurd hj (by simp)) HV.out.2.1 hq
      rw [HTK.out] at TX
      have TX := Lib.hid TX
      have RS := Lib.hid R1.out.res
      clear HTK
      obtain ⟨y1, k1, j1⟩ := (show _ from R1.out.res)
      rcases hor with rfl | ⟨hqn, rfl⟩
      · go_wp2
        refine at_world (StoredP w S (w.heap.size + 1) (.slice Ao (L.length) co) 0 (.slice none 0 0) (L.take 500) []) (storedP_of RS.out R1.out.below TX.out (Sl.nil _ _ _)) ?_
        rintro X ⟨x0, x1, x2, hts, htt, hX⟩
        refine bodyPost_ret (v := .agg #[.slice Ao (L.length) co, .int .i64 0, .slice none 0 0]) (by simp [results, Try.results10, go_sem, x0, x1, x2]) rfl ⟨_, _, rfl, hts, htt, hX⟩
      · have hd1 : decide ((500 : Int) < (L.length : Int)) = true := decide_eq_true (by omega)
        go_wp2
        refine at_world (StoredP w S (w.heap.size + 1) (.slice Ao (500) co) 0 (.slice none 0 0) (L.take 500) []) (storedP_of RS.out R1.out.below TX.out (Sl.nil _ _ _)) ?_
        rintro X ⟨x0, x1, x2, hts, htt, hX⟩
        refine bodyPost_ret (v := .agg #[.slice Ao (500) co, .int .i64 0, .slice none 0 0]) (by simp [results, Try.results10, go_sem, x0, x1, x2]) rfl ⟨_, _, rfl, hts, htt, hX⟩
end Go.Proofs.Ytmhjhndnbgabjaa

/- SpZ: SpF, SpJ, SpK, SpL, SpM, SpQ laid together. -/
import Derived.Test.YtfnieoffgnnldaaDoorPastC
import Derived.Test.YtfnieoffgnnldaaDoorStep
import Derived.Test.YtfnieoffgnnldaaDoorSameI
import Derived.Deep.RegionLaw
/- past: a variable that holds one; At. (Cut by program out of PastF and PastD.) -/
namespace Go.Proofs.YtfnieoffgnnldaaDoor
open Go.RowKit
set_option linter.unusedVariables false
set_option linter.unusedSimpArgs false

theorem below_one (w : World) (o : Obj) : Below w.heap.size w (w.alloc o) := (Below.refl _ _).alloc (Nat.le_refl _) _

/-- Behind block g. -/
def Aft (g b : Nat) : Prop := g < b
theorem aft_new {w : World} {g : Nat} (h : g < w.heap.size) {b : Nat} (hb : New w (Aft g) b) : Aft g b := hb.elim (fun h' => Nat.lt_of_lt_of_le h h') id

/-- A variable of the caller's at block w.heap.size holds a past. -/
structure VarP (w : World) (a : Value) (k : Int) (b : Value) (M : List (List Int)) (s : List Int) (X : World) : Prop where
  blk : Blk X w.heap.size #[a, .int .i64 k, b]
  ts : TxtsS X (Aft w.heap.size) a M
  tt : TxtS X (Aft w.heap.size) b s
  below : Below w.heap.size w X

theorem VarP.later {w X Y : World} {a b : Value} {k : Int} {M : List (List Int)} {s : List Int} (h : VarP w a k b M s X) (hb : Below X.heap.size X Y) : VarP w a k b M s Y := ⟨h.blk.later hb h.blk.1, h.ts.later hb, TxtS.later h.tt hb, h.below.trans (hb.mono h.below.size)⟩
theorem varP_new (w : World) (t : TypeId) : VarP w (.slice none 0 0) 0 (.slice none 0 0) [] [] (w.alloc (.cells #[.slice none 0 0, .int .i64 0, .slice none 0 0] t)) := ⟨blk_new w _ t, Txts.nil _ _, Sl.nil _ _ _, (Below.refl _ _).alloc (Nat.le_refl _) _⟩
theorem VarP.store {w X Y : World} {a b a' b' : Value} {k k' : Int} {M M' : List (List Int)} {s s' : List Int} (h : VarP w a k b M s X) (hb : Below X.heap.size X Y) (ht : TxtsS Y (Aft w.heap.size) a' M') (hs : TxtS Y (Aft w.heap.size) b' s') : VarP w a' k' b' M' s' (put3 Y w.heap.size a' (.int .i64 k') b') := by
  refine ⟨blk_put3 (h.blk.later hb h.blk.1) _ _ _, ?_, ?_, (((h.below.trans (hb.mono h.below.size)).setCell (p := ⟨w.heap.size, 0, none⟩) (Nat.le_refl _) _).setCell (p := ⟨w.heap.size, 1, none⟩) (Nat.le_refl _) _).setCell (p := ⟨w.heap.size, 2, none⟩) (Nat.le_refl _) _⟩
  · exact ((ht.far (p := ⟨w.heap.size, 0, none⟩) (fun e => Nat.lt_irrefl _ e) a').far (p := ⟨w.heap.size, 1, none⟩) (fun e => Nat.lt_irrefl _ e) _).far (p := ⟨w.heap.size, 2, none⟩) (fun e => Nat.lt_irrefl _ e) _
  · exact Sl.far (p := ⟨w.heap.size, 2, none⟩) (Sl.far (p := ⟨w.heap.size, 1, none⟩) (Sl.far (p := ⟨w.heap.size, 0, none⟩) hs (fun e => Nat.lt_irrefl _ e) a') (fun e => Nat.lt_irrefl _ e) _) (fun e => Nat.lt_irrefl _ e) _

set_option maxHeartbeats 1000000 in
theorem at_any (u lv : Value) (k : Int) (w : World) : Calls Tryd.prog 23 #[.agg #[u, .int .i64 k, lv]] w fun e w' => e = .returned (.int .i64 k) ∧ w' = w.alloc (.cells #[u, .int .i64 k, lv] 43) := by
  go_enter Tryd.func23, Tryd.ntmps23
  go_wp2
  go_ret
  exact ⟨rfl, rfl⟩

end Go.Proofs.YtfnieoffgnnldaaDoor

/- past: the document's Add. -/
namespace Go.Proofs.YtfnieoffgnnldaaDoor
open Go.RowKit
set_option linter.unusedVariables false
set_option linter.unusedSimpArgs false

/-- What holds at the head of Add's round: hd, and q of the elder lines, have come. -/
structure RB (w : World) (p : Array Value) (hd : List Value) (vs : Nat → Value) (q N : Nat) (ov : Value) (wr : World) : Prop where
  own : wr.ownsRow (w.heap.size + 3) 22 1 ov N (hd ++ (List.range q).map vs)
  box : Blk wr w.heap.size p
  res : Blk wr (w.heap.size + 1) #[.slice none 0 0, .int .i64 0, .slice none 0 0]
  out : Blk wr (w.heap.size + 1 + 1) #[ov, .int .i64 0, .slice none 0 0]
  below : Below w.heap.size w wr

theorem RB.far {w wr : World} {p : Array Value} {hd : List Value} {vs : Nat → Value} {q N : Nat} {ov : Value} (R : RB w p hd vs q N ov wr) (g : Nat) (hg : g < w.heap.size + 3) : some g ≠ ov.ownBlock := fun e => by
  have := (R.own.lt g e.symm).1
  omega
theorem below_threeP (w : World) (a b c : Obj) : Below w.heap.size w (((w.alloc a).alloc b).alloc c) := (below_two w a b).alloc (by simp only [World.size_alloc]; omega) c
theorem rb_start (w : World) (p : Array Value) (vs : Nat → Value) (r s t : TypeId) (n : Nat) :
    RB w p [] vs 0 0 (.slice none 0 0) ((((w.alloc (.cells p r)).alloc (.cells #[.slice none 0 0, .int .i64 0, .slice none 0 0] s)).alloc (.cells #[.slice none 0 0, .int .i64 0, .slice none 0 0] t)).drewN n) := by
  obtain ⟨h1, h2, h3⟩ := blk_three w p #[.slice none 0 0, .int .i64 0, .slice none 0 0] #[.slice none 0 0, .int .i64 0, .slice none 0 0] r s t
  exact ⟨World.ownsRow_nil _ _ _ _, h1.drewN n, h2.drewN n, h3.drewN n, below_drewN (below_threeP w _ _ _) n⟩
theorem rb_start0 (w : World) (p : Array Value) (vs : Nat → Value) (r s t : TypeId) :
    RB w p [] vs 0 0 (.slice none 0 0) (((w.alloc (.cells p r)).alloc (.cells #[.slice none 0 0, .int .i64 0, .slice none 0 0] s)).alloc (.cells #[.slice none 0 0, .int .i64 0, .slice none 0 0] t)) := by
  obtain ⟨h1, h2, h3⟩ := blk_three w p #[.slice none 0 0, .int .i64 0, .slice none 0 0] #[.slice none 0 0, .int .i64 0, .slice none 0 0] r s t
  exact ⟨World.ownsRow_nil _ _ _ _, h1, h2, h3, below_threeP w _ _ _⟩

theorem own_setCell {w : World} {base : Nat} {e : TypeId} {size n : Nat} {v : Value} {xs : List Value} (h : w.ownsRow base e size v n xs) (g i : Nat) (u : Value) (hne : v.ownBlock ≠ some g) : (w.setCell ⟨g, i, none⟩ u).ownsRow base e size v n xs :=
  h.kept (row := some g) ⟨rfl, rfl, rfl, by simp [World.setCell], fun k _ hk => Below.heap_setCell _ _ _ _ (fun e => hk (by simp [e]))⟩ (.inr hne)

theorem RB.push {w wr w3 : World} {p : Array Value} {hd hd' : List Value} {vs : Nat → Value} {q q' N : Nat} {ov x : Value} {A3 : Option Addr} {c3 : Nat} (R : RB w p hd vs q N ov wr) (hp : Pushed wr w3 (w.heap.size + 3) 22 1 ov (N + 1) ((hd ++ (List.range q).map vs) ++ [x]) A3 c3) (he : (hd ++ (List.range q).map vs) ++ [x] = hd' ++ (List.range q').map vs) :
    RB w p hd' vs q' (N + 1) (.slice A3 (N + 1) c3) (w3.setCell ⟨w.heap.size + 1 + 1, 0, none⟩ (.slice A3 (N + 1) c3)) := by
  have ho := hp.own
  rw [he] at ho
  have hne : (Value.slice A3 (N + 1) c3).ownBlock ≠ some (w.heap.size + 1 + 1) := fun e => by
    have := (ho.lt _ e).1
    omega
  refine ⟨own_setCell ho _ _ _ hne, ?_, ?_, ?_, ?_⟩
  · exact (R.box.grown hp.grown (R.far _ (by omega))).far (by show w.heap.size + 1 + 1 ≠ w.heap.size; omega) _
  · exact (R.res.grown hp.grown (R.far _ (by omega))).far (by show w.heap.size + 1 + 1 ≠ w.heap.size + 1; omega) _
  · exact (R.out.grown hp.grown (R.far _ (by omega))).set_ 0 (by simp) _
  · exact (hp.below R.below R.own (by omega)).setCell (p := ⟨w.heap.size + 1 + 1, 0, none⟩) (by simp only; omega) _
theorem RB.next {w wr w3 : World} {p : Array Value} {hd : List Value} {vs : Nat → Value} {q N : Nat} {ov : Value} {A3 : Option Addr} {c3 : Nat} (R : RB w p hd vs q N ov wr) (hp : Pushed wr w3 (w.heap.size + 3) 22 1 ov (N + 1) ((hd ++ (List.range q).map vs) ++ [vs q]) A3 c3) :
    RB w p hd vs (q + 1) (N + 1) (.slice A3 (N + 1) c3) (w3.setCell ⟨w.heap.size + 1 + 1, 0, none⟩ (.slice A3 (N + 1) c3)) := R.push hp (by simp [List.range_succ])
theorem RB.drew {w wr : World} {p : Array Value} {hd : List Value} {vs : Nat → Value} {q N : Nat} {ov : Value} (R : RB w p hd vs q N ov wr) : RB w p hd vs q N ov wr.drew :=
  ⟨own_later R.own (Below.refl _ _).drew, R.box, R.res, R.out, R.below.drew⟩

theorem RB.texts {w wr : World} {p : Array Value} {hd : List Value} {hl : List (List Int)} {vs : Nat → Value} {q N c : Nat} {Ao : Option Addr} {L : List (List Int)} {S : Nat → Prop} (R : RB w p hd vs q N (.slice Ao N c) wr) (hlen : hl.length = hd.length) (hN : N = hd.length + q)
    (hh : ∀ j, j < hd.length → ∃ u, hd[j]? = some u ∧ TxtS w S u (hl.getD j [])) (hvs : ∀ j, j < L.length → TxtS w S (vs j) (L.getD j [])) (hql : q ≤ L.length) :
    TxtsS wr (Out2 w S) (.slice Ao N c) (hl ++ L.take q) := by
  refine txts_own (by simp; omega) R.own (fun b hb => .inr (by omega)) fun j hj => ?_
  have keep {x : Value} {m : List Int} (h : TxtS w S x m) : TxtS wr (Out2 w S) x m := Sl.mono (h.old.later R.below) fun b hb => .inl hb
  by_cases hjl : j < hd.length
  · obtain ⟨u, h1, h2⟩ := hh j hjl
    refine ⟨u, by rw [List.getElem?_append_left hjl]; exact h1, ?_⟩
    rw [show (hl ++ L.take q).getD j [] = hl.getD j [] by simp [List.getD, List.getElem?_append, hlen, hjl]]
    exact keep h2
  · refine ⟨vs (j - hd.length), ?_, ?_⟩
    · rw [List.getElem?_append_right (by omega), List.getElem?_map, List.getElem?_range (by omega)]; rfl
    · have := keep (hvs (j - hd.length) (by omega))
      rwa [show (hl ++ L.take q).getD j [] = L.getD (j - hd.length) [] by
        simp only [List.getD]
        rw [List.getElem?_append_right (by omega), hlen, List.getElem?_take, if_pos (by omega)]]

/-- The document's lines, with one more. -/
def addL (L : List (List Int)) (l : List Int) : List (List Int) := if l = [] ∨ L.head? = some l then L.take 500 else l :: L.take 499

set_option maxHeartbeats 4000000 in
set_option maxRecDepth 100000 in
theorem radd_nil (u v lv : Value) (L : List (List Int)) (l : List Int) (k : Int) (S : Nat → Prop) (w : World) (hL : TxtsS w S u L) (hn : L.length ≤ 1000) (hl : TxtS w S v l) (h0 : l = []) :
    Calls Tryd.prog 20 #[.agg #[u, .int .i64 k, lv], v] w (TellsP (L.take 500) 0 [] S w) := by
  obtain ⟨A, c, rfl, hc, hc2⟩ := hL.is
  obtain ⟨Av, cv, rfl, _⟩ := Sl.is hl
  have hL0 := hL
  obtain ⟨vs, hvs, hts⟩ := hL
  have HV := Lib.hid (And.intro hvs (And.intro hts (And.intro hl hvs.parts.2.1)))
  subst h0
  clear hvs hts hl hL0
  go_enter Tryd.func20, Tryd.ntmps20
  go_wp2
  go_loopw [6] (fun i wr => ∃ q : Nat, q ≤ L.length ∧ q ≤ 500 ∧ i = .int .i64 q ∧ Hid (∃ Ao co, RB w #[.slice A L.length c, .int .i64 k, lv] [] vs q q (.slice Ao q co) wr)) (fun i _ => L.length - (intOf i).toNat)
  case atStart => exact ⟨0, Nat.zero_le _, Nat.zero_le _, rfl, ⟨none, 0, rb_start0 w _ _ _ _ _⟩⟩
  case round =>
    obtain ⟨q, hq, hq59, rfl, HR⟩ := hrel
    obtain ⟨Ao, co, R⟩ := HR.out
    have R1 := Lib.hid R
    obtain ⟨y0, k0, j0⟩ := (show _ from R.box)
    obtain ⟨y3, k3, j3⟩ := (show _ from R.out)
    clear R HR
    by_cases hlt : q < L.length ∧ q < 500
    · obtain ⟨hqn, hq2⟩ := hlt
      obtain ⟨b, o, e1, hbl, hcell⟩ := HV.out.2.2.2 q hqn
      cases e1
      obtain ⟨As, cs, es, _⟩ := Sl.is (HV.out.2.1 q hqn)
      obtain ⟨m, hm⟩ : ∃ m, m = (L.getD q []).length := ⟨_, rfl⟩
      rw [← hm] at es
      have hcq : wr.cell? ⟨b, o + q, none⟩ = some (.slice As m cs) := by rw [← es]; exact (R1.out.below.cell (p := ⟨b, o + q, none⟩) hbl).trans hcell
      have hbl1 : b < wr.heap.size := Nat.lt_of_lt_of_le hbl R1.out.below.size
      have HE := Lib.hid es
      have hd1 : decide ((q : Int) < (L.length : Int)) = true := decide_eq_true (by omega)
      have hd2 : decide ((q : Int) < 500) = true := decide_eq_true (by omega)
      have i0 : (0 : Int) ≤ (q : Int) := by omega
      have i1 : (q : Int) < (L.length : Int) := by omega
      have HHb := Lib.hid hbl
      clear hcell es hm
      go_wp2
      have s1 : wr.cell? ⟨w.heap.size + 1 + 1, 0, none⟩ = some (.slice Ao q co) := k3 0
      have s2 : wr.cell? ⟨w.heap.size, 0, none⟩ = some (.slice (some ⟨b, o, none⟩) L.length c) := k0 0
      have hne0 : w.heap.size + 1 + 1 ≠ w.heap.size := by omega
      have hne2 : w.heap.size + 1 + 1 ≠ b := by omega
      go_region_law ((refine step_push slT_elt R1.out.own (by have := R1.out.box.1; have := R1.out.out.1; omega) (by rfl) (by rfl) (by rfl) (by rfl) (by simp) (by rfl) (by rfl) (by unfold maxLen; omega) (by omega) ?_; intro A3 c3 w3 hp; have hB3 := R1.out.out.grown hp.grown (R1.out.far _ (by omega)); have hB0 := R1.out.box.grown hp.grown (R1.out.far _ (by omega)); have u1 : w3.cell? ⟨w.heap.size + 1 + 1, 0, none⟩ = some (.slice Ao q co) := hB3.2.1 0; have f1 : w3.frozen? ⟨w.heap.size + 1 + 1, 0, none⟩ = false := hB3.2.2 0; have u2 : w3.cell? ⟨w.heap.size, 0, none⟩ = some (.slice (some ⟨b, o, none⟩) L.length c) := hB0.2.1 0; have u3 : w3.cell? ⟨b, o + q, none⟩ = some (.slice As m cs) := (World.cell?_of_block (a := ⟨b, o + q, none⟩) (hp.grown.block b hbl1 (R1.out.far b (by have := HHb.out; omega)))).trans hcq; have HP := Lib.hid (And.intro hp (And.intro hB3 hB0)); clear hp hB3 hB0))
      all_goals
        have HP2 := HP.out.1
        rw [← HE.out] at HP2
        have RN := Lib.hid (R1.out.next HP2)
        clear HP2
        go_wp2
        go_roundw
        case rel => exact ⟨q + 1, by omega, by omega, by go_num, ⟨_, _, by first | exact RN.out | exact RN.out.drew⟩⟩
        case measure => simp [intOf]; omega
    · have hor : q = L.length ∨ (q < L.length ∧ q = 500) := by omega
      clear hlt
      have HTK : Hid (L.take q = L.take 500) := Lib.hid (by
        rcases hor with rfl | ⟨_, rfl⟩
        · rw [List.take_of_length_le (Nat.le_refl _), List.take_of_length_le hq59]
        · rfl)
      have TX := R1.out.texts (hl := []) (by rfl) (by simp) (fun j hj => absurd hj (by simp)) HV.out.2.1 hq
      rw [HTK.out] at TX
      have TX := Lib.hid TX
      have RS := Lib.hid R1.out.res
      clear HTK
      obtain ⟨y1, k1, j1⟩ := (show _ from R1.out.res)
      rcases hor with rfl | ⟨hqn, rfl⟩
      · go_wp2
        refine at_world (StoredP w S (w.heap.size + 1) (.slice Ao (L.length) co) 0 (.slice none 0 0) (L.take 500) []) (storedP_of RS.out R1.out.below TX.out (Sl.nil _ _ _)) ?_
        rintro X ⟨x0, x1, x2, hts, htt, hX⟩
        refine bodyPost_ret (v := .agg #[.slice Ao (L.length) co, .int .i64 0, .slice none 0 0]) (by simp [results, Tryd.results20, go_sem, x0, x1, x2]) rfl ⟨_, _, rfl, hts, htt, hX⟩
      · have hd1 : decide ((500 : Int) < (L.length : Int)) = true := decide_eq_true (by omega)
        go_wp2
        refine at_world (StoredP w S (w.heap.size + 1) (.slice Ao (500) co) 0 (.slice none 0 0) (L.take 500) []) (storedP_of RS.out R1.out.below TX.out (Sl.nil _ _ _)) ?_
        rintro X ⟨x0, x1, x2, hts, htt, hX⟩
        refine bodyPost_ret (v := .agg #[.slice Ao (500) co, .int .i64 0, .slice none 0 0]) (by simp [results, Tryd.results20, go_sem, x0, x1, x2]) rfl ⟨_, _, rfl, hts, htt, hX⟩
end Go.Proofs.YtfnieoffgnnldaaDoor

/- past: the document's Add, another way. -/
namespace Go.Proofs.YtfnieoffgnnldaaDoor
open Go.RowKit
set_option linter.unusedVariables false
set_option linter.unusedSimpArgs false

set_option maxHeartbeats 4000000 in
set_option maxRecDepth 100000 in
theorem radd_again (u v lv : Value) (L : List (List Int)) (l : List Int) (k : Int) (S : Nat → Prop) (w : World) (hL : TxtsS w S u L) (hn : L.length ≤ 1000) (hl : TxtS w S v l) (h0 : l ≠ []) (hL1 : L ≠ []) (hg : L.getD 0 [] = l) :
    Calls Tryd.prog 20 #[.agg #[u, .int .i64 k, lv], v] w (TellsP (L.take 500) 0 [] S w) := by
  obtain ⟨A, c, rfl, hc, hc2⟩ := hL.is
  obtain ⟨Av, cv, rfl, _⟩ := Sl.is hl
  have hL0 := hL
  obtain ⟨vs, hvs, hts⟩ := hL
  have HV := Lib.hid (And.intro hvs (And.intro hts (And.intro hl hvs.parts.2.1)))
  have hL00 : 0 < L.length := List.length_pos_iff.2 hL1
  have hl0 : 0 < l.length := List.length_pos_iff.2 h0
  obtain ⟨b0, o0, A0, n0, c0, rfl, hb0, hc0, ht0⟩ := hL0.at_ (j := 0) hL00
  rw [Nat.add_zero] at hc0
  have hcX := fun a b c : Obj => ((below_threeP w a b c).cell (p := ⟨b0, o0, none⟩) hb0).trans hc0
  have d0 : decide ((0 : Int) < (l.length : Int)) = true := decide_eq_true (by omega)
  have d1 : ((L.length : Int) == 0) = false := beq_eq_false_iff_ne.2 (by omega)
  have hne1 : L ≠ [] := hL1
  have hne2 : ¬ ((L.length : Int) = 0) := by omega
  have HT := Lib.hid (And.intro ht0.any (decide_eq_true hg))
  clear ht0 hg h0 hL1
  clear hvs hts hl hL0
  go_enter Tryd.func20, Tryd.ntmps20
  go_wp2_with (go_at_call 34; refine (same_is _ _ _ _ _ (HT.out.1.later (below_threeP _ _ _ _)) (TxtS.later (TxtS.any HV.out.2.2.1) (below_threeP _ _ _ _))).mono ?_; rintro e w1 ⟨rfl, qq, rfl⟩; rw [HT.out.2])
  clear hcX hc0 hb0 d0 d1 hne1 hne2 HT
  go_loopw [6] (fun i wr => ∃ q : Nat, q ≤ L.length ∧ q ≤ 500 ∧ i = .int .i64 q ∧ Hid (∃ Ao co, RB w #[.slice (some ⟨b0, o0, none⟩) L.length c, .int .i64 k, lv] [] vs q q (.slice Ao q co) wr)) (fun i _ => L.length - (intOf i).toNat)
  case atStart => exact ⟨0, Nat.zero_le _, Nat.zero_le _, rfl, ⟨none, 0, rb_start w _ _ _ _ _ qq⟩⟩
  case round =>
    obtain ⟨q, hq, hq59, rfl, HR⟩ := hrel
    obtain ⟨Ao, co, R⟩ := HR.out
    have R1 := Lib.hid R
    obtain ⟨y0, k0, j0⟩ := (show _ from R.box)
    obtain ⟨y3, k3, j3⟩ := (show _ from R.out)
    clear R HR
    by_cases hlt : q < L.length ∧ q < 500
    · obtain ⟨hqn, hq2⟩ := hlt
      obtain ⟨b, o, e1, hbl, hcell⟩ := HV.out.2.2.2 q hqn
      cases e1
      obtain ⟨As, cs, es, _⟩ := Sl.is (HV.out.2.1 q hqn)
      obtain ⟨m, hm⟩ : ∃ m, m = (L.getD q []).length := ⟨_, rfl⟩
      rw [← hm] at es
      have hcq : wr.cell? ⟨b0, o0 + q, none⟩ = some (.slice As m cs) := by rw [← es]; exact (R1.out.below.cell (p := ⟨b0, o0 + q, none⟩) hbl).trans hcell
      have hbl1 : b0 < wr.heap.size := Nat.lt_of_lt_of_le hbl R1.out.below.size
      have HE := Lib.hid es
      have hd1 : decide ((q : Int) < (L.length : Int)) = true := decide_eq_true (by omega)
      have hd2 : decide ((q : Int) < 500) = true := decide_eq_true (by omega)
      have i0 : (0 : Int) ≤ (q : Int) := by omega
      have i1 : (q : Int) < (L.length : Int) := by omega
      have HHb := Lib.hid hbl
      clear hcell es hm
      go_wp2
      have s1 : wr.cell? ⟨w.heap.size + 1 + 1, 0, none⟩ = some (.slice Ao q co) := k3 0
      have s2 : wr.cell? ⟨w.heap.size, 0, none⟩ = some (.slice (some ⟨b0, o0, none⟩) L.length c) := k0 0
      have hne0 : w.heap.size + 1 + 1 ≠ w.heap.size := by omega
      have hne2 : w.heap.size + 1 + 1 ≠ b0 := by omega
      go_region_law ((refine step_push slT_elt R1.out.own (by have := R1.out.box.1; have := R1.out.out.1; omega) (by rfl) (by rfl) (by rfl) (by rfl) (by simp) (by rfl) (by rfl) (by unfold maxLen; omega) (by omega) ?_; intro A3 c3 w3 hp; have hB3 := R1.out.out.grown hp.grown (R1.out.far _ (by omega)); have hB0 := R1.out.box.grown hp.grown (R1.out.far _ (by omega)); have u1 : w3.cell? ⟨w.heap.size + 1 + 1, 0, none⟩ = some (.slice Ao q co) := hB3.2.1 0; have f1 : w3.frozen? ⟨w.heap.size + 1 + 1, 0, none⟩ = false := hB3.2.2 0; have u2 : w3.cell? ⟨w.heap.size, 0, none⟩ = some (.slice (some ⟨b0, o0, none⟩) L.length c) := hB0.2.1 0; have u3 : w3.cell? ⟨b0, o0 + q, none⟩ = some (.slice As m cs) := (World.cell?_of_block (a := ⟨b0, o0 + q, none⟩) (hp.grown.block b0 hbl1 (R1.out.far b0 (by have := HHb.out; omega)))).trans hcq; have HP := Lib.hid (And.intro hp (And.intro hB3 hB0)); clear hp hB3 hB0))
      all_goals
        have HP2 := HP.out.1
        rw [← HE.out] at HP2
        have RN := Lib.hid (R1.out.next HP2)
        clear HP2
        go_wp2
        go_roundw
        case rel => exact ⟨q + 1, by omega, by omega, by go_num, ⟨_, _, by first | exact RN.out | exact RN.out.drew⟩⟩
        case measure => simp [intOf]; omega
    · have hor : q = L.length ∨ (q < L.length ∧ q = 500) := by omega
      clear hlt
      have HTK : Hid (L.take q = L.take 500) := Lib.hid (by
        rcases hor with rfl | ⟨_, rfl⟩
        · rw [List.take_of_length_le (Nat.le_refl _), List.take_of_length_le hq59]
        · rfl)
      have TX := R1.out.texts (hl := []) (by rfl) (by simp) (fun j hj => absurd hj (by simp)) HV.out.2.1 hq
      rw [HTK.out] at TX
      have TX := Lib.hid TX
      have RS := Lib.hid R1.out.res
      clear HTK
      obtain ⟨y1, k1, j1⟩ := (show _ from R1.out.res)
      rcases hor with rfl | ⟨hqn, rfl⟩
      · go_wp2
        refine at_world (StoredP w S (w.heap.size + 1) (.slice Ao (L.length) co) 0 (.slice none 0 0) (L.take 500) []) (storedP_of RS.out R1.out.below TX.out (Sl.nil _ _ _)) ?_
        rintro X ⟨x0, x1, x2, hts, htt, hX⟩
        refine bodyPost_ret (v := .agg #[.slice Ao (L.length) co, .int .i64 0, .slice none 0 0]) (by simp [results, Tryd.results20, go_sem, x0, x1, x2]) rfl ⟨_, _, rfl, hts, htt, hX⟩
      · have hd1 : decide ((500 : Int) < (L.length : Int)) = true := decide_eq_true (by omega)
        go_wp2
        refine at_world (StoredP w S (w.heap.size + 1) (.slice Ao (500) co) 0 (.slice none 0 0) (L.take 500) []) (storedP_of RS.out R1.out.below TX.out (Sl.nil _ _ _)) ?_
        rintro X ⟨x0, x1, x2, hts, htt, hX⟩
        refine bodyPost_ret (v := .agg #[.slice Ao (500) co, .int .i64 0, .slice none 0 0]) (by simp [results, Tryd.results20, go_sem, x0, x1, x2]) rfl ⟨_, _, rfl, hts, htt, hX⟩
end Go.Proofs.YtfnieoffgnnldaaDoor

/- past: the document's Add, another way. -/
namespace Go.Proofs.YtfnieoffgnnldaaDoor
open Go.RowKit
set_option linter.unusedVariables false
set_option linter.unusedSimpArgs false

set_option maxHeartbeats 4000000 in
set_option maxRecDepth 100000 in
theorem radd_more (u v lv : Value) (L : List (List Int)) (l : List Int) (k : Int) (S : Nat → Prop) (w : World) (hL : TxtsS w S u L) (hn : L.length ≤ 1000) (hl : TxtS w S v l) (h0 : l ≠ []) (hL1 : L ≠ []) (hg : L.getD 0 [] ≠ l) :
    Calls Tryd.prog 20 #[.agg #[u, .int .i64 k, lv], v] w (TellsP (l :: L.take 499) 0 [] S w) := by
  obtain ⟨A, c, rfl, hc, hc2⟩ := hL.is
  obtain ⟨Av, cv, rfl, _⟩ := Sl.is hl
  have hL0 := hL
  obtain ⟨vs, hvs, hts⟩ := hL
  have HV := Lib.hid (And.intro hvs (And.intro hts (And.intro hl hvs.parts.2.1)))
  have hL00 : 0 < L.length := List.length_pos_iff.2 hL1
  have hl0 : 0 < l.length := List.length_pos_iff.2 h0
  obtain ⟨b0, o0, A0, n0, c0, rfl, hb0, hc0, ht0⟩ := hL0.at_ (j := 0) hL00
  rw [Nat.add_zero] at hc0
  have hcX := fun a b c : Obj => ((below_threeP w a b c).cell (p := ⟨b0, o0, none⟩) hb0).trans hc0
  have d0 : decide ((0 : Int) < (l.length : Int)) = true := decide_eq_true (by omega)
  have d1 : ((L.length : Int) == 0) = false := beq_eq_false_iff_ne.2 (by omega)
  have hne1 : L ≠ [] := hL1
  have hne2 : ¬ ((L.length : Int) = 0) := by omega
  have HT := Lib.hid (And.intro ht0.any (decide_eq_false hg))
  clear ht0 hg h0 hL1
  clear hvs hts hl hL0
  go_enter Tryd.func20, Tryd.ntmps20
  go_wp2_with (first
    | (go_at_call 34; refine (same_is _ _ _ _ _ (HT.out.1.later (below_threeP _ _ _ _)) (TxtS.later (TxtS.any HV.out.2.2.1) (below_threeP _ _ _ _))).mono ?_; rintro e w1 ⟨rfl, qq, rfl⟩; rw [HT.out.2]; have RX := Lib.hid (rb_start w #[.slice (some ⟨b0, o0, none⟩) L.length c, .int .i64 k, lv] vs 40 40 40 qq))
    | (at_builtin; refine wpList_push slT_elt RX.out.own (by have := RX.out.out.1; omega) rfl rfl rfl rfl (by simp) rfl rfl (by unfold maxLen; omega) (by omega) ?_; intro A3 c3 w3 hp; have RY := Lib.hid (RX.out.push (hd' := [.slice Av l.length cv]) (q' := 0) hp (by rfl)); have hB3 := RX.out.out.grown hp.grown (RX.out.far _ (by omega)); have u1 : w3.cell? ⟨w.heap.size + 1 + 1, 0, none⟩ = some (.slice none 0 0) := hB3.2.1 0; have f1 : w3.frozen? ⟨w.heap.size + 1 + 1, 0, none⟩ = false := hB3.2.2 0; clear hp hB3))
  clear hcX hc0 hb0 d0 d1 hne1 hne2 HT
  go_loopw [6] (fun i wr => ∃ q : Nat, q ≤ L.length ∧ q ≤ 499 ∧ i = .int .i64 q ∧ Hid (∃ Ao co, RB w #[.slice (some ⟨b0, o0, none⟩) L.length c, .int .i64 k, lv] [.slice Av l.length cv] vs q (q + 1) (.slice Ao (q + 1) co) wr)) (fun i _ => L.length - (intOf i).toNat)
  case atStart => exact ⟨0, Nat.zero_le _, Nat.zero_le _, rfl, ⟨_, _, RY.out⟩⟩
  case round =>
    obtain ⟨q, hq, hq59, rfl, HR⟩ := hrel
    obtain ⟨Ao, co, R⟩ := HR.out
    have R1 := Lib.hid R
    obtain ⟨y0, k0, j0⟩ := (show _ from R.box)
    obtain ⟨y3, k3, j3⟩ := (show _ from R.out)
    clear R HR
    by_cases hlt : q < L.length ∧ q < 499
    · obtain ⟨hqn, hq2⟩ := hlt
      obtain ⟨b, o, e1, hbl, hcell⟩ := HV.out.2.2.2 q hqn
      cases e1
      obtain ⟨As, cs, es, _⟩ := Sl.is (HV.out.2.1 q hqn)
      obtain ⟨m, hm⟩ : ∃ m, m = (L.getD q []).length := ⟨_, rfl⟩
      rw [← hm] at es
      have hcq : wr.cell? ⟨b0, o0 + q, none⟩ = some (.slice As m cs) := by rw [← es]; exact (R1.out.below.cell (p := ⟨b0, o0 + q, none⟩) hbl).trans hcell
      have hbl1 : b0 < wr.heap.size := Nat.lt_of_lt_of_le hbl R1.out.below.size
      have HE := Lib.hid es
      have hd1 : decide ((q : Int) < (L.length : Int)) = true := decide_eq_true (by omega)
      have hd2 : decide ((q : Int) + 1 < 500) = true := decide_eq_true (by omega)
      have i0 : (0 : Int) ≤ (q : Int) := by omega
      have i1 : (q : Int) < (L.length : Int) := by omega
      have HHb := Lib.hid hbl
      clear hcell es hm
      go_wp2
      have s1 : wr.cell? ⟨w.heap.size + 1 + 1, 0, none⟩ = some (.slice Ao (q + 1) co) := k3 0
      have s2 : wr.cell? ⟨w.heap.size, 0, none⟩ = some (.slice (some ⟨b0, o0, none⟩) L.length c) := k0 0
      have hne0 : w.heap.size + 1 + 1 ≠ w.heap.size := by omega
      have hne2 : w.heap.size + 1 + 1 ≠ b0 := by omega
      go_region_law ((refine step_push slT_elt R1.out.own (by have := R1.out.box.1; have := R1.out.out.1; omega) (by rfl) (by rfl) (by rfl) (by rfl) (by simp) (by rfl) (by rfl) (by unfold maxLen; omega) (by omega) ?_; intro A3 c3 w3 hp; have hB3 := R1.out.out.grown hp.grown (R1.out.far _ (by omega)); have hB0 := R1.out.box.grown hp.grown (R1.out.far _ (by omega)); have u1 : w3.cell? ⟨w.heap.size + 1 + 1, 0, none⟩ = some (.slice Ao (q + 1) co) := hB3.2.1 0; have f1 : w3.frozen? ⟨w.heap.size + 1 + 1, 0, none⟩ = false := hB3.2.2 0; have u2 : w3.cell? ⟨w.heap.size, 0, none⟩ = some (.slice (some ⟨b0, o0, none⟩) L.length c) := hB0.2.1 0; have u3 : w3.cell? ⟨b0, o0 + q, none⟩ = some (.slice As m cs) := (World.cell?_of_block (a := ⟨b0, o0 + q, none⟩) (hp.grown.block b0 hbl1 (R1.out.far b0 (by have := HHb.out; omega)))).trans hcq; have HP := Lib.hid (And.intro hp (And.intro hB3 hB0)); clear hp hB3 hB0))
      all_goals
        have HP2 := HP.out.1
        rw [← HE.out] at HP2
        have RN := Lib.hid (R1.out.next HP2)
        clear HP2
        go_wp2
        go_roundw
        case rel => exact ⟨q + 1, by omega, by omega, by go_num, ⟨_, _, by first | exact RN.out | exact RN.out.drew⟩⟩
        case measure => simp [intOf]; omega
    · have hor : q = L.length ∨ (q < L.length ∧ q = 499) := by omega
      clear hlt
      have HTK : Hid (L.take q = L.take 499) := Lib.hid (by
        rcases hor with rfl | ⟨_, rfl⟩
        · rw [List.take_of_length_le (Nat.le_refl _), List.take_of_length_le hq59]
        · rfl)
      have TX := R1.out.texts (hl := [l]) (by rfl) (by simp; omega) (fun j hj => ⟨_, by obtain rfl : j = 0 := (by simpa using hj); rfl, by obtain rfl : j = 0 := (by simpa using hj); exact HV.out.2.2.1⟩) HV.out.2.1 hq
      rw [HTK.out] at TX
      have TX := Lib.hid TX
      have RS := Lib.hid R1.out.res
      clear HTK
      obtain ⟨y1, k1, j1⟩ := (show _ from R1.out.res)
      rcases hor with rfl | ⟨hqn, rfl⟩
      · go_wp2
        refine at_world (StoredP w S (w.heap.size + 1) (.slice Ao (L.length + 1) co) 0 (.slice none 0 0) (l :: L.take 499) []) (storedP_of RS.out R1.out.below TX.out (Sl.nil _ _ _)) ?_
        rintro X ⟨x0, x1, x2, hts, htt, hX⟩
        refine bodyPost_ret (v := .agg #[.slice Ao (L.length + 1) co, .int .i64 0, .slice none 0 0]) (by simp [results, Tryd.results20, go_sem, x0, x1, x2]) rfl ⟨_, _, rfl, hts, htt, hX⟩
      · have hd1 : decide ((499 : Int) < (L.length : Int)) = true := decide_eq_true (by omega)
        go_wp2
        refine at_world (StoredP w S (w.heap.size + 1) (.slice Ao (499 + 1) co) 0 (.slice none 0 0) (l :: L.take 499) []) (storedP_of RS.out R1.out.below TX.out (Sl.nil _ _ _)) ?_
        rintro X ⟨x0, x1, x2, hts, htt, hX⟩
        refine bodyPost_ret (v := .agg #[.slice Ao (499 + 1) co, .int .i64 0, .slice none 0 0]) (by simp [results, Tryd.results20, go_sem, x0, x1, x2]) rfl ⟨_, _, rfl, hts, htt, hX⟩
end Go.Proofs.YtfnieoffgnnldaaDoor

/- past: the document's Add, another way. -/
namespace Go.Proofs.YtfnieoffgnnldaaDoor
open Go.RowKit
set_option linter.unusedVariables false
set_option linter.unusedSimpArgs false

set_option maxHeartbeats 4000000 in
set_option maxRecDepth 100000 in
theorem radd_first (u v lv : Value) (L : List (List Int)) (l : List Int) (k : Int) (S : Nat → Prop) (w : World) (hL : TxtsS w S u L) (hn : L.length ≤ 1000) (hl : TxtS w S v l) (h0 : l ≠ []) (hL1 : L = []) :
    Calls Tryd.prog 20 #[.agg #[u, .int .i64 k, lv], v] w (TellsP ([l]) 0 [] S w) := by
  obtain ⟨A, c, rfl, hc, hc2⟩ := hL.is
  obtain ⟨Av, cv, rfl, _⟩ := Sl.is hl
  have hL0 := hL
  obtain ⟨vs, hvs, hts⟩ := hL
  have HV := Lib.hid (And.intro hvs (And.intro hts (And.intro hl hvs.parts.2.1)))
  have hl0 : 0 < l.length := List.length_pos_iff.2 h0
  have d0 : decide ((0 : Int) < (l.length : Int)) = true := decide_eq_true (by omega)
  subst hL1
  have HD := Lib.hid d0
  have RX := Lib.hid (rb_start0 w #[.slice A 0 c, .int .i64 k, lv] vs 40 40 40)
  clear h0
  clear hvs hts hl hL0
  go_enter Tryd.func20, Tryd.ntmps20
  go_wp2_with (at_builtin; refine wpList_push slT_elt RX.out.own (by have := RX.out.out.1; omega) rfl rfl rfl rfl (by simp) rfl rfl (by unfold maxLen; omega) (by omega) ?_; intro A3 c3 w3 hp; have RY := Lib.hid (RX.out.push (hd' := [.slice Av l.length cv]) (q' := 0) hp (by rfl)); have hB3 := RX.out.out.grown hp.grown (RX.out.far _ (by omega)); have u1 : w3.cell? ⟨w.heap.size + 1 + 1, 0, none⟩ = some (.slice none 0 0) := hB3.2.1 0; have f1 : w3.frozen? ⟨w.heap.size + 1 + 1, 0, none⟩ = false := hB3.2.2 0; clear hp hB3)
  clear HD d0
  go_loopw [6] (fun i wr => i = .int .i64 0 ∧ Hid (∃ Ao co, RB w #[.slice A 0 c, .int .i64 k, lv] [.slice Av l.length cv] vs 0 1 (.slice Ao 1 co) wr)) (fun _ _ => 0)
  case atStart => exact ⟨rfl, ⟨_, _, RY.out⟩⟩
  case round =>
    obtain ⟨rfl, HR⟩ := hrel
    obtain ⟨Ao, co, R⟩ := HR.out
    have R1 := Lib.hid R
    have TX := Lib.hid (R1.out.texts (hl := [l]) (by rfl) (by rfl) (fun j hj => ⟨_, by obtain rfl : j = 0 := (by simpa using hj); rfl, by obtain rfl : j = 0 := (by simpa using hj); exact HV.out.2.2.1⟩) HV.out.2.1 (Nat.zero_le _))
    have RS := Lib.hid R1.out.res
    obtain ⟨y0, k0, j0⟩ := (show _ from R.box)
    obtain ⟨y3, k3, j3⟩ := (show _ from R.out)
    obtain ⟨y1, k1, j1⟩ := (show _ from R.res)
    clear R HR
    go_wp2
    refine at_world (StoredP w S (w.heap.size + 1) (.slice Ao 1 co) 0 (.slice none 0 0) [l] []) (storedP_of RS.out R1.out.below TX.out (Sl.nil _ _ _)) ?_
    rintro X ⟨x0, x1, x2, hts, htt, hX⟩
    refine bodyPost_ret (v := .agg #[.slice Ao 1 co, .int .i64 0, .slice none 0 0]) (by simp [results, Tryd.results20, go_sem, x0, x1, x2]) rfl ⟨_, _, rfl, hts, htt, hX⟩
end Go.Proofs.YtfnieoffgnnldaaDoor

/- past: the document's Add, whole. (Cut by program out of PastQ.) -/
namespace Go.Proofs.YtfnieoffgnnldaaDoor
open Go.RowKit
set_option linter.unusedVariables false
set_option linter.unusedSimpArgs false

theorem radd_any (u v lv : Value) (L : List (List Int)) (l : List Int) (k : Int) (S : Nat → Prop) (w : World) (hL : TxtsS w S u L) (hn : L.length ≤ 1000) (hl : TxtS w S v l) :
    Calls Tryd.prog 20 #[.agg #[u, .int .i64 k, lv], v] w (TellsP (addL L l) 0 [] S w) := by
  unfold addL
  by_cases h0 : l = []
  · rw [if_pos (.inl h0)]; exact radd_nil u v lv L l k S w hL hn hl h0
  · by_cases h1 : L = []
    · have h := radd_first u v lv L l k S w hL hn hl h0 h1
      subst h1
      rw [if_neg (by simp [h0])]; exact h
    · have e : L.head? = some (L.getD 0 []) := by cases L with
        | nil => exact absurd rfl h1
        | cons a t => rfl
      by_cases hg : L.getD 0 [] = l
      · rw [if_pos (.inr (by rw [e, hg]))]; exact radd_again u v lv L l k S w hL hn hl h0 h1 hg
      · rw [if_neg (by rw [e]; simp only [h0, false_or]; intro h; injection h with h; exact hg h)]; exact radd_more u v lv L l k S w hL hn hl h0 h1 hg

theorem addL_rev (M : List (List Int)) (l : List Int) (hM : M.length ≤ 500) : addL M.reverse l = (addM M l).reverse := by
  unfold addL addM
  rw [List.head?_reverse]
  by_cases h : l = [] ∨ M.getLast? = some l
  · rw [if_pos h, if_pos h, List.take_of_length_le (by simpa using hM)]
  · rw [if_neg h, if_neg h, List.reverse_append, List.take_reverse, List.reverse_singleton, List.singleton_append]
theorem addM_mem' {M : List (List Int)} {l : List Int} {b : Nat} (h : ∀ x ∈ M, x.length ≤ b) (hl : l.length ≤ b) : ∀ x ∈ addM M l, x.length ≤ b := by
  intro x hx
  unfold addM at hx
  split at hx
  · exact h x hx
  · rcases List.mem_append.1 hx with hx | hx
    · exact h x (List.mem_of_mem_drop hx)
    · simp at hx; subst hx; exact hl
theorem addM_len' {M : List (List Int)} {l : List Int} {q : Nat} (h : M.length ≤ q) : (addM M l).length ≤ q + 1 := by
  unfold addM
  split
  · omega
  · simp only [List.length_append, List.length_drop, List.length_singleton]; omega
end Go.Proofs.YtfnieoffgnnldaaDoor

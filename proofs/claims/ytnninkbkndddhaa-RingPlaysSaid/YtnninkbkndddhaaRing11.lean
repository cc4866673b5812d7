/- ring: the document's Add. -/
import Derived.Test.YtnninkbkndddhaaRing9
import Derived.Test.YtnninkbkndddhaaStep
import Derived.Deep.RegionLaw
namespace Go.Proofs.Ytnninkbkndddhaa
open Go.RowKit
set_option linter.unusedVariables false
set_option linter.unusedSimpArgs false

/-- What holds at the head of Add's round. -/
structure RA (w : World) (ru rk sv : Value) (vs : Nat → Value) (q : Nat) (ov : Value) (wr : World) : Prop where
  own : wr.ownsRow (w.heap.size + 2) 26 1 ov (q + 1) (sv :: (List.range q).map vs)
  box : Blk wr w.heap.size #[ru, rk]
  res : Blk wr (w.heap.size + 1) #[.slice none 0 0, .int .i64 0]
  out : Blk wr (w.heap.size + 1 + 1 + 1) #[ov, .int .i64 0]
  below : Below w.heap.size w wr
  ne : some (w.heap.size + 1 + 1 + 1) ≠ ov.ownBlock

theorem blk_four (w : World) (a b c d : Array Value) (s t u x : TypeId) : Blk ((((w.alloc (.cells a s)).alloc (.cells b t)).alloc (.cells c u)).alloc (.cells d x)) w.heap.size a ∧ Blk ((((w.alloc (.cells a s)).alloc (.cells b t)).alloc (.cells c u)).alloc (.cells d x)) (w.heap.size + 1) b ∧
    Blk ((((w.alloc (.cells a s)).alloc (.cells b t)).alloc (.cells c u)).alloc (.cells d x)) (w.heap.size + 1 + 1 + 1) d := by
  obtain ⟨h1, h2, h3⟩ := blk_three w a b c s t u
  refine ⟨h1.alloc _, h2.alloc _, ?_⟩
  have h := blk_new (((w.alloc (.cells a s)).alloc (.cells b t)).alloc (.cells c u)) d x
  simpa only [World.size_alloc] using h

theorem ra_start (w : World) (ru rk sv : Value) (vs : Nat → Value) (t : TypeId) : RA w ru rk sv vs 0 (.slice (some ⟨w.heap.size + 1 + 1, 0, none⟩) 1 1)
    ((((w.alloc (.cells #[ru, rk] t)).alloc (.cells #[.slice none 0 0, .int .i64 0] t)).alloc (.cells #[sv] 26)).alloc (.cells #[.slice (some ⟨w.heap.size + 1 + 1, 0, none⟩) 1 1, .int .i64 0] t)) := by
  obtain ⟨h1, h2, h3⟩ := blk_four w #[ru, rk] #[.slice none 0 0, .int .i64 0] #[sv] #[.slice (some ⟨w.heap.size + 1 + 1, 0, none⟩) 1 1, .int .i64 0] t t 26 t
  refine ⟨?_, h1, h2, h3, (below_three w _ _ _).alloc (by simp only [World.size_alloc]; omega) _, by simp [Value.ownBlock]⟩
  have h := own_new ((w.alloc (.cells #[ru, rk] t)).alloc (.cells #[.slice none 0 0, .int .i64 0] t)) #[sv] 26 1 rfl (by decide)
  simp only [World.size_alloc] at h
  exact own_later h ((Below.refl _ _).alloc (Nat.le_refl _) _)

theorem own_setCell {w : World} {base : Nat} {e : TypeId} {size n : Nat} {v : Value} {xs : List Value} (h : w.ownsRow base e size v n xs) (g i : Nat) (u : Value) (hne : v.ownBlock ≠ some g) : (w.setCell ⟨g, i, none⟩ u).ownsRow base e size v n xs :=
  h.kept (row := some g) ⟨rfl, rfl, rfl, by simp [World.setCell], fun k _ hk => Below.heap_setCell _ _ _ _ (fun e => hk (by simp [e]))⟩ (.inr hne)

theorem RA.next {w wr w3 : World} {ru rk sv : Value} {vs : Nat → Value} {q : Nat} {ov : Value} {A3 : Option Addr} {c3 : Nat} (R : RA w ru rk sv vs q ov wr) (hp : Pushed wr w3 (w.heap.size + 2) 26 1 ov (q + 1 + 1) ((sv :: (List.range q).map vs) ++ [vs q]) A3 c3) :
    RA w ru rk sv vs (q + 1) (.slice A3 (q + 1 + 1) c3) (w3.setCell ⟨w.heap.size + 1 + 1 + 1, 0, none⟩ (.slice A3 (q + 1 + 1) c3)) := by
  have hlt (k : Nat) (hk : ov.ownBlock = some k) : w.heap.size + 2 ≤ k := (R.own.lt k hk).1
  have hne : some (w.heap.size + 1 + 1 + 1) ≠ (Value.slice A3 (q + 1 + 1) c3).ownBlock := by
    rcases hp.at_ with h | ⟨k, h, hk⟩
    · rw [h]; exact R.ne
    · rw [h]; intro e; injection e with e; have := R.out.1; omega
  have e1 : (sv :: (List.range q).map vs) ++ [vs q] = sv :: (List.range (q + 1)).map vs := by simp [List.range_succ]
  have ho := hp.own
  rw [e1] at ho
  refine ⟨own_setCell ho _ _ _ (fun e => hne e.symm), ?_, ?_, ?_, ?_, hne⟩
  · exact (R.box.grown hp.grown (fun e => by have := hlt _ e.symm; omega)).far (by show w.heap.size + 1 + 1 + 1 ≠ w.heap.size; omega) _
  · exact (R.res.grown hp.grown (fun e => by have := hlt _ e.symm; omega)).far (by show w.heap.size + 1 + 1 + 1 ≠ w.heap.size + 1; omega) _
  · exact (R.out.grown hp.grown R.ne).set_ 0 (by simp) _
  · exact (hp.below R.below R.own (by omega)).setCell (p := ⟨w.heap.size + 1 + 1 + 1, 0, none⟩) (by simp only; omega) _
theorem RA.drew {w wr : World} {ru rk sv : Value} {vs : Nat → Value} {q : Nat} {ov : Value} (R : RA w ru rk sv vs q ov wr) : RA w ru rk sv vs q ov wr.drew :=
  ⟨own_later R.own (Below.refl _ _).drew, R.box, R.res, R.out, R.below.drew, R.ne⟩

theorem RA.texts {w wr : World} {ru rk sv : Value} {vs : Nat → Value} {q c : Nat} {Ao : Option Addr} {L : List (List Int)} {l : List Int} {S : Nat → Prop} (R : RA w ru rk sv vs q (.slice Ao (q + 1) c) wr) (hsv : TxtS w S sv l) (hvs : ∀ j, j < L.length → TxtS w S (vs j) (L.getD j [])) (hq : L.take q = L.take 59) (hql : q ≤ L.length) :
    TxtsS wr (Out2 w S) (.slice Ao (q + 1) c) (l :: L.take 59) := by
  rw [← hq]
  refine txts_own (by simp; omega) R.own (fun b hb => .inr hb) fun j hj => ?_
  have keep {x : Value} {m : List Int} (h : TxtS w S x m) : TxtS wr (Out2 w S) x m := Sl.mono (h.old.later R.below) fun b hb => .inl hb
  cases j with
  | zero => exact ⟨sv, rfl, keep hsv⟩
  | succ j =>
    refine ⟨vs j, by rw [List.getElem?_cons_succ, List.getElem?_map, List.getElem?_range (by omega)]; rfl, ?_⟩
    have := keep (hvs j (by omega))
    rwa [show (l :: L.take q).getD (j + 1) [] = L.getD j [] by simp [List.getD, List.getElem?_take, show j < q by omega]]

set_option maxHeartbeats 4000000 in
set_option maxRecDepth 100000 in
theorem radd_any (u v : Value) (L : List (List Int)) (l : List Int) (k : Int) (S : Nat → Prop) (w : World) (hL : TxtsS w S u L) (hn : L.length ≤ 1000) (hl : TxtS w S v l) :
    Calls Try.prog 20 #[.agg #[u, .int .i64 k], v] w (TellsR (l :: L.take 59) 0 S w) := by
  obtain ⟨A, c, rfl, hc, hc2⟩ := hL.is
  obtain ⟨Av, cv, rfl, _⟩ := Sl.is hl
  obtain ⟨vs, hvs, hts⟩ := hL
  have HV := Lib.hid (And.intro hvs (And.intro hts hl))
  have hvs' := hvs.parts.2.1
  clear hvs hts hl
  go_enter Try.func20, Try.ntmps20
  go_wp2
  go_loopw [6] (fun i wr => ∃ q : Nat, q ≤ L.length ∧ q ≤ 59 ∧ i = .int .i64 q ∧ Hid (∃ Ao co, RA w (.slice A L.length c) (.int .i64 k) (.slice Av l.length cv) vs q (.slice Ao (q + 1) co) wr)) (fun i _ => L.length - (intOf i).toNat)
  case atStart => exact ⟨0, Nat.zero_le _, Nat.zero_le _, rfl, ⟨_, _, ra_start w _ _ _ _ _⟩⟩
  case round =>
    obtain ⟨q, hq, hq59, rfl, HR⟩ := hrel
    obtain ⟨Ao, co, R⟩ := HR.out
    have R1 := Lib.hid R
    obtain ⟨y0, k0, j0⟩ := (show _ from R.box)
    obtain ⟨y3, k3, j3⟩ := (show _ from R.out)
    clear R HR
    by_cases hlt : q < L.length ∧ q < 59
    · obtain ⟨hqn, hq2⟩ := hlt
      obtain ⟨b, o, e1, hbl, hcell⟩ := hvs' q hqn
      subst e1
      obtain ⟨As, cs, es, _⟩ := Sl.is (HV.out.2.1 q hqn)
      obtain ⟨m, hm⟩ : ∃ m, m = (L.getD q []).length := ⟨_, rfl⟩
      rw [← hm] at es
      have hcq : wr.cell? ⟨b, o + q, none⟩ = some (.slice As m cs) := by rw [← es]; exact (R1.out.below.cell (p := ⟨b, o + q, none⟩) hbl).trans hcell
      have hbl1 : b < wr.heap.size := Nat.lt_of_lt_of_le hbl R1.out.below.size
      have HE := Lib.hid es
      have hd1 : decide ((q : Int) < (L.length : Int)) = true := by simp; omega
      have hd2 : decide ((q : Int) + 1 < 60) = true := by simp; omega
      have i0 : (0 : Int) ≤ (q : Int) := by omega
      have i1 : (q : Int) < (L.length : Int) := by omega
      have HHb := Lib.hid hbl
      clear hcell es hvs' hm
      go_wp2
      have s1 : wr.cell? ⟨w.heap.size + 1 + 1 + 1, 0, none⟩ = some (.slice Ao (q + 1) co) := k3 0
      have s2 : wr.cell? ⟨w.heap.size, 0, none⟩ = some (.slice (some ⟨b, o, none⟩) L.length c) := k0 0
      have hne0 : w.heap.size + 1 + 1 + 1 ≠ w.heap.size := by omega
      have hne2 : w.heap.size + 1 + 1 + 1 ≠ b := by omega
      go_region_law ((refine step_push slT_elt R1.out.own (by have := R1.out.box.1; have := R1.out.out.1; omega) (by rfl) (by rfl) (by rfl) (by rfl) (by simp) (by rfl) (by rfl) (by unfold maxLen; omega) (by omega) ?_; intro A3 c3 w3 hp; have hB3 := R1.out.out.grown hp.grown R1.out.ne; have hB0 := R1.out.box.grown hp.grown (fun e => by have := (R1.out.own.lt _ e.symm).1; omega); have u1 : w3.cell? ⟨w.heap.size + 1 + 1 + 1, 0, none⟩ = some (.slice Ao (q + 1) co) := hB3.2.1 0; have f1 : w3.frozen? ⟨w.heap.size + 1 + 1 + 1, 0, none⟩ = false := hB3.2.2 0; have u2 : w3.cell? ⟨w.heap.size, 0, none⟩ = some (.slice (some ⟨b, o, none⟩) L.length c) := hB0.2.1 0; have u3 : w3.cell? ⟨b, o + q, none⟩ = some (.slice As m cs) := (World.cell?_of_block (a := ⟨b, o + q, none⟩) (hp.grown.block b hbl1 (fun e => by have := (R1.out.own.lt _ e.symm).1; have := HHb.out; omega))).trans hcq; have HP := Lib.hid (And.intro hp (And.intro hB3 hB0)); clear hp hB3 hB0))
      all_goals
        have HP2 := HP.out.1
        rw [← HE.out] at HP2
        have RN := Lib.hid (R1.out.next HP2)
        clear HP2
        go_wp2
        go_roundw
        case rel => exact ⟨q + 1, by omega, by omega, by go_num, ⟨_, _, by first | exact RN.out | exact RN.out.drew⟩⟩
        case measure => simp [intOf]; omega
    · have hor : q = L.length ∨ (q < L.length ∧ q = 59) := by omega
      clear hlt hvs'
      rcases hor with rfl | ⟨hqn, rfl⟩
      · have HTK := Lib.hid (show L.take L.length = L.take 59 by rw [List.take_of_length_le (Nat.le_refl _), List.take_of_length_le hq59])
        have TX := Lib.hid (R1.out.texts HV.out.2.2 HV.out.2.1 HTK.out hq)
        have RB := Lib.hid R1.out.res
        obtain ⟨y1, k1, j1⟩ := (show _ from R1.out.res)
        go_wp2
        refine at_world (Stored w S (w.heap.size + 1) (.slice Ao (L.length + 1) co) (.int .i64 0) (l :: L.take 59)) ?_ ?_
        · exact stored_at RB.out R1.out.below (by omega) TX.out (fun b hb => hb.new) not_out2
        rintro X ⟨x0, x1, hts, hX⟩
        refine bodyPost_ret (v := .agg #[.slice Ao (L.length + 1) co, .int .i64 0]) (by simp [results, Try.results20, go_sem, x0, x1]) rfl ⟨_, _, _, rfl, hts, hX⟩
      · have HTK := Lib.hid (show L.take 59 = L.take 59 from rfl)
        have hd1 : decide ((59 : Int) < (L.length : Int)) = true := by simp; omega
        have TX := Lib.hid (R1.out.texts HV.out.2.2 HV.out.2.1 HTK.out hq)
        have RB := Lib.hid R1.out.res
        obtain ⟨y1, k1, j1⟩ := (show _ from R1.out.res)
        go_wp2
        refine at_world (Stored w S (w.heap.size + 1) (.slice Ao (59 + 1) co) (.int .i64 0) (l :: L.take 59)) ?_ ?_
        · exact stored_at RB.out R1.out.below (by omega) TX.out (fun b hb => hb.new) not_out2
        rintro X ⟨x0, x1, hts, hX⟩
        refine bodyPost_ret (v := .agg #[.slice Ao (59 + 1) co, .int .i64 0]) (by simp [results, Try.results20, go_sem, x0, x1]) rfl ⟨_, _, _, rfl, hts, hX⟩
end Go.Proofs.Ytnninkbkndddhaa

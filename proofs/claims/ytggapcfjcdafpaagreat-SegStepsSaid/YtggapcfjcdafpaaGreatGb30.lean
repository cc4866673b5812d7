/- seg: awake. -/
import Derived.Test.YtggapcfjcdafpaaGreatGb29
import Derived.Test.YtggapcfjcdafpaaGreatGb27
import Derived.Test.YtggapcfjcdafpaaGreatGb28
namespace Go.Proofs.YtggapcfjcdafpaaGreat
open Go.RowKit
set_option linter.unusedVariables false
set_option linter.unusedSimpArgs false

theorem own_set {X : World} {base n c size : Nat} {E : TypeId} {A : Option Addr} {xs : List Value} (h : X.ownsRow base E size (.slice A n c) n xs) {g : Nat} (hg : g < base) (j : Nat) (u : Value) : (X.setCell ⟨g, j, none⟩ u).ownsRow base E size (.slice A n c) n xs := by
  have q : X.grownBy (X.setCell ⟨g, j, none⟩ u) (some g) := ⟨rfl, rfl, rfl, by simp, fun k _ hk => by
    have : g ≠ k := fun e => hk (by rw [e])
    simp [World.setCell, Array.getElem?_modify, this]⟩
  refine h.kept q ?_
  cases e : (Value.slice A n c).ownBlock with
  | none => exact .inl rfl
  | some k => exact .inr (by have := (h.lt k e).1; intro e'; injection e' with e'; omega)
theorem own_six {X : World} {base n c size : Nat} {E : TypeId} {A : Option Addr} {xs : List Value} (h : X.ownsRow base E size (.slice A n c) n xs) {g : Nat} (hg : g < base) (u0 u1 u2 u3 u4 u5 : Value) : ((((((X.setCell ⟨g, 0, none⟩ u0).setCell ⟨g, 1, none⟩ u1).setCell ⟨g, 2, none⟩ u2).setCell ⟨g, 3, none⟩ u3).setCell ⟨g, 4, none⟩ u4).setCell ⟨g, 5, none⟩ u5).ownsRow base E size (.slice A n c) n xs :=
  own_set (own_set (own_set (own_set (own_set (own_set h hg 0 u0) hg 1 u1) hg 2 u2) hg 3 u3) hg 4 u4) hg 5 u5
/-- One step, by the given table. -/
theorem step_tab {T : List RW.Row} {tp : Nat} {w : World} (hT : Tabs T tp w) (s : SG.St) (r : Int) (r0 : -2147483648 ≤ r) (r1 : r ≤ 2147483647) :
    Calls Tryz.prog 19 #[vSt s, .pointer (some ⟨tp, 0, none⟩), .int .i32 r] w fun e w' => e = .returned (.tuple #[vSt (SG.nextS (KT T) s r), .bool (SG.beginsS (KT T) s r)]) ∧ Below w.heap.size w w' :=
  step_any s (.pointer (some ⟨tp, 0, none⟩)) r ((KT T).br r) ((KT T).cj r) ((KT T).pc r) w (Lib.hid fun X hX => tbreak (hT.later hX) r r0 r1) (Lib.hid fun X hX => tconj (hT.later hX) r r0 r1) (Lib.hid fun X hX => tpict (hT.later hX) r r0 r1)
def natI (n : Nat) : Int := n
/-- Starts' loop. -/
structure SSt (w : World) (K : SG.Kinds) (l : List Int) (k : Nat) (Ao : Option Addr) (no co : Nat) (X : World) : Prop where
  blk : Blk X w.heap.size (encSt (SG.stOf K (l.take k).reverse)).toArray
  own : X.ownsRow (w.heap.size + 1) 3 1 (.slice Ao no co) no (flatL encI ((SG.upToP K l k).map natI))
  be : Below w.heap.size w X

set_option maxHeartbeats 8000000 in
set_option maxRecDepth 100000 in
theorem starts_any {T : List RW.Row} {tp : Nat} (A : Option Addr) (c : Nat) (l : List Int) (w : World) (hT : Tabs T tp w) (hK : (KT T).ok) (hL : Li 1 encC w (fun _ => True) A l) (hsc : Sc l) (hc : l.length ≤ c) (hn : l.length ≤ 100000) :
    Calls Tryz.prog 15 #[.pointer (some ⟨tp, 0, none⟩), .slice A l.length c] w (TellsO 3 1 encI ((SG.startsP (KT T) l).map natI) w) := by
  have HT := Lib.hid hT
  have HL := Lib.hid hL
  have HC := Lib.hid hsc
  have HK := Lib.hid hK
  clear hT hL hsc hK
  go_enter Tryz.func15, Tryz.ntmps15
  go_upto_region 3 with fail
  refine at_world (fun X => SSt w (KT T) l 0 none 0 0 X) ⟨blk_new _ _ _, World.ownsRow_nil _ _ _ _, (Below.refl _ _).alloc (Nat.le_refl _) _⟩ ?_
  rintro X0 h0
  have H0 := Lib.hid h0
  clear h0
  go_wp2
  go_loopw [5, 7, 8, 9, 10, 13] (fun v _ _ _ _ i wr => ∃ k : Nat, ∃ Ao no co, k ≤ l.length ∧ i = .int .i64 k ∧ v = .slice Ao no co ∧ no ≤ k ∧ Hid (SSt w (KT T) l k Ao no co wr)) (fun _ _ _ _ _ i _ => l.length - (intOf i).toNat)
  case atStart => exact ⟨0, none, 0, 0, Nat.zero_le _, rfl, rfl, Nat.le_refl _, H0.out⟩
  case round =>
    obtain ⟨k, Ao, no, co, hk, rfl, rfl, hno, H⟩ := hrel
    by_cases hlt : k < l.length
    · obtain ⟨b, o, rfl, hb, _, hcell⟩ := HL.out.sc hlt
      have hcr := (H.out.be.cell (p := ⟨b, o + k, none⟩) hb).trans hcell
      obtain ⟨r, hr⟩ : ∃ r, l.getD k 0 = r := ⟨_, rfl⟩
      have hsc := HC.out.at hlt
      rw [hr] at hcr hsc
      have HR := Lib.hid hr
      clear hcell hr
      obtain ⟨s, hs⟩ : ∃ s, SG.stOf (KT T) (l.take k).reverse = s := ⟨_, rfl⟩
      have hblk := H.out.blk
      rw [hs] at hblk
      have c1 := step_tab (HT.out.later H.out.be) s r hsc.1 hsc.2
      obtain ⟨s', hs'⟩ : ∃ s', SG.nextS (KT T) s r = s' := ⟨_, rfl⟩
      obtain ⟨q, hq⟩ : ∃ q, SG.beginsS (KT T) s r = q := ⟨_, rfl⟩
      rw [hs', hq] at c1
      have HS := Lib.hid (show SG.stOf (KT T) (l.take (k + 1)).reverse = s' from by rw [SG.st_succ _ hlt, hs, HR.out, hs'])
      have HQ := Lib.hid (show SG.begAt (KT T) l k = q from by unfold SG.begAt; rw [← SG.begins_ok HK.out, hs, HR.out, hq])
      have HU := Lib.hid (show SG.upToP (KT T) l (k + 1) = SG.upToP (KT T) l k ++ if q = true then [k] else [] from by rw [SG.upTo_succ, HQ.out])
      obtain ⟨a0, a1, a2, a3, a4, a5⟩ := s
      have m0 : wr.cell? ⟨w.heap.size, 0, none⟩ = some (.bool a0) := hblk.2.1 0
      have m1 : wr.cell? ⟨w.heap.size, 1, none⟩ = some (.int .i64 a1) := hblk.2.1 1
      have m2 : wr.cell? ⟨w.heap.size, 2, none⟩ = some (.int .i64 a2) := hblk.2.1 2
      have m3 : wr.cell? ⟨w.heap.size, 3, none⟩ = some (.bool a3) := hblk.2.1 3
      have m4 : wr.cell? ⟨w.heap.size, 4, none⟩ = some (.bool a4) := hblk.2.1 4
      have m5 : wr.cell? ⟨w.heap.size, 5, none⟩ = some (.bool a5) := hblk.2.1 5
      have C1 := Lib.hid c1
      have HB := Lib.hid hblk
      clear c1 hs hs' hq hblk
      obtain ⟨n0, n1, n2, n3, n4, n5⟩ := s'
      dsimp only [vSt] at C1
      go_wp2_with fail
      refine C1.out.mono ?_
      rintro e w1 ⟨rfl, hb1⟩
      have HB1 := Lib.hid (And.intro (HB.out.later hb1 HB.out.1) (And.intro (own_later H.out.own hb1) (And.intro (H.out.be.trans (hb1.mono H.out.be.size)) hb1.size)))
      clear hb1 C1 HB m0 m1 m2 m3 m4 m5 hcr
      go_upto_region 7 with fail
      refine at_world (fun X => Blk X w.heap.size #[.bool a0, .int .i64 a1, .int .i64 a2, .bool a3, .bool a4, .bool a5] ∧ X.ownsRow (w.heap.size + 1) 3 1 (.slice Ao no co) no (flatL encI ((SG.upToP (KT T) l k).map natI)) ∧ Below w.heap.size w X ∧ Blk X w1.heap.size #[.bool n0, .int .i64 n1, .int .i64 n2, .bool n3, .bool n4, .bool n5] ∧ some w1.heap.size ≠ (Value.slice Ao no co).ownBlock) ⟨HB1.out.1.alloc _, HB1.out.2.1.alloc _, HB1.out.2.2.1.alloc HB1.out.2.2.1.size _, blk_new _ _ _, fun e => by have := (HB1.out.2.1.lt _ e.symm).2; omega⟩ ?_
      rintro X hX
      have HX := Lib.hid hX
      obtain ⟨M, hM⟩ : ∃ M, w1.heap.size = M := ⟨_, rfl⟩
      rw [hM] at HX ⊢
      have hwl := HX.out.1.1
      have hbz : w.heap.size + 1 ≤ X.heap.size := hwl
      clear hX hM HB1
      cases q
      case false =>
        have hB := HX.out.1
        have hN := HX.out.2.2.2.1
        have z0 : X.cell? ⟨M, 0, none⟩ = some (.bool n0) := hN.2.1 0
        have z1 : X.cell? ⟨M, 1, none⟩ = some (.int .i64 n1) := hN.2.1 1
        have z2 : X.cell? ⟨M, 2, none⟩ = some (.int .i64 n2) := hN.2.1 2
        have z3 : X.cell? ⟨M, 3, none⟩ = some (.bool n3) := hN.2.1 3
        have z4 : X.cell? ⟨M, 4, none⟩ = some (.bool n4) := hN.2.1 4
        have z5 : X.cell? ⟨M, 5, none⟩ = some (.bool n5) := hN.2.1 5
        have y0 : X.cell? ⟨w.heap.size, 0, none⟩ = some (.bool a0) := hB.2.1 0
        have y1 : X.cell? ⟨w.heap.size, 1, none⟩ = some (.int .i64 a1) := hB.2.1 1
        have y2 : X.cell? ⟨w.heap.size, 2, none⟩ = some (.int .i64 a2) := hB.2.1 2
        have y3 : X.cell? ⟨w.heap.size, 3, none⟩ = some (.bool a3) := hB.2.1 3
        have y4 : X.cell? ⟨w.heap.size, 4, none⟩ = some (.bool a4) := hB.2.1 4
        have y5 : X.cell? ⟨w.heap.size, 5, none⟩ = some (.bool a5) := hB.2.1 5
        have f0 := hB.2.2 0
        have f1 := hB.2.2 1
        have f2 := hB.2.2 2
        have f3 := hB.2.2 3
        have f4 := hB.2.2 4
        have f5 := hB.2.2 5
        have HE := Lib.hid (show SSt w (KT T) l (k + 1) Ao no co ((((((X.setCell ⟨w.heap.size, 0, none⟩ (.bool n0)).setCell ⟨w.heap.size, 1, none⟩ (.int .i64 n1)).setCell ⟨w.heap.size, 2, none⟩ (.int .i64 n2)).setCell ⟨w.heap.size, 3, none⟩ (.bool n3)).setCell ⟨w.heap.size, 4, none⟩ (.bool n4)).setCell ⟨w.heap.size, 5, none⟩ (.bool n5)) from
          ⟨by rw [HS.out]; exact blk_six hB _ _ _ _ _ _, by rw [HU.out]; simpa using own_six HX.out.2.1 (Nat.lt_succ_self _) _ _ _ _ _ _, bel_six HX.out.2.2.1 (Nat.le_refl _) _ _ _ _ _ _⟩)
        clear hB hN HX
        go_wp2
        go_roundw
        case rel => exact ⟨k + 1, Ao, no, co, by omega, by go_num, rfl, by omega, HE.out⟩
        case measure => simp [intOf]; omega
      case true =>
        go_upto_region 9 with (at_builtin; refine wpList_push RW.int_elt HX.out.2.1 hbz rfl rfl rfl rfl (by simp) rfl rfl (by unfold maxLen; omega) (by omega) ?_; intro A3 c3 w3 hp; have HP := Lib.hid hp; clear hp)
        have hB := HX.out.1.grown HP.out.grown (fun e => by have := (HX.out.2.1.lt _ e.symm).1; omega)
        have hN := HX.out.2.2.2.1.grown HP.out.grown HX.out.2.2.2.2
        have z0 : w3.cell? ⟨M, 0, none⟩ = some (.bool n0) := hN.2.1 0
        have z1 : w3.cell? ⟨M, 1, none⟩ = some (.int .i64 n1) := hN.2.1 1
        have z2 : w3.cell? ⟨M, 2, none⟩ = some (.int .i64 n2) := hN.2.1 2
        have z3 : w3.cell? ⟨M, 3, none⟩ = some (.bool n3) := hN.2.1 3
        have z4 : w3.cell? ⟨M, 4, none⟩ = some (.bool n4) := hN.2.1 4
        have z5 : w3.cell? ⟨M, 5, none⟩ = some (.bool n5) := hN.2.1 5
        have y0 : w3.cell? ⟨w.heap.size, 0, none⟩ = some (.bool a0) := hB.2.1 0
        have y1 : w3.cell? ⟨w.heap.size, 1, none⟩ = some (.int .i64 a1) := hB.2.1 1
        have y2 : w3.cell? ⟨w.heap.size, 2, none⟩ = some (.int .i64 a2) := hB.2.1 2
        have y3 : w3.cell? ⟨w.heap.size, 3, none⟩ = some (.bool a3) := hB.2.1 3
        have y4 : w3.cell? ⟨w.heap.size, 4, none⟩ = some (.bool a4) := hB.2.1 4
        have y5 : w3.cell? ⟨w.heap.size, 5, none⟩ = some (.bool a5) := hB.2.1 5
        have f0 := hB.2.2 0
        have f1 := hB.2.2 1
        have f2 := hB.2.2 2
        have f3 := hB.2.2 3
        have f4 := hB.2.2 4
        have f5 := hB.2.2 5
        have HE := Lib.hid (show SSt w (KT T) l (k + 1) A3 (no + 1) c3 ((((((w3.setCell ⟨w.heap.size, 0, none⟩ (.bool n0)).setCell ⟨w.heap.size, 1, none⟩ (.int .i64 n1)).setCell ⟨w.heap.size, 2, none⟩ (.int .i64 n2)).setCell ⟨w.heap.size, 3, none⟩ (.bool n3)).setCell ⟨w.heap.size, 4, none⟩ (.bool n4)).setCell ⟨w.heap.size, 5, none⟩ (.bool n5)) from
          ⟨by rw [HS.out]; exact blk_six hB _ _ _ _ _ _, by rw [HU.out, if_pos rfl, List.map_append, flatL_append]; exact own_six HP.out.own (Nat.lt_succ_self _) _ _ _ _ _ _, bel_six (HX.out.2.2.1.grown HP.out.grown HX.out.2.2.1.size (fun q e => by have := (HX.out.2.1.lt q e).1; omega)) (Nat.le_refl _) _ _ _ _ _ _⟩)
        clear hB hN HX HP
        go_wp2
        go_roundw
        case rel => exact ⟨k + 1, A3, no + 1, c3, by omega, by go_num, rfl, by omega, HE.out⟩
        case measure => simp [intOf]; omega
    · obtain rfl : k = l.length := by omega
      have HE := Lib.hid (show TellsO 3 1 encI ((SG.startsP (KT T) l).map natI) w (.returned (.slice Ao no co)) wr from ⟨Ao, no, co, rfl, ownLow H.out.own (Nat.le_succ _), H.out.be⟩)
      clear H HT HL HC HK H0
      go_wp2
      go_ret
      exact HE.out
end Go.Proofs.YtggapcfjcdafpaaGreat

namespace Go.Proofs.YtggapcfjcdafpaaGreat
open Go.RowKit
set_option linter.unusedVariables false
set_option linter.unusedSimpArgs false

set_option maxHeartbeats 4000000 in
theorem rstarts_any {W : World} {A : Option Addr} {c : Nat} {T : List RW.Row} {A2 : Option Addr} {l : List Int} (c2 : Nat) (h : RT W A c T A2 l) (hc2 : l.length ≤ c2) :
    Calls Tryz.prog 17 #[.slice A T.length c, .slice A2 l.length c2] W (TellsO 3 1 encI ((SG.startsP (KT T) l).map natI) W) := by
  have HB := Lib.hid (fun (X : World) (hX : Below W.heap.size W X) (i : Nat) (hi : i < l.length) => begins_any c2 (h.later hX) hc2 i hi)
  have hln := h.ln
  clear h
  go_enter Tryz.func17, Tryz.ntmps17
  go_wp2
  go_loopw [5, 6] (fun v i wr => ∃ (k : Nat) (Ao : Option Addr) (no co : Nat), k ≤ l.length ∧ i = .int .i64 k ∧ v = .slice Ao no co ∧ no ≤ k ∧ Hid (Grows W 3 1 encI Ao no co ((SG.upToP (KT T) l k).map natI) wr)) (fun _ i _ => l.length - (intOf i).toNat)
  case atStart => exact ⟨0, none, 0, 0, Nat.zero_le _, rfl, rfl, Nat.le_refl _, Lib.hid (Grows.start W _ 1)⟩
  case round =>
    obtain ⟨k, Ao, no, co, hk, rfl, rfl, hno, H⟩ := hrel
    by_cases hlt : k < l.length
    · have C := Lib.hid (HB.out wr H.out.below k hlt)
      obtain ⟨q, hq⟩ : ∃ q, SG.begAt (KT T) l k = q := ⟨_, rfl⟩
      rw [hq] at C
      have HU := Lib.hid (show SG.upToP (KT T) l (k + 1) = SG.upToP (KT T) l k ++ if q = true then [k] else [] from by rw [SG.upTo_succ, hq])
      clear hq
      have g0 : (k : Int) < (l.length : Int) := by omega
      go_wp2_with fail
      refine C.out.mono ?_
      rintro e w1 ⟨rfl, m, rfl⟩
      clear C
      have H1 := Lib.hid (H.out.later (selfDrew wr m))
      cases q
      case false =>
        clear H
        go_wp2
        go_roundw
        case rel => exact ⟨k + 1, Ao, no, co, by omega, by go_num, rfl, by omega, Lib.hid (by rw [HU.out]; simpa using H1.out)⟩
        case measure => simp [intOf]; omega
      case true =>
        have hbz : W.heap.size ≤ (wr.drewN m).heap.size := H1.out.below.size
        clear H
        go_wp2_with (at_builtin; refine wpList_push RW.int_elt H1.out.own hbz rfl rfl rfl rfl (by simp) rfl rfl (by unfold maxLen; omega) (by omega) ?_; intro A3 c3 w3 hp; have HP := Lib.hid hp; clear hp)
        go_roundw
        case rel => exact ⟨k + 1, A3, no + 1, c3, by omega, by go_num, rfl, by omega, Lib.hid (by rw [HU.out]; simp only [if_true, List.map_append]; exact H1.out.push (Below.refl _ _) HP.out)⟩
        case measure => simp [intOf]; omega
    · obtain rfl : k = l.length := by omega
      have HE := Lib.hid (show TellsO 3 1 encI ((SG.startsP (KT T) l).map natI) W (.returned (.slice Ao no co)) wr from H.out.tells)
      clear H HB
      go_wp2
      go_ret
      exact HE.out
theorem rdI {w : World} {S : Nat → Prop} {A : Option Addr} {L : List Int} (h : Li 1 encI w S A L) : Rd w A L.length (fun j => .int .i64 (L.getD j 0)) := by
  intro j hj
  obtain ⟨b, o, e, hl, hs, hc⟩ := h.at hj
  refine ⟨b, o, e, hl, ?_⟩
  have := hc 0 _ rfl
  rw [Nat.mul_one, Nat.add_zero] at this
  rw [this]
  simp [List.getD, hj]
set_option maxHeartbeats 4000000 in
theorem samei_yes (A B : Option Addr) (c d : Nat) (L : List Int) (w : World) (S1 S2 : Nat → Prop) (hn : L.length ≤ 100000) (hA : Li 1 encI w S1 A L) (hB : Li 1 encI w S2 B L) :
    Calls Tryz.prog 14 #[.slice A L.length c, .slice B L.length d] w fun e w' => e = .returned (.bool true) ∧ Below w.heap.size w w' := by
  have HA := Lib.hid (rdI hA)
  have HB := Lib.hid (rdI hB)
  obtain ⟨f, hf⟩ : ∃ f : Nat → Int, (fun j => L.getD j 0) = f := ⟨_, rfl⟩
  have hf' : (fun j => Value.int .i64 (L.getD j 0)) = fun j => Value.int .i64 (f j) := by rw [← hf]
  rw [hf'] at HA HB
  obtain ⟨n, hL⟩ : ∃ n, L.length = n := ⟨_, rfl⟩
  rw [hL] at HA HB hn ⊢
  clear hf hf' hA hB hL
  have h2 : (((n : Int) != (n : Int))) = false := by simp
  go_enter Tryz.func14, Tryz.ntmps14
  go_wp2
  go_loopw [5] (fun i wr => ∃ k : Nat, k ≤ n ∧ i = .int .i64 k ∧ ∃ r, wr = w.drewN r) (fun i _ => n - (intOf i).toNat)
  case atStart => exact ⟨0, Nat.zero_le _, rfl, 0, rfl⟩
  case round =>
    obtain ⟨k, hk, rfl, r, rfl⟩ := hrel
    by_cases hlt : k < n
    · obtain ⟨a, i, rfl, _, ha⟩ := HA.out k hlt
      obtain ⟨b, j, rfl, _, hb⟩ := HB.out k hlt
      obtain ⟨x, hx⟩ : ∃ x, f k = x := ⟨_, rfl⟩
      dsimp only at ha hb
      rw [hx] at ha hb
      have h4 : ((x != x)) = false := by simp
      clear hx
      go_wp2
      go_quiet (fail)
      go_wp2
      go_roundw
      case rel => exact ⟨k + 1, by omega, by go_num, _, rfl⟩
      case measure => simp [intOf]; omega
    · obtain rfl : k = n := by omega
      go_wp2
      go_ret
      exact ⟨rfl, selfDrew _ _⟩
theorem fews_any (A : Option Addr) (n c k : Nat) (w : World) (hn : n ≤ c) (hc : c ≤ 9223372036854775807) (hk : k ≤ 1000000) : Calls Tryz.prog 12 #[.slice A n c, .int .i64 k] w fun e w' => e = .returned (.slice A (min n k) c) ∧ w = w' := by
  rcases Nat.lt_or_ge k n with hlt | hge
  · rw [Nat.min_eq_right (by omega)]
    have d0 : decide ((k : Int) < (n : Int)) = true := by simp; omega
    have hcn : (k : Int) ≤ (c : Int) := by omega
    go_enter Tryz.func12, Tryz.ntmps12
    go_wp2
    go_ret
    exact ⟨rfl, rfl⟩
  · rw [Nat.min_eq_left (by omega)]
    have d0 : decide ((k : Int) < (n : Int)) = false := by simp; omega
    go_enter Tryz.func12, Tryz.ntmps12
    go_wp2
    go_ret
    exact ⟨rfl, rfl⟩
end Go.Proofs.YtggapcfjcdafpaaGreat

namespace Go.Proofs.YtggapcfjcdafpaaGreat
open Go.RowKit
set_option linter.unusedVariables false
set_option linter.unusedSimpArgs false

set_option maxRecDepth 100000 in
theorem ex_0 : SG.startsP (KT RW.rowsT) [101, 769, 97] = [0, 2] := by decide +kernel
set_option maxRecDepth 100000 in
theorem ex_1 : SG.startsP (KT RW.rowsT) [127462, 127463, 127462] = [0, 2] := by decide +kernel
set_option maxRecDepth 100000 in
theorem ex_2 : SG.startsP (KT RW.rowsT) [128104, 8205, 128104] = [0] := by decide +kernel
set_option maxRecDepth 100000 in
theorem ex_3 : SG.startsP (KT RW.rowsT) [2325, 2381, 2325] = [0] := by decide +kernel
theorem encI_len1 (x : Int) : (encI x).length = 1 := rfl
def Yes (w : World) (e : Ending) (w' : World) : Prop := e = .returned (.bool true) ∧ Below w.heap.size w w'
theorem li_new1 (w : World) (L : List Int) (cs : Array Value) (t : TypeId) (h : cs.toList = flatL encC L) : Li 1 encC (w.alloc (.cells cs t)) (fun _ => True) (some ⟨w.heap.size, 0, none⟩) L := (Li.new encC_len w _ _ h).mono fun _ _ => trivial
theorem li_newI (w : World) (L : List Int) (cs : Array Value) (t : TypeId) (h : cs.toList = flatL encI L) : Li 1 encI (w.alloc (.cells cs t)) (fun _ => True) (some ⟨w.heap.size, 0, none⟩) L := (Li.new encI_len1 w _ _ h).mono fun _ _ => trivial
set_option maxHeartbeats 8000000 in
set_option maxRecDepth 100000 in
theorem awake10_yes (w : World) : Calls Tryz.prog 18 #[] w (Yes w) := by
  obtain ⟨T, hG, hT, C0⟩ := rows_li w
  have HG := Lib.hid hG
  have C0 := Lib.hid C0
  have HK := Lib.hid (show (KT T).ok by rw [← hT]; exact kt_ok given_conj)
  have E0 := Lib.hid (show SG.startsP (KT T) [101, 769, 97] = [0, 2] by rw [← hT]; exact ex_0)
  have E1 := Lib.hid (show SG.startsP (KT T) [127462, 127463, 127462] = [0, 2] by rw [← hT]; exact ex_1)
  have E2 := Lib.hid (show SG.startsP (KT T) [128104, 8205, 128104] = [0] by rw [← hT]; exact ex_2)
  have E3 := Lib.hid (show SG.startsP (KT T) [2325, 2381, 2325] = [0] by rw [← hT]; exact ex_3)
  clear hG hT
  go_enter Tryz.func18, Tryz.ntmps18
  go_wp2_with fail
  refine C0.out.mono ?_
  rintro e w1 ⟨A, c, rfl, hL, hc, hm, hb1⟩
  have C1 := Lib.hid (build_tabs A c T w1 (hL.mono fun _ _ => trivial) hc HG.out)
  have B1 := Lib.hid hb1
  clear C0 hL hb1
  go_wp2_with fail
  refine C1.out.mono ?_
  rintro e w2 ⟨tp, rfl, hU, hb2⟩
  have U0 := Lib.hid (And.intro hU (B1.out.trans (hb2.mono B1.out.size)))
  clear hU hb2 C1 B1
  go_wp2_with fail
  refine atCalls (fun X => Tabs T tp X ∧ Below w.heap.size w X ∧ Li 1 encC X (fun _ => True) (some ⟨w2.heap.size, 0, none⟩) [101, 769, 97]) ⟨U0.out.1.later ((Below.refl _ _).alloc (Nat.le_refl _) _), U0.out.2.alloc U0.out.2.size _, li_new1 _ _ _ _ rfl⟩ ?_
  rintro X0 hX
  have HX := Lib.hid hX
  have C := Lib.hid (starts_any (T := T) (tp := tp) (some ⟨w2.heap.size, 0, none⟩) 3 [101, 769, 97] X0 HX.out.1 HK.out HX.out.2.2 (by intro x hx; simp at hx; omega) (by decide) (by decide))
  clear hX U0
  rw [E0.out] at C
  refine C.out.mono ?_
  rintro e v0 ⟨A0, n0, c0, rfl, ho, hb⟩
  obtain rfl : n0 = 2 := (own_count encI_len1 (by decide) ho).symm
  have hli := (LiV.own encI_len1 (by decide) ho).parts.2.1
  have V := Lib.hid (And.intro (HX.out.1.later hb) (And.intro (HX.out.2.1.trans (hb.mono HX.out.2.1.size)) hli))
  clear C ho hb hli HX
  go_wp2_with fail
  refine atCalls (fun X => Tabs T tp X ∧ Below w.heap.size w X ∧ (∃ S, Li 1 encI X S A0 ([0, 2].map natI)) ∧ Li 1 encI X (fun _ => True) (some ⟨v0.heap.size, 0, none⟩) ([0, 2].map natI)) ⟨V.out.1.later ((Below.refl _ _).alloc (Nat.le_refl _) _), V.out.2.1.alloc V.out.2.1.size _, ⟨_, V.out.2.2.later ((Below.refl _ _).alloc (Nat.le_refl _) _)⟩, li_newI _ _ _ _ rfl⟩ ?_
  rintro Y0 hY
  have HY := Lib.hid hY
  have C := Lib.hid (by obtain ⟨S, h⟩ := HY.out.2.2.1; exact samei_yes A0 (some ⟨v0.heap.size, 0, none⟩) c0 2 ([0, 2].map natI) Y0 _ _ (by decide) h HY.out.2.2.2)
  clear hY V
  refine C.out.mono ?_
  rintro e w3 ⟨rfl, hb⟩
  have U1 := Lib.hid (And.intro (HY.out.1.later hb) (HY.out.2.1.trans (hb.mono HY.out.2.1.size)))
  clear C HY hb
  go_wp2_with fail
  refine atCalls (fun X => Tabs T tp X ∧ Below w.heap.size w X ∧ Li 1 encC X (fun _ => True) (some ⟨w3.heap.size, 0, none⟩) [127462, 127463, 127462]) ⟨U1.out.1.later ((Below.refl _ _).alloc (Nat.le_refl _) _), U1.out.2.alloc U1.out.2.size _, li_new1 _ _ _ _ rfl⟩ ?_
  rintro X1 hX
  have HX := Lib.hid hX
  have C := Lib.hid (starts_any (T := T) (tp := tp) (some ⟨w3.heap.size, 0, none⟩) 3 [127462, 127463, 127462] X1 HX.out.1 HK.out HX.out.2.2 (by intro x hx; simp at hx; omega) (by decide) (by decide))
  clear hX U1
  rw [E1.out] at C
  refine C.out.mono ?_
  rintro e v1 ⟨A1, n1, c1, rfl, ho, hb⟩
  obtain rfl : n1 = 2 := (own_count encI_len1 (by decide) ho).symm
  have hli := (LiV.own encI_len1 (by decide) ho).parts.2.1
  have V := Lib.hid (And.intro (HX.out.1.later hb) (And.intro (HX.out.2.1.trans (hb.mono HX.out.2.1.size)) hli))
  clear C ho hb hli HX
  go_wp2_with fail
  refine atCalls (fun X => Tabs T tp X ∧ Below w.heap.size w X ∧ (∃ S, Li 1 encI X S A1 ([0, 2].map natI)) ∧ Li 1 encI X (fun _ => True) (some ⟨v1.heap.size, 0, none⟩) ([0, 2].map natI)) ⟨V.out.1.later ((Below.refl _ _).alloc (Nat.le_refl _) _), V.out.2.1.alloc V.out.2.1.size _, ⟨_, V.out.2.2.later ((Below.refl _ _).alloc (Nat.le_refl _) _)⟩, li_newI _ _ _ _ rfl⟩ ?_
  rintro Y1 hY
  have HY := Lib.hid hY
  have C := Lib.hid (by obtain ⟨S, h⟩ := HY.out.2.2.1; exact samei_yes A1 (some ⟨v1.heap.size, 0, none⟩) c1 2 ([0, 2].map natI) Y1 _ _ (by decide) h HY.out.2.2.2)
  clear hY V
  refine C.out.mono ?_
  rintro e w4 ⟨rfl, hb⟩
  have U2 := Lib.hid (And.intro (HY.out.1.later hb) (HY.out.2.1.trans (hb.mono HY.out.2.1.size)))
  clear C HY hb
  go_wp2_with fail
  refine atCalls (fun X => Tabs T tp X ∧ Below w.heap.size w X ∧ Li 1 encC X (fun _ => True) (some ⟨w4.heap.size, 0, none⟩) [128104, 8205, 128104]) ⟨U2.out.1.later ((Below.refl _ _).alloc (Nat.le_refl _) _), U2.out.2.alloc U2.out.2.size _, li_new1 _ _ _ _ rfl⟩ ?_
  rintro X2 hX
  have HX := Lib.hid hX
  have C := Lib.hid (starts_any (T := T) (tp := tp) (some ⟨w4.heap.size, 0, none⟩) 3 [128104, 8205, 128104] X2 HX.out.1 HK.out HX.out.2.2 (by intro x hx; simp at hx; omega) (by decide) (by decide))
  clear hX U2
  rw [E2.out] at C
  refine C.out.mono ?_
  rintro e v2 ⟨A2, n2, c2, rfl, ho, hb⟩
  obtain rfl : n2 = 1 := (own_count encI_len1 (by decide) ho).symm
  have hli := (LiV.own encI_len1 (by decide) ho).parts.2.1
  have V := Lib.hid (And.intro (HX.out.1.later hb) (And.intro (HX.out.2.1.trans (hb.mono HX.out.2.1.size)) hli))
  clear C ho hb hli HX
  go_wp2_with fail
  refine atCalls (fun X => Tabs T tp X ∧ Below w.heap.size w X ∧ (∃ S, Li 1 encI X S A2 ([0].map natI)) ∧ Li 1 encI X (fun _ => True) (some ⟨v2.heap.size, 0, none⟩) ([0].map natI)) ⟨V.out.1.later ((Below.refl _ _).alloc (Nat.le_refl _) _), V.out.2.1.alloc V.out.2.1.size _, ⟨_, V.out.2.2.later ((Below.refl _ _).alloc (Nat.le_refl _) _)⟩, li_newI _ _ _ _ rfl⟩ ?_
  rintro Y2 hY
  have HY := Lib.hid hY
  have C := Lib.hid (by obtain ⟨S, h⟩ := HY.out.2.2.1; exact samei_yes A2 (some ⟨v2.heap.size, 0, none⟩) c2 1 ([0].map natI) Y2 _ _ (by decide) h HY.out.2.2.2)
  clear hY V
  refine C.out.mono ?_
  rintro e w5 ⟨rfl, hb⟩
  have U3 := Lib.hid (And.intro (HY.out.1.later hb) (HY.out.2.1.trans (hb.mono HY.out.2.1.size)))
  clear C HY hb
  go_wp2_with fail
  refine atCalls (fun X => Tabs T tp X ∧ Below w.heap.size w X ∧ Li 1 encC X (fun _ => True) (some ⟨w5.heap.size, 0, none⟩) [2325, 2381, 2325]) ⟨U3.out.1.later ((Below.refl _ _).alloc (Nat.le_refl _) _), U3.out.2.alloc U3.out.2.size _, li_new1 _ _ _ _ rfl⟩ ?_
  rintro X3 hX
  have HX := Lib.hid hX
  have C := Lib.hid (starts_any (T := T) (tp := tp) (some ⟨w5.heap.size, 0, none⟩) 3 [2325, 2381, 2325] X3 HX.out.1 HK.out HX.out.2.2 (by intro x hx; simp at hx; omega) (by decide) (by decide))
  clear hX U3
  rw [E3.out] at C
  refine C.out.mono ?_
  rintro e v3 ⟨A3, n3, c3, rfl, ho, hb⟩
  obtain rfl : n3 = 1 := (own_count encI_len1 (by decide) ho).symm
  have hli := (LiV.own encI_len1 (by decide) ho).parts.2.1
  have V := Lib.hid (And.intro (HX.out.1.later hb) (And.intro (HX.out.2.1.trans (hb.mono HX.out.2.1.size)) hli))
  clear C ho hb hli HX
  go_wp2_with fail
  refine atCalls (fun X => Tabs T tp X ∧ Below w.heap.size w X ∧ (∃ S, Li 1 encI X S A3 ([0].map natI)) ∧ Li 1 encI X (fun _ => True) (some ⟨v3.heap.size, 0, none⟩) ([0].map natI)) ⟨V.out.1.later ((Below.refl _ _).alloc (Nat.le_refl _) _), V.out.2.1.alloc V.out.2.1.size _, ⟨_, V.out.2.2.later ((Below.refl _ _).alloc (Nat.le_refl _) _)⟩, li_newI _ _ _ _ rfl⟩ ?_
  rintro Y3 hY
  have HY := Lib.hid hY
  have C := Lib.hid (by obtain ⟨S, h⟩ := HY.out.2.2.1; exact samei_yes A3 (some ⟨v3.heap.size, 0, none⟩) c3 1 ([0].map natI) Y3 _ _ (by decide) h HY.out.2.2.2)
  clear hY V
  refine C.out.mono ?_
  rintro e w6 ⟨rfl, hb⟩
  have U4 := Lib.hid (And.intro (HY.out.1.later hb) (HY.out.2.1.trans (hb.mono HY.out.2.1.size)))
  clear C HY hb
  go_wp2
  go_ret
  exact ⟨rfl, U4.out.2⟩
end Go.Proofs.YtggapcfjcdafpaaGreat

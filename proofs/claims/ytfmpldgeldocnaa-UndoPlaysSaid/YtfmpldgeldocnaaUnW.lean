/- undo: UndoAll's walk. -/
import Derived.Test.YtfmpldgeldocnaaUnV
import Derived.Test.YtfmpldgeldocnaaUnQ
import Derived.Deep.CutRange
namespace Go.Proofs.Ytfmpldgeldocnaa
open Go.RowKit
set_option linter.unusedVariables false
set_option linter.unusedSimpArgs false
attribute [local go_sem ↓] Go.wp_at_zero Go.wp_at_succ

/-- The law's variables behind k deeds: the stack, in a cell; the document's groups. -/
structure AI (w : World) (A : Option Addr) (n c : Nat) (v : Value) (S : List AG) (k : Nat) (X : World) : Prop where
  sv : SV w w.heap.size A n c S X
  ref : Stk X v S
  len : S.length ≤ k
  light : ∀ g ∈ S, Light 20 g.eds ∧ g.eds.length ≤ k
theorem AI.next {w X Y : World} {A A' : Option Addr} {n c n' c' : Nat} {v v' : Value} {S : List AG} {cur : Int} {k : Nat} {j : Bool} {e : AE}
    (h : AI w A n c v S k X) (hl : e.old.length ≤ 20 ∧ e.new.length ≤ 20) (hv : SV w w.heap.size A' n' c' (addS S e cur j) Y) (hr : Stk Y v' (addS S e cur j)) : AI w A' n' c' v' (addS S e cur j) (k + 1) Y :=
  ⟨hv, hr, by have := h.len; have := (addS_len S e cur j).1; omega, addS_light cur j h.light hl⟩

/-- Behind the program's Add. -/
structure AJ (w : World) (B1 : Nat) (O : Option Addr) (on oc : Nat) (I : Option Addr) (im ic : Nat) (le : AE) (DA : Option Addr) (k : Nat) (d : Dd) (A : Option Addr) (n c : Nat) (v : Value) (S S' : List AG) (X : World) : Prop where
  sv : SV w w.heap.size A n c S' X
  ref : Stk X v S
  ed : Blk X B1 #[.int .i64 le.at_, .slice O on oc, .slice I im ic]
  is : EdIs X ⟨le.at_, O, on, oc, I, im, ic⟩ le
  deed : DeedAt X DA k d

theorem aj_store {w X Y : World} {B1 : Nat} {O : Option Addr} {on oc : Nat} {I : Option Addr} {im ic : Nat} {le : AE} {DA : Option Addr} {k : Nat} {d : Dd} {A A' : Option Addr} {n c n' c' : Nat} {v : Value} {S T S' : List AG} (h : AJ w B1 O on oc I im ic le DA k d A n c v S T X) (_ : w.heap.size ≤ w.heap.size) (hne : w.heap.size ≠ B1) (hD : ∀ b o, DA = some ⟨b, o, none⟩ → b ≠ w.heap.size)
    (hb : Below X.heap.size X Y) (hs : Stk Y (.slice A' n' c') S') : AJ w B1 O on oc I im ic le DA k d A' n' c' v S S' (Y.setCell ⟨w.heap.size, 0, none⟩ (.slice A' n' c')) := by
  have hB := h.sv.blk.later hb h.sv.blk.1
  have hz := hb.size
  refine ⟨h.sv.store (Nat.le_refl _) hb hs, (h.ref.later hb).shape hB (noTxt_slice _ _ _) (by simp) 0 _, (h.ed.later hb h.ed.1).far (by simpa using hne) _, (h.is.later hb).shape hB (noTxt_slice _ _ _) 0 _, ?_⟩
  obtain ⟨b, o, e, hbl, x0, x1, x2, x3, x4, hE⟩ := h.deed.later hb
  have hbn := hD b o e
  have k (j : Nat) {u : Value} (hc : Y.cell? ⟨b, j, none⟩ = some u) : (Y.setCell ⟨w.heap.size, 0, none⟩ (.slice A' n' c')).cell? ⟨b, j, none⟩ = some u := by
    rw [World.cell?_setCell_other _ _ _ _ (by intro e; injection e with e1; exact hbn e1.symm)]
    exact hc
  exact ⟨b, o, e, by rw [World.size_setCell]; exact hbl, k _ x0, k _ x1, k _ x2, k _ x3, k _ x4, hE.shape hB (noTxt_slice _ _ _) 0 _⟩

set_option maxHeartbeats 4000000 in
set_option maxRecDepth 100000 in
theorem walk_UndoAll (w : World) (A : Option Addr) (n c : Nat) (D : Nat → Dd) (hn : n ≤ c) (hc : c ≤ maxLen) (hD : ∀ i, i < n → DeedAt w A i (D i)) (v : Value) (l : List Int) (hl : Txt w v l) (cur : Int) (wcur : (Lit.int .i64 cur).wf = true) :
    Calls Try.prog 4 #[.slice A n c, v, .int .i64 cur] w (Yes w) := by
  have HD := Lib.hid hD
  unfold maxLen at hc
  have C0 := Lib.hid (few60 v l w hl)
  have HL := Lib.hid hl
  clear hD hl
  go_enter Try.func4, Try.ntmps4
  go_wp2_with fail
  (with_reducible refine C0.out.mono ?_)
  rintro e w0 ⟨A0, n0, c0, rfl, HT0, hw0⟩
  subst hw0
  clear C0
  have V0 := Lib.hid (show AI w none 0 0 (.slice none 0 0) [] 0 (w.alloc (.cells #[.slice none 0 0] 25)) from
    ⟨sv_new w _, Stk.nil _, Nat.le_refl _, fun g hg => by simp at hg⟩)
  go_wp2_with fail
  go_loopw [8, 9] (fun rv i wr => ∃ k : Nat, k ≤ n ∧ k ≤ 40 ∧ i = .int .i64 k ∧ ∃ An nn cn, rv = .slice An nn cn ∧ Hid (∃ As ns cs S, AI w As ns cs (.slice An nn cn) S k wr)) (fun _ i _ => n - (intOf i).toNat)
  case atStart => exact ⟨0, Nat.zero_le _, Nat.zero_le _, rfl, none, 0, 0, rfl, ⟨_, _, _, _, V0.out⟩⟩
  case round =>
    obtain ⟨k, hk, hk40, rfl, An, nn, cn, rfl, HB⟩ := hrel
    obtain ⟨As, ns, cs, S, V⟩ := HB.out
    have HV := Lib.hid V
    clear V HB V0
    by_cases hlt : k < n ∧ k < 40
    · obtain ⟨hkn, hk4⟩ := hlt
      have h4 : (k : Int) < 40 := by omega
      have hblw0 := HD.out k hkn
      have hDk := (HD.out k hkn).later (HV.out.sv.below)
      obtain ⟨d, hd⟩ : ∃ d, D k = d := ⟨_, rfl⟩
      rw [hd] at hDk
      have HDk := Lib.hid hDk
      obtain ⟨b, o, rfl, hbl, x0, x1, x2, x3, x4, hE⟩ := hDk
      have hblw : b < w.heap.size := by
        obtain ⟨b', o', e', h, _⟩ := hblw0
        injection e' with e'
        injection e' with e1 _
        subst e1
        exact h
      clear hblw0
      obtain ⟨le, hle⟩ : ∃ le, lightE d.e = le := ⟨_, rfl⟩
      have hlen := lightE_le d.e
      have C1 := light_is _ _ _ _ _ _ _ _ _ hE
      rw [hle] at C1 hlen
      have C1 := Lib.hid C1
      have HLE := Lib.hid hlen
      clear hE hd hle hlen
      go_wp2_with fail
      (with_reducible refine C1.out.mono ?_)
      rintro e w1 ⟨O, on, oc, I, im, ic, rfl, hE1, hb1⟩
      clear C1 x0 x1 x2 x3 x4
      have hb1' : Below wr.heap.size wr (w1.alloc (.cells #[.int .i64 le.at_, .slice O on oc, .slice I im ic] 29)) := belPush hb1 _
      have HJ0 := Lib.hid (show AJ w w1.heap.size O on oc I im ic le (some ⟨b, o, none⟩) k d As ns cs (.slice An nn cn) S S (w1.alloc (.cells #[.int .i64 le.at_, .slice O on oc, .slice I im ic] 29)) from
        ⟨HV.out.sv.later hb1', HV.out.ref.later hb1', blk_new w1 _ _, hE1.later (belAlloc _ _), HDk.out.later hb1'⟩)
      obtain ⟨B1, hB1⟩ : ∃ B1, w1.heap.size = B1 := ⟨_, rfl⟩
      have HV' := Lib.hid (And.intro HV.out.len (And.intro HV.out.light HV.out))
      have HNE := Lib.hid (show w.heap.size ≠ w1.heap.size ∧ ∀ b' o' : Nat, (some ⟨b, o, none⟩ : Option Addr) = some ⟨b', o', none⟩ → b' ≠ w.heap.size from ⟨by have := HV.out.sv.blk.1; have := hb1.size; omega, fun b' o' h => by injection h with h; injection h with h1 _; have := hblw; omega⟩)
      clear hE1 hb1 hb1' hblw
      go_wp2_with fail
      rw [hB1] at HJ0 HNE
      clear hB1
      refine at_world (fun X => AJ w B1 O on oc I im ic le (some ⟨b, o, none⟩) k d As ns cs (.slice An nn cn) S S X) HJ0.out ?_
      clear HJ0
      clear w1
      rintro w4 hJ
      have HJ := Lib.hid hJ
      clear hJ
      obtain ⟨jb, hjb⟩ : ∃ jb, (d.k != 0) = jb := ⟨_, rfl⟩
      have hj1 : (k : Int) < (n : Int) := by omega
      have hj0 : (0 : Int) ≤ (k : Int) := by omega
      have HS := Lib.hid (show ∀ X, Below w4.heap.size w4 X → X.cell? ⟨w.heap.size, 0, none⟩ = some (.slice As ns cs) ∧ X.frozen? ⟨w.heap.size, 0, none⟩ = false ∧ X.cell? ⟨B1, 0, none⟩ = some (.int .i64 le.at_) ∧ X.cell? ⟨B1, 1, none⟩ = some (.slice O on oc) ∧ X.cell? ⟨B1, 2, none⟩ = some (.slice I im ic) ∧ X.cell? ⟨b, o + k * 5, none⟩ = some (.int .i64 d.k) ∧ X.cell? ⟨b, o + k * 5 + 1, none⟩ = some (.int .i64 d.c) from by
        intro X hX
        have hB := HJ.out.sv.blk.later hX HJ.out.sv.blk.1
        have hC := HJ.out.ed.later hX HJ.out.ed.1
        obtain ⟨b', o', e', hbl', x0, x1, x2, x3, x4, hE'⟩ := HJ.out.deed.later hX
        injection e' with e'
        injection e' with e1 e2
        subst e1; subst e2
        exact ⟨hB.2.1 0, hB.2.2 0, hC.2.1 0, hC.2.1 1, hC.2.1 2, x0, x1⟩)
      go_cut [10] from 19 to 63 (fun s10 wx => s10 = .pointer (some ⟨B1, 0, none⟩) ∧ Hid (∃ A7 n7 c7, AJ w B1 O on oc I im ic le (some ⟨b, o, none⟩) k d A7 n7 c7 (.slice An nn cn) S (addS S le d.c jb) wx))
      case first =>
        have hDr := (Below.refl w4.heap.size w4).drew
        obtain ⟨p0, p1, p2, p3, p4, p5, p6⟩ := HS.out _ hDr
        go_region_with
          (first
          | (go_at_call 9; (with_reducible refine (edit_is _ _ _ _ _ _ _ _ _ (HJ.out.is.later hDr)).mono ?_); rintro e w6 ⟨rfl, hb6⟩; have hB6 := belowStep hDr hb6; obtain ⟨g0, g1, g2, g3, g4, g5, g6⟩ := HS.out _ hB6)
          | (go_at_call 8; (with_reducible refine (add_is As ns cs le.at_ O on oc I im ic d.c jb S le w6 (HJ.out.sv.st.later hB6) (HJ.out.is.later hB6) (by have := HV.out.len; omega) (fun g hg => by have := (HV.out.light g hg).2; omega)).mono ?_); rintro e w7 ⟨A7, n7, c7, rfl, hs7, hb7⟩; have hB7 := belowStep hB6 hb7; obtain ⟨i0, i1, i2, i3, i4, i5, i6⟩ := HS.out _ hB7))
        all_goals
          have V7 := Lib.hid (aj_store HJ.out (Nat.le_refl _) HNE.out.1 HNE.out.2 hB7 hs7)
          clear g0 g1 g2 g3 g4 g5 g6 p0 p1 p2 p3 p4 p5 p6 hb6 hb7 hB6 hs7 hB7
          go_wp2_with fail
          go_meet
          case rel => exact ⟨rfl, ⟨_, _, _, V7.out⟩⟩
      case rest =>
        obtain ⟨rfl, HC⟩ := hcut
        obtain ⟨A7, n7, c7, hJ7⟩ := HC.out
        have HJ7 := Lib.hid hJ7
        have hC := hJ7.ed.2.1
        have p2 := hC 0
        have p3 := hC 1
        have p4 := hC 2
        obtain ⟨b', o', e', hbl', x0, x1, x2, x3, x4, hE'⟩ := hJ7.deed
        injection e' with e'
        injection e' with e1 e2
        subst e1; subst e2
        clear hJ7 HC HS hC x2 x3 x4 hE' hbl' HJ
        go_wp2_with fail
        go_still_tail 13, (by kernel_rfl)
        change wpList _ _ _ _ _ wc.drew
        have CR := Lib.hid (radd_is An nn cn le.at_ O on oc I im ic d.c jb S le wc.drew (HJ7.out.ref.later (Below.refl _ _).drew) (HJ7.out.is.later (Below.refl _ _).drew) (by have := HV.out.len; omega) (fun g hg => by have := (HV.out.light g hg).2; omega))
        go_wp2_with fail
        (with_reducible refine CR.out.mono ?_)
        rintro e w8 ⟨A8, n8, c8, rfl, hs8, hb8⟩
        have HN := Lib.hid (HV.out.next HLE.out (HJ7.out.sv.later ((Below.refl _ _).drew.trans hb8)) hs8)
        clear hs8 hb8 CR p2 p3 p4 x0 x1
        go_wp2_with fail
        go_roundw
        case rel => exact ⟨k + 1, by omega, by omega, by go_num, A8, n8, c8, rfl, ⟨_, _, _, _, HN.out⟩⟩
        case measure => simp [intOf]; omega
    · have hx : n ≤ k ∨ (k < n ∧ 40 ≤ k) := by omega
      have hlen := HV.out.len
      have hLS : LightS 20 800 S := fun g hg => ⟨(HV.out.light g hg).1, by have := (HV.out.light g hg).2; omega⟩
      have hT60 : (l.take 60).length ≤ 60 := by simp; omega
      have hT0 : Txt wr (.slice A0 n0 c0) (l.take 60) := (HT0.out _ _ HL.out).later HV.out.sv.below
      have CA := all_is As ns cs cur S A0 n0 c0 (l.take 60) wr HV.out.sv.st hT0 20 800 (by omega) (by omega) (by omega) hLS (by omega)
      have HR := Lib.hid (fun (X : World) (hX : Below wr.heap.size wr X) => rall_is An nn cn cur S A0 n0 c0 (l.take 60) X (HV.out.ref.later hX) (hT0.later hX) 20 800 (by omega) hLS (by omega) (by omega) (fun g hg => by have := (HV.out.light g hg).2; omega))
      obtain ⟨R, hR⟩ : ∃ R, runS S.reverse (l.take 60) cur = R := ⟨_, rfl⟩
      rw [hR] at CA HR
      obtain ⟨y0, k0, j0⟩ := (show _ from HV.out.sv.blk)
      clear hlt hR hLS hT60 hT0 hlen
      have hRR : (R = none) ∨ (∃ m f, R = some (m, f)) := by
        cases R with
        | none => exact .inl rfl
        | some p => exact .inr ⟨p.1, p.2, rfl⟩
      rcases hx with hx | ⟨hx, hx2⟩
      all_goals
        rcases hRR with rfl | ⟨m, f, rfl⟩
        · have CA := Lib.hid (show Calls _ _ _ _ (fun e w' => ∃ A n c x, e = .returned (.tuple #[.slice A n c, .int .i64 x, .bool false]) ∧ Txt w' (.slice A n c) [] ∧ x = 0 ∧ Below wr.heap.size wr w') from CA)
          go_wp2_with fail
          (with_reducible refine CA.out.mono ?_)
          rintro e w3 ⟨A3, n3, c3, x3, rfl, ht3, rfl, hb3⟩
          have H3 := Lib.hid (And.intro ht3 (And.intro hb3 (belowStep HV.out.sv.below hb3)))
          have CR := Lib.hid (show Calls _ _ _ _ (fun e w' => ∃ A n c x, e = .returned (.tuple #[.slice A n c, .int .i64 x, .bool false]) ∧ Txt w' (.slice A n c) [] ∧ x = 0 ∧ Below w3.heap.size w3 w') from HR.out w3 hb3)
          clear ht3 hb3 CA y0 k0 j0
          go_wp2_with fail
          (with_reducible refine CR.out.mono ?_)
          rintro e w4 ⟨A4, n4, c4, x4, rfl, ht4, rfl, hb4⟩
          have CS := Lib.hid (same_is (.slice A3 n3 c3) (.slice A4 n4 c4) [] [] w4 (H3.out.1.later hb4) ht4)
          simp only [decide_true] at CS
          have H4 := Lib.hid (belowStep H3.out.2.2 hb4)
          clear ht4 hb4 CR
          go_wp2_with fail
          (with_reducible refine CS.out.mono ?_)
          rintro e w5 ⟨rfl, q, rfl⟩
          go_wp2_with fail
          (with_reducible refine (awake_yes _).mono ?_)
          rintro e w6 ⟨rfl, hb6⟩
          have H6 := Lib.hid (belowStep (belDrew H4.out q) hb6)
          clear hb6
          go_wp2
          go_ret
          exact ⟨rfl, H6.out⟩
        · have CA := Lib.hid (show Calls _ _ _ _ (fun e w' => ∃ A n c x, e = .returned (.tuple #[.slice A n c, .int .i64 x, .bool true]) ∧ Txt w' (.slice A n c) m ∧ x = f ∧ Below wr.heap.size wr w') from CA)
          go_wp2_with fail
          (with_reducible refine CA.out.mono ?_)
          rintro e w3 ⟨A3, n3, c3, x3, rfl, ht3, hx3, hb3⟩
          subst hx3
          have H3 := Lib.hid (And.intro ht3 (And.intro hb3 (belowStep HV.out.sv.below hb3)))
          have CR := Lib.hid (show Calls _ _ _ _ (fun e w' => ∃ A n c x, e = .returned (.tuple #[.slice A n c, .int .i64 x, .bool true]) ∧ Txt w' (.slice A n c) m ∧ x = x3 ∧ Below w3.heap.size w3 w') from HR.out w3 hb3)
          clear ht3 hb3 CA y0 k0 j0
          go_wp2_with fail
          (with_reducible refine CR.out.mono ?_)
          rintro e w4 ⟨A4, n4, c4, x4, rfl, ht4, hx4, hb4⟩
          subst hx4
          have CS := Lib.hid (same_is (.slice A3 n3 c3) (.slice A4 n4 c4) m m w4 (H3.out.1.later hb4) ht4)
          simp only [decide_true] at CS
          have H4 := Lib.hid (belowStep H3.out.2.2 hb4)
          clear ht4 hb4 CR
          go_wp2_with fail
          (with_reducible refine CS.out.mono ?_)
          rintro e w5 ⟨rfl, q, rfl⟩
          go_wp2_with fail
          (with_reducible refine (awake_yes _).mono ?_)
          rintro e w6 ⟨rfl, hb6⟩
          have H6 := Lib.hid (belowStep (belDrew H4.out q) hb6)
          clear hb6
          go_wp2
          go_ret
          exact ⟨rfl, H6.out⟩
end Go.Proofs.Ytfmpldgeldocnaa

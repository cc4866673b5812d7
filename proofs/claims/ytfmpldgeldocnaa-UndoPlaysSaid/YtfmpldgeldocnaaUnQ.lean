/- undo: UndoBack's walk. -/
import Derived.Test.YtfmpldgeldocnaaUnP
import Derived.Test.YtfmpldgeldocnaaUnO
import Derived.Deep.RegionWith
import Derived.Deep.DrawnRows
namespace Go.Proofs.Ytfmpldgeldocnaa
open Go.RowKit
set_option linter.unusedVariables false
set_option linter.unusedSimpArgs false
attribute [local go_sem ↓] Go.wp_at_zero Go.wp_at_succ

theorem belowStep {W w w' : World} (h : Below W.heap.size W w) (h' : Below w.heap.size w w') : Below W.heap.size W w' := h.trans (h'.mono h.size)
/-- The law's variables behind k deeds: the stack, in a cell; the line now; the first cursor. -/
structure BI (w : World) (l0 : List Int) (A : Option Addr) (n c : Nat) (v : Value) (S : List AG) (now : List Int) (f : Int) (k : Nat) (X : World) : Prop where
  sv : SV w w.heap.size A n c S X
  txt : Txt X v now
  run : runS S.reverse now 0 = some (l0, f)
  len : S.length ≤ k
  light : ∀ g ∈ S, Light 20 g.eds ∧ g.eds.length ≤ k
  nl : now.length ≤ 60 + 20 * k

theorem lightE_le (e : AE) : (lightE e).old.length ≤ 20 ∧ (lightE e).new.length ≤ 20 := by simp [lightE]; omega
theorem BI.next {w X Y : World} {l0 : List Int} {A A' : Option Addr} {n c n' c' : Nat} {v v' : Value} {S : List AG} {now next : List Int} {f cur : Int} {k : Nat} {j : Bool} {e : AE}
    (h : BI w l0 A n c v S now f k X) (hk : k < 40) (hd : doE (lightE e) now = some next) (hv : SV w w.heap.size A' n' c' (addS S (lightE e) cur j) Y) (ht : Txt Y v' next) :
    BI w l0 A' n' c' v' (addS S (lightE e) cur j) next (if S = [] then cur else f) (k + 1) Y := by
  have hl := lightE_le e
  have := h.len
  have := (addS_len S (lightE e) cur j).1
  have := doE_len hd
  have := h.nl
  exact ⟨hv, ht, runS_add (by omega) hd h.run, by omega, addS_light cur j h.light hl, by omega⟩
theorem BI.more {w X Y : World} {l0 : List Int} {A : Option Addr} {n c : Nat} {v : Value} {S : List AG} {now : List Int} {f : Int} {k : Nat} (h : BI w l0 A n c v S now f k X) (hb : Below X.heap.size X Y) : BI w l0 A n c v S now f (k + 1) Y :=
  ⟨h.sv.later hb, h.txt.later hb, h.run, by have := h.len; omega, fun g hg => ⟨(h.light g hg).1, by have := (h.light g hg).2; omega⟩, by have := h.nl; omega⟩

set_option maxHeartbeats 4000000 in
set_option maxRecDepth 100000 in
theorem walk_UndoBack (w : World) (v : Value) (l : List Int) (A : Option Addr) (n c : Nat) (D : Nat → Dd) (hl : Txt w v l) (hn : n ≤ c) (hc : c ≤ maxLen) (hD : ∀ i, i < n → DeedAt w A i (D i)) :
    Calls Try.prog 5 #[v, .slice A n c] w (Yes w) := by
  have HD := Lib.hid hD
  unfold maxLen at hc
  have C0 := Lib.hid (few60 v l w hl)
  have HL := Lib.hid hl
  clear hD hl
  go_enter Try.func5, Try.ntmps5
  go_wp2_with fail
  (with_reducible refine C0.out.mono ?_)
  rintro e w0 ⟨A0, n0, c0, rfl, HT0, hw0⟩
  subst hw0
  clear C0
  have V0 := Lib.hid (show BI w (l.take 60) none 0 0 (.slice A0 n0 c0) [] (l.take 60) 0 0 (w.alloc (.cells #[.slice none 0 0] 25)) from
    ⟨sv_new w _, (HT0.out _ _ HL.out).later (belAlloc _ _), rfl, Nat.le_refl _, fun g hg => by simp at hg, by simp; omega⟩)
  go_wp2_with fail
  go_loopw [6, 7, 8] (fun nv fv i wr => ∃ k : Nat, k ≤ n ∧ k ≤ 40 ∧ i = .int .i64 k ∧ ∃ f, fv = .int .i64 f ∧ ∃ An nn cn, nv = .slice An nn cn ∧ Hid (∃ As ns cs S now, BI w (l.take 60) As ns cs (.slice An nn cn) S now f k wr)) (fun _ _ i _ => n - (intOf i).toNat)
  case atStart => exact ⟨0, Nat.zero_le _, Nat.zero_le _, rfl, 0, rfl, A0, n0, c0, rfl, ⟨_, _, _, _, _, V0.out⟩⟩
  case round =>
    obtain ⟨k, hk, hk40, rfl, f, rfl, An, nn, cn, rfl, HB⟩ := hrel
    obtain ⟨As, ns, cs, S, now, V⟩ := HB.out
    have HV := Lib.hid V
    clear V HB V0
    by_cases hlt : k < n ∧ k < 40
    · obtain ⟨hkn, hk4⟩ := hlt
      have h4 : (k : Int) < 40 := by omega
      have hDk := (HD.out k hkn).later (HV.out.sv.below)
      obtain ⟨d, hd⟩ : ∃ d, D k = d := ⟨_, rfl⟩
      rw [hd] at hDk
      have HDk := Lib.hid hDk
      obtain ⟨b, o, rfl, hbl, x0, x1, x2, x3, x4, hE⟩ := hDk
      obtain ⟨le, hle⟩ : ∃ le, lightE d.e = le := ⟨_, rfl⟩
      have hlen := lightE_le d.e
      have C1 := light_is _ _ _ _ _ _ _ _ _ hE
      rw [hle] at C1 hlen
      have C1 := Lib.hid C1
      have HLE := Lib.hid (And.intro hle hlen)
      have HDD := Lib.hid hd
      clear hE hd hle hlen
      go_wp2_with fail
      (with_reducible refine C1.out.mono ?_)
      rintro e w1 ⟨O, on, oc, I, im, ic, rfl, hE1, hb1⟩
      clear C1 x0 x1 x2 x3 x4
      have q1 := blk_new w1 #[.int .i64 le.at_, .slice O on oc, .slice I im ic] 29
      have hb1' : Below wr.heap.size wr (w1.alloc (.cells #[.int .i64 le.at_, .slice O on oc, .slice I im ic] 29)) := belPush hb1 _
      have C2 := Lib.hid (edit_is _ _ _ _ _ _ _ _ _ (hE1.later (belAlloc w1 (.cells #[.int .i64 le.at_, .slice O on oc, .slice I im ic] 29))))
      have H1 := Lib.hid (And.intro (hE1.later (belAlloc w1 (.cells #[.int .i64 le.at_, .slice O on oc, .slice I im ic] 29))) (And.intro hb1' (And.intro q1 hb1.size)))
      clear hE1 hb1 hb1' q1
      go_wp2_with fail
      (with_reducible refine C2.out.mono ?_)
      rintro e w2 ⟨rfl, hb2⟩
      have hB2 := belowStep H1.out.2.1 hb2
      have H2 := Lib.hid (And.intro (H1.out.1.later hb2) (And.intro hB2 (H1.out.2.2.1.later hb2 H1.out.2.2.1.1)))
      have CD := do_is le.at_ O on oc I im ic (.slice An nn cn) le now w2 H2.out.1 (HV.out.txt.later hB2) (by have := HV.out.nl; omega) (by have := HLE.out.2.1; omega) (by have := HLE.out.2.2; omega)
      clear hb2 hB2 C2
      cases hdo : doE le now with
      | none =>
        rw [hdo] at CD
        have CD := Lib.hid (show Calls _ _ _ _ (TellsE [] false w2) from CD)
        clear hdo
        go_wp2_with fail
        (with_reducible refine CD.out.mono ?_)
        rintro e w3 ⟨A3, n3, c3, rfl, ht3, hb3⟩
        have H3 := Lib.hid (belowStep H2.out.2.1 hb3)
        clear ht3 hb3 CD
        go_wp2_with fail
        go_roundw
        case rel => exact ⟨k + 1, by omega, by omega, by go_num, f, rfl, An, nn, cn, rfl, ⟨_, _, _, _, _, HV.out.more H3.out⟩⟩
        case measure => simp [intOf]; omega
      | some next =>
        rw [hdo] at CD
        have CD := Lib.hid (show Calls _ _ _ _ (TellsE next true w2) from CD)
        have HDO := Lib.hid hdo
        clear hdo
        go_wp2_with fail
        (with_reducible refine CD.out.mono ?_)
        rintro e w3 ⟨A3, n3, c3, rfl, ht3, hb3⟩
        have hB3 := belowStep H2.out.2.1 hb3
        have H3 := Lib.hid (And.intro ht3 (And.intro hB3 (And.intro (HV.out.sv.later hB3) (And.intro (H2.out.1.later hb3) (H2.out.2.2.later hb3 H2.out.2.2.1)))))
        clear ht3 hb3 hB3 CD
        obtain ⟨y3, k3, j3⟩ := (show _ from H3.out.2.2.1.blk)
        have CL := Lib.hid (len_is _ _ w3 H3.out.2.2.1.st)
        go_wp2_with fail
        (with_reducible refine CL.out.mono ?_)
        rintro e w4 ⟨rfl, hb4⟩
        have hB4 := belowStep H3.out.2.1 hb4
        have H4 := Lib.hid (And.intro (H3.out.1.later hb4) (And.intro hB4 (And.intro (H3.out.2.2.1.later hb4) (And.intro (H3.out.2.2.2.1.later hb4) (And.intro (H3.out.2.2.2.2.later hb4 H3.out.2.2.2.2.1) (HDk.out.later hB4))))))
        clear hb4 hB4 y3 k3 j3 CL
        obtain ⟨b', o', e', hbl', x0, x1, x2, x3, x4, hE'⟩ := H4.out.2.2.2.2.2
        injection e' with e'
        injection e' with e1 e2
        subst e1; subst e2
        have HS := Lib.hid (show ∀ X, Below w4.heap.size w4 X → X.cell? ⟨w.heap.size, 0, none⟩ = some (.slice As ns cs) ∧ X.frozen? ⟨w.heap.size, 0, none⟩ = false ∧ X.cell? ⟨w1.heap.size, 0, none⟩ = some (.int .i64 le.at_) ∧ X.cell? ⟨w1.heap.size, 1, none⟩ = some (.slice O on oc) ∧ X.cell? ⟨w1.heap.size, 2, none⟩ = some (.slice I im ic) ∧ X.cell? ⟨b, o + k * 5, none⟩ = some (.int .i64 d.k) ∧ X.cell? ⟨b, o + k * 5 + 1, none⟩ = some (.int .i64 d.c) from by
          intro X hX
          have hB := H4.out.2.2.1.blk.later hX H4.out.2.2.1.blk.1
          have hC := H4.out.2.2.2.2.1.later hX H4.out.2.2.2.2.1.1
          exact ⟨hB.2.1 0, hB.2.2 0, hC.2.1 0, hC.2.1 1, hC.2.1 2, (hX.cell (p := ⟨b, o + k * 5, none⟩) hbl').trans x0, (hX.cell (p := ⟨b, o + k * 5 + 1, none⟩) hbl').trans x1⟩)
        clear x0 x2 x3 x4 hE' hbl'
        have hDr := (Below.refl w4.heap.size w4).drew
        obtain ⟨jb, hjb⟩ : ∃ jb, (d.k != 0) = jb := ⟨_, rfl⟩
        obtain ⟨N, hN⟩ : ∃ N, S.length = N := ⟨_, rfl⟩
        rw [hN]
        have hN01 : Hid (S = []) ∧ N = 0 ∨ Hid (S ≠ []) ∧ N ≠ 0 := by
          cases S with
          | nil => exact .inl ⟨Lib.hid rfl, by simp at hN; omega⟩
          | cons a T => exact .inr ⟨Lib.hid (by simp), by simp at hN; omega⟩
        clear hN
        have hse := hN01
        rcases hN01 with ⟨HE, rfl⟩ | ⟨HE, hN0⟩
        all_goals
          clear hse
          try have d0 : decide ((N : Int) = 0) = false := by simp; omega
          try have d1 : ((N : Int) == 0) = false := by simp; omega
          try clear hN0
          go_wp2_with fail
          obtain ⟨p0, p1, p2, p3, p4, p5, p6⟩ := HS.out _ hDr
          go_region_with
            (first
            | (go_at_call 9; (with_reducible refine (edit_is _ _ _ _ _ _ _ _ _ (H4.out.2.2.2.1.later hDr)).mono ?_); rintro e w6 ⟨rfl, hb6⟩; have hB6 := belowStep hDr hb6; obtain ⟨g0, g1, g2, g3, g4, g5, g6⟩ := HS.out _ hB6)
            | (go_at_call 8; (with_reducible refine (add_is As ns cs le.at_ O on oc I im ic d.c jb S le w6 (H4.out.2.2.1.st.later hB6) (H4.out.2.2.2.1.later hB6) (by have := HV.out.len; omega) (fun g hg => by have := (HV.out.light g hg).2; omega)).mono ?_); rintro e w7 ⟨A7, n7, c7, rfl, hs7, hb7⟩; have hB7 := belowStep hB6 hb7; obtain ⟨i0, i1, i2, i3, i4, i5, i6⟩ := HS.out _ hB7))
          all_goals
            have V7 := Lib.hid (H4.out.2.2.1.store (Nat.le_refl _) hB7 hs7)
            clear g0 g1 g2 g3 g4 g5 g6 p0 p1 p2 p3 p4 p5 p6 hb6 hb7 hB6 hs7
            have T7 := Lib.hid (show Txt (w7.setCell ⟨w.heap.size, 0, none⟩ (.slice A7 n7 c7)) (.slice A3 n3 c3) next from (H4.out.1.later hB7).shape ((H4.out.2.2.1.later hB7).blk) (noTxt_slice _ _ _) 0 _)
            clear hB7
            have VN := Lib.hid (HV.out.next (j := jb) (cur := d.c) (e := d.e) hk4 (by rw [HLE.out.1]; exact HDO.out) (by rw [HLE.out.1]; exact V7.out) T7.out)
            clear V7 T7
            go_wp2_with fail
            go_roundw
            case rel => exact ⟨k + 1, by omega, by omega, by go_num, _, by first | rw [if_pos HE.out] | rw [if_neg HE.out], A3, n3, c3, rfl, ⟨_, _, _, _, _, VN.out⟩⟩
            case measure => simp [intOf]; omega
    · have hx : n ≤ k ∨ (k < n ∧ 40 ≤ k) := by omega
      have CA := all_is As ns cs 0 S An nn cn now wr HV.out.sv.st HV.out.txt 20 800 (by omega) (by omega) (by omega) (fun g hg => ⟨(HV.out.light g hg).1, by have := (HV.out.light g hg).2; omega⟩) (by have := HV.out.len; have := HV.out.nl; omega)
      rw [HV.out.run] at CA
      have CA := Lib.hid (show Calls _ _ _ _ (fun e w' => ∃ A n c x, e = .returned (.tuple #[.slice A n c, .int .i64 x, .bool true]) ∧ Txt w' (.slice A n c) (l.take 60) ∧ x = f ∧ Below wr.heap.size wr w') from CA)
      obtain ⟨y0, k0, j0⟩ := (show _ from HV.out.sv.blk)
      clear hlt
      rcases hx with hx | ⟨hx, hx2⟩
      all_goals
        go_wp2_with fail
        (with_reducible refine CA.out.mono ?_)
        rintro e w3 ⟨A3, n3, c3, x3, rfl, ht3, rfl, hb3⟩
        have hB3 := belowStep HV.out.sv.below hb3
        have CS := Lib.hid (same_is (.slice A3 n3 c3) (.slice A0 n0 c0) (l.take 60) (l.take 60) w3 ht3 ((HT0.out _ _ HL.out).later hB3))
        simp only [decide_true] at CS
        have H3 := Lib.hid hB3
        clear ht3 hb3 hB3 CA y0 k0 j0
        go_wp2_with fail
        (with_reducible refine CS.out.mono ?_)
        rintro e w4 ⟨rfl, q, rfl⟩
        go_wp2_with fail
        (with_reducible refine (awake_yes _).mono ?_)
        rintro e w5 ⟨rfl, hb5⟩
        have H5 := Lib.hid (belowStep (belDrew H3.out q) hb5)
        clear hb5
        go_wp2
        go_ret
        exact ⟨rfl, H5.out⟩
end Go.Proofs.Ytfmpldgeldocnaa

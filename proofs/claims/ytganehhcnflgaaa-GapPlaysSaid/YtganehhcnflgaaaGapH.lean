/- gap: Slice, All. -/
import Derived.Test.YtganehhcnflgaaaGapG
import Derived.Deep.DeepCutAuto
namespace Go.Proofs.Ytganehhcnflgaaa
open Go.RowKit
set_option linter.unusedVariables false
set_option linter.unusedSimpArgs false

/-- v is a slice of the numbers l, in a block of S. -/
def IntS (w : World) (S : Nat → Prop) (v : Value) (l : List Int) : Prop := Sl w S v l.length (liI l)
/-- Numbers that are told, in new memory. -/
def TellsI (l : List Int) (w : World) (e : Ending) (w' : World) : Prop := ∃ A n c, e = .returned (.slice A n c) ∧ IntS w' (fun b => w.heap.size ≤ b) (.slice A n c) l ∧ Below w.heap.size w w'

theorem eltI : Elt Try.prog 22 3 1 8 := elt_of Try.underlying22 infoI rfl (by decide)

theorem int_own {w : World} {base n : Nat} {e : TypeId} {A : Option Addr} {c : Nat} {l : List Int} (hn : l.length = n) (h : w.ownsRow base e 1 (.slice A n c) n (l.map vI)) : IntS w (fun b => base ≤ b) (.slice A n c) l := by
  subst hn
  exact sl_own h fun j hj => by simp [liI, List.getD, hj]

theorem Mem.rd {w : World} {B0 C : Nat} {A AX : Option Addr} {cur : List Int} (h : Mem w B0 A C cur) (x l : Nat) (hx : x + l ≤ cur.length) (hAX : (if C = x then A else Option.map (fun y => y.add x) A) = AX) :
    Rd w AX l (liI ((cur.drop x).take l)) ∧ (AX = none → l = 0 ∧ C - x = 0) := by
  have hc := h.cap
  have hlt := h.lt
  rcases h with ⟨rfl, rfl, rfl⟩ | ⟨b', rest, rfl, h1, h2, h3⟩
  · have : l = 0 := by simp at hx; omega
    subst this
    exact ⟨Rd.empty _ _ _, fun _ => ⟨rfl, by omega⟩⟩
  · by_cases hC : C = x
    · have : l = 0 := by omega
      subst this
      exact ⟨Rd.empty _ _ _, fun _ => ⟨rfl, by omega⟩⟩
    · rw [if_neg hC] at hAX
      subst hAX
      refine ⟨fun j hj => ⟨b', x, by rw [Option.map_some, addr_at], (hlt b' rfl).2, ?_⟩, fun e => by cases e⟩
      have hlt : x + j < cur.length := by omega
      simp [World.cell?, h2]
      rw [List.getElem?_append_left (by simpa using hlt)]
      simp [hlt, liI, List.getD, List.getElem?_take, List.getElem?_drop, hj]

theorem held_slice1 {fr te X m : Nat} {cur : List Int} (h : X + m ≤ fr) (h1 : fr ≤ cur.length) : ((held fr te cur).drop X).take m = (cur.drop X).take m := by
  apply List.ext_getElem?
  intro j
  by_cases c : j < m
  · rw [List.getElem?_take, List.getElem?_take, if_pos c, if_pos c, List.getElem?_drop, List.getElem?_drop, held_get h1, if_pos (by omega)]
  · rw [List.getElem?_take, List.getElem?_take, if_neg c, if_neg c]
theorem held_slice3 {fr te X m : Nat} {cur : List Int} (h : fr ≤ X) (h1 : fr ≤ te) (h2 : te ≤ cur.length) : ((held fr te cur).drop X).take m = (cur.drop (X + (te - fr))).take m := by
  apply List.ext_getElem?
  intro j
  by_cases c : j < m
  · rw [List.getElem?_take, List.getElem?_take, if_pos c, if_pos c, List.getElem?_drop, List.getElem?_drop, held_get (by omega), if_neg (by omega)]
    congr 1; omega
  · rw [List.getElem?_take, List.getElem?_take, if_neg c, if_neg c]
theorem held_slice2 {fr te X Y : Nat} {cur : List Int} (h : X < fr) (h0 : fr < Y) (h1 : fr ≤ te) (h2 : te ≤ cur.length) (h3 : Y ≤ cur.length - (te - fr)) : ((held fr te cur).drop X).take (Y - X) = (cur.drop X).take (fr - X) ++ (cur.drop te).take (Y - fr) := by
  have e1 : ((cur.drop X).take (fr - X)).length = fr - X := by simp; omega
  apply List.ext_getElem?
  intro j
  by_cases c : j < fr - X
  · rw [List.getElem?_append_left (by omega), List.getElem?_take, List.getElem?_take, if_pos (by omega), if_pos c, List.getElem?_drop, List.getElem?_drop, held_get (by omega), if_pos (by omega)]
  · rw [List.getElem?_append_right (by omega), e1, List.getElem?_take, List.getElem?_take, List.getElem?_drop, List.getElem?_drop]
    by_cases c2 : j < Y - X
    · rw [if_pos c2, if_pos (by omega), held_get (by omega), if_neg (by omega)]
      congr 1; omega
    · rw [if_neg c2, if_neg (by omega)]

theorem liI_of {l : List Int} {n : Nat} (h : l.length = n) : (List.range n).map (liI l) = l.map vI := by
  subst h; exact liI_map l

theorem part_len {cur : List Int} {x l : Nat} (h : x + l ≤ cur.length) : ((cur.drop x).take l).length = l := by simp; omega

/-- The slice's two ends, within the list. -/
def Ends (x y : Int) (H X : Nat) (Yi : Int) : Prop := (X : Int) = max x 0 ∧ Yi = min y (H : Int)

set_option maxHeartbeats 4000000 in
set_option maxRecDepth 100000 in
theorem slice_any {w : World} {gb B0 : Nat} {A : Option Addr} {N C fr te : Nat} {cur L : List Int} (G : Gp w gb B0 A N C fr te cur) (hL : held fr te cur = L) (x y Yi : Int) (H X : Nat) (hH : L.length = H) (hE : Ends x y H X Yi) :
    Calls Try.prog 13 #[ptr gb, .int .i64 x, .int .i64 y] w (TellsI ((L.drop X).take (Yi - X).toNat) w) := by
  have C0 := Lib.hid (len_any G)
  rw [hL, hH] at C0
  have HG := Lib.hid G
  have HX := Lib.hid (show (X : Int) = max x 0 ∧ Yi = min y (H : Int) ∧ True from ⟨hE.1, hE.2, trivial⟩)
  have HL := Lib.hid (And.intro hL hH)
  clear G hE hL
  go_enter Try.func13, Try.ntmps13
  go_upto_region 1 with fail
  go_cut [1, 2] (fun s1 s2 wx => s1 = .int .i64 (X : Int) ∧ s2 = .int .i64 Yi ∧ ∃ q, wx = w.drewN q)
  case first =>
    clear hH
    by_cases h1 : x < 0
    · have hh1 : x < 0 := by omega
      by_cases h2 : y < (H : Int)
      · have hh2 : y < (H : Int) := by omega
        go_wp2_with fail
        (with_reducible refine C0.out.mono ?_)
        rintro e w1 ⟨rfl, q, rfl⟩
        go_wp2_with fail
        all_goals go_meet
        all_goals exact ⟨by rw [HX.out.1]; exact congrArg _ (by omega), by rw [HX.out.2.1]; exact congrArg _ (by omega), q, rfl⟩
      · have hh2 : (H : Int) ≤ y := by omega
        go_wp2_with fail
        (with_reducible refine C0.out.mono ?_)
        rintro e w1 ⟨rfl, q, rfl⟩
        go_wp2_with fail
        all_goals go_meet
        all_goals exact ⟨by rw [HX.out.1]; exact congrArg _ (by omega), by rw [HX.out.2.1]; exact congrArg _ (by omega), q, rfl⟩
    · have hh1 : 0 ≤ x := by omega
      by_cases h2 : y < (H : Int)
      · have hh2 : y < (H : Int) := by omega
        go_wp2_with fail
        (with_reducible refine C0.out.mono ?_)
        rintro e w1 ⟨rfl, q, rfl⟩
        go_wp2_with fail
        all_goals go_meet
        all_goals exact ⟨by rw [HX.out.1]; exact congrArg _ (by omega), by rw [HX.out.2.1]; exact congrArg _ (by omega), q, rfl⟩
      · have hh2 : (H : Int) ≤ y := by omega
        go_wp2_with fail
        (with_reducible refine C0.out.mono ?_)
        rintro e w1 ⟨rfl, q, rfl⟩
        go_wp2_with fail
        all_goals go_meet
        all_goals exact ⟨by rw [HX.out.1]; exact congrArg _ (by omega), by rw [HX.out.2.1]; exact congrArg _ (by omega), q, rfl⟩
  case rest =>
    obtain ⟨rfl, rfl, q, rfl⟩ := hcut
    clear C0
    by_cases hno : Yi ≤ (X : Int)
    · go_wp2
      go_ret
      have e : (Yi - X).toNat = 0 := by omega
      rw [e]
      exact ⟨_, _, _, rfl, Sl.nil _ _ _, below_drewN (Below.refl _ _) _⟩
    obtain ⟨Y, rfl⟩ := Int.eq_ofNat_of_zero_le (show 0 ≤ Yi by omega)
    have hXY : X < Y := by omega
    have hYH : Y ≤ H := by have := HX.out.2.1; omega
    obtain ⟨m, hm⟩ : ∃ m, Y - X = m := ⟨_, rfl⟩
    have em : ((Y : Int) - (X : Int)) = (m : Int) := by omega
    have hg1 := HG.out.ft
    have hg2 := HG.out.tn
    have hg3 : N ≤ C := by have := HG.out.mem.cap; have := HG.out.len; omega
    have hg4 := HG.out.max
    have hlen : H = N - (te - fr) := by rw [← hH, ← HL.out.1, held_len hg1 (by rw [HG.out.len]; exact hg2), HG.out.len]
    have dn : decide ((Y : Int) ≤ (X : Int)) = false := by simp; omega
    have hm1 : m ≤ 100000 := by omega
    have HM := Lib.hid (And.intro hm hlen)
    clear hm hno hlen hH
    obtain ⟨i0, z0, hi0, hz0, hs0, hb0, _, _⟩ := eltI.2
    obtain ⟨w2, hmk, hown, hg⟩ := run_make_own (P := Try.prog) (w.drewN q) w.heap.size 22 3 i0 z0 1 Try.underlying22 hi0 hz0 hs0 .i64 .i64 m (by rw [hb0]; omega) (by unfold maxLen; omega) (Nat.le_refl _)
    have C2 : Chg (fun _ => False) w w2 := (Chg.of_grown hg).base.mono fun k _ hk => by cases hk
    have H2 := Lib.hid (And.intro hown (And.intro C2 (HG.out.chg C2 (fun h => h) (fun _ _ h => h))))
    obtain ⟨y2, k2, j2⟩ := (show Blk _ _ _ from H2.out.2.2.blk)
    clear hown hg C2
    have hblk := HG.out.blk.1
    have hown0 := HG.out.mem.lt
    have keep (Y Z : World) (G : Gp Y gb B0 A N C fr te cur) (hgr : Y.grownBy Z (some w.heap.size)) : Gp Z gb B0 A N C fr te cur :=
      G.chg (Chg.of_grown hgr) (fun e => by injection e with e; omega) (fun b hb e => by injection e with e; have := (hown0 b hb).2; omega)
    have HK := Lib.hid @keep
    clear keep hown0
    by_cases c1 : Y ≤ fr
    · obtain ⟨AX, hAX⟩ : ∃ AA, (if C = X then A else Option.map (fun x => x.add X) A) = AA := ⟨_, rfl⟩
      have d1 : decide ((X : Int) < (fr : Int)) = true := by simp; omega
      have d2 : decide ((fr : Int) < (Y : Int)) = false := by simp; omega
      have c1' : (Y : Int) ≤ (fr : Int) := by omega
      have c2 : (if fr < Y then (fr : Int) else (Y : Int)) = (Y : Int) := if_neg (by omega)
      have p0 : (0 : Int) ≤ (X : Int) := by omega
      have p1 : (X : Int) ≤ (Y : Int) := by omega
      have p2 : (Y : Int) ≤ (C : Int) := by omega
      have HR := Lib.hid (H2.out.2.2.mem.rd X (Y - X) (by rw [HG.out.len]; omega) hAX)
      go_wp2
      go_still_tail 13, (by kernel_rfl)
      change wpList _ _ _ _ _ w2.drew
      refine wpList_cat eltI (H2.out.1 : w2.drew.ownsRow w.heap.size 3 1 (.slice (some ⟨w.heap.size, 0, none⟩) 0 m) 0 []) H2.out.2.1.size (by rfl) (by rfl) (by rfl) (by rfl) (HR.out.1.drewN 1) HR.out.2 (fun j _ => rfl) (by unfold maxLen; omega) (by omega) ?_
      intro A3 c3 w3 hp
      rw [Nat.zero_add, List.nil_append, liI_of (part_len (by rw [HG.out.len]; omega))] at hp
      have G3 := HK.out _ _ H2.out.2.2.drew hp.grown
      have HP1 := Lib.hid (And.intro hp.own (H2.out.2.1.drewN 1 |>.next (Chg.of_grown hp.grown) (fun j hj e => by have e2 : some j = some w.heap.size := e; injection e2 with e2; omega)))
      clear hp y2 k2 j2
      obtain ⟨y3, k3, j3⟩ := (show Blk _ _ _ from G3.blk)
      clear G3
      go_wp2
      go_ret
      have e : (L.drop X).take m = (cur.drop X).take (Y - X) := by rw [← HL.out.1, ← HM.out.1]; exact held_slice1 (by omega) (by rw [HG.out.len]; omega)
      rw [show ((Y : Int) - (X : Int)).toNat = m by omega, e]
      exact ⟨_, _, _, rfl, int_own (part_len (by rw [HG.out.len]; omega)) HP1.out.1, HP1.out.2.below (Nat.le_refl _) (fun k _ h => h)⟩
    have hW : ∃ W, te - fr = W := ⟨_, rfl⟩
    obtain ⟨W, hW⟩ := hW
    have eW : (te : Int) - (fr : Int) = (W : Int) := by omega
    obtain ⟨Z, hZ⟩ : ∃ Z, Y + W = Z := ⟨_, rfl⟩
    have eZ : (Y : Int) + (W : Int) = (Z : Int) := by omega
    have ewZ : IntKind.i64.wrap (Z : Int) = (Z : Int) := IntWalk.i64_in _ (by have := HM.out.2; omega)
    have d2 : decide ((fr : Int) < (Y : Int)) = true := by simp; omega
    have q2 : (Z : Int) ≤ (C : Int) := by have := HM.out.2; omega
    have hZN : Z ≤ N := by have := HM.out.2; omega
    by_cases c3 : X < fr
    · obtain ⟨AX, hAX⟩ : ∃ AA, (if C = X then A else Option.map (fun x => x.add X) A) = AA := ⟨_, rfl⟩
      obtain ⟨AT, hAT⟩ : ∃ AA, (if C = te then A else Option.map (fun x => x.add te) A) = AA := ⟨_, rfl⟩
      have d1 : decide ((X : Int) < (fr : Int)) = true := by simp; omega
      have c2 : (if X < fr then (fr : Int) else (X : Int)) = (fr : Int) := if_pos (by omega)
      have c4 : (if fr < Y then (fr : Int) else (Y : Int)) = (fr : Int) := if_pos (by omega)
      have c3' : (X : Int) < (fr : Int) := by omega
      have c1' : (fr : Int) < (Y : Int) := by omega
      have eT : (fr : Int) + (W : Int) = (te : Int) := by omega
      have ewT : IntKind.i64.wrap (te : Int) = (te : Int) := IntWalk.i64_in _ (by omega)
      have p0 : (0 : Int) ≤ (X : Int) := by omega
      have p1 : (X : Int) ≤ (fr : Int) := by omega
      have p2 : (fr : Int) ≤ (C : Int) := by omega
      have r0 : (0 : Int) ≤ (te : Int) := by omega
      have r1 : (te : Int) ≤ (Z : Int) := by omega
      have hZt : Z - te = Y - fr := by omega
      have hsum : fr - X + (Z - te) = m := by omega
      have HR := Lib.hid (H2.out.2.2.mem.rd X (fr - X) (by rw [HG.out.len]; omega) hAX)
      have HV := Lib.hid (And.intro hZt (And.intro hsum (And.intro hW hZ)))
      clear hZt hsum hW hZ
      go_wp2
      go_still_tail 13, (by kernel_rfl)
      change wpList _ _ _ _ _ w2.drew
      refine wpList_cat eltI (H2.out.1 : w2.drew.ownsRow w.heap.size 3 1 (.slice (some ⟨w.heap.size, 0, none⟩) 0 m) 0 []) H2.out.2.1.size (by rfl) (by rfl) (by rfl) (by rfl) (HR.out.1.drewN 1) HR.out.2 (fun j _ => rfl) (by unfold maxLen; omega) (by omega) ?_
      intro A3 c3 w3 hp
      rw [Nat.zero_add, List.nil_append, liI_of (part_len (by rw [HG.out.len]; omega))] at hp
      have G3 := HK.out _ _ H2.out.2.2.drew hp.grown
      have HP1 := Lib.hid (And.intro hp.own (And.intro (H2.out.2.1.drewN 1 |>.next (Chg.of_grown hp.grown) (fun j hj e => by have e2 : some j = some w.heap.size := e; injection e2 with e2; omega)) G3))
      clear hp y2 k2 j2
      obtain ⟨y3, k3, j3⟩ := (show Blk _ _ _ from G3.blk)
      clear G3
      go_wp2
      go_quiet (fail)
      go_wp2
      refine at_world (fun X3 => (Gp X3 gb B0 A N C fr te cur ∧ Chg (fun _ => False) w X3) ∧ X3.ownsRow w.heap.size 3 1 (.slice A3 (fr - X) c3) (fr - X) (((cur.drop X).take (fr - X)).map vI)) ⟨⟨HP1.out.2.2.drewN _, HP1.out.2.1.drewN _⟩, HP1.out.1⟩ ?_
      rintro X3 GX
      have H3 := Lib.hid GX
      clear k3 j3 y3
      obtain ⟨y4, k4, j4⟩ := (show Blk _ _ _ from GX.1.1.blk)
      clear GX
      have HR2 := Lib.hid (H3.out.1.1.mem.rd te (Z - te) (by rw [HG.out.len]; omega) hAT)
      go_still_tail 17, (by kernel_rfl)
      change wpList _ _ _ _ _ X3.drew
      refine wpList_cat eltI (H3.out.2 : X3.drew.ownsRow w.heap.size 3 1 (.slice A3 (fr - X) c3) (fr - X) (((cur.drop X).take (fr - X)).map vI)) H3.out.1.2.size (by rfl) (by rfl) (by rfl) (by rfl) (HR2.out.1.drewN 1) HR2.out.2 (fun j _ => rfl) (by rw [HV.out.2.1]; unfold maxLen; omega) (by rw [HV.out.2.1]; omega) ?_
      intro A5 c5 w5 hp
      rw [liI_of (part_len (by rw [HG.out.len]; omega)), ← List.map_append] at hp
      have hlt3 := H3.out.2.lt
      have HP2 := Lib.hid (And.intro hp.own (H3.out.1.2.drewN 1 |>.next (Chg.of_grown hp.grown) (fun j hj e => by have := (hlt3 j e.symm).1; omega)))
      clear hp y4 k4 j4 hlt3
      go_wp2
      go_ret
      have e : (L.drop X).take m = (cur.drop X).take (fr - X) ++ (cur.drop te).take (Z - te) := by
        have h := HV.out
        rw [← HL.out.1, ← HM.out.1, held_slice2 (by omega) (by omega) hg1 (by rw [HG.out.len]; exact hg2) (by rw [HG.out.len]; have := HM.out.2; omega), h.1]
      rw [show ((Y : Int) - (X : Int)).toNat = m by omega, e]
      exact ⟨_, _, _, rfl, int_own (by rw [List.length_append, part_len (by rw [HG.out.len]; omega), part_len (by rw [HG.out.len]; omega)]) HP2.out.1, HP2.out.2.below (Nat.le_refl _) (fun k _ h => h)⟩
    · obtain ⟨V, hV⟩ : ∃ V, X + W = V := ⟨_, rfl⟩
      obtain ⟨AX, hAX⟩ : ∃ AA, (if C = V then A else Option.map (fun x => x.add V) A) = AA := ⟨_, rfl⟩
      have d1 : decide ((X : Int) < (fr : Int)) = false := by simp; omega
      have c2 : (if X < fr then (fr : Int) else (X : Int)) = (X : Int) := if_neg (by omega)
      have c2' : (fr : Int) ≤ (X : Int) := by omega
      have eV : (X : Int) + (W : Int) = (V : Int) := by omega
      have ewV : IntKind.i64.wrap (V : Int) = (V : Int) := IntWalk.i64_in _ (by omega)
      have p0 : (0 : Int) ≤ (V : Int) := by omega
      have p1 : (V : Int) ≤ (Z : Int) := by omega
      have hVZ : Z - V = Y - X := by omega
      have hVN : V + (Z - V) ≤ N := by omega
      have HR := Lib.hid (H2.out.2.2.mem.rd V (Z - V) (by rw [HG.out.len]; exact hVN) hAX)
      have HV := Lib.hid (And.intro hV (And.intro hVZ (And.intro hVN (And.intro hW hZ))))
      clear hVZ hVN hV hW hZ
      go_wp2
      go_quiet (fail)
      go_wp2
      refine at_world (fun X3 => (Gp X3 gb B0 A N C fr te cur ∧ Chg (fun _ => False) w X3) ∧ (Rd X3 AX (Z - V) (liI ((cur.drop V).take (Z - V)))) ∧ X3.ownsRow w.heap.size 3 1 (.slice (some ⟨w.heap.size, 0, none⟩) 0 m) 0 []) ⟨⟨H2.out.2.2.drewN _, H2.out.2.1.drewN _⟩, HR.out.1.drewN _, H2.out.1⟩ ?_
      rintro X3 GX
      have H3 := Lib.hid GX
      clear y2 k2 j2
      obtain ⟨y3, k3, j3⟩ := (show Blk _ _ _ from GX.1.1.blk)
      clear GX
      go_still_tail 17, (by kernel_rfl)
      change wpList _ _ _ _ _ X3.drew
      refine wpList_cat eltI (H3.out.2.2 : X3.drew.ownsRow w.heap.size 3 1 (.slice (some ⟨w.heap.size, 0, none⟩) 0 m) 0 []) H3.out.1.2.size (by rfl) (by rfl) (by rfl) (by rfl) (H3.out.2.1.drewN 1) HR.out.2 (fun j _ => rfl) (by have := HV.out.2.1; unfold maxLen; omega) (by have := HV.out.2.1; omega) ?_
      intro A3 c3 w3 hp
      rw [Nat.zero_add, List.nil_append, liI_of (part_len (by rw [HG.out.len]; exact HV.out.2.2.1))] at hp
      have HP1 := Lib.hid (And.intro hp.own (H3.out.1.2.drewN 1 |>.next (Chg.of_grown hp.grown) (fun j hj e => by have e2 : some j = some w.heap.size := e; injection e2 with e2; omega)))
      clear hp y3 k3 j3
      go_wp2
      go_ret
      have e : (L.drop X).take m = (cur.drop V).take (Z - V) := by
        have h := HV.out
        rw [← HL.out.1, ← HM.out.1, held_slice3 (by omega) hg1 (by rw [HG.out.len]; exact hg2), h.2.2.2.1, h.1, h.2.1]
      rw [show ((Y : Int) - (X : Int)).toNat = m by omega, e]
      exact ⟨_, _, _, rfl, int_own (part_len (by rw [HG.out.len]; exact HV.out.2.2.1)) HP1.out.1, HP1.out.2.below (Nat.le_refl _) (fun k _ h => h)⟩
end Go.Proofs.Ytganehhcnflgaaa

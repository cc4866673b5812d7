/- wrap: the document's Lay. -/
import Derived.Test.YtmckoabhgjfiiaaWrD
import Derived.Test.YtmckoabhgjfiiaaWrL
import Derived.Deep.RegionHeld3
namespace Go.Proofs.Ytmckoabhgjfiiaa
open Go.RowKit
set_option linter.unusedVariables false
set_option linter.unusedSimpArgs false

/-- What holds at the head of the document's round. -/
structure RlI (w X : World) (lo hi ob Co R n : Nat) (rb Cr : Nat → Nat) (top : Int) (M : List Gl) (k : Nat) (W : World) : Prop where
  rg : RG W lo hi ob Co R n rb Cr (layF R n n top M (List.range k))
  chg : Chg (Iv lo hi) X W
theorem RlI.go {w X W W' : World} {lo hi ob Co R n : Nat} {rb Cr : Nat → Nat} {top : Int} {M : List Gl} {k : Nat} (h : RlI w X lo hi ob Co R n rb Cr top M k W)
    (hp : RG W' lo hi ob Co R n rb Cr (layStep R n n top M (layF R n n top M (List.range k)) k)) (hc : Chg (Iv lo hi) W W') : RlI w X lo hi ob Co R n rb Cr top M (k + 1) W' :=
  ⟨by rw [List.range_succ, layF_snoc]; exact hp, h.chg.trans hc⟩
theorem chg_cell {S : Nat → Prop} {w v : World} (k : Chg S w v) {b j : Nat} (hb : b < w.heap.size) (hS : ¬ S b) {u : Value} (h : w.cell? ⟨b, j, none⟩ = some u) : v.cell? ⟨b, j, none⟩ = some u :=
  (World.cell?_of_block (a := ⟨b, j, none⟩) (k.block b hb hS)).trans h

set_option maxHeartbeats 4000000 in
set_option maxRecDepth 100000 in
theorem rlay_any (A : Option Addr) (c : Nat) (M : List Gl) (R n : Nat) (top : Int) (w : World) (hLi : Li 2 encG w (fun _ => True) A M) (hM : Thin M) (hlen : M.length ≤ 1000) (r1 : 1 ≤ R) (r2 : R ≤ 500) (n1 : 2 ≤ n) (n2 : n ≤ 1000) (t1 : -1000 ≤ top) (t2 : top ≤ 1000) :
    Calls Try.prog 13 #[.slice A M.length c, .int .i64 R, .int .i64 n, .int .i64 top] w fun e w' => ∃ lo hi ob Co rb Cr, e = .returned (gv ob R Co) ∧ RG w' lo hi ob Co R n rb Cr (layF R n n top M (List.range M.length)) ∧ Below w.heap.size w w' := by
  have N1 := Lib.hid (newR_in w r1 r2 n1 n2)
  have HL := Lib.hid hLi
  clear hLi
  go_enter Try.func13, Try.ntmps13
  go_wp2_with fail
  refine N1.out.mono ?_
  rintro e w1 ⟨ob, Co, rb, Cr, rfl, hr, hb⟩
  obtain ⟨lo, hlo⟩ : ∃ lo, w.heap.size = lo := ⟨_, rfl⟩
  obtain ⟨hi, hhi⟩ : ∃ hi, w1.heap.size = hi := ⟨_, rfl⟩
  have P1 := Lib.hid (rplace_any A c M n w1 (HL.out.later hb) hM hlen (by omega))
  have HR := Lib.hid (show RG w1 lo hi ob Co R n rb Cr blankF from by rw [← hlo, ← hhi]; exact hr)
  have HB := Lib.hid hb
  have hl1 : w.heap.size ≤ lo := by omega
  have hl2 : lo ≤ w.heap.size := by omega
  have hl3 : w1.heap.size ≤ hi := by omega
  have hl4 : hi ≤ w1.heap.size := by omega
  have hl5 := hb.size
  have hpl : placeP n M = spots n M := if_neg (by omega)
  rw [hpl] at P1
  have hsl : (spots n M).length = M.length + 1 := by simp [spots]
  clear hr hb N1 hpl hlo hhi
  go_wp2_with fail
  refine P1.out.mono ?_
  rintro e X ⟨A2, n2', c2, rfl, ho, hbX⟩
  obtain rfl : M.length + 1 = n2' := by rw [← hsl]; exact own_count encP_len (by decide) ho
  have HX := Lib.hid (show Li 2 encP X (fun b => w1.heap.size ≤ b) A2 (spots n M) from Li.own encP_len (by decide) ho)
  have HLX := Lib.hid ((HL.out.later HB.out).later hbX)
  have HL0 := Lib.hid HL.out
  have HRX := Lib.hid (HR.out.later hbX)
  have HBX := Lib.hid (HB.out.trans (hbX.mono HB.out.size))
  have hXs := hbX.size
  have hnn : M.length ≤ 9223372036854775807 := by omega
  have HSL := Lib.hid hsl
  have hR0 : decide ((0 : Int) < (R : Int)) = true := decide_eq_true (by omega)
  have hR1 : decide (0 < R) = true := decide_eq_true (by omega)
  clear ho hbX P1 hsl HR HB
  go_wp2_with fail
  go_loopw [11] (fun i wr => ∃ (k : Nat), k ≤ M.length ∧ i = .int .i64 k ∧ Hid (RlI w X lo hi ob Co R n rb Cr top M k wr)) (fun i _ => M.length - (intOf i).toNat)
  case atStart => exact ⟨0, Nat.zero_le _, rfl, ⟨HRX.out, Chg.refl _ _⟩⟩
  case round =>
    obtain ⟨k, hk, rfl, HI⟩ := hrel
    by_cases hlt : k < M.length
    · obtain ⟨gg, ab, ao, hgg, rfl, hab, _, c0, c1⟩ := HL0.out.glyph hlt
      obtain ⟨p, b, o, hp, rfl, hbb, hbw, d0, d1⟩ := HX.out.spot (j := k) (by rw [HSL.out]; omega)
      rw [spots_get (by omega)] at hp
      injection hp with hp
      have ca (u : Value) (j : Nat) (h : w.cell? ⟨ab, j, none⟩ = some u) : wr.cell? ⟨ab, j, none⟩ = some u := chg_cell HI.out.chg (by omega) (fun h => by have := h.1; omega) ((HBX.out.cell (p := ⟨ab, j, none⟩) hab).trans h)
      have g0 := ca _ _ c0
      have g1 := ca _ _ c1
      have p0 := chg_cell HI.out.chg hbb (fun h => by have := h.2; omega) d0
      have p1 := chg_cell HI.out.chg hbb (fun h => by have := h.2; omega) d1
      have i1 : (k : Int) < (M.length : Int) := by omega
      have i2 : (0 : Int) ≤ (k : Int) := by omega
      have i3 : (k : Int) < (M.length : Int) + 1 := by omega
      have bd := spAt_bd (cols := (n : Int)) (by omega) hM k (by omega)
      rw [hp] at bd
      obtain ⟨b1, b2, b3, b4, b5⟩ := bd
      have u1 : IntKind.i64.wrap (p.r - top) = p.r - top := IntWalk.i64_in _ (by omega)
      have hws := HI.out.chg.size
      have ha2 : ab < wr.heap.size := by omega
      have hb2 : b < wr.heap.size := by omega
      have na : ¬ Iv lo hi ab := fun h => by have := h.1; omega
      have nb : ¬ Iv lo hi b := fun h => by have := h.2; omega
      clear ca c0 c1 d0 d1
      by_cases ht : top ≤ p.r
      · have d1' : decide (top ≤ p.r) = true := decide_eq_true ht
        have hst := layStep_low (R := R) (n := n) (top := top) (F := layF R n n top M (List.range k)) hgg (by rw [hp]; exact ht)
        rw [hp] at hst
        have HST := Lib.hid hst
        have HS := Lib.hid (show ∀ Z, Chg (Iv lo hi) wr Z → (fun Z => Z.cell? ⟨b, o + k * 2, none⟩ = some (.int .i64 p.r) ∧ Z.cell? ⟨b, o + k * 2 + 1, none⟩ = some (.int .i64 p.c) ∧ Z.cell? ⟨ab, ao + k * 2, none⟩ = some (.string gg.t) ∧ Z.cell? ⟨ab, ao + k * 2 + 1, none⟩ = some (.int .i64 gg.w) ∧ Chg (Iv lo hi) wr Z) Z from fun Z hZ =>
          ⟨chg_cell hZ hb2 nb p0, chg_cell hZ hb2 nb p1, chg_cell hZ ha2 na g0, chg_cell hZ ha2 na g1, hZ⟩)
        clear hst hgg hp
        go_wp2_with fail
        go_region_held3 (fun Z => Z.cell? ⟨b, o + k * 2, none⟩ = some (.int .i64 p.r) ∧ Z.cell? ⟨b, o + k * 2 + 1, none⟩ = some (.int .i64 p.c) ∧ Z.cell? ⟨ab, ao + k * 2, none⟩ = some (.string gg.t) ∧ Z.cell? ⟨ab, ao + k * 2 + 1, none⟩ = some (.int .i64 gg.w) ∧ Chg (Iv lo hi) wr Z)
          (first | exact HS.out _ (by repeat' (first | assumption | exact Chg.refl _ _ | refine Chg.drew' ?_)) | go_keep)
          (first
          | (go_at_call 22; refine (putR_all (HI.out.rg.later (by repeat' (first | exact Below.refl _ _ | refine Below.drew ?_))) (by show hi ≤ wr.heap.size; omega) _ _ _ _).mono ?_; rintro e w3 ⟨rfl, hP3, hC3⟩; have hC4 := ((Chg.refl (Iv lo hi) wr).drew').trans hC3; have HP := Lib.hid (HI.out.go (by rw [HST.out]; exact hP3) hC4); clear hP3 hC3))
        go_wp2_with fail
        go_roundw
        case rel => exact ⟨k + 1, by omega, by go_num, HP.out⟩
        case measure => simp [intOf]; omega
      · have d1' : decide (top ≤ p.r) = false := decide_eq_false ht
        have HP := Lib.hid (HI.out.go (by rw [layStep_high hgg (by rw [hp]; exact ht)]; exact HI.out.rg) (Chg.refl _ wr))
        clear hgg hp
        go_wp2_with fail
        go_roundw
        case rel => exact ⟨k + 1, by omega, by go_num, HP.out⟩
        case measure => simp [intOf]; omega
    · obtain rfl : k = M.length := by omega
      have HT := Lib.hid (show ∃ lo hi ob' Co' rb Cr, Ending.returned (gv ob R Co) = .returned (gv ob' R Co') ∧ RG wr lo hi ob' Co' R n rb Cr (layF R n n top M (List.range M.length)) ∧ Below w.heap.size w wr from
        ⟨lo, hi, ob, Co, rb, Cr, rfl, HI.out.rg, HBX.out.trans (HI.out.chg.below (by omega) fun k hk h => by have := h.1; omega)⟩)
      clear hlt
      go_wp2_with fail
      go_ret
      exact HT.out

theorem layF_end (R n : Nat) (cols top : Int) (M : List Gl) : layF R n cols top M (List.range (M.length + 1)) = layF R n cols top M (List.range M.length) := by
  rw [List.range_succ, layF_snoc, layStep_out (Nat.le_refl _)]

set_option maxRecDepth 100000 in
set_option maxHeartbeats 1000000 in
theorem lay_no_in (A : Option Addr) (len c : Nat) (rows cols top : Int) (w : World) (hbad : ¬ (1 ≤ rows ∧ rows ≤ 500 ∧ 2 ≤ cols ∧ cols ≤ 1000)) :
    CallsIn Fence.wide 5 Try.prog 12 #[.slice A len c, .int .i64 rows, .int .i64 cols, .int .i64 top] w fun e w' => e = .returned (.pointer none) ∧ Below w.heap.size w w' := by
  have hro : Fence.wide.round = none := rfl
  refine callsIn_of_wp_marks Try.func12 rfl trivial ?_ hro
  simp only [Try.ntmps12, List.size_toArray, List.length_cons, List.length_nil, Nat.reduceAdd, Nat.reduceSub, Array.replicate_succ, Array.replicate_zero, List.push_toArray, List.append_toArray, List.nil_append, List.cons_append]
  have B3 := blk_three w #[.slice A len c] #[.int .i64 rows] #[.int .i64 top] 23 3 3
  obtain ⟨V, hV⟩ : ∃ V, ((w.alloc (.cells #[.slice A len c] 23)).alloc (.cells #[.int .i64 rows] 3)).alloc (.cells #[.int .i64 top] 3) = V := ⟨_, rfl⟩
  have hVw : V.heap.size = w.heap.size + 3 := by rw [← hV]; simp
  have hVb : Below w.heap.size w V := by rw [← hV]; exact (((Below.refl _ w).alloc (Nat.le_refl _) _).alloc (by simp) _).alloc (by simp; omega) _
  rw [hV] at B3
  have v1 : V.cell? ⟨w.heap.size + 1, 0, none⟩ = some (.int .i64 rows) := B3.2.1.2.1 0
  have hq1 : w.heap.size + 1 < V.heap.size := by omega
  have HB := Lib.hid (hVb.alloc (by omega) (.cells #[.pointer none] 36))
  clear B3 hVb
  gi_wp2_with (refine ⟨trivial, ?_⟩; gi_at_call 19; refine (callsIn_wide.2 (new_no _ hbad)).mono ?_; rintro e w1 ⟨rfl, rfl⟩)
  refine ⟨_, results_tmp rfl _ _ _, rfl, ?_⟩
  exact HB.out
theorem lay_no (A : Option Addr) (len c : Nat) (rows cols top : Int) (w : World) (hbad : ¬ (1 ≤ rows ∧ rows ≤ 500 ∧ 2 ≤ cols ∧ cols ≤ 1000)) :
    Calls Try.prog 12 #[.slice A len c, .int .i64 rows, .int .i64 cols, .int .i64 top] w fun e w' => e = .returned (.pointer none) ∧ Below w.heap.size w w' :=
  (callsIn_wide (n := 5)).1 (lay_no_in A len c rows cols top w hbad)

set_option maxHeartbeats 1000000 in
set_option maxRecDepth 100000 in
theorem rlay_no (A : Option Addr) (c : Nat) (M : List Gl) (rows cols top : Int) (w : World) (hLi : Li 2 encG w (fun _ => True) A M) (hM : Thin M) (hlen : M.length ≤ 1000) (h63 : cols ≤ 9223372036854775807) (hbad : ¬ (1 ≤ rows ∧ rows ≤ 500 ∧ 2 ≤ cols ∧ cols ≤ 1000)) :
    Calls Try.prog 13 #[.slice A M.length c, .int .i64 rows, .int .i64 cols, .int .i64 top] w fun e w' => e = .returned (.slice none 0 0) ∧ Below w.heap.size w w' := by
  have N1 := Lib.hid (newR_no w hbad)
  have P1 := Lib.hid (rplace_any A c M cols w hLi hM hlen h63)
  clear hLi hbad
  go_enter Try.func13, Try.ntmps13
  go_wp2_with fail
  refine N1.out.mono ?_
  rintro e w1 ⟨rfl, rfl⟩
  go_wp2_with fail
  refine P1.out.mono ?_
  rintro e X ⟨A2, n2', c2, rfl, ho, hbX⟩
  have HB := Lib.hid hbX
  clear ho hbX P1 N1
  go_wp2_with fail
  go_loopw [11] (fun i wr => i = .int .i64 0 ∧ wr = X) (fun _ _ => 0)
  case atStart => exact ⟨rfl, rfl⟩
  case round =>
    obtain ⟨rfl, rfl⟩ := hrel
    rcases Nat.eq_zero_or_pos M.length with h0 | hpos
    · have d1 : decide ((0 : Int) < (M.length : Int)) = false := decide_eq_false (by omega)
      have d2 : decide (0 < M.length) = false := decide_eq_false (by omega)
      clear h0
      go_wp2_with fail
      go_ret
      exact ⟨rfl, HB.out⟩
    · have d1 : decide ((0 : Int) < (M.length : Int)) = true := decide_eq_true (by omega)
      have d2 : decide (0 < M.length) = true := decide_eq_true (by omega)
      clear hpos
      go_wp2_with fail
      go_ret
      exact ⟨rfl, HB.out⟩
end Go.Proofs.Ytmckoabhgjfiiaa

/- past: PastBack's walk. -/
import Derived.Test.YtmhjhndnbgabjaaPastF
import Derived.Test.YtmhjhndnbgabjaaFewT
import Derived.Handy
import Derived.Deep.RegionHeld3
namespace Go.Proofs.Ytmhjhndnbgabjaa
open Go.RowKit
set_option linter.unusedVariables false
set_option linter.unusedSimpArgs false

theorem belowStep {A B C : World} (h : Below A.heap.size A B) (k : Below B.heap.size B C) : Below A.heap.size A C := h.trans (k.mono h.size)
theorem bAlloc {A B : World} (h : Below A.heap.size A B) (o : Obj) : Below A.heap.size A (B.alloc o) := h.alloc h.size o

theorem few_n (n : Nat) (v : Value) (l : List Int) (w : World) (h : Txt w v l) (hn : n ≤ 1000000) : Calls Try.prog 8 #[v, .int .i64 n] w fun e w' => ∃ A m c, e = .returned (.slice A m c) ∧ Hid (∀ (X : World) (S : Nat → Prop), TxtS X S v l → TxtS X S (.slice A m c) (l.take n)) ∧ w = w' := by
  refine (few_any v l n w h hn).mono fun e w' hh => ?_
  obtain ⟨A, c, he, ht, hw⟩ := hh
  exact ⟨A, _, c, he, Lib.hid ht, hw⟩

theorem few20 (v : Value) (l : List Int) (w : World) (h : Txt w v l) : Calls Try.prog 8 #[v, .int .i64 20] w fun e w' => ∃ A m c, e = .returned (.slice A m c) ∧ Hid (∀ (X : World) (S : Nat → Prop), TxtS X S v l → TxtS X S (.slice A m c) (l.take 20)) ∧ w = w' := few_n 20 v l w h (by omega)
theorem few30 (v : Value) (l : List Int) (w : World) (h : Txt w v l) : Calls Try.prog 8 #[v, .int .i64 30] w fun e w' => ∃ A m c, e = .returned (.slice A m c) ∧ Hid (∀ (X : World) (S : Nat → Prop), TxtS X S v l → TxtS X S (.slice A m c) (l.take 30)) ∧ w = w' := few_n 30 v l w h (by omega)
theorem addM_mem {M : List (List Int)} {l : List Int} {b : Nat} (h : ∀ x ∈ M, x.length ≤ b) (hl : l.length ≤ b) : ∀ x ∈ addM M l, x.length ≤ b := by
  intro x hx
  unfold addM at hx
  split at hx
  · exact h x hx
  · rcases List.mem_append.1 hx with hx | hx
    · exact h x (List.mem_of_mem_drop hx)
    · simp at hx; subst hx; exact hl
theorem addM_len {M : List (List Int)} {l : List Int} {q : Nat} (h : M.length ≤ q) : (addM M l).length ≤ q + 1 := by
  unfold addM
  split
  · omega
  · simp only [List.length_append, List.length_drop, List.length_singleton]; omega

/-- Not the block of the law's own past. -/
def Off (w : World) (b : Nat) : Prop := b ≠ w.heap.size
theorem go_at (u v lv : Value) (M : List (List Int)) (s cl t : List Int) (k : Int) (kk : Nat) (S : Nat → Prop) (w : World) (hL : TxtsS w S u M) (hs : TxtS w S lv s) (hv : Txt w v cl) (h1 : ∀ l ∈ M, l.length ≤ 1000000) (h2 : s.length ≤ 1000000) (h3 : cl.length ≤ 1000000) (hk1 : 1 ≤ kk) (hk2 : kk ≤ M.length) (ht : (if k = 0 then cl else s) = t) :
    Calls Try.prog 11 #[.agg #[u, .int .i64 k, lv], .int .i64 kk, v] w (TellsG M kk t (M.getD (M.length - kk) []) true S w) := by
  have h := go_any u v lv M s cl k kk S w hL hs hv h1 h2 h3
  have e : goM M k s kk cl = ((kk : Int), t, M.getD (M.length - kk) [], true) := by
    unfold goM lineM leftM
    rw [if_neg (by omega), if_pos (by omega)]
    dsimp only
    rw [if_neg (by omega), ht, Int.toNat_natCast]
  rw [e] at h
  exact h
theorem go_home (u v lv : Value) (M : List (List Int)) (s cl t : List Int) (k : Int) (S : Nat → Prop) (w : World) (hL : TxtsS w S u M) (hs : TxtS w S lv s) (hv : Txt w v cl) (h1 : ∀ l ∈ M, l.length ≤ 1000000) (h2 : s.length ≤ 1000000) (h3 : cl.length ≤ 1000000) (ht : (if 0 < k then s else cl) = t) :
    Calls Try.prog 11 #[.agg #[u, .int .i64 k, lv], .int .i64 0, v] w (TellsG M 0 [] t true S w) := by
  have h := go_any u v lv M s cl k 0 S w hL hs hv h1 h2 h3
  have e : goM M k s 0 cl = (0, [], t, true) := by
    unfold goM lineM leftM
    rw [if_neg (by omega), if_neg (by omega), ← ht]
    by_cases hk : 0 < k <;> simp [hk]
  rw [e] at h
  exact h

/-- What PastBack's second loop keeps. -/
structure Back (w : World) (M : List (List Int)) (t : List Int) (A B C : Option Addr) (c d n e : Nat) (k : Int) (s cl : List Int) (X : World) : Prop where
  var : VarP w (.slice A M.length c) k (.slice B s.length d) M s X
  cur : TxtS X (Off w) (.slice C n e) cl
  k0 : 0 ≤ k
  sl : s.length ≤ 30
  cll : cl.length ≤ 30
  at0 : k = 0 → cl = t
  at1 : 0 < k → s = t
theorem Back.later {w : World} {M : List (List Int)} {t : List Int} {A B C : Option Addr} {c d n e : Nat} {k : Int} {s cl : List Int} {X Y : World} (h : Back w M t A B C c d n e k s cl X) (hb : Below X.heap.size X Y) : Back w M t A B C c d n e k s cl Y :=
  { h with var := h.var.later hb, cur := TxtS.later h.cur hb }
theorem off_put3 {w X : World} {v : Value} {l : List Int} (a b c : Value) (h : TxtS X (Off w) v l) : TxtS (put3 X w.heap.size a b c) (Off w) v l :=
  Sl.far (p := ⟨w.heap.size, 2, none⟩) (Sl.far (p := ⟨w.heap.size, 1, none⟩) (Sl.far (p := ⟨w.heap.size, 0, none⟩) h (fun e => e rfl) a) (fun e => e rfl) b) (fun e => e rfl) c
theorem getM_len {M : List (List Int)} {b : Nat} (h : ∀ l ∈ M, l.length ≤ b) (j : Nat) : (M.getD j []).length ≤ b := by
  by_cases hj : j < M.length
  · rw [show M.getD j [] = M[j] by simp [List.getD, hj]]
    exact h _ (List.getElem_mem hj)
  · simp [List.getD, List.getElem?_eq_none (Nat.le_of_not_lt hj)]
theorem rem_two {x : Int} {m : Nat} (hm : 0 < m) (h30 : m ≤ 30) : ∃ (a : Int) (b : Nat), Int.tmod x m = a ∧ Int.tmod (a + m) m = b ∧ b < m ∧ -30 < a ∧ a < 30 := by
  have h1 := Int.tmod_lt_of_pos x (show (0 : Int) < m by omega)
  have h2 : -(m : Int) < Int.tmod x m := by
    rcases Int.le_total 0 x with h | h
    · have := Int.tmod_nonneg (m : Int) h; omega
    · have h3 := Int.tmod_lt_of_pos (-x) (show (0 : Int) < m by omega)
      rw [Int.neg_tmod] at h3
      omega
  refine ⟨Int.tmod x m, (Int.tmod (Int.tmod x m + m) m).toNat, rfl, ?_, ?_, by omega, by omega⟩
  · have := Int.tmod_nonneg (m : Int) (show 0 ≤ Int.tmod x m + m by omega)
    omega
  · have := Int.tmod_nonneg (m : Int) (show 0 ≤ Int.tmod x m + m by omega)
    have := Int.tmod_lt_of_pos (Int.tmod x m + m) (show (0 : Int) < m by omega)
    omega

set_option maxHeartbeats 8000000 in
set_option maxRecDepth 100000 in
theorem walk_PastBack (w : World) (u v : Value) (L : List (List Int)) (now : List Int) (A : Option Addr) (n c : Nat) (f : Nat → Int) (hL : Txts w u L) (hv : Txt w v now) (hf : Rd w A n (fun j => Value.int .i64 (f j))) (hn : n ≤ c) (hc : c ≤ maxLen) (wf : ∀ j, j < n → (Lit.int .i64 (f j)).wf = true) :
    Calls Try.prog 4 #[u, v, .slice A n c] w (Yes w) := by
  obtain ⟨Al, cl, rfl, hl1, hl2⟩ := hL.is
  obtain ⟨An, cn, rfl, hn1, hn2⟩ := Sl.is hv
  have HL := Lib.hid (And.intro hL.old (And.intro (TxtS.old hv) hf))
  have HF := Lib.hid (And.intro hn (And.intro hc wf))
  clear hL hv hf wf
  go_enter Try.func4, Try.ntmps4
  have C0 := Lib.hid (few30 (.slice An now.length cn) now w (TxtS.any HL.out.2.1))
  go_wp2_with fail
  (with_reducible refine C0.out.mono ?_)
  rintro e w0 ⟨A0, m0, c0, rfl, H0, rfl⟩
  have V0 := Lib.hid (varP_new w 26)
  have N0 : Hid (TxtS w (fun b => b < w.heap.size ∧ Any b) (.slice A0 m0 c0) (now.take 30)) := Lib.hid (H0.out _ _ HL.out.2.1)
  obtain ⟨t, ht⟩ : ∃ t, now.take 30 = t := ⟨_, rfl⟩
  have HT30 : Hid (t.length ≤ 30) := Lib.hid (by rw [← ht, List.length_take]; omega)
  rw [ht] at N0
  clear ht
  go_wp2
  go_loopw [8] (fun i wr => ∃ q : Nat, q ≤ L.length ∧ q ≤ 30 ∧ i = .int .i64 q ∧ Hid (∃ A c B d M, VarP w (.slice A M.length c) 0 (.slice B 0 d) M [] wr ∧ M.length ≤ q ∧ ∀ l ∈ M, l.length ≤ 20)) (fun i _ => L.length - (intOf i).toNat)
  case atStart => exact ⟨0, Nat.zero_le _, Nat.zero_le _, rfl, ⟨none, 0, none, 0, [], V0.out, Nat.le_refl _, fun l hl => by cases hl⟩⟩
  case round =>
    obtain ⟨q, hq, hq30, rfl, HR⟩ := hrel
    obtain ⟨A1, c1, B1, d1, M, V, hM, hM20⟩ := HR.out
    have V1 := Lib.hid V
    have HM := Lib.hid (And.intro hM hM20)
    clear V HR hM hM20
    obtain ⟨_, y, j⟩ := (show _ from V1.out.blk)
    have y0 := y 0
    have y1 := y 1
    have y2 := y 2
    have j0 := j 0
    have j1 := j 1
    have j2 := j 2
    clear y j
    by_cases hlt : q < L.length ∧ q < 30
    · obtain ⟨hqn, hq2⟩ := hlt
      obtain ⟨b, o, As, ns, cs, rfl, hbl, hce, htx⟩ := (HL.out.1.later V1.out.below).at_ hqn
      obtain ⟨l, hl⟩ : ∃ l, L.getD q [] = l := ⟨_, rfl⟩
      rw [hl] at htx
      have HT := Lib.hid htx
      have hd : decide ((q : Int) < 30) = true := decide_eq_true (by omega)
      clear htx hl
      have HS : Hid (∀ X, Below wr.heap.size wr X → (fun X => X.cell? ⟨w.heap.size, 0, none⟩ = some (.slice A1 M.length c1) ∧ X.cell? ⟨w.heap.size, 1, none⟩ = some (.int .i64 0) ∧ X.cell? ⟨w.heap.size, 2, none⟩ = some (.slice B1 0 d1) ∧ X.frozen? ⟨w.heap.size, 0, none⟩ = false ∧ X.frozen? ⟨w.heap.size, 1, none⟩ = false ∧ X.frozen? ⟨w.heap.size, 2, none⟩ = false ∧ X.cell? ⟨b, o + q, none⟩ = some (.slice As ns cs)) X) := Lib.hid (by
        intro X hX
        have hB := V1.out.blk.later hX V1.out.blk.1
        exact ⟨hB.2.1 0, hB.2.1 1, hB.2.1 2, hB.2.2 0, hB.2.2 1, hB.2.2 2, (hX.cell (p := ⟨b, o + q, none⟩) hbl).trans hce⟩)
      have hD := (Below.refl wr.heap.size wr).drew
      go_wp2_with fail
      obtain ⟨p0, p1, p2, f0, f1, f2, pe⟩ := HS.out _ hD
      go_region_with
        (first
        | (go_at_call 8; refine (few20 _ l _ (TxtS.any (TxtS.later HT.out hD))).mono ?_; rintro e w1 ⟨A2, m2, c2, rfl, H2, rfl⟩)
        | (go_at_call 9; refine (add_any _ _ _ M (l.take 20) 0 (Aft w.heap.size) _ (V1.out.later hD).ts (H2.out _ _ (TxtS.any (TxtS.later HT.out hD))) (by have := HM.out.1; omega) (by rw [List.length_take]; omega)).mono ?_; rintro e w3 ⟨u3, v3, rfl, ht3, hs3, hb3⟩; obtain ⟨A3, c3, rfl, _⟩ := ht3.is; obtain ⟨B3, d3, es, _⟩ := Sl.is hs3; replace es : v3 = .slice B3 0 d3 := es; subst es; have hB3 := belowStep hD hb3; obtain ⟨g0, g1, g2, h0, h1, h2, _⟩ := HS.out _ hB3))
      all_goals
        have hlt : w.heap.size < wr.drew.heap.size := V1.out.blk.1
        have V2 := Lib.hid ((V1.out.later hD).store (k' := 0) hb3 (ht3.mono fun b hb => aft_new (g := w.heap.size) hlt hb) (Sl.mono hs3 fun b hb => aft_new (g := w.heap.size) hlt hb))
        clear g0 g1 g2 h0 h1 h2 p0 p1 p2 f0 f1 f2 pe hb3 ht3 hs3 hB3 H2 hlt
        go_wp2
        go_roundw
        case rel => exact ⟨q + 1, by omega, by omega, by go_num, ⟨_, _, _, _, _, V2.out, addM_len HM.out.1, addM_mem HM.out.2 (by rw [List.length_take]; omega)⟩⟩
        case measure => simp [intOf]; omega
    · have hM30 : M.length ≤ 30 := by have := HM.out.1; omega
      have HM2 := Lib.hid (And.intro hM30 HM.out.2)
      have hstop : q = L.length ∨ (q < L.length ∧ q = 30) := by omega
      clear hlt HM hM30
      rcases hstop with rfl | ⟨hqn, rfl⟩
      · have N2 : Hid (Back w M t A1 B1 A0 c1 d1 m0 c0 0 [] t wr) := Lib.hid ⟨V1.out, TxtS.later (Sl.mono N0.out fun b hb => by have := hb.1; unfold Off; omega) V1.out.below, Int.le_refl _, by simp, HT30.out, fun _ => rfl, fun h => absurd h (by omega)⟩
        clear V0 H0 C0
        clear y0 y1 y2 j0 j1 j2
        go_wp2
        go_loopw [9, 10, 11, 12, 13, 14] (fun cu i _ _ _ _ wr2 => ∃ p : Nat, p ≤ n ∧ p ≤ 30 ∧ i = .int .i64 p ∧ ∃ C nc ec, cu = .slice C nc ec ∧ Hid (∃ A B c d k s cl, Back w M t A B C c d nc ec k s cl wr2)) (fun _ i _ _ _ _ _ => n - (intOf i).toNat)
        case atStart => exact ⟨0, Nat.zero_le _, Nat.zero_le _, rfl, _, _, _, rfl, ⟨_, _, _, _, _, _, _, N2.out⟩⟩
        case round =>
          clear N2 V1
          obtain ⟨p, hp, hp30, rfl, C2, nc2, ec2, rfl, HK⟩ := hrel
          rename World => wr2
          obtain ⟨A2, B2, c2, d2, k2, s2, l2, K0⟩ := HK.out
          have K2 := Lib.hid K0
          clear K0 HK
          obtain ⟨_, y, j'⟩ := (show _ from K2.out.var.blk)
          have y0 := y 0
          have y1 := y 1
          have y2 := y 2
          have j0 := j' 0
          have j1 := j' 1
          have j2 := j' 2
          clear y j'
          by_cases hlt : p < n ∧ p < 30
          · obtain ⟨hpn, hp2⟩ := hlt
            have hd : decide ((p : Int) < 30) = true := decide_eq_true (by omega)
            rcases Nat.eq_zero_or_pos M.length with hM0 | hM0
            · have d0 : ((M.length : Int) == 0) = true := by rw [hM0]; rfl
              clear hM0
              go_wp2_with (go_at_call 16; refine (len_any _ _ _ _ _ _).mono ?_; rintro e w' ⟨rfl, rfl⟩)
              have K3 := Lib.hid (K2.out.later (below_one wr2 (.cells #[.slice A2 M.length c2, .int .i64 k2, .slice B2 s2.length d2] 26)))
              go_wp2_with fail
              have hk := K3.out.k0
              have G1 := Lib.hid (go_home _ _ _ M s2 l2 t k2 (Aft w.heap.size) _ K3.out.var.ts K3.out.var.tt (TxtS.any K3.out.cur) (fun l hl => by have := HM2.out.2 l hl; omega) (by have := K3.out.sl; omega) (by have := K3.out.cll; omega) (by split; exact K3.out.at1 (by assumption); exact K3.out.at0 (by omega)))
              clear hk
              (with_reducible refine G1.out.mono ?_)
              rintro e w6 ⟨u6, v6, A6, n6, c6, rfl, ht6, hs6, hl6, hb6⟩
              obtain ⟨a6, e6, rfl, _⟩ := ht6.is
              obtain ⟨b6, f6, es, _⟩ := Sl.is hs6
              replace es : v6 = .slice b6 0 f6 := es
              subst es
              have hbw := belowStep K3.out.var.below hb6
              have F6 := Lib.hid (And.intro (TxtS.any hl6) hbw)
              clear ht6 hs6 hl6 hb6 hbw
              clear y0 y1 y2 j0 j1 j2
              go_wp2_with (first
                | (go_at_call 13; refine (same_txt _ _ t _ (F6.out.1.later (below_one _ _)) ((TxtS.any (TxtS.later N0.out F6.out.2)).later (below_one _ _))).mono ?_; rintro e w7 ⟨rfl, q7, rfl⟩)
                | (go_at_call 17; refine (at_any _ _ _ _).mono ?_; rintro e w' ⟨rfl, rfl⟩)
                | (go_at_call 15; refine (awake_yes _).mono ?_; rintro e w9 ⟨rfl, hb9⟩))
              go_ret
              exact ⟨rfl, belowStep (((below_drewN (F6.out.2.alloc F6.out.2.size _) _)).alloc (by have := F6.out.2.size; simp only [World.size_alloc, World.drewN]; first | omega | simp; omega) _) hb9⟩
            · have d0 : ((M.length : Int) == 0) = false := beq_eq_false_iff_ne.2 (by omega)
              obtain ⟨b, o, rfl, hbl, hce⟩ := HL.out.2.2.later K2.out.var.below p hpn
              obtain ⟨a, r, ha, hr, hrm, ha1, ha2⟩ := rem_two (x := f p) hM0 HM2.out.1
              have hr30 : r < 30 := by have := HM2.out.1; omega
              have hm30 : (M.length : Int) ≤ 30 := by have := HM2.out.1; omega
              obtain ⟨kk, hkk⟩ : ∃ kk : Nat, kk = r + 1 := ⟨_, rfl⟩
              have hw1 : IntKind.i64.wrap (a + (M.length : Int)) = a + (M.length : Int) := IntWalk.i64_in _ (by omega)
              have hw2 : IntKind.i64.wrap (1 + (r : Int)) = (kk : Int) := (IntWalk.i64_in _ (by omega)).trans (by omega)
              have HRM := Lib.hid (show 1 ≤ kk ∧ kk ≤ M.length by omega)
              clear hkk
              have hne1 : M ≠ [] := fun e => by rw [e] at hM0; exact absurd hM0 (by simp)
              have hne2 : ¬ ((M.length : Int) = 0) := by omega
              have hne3 : ¬ ((M.length : Int) = -1) := by omega
              clear hrm hM0
              have HS : Hid (∀ X, Below wr2.heap.size wr2 X → (fun X => X.cell? ⟨w.heap.size, 0, none⟩ = some (.slice A2 M.length c2) ∧ X.cell? ⟨w.heap.size, 1, none⟩ = some (.int .i64 k2) ∧ X.cell? ⟨w.heap.size, 2, none⟩ = some (.slice B2 s2.length d2) ∧ X.cell? ⟨b, o + p, none⟩ = some (.int .i64 (f p)) ∧ Below wr2.heap.size wr2 X) X) := Lib.hid (by
                intro X hX
                have hB := K2.out.var.blk.later hX K2.out.var.blk.1
                exact ⟨hB.2.1 0, hB.2.1 1, hB.2.1 2, (hX.cell (p := ⟨b, o + p, none⟩) hbl).trans hce, hX⟩)
              have hD := (below_one wr2 (.cells #[.slice A2 M.length c2, .int .i64 k2, .slice B2 s2.length d2] 26)).drew
              go_wp2_with (go_at_call 16; refine (len_any _ _ _ _ _ _).mono ?_; rintro e w' ⟨rfl, rfl⟩)
              go_region_held3 (fun X => X.cell? ⟨w.heap.size, 0, none⟩ = some (.slice A2 M.length c2) ∧ X.cell? ⟨w.heap.size, 1, none⟩ = some (.int .i64 k2) ∧ X.cell? ⟨w.heap.size, 2, none⟩ = some (.slice B2 s2.length d2) ∧ X.cell? ⟨b, o + p, none⟩ = some (.int .i64 (f p)) ∧ Below wr2.heap.size wr2 X)
                (first | exact HS.out _ (by repeat' (first | assumption | exact Below.refl _ _ | refine bAlloc ?_ _ | refine Below.drew ?_)) | go_keep)
                (first
                | (go_at_call 16; refine (len_any _ _ _ _ _ _).mono ?_; rintro e w' ⟨rfl, rfl⟩))
              refine at_world (fun X => Below wr2.heap.size wr2 X) (by repeat' (first | exact Below.refl _ _ | refine bAlloc ?_ _ | refine Below.drew ?_)) ?_
              intro X hX
              have K3 := Lib.hid (K2.out.later hX)
              clear hD HS hX
              clear y0 y1 y2 j0 j1 j2
              obtain ⟨_, y, j'⟩ := (show _ from K3.out.var.blk)
              have y0 := y 0
              have y1 := y 1
              have y2 := y 2
              have j0 := j' 0
              have j1 := j' 1
              have j2 := j' 2
              clear y j'
              go_wp2_with fail
              have G5 := Lib.hid (go_at _ _ _ M s2 l2 t k2 kk (Aft w.heap.size) _ K3.out.var.ts K3.out.var.tt (TxtS.any K3.out.cur) (fun l hl => by have := HM2.out.2 l hl; omega) (by have := K3.out.sl; omega) (by have := K3.out.cll; omega) HRM.out.1 HRM.out.2 (by split; exact K3.out.at0 (by assumption); exact K3.out.at1 (by have := K3.out.k0; omega)))
              (with_reducible refine G5.out.mono ?_)
              rintro e w5 ⟨u5, v5, A5, n5, c5, rfl, ht5, hs5, hl5, hb5⟩
              obtain ⟨a5, e5, rfl, _⟩ := ht5.is
              obtain ⟨b5, f5, rfl, _⟩ := Sl.is hs5
              have hgt : w.heap.size < X.heap.size := K3.out.var.blk.1
              have V5 := Lib.hid (VarP.later (K3.out.var.store (k' := (kk : Int)) hb5 (ht5.mono fun b hb => aft_new (g := w.heap.size) hgt hb) (Sl.mono hs5 fun b hb => aft_new (g := w.heap.size) hgt hb)) (below_one _ (.cells #[.slice a5 M.length e5, .int .i64 (kk : Int), .slice b5 t.length f5] 26)))
              have L5 := Lib.hid (TxtS.later (off_put3 (w := w) (.slice a5 M.length e5) (.int .i64 (kk : Int)) (.slice b5 t.length f5) (Sl.mono hl5 fun b hb => (show Off w b from Nat.ne_of_gt (aft_new (g := w.heap.size) hgt hb)))) (below_one _ (.cells #[.slice a5 M.length e5, .int .i64 (kk : Int), .slice b5 t.length f5] 26)))
              have K5 := Lib.hid (K3.out.later hb5)
              clear ht5 hs5 hl5 hb5 hgt
              clear y0 y1 y2 j0 j1 j2
              obtain ⟨_, y, j'⟩ := (show _ from K5.out.var.blk)
              have y0 := y 0
              have y1 := y 1
              have y2 := y 2
              have j0 := j' 0
              have j1 := j' 1
              have j2 := j' 2
              clear y j'
              go_wp2
              go_roundw
              case rel => exact ⟨p + 1, by omega, by omega, by go_num, _, _, _, rfl, ⟨_, _, _, _, _, _, _, ⟨V5.out, L5.out, by omega, HT30.out, by have := getM_len HM2.out.2 (M.length - kk); omega, fun h => absurd h (by have := HRM.out.1; omega), fun _ => rfl⟩⟩⟩
              case measure => simp [intOf]; omega
          · have hstop2 : p = n ∨ (p < n ∧ p = 30) := by omega
            clear hlt
            rcases hstop2 with rfl | ⟨hpn, rfl⟩
            · go_wp2_with fail
              have hk := K2.out.k0
              have G1 := Lib.hid (go_home _ _ _ M s2 l2 t k2 (Aft w.heap.size) _ K2.out.var.ts K2.out.var.tt (TxtS.any K2.out.cur) (fun l hl => by have := HM2.out.2 l hl; omega) (by have := K2.out.sl; omega) (by have := K2.out.cll; omega) (by split; exact K2.out.at1 (by assumption); exact K2.out.at0 (by omega)))
              clear hk
              (with_reducible refine G1.out.mono ?_)
              rintro e w6 ⟨u6, v6, A6, n6, c6, rfl, ht6, hs6, hl6, hb6⟩
              obtain ⟨a6, e6, rfl, _⟩ := ht6.is
              obtain ⟨b6, f6, es, _⟩ := Sl.is hs6
              replace es : v6 = .slice b6 0 f6 := es
              subst es
              have hbw := belowStep K2.out.var.below hb6
              have F6 := Lib.hid (And.intro (TxtS.any hl6) hbw)
              clear ht6 hs6 hl6 hb6 hbw
              clear y0 y1 y2 j0 j1 j2
              go_wp2_with (first
                | (go_at_call 13; refine (same_txt _ _ t _ (F6.out.1.later (below_one _ _)) ((TxtS.any (TxtS.later N0.out F6.out.2)).later (below_one _ _))).mono ?_; rintro e w7 ⟨rfl, q7, rfl⟩)
                | (go_at_call 17; refine (at_any _ _ _ _).mono ?_; rintro e w' ⟨rfl, rfl⟩)
                | (go_at_call 15; refine (awake_yes _).mono ?_; rintro e w9 ⟨rfl, hb9⟩))
              go_ret
              exact ⟨rfl, belowStep (((below_drewN (F6.out.2.alloc F6.out.2.size _) _)).alloc (by have := F6.out.2.size; simp only [World.size_alloc, World.drewN]; first | omega | simp; omega) _) hb9⟩
            · go_wp2_with fail
              have hk := K2.out.k0
              have G1 := Lib.hid (go_home _ _ _ M s2 l2 t k2 (Aft w.heap.size) _ K2.out.var.ts K2.out.var.tt (TxtS.any K2.out.cur) (fun l hl => by have := HM2.out.2 l hl; omega) (by have := K2.out.sl; omega) (by have := K2.out.cll; omega) (by split; exact K2.out.at1 (by assumption); exact K2.out.at0 (by omega)))
              clear hk
              (with_reducible refine G1.out.mono ?_)
              rintro e w6 ⟨u6, v6, A6, n6, c6, rfl, ht6, hs6, hl6, hb6⟩
              obtain ⟨a6, e6, rfl, _⟩ := ht6.is
              obtain ⟨b6, f6, es, _⟩ := Sl.is hs6
              replace es : v6 = .slice b6 0 f6 := es
              subst es
              have hbw := belowStep K2.out.var.below hb6
              have F6 := Lib.hid (And.intro (TxtS.any hl6) hbw)
              clear ht6 hs6 hl6 hb6 hbw
              clear y0 y1 y2 j0 j1 j2
              go_wp2_with (first
                | (go_at_call 13; refine (same_txt _ _ t _ (F6.out.1.later (below_one _ _)) ((TxtS.any (TxtS.later N0.out F6.out.2)).later (below_one _ _))).mono ?_; rintro e w7 ⟨rfl, q7, rfl⟩)
                | (go_at_call 17; refine (at_any _ _ _ _).mono ?_; rintro e w' ⟨rfl, rfl⟩)
                | (go_at_call 15; refine (awake_yes _).mono ?_; rintro e w9 ⟨rfl, hb9⟩))
              go_ret
              exact ⟨rfl, belowStep (((below_drewN (F6.out.2.alloc F6.out.2.size _) _)).alloc (by have := F6.out.2.size; simp only [World.size_alloc, World.drewN]; first | omega | simp; omega) _) hb9⟩
      · have N2 : Hid (Back w M t A1 B1 A0 c1 d1 m0 c0 0 [] t wr) := Lib.hid ⟨V1.out, TxtS.later (Sl.mono N0.out fun b hb => by have := hb.1; unfold Off; omega) V1.out.below, Int.le_refl _, by simp, HT30.out, fun _ => rfl, fun h => absurd h (by omega)⟩
        clear V0 H0 C0
        clear y0 y1 y2 j0 j1 j2
        go_wp2
        go_loopw [9, 10, 11, 12, 13, 14] (fun cu i _ _ _ _ wr2 => ∃ p : Nat, p ≤ n ∧ p ≤ 30 ∧ i = .int .i64 p ∧ ∃ C nc ec, cu = .slice C nc ec ∧ Hid (∃ A B c d k s cl, Back w M t A B C c d nc ec k s cl wr2)) (fun _ i _ _ _ _ _ => n - (intOf i).toNat)
        case atStart => exact ⟨0, Nat.zero_le _, Nat.zero_le _, rfl, _, _, _, rfl, ⟨_, _, _, _, _, _, _, N2.out⟩⟩
        case round =>
          clear N2 V1
          obtain ⟨p, hp, hp30, rfl, C2, nc2, ec2, rfl, HK⟩ := hrel
          rename World => wr2
          obtain ⟨A2, B2, c2, d2, k2, s2, l2, K0⟩ := HK.out
          have K2 := Lib.hid K0
          clear K0 HK
          obtain ⟨_, y, j'⟩ := (show _ from K2.out.var.blk)
          have y0 := y 0
          have y1 := y 1
          have y2 := y 2
          have j0 := j' 0
          have j1 := j' 1
          have j2 := j' 2
          clear y j'
          by_cases hlt : p < n ∧ p < 30
          · obtain ⟨hpn, hp2⟩ := hlt
            have hd : decide ((p : Int) < 30) = true := decide_eq_true (by omega)
            rcases Nat.eq_zero_or_pos M.length with hM0 | hM0
            · have d0 : ((M.length : Int) == 0) = true := by rw [hM0]; rfl
              clear hM0
              go_wp2_with (go_at_call 16; refine (len_any _ _ _ _ _ _).mono ?_; rintro e w' ⟨rfl, rfl⟩)
              have K3 := Lib.hid (K2.out.later (below_one wr2 (.cells #[.slice A2 M.length c2, .int .i64 k2, .slice B2 s2.length d2] 26)))
              go_wp2_with fail
              have hk := K3.out.k0
              have G1 := Lib.hid (go_home _ _ _ M s2 l2 t k2 (Aft w.heap.size) _ K3.out.var.ts K3.out.var.tt (TxtS.any K3.out.cur) (fun l hl => by have := HM2.out.2 l hl; omega) (by have := K3.out.sl; omega) (by have := K3.out.cll; omega) (by split; exact K3.out.at1 (by assumption); exact K3.out.at0 (by omega)))
              clear hk
              (with_reducible refine G1.out.mono ?_)
              rintro e w6 ⟨u6, v6, A6, n6, c6, rfl, ht6, hs6, hl6, hb6⟩
              obtain ⟨a6, e6, rfl, _⟩ := ht6.is
              obtain ⟨b6, f6, es, _⟩ := Sl.is hs6
              replace es : v6 = .slice b6 0 f6 := es
              subst es
              have hbw := belowStep K3.out.var.below hb6
              have F6 := Lib.hid (And.intro (TxtS.any hl6) hbw)
              clear ht6 hs6 hl6 hb6 hbw
              clear y0 y1 y2 j0 j1 j2
              go_wp2_with (first
                | (go_at_call 13; refine (same_txt _ _ t _ (F6.out.1.later (below_one _ _)) ((TxtS.any (TxtS.later N0.out F6.out.2)).later (below_one _ _))).mono ?_; rintro e w7 ⟨rfl, q7, rfl⟩)
                | (go_at_call 17; refine (at_any _ _ _ _).mono ?_; rintro e w' ⟨rfl, rfl⟩)
                | (go_at_call 15; refine (awake_yes _).mono ?_; rintro e w9 ⟨rfl, hb9⟩))
              go_ret
              exact ⟨rfl, belowStep (((below_drewN (F6.out.2.alloc F6.out.2.size _) _)).alloc (by have := F6.out.2.size; simp only [World.size_alloc, World.drewN]; first | omega | simp; omega) _) hb9⟩
            · have d0 : ((M.length : Int) == 0) = false := beq_eq_false_iff_ne.2 (by omega)
              obtain ⟨b, o, rfl, hbl, hce⟩ := HL.out.2.2.later K2.out.var.below p hpn
              obtain ⟨a, r, ha, hr, hrm, ha1, ha2⟩ := rem_two (x := f p) hM0 HM2.out.1
              have hr30 : r < 30 := by have := HM2.out.1; omega
              have hm30 : (M.length : Int) ≤ 30 := by have := HM2.out.1; omega
              obtain ⟨kk, hkk⟩ : ∃ kk : Nat, kk = r + 1 := ⟨_, rfl⟩
              have hw1 : IntKind.i64.wrap (a + (M.length : Int)) = a + (M.length : Int) := IntWalk.i64_in _ (by omega)
              have hw2 : IntKind.i64.wrap (1 + (r : Int)) = (kk : Int) := (IntWalk.i64_in _ (by omega)).trans (by omega)
              have HRM := Lib.hid (show 1 ≤ kk ∧ kk ≤ M.length by omega)
              clear hkk
              have hne1 : M ≠ [] := fun e => by rw [e] at hM0; exact absurd hM0 (by simp)
              have hne2 : ¬ ((M.length : Int) = 0) := by omega
              have hne3 : ¬ ((M.length : Int) = -1) := by omega
              clear hrm hM0
              have HS : Hid (∀ X, Below wr2.heap.size wr2 X → (fun X => X.cell? ⟨w.heap.size, 0, none⟩ = some (.slice A2 M.length c2) ∧ X.cell? ⟨w.heap.size, 1, none⟩ = some (.int .i64 k2) ∧ X.cell? ⟨w.heap.size, 2, none⟩ = some (.slice B2 s2.length d2) ∧ X.cell? ⟨b, o + p, none⟩ = some (.int .i64 (f p)) ∧ Below wr2.heap.size wr2 X) X) := Lib.hid (by
                intro X hX
                have hB := K2.out.var.blk.later hX K2.out.var.blk.1
                exact ⟨hB.2.1 0, hB.2.1 1, hB.2.1 2, (hX.cell (p := ⟨b, o + p, none⟩) hbl).trans hce, hX⟩)
              have hD := (below_one wr2 (.cells #[.slice A2 M.length c2, .int .i64 k2, .slice B2 s2.length d2] 26)).drew
              go_wp2_with (go_at_call 16; refine (len_any _ _ _ _ _ _).mono ?_; rintro e w' ⟨rfl, rfl⟩)
              go_region_held3 (fun X => X.cell? ⟨w.heap.size, 0, none⟩ = some (.slice A2 M.length c2) ∧ X.cell? ⟨w.heap.size, 1, none⟩ = some (.int .i64 k2) ∧ X.cell? ⟨w.heap.size, 2, none⟩ = some (.slice B2 s2.length d2) ∧ X.cell? ⟨b, o + p, none⟩ = some (.int .i64 (f p)) ∧ Below wr2.heap.size wr2 X)
                (first | exact HS.out _ (by repeat' (first | assumption | exact Below.refl _ _ | refine bAlloc ?_ _ | refine Below.drew ?_)) | go_keep)
                (first
                | (go_at_call 16; refine (len_any _ _ _ _ _ _).mono ?_; rintro e w' ⟨rfl, rfl⟩))
              refine at_world (fun X => Below wr2.heap.size wr2 X) (by repeat' (first | exact Below.refl _ _ | refine bAlloc ?_ _ | refine Below.drew ?_)) ?_
              intro X hX
              have K3 := Lib.hid (K2.out.later hX)
              clear hD HS hX
              clear y0 y1 y2 j0 j1 j2
              obtain ⟨_, y, j'⟩ := (show _ from K3.out.var.blk)
              have y0 := y 0
              have y1 := y 1
              have y2 := y 2
              have j0 := j' 0
              have j1 := j' 1
              have j2 := j' 2
              clear y j'
              go_wp2_with fail
              have G5 := Lib.hid (go_at _ _ _ M s2 l2 t k2 kk (Aft w.heap.size) _ K3.out.var.ts K3.out.var.tt (TxtS.any K3.out.cur) (fun l hl => by have := HM2.out.2 l hl; omega) (by have := K3.out.sl; omega) (by have := K3.out.cll; omega) HRM.out.1 HRM.out.2 (by split; exact K3.out.at0 (by assumption); exact K3.out.at1 (by have := K3.out.k0; omega)))
              (with_reducible refine G5.out.mono ?_)
              rintro e w5 ⟨u5, v5, A5, n5, c5, rfl, ht5, hs5, hl5, hb5⟩
              obtain ⟨a5, e5, rfl, _⟩ := ht5.is
              obtain ⟨b5, f5, rfl, _⟩ := Sl.is hs5
              have hgt : w.heap.size < X.heap.size := K3.out.var.blk.1
              have V5 := Lib.hid (VarP.later (K3.out.var.store (k' := (kk : Int)) hb5 (ht5.mono fun b hb => aft_new (g := w.heap.size) hgt hb) (Sl.mono hs5 fun b hb => aft_new (g := w.heap.size) hgt hb)) (below_one _ (.cells #[.slice a5 M.length e5, .int .i64 (kk : Int), .slice b5 t.length f5] 26)))
              have L5 := Lib.hid (TxtS.later (off_put3 (w := w) (.slice a5 M.length e5) (.int .i64 (kk : Int)) (.slice b5 t.length f5) (Sl.mono hl5 fun b hb => (show Off w b from Nat.ne_of_gt (aft_new (g := w.heap.size) hgt hb)))) (below_one _ (.cells #[.slice a5 M.length e5, .int .i64 (kk : Int), .slice b5 t.length f5] 26)))
              have K5 := Lib.hid (K3.out.later hb5)
              clear ht5 hs5 hl5 hb5 hgt
              clear y0 y1 y2 j0 j1 j2
              obtain ⟨_, y, j'⟩ := (show _ from K5.out.var.blk)
              have y0 := y 0
              have y1 := y 1
              have y2 := y 2
              have j0 := j' 0
              have j1 := j' 1
              have j2 := j' 2
              clear y j'
              go_wp2
              go_roundw
              case rel => exact ⟨p + 1, by omega, by omega, by go_num, _, _, _, rfl, ⟨_, _, _, _, _, _, _, ⟨V5.out, L5.out, by omega, HT30.out, by have := getM_len HM2.out.2 (M.length - kk); omega, fun h => absurd h (by have := HRM.out.1; omega), fun _ => rfl⟩⟩⟩
              case measure => simp [intOf]; omega
          · have hstop2 : p = n ∨ (p < n ∧ p = 30) := by omega
            clear hlt
            rcases hstop2 with rfl | ⟨hpn, rfl⟩
            · go_wp2_with fail
              have hk := K2.out.k0
              have G1 := Lib.hid (go_home _ _ _ M s2 l2 t k2 (Aft w.heap.size) _ K2.out.var.ts K2.out.var.tt (TxtS.any K2.out.cur) (fun l hl => by have := HM2.out.2 l hl; omega) (by have := K2.out.sl; omega) (by have := K2.out.cll; omega) (by split; exact K2.out.at1 (by assumption); exact K2.out.at0 (by omega)))
              clear hk
              (with_reducible refine G1.out.mono ?_)
              rintro e w6 ⟨u6, v6, A6, n6, c6, rfl, ht6, hs6, hl6, hb6⟩
              obtain ⟨a6, e6, rfl, _⟩ := ht6.is
              obtain ⟨b6, f6, es, _⟩ := Sl.is hs6
              replace es : v6 = .slice b6 0 f6 := es
              subst es
              have hbw := belowStep K2.out.var.below hb6
              have F6 := Lib.hid (And.intro (TxtS.any hl6) hbw)
              clear ht6 hs6 hl6 hb6 hbw
              clear y0 y1 y2 j0 j1 j2
              go_wp2_with (first
                | (go_at_call 13; refine (same_txt _ _ t _ (F6.out.1.later (below_one _ _)) ((TxtS.any (TxtS.later N0.out F6.out.2)).later (below_one _ _))).mono ?_; rintro e w7 ⟨rfl, q7, rfl⟩)
                | (go_at_call 17; refine (at_any _ _ _ _).mono ?_; rintro e w' ⟨rfl, rfl⟩)
                | (go_at_call 15; refine (awake_yes _).mono ?_; rintro e w9 ⟨rfl, hb9⟩))
              go_ret
              exact ⟨rfl, belowStep (((below_drewN (F6.out.2.alloc F6.out.2.size _) _)).alloc (by have := F6.out.2.size; simp only [World.size_alloc, World.drewN]; first | omega | simp; omega) _) hb9⟩
            · go_wp2_with fail
              have hk := K2.out.k0
              have G1 := Lib.hid (go_home _ _ _ M s2 l2 t k2 (Aft w.heap.size) _ K2.out.var.ts K2.out.var.tt (TxtS.any K2.out.cur) (fun l hl => by have := HM2.out.2 l hl; omega) (by have := K2.out.sl; omega) (by have := K2.out.cll; omega) (by split; exact K2.out.at1 (by assumption); exact K2.out.at0 (by omega)))
              clear hk
              (with_reducible refine G1.out.mono ?_)
              rintro e w6 ⟨u6, v6, A6, n6, c6, rfl, ht6, hs6, hl6, hb6⟩
              obtain ⟨a6, e6, rfl, _⟩ := ht6.is
              obtain ⟨b6, f6, es, _⟩ := Sl.is hs6
              replace es : v6 = .slice b6 0 f6 := es
              subst es
              have hbw := belowStep K2.out.var.below hb6
              have F6 := Lib.hid (And.intro (TxtS.any hl6) hbw)
              clear ht6 hs6 hl6 hb6 hbw
              clear y0 y1 y2 j0 j1 j2
              go_wp2_with (first
                | (go_at_call 13; refine (same_txt _ _ t _ (F6.out.1.later (below_one _ _)) ((TxtS.any (TxtS.later N0.out F6.out.2)).later (below_one _ _))).mono ?_; rintro e w7 ⟨rfl, q7, rfl⟩)
                | (go_at_call 17; refine (at_any _ _ _ _).mono ?_; rintro e w' ⟨rfl, rfl⟩)
                | (go_at_call 15; refine (awake_yes _).mono ?_; rintro e w9 ⟨rfl, hb9⟩))
              go_ret
              exact ⟨rfl, belowStep (((below_drewN (F6.out.2.alloc F6.out.2.size _) _)).alloc (by have := F6.out.2.size; simp only [World.size_alloc, World.drewN]; first | omega | simp; omega) _) hb9⟩
end Go.Proofs.Ytmhjhndnbgabjaa

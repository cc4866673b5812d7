/- undo: the document's Undo and All. -/
import Derived.Test.YtfmpldgeldocnaaUnR
namespace Go.Proofs.Ytfmpldgeldocnaa
open Go.RowKit
set_option linter.unusedVariables false
set_option linter.unusedSimpArgs false

/-- An edit of a slice of edits. -/
theorem Eds.at_ {w : World} {A : Option Addr} {n c : Nat} {L : List AE} (h : Eds w (.slice A n c) L) {j : Nat} {e : AE} (hj : L[j]? = some e) :
    ∃ (b o : Nat) (hd : EdH), A = some ⟨b, o, none⟩ ∧ b < w.heap.size ∧ w.cell? ⟨b, o + j * 3, none⟩ = some (.int .i64 e.at_) ∧ w.cell? ⟨b, o + j * 3 + 1, none⟩ = some (.slice hd.A hd.n hd.c) ∧ w.cell? ⟨b, o + j * 3 + 2, none⟩ = some (.slice hd.B hd.m hd.d) ∧ EdIs w ⟨e.at_, hd.A, hd.n, hd.c, hd.B, hd.m, hd.d⟩ e := by
  obtain ⟨H, l, r⟩ := h
  obtain ⟨_, li, _⟩ := l.parts
  obtain ⟨hd, hg, q1, q2, q3⟩ := r.get hj
  obtain ⟨b, o, e1, hb, _, hc⟩ := li j hd hg
  have h0 := hc 0 _ rfl
  rw [q1] at h0
  exact ⟨b, o, hd, e1, hb, h0, hc 1 _ rfl, hc 2 _ rfl, rfl, q2, q3⟩
theorem Stk.at_ {w : World} {A : Option Addr} {n c : Nat} {L : List AG} (h : Stk w (.slice A n c) L) {j : Nat} {a : AG} (hj : L[j]? = some a) :
    ∃ b o E m d, A = some ⟨b, o, none⟩ ∧ b < w.heap.size ∧ w.cell? ⟨b, o + j * 2, none⟩ = some (.slice E m d) ∧ w.cell? ⟨b, o + j * 2 + 1, none⟩ = some (.int .i64 a.cur) ∧ Eds w (.slice E m d) a.eds := by
  obtain ⟨H, l, r⟩ := h
  obtain ⟨_, li, _⟩ := l.parts
  obtain ⟨g, hg, q1, q2⟩ := r.get hj
  obtain ⟨b, o, e1, hb, _, hc⟩ := li j g hg
  have h1 := hc 1 _ rfl
  rw [q1] at h1
  exact ⟨b, o, g.E, g.n, g.c, e1, hb, hc 0 _ rfl, h1, q2⟩

theorem runE_drop (es : List AE) (l : List Int) (j : Nat) (hj : j < es.length) : runE (es.take (j + 1)).reverse l = (doE (es[j]).back l).bind (runE (es.take j).reverse) := by
  rw [List.take_succ_eq_append_getElem hj, List.reverse_append]
  simp only [List.reverse_cons, List.reverse_nil, List.nil_append, List.singleton_append]
  exact runE_cons _ _ _
theorem runS_drop (gs : List AG) (l : List Int) (c : Int) (j : Nat) (hj : j < gs.length) : runS (gs.take (j + 1)).reverse l c = (runE (gs[j]).eds.reverse l).bind fun m => runS (gs.take j).reverse m (gs[j]).cur := by
  rw [List.take_succ_eq_append_getElem hj, List.reverse_append]
  simp only [List.reverse_cons, List.reverse_nil, List.nil_append, List.singleton_append]
  exact runS_cons _ _ _ _

set_option maxHeartbeats 2000000 in
set_option maxRecDepth 20000 in
theorem rundo_is (E : Option Addr) (n c : Nat) (cur : Int) (L : List AE) (A : Option Addr) (ln lc : Nat) (l : List Int) (w : World) (hE : Eds w (.slice E n c) L) (hl : Txt w (.slice A ln lc) l) (B : Nat) (hB1 : B ≤ 1000) (hB : Light B L) (hs : l.length + B * L.length ≤ 90000) (hL : L.length ≤ 90000) :
    Calls Try.prog 28 #[.agg #[.slice E n c, .int .i64 cur], .slice A ln lc] w (TellsE ((runE L.reverse l).getD []) (runE L.reverse l).isSome w) := by
  obtain ⟨A', c', e, hc1, hc2⟩ := hE.is
  injection e with e1 e2 e3
  subst e1; subst e2; subst e3
  have HE := Lib.hid hE
  have HT := Lib.hid hl
  have HB := Lib.hid (And.intro hB hs)
  obtain ⟨R, hR⟩ : ∃ R, runE L.reverse l = R := ⟨_, rfl⟩
  rw [hR]
  obtain ⟨N, hN⟩ : ∃ N, L.length = N := ⟨_, rfl⟩
  have HN := Lib.hid hN
  have HR := Lib.hid (show runE (L.take N).reverse l = R by rw [← hN, List.take_of_length_le (Nat.le_refl _)]; exact hR)
  have HK := Lib.hid (show Blk (w.alloc (.cells #[.slice E N c, .int .i64 cur] 47)) w.heap.size #[.slice E N c, .int .i64 cur] ∧ Below w.heap.size w (w.alloc (.cells #[.slice E N c, .int .i64 cur] 47)) ∧ w.heap.size < (w.alloc (.cells #[.slice E N c, .int .i64 cur] 47)).heap.size from ⟨blk_new _ _ _, belAlloc _ _, by simp⟩)
  rw [hN] at hL ⊢
  clear hE hl hB hs hR hc1 hc2 hN
  go_enter Try.func28, Try.ntmps28
  go_wp2
  go_loopw [1, 6] (fun v i wr => ∃ k : Nat, k ≤ N ∧ i = .int .i64 ((k : Int) - 1) ∧ ∃ Av nv cv, v = .slice Av nv cv ∧ Hid (∃ m, Txt wr (.slice Av nv cv) m ∧ runE (L.take k).reverse m = R ∧ m.length + B * k ≤ 90000 ∧ Blk wr w.heap.size #[.slice E N c, .int .i64 cur] ∧ Below w.heap.size w wr)) (fun _ i _ => (intOf i + 1).toNat)
  case atStart => exact ⟨N, Nat.le_refl _, rfl, A, ln, lc, rfl, ⟨l, HT.out.later HK.out.2.1, HR.out, by have := HB.out.2; rw [HN.out] at this; exact this, HK.out.1, HK.out.2.1⟩⟩
  case round =>
    obtain ⟨k, hk, rfl, Av, nv, cv, rfl, HV⟩ := hrel
    obtain ⟨m, hm, hrun, hml, hblk, hbel⟩ := HV.out
    have HM := Lib.hid (And.intro hm (And.intro hrun (And.intro hml (And.intro hblk hbel))))
    obtain ⟨y0, k0, j0⟩ := (show _ from hblk)
    clear hm hrun hml hblk hbel HV HK HR HT
    cases k with
    | zero =>
      have hz : R = some m := by rw [← HM.out.2.1]; rfl
      subst hz
      clear y0 k0 j0
      simp only [Int.ofNat_zero]
      have d0 : decide ((0 : Int) ≤ -1) = false := by decide
      go_wp2
      go_ret2
      exact ⟨_, _, _, rfl, HM.out.1, HM.out.2.2.2.2⟩
    | succ j =>
      have ej : ((j + 1 : Nat) : Int) - 1 = (j : Int) := by omega
      rw [ej]
      have hjN : j < L.length := by rw [HN.out]; omega
      obtain ⟨e, he⟩ : ∃ e, L[j] = e := ⟨_, rfl⟩
      have hget : L[j]? = some e := by rw [List.getElem?_eq_getElem hjN, he]
      have hlight := HB.out.1 e (he ▸ List.getElem_mem hjN)
      have hrun := HM.out.2.1
      rw [runE_drop L m j hjN, he] at hrun
      have HRUN := Lib.hid hrun
      obtain ⟨b, o, hd, hEa, hbl, x0, x1, x2, hEd⟩ := (HE.out.later HM.out.2.2.2.2).at_ hget
      subst hEa
      have hmb : m.length ≤ 90000 := by have := HM.out.2.2.1; omega
      have C := rb_is e.at_ hd.A hd.n hd.c hd.B hd.m hd.d Av nv cv e m wr hEd HM.out.1 (by omega) (by omega) (by omega)
      have hj1 : (j : Int) < (N : Int) := by omega
      have hj0 : (0 : Int) ≤ (j : Int) := by omega
      clear hget hEd he hrun hmb ej
      cases hdo : doE e.back m with
      | none =>
        rw [hdo] at C
        have C := Lib.hid (show Calls _ _ _ _ (TellsE [] false wr) from C)
        have hz : R = none := by rw [← HRUN.out, hdo]; rfl
        subst hz
        clear hdo hlight
        go_wp2_with fail
        (with_reducible refine C.out.mono ?_)
        rintro e' w1 ⟨A1, n1, c1, rfl, ht1, hb1⟩
        have H1 := Lib.hid (bStep HM.out.2.2.2.2 hb1)
        clear ht1 hb1 C y0 k0 j0 x0 x1 x2
        go_wp2
        go_ret2
        exact ⟨_, _, _, rfl, Txt.nil _, H1.out⟩
      | some m' =>
        rw [hdo] at C
        have C := Lib.hid (show Calls _ _ _ _ (TellsE m' true wr) from C)
        have hz : runE (L.take j).reverse m' = R := by rw [← HRUN.out, hdo]; rfl
        have hlen := doE_len hdo
        have hnew : e.back.new.length ≤ B := hlight.1
        have hbd : m'.length + B * j ≤ 90000 := by have := HM.out.2.2.1; rw [Nat.mul_add, Nat.mul_one] at this; omega
        have HZ := Lib.hid (And.intro hz hbd)
        clear hdo hlight hz hlen hnew hbd
        go_wp2_with fail
        (with_reducible refine C.out.mono ?_)
        rintro e' w1 ⟨A1, n1, c1, rfl, ht1, hb1⟩
        have H1 := Lib.hid (And.intro ht1 (And.intro (HM.out.2.2.2.1.later hb1 HM.out.2.2.2.1.1) (bStep HM.out.2.2.2.2 hb1)))
        clear ht1 hb1 C y0 k0 j0 x0 x1 x2
        go_wp2_with fail
        go_roundw
        case rel => exact ⟨j, by omega, by go_num, A1, n1, c1, rfl, ⟨m', H1.out.1, HZ.out.1, HZ.out.2, H1.out.2.1, H1.out.2.2⟩⟩
        case measure => simp [intOf]

set_option maxHeartbeats 2000000 in
set_option maxRecDepth 20000 in
theorem rall_is (E : Option Addr) (n c : Nat) (cur : Int) (L : List AG) (A : Option Addr) (ln lc : Nat) (l : List Int) (w : World) (hE : Stk w (.slice E n c) L) (hl : Txt w (.slice A ln lc) l) (B M : Nat) (hB1 : B ≤ 1000) (hB : LightS B M L) (hs : l.length + M * L.length ≤ 90000) (hL : L.length ≤ 90000) (hLL : ∀ g ∈ L, g.eds.length ≤ 90000) :
    Calls Try.prog 18 #[.slice E n c, .slice A ln lc, .int .i64 cur] w (TellsA (runS L.reverse l cur) w) := by
  obtain ⟨A', c', e, hc1, hc2⟩ := hE.is
  injection e with e1 e2 e3
  subst e1; subst e2; subst e3
  have HE := Lib.hid hE
  have HT := Lib.hid hl
  have HB := Lib.hid (And.intro hB (And.intro hs hLL))
  obtain ⟨R, hR⟩ : ∃ R, runS L.reverse l cur = R := ⟨_, rfl⟩
  rw [hR]
  obtain ⟨N, hN⟩ : ∃ N, L.length = N := ⟨_, rfl⟩
  have HN := Lib.hid hN
  have HR := Lib.hid (show runS (L.take N).reverse l cur = R by rw [← hN, List.take_of_length_le (Nat.le_refl _)]; exact hR)
  rw [hN] at hL ⊢
  clear hE hl hB hs hLL hR hc1 hc2 hN
  go_enter Try.func18, Try.ntmps18
  go_wp2
  go_loopw [1, 2, 9] (fun v x i wr => ∃ k : Nat, k ≤ N ∧ i = .int .i64 ((k : Int) - 1) ∧ ∃ Av nv cv, v = .slice Av nv cv ∧ ∃ cu, x = .int .i64 cu ∧ Hid (∃ m, Txt wr (.slice Av nv cv) m ∧ runS (L.take k).reverse m cu = R ∧ m.length + M * k ≤ 90000 ∧ Below w.heap.size w wr)) (fun _ _ i _ => (intOf i + 1).toNat)
  case atStart => exact ⟨N, Nat.le_refl _, rfl, A, ln, lc, rfl, cur, rfl, ⟨l, HT.out, HR.out, by have := HB.out.2.1; rw [HN.out] at this; exact this, Below.refl _ _⟩⟩
  case round =>
    obtain ⟨k, hk, rfl, Av, nv, cv, rfl, cu, rfl, HV⟩ := hrel
    obtain ⟨m, hm, hrun, hml, hbel⟩ := HV.out
    have HM := Lib.hid (And.intro hm (And.intro hrun (And.intro hml hbel)))
    clear hm hrun hml hbel HV HR HT
    cases k with
    | zero =>
      have hz : R = some (m, cu) := by rw [← HM.out.2.1]; rfl
      subst hz
      simp only [Int.ofNat_zero]
      have d0 : decide ((0 : Int) ≤ -1) = false := by decide
      go_wp2
      go_ret3
      exact ⟨_, _, _, _, rfl, HM.out.1, rfl, HM.out.2.2.2⟩
    | succ j =>
      have ej : ((j + 1 : Nat) : Int) - 1 = (j : Int) := by omega
      rw [ej]
      have hjN : j < L.length := by rw [HN.out]; omega
      obtain ⟨e, he⟩ : ∃ e, L[j] = e := ⟨_, rfl⟩
      have hget : L[j]? = some e := by rw [List.getElem?_eq_getElem hjN, he]
      have hmem : e ∈ L := he ▸ List.getElem_mem hjN
      have hlight := HB.out.1 e hmem
      have hel := HB.out.2.2 e hmem
      have hrun := HM.out.2.1
      rw [runS_drop L m cu j hjN, he] at hrun
      have HRUN := Lib.hid hrun
      obtain ⟨b, o, G, gm, gd, hEa, hbl, x0, x1, hEd⟩ := (HE.out.later HM.out.2.2.2).at_ hget
      subst hEa
      have hml := HM.out.2.2.1
      rw [Nat.mul_add, Nat.mul_one] at hml
      have C := rundo_is G gm gd e.cur e.eds Av nv cv m wr hEd HM.out.1 B hB1 hlight.1 (by have := hlight.2; omega) hel
      have hj1 : (j : Int) < (N : Int) := by omega
      have hj0 : (0 : Int) ≤ (j : Int) := by omega
      have x1' := x1
      clear hget hEd he hrun ej hmem hel
      cases hdo : runE e.eds.reverse m with
      | none =>
        rw [hdo] at C
        have C := Lib.hid (show Calls _ _ _ _ (TellsE [] false wr) from C)
        have hz : R = none := by rw [← HRUN.out, hdo]; rfl
        subst hz
        clear hdo hlight x1' hml
        go_wp2_with fail
        (with_reducible refine C.out.mono ?_)
        rintro e' w1 ⟨A1, n1, c1, rfl, ht1, hb1⟩
        have H1 := Lib.hid (bStep HM.out.2.2.2 hb1)
        clear ht1 hb1 C x0 x1
        go_wp2
        go_ret3
        exact ⟨_, _, _, _, rfl, Txt.nil _, rfl, H1.out⟩
      | some m' =>
        rw [hdo] at C
        have C := Lib.hid (show Calls _ _ _ _ (TellsE m' true wr) from C)
        have hz : runS (L.take j).reverse m' e.cur = R := by rw [← HRUN.out, hdo]; rfl
        have hlen := runE_len (B := B) (fun x hx => hlight.1 x (List.mem_reverse.1 hx)) hdo
        rw [List.length_reverse] at hlen
        have hbd : m'.length + M * j ≤ 90000 := by have := hlight.2; omega
        have HZ := Lib.hid (And.intro hz hbd)
        clear hdo hlight hz hlen hbd hml
        go_wp2_with fail
        (with_reducible refine C.out.mono ?_)
        rintro e' w1 ⟨A1, n1, c1, rfl, ht1, hb1⟩
        have H1 := Lib.hid (And.intro ht1 (bStep HM.out.2.2.2 hb1))
        have z1 : w1.cell? ⟨b, o + j * 2 + 1, none⟩ = some (.int .i64 e.cur) := (hb1.cell (p := ⟨b, o + j * 2 + 1, none⟩) hbl).trans x1'
        clear ht1 hb1 C x0 x1 x1'
        go_wp2_with fail
        go_roundw
        case rel => exact ⟨j, by omega, by go_num, A1, n1, c1, rfl, _, rfl, ⟨m', H1.out.1, HZ.out.1, HZ.out.2, H1.out.2⟩⟩
        case measure => simp [intOf]
end Go.Proofs.Ytfmpldgeldocnaa

/- undo: the document's Add to the newest group. -/
import Derived.Test.YtfmpldgeldocnaaUnU
import Derived.StillTailTactics
import Derived.IntWalk
namespace Go.Proofs.Ytfmpldgeldocnaa
open Go.RowKit
set_option linter.unusedVariables false
set_option linter.unusedSimpArgs false

theorem rj_fin {w Z : World} {H : List GrH} {T : List AG} {a : AG} {e : AE} {He : List EdH} {eh : EdH} {N g c2 m c6 G : Nat} {A6 : Option Addr} {cs : Array Value} {gh : GrH} (hR : Both (GrIs w) H (T ++ [a])) (hRe : Both (EdIs w) He a.eds) (he : EdIs w eh e) (hN : T.length = N) (hHT : H.take N ++ [gh] = H)
    (hcc : ∀ (j : Nat) (u : Value), (flatL encG H)[j]? = some u → cs[j]? = some u) (hsz : cs.size = c2 * 2) (h1 : N + 1 ≤ c2) (h2 : c2 ≤ maxLen)
    (hZ : Blk Z g ((cs.setIfInBounds (N * 2) (.slice A6 (m + 1) c6)).setIfInBounds (N * 2 + 1) (.int .i64 a.cur))) (hb : Below w.heap.size w Z)
    (hE : LiV 3 encE Z (fun b => G + 1 ≤ b) (.slice A6 (m + 1) c6) (He ++ [eh])) : Stk Z (.slice (some ⟨g, 0, none⟩) (N + 1) c2) (T ++ [⟨a.eds ++ [e], a.cur⟩]) := by
  have hHl : H.length = N + 1 := by rw [hR.1, List.length_append, hN]; rfl
  have hHt : (H.take N).length = N := by rw [List.length_take]; omega
  have hT : Both (GrIs w) (H.take N) T := by
    have := hR.take N
    rwa [List.take_left' hN] at this
  refine ⟨H.take N ++ [⟨A6, m + 1, c6, a.cur⟩], ⟨some ⟨g, 0, none⟩, c2, ?_, ?_, (fun e => by cases e), ?_, h2⟩, (hT.imp fun x y k => k.later hb).append (Both.one ⟨rfl, He ++ [eh], hE.mono fun _ _ => trivial, ((hRe.append (Both.one he)).imp fun x y k => k.later hb)⟩)⟩
  · rw [List.length_append, hHt]; rfl
  · intro j x hj
    refine ⟨g, 0, rfl, hZ.1, trivial, fun i u hi => ?_⟩
    rw [hZ.2.1, Nat.zero_add]
    have hi2 : i < 2 := by
      obtain ⟨h, _⟩ := List.getElem?_eq_some_iff.1 hi
      rw [encG_len] at h
      exact h
    rcases Nat.lt_or_ge j N with hjN | hjN
    · rw [List.getElem?_append_left (by omega), List.getElem?_take, if_pos hjN] at hj
      have := hcc _ u (flatL_get encG_len H j x i u hj hi)
      rw [Array.getElem?_setIfInBounds_ne (by omega), Array.getElem?_setIfInBounds_ne (by omega)]
      exact this
    · rw [List.getElem?_append_right (by omega), hHt] at hj
      obtain ⟨h, _⟩ := List.getElem?_eq_some_iff.1 hj
      simp only [List.length_cons, List.length_nil] at h
      obtain rfl : j = N := by omega
      simp only [Nat.sub_self, List.getElem?_cons_zero, Option.some.injEq] at hj
      subst hj
      match i, hi2 with
      | 0, _ =>
        simp only [encG, List.getElem?_cons_zero, Option.some.injEq] at hi
        subst hi
        show (_ : Array Value)[j * 2]? = _
        rw [Array.getElem?_setIfInBounds_ne (by omega), Array.getElem?_setIfInBounds_self_of_lt (by omega)]
      | 1, _ =>
        simp only [encG, List.getElem?_cons_succ, List.getElem?_cons_zero, Option.some.injEq] at hi
        subst hi
        rw [Array.getElem?_setIfInBounds_self_of_lt (by simp; omega)]
  · rw [List.length_append, hHt]; simpa using h1

set_option maxHeartbeats 4000000 in
set_option maxRecDepth 20000 in
theorem radd_join (A : Option Addr) (n c : Nat) (at_ : Int) (O : Option Addr) (on oc : Nat) (I : Option Addr) (im ic : Nat) (cur : Int) (T : List AG) (a : AG) (e : AE) (w : World)
    (hS : Stk w (.slice A n c) (T ++ [a])) (he : EdIs w ⟨at_, O, on, oc, I, im, ic⟩ e) (hn : T.length ≤ 900) (hm : a.eds.length ≤ 1000) :
    Calls Try.prog 10 #[.slice A n c, .agg #[.int .i64 at_, .slice O on oc, .slice I im ic], .int .i64 cur, .bool true] w (TellsR (T ++ [⟨a.eds ++ [e], a.cur⟩]) w) := by
  obtain ⟨H, hH, hR⟩ := hS
  obtain ⟨rfl, _⟩ := hH.parts
  have hHl : H.length = T.length + 1 := by rw [hR.1]; simp
  obtain ⟨N, hN⟩ : ∃ N, T.length = N := ⟨_, rfl⟩
  rw [hN] at hn hHl
  obtain ⟨gh, hgh, hcur, hEds⟩ := hR.get (j := N) (y := a) (by rw [← hN]; simp)
  obtain ⟨He, hHe, hRe⟩ := hEds
  have hml := hHe.parts.1
  have hHel : He.length = a.eds.length := hRe.1
  have hHT : H.take N ++ [gh] = H := by
    rw [← take_snoc' hgh, List.take_of_length_le (by omega)]
  rw [hHl] at hH ⊢
  have HS := Lib.hid (And.intro hH (And.intro hR (And.intro he (And.intro hN (And.intro hgh (And.intro hcur (And.intro hHe (And.intro hRe hHT))))))))
  obtain ⟨E, m, d, gc⟩ := gh
  dsimp only at hml hcur
  subst hcur
  have hmb : m ≤ 1000 := by omega
  have hown0 : (w.alloc (.cells #[.int .i64 at_, .slice O on oc, .slice I im ic] 29)).ownsRow (w.heap.size + 1) 47 2 (.slice none 0 0) 0 [] := World.ownsRow_nil _ _ _ _
  have k0 := blk_new w #[.int .i64 at_, .slice O on oc, .slice I im ic] 29
  have HK := Lib.hid (And.intro k0 (belAlloc w (.cells #[.int .i64 at_, .slice O on oc, .slice I im ic] 29)))
  have d0 : decide ((0 : Int) < (N : Int) + 1) = true := by simp
  clear hH hR he hN hgh hHe hRe hHT k0 hHl hHel hml
  go_enter Try.func10, Try.ntmps10
  go_wp2_with (at_builtin; (refine wpList_li encG_len encG_one rgroup_elt hown0 (by simp) rfl rfl rfl rfl (HS.out.1.later HK.out.2) (by unfold maxLen; omega) (by omega) ?_; intro A2 c2 w2 hp; simp only [Nat.zero_add, List.nil_append] at hp; have HP := Lib.hid hp; obtain ⟨g, cs, hA2, hg, hcs, hc1, hc2, hcsz, hcc⟩ := own_blk hp.own (by omega); subst hA2; have hx0 := (hcs.2.1 (N * 2)).trans (hcc (N * 2) (.slice E m d) (by have := flatL_get encG_len H N _ 0 (.slice E m d) HS.out.2.2.2.2.1 rfl; simpa using this)); have hx1 := (hcs.2.1 (N * 2 + 1)).trans (hcc (N * 2 + 1) (.int .i64 a.cur) (by exact flatL_get encG_len H N _ 1 (.int .i64 a.cur) HS.out.2.2.2.2.1 rfl)); have HCS := Lib.hid (And.intro hg (And.intro hcs (And.intro hcsz (And.intro hc1 (And.intro hc2 hcc))))); clear hp hcs hcc hcsz hg hc1 hc2))
  refine at_world (fun X => Below w.heap.size w X ∧ Blk X w.heap.size #[.int .i64 at_, .slice O on oc, .slice I im ic] ∧ Blk X g cs ∧ Blk X w2.heap.size #[.slice none 0 0, .int .i64 a.cur] ∧ w2.heap.size + 1 = X.heap.size) ?_ ?_
  · have hB2 := HP.out.below HK.out.2 hown0 (Nat.le_succ _)
    exact ⟨belPush hB2 _, (HK.out.1.grown HP.out.grown (fun h => by cases h)).alloc _, HCS.out.2.1.alloc _, blk_new _ _ _, by simp⟩
  rintro X hX
  have HX := Lib.hid hX
  obtain ⟨y1, k1, j1⟩ := (show _ from hX.2.2.1)
  obtain ⟨y2, k2, j2⟩ := (show _ from hX.2.2.2.1)
  have z0 := (k1 (N * 2)).trans ((HCS.out.2.1.2.1 (N * 2)).symm.trans hx0)
  have hs0 := (HCS.out.2.1.2.1 (N * 2)).symm.trans hx0
  have hs1 := (HCS.out.2.1.2.1 (N * 2 + 1)).symm.trans hx1
  have HSS := Lib.hid (And.intro hs0 hs1)
  clear hX hx0 hx1 k1 j1 hs0 hs1
  have HW2 := Lib.hid (show w2.heap.size < w2.heap.size + 1 from Nat.lt_succ_self _)
  obtain ⟨G, hG⟩ : ∃ G, w2.heap.size = G := ⟨_, rfl⟩
  have HG := Lib.hid hG
  rw [hG] at HX y2 k2 j2 ⊢
  clear hG HW2
  have e3 : IntKind.i64.wrap (N : Int) = (N : Int) := IntWalk.i64_in _ (by omega)
  have e4 : (0 : Int) ≤ (N : Int) := by omega
  have e5 : (N : Int) < (N : Int) + 1 := by omega
  go_still_tail 9, (by kernel_rfl)
  change wpList _ _ _ _ _ X.drew
  clear e3
  refine at_world (fun Y => Below w.heap.size w Y ∧ Blk Y w.heap.size #[.int .i64 at_, .slice O on oc, .slice I im ic] ∧ Blk Y g cs ∧ Blk Y G #[.slice none 0 0, .int .i64 a.cur] ∧ G + 1 = Y.heap.size) ⟨HX.out.1.drew, HX.out.2.1.drew, HX.out.2.2.1.drew, HX.out.2.2.2.1.drew, HX.out.2.2.2.2⟩ ?_
  rintro Y hY
  have HY := Lib.hid hY
  clear hY y1 y2 k2 j2 z0 HX
  clear X
  have hownE : Y.ownsRow (G + 1) 29 3 (.slice none 0 0) 0 [] := World.ownsRow_nil _ _ _ _
  have hgG : g < G := by have := HCS.out.2.1.1; rw [HG.out] at this; exact this
  have hwg := HCS.out.1
  have ne1 : G ≠ w.heap.size := by omega
  have ne2 : w.heap.size ≠ G := by omega
  have ne3 : G ≠ g := by omega
  have ne4 : g ≠ G := by omega
  go_wp2_with (at_builtin; first
    | (refine wpList_li encE_len encE_one redit_elt hownE (Nat.le_of_eq HY.out.2.2.2.2) rfl rfl rfl rfl (HS.out.2.2.2.2.2.2.1.later HY.out.1) (by unfold maxLen; omega) (by omega) ?_; intro A4 c4 w4 hp; simp only [Nat.zero_add, List.nil_append] at hp; have HP4 := Lib.hid hp; obtain ⟨y4, k4, j4⟩ := (show _ from HY.out.2.2.2.1.grown hp.grown (fun h => by cases h)); obtain ⟨y5, k5, j5⟩ := (show _ from HY.out.2.1.grown hp.grown (fun h => by cases h)); have hz4 := Nat.le_trans (Nat.le_of_eq HY.out.2.2.2.2) hp.grown.size; clear hp)
    | (refine wpList_li (M := [⟨at_, O, on, oc, I, im, ic⟩]) encE_len encE_one redit_elt (own_later (ownsRow_setCell_below HP4.out.own (Nat.lt_succ_self G) _) (belAlloc _ _)) (by simp; omega) rfl rfl rfl rfl (liv_new encE_len _ _ ⟨at_, O, on, oc, I, im, ic⟩ 29 rfl _ (by simp)) (by unfold maxLen; omega) (by omega) ?_; intro A6 c6 w6 hp; have HP6 := Lib.hid hp; have HBG := Lib.hid ((((HY.out.2.2.2.1.grown HP4.out.grown (fun h => by cases h)).set_ 0 (by simp) (.slice A4 m c4)).alloc _).grown hp.grown (fun e => by have := (HP4.out.own.lt _ e.symm).1; omega)); have HBg := Lib.hid ((((HY.out.2.2.1.grown HP4.out.grown (fun h => by cases h)).far (p := ⟨G, 0, none⟩) (by simpa using ne3) (.slice A4 m c4)).alloc _).grown hp.grown (fun e => by have := (HP4.out.own.lt _ e.symm).1; omega)); obtain ⟨y6, k6, j6⟩ := (show _ from HBG.out); have zz0 := (HBg.out.2.1 (N * 2)).trans HSS.out.1; have zz1 := (HBg.out.2.1 (N * 2 + 1)).trans HSS.out.2; have ff0 := HBg.out.2.2 (N * 2); have ff1 := HBg.out.2.2 (N * 2 + 1); clear hp))
  clear y4 k4 j4 y5 k5 j5 y6 k6 j6 zz0 zz1 ff0 ff1
  have hcsz := HCS.out.2.2.1
  have hc1 := HCS.out.2.2.2.1
  have hw4 := HP4.out.below HY.out.1 hownE (by have := HY.out.1.size; have := HY.out.2.2.2.2; omega)
  have hw5 : Below w.heap.size w (w4.setCell ⟨G, 0, none⟩ (.slice A4 m c4)) := hw4.setCell (p := ⟨G, 0, none⟩) (by show w.heap.size ≤ G; omega) _
  have hown5 : (w4.setCell ⟨G, 0, none⟩ (.slice A4 m c4)).ownsRow (G + 1) 29 3 (.slice A4 m c4) m (flatL encE He) := ownsRow_setCell_below HP4.out.own (a := ⟨G, 0, none⟩) (Nat.lt_succ_self G) _
  have hw6 := HP6.out.below (belPush hw5 _) (own_later hown5 (belAlloc _ _)) (by omega)
  have hb := ((hw6.setCell (p := ⟨G, 0, none⟩) (by show w.heap.size ≤ G; omega) (.slice A6 (m + 1) c6)).setCell (p := ⟨g, N * 2, none⟩) (by show w.heap.size ≤ g; omega) (.slice A6 (m + 1) c6)).setCell (p := ⟨g, N * 2 + 1, none⟩) (by show w.heap.size ≤ g; omega) (.int .i64 a.cur)
  have hZ := ((HBg.out.far (p := ⟨G, 0, none⟩) (by simpa using ne3) (.slice A6 (m + 1) c6)).set_ (N * 2) (by omega) (.slice A6 (m + 1) c6)).set_ (N * 2 + 1) (by simp; omega) (.int .i64 a.cur)
  have hO6 := HP6.out.own
  rw [← flatL_append] at hO6
  have hE := (((LiV.own encE_len (by omega) hO6).far (p := ⟨G, 0, none⟩) (by simp) (.slice A6 (m + 1) c6)).far (p := ⟨g, N * 2, none⟩) (by simp; omega) (.slice A6 (m + 1) c6)).far (p := ⟨g, N * 2 + 1, none⟩) (by simp; omega) (.int .i64 a.cur)
  have hfin := rj_fin HS.out.2.1 HS.out.2.2.2.2.2.2.2.1 HS.out.2.2.1 HS.out.2.2.2.1 HS.out.2.2.2.2.2.2.2.2 HCS.out.2.2.2.2.2 hcsz hc1 HCS.out.2.2.2.2.1 hZ hb hE
  clear hE hZ hO6 hown5
  go_ret
  exact ⟨_, _, _, rfl, hfin, hb⟩

theorem radd_is (A : Option Addr) (n c : Nat) (at_ : Int) (O : Option Addr) (on oc : Nat) (I : Option Addr) (im ic : Nat) (cur : Int) (j : Bool) (S : List AG) (e : AE) (w : World)
    (hS : Stk w (.slice A n c) S) (he : EdIs w ⟨at_, O, on, oc, I, im, ic⟩ e) (hn : S.length ≤ 900) (hm : ∀ g ∈ S, g.eds.length ≤ 1000) :
    Calls Try.prog 10 #[.slice A n c, .agg #[.int .i64 at_, .slice O on oc, .slice I im ic], .int .i64 cur, .bool j] w (TellsR (addS S e cur j) w) := by
  have hd : S.drop (S.length - 999) = S := by rw [show S.length - 999 = 0 by omega, List.drop_zero]
  cases j with
  | false => rw [addS_own, hd]; exact radd_own A n c at_ O on oc I im ic cur false S e w hS he hn (.inl rfl)
  | true =>
    rcases List.eq_nil_or_concat S with rfl | ⟨T, a, rfl⟩
    · rw [addS_nil]; exact radd_own A n c at_ O on oc I im ic cur true [] e w hS he hn (.inr rfl)
    · rw [List.concat_eq_append] at *
      rw [addS_join]
      exact radd_join A n c at_ O on oc I im ic cur T a e w hS he (by simp at hn; omega) (hm a (by simp))
end Go.Proofs.Ytfmpldgeldocnaa

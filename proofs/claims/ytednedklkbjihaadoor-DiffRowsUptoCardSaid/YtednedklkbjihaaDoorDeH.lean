/- diff: the document's one. -/
import Derived.Test.YtednedklkbjihaaDoorDeG
namespace Go.Proofs.YtednedklkbjihaaDoor
open Go.RowKit
set_option linter.unusedVariables false
set_option linter.unusedSimpArgs false
set_option maxRecDepth 100000

/-- What one keeps: its result, its row. -/
structure On (w : World) (r f t : Int) (x : ByteArray) (e : Bool) (X : World) : Prop where
  below : Below w.heap.size w X
  res : Blk X w.heap.size #[.int .i64 0, .int .i64 0, .int .i64 0, .string ⟨#[]⟩, .bool false]
  x : Blk X (w.heap.size + 1) #[.int .i64 r, .int .i64 f, .int .i64 t, .string x, .bool e]
section
variable {w X Y : World} {r f t : Int} {x : ByteArray} {e : Bool}
theorem On.later (h : On w r f t x e X) (hb : Below X.heap.size X Y) : On w r f t x e Y := ⟨h.below.trans (hb.mono h.below.size), h.res.later hb h.res.1, h.x.later hb h.x.1⟩
theorem On.setf (h : On w r f t x e X) (f' : Int) : On w r f' t x e (X.setCell ⟨w.heap.size + 1, 1, none⟩ (.int .i64 f')) :=
  ⟨h.below.setCell (by show _ ≤ w.heap.size + 1; omega) _, h.res.far (by show w.heap.size + 1 ≠ _; omega) _, h.x.set_ 1 (by simp) _⟩
theorem On.sett (h : On w r f t x e X) (t' : Int) : On w r f t' x e (X.setCell ⟨w.heap.size + 1, 2, none⟩ (.int .i64 t')) :=
  ⟨h.below.setCell (by show _ ≤ w.heap.size + 1; omega) _, h.res.far (by show w.heap.size + 1 ≠ _; omega) _, h.x.set_ 2 (by simp) _⟩
theorem On.setx (h : On w r f t x e X) (x' : ByteArray) : On w r f t x' e (X.setCell ⟨w.heap.size + 1, 3, none⟩ (.string x')) :=
  ⟨h.below.setCell (by show _ ≤ w.heap.size + 1; omega) _, h.res.far (by show w.heap.size + 1 ≠ _; omega) _, h.x.set_ 3 (by simp) _⟩
theorem On.sete (h : On w r f t x e X) (e' : Bool) : On w r f t x e' (X.setCell ⟨w.heap.size + 1, 4, none⟩ (.bool e')) :=
  ⟨h.below.setCell (by show _ ≤ w.heap.size + 1; omega) _, h.res.far (by show w.heap.size + 1 ≠ _; omega) _, h.x.set_ 4 (by simp) _⟩
theorem On.drew (h : On w r f t x e X) : On w r f t x e X.drew := ⟨h.below.drew, h.res.drew, h.x.drew⟩
theorem On.drewN (h : On w r f t x e X) (q : Nat) : On w r f t x e (X.drewN q) := ⟨below_drewN h.below _, h.res.drewN q, h.x.drewN q⟩
theorem on_start (w : World) (r : Int) : On w r 0 0 ⟨#[]⟩ false ((w.alloc (.cells #[.int .i64 0, .int .i64 0, .int .i64 0, .string ⟨#[]⟩, .bool false] 35)).alloc (.cells #[.int .i64 r, .int .i64 0, .int .i64 0, .string ⟨#[]⟩, .bool false] 35)) := by
  refine ⟨((Below.refl _ _).alloc (Nat.le_refl _) _).alloc (by simp) _, (blk_new w _ _).alloc _, ?_⟩
  have := blk_new (w.alloc (.cells #[.int .i64 0, .int .i64 0, .int .i64 0, .string ⟨#[]⟩, .bool false] 35)) #[.int .i64 r, .int .i64 0, .int .i64 0, .string ⟨#[]⟩, .bool false] 35
  simpa using this
end
def Fin5 (w : World) (r f t : Int) (x : ByteArray) (e : Bool) (Y : World) : Prop := Y.cell? ⟨w.heap.size, 0, none⟩ = some (.int .i64 r) ∧ Y.cell? ⟨w.heap.size, 1, none⟩ = some (.int .i64 f) ∧ Y.cell? ⟨w.heap.size, 2, none⟩ = some (.int .i64 t) ∧ Y.cell? ⟨w.heap.size, 3, none⟩ = some (.string x) ∧ Y.cell? ⟨w.heap.size, 4, none⟩ = some (.bool e) ∧ Below w.heap.size w Y
theorem On.fin {w X : World} {r f t : Int} {x : ByteArray} {e : Bool} (h : On w r f t x e X) : Fin5 w r f t x e (((((X.setCell ⟨w.heap.size, 0, none⟩ (.int .i64 r)).setCell ⟨w.heap.size, 1, none⟩ (.int .i64 f)).setCell ⟨w.heap.size, 2, none⟩ (.int .i64 t)).setCell ⟨w.heap.size, 3, none⟩ (.string x)).setCell ⟨w.heap.size, 4, none⟩ (.bool e)) := by
  have b := ((((h.res.set_ 0 (by simp) (.int .i64 r)).set_ 1 (by simp) (.int .i64 f)).set_ 2 (by simp) (.int .i64 t)).set_ 3 (by simp) (.string x)).set_ 4 (by simp) (.bool e)
  exact ⟨b.2.1 0, b.2.1 1, b.2.1 2, b.2.1 3, b.2.1 4, ((((h.below.setCell (Nat.le_refl _) _).setCell (Nat.le_refl _) _).setCell (Nat.le_refl _) _).setCell (Nat.le_refl _) _).setCell (Nat.le_refl _) _⟩
theorem textL_ba (G : Nat → Cl) (a k : Nat) : (⟨(textL G a k).toArray⟩ : ByteArray) ++ (G (a + k)).1 = ⟨(textL G a (k + 1)).toArray⟩ := by
  apply ByteArray.ext
  simp [textL]

set_option maxHeartbeats 8000000 in
theorem one_any {w : World} {b b' n C C' : Nat} {cs cs' : Array Value} {G G' : Nat → Cl} (hB : Blk w b cs) (hI : Is cs 0 n G) (hB' : Blk w b' cs') (hI' : Is cs' 0 n G') (hn : n ≤ 1000) (r f : Nat) (hf : diffN G G' n 0 = f) (hfn : f < n) (hs : ∀ j, j ≤ n - f → (textL G' f j).length ≤ 1000000000) :
    Calls Tryd.prog 35 #[.int .i64 r, .slice (some ⟨b, 0, none⟩) n C, .slice (some ⟨b', 0, none⟩) n C'] w fun e w' => e = .returned (.agg #[.int .i64 r, .int .i64 f, .int .i64 (max (filledN G' n) f : Nat), .string ⟨(textL G' f (max (filledN G' n) f - f)).toArray⟩, .bool (decide (max (filledN G' n) f < filledN G n))]) ∧ Below w.heap.size w w' := by
  have HL1 := Lib.hid (fun X (hX : Below w.heap.size w X) => last_any (C := C) (w := X) (hB.later hX hB.1) hI (by omega))
  have HL2 := Lib.hid (fun X (hX : Below w.heap.size w X) => last_any (C := C') (w := X) (hB'.later hX hB'.1) hI' (by omega))
  have hle := filledN_le G' n
  have HC := Lib.hid (fun X (hX : Below w.heap.size w X) c (hc : c < n) => show X.cell? ⟨b, c * 2, none⟩ = some (.string (G c).1) ∧ X.cell? ⟨b, c * 2 + 1, none⟩ = some (.int .i64 (G c).2) from by have h := hI c hc; rw [Nat.zero_add] at h; exact ⟨((hB.later hX hB.1).2.1 _).trans h.1, ((hB.later hX hB.1).2.1 _).trans h.2⟩)
  have HC' := Lib.hid (fun X (hX : Below w.heap.size w X) c (hc : c < n) => show X.cell? ⟨b', c * 2, none⟩ = some (.string (G' c).1) ∧ X.cell? ⟨b', c * 2 + 1, none⟩ = some (.int .i64 (G' c).2) from by have h := hI' c hc; rw [Nat.zero_add] at h; exact ⟨((hB'.later hX hB'.1).2.1 _).trans h.1, ((hB'.later hX hB'.1).2.1 _).trans h.2⟩)
  have hsp := diffN_spec G G' n 0
  rw [hf] at hsp
  have HSP := Lib.hid (And.intro (fun j (hj : j < f) => hsp.1 j (Nat.zero_le _) hj) (hsp.2 (by omega)))
  have HS := Lib.hid hs
  obtain ⟨N, hN⟩ : ∃ N, filledN G n = N := ⟨_, rfl⟩
  obtain ⟨N', hN'⟩ : ∃ N', filledN G' n = N' := ⟨_, rfl⟩
  rw [hN] at HL1 ⊢
  rw [hN'] at HL2 hle ⊢
  obtain ⟨M, hM⟩ : ∃ M, max N' f = M := ⟨_, rfl⟩
  have hMl : f ≤ M ∧ M ≤ n := by omega
  rw [hM]
  have V0 := Lib.hid (on_start w r)
  clear hN hN' hB hB' hs hsp hf hI hI'
  go_enter Tryd.func35, Tryd.ntmps35
  go_wp2_with fail
  go_loopw [] (fun wr => ∃ c : Nat, c ≤ f ∧ Hid (On w r c 0 ⟨#[]⟩ false wr)) (fun wr => f - (intOf ((wr.cell? ⟨w.heap.size + 1, 1, none⟩).getD (.int .i64 0))).toNat)
  case atStart => exact ⟨0, Nat.zero_le _, V0.out⟩
  case round =>
    obtain ⟨c, hc, HV⟩ := hrel
    obtain ⟨y1, k1, j1⟩ := (show _ from HV.out.x)
    have hm0 : wr.cell? ⟨w.heap.size + 1, 1, none⟩ = some (.int .i64 c) := k1 1
    have HM0 := Lib.hid hm0
    clear hm0
    obtain ⟨l1, l2⟩ := HC.out wr HV.out.below c (by omega)
    obtain ⟨l3, l4⟩ := HC'.out wr HV.out.below c (by omega)
    obtain ⟨u, hu⟩ : ∃ u, G c = u := ⟨_, rfl⟩
    obtain ⟨v, hv⟩ : ∃ v, G' c = v := ⟨_, rfl⟩
    rw [hu] at l1 l2
    rw [hv] at l3 l4
    have g1 : (0 : Int) ≤ (c : Int) := by omega
    have g2 : (c : Int) < (n : Int) := by omega
    by_cases hlt : c < f
    · have he : u = v := by rw [← hu, ← hv]; exact HSP.out.1 c hlt
      have hq := fun w => eql_clR u v w
      rw [decide_eq_true he] at hq
      simp only [clV] at hq
      clear hu hv he
      go_wp2_with fail
      go_quiet (fail)
      go_wp2_with fail
      go_roundw
      case rel =>
        refine ⟨c + 1, by omega, ?_⟩
        rw [show ((c + 1 : Nat) : Int) = (c : Int) + 1 by omega]
        exact (HV.out.drewN _).setf ((c : Int) + 1)
      case measure =>
        have h := fun q => ((HV.out.drewN q).setf ((c : Int) + 1)).x.2.1 1
        rw [h, HM0.out]
        simp [intOf]
        omega
    · obtain rfl : c = f := by omega
      have he : u ≠ v := by rw [← hu, ← hv]; exact HSP.out.2
      have hq := fun w => eql_clR u v w
      rw [decide_eq_false he] at hq
      simp only [clV] at hq
      clear hu hv he hlt
      go_wp2_with fail
      go_quiet (fail)
      refine at_world (On w r c 0 ⟨#[]⟩ false) (HV.out.drewN _) ?_
      intro X1 hX1
      have V1 := Lib.hid hX1
      clear hX1 y1 k1 j1 HV HM0 l1 l2 l3 l4 hq
      obtain ⟨y1, k1, j1⟩ := (show _ from V1.out.x)
      go_wp2_with fail
      refine (HL2.out X1 V1.out.below).mono ?_
      rintro e w2 ⟨rfl, b2⟩
      have V2 := Lib.hid (V1.out.later b2)
      clear b2 V1 y1 k1 j1
      obtain ⟨y1, k1, j1⟩ := (show _ from V2.out.x)
      go_upto_region 5 with fail
      refine at_world (On w r c N' ⟨#[]⟩ false) (V2.out.sett N') ?_
      intro X3 hX3
      have V3 := Lib.hid hX3
      clear hX3 V2 y1 k1 j1
      obtain ⟨y1, k1, j1⟩ := (show _ from V3.out.x)
      go_upto_if 33 with fail
      go_cut [] (fun wx => On w r c M ⟨#[]⟩ false wx)
      case first =>
        by_cases hNf : N' < c
        · have d1 : (N' : Int) < (c : Int) := by omega
          have e1 := Lib.hid (show (c : Int) = (M : Int) by omega)
          have V4 := Lib.hid (V3.out.sett c)
          go_wp2_with fail
          go_meet
          rw [← e1.out]
          exact V4.out
        · have d1 : ¬ (N' : Int) < (c : Int) := by omega
          have e1 := Lib.hid (show (N' : Int) = (M : Int) by omega)
          go_wp2_with fail
          go_meet
          rw [← e1.out]
          exact V3.out
      case rest =>
        have V4 := Lib.hid hcut
        clear hcut V3 y1 k1 j1
        obtain ⟨y1, k1, j1⟩ := (show _ from V4.out.x)
        go_wp2_with fail
        clear y1 k1 j1
        go_loopw [8] (fun v wr => ∃ q : Nat, q ≤ M - c ∧ v = .int .i64 (c + q : Nat) ∧ Hid (On w r c M ⟨(textL G' c q).toArray⟩ false wr)) (fun v _ => M - (intOf v).toNat)
        case atStart => exact ⟨0, Nat.zero_le _, rfl, V4.out⟩
        case round =>
          obtain ⟨q, hq, rfl, HV⟩ := hrel
          obtain ⟨y1, k1, j1⟩ := (show _ from HV.out.x)
          by_cases hlt : c + q < M
          · have hlen := HS.out (q + 1) (by omega)
            have hlen0 := HS.out q (by omega)
            have hcat : (⟨(textL G' c q).toArray⟩ : ByteArray).size + (G' (c + q)).1.size ≤ 2000000000 := by
              have h1 : (⟨(textL G' c q).toArray⟩ : ByteArray).size = (textL G' c q).length := by simp [ByteArray.size]
              have h2 : (textL G' c (q + 1)).length = (textL G' c q).length + (G' (c + q)).1.size := by
                simp only [textL, List.length_append]
                rw [Array.length_toList]; rfl
              omega
            have hrc := fun w => run_cat9 w _ _ hcat
            have HT := Lib.hid (textL_ba G' c q)
            obtain ⟨l3, l4⟩ := HC'.out wr HV.out.below (c + q) (by omega)
            obtain ⟨P, hP⟩ : ∃ P, (⟨(textL G' c q).toArray⟩ : ByteArray) = P := ⟨_, rfl⟩
            obtain ⟨u, hu⟩ : ∃ u, G' (c + q) = u := ⟨_, rfl⟩
            rw [hP] at hrc k1 HV
            rw [hu] at hrc l3 l4
            rw [hP, hu] at HT
            obtain ⟨e, he⟩ : ∃ e, c + q = e := ⟨_, rfl⟩
            rw [he] at l3 l4 hlt ⊢
            have HE := Lib.hid he
            have g1 : (0 : Int) ≤ (e : Int) := by omega
            have g2 : (e : Int) < (n : Int) := by omega
            have g3 : (e : Int) < (M : Int) := by omega
            clear hP hu he hlen hlen0 hcat l4
            go_wp2_with fail
            go_region
            have V5 := Lib.hid (HV.out.setx (P ++ u.1)).drew
            clear y1 k1 j1 l3 hrc
            go_wp2_with fail
            go_roundw
            case rel => exact ⟨q + 1, by have := HE.out; omega, by rw [show ((c + (q + 1) : Nat) : Int) = (e : Int) + 1 by have := HE.out; omega], by rw [← HT.out]; exact V5.out⟩
            case measure => simp [intOf]; have := HE.out; omega
          · obtain rfl : q = M - c := by omega
            have hcM : c + (M - c) = M := by omega
            rw [hcM]
            obtain ⟨P, hP⟩ : ∃ P, (⟨(textL G' c (M - c)).toArray⟩ : ByteArray) = P := ⟨_, rfl⟩
            have HP := Lib.hid hP
            rw [hP] at HV k1
            have C1 := Lib.hid (fun X (hX : Below wr.heap.size wr X) => HL1.out X (HV.out.below.trans (hX.mono HV.out.below.size)))
            have HS2 := Lib.hid (show ∀ X, Below wr.heap.size wr X → (fun X => X.cell? ⟨w.heap.size + 1, 2, none⟩ = some (.int .i64 M)) X from fun X hX => (HV.out.later hX).x.2.1 2)
            have z0 := HS2.out wr (Below.refl _ _)
            have hbb : decide ((M : Int) < (N : Int)) = decide (M < N) := by simp
            clear hP hcM hlt hq k1 j1 y1
            go_wp2_with fail
            go_region_held3 (fun X => X.cell? ⟨w.heap.size + 1, 2, none⟩ = some (.int .i64 M))
              (first | exact HS2.out _ (by first | assumption | exact B5.out) | exact (V5.out.sete _).x.2.1 2 | go_keep)
              (first
              | (go_at_call 55; refine (C1.out _ (by first | exact Below.refl _ _ | exact (Below.refl _ _).drew | exact selfDrew _ _)).mono ?_; rintro e w5 ⟨rfl, b5⟩; have B5 := Lib.hid (belowStep (A := wr) (by first | exact Below.refl _ _ | exact (Below.refl _ _).drew | exact selfDrew _ _) b5); have V5 := Lib.hid (HV.out.later B5.out); obtain ⟨y5, k5, j5⟩ := (show _ from V5.out.x); clear b5))
            all_goals
              refine at_world (On w r c M P (decide (M < N))) (V5.out.sete (decide (M < N))) ?_
              intro X6 hX6
              have V6 := Lib.hid hX6
              clear hX6 V5 y5 k5 j5 B5
              obtain ⟨y1, k1, j1⟩ := (show _ from V6.out.x)
              obtain ⟨y2, k2, j2⟩ := (show _ from V6.out.res)
              go_wp2_with fail
              refine at_world (Fin5 w r c M P (decide (M < N))) V6.out.fin ?_
              rintro X7 ⟨x0, x1, x2, x3, x4, hb7⟩
              have HB7 := Lib.hid hb7
              clear hb7 y1 k1 j1 y2 k2 j2
              refine bodyPost_ret (v := .agg #[.int .i64 r, .int .i64 c, .int .i64 M, .string P, .bool (decide (M < N))]) (by simp [results, Tryd.results35, go_sem, x0, x1, x2, x3, x4]) rfl ⟨by rw [HP.out], HB7.out⟩
end Go.Proofs.YtednedklkbjihaaDoor

/- macro: MacroRecords. -/
import Derived.Test.YtgdfcojgifgjcaaMcU
import Derived.Test.YtgdfcojgifgjcaaMcM
namespace Go.Proofs.Ytgdfcojgifgjcaa
open Go.RowKit Go.Maps
set_option linter.unusedVariables false
set_option linter.unusedSimpArgs false
set_option maxRecDepth 100000

theorem loopX_keys (g : Int → Nat → List Ky → Nat × Nat × List Ky) : ∀ (M : List Ky) (t : Nat) (ks : List Ky), t + M.length ≤ 20000 → loopX g (M.map mst) t ks = (0, t + M.length, ks ++ M)
  | [], t, ks, h => by simp [loopX]
  | y :: M, t, ks, h => by
    simp only [List.length_cons] at h
    rw [List.map_cons, loopX, if_neg (by omega)]
    rw [if_neg (show ¬ (mst y).call = true by simp [mst])]
    show loopX g (M.map mst) (t + 1) (ks ++ [y]) = _
    rw [loopX_keys g M (t + 1) (ks ++ [y]) (by omega)]
    simp only [List.length_cons, List.append_assoc, List.singleton_append]
    rw [show t + 1 + M.length = t + (M.length + 1) by omega]
/-- What the law keeps: its recorder, what it struck. -/
structure Lw (w : World) (g : Nat) (va vl vb : Value) (ka kl kb : List Ky) (on : Bool) (A : Option Addr) (n c : Nat) (ks : List Ky) (X : World) : Prop where
  below : Below w.heap.size w X
  g0 : w.heap.size ≤ g
  b : Blk X g #[.bool on, .slice A n c]
  k : KyS X (fun b => g < b) (.slice A n c) ks
  nk : n = ks.length
  ia : KyS X (fun b => b < g) va ka
  il : KyS X (fun b => b < g) vl kl
  ib : KyS X (fun b => b < g) vb kb
section
variable {w X Y : World} {g : Nat} {va vl vb : Value} {ka kl kb : List Ky} {on : Bool} {A : Option Addr} {n c : Nat} {ks : List Ky}
theorem Lw.later (h : Lw w g va vl vb ka kl kb on A n c ks X) (hb : Below X.heap.size X Y) : Lw w g va vl vb ka kl kb on A n c ks Y :=
  ⟨belowStep h.below hb, h.g0, h.b.later hb h.b.1, h.k.later hb, h.nk, h.ia.later hb, h.il.later hb, h.ib.later hb⟩
theorem Lw.put {on' : Bool} {A' : Option Addr} {n' c' : Nat} {ks' : List Ky} (h : Lw w g va vl vb ka kl kb on A n c ks X) (hk : KyS X (fun b => g < b) (.slice A' n' c') ks') (hn : n' = ks'.length) :
    Lw w g va vl vb ka kl kb on' A' n' c' ks' ((X.setCell ⟨g, 0, none⟩ (.bool on')).setCell ⟨g, 1, none⟩ (.slice A' n' c')) := by
  have b := (h.b.set_ 0 (by simp) (.bool on')).set_ 1 (by simp) (.slice A' n' c')
  have f : ∀ {S : Nat → Prop} {v : Value} {l : List Ky}, ¬ S g → KyS X S v l → KyS ((X.setCell ⟨g, 0, none⟩ (.bool on')).setCell ⟨g, 1, none⟩ (.slice A' n' c')) S v l := fun hS hh => (hh.far (p := ⟨g, 0, none⟩) hS _).far (p := ⟨g, 1, none⟩) hS _
  exact ⟨(h.below.setCell (p := ⟨g, 0, none⟩) h.g0 _).setCell (p := ⟨g, 1, none⟩) h.g0 _, h.g0, b, f (Nat.lt_irrefl _) hk, hn, f (Nat.lt_irrefl _) h.ia, f (Nat.lt_irrefl _) h.il, f (Nat.lt_irrefl _) h.ib⟩
end
theorem bel_set2 {W X : World} {g : Nat} (h : Below W.heap.size W X) (hg : W.heap.size ≤ g) (u v : Value) : Below W.heap.size W ((X.setCell ⟨g, 0, none⟩ u).setCell ⟨g, 1, none⟩ v) := (h.setCell (p := ⟨g, 0, none⟩) hg _).setCell (p := ⟨g, 1, none⟩) hg _
theorem blk_set2 {X : World} {g : Nat} {a b : Value} (h : Blk X g #[a, b]) (u v : Value) : Blk ((X.setCell ⟨g, 0, none⟩ u).setCell ⟨g, 1, none⟩ v) g #[u, v] := by
  have := (h.set_ 0 (by simp) u).set_ 1 (by simp) v
  simpa using this
theorem lw_same {X : World} {g b e : Nat} {yk yr : Int} {ym : Bool} {Ak : Option Addr} {nk ck : Nat} (hne : g ≠ b) (hB : Blk X g #[.bool false, .slice none 0 0])
    (h : (fun Y : World => Y.cell? ⟨g, 0, none⟩ = some (.bool false) ∧ Y.cell? ⟨g, 1, none⟩ = some (.slice none 0 0) ∧ Y.cell? ⟨b, e, none⟩ = some (.int .i64 yk) ∧ Y.cell? ⟨b, e + 1, none⟩ = some (.int .i32 yr) ∧ Y.cell? ⟨b, e + 2, none⟩ = some (.bool ym) ∧ Y.cell? ⟨b, e + 3, none⟩ = some (.slice Ak nk ck)) X) :
    (fun Y : World => Y.cell? ⟨g, 0, none⟩ = some (.bool false) ∧ Y.cell? ⟨g, 1, none⟩ = some (.slice none 0 0) ∧ Y.cell? ⟨b, e, none⟩ = some (.int .i64 yk) ∧ Y.cell? ⟨b, e + 1, none⟩ = some (.int .i32 yr) ∧ Y.cell? ⟨b, e + 2, none⟩ = some (.bool ym) ∧ Y.cell? ⟨b, e + 3, none⟩ = some (.slice Ak nk ck)) ((X.setCell ⟨g, 0, none⟩ (.bool false)).setCell ⟨g, 1, none⟩ (.slice none 0 0)) := by
  have b2 := blk_set2 hB (.bool false) (.slice none 0 0)
  have q (j : Nat) : ((X.setCell ⟨g, 0, none⟩ (.bool false)).setCell ⟨g, 1, none⟩ (.slice none 0 0)).cell? ⟨b, j, none⟩ = X.cell? ⟨b, j, none⟩ := by
    rw [World.cell?_setCell_other, World.cell?_setCell_other]
    · intro e; injection e with e; exact hne e
    · intro e; injection e with e; exact hne e
  obtain ⟨_, _, h2, h3, h4, h5⟩ := h
  exact ⟨b2.2.1 0, b2.2.1 1, (q _).trans h2, (q _).trans h3, (q _).trans h4, (q _).trans h5⟩
theorem blk_second (w : World) (cs ds : Array Value) (s t : TypeId) : Blk ((w.alloc (.cells cs s)).alloc (.cells ds t)) (w.heap.size + 1) ds := by
  have := blk_new (w.alloc (.cells cs s)) ds t
  simpa using this
theorem cutK_le (ks : List Ky) (n : Nat) : (cutK ks n).length ≤ n := by unfold cutK; simp; omega
theorem cutK_txt (ks : List Ky) (n : Nat) : ∀ y ∈ cutK ks n, y.t.length ≤ 15 := by
  intro y hy
  obtain ⟨z, _, rfl⟩ := List.mem_map.1 hy
  simp [cutK1]
  omega

set_option maxHeartbeats 16000000 in
theorem walk_MacroRecords (w : World) (va : Value) (ka0 : List Ky) (h1 : KyV w va ka0) (vl : Value) (kl0 : List Ky) (h2 : KyV w vl kl0) (vb : Value) (kb0 : List Ky) (h3 : KyV w vb kb0) (nm : Int) (hw : (Lit.int .i32 nm).wf = true) :
    Calls Try.prog 4 #[va, vl, vb, .int .i32 nm] w (Yes w) := by
  have C1 := Lib.hid (keys_any (S := Any) h1 10 (by omega))
  have C2 := Lib.hid (fun X (hX : Below w.heap.size w X) => keys_any (S := Any) (h2.later hX) 30 (by omega))
  have C3 := Lib.hid (fun X (hX : Below w.heap.size w X) => keys_any (S := Any) (h3.later hX) 10 (by omega))
  obtain ⟨ka, hka⟩ : ∃ ka, cutK ka0 10 = ka := ⟨_, rfl⟩
  obtain ⟨kl, hkl⟩ : ∃ kl, cutK kl0 30 = kl := ⟨_, rfl⟩
  obtain ⟨kb, hkb⟩ : ∃ kb, cutK kb0 10 = kb := ⟨_, rfl⟩
  have ta := Lib.hid (hka ▸ cutK_txt ka0 10)
  have tl := Lib.hid (hkl ▸ cutK_txt kl0 30)
  have tb := Lib.hid (hkb ▸ cutK_txt kb0 10)
  have la := hka ▸ cutK_le ka0 10
  have ll := hkl ▸ cutK_le kl0 30
  have lb := hkb ▸ cutK_le kb0 10
  rw [hka] at C1
  rw [hkl] at C2
  rw [hkb] at C3
  clear hka hkl hkb h1 h2 h3
  go_enter Try.func4, Try.ntmps4
  go_wp2_with fail
  refine C1.out.mono ?_
  rintro e w1 ⟨Aa, na, ca, rfl, k1, n1, b1⟩
  have K1 := Lib.hid (And.intro (KyV.later (Y := w1) k1.any (Below.refl _ _)) b1)
  have N1 := Lib.hid n1
  clear k1 b1 C1 n1
  go_wp2_with fail
  refine (C2.out _ K1.out.2).mono ?_
  rintro e w2 ⟨Al, nl, cl, rfl, k2, n2, b2⟩
  have K2 := Lib.hid (And.intro (K1.out.1.later b2) (And.intro k2.any (belowStep K1.out.2 b2)))
  have N2 := Lib.hid n2
  clear k2 b2 C2 K1 n2
  go_wp2_with fail
  refine (C3.out _ K2.out.2.2).mono ?_
  rintro e w3 ⟨Ab, nb, cb, rfl, k3, n3, b3⟩
  have K3 := Lib.hid (And.intro (K2.out.1.later b3) (And.intro (K2.out.2.1.later b3) (And.intro k3.any (belowStep K2.out.2.2 b3))))
  have N3 := Lib.hid n3
  clear k3 b3 C3 K2 n3
  go_upto_region 5 with fail
  refine at_world (Lw w w3.heap.size (.slice Aa na ca) (.slice Al nl cl) (.slice Ab nb cb) ka kl kb false none 0 0 []) ⟨belowStep K3.out.2.2.2 (belAlloc _ _), K3.out.2.2.2.size, blk_new _ _ _, kyS_nil _ _, rfl, (KyS.mono (KyS.old K3.out.1) fun b hb => hb.1).later (belAlloc _ _), (KyS.mono (KyS.old K3.out.2.1) fun b hb => hb.1).later (belAlloc _ _), (KyS.mono (KyS.old K3.out.2.2.1) fun b hb => hb.1).later (belAlloc _ _)⟩ ?_
  obtain ⟨g, hg⟩ : ∃ g, w3.heap.size = g := ⟨_, rfl⟩
  rw [hg]
  clear hg K3
  intro X hX
  have V1 := Lib.hid hX
  clear hX
  rw [← N1.out] at la
  rw [← N2.out] at ll
  rw [← N3.out] at lb
  have NN := Lib.hid (And.intro N1.out (And.intro N2.out N3.out))
  clear N1 N2 N3
  go_wp2_with fail
  go_loopw [10] (fun i wr => ∃ k : Nat, k ≤ na ∧ i = .int .i64 (k : Nat) ∧ Hid (Lw w g (.slice Aa na ca) (.slice Al nl cl) (.slice Ab nb cb) ka kl kb false none 0 0 [] wr)) (fun i _ => na - (intOf i).toNat)
  case atStart => exact ⟨0, Nat.zero_le _, rfl, V1.out⟩
  case round =>
    obtain ⟨k, hk, rfl, HV⟩ := hrel
    clear V1
    by_cases hlt : k < na
    · have d1 : decide ((k : Int) < (na : Int)) = true := decide_eq_true (by omega)
      have hkk : k < ka.length := by rw [← NN.out.1]; exact hlt
      obtain ⟨b, o, Ak, nk, ck, rfl, hb, l0, l1, l2, l3, lt⟩ := HV.out.ia.at_ hkk
      obtain ⟨y, hy⟩ : ∃ y, ka[k] = y := ⟨_, rfl⟩
      rw [hy] at l0 l1 l2 lt
      obtain ⟨yk, yr, ym, yt⟩ := y
      dsimp only at l0 l1 l2 lt
      have g1 : (k : Int) < (na : Int) := by omega
      have g2 : (0 : Int) ≤ (k : Int) := by omega
      have C4 := Lib.hid (fun Y => strike_off none 0 0 yk yr ym Ak nk ck Y)
      have HS := Lib.hid (show ∀ Y, Below wr.heap.size wr Y → (fun Y => Y.cell? ⟨g, 0, none⟩ = some (.bool false) ∧ Y.cell? ⟨g, 1, none⟩ = some (.slice none 0 0) ∧ Y.cell? ⟨b, o + k * 4, none⟩ = some (.int .i64 yk) ∧ Y.cell? ⟨b, o + k * 4 + 1, none⟩ = some (.int .i32 yr) ∧ Y.cell? ⟨b, o + k * 4 + 2, none⟩ = some (.bool ym) ∧ Y.cell? ⟨b, o + k * 4 + 3, none⟩ = some (.slice Ak nk ck)) Y from fun Y hY => by
        have h := HV.out.later hY
        have q (j : Nat) := hY.cell (p := ⟨b, j, none⟩) hb
        exact ⟨h.b.2.1 0, h.b.2.1 1, (q _).trans l0, (q _).trans l1, (q _).trans l2, (q _).trans l3⟩)
      have hs0 := HS.out wr (Below.refl _ _)
      clear lt hy hkk
      go_wp2_with fail
      go_region_held3 (fun Y => Y.cell? ⟨g, 0, none⟩ = some (.bool false) ∧ Y.cell? ⟨g, 1, none⟩ = some (.slice none 0 0) ∧ Y.cell? ⟨b, o + k * 4, none⟩ = some (.int .i64 yk) ∧ Y.cell? ⟨b, o + k * 4 + 1, none⟩ = some (.int .i32 yr) ∧ Y.cell? ⟨b, o + k * 4 + 2, none⟩ = some (.bool ym) ∧ Y.cell? ⟨b, o + k * 4 + 3, none⟩ = some (.slice Ak nk ck))
        (first | exact HS.out _ (by first | assumption | exact B5.out) | exact HS.out _ (belAlloc wr _) | exact HS.out _ (belAlloc wr _).drew | exact HS.out _ (belowStep B5.out (belAlloc w5 _)) | exact HS.out _ (bel_set2 B5.out (Nat.le_refl _) _ _) | go_keep)
        (first
        | (go_at_call 12; refine (C4.out (wr.alloc (.cells #[.bool false, .slice none 0 0] 42)).drew).mono ?_; rintro e w5 ⟨rfl, b5⟩; have B5 := Lib.hid ((belAlloc wr (.cells #[.bool false, .slice none 0 0] 42)).drew.trans (b5.mono (by simp))); have Q5 := Lib.hid ((show Blk (wr.alloc (.cells #[.bool false, .slice none 0 0] 42)).drew wr.heap.size #[.bool false, .slice none 0 0] from blk_new wr _ _).later b5 (by simp)); obtain ⟨yq, kq, jq⟩ := (show _ from Q5.out); clear b5)
        | (go_at_call 12; refine (C4.out _).mono ?_; rintro e w5 ⟨rfl, b5⟩; have B5 := Lib.hid (belowStep (W := wr) (by first | exact Below.refl _ _ | exact (Below.refl _ _).drew | exact selfDrew _ _) b5); clear b5))
      all_goals
        first
        | refine at_world (fun Z => Below wr.heap.size wr Z ∧ Blk Z w5.heap.size #[.bool false, .slice none 0 0]) ⟨belowStep B5.out (belAlloc _ _), blk_new _ _ _⟩ ?_
        | refine at_world (fun Z => Below wr.heap.size wr Z ∧ Blk Z wr.heap.size #[.bool false, .slice none 0 0]) ⟨bel_set2 B5.out (Nat.le_refl _) _ _, blk_set2 Q5.out _ _⟩ ?_
        intro Z hZ
        have VZ := Lib.hid (And.intro (HV.out.later hZ.1) hZ.2)
        clear hZ hs0 l0 l1 l2 l3
        obtain ⟨y1, k1, j1⟩ := (show _ from VZ.out.1.b)
        obtain ⟨y2, k2, j2⟩ := (show _ from VZ.out.2)
        go_wp2_with fail
        go_roundw
        case rel => exact ⟨k + 1, by omega, by go_num, VZ.out.1.put (kyS_nil _ _) rfl⟩
        case measure => simp [intOf]; omega
    · have d1 : decide ((k : Int) < (na : Int)) = false := decide_eq_false (by omega)
      obtain rfl : k = na := by omega
      have C4 := Lib.hid (start_any wr)
      go_wp2_with fail
      refine C4.out.mono ?_
      rintro e w6 ⟨rfl, b6⟩
      have V6 := Lib.hid (HV.out.later b6)
      clear b6 C4 HV
      obtain ⟨y1, k1, j1⟩ := (show _ from V6.out.b)
      go_upto_region 13 with fail
      refine at_world (Lw w g (.slice Aa k ca) (.slice Al nl cl) (.slice Ab nb cb) ka kl kb true none 0 0 []) (V6.out.put (kyS_nil _ _) rfl) ?_
      intro X2 hX2
      have V2 := Lib.hid hX2
      clear hX2 V6 y1 k1 j1
      obtain ⟨na, hna⟩ : ∃ na, k = na := ⟨_, rfl⟩
      rw [hna] at V2 ⊢
      clear hna hlt d1
      go_wp2_with fail
      go_loopw [13] (fun i wr => ∃ (k : Nat) (Ar : Option Addr) (nr cr : Nat), k ≤ nl ∧ i = .int .i64 (k : Nat) ∧ Hid (Lw w g (.slice Aa na ca) (.slice Al nl cl) (.slice Ab nb cb) ka kl kb true Ar nr cr (kl.take k) wr)) (fun i _ => nl - (intOf i).toNat)
      case atStart => exact ⟨0, none, 0, 0, Nat.zero_le _, rfl, V2.out⟩
      case round =>
        obtain ⟨k, Ar, nr, cr, hk, rfl, HV⟩ := hrel
        clear V2
        by_cases hlt : k < nl
        · skip
          obtain ⟨rs, hrs⟩ : ∃ rs, kl.take k = rs := ⟨_, rfl⟩
          have HR := Lib.hid hrs
          rw [hrs] at HV
          clear hrs
          have d1 : decide ((k : Int) < (nl : Int)) = true := decide_eq_true (by omega)
          have hkk : k < kl.length := by rw [← NN.out.2.1]; exact hlt
          obtain ⟨b, o, Ak, nk, ck, rfl, hb, l0, l1, l2, l3, lt⟩ := HV.out.il.at_ hkk
          have hmem := List.getElem_mem hkk
          have HY0 := Lib.hid (take_snoc' (List.getElem?_eq_getElem hkk))
          obtain ⟨y, hy⟩ : ∃ y, kl[k] = y := ⟨_, rfl⟩
          rw [hy] at l0 l1 l2 lt
          rw [hy] at hmem
          rw [hy] at HY0
          have HM0 := Lib.hid (tl.out y hmem)
          obtain ⟨yk, yr, ym, yt⟩ := y
          dsimp only at l0 l1 l2 lt
          have g1 : (k : Int) < (nl : Int) := by omega
          have g2 : (0 : Int) ≤ (k : Int) := by omega
          have HS := Lib.hid (show ∀ Y, Below wr.heap.size wr Y → (fun Y => Y.cell? ⟨g, 0, none⟩ = some (.bool true) ∧ Y.cell? ⟨g, 1, none⟩ = some (.slice Ar nr cr) ∧ Y.cell? ⟨b, o + k * 4, none⟩ = some (.int .i64 yk) ∧ Y.cell? ⟨b, o + k * 4 + 1, none⟩ = some (.int .i32 yr) ∧ Y.cell? ⟨b, o + k * 4 + 2, none⟩ = some (.bool ym) ∧ Y.cell? ⟨b, o + k * 4 + 3, none⟩ = some (.slice Ak nk ck)) Y from fun Y hY => by
            have h := HV.out.later hY
            have q (j : Nat) := hY.cell (p := ⟨b, j, none⟩) hb
            exact ⟨h.b.2.1 0, h.b.2.1 1, (q _).trans l0, (q _).trans l1, (q _).trans l2, (q _).trans l3⟩)
          have hs0 := HS.out wr (Below.refl _ _)
          have HT := Lib.hid lt.any
          have KR := Lib.hid (HV.out.k.old)
          have C4 := Lib.hid (fun (Y : World) (hY : Below wr.heap.size wr Y) => strike_on (w := Y) (KR.out.later hY) (by
            have h1 := HV.out.nk
            have h2 : rs.length ≤ k := (by rw [← HR.out]; simp; omega)
            omega) yk yr ym Ak nk ck yt (HT.out.later hY) (by have := HM0.out; simp at this; omega))
          clear lt hy hkk hmem
          go_wp2_with fail
          go_region_held3 (fun Y => Y.cell? ⟨g, 0, none⟩ = some (.bool true) ∧ Y.cell? ⟨g, 1, none⟩ = some (.slice Ar nr cr) ∧ Y.cell? ⟨b, o + k * 4, none⟩ = some (.int .i64 yk) ∧ Y.cell? ⟨b, o + k * 4 + 1, none⟩ = some (.int .i32 yr) ∧ Y.cell? ⟨b, o + k * 4 + 2, none⟩ = some (.bool ym) ∧ Y.cell? ⟨b, o + k * 4 + 3, none⟩ = some (.slice Ak nk ck))
            (first | exact HS.out _ (by first | assumption | exact B5.out) | exact HS.out _ (belAlloc wr _) | exact HS.out _ (belAlloc wr _).drew | exact HS.out _ (belowStep B5.out (belAlloc w5 _)) | exact HS.out _ (bel_set2 B5.out (Nat.le_refl _) _ _) | go_keep)
            (first
            | (go_at_call 12; refine (C4.out (wr.alloc (.cells #[.bool false, .slice none 0 0] 42)).drew (belAlloc wr (.cells #[.bool false, .slice none 0 0] 42)).drew).mono ?_; rintro e w5 ⟨A5, c5, rfl, k5, b5⟩; have B5 := Lib.hid ((belAlloc wr (.cells #[.bool false, .slice none 0 0] 42)).drew.trans (b5.mono (by simp))); have Q5 := Lib.hid ((show Blk (wr.alloc (.cells #[.bool false, .slice none 0 0] 42)).drew wr.heap.size #[.bool false, .slice none 0 0] from blk_new wr _ _).later b5 (by simp)); have K5 := Lib.hid (k5.mono (S' := fun b => (b < wr.heap.size ∧ g < b) ∨ wr.heap.size + 1 ≤ b) fun b hb => hb.imp id fun h => by simpa using h); obtain ⟨yq, kq, jq⟩ := (show _ from Q5.out); clear b5 k5)
            | (go_at_call 12; refine (C4.out _ (by first | exact Below.refl _ _ | exact (Below.refl _ _).drew | exact selfDrew _ _)).mono ?_; rintro e w5 ⟨A5, c5, rfl, k5, b5⟩; have B5 := Lib.hid (belowStep (W := wr) (by first | exact Below.refl _ _ | exact (Below.refl _ _).drew | exact selfDrew _ _) b5); have K5 := Lib.hid (k5.mono (S' := fun b => (b < wr.heap.size ∧ g < b) ∨ wr.heap.size ≤ b) fun b hb => hb); clear b5 k5))
          all_goals
            have hgw : g < wr.heap.size := HV.out.b.1
            first
            | refine at_world (fun Z => Below wr.heap.size wr Z ∧ Blk Z w5.heap.size #[.bool true, .slice A5 (nr + 1) c5] ∧ KyS Z (fun b => g < b) (.slice A5 (nr + 1) c5) (rs ++ [⟨yk, yr, ym, yt⟩])) ⟨belowStep B5.out (belAlloc _ _), blk_new _ _ _, (K5.out.mono fun b hb => by rcases hb with hb | hb <;> omega).later (belAlloc _ _)⟩ ?_
            | refine at_world (fun Z => Below wr.heap.size wr Z ∧ Blk Z wr.heap.size #[.bool true, .slice A5 (nr + 1) c5] ∧ KyS Z (fun b => g < b) (.slice A5 (nr + 1) c5) (rs ++ [⟨yk, yr, ym, yt⟩])) ⟨bel_set2 B5.out (Nat.le_refl _) _ _, blk_set2 Q5.out _ _, ((K5.out.far (p := ⟨wr.heap.size, 0, none⟩) (by show ¬ ((wr.heap.size < wr.heap.size ∧ _) ∨ wr.heap.size + 1 ≤ wr.heap.size); omega) _).far (p := ⟨wr.heap.size, 1, none⟩) (by show ¬ ((wr.heap.size < wr.heap.size ∧ _) ∨ wr.heap.size + 1 ≤ wr.heap.size); omega) _).mono fun b hb => by rcases hb with hb | hb <;> omega⟩ ?_
            intro Z hZ
            have VZ := Lib.hid (And.intro (HV.out.later hZ.1) hZ.2)
            clear hZ hs0 l0 l1 l2 l3 hgw
            obtain ⟨y1, k1, j1⟩ := (show _ from VZ.out.1.b)
            obtain ⟨y2, k2, j2⟩ := (show _ from VZ.out.2.1)
            go_wp2_with fail
            go_roundw
            case rel => exact ⟨k + 1, A5, nr + 1, c5, by omega, by go_num, by rw [HY0.out, HR.out]; exact VZ.out.1.put VZ.out.2.2 (by have := HV.out.nk; simp; omega)⟩
            case measure => simp [intOf]; omega
        · have d1 : decide ((k : Int) < (nl : Int)) = false := decide_eq_false (by omega)
          obtain rfl : k = nl := by omega
          have hkl : kl.take k = kl := by rw [NN.out.2.1, List.take_length]
          rw [hkl] at HV
          have C4 := Lib.hid (stop_any (on := true) HV.out.k HV.out.nk (by have := NN.out.2.1; omega) (fun y hy => by have := tl.out y hy; omega))
          obtain ⟨y1, k1, j1⟩ := (show _ from HV.out.b)
          clear hkl
          go_wp2_with fail
          refine C4.out.mono ?_
          rintro e w6 ⟨As, cs, rfl, st6, b6⟩
          have V6 := Lib.hid (And.intro (HV.out.later b6) (st6.mono (S' := fun b => g < b) fun b hb => Nat.lt_of_lt_of_le HV.out.b.1 hb))
          clear b6 C4 st6 HV y1 k1 j1
          obtain ⟨y1, k1, j1⟩ := (show _ from V6.out.1.b)
          obtain ⟨ns, hns⟩ : ∃ ns, nr = ns := ⟨_, rfl⟩
          rw [hns] at V6 k1 ⊢
          go_upto_region 21 with fail
          refine at_world (fun Z => Lw w g (.slice Aa na ca) (.slice Al k cl) (.slice Ab nb cb) ka kl kb false none 0 0 [] Z ∧ StS Z (fun b => g < b) (.slice As ns cs) (kl.map mst)) ⟨V6.out.1.put (kyS_nil _ _) rfl, (V6.out.2.far (p := ⟨g, 0, none⟩) (Nat.lt_irrefl _) _).far (p := ⟨g, 1, none⟩) (Nat.lt_irrefl _) _⟩ ?_
          intro X3 hX3
          have V3 := Lib.hid hX3
          obtain ⟨nl, hnl⟩ : ∃ nl, k = nl := ⟨_, rfl⟩
          rw [hnl] at V3 NN ll ⊢
          clear hX3 V6 y1 k1 j1 hlt hnl
          go_wp2_with fail
          go_loopw [17] (fun i wr => ∃ k : Nat, k ≤ nb ∧ i = .int .i64 (k : Nat) ∧ Hid (Lw w g (.slice Aa na ca) (.slice Al nl cl) (.slice Ab nb cb) ka kl kb false none 0 0 [] wr ∧ StS wr (fun b => g < b) (.slice As ns cs) (kl.map mst))) (fun i _ => nb - (intOf i).toNat)
          case atStart => exact ⟨0, Nat.zero_le _, rfl, V3.out⟩
          case round =>
            obtain ⟨k, hk, rfl, HV⟩ := hrel
            clear V3
            by_cases hlt : k < nb
            · skip
              have d1 : decide ((k : Int) < (nb : Int)) = true := decide_eq_true (by omega)
              have hkk : k < kb.length := by rw [← NN.out.2.2]; exact hlt
              obtain ⟨b, o, Ak, nk, ck, rfl, hb, l0, l1, l2, l3, lt⟩ := HV.out.1.ib.at_ hkk
              obtain ⟨y, hy⟩ : ∃ y, kb[k] = y := ⟨_, rfl⟩
              rw [hy] at l0 l1 l2 lt
              obtain ⟨yk, yr, ym, yt⟩ := y
              dsimp only at l0 l1 l2 lt
              have g1 : (k : Int) < (nb : Int) := by omega
              have g2 : (0 : Int) ≤ (k : Int) := by omega
              have HS := Lib.hid (show ∀ Y, Below wr.heap.size wr Y → (fun Y => Y.cell? ⟨g, 0, none⟩ = some (.bool false) ∧ Y.cell? ⟨g, 1, none⟩ = some (.slice none 0 0) ∧ Y.cell? ⟨b, o + k * 4, none⟩ = some (.int .i64 yk) ∧ Y.cell? ⟨b, o + k * 4 + 1, none⟩ = some (.int .i32 yr) ∧ Y.cell? ⟨b, o + k * 4 + 2, none⟩ = some (.bool ym) ∧ Y.cell? ⟨b, o + k * 4 + 3, none⟩ = some (.slice Ak nk ck)) Y from fun Y hY => by
                have h := HV.out.1.later hY
                have q (j : Nat) := hY.cell (p := ⟨b, j, none⟩) hb
                exact ⟨h.b.2.1 0, h.b.2.1 1, (q _).trans l0, (q _).trans l1, (q _).trans l2, (q _).trans l3⟩)
              have hs0 := HS.out wr (Below.refl _ _)
              have C4 := Lib.hid (fun Y => strike_off none 0 0 yk yr ym Ak nk ck Y)
              have hgb := Lib.hid (show g ≠ b from fun e => Nat.lt_irrefl g (by have h := HV.out.1.ib.block (by omega); rw [← e] at h; exact h))
              clear lt hy hkk
              go_wp2_with fail
              go_region_held3 (fun Y => Y.cell? ⟨g, 0, none⟩ = some (.bool false) ∧ Y.cell? ⟨g, 1, none⟩ = some (.slice none 0 0) ∧ Y.cell? ⟨b, o + k * 4, none⟩ = some (.int .i64 yk) ∧ Y.cell? ⟨b, o + k * 4 + 1, none⟩ = some (.int .i32 yr) ∧ Y.cell? ⟨b, o + k * 4 + 2, none⟩ = some (.bool ym) ∧ Y.cell? ⟨b, o + k * 4 + 3, none⟩ = some (.slice Ak nk ck))
                (first | exact HS.out _ (by first | assumption | exact B5.out) | exact lw_same hgb.out (HV.out.1.later B5.out).b (HS.out _ B5.out) | go_keep)
                (first
                | (go_at_call 12; refine (C4.out _).mono ?_; rintro e w5 ⟨rfl, b5⟩; have B5 := Lib.hid (belowStep (W := wr) (by first | exact Below.refl _ _ | exact (Below.refl _ _).drew | exact selfDrew _ _) b5); obtain ⟨yq, kq, jq⟩ := (show _ from (HV.out.1.later B5.out).b); clear b5))
              all_goals
                refine at_world (fun Z => Lw w g (.slice Aa na ca) (.slice Al nl cl) (.slice (some ⟨b, o, none⟩) nb cb) ka kl kb false none 0 0 [] Z ∧ StS Z (fun b => g < b) (.slice As ns cs) (kl.map mst)) ⟨(HV.out.1.later B5.out).put (kyS_nil _ _) rfl, ((HV.out.2.later B5.out).far (p := ⟨g, 0, none⟩) (Nat.lt_irrefl _) _).far (p := ⟨g, 1, none⟩) (Nat.lt_irrefl _) _⟩ ?_
                intro Z hZ
                have VZ := Lib.hid hZ
                clear hZ hs0 l0 l1 l2 l3 yq kq jq
                go_wp2_with fail
                go_roundw
                case rel => exact ⟨k + 1, by omega, by go_num, VZ.out⟩
                case measure => simp [intOf]; omega
            · have d1 : decide ((k : Int) < (nb : Int)) = false := decide_eq_false (by omega)
              obtain rfl : k = nb := by omega
              have C4 := Lib.hid (stop_any (on := false) HV.out.1.k rfl (by simp) (fun y hy => by simp at hy))
              obtain ⟨y1, k1, j1⟩ := (show _ from HV.out.1.b)
              go_wp2_with fail
              refine C4.out.mono ?_
              rintro e w7 ⟨An, cn, rfl, -, b7⟩
              have V7 := Lib.hid (And.intro (belowStep HV.out.1.below b7) (And.intro (HV.out.2.any.later b7) (And.intro (HV.out.1.il.later b7) (And.intro (Nat.lt_of_lt_of_le HV.out.1.b.1 b7.size) (Nat.le_trans HV.out.1.below.size b7.size)))))
              clear b7 C4 HV y1 k1 j1
              go_upto_region 27 with fail
              refine at_world (fun Z => Below w.heap.size w Z ∧ StM Z (.slice As ns cs) (kl.map mst) ∧ KyS Z (fun b => b < g) (.slice Al nl cl) kl ∧ Blk Z (w7.heap.size + 1) #[.map none] ∧ g < w7.heap.size + 1 ∧ w.heap.size ≤ w7.heap.size + 1) ⟨belowStep V7.out.1 (belPush (belAlloc _ _) _), V7.out.2.1.later (belPush (belAlloc _ _) _), V7.out.2.2.1.later (belPush (belAlloc _ _) _), blk_second _ _ _ _ _, by have := V7.out.2.2.2; omega, by have := V7.out.2.2.2; omega⟩ ?_
              obtain ⟨G, hG⟩ : ∃ G, w7.heap.size + 1 = G := ⟨_, rfl⟩
              rw [hG]
              clear hG
              intro Z hZ
              have VZ := Lib.hid hZ
              clear hZ V7
              obtain ⟨y1, k1, j1⟩ := (show _ from VZ.out.2.2.2.1)
              have C6 := Lib.hid (set_F (bookS_nil Z (fun b => G < b)) hw VZ.out.2.1 (by have := NN.out.2.1; simp; omega) (by decide) (by decide))
              go_wp2_with fail
              refine C6.out.mono ?_
              rintro e w8 ⟨q8, x8, rfl, hb8, b8⟩
              have V8 := Lib.hid (And.intro (belowStep VZ.out.1 b8) (And.intro (VZ.out.2.2.1.later b8) (And.intro (VZ.out.2.2.2.1.later b8 VZ.out.2.2.2.1.1) (And.intro (hb8.mono (S' := fun b => G < b) fun b hb => by have := VZ.out.2.2.2.1.1; rcases hb with hb | hb <;> omega) VZ.out.2.2.2.2))))
              clear hb8 b8 C6 VZ y1 k1 j1
              obtain ⟨y1, k1, j1⟩ := (show _ from V8.out.2.2.1)
              go_upto_region 28 with fail
              refine at_world (fun U => Below w.heap.size w U ∧ KyV U (.slice Al nl cl) kl ∧ Blk U G #[.map q8] ∧ BookF U (.map q8) _ _ _) ⟨V8.out.1.setCell (p := ⟨G, 0, none⟩) V8.out.2.2.2.2.2 _, (V8.out.2.1.far (p := ⟨G, 0, none⟩) (by have := V8.out.2.2.2.2.1; show ¬ G < g; omega) _).any, by have b := V8.out.2.2.1.set_ 0 (by simp) (.map q8); simpa using b, (V8.out.2.2.2.1.far (p := ⟨G, 0, none⟩) (Nat.lt_irrefl _) _).any⟩ ?_
              intro U hU
              have VU := Lib.hid hU
              clear hU V8 y1 k1 j1
              obtain ⟨y1, k1, j1⟩ := (show _ from VU.out.2.2.1)
              have C7 := Lib.hid (Expand_any VU.out.2.2.2 hw)
              have hex : exX (setF (fun _ => none) nm (kl.map mst)) ([] ++ [(nm, x8)]).length [] nm 0 [] = (0, kl.length, kl) := by
                have h := exX_step (M := kl.map mst) (F := setF (fun _ => none) nm (kl.map mst)) (op := []) (nm := nm) (t := 0) (ks := []) (by simp [setF]) (by simp) 0
                show exX _ (0 + 1) [] nm 0 [] = _
                rw [h, loopX_keys _ kl 0 [] (by have := NN.out.2.1; omega)]
                simp
              rw [hex] at C7
              clear hex
              go_wp2_with fail
              refine C7.out.mono ?_
              rintro e w9 ⟨⟨A9, n9, c9, rfl, h9, -⟩, b9⟩
              have H9 := Lib.hid (h9 rfl).1
              have V9 := Lib.hid (And.intro (belowStep VU.out.1 b9) (VU.out.2.1.later b9))
              clear h9 b9 C7 VU y1 k1 j1
              have C8 := Lib.hid (samek_yes (ks := kl) H9.out V9.out.2 (by have := NN.out.2.1; omega) (fun y hy => by have := tl.out y hy; omega))
              have CA := Lib.hid (fun X => awake_yes X)
              go_wp2_with (first | (go_at_call 9; refine (CA.out _).mono ?_; rintro e w11 ⟨rfl, bel11⟩) | (go_at_call 15; refine C8.out.mono ?_; rintro e w12 ⟨rfl, q12, rfl⟩))
              go_ret
              exact ⟨rfl, belowStep (below_drewN V9.out.1 _) bel11⟩
end Go.Proofs.Ytgdfcojgifgjcaa

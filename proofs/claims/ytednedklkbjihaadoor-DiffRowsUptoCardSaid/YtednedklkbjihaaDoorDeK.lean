/- diff: DiffRows' walk. -/
import Derived.Test.YtednedklkbjihaaDoorDeJ
namespace Go.Proofs.YtednedklkbjihaaDoor
open Go.RowKit
set_option linter.unusedVariables false
set_option linter.unusedSimpArgs false
set_option maxRecDepth 100000

def Ty (B : Nat) (G : Nat → Cl) : Prop := ∀ c, (G c).1.size ≤ B
theorem ty_upd {B : Nat} {G : Nat → Cl} (h : Ty B G) (c : Nat) (x : Cl) (hx : x.1.size ≤ B) : Ty B (upd G c x) := by
  intro j
  unfold upd
  split
  · exact hx
  · exact h j
theorem ty_loose {B : Nat} {G : Nat → Cl} (h : Ty B G) (h1 : 1 ≤ B) (c : Nat) : Ty B (looseG G c) := by
  have hb : blank.1.size ≤ B := h1
  unfold looseG
  refine ty_upd ?_ c blank hb
  split
  · exact ty_upd h _ _ hb
  · split
    · exact ty_upd h _ _ hb
    · exact h
theorem ty_er {B : Nat} {G : Nat → Cl} (h : Ty B G) (h1 : 1 ≤ B) (c : Nat) : ∀ k, Ty B (er G c k)
  | 0 => h
  | k + 1 => ty_loose (ty_er h h1 c k) h1 _
theorem ty_put {B : Nat} {G : Nat → Cl} (h : Ty B G) (h1 : 1 ≤ B) (c : Nat) (x : Cl) (hx : x.1.size ≤ B) : Ty B (putG G c x) := by
  unfold putG
  split
  · exact ty_upd (ty_upd (ty_loose (ty_loose h h1 _) h1 _) _ _ hx) _ _ (Nat.zero_le _)
  · exact ty_upd (ty_loose h h1 _) _ _ hx
theorem tx_updR {B : Nat} {F : Nat → Nat → Cl} (h : Tx B F) (r : Nat) {G : Nat → Cl} (hG : Ty B G) : Tx B (updR F r G) := by
  intro r' c
  unfold updR
  split
  · exact hG c
  · exact h r' c
theorem tx_deal {B : Nat} {R n : Nat} {F : Nat → Nat → Cl} (h : Tx B F) (h1 : 1 ≤ B) (d : Dd) (hd : d.t.size ≤ B) : Tx B (dealF R n F d) := by
  unfold dealF
  split
  · unfold eraF
    split
    · exact tx_updR h _ (ty_er (h _) h1 _ _)
    · exact h
  · unfold putF
    split
    · exact tx_updR h _ (ty_put (h _) h1 _ _ hd)
    · exact h
theorem tx_deals {B : Nat} {R n : Nat} {D : Nat → Dd} (h1 : 1 ≤ B) : ∀ k, (∀ i, i < k → (D i).t.size ≤ B) → Tx B (dealsF R n D k)
  | 0, _ => fun r c => h1
  | k + 1, h => tx_deal (tx_deals h1 k fun i hi => h i (by omega)) h1 _ (h k (by omega))

def low9 (z : Int) : Nat := (BitVec.ofInt 64 z &&& BitVec.ofInt 64 511).toNat
theorem low9_le (z : Int) : low9 z ≤ 511 := by
  unfold low9
  rw [BitVec.toNat_and]
  exact Nat.le_trans Nat.and_le_right (by decide)
theorem low9_bits (z : Int) : bits .and .i64 z 511 = (low9 z : Int) := by
  have h := low9_le z
  show IntKind.i64.wrap ((BitVec.ofInt 64 z &&& BitVec.ofInt 64 511).toNat : Int) = _
  exact IntWalk.i64_in _ (by unfold low9 at h; omega)

/-- Where the cursor is. -/
def At (W : World) (p q : Int) (X : World) : Prop := Below W.heap.size W X ∧ Blk X W.heap.size #[.int .i64 p, .int .i64 q]
theorem At.later {W X Y : World} {p q : Int} (h : At W p q X) (hb : Below X.heap.size X Y) : At W p q Y := ⟨h.1.trans (hb.mono h.1.size), h.2.later hb h.2.1⟩
theorem At.set0 {W X : World} {p q : Int} (h : At W p q X) (p' : Int) : At W p' q (X.setCell ⟨W.heap.size, 0, none⟩ (.int .i64 p')) := ⟨h.1.setCell (Nat.le_refl _) _, h.2.set_ 0 (by simp) _⟩
theorem At.set1 {W X : World} {p q : Int} (h : At W p q X) (q' : Int) : At W p q' (X.setCell ⟨W.heap.size, 1, none⟩ (.int .i64 q')) := ⟨h.1.setCell (Nat.le_refl _) _, h.2.set_ 1 (by simp) _⟩

set_option maxHeartbeats 8000000 in
theorem walk_DiffRows (W : World) (hT : TabW W.heap.size W) (rows cols : Int) (A : Option Addr) (n c : Nat) (D : Nat → Dd) (hn : n ≤ c) (hc : c ≤ maxLen) (hD : ∀ i, i < n → DeedAt W A i (D i)) (hDs : ∀ i, i < n → (D i).t.size ≤ 1048576)
    (A' : Option Addr) (n' c' : Nat) (D' : Nat → Dd) (hn' : n' ≤ c') (hc' : c' ≤ maxLen) (hD' : ∀ i, i < n' → DeedAt W A' i (D' i)) (hDs' : ∀ i, i < n' → (D' i).t.size ≤ 1048576) (ar ac : Int) (kn : Bool) :
    Calls Tryd.prog 3 #[.int .i64 rows, .int .i64 cols, .slice A n c, .slice A' n' c', .agg #[.int .i64 ar, .int .i64 ac], .bool kn] W (YesO W) := by
  have HT := Lib.hid hT
  have HD := Lib.hid (And.intro hD (And.intro hn hc))
  have HD' := Lib.hid (And.intro hD' (And.intro hn' hc'))
  have hb1 := low3_bits rows
  have hb2 := low7_bits cols
  have hb3 := low9_bits ar
  have hb4 := low9_bits ac
  have hl1 := low3_le rows
  have hl2 := low7_le cols
  have hl3 := low9_le ar
  have hl4 := low9_le ac
  obtain ⟨R, hR⟩ : ∃ R, 1 + low3 rows = R := ⟨_, rfl⟩
  obtain ⟨m, hm⟩ : ∃ m, 2 + low7 cols = m := ⟨_, rfl⟩
  have eR : (1 : Int) + (low3 rows : Int) = (R : Int) := by omega
  have em : (2 : Int) + (low7 cols : Int) = (m : Int) := by omega
  obtain ⟨p, hp⟩ : ∃ p, low9 ar = p := ⟨_, rfl⟩
  obtain ⟨q, hq⟩ : ∃ q, low9 ac = q := ⟨_, rfl⟩
  rw [hp] at hb3 hl3
  rw [hq] at hb4 hl4
  have h1 : 1 ≤ R := by omega
  have h1' : R ≤ 4 := by omega
  have h2 : 2 ≤ m := by omega
  have h2' : m ≤ 9 := by omega
  have T1 := Lib.hid (short_of (F := dealsF R m D (min n 30)) (n := m) (R := R) (tx_deals (R := R) (n := m) (D := D') (B := 1048576) (by omega) (min n' 30) fun i hi => hDs' i (by omega)) h2' (Nat.le_refl _))
  have V0 := Lib.hid (show At W p q (W.alloc (.cells #[.int .i64 p, .int .i64 q] 24)) from ⟨(Below.refl _ _).alloc (Nat.le_refl _) _, blk_new _ _ _⟩)
  have M1 := Lib.hid (fun X hX => made_any R m h1 (by omega) h2 (by omega) A n c D X hn hc hX)
  have M2 := Lib.hid (fun X hX => made_any R m h1 (by omega) h2 (by omega) A' n' c' D' X hn' hc' hX)
  clear hT hD hD' hDs hDs' hR hm hp hq
  go_enter Tryd.func3, Tryd.ntmps3
  go_upto_region 5 with fail
  refine at_world (At W p q) V0.out ?_
  intro X0 hX0
  have V1 := Lib.hid hX0
  clear hX0 V0
  go_wp2_with fail
  refine (M1.out X0 fun i hi => (HD.out.1 i hi).below V1.out.1).mono ?_
  rintro e w1 ⟨g, cb, C, ob, Co, rb, Cr, Ma, Mb, rfl, P1, Q1, z1, z2, z3, b1⟩
  have H1 := Lib.hid (And.intro (V1.out.later b1) (And.intro P1 Q1))
  have hCo := Q1.cap
  clear P1 Q1 z1 z2 z3 b1 V1 M1
  go_wp2_with fail
  refine (M2.out w1 fun i hi => (HD'.out.1 i hi).below H1.out.1.1).mono ?_
  rintro e w2 ⟨g', cb', C', ob', Co', rb', Cr', Ma', Mb', rfl, P2, Q2, z1, z2, z3, b2⟩
  have H2 := Lib.hid (And.intro (H1.out.1.later b2) (And.intro (H1.out.2.1.later b2) (And.intro (H1.out.2.2.later b2) (And.intro P2 Q2))))
  have hCo' := Q2.cap
  clear P2 Q2 z1 z2 z3 b2 H1 M2 HD HD'
  obtain ⟨L, hL⟩ : ∃ L, rowsD (dealsF R m D (min n 30)) (dealsF R m D' (min n' 30)) m R = L := ⟨_, rfl⟩
  have C1 := Lib.hid (rows_any H2.out.2.1 H2.out.2.2.2.1 T1.out)
  have C2 := Lib.hid (fun X (hX : Below w2.heap.size w2 X) => rrows_any (H2.out.2.2.1.later hX) (H2.out.2.2.2.2.later hX) T1.out)
  have HSm := Lib.hid (show ∀ d ∈ L, Sm d from fun d hd => by
    rw [← hL] at hd
    have := rowsD_small _ _ m R d hd
    exact ⟨by omega, by omega, by omega⟩)
  have hLl : L.length ≤ 4 := by
    have := rowsD_len (dealsF R m D (min n 30)) (dealsF R m D' (min n' 30)) m R
    rw [hL] at this
    omega
  rw [hL] at C1 C2
  clear hL T1
  go_wp2_with fail
  refine C1.out.mono ?_
  rintro e w3 ⟨A3, n3, c3, rfl, o3, b3⟩
  have hn3 := own_count encD_len (by omega) o3
  have H3 := Lib.hid (And.intro (H2.out.1.later b3) (And.intro b3 ((LiV.own encD_len (by omega) o3).mono (S' := fun _ => True) fun _ _ => trivial)))
  clear o3 b3 C1
  go_wp2_with fail
  refine (C2.out w3 H3.out.2.1).mono ?_
  rintro e w4 ⟨A4, n4, c4, rfl, o4, b4⟩
  have hn4 := own_count encD_len (by omega) o4
  have H4 := Lib.hid (And.intro (H3.out.1.later b4) (And.intro (H3.out.2.2.later b4) ((LiV.own encD_len (by omega) o4).mono (S' := fun _ => True) fun _ _ => trivial)))
  clear o4 b4 C2 H3 H2
  obtain ⟨N, hN⟩ : ∃ N, L.length = N := ⟨_, rfl⟩
  have HN := Lib.hid hN
  rw [hN] at hn3 hn4 hLl
  subst hn3
  subst hn4
  clear hN
  have hc3 := H4.out.2.1.parts.2.2.2
  have hc4 := H4.out.2.2.parts.2.2.2
  rw [HN.out] at hc3 hc4
  obtain ⟨hc3, hm3⟩ := hc3
  obtain ⟨hc4, hm4⟩ := hc4
  have eN : ((N : Int) != (N : Int)) = false := by simp
  go_wp2_with fail
  go_loopw [19] (fun i wr => ∃ k : Nat, k ≤ N ∧ i = .int .i64 k ∧ ∃ nq, wr = w4.drewN nq) (fun i _ => N - (intOf i).toNat)
  case atStart => exact ⟨0, Nat.zero_le _, rfl, 0, rfl⟩
  case round =>
    obtain ⟨k, hk, rfl, nq, rfl⟩ := hrel
    by_cases hlt : k < N
    · have hkL : k < L.length := by rw [HN.out]; exact hlt
      obtain ⟨d, bb, o, hd, rfl, hbl, c0, c1, c2, c3', c4'⟩ := H4.out.2.1.parts.2.1.dr hkL
      obtain ⟨d', bb', o', hd', rfl, hbl', e0, e1, e2, e3, e4⟩ := H4.out.2.2.parts.2.1.dr hkL
      rw [hd] at hd'
      injection hd' with hd'
      subst hd'
      obtain ⟨dr, df, dt, dx, de⟩ := d
      dsimp only at c0 c1 c2 c3' c4' e0 e1 e2 e3 e4
      have g1 : (k : Int) < (N : Int) := by omega
      have g2 : (0 : Int) ≤ (k : Int) := by omega
      have f1 : ((dr : Int) != (dr : Int)) = false := by simp
      have f2 : ((df : Int) != (df : Int)) = false := by simp
      have f3 : ((dt : Int) != (dt : Int)) = false := by simp
      have f4 : (de != de) = false := by simp
      clear hd hbl hbl'
      go_wp2_with fail
      go_quiet (fail)
      go_wp2_with fail
      go_roundw
      case rel => exact ⟨k + 1, by omega, by go_num, _, rfl⟩
      case measure => simp [intOf]; omega
    · obtain rfl : k = N := by omega
      refine at_world (fun X => At W p q X ∧ LiV 5 encD X (fun _ => True) (.slice A3 k c3) L ∧ LiV 5 encD X (fun _ => True) (.slice A4 k c4) L) ⟨H4.out.1.later (selfDrew _ _), H4.out.2.1.later (selfDrew _ _), H4.out.2.2.later (selfDrew _ _)⟩ ?_
      intro X5 hX5
      have H5 := Lib.hid hX5
      clear hX5 H4
      have HS := Lib.hid (show ∀ X, Below X5.heap.size X5 X → (fun X => X.cell? ⟨W.heap.size, 0, none⟩ = some (.int .i64 p) ∧ X.cell? ⟨W.heap.size, 1, none⟩ = some (.int .i64 q)) X from fun X hX => ⟨(H5.out.1.later hX).2.2.1 0, (H5.out.1.later hX).2.2.1 1⟩)
      obtain ⟨l0, l1⟩ := HS.out X5 (Below.refl _ _)
      have G1 := Lib.hid (fun X (hX : Below X5.heap.size X5 X) => go_any kn p q R m X (tabW_next HT.out (Nat.le_refl _) (H5.out.1.later hX).1) (by omega) (by omega) (by omega) (by omega) (by omega) (by omega) (by omega) (by omega))
      have G2 := Lib.hid (fun X => rgo_any kn p q R m X (by omega) (by omega) (by omega) (by omega) (by omega) (by omega) (by omega) (by omega))
      have hgl := Lib.hid (goD_len (kn := kn) (a := (p : Int)) (b := (q : Int)) (c := (R : Int)) (d := (m : Int)) (by omega) (by omega) (by omega) (by omega) (by omega) (by omega) (by omega) (by omega))
      go_wp2_with fail
      go_region_held3 (fun X => X.cell? ⟨W.heap.size, 0, none⟩ = some (.int .i64 p) ∧ X.cell? ⟨W.heap.size, 1, none⟩ = some (.int .i64 q))
        (first | exact HS.out _ (by first | assumption | exact B8.out | exact B7.out | exact B6.out) | go_keep)
        (first
        | (go_at_call 10; refine (G1.out _ (by first | exact Below.refl _ _ | exact (Below.refl _ _).drew | exact selfDrew _ _)).mono ?_; rintro e w6 ⟨A6, n6, c6, rfl, l6, b6⟩; have B6 := Lib.hid (belowStep (A := X5) (by first | exact Below.refl _ _ | exact (Below.refl _ _).drew | exact selfDrew _ _) b6); have L6 := Lib.hid l6; clear l6 b6)
        | (go_at_call 11; refine (G2.out _).mono ?_; rintro e w7 ⟨A7, n7, c7, rfl, l7, b7⟩; have L7 := Lib.hid (And.intro (L6.out.later b7) l7); have B7 := Lib.hid (belowStep B6.out b7); clear l7 b7)
        | (go_at_call 9; refine (sameops_any _ _ _ _ _ _ _ _ (L7.out.1.mono fun _ _ => trivial) (L7.out.2.mono fun _ _ => trivial) (by have := hgl.out; omega)).mono ?_; rintro e w8 ⟨rfl, b8⟩; have B8 := Lib.hid (belowStep B7.out b8); clear b8))
      have HB8 := Lib.hid (show At W p q w8 ∧ LiV 5 encD w8 (fun _ => True) (.slice A3 k c3) L ∧ LiV 5 encD w8 (fun _ => True) (.slice A4 k c4) L from ⟨H5.out.1.later B8.out, H5.out.2.1.later B8.out, H5.out.2.2.later B8.out⟩)
      clear L6 L7 B6 B7 B8 HS l0 l1 G1 G2 hgl H5
      obtain ⟨s, hs⟩ : ∃ s, opsS (m : Int) ⟨[], p, q, kn⟩ L = s := ⟨_, rfl⟩
      have hsm := opsS_sm (m : Int) L ⟨[], p, q, kn⟩ 0 HSm.out ⟨by show (0 : Int) ≤ p; omega, by show (p : Int) ≤ _; omega, by show (0 : Int) ≤ q; omega, by show (q : Int) ≤ _; omega, Nat.zero_le _⟩
      rw [hs, HN.out] at hsm
      have O1 := Lib.hid (fun X (hX : Below w8.heap.size w8 X) => ops_any A3 c3 L (m : Int) p q kn X (tabW_next HT.out (Nat.le_refl _) (HB8.out.1.later hX).1) (HB8.out.2.1.later hX).parts.2.1 HSm.out (by rw [HN.out]; omega) (by rw [HN.out]; exact hc3) hm3 (by omega) (by omega) (by omega) (by omega))
      have O2 := Lib.hid (fun X (hX : Below w8.heap.size w8 X) => rops_any A4 c4 L (m : Int) p q kn X (HB8.out.2.2.later hX).parts.2.1 HSm.out (by rw [HN.out]; omega) (by rw [HN.out]; exact hc4) hm4 (by omega) (by omega) (by omega) (by omega))
      rw [hs, HN.out] at O1 O2
      clear hs
      obtain ⟨y1, k1, j1⟩ := HB8.out.1.2
      go_wp2_with fail
      refine (O1.out w8 (Below.refl _ _)).mono ?_
      rintro e w9 ⟨A9, n9, c9, rfl, l9, b9⟩
      have H9 := Lib.hid (And.intro (HB8.out.1.later b9) (And.intro l9 b9))
      clear l9 b9 y1 k1 j1 O1
      go_upto_region 19 with fail
      refine at_world (fun X => At W p q X ∧ LiV 4 encO X (fun _ => True) (.slice A9 n9 c9) s.L ∧ Below w8.heap.size w8 X ∧ Blk X w9.heap.size #[.int .i64 s.a, .int .i64 s.b]) ⟨H9.out.1.later (belAlloc _ _), (H9.out.2.1.later (belAlloc _ _)).mono fun _ _ => trivial, belPush H9.out.2.2 _, blk_new _ _ _⟩ ?_
      intro X10 hX10
      obtain ⟨B1, hB1⟩ : ∃ b, w9.heap.size = b := ⟨_, rfl⟩
      rw [hB1] at hX10 ⊢
      have H10 := Lib.hid hX10
      clear hX10 hB1 H9
      obtain ⟨y1, k1, j1⟩ := H10.out.1.2
      go_wp2_with fail
      refine (O2.out X10 H10.out.2.2.1).mono ?_
      rintro e w11 ⟨A11, n11, c11, rfl, l11, b11⟩
      have H11 := Lib.hid (And.intro (H10.out.1.later b11) (And.intro (H10.out.2.1.later b11) (And.intro l11 (H10.out.2.2.2.later b11 H10.out.2.2.2.1))))
      clear l11 b11 y1 k1 j1 O2 H10
      go_upto_region 20 with fail
      refine at_world (fun X => Below W.heap.size W X ∧ LiV 4 encO X (fun _ => True) (.slice A9 n9 c9) s.L ∧ LiV 4 encO X (fun _ => True) (.slice A11 n11 c11) s.L ∧ Blk X B1 #[.int .i64 s.a, .int .i64 s.b] ∧ Blk X w11.heap.size #[.int .i64 s.a, .int .i64 s.b]) ⟨(H11.out.1.later (belAlloc _ _)).1, H11.out.2.1.later (belAlloc _ _), (H11.out.2.2.1.later (belAlloc _ _)).mono fun _ _ => trivial, H11.out.2.2.2.alloc _, blk_new _ _ _⟩ ?_
      intro X12 hX12
      obtain ⟨B2, hB2⟩ : ∃ b, w11.heap.size = b := ⟨_, rfl⟩
      rw [hB2] at hX12 ⊢
      have H12 := Lib.hid hX12
      clear hX12 hB2 H11
      have S1 := Lib.hid (sameops_any _ _ _ _ _ _ _ X12 H12.out.2.1 H12.out.2.2.1 (by have := hsm.2.2.2.2; omega))
      go_wp2_with fail
      refine S1.out.mono ?_
      rintro e w13 ⟨rfl, b13⟩
      have H13 := Lib.hid (And.intro (belowStep H12.out.1 b13) (And.intro (H12.out.2.2.2.1.later b13 H12.out.2.2.2.1.1) (H12.out.2.2.2.2.later b13 H12.out.2.2.2.2.1)))
      clear b13 H12 S1
      obtain ⟨y1, k1, j1⟩ := H13.out.2.1
      obtain ⟨y2, k2, j2⟩ := H13.out.2.2
      have f1 : (s.a == s.a) = true := by simp
      have f2 : (s.b == s.b) = true := by simp
      have f3 : (s.kn == s.kn) = true := by simp
      go_wp2_with fail
      refine (awakeD_yes w13).mono ?_
      rintro e w14 ⟨rfl, b14⟩
      have H14 := Lib.hid (belowStep H13.out.1 b14)
      clear b14 H13 y1 k1 j1 y2 k2 j2
      go_wp2_with fail
      go_ret
      exact ⟨rfl, H14.out⟩
end Go.Proofs.YtednedklkbjihaaDoor

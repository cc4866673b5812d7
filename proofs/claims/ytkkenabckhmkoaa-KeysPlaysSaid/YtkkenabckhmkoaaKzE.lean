/- keys: behind a tick all is as from the beginning on. -/
import Derived.Test.YtkkenabckhmkoaaKzC
import Derived.Test.YtkkenabckhmkoaaKrZ
namespace Go.Proofs.Ytkkenabckhmkoaa
open Go.RowKit
set_option linter.unusedVariables false
set_option linter.unusedSimpArgs false
set_option maxRecDepth 100000

theorem blk_kept {X0 X : World} {g q : Nat} {cs : Array Value} (h : Blk X0 q cs) (hk : ∀ b, b < X0.heap.size → b ≠ g → X.heap[b]? = X0.heap[b]?) (hs : X0.heap.size ≤ X.heap.size) (hne : q ≠ g) : Blk X q cs :=
  ⟨Nat.lt_of_lt_of_le h.1 hs, fun j => (World.cell?_of_block (a := ⟨q, j, none⟩) (hk q h.1 hne)).trans (h.2.1 j), fun j => (World.frozen?_of_block (a := ⟨q, j, none⟩) (hk q h.1 hne)).trans (h.2.2 j)⟩
theorem ps_put {w X : World} {g q : Nat} {s s' : KS} {T U : Option Addr} (h : PS w q s' U X) (hb : Blk X g (psC s T)) (hne : g ≠ q) (hw : w.heap.size ≤ g) (a0 a1 a2 a3 a4 a5 a6 a7 a8 : Value) : PS w q s' U (put9 X g a0 a1 a2 a3 a4 a5 a6 a7 a8) :=
  ⟨put9_low h.below hw _ _ _ _ _ _ _ _ _, put9_far h.p hne _ _ _ _ _ _ _ _ _, h.old, chain_ps hb (put9_size _ _ _ _ _ _ _ _ _ _ _) (fun _ h => put9_heap _ _ _ _ _ _ _ _ _ _ _ h) h.chain⟩
theorem PQ.later {w X0 X Y : World} {g gq : Nat} {s s' : KS} {T T' : Option Addr} {v : Value} {ks : List Ky} (h : PQ w X0 g gq s s' T T' v ks X) (hb : Below X.heap.size X Y) : PQ w X0 g gq s s' T T' v ks Y :=
  ⟨h.ps.later hb, h.q.later hb h.q.1, h.ne, h.chain.later hb, h.l.later hb, belowStep h.since hb⟩
/-- Two parsers, both steps taken: the first one stored. -/
theorem duo_one {w X0 X1 Z : World} {g z gq gq2 : Nat} {s s' : KS} {T U T6 T7 : Option Addr} {v6 v7 : Value} {ks : List Ky} (h : PQ w X0 g gq s s' T T6 v6 ks Z) (k : PQ w X1 z gq2 s s' U T7 v7 ks Z) (hgz : g < z) (a0 a1 a2 a3 a4 a5 a6 a7 a8 : Value) (ha : a0 = .int .i64 s'.w ∧ a1 = .int .u8 s'.d.h0 ∧ a2 = .int .u8 s'.d.h1 ∧ a3 = .int .u8 s'.d.h2 ∧ a4 = .int .i64 s'.d.n ∧ a5 = .bool s'.m ∧ a6 = .string s'.row ∧ a7 = .pointer T6 ∧ a8 = .int .i64 s'.cl) :
    PS w g s' T6 (put9 Z g a0 a1 a2 a3 a4 a5 a6 a7 a8) ∧ PS w z s U (put9 Z g a0 a1 a2 a3 a4 a5 a6 a7 a8) ∧ Blk (put9 Z g a0 a1 a2 a3 a4 a5 a6 a7 a8) gq2 (psC s' T7) ∧ Chain (put9 Z g a0 a1 a2 a3 a4 a5 a6 a7 a8) T7 s'.tx ∧ KyW (put9 Z g a0 a1 a2 a3 a4 a5 a6 a7 a8) v6 ks ∧ KyW (put9 Z g a0 a1 a2 a3 a4 a5 a6 a7 a8) v7 ks := by
  obtain ⟨rfl, rfl, rfl, rfl, rfl, rfl, rfl, rfl, rfl⟩ := ha
  have hne : g ≠ z := by omega
  have hne2 : g ≠ gq2 := by have := k.ne; omega
  exact ⟨(pn_put h).ps, ps_put k.ps h.ps.p hne h.ps.old _ _ _ _ _ _ _ _ _, put9_far k.q hne2 _ _ _ _ _ _ _ _ _, chain_ps h.ps.p (put9_size _ _ _ _ _ _ _ _ _ _ _) (fun _ h => put9_heap _ _ _ _ _ _ _ _ _ _ _ h) k.chain, kyW_ps h.l h.ps.p _ _ _ _ _ _ _ _ _, kyW_ps k.l h.ps.p _ _ _ _ _ _ _ _ _⟩
/-- The second one stored. -/
theorem duo_two {w Z : World} {g z : Nat} {s s' : KS} {U T6 T7 : Option Addr} {v6 v7 : Value} {ks : List Ky} (h1 : PS w g s' T6 Z) (h2 : PS w z s U Z) (h4 : Chain Z T7 s'.tx) (h5 : KyW Z v6 ks) (h6 : KyW Z v7 ks) (hgz : g < z) (a0 a1 a2 a3 a4 a5 a6 a7 a8 : Value) (ha : a0 = .int .i64 s'.w ∧ a1 = .int .u8 s'.d.h0 ∧ a2 = .int .u8 s'.d.h1 ∧ a3 = .int .u8 s'.d.h2 ∧ a4 = .int .i64 s'.d.n ∧ a5 = .bool s'.m ∧ a6 = .string s'.row ∧ a7 = .pointer T7 ∧ a8 = .int .i64 s'.cl) :
    PS w g s' T6 (put9 Z z a0 a1 a2 a3 a4 a5 a6 a7 a8) ∧ PS w z s' T7 (put9 Z z a0 a1 a2 a3 a4 a5 a6 a7 a8) ∧ KyW (put9 Z z a0 a1 a2 a3 a4 a5 a6 a7 a8) v6 ks ∧ KyW (put9 Z z a0 a1 a2 a3 a4 a5 a6 a7 a8) v7 ks := by
  obtain ⟨rfl, rfl, rfl, rfl, rfl, rfl, rfl, rfl, rfl⟩ := ha
  have hne : z ≠ g := by omega
  exact ⟨ps_put h1 h2.p hne h2.old _ _ _ _ _ _ _ _ _, ⟨put9_low h2.below h2.old _ _ _ _ _ _ _ _ _, put9_blk h2.p _ _ _ _ _ _ _ _ _, h2.old, chain_ps h2.p (put9_size _ _ _ _ _ _ _ _ _ _ _) (fun _ h => put9_heap _ _ _ _ _ _ _ _ _ _ _ h) h4⟩, kyW_ps h5 h2.p _ _ _ _ _ _ _ _ _, kyW_ps h6 h2.p _ _ _ _ _ _ _ _ _⟩
theorem decD_small (l : List Int) : (decD l).length ≤ 2 * l.length + 1 := by
  have h := runD_len l
  unfold decD
  rw [List.length_append]
  have := endD_len (runD l).1
  omega
theorem feedK_small (s : KS) (b : Int) (n : Nat) (hn : s.tx.length ≤ n) (hn2 : n ≤ 10000) : (feedK s b).2.length ≤ 1000000 ∧ ∀ y ∈ (feedK s b).2, y.t.length ≤ 1000000 := by
  have hb : ∀ ks : List Ky, Bare ks → ks.length ≤ 4 → ks.length ≤ 1000000 ∧ ∀ y ∈ ks, y.t.length ≤ 1000000 := fun ks h h4 => ⟨by omega, fun y hy => by rw [h y hy]; exact Nat.zero_le _⟩
  have ha : ∀ d m b, (aloneK d m b).2.length ≤ 1000000 ∧ ∀ y ∈ (aloneK d m b).2, y.t.length ≤ 1000000 := fun d m b => hb _ (aloneK_bare d m b) (by have := aloneK_len d m b; omega)
  have ho : ∀ b, (oddK b).2.length ≤ 1000000 ∧ ∀ y ∈ (oddK b).2, y.t.length ≤ 1000000 := fun b => hb _ (fun y hy => by
    rcases List.mem_cons.1 hy with rfl | h
    · rfl
    · exact aloneK_bare _ _ _ y h) (by have := aloneK_len DS.zero false b; unfold oddK; simp only [List.length_cons]; omega)
  have hd : ∀ d m b, (decodeK d m b).2.length ≤ 1000000 ∧ ∀ y ∈ (decodeK d m b).2, y.t.length ≤ 1000000 := fun d m b => hb _ (charsK_bare _ _) (by have := stepD_len d b; simp only [decodeK, charsK_len]; omega)
  have h1 : ∀ y : Ky, y.t = [] → [y].length ≤ 1000000 ∧ ∀ z ∈ [y], z.t.length ≤ 1000000 := fun y h => ⟨by simp, fun z hz => by rw [List.mem_singleton.1 hz, h]; exact Nat.zero_le _⟩
  have h0 : ([] : List Ky).length ≤ 1000000 ∧ ∀ z ∈ ([] : List Ky), z.t.length ≤ 1000000 := ⟨by simp, fun z hz => by simp at hz⟩
  have hnm : ∀ x, (namedK x).t = [] := fun x => by unfold namedK; split <;> rfl
  unfold feedK
  split
  · unfold escapedK
    split
    · exact h0
    split
    · exact h0
    split
    · exact h1 _ rfl
    split
    · exact h1 _ rfl
    · exact hd _ _ _
  split
  · unfold inRowK
    split
    · exact ho _
    split
    · exact h0
    split
    · exact h0
    split
    · exact h1 _ (hnm _)
    split
    · exact h1 _ (hnm _)
    · exact h1 _ rfl
  split
  · unfold asLetterK
    split
    · exact ho _
    · exact h1 _ (hnm _)
  split
  · unfold inPasteK
    split
    · exact h0
    · refine ⟨by simp, fun z hz => ?_⟩
      rw [List.mem_singleton.1 hz]
      have := decD_small ((b :: s.tx).reverse.take ((b :: s.tx).length - 6))
      have h2 : ((b :: s.tx).reverse.take ((b :: s.tx).length - 6)).length ≤ s.tx.length + 1 := by rw [List.length_take]; simp; omega
      show (decD _).length ≤ _
      omega
  · exact ha _ _ _
theorem ps_but {w X Y : World} {g gr : Nat} {s r : KS} {T : Option Addr} (h : PS w g s T X) (hr : Blk X gr (rOf r)) (hB : But gr X Y) (hne : g ≠ gr) (hw : w.heap.size ≤ gr) : PS w g s T Y :=
  ⟨h.below.trans (hB.low hw h.below.size), blk_but h.p hB hne, h.old, chain_but hr hB h.chain⟩

set_option maxHeartbeats 16000000 in
theorem walk_KeysRests_at (s00 m00 : ByteArray) (hs9 : (s00.size : Int) ≤ 9223372036854775807) (hm9 : (m00.size : Int) ≤ 9223372036854775807) (w : World) :
    Calls Try.prog 6 #[.string s00, .string m00] w (Yes w) := by
  have HW := Lib.hid awake_yes
  go_enter Try.func6, Try.ntmps6
  have d0 : decide ((200 : Int) < (s00.size : Int)) = decide (200 < s00.size) := by rw [decide_eq_decide]; omega
  obtain ⟨bb, hbb⟩ : ∃ bb, decide (200 < s00.size) = bb := ⟨_, rfl⟩
  rw [hbb] at d0
  go_upto_if 18 with fail
  go_cut [0] (fun v0 wx => ∃ s' : ByteArray, v0 = .string s' ∧ s'.size ≤ 200 ∧ w = wx)
  case first =>
    cases bb
    case true =>
      have hbig : 200 < s00.size := by simpa using hbb
      go_wp2_with fail
      go_meet
      exact ⟨s00.extract 0 200, rfl, by rw [ByteArray.size_extract]; omega, rfl⟩
    case false =>
      have hbig : ¬ 200 < s00.size := by simpa using hbb
      go_wp2_with fail
      go_meet
      exact ⟨s00, rfl, by omega, rfl⟩
  case rest =>
    obtain ⟨s, rfl, hsz, rfl⟩ := hcut
    clear hs9 d0 hbb bb s00
    have d0 : decide ((100 : Int) < (m00.size : Int)) = decide (100 < m00.size) := by rw [decide_eq_decide]; omega
    obtain ⟨bb, hbb⟩ : ∃ bb, decide (100 < m00.size) = bb := ⟨_, rfl⟩
    rw [hbb] at d0
    go_upto_if 23 with fail
    go_cut [1] (fun v0 wx => ∃ s' : ByteArray, v0 = .string s' ∧ s'.size ≤ 100 ∧ w = wx)
    case first =>
      cases bb
      case true =>
        have hbig : 100 < m00.size := by simpa using hbb
        go_wp2_with fail
        go_meet
        exact ⟨m00.extract 0 100, rfl, by rw [ByteArray.size_extract]; omega, rfl⟩
      case false =>
        have hbig : ¬ 100 < m00.size := by simpa using hbb
        go_wp2_with fail
        go_meet
        exact ⟨m00, rfl, by omega, rfl⟩
    case rest =>
      obtain ⟨S2, rfl, hsz2, rfl⟩ := hcut
      clear hm9 d0 hbb bb m00
      go_upto_region 7 with fail
      refine at_world (fun X => (PS w w.heap.size KS.zero none X ∧ Blk X (w.heap.size + 1) (rOf KS.zero))) ⟨(ps_start (Below.refl _ _) 28).later (belAlloc _ _), by have h := blk_new (w.alloc (.cells zeroC 28)) (rC 0 ⟨#[]⟩ ⟨#[]⟩ false) 31; rw [World.size_alloc] at h; exact h⟩ ?_
      intro X hX
      have V0 := Lib.hid hX
      clear hX
      go_wp2_with fail
      go_loopw [7] (fun i wr => ∃ (k : Nat) (R : KS) (T : Option Addr), k ≤ s.size ∧ i = .int .i64 (k : Nat) ∧ Hid ((PS w w.heap.size R T wr ∧ Blk wr (w.heap.size + 1) (rOf R)) ∧ Good R ∧ R.tx.length ≤ k)) (fun i _ => s.size - (intOf i).toNat)
      case atStart => exact ⟨0, KS.zero, none, Nat.zero_le _, rfl, V0.out, good_zero, Nat.zero_le _⟩
      case round =>
        obtain ⟨k, R, T, hk, rfl, HI⟩ := hrel
        clear V0
        by_cases hlt : k < s.size
        · have hlts : (k : Int) < (s.size : Int) := by omega
          have hb0 : 0 ≤ (s[k].toNat : Int) := by omega
          have hb1 : (s[k].toNat : Int) ≤ 255 := by have := s[k].toNat_lt; omega
          have htx := HI.out.2.2
          have hgd := good_feed R HI.out.2.1 (s[k].toNat : Int) hb0 hb1 (by omega)
          have htf := tx_feed R (s[k].toNat : Int)
          obtain ⟨⟨⟨rw_, ⟨x, y, z, nd⟩, rm, rrow, rtx, rcl⟩, ks⟩, hfd⟩ : ∃ r, feedK R (s[k].toNat : Int) = r := ⟨_, rfl⟩
          have CF := Lib.hid (show ∀ Z, PS w w.heap.size R T Z → Below wr.heap.size wr Z → Calls Try.prog 7 #[psV R T, .int .u8 (s[k].toNat : Int)] Z (Tells (⟨rw_, ⟨x, y, z, nd⟩, rm, rrow, rtx, rcl⟩, ks) Z) from fun Z hZ _ => by rw [← hfd]; exact feed_any R T _ hb0 hb1 HI.out.2.1.1 Z hZ.chain)
          have CR := Lib.hid (show ∀ Z, Blk Z (w.heap.size + 1) (rOf R) → Calls Try.prog 8 #[.pointer (some ⟨w.heap.size + 1, 0, none⟩), .int .u8 (s[k].toNat : Int)] Z (TellsR (⟨rw_, ⟨x, y, z, nd⟩, rm, rrow, rtx, rcl⟩, ks) (w.heap.size + 1) Z) from fun Z hZ => by rw [← hfd]; exact rfeed_any R HI.out.2.1 _ hb0 hb1 _ Z hZ)
          rw [hfd] at hgd htf
          have HF := Lib.hid (And.intro hgd (show (⟨rw_, ⟨x, y, z, nd⟩, rm, rrow, rtx, rcl⟩ : KS).tx.length ≤ k + 1 by dsimp only at htf ⊢; omega))
          have VX := Lib.hid (show PS w w.heap.size R T wr from HI.out.1.1)
          have VR := Lib.hid (show Blk wr (w.heap.size + 1) (rOf R) from HI.out.1.2)
          clear hfd hgd htf htx HI
          obtain ⟨rv, hrv⟩ : ∃ rv, rOf R = rv := ⟨_, rfl⟩
          have HRV := Lib.hid hrv
          obtain ⟨sw, ⟨h0, h1, h2, dn⟩, sm, srow, stx, scl⟩ := R
          have HS := Lib.hid (show ∀ Z, Below wr.heap.size wr Z → SO w.heap.size ⟨sw, ⟨h0, h1, h2, dn⟩, sm, srow, stx, scl⟩ T Z from fun Z hZ => so_blk (VX.out.later hZ).p)
          clear hrv
          go_upto_region 10 with fail
          go_cut [8, 9] (fun v5 v6 wx => ∃ (gq : Nat) (T6 A6 : Option Addr) (n6 c6 : Nat), v5 = .pointer (some ⟨gq, 0, none⟩) ∧ v6 = .slice A6 n6 c6 ∧ n6 = ks.length ∧ Hid (PQ w wr w.heap.size gq ⟨sw, ⟨h0, h1, h2, dn⟩, sm, srow, stx, scl⟩ ⟨rw_, ⟨x, y, z, nd⟩, rm, rrow, rtx, rcl⟩ T T6 (.slice A6 n6 c6) ks wx))
          case first =>
            refine wp_region_held (S := SO w.heap.size ⟨sw, ⟨h0, h1, h2, dn⟩, sm, srow, stx, scl⟩ T) (by kernel_rfl) ?_
            change wpAnyH _ _ _ _ _ _ _ _ (World.drew _)
            refine wpAnyH_take (i := 0) (oi := { dst := some 35, op := Go.Op.load 28 (Go.Operand.tmp 5), type := 28, pos := "law.go:115", after := #[], guard := none }) (v := ?_) rfl (by kernel_rfl) (by kernel_rfl) (by kernel_rfl) (fun _ _ _ h => h) (Or.inl ⟨by rfl, ?_⟩) (by exact HS.out _ (Below.refl wr.heap.size wr).drew) ?_
            rotate_left
            · intro Z hZ; obtain ⟨p0, p1, p2, p3, p4, p5, p6, p7, p8⟩ := hZ; dsimp only at p0 p1 p2 p3 p4 p5 p6 p7 p8; go_simp; try with_reducible rfl
            simp only [Act.put, List.setIfInBounds_toArray, List.set_cons_zero, List.set_cons_succ]
            refine wpAnyH_take (i := 1) (oi := { dst := some 36, op := Go.Op.move (Go.Operand.tmp 0), type := 9, pos := "law.go:115", after := #[], guard := none }) (v := ?_) rfl (by kernel_rfl) (by kernel_rfl) (by kernel_rfl) (fun _ _ _ h => h) (Or.inl ⟨by rfl, ?_⟩) (by exact HS.out _ (Below.refl wr.heap.size wr).drew) ?_
            rotate_left
            · intro Z hZ; clear hZ; go_simp; try with_reducible rfl
            simp only [Act.put, List.setIfInBounds_toArray, List.set_cons_zero, List.set_cons_succ]
            refine wpAnyH_take (i := 2) (oi := { dst := some 37, op := Go.Op.move (Go.Operand.tmp 7), type := 3, pos := "law.go:115", after := #[], guard := none }) (v := ?_) rfl (by kernel_rfl) (by kernel_rfl) (by kernel_rfl) (fun _ _ _ h => h) (Or.inl ⟨by rfl, ?_⟩) (by exact HS.out _ (Below.refl wr.heap.size wr).drew) ?_
            rotate_left
            · intro Z hZ; clear hZ; go_simp; try with_reducible rfl
            simp only [Act.put, List.setIfInBounds_toArray, List.set_cons_zero, List.set_cons_succ]
            refine wpAnyH_take (i := 3) (oi := { dst := some 38, op := Go.Op.index 9 (Go.Operand.tmp 36) (Go.Operand.tmp 37), type := 5, pos := "law.go:115", after := #[{ on := 1, ground := Go.Ground.data }, { on := 2, ground := Go.Ground.data }], guard := none }) (v := ?_) rfl (by kernel_rfl) (by kernel_rfl) (by kernel_rfl) (fun _ _ _ h => h) (Or.inl ⟨by rfl, ?_⟩) (by exact HS.out _ (Below.refl wr.heap.size wr).drew) ?_
            rotate_left
            · intro Z hZ; clear hZ; go_simp; try with_reducible rfl
            simp only [Act.put, List.setIfInBounds_toArray, List.set_cons_zero, List.set_cons_succ]
            refine wpAnyH_all (rs := [4, 8]) (by kernel_rfl) (by simp) (List.forall_mem_cons.2 ⟨wpOp_some (o := { dst := some 39, op := Go.Op.call { callee := Go.Callee.value (Go.Operand.func 7), args := #[Go.Operand.tmp 35, Go.Operand.tmp 38], argTypes := #[28, 5] }, type := 34, pos := "law.go:115", after := #[{ on := 0, ground := Go.Ground.data }, { on := 3, ground := Go.Ground.data }], guard := none }) rfl (by rfl) (fun J hJ => ?_), (List.forall_mem_cons.2 ⟨wpOp_some (o := { dst := some 8, op := Go.Op.alloc 28, type := 0, pos := "law.go:115", after := #[], guard := none }) rfl (by rfl) (fun J hJ => ?_), (by simp)⟩)⟩)
            · go_simp; refine (CF.out _ (VX.out.later (by exact (Below.refl wr.heap.size wr).drew)) (by exact (Below.refl wr.heap.size wr).drew)).mono ?_; rintro e w6 ⟨T6, A6, n6, c6, rfl, ch, hk, hn, b6⟩; have V6 := Lib.hid (And.intro (VX.out.later (((Below.refl wr.heap.size wr).drew).trans b6)) (And.intro ch (And.intro hk (And.intro hn (((Below.refl wr.heap.size wr).drew).trans b6))))); clear ch hk hn b6; dsimp only; refine hJ _ _ ⟨by exact so_blk V6.out.1.p, ?_⟩; clear hJ J
              refine wpAnyH_take (i := 5) (oi := { dst := some 34, op := Go.Op.move (Go.Operand.tmp 39), type := 34, pos := "law.go:115", after := #[{ on := 4, ground := Go.Ground.data }], guard := none }) (v := ?_) rfl (by kernel_rfl) (by kernel_rfl) (by kernel_rfl) (fun _ _ _ h => h) (Or.inl ⟨by rfl, ?_⟩) (by exact so_blk V6.out.1.p) ?_
              rotate_left
              · intro Z hZ; clear hZ; go_simp; try with_reducible rfl
              simp only [Act.put, List.setIfInBounds_toArray, List.set_cons_zero, List.set_cons_succ]
              refine wpAnyH_take (i := 6) (oi := { dst := some 40, op := Go.Op.extract (Go.Operand.tmp 34) 0, type := 28, pos := "law.go:115", after := #[{ on := 5, ground := Go.Ground.data }], guard := none }) (v := ?_) rfl (by kernel_rfl) (by kernel_rfl) (by kernel_rfl) (fun _ _ _ h => h) (Or.inl ⟨by rfl, ?_⟩) (by exact so_blk V6.out.1.p) ?_
              rotate_left
              · intro Z hZ; clear hZ; go_simp; try with_reducible rfl
              simp only [Act.put, List.setIfInBounds_toArray, List.set_cons_zero, List.set_cons_succ]
              refine wpAnyH_take (i := 7) (oi := { dst := some 41, op := Go.Op.extract (Go.Operand.tmp 34) 1, type := 32, pos := "law.go:115", after := #[{ on := 5, ground := Go.Ground.data }, { on := 9, ground := Go.Ground.gcOnly Go.Departure.lateStores }], guard := none }) (v := ?_) rfl (by kernel_rfl) (by kernel_rfl) (by kernel_rfl) (fun _ _ _ h => h) (Or.inl ⟨by rfl, ?_⟩) (by exact so_blk V6.out.1.p) ?_
              rotate_left
              · intro Z hZ; clear hZ; go_simp; try with_reducible rfl
              simp only [Act.put, List.setIfInBounds_toArray, List.set_cons_zero, List.set_cons_succ]
              refine wpAnyH_all (rs := [8]) (by kernel_rfl) (by simp) (List.forall_mem_cons.2 ⟨wpOp_some (o := { dst := some 8, op := Go.Op.alloc 28, type := 0, pos := "law.go:115", after := #[], guard := none }) rfl (by rfl) (fun J hJ => ?_), (by simp)⟩)
              go_simp; refine hJ _ _ ⟨by exact so_blk (V6.out.1.later (belAlloc _ _)).p, ?_⟩; clear hJ J
              refine wpAnyH_all (rs := [9]) (by kernel_rfl) (by simp) (List.forall_mem_cons.2 ⟨wpOp_some (o := { dst := none, op := Go.Op.store 28 (Go.Operand.tmp 8) (Go.Operand.tmp 40), type := 0, pos := "law.go:115", after := #[{ on := 8, ground := Go.Ground.data }, { on := 6, ground := Go.Ground.data }, { on := 4, ground := Go.Ground.chain }, { on := 0, ground := Go.Ground.phase }, { on := 1, ground := Go.Ground.phase }, { on := 2, ground := Go.Ground.phase }, { on := 3, ground := Go.Ground.phase }, { on := 4, ground := Go.Ground.phase }, { on := 5, ground := Go.Ground.phase }, { on := 6, ground := Go.Ground.phase }, { on := 7, ground := Go.Ground.textOnly Go.Departure.lateStores }, { on := 8, ground := Go.Ground.phase }], guard := none }) rfl (by rfl) (fun J hJ => ?_), (by simp)⟩)
              obtain ⟨y6, r6, j6⟩ := (show _ from (blk_new w6 zeroC 28)); have q0 : (w6.alloc (.cells #[.int .i64 0, .int .u8 0, .int .u8 0, .int .u8 0, .int .i64 0, .bool false, .string ⟨#[]⟩, .pointer none, .int .i64 0] 28)).cell? ⟨w6.heap.size, 0, none⟩ = some (.int .i64 0) := r6 0; have q1 : (w6.alloc (.cells #[.int .i64 0, .int .u8 0, .int .u8 0, .int .u8 0, .int .i64 0, .bool false, .string ⟨#[]⟩, .pointer none, .int .i64 0] 28)).cell? ⟨w6.heap.size, 1, none⟩ = some (.int .u8 0) := r6 1; have q2 : (w6.alloc (.cells #[.int .i64 0, .int .u8 0, .int .u8 0, .int .u8 0, .int .i64 0, .bool false, .string ⟨#[]⟩, .pointer none, .int .i64 0] 28)).cell? ⟨w6.heap.size, 2, none⟩ = some (.int .u8 0) := r6 2; have q3 : (w6.alloc (.cells #[.int .i64 0, .int .u8 0, .int .u8 0, .int .u8 0, .int .i64 0, .bool false, .string ⟨#[]⟩, .pointer none, .int .i64 0] 28)).cell? ⟨w6.heap.size, 3, none⟩ = some (.int .u8 0) := r6 3; have q4 : (w6.alloc (.cells #[.int .i64 0, .int .u8 0, .int .u8 0, .int .u8 0, .int .i64 0, .bool false, .string ⟨#[]⟩, .pointer none, .int .i64 0] 28)).cell? ⟨w6.heap.size, 4, none⟩ = some (.int .i64 0) := r6 4; have q5 : (w6.alloc (.cells #[.int .i64 0, .int .u8 0, .int .u8 0, .int .u8 0, .int .i64 0, .bool false, .string ⟨#[]⟩, .pointer none, .int .i64 0] 28)).cell? ⟨w6.heap.size, 5, none⟩ = some (.bool false) := r6 5; have q6 : (w6.alloc (.cells #[.int .i64 0, .int .u8 0, .int .u8 0, .int .u8 0, .int .i64 0, .bool false, .string ⟨#[]⟩, .pointer none, .int .i64 0] 28)).cell? ⟨w6.heap.size, 6, none⟩ = some (.string ⟨#[]⟩) := r6 6; have q7 : (w6.alloc (.cells #[.int .i64 0, .int .u8 0, .int .u8 0, .int .u8 0, .int .i64 0, .bool false, .string ⟨#[]⟩, .pointer none, .int .i64 0] 28)).cell? ⟨w6.heap.size, 7, none⟩ = some (.pointer none) := r6 7; have q8 : (w6.alloc (.cells #[.int .i64 0, .int .u8 0, .int .u8 0, .int .u8 0, .int .i64 0, .bool false, .string ⟨#[]⟩, .pointer none, .int .i64 0] 28)).cell? ⟨w6.heap.size, 8, none⟩ = some (.int .i64 0) := r6 8; have f0 : (w6.alloc (.cells #[.int .i64 0, .int .u8 0, .int .u8 0, .int .u8 0, .int .i64 0, .bool false, .string ⟨#[]⟩, .pointer none, .int .i64 0] 28)).frozen? ⟨w6.heap.size, 0, none⟩ = false := j6 0; have f1 : (w6.alloc (.cells #[.int .i64 0, .int .u8 0, .int .u8 0, .int .u8 0, .int .i64 0, .bool false, .string ⟨#[]⟩, .pointer none, .int .i64 0] 28)).frozen? ⟨w6.heap.size, 1, none⟩ = false := j6 1; have f2 : (w6.alloc (.cells #[.int .i64 0, .int .u8 0, .int .u8 0, .int .u8 0, .int .i64 0, .bool false, .string ⟨#[]⟩, .pointer none, .int .i64 0] 28)).frozen? ⟨w6.heap.size, 2, none⟩ = false := j6 2; have f3 : (w6.alloc (.cells #[.int .i64 0, .int .u8 0, .int .u8 0, .int .u8 0, .int .i64 0, .bool false, .string ⟨#[]⟩, .pointer none, .int .i64 0] 28)).frozen? ⟨w6.heap.size, 3, none⟩ = false := j6 3; have f4 : (w6.alloc (.cells #[.int .i64 0, .int .u8 0, .int .u8 0, .int .u8 0, .int .i64 0, .bool false, .string ⟨#[]⟩, .pointer none, .int .i64 0] 28)).frozen? ⟨w6.heap.size, 4, none⟩ = false := j6 4; have f5 : (w6.alloc (.cells #[.int .i64 0, .int .u8 0, .int .u8 0, .int .u8 0, .int .i64 0, .bool false, .string ⟨#[]⟩, .pointer none, .int .i64 0] 28)).frozen? ⟨w6.heap.size, 5, none⟩ = false := j6 5; have f6 : (w6.alloc (.cells #[.int .i64 0, .int .u8 0, .int .u8 0, .int .u8 0, .int .i64 0, .bool false, .string ⟨#[]⟩, .pointer none, .int .i64 0] 28)).frozen? ⟨w6.heap.size, 6, none⟩ = false := j6 6; have f7 : (w6.alloc (.cells #[.int .i64 0, .int .u8 0, .int .u8 0, .int .u8 0, .int .i64 0, .bool false, .string ⟨#[]⟩, .pointer none, .int .i64 0] 28)).frozen? ⟨w6.heap.size, 7, none⟩ = false := j6 7; have f8 : (w6.alloc (.cells #[.int .i64 0, .int .u8 0, .int .u8 0, .int .u8 0, .int .i64 0, .bool false, .string ⟨#[]⟩, .pointer none, .int .i64 0] 28)).frozen? ⟨w6.heap.size, 8, none⟩ = false := j6 8; clear r6 j6; go_simp; refine hJ _ _ ⟨by exact so_blk (V6.out.1.later (belAlloc _ _)).p, ?_⟩; clear hJ J
              refine wpAnyH_take (i := 10) (oi := { dst := some 9, op := Go.Op.assign (Go.Operand.tmp 41), type := 32, pos := "law.go:115", after := #[{ on := 7, ground := Go.Ground.data }, { on := 9, ground := Go.Ground.chain }, { on := 0, ground := Go.Ground.phase }, { on := 1, ground := Go.Ground.phase }, { on := 2, ground := Go.Ground.phase }, { on := 3, ground := Go.Ground.phase }, { on := 4, ground := Go.Ground.phase }, { on := 5, ground := Go.Ground.phase }, { on := 6, ground := Go.Ground.phase }, { on := 7, ground := Go.Ground.phase }, { on := 8, ground := Go.Ground.phase }, { on := 9, ground := Go.Ground.phase }], guard := none }) (v := ?_) rfl (by kernel_rfl) (by kernel_rfl) (by kernel_rfl) (fun _ _ _ h => h) (Or.inl ⟨by rfl, ?_⟩) (by exact so_blk (V6.out.1.later (belAlloc _ _)).p) ?_
              rotate_left
              · intro Z hZ; clear hZ; go_simp; try with_reducible rfl
              simp only [Act.put, List.setIfInBounds_toArray, List.set_cons_zero, List.set_cons_succ]
              refine wpAnyH_done (by kernel_rfl) ?_ _
              go_wp2_with fail; go_meet; exact ⟨w6.heap.size, T6, A6, n6, c6, rfl, rfl, V6.out.2.2.2.1, Lib.hid (pq_new (s := ⟨sw, ⟨h0, h1, h2, dn⟩, sm, srow, stx, scl⟩) (s' := ⟨rw_, ⟨x, y, z, nd⟩, rm, rrow, rtx, rcl⟩) V6.out.1 V6.out.2.1 V6.out.2.2.1 V6.out.2.2.2.2 _)⟩
            · go_simp; refine hJ _ _ ⟨by exact HS.out _ ((Below.refl wr.heap.size wr).drew.alloc (Nat.le_refl _) _), ?_⟩; clear hJ J
              refine wpAnyH_all (rs := [4]) (by kernel_rfl) (by simp) (List.forall_mem_cons.2 ⟨wpOp_some (o := { dst := some 39, op := Go.Op.call { callee := Go.Callee.value (Go.Operand.func 7), args := #[Go.Operand.tmp 35, Go.Operand.tmp 38], argTypes := #[28, 5] }, type := 34, pos := "law.go:115", after := #[{ on := 0, ground := Go.Ground.data }, { on := 3, ground := Go.Ground.data }], guard := none }) rfl (by rfl) (fun J hJ => ?_), (by simp)⟩)
              go_simp; refine (CF.out _ (VX.out.later (((Below.refl wr.heap.size wr).drew).alloc (Nat.le_refl _) _)) (((Below.refl wr.heap.size wr).drew).alloc (Nat.le_refl _) _)).mono ?_; rintro e w6 ⟨T6, A6, n6, c6, rfl, ch, hk, hn, b6⟩; have V6 := Lib.hid (And.intro (VX.out.later ((((Below.refl wr.heap.size wr).drew).alloc (Nat.le_refl _) (.cells #[.int .i64 0, .int .u8 0, .int .u8 0, .int .u8 0, .int .i64 0, .bool false, .string ⟨#[]⟩, .pointer none, .int .i64 0] 28)).trans (b6.mono (by rw [World.size_alloc]; exact Nat.le_succ _)))) (And.intro ch (And.intro hk (And.intro hn ((((Below.refl wr.heap.size wr).drew).alloc (Nat.le_refl _) (.cells #[.int .i64 0, .int .u8 0, .int .u8 0, .int .u8 0, .int .i64 0, .bool false, .string ⟨#[]⟩, .pointer none, .int .i64 0] 28)).trans (b6.mono (by rw [World.size_alloc]; exact Nat.le_succ _))))))); have Z6 := Lib.hid ((blk_new wr.drew zeroC 28).later b6 (by rw [World.size_alloc]; exact Nat.lt_succ_self _)); clear ch hk hn b6; dsimp only; refine hJ _ _ ⟨by exact so_blk V6.out.1.p, ?_⟩; clear hJ J
              refine wpAnyH_take (i := 5) (oi := { dst := some 34, op := Go.Op.move (Go.Operand.tmp 39), type := 34, pos := "law.go:115", after := #[{ on := 4, ground := Go.Ground.data }], guard := none }) (v := ?_) rfl (by kernel_rfl) (by kernel_rfl) (by kernel_rfl) (fun _ _ _ h => h) (Or.inl ⟨by rfl, ?_⟩) (by exact so_blk V6.out.1.p) ?_
              rotate_left
              · intro Z hZ; clear hZ; go_simp; try with_reducible rfl
              simp only [Act.put, List.setIfInBounds_toArray, List.set_cons_zero, List.set_cons_succ]
              refine wpAnyH_take (i := 6) (oi := { dst := some 40, op := Go.Op.extract (Go.Operand.tmp 34) 0, type := 28, pos := "law.go:115", after := #[{ on := 5, ground := Go.Ground.data }], guard := none }) (v := ?_) rfl (by kernel_rfl) (by kernel_rfl) (by kernel_rfl) (fun _ _ _ h => h) (Or.inl ⟨by rfl, ?_⟩) (by exact so_blk V6.out.1.p) ?_
              rotate_left
              · intro Z hZ; clear hZ; go_simp; try with_reducible rfl
              simp only [Act.put, List.setIfInBounds_toArray, List.set_cons_zero, List.set_cons_succ]
              refine wpAnyH_take (i := 7) (oi := { dst := some 41, op := Go.Op.extract (Go.Operand.tmp 34) 1, type := 32, pos := "law.go:115", after := #[{ on := 5, ground := Go.Ground.data }, { on := 9, ground := Go.Ground.gcOnly Go.Departure.lateStores }], guard := none }) (v := ?_) rfl (by kernel_rfl) (by kernel_rfl) (by kernel_rfl) (fun _ _ _ h => h) (Or.inl ⟨by rfl, ?_⟩) (by exact so_blk V6.out.1.p) ?_
              rotate_left
              · intro Z hZ; clear hZ; go_simp; try with_reducible rfl
              simp only [Act.put, List.setIfInBounds_toArray, List.set_cons_zero, List.set_cons_succ]
              refine wpAnyH_all (rs := [9]) (by kernel_rfl) (by simp) (List.forall_mem_cons.2 ⟨wpOp_some (o := { dst := none, op := Go.Op.store 28 (Go.Operand.tmp 8) (Go.Operand.tmp 40), type := 0, pos := "law.go:115", after := #[{ on := 8, ground := Go.Ground.data }, { on := 6, ground := Go.Ground.data }, { on := 4, ground := Go.Ground.chain }, { on := 0, ground := Go.Ground.phase }, { on := 1, ground := Go.Ground.phase }, { on := 2, ground := Go.Ground.phase }, { on := 3, ground := Go.Ground.phase }, { on := 4, ground := Go.Ground.phase }, { on := 5, ground := Go.Ground.phase }, { on := 6, ground := Go.Ground.phase }, { on := 7, ground := Go.Ground.textOnly Go.Departure.lateStores }, { on := 8, ground := Go.Ground.phase }], guard := none }) rfl (by rfl) (fun J hJ => ?_), (by simp)⟩)
              obtain ⟨y6, r6, j6⟩ := (show _ from Z6.out); have q0 : w6.cell? ⟨wr.heap.size, 0, none⟩ = some (.int .i64 0) := r6 0; have q1 : w6.cell? ⟨wr.heap.size, 1, none⟩ = some (.int .u8 0) := r6 1; have q2 : w6.cell? ⟨wr.heap.size, 2, none⟩ = some (.int .u8 0) := r6 2; have q3 : w6.cell? ⟨wr.heap.size, 3, none⟩ = some (.int .u8 0) := r6 3; have q4 : w6.cell? ⟨wr.heap.size, 4, none⟩ = some (.int .i64 0) := r6 4; have q5 : w6.cell? ⟨wr.heap.size, 5, none⟩ = some (.bool false) := r6 5; have q6 : w6.cell? ⟨wr.heap.size, 6, none⟩ = some (.string ⟨#[]⟩) := r6 6; have q7 : w6.cell? ⟨wr.heap.size, 7, none⟩ = some (.pointer none) := r6 7; have q8 : w6.cell? ⟨wr.heap.size, 8, none⟩ = some (.int .i64 0) := r6 8; have f0 : w6.frozen? ⟨wr.heap.size, 0, none⟩ = false := j6 0; have f1 : w6.frozen? ⟨wr.heap.size, 1, none⟩ = false := j6 1; have f2 : w6.frozen? ⟨wr.heap.size, 2, none⟩ = false := j6 2; have f3 : w6.frozen? ⟨wr.heap.size, 3, none⟩ = false := j6 3; have f4 : w6.frozen? ⟨wr.heap.size, 4, none⟩ = false := j6 4; have f5 : w6.frozen? ⟨wr.heap.size, 5, none⟩ = false := j6 5; have f6 : w6.frozen? ⟨wr.heap.size, 6, none⟩ = false := j6 6; have f7 : w6.frozen? ⟨wr.heap.size, 7, none⟩ = false := j6 7; have f8 : w6.frozen? ⟨wr.heap.size, 8, none⟩ = false := j6 8; clear r6 j6; go_simp; refine hJ _ _ ⟨by exact so_blk (put9_far V6.out.1.p (Nat.ne_of_gt VX.out.p.1) _ _ _ _ _ _ _ _ _), ?_⟩; clear hJ J
              refine wpAnyH_take (i := 10) (oi := { dst := some 9, op := Go.Op.assign (Go.Operand.tmp 41), type := 32, pos := "law.go:115", after := #[{ on := 7, ground := Go.Ground.data }, { on := 9, ground := Go.Ground.chain }, { on := 0, ground := Go.Ground.phase }, { on := 1, ground := Go.Ground.phase }, { on := 2, ground := Go.Ground.phase }, { on := 3, ground := Go.Ground.phase }, { on := 4, ground := Go.Ground.phase }, { on := 5, ground := Go.Ground.phase }, { on := 6, ground := Go.Ground.phase }, { on := 7, ground := Go.Ground.phase }, { on := 8, ground := Go.Ground.phase }, { on := 9, ground := Go.Ground.phase }], guard := none }) (v := ?_) rfl (by kernel_rfl) (by kernel_rfl) (by kernel_rfl) (fun _ _ _ h => h) (Or.inl ⟨by rfl, ?_⟩) (by exact so_blk (put9_far V6.out.1.p (Nat.ne_of_gt VX.out.p.1) _ _ _ _ _ _ _ _ _)) ?_
              rotate_left
              · intro Z hZ; clear hZ; go_simp; try with_reducible rfl
              simp only [Act.put, List.setIfInBounds_toArray, List.set_cons_zero, List.set_cons_succ]
              refine wpAnyH_done (by kernel_rfl) ?_ _
              go_wp2_with fail; go_meet; exact ⟨wr.heap.size, T6, A6, n6, c6, rfl, rfl, V6.out.2.2.2.1, Lib.hid (pq_put (w := w) (X0 := wr) (Z := w6) (g := w.heap.size) (gq := wr.heap.size) (T := T) (T' := T6) (v := .slice A6 n6 c6) (ks := ks) (s := ⟨sw, ⟨h0, h1, h2, dn⟩, sm, srow, stx, scl⟩) (s' := ⟨rw_, ⟨x, y, z, nd⟩, rm, rrow, rtx, rcl⟩) V6.out.1 Z6.out (Nat.le_refl _) VX.out.p.1 V6.out.2.1 V6.out.2.2.1 V6.out.2.2.2.2)⟩
          case rest =>
            obtain ⟨gq, T6, A6, n6, c6, rfl, rfl, hn6, HQ⟩ := hcut
            obtain ⟨ye, ke, je⟩ := (show _ from HQ.out.q)
            obtain ⟨yd, kd, jd⟩ := (show _ from HQ.out.ps.p)
            have e0 : wc.cell? ⟨gq, 0, none⟩ = _ := ke 0
            have e1 : wc.cell? ⟨gq, 1, none⟩ = _ := ke 1
            have e2 : wc.cell? ⟨gq, 2, none⟩ = _ := ke 2
            have e3 : wc.cell? ⟨gq, 3, none⟩ = _ := ke 3
            have e4 : wc.cell? ⟨gq, 4, none⟩ = _ := ke 4
            have e5 : wc.cell? ⟨gq, 5, none⟩ = _ := ke 5
            have e6 : wc.cell? ⟨gq, 6, none⟩ = _ := ke 6
            have e7 : wc.cell? ⟨gq, 7, none⟩ = _ := ke 7
            have e8 : wc.cell? ⟨gq, 8, none⟩ = _ := ke 8
            have d0 : wc.cell? ⟨w.heap.size, 0, none⟩ = _ := kd 0
            have d1 : wc.cell? ⟨w.heap.size, 1, none⟩ = _ := kd 1
            have d2 : wc.cell? ⟨w.heap.size, 2, none⟩ = _ := kd 2
            have d3 : wc.cell? ⟨w.heap.size, 3, none⟩ = _ := kd 3
            have d4 : wc.cell? ⟨w.heap.size, 4, none⟩ = _ := kd 4
            have d5 : wc.cell? ⟨w.heap.size, 5, none⟩ = _ := kd 5
            have d6 : wc.cell? ⟨w.heap.size, 6, none⟩ = _ := kd 6
            have d7 : wc.cell? ⟨w.heap.size, 7, none⟩ = _ := kd 7
            have d8 : wc.cell? ⟨w.heap.size, 8, none⟩ = _ := kd 8
            have g0 := jd 0
            have g1 := jd 1
            have g2 := jd 2
            have g3 := jd 3
            have g4 := jd 4
            have g5 := jd 5
            have g6 := jd 6
            have g7 := jd 7
            have g8 := jd 8
            have hne1 : gq ≠ w.heap.size := Nat.ne_of_gt HQ.out.ne
            have hne2 : w.heap.size ≠ gq := Nat.ne_of_lt HQ.out.ne
            simp at e0 e1 e2 e3 e4 e5 e6 e7 e8 d0 d1 d2 d3 d4 d5 d6 d7 d8
            clear ke kd jd je
            go_upto_region 12 with fail
            refine at_world (PN w wr w.heap.size ⟨rw_, ⟨x, y, z, nd⟩, rm, rrow, rtx, rcl⟩ T6 (.slice A6 n6 c6) ks) (pn_put (w := w) (X0 := wr) (Y := wc) (g := w.heap.size) (gq := gq) (T' := T6) (s' := ⟨rw_, ⟨x, y, z, nd⟩, rm, rrow, rtx, rcl⟩) HQ.out) ?_
            clear e0 e1 e2 e3 e4 e5 e6 e7 e8 d0 d1 d2 d3 d4 d5 d6 d7 d8 g0 g1 g2 g3 g4 g5 g6 g7 g8 ye yd hne1 hne2 HQ
            intro Y hY
            have VY := Lib.hid (And.intro hY.ps (blk_kept VR.out hY.kept hY.size (Nat.succ_ne_self _)))
            clear hY hn6
            go_wp2_with (go_at_call 8; refine (CR.out _ VY.out.2).mono ?_; rintro e w3 ⟨A3, n3, c3, rfl, hb3, hk3, hn3, hB3⟩; have V3 := Lib.hid (And.intro (ps_but VY.out.1 VY.out.2 hB3 (Nat.ne_of_lt (Nat.lt_succ_self _)) (Nat.le_succ _)) hb3); clear hb3 hk3 hn3 hB3)
            go_roundw
            case rel => exact ⟨k + 1, ⟨rw_, ⟨x, y, z, nd⟩, rm, rrow, rtx, rcl⟩, T6, by omega, by go_num, ⟨V3.out.1, V3.out.2⟩, HF.out.1, HF.out.2⟩
            case measure => simp [intOf]; omega
        · obtain rfl : k = s.size := by omega
          obtain ⟨h4, hh4⟩ : ∃ h4, (R.w == 4) = h4 := ⟨_, rfl⟩
          have VX := Lib.hid HI.out.1.1
          have VR := Lib.hid HI.out.1.2
          have HGD := Lib.hid HI.out.2.1
          have CW := Lib.hid (fun Z => waits_any R T Z)
          have CT := Lib.hid (show ∀ Z, PS w w.heap.size R T Z → Calls Try.prog 9 #[psV R T] Z (Tells (tickK R) Z) from fun Z hZ => tick_any R T HGD.out.1 Z hZ.chain)
          have hr0 : wr.cell? ⟨w.heap.size + 1, 0, none⟩ = some (.int .i64 R.w) := VR.out.2.1 0
          have htk : R.w ≠ 4 → (tickK R).1 = KS.zero := fun h => by
            unfold tickK
            rw [if_neg h]
            split
            · rfl
            · split <;> rfl
          have hwt : R.w = 4 → waitsK R = true := fun h => by unfold waitsK; rw [h]; rfl
          have HT := Lib.hid (And.intro htk hwt)
          clear htk hwt HI hlt hk
          obtain ⟨sw, ⟨h0, h1, h2, dn⟩, sm, srow, stx, scl⟩ := R
          dsimp only at hh4 hr0
          obtain ⟨yd, kd, jd⟩ := (show _ from VX.out.p)
          have d0 : wr.cell? ⟨w.heap.size, 0, none⟩ = _ := kd 0
          have d1 : wr.cell? ⟨w.heap.size, 1, none⟩ = _ := kd 1
          have d2 : wr.cell? ⟨w.heap.size, 2, none⟩ = _ := kd 2
          have d3 : wr.cell? ⟨w.heap.size, 3, none⟩ = _ := kd 3
          have d4 : wr.cell? ⟨w.heap.size, 4, none⟩ = _ := kd 4
          have d5 : wr.cell? ⟨w.heap.size, 5, none⟩ = _ := kd 5
          have d6 : wr.cell? ⟨w.heap.size, 6, none⟩ = _ := kd 6
          have d7 : wr.cell? ⟨w.heap.size, 7, none⟩ = _ := kd 7
          have d8 : wr.cell? ⟨w.heap.size, 8, none⟩ = _ := kd 8
          have g0 := jd 0
          have g1 := jd 1
          have g2 := jd 2
          have g3 := jd 3
          have g4 := jd 4
          have g5 := jd 5
          have g6 := jd 6
          have g7 := jd 7
          have g8 := jd 8
          simp at d0 d1 d2 d3 d4 d5 d6 d7 d8
          clear kd jd
          cases h4
          case true =>
            have hw4 : sw = 4 := by simpa using hh4
            have hwy := HT.out.2 hw4
            rw [hwy] at CW
            clear hw4 hwy
            go_wp2_with (first
              | (go_at_call 12; refine (CW.out _).mono ?_; rintro e w6 ⟨rfl, b6⟩; have V6 := Lib.hid (VX.out.later b6); clear b6)
              | (go_at_call 13; refine (HW.out _).mono ?_; rintro e w4 ⟨rfl, hb4⟩))
            go_ret
            exact ⟨rfl, belowStep V6.out.below hb4⟩
          case false =>
            have hw4 : sw ≠ 4 := by simpa using hh4
            obtain ⟨⟨RT, ks⟩, htk⟩ : ∃ r, tickK ⟨sw, ⟨h0, h1, h2, dn⟩, sm, srow, stx, scl⟩ = r := ⟨_, rfl⟩
            have hz : RT = KS.zero := by have := HT.out.1 hw4; rw [htk] at this; exact this
            subst hz
            rw [htk] at CT
            clear htk hw4 HT HGD CW
            go_upto_region 16 with (go_at_call 9; refine (CT.out _ VX.out).mono ?_; rintro e w6 ⟨T6, A6, n6, c6, rfl, ch, hk, hn, b6⟩; have V6 := Lib.hid (And.intro (VX.out.later b6) ch); have e0 : w6.cell? ⟨w.heap.size, 0, none⟩ = _ := (b6.cell (p := ⟨w.heap.size, 0, none⟩) VX.out.p.1).trans d0; have e1 : w6.cell? ⟨w.heap.size, 1, none⟩ = _ := (b6.cell (p := ⟨w.heap.size, 1, none⟩) VX.out.p.1).trans d1; have e2 : w6.cell? ⟨w.heap.size, 2, none⟩ = _ := (b6.cell (p := ⟨w.heap.size, 2, none⟩) VX.out.p.1).trans d2; have e3 : w6.cell? ⟨w.heap.size, 3, none⟩ = _ := (b6.cell (p := ⟨w.heap.size, 3, none⟩) VX.out.p.1).trans d3; have e4 : w6.cell? ⟨w.heap.size, 4, none⟩ = _ := (b6.cell (p := ⟨w.heap.size, 4, none⟩) VX.out.p.1).trans d4; have e5 : w6.cell? ⟨w.heap.size, 5, none⟩ = _ := (b6.cell (p := ⟨w.heap.size, 5, none⟩) VX.out.p.1).trans d5; have e6 : w6.cell? ⟨w.heap.size, 6, none⟩ = _ := (b6.cell (p := ⟨w.heap.size, 6, none⟩) VX.out.p.1).trans d6; have e7 : w6.cell? ⟨w.heap.size, 7, none⟩ = _ := (b6.cell (p := ⟨w.heap.size, 7, none⟩) VX.out.p.1).trans d7; have e8 : w6.cell? ⟨w.heap.size, 8, none⟩ = _ := (b6.cell (p := ⟨w.heap.size, 8, none⟩) VX.out.p.1).trans d8; have h0' : w6.frozen? ⟨w.heap.size, 0, none⟩ = false := (b6.frozen (p := ⟨w.heap.size, 0, none⟩) VX.out.p.1).trans g0; have h1' : w6.frozen? ⟨w.heap.size, 1, none⟩ = false := (b6.frozen (p := ⟨w.heap.size, 1, none⟩) VX.out.p.1).trans g1; have h2' : w6.frozen? ⟨w.heap.size, 2, none⟩ = false := (b6.frozen (p := ⟨w.heap.size, 2, none⟩) VX.out.p.1).trans g2; have h3' : w6.frozen? ⟨w.heap.size, 3, none⟩ = false := (b6.frozen (p := ⟨w.heap.size, 3, none⟩) VX.out.p.1).trans g3; have h4' : w6.frozen? ⟨w.heap.size, 4, none⟩ = false := (b6.frozen (p := ⟨w.heap.size, 4, none⟩) VX.out.p.1).trans g4; have h5' : w6.frozen? ⟨w.heap.size, 5, none⟩ = false := (b6.frozen (p := ⟨w.heap.size, 5, none⟩) VX.out.p.1).trans g5; have h6' : w6.frozen? ⟨w.heap.size, 6, none⟩ = false := (b6.frozen (p := ⟨w.heap.size, 6, none⟩) VX.out.p.1).trans g6; have h7' : w6.frozen? ⟨w.heap.size, 7, none⟩ = false := (b6.frozen (p := ⟨w.heap.size, 7, none⟩) VX.out.p.1).trans g7; have h8' : w6.frozen? ⟨w.heap.size, 8, none⟩ = false := (b6.frozen (p := ⟨w.heap.size, 8, none⟩) VX.out.p.1).trans g8; clear ch hk hn b6)
            have hT6 : T6 = none := V6.out.2
            subst hT6
            refine at_world (PS w w.heap.size KS.zero none) ⟨put9_low V6.out.1.below (Nat.le_refl _) _ _ _ _ _ _ _ _ _, put9_blk V6.out.1.p _ _ _ _ _ _ _ _ _, Nat.le_refl _, rfl⟩ ?_
            intro Y hY
            have VY := Lib.hid hY
            clear hY e0 e1 e2 e3 e4 e5 e6 e7 e8 d0 d1 d2 d3 d4 d5 d6 d7 d8 g0 g1 g2 g3 g4 g5 g6 g7 g8 h0' h1' h2' h3' h4' h5' h6' h7' h8' yd hr0 VX VR V6 CT
            go_upto_region 17 with fail
            refine at_world (fun Z => PS w w.heap.size KS.zero none Z ∧ PS w Y.heap.size KS.zero none Z) ⟨VY.out.later (belAlloc _ _), ps_start VY.out.below _⟩ ?_
            obtain ⟨gz, hgz⟩ : ∃ gz, Y.heap.size = gz := ⟨_, rfl⟩
            have hne : w.heap.size < gz := by rw [← hgz]; exact VY.out.p.1
            rw [hgz]
            clear hgz VY
            intro X hX
            have VX := Lib.hid hX
            clear hX
            have CW := Lib.hid (fun Z => waits_any KS.zero none Z)
            obtain ⟨yd, kd, jd⟩ := (show _ from VX.out.1.p)
            have d0 : X.cell? ⟨w.heap.size, 0, none⟩ = _ := kd 0
            have d1 : X.cell? ⟨w.heap.size, 1, none⟩ = _ := kd 1
            have d2 : X.cell? ⟨w.heap.size, 2, none⟩ = _ := kd 2
            have d3 : X.cell? ⟨w.heap.size, 3, none⟩ = _ := kd 3
            have d4 : X.cell? ⟨w.heap.size, 4, none⟩ = _ := kd 4
            have d5 : X.cell? ⟨w.heap.size, 5, none⟩ = _ := kd 5
            have d6 : X.cell? ⟨w.heap.size, 6, none⟩ = _ := kd 6
            have d7 : X.cell? ⟨w.heap.size, 7, none⟩ = _ := kd 7
            have d8 : X.cell? ⟨w.heap.size, 8, none⟩ = _ := kd 8
            simp [KS.zero, DS.zero] at d0 d1 d2 d3 d4 d5 d6 d7 d8
            clear kd jd
            go_upto_region 19 with (go_at_call 12; refine (CW.out _).mono ?_; rintro e w6 ⟨rfl, b6⟩; have V6 := Lib.hid (And.intro (VX.out.1.later b6) (VX.out.2.later b6)); clear b6)
            clear yd d0 d1 d2 d3 d4 d5 d6 d7 d8 CW
            go_wp2_with fail
            go_loopw [11] (fun i wr => ∃ (k : Nat) (R : KS) (T U : Option Addr), k ≤ S2.size ∧ i = .int .i64 (k : Nat) ∧ Hid ((PS w w.heap.size R T wr ∧ PS w gz R U wr) ∧ Good R ∧ R.tx.length ≤ k)) (fun i _ => S2.size - (intOf i).toNat)
            case atStart => exact ⟨0, KS.zero, none, none, Nat.zero_le _, rfl, V6.out, good_zero, Nat.zero_le _⟩
            case round =>
              obtain ⟨k, R, T, U, hk, rfl, HI⟩ := hrel
              clear V6 VX
              by_cases hlt : k < S2.size
              · have hlts : (k : Int) < (S2.size : Int) := by omega
                have hb0 : 0 ≤ (S2[k].toNat : Int) := by omega
                have hb1 : (S2[k].toNat : Int) ≤ 255 := by have := S2[k].toNat_lt; omega
                have htx := HI.out.2.2
                have hgd := good_feed R HI.out.2.1 (S2[k].toNat : Int) hb0 hb1 (by omega)
                have htf := tx_feed R (S2[k].toNat : Int)
                obtain ⟨⟨⟨rw_, ⟨x, y, z, nd⟩, rm, rrow, rtx, rcl⟩, ks⟩, hfd⟩ : ∃ r, feedK R (S2[k].toNat : Int) = r := ⟨_, rfl⟩
                have CF0 := Lib.hid (show ∀ (g : Nat) (T : Option Addr) Z, PS w g R T Z → Calls Try.prog 7 #[psV R T, .int .u8 (S2[k].toNat : Int)] Z (Tells (⟨rw_, ⟨x, y, z, nd⟩, rm, rrow, rtx, rcl⟩, ks) Z) from fun g T Z hZ => by rw [← hfd]; exact feed_any R T _ hb0 hb1 HI.out.2.1.1 Z hZ.chain)
                have hkl : ks.length ≤ 1000000 ∧ ∀ y ∈ ks, y.t.length ≤ 1000000 := by
                  have h := feedK_small R (S2[k].toNat : Int) 200 (by omega) (by omega)
                  rw [hfd] at h
                  exact h
                rw [hfd] at hgd htf
                have HF := Lib.hid (And.intro hgd (And.intro (show (⟨rw_, ⟨x, y, z, nd⟩, rm, rrow, rtx, rcl⟩ : KS).tx.length ≤ k + 1 by dsimp only at htf ⊢; omega) hkl))
                have VX := Lib.hid (show PS w w.heap.size R T wr from HI.out.1.1)
                have VZ := Lib.hid (show PS w gz R U wr from HI.out.1.2)
                clear hfd hgd htf htx hkl HI
                obtain ⟨sw, ⟨h0, h1, h2, dn⟩, sm, srow, stx, scl⟩ := R
                have HS := Lib.hid (show ∀ Z, Below wr.heap.size wr Z → SO w.heap.size ⟨sw, ⟨h0, h1, h2, dn⟩, sm, srow, stx, scl⟩ T Z from fun Z hZ => so_blk (VX.out.later hZ).p)
                have CF := Lib.hid (show ∀ Z, PS w w.heap.size ⟨sw, ⟨h0, h1, h2, dn⟩, sm, srow, stx, scl⟩ T Z → Below wr.heap.size wr Z → Calls Try.prog 7 #[psV ⟨sw, ⟨h0, h1, h2, dn⟩, sm, srow, stx, scl⟩ T, .int .u8 (S2[k].toNat : Int)] Z (Tells (⟨rw_, ⟨x, y, z, nd⟩, rm, rrow, rtx, rcl⟩, ks) Z) from fun Z hZ _ => CF0.out _ T Z hZ)
                go_upto_region 22 with fail
                go_cut [12, 13] (fun v5 v6 wx => ∃ (gq : Nat) (T6 A6 : Option Addr) (n6 c6 : Nat), v5 = .pointer (some ⟨gq, 0, none⟩) ∧ v6 = .slice A6 n6 c6 ∧ n6 = ks.length ∧ Hid (PQ w wr w.heap.size gq ⟨sw, ⟨h0, h1, h2, dn⟩, sm, srow, stx, scl⟩ ⟨rw_, ⟨x, y, z, nd⟩, rm, rrow, rtx, rcl⟩ T T6 (.slice A6 n6 c6) ks wx))
                case first =>
                  refine wp_region_held (S := SO w.heap.size ⟨sw, ⟨h0, h1, h2, dn⟩, sm, srow, stx, scl⟩ T) (by kernel_rfl) ?_
                  change wpAnyH _ _ _ _ _ _ _ _ (World.drew _)
                  refine wpAnyH_take (i := 0) (oi := { dst := some 72, op := Go.Op.load 28 (Go.Operand.tmp 5), type := 28, pos := "law.go:128", after := #[], guard := none }) (v := ?_) rfl (by kernel_rfl) (by kernel_rfl) (by kernel_rfl) (fun _ _ _ h => h) (Or.inl ⟨by rfl, ?_⟩) (by exact HS.out _ (Below.refl wr.heap.size wr).drew) ?_
                  rotate_left
                  · intro Z hZ; obtain ⟨p0, p1, p2, p3, p4, p5, p6, p7, p8⟩ := hZ; dsimp only at p0 p1 p2 p3 p4 p5 p6 p7 p8; go_simp; try with_reducible rfl
                  simp only [Act.put, List.setIfInBounds_toArray, List.set_cons_zero, List.set_cons_succ]
                  refine wpAnyH_take (i := 1) (oi := { dst := some 73, op := Go.Op.move (Go.Operand.tmp 1), type := 9, pos := "law.go:128", after := #[], guard := none }) (v := ?_) rfl (by kernel_rfl) (by kernel_rfl) (by kernel_rfl) (fun _ _ _ h => h) (Or.inl ⟨by rfl, ?_⟩) (by exact HS.out _ (Below.refl wr.heap.size wr).drew) ?_
                  rotate_left
                  · intro Z hZ; clear hZ; go_simp; try with_reducible rfl
                  simp only [Act.put, List.setIfInBounds_toArray, List.set_cons_zero, List.set_cons_succ]
                  refine wpAnyH_take (i := 2) (oi := { dst := some 74, op := Go.Op.move (Go.Operand.tmp 11), type := 3, pos := "law.go:128", after := #[], guard := none }) (v := ?_) rfl (by kernel_rfl) (by kernel_rfl) (by kernel_rfl) (fun _ _ _ h => h) (Or.inl ⟨by rfl, ?_⟩) (by exact HS.out _ (Below.refl wr.heap.size wr).drew) ?_
                  rotate_left
                  · intro Z hZ; clear hZ; go_simp; try with_reducible rfl
                  simp only [Act.put, List.setIfInBounds_toArray, List.set_cons_zero, List.set_cons_succ]
                  refine wpAnyH_take (i := 3) (oi := { dst := some 75, op := Go.Op.index 9 (Go.Operand.tmp 73) (Go.Operand.tmp 74), type := 5, pos := "law.go:128", after := #[{ on := 1, ground := Go.Ground.data }, { on := 2, ground := Go.Ground.data }], guard := none }) (v := ?_) rfl (by kernel_rfl) (by kernel_rfl) (by kernel_rfl) (fun _ _ _ h => h) (Or.inl ⟨by rfl, ?_⟩) (by exact HS.out _ (Below.refl wr.heap.size wr).drew) ?_
                  rotate_left
                  · intro Z hZ; clear hZ; go_simp; try with_reducible rfl
                  simp only [Act.put, List.setIfInBounds_toArray, List.set_cons_zero, List.set_cons_succ]
                  refine wpAnyH_all (rs := [4, 8]) (by kernel_rfl) (by simp) (List.forall_mem_cons.2 ⟨wpOp_some (o := { dst := some 76, op := Go.Op.call { callee := Go.Callee.value (Go.Operand.func 7), args := #[Go.Operand.tmp 72, Go.Operand.tmp 75], argTypes := #[28, 5] }, type := 34, pos := "law.go:128", after := #[{ on := 0, ground := Go.Ground.data }, { on := 3, ground := Go.Ground.data }], guard := none }) rfl (by rfl) (fun J hJ => ?_), (List.forall_mem_cons.2 ⟨wpOp_some (o := { dst := some 12, op := Go.Op.alloc 28, type := 0, pos := "law.go:128", after := #[], guard := none }) rfl (by rfl) (fun J hJ => ?_), (by simp)⟩)⟩)
                  · go_simp; refine (CF.out _ (VX.out.later (by exact (Below.refl wr.heap.size wr).drew)) (by exact (Below.refl wr.heap.size wr).drew)).mono ?_; rintro e w6 ⟨T6, A6, n6, c6, rfl, ch, hk, hn, b6⟩; have V6 := Lib.hid (And.intro (VX.out.later (((Below.refl wr.heap.size wr).drew).trans b6)) (And.intro ch (And.intro hk (And.intro hn (((Below.refl wr.heap.size wr).drew).trans b6))))); clear ch hk hn b6; dsimp only; refine hJ _ _ ⟨by exact so_blk V6.out.1.p, ?_⟩; clear hJ J
                    refine wpAnyH_take (i := 5) (oi := { dst := some 71, op := Go.Op.move (Go.Operand.tmp 76), type := 34, pos := "law.go:128", after := #[{ on := 4, ground := Go.Ground.data }], guard := none }) (v := ?_) rfl (by kernel_rfl) (by kernel_rfl) (by kernel_rfl) (fun _ _ _ h => h) (Or.inl ⟨by rfl, ?_⟩) (by exact so_blk V6.out.1.p) ?_
                    rotate_left
                    · intro Z hZ; clear hZ; go_simp; try with_reducible rfl
                    simp only [Act.put, List.setIfInBounds_toArray, List.set_cons_zero, List.set_cons_succ]
                    refine wpAnyH_take (i := 6) (oi := { dst := some 77, op := Go.Op.extract (Go.Operand.tmp 71) 0, type := 28, pos := "law.go:128", after := #[{ on := 5, ground := Go.Ground.data }], guard := none }) (v := ?_) rfl (by kernel_rfl) (by kernel_rfl) (by kernel_rfl) (fun _ _ _ h => h) (Or.inl ⟨by rfl, ?_⟩) (by exact so_blk V6.out.1.p) ?_
                    rotate_left
                    · intro Z hZ; clear hZ; go_simp; try with_reducible rfl
                    simp only [Act.put, List.setIfInBounds_toArray, List.set_cons_zero, List.set_cons_succ]
                    refine wpAnyH_take (i := 7) (oi := { dst := some 78, op := Go.Op.extract (Go.Operand.tmp 71) 1, type := 32, pos := "law.go:128", after := #[{ on := 5, ground := Go.Ground.data }, { on := 9, ground := Go.Ground.gcOnly Go.Departure.lateStores }], guard := none }) (v := ?_) rfl (by kernel_rfl) (by kernel_rfl) (by kernel_rfl) (fun _ _ _ h => h) (Or.inl ⟨by rfl, ?_⟩) (by exact so_blk V6.out.1.p) ?_
                    rotate_left
                    · intro Z hZ; clear hZ; go_simp; try with_reducible rfl
                    simp only [Act.put, List.setIfInBounds_toArray, List.set_cons_zero, List.set_cons_succ]
                    refine wpAnyH_all (rs := [8]) (by kernel_rfl) (by simp) (List.forall_mem_cons.2 ⟨wpOp_some (o := { dst := some 12, op := Go.Op.alloc 28, type := 0, pos := "law.go:128", after := #[], guard := none }) rfl (by rfl) (fun J hJ => ?_), (by simp)⟩)
                    go_simp; refine hJ _ _ ⟨by exact so_blk (V6.out.1.later (belAlloc _ _)).p, ?_⟩; clear hJ J
                    refine wpAnyH_all (rs := [9]) (by kernel_rfl) (by simp) (List.forall_mem_cons.2 ⟨wpOp_some (o := { dst := none, op := Go.Op.store 28 (Go.Operand.tmp 12) (Go.Operand.tmp 77), type := 0, pos := "law.go:128", after := #[{ on := 8, ground := Go.Ground.data }, { on := 6, ground := Go.Ground.data }, { on := 4, ground := Go.Ground.chain }, { on := 0, ground := Go.Ground.phase }, { on := 1, ground := Go.Ground.phase }, { on := 2, ground := Go.Ground.phase }, { on := 3, ground := Go.Ground.phase }, { on := 4, ground := Go.Ground.phase }, { on := 5, ground := Go.Ground.phase }, { on := 6, ground := Go.Ground.phase }, { on := 7, ground := Go.Ground.textOnly Go.Departure.lateStores }, { on := 8, ground := Go.Ground.phase }], guard := none }) rfl (by rfl) (fun J hJ => ?_), (by simp)⟩)
                    obtain ⟨y6, r6, j6⟩ := (show _ from (blk_new w6 zeroC 28)); have q0 : (w6.alloc (.cells #[.int .i64 0, .int .u8 0, .int .u8 0, .int .u8 0, .int .i64 0, .bool false, .string ⟨#[]⟩, .pointer none, .int .i64 0] 28)).cell? ⟨w6.heap.size, 0, none⟩ = some (.int .i64 0) := r6 0; have q1 : (w6.alloc (.cells #[.int .i64 0, .int .u8 0, .int .u8 0, .int .u8 0, .int .i64 0, .bool false, .string ⟨#[]⟩, .pointer none, .int .i64 0] 28)).cell? ⟨w6.heap.size, 1, none⟩ = some (.int .u8 0) := r6 1; have q2 : (w6.alloc (.cells #[.int .i64 0, .int .u8 0, .int .u8 0, .int .u8 0, .int .i64 0, .bool false, .string ⟨#[]⟩, .pointer none, .int .i64 0] 28)).cell? ⟨w6.heap.size, 2, none⟩ = some (.int .u8 0) := r6 2; have q3 : (w6.alloc (.cells #[.int .i64 0, .int .u8 0, .int .u8 0, .int .u8 0, .int .i64 0, .bool false, .string ⟨#[]⟩, .pointer none, .int .i64 0] 28)).cell? ⟨w6.heap.size, 3, none⟩ = some (.int .u8 0) := r6 3; have q4 : (w6.alloc (.cells #[.int .i64 0, .int .u8 0, .int .u8 0, .int .u8 0, .int .i64 0, .bool false, .string ⟨#[]⟩, .pointer none, .int .i64 0] 28)).cell? ⟨w6.heap.size, 4, none⟩ = some (.int .i64 0) := r6 4; have q5 : (w6.alloc (.cells #[.int .i64 0, .int .u8 0, .int .u8 0, .int .u8 0, .int .i64 0, .bool false, .string ⟨#[]⟩, .pointer none, .int .i64 0] 28)).cell? ⟨w6.heap.size, 5, none⟩ = some (.bool false) := r6 5; have q6 : (w6.alloc (.cells #[.int .i64 0, .int .u8 0, .int .u8 0, .int .u8 0, .int .i64 0, .bool false, .string ⟨#[]⟩, .pointer none, .int .i64 0] 28)).cell? ⟨w6.heap.size, 6, none⟩ = some (.string ⟨#[]⟩) := r6 6; have q7 : (w6.alloc (.cells #[.int .i64 0, .int .u8 0, .int .u8 0, .int .u8 0, .int .i64 0, .bool false, .string ⟨#[]⟩, .pointer none, .int .i64 0] 28)).cell? ⟨w6.heap.size, 7, none⟩ = some (.pointer none) := r6 7; have q8 : (w6.alloc (.cells #[.int .i64 0, .int .u8 0, .int .u8 0, .int .u8 0, .int .i64 0, .bool false, .string ⟨#[]⟩, .pointer none, .int .i64 0] 28)).cell? ⟨w6.heap.size, 8, none⟩ = some (.int .i64 0) := r6 8; have f0 : (w6.alloc (.cells #[.int .i64 0, .int .u8 0, .int .u8 0, .int .u8 0, .int .i64 0, .bool false, .string ⟨#[]⟩, .pointer none, .int .i64 0] 28)).frozen? ⟨w6.heap.size, 0, none⟩ = false := j6 0; have f1 : (w6.alloc (.cells #[.int .i64 0, .int .u8 0, .int .u8 0, .int .u8 0, .int .i64 0, .bool false, .string ⟨#[]⟩, .pointer none, .int .i64 0] 28)).frozen? ⟨w6.heap.size, 1, none⟩ = false := j6 1; have f2 : (w6.alloc (.cells #[.int .i64 0, .int .u8 0, .int .u8 0, .int .u8 0, .int .i64 0, .bool false, .string ⟨#[]⟩, .pointer none, .int .i64 0] 28)).frozen? ⟨w6.heap.size, 2, none⟩ = false := j6 2; have f3 : (w6.alloc (.cells #[.int .i64 0, .int .u8 0, .int .u8 0, .int .u8 0, .int .i64 0, .bool false, .string ⟨#[]⟩, .pointer none, .int .i64 0] 28)).frozen? ⟨w6.heap.size, 3, none⟩ = false := j6 3; have f4 : (w6.alloc (.cells #[.int .i64 0, .int .u8 0, .int .u8 0, .int .u8 0, .int .i64 0, .bool false, .string ⟨#[]⟩, .pointer none, .int .i64 0] 28)).frozen? ⟨w6.heap.size, 4, none⟩ = false := j6 4; have f5 : (w6.alloc (.cells #[.int .i64 0, .int .u8 0, .int .u8 0, .int .u8 0, .int .i64 0, .bool false, .string ⟨#[]⟩, .pointer none, .int .i64 0] 28)).frozen? ⟨w6.heap.size, 5, none⟩ = false := j6 5; have f6 : (w6.alloc (.cells #[.int .i64 0, .int .u8 0, .int .u8 0, .int .u8 0, .int .i64 0, .bool false, .string ⟨#[]⟩, .pointer none, .int .i64 0] 28)).frozen? ⟨w6.heap.size, 6, none⟩ = false := j6 6; have f7 : (w6.alloc (.cells #[.int .i64 0, .int .u8 0, .int .u8 0, .int .u8 0, .int .i64 0, .bool false, .string ⟨#[]⟩, .pointer none, .int .i64 0] 28)).frozen? ⟨w6.heap.size, 7, none⟩ = false := j6 7; have f8 : (w6.alloc (.cells #[.int .i64 0, .int .u8 0, .int .u8 0, .int .u8 0, .int .i64 0, .bool false, .string ⟨#[]⟩, .pointer none, .int .i64 0] 28)).frozen? ⟨w6.heap.size, 8, none⟩ = false := j6 8; clear r6 j6; go_simp; refine hJ _ _ ⟨by exact so_blk (V6.out.1.later (belAlloc _ _)).p, ?_⟩; clear hJ J
                    refine wpAnyH_take (i := 10) (oi := { dst := some 13, op := Go.Op.assign (Go.Operand.tmp 78), type := 32, pos := "law.go:128", after := #[{ on := 7, ground := Go.Ground.data }, { on := 9, ground := Go.Ground.chain }, { on := 0, ground := Go.Ground.phase }, { on := 1, ground := Go.Ground.phase }, { on := 2, ground := Go.Ground.phase }, { on := 3, ground := Go.Ground.phase }, { on := 4, ground := Go.Ground.phase }, { on := 5, ground := Go.Ground.phase }, { on := 6, ground := Go.Ground.phase }, { on := 7, ground := Go.Ground.phase }, { on := 8, ground := Go.Ground.phase }, { on := 9, ground := Go.Ground.phase }], guard := none }) (v := ?_) rfl (by kernel_rfl) (by kernel_rfl) (by kernel_rfl) (fun _ _ _ h => h) (Or.inl ⟨by rfl, ?_⟩) (by exact so_blk (V6.out.1.later (belAlloc _ _)).p) ?_
                    rotate_left
                    · intro Z hZ; clear hZ; go_simp; try with_reducible rfl
                    simp only [Act.put, List.setIfInBounds_toArray, List.set_cons_zero, List.set_cons_succ]
                    refine wpAnyH_done (by kernel_rfl) ?_ _
                    go_wp2_with fail; go_meet; exact ⟨w6.heap.size, T6, A6, n6, c6, rfl, rfl, V6.out.2.2.2.1, Lib.hid (pq_new (s := ⟨sw, ⟨h0, h1, h2, dn⟩, sm, srow, stx, scl⟩) (s' := ⟨rw_, ⟨x, y, z, nd⟩, rm, rrow, rtx, rcl⟩) V6.out.1 V6.out.2.1 V6.out.2.2.1 V6.out.2.2.2.2 _)⟩
                  · go_simp; refine hJ _ _ ⟨by exact HS.out _ ((Below.refl wr.heap.size wr).drew.alloc (Nat.le_refl _) _), ?_⟩; clear hJ J
                    refine wpAnyH_all (rs := [4]) (by kernel_rfl) (by simp) (List.forall_mem_cons.2 ⟨wpOp_some (o := { dst := some 76, op := Go.Op.call { callee := Go.Callee.value (Go.Operand.func 7), args := #[Go.Operand.tmp 72, Go.Operand.tmp 75], argTypes := #[28, 5] }, type := 34, pos := "law.go:128", after := #[{ on := 0, ground := Go.Ground.data }, { on := 3, ground := Go.Ground.data }], guard := none }) rfl (by rfl) (fun J hJ => ?_), (by simp)⟩)
                    go_simp; refine (CF.out _ (VX.out.later (((Below.refl wr.heap.size wr).drew).alloc (Nat.le_refl _) _)) (((Below.refl wr.heap.size wr).drew).alloc (Nat.le_refl _) _)).mono ?_; rintro e w6 ⟨T6, A6, n6, c6, rfl, ch, hk, hn, b6⟩; have V6 := Lib.hid (And.intro (VX.out.later ((((Below.refl wr.heap.size wr).drew).alloc (Nat.le_refl _) (.cells #[.int .i64 0, .int .u8 0, .int .u8 0, .int .u8 0, .int .i64 0, .bool false, .string ⟨#[]⟩, .pointer none, .int .i64 0] 28)).trans (b6.mono (by rw [World.size_alloc]; exact Nat.le_succ _)))) (And.intro ch (And.intro hk (And.intro hn ((((Below.refl wr.heap.size wr).drew).alloc (Nat.le_refl _) (.cells #[.int .i64 0, .int .u8 0, .int .u8 0, .int .u8 0, .int .i64 0, .bool false, .string ⟨#[]⟩, .pointer none, .int .i64 0] 28)).trans (b6.mono (by rw [World.size_alloc]; exact Nat.le_succ _))))))); have Z6 := Lib.hid ((blk_new wr.drew zeroC 28).later b6 (by rw [World.size_alloc]; exact Nat.lt_succ_self _)); clear ch hk hn b6; dsimp only; refine hJ _ _ ⟨by exact so_blk V6.out.1.p, ?_⟩; clear hJ J
                    refine wpAnyH_take (i := 5) (oi := { dst := some 71, op := Go.Op.move (Go.Operand.tmp 76), type := 34, pos := "law.go:128", after := #[{ on := 4, ground := Go.Ground.data }], guard := none }) (v := ?_) rfl (by kernel_rfl) (by kernel_rfl) (by kernel_rfl) (fun _ _ _ h => h) (Or.inl ⟨by rfl, ?_⟩) (by exact so_blk V6.out.1.p) ?_
                    rotate_left
                    · intro Z hZ; clear hZ; go_simp; try with_reducible rfl
                    simp only [Act.put, List.setIfInBounds_toArray, List.set_cons_zero, List.set_cons_succ]
                    refine wpAnyH_take (i := 6) (oi := { dst := some 77, op := Go.Op.extract (Go.Operand.tmp 71) 0, type := 28, pos := "law.go:128", after := #[{ on := 5, ground := Go.Ground.data }], guard := none }) (v := ?_) rfl (by kernel_rfl) (by kernel_rfl) (by kernel_rfl) (fun _ _ _ h => h) (Or.inl ⟨by rfl, ?_⟩) (by exact so_blk V6.out.1.p) ?_
                    rotate_left
                    · intro Z hZ; clear hZ; go_simp; try with_reducible rfl
                    simp only [Act.put, List.setIfInBounds_toArray, List.set_cons_zero, List.set_cons_succ]
                    refine wpAnyH_take (i := 7) (oi := { dst := some 78, op := Go.Op.extract (Go.Operand.tmp 71) 1, type := 32, pos := "law.go:128", after := #[{ on := 5, ground := Go.Ground.data }, { on := 9, ground := Go.Ground.gcOnly Go.Departure.lateStores }], guard := none }) (v := ?_) rfl (by kernel_rfl) (by kernel_rfl) (by kernel_rfl) (fun _ _ _ h => h) (Or.inl ⟨by rfl, ?_⟩) (by exact so_blk V6.out.1.p) ?_
                    rotate_left
                    · intro Z hZ; clear hZ; go_simp; try with_reducible rfl
                    simp only [Act.put, List.setIfInBounds_toArray, List.set_cons_zero, List.set_cons_succ]
                    refine wpAnyH_all (rs := [9]) (by kernel_rfl) (by simp) (List.forall_mem_cons.2 ⟨wpOp_some (o := { dst := none, op := Go.Op.store 28 (Go.Operand.tmp 12) (Go.Operand.tmp 77), type := 0, pos := "law.go:128", after := #[{ on := 8, ground := Go.Ground.data }, { on := 6, ground := Go.Ground.data }, { on := 4, ground := Go.Ground.chain }, { on := 0, ground := Go.Ground.phase }, { on := 1, ground := Go.Ground.phase }, { on := 2, ground := Go.Ground.phase }, { on := 3, ground := Go.Ground.phase }, { on := 4, ground := Go.Ground.phase }, { on := 5, ground := Go.Ground.phase }, { on := 6, ground := Go.Ground.phase }, { on := 7, ground := Go.Ground.textOnly Go.Departure.lateStores }, { on := 8, ground := Go.Ground.phase }], guard := none }) rfl (by rfl) (fun J hJ => ?_), (by simp)⟩)
                    obtain ⟨y6, r6, j6⟩ := (show _ from Z6.out); have q0 : w6.cell? ⟨wr.heap.size, 0, none⟩ = some (.int .i64 0) := r6 0; have q1 : w6.cell? ⟨wr.heap.size, 1, none⟩ = some (.int .u8 0) := r6 1; have q2 : w6.cell? ⟨wr.heap.size, 2, none⟩ = some (.int .u8 0) := r6 2; have q3 : w6.cell? ⟨wr.heap.size, 3, none⟩ = some (.int .u8 0) := r6 3; have q4 : w6.cell? ⟨wr.heap.size, 4, none⟩ = some (.int .i64 0) := r6 4; have q5 : w6.cell? ⟨wr.heap.size, 5, none⟩ = some (.bool false) := r6 5; have q6 : w6.cell? ⟨wr.heap.size, 6, none⟩ = some (.string ⟨#[]⟩) := r6 6; have q7 : w6.cell? ⟨wr.heap.size, 7, none⟩ = some (.pointer none) := r6 7; have q8 : w6.cell? ⟨wr.heap.size, 8, none⟩ = some (.int .i64 0) := r6 8; have f0 : w6.frozen? ⟨wr.heap.size, 0, none⟩ = false := j6 0; have f1 : w6.frozen? ⟨wr.heap.size, 1, none⟩ = false := j6 1; have f2 : w6.frozen? ⟨wr.heap.size, 2, none⟩ = false := j6 2; have f3 : w6.frozen? ⟨wr.heap.size, 3, none⟩ = false := j6 3; have f4 : w6.frozen? ⟨wr.heap.size, 4, none⟩ = false := j6 4; have f5 : w6.frozen? ⟨wr.heap.size, 5, none⟩ = false := j6 5; have f6 : w6.frozen? ⟨wr.heap.size, 6, none⟩ = false := j6 6; have f7 : w6.frozen? ⟨wr.heap.size, 7, none⟩ = false := j6 7; have f8 : w6.frozen? ⟨wr.heap.size, 8, none⟩ = false := j6 8; clear r6 j6; go_simp; refine hJ _ _ ⟨by exact so_blk (put9_far V6.out.1.p (Nat.ne_of_gt VX.out.p.1) _ _ _ _ _ _ _ _ _), ?_⟩; clear hJ J
                    refine wpAnyH_take (i := 10) (oi := { dst := some 13, op := Go.Op.assign (Go.Operand.tmp 78), type := 32, pos := "law.go:128", after := #[{ on := 7, ground := Go.Ground.data }, { on := 9, ground := Go.Ground.chain }, { on := 0, ground := Go.Ground.phase }, { on := 1, ground := Go.Ground.phase }, { on := 2, ground := Go.Ground.phase }, { on := 3, ground := Go.Ground.phase }, { on := 4, ground := Go.Ground.phase }, { on := 5, ground := Go.Ground.phase }, { on := 6, ground := Go.Ground.phase }, { on := 7, ground := Go.Ground.phase }, { on := 8, ground := Go.Ground.phase }, { on := 9, ground := Go.Ground.phase }], guard := none }) (v := ?_) rfl (by kernel_rfl) (by kernel_rfl) (by kernel_rfl) (fun _ _ _ h => h) (Or.inl ⟨by rfl, ?_⟩) (by exact so_blk (put9_far V6.out.1.p (Nat.ne_of_gt VX.out.p.1) _ _ _ _ _ _ _ _ _)) ?_
                    rotate_left
                    · intro Z hZ; clear hZ; go_simp; try with_reducible rfl
                    simp only [Act.put, List.setIfInBounds_toArray, List.set_cons_zero, List.set_cons_succ]
                    refine wpAnyH_done (by kernel_rfl) ?_ _
                    go_wp2_with fail; go_meet; exact ⟨wr.heap.size, T6, A6, n6, c6, rfl, rfl, V6.out.2.2.2.1, Lib.hid (pq_put (w := w) (X0 := wr) (Z := w6) (g := w.heap.size) (gq := wr.heap.size) (T := T) (T' := T6) (v := .slice A6 n6 c6) (ks := ks) (s := ⟨sw, ⟨h0, h1, h2, dn⟩, sm, srow, stx, scl⟩) (s' := ⟨rw_, ⟨x, y, z, nd⟩, rm, rrow, rtx, rcl⟩) V6.out.1 Z6.out (Nat.le_refl _) VX.out.p.1 V6.out.2.1 V6.out.2.2.1 V6.out.2.2.2.2)⟩
                case rest =>
                  obtain ⟨gq, T6, A6, n6, c6, rfl, rfl, hn6, HQ⟩ := hcut
                  refine at_world (fun Z => PQ w wr w.heap.size gq ⟨sw, ⟨h0, h1, h2, dn⟩, sm, srow, stx, scl⟩ ⟨rw_, ⟨x, y, z, nd⟩, rm, rrow, rtx, rcl⟩ T T6 (.slice A6 n6 c6) ks Z ∧ PS w gz ⟨sw, ⟨h0, h1, h2, dn⟩, sm, srow, stx, scl⟩ U Z) ⟨HQ.out, VZ.out.later HQ.out.since⟩ ?_
                  clear HQ VX VZ HS CF hn6
                  intro X hX
                  have HQ := Lib.hid hX.1
                  have VX := Lib.hid hX.2
                  clear hX
                  have HS := Lib.hid (show ∀ Z, Below X.heap.size X Z → SO gz ⟨sw, ⟨h0, h1, h2, dn⟩, sm, srow, stx, scl⟩ U Z from fun Z hZ => so_blk (VX.out.later hZ).p)
                  have CF := Lib.hid (show ∀ Z, PS w gz ⟨sw, ⟨h0, h1, h2, dn⟩, sm, srow, stx, scl⟩ U Z → Below X.heap.size X Z → Calls Try.prog 7 #[psV ⟨sw, ⟨h0, h1, h2, dn⟩, sm, srow, stx, scl⟩ U, .int .u8 (S2[k].toNat : Int)] Z (Tells (⟨rw_, ⟨x, y, z, nd⟩, rm, rrow, rtx, rcl⟩, ks) Z) from fun Z hZ _ => CF0.out _ U Z hZ)
                  go_upto_region 23 with fail
                  go_cut [14, 15] (fun v5 v6 wx => ∃ (gq : Nat) (T6 A6 : Option Addr) (n6 c6 : Nat), v5 = .pointer (some ⟨gq, 0, none⟩) ∧ v6 = .slice A6 n6 c6 ∧ n6 = ks.length ∧ Hid (PQ w X gz gq ⟨sw, ⟨h0, h1, h2, dn⟩, sm, srow, stx, scl⟩ ⟨rw_, ⟨x, y, z, nd⟩, rm, rrow, rtx, rcl⟩ U T6 (.slice A6 n6 c6) ks wx))
                  case first =>
                    refine wp_region_held (S := SO gz ⟨sw, ⟨h0, h1, h2, dn⟩, sm, srow, stx, scl⟩ U) (by kernel_rfl) ?_
                    change wpAnyH _ _ _ _ _ _ _ _ (World.drew _)
                    refine wpAnyH_take (i := 0) (oi := { dst := some 80, op := Go.Op.load 28 (Go.Operand.tmp 10), type := 28, pos := "law.go:129", after := #[], guard := none }) (v := ?_) rfl (by kernel_rfl) (by kernel_rfl) (by kernel_rfl) (fun _ _ _ h => h) (Or.inl ⟨by rfl, ?_⟩) (by exact HS.out _ (Below.refl X.heap.size X).drew) ?_
                    rotate_left
                    · intro Z hZ; obtain ⟨p0, p1, p2, p3, p4, p5, p6, p7, p8⟩ := hZ; dsimp only at p0 p1 p2 p3 p4 p5 p6 p7 p8; go_simp; try with_reducible rfl
                    simp only [Act.put, List.setIfInBounds_toArray, List.set_cons_zero, List.set_cons_succ]
                    refine wpAnyH_take (i := 1) (oi := { dst := some 81, op := Go.Op.move (Go.Operand.tmp 1), type := 9, pos := "law.go:129", after := #[], guard := none }) (v := ?_) rfl (by kernel_rfl) (by kernel_rfl) (by kernel_rfl) (fun _ _ _ h => h) (Or.inl ⟨by rfl, ?_⟩) (by exact HS.out _ (Below.refl X.heap.size X).drew) ?_
                    rotate_left
                    · intro Z hZ; clear hZ; go_simp; try with_reducible rfl
                    simp only [Act.put, List.setIfInBounds_toArray, List.set_cons_zero, List.set_cons_succ]
                    refine wpAnyH_take (i := 2) (oi := { dst := some 82, op := Go.Op.move (Go.Operand.tmp 11), type := 3, pos := "law.go:129", after := #[], guard := none }) (v := ?_) rfl (by kernel_rfl) (by kernel_rfl) (by kernel_rfl) (fun _ _ _ h => h) (Or.inl ⟨by rfl, ?_⟩) (by exact HS.out _ (Below.refl X.heap.size X).drew) ?_
                    rotate_left
                    · intro Z hZ; clear hZ; go_simp; try with_reducible rfl
                    simp only [Act.put, List.setIfInBounds_toArray, List.set_cons_zero, List.set_cons_succ]
                    refine wpAnyH_take (i := 3) (oi := { dst := some 83, op := Go.Op.index 9 (Go.Operand.tmp 81) (Go.Operand.tmp 82), type := 5, pos := "law.go:129", after := #[{ on := 1, ground := Go.Ground.data }, { on := 2, ground := Go.Ground.data }], guard := none }) (v := ?_) rfl (by kernel_rfl) (by kernel_rfl) (by kernel_rfl) (fun _ _ _ h => h) (Or.inl ⟨by rfl, ?_⟩) (by exact HS.out _ (Below.refl X.heap.size X).drew) ?_
                    rotate_left
                    · intro Z hZ; clear hZ; go_simp; try with_reducible rfl
                    simp only [Act.put, List.setIfInBounds_toArray, List.set_cons_zero, List.set_cons_succ]
                    refine wpAnyH_all (rs := [4, 8]) (by kernel_rfl) (by simp) (List.forall_mem_cons.2 ⟨wpOp_some (o := { dst := some 84, op := Go.Op.call { callee := Go.Callee.value (Go.Operand.func 7), args := #[Go.Operand.tmp 80, Go.Operand.tmp 83], argTypes := #[28, 5] }, type := 34, pos := "law.go:129", after := #[{ on := 0, ground := Go.Ground.data }, { on := 3, ground := Go.Ground.data }], guard := none }) rfl (by rfl) (fun J hJ => ?_), (List.forall_mem_cons.2 ⟨wpOp_some (o := { dst := some 14, op := Go.Op.alloc 28, type := 0, pos := "law.go:129", after := #[], guard := none }) rfl (by rfl) (fun J hJ => ?_), (by simp)⟩)⟩)
                    · go_simp; refine (CF.out _ (VX.out.later (by exact (Below.refl X.heap.size X).drew)) (by exact (Below.refl X.heap.size X).drew)).mono ?_; rintro e w6 ⟨T6, A6, n6, c6, rfl, ch, hk, hn, b6⟩; have V6 := Lib.hid (And.intro (VX.out.later (((Below.refl X.heap.size X).drew).trans b6)) (And.intro ch (And.intro hk (And.intro hn (((Below.refl X.heap.size X).drew).trans b6))))); clear ch hk hn b6; dsimp only; refine hJ _ _ ⟨by exact so_blk V6.out.1.p, ?_⟩; clear hJ J
                      refine wpAnyH_take (i := 5) (oi := { dst := some 79, op := Go.Op.move (Go.Operand.tmp 84), type := 34, pos := "law.go:129", after := #[{ on := 4, ground := Go.Ground.data }], guard := none }) (v := ?_) rfl (by kernel_rfl) (by kernel_rfl) (by kernel_rfl) (fun _ _ _ h => h) (Or.inl ⟨by rfl, ?_⟩) (by exact so_blk V6.out.1.p) ?_
                      rotate_left
                      · intro Z hZ; clear hZ; go_simp; try with_reducible rfl
                      simp only [Act.put, List.setIfInBounds_toArray, List.set_cons_zero, List.set_cons_succ]
                      refine wpAnyH_take (i := 6) (oi := { dst := some 85, op := Go.Op.extract (Go.Operand.tmp 79) 0, type := 28, pos := "law.go:129", after := #[{ on := 5, ground := Go.Ground.data }], guard := none }) (v := ?_) rfl (by kernel_rfl) (by kernel_rfl) (by kernel_rfl) (fun _ _ _ h => h) (Or.inl ⟨by rfl, ?_⟩) (by exact so_blk V6.out.1.p) ?_
                      rotate_left
                      · intro Z hZ; clear hZ; go_simp; try with_reducible rfl
                      simp only [Act.put, List.setIfInBounds_toArray, List.set_cons_zero, List.set_cons_succ]
                      refine wpAnyH_take (i := 7) (oi := { dst := some 86, op := Go.Op.extract (Go.Operand.tmp 79) 1, type := 32, pos := "law.go:129", after := #[{ on := 5, ground := Go.Ground.data }, { on := 9, ground := Go.Ground.gcOnly Go.Departure.lateStores }], guard := none }) (v := ?_) rfl (by kernel_rfl) (by kernel_rfl) (by kernel_rfl) (fun _ _ _ h => h) (Or.inl ⟨by rfl, ?_⟩) (by exact so_blk V6.out.1.p) ?_
                      rotate_left
                      · intro Z hZ; clear hZ; go_simp; try with_reducible rfl
                      simp only [Act.put, List.setIfInBounds_toArray, List.set_cons_zero, List.set_cons_succ]
                      refine wpAnyH_all (rs := [8]) (by kernel_rfl) (by simp) (List.forall_mem_cons.2 ⟨wpOp_some (o := { dst := some 14, op := Go.Op.alloc 28, type := 0, pos := "law.go:129", after := #[], guard := none }) rfl (by rfl) (fun J hJ => ?_), (by simp)⟩)
                      go_simp; refine hJ _ _ ⟨by exact so_blk (V6.out.1.later (belAlloc _ _)).p, ?_⟩; clear hJ J
                      refine wpAnyH_all (rs := [9]) (by kernel_rfl) (by simp) (List.forall_mem_cons.2 ⟨wpOp_some (o := { dst := none, op := Go.Op.store 28 (Go.Operand.tmp 14) (Go.Operand.tmp 85), type := 0, pos := "law.go:129", after := #[{ on := 8, ground := Go.Ground.data }, { on := 6, ground := Go.Ground.data }, { on := 4, ground := Go.Ground.chain }, { on := 0, ground := Go.Ground.phase }, { on := 1, ground := Go.Ground.phase }, { on := 2, ground := Go.Ground.phase }, { on := 3, ground := Go.Ground.phase }, { on := 4, ground := Go.Ground.phase }, { on := 5, ground := Go.Ground.phase }, { on := 6, ground := Go.Ground.phase }, { on := 7, ground := Go.Ground.textOnly Go.Departure.lateStores }, { on := 8, ground := Go.Ground.phase }], guard := none }) rfl (by rfl) (fun J hJ => ?_), (by simp)⟩)
                      obtain ⟨y6, r6, j6⟩ := (show _ from (blk_new w6 zeroC 28)); have q0 : (w6.alloc (.cells #[.int .i64 0, .int .u8 0, .int .u8 0, .int .u8 0, .int .i64 0, .bool false, .string ⟨#[]⟩, .pointer none, .int .i64 0] 28)).cell? ⟨w6.heap.size, 0, none⟩ = some (.int .i64 0) := r6 0; have q1 : (w6.alloc (.cells #[.int .i64 0, .int .u8 0, .int .u8 0, .int .u8 0, .int .i64 0, .bool false, .string ⟨#[]⟩, .pointer none, .int .i64 0] 28)).cell? ⟨w6.heap.size, 1, none⟩ = some (.int .u8 0) := r6 1; have q2 : (w6.alloc (.cells #[.int .i64 0, .int .u8 0, .int .u8 0, .int .u8 0, .int .i64 0, .bool false, .string ⟨#[]⟩, .pointer none, .int .i64 0] 28)).cell? ⟨w6.heap.size, 2, none⟩ = some (.int .u8 0) := r6 2; have q3 : (w6.alloc (.cells #[.int .i64 0, .int .u8 0, .int .u8 0, .int .u8 0, .int .i64 0, .bool false, .string ⟨#[]⟩, .pointer none, .int .i64 0] 28)).cell? ⟨w6.heap.size, 3, none⟩ = some (.int .u8 0) := r6 3; have q4 : (w6.alloc (.cells #[.int .i64 0, .int .u8 0, .int .u8 0, .int .u8 0, .int .i64 0, .bool false, .string ⟨#[]⟩, .pointer none, .int .i64 0] 28)).cell? ⟨w6.heap.size, 4, none⟩ = some (.int .i64 0) := r6 4; have q5 : (w6.alloc (.cells #[.int .i64 0, .int .u8 0, .int .u8 0, .int .u8 0, .int .i64 0, .bool false, .string ⟨#[]⟩, .pointer none, .int .i64 0] 28)).cell? ⟨w6.heap.size, 5, none⟩ = some (.bool false) := r6 5; have q6 : (w6.alloc (.cells #[.int .i64 0, .int .u8 0, .int .u8 0, .int .u8 0, .int .i64 0, .bool false, .string ⟨#[]⟩, .pointer none, .int .i64 0] 28)).cell? ⟨w6.heap.size, 6, none⟩ = some (.string ⟨#[]⟩) := r6 6; have q7 : (w6.alloc (.cells #[.int .i64 0, .int .u8 0, .int .u8 0, .int .u8 0, .int .i64 0, .bool false, .string ⟨#[]⟩, .pointer none, .int .i64 0] 28)).cell? ⟨w6.heap.size, 7, none⟩ = some (.pointer none) := r6 7; have q8 : (w6.alloc (.cells #[.int .i64 0, .int .u8 0, .int .u8 0, .int .u8 0, .int .i64 0, .bool false, .string ⟨#[]⟩, .pointer none, .int .i64 0] 28)).cell? ⟨w6.heap.size, 8, none⟩ = some (.int .i64 0) := r6 8; have f0 : (w6.alloc (.cells #[.int .i64 0, .int .u8 0, .int .u8 0, .int .u8 0, .int .i64 0, .bool false, .string ⟨#[]⟩, .pointer none, .int .i64 0] 28)).frozen? ⟨w6.heap.size, 0, none⟩ = false := j6 0; have f1 : (w6.alloc (.cells #[.int .i64 0, .int .u8 0, .int .u8 0, .int .u8 0, .int .i64 0, .bool false, .string ⟨#[]⟩, .pointer none, .int .i64 0] 28)).frozen? ⟨w6.heap.size, 1, none⟩ = false := j6 1; have f2 : (w6.alloc (.cells #[.int .i64 0, .int .u8 0, .int .u8 0, .int .u8 0, .int .i64 0, .bool false, .string ⟨#[]⟩, .pointer none, .int .i64 0] 28)).frozen? ⟨w6.heap.size, 2, none⟩ = false := j6 2; have f3 : (w6.alloc (.cells #[.int .i64 0, .int .u8 0, .int .u8 0, .int .u8 0, .int .i64 0, .bool false, .string ⟨#[]⟩, .pointer none, .int .i64 0] 28)).frozen? ⟨w6.heap.size, 3, none⟩ = false := j6 3; have f4 : (w6.alloc (.cells #[.int .i64 0, .int .u8 0, .int .u8 0, .int .u8 0, .int .i64 0, .bool false, .string ⟨#[]⟩, .pointer none, .int .i64 0] 28)).frozen? ⟨w6.heap.size, 4, none⟩ = false := j6 4; have f5 : (w6.alloc (.cells #[.int .i64 0, .int .u8 0, .int .u8 0, .int .u8 0, .int .i64 0, .bool false, .string ⟨#[]⟩, .pointer none, .int .i64 0] 28)).frozen? ⟨w6.heap.size, 5, none⟩ = false := j6 5; have f6 : (w6.alloc (.cells #[.int .i64 0, .int .u8 0, .int .u8 0, .int .u8 0, .int .i64 0, .bool false, .string ⟨#[]⟩, .pointer none, .int .i64 0] 28)).frozen? ⟨w6.heap.size, 6, none⟩ = false := j6 6; have f7 : (w6.alloc (.cells #[.int .i64 0, .int .u8 0, .int .u8 0, .int .u8 0, .int .i64 0, .bool false, .string ⟨#[]⟩, .pointer none, .int .i64 0] 28)).frozen? ⟨w6.heap.size, 7, none⟩ = false := j6 7; have f8 : (w6.alloc (.cells #[.int .i64 0, .int .u8 0, .int .u8 0, .int .u8 0, .int .i64 0, .bool false, .string ⟨#[]⟩, .pointer none, .int .i64 0] 28)).frozen? ⟨w6.heap.size, 8, none⟩ = false := j6 8; clear r6 j6; go_simp; refine hJ _ _ ⟨by exact so_blk (V6.out.1.later (belAlloc _ _)).p, ?_⟩; clear hJ J
                      refine wpAnyH_take (i := 10) (oi := { dst := some 15, op := Go.Op.assign (Go.Operand.tmp 86), type := 32, pos := "law.go:129", after := #[{ on := 7, ground := Go.Ground.data }, { on := 9, ground := Go.Ground.chain }, { on := 0, ground := Go.Ground.phase }, { on := 1, ground := Go.Ground.phase }, { on := 2, ground := Go.Ground.phase }, { on := 3, ground := Go.Ground.phase }, { on := 4, ground := Go.Ground.phase }, { on := 5, ground := Go.Ground.phase }, { on := 6, ground := Go.Ground.phase }, { on := 7, ground := Go.Ground.phase }, { on := 8, ground := Go.Ground.phase }, { on := 9, ground := Go.Ground.phase }], guard := none }) (v := ?_) rfl (by kernel_rfl) (by kernel_rfl) (by kernel_rfl) (fun _ _ _ h => h) (Or.inl ⟨by rfl, ?_⟩) (by exact so_blk (V6.out.1.later (belAlloc _ _)).p) ?_
                      rotate_left
                      · intro Z hZ; clear hZ; go_simp; try with_reducible rfl
                      simp only [Act.put, List.setIfInBounds_toArray, List.set_cons_zero, List.set_cons_succ]
                      refine wpAnyH_done (by kernel_rfl) ?_ _
                      go_wp2_with fail; go_meet; exact ⟨w6.heap.size, T6, A6, n6, c6, rfl, rfl, V6.out.2.2.2.1, Lib.hid (pq_new (s := ⟨sw, ⟨h0, h1, h2, dn⟩, sm, srow, stx, scl⟩) (s' := ⟨rw_, ⟨x, y, z, nd⟩, rm, rrow, rtx, rcl⟩) V6.out.1 V6.out.2.1 V6.out.2.2.1 V6.out.2.2.2.2 _)⟩
                    · go_simp; refine hJ _ _ ⟨by exact HS.out _ ((Below.refl X.heap.size X).drew.alloc (Nat.le_refl _) _), ?_⟩; clear hJ J
                      refine wpAnyH_all (rs := [4]) (by kernel_rfl) (by simp) (List.forall_mem_cons.2 ⟨wpOp_some (o := { dst := some 84, op := Go.Op.call { callee := Go.Callee.value (Go.Operand.func 7), args := #[Go.Operand.tmp 80, Go.Operand.tmp 83], argTypes := #[28, 5] }, type := 34, pos := "law.go:129", after := #[{ on := 0, ground := Go.Ground.data }, { on := 3, ground := Go.Ground.data }], guard := none }) rfl (by rfl) (fun J hJ => ?_), (by simp)⟩)
                      go_simp; refine (CF.out _ (VX.out.later (((Below.refl X.heap.size X).drew).alloc (Nat.le_refl _) _)) (((Below.refl X.heap.size X).drew).alloc (Nat.le_refl _) _)).mono ?_; rintro e w6 ⟨T6, A6, n6, c6, rfl, ch, hk, hn, b6⟩; have V6 := Lib.hid (And.intro (VX.out.later ((((Below.refl X.heap.size X).drew).alloc (Nat.le_refl _) (.cells #[.int .i64 0, .int .u8 0, .int .u8 0, .int .u8 0, .int .i64 0, .bool false, .string ⟨#[]⟩, .pointer none, .int .i64 0] 28)).trans (b6.mono (by rw [World.size_alloc]; exact Nat.le_succ _)))) (And.intro ch (And.intro hk (And.intro hn ((((Below.refl X.heap.size X).drew).alloc (Nat.le_refl _) (.cells #[.int .i64 0, .int .u8 0, .int .u8 0, .int .u8 0, .int .i64 0, .bool false, .string ⟨#[]⟩, .pointer none, .int .i64 0] 28)).trans (b6.mono (by rw [World.size_alloc]; exact Nat.le_succ _))))))); have Z6 := Lib.hid ((blk_new X.drew zeroC 28).later b6 (by rw [World.size_alloc]; exact Nat.lt_succ_self _)); clear ch hk hn b6; dsimp only; refine hJ _ _ ⟨by exact so_blk V6.out.1.p, ?_⟩; clear hJ J
                      refine wpAnyH_take (i := 5) (oi := { dst := some 79, op := Go.Op.move (Go.Operand.tmp 84), type := 34, pos := "law.go:129", after := #[{ on := 4, ground := Go.Ground.data }], guard := none }) (v := ?_) rfl (by kernel_rfl) (by kernel_rfl) (by kernel_rfl) (fun _ _ _ h => h) (Or.inl ⟨by rfl, ?_⟩) (by exact so_blk V6.out.1.p) ?_
                      rotate_left
                      · intro Z hZ; clear hZ; go_simp; try with_reducible rfl
                      simp only [Act.put, List.setIfInBounds_toArray, List.set_cons_zero, List.set_cons_succ]
                      refine wpAnyH_take (i := 6) (oi := { dst := some 85, op := Go.Op.extract (Go.Operand.tmp 79) 0, type := 28, pos := "law.go:129", after := #[{ on := 5, ground := Go.Ground.data }], guard := none }) (v := ?_) rfl (by kernel_rfl) (by kernel_rfl) (by kernel_rfl) (fun _ _ _ h => h) (Or.inl ⟨by rfl, ?_⟩) (by exact so_blk V6.out.1.p) ?_
                      rotate_left
                      · intro Z hZ; clear hZ; go_simp; try with_reducible rfl
                      simp only [Act.put, List.setIfInBounds_toArray, List.set_cons_zero, List.set_cons_succ]
                      refine wpAnyH_take (i := 7) (oi := { dst := some 86, op := Go.Op.extract (Go.Operand.tmp 79) 1, type := 32, pos := "law.go:129", after := #[{ on := 5, ground := Go.Ground.data }, { on := 9, ground := Go.Ground.gcOnly Go.Departure.lateStores }], guard := none }) (v := ?_) rfl (by kernel_rfl) (by kernel_rfl) (by kernel_rfl) (fun _ _ _ h => h) (Or.inl ⟨by rfl, ?_⟩) (by exact so_blk V6.out.1.p) ?_
                      rotate_left
                      · intro Z hZ; clear hZ; go_simp; try with_reducible rfl
                      simp only [Act.put, List.setIfInBounds_toArray, List.set_cons_zero, List.set_cons_succ]
                      refine wpAnyH_all (rs := [9]) (by kernel_rfl) (by simp) (List.forall_mem_cons.2 ⟨wpOp_some (o := { dst := none, op := Go.Op.store 28 (Go.Operand.tmp 14) (Go.Operand.tmp 85), type := 0, pos := "law.go:129", after := #[{ on := 8, ground := Go.Ground.data }, { on := 6, ground := Go.Ground.data }, { on := 4, ground := Go.Ground.chain }, { on := 0, ground := Go.Ground.phase }, { on := 1, ground := Go.Ground.phase }, { on := 2, ground := Go.Ground.phase }, { on := 3, ground := Go.Ground.phase }, { on := 4, ground := Go.Ground.phase }, { on := 5, ground := Go.Ground.phase }, { on := 6, ground := Go.Ground.phase }, { on := 7, ground := Go.Ground.textOnly Go.Departure.lateStores }, { on := 8, ground := Go.Ground.phase }], guard := none }) rfl (by rfl) (fun J hJ => ?_), (by simp)⟩)
                      obtain ⟨y6, r6, j6⟩ := (show _ from Z6.out); have q0 : w6.cell? ⟨X.heap.size, 0, none⟩ = some (.int .i64 0) := r6 0; have q1 : w6.cell? ⟨X.heap.size, 1, none⟩ = some (.int .u8 0) := r6 1; have q2 : w6.cell? ⟨X.heap.size, 2, none⟩ = some (.int .u8 0) := r6 2; have q3 : w6.cell? ⟨X.heap.size, 3, none⟩ = some (.int .u8 0) := r6 3; have q4 : w6.cell? ⟨X.heap.size, 4, none⟩ = some (.int .i64 0) := r6 4; have q5 : w6.cell? ⟨X.heap.size, 5, none⟩ = some (.bool false) := r6 5; have q6 : w6.cell? ⟨X.heap.size, 6, none⟩ = some (.string ⟨#[]⟩) := r6 6; have q7 : w6.cell? ⟨X.heap.size, 7, none⟩ = some (.pointer none) := r6 7; have q8 : w6.cell? ⟨X.heap.size, 8, none⟩ = some (.int .i64 0) := r6 8; have f0 : w6.frozen? ⟨X.heap.size, 0, none⟩ = false := j6 0; have f1 : w6.frozen? ⟨X.heap.size, 1, none⟩ = false := j6 1; have f2 : w6.frozen? ⟨X.heap.size, 2, none⟩ = false := j6 2; have f3 : w6.frozen? ⟨X.heap.size, 3, none⟩ = false := j6 3; have f4 : w6.frozen? ⟨X.heap.size, 4, none⟩ = false := j6 4; have f5 : w6.frozen? ⟨X.heap.size, 5, none⟩ = false := j6 5; have f6 : w6.frozen? ⟨X.heap.size, 6, none⟩ = false := j6 6; have f7 : w6.frozen? ⟨X.heap.size, 7, none⟩ = false := j6 7; have f8 : w6.frozen? ⟨X.heap.size, 8, none⟩ = false := j6 8; clear r6 j6; go_simp; refine hJ _ _ ⟨by exact so_blk (put9_far V6.out.1.p (Nat.ne_of_gt VX.out.p.1) _ _ _ _ _ _ _ _ _), ?_⟩; clear hJ J
                      refine wpAnyH_take (i := 10) (oi := { dst := some 15, op := Go.Op.assign (Go.Operand.tmp 86), type := 32, pos := "law.go:129", after := #[{ on := 7, ground := Go.Ground.data }, { on := 9, ground := Go.Ground.chain }, { on := 0, ground := Go.Ground.phase }, { on := 1, ground := Go.Ground.phase }, { on := 2, ground := Go.Ground.phase }, { on := 3, ground := Go.Ground.phase }, { on := 4, ground := Go.Ground.phase }, { on := 5, ground := Go.Ground.phase }, { on := 6, ground := Go.Ground.phase }, { on := 7, ground := Go.Ground.phase }, { on := 8, ground := Go.Ground.phase }, { on := 9, ground := Go.Ground.phase }], guard := none }) (v := ?_) rfl (by kernel_rfl) (by kernel_rfl) (by kernel_rfl) (fun _ _ _ h => h) (Or.inl ⟨by rfl, ?_⟩) (by exact so_blk (put9_far V6.out.1.p (Nat.ne_of_gt VX.out.p.1) _ _ _ _ _ _ _ _ _)) ?_
                      rotate_left
                      · intro Z hZ; clear hZ; go_simp; try with_reducible rfl
                      simp only [Act.put, List.setIfInBounds_toArray, List.set_cons_zero, List.set_cons_succ]
                      refine wpAnyH_done (by kernel_rfl) ?_ _
                      go_wp2_with fail; go_meet; exact ⟨X.heap.size, T6, A6, n6, c6, rfl, rfl, V6.out.2.2.2.1, Lib.hid (pq_put (w := w) (X0 := X) (Z := w6) (g := gz) (gq := X.heap.size) (T := U) (T' := T6) (v := .slice A6 n6 c6) (ks := ks) (s := ⟨sw, ⟨h0, h1, h2, dn⟩, sm, srow, stx, scl⟩) (s' := ⟨rw_, ⟨x, y, z, nd⟩, rm, rrow, rtx, rcl⟩) V6.out.1 Z6.out (Nat.le_refl _) VX.out.p.1 V6.out.2.1 V6.out.2.2.1 V6.out.2.2.2.2)⟩
                  case rest =>
                    obtain ⟨gq2, T7, A7, n7, c7, rfl, rfl, hn7, HQ2⟩ := hcut
                    refine at_world (fun Z => PQ w wr w.heap.size gq ⟨sw, ⟨h0, h1, h2, dn⟩, sm, srow, stx, scl⟩ ⟨rw_, ⟨x, y, z, nd⟩, rm, rrow, rtx, rcl⟩ T T6 (.slice A6 n6 c6) ks Z ∧ PQ w X gz gq2 ⟨sw, ⟨h0, h1, h2, dn⟩, sm, srow, stx, scl⟩ ⟨rw_, ⟨x, y, z, nd⟩, rm, rrow, rtx, rcl⟩ U T7 (.slice A7 n7 c7) ks Z) ⟨HQ.out.later HQ2.out.since, HQ2.out⟩ ?_
                    clear VX HS CF CF0 HQ HQ2
                    intro Z hZ
                    have HZ := Lib.hid hZ
                    clear hZ
                    obtain ⟨ye, ke, je⟩ := (show _ from HZ.out.1.q)
                    obtain ⟨yd, kd, jd⟩ := (show _ from HZ.out.1.ps.p)
                    have e0 : Z.cell? ⟨gq, 0, none⟩ = _ := ke 0
                    have e1 : Z.cell? ⟨gq, 1, none⟩ = _ := ke 1
                    have e2 : Z.cell? ⟨gq, 2, none⟩ = _ := ke 2
                    have e3 : Z.cell? ⟨gq, 3, none⟩ = _ := ke 3
                    have e4 : Z.cell? ⟨gq, 4, none⟩ = _ := ke 4
                    have e5 : Z.cell? ⟨gq, 5, none⟩ = _ := ke 5
                    have e6 : Z.cell? ⟨gq, 6, none⟩ = _ := ke 6
                    have e7 : Z.cell? ⟨gq, 7, none⟩ = _ := ke 7
                    have e8 : Z.cell? ⟨gq, 8, none⟩ = _ := ke 8
                    have d0 : Z.cell? ⟨w.heap.size, 0, none⟩ = _ := kd 0
                    have d1 : Z.cell? ⟨w.heap.size, 1, none⟩ = _ := kd 1
                    have d2 : Z.cell? ⟨w.heap.size, 2, none⟩ = _ := kd 2
                    have d3 : Z.cell? ⟨w.heap.size, 3, none⟩ = _ := kd 3
                    have d4 : Z.cell? ⟨w.heap.size, 4, none⟩ = _ := kd 4
                    have d5 : Z.cell? ⟨w.heap.size, 5, none⟩ = _ := kd 5
                    have d6 : Z.cell? ⟨w.heap.size, 6, none⟩ = _ := kd 6
                    have d7 : Z.cell? ⟨w.heap.size, 7, none⟩ = _ := kd 7
                    have d8 : Z.cell? ⟨w.heap.size, 8, none⟩ = _ := kd 8
                    have g0 := jd 0
                    have g1 := jd 1
                    have g2 := jd 2
                    have g3 := jd 3
                    have g4 := jd 4
                    have g5 := jd 5
                    have g6 := jd 6
                    have g7 := jd 7
                    have g8 := jd 8
                    have hne1 : gq ≠ w.heap.size := Nat.ne_of_gt HZ.out.1.ne
                    have hne2 : w.heap.size ≠ gq := Nat.ne_of_lt HZ.out.1.ne
                    simp at e0 e1 e2 e3 e4 e5 e6 e7 e8 d0 d1 d2 d3 d4 d5 d6 d7 d8
                    clear ke kd jd je
                    go_upto_region 25 with fail
                    refine at_world (fun Y => PS w w.heap.size ⟨rw_, ⟨x, y, z, nd⟩, rm, rrow, rtx, rcl⟩ T6 Y ∧ PS w gz ⟨sw, ⟨h0, h1, h2, dn⟩, sm, srow, stx, scl⟩ U Y ∧ Blk Y gq2 (psC ⟨rw_, ⟨x, y, z, nd⟩, rm, rrow, rtx, rcl⟩ T7) ∧ Chain Y T7 (⟨rw_, ⟨x, y, z, nd⟩, rm, rrow, rtx, rcl⟩ : KS).tx ∧ KyW Y (.slice A6 n6 c6) ks ∧ KyW Y (.slice A7 n7 c7) ks) (duo_one HZ.out.1 HZ.out.2 hne _ _ _ _ _ _ _ _ _ ⟨rfl, rfl, rfl, rfl, rfl, rfl, rfl, rfl, rfl⟩) ?_
                    clear e0 e1 e2 e3 e4 e5 e6 e7 e8 d0 d1 d2 d3 d4 d5 d6 d7 d8 g0 g1 g2 g3 g4 g5 g6 g7 g8 ye yd hne1 hne2
                    have hne3 : gz < gq2 := HZ.out.2.ne
                    clear HZ
                    intro Y hY
                    have HY := Lib.hid hY
                    clear hY
                    obtain ⟨ye, ke, je⟩ := (show _ from HY.out.2.2.1)
                    obtain ⟨yd, kd, jd⟩ := (show _ from HY.out.2.1.p)
                    have e0 : Y.cell? ⟨gq2, 0, none⟩ = _ := ke 0
                    have e1 : Y.cell? ⟨gq2, 1, none⟩ = _ := ke 1
                    have e2 : Y.cell? ⟨gq2, 2, none⟩ = _ := ke 2
                    have e3 : Y.cell? ⟨gq2, 3, none⟩ = _ := ke 3
                    have e4 : Y.cell? ⟨gq2, 4, none⟩ = _ := ke 4
                    have e5 : Y.cell? ⟨gq2, 5, none⟩ = _ := ke 5
                    have e6 : Y.cell? ⟨gq2, 6, none⟩ = _ := ke 6
                    have e7 : Y.cell? ⟨gq2, 7, none⟩ = _ := ke 7
                    have e8 : Y.cell? ⟨gq2, 8, none⟩ = _ := ke 8
                    have d0 : Y.cell? ⟨gz, 0, none⟩ = _ := kd 0
                    have d1 : Y.cell? ⟨gz, 1, none⟩ = _ := kd 1
                    have d2 : Y.cell? ⟨gz, 2, none⟩ = _ := kd 2
                    have d3 : Y.cell? ⟨gz, 3, none⟩ = _ := kd 3
                    have d4 : Y.cell? ⟨gz, 4, none⟩ = _ := kd 4
                    have d5 : Y.cell? ⟨gz, 5, none⟩ = _ := kd 5
                    have d6 : Y.cell? ⟨gz, 6, none⟩ = _ := kd 6
                    have d7 : Y.cell? ⟨gz, 7, none⟩ = _ := kd 7
                    have d8 : Y.cell? ⟨gz, 8, none⟩ = _ := kd 8
                    have g0 := jd 0
                    have g1 := jd 1
                    have g2 := jd 2
                    have g3 := jd 3
                    have g4 := jd 4
                    have g5 := jd 5
                    have g6 := jd 6
                    have g7 := jd 7
                    have g8 := jd 8
                    have hne1 : gq2 ≠ gz := Nat.ne_of_gt hne3
                    have hne2 : gz ≠ gq2 := Nat.ne_of_lt hne3
                    simp at e0 e1 e2 e3 e4 e5 e6 e7 e8 d0 d1 d2 d3 d4 d5 d6 d7 d8
                    clear ke kd jd je
                    go_upto_region 26 with fail
                    refine at_world (fun Y => PS w w.heap.size ⟨rw_, ⟨x, y, z, nd⟩, rm, rrow, rtx, rcl⟩ T6 Y ∧ PS w gz ⟨rw_, ⟨x, y, z, nd⟩, rm, rrow, rtx, rcl⟩ T7 Y ∧ KyW Y (.slice A6 n6 c6) ks ∧ KyW Y (.slice A7 n7 c7) ks) (duo_two HY.out.1 HY.out.2.1 HY.out.2.2.2.1 HY.out.2.2.2.2.1 HY.out.2.2.2.2.2 hne _ _ _ _ _ _ _ _ _ ⟨rfl, rfl, rfl, rfl, rfl, rfl, rfl, rfl, rfl⟩) ?_
                    clear e0 e1 e2 e3 e4 e5 e6 e7 e8 d0 d1 d2 d3 d4 d5 d6 d7 d8 g0 g1 g2 g3 g4 g5 g6 g7 g8 ye yd hne1 hne2 HY
                    intro W hW
                    have VW := Lib.hid hW
                    clear hW hn7
                    go_wp2_with (go_at_call 11; refine (sameK_eq _ _ ks _ VW.out.2.2.1 VW.out.2.2.2 HF.out.2.2.1 HF.out.2.2.2).mono ?_; rintro e w4 ⟨rfl, b4⟩; have V4 := Lib.hid (And.intro (VW.out.1.later b4) (VW.out.2.1.later b4)); clear b4)
                    go_roundw
                    case rel =>
                      repeat apply Exists.intro
                      exact ⟨⟨k + 1, ⟨rw_, ⟨x, y, z, nd⟩, rm, rrow, rtx, rcl⟩, T6, T7, by omega, by go_num, V4.out, HF.out.1, HF.out.2.1⟩, rfl⟩
                    case measure => simp [intOf]; omega
              · obtain rfl : k = S2.size := by omega
                go_wp2_with (go_at_call 13; refine (HW.out _).mono ?_; rintro e w4 ⟨rfl, hb4⟩)
                go_ret
                exact ⟨rfl, belowStep HI.out.1.1.below hb4⟩

theorem walk_KeysRests (s : ByteArray) (ws : s.size ≤ maxLen) (m : ByteArray) (wm : m.size ≤ maxLen) (w : World) : Calls Try.prog 6 #[.string s, .string m] w (Yes w) := by
  unfold maxLen at ws wm
  exact walk_KeysRests_at s m (by omega) (by omega) w
end Go.Proofs.Ytkkenabckhmkoaa

/- undo: UndoMost's walk. -/
import Derived.Test.YtfmpldgeldocnaaUnK
import Derived.Handy
namespace Go.Proofs.Ytfmpldgeldocnaa
open Go.RowKit Go.Shelf
set_option linter.unusedVariables false
set_option linter.unusedSimpArgs false

theorem andMask (n : Int) (m : Nat) (hm : m ≤ 1000) : ∃ r : Nat, r ≤ m ∧ bits .and .i64 n m = (r : Int) := by
  have e : (BitVec.ofInt 64 (m : Int)).toNat = m := by simp; omega
  have h : (BitVec.ofInt 64 n &&& BitVec.ofInt 64 (m : Int)).toNat ≤ m := by rw [BitVec.toNat_and, e]; exact Nat.and_le_right
  refine ⟨(BitVec.ofInt 64 n &&& BitVec.ofInt 64 (m : Int)).toNat, h, ?_⟩
  show IntKind.i64.wrap ((BitVec.ofInt 64 n &&& BitVec.ofInt 64 (m : Int)).toNat : Int) = _
  exact IntWalk.i64_in _ (by omega)

/-- A group of one edit: an x is put in at i. -/
def gX (i : Nat) : AG := ⟨[⟨(i : Int), [], [120]⟩], i⟩
/-- The stack behind k of them. -/
def mostS (k : Nat) : List AG := ((List.range k).drop (k - 1000)).map gX
theorem mostS_len (k : Nat) : (mostS k).length = min 1000 k := by simp [mostS]; omega
theorem mostS_succ (k : Nat) : (mostS k).drop ((mostS k).length - 999) ++ [gX k] = mostS (k + 1) := by
  rw [mostS_len]
  unfold mostS
  rw [← List.map_drop, List.drop_drop, List.range_succ, List.drop_append_of_le_length (by simp), List.map_append, show k - 1000 + (min 1000 k - 999) = k + 1 - 1000 by omega]
  rfl
theorem undo_x (i : Nat) : runE (gX i).eds.reverse (List.replicate (i + 1) 120) = some (List.replicate i 120) := by
  have h : doE (AE.back ⟨(i : Int), [], [120]⟩) (List.replicate (i + 1) 120) = some (List.replicate i 120) := by
    unfold doE AE.back
    rw [if_pos]
    · simp
    · refine ⟨by simp, by simp, ?_⟩
      simp
  simp [gX, runE, h]
theorem run_range (a : Nat) : ∀ (j : Nat) (c : Int), runS (((List.range' a (j + 1)).map gX).reverse) (List.replicate (a + (j + 1)) 120) c = some (List.replicate a 120, (a : Int))
  | 0, c => by
    rw [show List.range' a (0 + 1) = [a] from rfl, List.map_cons, List.map_nil, List.reverse_singleton, runS_cons, Nat.zero_add, undo_x]
    rfl
  | j + 1, c => by
    rw [List.range'_concat, List.map_append, List.reverse_append, List.map_cons, List.map_nil, List.reverse_cons, List.reverse_nil, List.nil_append, List.singleton_append, runS_cons, Nat.one_mul, ← Nat.add_assoc a (j + 1) 1, undo_x]
    simpa [gX] using run_range a j (a + (j + 1) : Nat)
theorem mostS_eq (k M : Nat) (hM : min 1000 k = M) : mostS k = (List.range' (k - M) M).map gX := by
  unfold mostS
  refine congrArg (List.map gX) ?_
  apply List.ext_getElem
  · rw [List.length_drop, List.length_range, List.length_range']
    omega
  · intro i h1 h2
    rw [List.length_drop, List.length_range] at h1
    rw [List.getElem_drop, List.getElem_range, List.getElem_range']
    omega
theorem run_most (k : Nat) (hk : 1 ≤ k) (c : Int) : runS (mostS k).reverse (List.replicate k 120) c = some (List.replicate (k - min 1000 k) 120, ((k - min 1000 k : Nat) : Int)) := by
  obtain ⟨M, hM⟩ : ∃ M, min 1000 k = M := ⟨_, rfl⟩
  rw [mostS_eq k M hM, hM]
  obtain ⟨j, rfl⟩ : ∃ j, M = j + 1 := ⟨M - 1, by omega⟩
  have h := run_range (k - (j + 1)) j c
  rwa [show k - (j + 1) + (j + 1) = k by omega] at h
theorem mostS_light (k : Nat) : LightS 1 1 (mostS k) := fun g hg => by
  obtain ⟨i, _, rfl⟩ := List.mem_map.1 hg
  refine ⟨fun e he => ?_, by simp [gX]⟩
  simp [gX] at he
  subst he
  simp

/-- The law's variables: the stack, and a line that grows. -/
structure MI (w : World) (A0 : Option Addr) (n0 c0 : Nat) (An : Option Addr) (cn k : Nat) (X : World) : Prop where
  blk : Blk X w.heap.size #[.slice A0 n0 c0]
  st : StkS X (fun b => some b ≠ (Value.slice An k cn).ownBlock) (.slice A0 n0 c0) (mostS k)
  own : X.ownsRow (w.heap.size + 1) 21 1 (.slice An k cn) k (List.replicate k (.int .i32 120))
  below : Below w.heap.size w X
  size : w.heap.size + 1 ≤ X.heap.size

/-- Behind Add, with the new stack stored. -/
structure MJ (w : World) (A0 : Option Addr) (n0 c0 : Nat) (An : Option Addr) (cn k : Nat) (X : World) : Prop where
  blk : Blk X w.heap.size #[.slice A0 n0 c0]
  st : StkS X (fun b => some b ≠ (Value.slice An k cn).ownBlock) (.slice A0 n0 c0) (mostS (k + 1))
  own : X.ownsRow (w.heap.size + 1) 21 1 (.slice An k cn) k (List.replicate k (.int .i32 120))
  below : Below w.heap.size w X
  size : w.heap.size + 1 ≤ X.heap.size
theorem mi_add {w X w1 : World} {A0 An A1 : Option Addr} {n0 c0 cn k n1 c1 : Nat} {o : Obj} (V : MI w A0 n0 c0 An cn k X) (hb : Below (X.alloc o).heap.size (X.alloc o) w1)
    (hs : StkS w1 (fun b => some b ≠ (Value.slice An k cn).ownBlock ∨ (X.alloc o).heap.size ≤ b) (.slice A1 n1 c1) (mostS (k + 1))) : Blk w1 w.heap.size #[.slice A0 n0 c0] ∧ MJ w A1 n1 c1 An cn k (w1.setCell ⟨w.heap.size, 0, none⟩ (.slice A1 n1 c1)) := by
  have hbX : Below X.heap.size X w1 := (belAlloc X o).trans (hb.mono (by simp))
  have b1 := V.blk.later hbX V.blk.1
  refine ⟨b1, b1.set_ 0 (by simp) _, ?_, ownsRow_setCell_below (own_later V.own hbX) (by show w.heap.size < _; omega) _, (V.below.trans (hbX.mono V.below.size)).setCell (p := ⟨w.heap.size, 0, none⟩) (Nat.le_refl _) _, by have := V.size; have := hbX.size; simp; omega⟩
  refine (hs.mono fun b h => ?_).shape b1 (noTxt_slice _ _ _) (by simp) 0 _
  rcases h with h | h
  · exact h
  · intro e
    have := (V.own.lt b e.symm).2
    simp at h
    omega
theorem mi_push {w X w3 : World} {A0 An A3 : Option Addr} {n0 c0 cn k c3 : Nat} (V : MJ w A0 n0 c0 An cn k X) (hp : Pushed X w3 (w.heap.size + 1) 21 1 (.slice An k cn) (k + 1) (List.replicate k (.int .i32 120) ++ [.int .i32 120]) A3 c3) : MI w A0 n0 c0 A3 c3 (k + 1) w3 := by
  have ho := hp.own
  rw [show List.replicate k (Value.int .i32 120) ++ [.int .i32 120] = List.replicate (k + 1) (.int .i32 120) from by rw [List.replicate_succ']] at ho
  refine ⟨V.blk.grown hp.grown (fun e => by have := (V.own.lt _ e.symm).1; omega), ?_, ho, V.below.grown hp.grown V.below.size (fun r e => by have := (V.own.lt _ e).1; omega), Nat.le_trans V.size hp.grown.size⟩
  refine (V.st.old.grown hp.grown fun b h => h.2).mono fun b h e => ?_
  rcases hp.at_ with e1 | ⟨q, e1, hq⟩
  · exact h.2 (e.trans e1)
  · rw [e1] at e
    injection e with e
    have := h.1
    omega

set_option maxHeartbeats 8000000 in
set_option maxRecDepth 100000 in
theorem walk_UndoMost (n : Int) (wn : (Lit.int .i64 n).wf = true) (w : World) : Calls Try.prog 6 #[.int .i64 n] w (Yes w) := by
  obtain ⟨m, hm, hbits⟩ : ∃ r : Nat, r ≤ 15 ∧ bits .and .i64 n 15 = (r : Int) := andMask n 15 (by omega)
  obtain ⟨N, hN, hN2, hN3⟩ : ∃ N : Nat, (995 : Int) + (m : Int) = (N : Int) ∧ N ≤ 1010 ∧ 995 ≤ N := ⟨995 + m, by omega, by omega, by omega⟩
  have V0 := Lib.hid (show MI w none 0 0 none 0 0 (w.alloc (.cells #[.slice none 0 0] 25)) from ⟨blk_new _ _ _, ⟨[], LiV.nil _ _, Both.nil⟩, World.ownsRow_nil _ _ _ _, belAlloc _ _, by simp⟩)
  go_enter Try.func6, Try.ntmps6
  go_wp2
  clear hN hm hbits
  go_loopw [4, 5] (fun v i wr => ∃ k : Nat, k ≤ N ∧ i = .int .i64 k ∧ Hid (∃ An cn A0 n0 c0, v = .slice An k cn ∧ MI w A0 n0 c0 An cn k wr)) (fun _ i _ => N - (intOf i).toNat)
  case atStart => exact ⟨0, Nat.zero_le _, rfl, ⟨none, 0, none, 0, 0, rfl, V0.out⟩⟩
  case round =>
    obtain ⟨k, hk, rfl, HR⟩ := hrel
    obtain ⟨An, cn, A0, n0, c0, rfl, V⟩ := HR.out
    clear HR V0
    have V1 := Lib.hid V
    by_cases hlt : k < N
    · obtain ⟨y0, k0, j0⟩ := (show _ from V.blk)
      have hnew : TxtS (wr.alloc (.cells #[.int .i32 120] 21)) (fun b => some b ≠ (Value.slice An k cn).ownBlock) (.slice (some ⟨wr.heap.size, 0, none⟩) 1 1) [120] := by
        obtain ⟨A', c', e, hr, h0, h1, h2, _⟩ := txt_new wr [120] #[.int .i32 120] 21 wr.heap.size 1 rfl rfl rfl (by simp)
        refine ⟨A', c', e, hr, h0, h1, h2, fun a ha _ he => ?_⟩
        injection e with e1 _ _
        rw [← e1] at ha
        injection ha with ha
        subst ha
        have := (V.own.lt _ he.symm).2
        simp at this
      have C := Lib.hid (add_ownS (fun b => some b ≠ (Value.slice An k cn).ownBlock) A0 n0 c0 k none 0 0 (some ⟨wr.heap.size, 0, none⟩) 1 1 k (mostS k) ⟨(k : Int), [], [120]⟩ (wr.alloc (.cells #[.int .i32 120] 21)) (V.st.later (belAlloc _ _)) ⟨rfl, Sl.nil _ _ _, hnew⟩ (by rw [mostS_len]; omega))
      clear hnew V
      go_wp2_with fail
      (with_reducible refine C.out.mono ?_)
      rintro e w1 ⟨A1, n1, c1, rfl, hs1, hb1⟩
      rw [show [(⟨[⟨(k : Int), [], [120]⟩], (k : Int)⟩ : AG)] = [gX k] from rfl, mostS_succ] at hs1
      obtain ⟨b1, hJ⟩ := mi_add V1.out hb1 hs1
      have HJ := Lib.hid hJ
      have hz := hJ.size
      obtain ⟨y1, k1, j1⟩ := (show _ from b1)
      clear hs1 hb1 hJ b1 C y0 k0 j0
      have hkb : k + 1 ≤ 1010 := by omega
      go_wp2_with (at_builtin; refine wpList_push slR_elt HJ.out.own (by simpa using hz) rfl rfl rfl rfl (by simp) rfl rfl (by unfold maxLen; omega) (by omega) ?_; intro A3 c3 w3 hp; have HP := Lib.hid (mi_push HJ.out hp); clear hp)
      go_roundw
      case rel => exact ⟨k + 1, by omega, by go_num, Lib.hid ⟨A3, c3, A1, n1, c1, rfl, HP.out⟩⟩
      case measure => simp [intOf]; omega
    · obtain rfl : k = N := by omega
      obtain ⟨y0, k0, j0⟩ := (show _ from V.blk)
      have hT : Txt wr (.slice An k cn) (List.replicate k 120) := (txt_own (l := List.replicate k 120) (by simp) (by have := V.own; rwa [show (List.replicate k (120 : Int)).map (Value.int .i32) = List.replicate k (.int .i32 120) from by simp])).any
      have C := all_is A0 n0 c0 k (mostS k) An k cn (List.replicate k 120) wr V.st.any hT 1 1 (by omega) (by omega) (by omega) (mostS_light k) (by rw [mostS_len]; simp; omega)
      rw [run_most k (by omega)] at C
      obtain ⟨M, hM⟩ : ∃ M, min 1000 k = M := ⟨_, rfl⟩
      rw [hM] at C
      have C := Lib.hid (show Calls _ _ _ _ (fun e w' => ∃ A n c x, e = .returned (.tuple #[.slice A n c, .int .i64 x, .bool true]) ∧ Txt w' (.slice A n c) (List.replicate (k - M) 120) ∧ x = ((k - M : Nat) : Int) ∧ Below _ _ w') from C)
      have hMk : M ≤ k := by omega
      have hM1 : M = k ∧ k ≤ 1000 ∨ M = 1000 ∧ 1000 < k := by omega
      have VS := Lib.hid (And.intro V.st.any (And.intro V.blk (And.intro V.below (show (mostS k).length = M by rw [mostS_len, hM]))))
      clear V hT hM
      have eM : ((k - M : Nat) : Int) = (k : Int) - (M : Int) := by omega
      have fin : ∀ W, (W = wr) → Calls Try.prog 17 #[.agg #[.slice A0 n0 c0], .slice An k cn, .int .i64 k] W (fun e w' => ∃ A n c x, e = .returned (.tuple #[.slice A n c, .int .i64 x, .bool true]) ∧ Txt w' (.slice A n c) (List.replicate (k - M) 120) ∧ x = ((k - M : Nat) : Int) ∧ Below W.heap.size W w') := fun W h => by subst h; exact C.out
      rcases hM1 with ⟨rfl, hle⟩ | ⟨rfl, hgt⟩
      · have d0 : decide ((1000 : Int) < (M : Int)) = false := by simp; omega
        have C := Lib.hid (show Calls _ _ _ _ (fun e w' => ∃ A n c, e = .returned (.tuple #[.slice A n c, .int .i64 0, .bool true]) ∧ Txt w' (.slice A n c) [] ∧ Below wr.heap.size wr w') from C.out.mono fun e w' h => by
          obtain ⟨A, n, c, x, h1, h2, h3, h4⟩ := h
          simp only [Nat.sub_self, List.replicate_zero, Int.ofNat_zero] at h2 h3
          subst h3
          exact ⟨A, n, c, h1, h2, h4⟩)
        clear fin eM
        go_wp2_with fail
        (with_reducible refine C.out.mono ?_)
        rintro e w1 ⟨A1, n1, c1, rfl, ht1, hb1⟩
        have hl1 := Txt.len ht1
        simp only [List.length_nil] at hl1
        subst hl1
        have C2 := Lib.hid (len_is _ _ w1 (VS.out.1.later hb1))
        have hbw := VS.out.2.2.1.trans (hb1.mono VS.out.2.2.1.size)
        obtain ⟨y1, k1, j1⟩ := (show _ from VS.out.2.1.later hb1 VS.out.2.1.1)
        rw [VS.out.2.2.2] at C2
        have HB := Lib.hid hbw
        clear ht1 hb1 C hbw y0 k0 j0
        go_wp2_with fail
        (with_reducible refine C2.out.mono ?_)
        rintro e w2 ⟨rfl, hb2⟩
        have HB2 := Lib.hid (HB.out.trans (hb2.mono HB.out.size))
        clear hb2 C2
        go_wp2_with fail
        (with_reducible refine (awake_yes w2).mono ?_)
        rintro e w3 ⟨rfl, hb3⟩
        have HB3 := Lib.hid (HB2.out.trans (hb3.mono HB2.out.size))
        clear hb3
        go_wp2
        go_ret
        exact ⟨rfl, HB3.out⟩
      · have d0 : decide ((1000 : Int) < (k : Int)) = true := by simp; omega
        obtain ⟨R, hR, hR2⟩ : ∃ R, k - 1000 = R ∧ (k : Int) - 1000 = (R : Int) := ⟨_, rfl, by omega⟩
        have C := Lib.hid (show Calls _ _ _ _ (fun e w' => ∃ A n c, e = .returned (.tuple #[.slice A n c, .int .i64 R, .bool true]) ∧ Txt w' (.slice A n c) (List.replicate R 120) ∧ Below wr.heap.size wr w') from C.out.mono fun e w' h => by
          obtain ⟨A, n, c, x, h1, h2, h3, h4⟩ := h
          rw [hR] at h2 h3
          subst h3
          exact ⟨A, n, c, h1, h2, h4⟩)
        clear fin eM
        go_wp2_with fail
        (with_reducible refine C.out.mono ?_)
        rintro e w1 ⟨A1, n1, c1, rfl, ht1, hb1⟩
        have hl1 := Txt.len ht1
        simp only [List.length_replicate] at hl1
        subst hl1
        have C2 := Lib.hid (len_is _ _ w1 (VS.out.1.later hb1))
        have hbw := VS.out.2.2.1.trans (hb1.mono VS.out.2.2.1.size)
        obtain ⟨y1, k1, j1⟩ := (show _ from VS.out.2.1.later hb1 VS.out.2.1.1)
        rw [VS.out.2.2.2] at C2
        have HB := Lib.hid hbw
        clear ht1 hb1 C hbw y0 k0 j0
        go_wp2_with fail
        (with_reducible refine C2.out.mono ?_)
        rintro e w2 ⟨rfl, hb2⟩
        have HB2 := Lib.hid (HB.out.trans (hb2.mono HB.out.size))
        clear hb2 C2
        go_wp2_with fail
        (with_reducible refine (awake_yes w2).mono ?_)
        rintro e w3 ⟨rfl, hb3⟩
        have HB3 := Lib.hid (HB2.out.trans (hb3.mono HB2.out.size))
        clear hb3
        go_wp2
        go_ret
        exact ⟨rfl, HB3.out⟩
end Go.Proofs.Ytfmpldgeldocnaa

/- trie: Pieces. -/
import Derived.Test.YtpbdamjpjpchiaaTrPd
import Derived.Test.YtpbdamjpjpchiaaOpP
namespace Go.Proofs.Ytpbdamjpjpchiaa
open Go.RowKit Go.Maps Go.BigFrame
set_option linter.unusedVariables false
set_option linter.unusedSimpArgs false
attribute [local go_sem] Oper.semAt_some

/-- What one reads in a trie. -/
structure RdsT (g : Int → Int) (m tb g1 n c g2 c2 : Nat) (qs : Nat → Nat) (w W : World) : Prop where
  k0 : W.cell? ⟨tb, 0, none⟩ = some (.int .i64 (m : Nat))
  k1 : W.cell? ⟨tb, 1, none⟩ = some (.slice (some ⟨g1, 0, none⟩) n c)
  k2 : W.cell? ⟨tb, 2, none⟩ = some (.slice (some ⟨g2, 0, none⟩) (cntB m) c2)
  wh : ∀ j, j < cntB m → W.cell? ⟨g2, j, none⟩ = some (.int .i32 (qs j : Nat))
  bl : ∀ j r, r < 128 → j * 128 + r < m → W.cell? ⟨g1, qs j * 128 + r, none⟩ = some (.int .i64 (g ((j * 128 + r : Nat) : Int)))
  lt : ∀ j, j < cntB m → qs j < n
  eq : ∀ i j, i < cntB m → j < cntB m → qs i = qs j → bk g m i = bk g m j
theorem reads_any {base m tb mb : Nat} {g : Int → Int} {hd : Hd} {Bs : List (List Int)} {Ix : List Nat} {l : List Int → Option Nat} {w : World} (h : BtI base g m tb mb hd Bs Ix l w) (hm1 : 1 ≤ m) :
    ∃ g1 n c g2 c2 qs, ∀ W, Below w.heap.size w W → RdsT g m tb g1 n c g2 c2 qs w W := by
  have h0 : 0 < cntB m := by unfold cntB; omega
  have his := h.is
  obtain ⟨tr0, hix, _, _⟩ := h
  obtain ⟨A, n, c, A2, n2, c2⟩ := hd
  have hn2 := own_count (enc := encN) (fun _ => rfl) (Nat.zero_lt_one) tr0.wh
  have hn := tr0.len
  dsimp only at hn2 hn
  have hq : ∀ j, j < cntB m → Ix[j]? = some (Ix.getD j 0) ∧ Bs[Ix.getD j 0]? = some (bk g m j) := fun j hj => by
    obtain ⟨i, a1, a2⟩ := his j hj
    have : Ix.getD j 0 = i := by simp [List.getD, a1]
    rw [this]
    exact ⟨a1, a2⟩
  have hql : ∀ j, j < cntB m → Ix.getD j 0 < n := fun j hj => by rw [hn]; exact (List.getElem?_eq_some_iff.1 (hq j hj).2).1
  have hnn := hql 0 h0
  obtain ⟨g1, rfl, l1⟩ := row_at tr0.bl (by show 0 < n; omega)
  obtain ⟨g2, rfl, l2⟩ := row_at tr0.wh (by show 0 < n2; omega)
  refine ⟨g1, n, c, g2, c2, fun j => Ix.getD j 0, fun W hW => ?_⟩
  have tr := Tr.later tr0 hW
  obtain ⟨y0, k0, j0⟩ := (show Blk _ _ _ from tr.cel)
  have e2 : n2 = cntB m := by rw [← hn2, hix]
  subst e2
  refine ⟨k0 0, k0 1, k0 2, fun j hj => row_cell tr.wh ?_, fun j r hr hjr => row_cell tr.bl (flatB_get Bs _ r _ _ (fun B hB => (tr.wf B hB).1) (hq j ?_).2 (bk_get g hr hjr)), hql, fun i j hi hj e => ?_⟩
  · have := flatL_get (enc := encN) (k := 1) (fun _ => rfl) Ix j _ 0 _ (hq j hj).1 rfl
    simpa using this
  · unfold cntB; omega
  · have a1 := (hq i hi).2
    have a2 := (hq j hj).2
    have e : Ix.getD i 0 = Ix.getD j 0 := e
    rw [e, a2] at a1
    exact (Option.some.inj a1).symm

set_option maxRecDepth 100000 in
set_option maxHeartbeats 8000000 in
theorem pieces_in {m tb g1 n c g2 c2 : Nat} {g : Int → Int} {qs : Nat → Nat} {w : World} (h : ∀ W, Below w.heap.size w W → RdsT g m tb g1 n c g2 c2 qs w W) (hm1 : 1 ≤ m) (hm : m ≤ 100000) :
    CallsIn Fence.wide 5 Try.prog 14 #[.pointer (some ⟨tb, 0, none⟩)] w (TellsPs g m w) := by
  have hro : Fence.wide.round = none := rfl
  have h1 : 1 ≤ 5 := by omega
  have HT := Lib.hid h
  have k2 := (h w (Below.refl _ _)).k2
  have htb : tb < w.heap.size := World.block_lt_of_cell? _ _ (k2.trans rfl)
  clear h
  refine callsIn_of_wp_marks Try.func14 rfl trivial ?_ hro
  simp only [Try.ntmps14, List.size_toArray, List.length_cons, List.length_nil, Nat.reduceAdd, Nat.reduceSub, Array.replicate_succ, Array.replicate_zero, List.push_toArray, List.append_toArray, List.nil_append, List.cons_append]
  gi_wp2_with fail
  have q0 := Boxed.new w 24 (.pointer (some ⟨tb, 0, none⟩))
  have q1 := Boxed.new (w.alloc (.cells #[.pointer (some ⟨tb, 0, none⟩)] 24)) 31 (.slice none 0 0)
  rw [World.size_alloc] at q1
  have HB := Lib.hid (show PcI w tb [] none 0 0 ((w.alloc (.cells #[.pointer (some ⟨tb, 0, none⟩)] 24)).alloc (.cells #[.slice none 0 0] 31)) from ⟨q0.alloc _, q1, World.ownsRow_nil _ _ _ _, belPush (belAlloc _ _) _⟩)
  clear q0 q1
  refine wpIn_loop_hid (fun a' wr => ∃ (k : Nat) (P : List (Pc Int)) (A : Option Addr) (n' c' : Nat), a' = { tmps := #[.pointer (some ⟨tb, 0, none⟩), .pointer (some ⟨w.heap.size, 0, none⟩), .slice none 0 0, .pointer (some ⟨w.heap.size + 1, 0, none⟩), sl a' 4, sl a' 5, sl a' 6, sl a' 7, sl a' 8, sl a' 9, sl a' 10, sl a' 11, .pointer (some ⟨tb, 0, none⟩), .bool false, .pointer (some ⟨tb, 0, none⟩), .pointer (some ⟨tb, 0, none⟩), .pointer (some ⟨tb, 2, none⟩), .slice (some ⟨g2, 0, none⟩) (cntB m) c2, .int .i64 (cntB m : Nat), .int .i64 (k : Nat), sl a' 20, sl a' 21, sl a' 22, sl a' 23, sl a' 24, sl a' 25, sl a' 26, sl a' 27, sl a' 28, sl a' 29, sl a' 30, sl a' 31, sl a' 32, sl a' 33, sl a' 34, sl a' 35, sl a' 36, sl a' 37, sl a' 38, sl a' 39, sl a' 40, sl a' 41, sl a' 42, sl a' 43, sl a' 44, sl a' 45, sl a' 46, sl a' 47, sl a' 48, sl a' 49, sl a' 50, sl a' 51, sl a' 52, sl a' 53, sl a' 54, sl a' 55, sl a' 56, sl a' 57, sl a' 58, sl a' 59, sl a' 60, sl a' 61, sl a' 62, sl a' 63, sl a' 64, sl a' 65, sl a' 66, sl a' 67, sl a' 68, sl a' 69, sl a' 70, sl a' 71, sl a' 72, sl a' 73, sl a' 74, sl a' 75, sl a' 76, sl a' 77, sl a' 78, sl a' 79, sl a' 80, sl a' 81, sl a' 82, sl a' 83, sl a' 84, sl a' 85, sl a' 86, sl a' 87, sl a' 88, sl a' 89, sl a' 90, sl a' 91, sl a' 92, sl a' 93, sl a' 94, sl a' 95, sl a' 96, sl a' 97, sl a' 98, sl a' 99, sl a' 100, sl a' 101, sl a' 102, sl a' 103, sl a' 104, sl a' 105, sl a' 106, sl a' 107, sl a' 108, sl a' 109], defers := a'.defers } ∧ k ≤ cntB m ∧ Hid (PcI w tb P A n' c' wr ∧ JI g 0 (hiB m k : Nat) P ∧ DfI w a'.defers wr)) (fun a' _ => cntB m - (intOf (sl a' 19)).toNat) ?_ ?_
  · exact ⟨0, [], none, 0, 0, rfl, Nat.zero_le _, HB.out, ⟨by show (0 : Int) = _; unfold hiB; simp, (fun p hp => by cases hp), trivial⟩, (fun d hd => by simp at hd), List.nodup_nil⟩
  · rintro J a0 wr ⟨k, P, A, n', c', ea, hk, HI⟩ HJ0
    have HJ := Lib.hid (show ∀ a' w', _ → _ < cntB m - k → J a' w' from fun a' w' h1 h2 => HJ0.out a' w' h1 (by rw [ea]; exact h2))
    clear HJ0
    rw [ea]
    clear ea
    generalize a0.defers = ds at HI ⊢
    clear HB
    have hbe := HI.out.1.be.size
    by_cases hlt : k < cntB m
    · obtain ⟨hf, hfm⟩ := hiB_in hm1 hlt
      have g1' : decide ((k : Int) < ((cntB m : Nat) : Int)) = true := decide_eq_true (by omega)
      have hwh := (HT.out wr HI.out.1.be).wh k hlt
      gi_wp2_with fail
      have e1 := Boxed.cell HI.out.1.bx
      have e2 := Boxed.cell HI.out.1.bo
      have e3 := (HT.out wr HI.out.1.be).k0
      have e4 := (HT.out wr HI.out.1.be).k1
      have e5 := (HT.out wr HI.out.1.be).k2
      have l1 : tb < wr.heap.size := by omega
      have l2 : w.heap.size + 1 < wr.heap.size := Boxed.lt HI.out.1.bo
      obtain ⟨en, hen⟩ : ∃ en, hiB m (k + 1) = en := ⟨_, rfl⟩
      have hkm : (k : Int) * 128 + 128 ≤ 200000 := by omega
      have hen2 : en = min (k * 128 + 128) m := by rw [← hen, hiB_next]
      have v0 : IntKind.i64.wrap ((k : Int) * 128) = (k : Int) * 128 := IntWalk.i64_in _ (by omega)
      have v1 : min (IntKind.i64.wrap ((k : Int) * 128 + 128)) (m : Int) = (en : Int) := by rw [IntWalk.i64_in _ (by omega)]; omega
      have HE := Lib.hid (And.intro hen hen2)
      have HEN := Lib.hid (show k * 128 < en ∧ en ≤ m ∧ en ≤ k * 128 + 128 by omega)
      clear hen hen2
      gi_upto_region 7 with fail
      rename_i K9 h9
      have tail : ∀ (Z : World) (v24 v25 v26 v27 v28 v29 v30 v31 v32 v33 : Value), Hid (PcI w tb P A n' c' Z ∧ Boxed Z wr.heap.size 21 (.int .i32 (qs k : Nat)) ∧ Boxed Z (wr.heap.size + 1) 3 (.int .i64 ((k * 128 : Nat) : Int)) ∧ Below wr.heap.size wr Z ∧ Z.heap.size = wr.heap.size + 1 + 1) → K9 { tmps := #[.pointer (some ⟨tb, 0, none⟩), .pointer (some ⟨w.heap.size, 0, none⟩), .slice none 0 0, .pointer (some ⟨w.heap.size + 1, 0, none⟩), .int .i64 (k : Nat), .pointer (some ⟨wr.heap.size, 0, none⟩), .pointer (some ⟨wr.heap.size + 1, 0, none⟩), .int .i64 (en : Nat), sl a0 8, sl a0 9, sl a0 10, sl a0 11, .pointer (some ⟨tb, 0, none⟩), .bool false, .pointer (some ⟨tb, 0, none⟩), .pointer (some ⟨tb, 0, none⟩), .pointer (some ⟨tb, 2, none⟩), .slice (some ⟨g2, 0, none⟩) (cntB m) c2, .int .i64 (cntB m : Nat), .int .i64 (k : Nat), .bool true, .int .i64 (k : Nat), .pointer (some ⟨g2, k, none⟩), .int .i32 (qs k : Nat), v24, v25, v26, v27, v28, v29, v30, v31, v32, v33, sl a0 34, sl a0 35, sl a0 36, sl a0 37, sl a0 38, sl a0 39, sl a0 40, sl a0 41, sl a0 42, sl a0 43, sl a0 44, sl a0 45, sl a0 46, sl a0 47, sl a0 48, sl a0 49, sl a0 50, sl a0 51, sl a0 52, sl a0 53, sl a0 54, sl a0 55, sl a0 56, sl a0 57, sl a0 58, sl a0 59, sl a0 60, sl a0 61, sl a0 62, sl a0 63, sl a0 64, sl a0 65, sl a0 66, sl a0 67, sl a0 68, sl a0 69, sl a0 70, sl a0 71, sl a0 72, sl a0 73, sl a0 74, sl a0 75, sl a0 76, sl a0 77, sl a0 78, sl a0 79, sl a0 80, sl a0 81, sl a0 82, sl a0 83, sl a0 84, sl a0 85, sl a0 86, sl a0 87, sl a0 88, sl a0 89, sl a0 90, sl a0 91, sl a0 92, sl a0 93, sl a0 94, sl a0 95, sl a0 96, sl a0 97, sl a0 98, sl a0 99, sl a0 100, sl a0 101, sl a0 102, sl a0 103, sl a0 104, sl a0 105, sl a0 106, sl a0 107, sl a0 108, sl a0 109], defers := ds } Z := by
        intro Z v24 v25 v26 v27 v28 v29 v30 v31 v32 v33 HZ
        refine h9 _ _ ?_
        clear h9
        dsimp only
        have hlen := HZ.out.1.len
        have hn' : n' ≤ 100000 := by have := tile_len HI.out.2.1.tile; omega
        have f1 := Boxed.cell HZ.out.1.bx
        have f2 := Boxed.cell HZ.out.1.bo
        have f3 := Boxed.cell HZ.out.2.1
        have f4 := Boxed.cell HZ.out.2.2.1
        have f5 := (HT.out Z HZ.out.1.be).k2
        have f6 := (HT.out Z HZ.out.1.be).k1
        have f7 := (HT.out Z HZ.out.1.be).k0
        have HL := Lib.hid hlen
        clear hlen e1 e2 e3 e4 e5 v1 g1' hwh k2
        gi_upto_region 9 with fail
        rename_i K10 h10
        have mid : ∀ (bl : Bool) (q : Nat) (v34 v35 v36 v37 v38 v39 v40 v41 v42 v43 v44 v45 v46 v47 v48 v49 v50 v51 v52 v53 v54 v55 v56 v57 v58 v59 : Value), Hid (bl = true → 1 ≤ k ∧ qs k = qs (k - 1) ∧ ∃ D y, P = D ++ [y] ∧ y.f ≤ ((k * 128 : Nat) : Int) - 128) → K10 { tmps := #[.pointer (some ⟨tb, 0, none⟩), .pointer (some ⟨w.heap.size, 0, none⟩), .slice none 0 0, .pointer (some ⟨w.heap.size + 1, 0, none⟩), .int .i64 (k : Nat), .pointer (some ⟨wr.heap.size, 0, none⟩), .pointer (some ⟨wr.heap.size + 1, 0, none⟩), .int .i64 (en : Nat), .int .i64 ((n' : Int) - 1), sl a0 9, sl a0 10, sl a0 11, .pointer (some ⟨tb, 0, none⟩), .bool false, .pointer (some ⟨tb, 0, none⟩), .pointer (some ⟨tb, 0, none⟩), .pointer (some ⟨tb, 2, none⟩), .slice (some ⟨g2, 0, none⟩) (cntB m) c2, .int .i64 (cntB m : Nat), .int .i64 (k : Nat), .bool true, .int .i64 (k : Nat), .pointer (some ⟨g2, k, none⟩), .int .i32 (qs k : Nat), v24, v25, v26, v27, v28, v29, v30, v31, v32, v33, v34, v35, v36, v37, v38, v39, v40, v41, v42, v43, v44, v45, v46, v47, v48, v49, v50, v51, v52, v53, v54, v55, v56, v57, v58, v59, .bool bl, sl a0 61, sl a0 62, sl a0 63, sl a0 64, sl a0 65, sl a0 66, sl a0 67, sl a0 68, sl a0 69, sl a0 70, sl a0 71, sl a0 72, sl a0 73, sl a0 74, sl a0 75, sl a0 76, sl a0 77, sl a0 78, sl a0 79, sl a0 80, sl a0 81, sl a0 82, sl a0 83, sl a0 84, sl a0 85, sl a0 86, sl a0 87, sl a0 88, sl a0 89, sl a0 90, sl a0 91, sl a0 92, sl a0 93, sl a0 94, sl a0 95, sl a0 96, sl a0 97, sl a0 98, sl a0 99, sl a0 100, sl a0 101, sl a0 102, sl a0 103, sl a0 104, sl a0 105, sl a0 106, sl a0 107, sl a0 108, sl a0 109], defers := ds } (Z.drewN q) := by
          intro bl q v34 v35 v36 v37 v38 v39 v40 v41 v42 v43 v44 v45 v46 v47 v48 v49 v50 v51 v52 v53 v54 v55 v56 v57 v58 v59 HQ
          refine h10 _ _ ?_
          clear h10
          dsimp only
          have HX := Lib.hid (show PcI w tb P A n' c' (Z.drewN q) ∧ Boxed (Z.drewN q) wr.heap.size 21 (.int .i32 (qs k : Nat)) ∧ Boxed (Z.drewN q) (wr.heap.size + 1) 3 (.int .i64 ((k * 128 : Nat) : Int)) ∧ Below wr.heap.size wr (Z.drewN q) ∧ (Z.drewN q).heap.size = wr.heap.size + 1 + 1 from ⟨HZ.out.1.drewN q, HZ.out.2.1, HZ.out.2.2.1, belDrew HZ.out.2.2.2.1 q, HZ.out.2.2.2.2⟩)
          obtain ⟨X, hX⟩ : ∃ X, Z.drewN q = X := ⟨_, rfl⟩
          rw [hX] at HX ⊢
          clear hX HZ f1 f2 f3 f4 f5 f6 f7
          cases bl
          · clear HQ
            have f9 := Boxed.cell HX.out.2.2.1
            have f10 : wr.heap.size + 1 < X.heap.size := by have := HX.out.2.2.2.2; omega
            gi_wp2_with fail
            refine ⟨trivial, ?_⟩
            refine (numbers_in Fence.wide 4 trivial hro _ _ _).mono ?_
            rintro e wn ⟨rfl, rfl⟩
            gi_wp2_with fail
            have b1 := Boxed.new X 3 (.int .i64 ((k : Int) * 128))
            have b2 := Boxed.new (X.alloc (Obj.cells #[Value.int IntKind.i64 (↑k * 128)] 3)) 3 (.int .i64 (en : Nat))
            rw [World.size_alloc] at b2
            obtain ⟨Y, hY⟩ : ∃ Y, (X.alloc (Obj.cells #[Value.int IntKind.i64 (↑k * 128)] 3)).alloc (Obj.cells #[Value.int IntKind.i64 (en : Nat)] 3) = Y := ⟨_, rfl⟩
            have hYs : Y.heap.size = X.heap.size + 1 + 1 := by rw [← hY]; simp
            have HY := Lib.hid (show PcI w tb P A n' c' Y ∧ Boxed Y wr.heap.size 21 (.int .i32 (qs k : Nat)) ∧ Boxed Y (wr.heap.size + 1) 3 (.int .i64 ((k * 128 : Nat) : Int)) ∧ Below X.heap.size X Y from by
              rw [← hY]
              exact ⟨(HX.out.1.alloc _).alloc _, Boxed.alloc (Boxed.alloc HX.out.2.1 _) _, Boxed.alloc (Boxed.alloc HX.out.2.2.1 _) _, belPush (belAlloc _ _) _⟩)
            have cc1 : Y.cell? ⟨X.heap.size, 0, none⟩ = some (.int .i64 ((k : Int) * 128)) := by rw [← hY]; exact Boxed.cell (Boxed.alloc b1 _)
            have cc2 : Y.cell? ⟨X.heap.size + 1, 0, none⟩ = some (.int .i64 ((k : Int) * 128 + ((en - k * 128 : Nat) : Int))) := by
              rw [← hY, show (k : Int) * 128 + ((en - k * 128 : Nat) : Int) = (en : Nat) by have := HEN.out; omega]
              exact Boxed.cell b2
            rw [hY]
            clear hY b1 b2 f9
            have hXs := HX.out.2.2.2.2
            refine wpIn_rangeBox hro h1 (gf := 33) (lb := #[.pointer (some ⟨X.heap.size, 0, none⟩), .pointer (some ⟨X.heap.size + 1, 0, none⟩)]) rfl trivial (enters_of Try.func33 (by kernel_rfl) rfl)
              (numbers_seq Fence.wide (5 - 1) trivial hro (by omega) X.heap.size (X.heap.size + 1) ((k : Int) * 128) (en - k * 128) (by omega) (by have := HEN.out; omega) Y (by omega) (by omega) cc1 cc2) (fun _ => rfl)
              (PcO w A n' c') ?hO (PgI Y (PcO w A n' c') w tb g (k * 128) wr.heap.size (wr.heap.size + 1) (qs k)) (PgM Y (PcO w A n' c') w tb g (k * 128) wr.heap.size (wr.heap.size + 1) (qs k) (en - k * 128) fun x => { tmps := #[.pointer (some ⟨tb, 0, none⟩), .pointer (some ⟨w.heap.size, 0, none⟩), .slice none 0 0, .pointer (some ⟨w.heap.size + 1, 0, none⟩), .int .i64 (k : Nat), .pointer (some ⟨wr.heap.size, 0, none⟩), .pointer (some ⟨wr.heap.size + 1, 0, none⟩), .int .i64 (en : Nat), .int .i64 ((n' : Int) - 1), .int .i64 ((k : Int) * 128 + (x : Int)), sl a0 10, sl a0 11, .pointer (some ⟨tb, 0, none⟩), .bool false, .pointer (some ⟨tb, 0, none⟩), .pointer (some ⟨tb, 0, none⟩), .pointer (some ⟨tb, 2, none⟩), .slice (some ⟨g2, 0, none⟩) (cntB m) c2, .int .i64 (cntB m : Nat), .int .i64 (k : Nat), .bool true, .int .i64 (k : Nat), .pointer (some ⟨g2, k, none⟩), .int .i32 (qs k : Nat), v24, v25, v26, v27, v28, v29, v30, v31, v32, v33, v34, v35, v36, v37, v38, v39, v40, v41, v42, v43, v44, v45, v46, v47, v48, v49, v50, v51, v52, v53, v54, v55, v56, v57, v58, v59, .bool false, sl a0 61, sl a0 62, sl a0 63, sl a0 64, sl a0 65, sl a0 66, .int .i64 ((k : Int) * 128), .int .i64 (en : Nat), .func (.func 33) #[] #[.pointer (some ⟨X.heap.size, 0, none⟩), .pointer (some ⟨X.heap.size + 1, 0, none⟩)], .int .i64 ((k : Int) * 128 + (x : Int)), sl a0 71, sl a0 72, sl a0 73, sl a0 74, sl a0 75, sl a0 76, sl a0 77, sl a0 78, sl a0 79, sl a0 80, sl a0 81, sl a0 82, sl a0 83, sl a0 84, sl a0 85, sl a0 86, sl a0 87, sl a0 88, sl a0 89, sl a0 90, sl a0 91, sl a0 92, sl a0 93, sl a0 94, sl a0 95, sl a0 96, sl a0 97, sl a0 98, sl a0 99, sl a0 100, sl a0 101, sl a0 102, sl a0 103, sl a0 104, sl a0 105, sl a0 106, sl a0 107, sl a0 108, sl a0 109], defers := [] })
              (PgI.bears (by omega) (by omega) (by omega)) (PgM.bears (by omega) (by omega) (by omega)) ?start ?assign ?body ?done
            case hO =>
              intro q hq
              have := HX.out.1.low q hq
              exact ⟨by omega, by rintro (h | h) <;> omega⟩
            case start => exact ⟨P, A, n', c', HY.out.1, by have := HI.out.2.1; rw [hf] at this; exact this, fun _ => Iff.rfl, HY.out.2.1, HY.out.2.2.1, fun _ h => .inl h, Nat.le_refl _, fun _ _ _ => rfl⟩
            case assign =>
              rintro lp pre O x W hI hO hN
              simp only [encNum]
              gi_wp2
              refine ⟨World.grownBy.refl _ _, O, fun q h => .inl h, hO, hI, hN, ?_⟩
              dsimp only
              go_simp
            case body =>
              rintro lp pre O x a' W ⟨⟨P', A', n2, cc2', hI, hJI, hO, hib, hfb, h5, h6, h7⟩, ⟨hpre, hx⟩, hact⟩ hWs hlt'
              dsimp only at hI hJI hO hib hfb hpre hx hact
              subst hact
              subst hpre
              rw [List.length_range] at hJI
              have HH := Lib.hid (show _ ∧ _ ∧ _ ∧ _ ∧ _ ∧ _ ∧ _ ∧ _ from ⟨hI, hJI, hO, hib, hfb, h5, h6, h7⟩)
              have RR := HT.out W hI.be
              have hxe := HEN.out
              have e1 := Boxed.cell hI.bx
              have e2 := Boxed.cell hI.bo
              have e3 := Boxed.cell hib
              have e4 := Boxed.cell hfb
              rw [show ((k * 128 : Nat) : Int) = (k : Int) * 128 by omega] at e4
              have e5 := RR.k1
              have e6 := RR.bl k x (by omega) (by omega)
              have e7 := RR.lt k hlt
              have hp2 : P'.length ≤ 100000 := by have := tile_len hJI.tile; omega
              have hlen2 := hI.len
              obtain ⟨gx, hgx⟩ : ∃ gx, g ((k * 128 + x : Nat) : Int) = gx := ⟨_, rfl⟩
              rw [hgx] at e6
              have HGX := Lib.hid hgx
              have s1 : (0 : Int) ≤ ((qs k : Nat) : Int) := by omega
              have s2 : ((qs k : Nat) : Int) < (n : Int) := by omega
              have s3 : (0 : Int) ≤ (x : Int) := by omega
              have s4 : (x : Int) < 128 := by omega
              have s5 : IntKind.i64.wrap (x : Int) = (x : Int) := IntWalk.i64_in _ (by omega)
              have s6 : (k : Int) * 128 + (x : Int) - (k : Int) * 128 = (x : Int) := by omega
              have hn2 : n2 ≤ 100000 := by omega
              have HL2 := Lib.hid (And.intro hlen2 (And.intro hxe hx))
              clear hI hJI hO hib hfb h5 h6 h7 RR hxe hgx hlen2 hp2 hlt'
              gi_upto_region 13 with fail
              refine region_round_lit lp rfl (by kernel_rfl) (by kernel_rfl) (by kernel_rfl) ?_
              repeat (gi_big_quiet_step (fail))
              refine wpQuietIn_nil ?_
              rintro _ ⟨nq, rfl⟩
              have HV := Lib.hid (show PcI w tb P' A' n2 cc2' (W.drewN nq) ∧ Boxed (W.drewN nq) wr.heap.size 21 (.int .i32 (qs k : Nat)) ∧ Boxed (W.drewN nq) (wr.heap.size + 1) 3 (.int .i64 ((k * 128 : Nat) : Int)) ∧ (W.drewN nq).heap = W.heap from ⟨HH.out.1.drewN nq, HH.out.2.2.2.1, HH.out.2.2.2.2.1, rfl⟩)
              obtain ⟨V, hV⟩ : ∃ V, W.drewN nq = V := ⟨_, rfl⟩
              rw [hV] at HV ⊢
              clear hV e1 e2 e3 e4 e5 e6
              have e2 := Boxed.cell HV.out.1.bo
              have e3 := Boxed.frozen HV.out.1.bo
              have hvs := HV.out.1.be.size
              have hown := Lib.hid HV.out.1.own
              have hbase : w.heap.size + 1 + 1 ≤ V.heap.size := Boxed.lt HV.out.1.bo
              have hnk : some (w.heap.size + 1) ≠ (Value.slice A' n2 cc2').ownBlock := fun e => by have := (HV.out.1.own.lt _ e.symm).1; omega
              have hJ := HH.out.2.1.step (x := ⟨((k * 128 + x : Nat) : Int), ((k * 128 + x : Nat) : Int), gx⟩) (Int.le_refl _) (fun r h1 h2 => by rw [show r = ((k * 128 + x : Nat) : Int) from Int.le_antisymm h2 h1]; exact HGX.out)
              have HJ2 := Lib.hid (show JI g 0 ((k * 128 + (x + 1) : Nat) : Int) (jstep P' ⟨((k * 128 + x : Nat) : Int), ((k * 128 + x : Nat) : Int), gx⟩) from by
                have e : ((k * 128 + x : Nat) : Int) + 1 = ((k * 128 + (x + 1) : Nat) : Int) := by omega
                rw [← e]
                exact hJ)
              clear hJ
              have ex : ((k * 128 + x : Nat) : Int) = (k : Int) * 128 + (x : Int) := by omega
              rw [ex] at HJ2
              clear ex
              rcases Nat.eq_zero_or_pos n2 with h0 | hpos
              · have hP : P' = [] := List.eq_nil_of_length_eq_zero (by rw [HL2.out.1, h0])
                have HJ3 := Lib.hid (show JI g 0 ((k * 128 + (x + 1) : Nat) : Int) (P' ++ [⟨(k : Int) * 128 + (x : Int), (k : Int) * 128 + (x : Int), gx⟩]) from by
                  have := HJ2.out
                  rw [hP] at this ⊢
                  exact this)
                clear HJ2 hP
                have z0 := Lib.hid h0
                clear h0
                have g1 : decide ((0 : Int) ≤ (n2 : Int) - 1) = false := decide_eq_false (by have := z0.out; omega)
                have g2 : ¬ (1 ≤ (n2 : Int)) := by have := z0.out; omega
                gi_wp2_with (gi_at_builtin; refine listIn_push piece_elt hown.out hbase rfl rfl rfl rfl rfl rfl rfl (by unfold maxLen; omega) (by omega) ?_; intro A3 c3 w3 hp; have hb3 := Boxed.kept HV.out.1.bo hp.grown hnk; have r0 := Boxed.cell hb3; have r1 := Boxed.frozen hb3; have r2 := Boxed.lt hb3; have HP := Lib.hid hp; clear hp hb3)
                exact PgI.step HH.out.2.2.1 HH.out.2.2.2.2.2.1 HH.out.2.2.2.2.2.2.1 HH.out.2.2.2.2.2.2.2 HV.out.2.2.2 HV.out.1 HV.out.2.1 HV.out.2.2.1 (HV.out.1.push (y := ⟨(k : Int) * 128 + (x : Int), (k : Int) * 128 + (x : Int), gx⟩) HP.out) HJ3.out
              · obtain ⟨D, y, hP⟩ : ∃ D y, P' = D ++ [y] := by
                  rcases List.eq_nil_or_concat P' with h | ⟨S, y, h⟩
                  · have := HL2.out.1; rw [h] at this; simp at this; omega
                  · exact ⟨S, y, by rw [h, List.concat_eq_append]⟩
                subst hP
                obtain ⟨g', cs, hA, hgb, _, _, _, _, _⟩ := own_blk HV.out.1.own hpos
                subst hA
                obtain ⟨m0, m1, m2, m3, m4, m5⟩ := HV.out.1.last
                have t1 : ((n2 : Int) - 1).toNat = n2 - 1 := by omega
                have t2 : (n2 : Int) - 1 < (n2 : Int) := by omega
                have t3 : 1 ≤ (n2 : Int) := by omega
                have g1 : decide ((0 : Int) ≤ (n2 : Int) - 1) = true := decide_eq_true (by omega)
                clear m0
                by_cases e1 : y.v = gx
                · have d1 : (y.v == gx) = true := by simpa using e1
                  have HJ3 := Lib.hid (show JI g 0 ((k * 128 + (x + 1) : Nat) : Int) (D ++ [⟨y.f, (k : Int) * 128 + (x : Int), y.v⟩]) from by
                    have := HJ2.out
                    rw [jstep_yes e1] at this
                    exact this)
                  clear HJ2 e1
                  gi_wp2_with fail
                  exact PgI.step HH.out.2.2.1 HH.out.2.2.2.2.2.1 HH.out.2.2.2.2.2.2.1 HH.out.2.2.2.2.2.2.2 HV.out.2.2.2 HV.out.1 HV.out.2.1 HV.out.2.2.1 (HV.out.1.upto ((k : Int) * 128 + (x : Int))) HJ3.out
                · have d1 : (y.v == gx) = false := by simpa using e1
                  have HJ3 := Lib.hid (show JI g 0 ((k * 128 + (x + 1) : Nat) : Int) (D ++ [y] ++ [⟨(k : Int) * 128 + (x : Int), (k : Int) * 128 + (x : Int), gx⟩]) from by
                    have := HJ2.out
                    rw [jstep_no (y := y) e1] at this
                    exact this)
                  clear HJ2 e1
                  gi_wp2_with (gi_at_builtin; refine listIn_push piece_elt hown.out hbase rfl rfl rfl rfl rfl rfl rfl (by unfold maxLen; omega) (by omega) ?_; intro A3 c3 w3 hp; have hb3 := Boxed.kept HV.out.1.bo hp.grown hnk; have r0 := Boxed.cell hb3; have r1 := Boxed.frozen hb3; have r2 := Boxed.lt hb3; have HP := Lib.hid hp; clear hp hb3)
                  exact PgI.step HH.out.2.2.1 HH.out.2.2.2.2.2.1 HH.out.2.2.2.2.2.2.1 HH.out.2.2.2.2.2.2.2 HV.out.2.2.2 HV.out.1 HV.out.2.1 HV.out.2.2.1 (HV.out.1.push (y := ⟨(k : Int) * 128 + (x : Int), (k : Int) * 128 + (x : Int), gx⟩) HP.out) HJ3.out
            case done =>
              rintro xs O W rfl ⟨P', A', n2, cc2', hI, hJI, hO, hib, hfb, h5, h6, h7⟩ hK hn
              have HH := Lib.hid (show _ ∧ _ ∧ _ ∧ _ from ⟨hI, hJI, h6, h7⟩)
              have HK := Lib.hid hK
              clear hI hJI hO hib hfb h5 h6 h7 hK hn
              gi_wp2_with fail
              refine HJ.out _ _ ⟨k + 1, P', A', n2, cc2', ?_, by omega, Lib.hid ⟨HH.out.1, ?_, ?_, ?_⟩⟩ ?_
              · rw [show ((k + 1 : Nat) : Int) = (k : Int) + 1 by omega]
                rfl
              · have := HH.out.2.1
                rw [List.length_range] at this
                rw [HE.out.1, show en = k * 128 + (en - k * 128) by have := HEN.out; omega]
                exact this
              · rintro d hd
                rcases List.mem_cons.1 hd with rfl | hd
                · exact ⟨_, rfl, by omega, HK.out⟩
                · obtain ⟨r, e, hr, hh⟩ := HI.out.2.2.1 d hd
                  have hrl := (Array.getElem?_eq_some_iff.1 hh).1
                  refine ⟨r, e, hr, (HH.out.2.2.2 r (by omega) (HI.out.1.not_def hh)).trans ((HY.out.2.2.2.block r (by omega)).trans ((HX.out.2.2.2.1.block r hrl).trans hh))⟩
              · refine List.nodup_cons.2 ⟨fun hd => ?_, HI.out.2.2.2⟩
                obtain ⟨r, e, hr, hh⟩ := HI.out.2.2.1 _ hd
                have hrl := (Array.getElem?_eq_some_iff.1 hh).1
                injection e with e _
                injection e with e
                omega
              · show cntB m - ((k : Int) + 1).toNat < cntB m - k
                omega
          · obtain ⟨hkp, hq, D, y, hP, hy⟩ := HQ.out rfl
            have HQ2 := Lib.hid (And.intro hq hy)
            clear HQ hq hy
            subst hP
            have hpos : 0 < n' := by have := HL.out; simp at this; omega
            obtain ⟨g', cs, hA, hgb, _, _, _, _, _⟩ := own_blk HX.out.1.own hpos
            subst hA
            obtain ⟨m0, m1, m2, m3, m4, m5⟩ := HX.out.1.last
            have f2 := Boxed.cell HX.out.1.bo
            have t1 : ((n' : Int) - 1).toNat = n' - 1 := by omega
            have t2 : (n' : Int) - 1 < (n' : Int) := by omega
            have t3 : (0 : Int) ≤ (n' : Int) - 1 := by omega
            have t4 : (en : Int) ≤ 200000 := by have := HEN.out; omega
            have t5 : 1 ≤ (en : Int) := by have := HEN.out; omega
            clear m0 m2
            gi_wp2_with fail
            have U := HX.out.1.upto ((en : Int) - 1)
            have J1 := ji_run (n := k) (m := m) (by have := HI.out.2.1; rw [hf] at this; exact this) hkp hfm ((HT.out wr HI.out.1.be).eq k (k - 1) hlt (by omega) HQ2.out.1) HQ2.out.2
            rw [← HE.out.2] at J1
            refine HJ.out _ _ ⟨k + 1, D ++ [⟨y.f, (en : Int) - 1, y.v⟩], some ⟨g', 0, none⟩, n', c', ?_, by omega, Lib.hid ⟨U.1, by rw [HE.out.1]; exact J1, HI.out.2.2.kept fun r d hr => ?_⟩⟩ ?_
            · rw [show ((k + 1 : Nat) : Int) = (k : Int) + 1 by omega]
              rfl
            · refine (Below.heap_setCell _ _ _ _ ?_).trans (HX.out.2.2.2.1.block r (Array.getElem?_eq_some_iff.1 hr).1)
              show r ≠ g'
              exact fun e => HI.out.1.not_def hr (.inr (by rw [e]; rfl))
            · show cntB m - ((k : Int) + 1).toNat < cntB m - k
              omega
        clear h10
        dsimp only at mid
        refine wpIn_wide.2 ?_
        have r0 : ((k * 128 : Nat) : Int) = (k : Int) * 128 := by omega
        rw [r0] at f4
        rcases Nat.eq_zero_or_pos k with hk0 | hkp
        · have d1 : decide ((0 : Int) < (k : Int)) = false := decide_eq_false (by omega)
          have d2 : decide (0 < k) = false := decide_eq_false (by omega)
          have HK0 := Lib.hid hk0
          clear hk0
          go_quiet (fail)
          exact mid false _ _ _ _ _ _ _ _ _ _ _ _ _ _ _ _ _ _ _ _ _ _ _ _ _ _ _ (Lib.hid fun h => by cases h)
        · have d1 : decide ((0 : Int) < (k : Int)) = true := decide_eq_true (by omega)
          have d2 : decide (0 < k) = true := decide_eq_true (by omega)
          have f8 := (HT.out Z HZ.out.1.be).wh (k - 1) (by omega)
          have s1 : ((k : Int) - 1).toNat = k - 1 := by omega
          have s2 : (k : Int) - 1 < ((cntB m : Nat) : Int) := by omega
          have s3 : (0 : Int) ≤ (k : Int) - 1 := by omega
          have s4 : IntKind.i64.wrap ((k : Int) - 1) = (k : Int) - 1 := IntWalk.i64_in _ (by omega)
          by_cases hq : qs k = qs (k - 1)
          · have d3 : (((qs k : Nat) : Int) == ((qs (k - 1) : Nat) : Int)) = true := by simp [hq]
            obtain ⟨D, y, rfl⟩ : ∃ D y, P = D ++ [y] := by
              rcases List.eq_nil_or_concat P with h | ⟨S, y, h⟩
              · have := HI.out.2.1.tile
                rw [h] at this
                have : (0 : Int) = _ := this
                omega
              · exact ⟨S, y, by rw [h, List.concat_eq_append]⟩
            have hpos : 0 < n' := by have := HL.out; simp at this; omega
            obtain ⟨g', cs, rfl, _, _, _, _, _, _⟩ := own_blk HZ.out.1.own hpos
            obtain ⟨m0, m1, m2, m3, m4, m5⟩ := HZ.out.1.last
            have t1 : ((n' : Int) - 1).toNat = n' - 1 := by omega
            have t2 : (n' : Int) - 1 < (n' : Int) := by omega
            have t3 : (0 : Int) ≤ (n' : Int) - 1 := by omega
            have t4 : IntKind.i64.wrap ((k : Int) * 128 - 128) = (k : Int) * 128 - 128 := IntWalk.i64_in _ (by omega)
            have HQ := Lib.hid hq
            clear hq
            by_cases hy : y.f ≤ (k : Int) * 128 - 128
            · have d4 : decide (y.f ≤ (k : Int) * 128 - 128) = true := decide_eq_true hy
              have HY := Lib.hid hy
              clear hy
              go_quiet (fail)
              exact mid true _ _ _ _ _ _ _ _ _ _ _ _ _ _ _ _ _ _ _ _ _ _ _ _ _ _ _ (Lib.hid fun _ => ⟨hkp, HQ.out, D, y, rfl, by have := HY.out; omega⟩)
            · have d4 : decide (y.f ≤ (k : Int) * 128 - 128) = false := decide_eq_false hy
              clear hy
              go_quiet (fail)
              exact mid false _ _ _ _ _ _ _ _ _ _ _ _ _ _ _ _ _ _ _ _ _ _ _ _ _ _ _ (Lib.hid fun h => by cases h)
          · have d3 : (((qs k : Nat) : Int) == ((qs (k - 1) : Nat) : Int)) = false := by simp; omega
            clear hq
            go_quiet (fail)
            exact mid false _ _ _ _ _ _ _ _ _ _ _ _ _ _ _ _ _ _ _ _ _ _ _ _ _ _ _ (Lib.hid fun h => by cases h)
      refine wpIn_wide.2 ?_
      clear h9
      dsimp only at tail
      have HZ := Lib.hid (show PcI w tb P A n' c' ((wr.alloc (Obj.cells #[Value.int IntKind.i32 ↑(qs k)] 21)).alloc (Obj.cells #[Value.int IntKind.i64 (↑k * 128)] 3)).drew ∧ Boxed ((wr.alloc (Obj.cells #[Value.int IntKind.i32 ↑(qs k)] 21)).alloc (Obj.cells #[Value.int IntKind.i64 (↑k * 128)] 3)).drew wr.heap.size 21 (.int .i32 (qs k : Nat)) ∧ Boxed ((wr.alloc (Obj.cells #[Value.int IntKind.i32 ↑(qs k)] 21)).alloc (Obj.cells #[Value.int IntKind.i64 (↑k * 128)] 3)).drew (wr.heap.size + 1) 3 (.int .i64 ((k * 128 : Nat) : Int)) ∧ Below wr.heap.size wr ((wr.alloc (Obj.cells #[Value.int IntKind.i32 ↑(qs k)] 21)).alloc (Obj.cells #[Value.int IntKind.i64 (↑k * 128)] 3)).drew ∧ ((wr.alloc (Obj.cells #[Value.int IntKind.i32 ↑(qs k)] 21)).alloc (Obj.cells #[Value.int IntKind.i64 (↑k * 128)] 3)).drew.heap.size = wr.heap.size + 1 + 1 from by
        have b1 := Boxed.new wr 21 (.int .i32 (qs k : Nat))
        have b2 := Boxed.new (wr.alloc (Obj.cells #[Value.int IntKind.i32 ↑(qs k)] 21)) 3 (.int .i64 ((k : Int) * 128))
        rw [World.size_alloc] at b2
        exact ⟨((HI.out.1.alloc _).alloc _).drewN 1, Boxed.alloc b1 _, by rw [show ((k * 128 : Nat) : Int) = (k : Int) * 128 by omega]; exact b2, (belPush (belAlloc _ _) _).drew, by simp⟩)
      go_region_held3 (fun X => X.cell? ⟨w.heap.size, 0, none⟩ = some (.pointer (some ⟨tb, 0, none⟩)) ∧ X.cell? ⟨tb, 0, none⟩ = some (.int .i64 (m : Nat))) (go_keep) (fail)
      all_goals exact tail _ _ _ _ _ _ _ _ _ _ _ HZ
    · obtain rfl : k = cntB m := by omega
      have g1' : decide (((cntB m : Nat) : Int) < ((cntB m : Nat) : Int)) = false := decide_eq_false (by omega)
      have e7 := Boxed.cell HI.out.1.bo
      clear HJ
      gi_wp2_with fail
      refine leaves_all (base := w.heap.size) (Kp := PcO w A n' c') ds wr (fun d hd' => ?_) HI.out.2.2.2 fun V hV1 hV2 hV3 => ?_
      · obtain ⟨r, e, hr, hh⟩ := HI.out.2.2.1 d hd'
        exact ⟨r, e, hr, HI.out.1.not_def hh, hh⟩
      · refine ⟨_, results_tmp rfl _ _ _, ?_⟩
        refine ⟨P, A, n', c', rfl, by have := HI.out.2.1; rw [hiB_all hm1] at this; exact this, ?_, HI.out.1.be.trans hV3⟩
        obtain ⟨e1, h1 | ⟨g, cap, cur, e2, h2, h3, h4⟩⟩ := HI.out.1.own
        · exact ⟨e1, .inl h1⟩
        · exact ⟨e1, .inr ⟨g, cap, cur, e2, h2, (hV2 g (.inr (.inr (by rw [e2]; rfl)))).trans h3, h4⟩⟩
theorem pieces_any {m tb g1 n c g2 c2 : Nat} {g : Int → Int} {qs : Nat → Nat} {w : World} (h : ∀ W, Below w.heap.size w W → RdsT g m tb g1 n c g2 c2 qs w W) (hm1 : 1 ≤ m) (hm : m ≤ 100000) :
    Calls Try.prog 14 #[.pointer (some ⟨tb, 0, none⟩)] w (TellsPs g m w) :=
  (callsIn_wide (n := 5)).1 (pieces_in h hm1 hm)
end Go.Proofs.Ytpbdamjpjpchiaa

/- undo: Last, Drop, Len. -/
import Derived.Test.YtfmpldgeldocnaaUnC
namespace Go.Proofs.Ytfmpldgeldocnaa
open Go.RowKit
set_option linter.unusedVariables false
set_option linter.unusedSimpArgs false

def valE (h : EdH) : Value := .agg #[.int .i64 h.at_, .slice h.A h.n h.c, .slice h.B h.m h.d]
def valG (g : GrH) : Value := .agg #[.slice g.E g.n g.c, .int .i64 g.cur]

theorem cloneG (A : Option Addr) (n c : Nat) (S : List AG) (w : World) (h : Stk w (.slice A n c) S) (hl : S.length ≤ 1000000) :
    Calls Try.prog 23 #[.slice A n c] w (fun e w' => ∃ A n c, e = .returned (.slice A n c) ∧ Stk w' (.slice A n c) S ∧ Below w.heap.size w w') := by
  obtain ⟨H, l, r⟩ := h
  obtain ⟨rfl, _⟩ := l.parts
  refine (group_clone encG_len encG_one A c H w l (by rw [r.1]; omega)).mono ?_
  rintro e w' ⟨A, n, c, rfl, ho, hb⟩
  exact ⟨A, n, c, rfl, ⟨H, (LiV.own encG_len (by omega) ho).mono fun _ _ => trivial, r.imp fun x y k => k.later hb⟩, hb⟩
theorem cloneE (A : Option Addr) (n c : Nat) (S : List AE) (w : World) (h : Eds w (.slice A n c) S) (hl : S.length ≤ 1000000) :
    Calls Try.prog 24 #[.slice A n c] w (fun e w' => ∃ A n c, e = .returned (.slice A n c) ∧ Eds w' (.slice A n c) S ∧ Below w.heap.size w w') := by
  obtain ⟨H, l, r⟩ := h
  obtain ⟨rfl, _⟩ := l.parts
  refine (edit_clone encE_len encE_one A c H w l (by rw [r.1]; omega)).mono ?_
  rintro e w' ⟨A, n, c, rfl, ho, hb⟩
  exact ⟨A, n, c, rfl, ⟨H, (LiV.own encE_len (by omega) ho).mono fun _ _ => trivial, r.imp fun x y k => k.later hb⟩, hb⟩

/-- Stack.Len -/
theorem len_is (v : Value) (S : List AG) (w : World) (h : Stk w v S) : Calls Try.prog 13 #[.agg #[v]] w (fun e w' => e = .returned (.int .i64 S.length) ∧ Below w.heap.size w w') := by
  obtain ⟨A, c, rfl, h1, h2⟩ := h.is
  clear h
  go_enter Try.func13, Try.ntmps13
  go_wp2
  go_ret
  exact ⟨rfl, belAlloc _ _⟩

set_option maxHeartbeats 1000000 in
theorem drop_is (A : Option Addr) (n c : Nat) (S : List AG) (w : World) (h : Stk w (.slice A n c) S) (hl : S.length ≤ 1000) :
    Calls Try.prog 11 #[.agg #[.slice A n c]] w (TellsS S.dropLast w) := by
  obtain ⟨A', c', e1, h1, h2⟩ := h.is
  injection e1 with ea en ec
  subst ea; subst en; subst ec
  rcases Nat.lt_or_ge S.length 2 with hlt | hge
  · have hd : S.dropLast = [] := by
      apply List.eq_nil_of_length_eq_zero
      simp; omega
    have d0 : decide ((S.length : Int) < 2) = true := by simp; omega
    rw [hd]
    clear hd h
    go_enter Try.func11, Try.ntmps11
    go_wp2
    refine at_world (StoredS w (w.heap.size + 1) (.slice none 0 0) []) ?_ ?_
    · refine ⟨?_, Stk.nil _, belPush (belAlloc _ _) _⟩
      have := (blk_new (w.alloc (.cells #[.slice A S.length c] 25)) #[.slice none 0 0] 25).2.1 0
      rwa [World.size_alloc] at this
    rintro Z ⟨x0, hts, hZ⟩
    refine bodyPost_ret (v := .agg #[.slice none 0 0]) (by simp [results, Try.results11, go_sem, x0]) rfl ⟨_, _, _, rfl, hts, hZ⟩
  · obtain ⟨N, hN⟩ : ∃ N, S.length = N + 1 := ⟨S.length - 1, by omega⟩
    have hd : S.dropLast = S.take N := by rw [List.dropLast_eq_take]; congr 1; omega
    rw [hd]
    have ht := h.take N (by omega)
    have d0 : decide ((N : Int) + 1 < 2) = false := by simp; omega
    rw [hN] at h1
    rw [hN]
    have e1 : (0 : Int) ≤ (N : Int) := by omega
    have e2 : (N : Int) ≤ (c : Int) := by omega
    have b0 : Below w.heap.size w ((w.alloc (.cells #[.slice A (N + 1) c] 25)).alloc (.cells #[.slice none 0 0] 25)) := belPush (belAlloc _ _) _
    have k0 : Blk ((w.alloc (.cells #[.slice A (N + 1) c] 25)).alloc (.cells #[.slice none 0 0] 25)) (w.heap.size + 1) #[.slice none 0 0] := by
      have := blk_new (w.alloc (.cells #[.slice A (N + 1) c] 25)) #[.slice none 0 0] 25
      rwa [World.size_alloc] at this
    have C := Lib.hid ((cloneG A N c (S.take N) _ (ht.later b0) (by simp; omega)).mono (R' := fun e' w' => ∃ A n c', e' = .returned (.slice A n c') ∧ Stk w' (.slice A n c') (S.take N) ∧ Below w.heap.size w w' ∧ Blk w' (w.heap.size + 1) #[.slice none 0 0]) (by
      rintro e' w' ⟨A, n, c', rfl, g1, g2⟩
      exact ⟨A, n, c', rfl, g1, b0.trans (g2.mono b0.size), k0.later g2 (by simp)⟩))
    clear b0 k0 h ht hd hge
    go_enter Try.func11, Try.ntmps11
    go_wp2_with fail
    (with_reducible refine C.out.mono ?_)
    rintro e w1 ⟨A1, n1, c1, rfl, ht1, hb1, hk1⟩
    have H1 := Lib.hid (storedS hk1 hb1 (by omega) ht1)
    obtain ⟨y0, k0, j0⟩ := (show _ from hk1)
    clear ht1 hb1 hk1
    go_wp2
    refine at_world (StoredS w (w.heap.size + 1) (.slice A1 n1 c1) _) H1.out ?_
    rintro X ⟨x0, hts, hX⟩
    refine bodyPost_ret (v := .agg #[.slice A1 n1 c1]) (by simp [results, Try.results11, go_sem, x0]) rfl ⟨_, _, _, rfl, hts, hX⟩

/-- A group that is told, and whether there is one. -/
def TellsG (S : List AG) (w : World) (e : Ending) (w' : World) : Prop := ∃ E m d x ok, e = .returned (.tuple #[.agg #[.slice E m d, .int .i64 x], .bool ok]) ∧ Below w.heap.size w w' ∧ ((S = [] ∧ ok = false) ∨ (∃ T a, S = T ++ [a] ∧ ok = true ∧ GrIs w' ⟨E, m, d, x⟩ a))

set_option maxHeartbeats 1000000 in
theorem last_is (A : Option Addr) (n c : Nat) (S : List AG) (w : World) (h : Stk w (.slice A n c) S) (hl : S.length ≤ 1000) (hm : ∀ a ∈ S, a.eds.length ≤ 1000) :
    Calls Try.prog 12 #[.agg #[.slice A n c]] w (TellsG S w) := by
  rcases List.eq_nil_or_concat S with rfl | ⟨T, a, rfl⟩
  · obtain ⟨A', c', e1, h1, h2⟩ := h.is
    injection e1 with ea en ec
    subst ea; subst en; subst ec
    clear h hm hl
    go_enter Try.func12, Try.ntmps12
    go_wp2
    have k0 := (blk_new (w.alloc (.cells #[.slice A ([] : List AG).length c] 25)) #[.slice none 0 0, .int .i64 0] 40).2.1
    rw [World.size_alloc] at k0
    refine at_world (fun X => X.cell? ⟨w.heap.size + 1, 0, none⟩ = some (.slice none 0 0) ∧ X.cell? ⟨w.heap.size + 1, 1, none⟩ = some (.int .i64 0) ∧ Below w.heap.size w X) ⟨k0 0, k0 1, belPush (belAlloc _ _) _⟩ ?_
    rintro X ⟨x0, x1, hX⟩
    refine bodyPost_ret (v := .tuple #[.agg #[.slice none 0 0, .int .i64 0], .bool false]) (by simp [results, Try.results12, go_sem, x0, x1]) rfl ⟨_, _, _, _, _, rfl, hX, .inl ⟨rfl, rfl⟩⟩
  · rw [List.concat_eq_append] at *
    obtain ⟨rfl, hc1, hc2, b, o, E, m, d, rfl, hb, x0, x1, hE⟩ := h.last
    have hma := hm a (by simp)
    obtain ⟨N, hN⟩ : ∃ N, T.length = N := ⟨_, rfl⟩
    simp only [List.length_append, List.length_cons, List.length_nil] at hl
    rw [hN] at hc1 x0 x1 hl
    rw [hN]
    have d0 : decide ((N : Int) + 1 = 0) = false := by simp; omega
    have d1 : ((N : Int) + 1 == 0) = false := by simp; omega
    obtain ⟨W0, hW0⟩ : ∃ W0, (w.alloc (.cells #[.slice (some ⟨b, o, none⟩) (N + 1) c] 25)).alloc (.cells #[.slice none 0 0, .int .i64 0] 40) = W0 := ⟨_, rfl⟩
    have b0 : Below w.heap.size w W0 := hW0 ▸ belPush (belAlloc _ _) _
    have y0 := (b0.cell (p := ⟨b, o + N * 2, none⟩) hb).trans x0
    have y1 := (b0.cell (p := ⟨b, o + N * 2 + 1, none⟩) hb).trans x1
    have hs0 : W0.heap.size = w.heap.size + 1 + 1 := by rw [← hW0]; simp
    have q1 : Blk W0 (w.heap.size + 1) #[.slice none 0 0, .int .i64 0] := by
      have := blk_new (w.alloc (.cells #[.slice (some ⟨b, o, none⟩) (N + 1) c] 25)) #[.slice none 0 0, .int .i64 0] 40
      rw [World.size_alloc] at this
      exact hW0 ▸ this
    have q2 := blk_new W0 #[.slice E m d, .int .i64 a.cur] 40
    rw [hs0] at q2
    have C := Lib.hid ((cloneE E m d a.eds _ (hE.later (belPush b0 (.cells #[.slice E m d, .int .i64 a.cur] 40))) (by omega)).mono (R' := fun e' w' => ∃ A n c', e' = .returned (.slice A n c') ∧ Eds w' (.slice A n c') a.eds ∧ Below w.heap.size w w' ∧ Blk w' (w.heap.size + 1) #[.slice none 0 0, .int .i64 0] ∧ Blk w' (w.heap.size + 1 + 1) #[.slice E m d, .int .i64 a.cur]) (by
      rintro e' w' ⟨A, n, c', rfl, g1, g2⟩
      exact ⟨A, n, c', rfl, g1, (belPush b0 _).trans (g2.mono (belPush b0 _).size), (q1.alloc _).later g2 (by simp [hs0]), q2.later g2 (by simp [hs0])⟩))
    rw [← hW0] at y0 y1 C
    clear q1 q2 hs0 b0 hW0 h hm hE hma x0 x1 hN
    go_enter Try.func12, Try.ntmps12
    go_wp2_with fail
    (with_reducible refine C.out.mono ?_)
    rintro e' w1 ⟨A1, n1, c1, rfl, hE1, hb1, q1, q2⟩
    have H1 := Lib.hid (And.intro hE1 (And.intro hb1 (And.intro q1 q2)))
    obtain ⟨y3, k3, j3⟩ := (show _ from q2)
    obtain ⟨y4, k4, j4⟩ := (show _ from q1)
    clear y0 y1 hE1 hb1 q1 q2 C
    go_wp2
    obtain ⟨hE1, hb1, q1, q2⟩ := H1.out
    have r1 := q2.set_ 0 (by simp) (.slice A1 n1 c1)
    have r2 := q1.far (p := ⟨w.heap.size + 1 + 1, 0, none⟩) (by simp) (.slice A1 n1 c1)
    have r3 := r2.set_ 0 (by simp) (.slice A1 n1 c1)
    have r4 := r3.set_ 1 (by simp) (.int .i64 a.cur)
    refine at_world (fun X => X.cell? ⟨w.heap.size + 1, 0, none⟩ = some (.slice A1 n1 c1) ∧ X.cell? ⟨w.heap.size + 1, 1, none⟩ = some (.int .i64 a.cur) ∧ Below w.heap.size w X ∧ Eds X (.slice A1 n1 c1) a.eds) ⟨r4.2.1 0, r4.2.1 1, ((hb1.setCell (by simp; omega) _).setCell (by simp) _).setCell (by simp) _, ((hE1.shape q2 (noTxt_group _ _ _ _) (by simp) _ _).shape r2 (noTxt_group _ _ _ _) (by simp) _ _).shape r3 (noTxt_group _ _ _ _) (by simp) _ _⟩ ?_
    rintro X ⟨x0, x1, hX, hE⟩
    refine bodyPost_ret (v := .tuple #[.agg #[.slice A1 n1 c1, .int .i64 a.cur], .bool true]) (by simp [results, Try.results12, go_sem, x0, x1]) rfl ⟨_, _, _, _, _, rfl, hX, .inr ⟨T, a, rfl, rfl, rfl, hE⟩⟩
end Go.Proofs.Ytfmpldgeldocnaa

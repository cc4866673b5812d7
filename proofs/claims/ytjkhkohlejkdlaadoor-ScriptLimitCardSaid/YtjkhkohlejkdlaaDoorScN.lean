/- script: the document's Parse. -/
import Derived.Test.YtjkhkohlejkdlaaDoorScM
import Derived.Test.YtjkhkohlejkdlaaDoorStepL
namespace Go.Proofs.YtjkhkohlejkdlaaDoor
open Go.RowKit
set_option linter.unusedVariables false
set_option linter.unusedSimpArgs false

theorem hexE_len : ∀ (k : Nat) (l : List UInt8) (x : List Evt), l.length ≤ k → hexE l = some x → 2 * x.length ≤ l.length := by
  intro k
  induction k with
  | zero =>
    intro l x hl h
    obtain rfl : l = [] := List.eq_nil_of_length_eq_zero (by omega)
    have h' : some [] = some x := h
    injection h' with h'
    subst h'
    simp
  | succ k ih =>
    intro l x hl h
    match l, hl, h with
    | [], _, h =>
      have h' : some [] = some x := h
      injection h' with h'
      subst h'
      simp
    | [a], _, h =>
      have h' : some [] = some x := h
      injection h' with h'
      subst h'
      simp
    | a :: b :: t, hl, h =>
      have h' : (if digP a.toNat < 0 ∨ digP b.toNat < 0 then none else (hexE t).map ([⟨1, 16 * digP a.toNat + digP b.toNat, 0, 0⟩] ++ ·)) = some x := h
      split at h'
      · cases h'
      · cases hx : hexE t with
        | none => rw [hx] at h'; cases h'
        | some y =>
          rw [hx] at h'
          injection h' with h'
          have := ih t y (by simp at hl; omega) hx
          rw [← h']
          simp
          omega
theorem line_len {l : List UInt8} {x : List Evt} (h : lineE l = some x) : x.length ≤ 32 := by
  unfold lineE at h
  split at h
  · injection h with h; subst h; simp
  · split at h
    · injection h with h; subst h; simp
    · split at h
      · unfold sizeE at h
        split at h
        · cases ha : numO ((l.drop 5).take (spc (l.drop 5))) with
          | none => rw [ha] at h; cases hb : numO ((l.drop 5).drop (spc (l.drop 5) + 1)) <;> rw [hb] at h <;> cases h
          | some n =>
            rw [ha] at h
            cases hb : numO ((l.drop 5).drop (spc (l.drop 5) + 1)) with
            | none => rw [hb] at h; cases h
            | some m =>
              rw [hb] at h
              have h' : some _ = some x := h
              injection h' with h'
              subst h'
              simp
        · cases h
      · split at h
        · unfold hexsE at h
          split at h
          · cases h
          · have := hexE_len _ _ _ (Nat.le_refl _) h
            omega
        · cases h
theorem oneE (x : Evt) : ∀ u ∈ encE x, u.oneCell' = true := by
  intro u hu
  simp only [encE, List.mem_cons, List.not_mem_nil, or_false] at hu
  rcases hu with rfl | rfl | rfl | rfl <;> rfl
theorem li_of {w : World} {S : Nat → Prop} {A : Option Addr} {L : List (List UInt8)} {c j : Nat} (h : LiV 1 encS w S (.slice A L.length c) L) (hj : j < L.length) : ∃ b o, A = some ⟨b, o, none⟩ ∧ b < w.heap.size ∧ w.cell? ⟨b, o + j, none⟩ = some (.string (ba L[j])) := by
  obtain ⟨-, hl, -⟩ := h.parts
  obtain ⟨b, o, e, hb, _, hc⟩ := hl.at hj
  exact ⟨b, o, e, hb, by have := hc 0 _ rfl; rwa [Nat.mul_one] at this⟩
theorem ba_size (l : List UInt8) : (ba l).size = l.length := rfl
theorem ba_list (l : List UInt8) : (ba l).data.toList = l := rfl
theorem lines_short : ∀ (s cur : List UInt8), ∀ l ∈ linesL cur s, l.length ≤ cur.length + s.length
  | [], cur, l, h => by
    have h' : l ∈ (if cur = [] then [] else [cur]) := h
    split at h'
    · cases h'
    · obtain rfl := List.mem_singleton.1 h'
      simp
  | c :: t, cur, l, h => by
    have h' : l ∈ (if c.toNat = 10 then cur :: linesL [] t else linesL (cur ++ [c]) t) := h
    split at h'
    · rcases List.mem_cons.1 h' with rfl | h'
      · simp
      · have := lines_short t [] l h'
        simp at this ⊢
        omega
    · have := lines_short t _ l h'
      simp at this ⊢
      omega
/-- What a parse hands back. -/
def ParseOut (w w' : World) (r : List Evt × Nat × Int) (e : Ending) : Prop :=
  (∃ A c, e = .returned (.tuple #[.slice A r.1.length c, .int .i64 (r.2.1 : Nat), .int .i64 r.2.2]) ∧ LiV 4 encE w' (fun b => w.heap.size ≤ b) (.slice A r.1.length c) r.1 ∧ r.1.length ≤ 65536) ∧ Below w.heap.size w w'
theorem ParseOut.bad {w w' : World} {r : List Evt × Nat × Int} {n : Nat} {z : Int} (h : r = ([], n, z)) (hb : Below w.heap.size w w') : ParseOut w w' r (.returned (.tuple #[.slice none 0 0, .int .i64 (n : Nat), .int .i64 z])) := by
  subst h
  exact ⟨⟨none, 0, rfl, LiV.own encE_len (by decide) (World.ownsRow_nil w' w.heap.size 40 4), by simp⟩, hb⟩
theorem parse_no {out : List Evt} {i : Nat} {l : List UInt8} {t : List (List UInt8)} (h : lineE l = none) : parseL out i (l :: t) = ([], i + 1, 4) := by
  show (match lineE l with | none => _ | some x => _) = _
  rw [h]
theorem parse_full {out : List Evt} {i : Nat} {l : List UInt8} {x : List Evt} {t : List (List UInt8)} (h : lineE l = some x) (hf : 65536 < out.length + x.length) : parseL out i (l :: t) = ([], i + 1, 7) := by
  show (match lineE l with | none => _ | some x => _) = _
  rw [h]
  exact if_pos hf
set_option maxHeartbeats 4000000 in
theorem rparse_any (s : ByteArray) (hs : s.size ≤ 1000000) (w : World) : Calls Tryd.prog 9 #[.string s] w fun e w' => ParseOut w w' (parseP s.data.toList) e := by
  have hsz : s.data.toList.length = s.size := Array.length_toList
  obtain ⟨R, hR⟩ : ∃ R, parseP s.data.toList = R := ⟨_, rfl⟩
  rw [hR]
  unfold parseP at hR
  rw [hsz] at hR
  by_cases h : 262144 < s.size
  · rw [if_pos h] at hR
    have d1 : (262144 : Int) < (s.size : Int) := by omega
    have HO := Lib.hid (ParseOut.bad hR.symm (Below.refl w.heap.size w))
    clear hR
    go_enter Tryd.func9, Tryd.ntmps9
    go_wp2_with fail
    go_ret3
    exact HO.out
  · rw [if_neg h] at hR
    have d1 : ¬ (262144 : Int) < (s.size : Int) := by omega
    have C1 := Lib.hid (rlines_any s hs w)
    have hshort := lines_short s.data.toList []
    obtain ⟨Ls, hLs⟩ : ∃ Ls, linesL [] s.data.toList = Ls := ⟨_, rfl⟩
    rw [hLs] at hR C1 hshort
    have HSH := Lib.hid (show ∀ l ∈ Ls, l.length ≤ s.size by intro l hl; have := hshort l hl; rw [hsz] at this; simpa using this)
    have HR := Lib.hid hR
    clear hR hLs hshort
    go_enter Tryd.func9, Tryd.ntmps9
    go_wp2_with fail
    refine C1.out.mono ?_
    rintro e w1 ⟨A0, c0, rfl, hl, hn, hb⟩
    have HL := Lib.hid (And.intro hl hb)
    have hz1 := hb.size
    obtain ⟨N, hN⟩ : ∃ N, Ls.length = N := ⟨_, rfl⟩
    rw [hN] at HL hn ⊢
    have HN := Lib.hid hN
    clear hl hb C1 hN d1
    go_wp2
    go_loopw [5, 7] (fun o i wr => ∃ j k A c, j ≤ N ∧ i = .int .i64 ((j : Nat) : Int) ∧ o = .slice A k c ∧ k ≤ 65536 ∧ Hid (∃ done, parseL done j (Ls.drop j) = R ∧ done.length = k ∧ wr.ownsRow w1.heap.size 40 4 (.slice A k c) k (flatL encE done) ∧ Below w1.heap.size w1 wr)) (fun _ i _ => N - (intOf i).toNat)
    case atStart => exact ⟨0, 0, none, 0, Nat.zero_le _, rfl, rfl, by omega, Lib.hid ⟨[], HR.out, rfl, World.ownsRow_nil _ _ _ _, Below.refl _ _⟩⟩
    case round =>
      obtain ⟨j, k, A, c, hj, rfl, rfl, hk, H⟩ := hrel
      obtain ⟨done, h1, h2', h3, h4⟩ := H.out
      have H1 := Lib.hid (And.intro h1 (And.intro h2' (And.intro h3 h4)))
      clear H h1 h2' h3 h4
      have hz := H1.out.2.2.2.size
      have hzw : w.heap.size ≤ wr.heap.size := Nat.le_trans hz1 hz
      by_cases hlt : j < N
      · have hji : (j : Int) < (N : Int) := by omega
        have hj0 : (0 : Int) ≤ (j : Int) := by omega
        have hjL : j < Ls.length := by rw [HN.out]; exact hlt
        obtain ⟨b, o, rfl, hbl, hc⟩ := li_of (by have := (HL.out.1).later H1.out.2.2.2; rw [← HN.out] at this; exact this) hjL
        have hln := HSH.out _ (List.getElem_mem hjL)
        have hdr : Ls.drop j = Ls[j] :: Ls.drop (j + 1) := List.drop_eq_getElem_cons hjL
        obtain ⟨l, hl⟩ : ∃ l, Ls[j] = l := ⟨_, rfl⟩
        rw [hl] at hc hln hdr
        have HD := Lib.hid hdr
        have CL := Lib.hid (rline_any (ba l) (by rw [ba_size]; omega) wr)
        rw [ba_list] at CL
        clear hl hdr hjL
        go_wp2_with fail
        refine CL.out.mono ?_
        rintro e w2 ⟨⟨L, A2, c2, hL, rfl, hLi⟩ | ⟨hL, A2, n2, c2, rfl⟩, hb2⟩
        · have H2 := Lib.hid (And.intro hL (And.intro hLi hb2))
          have hlen := line_len hL
          obtain ⟨m, hm⟩ : ∃ m, L.length = m := ⟨_, rfl⟩
          rw [hm] at hlen H2 ⊢
          have HM := Lib.hid hm
          clear hL hLi hb2 hm CL hc
          by_cases hf : 65536 < k + m
          · have g1 : (65536 : Int) < (k : Int) + (m : Int) := by omega
            obtain rfl : R = ([], j + 1, 7) := by
              rw [← H1.out.1, HD.out]
              exact parse_full H2.out.1 (by rw [H1.out.2.1, HM.out]; exact hf)
            have HO := Lib.hid (ParseOut.bad (n := j + 1) (z := 7) rfl ((HL.out.2.trans (H1.out.2.2.2.mono hz1)).trans (H2.out.2.2.mono hzw)))
            go_wp2
            go_ret3
            exact HO.out
          · have g1 : ¬ (65536 : Int) < (k : Int) + (m : Int) := by omega
            have HN2 := Lib.hid (show parseL (done ++ L) (j + 1) (Ls.drop (j + 1)) = R by
              rw [← H1.out.1, HD.out]
              exact (parse_one H2.out.1 (by rw [H1.out.2.1, HM.out]; omega) _).symm)
            have HO := Lib.hid (own_later H1.out.2.2.1 H2.out.2.2)
            have hz2 : w1.heap.size ≤ w2.heap.size := Nat.le_trans hz H2.out.2.2.size
            have HB := Lib.hid (H1.out.2.2.2.trans (H2.out.2.2.mono hz))
            have HV := Lib.hid H2.out.2.1
            rw [← HM.out] at HV
            have hlm : L.length ≤ 32 := by rw [HM.out]; exact hlen
            have hkm : k + L.length ≤ 65536 := by rw [HM.out]; omega
            obtain rfl : L.length = m := HM.out
            clear HM
            go_wp2_with (at_builtin; refine wpList_li encE_len oneE evt_elt HO.out hz2 rfl rfl rfl rfl HV.out (by unfold maxLen; omega) (by omega) ?_; intro A3 c3 w3 hp; have HQ := Lib.hid (And.intro hp.own (hp.below HB.out HO.out (Nat.le_refl _))); clear hp)
            go_roundw
            case rel => exact ⟨j + 1, k + L.length, A3, c3, by omega, by go_num, rfl, by omega, Lib.hid ⟨done ++ L, HN2.out, by simp [H1.out.2.1], by rw [flatL_append]; exact HQ.out.1, HQ.out.2⟩⟩
            case measure => simp [intOf]; omega
        · have H2 := Lib.hid (And.intro hL hb2)
          obtain rfl : R = ([], j + 1, 4) := by
            rw [← H1.out.1, HD.out]
            exact parse_no H2.out.1
          have HO := Lib.hid (ParseOut.bad (n := j + 1) (z := 4) rfl ((HL.out.2.trans (H1.out.2.2.2.mono hz1)).trans (H2.out.2.mono hzw)))
          clear hL hb2 CL hc
          go_wp2
          go_ret3
          exact HO.out
      · obtain rfl : j = N := by omega
        have hd : decide ((j : Int) < (j : Int)) = false := by simp
        have HO := Lib.hid (show R = (done, 0, 0) by
          rw [← H1.out.1, List.drop_eq_nil_of_le (by rw [HN.out]; exact Nat.le_refl _)]
          rfl)
        go_wp2
        go_ret3
        rw [HO.out]
        have hk2 := H1.out.2.1
        subst hk2
        exact ⟨⟨A, c, rfl, (LiV.own encE_len (by decide) H1.out.2.2.1).mono fun b hb => Nat.le_trans hz1 hb, hk⟩, HL.out.2.trans (H1.out.2.2.2.mono hz1)⟩
end Go.Proofs.YtjkhkohlejkdlaaDoor

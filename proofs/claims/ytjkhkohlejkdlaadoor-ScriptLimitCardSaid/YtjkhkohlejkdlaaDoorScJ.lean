/- script: what is printed is parsed: pure. -/
import Derived.Test.YtjkhkohlejkdlaaDoorScI
namespace Go.Proofs.YtjkhkohlejkdlaaDoor
open Go.RowKit
set_option linter.unusedVariables false
set_option linter.unusedSimpArgs false

def noNl (l : List UInt8) : Prop := ∀ c ∈ l, c.toNat ≠ 10
theorem lines_app : ∀ (a cur s : List UInt8), noNl a → linesL cur (a ++ s) = linesL (cur ++ a) s
  | [], cur, s, _ => by rw [List.append_nil]; rfl
  | c :: t, cur, s, h => by
    show (if c.toNat = 10 then _ else _) = _
    rw [if_neg (h c (by simp))]
    show linesL (cur ++ [c]) (t ++ s) = _
    rw [lines_app t _ s (fun x hx => h x (by simp [hx]))]
    congr 1
    simp
theorem lines_nl (cur s : List UInt8) : linesL cur (10 :: s) = cur :: linesL [] s := rfl
theorem lines_line {a : List UInt8} (h : noNl a) (s : List UInt8) : linesL [] (a ++ 10 :: s) = a :: linesL [] s := by
  rw [lines_app a [] (10 :: s) h, lines_nl]
  rfl

theorem nl_bytes : noNl bytesT := by unfold noNl; decide
theorem nl_size : noNl sizeT := by unfold noNl; decide
theorem nl_tick : noNl tickT := by unfold noNl; decide

/-! ### numbers -/
theorem numL_app : ∀ (l : List UInt8) (n : Nat) (c : UInt8), isDig c → numL n (l ++ [c]) = (numL n l).map fun m => m * 10 + (c.toNat - 48)
  | [], n, c, h => by
    show (if _ then _ else _) = _
    rw [if_pos (show 48 ≤ c.toNat ∧ c.toNat ≤ 57 from h)]
    rfl
  | b :: t, n, c, h => by
    show (if _ then numL _ (t ++ [c]) else none) = Option.map _ (if _ then _ else none)
    split
    · exact numL_app t _ c h
    · rfl
theorem digit_nat {d : Nat} (hd : d ≤ 9) : (UInt8.ofNat (48 + d)).toNat = 48 + d := by
  rw [UInt8.toNat_ofNat']
  exact Nat.mod_eq_of_lt (by omega)
theorem numL_dec : ∀ (k n : Nat), n < k → numL 0 (Lib.decDigits n) = some n := by
  intro k
  induction k with
  | zero => intro n h; omega
  | succ k ih =>
    intro n h
    by_cases h10 : n < 10
    · rw [Lib.decDigits_one h10]
      have e := digit_nat (d := n) (by omega)
      show (if 48 ≤ (UInt8.ofNat (48 + n)).toNat ∧ (UInt8.ofNat (48 + n)).toNat ≤ 57 then _ else _) = _
      rw [e, if_pos (by omega)]
      show some _ = some n
      congr 1
      omega
    · rw [Lib.decDigits, dif_neg h10]
      have e := digit_nat (d := n % 10) (by omega)
      have hd : isDig (UInt8.ofNat (48 + n % 10)) := by unfold isDig; rw [e]; omega
      rw [numL_app _ 0 _ hd, ih (n / 10) (by omega), e]
      show some (n / 10 * 10 + (48 + n % 10 - 48)) = some n
      congr 1
      omega
theorem dec_digs : ∀ (k n : Nat), n < k → ∀ c ∈ Lib.decDigits n, isDig c := by
  intro k
  induction k with
  | zero => intro n h; omega
  | succ k ih =>
    intro n h c hc
    by_cases h10 : n < 10
    · rw [Lib.decDigits_one h10] at hc
      have e := digit_nat (d := n) (by omega)
      obtain rfl := List.mem_singleton.1 hc
      unfold isDig
      omega
    · rw [Lib.decDigits, dif_neg h10] at hc
      rcases List.mem_append.1 hc with hc | hc
      · exact ih (n / 10) (by omega) c hc
      · have e := digit_nat (d := n % 10) (by omega)
        obtain rfl := List.mem_singleton.1 hc
        unfold isDig
        omega
theorem dec_four {n : Nat} (h : n ≤ 9999) : (Lib.decDigits n).length ≤ 4 := dec_len 4 n (by decide) (by omega)
theorem numO_dec {n : Nat} (h : n ≤ 9999) : numO (Lib.decDigits n) = some n :=
  (number_is (dec_four h) (numL_dec (n + 1) n (by omega))).1.1 rfl

/-! ### lines -/
theorem spc_app : ∀ (a s : List UInt8), (∀ c ∈ a, c.toNat ≠ 32) → spc (a ++ 32 :: s) = a.length
  | [], s, _ => by
    unfold spc
    rw [List.nil_append, List.takeWhile_cons_of_neg (by decide)]
  | c :: t, s, h => by
    have := spc_app t s (fun x hx => h x (by simp [hx]))
    unfold spc at this ⊢
    rw [List.cons_append, List.takeWhile_cons_of_pos (by simpa using h c (by simp)), List.length_cons, this, List.length_cons]
def sizeL (n m : Nat) : List UInt8 := sizeT ++ Lib.decDigits n ++ [32] ++ Lib.decDigits m
theorem line_size {n m : Nat} (hn : n ≤ 9999) (hm : m ≤ 9999) : lineE (sizeL n m) = some [⟨3, 0, (n : Nat), (m : Nat)⟩] := by
  have hs : sizeL n m = 115 :: 105 :: 122 :: 101 :: 32 :: (Lib.decDigits n ++ 32 :: Lib.decDigits m) := by unfold sizeL sizeT; simp
  have h32 : ∀ c ∈ Lib.decDigits n, c.toNat ≠ 32 := fun c hc => by have := (dec_digs (n + 1) n (by omega) c hc).1; omega
  have hsp := spc_app (Lib.decDigits n) (Lib.decDigits m) h32
  rw [hs]
  unfold lineE
  rw [if_neg (by simp), if_neg (by simp [tickT]), if_pos (by unfold preB sizeT; simp)]
  show sizeE (Lib.decDigits n ++ 32 :: Lib.decDigits m) = _
  unfold sizeE
  rw [hsp, if_pos (by simp), List.take_left, show (Lib.decDigits n ++ 32 :: Lib.decDigits m).drop ((Lib.decDigits n).length + 1) = Lib.decDigits m by
    rw [List.drop_append, List.drop_eq_nil_of_le (by omega), show (Lib.decDigits n).length + 1 - (Lib.decDigits n).length = 1 by omega]; rfl, numO_dec hn, numO_dec hm]
  rfl
theorem line_tick : lineE tickT = some [⟨2, 0, 0, 0⟩] := by
  unfold lineE
  rw [if_neg (by simp [tickT]), if_pos rfl]
def hxE (x : Evt) : List UInt8 := [hexC (x.byte.toNat / 16), hexC (x.byte.toNat % 16)]
def hxL (l : List Evt) : List UInt8 := (l.map hxE).flatten
theorem hexC_dig : ∀ n : Fin 16, digP (hexC n.val).toNat = (n.val : Int) := by decide +kernel
theorem hexC_is (n : Nat) (h : n < 16) : digP (hexC n).toNat = (n : Int) := hexC_dig ⟨n, h⟩
theorem hexC_nl0 : ∀ n : Fin 16, (hexC n.val).toNat ≠ 10 ∧ 48 ≤ (hexC n.val).toNat := by decide +kernel
theorem hexC_nl (n : Nat) (h : n < 16) : (hexC n).toNat ≠ 10 := (hexC_nl0 ⟨n, h⟩).1
theorem hx_len : ∀ l : List Evt, (hxL l).length = 2 * l.length
  | [] => rfl
  | x :: t => by
    have := hx_len t
    unfold hxL at this ⊢
    rw [List.map_cons, List.flatten_cons, List.length_append, this, List.length_cons]
    show 2 + _ = _
    omega
theorem hex_hx : ∀ l : List Evt, (∀ x ∈ l, x.kind = 1 ∧ Byt x) → hexE (hxL l) = some (l.map bareE)
  | [], _ => rfl
  | x :: t, h => by
    obtain ⟨hk, h0, h1⟩ := h x (by simp)
    have ih := hex_hx t (fun y hy => h y (by simp [hy]))
    show (if digP (hexC (x.byte.toNat / 16)).toNat < 0 ∨ digP (hexC (x.byte.toNat % 16)).toNat < 0 then none else (hexE (hxL t)).map ([⟨1, 16 * digP (hexC (x.byte.toNat / 16)).toNat + digP (hexC (x.byte.toNat % 16)).toNat, 0, 0⟩] ++ ·)) = _
    rw [hexC_is _ (by omega), hexC_is _ (by omega), if_neg (by omega), ih]
    have hb : bareE x = ⟨1, 16 * ((x.byte.toNat / 16 : Nat) : Int) + ((x.byte.toNat % 16 : Nat) : Int), 0, 0⟩ := by
      obtain ⟨k, b, r, c⟩ := x
      obtain rfl : k = 1 := hk
      have : 16 * ((b.toNat / 16 : Nat) : Int) + ((b.toNat % 16 : Nat) : Int) = b := by
        have h0' : 0 ≤ b := h0
        omega
      rw [this]
      rfl
    rw [List.map_cons, hb]
    rfl
theorem line_bytes {l : List Evt} (h0 : l ≠ []) (h32 : l.length ≤ 32) (h : ∀ x ∈ l, x.kind = 1 ∧ Byt x) : lineE (bytesT ++ hxL l) = some (l.map bareE) := by
  have hl := hx_len l
  have h1 : 1 ≤ l.length := by cases l with | nil => exact absurd rfl h0 | cons a t => simp
  have hs : bytesT ++ hxL l = 98 :: 121 :: 116 :: 101 :: 115 :: 32 :: hxL l := rfl
  rw [hs]
  unfold lineE
  rw [if_neg (by simp), if_neg (by simp [tickT]), if_neg (by unfold preB sizeT; simp), if_pos (by unfold preB bytesT; simp)]
  show hexsE (hxL l) = _
  unfold hexsE
  rw [if_neg (by omega), hex_hx l h]
def curP (pend : List Evt) : List UInt8 := if pend = [] then [] else bytesT ++ hxL pend
theorem hxL_snoc (l : List Evt) (x : Evt) : hxL (l ++ [x]) = hxL l ++ hxE x := by unfold hxL; simp
theorem parse_one {out : List Evt} {i : Nat} {l : List UInt8} {x : List Evt} (h : lineE l = some x) (hf : out.length + x.length ≤ 65536) (t : List (List UInt8)) : parseL out i (l :: t) = parseL (out ++ x) (i + 1) t := by
  show (match lineE l with | none => _ | some x => _) = _
  rw [h]
  exact if_neg (by omega)
theorem printL_cons {o : Nat} {x : Evt} {t : List Evt} {s : List UInt8} (h : printL o (x :: t) = some s) : knownP x = true ∧ ∃ s', printL (nxt o x) t = some s' ∧ s = outS o x ++ s' := by
  have h' : (if knownP x = true then (printL (nxt o x) t).map (outS o x ++ ·) else none) = some s := h
  split at h'
  · rename_i hk
    refine ⟨hk, ?_⟩
    cases hp : printL (nxt o x) t with
    | none => rw [hp] at h'; cases h'
    | some s' => rw [hp] at h'; injection h' with h'; exact ⟨s', rfl, h'.symm⟩
  · cases h'
/-- What is printed is parsed as it was. -/
theorem print_parse : ∀ (t pend done : List Evt) (i : Nat) (s : List UInt8), pend.length ≤ 32 → (∀ x ∈ pend, x.kind = 1 ∧ Byt x) → (∀ x ∈ t, Byt x) → printL pend.length t = some s → done.length + pend.length + t.length ≤ 65536 → parseL done i (linesL (curP pend) s) = (done ++ pend.map bareE ++ t.map bareE, 0, 0)
  | [], pend, done, i, s, h32, hp, ht, h, hf => by
    have h' : some (if 0 < pend.length then [10] else []) = some s := h
    injection h' with h'
    subst h'
    cases pend with
    | nil => simp [curP, linesL, parseL]
    | cons a p =>
      have hc : curP (a :: p) = bytesT ++ hxL (a :: p) := if_neg (by simp)
      rw [if_pos (by simp), hc, lines_nl, parse_one (line_bytes (by simp) h32 hp) (by simpa using hf)]
      simp [linesL, parseL]
  | x :: t, pend, done, i, s, h32, hp, ht, h, hf => by
    obtain ⟨hk, s', h1, rfl⟩ := printL_cons h
    have hx := ht x (by simp)
    have htt : ∀ y ∈ t, Byt y := fun y hy => ht y (by simp [hy])
    have hf' : done.length + pend.length + t.length + 1 ≤ 65536 := by rw [List.length_cons] at hf; omega
    have main : ∀ (pend done : List Evt) (i : Nat), pend.length ≤ 32 → (∀ x ∈ pend, x.kind = 1 ∧ Byt x) → done.length + pend.length + t.length + 1 ≤ 65536 → (pend = [] ∨ (x.kind = 1 ∧ pend.length < 32)) → printL (if x.kind = 1 then pend.length + 1 else pend.length) t = some s' → parseL done i (linesL (curP pend) (evS pend.length x ++ s')) = (done ++ pend.map bareE ++ (x :: t).map bareE, 0, 0) := by
      intro pend done i h32 hp hf hb h1
      by_cases k1 : x.kind = 1
      · rw [if_pos k1] at h1
        have hlt : pend.length < 32 := by
          rcases hb with rfl | hb
          · decide
          · exact hb.2
        have h1b := hx.1
        have h2b := hx.2
        have he : linesL (curP pend) (evS pend.length x ++ s') = linesL (curP (pend ++ [x])) s' := by
          unfold evS
          rw [if_pos k1]
          have hn : noNl (hxE x) := by
            intro c hc
            rcases List.mem_cons.1 hc with rfl | hc
            · exact hexC_nl _ (by omega)
            · obtain rfl := List.mem_singleton.1 hc
              exact hexC_nl _ (by omega)
          rw [show curP (pend ++ [x]) = bytesT ++ hxL (pend ++ [x]) from if_neg (by simp), hxL_snoc]
          cases pend with
          | nil =>
            rw [if_pos (show ([] : List Evt).length = 0 from rfl), show curP [] = [] from if_pos rfl, show bytesT ++ [hexC (x.byte.toNat / 16), hexC (x.byte.toNat % 16)] = bytesT ++ hxE x from rfl, lines_app _ [] s' (by
              intro c hc
              rcases List.mem_append.1 hc with hc | hc
              · exact nl_bytes c hc
              · exact hn c hc)]
            rfl
          | cons a p =>
            rw [if_neg (by simp), show curP (a :: p) = bytesT ++ hxL (a :: p) from if_neg (by simp), List.nil_append]
            show linesL _ (hxE x ++ s') = _
            rw [lines_app _ _ s' hn, List.append_assoc]
        rw [he, print_parse t (pend ++ [x]) done i s' (by simp; omega) (fun y hy => by
          rcases List.mem_append.1 hy with hy | hy
          · exact hp y hy
          · obtain rfl := List.mem_singleton.1 hy
            exact ⟨k1, hx⟩) htt (by simpa using h1) (by simp; omega)]
        simp
      · rw [if_neg k1] at h1
        obtain rfl : pend = [] := by
          rcases hb with hb | hb
          · exact hb
          · exact absurd hb.1 k1
        have hcur : curP [] = [] := if_pos rfl
        rw [hcur]
        by_cases k2 : x.kind = 2
        · have he : evS ([] : List Evt).length x = tickT ++ [10] := by unfold evS; rw [if_neg k1, if_pos k2]
          rw [he, List.append_assoc]
          show parseL done i (linesL [] (tickT ++ 10 :: s')) = _
          rw [lines_line nl_tick, parse_one line_tick (by simp; simp at hf; omega)]
          have := print_parse t [] (done ++ [⟨2, 0, 0, 0⟩]) (i + 1) s' (by simp) (by simp) htt h1 (by simp at hf ⊢; omega)
          rw [hcur] at this
          rw [this]
          obtain ⟨k, b, r, c⟩ := x
          obtain rfl : k = 2 := k2
          simp [bareE]
        · have hk3 : x.kind = 3 ∧ (0 ≤ x.rows ∧ x.rows ≤ 9999 ∧ 0 ≤ x.cols ∧ x.cols ≤ 9999) := by
            have := hk
            unfold knownP at this
            simp only [decide_eq_false k1, decide_eq_false k2, Bool.false_or, Bool.and_eq_true, decide_eq_true_eq] at this
            exact this
          obtain ⟨k3, g1, g2, g3, g4⟩ := hk3
          have he : evS ([] : List Evt).length x = sizeL x.rows.toNat x.cols.toNat ++ [10] := by unfold evS; rw [if_neg k1, if_neg k2]; rfl
          rw [he, List.append_assoc]
          show parseL done i (linesL [] (sizeL x.rows.toNat x.cols.toNat ++ 10 :: s')) = _
          have hnl : noNl (sizeL x.rows.toNat x.cols.toNat) := by
            intro c hc
            unfold sizeL at hc
            rcases List.mem_append.1 hc with hc | hc
            · rcases List.mem_append.1 hc with hc | hc
              · rcases List.mem_append.1 hc with hc | hc
                · exact nl_size c hc
                · have := (dec_digs _ _ (Nat.lt_succ_self _) c hc).1; omega
              · obtain rfl := List.mem_singleton.1 hc; decide
            · have := (dec_digs _ _ (Nat.lt_succ_self _) c hc).1; omega
          rw [lines_line hnl, parse_one (line_size (by omega) (by omega)) (by simp; simp at hf; omega)]
          have := print_parse t [] (done ++ [⟨3, 0, (x.rows.toNat : Nat), (x.cols.toNat : Nat)⟩]) (i + 1) s' (by simp) (by simp) htt h1 (by simp at hf ⊢; omega)
          rw [hcur] at this
          rw [this]
          obtain ⟨k, b, r, c⟩ := x
          obtain rfl : k = 3 := k3
          have e1 : ((r.toNat : Nat) : Int) = r := Int.toNat_of_nonneg g1
          have e2 : ((c.toNat : Nat) : Int) = c := Int.toNat_of_nonneg g3
          simp [bareE, e1, e2]
    by_cases hb : brk pend.length x = true
    · have hl : lefto pend.length x = 0 := by unfold lefto; rw [if_pos hb]
      have hn : nxt pend.length x = if x.kind = 1 then 1 else 0 := by unfold nxt; rw [hl]
      have ho : outS pend.length x = 10 :: evS 0 x := by unfold outS; rw [if_pos hb, hl]; rfl
      rw [hn] at h1
      have hb' := of_decide_eq_true hb
      have hp0 : pend ≠ [] := fun e => by rw [e] at hb'; simp at hb'
      rw [ho, List.cons_append, lines_nl, show curP pend = bytesT ++ hxL pend from if_neg hp0, parse_one (line_bytes hp0 h32 hp) (by simp; omega)]
      have := main [] (done ++ pend.map bareE) (i + 1) (by simp) (by simp) (by simp; omega) (.inl rfl) (by simpa using h1)
      rw [show curP [] = [] from if_pos rfl] at this
      rw [show evS 0 x = evS ([] : List Evt).length x from rfl, this]
      simp
    · have hl : lefto pend.length x = pend.length := by unfold lefto; rw [if_neg hb]
      have ho : outS pend.length x = evS pend.length x := by unfold outS; rw [if_neg hb, hl]; rfl
      have hn : nxt pend.length x = if x.kind = 1 then pend.length + 1 else pend.length := by unfold nxt; rw [hl]
      rw [hn] at h1
      rw [ho]
      have hb' : ¬ (0 < pend.length ∧ (x.kind ≠ 1 ∨ pend.length = 32)) := fun e => hb (decide_eq_true e)
      refine main pend done i h32 hp (by omega) ?_ h1
      by_cases hz : pend = []
      · exact .inl hz
      · have hpos : 0 < pend.length := List.length_pos_iff.2 hz
        refine .inr ⟨Decidable.by_contra fun e => hb' ⟨hpos, .inl e⟩, ?_⟩
        have : pend.length ≠ 32 := fun e => hb' ⟨hpos, .inr e⟩
        omega
end Go.Proofs.YtjkhkohlejkdlaaDoor

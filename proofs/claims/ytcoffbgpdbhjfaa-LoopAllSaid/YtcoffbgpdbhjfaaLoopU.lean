/- loop: the document's Next. -/
import Derived.Test.YtcoffbgpdbhjfaaLoopT
namespace Go.Proofs.Ytcoffbgpdbhjfaa
open Go.Conc Go.RowKit
set_option linter.unusedVariables false
set_option linter.unusedSimpArgs false

theorem ev_news {w : World} {L : List Evt} {ad : Addr} (hr : EvRd w (some ad) L) (j : Nat) (u : Value) (hj : (flat L)[j]? = some u) : w.cell? (ad.add j) = some u := by
  have hlt : j < (flat L).length := by
    rcases Nat.lt_or_ge j (flat L).length with h | h
    · exact h
    · rw [List.getElem?_eq_none h] at hj; cases hj
  rw [flat_len] at hlt
  obtain ⟨b, o, e, _, h0, h1, h2, h3⟩ := hr (j / 4) (by omega)
  injection e with e
  subst e
  rw [Addr.add_lit]
  have hm : j = j / 4 * 4 + j % 4 := by omega
  have hf := flat_get L (j / 4) (j % 4) (by omega) (Nat.mod_lt _ (by decide))
  rw [← hm, hj] at hf
  have h4 : j % 4 < 4 := Nat.mod_lt _ (by decide)
  obtain e | e | e | e : j % 4 = 0 ∨ j % 4 = 1 ∨ j % 4 = 2 ∨ j % 4 = 3 := by omega
  · rw [e] at hf
    have ej : o + j = o + j / 4 * 4 := by omega
    rw [ej, h0]; exact hf.symm
  · rw [e] at hf
    have ej : o + j = o + j / 4 * 4 + 1 := by omega
    rw [ej, h1]; exact hf.symm
  · rw [e] at hf
    have ej : o + j = o + j / 4 * 4 + 2 := by omega
    rw [ej, h2]; exact hf.symm
  · rw [e] at hf
    have ej : o + j = o + j / 4 * 4 + 3 := by omega
    rw [ej, h3]; exact hf.symm

theorem flat_one : ∀ (L : List Evt), ∀ u ∈ flat L, u.oneCell' = true
  | [], u, h => by simp [flat] at h
  | x :: L, u, h => by
    simp only [flat, List.flatMap_cons, List.mem_append] at h
    rcases h with h | h
    · simp [Evt.cells] at h
      rcases h with rfl | rfl | rfl | rfl <;> rfl
    · exact flat_one L u h

/-- 'v = append(v, x...)': events. -/
theorem wpList_cat4 {P : Program} {w : World} {ops : Array Oper} {rest : List Oper} {o : Oper} {a : Act} {Q : Exit → Act → World → Prop} {bytes base n m c : Nat} {t e : TypeId} {v : Value} {xs : List Value} {s x : Operand} {A : Option Addr} {L : List Evt}
    (E : Elt P t e 4 bytes) (hown : w.ownsRow base e 4 v n xs) (hbase : base ≤ w.heap.size) (hgd : o.guard = none) (ho : o.op = .call { callee := .builtin .append, args := #[s, x], argTypes := #[t, t] })
    (hs : a.eval s = v) (hx : a.eval x = .slice A m c) (hL : L.length = m) (hr : EvRd w A L) (hA : A = none → m = 0 ∧ c = 0) (h63 : n + m ≤ maxLen) (hbytes : (n + m) * bytes ≤ 140737488355328)
    (h : ∀ A' c' w', Pushed w w' base e 4 v (n + m) (xs ++ flat L) A' c' → wpList P ops Q rest (a.put o.dst (.slice A' (n + m) c')) w') : wpList P ops Q (o :: rest) a w := by
  obtain ⟨ht, i, z, hi, hz, hsize, hby, hzs, hsz⟩ := E
  rcases A with _ | ad
  · obtain ⟨rfl, rfl⟩ := hA rfl
    have hL0 : L = [] := List.eq_nil_of_length_eq_zero hL
    subst hL0
    refine wpList_append_own_none hgd s x t ho base e i 4 ht hi v n xs hs hown hx ?_
    obtain ⟨A', c', rfl⟩ := own_slice hown
    exact h A' c' w ⟨by simpa [flat] using hown, World.grownBy.refl w _, .inl rfl⟩
  · refine wpList_append_own_at w hgd s x t ho base e i z 4 bytes ht hi hz hsize hby hzs hsz v n xs hs hown ad m c (flat L) hx (by rw [flat_len, hL]) (ev_news hr) (flat_one L) h63 hbytes hbase ?_
    intro v' w' hown' hg _ hat
    obtain ⟨A', c', rfl⟩ := own_slice hown'
    refine h A' c' w' ⟨hown', hg, ?_⟩
    rcases hat with e1 | e1
    · exact .inl e1
    · exact .inr ⟨_, e1, Nat.le_refl _⟩

theorem ev_take {w : World} {A : Option Addr} {L : List Evt} (h : EvRd w A L) (i : Nat) : EvRd w A (L.take i) := by
  intro j hj
  have hj2 : j < i ∧ j < L.length := by simp at hj; omega
  have e : (L.take i).getD j zeroE = L.getD j zeroE := by simp [List.getD, List.getElem?_take, hj2.1]
  rw [e]
  exact h j hj2.2
theorem ev_drop {w : World} {A AX : Option Addr} {c n : Nat} {L : List Evt} (h : EvRd w A L) (hn : L.length = n) (hnc : n ≤ c) (i : Nat) (hA : (if c = i then A else Option.map (fun x => x.add (i * 4)) A) = AX) : EvRd w AX (L.drop i) := by
  intro j hj
  have hj2 : i + j < L.length := by simp at hj; omega
  have e : (L.drop i).getD j zeroE = L.getD (i + j) zeroE := by simp [List.getD, List.getElem?_drop]
  rw [e]
  obtain ⟨b, o, e1, hl, h0, h1, h2, h3⟩ := h (i + j) hj2
  subst e1
  rw [if_neg (by omega)] at hA
  subst hA
  have ea : o + (i + j) * 4 = o + i * 4 + j * 4 := by omega
  rw [ea] at h0 h1 h2 h3
  exact ⟨b, o + i * 4, by rw [Option.map_some, Addr.add_lit], hl, h0, h1, h2, h3⟩

/-- The first one of a kind is taken out. -/
theorem first_out {k : Int} {L : List Evt} {i : Nat} (hi : i < L.length) (hk : (L.getD i zeroE).kind = k) (h0 : ofK k (L.take i) = []) :
    ofK k L = L.getD i zeroE :: ofK k (L.take i ++ L.drop (i + 1)) ∧ ∀ m, m ≠ k → ofK m (L.take i ++ L.drop (i + 1)) = ofK m L := by
  have e : L = L.take i ++ (L.getD i zeroE :: L.drop (i + 1)) := by
    have h1 : L.getD i zeroE = L[i] := by simp [List.getD, hi]
    rw [h1, ← List.drop_eq_getElem_cons hi, List.take_append_drop]
  constructor
  · conv => lhs; rw [e]
    rw [ofK_append, ofK_append, h0]
    simp only [ofK, List.filter_cons, hk, decide_true, if_true, List.nil_append]
  · intro m hm
    conv => rhs; rw [e]
    rw [ofK_append, ofK_append]
    congr 1
    have : decide ((L.getD i zeroE).kind = m) = false := decide_eq_false (by omega)
    simp only [ofK, List.filter_cons, this]
    rfl

theorem below_own {w0 w1 : World} {base B n m : Nat} {e : TypeId} {xs ys : List Value} {A : Option Addr} {c : Nat} (h : w0.ownsRow base e 4 (.slice none 0 0) n xs) (hp : Pushed w0 w1 base e 4 (.slice none 0 0) m ys A c) (hB : B ≤ w0.heap.size) : Below B w0 w1 :=
  ⟨hp.grown.os, hp.grown.tape, hp.grown.output, hp.grown.size, fun k hk => hp.grown.block k (by omega) (by intro e; cases e)⟩

/-- What stays where it was, when the second part is laid behind the first; where the result lies. -/
theorem taken_blks {w W2 w3 w5 : World} {rb i c3 c5 n5 : Nat} {A3 A5 : Option Addr} {cs xs zs : Array Value} {ys us : List Value} {e : TypeId} (hW : W2.heap.size = w.heap.size + 1 + 1) (hrb : rb < w.heap.size) (hp1 : Pushed W2 w3 w.heap.size e 4 (.slice none 0 0) i ys A3 c3) (hp2 : Pushed w3 w5 w.heap.size e 4 (.slice A3 i c3) n5 us A5 c5)
    (hb : Blk w3 rb cs) (hx : Blk w3 (w.heap.size + 1) xs) (hz : Blk w3 w.heap.size zs) : Blk w5 rb cs ∧ Blk w5 (w.heap.size + 1) xs ∧ Blk w5 w.heap.size zs ∧ (∀ g, (Value.slice A5 n5 c5).ownBlock = some g → w.heap.size + 1 + 1 ≤ g) ∧ Below w.heap.size w3 w5 := by
  have h3 : ∀ g, (Value.slice A3 i c3).ownBlock = some g → w.heap.size + 1 + 1 ≤ g := by
    intro g hg
    rcases hp1.at_ with h | ⟨k, h, hk⟩
    · rw [h] at hg; cases hg
    · rw [h] at hg; injection hg with hg; omega
  have hw3 : w.heap.size + 1 + 1 ≤ w3.heap.size := by have := hp1.grown.size; omega
  refine ⟨hb.grown hp2.grown (fun e => by have := h3 _ e.symm; omega), hx.grown hp2.grown (fun e => by have := h3 _ e.symm; omega), hz.grown hp2.grown (fun e => by have := h3 _ e.symm; omega), fun g hg => ?_, ?_⟩
  · rcases hp2.at_ with h | ⟨k, h, hk⟩
    · rw [h] at hg; exact h3 g hg
    · rw [h] at hg; injection hg with hg; omega
  · exact ⟨hp2.grown.os, hp2.grown.tape, hp2.grown.output, hp2.grown.size, fun k hk => hp2.grown.block k (by omega) (fun e => by have := h3 _ e.symm; omega)⟩

theorem own_base {w : World} {base B n size : Nat} {e : TypeId} {v : Value} {xs : List Value} (h : w.ownsRow base e size v n xs) (hB : B ≤ base) : w.ownsRow B e size v n xs := by
  refine ⟨h.1, ?_⟩
  rcases h.2 with h0 | ⟨g, cap, cur, hv, hb, hr⟩
  · exact .inl h0
  · exact .inr ⟨g, cap, cur, hv, Nat.le_trans hB hb, hr⟩
theorem flat_app (L M : List Evt) : flat (L ++ M) = flat L ++ flat M := by simp [flat]

set_option maxHeartbeats 4000000 in
set_option maxRecDepth 100000 in
theorem refnext_3 {w : World} {B0 rb room n c : Nat} {A : Option Addr} {L : List Evt} (h : Rb w B0 rb room A n c L) (hn : n ≤ 1000000) (hB : B0 ≤ w.heap.size) (i : Nat) (x : Evt) (hi : i < L.length) (hx : L.getD i zeroE = x)
    (hf : ∀ z, FirstIs 3 L z → z = i) :
    Calls Try.prog 12 #[ptr rb] w fun e w' => e = .returned (.tuple #[ev x, .bool true]) ∧ Rs w B0 rb room A n c (L.take i ++ L.drop (i + 1)) w' := by
  have hlen := h.len
  have H := Lib.hid h
  have HF := Lib.hid hf
  subst hlen
  clear h hf
  go_enter Try.func12, Try.ntmps12
  go_wp2_with fail
  have HA := Lib.hid (H.out.later ((Below.refl _ _).alloc (Nat.le_refl _) (.cells #[.int .i64 0, .int .u8 0, .int .i64 0, .int .i64 0] 23)))
  (with_reducible refine (first_any HA.out 3 hn).mono ?_)
  rintro e w1 ⟨⟨z, rfl, hz⟩, rfl⟩
  obtain rfl := HF.out z hz
  clear hz
  obtain ⟨b, o, rfl, hbl, a0, a1, a2, a3⟩ := H.out.rd i hi
  rw [hx] at a0 a1 a2 a3
  have hparts : L.length ≤ c ∧ c ≤ 9223372036854775807 := by
    rcases H.out.own.2 with ⟨hv, _⟩ | ⟨g, cap, cur, hv, _, _, h1, h2, _⟩
    · cases hv
    · injection hv with _ _ e
      subst e
      exact ⟨h1, h2⟩
  obtain ⟨hc1, hc2⟩ := hparts
  obtain ⟨y0, k0, j0⟩ := (show Blk _ _ _ from H.out.blk)
  have d1 : decide ((i : Int) < 0) = false := by simp
  have p0 : (0 : Int) ≤ (i : Int) := by omega
  have p1 : (i : Int) < (L.length : Int) := by omega
  obtain ⟨E, hE⟩ : ∃ E, i + 1 = E := ⟨_, rfl⟩
  have e1 : (i : Int) + 1 = (E : Int) := by omega
  have p2 : (E : Int) ≤ (L.length : Int) := by omega
  have p3 : (i : Int) ≤ (c : Int) := by omega
  have p4 : (L.length : Int) ≤ (c : Int) := by omega
  have p5 : (0 : Int) ≤ (E : Int) := by omega
  have p6 : (E : Int) ≤ (c : Int) := by omega
  have HO := Lib.hid (World.ownsRow_nil ((w.alloc (.cells #[.int .i64 0, .int .u8 0, .int .i64 0, .int .i64 0] 23)).alloc (.cells #[.int .i64 x.kind, .int .u8 x.byte, .int .i64 x.rows, .int .i64 x.cols] 23)) w.heap.size 23 4)
  have hbW : Below w.heap.size w ((w.alloc (.cells #[.int .i64 0, .int .u8 0, .int .i64 0, .int .i64 0] 23)).alloc (.cells #[.int .i64 x.kind, .int .u8 x.byte, .int .i64 x.rows, .int .i64 x.cols] 23)) := ((Below.refl _ _).alloc (Nat.le_refl _) _).alloc (by simp) _
  have HW := Lib.hid hbW
  have HB0 := Lib.hid ((blk_new w #[.int .i64 0, .int .u8 0, .int .i64 0, .int .i64 0] 23).alloc (.cells #[.int .i64 x.kind, .int .u8 x.byte, .int .i64 x.rows, .int .i64 x.cols] 23))
  have hbx := blk_new (w.alloc (.cells #[.int .i64 0, .int .u8 0, .int .i64 0, .int .i64 0] 23)) #[.int .i64 x.kind, .int .u8 x.byte, .int .i64 x.rows, .int .i64 x.cols] 23
  rw [World.size_alloc] at hbx
  have HBX := Lib.hid hbx
  have hl1 : (L.take i).length = i := by simp; omega
  have hl2 : (L.drop E).length = L.length - E := by simp
  have HL := Lib.hid (And.intro hl1 hl2)
  obtain ⟨AX, hAX⟩ : ∃ AX, (if c = E then (some ⟨b, o, none⟩ : Option Addr) else some ⟨b, o + E * 4, none⟩) = AX := ⟨_, rfl⟩
  have hAX2 : (if c = E then (some ⟨b, o, none⟩ : Option Addr) else Option.map (fun (x : Addr) => x.add (E * 4)) (some (⟨b, o, none⟩ : Addr))) = AX := by rw [← hAX, Option.map_some, Addr.add_lit]
  have HD := Lib.hid (And.intro (ev_drop H.out.rd rfl hc1 E hAX2) (show AX = none → L.length - E = 0 ∧ c - E = 0 from fun h => by rw [← hAX] at h; split at h <;> cases h))
  clear hbW hbx hl1 hl2 hAX2
  go_wp2_with (first
    | (at_builtin; refine wpList_cat4 eltE HO.out (by simp; omega) rfl rfl rfl rfl HL.out.1 (ev_take (H.out.rd.later HW.out) i) (fun h => by cases h) (by unfold maxLen; omega) (by omega) ?_; intro A3 c3 w3 hp; rw [Nat.zero_add] at hp; have HP1 := Lib.hid (And.intro hp (And.intro (HW.out.trans ((below_own HO.out hp (by simp; omega)))) (And.intro (HBX.out.grown hp.grown (by intro e; cases e)) (HB0.out.grown hp.grown (by intro e; cases e))))); clear hp; have hr3 := H.out.blk.later HP1.out.2.1 H.out.blk.1; obtain ⟨y3, k3, j3⟩ := (show Blk _ _ _ from hr3); clear hr3)
    | (at_builtin; refine wpList_cat4 eltE HP1.out.1.own HP1.out.2.1.size rfl rfl rfl rfl HL.out.2 (HD.out.1.later HP1.out.2.1) HD.out.2 (by unfold maxLen; omega) (by omega) ?_; intro A5 c5 w5 hp; have HP2 := Lib.hid hp; clear hp y3 k3 j3; have hr5 := taken_blks (by simp) H.out.blk.1 HP1.out.1 HP2.out (H.out.blk.later HP1.out.2.1 H.out.blk.1) HP1.out.2.2.1 HP1.out.2.2.2; have HQ := Lib.hid hr5; obtain ⟨y5, k5, j5⟩ := (show Blk _ _ _ from hr5.1); obtain ⟨y6, k6, j6⟩ := (show Blk _ _ _ from hr5.2.1); obtain ⟨y7, k7, j7⟩ := (show Blk _ _ _ from hr5.2.2.1); clear hr5))
  refine at_world (fun Z => Blk Z w.heap.size x.cells ∧ Rs w B0 rb room (some ⟨b, o, none⟩) L.length c (L.take i ++ L.drop (i + 1)) Z) ⟨?_, ?_⟩ ?_
  · exact ((((((HQ.out.2.2.1.far (p := ⟨rb, 1, none⟩) (by simp; omega) _).set_ 0 (by simp) _).set_ 1 (by simp) _).set_ 2 (by simp) _).set_ 3 (by simp) _) : Blk _ w.heap.size x.cells)
  · have hne : (Value.slice A5 (i + (L.length - E)) c5).ownBlock ≠ some rb := fun e => by have := HQ.out.2.2.2.1 _ e; omega
    have hown := HP2.out.own
    rw [List.nil_append, ← flat_app] at hown
    have k4 := chg4 (w5.setCell ⟨rb, 1, none⟩ (.slice A5 (i + (L.length - E)) c5)) w.heap.size (.int .i64 x.kind) (.int .u8 x.byte) (.int .i64 x.rows) (.int .i64 x.cols)
    have hk := ((Chg.refl (fun g => g = rb) w5).setCell rb 1 rfl (.slice A5 (i + (L.length - E)) c5))
    refine ⟨A5, i + (L.length - E), c5, ⟨?_, ?_, ?_, hne⟩, ?_, fun g hg => .inr ?_⟩
    · exact ((HQ.out.1.set_ 1 (by simp) _).chg k4 (by omega) : Blk _ rb #[.int .i64 room, .slice A5 (i + (L.length - E)) c5])
    · rw [hE]
      exact own_chg' (own_chg' (own_base hown hB) hk (fun g hg e => hne (by rw [hg, e]))) k4 (fun g hg e => by have := HQ.out.2.2.2.1 _ hg; omega)
    · rw [hE, List.length_append, HL.out.1, HL.out.2]
    · have hb5 := HP1.out.2.1.trans HQ.out.2.2.2.2
      exact ((((chg_below hb5).mono (T := Rt rb (some ⟨b, o, none⟩) L.length c) fun _ _ h => h.elim).setCell rb 1 (.inl rfl) _).next k4 (fun j hj e => by omega))
    · have := HQ.out.2.2.2.1 _ hg; omega
  rintro Z ⟨⟨_, h, _⟩, hZ⟩
  have x0 := h 0
  have x1 := h 1
  have x2 := h 2
  have x3 := h 3
  simp only [Evt.cells] at x0 x1 x2 x3
  refine bodyPost_ret (v := .tuple #[ev x, .bool true]) (by simp [results, Try.results12, go_sem, x0, x1, x2, x3]) rfl ⟨rfl, hZ⟩

-- OTHERS
set_option maxHeartbeats 4000000 in
set_option maxRecDepth 100000 in
theorem refnext_1 {w : World} {B0 rb room n c : Nat} {A : Option Addr} {L : List Evt} (h : Rb w B0 rb room A n c L) (hn : n ≤ 1000000) (hB : B0 ≤ w.heap.size) (i : Nat) (x : Evt) (hi : i < L.length) (hx : L.getD i zeroE = x)
    (hf3 : ∀ z, FirstIs 3 L z → z = -1) (hf : ∀ z, FirstIs 1 L z → z = i) :
    Calls Try.prog 12 #[ptr rb] w fun e w' => e = .returned (.tuple #[ev x, .bool true]) ∧ Rs w B0 rb room A n c (L.take i ++ L.drop (i + 1)) w' := by
  have hlen := h.len
  have H := Lib.hid h
  have HF := Lib.hid hf
  have HF3 := Lib.hid hf3
  subst hlen
  clear h hf hf3
  go_enter Try.func12, Try.ntmps12
  go_wp2_with fail
  have HA := Lib.hid (H.out.later ((Below.refl _ _).alloc (Nat.le_refl _) (.cells #[.int .i64 0, .int .u8 0, .int .i64 0, .int .i64 0] 23)))
  (with_reducible refine (first_any HA.out 3 hn).mono ?_)
  rintro e w1 ⟨⟨z, rfl, hz⟩, rfl⟩
  obtain rfl := HF3.out z hz
  clear hz
  go_wp2_with fail
  (with_reducible refine (first_any HA.out 1 hn).mono ?_)
  rintro e w1 ⟨⟨z, rfl, hz⟩, rfl⟩
  obtain rfl := HF.out z hz
  clear hz
  obtain ⟨b, o, rfl, hbl, a0, a1, a2, a3⟩ := H.out.rd i hi
  rw [hx] at a0 a1 a2 a3
  have hparts : L.length ≤ c ∧ c ≤ 9223372036854775807 := by
    rcases H.out.own.2 with ⟨hv, _⟩ | ⟨g, cap, cur, hv, _, _, h1, h2, _⟩
    · cases hv
    · injection hv with _ _ e
      subst e
      exact ⟨h1, h2⟩
  obtain ⟨hc1, hc2⟩ := hparts
  obtain ⟨y0, k0, j0⟩ := (show Blk _ _ _ from H.out.blk)
  have d1 : decide ((i : Int) < 0) = false := by simp
  have p0 : (0 : Int) ≤ (i : Int) := by omega
  have p1 : (i : Int) < (L.length : Int) := by omega
  obtain ⟨E, hE⟩ : ∃ E, i + 1 = E := ⟨_, rfl⟩
  have e1 : (i : Int) + 1 = (E : Int) := by omega
  have p2 : (E : Int) ≤ (L.length : Int) := by omega
  have p3 : (i : Int) ≤ (c : Int) := by omega
  have p4 : (L.length : Int) ≤ (c : Int) := by omega
  have p5 : (0 : Int) ≤ (E : Int) := by omega
  have p6 : (E : Int) ≤ (c : Int) := by omega
  have HO := Lib.hid (World.ownsRow_nil ((w.alloc (.cells #[.int .i64 0, .int .u8 0, .int .i64 0, .int .i64 0] 23)).alloc (.cells #[.int .i64 x.kind, .int .u8 x.byte, .int .i64 x.rows, .int .i64 x.cols] 23)) w.heap.size 23 4)
  have hbW : Below w.heap.size w ((w.alloc (.cells #[.int .i64 0, .int .u8 0, .int .i64 0, .int .i64 0] 23)).alloc (.cells #[.int .i64 x.kind, .int .u8 x.byte, .int .i64 x.rows, .int .i64 x.cols] 23)) := ((Below.refl _ _).alloc (Nat.le_refl _) _).alloc (by simp) _
  have HW := Lib.hid hbW
  have HB0 := Lib.hid ((blk_new w #[.int .i64 0, .int .u8 0, .int .i64 0, .int .i64 0] 23).alloc (.cells #[.int .i64 x.kind, .int .u8 x.byte, .int .i64 x.rows, .int .i64 x.cols] 23))
  have hbx := blk_new (w.alloc (.cells #[.int .i64 0, .int .u8 0, .int .i64 0, .int .i64 0] 23)) #[.int .i64 x.kind, .int .u8 x.byte, .int .i64 x.rows, .int .i64 x.cols] 23
  rw [World.size_alloc] at hbx
  have HBX := Lib.hid hbx
  have hl1 : (L.take i).length = i := by simp; omega
  have hl2 : (L.drop E).length = L.length - E := by simp
  have HL := Lib.hid (And.intro hl1 hl2)
  obtain ⟨AX, hAX⟩ : ∃ AX, (if c = E then (some ⟨b, o, none⟩ : Option Addr) else some ⟨b, o + E * 4, none⟩) = AX := ⟨_, rfl⟩
  have hAX2 : (if c = E then (some ⟨b, o, none⟩ : Option Addr) else Option.map (fun (x : Addr) => x.add (E * 4)) (some (⟨b, o, none⟩ : Addr))) = AX := by rw [← hAX, Option.map_some, Addr.add_lit]
  have HD := Lib.hid (And.intro (ev_drop H.out.rd rfl hc1 E hAX2) (show AX = none → L.length - E = 0 ∧ c - E = 0 from fun h => by rw [← hAX] at h; split at h <;> cases h))
  clear hbW hbx hl1 hl2 hAX2
  go_wp2_with (first
    | (at_builtin; refine wpList_cat4 eltE HO.out (by simp; omega) rfl rfl rfl rfl HL.out.1 (ev_take (H.out.rd.later HW.out) i) (fun h => by cases h) (by unfold maxLen; omega) (by omega) ?_; intro A3 c3 w3 hp; rw [Nat.zero_add] at hp; have HP1 := Lib.hid (And.intro hp (And.intro (HW.out.trans ((below_own HO.out hp (by simp; omega)))) (And.intro (HBX.out.grown hp.grown (by intro e; cases e)) (HB0.out.grown hp.grown (by intro e; cases e))))); clear hp; have hr3 := H.out.blk.later HP1.out.2.1 H.out.blk.1; obtain ⟨y3, k3, j3⟩ := (show Blk _ _ _ from hr3); clear hr3)
    | (at_builtin; refine wpList_cat4 eltE HP1.out.1.own HP1.out.2.1.size rfl rfl rfl rfl HL.out.2 (HD.out.1.later HP1.out.2.1) HD.out.2 (by unfold maxLen; omega) (by omega) ?_; intro A5 c5 w5 hp; have HP2 := Lib.hid hp; clear hp y3 k3 j3; have hr5 := taken_blks (by simp) H.out.blk.1 HP1.out.1 HP2.out (H.out.blk.later HP1.out.2.1 H.out.blk.1) HP1.out.2.2.1 HP1.out.2.2.2; have HQ := Lib.hid hr5; obtain ⟨y5, k5, j5⟩ := (show Blk _ _ _ from hr5.1); obtain ⟨y6, k6, j6⟩ := (show Blk _ _ _ from hr5.2.1); obtain ⟨y7, k7, j7⟩ := (show Blk _ _ _ from hr5.2.2.1); clear hr5))
  refine at_world (fun Z => Blk Z w.heap.size x.cells ∧ Rs w B0 rb room (some ⟨b, o, none⟩) L.length c (L.take i ++ L.drop (i + 1)) Z) ⟨?_, ?_⟩ ?_
  · exact ((((((HQ.out.2.2.1.far (p := ⟨rb, 1, none⟩) (by simp; omega) _).set_ 0 (by simp) _).set_ 1 (by simp) _).set_ 2 (by simp) _).set_ 3 (by simp) _) : Blk _ w.heap.size x.cells)
  · have hne : (Value.slice A5 (i + (L.length - E)) c5).ownBlock ≠ some rb := fun e => by have := HQ.out.2.2.2.1 _ e; omega
    have hown := HP2.out.own
    rw [List.nil_append, ← flat_app] at hown
    have k4 := chg4 (w5.setCell ⟨rb, 1, none⟩ (.slice A5 (i + (L.length - E)) c5)) w.heap.size (.int .i64 x.kind) (.int .u8 x.byte) (.int .i64 x.rows) (.int .i64 x.cols)
    have hk := ((Chg.refl (fun g => g = rb) w5).setCell rb 1 rfl (.slice A5 (i + (L.length - E)) c5))
    refine ⟨A5, i + (L.length - E), c5, ⟨?_, ?_, ?_, hne⟩, ?_, fun g hg => .inr ?_⟩
    · exact ((HQ.out.1.set_ 1 (by simp) _).chg k4 (by omega) : Blk _ rb #[.int .i64 room, .slice A5 (i + (L.length - E)) c5])
    · rw [hE]
      exact own_chg' (own_chg' (own_base hown hB) hk (fun g hg e => hne (by rw [hg, e]))) k4 (fun g hg e => by have := HQ.out.2.2.2.1 _ hg; omega)
    · rw [hE, List.length_append, HL.out.1, HL.out.2]
    · have hb5 := HP1.out.2.1.trans HQ.out.2.2.2.2
      exact ((((chg_below hb5).mono (T := Rt rb (some ⟨b, o, none⟩) L.length c) fun _ _ h => h.elim).setCell rb 1 (.inl rfl) _).next k4 (fun j hj e => by omega))
    · have := HQ.out.2.2.2.1 _ hg; omega
  rintro Z ⟨⟨_, h, _⟩, hZ⟩
  have x0 := h 0
  have x1 := h 1
  have x2 := h 2
  have x3 := h 3
  simp only [Evt.cells] at x0 x1 x2 x3
  refine bodyPost_ret (v := .tuple #[ev x, .bool true]) (by simp [results, Try.results12, go_sem, x0, x1, x2, x3]) rfl ⟨rfl, hZ⟩

set_option maxHeartbeats 4000000 in
set_option maxRecDepth 100000 in
theorem refnext_2 {w : World} {B0 rb room n c : Nat} {A : Option Addr} {L : List Evt} (h : Rb w B0 rb room A n c L) (hn : n ≤ 1000000) (hB : B0 ≤ w.heap.size) (i : Nat) (x : Evt) (hi : i < L.length) (hx : L.getD i zeroE = x)
    (hf3 : ∀ z, FirstIs 3 L z → z = -1) (hf1 : ∀ z, FirstIs 1 L z → z = -1) (hf : ∀ z, FirstIs 2 L z → z = i) :
    Calls Try.prog 12 #[ptr rb] w fun e w' => e = .returned (.tuple #[ev x, .bool true]) ∧ Rs w B0 rb room A n c (L.take i ++ L.drop (i + 1)) w' := by
  have hlen := h.len
  have H := Lib.hid h
  have HF := Lib.hid hf
  have HF3 := Lib.hid hf3
  have HF1 := Lib.hid hf1
  subst hlen
  clear h hf hf3 hf1
  go_enter Try.func12, Try.ntmps12
  go_wp2_with fail
  have HA := Lib.hid (H.out.later ((Below.refl _ _).alloc (Nat.le_refl _) (.cells #[.int .i64 0, .int .u8 0, .int .i64 0, .int .i64 0] 23)))
  (with_reducible refine (first_any HA.out 3 hn).mono ?_)
  rintro e w1 ⟨⟨z, rfl, hz⟩, rfl⟩
  obtain rfl := HF3.out z hz
  clear hz
  go_wp2_with fail
  (with_reducible refine (first_any HA.out 1 hn).mono ?_)
  rintro e w1 ⟨⟨z, rfl, hz⟩, rfl⟩
  obtain rfl := HF1.out z hz
  clear hz
  go_wp2_with fail
  (with_reducible refine (first_any HA.out 2 hn).mono ?_)
  rintro e w1 ⟨⟨z, rfl, hz⟩, rfl⟩
  obtain rfl := HF.out z hz
  clear hz
  obtain ⟨b, o, rfl, hbl, a0, a1, a2, a3⟩ := H.out.rd i hi
  rw [hx] at a0 a1 a2 a3
  have hparts : L.length ≤ c ∧ c ≤ 9223372036854775807 := by
    rcases H.out.own.2 with ⟨hv, _⟩ | ⟨g, cap, cur, hv, _, _, h1, h2, _⟩
    · cases hv
    · injection hv with _ _ e
      subst e
      exact ⟨h1, h2⟩
  obtain ⟨hc1, hc2⟩ := hparts
  obtain ⟨y0, k0, j0⟩ := (show Blk _ _ _ from H.out.blk)
  have d1 : decide ((i : Int) < 0) = false := by simp
  have p0 : (0 : Int) ≤ (i : Int) := by omega
  have p1 : (i : Int) < (L.length : Int) := by omega
  obtain ⟨E, hE⟩ : ∃ E, i + 1 = E := ⟨_, rfl⟩
  have e1 : (i : Int) + 1 = (E : Int) := by omega
  have p2 : (E : Int) ≤ (L.length : Int) := by omega
  have p3 : (i : Int) ≤ (c : Int) := by omega
  have p4 : (L.length : Int) ≤ (c : Int) := by omega
  have p5 : (0 : Int) ≤ (E : Int) := by omega
  have p6 : (E : Int) ≤ (c : Int) := by omega
  have HO := Lib.hid (World.ownsRow_nil ((w.alloc (.cells #[.int .i64 0, .int .u8 0, .int .i64 0, .int .i64 0] 23)).alloc (.cells #[.int .i64 x.kind, .int .u8 x.byte, .int .i64 x.rows, .int .i64 x.cols] 23)) w.heap.size 23 4)
  have hbW : Below w.heap.size w ((w.alloc (.cells #[.int .i64 0, .int .u8 0, .int .i64 0, .int .i64 0] 23)).alloc (.cells #[.int .i64 x.kind, .int .u8 x.byte, .int .i64 x.rows, .int .i64 x.cols] 23)) := ((Below.refl _ _).alloc (Nat.le_refl _) _).alloc (by simp) _
  have HW := Lib.hid hbW
  have HB0 := Lib.hid ((blk_new w #[.int .i64 0, .int .u8 0, .int .i64 0, .int .i64 0] 23).alloc (.cells #[.int .i64 x.kind, .int .u8 x.byte, .int .i64 x.rows, .int .i64 x.cols] 23))
  have hbx := blk_new (w.alloc (.cells #[.int .i64 0, .int .u8 0, .int .i64 0, .int .i64 0] 23)) #[.int .i64 x.kind, .int .u8 x.byte, .int .i64 x.rows, .int .i64 x.cols] 23
  rw [World.size_alloc] at hbx
  have HBX := Lib.hid hbx
  have hl1 : (L.take i).length = i := by simp; omega
  have hl2 : (L.drop E).length = L.length - E := by simp
  have HL := Lib.hid (And.intro hl1 hl2)
  obtain ⟨AX, hAX⟩ : ∃ AX, (if c = E then (some ⟨b, o, none⟩ : Option Addr) else some ⟨b, o + E * 4, none⟩) = AX := ⟨_, rfl⟩
  have hAX2 : (if c = E then (some ⟨b, o, none⟩ : Option Addr) else Option.map (fun (x : Addr) => x.add (E * 4)) (some (⟨b, o, none⟩ : Addr))) = AX := by rw [← hAX, Option.map_some, Addr.add_lit]
  have HD := Lib.hid (And.intro (ev_drop H.out.rd rfl hc1 E hAX2) (show AX = none → L.length - E = 0 ∧ c - E = 0 from fun h => by rw [← hAX] at h; split at h <;> cases h))
  clear hbW hbx hl1 hl2 hAX2
  go_wp2_with (first
    | (at_builtin; refine wpList_cat4 eltE HO.out (by simp; omega) rfl rfl rfl rfl HL.out.1 (ev_take (H.out.rd.later HW.out) i) (fun h => by cases h) (by unfold maxLen; omega) (by omega) ?_; intro A3 c3 w3 hp; rw [Nat.zero_add] at hp; have HP1 := Lib.hid (And.intro hp (And.intro (HW.out.trans ((below_own HO.out hp (by simp; omega)))) (And.intro (HBX.out.grown hp.grown (by intro e; cases e)) (HB0.out.grown hp.grown (by intro e; cases e))))); clear hp; have hr3 := H.out.blk.later HP1.out.2.1 H.out.blk.1; obtain ⟨y3, k3, j3⟩ := (show Blk _ _ _ from hr3); clear hr3)
    | (at_builtin; refine wpList_cat4 eltE HP1.out.1.own HP1.out.2.1.size rfl rfl rfl rfl HL.out.2 (HD.out.1.later HP1.out.2.1) HD.out.2 (by unfold maxLen; omega) (by omega) ?_; intro A5 c5 w5 hp; have HP2 := Lib.hid hp; clear hp y3 k3 j3; have hr5 := taken_blks (by simp) H.out.blk.1 HP1.out.1 HP2.out (H.out.blk.later HP1.out.2.1 H.out.blk.1) HP1.out.2.2.1 HP1.out.2.2.2; have HQ := Lib.hid hr5; obtain ⟨y5, k5, j5⟩ := (show Blk _ _ _ from hr5.1); obtain ⟨y6, k6, j6⟩ := (show Blk _ _ _ from hr5.2.1); obtain ⟨y7, k7, j7⟩ := (show Blk _ _ _ from hr5.2.2.1); clear hr5))
  refine at_world (fun Z => Blk Z w.heap.size x.cells ∧ Rs w B0 rb room (some ⟨b, o, none⟩) L.length c (L.take i ++ L.drop (i + 1)) Z) ⟨?_, ?_⟩ ?_
  · exact ((((((HQ.out.2.2.1.far (p := ⟨rb, 1, none⟩) (by simp; omega) _).set_ 0 (by simp) _).set_ 1 (by simp) _).set_ 2 (by simp) _).set_ 3 (by simp) _) : Blk _ w.heap.size x.cells)
  · have hne : (Value.slice A5 (i + (L.length - E)) c5).ownBlock ≠ some rb := fun e => by have := HQ.out.2.2.2.1 _ e; omega
    have hown := HP2.out.own
    rw [List.nil_append, ← flat_app] at hown
    have k4 := chg4 (w5.setCell ⟨rb, 1, none⟩ (.slice A5 (i + (L.length - E)) c5)) w.heap.size (.int .i64 x.kind) (.int .u8 x.byte) (.int .i64 x.rows) (.int .i64 x.cols)
    have hk := ((Chg.refl (fun g => g = rb) w5).setCell rb 1 rfl (.slice A5 (i + (L.length - E)) c5))
    refine ⟨A5, i + (L.length - E), c5, ⟨?_, ?_, ?_, hne⟩, ?_, fun g hg => .inr ?_⟩
    · exact ((HQ.out.1.set_ 1 (by simp) _).chg k4 (by omega) : Blk _ rb #[.int .i64 room, .slice A5 (i + (L.length - E)) c5])
    · rw [hE]
      exact own_chg' (own_chg' (own_base hown hB) hk (fun g hg e => hne (by rw [hg, e]))) k4 (fun g hg e => by have := HQ.out.2.2.2.1 _ hg; omega)
    · rw [hE, List.length_append, HL.out.1, HL.out.2]
    · have hb5 := HP1.out.2.1.trans HQ.out.2.2.2.2
      exact ((((chg_below hb5).mono (T := Rt rb (some ⟨b, o, none⟩) L.length c) fun _ _ h => h.elim).setCell rb 1 (.inl rfl) _).next k4 (fun j hj e => by omega))
    · have := HQ.out.2.2.2.1 _ hg; omega
  rintro Z ⟨⟨_, h, _⟩, hZ⟩
  have x0 := h 0
  have x1 := h 1
  have x2 := h 2
  have x3 := h 3
  simp only [Evt.cells] at x0 x1 x2 x3
  refine bodyPost_ret (v := .tuple #[ev x, .bool true]) (by simp [results, Try.results12, go_sem, x0, x1, x2, x3]) rfl ⟨rfl, hZ⟩

set_option maxHeartbeats 4000000 in
set_option maxRecDepth 100000 in
theorem refnext_0 {w : World} {B0 rb room n c : Nat} {A : Option Addr} {L : List Evt} (h : Rb w B0 rb room A n c L) (hn : n ≤ 1000000) (hf3 : ∀ z, FirstIs 3 L z → z = -1) (hf1 : ∀ z, FirstIs 1 L z → z = -1) (hf2 : ∀ z, FirstIs 2 L z → z = -1) :
    Calls Try.prog 12 #[ptr rb] w fun e w' => e = .returned (.tuple #[ev zeroE, .bool false]) ∧ Below w.heap.size w w' := by
  have H := Lib.hid h
  have HF3 := Lib.hid hf3
  have HF1 := Lib.hid hf1
  have HF2 := Lib.hid hf2
  clear h hf3 hf1 hf2
  go_enter Try.func12, Try.ntmps12
  have HA := Lib.hid (H.out.later ((Below.refl _ _).alloc (Nat.le_refl _) (.cells #[.int .i64 0, .int .u8 0, .int .i64 0, .int .i64 0] 23)))
  go_wp2_with fail
  (with_reducible refine (first_any HA.out 3 hn).mono ?_)
  rintro e w1 ⟨⟨z, rfl, hz⟩, rfl⟩
  obtain rfl := HF3.out z hz
  clear hz
  go_wp2_with fail
  (with_reducible refine (first_any HA.out 1 hn).mono ?_)
  rintro e w1 ⟨⟨z, rfl, hz⟩, rfl⟩
  obtain rfl := HF1.out z hz
  clear hz
  go_wp2_with fail
  (with_reducible refine (first_any HA.out 2 hn).mono ?_)
  rintro e w1 ⟨⟨z, rfl, hz⟩, rfl⟩
  obtain rfl := HF2.out z hz
  clear hz
  go_wp2
  refine at_world (fun Z => Blk Z w.heap.size #[.int .i64 0, .int .u8 0, .int .i64 0, .int .i64 0] ∧ Below w.heap.size w Z) ⟨blk_new _ _ _, (Below.refl _ _).alloc (Nat.le_refl _) _⟩ ?_
  rintro Z ⟨⟨_, h, _⟩, hZ⟩
  have x0 := h 0
  have x1 := h 1
  have x2 := h 2
  have x3 := h 3
  refine bodyPost_ret (v := .tuple #[ev ⟨0, 0, 0, 0⟩, .bool false]) (by simp [results, Try.results12, go_sem, x0, x1, x2, x3]) rfl ⟨rfl, hZ⟩
end Go.Proofs.Ytcoffbgpdbhjfaa

/- keys: bytes fed one behind the other: pure. -/
import Derived.Test.YtkkenabckhmkoaaKyU
namespace Go.Proofs.Ytkkenabckhmkoaa
open Go.RowKit
set_option linter.unusedVariables false
set_option linter.unusedSimpArgs false
set_option maxRecDepth 100000

/-- The parser behind bytes, the keys that they told. -/
def runK (q : KS × List Ky) (bs : List Int) : KS × List Ky := bs.foldl (fun q b => ((feedK q.1 b).1, q.2 ++ (feedK q.1 b).2)) q
theorem runK_snoc (q : KS × List Ky) {bs : List Int} {k : Nat} {b : Int} (h : bs[k]? = some b) : runK q (bs.take (k + 1)) = ((feedK (runK q (bs.take k)).1 b).1, (runK q (bs.take k)).2 ++ (feedK (runK q (bs.take k)).1 b).2) := by
  rw [take_snoc' h]
  simp [runK, List.foldl_append]
theorem runK_ok : ∀ (bs : List Int) (q : KS × List Ky) (n : Nat), q.1.Ok → (∀ b ∈ bs, 0 ≤ b ∧ b ≤ 255) → q.1.tx.length ≤ n → n + bs.length ≤ 100000 → (runK q bs).1.Ok ∧ (runK q bs).1.tx.length ≤ n + bs.length
  | [], q, n, h, _, h1, _ => ⟨h, h1⟩
  | b :: bs, q, n, h, hb, h1, h2 => by
    simp only [List.length_cons] at h2 ⊢
    have hb0 := hb b (by simp)
    have h3 := tx_feed q.1 b
    have h4 := runK_ok bs ((feedK q.1 b).1, q.2 ++ (feedK q.1 b).2) (n + 1) (ok_feed q.1 h b hb0.1 hb0.2 (by omega)) (fun c hc => hb c (by simp [hc])) (by dsimp only; omega) (by omega)
    exact ⟨h4.1, Nat.le_trans h4.2 (by omega)⟩
/-- What the law's own trial feeds. -/
def awakeB : List Int := [27, 91, 65, 27, 97, 195, 169, 195, 1, 27]
deriving instance DecidableEq for Ky
theorem awake_keys : (runK (KS.zero, []) awakeB).2 ++ (tickK (runK (KS.zero, []) awakeB).1).2 = [⟨3, 1, false, []⟩, ⟨1, 97, true, []⟩, ⟨1, 233, false, []⟩, ⟨1, 65533, false, []⟩, ⟨2, 1, false, []⟩, ⟨2, 27, false, []⟩] := by
  decide +kernel
end Go.Proofs.Ytkkenabckhmkoaa

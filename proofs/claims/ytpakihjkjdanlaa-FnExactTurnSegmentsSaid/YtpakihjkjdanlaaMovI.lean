/- What moveIndices of the program does with slices.Reverse, and what TurnSegments does. -/
import Derived.Test.YtpakihjkjdanlaaRevI
import Derived.Test.YtpakihjkjdanlaaInvS
import Derived.Test.YtpakihjkjdanlaaSegGen
namespace Go.Proofs.Ytpakihjkjdanlaa
open Go.RowKit Go.Shelf
attribute [local go_sem] Oper.semAt_some

/-- The indices that turn segments round. -/
def turnF (L : List Int) (j k : Nat) : Int := sumI (L.take j) + L.getD j 0 - 1 - (k : Int)
def turnR (L : List Int) : List Int := if lensB L = true then genI (turnF L) 0 L else []
theorem upV_iota (n : Nat) : upV n = (iotaL n).map (Value.int .i64) := by simp [upV, iotaL]
theorem spl_self {α : Type} {ys : List α} {s z : Nat} (h : s + z ≤ ys.length) : spl ys s ((ys.drop s).take z) = ys := by
  rw [spl, List.length_take, List.length_drop, show min z (ys.length - s) = z from by omega, ← List.drop_drop, List.take_append_drop, List.take_append_drop]
theorem iota_at2 {n k : Nat} (h : k < n) : (iotaL n)[k]? = some (k : Int) := by simp [iotaL, h]
theorem iota_lenX (t : Nat) : (iotaL t).length = t := by simp [iotaL]
theorem turn_seg {L : List Int} {p s z n : Nat} (hz : L[p]? = some (z : Int)) (hs : sumI (L.take p) = (s : Int)) (hn : s + z ≤ n) : (((iotaL n).drop s).take z).reverse = (List.range z).map (turnF L p) := by
  have hl : (((iotaL n).drop s).take z).length = z := by rw [List.length_take, List.length_drop, iota_lenX]; omega
  refine List.ext_getElem? fun t => ?_
  rcases Nat.lt_or_ge t z with ht | ht
  · rw [List.getElem?_reverse (by omega), hl, List.getElem?_take, if_pos (by omega), List.getElem?_drop, iota_at2 (by omega), List.getElem?_map, List.getElem?_range ht]
    simp only [Option.map_some, Option.some.injEq, turnF, hs]
    rw [getD_some hz]
    omega
  · rw [List.getElem?_eq_none (by rw [List.length_reverse]; omega), List.getElem?_eq_none (by simp; omega)]
/-- Indices of which the first segments are turned round. -/
def turnTo (L : List Int) (n p s : Nat) : List Int := genI (turnF L) 0 (L.take p) ++ (iotaL n).drop s
theorem turnTo_len {L : List Int} {n p s : Nat} (hok : okN 400 L = true) (hs : sumI (L.take p) = (s : Int)) (hn : s ≤ n) : (turnTo L n p s).length = n := by
  have := genI_len (turnF L) (L.take p) 0 (okN_take hok p)
  rw [turnTo, List.length_append, List.length_drop, iota_lenX]
  omega
theorem turnTo_drop {L : List Int} {n p s : Nat} (hok : okN 400 L = true) (hs : sumI (L.take p) = (s : Int)) : (turnTo L n p s).drop s = (iotaL n).drop s ∧ (turnTo L n p s).take s = genI (turnF L) 0 (L.take p) := by
  have := genI_len (turnF L) (L.take p) 0 (okN_take hok p)
  have e : (genI (turnF L) 0 (L.take p)).length = s := by omega
  exact ⟨by rw [turnTo, ← e]; simp, by rw [turnTo, ← e]; simp⟩
theorem turnTo_step {L : List Int} {n p s z : Nat} (hok : okN 400 L = true) (hz : L[p]? = some (z : Int)) (hs : sumI (L.take p) = (s : Int)) (hn : s + z ≤ n) :
    spl ((turnTo L n p s).map (Value.int .i64)) s ((((iotaL n).drop s).take z).reverse.map (Value.int .i64)) = (turnTo L n (p + 1) (s + z)).map (Value.int .i64) := by
  obtain ⟨h1, h2⟩ := turnTo_drop (n := n) hok hs
  have hl : ((((iotaL n).drop s).take z).reverse.map (Value.int .i64)).length = z := by rw [List.length_map, List.length_reverse, List.length_take, List.length_drop, iota_lenX]; omega
  rw [spl, hl, ← List.map_take, h2, ← List.map_drop, ← List.drop_drop, h1, turn_seg hz hs hn, ← List.map_append, ← List.map_append, turnTo, genI_take (turnF L) L 0 p _ hz, List.drop_drop]
  simp

end Go.Proofs.Ytpakihjkjdanlaa

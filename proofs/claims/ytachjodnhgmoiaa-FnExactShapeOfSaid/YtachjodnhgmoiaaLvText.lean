/- Plain facts: no level has more numbers than the text has bytes. -/
import Derived.Test.YtachjodnhgmoiaaLevels
import Derived.Test.YtachjodnhgmoiaaText
namespace Go.Proofs.Ytachjodnhgmoiaa

/-- How long the texts of arrays are together. -/
def txs (d : Nat) : List (T d) → Nat
  | [] => 0
  | t :: ts => (text d t).length + txs d ts
theorem txs_append (d : Nat) : ∀ (a b : List (T d)), txs d (a ++ b) = txs d a + txs d b
  | [], b => by simp [txs]
  | t :: a, b => by simp [txs, txs_append d a b, Nat.add_assoc]
theorem txs_len (d : Nat) : ∀ (ts : List (T d)), ts.length ≤ txs d ts
  | [] => by simp
  | t :: ts => by
    have := text_pos d t
    have := txs_len d ts
    simp only [List.length_cons, txs]
    omega
theorem flat_txs (d : Nat) : ∀ (l : List (T d)), txs d l ≤ (l.flatMap (fun x => 44 :: text d x)).length
  | [] => by simp [txs]
  | x :: l => by
    have := flat_txs d l
    simp only [txs, List.flatMap_cons, List.length_append, List.length_cons]
    omega
theorem prt_txs (d : Nat) (t : T (d + 1)) : txs d (prt t) ≤ (text (d + 1) t).length := by
  have e : text (d + 1) t = 91 :: (lst d (prt t) ++ [93]) := text_succ d (prt t)
  rw [e]
  cases h : prt t with
  | nil => simp [txs]
  | cons x l =>
    have := flat_txs d l
    simp only [txs, lst, List.length_cons, List.length_append, List.length_nil]
    omega
theorem flatMap_txs (d : Nat) : ∀ (ts : List (T (d + 1))), txs d (ts.flatMap prt) ≤ txs (d + 1) ts
  | [] => by simp [txs]
  | t :: ts => by
    have h1 := prt_txs d t
    have h2 := flatMap_txs d ts
    rw [List.flatMap_cons, txs_append, txs]
    omega
theorem lv_txs : ∀ (d : Nat) (ts : List (T d)) (L : List Int), L ∈ lv d ts → L.length ≤ txs d ts
  | 0, _, L, h => by cases h
  | d + 1, ts, L, h => by
    rw [lv, List.mem_cons] at h
    rcases h with rfl | h
    · rw [List.length_map]; exact txs_len _ ts
    · exact Nat.le_trans (lv_txs d _ L h) (flatMap_txs d ts)
theorem dat_txs : ∀ (d : Nat) (ts : List (T d)), (dat d ts).length ≤ txs d ts
  | 0, ts => by
    have : (dat 0 ts).length = ts.length := List.length_map _
    rw [this]; exact txs_len _ ts
  | d + 1, ts => Nat.le_trans (dat_txs d _) (flatMap_txs d ts)

/-- Lists that are this short. -/
theorem lv_short {d : Nat} {t : T d} (h : (text d t).length ≤ 1000000) : Short (behind 0 (List.replicate d []) (lv d [t])) ∧ ([] ++ dat d [t]).length ≤ 1000000 := by
  have h1 : txs d [t] = (text d t).length := by simp [txs]
  have h2 := dat_txs d [t]
  refine ⟨fun i L hL => ?_, by simp only [List.nil_append]; omega⟩
  have e : behind 0 (List.replicate d []) (lv d [t]) = lv d [t] := by rw [behind, List.take_zero, List.nil_append, List.drop_zero, lv_zero_add]
  rw [e] at hL
  have := lv_txs d [t] L (List.mem_of_getElem? hL)
  omega

end Go.Proofs.Ytachjodnhgmoiaa

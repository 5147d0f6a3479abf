/- Plain facts: the decimal text of a number, the text of an array of a depth; what is read at a place has just the bytes that stand there. Nothing of the program. -/
import Derived.Test.YtachjodnhgmoiaaDoorByte
namespace Go.Proofs.YtachjodnhgmoiaaDoor

/-- The digits of a number, by fuel. -/
def decF : Nat → Nat → List UInt8
  | 0, _ => []
  | f + 1, n => if n ≤ 9 then [UInt8.ofNat (48 + n)] else decF f (n / 10) ++ [UInt8.ofNat (48 + n % 10)]
def dec (n : Nat) : List UInt8 := decF (n + 1) n

theorem decF_more : ∀ (f n g : Nat), n < f → n < g → decF f n = decF g n
  | 0, n, g, h, _ => by omega
  | f + 1, n, g, h, hg => by
    obtain ⟨g', rfl⟩ : ∃ g', g = g' + 1 := ⟨g - 1, by omega⟩
    by_cases h9 : n ≤ 9
    · rw [decF, decF, if_pos h9, if_pos h9]
    · rw [decF, decF, if_neg h9, if_neg h9, decF_more f (n / 10) g' (by omega) (by omega)]
theorem dec_low {n : Nat} (h : n ≤ 9) : dec n = [UInt8.ofNat (48 + n)] := by rw [dec, decF, if_pos h]
theorem dec_high {n : Nat} (h : 9 < n) : dec n = dec (n / 10) ++ [UInt8.ofNat (48 + n % 10)] := by
  rw [dec, decF, if_neg (by omega), decF_more n (n / 10) (n / 10 + 1) (by omega) (by omega)]
  rfl
theorem dec_snoc {v d : Nat} (hv : 0 < v) (hd : d ≤ 9) : dec (10 * v + d) = dec v ++ [UInt8.ofNat (48 + d)] := by
  rw [dec_high (by omega)]
  have h1 : (10 * v + d) / 10 = v := by omega
  have h2 : (10 * v + d) % 10 = d := by omega
  rw [h1, h2]

/-- The bytes from a place to another. -/
def sub (s : ByteArray) (p q : Nat) : List UInt8 := (s.data.toList.drop p).take (q - p)

theorem sub_join (s : ByteArray) {p q r : Nat} (h1 : p ≤ q) (h2 : q ≤ r) : sub s p r = sub s p q ++ sub s q r := by
  unfold sub
  have e : r - p = (q - p) + (r - q) := by omega
  rw [e, List.take_add, List.drop_drop]
  congr 3
  omega
theorem sub_one (s : ByteArray) {p : Nat} (h : p < s.size) : sub s p (p + 1) = [s[p]] := by
  have h' : p < s.data.toList.length := by simpa using h
  unfold sub
  rw [show p + 1 - p = 1 from by omega, List.drop_eq_getElem_cons h']
  simp
  rfl
theorem sub_byte (s : ByteArray) {p : Nat} {c : Nat} (h : ba s p = (c : Int)) (_hc : c < 256) : sub s p (p + 1) = [UInt8.ofNat c] := by
  have hp := ba_lt (s := s) (p := p) (by omega)
  rw [sub_one s hp]
  rw [ba_in hp] at h
  have : s[p].toNat = c := by omega
  rw [← this]
  simp
theorem sub_all (s : ByteArray) : sub s 0 s.size = s.data.toList := by
  unfold sub
  simp
  exact List.take_of_length_le (by simp)
theorem sub_nil (s : ByteArray) (p : Nat) : sub s p p = [] := by unfold sub; simp

theorem val_pos (s : ByteArray) (p : Nat) (h : 49 ≤ ba s p) (k : Nat) : 0 < val s p (k + 1) := by
  induction k with
  | zero => simp only [val, Nat.add_zero]; omega
  | succ k ih => rw [val]; omega

/-- k digits that do not begin with 0 are the decimal text of their value. -/
theorem sub_dec (s : ByteArray) (p : Nat) (h0 : 49 ≤ ba s p) : ∀ k, (∀ i, i < k + 1 → dg s (p + i) = true) → sub s p (p + (k + 1)) = dec (val s p (k + 1))
  | 0, h => by
    have hd := dg_yes (h 0 (by omega))
    rw [Nat.add_zero] at hd
    have e : val s p 1 = (ba s p - 48).toNat := by simp [val]
    rw [e, dec_low (by omega)]
    exact sub_byte s (c := 48 + (ba s p - 48).toNat) (by omega) (by omega)
  | k + 1, h => by
    have hd := dg_yes (h (k + 1) (by omega))
    have ih := sub_dec s p h0 k (fun i hi => h i (by omega))
    have hv := val_pos s p h0 k
    have e : val s p (k + 1 + 1) = 10 * val s p (k + 1) + (ba s (p + (k + 1)) - 48).toNat := rfl
    rw [sub_join s (q := p + (k + 1)) (by omega) (by omega), ih, e, dec_snoc hv (by omega)]
    congr 1
    exact sub_byte s (p := p + (k + 1)) (c := 48 + (ba s (p + (k + 1)) - 48).toNat) (by omega) (by omega)

theorem sub_num {s : ByteArray} {p v q : Nat} (h : num s p = some (v, q)) : sub s p q = dec v := by
  unfold num at h
  split at h
  · cases h
  · rename_i hc
    simp only [Option.some.injEq, Prod.mk.injEq] at h
    obtain ⟨rfl, rfl⟩ := h
    have hn : nd s p ≠ 0 := fun e => hc (.inl e)
    obtain ⟨k, hk⟩ : ∃ k, nd s p = k + 1 := ⟨nd s p - 1, by omega⟩
    have hdig : ∀ i, i < k + 1 → dg s (p + i) = true := fun i hi => nd_dg s i p (by omega)
    by_cases hz : ba s p = 48
    · have h1 : nd s p = 1 := by
        have : ¬ 1 < nd s p := fun h1 => hc (.inr (.inl ⟨hz, h1⟩))
        omega
      rw [h1]
      have e : val s p 1 = 0 := by simp [val, hz]
      rw [e, dec_low (by omega)]
      exact sub_byte s (c := 48) (by omega) (by omega)
    · have hd := dg_yes (hdig 0 (by omega))
      rw [Nat.add_zero] at hd
      rw [hk]
      exact sub_dec s p (by omega) k hdig

/-- The text of an array of a depth. -/
def text : (d : Nat) → T d → List UInt8
  | 0, n => dec (show Nat from n)
  | d + 1, ts => 91 :: (match (show List (T d) from ts) with
    | [] => [93]
    | t :: l => text d t ++ (l.flatMap (fun x => 44 :: text d x) ++ [93]))

/-- The parts' texts with ',' between them. -/
def lst (d : Nat) : List (T d) → List UInt8
  | [] => []
  | t :: l => text d t ++ l.flatMap (fun x => 44 :: text d x)
theorem text_succ (d : Nat) (ts : List (T d)) : text (d + 1) ts = 91 :: (lst d ts ++ [93]) := by
  cases ts with
  | nil => rfl
  | cons t l => show 91 :: (text d t ++ (l.flatMap (fun x => 44 :: text d x) ++ [93])) = _; simp [lst]
theorem lst_one (d : Nat) (t : T d) : lst d [t] = text d t := by simp [lst]
theorem lst_snoc (d : Nat) (t : T d) : ∀ (l : List (T d)), l ≠ [] → lst d (l ++ [t]) = lst d l ++ 44 :: text d t
  | [], h => absurd rfl h
  | x :: l, _ => by simp [lst]
theorem lst_take_le (d : Nat) (ts : List (T d)) : ∀ j, (lst d (ts.take j)).length ≤ (lst d ts).length := by
  intro j
  have e : ts.take j ++ ts.drop j = ts := List.take_append_drop j ts
  cases hd : ts.take j with
  | nil => simp [lst]
  | cons x l =>
    rw [← e, hd]
    simp only [lst, List.cons_append, List.flatMap_append, List.length_append]
    omega

theorem dec_pos (n : Nat) : 0 < (dec n).length := by
  by_cases h : n ≤ 9
  · rw [dec_low h]; simp
  · rw [dec_high (by omega)]; simp
theorem text_pos : ∀ (d : Nat) (t : T d), 0 < (text d t).length
  | 0, t => dec_pos _
  | d + 1, t => by
    have e : text (d + 1) t = 91 :: (lst d t ++ [93]) := text_succ d t
    rw [e]
    simp
theorem flat_ge (d : Nat) : ∀ (l : List (T d)), l.length ≤ (l.flatMap (fun x => 44 :: text d x)).length
  | [] => by simp
  | x :: l => by
    have := flat_ge d l
    simp only [List.flatMap_cons, List.length_append, List.length_cons]
    omega
theorem lst_ge (d : Nat) : ∀ (l : List (T d)), l.length ≤ (lst d l).length
  | [] => by simp
  | x :: l => by
    have h1 := flat_ge d l
    have h2 := text_pos d x
    simp only [lst, List.length_append, List.length_cons]
    omega

theorem lst_step0 {d : Nat} {ts : List (T d)} {t : T d} (h : ts[0]? = some t) : lst d (ts.take 1) = text d t := by
  cases ts with
  | nil => simp at h
  | cons x l => simp at h; subst h; simp [lst]
theorem lst_stepS {d : Nat} {ts : List (T d)} {j : Nat} {t : T d} (h : ts[j]? = some t) (hj : 0 < j) : lst d (ts.take (j + 1)) = lst d (ts.take j) ++ 44 :: text d t := by
  have e : ts.take (j + 1) = ts.take j ++ [t] := by rw [List.take_add_one, h]; rfl
  rw [e]
  refine lst_snoc d t _ (fun hn => ?_)
  have hl : j < ts.length := by
    rcases Nat.lt_or_ge j ts.length with h' | h'
    · exact h'
    · rw [List.getElem?_eq_none h'] at h; cases h
  have := congrArg List.length hn
  rw [List.length_take, List.length_nil] at this
  omega

theorem sub_more {s : ByteArray} {d : Nat} (he : ∀ p t q, node s d p = some (t, q) → sub s p q = text d t) :
    ∀ (f p : Nat) (xs : List (T d)) (r : Nat), more s (node s d) f p = some (xs, r) → sub s p r = xs.flatMap (fun x => 44 :: text d x) ++ [93]
  | 0, p, xs, r, h => by cases h
  | f + 1, p, xs, r, h => by
    unfold more at h
    split at h
    · rename_i h93
      simp only [Option.some.injEq, Prod.mk.injEq] at h
      obtain ⟨rfl, rfl⟩ := h
      exact sub_byte s (c := 93) h93 (by omega)
    · split at h
      · rename_i h44
        split at h
        · cases h
        · rename_i x q hx
          split at h
          · cases h
          · rename_i ys r' hm
            simp only [Option.some.injEq, Prod.mk.injEq] at h
            obtain ⟨rfl, rfl⟩ := h
            have g1 := node_ge s d _ _ _ hx
            have g2 := more_ge (node_ge s d) f q ys r' hm
            rw [sub_join s (q := p + 1) (by omega) (by omega), sub_join s (p := p + 1) (q := q) (by omega) (by omega), sub_byte s (c := 44) h44 (by omega), he _ _ _ hx, sub_more he f q ys r' hm]
            simp
      · cases h

theorem sub_node (s : ByteArray) : ∀ (d p : Nat) (t : T d) (q : Nat), node s d p = some (t, q) → sub s p q = text d t
  | 0, p, t, q, h => sub_num (v := t) h
  | d + 1, p, t, q, h => by
    have he := fun p t q h => sub_node s d p t q h
    change parts s (node s d) p = some (t, q) at h
    unfold parts at h
    split at h
    · rename_i h91
      split at h
      · rename_i h93
        cases h
        rw [sub_join s (q := p + 1) (by omega) (by omega), sub_byte s (c := 91) h91 (by omega), sub_byte s (p := p + 1) (c := 93) h93 (by omega)]
        rfl
      · split at h
        · cases h
        · rename_i x q1 hx
          split at h
          · cases h
          · rename_i ys r' hm
            cases h
            have g1 := node_ge s d _ _ _ hx
            have g2 := more_ge (node_ge s d) _ _ ys _ hm
            rw [sub_join s (q := p + 1) (by omega) (by omega), sub_join s (p := p + 1) (q := q1) (by omega) (by omega), sub_byte s (c := 91) h91 (by omega), he _ _ _ hx, sub_more he _ _ ys _ hm]
            rfl
    · cases h

end Go.Proofs.YtachjodnhgmoiaaDoor

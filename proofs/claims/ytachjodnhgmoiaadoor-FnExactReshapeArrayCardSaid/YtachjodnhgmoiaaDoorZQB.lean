/- 7 texts in one: IsArr Fold LvText FoldU Fil FillP ValidI. -/
import Derived.Test.YtachjodnhgmoiaaDoorText
import Derived.Test.YtachjodnhgmoiaaDoorZQA
import Derived.Test.YtachjodnhgmoiaaDoorLevels
import Derived.Shelf.Abstract
import Derived.Test.YtachjodnhgmoiaaDoorTake1
namespace Go.Proofs.YtachjodnhgmoiaaDoor
/- IsArr -/
section

/-- All numbers are below 10007. -/
def okT : (d : Nat) → T d → Prop
  | 0, n => (show Nat from n) < 10007
  | d + 1, ts => ∀ t ∈ (show List (T d) from ts), okT d t

/-- These bytes stand from a place on. -/
def Bts (s : ByteArray) (p : Nat) (l : List UInt8) : Prop := ∀ (i : Nat) (b : UInt8), l[i]? = some b → ba s (p + i) = (b.toNat : Int)
theorem Bts.left {s : ByteArray} {p : Nat} {l m : List UInt8} (h : Bts s p (l ++ m)) : Bts s p l := fun i b hb => h i b (by rw [List.getElem?_append_left (List.getElem?_eq_some_iff.1 hb).1]; exact hb)
theorem Bts.right {s : ByteArray} {p : Nat} {l m : List UInt8} (h : Bts s p (l ++ m)) : Bts s (p + l.length) m := fun i b hb => by
  rw [Nat.add_assoc]
  exact h _ b (by rw [List.getElem?_append_right (by omega), Nat.add_sub_cancel_left]; exact hb)
theorem Bts.head {s : ByteArray} {p : Nat} {b : UInt8} {l : List UInt8} (h : Bts s p (b :: l)) : ba s p = (b.toNat : Int) := h 0 b rfl
theorem Bts.tail {s : ByteArray} {p : Nat} {b : UInt8} {l : List UInt8} (h : Bts s p (b :: l)) : Bts s (p + 1) l := fun i c hc => by
  have := h (i + 1) c (by simpa using hc)
  rwa [show p + 1 + i = p + (i + 1) from by omega]
theorem Bts.le {s : ByteArray} {p : Nat} {l : List UInt8} (h : Bts s p l) (hl : l ≠ []) : p + l.length ≤ s.size := by
  have hp : 0 < l.length := List.length_pos_iff.2 hl
  have := h (l.length - 1) _ (List.getElem?_eq_getElem (by omega))
  have h2 := ba_lt (s := s) (p := p + (l.length - 1)) (by omega)
  omega

theorem dec_digit : ∀ (k n : Nat), n < 10 ^ (k + 1) → ∀ (i : Nat) (b : UInt8), (dec n)[i]? = some b → 48 ≤ b.toNat ∧ b.toNat ≤ 57 := by
  have one : ∀ m, m ≤ 9 → 48 ≤ (UInt8.ofNat (48 + m)).toNat ∧ (UInt8.ofNat (48 + m)).toNat ≤ 57 := fun m hm => by
    have : (UInt8.ofNat (48 + m)).toNat = 48 + m := by simp; omega
    omega
  intro k
  induction k with
  | zero =>
    intro n h i b hb
    rw [dec_low (by simp at h; omega)] at hb
    have hi : i = 0 := by have := (List.getElem?_eq_some_iff.1 hb).1; simp at this; omega
    subst hi
    simp only [List.getElem?_cons_zero, Option.some.injEq] at hb
    subst hb
    exact one n (by simp at h; omega)
  | succ k ih =>
    intro n h i b hb
    rcases Nat.lt_or_ge 9 n with h9 | h9
    · rw [dec_high h9] at hb
      rcases Nat.lt_or_ge i (dec (n / 10)).length with hi | hi
      · rw [List.getElem?_append_left hi] at hb
        exact ih (n / 10) (by rw [Nat.pow_succ] at h; omega) i b hb
      · rw [List.getElem?_append_right hi] at hb
        have hi0 : i - (dec (n / 10)).length = 0 := by have := (List.getElem?_eq_some_iff.1 hb).1; simp at this; omega
        rw [hi0] at hb
        simp only [List.getElem?_cons_zero, Option.some.injEq] at hb
        subst hb
        exact one (n % 10) (by omega)
    · rw [dec_low h9] at hb
      have hi : i = 0 := by have := (List.getElem?_eq_some_iff.1 hb).1; simp at this; omega
      subst hi
      simp only [List.getElem?_cons_zero, Option.some.injEq] at hb
      subst hb
      exact one n h9
theorem dec_head : ∀ (k n : Nat), n < 10 ^ (k + 1) → 0 < n → ∃ b l, dec n = b :: l ∧ b.toNat ≠ 48
  | 0, n, h, h0 => ⟨_, [], dec_low (by simp at h; omega), by
    have : (UInt8.ofNat (48 + n)).toNat = 48 + n := by simp at h ⊢; omega
    omega⟩
  | k + 1, n, h, h0 => by
    rcases Nat.lt_or_ge 9 n with h9 | h9
    · obtain ⟨b, l, e, hb⟩ := dec_head k (n / 10) (by rw [Nat.pow_succ] at h; omega) (by omega)
      exact ⟨b, l ++ [UInt8.ofNat (48 + n % 10)], by rw [dec_high h9, e]; rfl, hb⟩
    · exact ⟨_, [], dec_low h9, by
        have : (UInt8.ofNat (48 + n)).toNat = 48 + n := by simp; omega
        omega⟩
theorem dec_val (s : ByteArray) (p : Nat) : ∀ (k n : Nat), n < 10 ^ (k + 1) → Bts s p (dec n) → val s p (dec n).length = n
  | 0, n, h, hb => by
    have hn : n ≤ 9 := by simp at h; omega
    rw [dec_low hn] at hb ⊢
    have := hb.head
    have e : (UInt8.ofNat (48 + n)).toNat = 48 + n := by simp; omega
    simp only [List.length_cons, List.length_nil, val, Nat.add_zero]
    rw [this, e]
    omega
  | k + 1, n, h, hb => by
    rcases Nat.lt_or_ge 9 n with h9 | h9
    · rw [dec_high h9] at hb ⊢
      have h1 := dec_val s p k (n / 10) (by rw [Nat.pow_succ] at h; omega) hb.left
      have h2 := hb.right.head
      have e : (UInt8.ofNat (48 + n % 10)).toNat = 48 + n % 10 := by simp; omega
      rw [List.length_append]
      simp only [List.length_cons, List.length_nil, val]
      rw [h1, h2, e]
      omega
    · rw [dec_low h9] at hb ⊢
      have := hb.head
      have e : (UInt8.ofNat (48 + n)).toNat = 48 + n := by simp; omega
      simp only [List.length_cons, List.length_nil, val, Nat.add_zero]
      rw [this, e]
      omega
theorem nd_eq (s : ByteArray) : ∀ (k p : Nat), (∀ i, i < k → dg s (p + i) = true) → dg s (p + k) = false → nd s p = k
  | 0, p, _, h => nd_no (by simpa using h)
  | k + 1, p, h, h2 => by
    rw [nd_yes (by simpa using h 0 (by omega)), nd_eq s k (p + 1) (fun i hi => by have := h (i + 1) (by omega); rwa [show p + 1 + i = p + (i + 1) from by omega]) (by rwa [show p + 1 + k = p + (k + 1) from by omega])]
theorem num_text {s : ByteArray} {p n : Nat} (hn : n < 10007) (hb : Bts s p (dec n)) (he : dg s (p + (dec n).length) = false) : num s p = some (n, p + (dec n).length) := by
  have h5 : n < 10 ^ (4 + 1) := by omega
  have hd : nd s p = (dec n).length := nd_eq s _ p (fun i hi => by
    have h1 := hb i _ (List.getElem?_eq_getElem hi)
    have h2 := dec_digit 4 n h5 i _ (List.getElem?_eq_getElem hi)
    unfold dg
    rw [decide_eq_true_eq, h1]
    omega) he
  have hv := dec_val s p 4 n h5 hb
  have hp := dec_pos n
  rw [num_some (by omega) (fun h48 => ?_) (by rw [hd, hv]; exact hn), hd, hv]
  rcases Nat.eq_zero_or_pos n with h0 | h0
  · rw [hd, h0, dec_low (by omega)]
    simp
  · obtain ⟨b, l, e, hb48⟩ := dec_head 4 n h5 h0
    rw [e] at hb
    have := hb.head
    omega

theorem text_head : ∀ (d : Nat) (t : T d), okT d t → ∃ b l, text d t = b :: l ∧ b.toNat ≠ 93
  | 0, n, h => by
    have hp := dec_pos (show Nat from n)
    obtain ⟨b, l, e⟩ := List.exists_cons_of_length_pos hp
    refine ⟨b, l, e, ?_⟩
    have := dec_digit 4 (show Nat from n) (by have : (show Nat from n) < 10007 := h; omega) 0 b (by rw [e]; rfl)
    omega
  | d + 1, ts, _ => ⟨91, _, rfl, by decide⟩
theorem more_text {s : ByteArray} {d : Nat} (he : ∀ (t : T d) (p : Nat), okT d t → Bts s p (text d t) → dg s (p + (text d t).length) = false → node s d p = some (t, p + (text d t).length)) :
    ∀ (l : List (T d)) (f p : Nat), (∀ t ∈ l, okT d t) → l.length < f → Bts s p (l.flatMap (fun x => 44 :: text d x) ++ [93]) → more s (node s d) f p = some (l, p + (l.flatMap (fun x => 44 :: text d x)).length + 1)
  | [], f, p, _, hf, hb => by
    obtain ⟨f', rfl⟩ : ∃ f', f = f' + 1 := ⟨f - 1, by simp at hf; omega⟩
    have : ba s p = 93 := hb.head
    rw [more, if_pos this]
    rfl
  | t :: l, f, p, hk, hf, hb => by
    obtain ⟨f', rfl⟩ : ∃ f', f = f' + 1 := ⟨f - 1, by simp at hf; omega⟩
    have hb' : Bts s p (44 :: (text d t ++ (l.flatMap (fun x => 44 :: text d x) ++ [93]))) := by simpa using hb
    have h44 : ba s p = 44 := hb'.head
    have hr := hb'.tail.right
    have hnd : dg s (p + 1 + (text d t).length) = false := by
      have hx : ba s (p + 1 + (text d t).length) = 44 ∨ ba s (p + 1 + (text d t).length) = 93 := by
        cases l with
        | nil => exact .inr hr.head
        | cons x l => exact .inl (by have h2 : Bts s (p + 1 + (text d t).length) (44 :: (text d x ++ l.flatMap (fun x => 44 :: text d x) ++ [93])) := by simpa using hr
                                     exact h2.head)
      unfold dg
      rw [decide_eq_false_iff_not]
      omega
    rw [more, if_neg (by omega), if_pos h44, he t (p + 1) (hk t (by simp)) hb'.tail.left hnd]
    simp only
    rw [more_text he l f' _ (fun x hx => hk x (by simp [hx])) (by simp at hf; omega) hr]
    simp only [List.flatMap_cons, List.length_append, List.length_cons, Option.some.injEq, Prod.mk.injEq, true_and]
    omega
theorem parts_text {s : ByteArray} {d : Nat} (he : ∀ (t : T d) (p : Nat), okT d t → Bts s p (text d t) → dg s (p + (text d t).length) = false → node s d p = some (t, p + (text d t).length)) :
    ∀ (L : List (T d)) (p : Nat), (∀ t ∈ L, okT d t) → Bts s p (91 :: (lst d L ++ [93])) → parts s (node s d) p = some (L, p + ((lst d L).length + 2))
  | [], p, _, hb => by
    have h2 : ba s (p + 1) = 93 := hb.tail.head
    have h1 : ba s p = 91 := hb.head
    rw [parts, if_pos h1, if_pos h2]
    rfl
  | t :: l, p, hk, hb => by
    have hb' : Bts s p (91 :: (text d t ++ (l.flatMap (fun x => 44 :: text d x) ++ [93]))) := by simpa [lst] using hb
    have hr := hb'.tail.right
    have hle := hr.le (by simp)
    obtain ⟨b, l0, eh, h93⟩ := text_head d t (hk t (by simp))
    have hh : ba s (p + 1) = (b.toNat : Int) := by
      have := hb'.tail.left
      rw [eh] at this
      exact this.head
    have hnd : dg s (p + 1 + (text d t).length) = false := by
      have hx : ba s (p + 1 + (text d t).length) = 44 ∨ ba s (p + 1 + (text d t).length) = 93 := by
        cases l with
        | nil => exact .inr hr.head
        | cons x l => exact .inl (by have h2 : Bts s (p + 1 + (text d t).length) (44 :: (text d x ++ l.flatMap (fun x => 44 :: text d x) ++ [93])) := by simpa using hr
                                     exact h2.head)
      unfold dg
      rw [decide_eq_false_iff_not]
      omega
    have hfl := flat_ge d l
    rw [List.length_append] at hle
    have h1 : ba s p = 91 := hb'.head
    rw [parts, if_pos h1, if_neg (by omega), he t (p + 1) (hk t (by simp)) hb'.tail.left hnd]
    simp only
    rw [more_text he l (s.size + 1) _ (fun x hx => hk x (by simp [hx])) (by omega) hr]
    simp only [lst, List.length_append, Option.some.injEq, Prod.mk.injEq, true_and]
    omega
theorem node_text (s : ByteArray) : ∀ (d : Nat) (t : T d) (p : Nat), okT d t → Bts s p (text d t) → dg s (p + (text d t).length) = false → node s d p = some (t, p + (text d t).length)
  | 0, n, p, h, hb, he => num_text h hb he
  | d + 1, ts, p, h, hb, _ => by
    have e : text (d + 1) ts = 91 :: (lst d ts ++ [93]) := text_succ d ts
    have el : (text (d + 1) ts).length = (lst d ts).length + 2 := by rw [e]; simp
    rw [e] at hb
    rw [el]
    exact parts_text (node_text s d) ts p h hb

theorem bts_all {s : ByteArray} {l : List UInt8} (h : s.data.toList = l) : Bts s 0 l := fun i b hb => by
  have hi := (List.getElem?_eq_some_iff.1 hb).1
  have hs : l.length = s.size := by rw [← h, Array.length_toList]; rfl
  rw [Nat.zero_add, ba_in (by omega)]
  congr 2
  have e : s.data.toList[i]? = some s.data[i] := by simp
  rw [h, hb] at e
  exact (Option.some.inj e).symm
theorem readN_of_text {s : ByteArray} {d : Nat} {t : T d} (h : s.data.toList = text d t) (hk : okT d t) : readN s d = some t := by
  have hs : (text d t).length = s.size := by rw [← h, Array.length_toList]; rfl
  have hn := node_text s d t 0 hk (bts_all h) (by
    unfold dg
    rw [decide_eq_false_iff_not, ba_out (by omega)]
    omega)
  rw [readN, hn]
  simp only
  rw [if_pos (by omega)]
theorem isArr_text {s : ByteArray} {d : Nat} {t : T d} (h : s.data.toList = text d t) (hk : okT d t) (hd : d ≤ 3) (hl : (text d t).length ≤ 400) : isArr s (d : Int) = true := by
  have hs : (text d t).length = s.size := by rw [← h, Array.length_toList]; rfl
  unfold isArr
  rw [decide_eq_true (by omega), Int.toNat_natCast, readN_of_text h hk]
  rfl
end

/- Fold -/
section

/-- All arrays of a level, out of the levels from it on. -/
def foldN : (d : Nat) → List (List Int) → List Int → List (T d)
  | 0, _, D => (D.map Int.toNat : List Nat)
  | _ + 1, [], _ => []
  | d + 1, L :: LL, D => cutBy L (foldN d LL D)

theorem foldN_len : ∀ (d c : Nat) (LL : List (List Int)) (D : List Int), LL.length = d → Fits c LL D → (foldN d LL D).length = c
  | 0, c, LL, D, h, hf => by
    obtain rfl := List.eq_nil_of_length_eq_zero h
    have := hf.1
    show (D.map Int.toNat).length = c
    simpa using this
  | d + 1, c, [], D, h, _ => by simp at h
  | d + 1, c, L :: LL, D, h, hf => by
    show (cutBy L (foldN d LL D)).length = c
    rw [cutBy_len]
    exact hf.1

theorem cutBy_at {α : Type} : ∀ {l : List Int} {xs : List α} {j : Nat} {z : Int}, l[j]? = some z → okN 400 l = true → (cutBy l xs)[j]? = some ((xs.drop (sumI (l.take j)).toNat).take z.toNat)
  | [], _, _, _, h, _ => by simp at h
  | y :: l, xs, 0, z, h, _ => by
    simp only [List.getElem?_cons_zero, Option.some.injEq] at h
    subst h
    simp [cutBy, sumI]
  | y :: l, xs, j + 1, z, h, hok => by
    simp only [okN, Bool.and_eq_true, decide_eq_true_eq] at hok
    have h1 := cutBy_at (l := l) (xs := xs.drop y.toNat) (j := j) (by simpa using h) hok.2
    have h2 := sumI_bound (okN_take hok.2 j)
    simp only [cutBy, List.getElem?_cons_succ, List.take_succ_cons, sumI]
    rw [h1, List.drop_drop]
    congr 3
    omega

/-- The part of a level at a place, of a layout in which nothing is wrong. -/
theorem foldN_at {d : Nat} {L : List Int} {LL : List (List Int)} {D : List Int} {j : Nat} {z : Int} (h : L[j]? = some z) (hok : okN 400 L = true) :
    (foldN (d + 1) (L :: LL) D)[j]? = some ((((foldN d LL D).drop (sumI (L.take j)).toNat).take z.toNat : List (T d))) := cutBy_at h hok

/-- The places of the levels from k on hang on that of k alone. -/
def Cons (LL : List (List Int)) (k : Nat) (at_ : List Int) : Prop := ∀ (i : Nat) (L : List Int), k ≤ i → LL[i]? = some L → ∃ j : Nat, at_[i]? = some (j : Int) ∧ at_[i + 1]? = some (sumI (L.take j))
theorem Cons.up {LL : List (List Int)} {k : Nat} {at_ : List Int} (h : Cons LL k at_) : Cons LL (k + 1) at_ := fun i L hi hL => h i L (by omega) hL
/-- A place set below: those from k on stay. -/
theorem Cons.set {LL : List (List Int)} {k i : Nat} {at_ : List Int} (h : Cons LL k at_) (hi : i < k) (z : Int) : Cons LL k (at_.set i z) := fun m L hm hL => by
  obtain ⟨j, h1, h2⟩ := h m L hm hL
  exact ⟨j, by rw [List.getElem?_set_ne (by omega)]; exact h1, by rw [List.getElem?_set_ne (by omega)]; exact h2⟩
/-- One level up: the next one's places stand where this one's leads. -/
theorem Cons.down {LL : List (List Int)} {k j : Nat} {at_ : List Int} {L : List Int} (h : Cons LL (k + 1) at_) (hL : LL[k]? = some L) (h0 : at_[k]? = some (j : Int)) (h1 : at_[k + 1]? = some (sumI (L.take j))) : Cons LL k at_ := fun i M hi hM => by
  by_cases e : i = k
  · subst e
    obtain rfl : L = M := Option.some.inj (hL.symm.trans hM)
    exact ⟨j, h0, h1⟩
  · exact h i M (by omega) hM

/-- How the places of a fold go on: those below k stay, k's is one more. -/
def Step (LL : List (List Int)) (k j : Nat) (a b : List Int) : Prop := b.length = a.length ∧ (∀ i, i < k → b[i]? = a[i]?) ∧ b[k]? = some ((j + 1 : Nat) : Int) ∧ Cons LL k b
end

/- LvText -/
section

/-- How long the texts of arrays are together. -/
def txs (d : Nat) : List (T d) → Nat
  | [] => 0
  | t :: ts => (text d t).length + txs d ts
theorem txs_append (d : Nat) : ∀ (a b : List (T d)), txs d (a ++ b) = txs d a + txs d b
  | [], b => by simp [txs]
  | t :: a, b => by simp [txs, txs_append d a b, Nat.add_assoc]
theorem txs_len (d : Nat) : ∀ (ts : List (T d)), ts.length ≤ txs d ts
  | [] => by simp
  | t :: ts => by
    have := text_pos d t
    have := txs_len d ts
    simp only [List.length_cons, txs]
    omega
theorem flat_txs (d : Nat) : ∀ (l : List (T d)), txs d l ≤ (l.flatMap (fun x => 44 :: text d x)).length
  | [] => by simp [txs]
  | x :: l => by
    have := flat_txs d l
    simp only [txs, List.flatMap_cons, List.length_append, List.length_cons]
    omega
theorem prt_txs (d : Nat) (t : T (d + 1)) : txs d (prt t) ≤ (text (d + 1) t).length := by
  have e : text (d + 1) t = 91 :: (lst d (prt t) ++ [93]) := text_succ d (prt t)
  rw [e]
  cases h : prt t with
  | nil => simp [txs]
  | cons x l =>
    have := flat_txs d l
    simp only [txs, lst, List.length_cons, List.length_append, List.length_nil]
    omega
theorem flatMap_txs (d : Nat) : ∀ (ts : List (T (d + 1))), txs d (ts.flatMap prt) ≤ txs (d + 1) ts
  | [] => by simp [txs]
  | t :: ts => by
    have h1 := prt_txs d t
    have h2 := flatMap_txs d ts
    rw [List.flatMap_cons, txs_append, txs]
    omega
theorem lv_txs : ∀ (d : Nat) (ts : List (T d)) (L : List Int), L ∈ lv d ts → L.length ≤ txs d ts
  | 0, _, L, h => by cases h
  | d + 1, ts, L, h => by
    rw [lv, List.mem_cons] at h
    rcases h with rfl | h
    · rw [List.length_map]; exact txs_len _ ts
    · exact Nat.le_trans (lv_txs d _ L h) (flatMap_txs d ts)
theorem dat_txs : ∀ (d : Nat) (ts : List (T d)), (dat d ts).length ≤ txs d ts
  | 0, ts => by
    have : (dat 0 ts).length = ts.length := List.length_map _
    rw [this]; exact txs_len _ ts
  | d + 1, ts => Nat.le_trans (dat_txs d _) (flatMap_txs d ts)

/-- Lists that are this short. -/
theorem lv_short {d : Nat} {t : T d} (h : (text d t).length ≤ 1000000) : Short (behind 0 (List.replicate d []) (lv d [t])) ∧ ([] ++ dat d [t]).length ≤ 1000000 := by
  have h1 : txs d [t] = (text d t).length := by simp [txs]
  have h2 := dat_txs d [t]
  refine ⟨fun i L hL => ?_, by simp only [List.nil_append]; omega⟩
  have e : behind 0 (List.replicate d []) (lv d [t]) = lv d [t] := by rw [behind, List.take_zero, List.nil_append, List.drop_zero, lv_zero_add]
  rw [e] at hL
  have := lv_txs d [t] L (List.mem_of_getElem? hL)
  omega
end

/- FoldU -/
section

theorem dec_len : ∀ (k n : Nat), n < 10 ^ (k + 1) → (dec n).length ≤ k + 1
  | 0, n, h => by
    rw [dec_low (by simp at h; omega)]
    simp
  | k + 1, n, h => by
    rcases Nat.lt_or_ge 9 n with h9 | h9
    · rw [dec_high h9, List.length_append]
      have := dec_len k (n / 10) (by rw [Nat.pow_succ] at h; omega)
      simp only [List.length_cons, List.length_nil]
      omega
    · rw [dec_low h9]
      simp
theorem lst_txs (d : Nat) : ∀ (ts : List (T d)), (lst d ts).length ≤ txs d ts + ts.length
  | [] => by simp [lst]
  | t :: ts => by
    have h : ∀ (l : List (T d)), (l.flatMap (fun x => 44 :: text d x)).length ≤ txs d l + l.length := by
      intro l
      induction l with
      | nil => simp
      | cons x l ih =>
        simp only [List.flatMap_cons, List.length_append, List.length_cons, txs] at ih ⊢
        omega
    have := h ts
    simp only [lst, List.length_append, List.length_cons, txs]
    omega
theorem txs_cut (d : Nat) : ∀ (l : List Int) (xs : List (T d)), txs (d + 1) (show List (T (d + 1)) from cutBy l xs) ≤ 2 * l.length + xs.length + txs d xs
  | [], xs => by simp [cutBy, txs]
  | z :: l, xs => by
    have h1 := txs_cut d l (xs.drop z.toNat)
    have h2 := lst_txs d (xs.take z.toNat)
    have e : txs d xs = txs d (xs.take z.toNat) + txs d (xs.drop z.toNat) := by rw [← txs_append, List.take_append_drop]
    have e2 : xs.length = (xs.take z.toNat).length + (xs.drop z.toNat).length := by rw [← List.length_append, List.take_append_drop]
    have e3 : txs (d + 1) (show List (T (d + 1)) from cutBy (z :: l) xs) = (text (d + 1) (show T (d + 1) from xs.take z.toNat)).length + txs (d + 1) (show List (T (d + 1)) from cutBy l (xs.drop z.toNat)) := rfl
    rw [e3, text_succ, List.length_cons, List.length_append, List.length_cons, List.length_nil, List.length_cons]
    omega
theorem txs_num : ∀ (D : List Int), okN 10006 D = true → txs 0 (show List (T 0) from (D.map Int.toNat : List Nat)) ≤ 5 * D.length
  | [], _ => by simp [txs]
  | z :: D, h => by
    simp only [okN, Bool.and_eq_true, decide_eq_true_eq] at h
    have h1 := txs_num D h.2
    have h2 := dec_len 4 z.toNat (by omega)
    have e3 : txs 0 (show List (T 0) from ((z :: D).map Int.toNat : List Nat)) = (dec z.toNat).length + txs 0 (show List (T 0) from (D.map Int.toNat : List Nat)) := rfl
    rw [e3, List.length_cons]
    omega
/-- How many numbers the levels have. -/
def cnt : List (List Int) → Nat
  | [] => 0
  | L :: LL => L.length + cnt LL
theorem txs_fold : ∀ (d c : Nat) (LL : List (List Int)) (D : List Int), LL.length = d → Fits c LL D → txs d (foldN d LL D) + (foldN d LL D).length ≤ 3 * cnt LL + 6 * D.length
  | 0, c, LL, D, h, hf => by
    obtain rfl := List.eq_nil_of_length_eq_zero h
    have h1 := txs_num D hf.2
    have e : foldN 0 [] D = (show List (T 0) from (D.map Int.toNat : List Nat)) := rfl
    have e2 : (show List (T 0) from (D.map Int.toNat : List Nat)).length = D.length := List.length_map _
    rw [e, e2]
    omega
  | d + 1, c, [], D, h, _ => by simp at h
  | d + 1, c, L :: LL, D, h, hf => by
    have h1 := txs_fold d _ LL D (by simpa using h) hf.2.2
    have h2 : txs (d + 1) (foldN (d + 1) (L :: LL) D) ≤ 2 * L.length + (foldN d LL D).length + txs d (foldN d LL D) := txs_cut d L (foldN d LL D)
    have e2 : (foldN (d + 1) (L :: LL) D).length = L.length := cutBy_len L _
    simp only [cnt]
    omega
theorem txs_mem (d : Nat) : ∀ {ts : List (T d)} {j : Nat} {t : T d}, ts[j]? = some t → (text d t).length ≤ txs d ts
  | [], _, _, h => by simp at h
  | x :: l, 0, t, h => by
    simp only [List.getElem?_cons_zero, Option.some.injEq] at h
    subst h
    simp only [txs]
    omega
  | x :: l, j + 1, t, h => by
    have := txs_mem d (ts := l) (j := j) (by simpa using h)
    simp only [txs]
    omega

/-- The text of the array of a layout, if nothing is wrong and it is not too long. -/
def foldText (LL : List (List Int)) (D : List Int) : Option (List UInt8) :=
  if wrong LL D = -1 then match (foldN LL.length LL D)[0]? with
    | some t => if (text LL.length t).length ≤ 400 then some (text LL.length t) else none
    | none => none
  else none
end

/- Fil -/
section

theorem okN_of {hi : Int} : ∀ {l : List Int}, (∀ z ∈ l, 0 ≤ z ∧ z ≤ hi) → okN hi l = true
  | [], _ => rfl
  | z :: l, h => by
    have h1 := h z (by simp)
    simp only [okN, Bool.and_eq_true, decide_eq_true_eq]
    exact ⟨h1, okN_of fun x hx => h x (by simp [hx])⟩
theorem okN_mem {hi : Int} {l : List Int} (h : okN hi l = true) {z : Int} (hz : z ∈ l) : 0 ≤ z ∧ z ≤ hi := by
  obtain ⟨j, hj⟩ := List.getElem?_of_mem hz
  exact okN_at hj h

/-- The product of a shape, 1 for none. -/
def prodI : List Int → Int
  | [] => 1
  | k :: sh => k * prodI sh
theorem prod_fold : ∀ (sh : List Int) (r : Int), sh.foldl (· * ·) r = r * prodI sh
  | [], r => by simp [prodI]
  | k :: sh, r => by rw [List.foldl_cons, prod_fold sh, prodI, Int.mul_assoc]
theorem prod_nn : ∀ {sh : List Int}, okN 400 sh = true → 0 ≤ prodI sh
  | [], _ => by simp [prodI]
  | k :: sh, h => by
    simp only [okN, Bool.and_eq_true, decide_eq_true_eq] at h
    exact Int.mul_nonneg h.1.1 (prod_nn h.2)
theorem prod_snoc (sh : List Int) (k : Int) : prodI (sh ++ [k]) = prodI sh * k := by
  have h1 := prod_fold (sh ++ [k]) 1
  have h2 := prod_fold sh 1
  rw [List.foldl_append, h2] at h1
  simp only [List.foldl_cons, List.foldl_nil, Int.one_mul] at h1
  exact h1.symm
/-- The product, or 401 if it is more: as the model keeps it. -/
theorem cap_step (a n : Int) (hn : 0 ≤ n) : min (min a 401 * n) 401 = min (a * n) 401 := by
  rcases Int.le_total a 401 with h | h
  · rw [Int.min_eq_left h]
  · rw [Int.min_eq_right h]
    rcases Int.le_total n 0 with h0 | h0
    · have : n = 0 := by omega
      subst this
      simp
    · by_cases hn0 : n = 0
      · subst hn0; simp
      · have h1 : 401 * 1 ≤ 401 * n := Int.mul_le_mul_of_nonneg_left (by omega) (by omega)
        have h2 : 401 * n ≤ a * n := Int.mul_le_mul_of_nonneg_right h hn
        rw [Int.min_eq_right (by omega), Int.min_eq_right (by omega)]
/-- The product of three lengths at most is no great number. -/
theorem prod_le : ∀ {sh : List Int}, okN 400 sh = true → prodI sh ≤ (400 : Int) ^ sh.length
  | [], _ => by simp [prodI]
  | k :: sh, h => by
    simp only [okN, Bool.and_eq_true, decide_eq_true_eq] at h
    have h1 := prod_le h.2
    have h2 := prod_nn h.2
    rw [prodI, List.length_cons, Int.pow_succ]
    have h3 : k * prodI sh ≤ 400 * prodI sh := Int.mul_le_mul_of_nonneg_right h.1.2 h2
    have h4 : 400 * prodI sh ≤ 400 * (400 : Int) ^ sh.length := Int.mul_le_mul_of_nonneg_left h1 (by omega)
    rw [Int.mul_comm ((400 : Int) ^ sh.length) 400]
    omega
theorem prod_le3 {sh : List Int} (h : okN 400 sh = true) (hl : sh.length ≤ 3) : prodI sh ≤ 64000000 := by
  have h1 := prod_le h
  have h2 : (400 : Int) ^ sh.length ≤ 64000000 := by
    obtain ⟨n, hn⟩ : ∃ n, sh.length = n := ⟨_, rfl⟩
    rw [hn] at hl ⊢
    match n, hl with
    | 0, _ => decide
    | 1, _ => decide
    | 2, _ => decide
    | 3, _ => decide
  omega

/-- The array of a shape with the first numbers of a list. -/
def fillT : (sh : List Int) → List Int → T sh.length
  | [], ns => (show Nat from (ns.headD 0).toNat)
  | k :: sh, ns => (show List (T sh.length) from (List.range k.toNat).map fun i => fillT sh (ns.drop (i * (prodI sh).toNat)))
theorem fillT_cons (k : Int) (sh : List Int) (ns : List Int) : prt (d := sh.length) (fillT (k :: sh) ns) = (List.range k.toNat).map fun i => fillT sh (ns.drop (i * (prodI sh).toNat)) := rfl
theorem fillT_take : ∀ (sh : List Int) (ns : List Int) (m : Nat), okN 400 sh = true → (prodI sh).toNat ≤ m → fillT sh (ns.take m) = fillT sh ns
  | [], ns, m, _, hm => by
    have hm1 : 1 ≤ m := hm
    cases ns with
    | nil => simp
    | cons z l =>
      obtain ⟨k, rfl⟩ : ∃ k, m = k + 1 := ⟨m - 1, by omega⟩
      rfl
  | k :: sh, ns, m, h, hm => by
    simp only [okN, Bool.and_eq_true, decide_eq_true_eq] at h
    have hp := prod_nn h.2
    show (List.range k.toNat).map (fun i => fillT sh ((ns.take m).drop (i * (prodI sh).toNat))) = (List.range k.toNat).map (fun i => fillT sh (ns.drop (i * (prodI sh).toNat)))
    refine List.map_congr_left fun i hi => ?_
    have hik : i < k.toNat := List.mem_range.1 hi
    rw [List.drop_take]
    refine fillT_take sh _ _ h.2 ?_
    have e : (prodI (k :: sh)).toNat = k.toNat * (prodI sh).toNat := by rw [prodI, Int.toNat_mul h.1.1 hp]
    rw [e] at hm
    have h1 : (i + 1) * (prodI sh).toNat ≤ k.toNat * (prodI sh).toNat := Nat.mul_le_mul_right _ hik
    rw [Nat.add_mul, Nat.one_mul] at h1
    omega
theorem fillT_ok : ∀ (sh : List Int) (ns : List Int), okN 10006 ns = true → okT sh.length (fillT sh ns)
  | [], ns, h => by
    show (show Nat from (ns.headD 0).toNat) < 10007
    cases ns with
    | nil => show (0 : Nat) < 10007; omega
    | cons z l =>
      simp only [okN, Bool.and_eq_true, decide_eq_true_eq] at h
      show z.toNat < 10007
      omega
  | k :: sh, ns, h => by
    show ∀ t ∈ (List.range k.toNat).map (fun i => fillT sh (ns.drop (i * (prodI sh).toNat))), okT sh.length t
    intro t ht
    obtain ⟨i, _, rfl⟩ := List.mem_map.1 ht
    exact fillT_ok sh _ (okN_drop h _)

/-- No text of so many levels is longer. -/
def tbF : Nat → Nat
  | 0 => 5
  | d + 1 => 2 + 400 * (tbF d + 1)
theorem flat_le (d b : Nat) : ∀ (l : List (T d)), (∀ t ∈ l, (text d t).length ≤ b) → (l.flatMap (fun x => 44 :: text d x)).length ≤ l.length * (b + 1)
  | [], _ => by simp
  | t :: l, h => by
    have h1 := h t (by simp)
    have h2 := flat_le d b l (fun x hx => h x (by simp [hx]))
    simp only [List.flatMap_cons, List.length_append, List.length_cons, Nat.add_mul, Nat.one_mul] at h2 ⊢
    omega
theorem lst_flat (d : Nat) : ∀ (l : List (T d)), (lst d l).length ≤ (l.flatMap (fun x => 44 :: text d x)).length
  | [] => by simp [lst]
  | t :: l => by simp only [lst, List.flatMap_cons, List.length_append, List.length_cons]; omega
theorem text_fillT : ∀ (sh ns : List Int), okN 400 sh = true → okN 10006 ns = true → (text sh.length (fillT sh ns)).length ≤ tbF sh.length
  | [], ns, _, h => by
    have hz : (ns.headD 0).toNat < 10 ^ (4 + 1) := by
      cases ns with
      | nil => decide
      | cons z l =>
        simp only [okN, Bool.and_eq_true, decide_eq_true_eq] at h
        show z.toNat < 100000
        omega
    exact dec_len 4 _ hz
  | k :: sh, ns, h, hn => by
    simp only [okN, Bool.and_eq_true, decide_eq_true_eq] at h
    have e : text (k :: sh).length (fillT (k :: sh) ns) = 91 :: (lst sh.length ((List.range k.toNat).map fun i => fillT sh (ns.drop (i * (prodI sh).toNat))) ++ [93]) := text_succ sh.length _
    have h1 := lst_flat sh.length ((List.range k.toNat).map fun i => fillT sh (ns.drop (i * (prodI sh).toNat)))
    have h2 := flat_le sh.length (tbF sh.length) ((List.range k.toNat).map fun i => fillT sh (ns.drop (i * (prodI sh).toNat))) (fun t ht => by
      obtain ⟨i, _, rfl⟩ := List.mem_map.1 ht
      exact text_fillT sh _ h.2 (okN_drop hn _))
    rw [List.length_map, List.length_range] at h2
    have h3 : k.toNat * (tbF sh.length + 1) ≤ 400 * (tbF sh.length + 1) := Nat.mul_le_mul_right _ (by omega)
    have h4 := Nat.le_trans h1 (Nat.le_trans h2 h3)
    clear h1 h2 h3
    rw [e]
    show (91 :: (lst sh.length _ ++ [93])).length ≤ 2 + 400 * (tbF sh.length + 1)
    generalize 400 * (tbF sh.length + 1) = q at h4 ⊢
    rw [List.length_cons, List.length_append]
    have h5 : ([93] : List UInt8).length = 1 := rfl
    omega
theorem text_fill {sh ns : List Int} (hok : okN 400 sh = true) (hn : okN 10006 ns = true) (hl : sh.length ≤ 3) : (text sh.length (fillT sh ns)).length ≤ 1000000000 := by
  have h := text_fillT sh ns hok hn
  obtain ⟨n, hnn⟩ : ∃ n, sh.length = n := ⟨_, rfl⟩
  have h2 : tbF sh.length ≤ 1000000000 := by
    rw [hnn] at hl ⊢
    match n, hl with
    | 0, _ => decide
    | 1, _ => decide
    | 2, _ => decide
    | 3, _ => decide
  omega

/-- Are these a shape and its numbers? -/
def fillB (sh ns : List Int) : Bool := decide (sh.length ≤ 3) && okN 400 sh && (decide (ns.length ≤ 400) && okN 10006 ns) && decide (prodI sh = ns.length)
/-- The text of the filled array, nothing where there is none. -/
def fillX (sh ns : List Int) : Option (List UInt8) := if fillB sh ns = true ∧ (text sh.length (fillT sh ns)).length ≤ 400 then some (text sh.length (fillT sh ns)) else none
end

/- FillP -/
section
open Go.RowKit Go.Shelf

set_option maxRecDepth 100000 in
theorem tail_run (b off n c : Nat) (h1 : 1 ≤ n) (h2 : n ≤ c) : ∃ A', (∀ u, (Instr.slice 22 (.slice (some ⟨b, off, none⟩) n c) (some (.int .i64 1)) none none).run Tryd.prog u = .ok (.slice A' (n - 1) (c - 1)) u) ∧ Sl A' (n - 1) (c - 1) ∧
    ∀ u L, L.length = n → Ints u (some ⟨b, off, none⟩) L → Ints u A' (L.drop 1) := by
  have hs : ∀ u, (sizeOf (Tryd.prog.elem 22)).run Tryd.prog u = .ok 1 u := fun u => by kernel_rfl
  refine ⟨if c = 1 then some ⟨b, off, none⟩ else some ⟨b, off + 1, none⟩, fun u => ?_, ⟨by omega, .inr ?_⟩, fun u L hL hI => ?_⟩
  · rw [run_slice_l u 22 (some ⟨b, off, none⟩) n c Tryd.underlying22 .i64 1 (by omega) (by omega), hs]
    by_cases hc : c = 1
    · simp [Result.andThen, sliced, hc]
    · simp [Result.andThen, sliced, hc, Addr.add]
  · by_cases hc : c = 1
    · rw [if_pos hc]; exact ⟨_, _, rfl⟩
    · rw [if_neg hc]; exact ⟨_, _, rfl⟩
  · by_cases hc : c = 1
    · intro hl
      rw [List.length_drop, hL] at hl
      omega
    · rw [if_neg hc]
      exact ints_drop hI

set_option maxHeartbeats 400000 in
theorem prod1_any (a b : Int) (u : World) (h0 : 0 ≤ a * b) (h1 : a * b ≤ 64000000) : Calls Tryd.prog 70 #[.int .i64 a, .int .i64 b] u fun e u' => e = .returned (.int .i64 (a * b)) ∧ u = u' := by
  have hw : IntKind.i64.wrap (a * b) = a * b := IntWalk.i64_in _ (by omega)
  go_enter Tryd.func70, Tryd.ntmps70
  go_wp2_with fail
  go_ret
  exact ⟨rfl, rfl⟩

set_option maxHeartbeats 400000 in
theorem foldprod_any (A : Option Addr) (c : Nat) (zs : List Int) (w : World) (h : Ints w A zs) (hok : okN 400 zs = true) (hl : zs.length ≤ 3) :
    Calls Tryd.prog 69 #[.slice A zs.length c, .int .i64 1, .func (.func 70) #[] #[]] w fun e w' => e = .returned (.int .i64 (prodI zs)) ∧ w = w' := by
  have HS := Lib.hid h
  have HOK := Lib.hid hok
  obtain ⟨n, hnn⟩ : ∃ n, zs.length = n := ⟨_, rfl⟩
  have HN := Lib.hid hnn
  rw [hnn] at hl ⊢
  clear h hnn hok
  go_enter Tryd.func69, Tryd.ntmps69
  go_wp2_with fail
  go_loop [1, 11] (fun u i => ∃ (j : Nat) (x : Int), j ≤ n ∧ i = .int .i64 j ∧ u = .int .i64 x ∧ Hid (x = prodI (zs.take j))) (fun _ i => n - (intOf i).toNat)
  case atStart => exact ⟨0, 1, Nat.zero_le _, rfl, rfl, Lib.hid rfl⟩
  case round =>
    obtain ⟨j, x, hj, rfl, rfl, hx⟩ := hrel
    by_cases hlt : j < n
    · obtain ⟨z, hz⟩ : ∃ z, zs[j]? = some z := ⟨_, List.getElem?_eq_getElem (by have := HN.out; omega)⟩
      obtain ⟨b, off, rfl, _, hc⟩ := HS.out (by have := HN.out; omega)
      have hcell := hc j z hz
      have hst : prodI (zs.take (j + 1)) = x * z := by rw [List.take_add_one, hz, hx.out]; exact prod_snoc _ _
      have hb1 := prod_nn (okN_take HOK.out (j + 1))
      have hb2 := prod_le3 (okN_take HOK.out (j + 1)) (by have := HN.out; rw [List.length_take]; omega)
      rw [hst] at hb1 hb2
      have HST := Lib.hid hst
      have HCC := Lib.hid (prod1_any x z w hb1 hb2)
      have heg := enters_of Tryd.func70 (by kernel_rfl) rfl
      clear hc hz hst hb1 hb2
      go_wp2_with fail
      refine HCC.out.mono ?_
      rintro e w1 ⟨rfl, rfl⟩
      go_wp2_with fail
      go_round
      case rel => exact ⟨j + 1, x * z, by omega, by go_num, rfl, Lib.hid HST.out.symm⟩
      case measure => simp [intOf]; omega
    · have hjn : j = n := by omega
      have HJ := Lib.hid hjn
      clear hjn
      go_wp2_with fail
      go_ret
      refine ⟨?_, rfl⟩
      rw [hx.out, HJ.out, ← HN.out, List.take_length]
      rfl

set_option maxHeartbeats 400000 in
theorem prodof_any (A : Option Addr) (c : Nat) (zs : List Int) (w : World) (h : Ints w A zs) (hok : okN 400 zs = true) (hl : zs.length ≤ 3) :
    Calls Tryd.prog 37 #[.slice A zs.length c] w fun e w' => e = .returned (.int .i64 (prodI zs)) ∧ w = w' := by
  have H := Lib.hid (foldprod_any A c zs w h hok hl)
  generalize zs.length = n at H ⊢
  clear h hok hl
  go_enter Tryd.func37, Tryd.ntmps37
  go_wp2_with fail
  refine H.out.mono ?_
  rintro e w1 ⟨rfl, rfl⟩
  go_wp2_with fail
  go_ret
  exact ⟨rfl, rfl⟩
end

/- ValidI -/
section
open Go.RowKit

theorem valid_impl (s : ByteArray) (n : Int) (w : World) :
    Calls Tryd.prog 106 #[.string s, .int .i64 n] w fun e w' => e = .returned (.bool (isArr s n)) ∧ w.grownBy w' none := by
  by_cases h : 0 ≤ n ∧ n ≤ 3 ∧ s.size ≤ 400
  · have HC := Lib.hid (nest_in n n.toNat s w (by omega) h.1 h.2.1 h.2.2)
    cases hr : readN s n.toNat with
    | none =>
      have hv : isArr s n = false := by unfold isArr; rw [hr]; simp
      rw [hv]
      have HR := Lib.hid hr
      clear h hv hr
      go_enter Tryd.func106, Tryd.ntmps106
      go_wp2_with fail
      refine HC.out.mono ?_
      intro e w1 hp
      unfold NestPost at hp
      rw [HR.out] at hp
      obtain ⟨rfl, hg⟩ := hp
      have HG := Lib.hid hg
      clear hg
      go_wp2_with fail
      go_ret
      exact ⟨rfl, HG.out⟩
    | some t =>
      have hv : isArr s n = true := by unfold isArr; rw [hr]; simp; omega
      rw [hv]
      have HR := Lib.hid hr
      clear h hv hr
      go_enter Tryd.func106, Tryd.ntmps106
      go_wp2_with fail
      refine HC.out.mono ?_
      intro e w1 hp
      unfold NestPost at hp
      rw [HR.out] at hp
      obtain ⟨v, rfl, hg, ha⟩ := hp
      obtain ⟨ty, pv, rfl⟩ := ha.iface
      have HG := Lib.hid hg
      clear hg ha
      go_wp2_with fail
      go_ret
      exact ⟨rfl, HG.out⟩
  · have HC := Lib.hid (nest_out n s w (by omega))
    have hv : isArr s n = false := by unfold isArr; simp [h]
    rw [hv]
    clear h hv
    go_enter Tryd.func106, Tryd.ntmps106
    go_wp2_with fail
    refine HC.out.mono ?_
    rintro e w1 ⟨rfl, hg⟩
    have HG := Lib.hid hg
    clear hg
    go_wp2_with fail
    go_ret
    exact ⟨rfl, HG.out⟩
end

end Go.Proofs.YtachjodnhgmoiaaDoor

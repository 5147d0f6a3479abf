/- Plain facts on terms: the text of a term; the term that stands at a place has just the bytes that stand there; and its text is read back. Nothing of the program. -/
import Derived.Test.YtboddoaekcchpaaGreatTm
import Derived.Test.YtboddoaekcchpaaGreatText
namespace Go.Proofs.YtboddoaekcchpaaGreat

def byt (c : Int) : UInt8 := UInt8.ofNat c.toNat

/-- The text of a term. -/
def Tm.txt : Tm → List UInt8
  | .dig c => [byt c]
  | .var c => [byt c]
  | .pre c s => byt c :: s.txt
  | .two c s t => 40 :: (s.txt ++ (byt c :: (t.txt ++ [41])))
  | .loop c v s t => byt c :: byt v :: 58 :: (s.txt ++ (62 :: (t.txt ++ [byt (c + 2)])))

theorem sub_len (s : ByteArray) {p q : Nat} (h : q ≤ s.size) : (sub s p q).length = q - p := by
  unfold sub
  rw [List.length_take, List.length_drop]
  have : s.data.toList.length = s.size := by simp
  omega
theorem sub_byt (s : ByteArray) {p : Nat} {c : Int} (h : ba s p = c) (h0 : 0 ≤ c) : sub s p (p + 1) = [byt c] := by
  have hc : c ≤ 255 := by rw [← h]; exact ba_hi s p
  exact sub_byte s (c := c.toNat) (by omega) (by omega)
theorem sub_cons (s : ByteArray) {p r : Nat} {c : Int} (h : ba s p = c) (h0 : 0 ≤ c) (hr : p + 1 ≤ r) : sub s p r = byt c :: sub s (p + 1) r := by
  rw [sub_join s (q := p + 1) (by omega) hr, sub_byt s h h0]; rfl

/-- What stands between the place and the end is the term's text. -/
theorem tm_txt (s : ByteArray) : ∀ (f p : Nat) (t : Tm) (q : Nat), tm s f p = some (t, q) → sub s p q = t.txt
  | 0, p, t, q, h => by simp [tm] at h
  | f + 1, p, t, q, h => by
    by_cases h1 : isD (ba s p) = true
    · rw [tm_dig h1] at h
      simp only [Option.some.injEq, Prod.mk.injEq] at h
      obtain ⟨rfl, rfl⟩ := h
      exact sub_byt s rfl (by have := isD_ge h1; omega)
    by_cases h2 : isV (ba s p) = true
    · rw [tm_var h2] at h
      simp only [Option.some.injEq, Prod.mk.injEq] at h
      obtain ⟨rfl, rfl⟩ := h
      exact sub_byt s rfl (by have := isV_ge h2; omega)
    by_cases h3 : isP (ba s p) = true
    · cases hx : tm s f (p + 1) with
      | none => rw [tm_pre_n h3 hx] at h; cases h
      | some r =>
        obtain ⟨x, q1⟩ := r
        rw [tm_pre_s h3 hx] at h
        simp only [Option.some.injEq, Prod.mk.injEq] at h
        obtain ⟨rfl, rfl⟩ := h
        have g := tm_ge s f _ _ _ hx
        rw [sub_cons s rfl (by have := isP_ge h3; omega) (by omega), tm_txt s f _ _ _ hx]
        rfl
    by_cases h4 : ba s p = 40
    · cases hx : tm s f (p + 1) with
      | none => rw [tm_two_n1 h4 hx] at h; cases h
      | some r =>
        obtain ⟨x, q1⟩ := r
        have g1 := tm_ge s f _ _ _ hx
        by_cases h5 : isB (ba s q1) = true
        · cases hy : tm s f (q1 + 1) with
          | none => rw [tm_two_n3 h4 hx h5 hy] at h; cases h
          | some r2 =>
            obtain ⟨y, q2⟩ := r2
            have g2 := tm_ge s f _ _ _ hy
            by_cases h6 : ba s q2 = 41
            · rw [tm_two_s h4 hx h5 hy h6] at h
              simp only [Option.some.injEq, Prod.mk.injEq] at h
              obtain ⟨rfl, rfl⟩ := h
              rw [sub_cons s h4 (by omega) (by omega), sub_join s (q := q1) (by omega) (by omega), tm_txt s f _ _ _ hx,
                sub_cons s rfl (by have := isB_ge h5; omega) (by omega), sub_join s (p := q1 + 1) (q := q2) (by omega) (by omega), tm_txt s f _ _ _ hy, sub_byt s h6 (by omega)]
              rfl
            · rw [tm_two_n4 h4 hx h5 hy h6] at h; cases h
        · rw [tm_two_n2 h4 hx (by simpa using h5)] at h; cases h
    by_cases h5 : ba s p = 91 ∨ ba s p = 123
    · by_cases h6 : isL (ba s (p + 1)) = true ∧ ba s (p + 2) = 58
      · cases hx : tm s f (p + 3) with
        | none => rw [tm_loop_n1 h5 hx] at h; cases h
        | some r =>
          obtain ⟨x, q1⟩ := r
          have g1 := tm_ge s f _ _ _ hx
          by_cases h7 : ba s q1 = 62
          · cases hy : tm s f (q1 + 1) with
            | none => rw [tm_loop_n3 h5 hx hy] at h; cases h
            | some r2 =>
              obtain ⟨y, q2⟩ := r2
              have g2 := tm_ge s f _ _ _ hy
              by_cases h8 : ba s q2 = ba s p + 2
              · rw [tm_loop_s h5 h6.1 h6.2 hx h7 hy h8] at h
                simp only [Option.some.injEq, Prod.mk.injEq] at h
                obtain ⟨rfl, rfl⟩ := h
                have hl := isL_ge h6.1
                rw [sub_cons s rfl (by omega) (by omega), sub_cons s (p := p + 1) rfl (by omega) (by omega), sub_cons s (p := p + 1 + 1) h6.2 (by omega) (by omega), sub_join s (q := q1) (by omega) (by omega), tm_txt s f _ _ _ hx,
                  sub_cons s h7 (by omega) (by omega), sub_join s (p := q1 + 1) (q := q2) (by omega) (by omega), tm_txt s f _ _ _ hy, sub_byt s h8 (by omega)]
                rfl
              · rw [tm_loop_n4 h5 hx hy h8] at h; cases h
          · rw [tm_loop_n2 h5 hx h7] at h; cases h
      · rw [tm_loop_n0 h5 h6] at h; cases h
    · rw [tm_none (by simpa using h1) (by simpa using h2) (by simpa using h3) h4 (by omega) (by omega)] at h; cases h

theorem readT_txt {s : ByteArray} {t : Tm} (h : readT s = some t) : s.data.toList = t.txt := by
  have := readT_some h
  rw [← sub_all]
  exact tm_txt s _ _ _ _ this.2.1
theorem readT_len {s : ByteArray} {t : Tm} (h : readT s = some t) : t.txt.length = s.size := by
  rw [← readT_txt h]; simp

/-- Some bytes stand at a place. -/
def At (s : ByteArray) (p : Nat) (l : List UInt8) : Prop := ∃ a b, s.data.toList = a ++ (l ++ b) ∧ a.length = p
theorem At.cons {s : ByteArray} {p : Nat} {c : UInt8} {l : List UInt8} (h : At s p (c :: l)) : ba s p = (c.toNat : Int) ∧ At s (p + 1) l := by
  obtain ⟨a, b, h1, h2⟩ := h
  have hl : s.data.toList.length = s.size := by simp
  have hp : p < s.size := by rw [← hl, h1]; simp; omega
  constructor
  · rw [ba_in hp]
    have h3 : s.data.toList[p]? = some c := by rw [h1, List.getElem?_append_right (by omega)]; simp [h2]
    have h4 : s.data.toList[p]? = some s[p] := by
      rw [List.getElem?_eq_getElem (by omega)]; simp; rfl
    rw [h3] at h4
    simp only [Option.some.injEq] at h4
    rw [h4]
  · exact ⟨a ++ [c], b, by simp [h1], by simp [h2]⟩
theorem At.app {s : ByteArray} {p : Nat} {l m : List UInt8} (h : At s p (l ++ m)) : At s p l ∧ At s (p + l.length) m := by
  obtain ⟨a, b, h1, h2⟩ := h
  exact ⟨⟨a, m ++ b, by simp [h1], h2⟩, ⟨a ++ l, b, by simp [h1], by simp [h2]⟩⟩

theorem byt_back {c : Int} (h0 : 0 ≤ c) (h1 : c ≤ 255) : ((byt c).toNat : Int) = c := by
  unfold byt
  have h : (UInt8.ofNat c.toNat).toNat = c.toNat := by simp; omega
  rw [h]
  omega

/-- A term's text is read back, wherever it stands. -/
theorem tm_back (s : ByteArray) : ∀ (t : Tm) (f p : Nat), t.Ok → t.size < f → At s p t.txt → tm s f p = some (t, p + t.txt.length)
  | _, 0, _, _, hf, _ => by omega
  | .dig c, f + 1, p, ho, hf, ha => by
    have g := isD_ge ho
    have e := ha.cons.1
    rw [byt_back (by omega) (by omega)] at e
    rw [tm_dig (by rw [e]; exact ho), e]; rfl
  | .var c, f + 1, p, ho, hf, ha => by
    have g := isV_ge ho
    have e := ha.cons.1
    rw [byt_back (by omega) (by omega)] at e
    rw [tm_var (by rw [e]; exact ho), e]; rfl
  | .pre c s', f + 1, p, ho, hf, ha => by
    have g := isP_ge ho.1
    have e := ha.cons.1
    rw [byt_back (by omega) (by omega)] at e
    have ih := tm_back s s' f (p + 1) ho.2 (by simp only [Tm.size] at hf; omega) ha.cons.2
    rw [tm_pre_s (by rw [e]; exact ho.1) ih, e]
    simp only [Tm.txt, List.length_cons, Option.some.injEq, Prod.mk.injEq, true_and]; omega
  | .two c x y, f + 1, p, ho, hf, ha => by
    have g := isB_ge ho.1
    simp only [Tm.size] at hf
    obtain ⟨e0, a1⟩ := ha.cons
    obtain ⟨a2, a3⟩ := a1.app
    obtain ⟨e1, a4⟩ := a3.cons
    obtain ⟨a5, a6⟩ := a4.app
    have e2 := a6.cons.1
    rw [byt_back (by omega) (by omega)] at e1
    have i1 := tm_back s x f (p + 1) ho.2.1 (by omega) a2
    have i2 := tm_back s y f (p + 1 + x.txt.length + 1) ho.2.2 (by omega) a5
    rw [tm_two_s (by rw [e0]; rfl) i1 (by rw [e1]; exact ho.1) i2 (by rw [e2]; rfl), e1]
    simp only [Tm.txt, List.length_cons, List.length_append, List.length_nil, Option.some.injEq, Prod.mk.injEq, true_and]; omega
  | .loop c v x y, f + 1, p, ho, hf, ha => by
    have g := isL_ge ho.2.1
    have gc := ho.1
    simp only [Tm.size] at hf
    obtain ⟨e0, a0⟩ := ha.cons
    obtain ⟨e1, a1⟩ := a0.cons
    obtain ⟨e2, a2⟩ := a1.cons
    obtain ⟨a3, a4⟩ := a2.app
    obtain ⟨e3, a5⟩ := a4.cons
    obtain ⟨a6, a7⟩ := a5.app
    have e4 := a7.cons.1
    rw [byt_back (by omega) (by omega)] at e0 e1 e4
    have i1 := tm_back s x f (p + 3) ho.2.2.1 (by omega) a3
    have i2 := tm_back s y f (p + 1 + 1 + 1 + x.txt.length + 1) ho.2.2.2 (by omega) a6
    rw [tm_loop_s (by rw [e0]; exact gc) (by rw [e1]; exact ho.2.1) (by rw [show p + 2 = p + 1 + 1 from rfl, e2]; rfl) i1 (by rw [show p + 3 = p + 1 + 1 + 1 from rfl, e3]; rfl) i2 (by rw [e4, e0]), e0, e1]
    simp only [Tm.txt, List.length_cons, List.length_append, List.length_nil, Option.some.injEq, Prod.mk.injEq, true_and]; omega

theorem Tm.size_txt : ∀ t : Tm, t.size ≤ t.txt.length
  | .dig _ => Nat.le_refl _
  | .var _ => Nat.le_refl _
  | .pre _ s => by have := s.size_txt; simp only [Tm.size, Tm.txt, List.length_cons]; omega
  | .two _ s t => by have := s.size_txt; have := t.size_txt; simp only [Tm.size, Tm.txt, List.length_cons, List.length_append]; omega
  | .loop _ _ s t => by have := s.size_txt; have := t.size_txt; simp only [Tm.size, Tm.txt, List.length_cons, List.length_append]; omega

/-- The text of a term that is not too long is read as the term. -/
theorem readT_back {s : ByteArray} {t : Tm} (ho : t.Ok) (hs : s.data.toList = t.txt) (hl : s.size ≤ 80) : readT s = some t := by
  have hz : t.txt.length = s.size := by rw [← hs]; simp
  have h := tm_back s t (s.size + 1) 0 ho (by have := t.size_txt; omega) ⟨[], [], by simp [hs], rfl⟩
  unfold readT
  rw [h, hz]
  simp [hl]
theorem readT_long {s : ByteArray} (hl : 80 < s.size) : readT s = none := by
  unfold readT
  split
  · rfl
  · rw [if_neg (by omega)]
theorem Tm.kids_ok {t k : Tm} (ho : t.Ok) (h : k ∈ t.kids) : k.Ok ∧ k.txt.length ≤ t.txt.length := by
  cases t with
  | dig c => simp [Tm.kids] at h
  | var c => simp [Tm.kids] at h
  | pre c s => simp [Tm.kids] at h; subst h; exact ⟨ho.2, by simp [Tm.txt]⟩
  | two c s t =>
    simp [Tm.kids] at h
    rcases h with rfl | rfl
    · exact ⟨ho.2.1, by simp [Tm.txt]; omega⟩
    · exact ⟨ho.2.2, by simp [Tm.txt]; omega⟩
  | loop c v s t =>
    simp [Tm.kids] at h
    rcases h with rfl | rfl
    · exact ⟨ho.2.2.1, by simp [Tm.txt]; omega⟩
    · exact ⟨ho.2.2.2, by simp [Tm.txt]; omega⟩

end Go.Proofs.YtboddoaekcchpaaGreat

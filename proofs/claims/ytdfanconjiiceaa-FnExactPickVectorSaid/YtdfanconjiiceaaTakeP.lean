/- What takePart of the program does with arrays that lie one behind another: the first one is cut off, the others are left. -/
import Derived.Test.YtdfanconjiiceaaPart0
import Derived.Test.YtdfanconjiiceaaPartT
namespace Go.Proofs.Ytdfanconjiiceaa
open Go.RowKit

theorem lv_fit : ∀ (d c : Nat) (ts : List (T d)), c ≤ ts.length → ∀ (j : Nat) (L : List Int), (lv d ts)[j]? = some L → cntE c ((lv d ts).take j) ≤ L.length
  | 0, _, _, _, _, _, h => by simp [lv] at h
  | d + 1, c, ts, hc, 0, L, h => by
    simp only [lv, List.getElem?_cons_zero, Option.some.injEq] at h
    subst h
    simpa [cntE] using hc
  | d + 1, c, ts, hc, j + 1, L, h => by
    simp only [lv, List.getElem?_cons_succ] at h
    have hs : (sumI ((ts.map fun t => ((prt t).length : Int)).take c)).toNat = ((ts.take c).flatMap prt).length := by
      rw [← List.map_take, ← flat_len]
      omega
    have hle : ((ts.take c).flatMap prt).length ≤ (ts.flatMap prt).length := by
      have e : ts.flatMap prt = (ts.take c).flatMap prt ++ (ts.drop c).flatMap prt := by rw [← List.flatMap_append, List.take_append_drop]
      rw [e, List.length_append]
      omega
    have := lv_fit d _ (ts.flatMap prt) hle j L h
    simp only [lv, List.take_succ_cons, cntE, hs]
    exact this
/-- Levels in bounds. -/
def OkL (LL : List (List Int)) : Prop := ∀ (j : Nat) (L : List Int), LL[j]? = some L → okN 400 L = true ∧ L.length ≤ 1048576
theorem okl_tail {d : Nat} {t : T d} {ts : List (T d)} (h : OkL (lv d (t :: ts))) : OkL (lv d ts) := fun j L hL => by
  have h2 := (cut_arr d 1 (t :: ts) (by simp)).2.1
  simp only [List.drop_succ_cons, List.drop_zero] at h2
  have hj : j < (lv d (t :: ts)).length := by rw [lv_len]; have := (List.getElem?_eq_some_iff.1 hL).1; rw [lv_len] at this; exact this
  obtain ⟨M, hM⟩ : ∃ M, (lv d (t :: ts))[j]? = some M := ⟨_, List.getElem?_eq_getElem hj⟩
  have h3 := cutR_at _ 1 j M hM
  rw [h2, hL] at h3
  simp only [Option.some.injEq] at h3
  obtain ⟨h4, h5⟩ := h j M hM
  subst h3
  exact ⟨okN_drop h4 _, by rw [List.length_drop]; omega⟩

/-- The rest: its box, and the row of its levels. -/
def RestSt (B gr gR d : Nat) (ts : List (T d)) (w : World) : Prop :=
  ∃ Bd cB R cR us, Pr w gr 70 (.slice Bd (dat d ts).length cB) (.slice R d cR) ∧ (d = 0 ∨ R = some ⟨gR, 0, none⟩) ∧ w.ownsRow B 23 1 (.slice R d cR) d us ∧
    (∀ (i : Nat) (L : List Int), (lv d ts)[i]? = some L → ∃ v, us[i]? = some v ∧ SlB B w v L) ∧ SlB B w (.slice Bd (dat d ts).length cB) (dat d ts)
/-- An array that was cut off. -/
def ArF (base B d : Nat) (t : T d) (w : World) (x y : Value) : Prop :=
  SlB B w x (dat d [t]) ∧ ∃ P cP ps, y = .slice P d cP ∧ w.ownsRow base 23 1 y d ps ∧ ∀ (i : Nat) (L : List Int), (lv d [t])[i]? = some L → ∃ v, ps[i]? = some v ∧ SlB B w v L
theorem KpX.low {g gR base B : Nat} {w w' : World} (h : KpX g gR base w w') (h1 : B ≤ g) (h2 : B ≤ gR) (h3 : B ≤ base) : LowK B w w' := ⟨h.size, fun k hk _ => h.block k (by omega) (by omega) (by omega)⟩
theorem ArF.kept {base B d g gR b2 : Nat} {t : T d} {w w' : World} {x y : Value} (h : ArF base B d t w x y) (hk : KpX g gR b2 w w') (h1 : B ≤ g) (h2 : B ≤ gR) (h3 : g < base) (h4 : gR < base) (h5 : w.heap.size ≤ b2) (h6 : B ≤ w.heap.size) : ArF base B d t w' x y := by
  obtain ⟨hx, P, cP, ps, rfl, ho, hp⟩ := h
  have hl := hk.low h1 h2 (Nat.le_trans h6 h5)
  refine ⟨hx.low hl, P, cP, ps, rfl, own_keep ho (fun q hq => ?_), fun i L hL => ?_⟩
  · have := ho.lt q hq
    exact hk.block q (by omega) (by omega) (by omega)
  · obtain ⟨v, hv, hs⟩ := hp i L hL
    exact ⟨v, hv, hs.low hl⟩
theorem ArF.low {base base' B d : Nat} {t : T d} {w : World} {x y : Value} (h : ArF base B d t w x y) (hb : base' ≤ base) : ArF base' B d t w x y := by
  obtain ⟨hx, P, cP, ps, hy, ho, hp⟩ := h
  exact ⟨hx, P, cP, ps, hy, own_base ho hb, hp⟩

set_option maxRecDepth 10000 in
theorem takeP_any (B gr gR d : Nat) (t : T d) (ts : List (T d)) (w : World) (h : RestSt B gr gR d (t :: ts) w) (hB : B ≤ gr) (hok : OkL (lv d (t :: ts))) (hd : d ≤ 3) (hgR : d = 0 → gR = gr) :
    Calls Try.prog 91 #[.pointer (some ⟨gr, 0, none⟩)] w fun e w' => ∃ x y, e = .returned (.agg #[x, y]) ∧ KpX gr gR w.heap.size w w' ∧ RestSt B gr gR d ts w' ∧ ArF w.heap.size B d t w' x y := by
  obtain ⟨Bd, cB, R, cR, us, hp, hR, ho, hus, hsd⟩ := h
  obtain ⟨e1, e2, e3⟩ := cut_arr d 1 (t :: ts) (by simp)
  obtain ⟨e4, e5⟩ := cut_dat d 1 (t :: ts)
  simp only [List.take_succ_cons, List.take_zero, List.drop_succ_cons, List.drop_zero] at e1 e2 e3 e4 e5
  have hsum : (dat d (t :: ts)).length = (dat d [t]).length + (dat d ts).length := by
    have : t :: ts = [t] ++ ts := rfl
    rw [this, dat_append, List.length_append]
  cases d with
  | zero =>
    have hgg : gr = gR := (hgR rfl).symm
    subst hgg
    have h1 : (dat 0 [t]).length = 1 := rfl
    refine (takepart_none B gr cB cR Bd R (dat 0 (t :: ts)) w hp hsd hB (by omega)).mono ?_
    rintro e w' ⟨Bd2, cd, rfl, hlow, hkp, hp2, hd2, ht2⟩
    rw [h1] at e4 e5
    rw [e5] at hd2
    rw [e4] at ht2
    rw [show (dat 0 (t :: ts)).length - 1 = (dat 0 ts).length by omega] at hp2 hd2
    refine ⟨_, _, rfl, hkp, ⟨Bd2, cd, R, cR, us, hp2, .inl rfl, ?_, fun i L hL => by simp [lv] at hL, hd2⟩, ht2, none, 0, [], rfl, World.ownsRow_nil _ _ _ _, fun i L hL => by simp [lv] at hL⟩
    refine own_keep ho (fun q hq => ?_)
    have hq2 := ho.lt q hq
    by_cases hqg : q = gr
    · exfalso
      subst hqg
      rcases ho.2 with ⟨hv, _⟩ | ⟨b, cap, cur, hv, _, hb, _⟩
      · cases hv; cases hq
      · cases hv
        simp only [Value.ownBlock, Option.some.injEq] at hq
        subst hq
        unfold Pr at hp
        rw [hb] at hp
        cases hp
    · exact hkp.block q hqg hqg hq2.2
  | succ d =>
    obtain rfl : R = some ⟨gR, 0, none⟩ := by
      rcases hR with h | h
      · omega
      · exact h
    have hll := lv_len (d + 1) (t :: ts)
    have hll2 := lv_len (d + 1) ts
    have hll3 := lv_len (d + 1) [t]
    have hp' : Pr w gr 70 (.slice Bd (dat (d + 1) (t :: ts)).length cB) (.slice (some ⟨gR, 0, none⟩) (lv (d + 1) (t :: ts)).length cR) := by rw [hll]; exact hp
    have ho' : w.ownsRow B 23 1 (.slice (some ⟨gR, 0, none⟩) (lv (d + 1) (t :: ts)).length cR) (lv (d + 1) (t :: ts)).length us := by rw [hll]; exact ho
    refine (takepart_some B gr gR cB cR Bd us (lv (d + 1) (t :: ts)) (dat (d + 1) (t :: ts)) w hp' ho' hus hsd hB (fun j L hL => ⟨lv_fit (d + 1) 1 (t :: ts) (by simp) j L hL, hok j L hL⟩) (by rw [e3]; omega) (by rw [hll]; omega)).mono ?_
    rintro e w' ⟨Bd3, Bd2, cd, P, cP, us2, ps, rfl, hlow, hkp, hp2, ho2, hus2, hd2, hoP, hps, ht2⟩
    rw [hll] at hp2 ho2 hoP ⊢
    rw [e3] at hp2 hd2 ht2 ⊢
    rw [e5] at hd2
    rw [e4] at ht2
    rw [show (dat (d + 1) (t :: ts)).length - (dat (d + 1) [t]).length = (dat (d + 1) ts).length by omega] at hp2 hd2
    refine ⟨_, _, rfl, hkp, ⟨Bd2, cd, _, cR, us2, hp2, .inr rfl, ho2, fun i L hL => ?_, hd2⟩, ht2, P, cP, ps, rfl, hoP, fun i L hL => ?_⟩
    · obtain ⟨M, hM⟩ : ∃ M, (lv (d + 1) (t :: ts))[i]? = some M := ⟨_, List.getElem?_eq_getElem (by rw [hll]; have := (List.getElem?_eq_some_iff.1 hL).1; rw [hll2] at this; exact this)⟩
      have h3 := cutR_at _ 1 i M hM
      rw [e2, hL] at h3
      simp only [Option.some.injEq] at h3
      subst h3
      exact hus2 i M hM
    · obtain ⟨M, hM⟩ : ∃ M, (lv (d + 1) (t :: ts))[i]? = some M := ⟨_, List.getElem?_eq_getElem (by rw [hll]; have := (List.getElem?_eq_some_iff.1 hL).1; rw [hll3] at this; exact this)⟩
      have h3 := cutP_at _ 1 i M hM
      rw [e1, hL] at h3
      simp only [Option.some.injEq] at h3
      subst h3
      exact hps i M hM

end Go.Proofs.Ytdfanconjiiceaa

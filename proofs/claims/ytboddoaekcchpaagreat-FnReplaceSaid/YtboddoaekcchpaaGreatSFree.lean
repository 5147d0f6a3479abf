/- What the model's l5Free does: whether a variable stands in a term and is not bound there. -/
import Derived.Test.YtboddoaekcchpaaGreatSSizeF
import Derived.Test.YtboddoaekcchpaaGreatSTxt
import Derived.Test.YtboddoaekcchpaaGreatKids
import Derived.Test.YtboddoaekcchpaaGreatTmD
namespace Go.Proofs.YtboddoaekcchpaaGreat
open Go.RowKit

/-- In which parts a variable stands free. -/
def frL : Tm → Int → List Bool
  | .dig _, _ => []
  | .var _, _ => []
  | .pre _ s, v => [s.free v]
  | .two _ s t, v => [s.free v, t.free v]
  | .loop _ x s t, v => [s.free v, decide (x ≠ v) && t.free v]
def Tm.isV : Tm → Bool
  | .var _ => true
  | _ => false
theorem frL_len (t : Tm) (v : Int) : (frL t v).length = t.kids.length := by cases t <;> rfl
theorem frL_any {t : Tm} (h : t.isV = false) (v : Int) : t.free v = (frL t v).any id := by
  cases t with
  | var c => cases h
  | dig c => rfl
  | pre c s => simp [Tm.free, frL]
  | two c s t => simp [Tm.free, frL]
  | loop c i s t => simp [Tm.free, frL]
theorem frL_at {w : World} {S : Nat → Prop} {t : Tm} {a b v : Int} {sv : Value} {j : Nat} {x : Tm} (h : SN w S t (a, b, sv)) (hv : 0 < v) (hj : t.kids[j]? = some x) : (frL t v)[j]? = some (x.free v && (decide (j = 0) || decide (b ≠ v))) := by
  cases t with
  | dig c => simp [Tm.kids] at hj
  | var c => simp [Tm.kids] at hj
  | pre c s =>
    match j, hj with
    | 0, h => simp [Tm.kids] at h; subst h; simp [frL]
    | j + 1, h => simp [Tm.kids] at h
  | two c s t =>
    obtain ⟨_, h2, _⟩ := h
    simp only at h2
    subst h2
    match j, hj with
    | 0, h => simp [Tm.kids] at h; subst h; simp [frL]
    | 1, h =>
      simp [Tm.kids] at h; subst h
      have : ¬ (0 = v) := by omega
      simp [frL, this]
    | j + 2, h => simp [Tm.kids] at h
  | loop c i s t =>
    obtain ⟨_, h2, _⟩ := h
    simp only at h2
    subst h2
    match j, hj with
    | 0, h => simp [Tm.kids] at h; subst h; simp [frL]
    | 1, h => simp [Tm.kids] at h; subst h; simp [frL, Bool.and_comm]
    | j + 2, h => simp [Tm.kids] at h
theorem any_step : ∀ {l : List Bool} {j : Nat} {x : Bool}, l[j]? = some x → (l.take (j + 1)).any id = ((l.take j).any id || x)
  | [], _, _, h => by simp at h
  | a :: l, 0, x, h => by simp at h; subst h; simp
  | a :: l, j + 1, x, h => by
    have := any_step (l := l) (j := j) (by simpa using h)
    simp only [List.take_succ_cons, List.any_cons, this, Bool.or_assoc]
theorem any_hit : ∀ {l : List Bool} {j : Nat}, l[j]? = some true → l.any id = true
  | [], _, h => by simp at h
  | a :: l, 0, h => by simp at h; subst h; simp
  | a :: l, j + 1, h => by
    have := any_hit (l := l) (j := j) (by simpa using h)
    simp only [List.any_cons, this, Bool.or_true]
theorem SN.novar {w : World} {S : Nat → Prop} {t : Tm} {a b : Int} {sv : Value} (ho : t.Ok) (h : SN w S t (a, b, sv)) (hv : t.isV = false) : a ≠ 97 := by
  cases t with
  | var c => cases hv
  | dig c => obtain ⟨h1, _⟩ := h; simp only at h1; omega
  | pre c s =>
    obtain ⟨h1, _⟩ := h
    have := ho.1
    unfold isP at this
    simp only [decide_eq_true_eq] at this
    simp only at h1; omega
  | two c s t =>
    obtain ⟨h1, _⟩ := h
    have := ho.1
    unfold isB at this
    simp only [decide_eq_true_eq] at this
    simp only at h1; omega
  | loop c i s t =>
    obtain ⟨h1, _⟩ := h
    have := ho.1
    simp only at h1; omega

set_option maxRecDepth 100000 in
set_option maxHeartbeats 2000000 in
theorem sfree_any : ∀ (n : Nat) (t : Tm) (S : Nat → Prop) (a b : Int) (A : Option Addr) (k c : Nat) (v : Int) (w : World), t.size ≤ n → t.Ok → 0 < v → SN w S t (a, b, .slice A k c) →
    Calls Tryz.prog 37 #[.agg #[.int .u8 a, .int .u8 b, .slice A k c], .int .u8 v] w fun e w' => e = .returned (.bool (t.free v)) ∧ w.grownBy w' none
  | 0, t, S, a, b, A, k, c, v, w, hn, _, _, h => by have := t.size_pos; omega
  | n + 1, t, S, a, b, A, k, c, v, w, hn, hok, hv0, h => by
    have HI := Lib.hid (sfree_any n)
    cases hvr : t.isV with
    | true =>
      cases t <;> try cases hvr
      rename_i cc
      obtain ⟨h1, h2, h3, _⟩ := h
      simp only at h1 h2
      subst h1 h2
      have HX := Lib.hid (c3_new w (.int .u8 97) (.int .u8 b) (.slice A k c) 57)
      have x0 := HX.out.c0
      have x1 := HX.out.c1
      clear h3 hn
      go_enter Tryz.func37, Tryz.ntmps37
      go_wp2_with fail
      go_ret
      exact ⟨rfl, World.grownBy_alloc _ _ _⟩
    | false =>
      have HA97 : (a == 97) = false := by rw [beq_eq_false_iff_ne]; exact h.novar hok hvr
      have HFR := Lib.hid (frL_any hvr v)
      have HFL := Lib.hid (fun (j : Nat) (x : Tm) (hj : t.kids[j]? = some x) => frL_at h hv0 hj)
      have HKS := Lib.hid (csum_kids t)
      have HN := Lib.hid hn
      have HOK := Lib.hid hok
      obtain ⟨xs, ho, ha⟩ := h.kids
      obtain ⟨hk, hkc, hrow⟩ := srow3 ho
      have hlen := All2.length _ _ ha
      have HKL := Lib.hid hk
      have HLEN := Lib.hid hlen
      have HROW := Lib.hid hrow
      have HA := Lib.hid ha
      have hk2 : k ≤ 2 := by have := kids_len t; omega
      have HX := Lib.hid (c3_new w (.int .u8 a) (.int .u8 b) (.slice A k c) 57)
      have x0 := HX.out.c0
      have x2 := HX.out.c2
      have HX1 := Lib.hid HX.out.c1
      clear h hn ho ha hk hrow hlen hok
      go_enter Tryz.func37, Tryz.ntmps37
      go_wp2_with fail
      go_loopw [17] (fun i wr => ∃ j : Nat, j ≤ k ∧ i = .int .i64 j ∧ Hid (((frL t v).take j).any id = false) ∧ Hid ((w.alloc (.cells #[.int .u8 a, .int .u8 b, .slice A k c] 57)).grownBy wr none)) (fun i _ => k - (intOf i).toNat)
      case atStart => exact ⟨0, Nat.zero_le _, rfl, Lib.hid (by simp), Lib.hid (gr_refl _ _)⟩
      case round =>
        obtain ⟨j, hj, rfl, hm, hgr⟩ := hrel
        have HGR := Lib.hid ((World.grownBy_alloc w (.cells #[.int .u8 a, .int .u8 b, .slice A k c] 57) none).trans hgr.out)
        by_cases hlt : j < k
        · obtain ⟨g, rfl, hg1, hcell⟩ := HROW.out (by omega)
          obtain ⟨tj, ⟨a2, b2, sv2⟩, htj, hxj, hpj⟩ := HA.out.get (j := j) (by have := HKL.out; omega)
          obtain ⟨A2, k2, c2, hsv⟩ := hpj.form
          simp only at hsv
          subst hsv
          obtain ⟨q0, q1, q2⟩ := hcell j _ hxj
          have hc0 := HGR.out.cell q0 (by simp)
          have hc1 := HGR.out.cell q1 (by simp)
          have hc2 := HGR.out.cell q2 (by simp)
          have HP := Lib.hid ((hpj.grown HGR.out).grown (World.grownBy_alloc wr (.cells #[.int .u8 a2, .int .u8 b2, .slice A2 k2 c2] 57) none))
          have HFJ := Lib.hid (HFL.out j tj htj)
          have HST := Lib.hid (any_step HFJ.out)
          have hbd : tj.size ≤ n := by
            have hst := csum_step htj
            have hlq := csum_take t.kids (j + 1)
            have hks2 := HKS.out
            have hn3 := HN.out
            omega
          have HTOK := Lib.hid (kids_ok' HOK.out (List.mem_of_getElem? htj))
          obtain ⟨z, hz⟩ : ∃ z, tj.free v = z := ⟨_, rfl⟩
          have HCALL := Lib.hid (HI.out tj _ a2 b2 A2 k2 c2 v _ hbd HTOK.out hv0 HP.out)
          rw [hz] at HCALL HFJ HST
          clear hpj htj hxj q0 q1 q2 hcell hbd hz x2
          go_wp2_with fail
          refine HCALL.out.mono ?_
          rintro e w2 ⟨rfl, hg2⟩
          have HG2 := Lib.hid ((hgr.out.trans (World.grownBy_alloc wr _ none)).trans hg2)
          have x1 := HG2.out.cell HX1.out (by simp)
          clear hg2 hc0 hc1 hc2
          have hend : Hid (w.grownBy w2 none) := Lib.hid ((World.grownBy_alloc w (.cells #[.int .u8 a, .int .u8 b, .slice (some ⟨g, 0, none⟩) k c] 57) none).trans HG2.out)
          cases z
          · go_wp2_with fail
            go_roundw
            case rel => exact ⟨j + 1, by omega, by go_num, Lib.hid (by rw [HST.out, hm.out]; simp), HG2⟩
            case measure => simp [intOf]; omega
          · by_cases hj0 : j = 0
            · subst hj0
              go_wp2_with fail
              go_ret
              exact ⟨by rw [HFR.out, any_hit (by have := HFJ.out; simpa using this)]; rfl, hend.out⟩
            · have hj2 : ((j : Int) == 0) = false := by rw [beq_eq_false_iff_ne]; omega
              by_cases hbv : b = v
              · subst hbv
                have hbb : (b != b) = false := by simp
                go_wp2_with fail
                go_roundw
                case rel => exact ⟨j + 1, by omega, by go_num, Lib.hid (by rw [HST.out, hm.out]; simp [hj0]), HG2⟩
                case measure => simp [intOf]; omega
              · have hbb : (b != v) = true := by simp [hbv]
                go_wp2_with fail
                go_ret
                exact ⟨by rw [HFR.out, any_hit (by have := HFJ.out; simpa [hbv] using this)]; rfl, hend.out⟩
        · have hjk : j = k := by omega
          have HJ := Lib.hid hjk
          clear hjk
          go_wp2_with fail
          go_ret
          refine ⟨?_, HGR.out⟩
          have hme := hm.out
          rw [HJ.out, List.take_of_length_le (by rw [frL_len, HLEN.out, HKL.out]; exact Nat.le_refl _)] at hme
          rw [HFR.out, hme]
          rfl

end Go.Proofs.YtboddoaekcchpaaGreat

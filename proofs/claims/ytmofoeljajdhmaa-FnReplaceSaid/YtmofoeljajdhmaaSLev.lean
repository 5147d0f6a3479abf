/- What l5Levels of the model does: how many loops of a term lie within each other. -/
import Derived.Test.YtmofoeljajdhmaaSSize
namespace Go.Proofs.Ytmofoeljajdhmaa
open Go.RowKit

/-- The levels of the parts, with one more for the second part of a loop; their greatest. -/
def levL : Tm → List Nat
  | .dig _ => []
  | .var _ => []
  | .pre _ s => [s.levels]
  | .two _ s t => [s.levels, t.levels]
  | .loop _ _ s t => [s.levels, 1 + t.levels]
def Tm.isLoop : Tm → Bool
  | .loop _ _ _ _ => true
  | _ => false
def mx : List Nat → Nat
  | [] => 0
  | a :: l => max a (mx l)
theorem levels_mx (t : Tm) : t.levels = mx (levL t) := by cases t <;> simp [Tm.levels, levL, mx]
theorem mx_step : ∀ {l : List Nat} {j x : Nat}, l[j]? = some x → mx (l.take (j + 1)) = max (mx (l.take j)) x
  | [], _, _, h => by simp at h
  | a :: l, 0, x, h => by simp at h; subst h; simp [mx]
  | a :: l, j + 1, x, h => by
    have := mx_step (l := l) (j := j) (by simpa using h)
    simp only [List.take_succ_cons, mx, this]; omega
theorem mx_take (l : List Nat) (j : Nat) : mx (l.take j) ≤ mx l := by
  induction l generalizing j with
  | nil => simp [mx]
  | cons a l ih =>
    cases j with
    | zero => simp [mx]
    | succ j => simp only [List.take_succ_cons, mx]; have := ih j; omega
theorem levL_len (t : Tm) : (levL t).length = t.kids.length := by cases t <;> rfl
theorem levL_at {t : Tm} {j : Nat} {x : Tm} (h : t.kids[j]? = some x) : (levL t)[j]? = some (x.levels + if (t.isLoop && decide (j = 1)) = true then 1 else 0) := by
  cases t with
  | dig c => simp [Tm.kids] at h
  | var c => simp [Tm.kids] at h
  | pre c s =>
    match j, h with
    | 0, h => simp [Tm.kids] at h; subst h; simp [levL, Tm.isLoop]
    | j + 1, h => simp [Tm.kids] at h
  | two c s t =>
    match j, h with
    | 0, h => simp [Tm.kids] at h; subst h; simp [levL, Tm.isLoop]
    | 1, h => simp [Tm.kids] at h; subst h; simp [levL, Tm.isLoop]
    | j + 2, h => simp [Tm.kids] at h
  | loop c i s t =>
    match j, h with
    | 0, h => simp [Tm.kids] at h; subst h; simp [levL, Tm.isLoop]
    | 1, h => simp [Tm.kids] at h; subst h; simp [levL, Tm.isLoop]; omega
    | j + 2, h => simp [Tm.kids] at h
theorem kids_ok' {t k : Tm} (ho : t.Ok) (h : k ∈ t.kids) : k.Ok := by
  cases t with
  | dig c => simp [Tm.kids] at h
  | var c => simp [Tm.kids] at h
  | pre c s => simp [Tm.kids] at h; subst h; exact ho.2
  | two c s t =>
    simp [Tm.kids] at h
    rcases h with rfl | rfl
    · exact ho.2.1
    · exact ho.2.2
  | loop c v s t =>
    simp [Tm.kids] at h
    rcases h with rfl | rfl
    · exact ho.2.2.1
    · exact ho.2.2.2

/-- A node's name tells whether it is a loop, where it has parts. -/
theorem SN.name {w : World} {S : Nat → Prop} {t : Tm} {a b : Int} {sv : Value} (ho : t.Ok) (h : SN w S t (a, b, sv)) (hk : 0 < t.kids.length) : (b != 0) = t.isLoop := by
  cases t with
  | dig c => simp [Tm.kids] at hk
  | var c => simp [Tm.kids] at hk
  | pre c s => obtain ⟨_, h2, _⟩ := h; simp only at h2; subst h2; rfl
  | two c s t => obtain ⟨_, h2, _⟩ := h; simp only at h2; subst h2; rfl
  | loop c i s t =>
    obtain ⟨_, h2, _⟩ := h
    simp only at h2
    subst h2
    have := isL_ge ho.2.1
    simp [Tm.isLoop]
    omega

set_option maxRecDepth 100000 in
set_option maxHeartbeats 2000000 in
theorem slevels_any : ∀ (n : Nat) (t : Tm) (S : Nat → Prop) (a b : Int) (A : Option Addr) (k c : Nat) (w : World), t.size ≤ n → n ≤ 1000000 → t.Ok → SN w S t (a, b, .slice A k c) →
    Calls Try.prog 89 #[.agg #[.int .u8 a, .int .u8 b, .slice A k c]] w fun e w' => e = .returned (.int .i64 (t.levels : Nat)) ∧ w.grownBy w' none
  | 0, t, S, a, b, A, k, c, w, hn, _, _, h => by have := t.size_pos; omega
  | n + 1, t, S, a, b, A, k, c, w, hn, hn2, hok, h => by
    have HI := Lib.hid (slevels_any n)
    have HKS := Lib.hid (csum_kids t)
    have HN := Lib.hid hn
    have HOK := Lib.hid hok
    obtain ⟨xs, ho, ha⟩ := h.kids
    obtain ⟨hk, hkc, hrow⟩ := srow3 ho
    have hlen := All2.length _ _ ha
    have HKL := Lib.hid hk
    have HLEN := Lib.hid hlen
    have HROW := Lib.hid hrow
    have HA := Lib.hid ha
    have hk2 : k ≤ 2 := by have := kids_len t; omega
    have HX := Lib.hid (c3_new w (.int .u8 a) (.int .u8 b) (.slice A k c) 70)
    have x2 := HX.out.c2
    have HX1 := Lib.hid HX.out.c1
    have HNAME := Lib.hid (fun hk => h.name hok hk)
    have HLV := Lib.hid t.levels_le
    have HMX := Lib.hid (levels_mx t)
    clear h hn ho ha hk hrow hlen hok
    go_enter Try.func89, Try.ntmps89
    go_wp2_with fail
    go_loopw [3, 10] (fun u i wr => ∃ j m : Nat, j ≤ k ∧ i = .int .i64 j ∧ u = .int .i64 m ∧ m ≤ n + 1 ∧ Hid (m = mx ((levL t).take j)) ∧ Hid ((w.alloc (.cells #[.int .u8 a, .int .u8 b, .slice A k c] 70)).grownBy wr none)) (fun _ i _ => k - (intOf i).toNat)
    case atStart => exact ⟨0, 0, Nat.zero_le _, rfl, rfl, by omega, Lib.hid (by simp [mx]), Lib.hid (gr_refl _ _)⟩
    case round =>
      obtain ⟨j, m, hj, rfl, rfl, hmn, hm, hgr⟩ := hrel
      have HGR := Lib.hid ((World.grownBy_alloc w (.cells #[.int .u8 a, .int .u8 b, .slice A k c] 70) none).trans hgr.out)
      by_cases hlt : j < k
      · obtain ⟨g, rfl, hg1, hcell⟩ := HROW.out (by omega)
        obtain ⟨tj, ⟨a2, b2, sv2⟩, htj, hxj, hpj⟩ := HA.out.get (j := j) (by have := HKL.out; omega)
        obtain ⟨A2, k2, c2, hsv⟩ := hpj.form
        simp only at hsv
        subst hsv
        obtain ⟨q0, q1, q2⟩ := hcell j _ hxj
        have hc0 := HGR.out.cell q0 (by simp)
        have hc1 := HGR.out.cell q1 (by simp)
        have hc2 := HGR.out.cell q2 (by simp)
        have HP := Lib.hid ((hpj.grown HGR.out).grown (World.grownBy_alloc wr (.cells #[.int .u8 a2, .int .u8 b2, .slice A2 k2 c2] 70) none))
        have HLA := Lib.hid (levL_at htj)
        have HST := Lib.hid (mx_step HLA.out)
        have hbd : tj.size ≤ n := by
          have hst := csum_step htj
          have hlq := csum_take t.kids (j + 1)
          have hks2 := HKS.out
          have hn3 := HN.out
          omega
        have HTOK := Lib.hid (kids_ok' HOK.out (List.mem_of_getElem? htj))
        have hlv := tj.levels_le
        obtain ⟨z, hz⟩ : ∃ z, tj.levels = z := ⟨_, rfl⟩
        have HCALL := Lib.hid (HI.out tj _ a2 b2 A2 k2 c2 _ hbd (by omega) HTOK.out HP.out)
        rw [hz] at HCALL hlv
        have HZ := Lib.hid hz
        have hb := HNAME.out (by have := HKL.out; have := HLEN.out; omega)
        obtain ⟨L, hL⟩ : ∃ L, t.isLoop = L := ⟨_, rfl⟩
        rw [hL] at hb
        have HL := Lib.hid hL
        have hz2 : z ≤ n := by omega
        clear hpj htj hxj q0 q1 q2 hcell hbd hz hlv x2 hL
        go_wp2_with fail
        refine HCALL.out.mono ?_
        rintro e w2 ⟨rfl, hg2⟩
        have HG2 := Lib.hid ((hgr.out.trans (World.grownBy_alloc wr _ none)).trans hg2)
        have x1 := HG2.out.cell HX1.out (by simp)
        clear hg2 hc0 hc1 hc2
        cases L
        · go_wp2_with fail
          refine ⟨⟨j + 1, if m < z then z else m, by omega, by go_num, by split <;> rfl, by split <;> omega, Lib.hid ?_, HG2⟩, by simp [intOf]; omega⟩
          rw [HST.out, HZ.out, ← hm.out, HL.out]
          simp only [Bool.false_and, Bool.false_eq_true, if_false]
          split <;> omega
        · by_cases hj1 : j = 1
          · subst hj1
            go_wp2_with fail
            refine ⟨⟨1 + 1, if m < z + 1 then z + 1 else m, by omega, by go_num, by split <;> (split <;> first | rfl | omega), by split <;> omega, Lib.hid ?_, HG2⟩, by simp [intOf]; omega⟩
            rw [HST.out, HZ.out, ← hm.out, HL.out]
            simp only [Bool.true_and, decide_true, if_true]
            split <;> omega
          · have hj2 : ((j : Int) == 1) = false := by rw [beq_eq_false_iff_ne]; omega
            go_wp2_with fail
            refine ⟨⟨j + 1, if m < z then z else m, by omega, by go_num, by split <;> rfl, by split <;> omega, Lib.hid ?_, HG2⟩, by simp [intOf]; omega⟩
            rw [HST.out, HZ.out, ← hm.out, HL.out]
            simp only [hj1, Bool.true_and, decide_false, Bool.false_eq_true, if_false]
            split <;> omega
      · have hjk : j = k := by omega
        have HJ := Lib.hid hjk
        clear hjk
        go_wp2_with fail
        go_ret
        refine ⟨?_, HGR.out⟩
        have e1 : m = t.levels := by
          rw [hm.out, HMX.out, HJ.out, List.take_of_length_le (by rw [levL_len, HLEN.out, HKL.out]; exact Nat.le_refl _)]
        rw [← e1]
        rfl

end Go.Proofs.Ytmofoeljajdhmaa

/- What sizeOf of the program does: how many terms there are in a term. -/
import Derived.Test.YtmofoeljajdhmaaKids
namespace Go.Proofs.Ytmofoeljajdhmaa
open Go.RowKit

/-- The cells of a row of one-cell things. -/
theorem orow {w : World} {base : Nat} {e : TypeId} {A : Option Addr} {k c n : Nat} {xs : List Value} (h : w.ownsRow base e 1 (.slice A k c) n xs) :
    k = n ∧ k ≤ c ∧ (0 < k → ∃ g, A = some ⟨g, 0, none⟩ ∧ base ≤ g ∧ g < w.heap.size ∧ ∀ (j : Nat) (x : Value), xs[j]? = some x → w.cell? ⟨g, j, none⟩ = some x) := by
  rcases h.2 with ⟨hv, hn⟩ | ⟨g, cap, cur, hv, hb, hg, hnc, hcm, hcs, htake⟩
  · cases hv
    exact ⟨hn.symm, Nat.le_refl _, fun h => by omega⟩
  · cases hv
    refine ⟨rfl, hnc, fun _ => ⟨g, rfl, hb, (Array.getElem?_eq_some_iff.1 hg).1, fun j x hj => ?_⟩⟩
    have hl := h.1
    have hjl : j < xs.length := by
      rcases Nat.lt_or_ge j xs.length with h | h
      · exact h
      · rw [List.getElem?_eq_none h] at hj; cases hj
    rw [cell_of_row w g j _ _ (0, 0) hg, ← hj, ← htake, List.getElem?_take, if_pos (by omega)]
    simp

theorem All2.get {α β : Type} {R : α → β → Prop} : ∀ {l : List α} {m : List β} {j : Nat}, All2 R l m → j < m.length → ∃ a b, l[j]? = some a ∧ m[j]? = some b ∧ R a b
  | a :: l, b :: m, 0, ⟨h, _⟩, _ => ⟨a, b, rfl, rfl, h⟩
  | _ :: l, _ :: m, j + 1, ⟨_, h⟩, hj => by
    obtain ⟨a, b, h1, h2, h3⟩ := All2.get (j := j) h (by simpa using hj)
    exact ⟨a, b, by simpa using h1, by simpa using h2, h3⟩
  | [], [], _, _, hj => by simp at hj
  | [], _ :: _, _, h, _ => h.elim
  | _ :: _, [], _, h, _ => h.elim

def csum : List Tm → Nat
  | [] => 0
  | t :: l => t.size + csum l
theorem csum_kids (t : Tm) : t.size = 1 + csum t.kids := by cases t <;> simp [Tm.size, Tm.kids, csum] <;> omega
theorem csum_step : ∀ {l : List Tm} {j : Nat} {t : Tm}, l[j]? = some t → csum (l.take (j + 1)) = csum (l.take j) + t.size
  | [], _, _, h => by simp at h
  | a :: l, 0, t, h => by simp at h; subst h; simp [csum]
  | a :: l, j + 1, t, h => by
    have := csum_step (l := l) (j := j) (by simpa using h)
    simp only [List.take_succ_cons, csum, this]; omega
theorem csum_take (l : List Tm) (j : Nat) : csum (l.take j) ≤ csum l := by
  induction l generalizing j with
  | nil => simp [csum]
  | cons a l ih =>
    cases j with
    | zero => simp [csum]
    | succ j => simp only [List.take_succ_cons, csum]; have := ih j; omega
theorem kids_len (t : Tm) : t.kids.length ≤ 2 := by cases t <;> simp [Tm.kids]

set_option maxRecDepth 100000 in
set_option maxHeartbeats 1000000 in
theorem tsizeof_any : ∀ (n : Nat) (t : Tm) (S : Nat → Prop) (ty : TypeId) (pv : Value) (w : World), t.size ≤ n → n ≤ 1000000 → PT w S t (.iface ty pv) →
    Calls Try.prog 86 #[.iface ty pv] w fun e w' => e = .returned (.int .i64 (t.size : Nat)) ∧ w.grownBy w' none
  | 0, t, S, ty, pv, w, hn, _, h => by have := t.size_pos; omega
  | n + 1, t, S, ty, pv, w, hn, hn2, h => by
    have HI := Lib.hid (tsizeof_any n)
    have hm := method_parts h
    have hrun := run_parts t pv
    have HK := Lib.hid (parts_any t S ty pv w h)
    have hks := csum_kids t
    have HKS := Lib.hid hks
    have HN := Lib.hid hn
    clear h hks hn
    go_enter Try.func86, Try.ntmps86
    go_wp2_with fail
    refine HK.out.mono ?_
    rintro e w1 ⟨hg1, sv, xs, rfl, ho, ha⟩
    obtain ⟨A, k, c, rfl⟩ := own_form ho
    obtain ⟨hk, hkc, hrow⟩ := orow ho
    have hlen := All2.length _ _ ha
    have HKL := Lib.hid hk
    have HLEN := Lib.hid hlen
    have HROW := Lib.hid hrow
    have HA := Lib.hid ha
    have HG1 := Lib.hid hg1
    have hk2 : k ≤ 2 := by have := kids_len t; omega
    clear hg1 ho ha hk hlen hrow hm hrun
    go_wp2_with fail
    go_loopw [3, 9] (fun u i wr => ∃ j m : Nat, j ≤ k ∧ i = .int .i64 j ∧ u = .int .i64 m ∧ m ≤ n + 1 ∧ Hid (m = 1 + csum (t.kids.take j)) ∧ Hid (w1.grownBy wr none)) (fun _ i _ => k - (intOf i).toNat)
    case atStart => exact ⟨0, 1, Nat.zero_le _, rfl, rfl, by omega, Lib.hid (by simp [csum]), Lib.hid (gr_refl _ _)⟩
    case round =>
      obtain ⟨j, m, hj, rfl, rfl, hmn, hm, hgr⟩ := hrel
      by_cases hlt : j < k
      · obtain ⟨g, rfl, hg0, hg1, hcell⟩ := HROW.out (by omega)
        obtain ⟨tj, xj, htj, hxj, hpj⟩ := HA.out.get (j := j) (by have := HKL.out; omega)
        have hc := hcell j xj hxj
        obtain ⟨tyj, pvj, rfl⟩ := hpj.iface
        have hcw := hgr.out.cell hc (by simp)
        have hst := csum_step htj
        have hbd : csum (t.kids.take j) + tj.size ≤ n := by
          have hlq := csum_take t.kids (j + 1)
          have hks2 := HKS.out
          have hn3 := HN.out
          omega
        have htn : tj.size ≤ n := by omega
        have HP := Lib.hid ((hpj.grown HG1.out).grown hgr.out)
        have HST := Lib.hid hst
        have HBD := Lib.hid hbd
        have hm2 : m + tj.size ≤ n + 1 := by have := hm.out; omega
        clear hpj htj hxj hc hst hcell hbd
        obtain ⟨z, hz⟩ : ∃ z, tj.size = z := ⟨_, rfl⟩
        have HCALL := Lib.hid (HI.out tj _ tyj pvj wr htn (by omega) HP.out)
        rw [hz] at HCALL hm2
        have HZ := Lib.hid hz
        clear hz htn
        go_wp2_with fail
        refine HCALL.out.mono ?_
        rintro e w2 ⟨rfl, hg2⟩
        have HG2 := Lib.hid (hgr.out.trans hg2)
        clear hg2 hcw
        go_wp2_with fail
        go_roundw
        case rel => exact ⟨j + 1, m + z, by omega, by go_num, by go_num, by omega, Lib.hid (by rw [hm.out, HST.out, HZ.out]; omega), HG2⟩
        case measure => simp [intOf]; omega
      · have hjk : j = k := by omega
        have HJ := Lib.hid hjk
        clear hjk
        go_wp2_with fail
        go_ret
        refine ⟨?_, HG1.out.trans hgr.out⟩
        have e1 : m = t.size := by
          rw [hm.out, HKS.out, HJ.out, List.take_of_length_le (by rw [HLEN.out, HKL.out]; exact Nat.le_refl _)]
        rw [← e1]
        rfl

end Go.Proofs.Ytmofoeljajdhmaa

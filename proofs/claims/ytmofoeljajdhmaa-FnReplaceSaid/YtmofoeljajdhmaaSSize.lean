/- What l5Size of the model does: how many terms there are in a term; and how the parts of a node read. -/
import Derived.Test.YtmofoeljajdhmaaTSize
import Derived.Test.YtmofoeljajdhmaaSTerm
namespace Go.Proofs.Ytmofoeljajdhmaa
open Go.RowKit

theorem SN.kids {w : World} {S : Nat → Prop} {t : Tm} {a b : Int} {sv : Value} (h : SN w S t (a, b, sv)) : ∃ xs, w.ownsRow 0 70 3 sv xs.length (flat3 xs) ∧ All2 (SN w S) t.kids xs := by
  cases t with
  | dig c => obtain ⟨_, _, ho, _⟩ := h; exact ⟨[], ho, trivial⟩
  | var c => obtain ⟨_, _, ho, _⟩ := h; exact ⟨[], ho, trivial⟩
  | pre c s => obtain ⟨_, _, y, ho, _, h1⟩ := h; exact ⟨[y], ho, h1, trivial⟩
  | two c s t => obtain ⟨_, _, y, z, ho, _, h1, h2⟩ := h; exact ⟨[y, z], ho, h1, h2, trivial⟩
  | loop c i s t => obtain ⟨_, _, y, z, ho, _, h1, h2⟩ := h; exact ⟨[y, z], ho, h1, h2, trivial⟩

theorem flat3_at : ∀ (l : List (Int × Int × Value)) (j : Nat) (x : Int × Int × Value), l[j]? = some x → (flat3 l)[j * 3]? = some (.int .u8 x.1) ∧ (flat3 l)[j * 3 + 1]? = some (.int .u8 x.2.1) ∧ (flat3 l)[j * 3 + 2]? = some x.2.2
  | [], j, x, h => by simp at h
  | (m, n, sv) :: l, 0, x, h => by simp at h; subst h; exact ⟨rfl, rfl, rfl⟩
  | (m, n, sv) :: l, j + 1, x, h => by
    have := flat3_at l j x (by simpa using h)
    have e1 : (j + 1) * 3 = j * 3 + 1 + 1 + 1 := by omega
    rw [e1]
    exact this

/-- A model row whose slice is known: its length, and the cells of each part. -/
theorem srow3 {w : World} {A : Option Addr} {k c : Nat} {xs : List (Int × Int × Value)} (h : w.ownsRow 0 70 3 (.slice A k c) xs.length (flat3 xs)) :
    k = xs.length ∧ k ≤ c ∧ (0 < k → ∃ g, A = some ⟨g, 0, none⟩ ∧ g < w.heap.size ∧ ∀ (j : Nat) (x : Int × Int × Value), xs[j]? = some x → w.cell? ⟨g, j * 3, none⟩ = some (.int .u8 x.1) ∧ w.cell? ⟨g, j * 3 + 1, none⟩ = some (.int .u8 x.2.1) ∧ w.cell? ⟨g, j * 3 + 2, none⟩ = some x.2.2) := by
  rcases h.2 with ⟨hv, hn⟩ | ⟨g, cap, cur, hv, _, hg, hnc, hcm, hcs, htake⟩
  · cases hv
    exact ⟨by omega, by omega, fun h => by omega⟩
  · cases hv
    refine ⟨rfl, hnc, fun _ => ⟨g, rfl, (Array.getElem?_eq_some_iff.1 hg).1, fun j x hj => ?_⟩⟩
    have hjl : j < xs.length := by
      rcases Nat.lt_or_ge j xs.length with h | h
      · exact h
      · rw [List.getElem?_eq_none h] at hj; cases hj
    have hf := flat3_at xs j x hj
    have hc : ∀ i, i < xs.length * 3 → w.cell? ⟨g, i, none⟩ = (flat3 xs)[i]? := fun i hi => by
      rw [cell_of_row w g i _ _ (0, 0) hg, ← htake, List.getElem?_take, if_pos hi]
      simp
    exact ⟨(hc _ (by omega)).trans hf.1, (hc _ (by omega)).trans hf.2.1, (hc _ (by omega)).trans hf.2.2⟩

set_option maxRecDepth 100000 in
set_option maxHeartbeats 1000000 in
theorem ssizeof_any : ∀ (n : Nat) (t : Tm) (S : Nat → Prop) (a b : Int) (A : Option Addr) (k c : Nat) (w : World), t.size ≤ n → n ≤ 1000000 → SN w S t (a, b, .slice A k c) →
    Calls Try.prog 87 #[.agg #[.int .u8 a, .int .u8 b, .slice A k c]] w fun e w' => e = .returned (.int .i64 (t.size : Nat)) ∧ w.grownBy w' none
  | 0, t, S, a, b, A, k, c, w, hn, _, h => by have := t.size_pos; omega
  | n + 1, t, S, a, b, A, k, c, w, hn, hn2, h => by
    have HI := Lib.hid (ssizeof_any n)
    have hks := csum_kids t
    have HKS := Lib.hid hks
    have HN := Lib.hid hn
    obtain ⟨xs, ho, ha⟩ := h.kids
    obtain ⟨hk, hkc, hrow⟩ := srow3 ho
    have hlen := All2.length _ _ ha
    have HKL := Lib.hid hk
    have HLEN := Lib.hid hlen
    have HROW := Lib.hid hrow
    have HA := Lib.hid ha
    have hk2 : k ≤ 2 := by have := kids_len t; omega
    have HX := Lib.hid (c3_new w (.int .u8 a) (.int .u8 b) (.slice A k c) 70)
    have x2 := HX.out.c2
    clear h hks hn ho ha hk hrow hlen
    go_enter Try.func87, Try.ntmps87
    go_wp2_with fail
    go_loopw [3, 9] (fun u i wr => ∃ j m : Nat, j ≤ k ∧ i = .int .i64 j ∧ u = .int .i64 m ∧ m ≤ n + 1 ∧ Hid (m = 1 + csum (t.kids.take j)) ∧ Hid (w.grownBy wr none)) (fun _ i _ => k - (intOf i).toNat)
    case atStart => exact ⟨0, 1, Nat.zero_le _, rfl, rfl, by omega, Lib.hid (by simp [csum]), Lib.hid (World.grownBy_alloc _ _ _)⟩
    case round =>
      obtain ⟨j, m, hj, rfl, rfl, hmn, hm, hgr⟩ := hrel
      by_cases hlt : j < k
      · obtain ⟨g, rfl, hg1, hcell⟩ := HROW.out (by omega)
        obtain ⟨tj, ⟨a2, b2, sv2⟩, htj, hxj, hpj⟩ := HA.out.get (j := j) (by have := HKL.out; omega)
        obtain ⟨A2, k2, c2, hsv⟩ := hpj.form
        simp only at hsv
        subst hsv
        obtain ⟨q0, q1, q2⟩ := hcell j _ hxj
        have hc0 := hgr.out.cell q0 (by simp)
        have hc1 := hgr.out.cell q1 (by simp)
        have hc2 := hgr.out.cell q2 (by simp)
        have HP := Lib.hid ((hpj.grown hgr.out).grown (World.grownBy_alloc wr (.cells #[.int .u8 a2, .int .u8 b2, .slice A2 k2 c2] 70) none))
        have HST := Lib.hid (csum_step htj)
        have hbd : csum (t.kids.take j) + tj.size ≤ n := by
          have hlq := csum_take t.kids (j + 1)
          have hks2 := HKS.out
          have hn3 := HN.out
          have hst := HST.out
          omega
        have htn : tj.size ≤ n := by omega
        have hm2 : m + tj.size ≤ n + 1 := by have := hm.out; omega
        obtain ⟨z, hz⟩ : ∃ z, tj.size = z := ⟨_, rfl⟩
        have HCALL := Lib.hid (HI.out tj _ a2 b2 A2 k2 c2 _ htn (by omega) HP.out)
        rw [hz] at HCALL hm2
        have HZ := Lib.hid hz
        clear hpj htj hxj q0 q1 q2 hcell hbd hz htn x2
        go_wp2_with fail
        refine HCALL.out.mono ?_
        rintro e w2 ⟨rfl, hg2⟩
        have HG2 := Lib.hid ((hgr.out.trans (World.grownBy_alloc wr _ none)).trans hg2)
        clear hg2 hc0 hc1 hc2
        go_wp2_with fail
        go_roundw
        case rel => exact ⟨j + 1, m + z, by omega, by go_num, by go_num, by omega, Lib.hid (by rw [hm.out, HST.out, HZ.out]; omega), HG2⟩
        case measure => simp [intOf]; omega
      · have hjk : j = k := by omega
        have HJ := Lib.hid hjk
        clear hjk
        go_wp2_with fail
        go_ret
        refine ⟨?_, hgr.out⟩
        have e1 : m = t.size := by
          rw [hm.out, HKS.out, HJ.out, List.take_of_length_le (by rw [HLEN.out, HKL.out]; exact Nat.le_refl _)]
        rw [← e1]
        rfl

end Go.Proofs.Ytmofoeljajdhmaa

/- What the model's l1Text does: the text of a node that lies in memory. -/
import Derived.Test.YtdfanconjiiceabDoorSNode
import Derived.Test.YtdfanconjiiceabDoorDec
namespace Go.Proofs.YtdfanconjiiceabDoor
open Go.RowKit

theorem All2.at_ {α β : Type} {R : α → β → Prop} : ∀ {l : List α} {m : List β} {j : Nat}, All2 R l m → j < m.length → ∃ a b, l[j]? = some a ∧ m[j]? = some b ∧ R a b
  | a :: l, b :: m, 0, ⟨h, _⟩, _ => ⟨a, b, rfl, rfl, h⟩
  | _ :: l, _ :: m, j + 1, ⟨_, h⟩, hj => by
    obtain ⟨a, b, h1, h2, h3⟩ := All2.at_ (j := j) h (by simpa using hj)
    exact ⟨a, b, by simpa using h1, by simpa using h2, h3⟩
  | [], [], _, _, hj => by simp at hj
  | [], _ :: _, _, h, _ => h.elim
  | _ :: _, [], _, h, _ => h.elim

theorem flat2_at : ∀ (l : List (Int × Value)) (j : Nat) (x : Int × Value), l[j]? = some x → (flat2 l)[j * 2]? = some (.int .i64 x.1) ∧ (flat2 l)[j * 2 + 1]? = some x.2
  | [], j, x, h => by simp at h
  | (m, sv) :: l, 0, x, h => by simp at h; subst h; exact ⟨rfl, rfl⟩
  | (m, sv) :: l, j + 1, x, h => by
    have := flat2_at l j x (by simpa using h)
    have e1 : (j + 1) * 2 = j * 2 + 1 + 1 := by omega
    rw [e1]
    exact this

/-- A model row whose slice is known: its length, and the cells of each part. -/
theorem srow {w : World} {A : Option Addr} {k c : Nat} {xs : List (Int × Value)} (h : w.ownsRow 0 68 2 (.slice A k c) xs.length (flat2 xs)) :
    k = xs.length ∧ k ≤ c ∧ (0 < k → ∃ g, A = some ⟨g, 0, none⟩ ∧ g < w.heap.size ∧ ∀ (j : Nat) (x : Int × Value), xs[j]? = some x → w.cell? ⟨g, j * 2, none⟩ = some (.int .i64 x.1) ∧ w.cell? ⟨g, j * 2 + 1, none⟩ = some x.2) := by
  rcases h.2 with ⟨hv, hn⟩ | ⟨g, cap, cur, hv, _, hg, hnc, hcm, hcs, htake⟩
  · cases hv
    exact ⟨by omega, by omega, fun h => by omega⟩
  · cases hv
    refine ⟨rfl, hnc, fun _ => ⟨g, rfl, (Array.getElem?_eq_some_iff.1 hg).1, fun j x hj => ?_⟩⟩
    have hjl : j < xs.length := by
      rcases Nat.lt_or_ge j xs.length with h | h
      · exact h
      · rw [List.getElem?_eq_none h] at hj; cases hj
    have hf := flat2_at xs j x hj
    have hc : ∀ i, i < xs.length * 2 → w.cell? ⟨g, i, none⟩ = (flat2 xs)[i]? := fun i hi => by
      rw [cell_of_row w g i _ _ (0, 0) hg, ← htake, List.getElem?_take, if_pos hi]
      simp
    exact ⟨(hc _ (by omega)).trans hf.1, (hc _ (by omega)).trans hf.2⟩

/-- How l1Text ends. -/
def TextPost (d : Nat) (t : T d) (w : World) (e : Ending) (w' : World) : Prop := (∃ s : ByteArray, e = .returned (.string s) ∧ s.data.toList = text d t) ∧ w.grownBy w' none

set_option maxHeartbeats 400000 in
theorem stext0 (t : T 0) (m : Int) (A : Option Addr) (k c : Nat) (S : Nat → Prop) (w : World) (h : SNd w S 0 t (m, .slice A k c)) :
    Calls Tryd.prog 80 #[.agg #[.int .i64 m, .slice A k c], .int .i64 0] w (TextPost 0 t w) := by
  have HD := Lib.hid (fun w => dec_any (show Nat from t) w (by have := h.2.1; omega))
  have hm : m = ((show Nat from t : Nat) : Int) := h.1
  rw [← hm] at HD
  clear hm h
  go_enter Tryd.func80, Tryd.ntmps80
  go_wp2_with fail
  refine (HD.out _).mono ?_
  rintro e w1 ⟨⟨s, rfl, hs⟩, hg⟩
  have HS := Lib.hid hs
  have HG := Lib.hid hg
  clear hs hg
  go_wp2_with fail
  go_ret
  exact ⟨⟨s, rfl, HS.out⟩, (World.grownBy_alloc _ _ _).trans HG.out⟩

set_option maxHeartbeats 1000000 in
theorem stextS (d : Nat) (n : Int) (ts : List (T d)) (m : Int) (A : Option Addr) (k c : Nat) (S : Nat → Prop) (w : World) (h : SNd w S (d + 1) ts (m, .slice A k c)) (hn1 : 1 ≤ n) (hn2 : n ≤ 1000) (hl : (lst d ts).length ≤ 1000000000)
    (ih : ∀ (t : T d) (m : Int) (A : Option Addr) (k c : Nat) (w : World), SNd w S d t (m, .slice A k c) → (text d t).length ≤ 1000000000 → Calls Tryd.prog 80 #[.agg #[.int .i64 m, .slice A k c], .int .i64 (n - 1)] w (TextPost d t w)) :
    Calls Tryd.prog 80 #[.agg #[.int .i64 m, .slice A k c], .int .i64 n] w (TextPost (d + 1) ts w) := by
  obtain ⟨xs, ho, hS, ha⟩ := h
  obtain ⟨hkx, hkc, hrow⟩ := srow ho
  have HA := Lib.hid ha
  have HROW := Lib.hid hrow
  have HI := Lib.hid ih
  have HL := Lib.hid hl
  have HKX := Lib.hid hkx
  have hlen := All2.length ts xs ha
  have hk : k ≤ 1000000000 := by have := lst_ge d ts; omega
  have HLEN := Lib.hid hlen
  clear ho hS ha hrow ih hl hkx hlen
  have e0 : (n == 0) = false := by rw [beq_eq_false_iff_ne]; omega
  go_enter Tryd.func80, Tryd.ntmps80
  go_wp2_with fail
  clear e0
  go_loopw [16, 5] (fun i u wr => ∃ (j : Nat) (s : ByteArray), j ≤ k ∧ i = .int .i64 j ∧ u = .string s ∧ Hid (s.data.toList = 91 :: lst d (ts.take j)) ∧ Hid (w.grownBy wr none)) (fun i _ _ => k - (intOf i).toNat)
  case atStart => exact ⟨0, ⟨#[91]⟩, Nat.zero_le _, rfl, rfl, Lib.hid (by simp [lst]), Lib.hid (World.grownBy_alloc _ _ _)⟩
  case round =>
    obtain ⟨j, s, hj, rfl, rfl, hs, hgr⟩ := hrel
    by_cases hlt : j < k
    · obtain ⟨g, rfl, hgw, hcells⟩ := HROW.out (by omega)
      obtain ⟨t, x, htj, hxj, hr⟩ := All2.at_ (j := j) HA.out (by have := HKX.out; omega)
      have hx := hcells j x hxj
      obtain ⟨m2, sv2⟩ := x
      obtain ⟨A2, k2, c2, hsv⟩ := hr.form
      simp only at hsv hx
      subst hsv
      have h1 := hgr.out.cell hx.1 (by simp)
      have h2 := hgr.out.cell hx.2 (by simp)
      have HX := Lib.hid hxj
      have HR := Lib.hid hr
      have HT := Lib.hid htj
      clear hx hxj hr htj hcells
      have wn : IntKind.i64.wrap (n - 1) = n - 1 := IntWalk.i64_in _ (by omega)
      have hjs : j < 1000000000 := by omega
      have hss : s.size ≤ 1000000001 := by
        have e1 := congrArg List.length hs.out
        have e2 := lst_take_le d ts j
        have e3 := HL.out
        rw [Array.length_toList] at e1
        simp only [List.length_cons] at e1
        show s.data.size ≤ _
        omega
      have htx : (text d t).length ≤ 1000000000 := by
        have e2 := lst_take_le d ts (j + 1)
        have e3 := HL.out
        rcases Nat.eq_zero_or_pos j with h0 | h0
        · subst h0
          rw [lst_step0 HT.out] at e2
          omega
        · rw [lst_stepS HT.out h0] at e2
          simp only [List.length_append, List.length_cons] at e2
          omega
      have HTX := Lib.hid htx
      clear htx
      have HK := Lib.hid (SNd.keep (w' := wr.alloc (.cells #[.int .i64 m2, .slice A2 k2 c2] 68)) (fun b _ hb => ((hgr.out.trans (World.grownBy_alloc wr _ none)).block b hb (by simp))) (fun b hb _ => hb) d t _ HR.out)
      rcases Nat.eq_zero_or_pos j with hj0 | hj0
      · subst hj0
        go_wp2_with fail
        refine (HI.out t m2 A2 k2 c2 _ HK.out HTX.out).mono ?_
        rintro e w5 ⟨⟨s5, rfl, hs5⟩, hg5⟩
        have HS5 := Lib.hid hs5
        have HG5 := Lib.hid hg5
        have hz5 : s5.size ≤ 1000000000 := by
          have e1 := congrArg List.length hs5
          rw [Array.length_toList] at e1
          have := HTX.out
          show s5.data.size ≤ _
          omega
        clear hs5 hg5
        go_wp2_with fail
        go_roundw
        case rel =>
          refine ⟨1, s ++ s5, by omega, rfl, rfl, Lib.hid ?_, Lib.hid ((hgr.out.trans (World.grownBy_alloc _ _ _)).trans HG5.out)⟩
          rw [lst_step0 HT.out, ByteArray.data_append, Array.toList_append, hs.out, HS5.out]
          simp [lst]
        case measure => simp [intOf]; omega
      · go_wp2_with fail
        refine (HI.out t m2 A2 k2 c2 _ HK.out HTX.out).mono ?_
        rintro e w5 ⟨⟨s5, rfl, hs5⟩, hg5⟩
        have HS5 := Lib.hid hs5
        have HG5 := Lib.hid hg5
        have hz5 : s5.size ≤ 1000000000 := by
          have e1 := congrArg List.length hs5
          rw [Array.length_toList] at e1
          have := HTX.out
          show s5.data.size ≤ _
          omega
        clear hs5 hg5
        go_wp2_with fail
        go_roundw
        case rel =>
          refine ⟨j + 1, _, by omega, by go_num, rfl, Lib.hid ?_, Lib.hid ((hgr.out.trans (World.grownBy_alloc _ _ _)).trans HG5.out)⟩
          rw [lst_stepS HT.out hj0]
          simp [ByteArray.data_append, hs.out, HS5.out]
        case measure => simp [intOf]; omega
    · have hjk : j = k := by omega
      have hss : s.size ≤ 1000000001 := by
        have e1 := congrArg List.length hs.out
        have e2 := lst_take_le d ts j
        have e3 := HL.out
        rw [Array.length_toList] at e1
        simp only [List.length_cons] at e1
        show s.data.size ≤ _
        omega
      have HJ := Lib.hid hjk
      clear hjk
      go_wp2_with fail
      go_ret
      refine ⟨⟨_, rfl, ?_⟩, hgr.out⟩
      have e : ts.take j = ts := List.take_of_length_le (by have h1 := HJ.out; have h2 := HKX.out; have h3 := HLEN.out; omega)
      have h1 := hs.out
      rw [e] at h1
      rw [text_succ]
      simp [ByteArray.data_append, h1]

theorem stext_any (S : Nat → Prop) : ∀ (d : Nat) (n : Int) (t : T d) (m : Int) (A : Option Addr) (k c : Nat) (w : World), n = d → d ≤ 1000 → SNd w S d t (m, .slice A k c) → (text d t).length ≤ 1000000000 →
    Calls Tryd.prog 80 #[.agg #[.int .i64 m, .slice A k c], .int .i64 n] w (TextPost d t w)
  | 0, n, t, m, A, k, c, w, hn, _, h, _ => by obtain rfl : n = 0 := hn; exact stext0 t m A k c S w h
  | d + 1, n, t, m, A, k, c, w, hn, hd, h, ht => by
    have e : text (d + 1) t = 91 :: (lst d t ++ [93]) := text_succ d t
    rw [e] at ht
    exact stextS d n t m A k c S w h (by omega) (by omega) (by simp at ht; omega) (fun t m A k c w h ht => stext_any S d (n - 1) t m A k c w (by omega) (by omega) h ht)

end Go.Proofs.YtdfanconjiiceabDoor

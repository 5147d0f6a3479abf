/- What l1Read does; is a text an array of a depth? -/
import Derived.Test.YtachjodnhgmoiaaSRead
namespace Go.Proofs.Ytachjodnhgmoiaa
open Go.RowKit

def SReadNo (w : World) (e : Ending) (w' : World) : Prop := e = .returned (.tuple #[.agg #[.int .i64 0, .slice none 0 0], .bool false]) ∧ w.grownBy w' none
def SReadPost (s : ByteArray) (d : Nat) (w : World) (e : Ending) (w' : World) : Prop := match readN s d with
  | some t => ∃ m sv, e = .returned (.tuple #[.agg #[.int .i64 m, sv], .bool true]) ∧ (∃ A k c, sv = .slice A k c) ∧ w.grownBy w' none ∧ SNd w' (fun b => w.heap.size ≤ b) d t (m, sv)
  | none => SReadNo w e w'

theorem sread_no {s : ByteArray} {d : Nat} {w w' : World} {e : Ending} (hr : readN s d = none) (he : e = .returned (.tuple #[.agg #[.int .i64 0, .slice none 0 0], .bool false])) (hg : w.grownBy w' none) : SReadPost s d w e w' := by
  unfold SReadPost
  rw [hr]
  exact ⟨he, hg⟩
theorem sread_yes {s : ByteArray} {d : Nat} {t : T d} {w w' : World} {e : Ending} {m : Int} {A : Option Addr} {k c : Nat} (hr : readN s d = some t) (he : e = .returned (.tuple #[.agg #[.int .i64 m, .slice A k c], .bool true])) (hg : w.grownBy w' none) (ha : SNd w' (fun b => w.heap.size ≤ b) d t (m, .slice A k c)) : SReadPost s d w e w' := by
  unfold SReadPost
  rw [hr]
  exact ⟨m, _, he, ⟨_, _, _, rfl⟩, hg, ha⟩

set_option maxHeartbeats 400000 in
theorem sread_out (n : Int) (s : ByteArray) (w : World) (h : n < 0 ∨ 3 < n ∨ 400 < s.size) :
    Calls Try.prog 25 #[.string s, .int .i64 n] w (SReadNo w) := by
  by_cases hn : 0 ≤ n ∧ n ≤ 3
  · have hs : 400 < s.size := by omega
    have HI := Lib.hid (fun w => in_any n 0 3 true (decide_eq_true hn) w)
    clear hn h
    go_enter Try.func25, Try.ntmps25
    go_wp2_with fail
    refine (HI.out _).mono ?_
    rintro e w1 ⟨rfl, rfl⟩
    go_wp2_with fail
    refine bodyPost_ret (v := .tuple #[.agg #[.int .i64 0, .slice none 0 0], .bool false]) (by simp [results, Try.results25, go_sem]) rfl ?_
    exact ⟨rfl, World.grownBy_alloc _ _ _⟩
  · have HI := Lib.hid (fun w => in_any n 0 3 false (decide_eq_false hn) w)
    clear hn h
    go_enter Try.func25, Try.ntmps25
    go_wp2_with fail
    refine (HI.out _).mono ?_
    rintro e w1 ⟨rfl, rfl⟩
    go_wp2_with fail
    refine bodyPost_ret (v := .tuple #[.agg #[.int .i64 0, .slice none 0 0], .bool false]) (by simp [results, Try.results25, go_sem]) rfl ?_
    exact ⟨rfl, World.grownBy_alloc _ _ _⟩

theorem srdr_new {w : World} {k : Nat} (s : ByteArray) (hk : w.heap.size = k) : SRdr (w.alloc (.cells #[.string s, .int .i64 0, .bool false] 86)) k s 0 false := by
  subst hk
  exact heap_alloc_new _ _

set_option maxHeartbeats 1000000 in
theorem sread_in (n : Int) (d : Nat) (s : ByteArray) (w : World) (hnd : n = d) (h0 : 0 ≤ n) (h3 : n ≤ 3) (hs : s.size ≤ 400) :
    Calls Try.prog 25 #[.string s, .int .i64 n] w (SReadPost s d w) := by
  have HI := Lib.hid (fun w => in_any n 0 3 true (decide_eq_true ⟨h0, h3⟩) w)
  have HND := Lib.hid hnd
  have hd3 : d ≤ 3 := by omega
  clear hnd
  go_enter Try.func25, Try.ntmps25
  go_wp2_with fail
  refine (HI.out _).mono ?_
  rintro e w1 ⟨rfl, rfl⟩
  go_wp2_with fail
  refine (snode_any _ s hs d n 0 _ HND.out (by omega) (srdr_new s (by simp)) (Nat.zero_le _)).mono ?_
  rintro e w4 ⟨hg4, m, sv, rfl, ⟨A, k, c, rfl⟩, hcase⟩
  have hR : Two ((w.alloc (.cells #[.int .i64 0, .slice none 0 0] 52)).alloc (.cells #[.string s, .int .i64 0, .bool false] 86)) w.heap.size (.int .i64 0) (.slice none 0 0) := (two_new w _ _ rfl).alloc _
  have hz4 := hg4.size
  simp at hz4
  have HRES := Lib.hid (hR.grown hg4 (by simp))
  have HGR := Lib.hid (gr_new ((World.grownBy_alloc w (.cells #[.int .i64 0, .slice none 0 0] 52) none).trans (World.grownBy_alloc _ (.cells #[.string s, .int .i64 0, .bool false] 86) none)) hg4 (by omega))
  have hR5 := HRES.out.alloc (.cells #[.int .i64 m, .slice A k c] 52)
  have r0 := hR5.c0
  have r1 := hR5.c1
  have f0 := hR5.f 0
  have f1 := hR5.f 1
  have HG5 := Lib.hid (HGR.out.trans (World.grownBy_alloc w4 (.cells #[.int .i64 m, .slice A k c] 52) none))
  clear hR hR5
  rcases hcase with ⟨t, q, hn, hr, hnd⟩ | ⟨hn, q, hr⟩
  · have hqs := node_ge s d 0 t q hn
    have HN := Lib.hid hn
    have HR4 := Lib.hid hr
    have HA := Lib.hid hnd
    have c2 := (hr.alloc (.cells #[.int .i64 m, .slice A k c] 52)).c2
    have c1 := (hr.alloc (.cells #[.int .i64 m, .slice A k c] 52)).c1
    clear hn hr hnd hg4
    by_cases hend : q = s.size
    · have hb : ((q : Int) != (s.size : Int)) = false := by rw [hend]; simp
      have HE := Lib.hid hend
      clear hend
      go_wp2_with fail
      refine bodyPost_ret (v := .tuple #[.agg #[.int .i64 m, .slice A k c], .bool true]) (by simp [results, Try.results25, go_sem, r0, r1]) rfl ?_
      refine sread_yes (by rw [readN, HN.out]; exact if_pos HE.out) rfl (gr_set_new (gr_set_new HG5.out (Nat.le_refl _) _) (Nat.le_refl _) _) (SNd.keep ?_ ?_ d t _ HA.out)
      · intro b hb hb2
        simp at hb
        rw [Below.heap_setCell _ _ _ _ (by simp; omega), Below.heap_setCell _ _ _ _ (by simp; omega)]
        exact Below.heap_alloc _ _ _ hb2
      · intro b hb _
        simp at hb
        omega
    · have hb : ((q : Int) != (s.size : Int)) = true := by rw [bne_iff_ne]; omega
      have HE := Lib.hid hend
      clear hend
      go_wp2_with fail
      refine bodyPost_ret (v := .tuple #[.agg #[.int .i64 0, .slice none 0 0], .bool false]) (by simp [results, Try.results25, go_sem, r0, r1]) rfl ?_
      exact sread_no (by rw [readN, HN.out]; exact if_neg HE.out) rfl (gr_set_new (gr_set_new HG5.out (Nat.le_refl _) _) (Nat.le_refl _) _)
  · have HN := Lib.hid hn
    have c2 := (hr.alloc (.cells #[.int .i64 m, .slice A k c] 52)).c2
    clear hn hr hg4
    go_wp2_with fail
    refine bodyPost_ret (v := .tuple #[.agg #[.int .i64 0, .slice none 0 0], .bool false]) (by simp [results, Try.results25, go_sem, r0, r1]) rfl ?_
    exact sread_no (by rw [readN, HN.out]) rfl (gr_set_new (gr_set_new HG5.out (Nat.le_refl _) _) (Nat.le_refl _) _)

/-- Is the text an array of the depth? -/
def isArr (s : ByteArray) (n : Int) : Bool := decide (0 ≤ n ∧ n ≤ 3 ∧ s.size ≤ 400) && (readN s n.toNat).isSome

end Go.Proofs.Ytachjodnhgmoiaa

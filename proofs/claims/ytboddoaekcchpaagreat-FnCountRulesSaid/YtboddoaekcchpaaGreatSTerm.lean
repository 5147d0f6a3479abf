/- What l5Read of the model does: the term of a text. -/
import Derived.Test.YtboddoaekcchpaaGreatSTNodeL
import Derived.Test.YtboddoaekcchpaaGreatTmT
namespace Go.Proofs.YtboddoaekcchpaaGreat
open Go.RowKit

def STermNo (w : World) (e : Ending) (w' : World) : Prop := e = .returned (.tuple #[.agg #[.int .u8 0, .int .u8 0, .slice none 0 0], .bool false]) ∧ w.grownBy w' none
def STermYes (t : Tm) (w : World) (e : Ending) (w' : World) : Prop :=
  ∃ a b A k c, e = .returned (.tuple #[.agg #[.int .u8 a, .int .u8 b, .slice A k c], .bool true]) ∧ w.grownBy w' none ∧ SN w' (fun b => w.heap.size ≤ b) t (a, b, .slice A k c)
def STermPost (s : ByteArray) (w : World) (e : Ending) (w' : World) : Prop := match readT s with
  | some t => STermYes t w e w'
  | none => STermNo w e w'
theorem sterm_no {s : ByteArray} {w w' : World} {e : Ending} (hr : readT s = none) (he : e = .returned (.tuple #[.agg #[.int .u8 0, .int .u8 0, .slice none 0 0], .bool false])) (hg : w.grownBy w' none) : STermPost s w e w' := by
  unfold STermPost
  rw [hr]
  exact ⟨he, hg⟩
theorem sterm_yes {s : ByteArray} {t : Tm} {w w' : World} {e : Ending} {a b : Int} {A : Option Addr} {k c : Nat} (hr : readT s = some t) (he : e = .returned (.tuple #[.agg #[.int .u8 a, .int .u8 b, .slice A k c], .bool true])) (hg : w.grownBy w' none) (ha : SN w' (fun b => w.heap.size ≤ b) t (a, b, .slice A k c)) : STermPost s w e w' := by
  unfold STermPost
  rw [hr]
  exact ⟨a, b, A, k, c, he, hg, ha⟩
theorem sr_new {w : World} {k : Nat} (s : ByteArray) (hk : w.heap.size = k) : SR (w.alloc (.cells #[.string s, .int .i64 0, .bool false] 105)) k s 0 false := by
  subst hk
  exact heap_alloc_new _ _
theorem gr_laid0 {w w1 : World} {b : Nat} (h : w.grownBy w1 none) (hb : w.heap.size ≤ b) (x y z : Value) : w.grownBy (laid3 w1 b x y z) none := gr_new (gr_new (gr_new h (gr_set w1 b 0 x) hb) (gr_set _ b 1 y) hb) (gr_set _ b 2 z) hb

set_option maxHeartbeats 1000000 in
theorem sterm_any (s : ByteArray) (hs : s.size ≤ 1048576) (w : World) :
    Calls Tryz.prog 29 #[.string s] w (STermPost s w) := by
  go_enter Tryz.func29, Tryz.ntmps29
  go_wp2_with fail
  refine (snode_any _ s hs (s.size + 1) 0 _ (by omega) (by omega) (sr_new s (by simp))).mono ?_
  have HN := Lib.hid ((c3_new w (.int .u8 0) (.int .u8 0) (.slice none 0 0) 57).alloc (.cells #[.string s, .int .i64 0, .bool false] 105))
  have HG0 := Lib.hid ((World.grownBy_alloc w (.cells #[.int .u8 0, .int .u8 0, .slice none 0 0] 57) none).trans (World.grownBy_alloc _ (.cells #[.string s, .int .i64 0, .bool false] 105) none))
  have HZ0 := Lib.hid (show ((w.alloc (.cells #[.int .u8 0, .int .u8 0, .slice none 0 0] 57)).alloc (.cells #[.string s, .int .i64 0, .bool false] 105)).heap.size = w.heap.size + 2 by simp)
  generalize (w.alloc (.cells #[.int .u8 0, .int .u8 0, .slice none 0 0] 57)).alloc (.cells #[.string s, .int .i64 0, .bool false] 105) = w0 at HN HG0 HZ0
  rintro e w4 ⟨hg4, a, b, A, k, c, rfl, hcase⟩
  have hz4 : w.heap.size + 2 ≤ w4.heap.size := by have := HZ0.out; have := hg4.size; omega
  have HN4 := Lib.hid ((HN.out.grown hg4 (by simp)).alloc (.cells #[.int .u8 a, .int .u8 b, .slice A k c] 57))
  have HX4 := Lib.hid (c3_new w4 (.int .u8 a) (.int .u8 b) (.slice A k c) 57)
  have HG4 := Lib.hid ((gr_new HG0.out hg4 (by omega)).trans (World.grownBy_alloc w4 (.cells #[.int .u8 a, .int .u8 b, .slice A k c] 57) none))
  have x0 := HX4.out.c0
  have x1 := HX4.out.c1
  have x2 := HX4.out.c2
  have n0 := HN4.out.c0
  have n1 := HN4.out.c1
  have n2 := HN4.out.c2
  have f0 := HN4.out.f 0
  have f1 := HN4.out.f 1
  have f2 := HN4.out.f 2
  rcases hcase with ⟨t, q, hn, hr, hsn⟩ | ⟨hn, q, hq, hr⟩
  · have g4 := tm_ge s _ _ _ _ hn
    have HM := Lib.hid hn
    have HS := Lib.hid (show SN (w4.alloc (.cells #[.int .u8 a, .int .u8 b, .slice A k c] 57)) (fun b => w.heap.size + 2 ≤ b) t (a, b, .slice A k c) from hsn.keep (fun k _ hk => Below.heap_alloc w4 _ k hk) (fun b hb _ => by have := HZ0.out; omega) _ _)
    have r2 := (hr.alloc (.cells #[.int .u8 a, .int .u8 b, .slice A k c] 57)).c2
    have r1 := (hr.alloc (.cells #[.int .u8 a, .int .u8 b, .slice A k c] 57)).c1
    clear hn hr hsn hg4
    by_cases hend : q = s.size
    · have hb : ((q : Int) != (s.size : Int)) = false := by rw [hend]; simp
      have HE := Lib.hid hend
      clear hend
      rcases Nat.lt_or_ge 80 s.size with h80 | h80
      · have HR := Lib.hid (readT_long h80)
        go_wp2_with fail
        have HL := Lib.hid (HN4.out.laid (x' := .int .u8 0) (y' := .int .u8 0) (z' := .slice none 0 0))
        clear n0 n1 n2 f0 f1 f2
        have n0 := HL.out.c0
        have n1 := HL.out.c1
        have n2 := HL.out.c2
        unfold laid3 at n0 n1 n2
        refine bodyPost_ret (v := .tuple #[.agg #[.int .u8 0, .int .u8 0, .slice none 0 0], .bool false]) (by simp [results, Tryz.results29, go_sem, n0, n1, n2]) rfl ?_
        exact sterm_no HR.out rfl (gr_laid0 HG4.out (Nat.le_refl _) _ _ _)
      · have HR : Hid (readT s = some t) := Lib.hid (by unfold readT; rw [HM.out]; exact if_pos ⟨HE.out, h80⟩)
        go_wp2_with fail
        have HL := Lib.hid (HN4.out.laid (x' := .int .u8 a) (y' := .int .u8 b) (z' := .slice A k c))
        clear n0 n1 n2 f0 f1 f2
        have n0 := HL.out.c0
        have n1 := HL.out.c1
        have n2 := HL.out.c2
        unfold laid3 at n0 n1 n2
        refine bodyPost_ret (v := .tuple #[.agg #[.int .u8 a, .int .u8 b, .slice A k c], .bool true]) (by simp [results, Tryz.results29, go_sem, n0, n1, n2]) rfl ?_
        exact sterm_yes HR.out rfl (gr_laid0 HG4.out (Nat.le_refl _) _ _ _) ((HS.out.laid (by show ¬ (w.heap.size + 2 ≤ w.heap.size); omega) _ _ _).wide (fun b hb => by omega))
    · have hb : ((q : Int) != (s.size : Int)) = true := by rw [bne_iff_ne]; omega
      have HR : Hid (readT s = none) := Lib.hid (by unfold readT; rw [HM.out]; exact if_neg (fun h => hend h.1))
      clear hend
      go_wp2_with fail
      have HL := Lib.hid (HN4.out.laid (x' := .int .u8 0) (y' := .int .u8 0) (z' := .slice none 0 0))
      clear n0 n1 n2 f0 f1 f2
      have n0 := HL.out.c0
      have n1 := HL.out.c1
      have n2 := HL.out.c2
      unfold laid3 at n0 n1 n2
      refine bodyPost_ret (v := .tuple #[.agg #[.int .u8 0, .int .u8 0, .slice none 0 0], .bool false]) (by simp [results, Tryz.results29, go_sem, n0, n1, n2]) rfl ?_
      exact sterm_no HR.out rfl (gr_laid0 HG4.out (Nat.le_refl _) _ _ _)
  · have HR : Hid (readT s = none) := Lib.hid (by unfold readT; rw [hn])
    have r2 := (hr.alloc (.cells #[.int .u8 a, .int .u8 b, .slice A k c] 57)).c2
    clear hn hr hg4
    go_wp2_with fail
    have HL := Lib.hid (HN4.out.laid (x' := .int .u8 0) (y' := .int .u8 0) (z' := .slice none 0 0))
    clear n0 n1 n2 f0 f1 f2
    have n0 := HL.out.c0
    have n1 := HL.out.c1
    have n2 := HL.out.c2
    unfold laid3 at n0 n1 n2
    refine bodyPost_ret (v := .tuple #[.agg #[.int .u8 0, .int .u8 0, .slice none 0 0], .bool false]) (by simp [results, Tryz.results29, go_sem, n0, n1, n2]) rfl ?_
    exact sterm_no HR.out rfl (gr_laid0 HG4.out (Nat.le_refl _) _ _ _)

end Go.Proofs.YtboddoaekcchpaaGreat

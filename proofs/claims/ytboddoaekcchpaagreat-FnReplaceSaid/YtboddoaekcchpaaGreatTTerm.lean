/- What readTerm of the program does: the term of a text, or nothing; the panics of the reader are recovered. -/
import Derived.Test.YtboddoaekcchpaaGreatTReadL
import Derived.Test.YtboddoaekcchpaaGreatTmT
import Derived.Recover
namespace Go.Proofs.YtboddoaekcchpaaGreat
open Go.RowKit

theorem tmakeFunc_run (fn : Fn) (first cap : Array Value) (w : World) : (Instr.makeFunc fn first cap).run Tryz.prog w = .ok (.func fn first cap) w := rfl

theorem tcatch_fell (p q : Addr) (b : ByteArray) (x y : Value) (w : World) (hc : w.cell? p = some x) (hz : w.frozen? p = false) (hc2 : w.cell? q = some y) (hz2 : w.frozen? q = false) (hne : p.block ≠ q.block) :
    CallsD Tryz.prog 45 #[.pointer (some p), .pointer (some q)] (.panicking [{ v := .iface 9 (.string b), recovered := false }]) w fun e u' w' =>
      e = .returned (.tuple #[]) ∧ u' = .panicking [{ v := .iface 9 (.string b), recovered := true }] ∧ w' = (w.setCell p .nilIface).setCell q (.bool false) := by
  have hc3 : (w.setCell p .nilIface).cell? q = some y := (World.cell?_setCell_other w p q .nilIface (fun e => hne (by rw [e]))).trans hc2
  refine callsD_of_wpS Tryz.func45 rfl fun c₀ cs hu => ?_
  apply wpS_seq
  apply wpS_region
  simp [wpOpsS, go_sem, recoverD, hu, Tryz.ntmps45, Exit.thenS]
  refine wpS_cond (t := true) (by simp [Act.eval, Array.replicate]) ?_
  simp only [if_true]
  apply wpS_region
  simp [wpOpsS, go_sem, hc, hz, hc3, hz2, bodyPostS, results, Tryz.results45]

theorem tcatch_idle (p q : Addr) (w : World) :
    CallsD Tryz.prog 45 #[.pointer (some p), .pointer (some q)] .returning w fun e u' w' => e = .returned (.tuple #[]) ∧ u' = .returning ∧ w' = w := by
  refine callsD_of_wpS Tryz.func45 rfl fun c₀ cs hu => ?_
  apply wpS_seq
  apply wpS_region
  simp [wpOpsS, go_sem, recoverD, hu, Tryz.ntmps45, Exit.thenS]
  refine wpS_cond (t := false) (by simp [Act.eval, Array.replicate]) ?_
  simp only [Bool.false_eq_true, if_false]
  refine wpS_of_wp (wp_skip ?_)
  cases c₀
  simp_all [bodyPostS, results, Tryz.results45]

/-- How readTerm ends: without a term; with one. -/
def TermNo (w : World) (e : Ending) (w' : World) : Prop := e = .returned (.tuple #[.nilIface, .bool false]) ∧ w.grownBy w' none
def TermYes (t : Tm) (w : World) (e : Ending) (w' : World) : Prop :=
  ∃ v, e = .returned (.tuple #[v, .bool true]) ∧ w.grownBy w' none ∧ PT w' (fun b => w.heap.size ≤ b) t v
def TermPost (s : ByteArray) (w : World) (e : Ending) (w' : World) : Prop := match readT s with
  | some t => TermYes t w e w'
  | none => TermNo w e w'
theorem termPost_no {s : ByteArray} {w w' : World} {e : Ending} (hr : readT s = none) (he : e = .returned (.tuple #[.nilIface, .bool false])) (hg : w.grownBy w' none) : TermPost s w e w' := by
  unfold TermPost
  rw [hr]
  exact ⟨he, hg⟩
theorem termPost_yes {s : ByteArray} {t : Tm} {v : Value} {w w' : World} {e : Ending} (hr : readT s = some t) (he : e = .returned (.tuple #[v, .bool true])) (hg : w.grownBy w' none) (ha : PT w' (fun b => w.heap.size ≤ b) t v) : TermPost s w e w' := by
  unfold TermPost
  rw [hr]
  exact ⟨v, he, hg, ha⟩

set_option maxHeartbeats 400000 in
theorem term_out (s : ByteArray) (w : World) (h : 80 < s.size) :
    Calls Tryz.prog 23 #[.string s] w (TermPost s w) := by
  have hmf := tmakeFunc_run
  have HR := Lib.hid (readT_long h)
  go_enter_defers Tryz.func23, Tryz.ntmps23
  go_wp2_with fail
  all_goals
    refine leaves_cons (f := 45) (args := #[.pointer (some ⟨w.heap.size, 0, none⟩), .pointer (some ⟨w.heap.size + 1, 0, none⟩)]) (by simp) (by simp [go_sem]) ?_
    refine (tcatch_idle _ _ _).mono ?_
    rintro e u' w'' ⟨rfl, rfl, rfl⟩
    simp [Leaves, settle, results, Tryz.results23, go_sem]
    exact termPost_no HR.out rfl ((World.grownBy_alloc _ _ _).trans (World.grownBy_alloc _ _ _))

theorem tgr_set_new {w w1 : World} {g i : Nat} (h : w.grownBy w1 none) (hg : w.heap.size ≤ g) (u : Value) : w.grownBy (w1.setCell ⟨g, i, none⟩ u) none := gr_new h (gr_set w1 g i u) hg
theorem tfrozen_grown {w w' : World} {row : Option Nat} (h : w.grownBy w' row) {b i : Nat} (hb : b < w.heap.size) (hne : some b ≠ row) (hf : w.frozen? ⟨b, i, none⟩ = false) : w'.frozen? ⟨b, i, none⟩ = false :=
  (World.frozen?_of_block (w := w) (a := ⟨b, i, none⟩) (h.block b hb hne)).trans hf
theorem trd_new {w : World} {k : Nat} (s : ByteArray) (hk : w.heap.size = k) : TRd (w.alloc (.cells #[.string s, .int .i64 0] 89)) k s 0 := by
  subst hk
  exact heap_alloc_new _ _

theorem tcell_two (w : World) (x y : Value) (tx ty : TypeId) : ((w.alloc (.cells #[x] tx)).alloc (.cells #[y] ty)).cell? ⟨w.heap.size, 0, none⟩ = some x ∧ ((w.alloc (.cells #[x] tx)).alloc (.cells #[y] ty)).cell? ⟨w.heap.size + 1, 0, none⟩ = some y := by
  have e : (w.alloc (.cells #[x] tx)).heap.size = w.heap.size + 1 := by simp
  constructor
  · exact cell_of_row _ _ 0 _ _ (0, 0) ((Below.heap_alloc _ _ _ (by omega)).trans (heap_alloc_new _ _))
  · have h := cell_of_row _ _ 0 _ _ (0, 0) (heap_alloc_new (w.alloc (.cells #[x] tx)) (.cells #[y] ty))
    rw [e] at h
    exact h

/-- The blocks that readTerm makes first: the two results and the reader. -/
structure TThree (w w3 : World) : Prop where
  gr : w.grownBy w3 none
  size : w3.heap.size = w.heap.size + 3
  c0 : w3.cell? ⟨w.heap.size, 0, none⟩ = some .nilIface
  f0 : w3.frozen? ⟨w.heap.size, 0, none⟩ = false
  c1 : w3.cell? ⟨w.heap.size + 1, 0, none⟩ = some (.bool false)
  f1 : w3.frozen? ⟨w.heap.size + 1, 0, none⟩ = false
theorem tthree (w : World) (s : ByteArray) : TThree w (((w.alloc (.cells #[.nilIface] 45)).alloc (.cells #[.bool false] 4)).alloc (.cells #[.string s, .int .i64 0] 89)) := by
  have h := tcell_two w .nilIface (.bool false) 45 4
  refine ⟨(World.grownBy_alloc _ _ _).trans ((World.grownBy_alloc _ _ _).trans (World.grownBy_alloc _ _ _)), by simp, ?_, ?_, ?_, ?_⟩
  · rw [World.cell?_alloc_lt _ _ _ (by simp; omega)]; exact h.1
  · simp [go_sem]
  · rw [World.cell?_alloc_lt _ _ _ (by simp)]; exact h.2
  · simp [go_sem]

set_option maxHeartbeats 1000000 in
theorem term_in (s : ByteArray) (w : World) (hs : s.size ≤ 80) :
    Calls Tryz.prog 23 #[.string s] w (TermPost s w) := by
  have hmf := tmakeFunc_run
  go_enter_defers Tryz.func23, Tryz.ntmps23
  go_wp2_with fail
  clear hmf
  refine (tread_any _ s (by omega) (s.size + 1) 0 _ (by omega) (by omega) (trd_new s (by simp))).mono ?_
  have H3 := Lib.hid (tthree w s)
  generalize ((w.alloc (.cells #[.nilIface] 45)).alloc (.cells #[.bool false] 4)).alloc (.cells #[.string s, .int .i64 0] 89) = w3 at H3
  rintro e w4 ⟨hg4, ⟨t, q, v, hn, rfl, hr4, ha4⟩ | ⟨hn, b, rfl⟩⟩
  · have hs3 := H3.out.size
    have hc0 := hg4.cell H3.out.c0 (by simp; omega)
    have hf0 := tfrozen_grown hg4 (by omega) (by simp; omega) H3.out.f0
    have hc1 := hg4.cell H3.out.c1 (by simp)
    have hf1 := tfrozen_grown hg4 (by omega) (by simp) H3.out.f1
    have HG4 := Lib.hid hg4
    have HN := Lib.hid hn
    have HR4 := Lib.hid hr4
    have HA4 := Lib.hid ha4
    have hz4 := hg4.size
    have hqs := (tm_ge s _ _ t q hn).2.1
    obtain ⟨ty, pv, rfl⟩ := ha4.iface
    clear hg4 hn hr4 ha4
    go_wp2_with fail
    have HR5 := Lib.hid (HR4.out.grown (gr_set w4 w.heap.size 0 (.iface ty pv)) (by simp; omega))
    by_cases hend : q = s.size
    · refine (end_yes _ q s _ HR5.out (by omega)).mono ?_
      rintro e w6 ⟨rfl, n6, rfl⟩
      have HE := Lib.hid hend
      clear hend
      go_wp2_with fail
      refine leaves_cons (f := 45) (args := #[.pointer (some ⟨w.heap.size, 0, none⟩), .pointer (some ⟨w.heap.size + 1, 0, none⟩)]) (by simp) (by simp [go_sem]) ?_
      refine (tcatch_idle _ _ _).mono ?_
      rintro e u' w'' ⟨rfl, rfl, rfl⟩
      simp [Leaves, settle, results, Tryz.results23, go_sem, hc0, hc1]
      have hr : readT s = some t := by
        unfold readT
        rw [HN.out]
        exact if_pos ⟨HE.out, hs⟩
      have hg0 := gr_new H3.out.gr HG4.out (by omega)
      have hg1 : w.grownBy ((w4.setCell ⟨w.heap.size, 0, none⟩ (.iface ty pv)).drewN n6) none := (tgr_set_new hg0 (by omega) (.iface ty pv)).trans (gr_drewN _ n6 none)
      refine termPost_yes hr rfl (tgr_set_new (tgr_set_new hg1 (by omega) _) (by omega) _) (PT.keep ?_ ?_ t _ HA4.out)
      · intro b hb _
        rw [Below.heap_setCell _ _ _ _ (by simp; omega), Below.heap_setCell _ _ _ _ (by simp; omega)]
        exact Below.heap_setCell _ _ _ _ (by simp; omega)
      · intro b hb _
        omega
    · refine (end_no _ q s _ HR5.out (by omega)).mono ?_
      rintro e w6 ⟨⟨b, rfl⟩, hg6⟩
      have hr : readT s = none := by
        unfold readT
        rw [HN.out]
        exact if_neg (fun h => hend h.1)
      have HR := Lib.hid hr
      have hb0 : ((w4.setCell ⟨w.heap.size, 0, none⟩ (.iface ty pv)).cell? ⟨w.heap.size, 0, none⟩) = some (.iface ty pv) := by simp [go_sem, hc0]
      have hg5 := gr_set w4 w.heap.size 0 (.iface ty pv)
      have hb1 := hg5.cell hc1 (by simp)
      have hbf0 := (by simpa [go_sem] using hf0 : (w4.setCell ⟨w.heap.size, 0, none⟩ (.iface ty pv)).frozen? ⟨w.heap.size, 0, none⟩ = false)
      have hbf1 := tfrozen_grown hg5 (by omega) (by simp) hf1
      have hd0 := hg6.cell hb0 (by simp; omega)
      have hd1 := hg6.cell hb1 (by simp)
      have hdf0 := tfrozen_grown hg6 (by simp; omega) (by simp; omega) hbf0
      have hdf1 := tfrozen_grown hg6 (by simp; omega) (by simp) hbf1
      have HG := Lib.hid (gr_new (tgr_set_new (gr_new H3.out.gr HG4.out (by omega)) (by omega) (.iface ty pv)) hg6 (by omega))
      clear hr hb0 hg5 hb1 hbf0 hbf1 hg6 hc0 hc1 hf0 hf1
      refine leaves_cons (f := 45) (args := #[.pointer (some ⟨w.heap.size, 0, none⟩), .pointer (some ⟨w.heap.size + 1, 0, none⟩)]) (by simp) (by simp [go_sem]) ?_
      refine (tcatch_fell _ _ b _ _ _ hd0 hdf0 hd1 hdf1 (by simp)).mono ?_
      rintro e u' w'' ⟨rfl, rfl, rfl⟩
      simp [Leaves, settle, results, Tryz.results23, go_sem, hd0, hd1]
      exact termPost_no HR.out rfl (tgr_set_new (tgr_set_new HG.out (by omega) _) (by omega) _)
  · have hs3 := H3.out.size
    have hc0 := hg4.cell H3.out.c0 (by simp; omega)
    have hf0 := tfrozen_grown hg4 (by omega) (by simp; omega) H3.out.f0
    have hc1 := hg4.cell H3.out.c1 (by simp)
    have hf1 := tfrozen_grown hg4 (by omega) (by simp) H3.out.f1
    have hr : readT s = none := by unfold readT; rw [hn]
    have HR := Lib.hid hr
    have HG := Lib.hid (gr_new H3.out.gr hg4 (by omega))
    clear hr hn hg4
    refine leaves_cons (f := 45) (args := #[.pointer (some ⟨w.heap.size, 0, none⟩), .pointer (some ⟨w.heap.size + 1, 0, none⟩)]) (by simp) (by simp [go_sem]) ?_
    refine (tcatch_fell _ _ b _ _ _ hc0 hf0 hc1 hf1 (by simp)).mono ?_
    rintro e u' w'' ⟨rfl, rfl, rfl⟩
    simp [Leaves, settle, results, Tryz.results23, go_sem, hc0, hc1]
    exact termPost_no HR.out rfl (tgr_set_new (tgr_set_new HG.out (by omega) _) (by omega) _)

theorem term_any (s : ByteArray) (w : World) : Calls Tryz.prog 23 #[.string s] w (TermPost s w) := by
  rcases Nat.lt_or_ge 80 s.size with h | h
  · exact term_out s w h
  · exact term_in s w h

end Go.Proofs.YtboddoaekcchpaaGreat

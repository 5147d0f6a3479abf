/- The law FnExactDepthOfCode: for every text both functions answer alike, what is answered owns its memory, and the argument reads as it did. No condition but the library's own tables. -/
import Derived.Test.YtfaeolnmkdjhaaaDoorGr
import Derived.Test.YtfaeolnmkdjhaaaDoorTmD
import Derived.Test.YtfaeolnmkdjhaaaDoorSgn
import Derived.Test.YtfaeolnmkdjhaaaDoorTMap
import Derived.Test.YtfaeolnmkdjhaaaDoorTmM
import Derived.Deep.RegionLaw
import Derived.Test.YtfaeolnmkdjhaaaDoorTReadL
import Derived.Test.YtfaeolnmkdjhaaaDoorTmT
import Derived.Recover
import Derived.Test.YtfaeolnmkdjhaaaDoorTSizeF
import Derived.Test.YtfaeolnmkdjhaaaDoorOwn
import Derived.Deep.WholeRow
import Derived.Great.Walk
import Derived.Test.YtfaeolnmkdjhaaaDoorSSizeF
import Derived.Test.YtfaeolnmkdjhaaaDoorTSignF
import Derived.Test.YtfaeolnmkdjhaaaDoorCVal
import Derived.ProofKit
import Derived.Test.YtfaeolnmkdjhaaaDoorTie
import Derived.Test.YtfaeolnmkdjhaaaDoorCards
import Derived.Lay
import Derived.OpenShut
import Derived.Stop.Joined
namespace Go.Proofs.YtfaeolnmkdjhaaaDoor
section
open Go.RowKit

theorem ta_dig_dig (v : Value) (xT : TypeId) (w : World) : (Instr.typeAssert (.iface 98 v) xT 98 true).run Tryd.prog w = .ok (.tuple #[v, .bool true]) w := by
  simp [Instr.typeAssert, run_underlying Tryd.underlying98, go_sem, Result.andThen]
theorem ta_dig_var (v : Value) (xT : TypeId) (w : World) : (Instr.typeAssert (.iface 98 v) xT 51 true).run Tryd.prog w = .ok (.tuple #[.int .u8 0, .bool false]) w := by
  simp [Instr.typeAssert, run_underlying Tryd.underlying51, go_sem, Result.andThen]
theorem ta_dig_pre (v : Value) (xT : TypeId) (w : World) : (Instr.typeAssert (.iface 98 v) xT 120 true).run Tryd.prog w = .ok (.tuple #[.pointer none, .bool false]) w := by
  simp [Instr.typeAssert, run_underlying Tryd.underlying120, go_sem, Result.andThen]
theorem ta_dig_two (v : Value) (xT : TypeId) (w : World) : (Instr.typeAssert (.iface 98 v) xT 123 true).run Tryd.prog w = .ok (.tuple #[.pointer none, .bool false]) w := by
  simp [Instr.typeAssert, run_underlying Tryd.underlying123, go_sem, Result.andThen]
theorem ta_dig_loop (v : Value) (xT : TypeId) (w : World) : (Instr.typeAssert (.iface 98 v) xT 100 true).run Tryd.prog w = .ok (.tuple #[.pointer none, .bool false]) w := by
  simp [Instr.typeAssert, run_underlying Tryd.underlying100, go_sem, Result.andThen]
theorem ta_var_dig (v : Value) (xT : TypeId) (w : World) : (Instr.typeAssert (.iface 51 v) xT 98 true).run Tryd.prog w = .ok (.tuple #[.int .u8 0, .bool false]) w := by
  simp [Instr.typeAssert, run_underlying Tryd.underlying98, go_sem, Result.andThen]
theorem ta_var_var (v : Value) (xT : TypeId) (w : World) : (Instr.typeAssert (.iface 51 v) xT 51 true).run Tryd.prog w = .ok (.tuple #[v, .bool true]) w := by
  simp [Instr.typeAssert, run_underlying Tryd.underlying51, go_sem, Result.andThen]
theorem ta_var_pre (v : Value) (xT : TypeId) (w : World) : (Instr.typeAssert (.iface 51 v) xT 120 true).run Tryd.prog w = .ok (.tuple #[.pointer none, .bool false]) w := by
  simp [Instr.typeAssert, run_underlying Tryd.underlying120, go_sem, Result.andThen]
theorem ta_var_two (v : Value) (xT : TypeId) (w : World) : (Instr.typeAssert (.iface 51 v) xT 123 true).run Tryd.prog w = .ok (.tuple #[.pointer none, .bool false]) w := by
  simp [Instr.typeAssert, run_underlying Tryd.underlying123, go_sem, Result.andThen]
theorem ta_var_loop (v : Value) (xT : TypeId) (w : World) : (Instr.typeAssert (.iface 51 v) xT 100 true).run Tryd.prog w = .ok (.tuple #[.pointer none, .bool false]) w := by
  simp [Instr.typeAssert, run_underlying Tryd.underlying100, go_sem, Result.andThen]
theorem ta_pre_dig (v : Value) (xT : TypeId) (w : World) : (Instr.typeAssert (.iface 120 v) xT 98 true).run Tryd.prog w = .ok (.tuple #[.int .u8 0, .bool false]) w := by
  simp [Instr.typeAssert, run_underlying Tryd.underlying98, go_sem, Result.andThen]
theorem ta_pre_var (v : Value) (xT : TypeId) (w : World) : (Instr.typeAssert (.iface 120 v) xT 51 true).run Tryd.prog w = .ok (.tuple #[.int .u8 0, .bool false]) w := by
  simp [Instr.typeAssert, run_underlying Tryd.underlying51, go_sem, Result.andThen]
theorem ta_pre_pre (v : Value) (xT : TypeId) (w : World) : (Instr.typeAssert (.iface 120 v) xT 120 true).run Tryd.prog w = .ok (.tuple #[v, .bool true]) w := by
  simp [Instr.typeAssert, run_underlying Tryd.underlying120, go_sem, Result.andThen]
theorem ta_pre_two (v : Value) (xT : TypeId) (w : World) : (Instr.typeAssert (.iface 120 v) xT 123 true).run Tryd.prog w = .ok (.tuple #[.pointer none, .bool false]) w := by
  simp [Instr.typeAssert, run_underlying Tryd.underlying123, go_sem, Result.andThen]
theorem ta_pre_loop (v : Value) (xT : TypeId) (w : World) : (Instr.typeAssert (.iface 120 v) xT 100 true).run Tryd.prog w = .ok (.tuple #[.pointer none, .bool false]) w := by
  simp [Instr.typeAssert, run_underlying Tryd.underlying100, go_sem, Result.andThen]
theorem ta_two_dig (v : Value) (xT : TypeId) (w : World) : (Instr.typeAssert (.iface 123 v) xT 98 true).run Tryd.prog w = .ok (.tuple #[.int .u8 0, .bool false]) w := by
  simp [Instr.typeAssert, run_underlying Tryd.underlying98, go_sem, Result.andThen]
theorem ta_two_var (v : Value) (xT : TypeId) (w : World) : (Instr.typeAssert (.iface 123 v) xT 51 true).run Tryd.prog w = .ok (.tuple #[.int .u8 0, .bool false]) w := by
  simp [Instr.typeAssert, run_underlying Tryd.underlying51, go_sem, Result.andThen]
theorem ta_two_pre (v : Value) (xT : TypeId) (w : World) : (Instr.typeAssert (.iface 123 v) xT 120 true).run Tryd.prog w = .ok (.tuple #[.pointer none, .bool false]) w := by
  simp [Instr.typeAssert, run_underlying Tryd.underlying120, go_sem, Result.andThen]
theorem ta_two_two (v : Value) (xT : TypeId) (w : World) : (Instr.typeAssert (.iface 123 v) xT 123 true).run Tryd.prog w = .ok (.tuple #[v, .bool true]) w := by
  simp [Instr.typeAssert, run_underlying Tryd.underlying123, go_sem, Result.andThen]
theorem ta_two_loop (v : Value) (xT : TypeId) (w : World) : (Instr.typeAssert (.iface 123 v) xT 100 true).run Tryd.prog w = .ok (.tuple #[.pointer none, .bool false]) w := by
  simp [Instr.typeAssert, run_underlying Tryd.underlying100, go_sem, Result.andThen]
theorem ta_loop_dig (v : Value) (xT : TypeId) (w : World) : (Instr.typeAssert (.iface 100 v) xT 98 true).run Tryd.prog w = .ok (.tuple #[.int .u8 0, .bool false]) w := by
  simp [Instr.typeAssert, run_underlying Tryd.underlying98, go_sem, Result.andThen]
theorem ta_loop_var (v : Value) (xT : TypeId) (w : World) : (Instr.typeAssert (.iface 100 v) xT 51 true).run Tryd.prog w = .ok (.tuple #[.int .u8 0, .bool false]) w := by
  simp [Instr.typeAssert, run_underlying Tryd.underlying51, go_sem, Result.andThen]
theorem ta_loop_pre (v : Value) (xT : TypeId) (w : World) : (Instr.typeAssert (.iface 100 v) xT 120 true).run Tryd.prog w = .ok (.tuple #[.pointer none, .bool false]) w := by
  simp [Instr.typeAssert, run_underlying Tryd.underlying120, go_sem, Result.andThen]
theorem ta_loop_two (v : Value) (xT : TypeId) (w : World) : (Instr.typeAssert (.iface 100 v) xT 123 true).run Tryd.prog w = .ok (.tuple #[.pointer none, .bool false]) w := by
  simp [Instr.typeAssert, run_underlying Tryd.underlying123, go_sem, Result.andThen]
theorem ta_loop_loop (v : Value) (xT : TypeId) (w : World) : (Instr.typeAssert (.iface 100 v) xT 100 true).run Tryd.prog w = .ok (.tuple #[v, .bool true]) w := by
  simp [Instr.typeAssert, run_underlying Tryd.underlying100, go_sem, Result.andThen]
end

section
section
open Go.RowKit

/-- The set of signs "SM". -/
def sSM : ByteArray := ⟨#[83, 77]⟩
theorem sSM_is {c : Int} (h0 : 0 ≤ c) (h1 : c ≤ 255) : decide (0 ≤ Lib.indexByte sSM.data.toList c.toNat.toUInt8) = decide (c = 83 ∨ c = 77) :=
  all256 (P := fun c => decide (0 ≤ Lib.indexByte sSM.data.toList c.toNat.toUInt8) = decide (c = 83 ∨ c = 77)) (by decide +kernel) h0 h1

theorem ret_i {x y : Int} (h : x = y) : Ending.returned (.int .i64 x) = .returned (.int .i64 y) := by rw [h]

set_option maxRecDepth 100000 in
set_option maxHeartbeats 1000000 in
theorem dprefix_any (c d : Int) (w : World) (h0 : 0 ≤ c) (h1 : c ≤ 255) (hd : -1 ≤ d ∧ d ≤ 3) :
    Calls Tryd.prog 72 #[.int .u8 c, .int .i64 d] w fun e w' => e = .returned (.int .i64 (dOne c d)) ∧ w = w' := by
  have HO := Lib.hid (fun w => oneof_any sSM c _ (sSM_is h0 h1) w)
  have HD : Hid (∀ x, dOne c d = x ↔ dOne c d = x) := Lib.hid (fun _ => Iff.rfl)
  obtain ⟨b, hb⟩ : ∃ b, decide (c = 83 ∨ c = 77) = b := ⟨_, rfl⟩
  rw [hb] at HO
  unfold sSM at HO
  have w1 : IntKind.i64.wrap (d - 1) = d - 1 := IntWalk.i64_in _ (by omega)
  have HB := Lib.hid hb
  clear hb HD
  go_enter Tryd.func72, Tryd.ntmps72
  go_wp2_with fail
  refine (HO.out w).mono ?_
  rintro e w' ⟨rfl, rfl⟩
  cases b
  · have hb : ¬ (c = 83 ∨ c = 77) := by simpa using HB.out
    go_wp2_with fail
    all_goals
      go_ret
      refine ⟨ret_i ?_, rfl⟩
      try simp only [beq_iff_eq, beq_eq_false_iff_ne] at *
      unfold dOne
      rw [if_neg (fun h => hb h.1)]
      (repeat' split) <;> omega
  · have hb : c = 83 ∨ c = 77 := by simpa using HB.out
    go_wp2_with fail
    all_goals
      go_ret
      refine ⟨ret_i ?_, rfl⟩
      try simp only [beq_iff_eq, beq_eq_false_iff_ne] at *
      unfold dOne
      (repeat' split) <;> omega

set_option maxRecDepth 100000 in
set_option maxHeartbeats 1000000 in
theorem done_any (c d : Int) (w : World) (hd : -1 ≤ d ∧ d ≤ 3) :
    Calls Tryd.prog 67 #[.int .u8 c, .int .i64 d] w fun e w' => e = .returned (.int .i64 (dOne c d)) ∧ w = w' := by
  have w1 : IntKind.i64.wrap (d - 1) = d - 1 := IntWalk.i64_in _ (by omega)
  go_enter Tryd.func67, Tryd.ntmps67
  go_wp2_with fail
  all_goals
    go_ret
    refine ⟨ret_i ?_, rfl⟩
    try simp only [beq_iff_eq, beq_eq_false_iff_ne] at *
    unfold dOne
    (repeat' split) <;> omega

set_option maxRecDepth 100000 in
set_option maxHeartbeats 1000000 in
theorem dpair_any (c x y : Int) (w : World) :
    Calls Tryd.prog 73 #[.int .u8 c, .int .i64 x, .int .i64 y] w fun e w' => e = .returned (.int .i64 (dTwo c x y)) ∧ w = w' := by
  go_enter Tryd.func73, Tryd.ntmps73
  go_wp2_with fail
  all_goals
    go_ret
    refine ⟨ret_i ?_, rfl⟩
    try simp only [beq_iff_eq, beq_eq_false_iff_ne, bne_iff_ne, bne_eq_false_iff_eq, ne_eq] at *
    unfold dTwo
    (repeat' split) <;> omega

set_option maxRecDepth 100000 in
set_option maxHeartbeats 1000000 in
theorem dtwo_any (c x y : Int) (w : World) :
    Calls Tryd.prog 68 #[.int .u8 c, .int .i64 x, .int .i64 y] w fun e w' => e = .returned (.int .i64 (dTwo c x y)) ∧ w = w' := by
  go_enter Tryd.func68, Tryd.ntmps68
  go_wp2_with fail
  all_goals
    go_ret
    refine ⟨ret_i ?_, rfl⟩
    try simp only [beq_iff_eq, beq_eq_false_iff_ne] at *
    unfold dTwo
    (repeat' split) <;> omega

set_option maxRecDepth 100000 in
set_option maxHeartbeats 1000000 in
theorem dloop_any (c x y : Int) (w : World) (hc : c = 91 ∨ c = 123) (hy : -1 ≤ y ∧ y ≤ 3) :
    Calls Tryd.prog 74 #[.int .u8 c, .int .i64 x, .int .i64 y] w fun e w' => e = .returned (.int .i64 (dLoop c x y)) ∧ w = w' := by
  have w1 : IntKind.i64.wrap (y + 1) = y + 1 := IntWalk.i64_in _ (by omega)
  go_enter Tryd.func74, Tryd.ntmps74
  go_wp2_with fail
  all_goals
    go_ret
    refine ⟨ret_i ?_, rfl⟩
    try simp only [beq_iff_eq, beq_eq_false_iff_ne] at *
    unfold dLoop
    (repeat' split) <;> omega
end

section
open Go.RowKit Go.Maps

theorem vb {c : Int} (h : isV c = true) : 0 ≤ c ∧ c ≤ 255 := by
  unfold isV at h
  simp only [decide_eq_true_eq] at h
  omega
theorem lb {c : Int} (h : isL c = true) : 0 ≤ c ∧ c ≤ 255 := by
  unfold isL at h
  simp only [decide_eq_true_eq] at h
  omega
theorem pb {c : Int} (h : isP c = true) : 0 ≤ c ∧ c ≤ 255 := by
  unfold isP at h
  simp only [decide_eq_true_eq] at h
  omega

/-- What a map holds for a variable, as the lookup gives it. -/
theorem Reads.look {D : DataW Unit} {e : Int → Int} (h : Reads D e) {v c : Int} (h0 : 0 ≤ v) (h1 : v ≤ 255) (hc : D.atKey (.int .u8 v) (.lit (.int .i64 0)) = .lit (.int .i64 c)) :
    (Maps.has D (.int .u8 v) = false ∧ e v = -1) ∨ (Maps.has D (.int .u8 v) = true ∧ e v = c) := by
  refine (h.2 v h0 h1).imp id (fun ⟨a, b⟩ => ⟨a, ?_⟩)
  have := (b (.lit (.int .i64 0))).symm.trans hc
  cases this
  rfl

/-- What of answers at a term. -/
def DepP (x : Int) (w : World) (e : Ending) (w' : World) : Prop := e = .returned (.int .i64 x) ∧ w.grownBy w' none

set_option maxRecDepth 100000 in
set_option maxHeartbeats 2000000 in
theorem of_var (c : Int) (b m : Nat) (e : Int → Int) (w : World) (hv : isV c = true) (hm : VMap w b m e) :
    Calls Tryd.prog 49 #[.map (some b), .iface 51 (.int .u8 c)] w (DepP (e c) w) := by
  obtain ⟨D, ho, hr⟩ := hm
  have HR := Lib.hid (fun k h => hr.look (c := k) (vb hv).1 (vb hv).2 h)
  have hkey := keyV (vb hv).1 (vb hv).2
  have ht1 := fun xT u => ta_var_dig (.int .u8 c) xT u
  have ht2 := fun xT u => ta_var_var (.int .u8 c) xT u
  have ht3 := fun xT u => ta_var_pre (.int .u8 c) xT u
  have ht4 := fun xT u => ta_var_two (.int .u8 c) xT u
  have ht5 := fun xT u => ta_var_loop (.int .u8 c) xT u
  obtain ⟨hb, hhb⟩ : ∃ hb, Maps.has D (.int .u8 c) = hb := ⟨_, rfl⟩
  rw [hhb] at HR
  clear hr hv
  go_enter Tryd.func49, Tryd.ntmps49
  go_wp2_with (at_lookup; refine wpList_lookup_own_ok_int _ rfl _ _ 85 rfl 51 3 _ keyedV Tryd.underlying85 Tryd.underlying3 (zeroI _) b m D rfl ho _ _ rfl hkey ?_)
  intro k hk _
  have HK := Lib.hid (HR.out k hk)
  clear ho hk hkey hhb
  cases hb
  · go_wp2_with fail
    go_ret
    refine ⟨ret_i ?_, gr_refl _ _⟩
    rcases HK.out with ⟨_, h⟩ | ⟨h, _⟩
    · exact h.symm
    · cases h
  · go_wp2_with fail
    go_ret
    refine ⟨ret_i ?_, gr_refl _ _⟩
    rcases HK.out with ⟨h, _⟩ | ⟨_, h⟩
    · cases h
    · exact h.symm

set_option maxRecDepth 100000 in
set_option maxHeartbeats 2000000 in
theorem of_dig (c : Int) (v : Value) (w : World) :
    Calls Tryd.prog 49 #[v, .iface 98 (.int .u8 c)] w (DepP 0 w) := by
  have ht1 := fun xT u => ta_dig_dig (.int .u8 c) xT u
  go_enter Tryd.func49, Tryd.ntmps49
  go_wp2_with fail
  go_ret
  exact ⟨rfl, gr_refl _ _⟩

set_option maxRecDepth 100000 in
set_option maxHeartbeats 2000000 in
theorem of_pre (c d : Int) (b g : Nat) (x : Value) (w : World) (hc : isP c = true) (hd : -1 ≤ d ∧ d ≤ 3) (hh : w.heap[g]? = some (.cells #[.int .u8 c, x] 122 (0, 0)))
    (ih : ∀ u : World, w.grownBy u none → Calls Tryd.prog 49 #[.map (some b), x] u (DepP d u)) :
    Calls Tryd.prog 49 #[.map (some b), .iface 120 (.pointer (some ⟨g, 0, none⟩))] w (DepP (dOne c d) w) := by
  have ht1 := fun xT u => ta_pre_dig (.pointer (some ⟨g, 0, none⟩)) xT u
  have ht2 := fun xT u => ta_pre_var (.pointer (some ⟨g, 0, none⟩)) xT u
  have ht3 := fun xT u => ta_pre_pre (.pointer (some ⟨g, 0, none⟩)) xT u
  have HD := Lib.hid (fun w => dprefix_any c d w (pb hc).1 (pb hc).2 hd)
  generalize dOne c d = r at HD ⊢
  have c0 : w.cell? ⟨g, 0, none⟩ = some (.int .u8 c) := cell_of_row w g 0 _ _ (0, 0) hh
  have c1 : w.cell? ⟨g, 1, none⟩ = some x := cell_of_row w g 1 _ _ (0, 0) hh
  have HI := Lib.hid ih
  clear ih hh
  go_enter Tryd.func49, Tryd.ntmps49
  go_wp2_with fail
  go_region_law (first
    | (go_simp
       go_at_call 72
       refine (HD.out _).mono ?_
       rintro e wb ⟨rfl, rfl⟩
       have HDONE := Lib.hid True.intro)
    | (go_simp
       go_at_call 49
       refine (HI.out _ (gr_drewN w 1 none)).mono ?_
       rintro e wa ⟨rfl, hga⟩
       have HGa := Lib.hid ((gr_drewN w 1 none).trans hga)
       have c0a := HGa.out.cell c0 (by simp)
       clear hga))
  all_goals
    go_wp2_with fail
  all_goals
    go_ret
    exact ⟨rfl, HGa.out⟩
end
end

section
open Go.RowKit

theorem tmakeFunc_run (fn : Fn) (first cap : Array Value) (w : World) : (Instr.makeFunc fn first cap).run Tryd.prog w = .ok (.func fn first cap) w := rfl

theorem tcatch_fell (p q : Addr) (b : ByteArray) (x y : Value) (w : World) (hc : w.cell? p = some x) (hz : w.frozen? p = false) (hc2 : w.cell? q = some y) (hz2 : w.frozen? q = false) (hne : p.block ≠ q.block) :
    CallsD Tryd.prog 69 #[.pointer (some p), .pointer (some q)] (.panicking [{ v := .iface 9 (.string b), recovered := false }]) w fun e u' w' =>
      e = .returned (.tuple #[]) ∧ u' = .panicking [{ v := .iface 9 (.string b), recovered := true }] ∧ w' = (w.setCell p .nilIface).setCell q (.bool false) := by
  have hc3 : (w.setCell p .nilIface).cell? q = some y := (World.cell?_setCell_other w p q .nilIface (fun e => hne (by rw [e]))).trans hc2
  refine callsD_of_wpS Tryd.func69 rfl fun c₀ cs hu => ?_
  apply wpS_seq
  apply wpS_region
  simp [wpOpsS, go_sem, recoverD, hu, Tryd.ntmps69, Exit.thenS]
  refine wpS_cond (t := true) (by simp [Act.eval, Array.replicate]) ?_
  simp only [if_true]
  apply wpS_region
  simp [wpOpsS, go_sem, hc, hz, hc3, hz2, bodyPostS, results, Tryd.results69]

theorem tcatch_idle (p q : Addr) (w : World) :
    CallsD Tryd.prog 69 #[.pointer (some p), .pointer (some q)] .returning w fun e u' w' => e = .returned (.tuple #[]) ∧ u' = .returning ∧ w' = w := by
  refine callsD_of_wpS Tryd.func69 rfl fun c₀ cs hu => ?_
  apply wpS_seq
  apply wpS_region
  simp [wpOpsS, go_sem, recoverD, hu, Tryd.ntmps69, Exit.thenS]
  refine wpS_cond (t := false) (by simp [Act.eval, Array.replicate]) ?_
  simp only [Bool.false_eq_true, if_false]
  refine wpS_of_wp (wp_skip ?_)
  cases c₀
  simp_all [bodyPostS, results, Tryd.results69]

/-- How readTerm ends: without a term; with one. -/
def TermNo (w : World) (e : Ending) (w' : World) : Prop := e = .returned (.tuple #[.nilIface, .bool false]) ∧ w.grownBy w' none
def TermYes (t : Tm) (w : World) (e : Ending) (w' : World) : Prop :=
  ∃ v, e = .returned (.tuple #[v, .bool true]) ∧ w.grownBy w' none ∧ PT w' (fun b => w.heap.size ≤ b) t v
def TermPost (s : ByteArray) (w : World) (e : Ending) (w' : World) : Prop := match readT s with
  | some t => TermYes t w e w'
  | none => TermNo w e w'
theorem termPost_no {s : ByteArray} {w w' : World} {e : Ending} (hr : readT s = none) (he : e = .returned (.tuple #[.nilIface, .bool false])) (hg : w.grownBy w' none) : TermPost s w e w' := by
  unfold TermPost
  rw [hr]
  exact ⟨he, hg⟩
theorem termPost_yes {s : ByteArray} {t : Tm} {v : Value} {w w' : World} {e : Ending} (hr : readT s = some t) (he : e = .returned (.tuple #[v, .bool true])) (hg : w.grownBy w' none) (ha : PT w' (fun b => w.heap.size ≤ b) t v) : TermPost s w e w' := by
  unfold TermPost
  rw [hr]
  exact ⟨v, he, hg, ha⟩

set_option maxHeartbeats 400000 in
theorem term_out (s : ByteArray) (w : World) (h : 80 < s.size) :
    Calls Tryd.prog 48 #[.string s] w (TermPost s w) := by
  have hmf := tmakeFunc_run
  have HR := Lib.hid (readT_long h)
  go_enter_defers Tryd.func48, Tryd.ntmps48
  go_wp2_with fail
  all_goals
    refine leaves_cons (f := 69) (args := #[.pointer (some ⟨w.heap.size, 0, none⟩), .pointer (some ⟨w.heap.size + 1, 0, none⟩)]) (by simp) (by simp [go_sem]) ?_
    refine (tcatch_idle _ _ _).mono ?_
    rintro e u' w'' ⟨rfl, rfl, rfl⟩
    simp [Leaves, settle, results, Tryd.results48, go_sem]
    exact termPost_no HR.out rfl ((World.grownBy_alloc _ _ _).trans (World.grownBy_alloc _ _ _))

theorem tgr_set_new {w w1 : World} {g i : Nat} (h : w.grownBy w1 none) (hg : w.heap.size ≤ g) (u : Value) : w.grownBy (w1.setCell ⟨g, i, none⟩ u) none := gr_new h (gr_set w1 g i u) hg
theorem tfrozen_grown {w w' : World} {row : Option Nat} (h : w.grownBy w' row) {b i : Nat} (hb : b < w.heap.size) (hne : some b ≠ row) (hf : w.frozen? ⟨b, i, none⟩ = false) : w'.frozen? ⟨b, i, none⟩ = false :=
  (World.frozen?_of_block (w := w) (a := ⟨b, i, none⟩) (h.block b hb hne)).trans hf
theorem trd_new {w : World} {k : Nat} (s : ByteArray) (hk : w.heap.size = k) : TRd (w.alloc (.cells #[.string s, .int .i64 0] 117)) k s 0 := by
  subst hk
  exact heap_alloc_new _ _

theorem tcell_two (w : World) (x y : Value) (tx ty : TypeId) : ((w.alloc (.cells #[x] tx)).alloc (.cells #[y] ty)).cell? ⟨w.heap.size, 0, none⟩ = some x ∧ ((w.alloc (.cells #[x] tx)).alloc (.cells #[y] ty)).cell? ⟨w.heap.size + 1, 0, none⟩ = some y := by
  have e : (w.alloc (.cells #[x] tx)).heap.size = w.heap.size + 1 := by simp
  constructor
  · exact cell_of_row _ _ 0 _ _ (0, 0) ((Below.heap_alloc _ _ _ (by omega)).trans (heap_alloc_new _ _))
  · have h := cell_of_row _ _ 0 _ _ (0, 0) (heap_alloc_new (w.alloc (.cells #[x] tx)) (.cells #[y] ty))
    rw [e] at h
    exact h

/-- The blocks that readTerm makes first: the two results and the reader. -/
structure TThree (w w3 : World) : Prop where
  gr : w.grownBy w3 none
  size : w3.heap.size = w.heap.size + 3
  c0 : w3.cell? ⟨w.heap.size, 0, none⟩ = some .nilIface
  f0 : w3.frozen? ⟨w.heap.size, 0, none⟩ = false
  c1 : w3.cell? ⟨w.heap.size + 1, 0, none⟩ = some (.bool false)
  f1 : w3.frozen? ⟨w.heap.size + 1, 0, none⟩ = false
theorem tthree (w : World) (s : ByteArray) : TThree w (((w.alloc (.cells #[.nilIface] 43)).alloc (.cells #[.bool false] 4)).alloc (.cells #[.string s, .int .i64 0] 117)) := by
  have h := tcell_two w .nilIface (.bool false) 43 4
  refine ⟨(World.grownBy_alloc _ _ _).trans ((World.grownBy_alloc _ _ _).trans (World.grownBy_alloc _ _ _)), by simp, ?_, ?_, ?_, ?_⟩
  · rw [World.cell?_alloc_lt _ _ _ (by simp; omega)]; exact h.1
  · simp [go_sem]
  · rw [World.cell?_alloc_lt _ _ _ (by simp)]; exact h.2
  · simp [go_sem]

set_option maxHeartbeats 1000000 in
theorem term_in (s : ByteArray) (w : World) (hs : s.size ≤ 80) :
    Calls Tryd.prog 48 #[.string s] w (TermPost s w) := by
  have hmf := tmakeFunc_run
  go_enter_defers Tryd.func48, Tryd.ntmps48
  go_wp2_with fail
  clear hmf
  refine (tread_any _ s (by omega) (s.size + 1) 0 _ (by omega) (by omega) (trd_new s (by simp))).mono ?_
  have H3 := Lib.hid (tthree w s)
  generalize ((w.alloc (.cells #[.nilIface] 43)).alloc (.cells #[.bool false] 4)).alloc (.cells #[.string s, .int .i64 0] 117) = w3 at H3
  rintro e w4 ⟨hg4, ⟨t, q, v, hn, rfl, hr4, ha4⟩ | ⟨hn, b, rfl⟩⟩
  · have hs3 := H3.out.size
    have hc0 := hg4.cell H3.out.c0 (by simp; omega)
    have hf0 := tfrozen_grown hg4 (by omega) (by simp; omega) H3.out.f0
    have hc1 := hg4.cell H3.out.c1 (by simp)
    have hf1 := tfrozen_grown hg4 (by omega) (by simp) H3.out.f1
    have HG4 := Lib.hid hg4
    have HN := Lib.hid hn
    have HR4 := Lib.hid hr4
    have HA4 := Lib.hid ha4
    have hz4 := hg4.size
    have hqs := (tm_ge s _ _ t q hn).2.1
    obtain ⟨ty, pv, rfl⟩ := ha4.iface
    clear hg4 hn hr4 ha4
    go_wp2_with fail
    have HR5 := Lib.hid (HR4.out.grown (gr_set w4 w.heap.size 0 (.iface ty pv)) (by simp; omega))
    by_cases hend : q = s.size
    · refine (end_yes _ q s _ HR5.out (by omega)).mono ?_
      rintro e w6 ⟨rfl, n6, rfl⟩
      have HE := Lib.hid hend
      clear hend
      go_wp2_with fail
      refine leaves_cons (f := 69) (args := #[.pointer (some ⟨w.heap.size, 0, none⟩), .pointer (some ⟨w.heap.size + 1, 0, none⟩)]) (by simp) (by simp [go_sem]) ?_
      refine (tcatch_idle _ _ _).mono ?_
      rintro e u' w'' ⟨rfl, rfl, rfl⟩
      simp [Leaves, settle, results, Tryd.results48, go_sem, hc0, hc1]
      have hr : readT s = some t := by
        unfold readT
        rw [HN.out]
        exact if_pos ⟨HE.out, hs⟩
      have hg0 := gr_new H3.out.gr HG4.out (by omega)
      have hg1 : w.grownBy ((w4.setCell ⟨w.heap.size, 0, none⟩ (.iface ty pv)).drewN n6) none := (tgr_set_new hg0 (by omega) (.iface ty pv)).trans (gr_drewN _ n6 none)
      refine termPost_yes hr rfl (tgr_set_new (tgr_set_new hg1 (by omega) _) (by omega) _) (PT.keep ?_ ?_ t _ HA4.out)
      · intro b hb _
        rw [Below.heap_setCell _ _ _ _ (by simp; omega), Below.heap_setCell _ _ _ _ (by simp; omega)]
        exact Below.heap_setCell _ _ _ _ (by simp; omega)
      · intro b hb _
        omega
    · refine (end_no _ q s _ HR5.out (by omega)).mono ?_
      rintro e w6 ⟨⟨b, rfl⟩, hg6⟩
      have hr : readT s = none := by
        unfold readT
        rw [HN.out]
        exact if_neg (fun h => hend h.1)
      have HR := Lib.hid hr
      have hb0 : ((w4.setCell ⟨w.heap.size, 0, none⟩ (.iface ty pv)).cell? ⟨w.heap.size, 0, none⟩) = some (.iface ty pv) := by simp [go_sem, hc0]
      have hg5 := gr_set w4 w.heap.size 0 (.iface ty pv)
      have hb1 := hg5.cell hc1 (by simp)
      have hbf0 := (by simpa [go_sem] using hf0 : (w4.setCell ⟨w.heap.size, 0, none⟩ (.iface ty pv)).frozen? ⟨w.heap.size, 0, none⟩ = false)
      have hbf1 := tfrozen_grown hg5 (by omega) (by simp) hf1
      have hd0 := hg6.cell hb0 (by simp; omega)
      have hd1 := hg6.cell hb1 (by simp)
      have hdf0 := tfrozen_grown hg6 (by simp; omega) (by simp; omega) hbf0
      have hdf1 := tfrozen_grown hg6 (by simp; omega) (by simp) hbf1
      have HG := Lib.hid (gr_new (tgr_set_new (gr_new H3.out.gr HG4.out (by omega)) (by omega) (.iface ty pv)) hg6 (by omega))
      clear hr hb0 hg5 hb1 hbf0 hbf1 hg6 hc0 hc1 hf0 hf1
      refine leaves_cons (f := 69) (args := #[.pointer (some ⟨w.heap.size, 0, none⟩), .pointer (some ⟨w.heap.size + 1, 0, none⟩)]) (by simp) (by simp [go_sem]) ?_
      refine (tcatch_fell _ _ b _ _ _ hd0 hdf0 hd1 hdf1 (by simp)).mono ?_
      rintro e u' w'' ⟨rfl, rfl, rfl⟩
      simp [Leaves, settle, results, Tryd.results48, go_sem, hd0, hd1]
      exact termPost_no HR.out rfl (tgr_set_new (tgr_set_new HG.out (by omega) _) (by omega) _)
  · have hs3 := H3.out.size
    have hc0 := hg4.cell H3.out.c0 (by simp; omega)
    have hf0 := tfrozen_grown hg4 (by omega) (by simp; omega) H3.out.f0
    have hc1 := hg4.cell H3.out.c1 (by simp)
    have hf1 := tfrozen_grown hg4 (by omega) (by simp) H3.out.f1
    have hr : readT s = none := by unfold readT; rw [hn]
    have HR := Lib.hid hr
    have HG := Lib.hid (gr_new H3.out.gr hg4 (by omega))
    clear hr hn hg4
    refine leaves_cons (f := 69) (args := #[.pointer (some ⟨w.heap.size, 0, none⟩), .pointer (some ⟨w.heap.size + 1, 0, none⟩)]) (by simp) (by simp [go_sem]) ?_
    refine (tcatch_fell _ _ b _ _ _ hc0 hf0 hc1 hf1 (by simp)).mono ?_
    rintro e u' w'' ⟨rfl, rfl, rfl⟩
    simp [Leaves, settle, results, Tryd.results48, go_sem, hc0, hc1]
    exact termPost_no HR.out rfl (tgr_set_new (tgr_set_new HG.out (by omega) _) (by omega) _)

theorem term_any (s : ByteArray) (w : World) : Calls Tryd.prog 48 #[.string s] w (TermPost s w) := by
  rcases Nat.lt_or_ge 80 s.size with h | h
  · exact term_out s w h
  · exact term_in s w h
end

section
section
open Go.RowKit Go.Maps

set_option maxRecDepth 100000 in
set_option maxHeartbeats 4000000 in
theorem of_two (c d1 d2 : Int) (b g : Nat) (x y : Value) (w : World) (hh : w.heap[g]? = some (.cells #[.int .u8 c, x, y] 125 (0, 0)))
    (ih1 : ∀ u : World, w.grownBy u none → Calls Tryd.prog 49 #[.map (some b), x] u (DepP d1 u))
    (ih2 : ∀ u : World, w.grownBy u none → Calls Tryd.prog 49 #[.map (some b), y] u (DepP d2 u)) :
    Calls Tryd.prog 49 #[.map (some b), .iface 123 (.pointer (some ⟨g, 0, none⟩))] w (DepP (dTwo c d1 d2) w) := by
  have ht1 := fun xT u => ta_two_dig (.pointer (some ⟨g, 0, none⟩)) xT u
  have ht2 := fun xT u => ta_two_var (.pointer (some ⟨g, 0, none⟩)) xT u
  have ht3 := fun xT u => ta_two_pre (.pointer (some ⟨g, 0, none⟩)) xT u
  have ht4 := fun xT u => ta_two_two (.pointer (some ⟨g, 0, none⟩)) xT u
  have HD := Lib.hid (fun w => dpair_any c d1 d2 w)
  generalize dTwo c d1 d2 = r at HD ⊢
  have c0 : w.cell? ⟨g, 0, none⟩ = some (.int .u8 c) := cell_of_row w g 0 _ _ (0, 0) hh
  have c1 : w.cell? ⟨g, 1, none⟩ = some x := cell_of_row w g 1 _ _ (0, 0) hh
  have c2 : w.cell? ⟨g, 2, none⟩ = some y := cell_of_row w g 2 _ _ (0, 0) hh
  have HI1 := Lib.hid ih1
  have HI2 := Lib.hid ih2
  clear ih1 ih2 hh
  go_enter Tryd.func49, Tryd.ntmps49
  go_wp2_with fail
  go_region_law (first
    | (go_simp
       go_at_call 73
       refine (HD.out _).mono ?_
       rintro e wb ⟨rfl, rfl⟩
       have HDONE := Lib.hid True.intro)
    | (go_simp
       go_at_call 49
       refine (HI2.out _ HGa.out).mono ?_
       rintro e wc ⟨rfl, hgc⟩
       have HGc := Lib.hid (HGa.out.trans hgc)
       have c0c := HGc.out.cell c0 (by simp)
       clear hgc)
    | (go_simp
       go_at_call 49
       refine (HI1.out _ (gr_drewN w 1 none)).mono ?_
       rintro e wa ⟨rfl, hga⟩
       have HGa := Lib.hid ((gr_drewN w 1 none).trans hga)
       have c0a := HGa.out.cell c0 (by simp)
       have c2a := HGa.out.cell c2 (by simp)
       clear hga))
  all_goals
    go_wp2_with fail
  all_goals
    go_ret
    exact ⟨rfl, HGc.out⟩

set_option maxRecDepth 100000 in
set_option maxHeartbeats 4000000 in
theorem of_loop (c i d1 d2 : Int) (b m g : Nat) (en : Int → Int) (x y : Value) (w : World) (hc : c = 91 ∨ c = 123) (hi0 : 0 ≤ i) (hi1 : i ≤ 255) (hd1 : -1 ≤ d1 ∧ d1 ≤ 3) (hd2 : -1 ≤ d2 ∧ d2 ≤ 3) (hm : m ≤ 1000000) (hmap : VMap w b m en)
    (hh : w.heap[g]? = some (.cells #[.int .u8 c, .int .u8 i, x, y] 127 (0, 0)))
    (ih1 : ∀ u : World, w.grownBy u none → Calls Tryd.prog 49 #[.map (some b), x] u (DepP d1 u))
    (ih2 : 1 ≤ d1 → ∀ (u : World) (b' : Nat), w.grownBy u none → VMap u b' (m + 1) (upd en i (d1 - 1)) → Calls Tryd.prog 49 #[.map (some b'), y] u (DepP d2 u)) :
    Calls Tryd.prog 49 #[.map (some b), .iface 100 (.pointer (some ⟨g, 0, none⟩))] w (DepP (if 1 ≤ d1 then dLoop c d1 d2 else -1) w) := by
  have ht1 := fun xT u => ta_loop_dig (.pointer (some ⟨g, 0, none⟩)) xT u
  have ht2 := fun xT u => ta_loop_var (.pointer (some ⟨g, 0, none⟩)) xT u
  have ht3 := fun xT u => ta_loop_pre (.pointer (some ⟨g, 0, none⟩)) xT u
  have ht4 := fun xT u => ta_loop_two (.pointer (some ⟨g, 0, none⟩)) xT u
  have ht5 := fun xT u => ta_loop_loop (.pointer (some ⟨g, 0, none⟩)) xT u
  have HD := Lib.hid (fun w => dloop_any c d1 d2 w hc hd2)
  obtain ⟨r, hr⟩ : ∃ r, dLoop c d1 d2 = r := ⟨_, rfl⟩
  rw [hr] at HD ⊢
  have c0 : w.cell? ⟨g, 0, none⟩ = some (.int .u8 c) := cell_of_row w g 0 _ _ (0, 0) hh
  have c1 : w.cell? ⟨g, 1, none⟩ = some (.int .u8 i) := cell_of_row w g 1 _ _ (0, 0) hh
  have c2 : w.cell? ⟨g, 2, none⟩ = some x := cell_of_row w g 2 _ _ (0, 0) hh
  have C0 := Lib.hid c0
  have C3 := Lib.hid (show w.cell? ⟨g, 3, none⟩ = some y from cell_of_row w g 3 _ _ (0, 0) hh)
  have HI1 := Lib.hid ih1
  have HI2 := Lib.hid ih2
  have HM := Lib.hid hmap
  have w1 : IntKind.i64.wrap (d1 - 1) = d1 - 1 := IntWalk.i64_in _ (by omega)
  clear ih1 ih2 hh hr hc hmap
  by_cases h1 : 1 ≤ d1
  · have hn : ¬ (d1 < 1) := by omega
    rw [if_pos h1]
    go_enter Tryd.func49, Tryd.ntmps49
    go_wp2_with fail
    refine (HI1.out _ (gr_refl _ _)).mono ?_
    rintro e wa ⟨rfl, hga⟩
    have HGa := Lib.hid hga
    have c0a := HGa.out.cell c0 (by simp)
    have c1a := HGa.out.cell c1 (by simp)
    have c3a := HGa.out.cell C3.out (by simp)
    clear hga c0 c1 c2
    go_wp2_with fail
    go_region_law (first
      | (go_simp
         go_at_call 74
         refine (HD.out _).mono ?_
         rintro e wb ⟨rfl, rfl⟩
         have HDONE := Lib.hid True.intro)
      | (go_simp
         go_at_call 49
         refine (HI2.out h1 _ _ HGb.out HVb.out).mono ?_
         rintro e wc ⟨rfl, hgc⟩
         have HGc := Lib.hid (HGb.out.trans hgc)
         have c0c := HGc.out.cell C0.out (by simp)
         clear hgc)
      | (go_simp
         go_at_call 75
         refine (with_any b m en i (d1 - 1) _ hi0 hi1 (by omega) hm ((HM.out.grown HGa.out).grown (gr_drewN wa 1 none))).mono ?_
         rintro e wb ⟨b', rfl, hgb, hvb⟩
         have HGb := Lib.hid ((HGa.out.trans (gr_drewN wa 1 none)).trans hgb)
         have HVb := Lib.hid hvb
         have c0b := ((gr_drewN wa 1 none).trans hgb).cell c0a (by simp)
         have c3b := ((gr_drewN wa 1 none).trans hgb).cell c3a (by simp)
         clear hgb hvb))
    all_goals
      go_wp2_with fail
    all_goals
      go_ret
      exact ⟨rfl, HGc.out⟩
  · rw [if_neg h1]
    have hn : d1 < 1 := by omega
    go_enter Tryd.func49, Tryd.ntmps49
    go_wp2_with fail
    refine (HI1.out _ (gr_refl _ _)).mono ?_
    rintro e wa ⟨rfl, hga⟩
    have HGa := Lib.hid hga
    have c0a := HGa.out.cell c0 (by simp)
    have c1a := HGa.out.cell c1 (by simp)
    have c3a := HGa.out.cell C3.out (by simp)
    clear hga c0 c1 c2
    go_wp2_with fail
    go_ret
    exact ⟨rfl, HGa.out⟩
end

section
open Go.RowKit Go.Maps

theorem of_any : ∀ (n : Nat) (t : Tm) (S : Nat → Prop) (v : Value) (b m : Nat) (e : Int → Int) (w : World), t.size ≤ n → n + m ≤ 1000000 → t.Ok → (∀ c, -1 ≤ e c ∧ e c ≤ 3) → PT w S t v → VMap w b m e →
    Calls Tryd.prog 49 #[.map (some b), v] w (DepP (t.depth e) w)
  | 0, t, _, _, _, _, _, _, hn, _, _, _, _, _ => by have := t.size_pos; omega
  | n + 1, .dig c, S, v, b, m, e, w, hn, hb, ho, he, h, hm => by cases h; exact of_dig c _ w
  | n + 1, .var c, S, v, b, m, e, w, hn, hb, ho, he, h, hm => by cases h; exact of_var c b m e w ho hm
  | n + 1, .pre c s, S, v, b, m, e, w, hn, hb, ho, he, h, hm => by
    obtain ⟨g, x, rfl, _, hh, hx⟩ := h
    simp only [Tm.size] at hn
    exact of_pre c _ b g x w ho.1 (s.depth_bd e he) hh (fun u hu => of_any n s S x b m e u (by omega) (by omega) ho.2 he (hx.grown hu) (hm.grown hu))
  | n + 1, .two c s t, S, v, b, m, e, w, hn, hb, ho, he, h, hm => by
    obtain ⟨g, x, y, rfl, _, hh, hx, hy⟩ := h
    simp only [Tm.size] at hn
    exact of_two c _ _ b g x y w hh (fun u hu => of_any n s S x b m e u (by omega) (by omega) ho.2.1 he (hx.grown hu) (hm.grown hu))
      (fun u hu => of_any n t S y b m e u (by omega) (by omega) ho.2.2 he (hy.grown hu) (hm.grown hu))
  | n + 1, .loop c i s t, S, v, b, m, e, w, hn, hb, ho, he, h, hm => by
    obtain ⟨g, x, y, rfl, _, hh, hx, hy⟩ := h
    simp only [Tm.size] at hn
    have hd1 := s.depth_bd e he
    have hbu := upd_bd he i (d := if 1 ≤ s.depth e then s.depth e - 1 else 0) (by split <;> omega)
    have hd2 := t.depth_bd _ hbu
    by_cases h1 : 1 ≤ s.depth e
    · rw [if_pos h1] at hbu hd2
      exact of_loop c i _ _ b m g e x y w ho.1 (lb ho.2.1).1 (lb ho.2.1).2 hd1 hd2 (by omega) hm hh (fun u hu => of_any n s S x b m e u (by omega) (by omega) ho.2.2.1 he (hx.grown hu) (hm.grown hu))
        (fun _ u b' hu hm' => of_any n t S y b' (m + 1) _ u (by omega) (by omega) ho.2.2.2 hbu (hy.grown hu) hm')
    · have := of_loop c i (s.depth e) 0 b m g e x y w ho.1 (lb ho.2.1).1 (lb ho.2.1).2 hd1 (by omega) (by omega) hm hh (fun u hu => of_any n s S x b m e u (by omega) (by omega) ho.2.2.1 he (hx.grown hu) (hm.grown hu))
        (fun h => absurd h h1)
      rw [if_neg h1] at this
      simp only [Tm.depth]
      rw [if_neg h1]
      exact this

/-- The depth of a text. -/
def depthA (s : ByteArray) : Int := match readT s with
  | some t => t.depth env0
  | none => -1
theorem depthA_bd (s : ByteArray) : -1 ≤ depthA s ∧ depthA s ≤ 3 := by
  unfold depthA
  cases readT s with
  | none => simp
  | some t => exact t.depth_bd env0 env0_bd

set_option maxRecDepth 100000 in
set_option maxHeartbeats 2000000 in
theorem tdepth_impl (s : ByteArray) (w : World) :
    Calls Tryd.prog 37 #[.string s] w (DepP (depthA s) w) := by
  have H := Lib.hid (term_any s w)
  have hmm := @run_makeMap Tryd.prog
  obtain ⟨r, hb⟩ : ∃ b, depthA s = b := ⟨_, rfl⟩
  rw [hb]
  have HB := Lib.hid hb
  clear hb
  go_enter Tryd.func37, Tryd.ntmps37
  go_wp2_with fail
  refine H.out.mono ?_
  intro e w0 hp
  unfold TermPost at hp
  have hb := HB.out
  unfold depthA at hb
  cases hr : readT s with
  | none =>
    rw [hr] at hp hb
    subst hb
    obtain ⟨rfl, hg⟩ := hp
    have HG := Lib.hid hg
    clear hg hr
    go_wp2_with fail
    go_ret
    exact ⟨rfl, HG.out⟩
  | some t =>
    rw [hr] at hp hb
    obtain ⟨v, rfl, hg, hpt⟩ := hp
    have HG := Lib.hid hg
    have HP := Lib.hid hpt
    have HSS := Lib.hid hb
    have HRT := Lib.hid hr
    have own0 := World.ownsMap_made w0 Tryd.prog 51 (plainElem (H := Unit) Tryd.prog 3)
    obtain ⟨w1, hr1, own1, hg1⟩ := own0.update keyedV Tryd.underlying85 (by decide) (keyV (v := 97) (by decide) (by decide)) (plainElem_int Tryd.underlying3 (i64wf (d := 1) (by decide) (by decide)))
    obtain ⟨w2, hr2, own2, hg2⟩ := own1.update keyedV Tryd.underlying85 (by decide) (keyV (v := 98) (by decide) (by decide)) (plainElem_int Tryd.underlying3 (i64wf (d := 2) (by decide) (by decide)))
    have hgr : w0.grownBy w2 none := gr_new (gr_new (World.grownBy_alloc w0 _ none) hg1 (Nat.le_refl _)) hg2 (Nat.le_refl _)
    have hvm : VMap w2 w0.heap.size 2 env0 := ⟨_, own2, by
      have h0 : Reads (.map []) (fun _ => -1) := ⟨⟨_, rfl⟩, fun v _ _ => .inl ⟨rfl, rfl⟩⟩
      have := (h0.put 97 1).put 98 2
      rw [show env0 = upd (upd (fun _ => -1) 97 1) 98 2 from by
        funext c
        unfold env0 upd
        by_cases h1 : c = 97
        · subst h1; rfl
        · simp [h1]]
      exact this⟩
    have hok := readT_some hr
    have HC := Lib.hid (of_any 80 t _ v _ 2 env0 w2 hok.2.2.2 (by omega) hok.2.2.1 env0_bd (hpt.grown hgr) hvm)
    rw [show t.depth env0 = r from hb] at HC
    have HGR := Lib.hid (hg.trans hgr)
    clear hg hpt hr hb own0 own1 own2 hg1 hg2 hgr hvm hok
    go_wp2_with fail
    refine HC.out.mono ?_
    rintro e w3 ⟨rfl, hg3⟩
    have HG3 := Lib.hid hg3
    clear hg3
    go_wp2_with fail
    go_ret
    exact ⟨rfl, HGR.out.trans HG3.out⟩
end
end

section
section
open Go.RowKit

abbrev TE : TypeId := 110
def pve (P : List Int) : Array Value := (P.map (Value.int .i64)).toArray
theorem pve_size (P : List Int) : (pve P).size = P.length := by simp [pve]
theorem zeroE : (∀ w, (zeroValue TE).run Tryd.prog w = .ok (.agg (Array.replicate 256 (.int .i64 0))) w) ∧ (Tryd.prog.info? TE).map (·.size) = some 256 := zero_of_info (by kernel_rfl)
theorem underE : Tryd.prog.underlying TE = some (.array 256 3) := by kernel_rfl
theorem pve_zero : pve (List.replicate 256 0) = Array.replicate 256 (.int .i64 0) := by
  simp only [pve, List.map_replicate, List.toArray_replicate]

/-- A block that holds an array of 256 numbers. -/
def A256 (w : World) (g : Nat) (P : List Int) : Prop := w.heap[g]? = some (.cells (pve P) TE (0, 0)) ∧ P.length = 256
theorem A256.lt {w : World} {g : Nat} {P : List Int} (h : A256 w g P) : g < w.heap.size := (Array.getElem?_eq_some_iff.1 h.1).1
theorem A256.new (w : World) {P : List Int} (h : P.length = 256) : A256 (w.alloc (.cells (pve P) TE)) w.heap.size P := ⟨heap_alloc_last w _, h⟩
theorem A256.grown {w w' : World} {g : Nat} {P : List Int} {row : Option Nat} (h : A256 w g P) (hg : w.grownBy w' row) (hne : some g ≠ row) : A256 w' g P := ⟨(hg.block g h.lt hne).trans h.1, h.2⟩
theorem A256.own {w : World} {g : Nat} {P : List Int} (h : A256 w g P) : w.ownsRow 0 TE 1 (.slice (some ⟨g, 0, none⟩) 256 256) 256 (P.map (Value.int .i64)) :=
  ⟨by simp [h.2], .inr ⟨g, 256, pve P, rfl, Nat.zero_le _, h.1, Nat.le_refl _, by simp [maxLen], by rw [pve_size, h.2], by simp [pve]; rw [← h.2, ← List.length_map (f := Value.int .i64), List.take_length]⟩⟩
theorem A256.cell {w : World} {g : Nat} {P : List Int} (h : A256 w g P) {j : Nat} {x : Int} (hj : P[j]? = some x) : w.cell? ⟨g, j, none⟩ = some (.int .i64 x) := by
  have hl := (List.getElem?_eq_some_iff.1 hj).1
  have h1 := h.own.cellAt j (by have := h.2; omega)
  rw [h1, List.getElem?_map, hj]
  rfl
theorem A256.frozen {w : World} {g : Nat} {P : List Int} (h : A256 w g P) (j : Nat) : w.frozen? ⟨g, j, none⟩ = false := h.own.frozenAt j
theorem A256.set {w : World} {g : Nat} {P : List Int} (h : A256 w g P) (j : Nat) (x : Int) : A256 (w.setCell ⟨g, j, none⟩ (.int .i64 x)) g (P.set j x) ∧ w.grownBy (w.setCell ⟨g, j, none⟩ (.int .i64 x)) (some g) := by
  refine ⟨⟨?_, by rw [List.length_set]; exact h.2⟩, (h.own.stored j _).2⟩
  rw [heap_setCell_same w g j (pve P) TE (.int .i64 x) h.1]
  simp [pve, List.map_set]

/-- .. that says what depths variables have. -/
def EnvAt (w : World) (g : Nat) (e : Int → Int) : Prop := ∃ P, A256 w g P ∧ ∀ k : Nat, k < 256 → P[k]? = some (e (k : Int))
theorem EnvAt.lt {w : World} {g : Nat} {e : Int → Int} (h : EnvAt w g e) : g < w.heap.size := by
  obtain ⟨P, h1, _⟩ := h
  exact h1.lt
theorem EnvAt.grown {w w' : World} {g : Nat} {e : Int → Int} (h : EnvAt w g e) (hg : w.grownBy w' none) : EnvAt w' g e := by
  obtain ⟨P, h1, h2⟩ := h
  exact ⟨P, h1.grown hg (by simp), h2⟩
theorem EnvAt.cell {w : World} {g : Nat} {e : Int → Int} (h : EnvAt w g e) {k : Nat} (hk : k < 256) : w.cell? ⟨g, k, none⟩ = some (.int .i64 (e (k : Int))) := by
  obtain ⟨P, h1, h2⟩ := h
  exact h1.cell (h2 k hk)
theorem EnvAt.frozen {w : World} {g : Nat} {e : Int → Int} (h : EnvAt w g e) (k : Nat) : w.frozen? ⟨g, k, none⟩ = false := by
  obtain ⟨P, h1, _⟩ := h
  exact h1.frozen k
theorem EnvAt.set {w : World} {g : Nat} {e : Int → Int} (h : EnvAt w g e) (k : Nat) (d : Int) : EnvAt (w.setCell ⟨g, k, none⟩ (.int .i64 d)) g (upd e k d) ∧ w.grownBy (w.setCell ⟨g, k, none⟩ (.int .i64 d)) (some g) := by
  obtain ⟨P, h1, h2⟩ := h
  refine ⟨⟨_, (h1.set k d).1, fun j hj => ?_⟩, (h1.set k d).2⟩
  rw [List.getElem?_set]
  unfold upd
  by_cases hjk : k = j
  · subst hjk
    simp
    rw [h1.2]; exact hj
  · have : ¬ ((j : Int) = (k : Int)) := by omega
    rw [if_neg hjk, if_neg this]
    exact h2 j hj
theorem upd_back (e : Int → Int) (k d : Int) : upd (upd e k d) k (e k) = e := by
  funext c
  unfold upd
  by_cases h : c = k
  · rw [if_pos h, h]
  · rw [if_neg h, if_neg h]

set_option maxRecDepth 100000 in
set_option maxHeartbeats 2000000 in
theorem sstart_any (w : World) :
    Calls Tryd.prog 46 #[] w fun e w' => ∃ g, e = .returned (.pointer (some ⟨g, 0, none⟩)) ∧ w.heap.size ≤ g ∧ w.grownBy w' none ∧ EnvAt w' g env0 := by
  have hz : ∀ w, (zeroValue 110).run Tryd.prog w = .ok (.agg (Array.replicate 256 (.int .i64 0))) w := zeroE.1
  have HA0 := Lib.hid (by have := A256.new w (P := List.replicate 256 0) (by simp); rw [pve_zero] at this; exact this)
  have HG0 := Lib.hid (World.grownBy_alloc w (.cells (Array.replicate 256 (.int .i64 0)) TE) none)
  go_enter Tryd.func46, Tryd.ntmps46
  go_wp2_with fail
  go_loopw [5] (fun i wr => ∃ (j : Nat) (P : List Int), j ≤ 256 ∧ i = .int .i64 j ∧ Hid (A256 wr w.heap.size P) ∧ Hid (∀ k : Nat, k < j → P[k]? = some (-1)) ∧ Hid (w.grownBy wr none)) (fun i _ => 256 - (intOf i).toNat)
  case atStart => exact ⟨0, _, Nat.zero_le _, rfl, HA0, Lib.hid (fun k hk => by omega), HG0⟩
  case round =>
    obtain ⟨j, P, hj, rfl, ha, hp, hgr⟩ := hrel
    have hfr := ha.out.frozen
    by_cases hlt : j < 256
    · have hpl := ha.out.2
      obtain ⟨x, hx⟩ : ∃ x, P[j]? = some x := ⟨_, List.getElem?_eq_getElem (by omega)⟩
      have hcell := ha.out.cell hx
      have hset := ha.out.set j (-1)
      have HST := Lib.hid hset
      have HP2 : Hid (∀ k : Nat, k < j + 1 → (P.set j (-1))[k]? = some (-1)) := Lib.hid (fun k hk => by
        rw [List.getElem?_set]
        by_cases hjk : j = k
        · rw [if_pos hjk, if_pos (by rw [hpl]; exact hlt)]
        · rw [if_neg hjk]; exact hp.out k (by omega))
      clear hset hx hpl
      go_wp2_with fail
      go_roundw
      case rel => exact ⟨j + 1, _, by omega, by go_num, Lib.hid HST.out.1, HP2, Lib.hid (gr_new hgr.out HST.out.2 (Nat.le_refl _))⟩
      case measure => simp [intOf]; omega
    · obtain rfl : j = 256 := by omega
      have he : EnvAt wr w.heap.size (fun _ => -1) := ⟨P, ha.out, hp.out⟩
      have h1 := he.set 97 1
      have h2 := h1.1.set 98 2
      have HE1 := Lib.hid h1
      have HE2 := Lib.hid h2
      have c97 := he.cell (k := 97) (by omega)
      have c98 := h1.1.cell (k := 98) (by omega)
      have f98 := h1.1.frozen 98
      have hfr97 := he.frozen 97
      clear h1 h2 he
      go_wp2_with fail
      go_ret
      refine ⟨_, rfl, Nat.le_refl _, gr_new (gr_new hgr.out HE1.out.2 (Nat.le_refl _)) HE2.out.2 (Nat.le_refl _), ?_⟩
      have := HE2.out.1
      rw [show env0 = upd (upd (fun _ => -1) ((97 : Nat) : Int) 1) ((98 : Nat) : Int) 2 from by
        funext c
        unfold env0 upd
        by_cases h1 : c = 97
        · subst h1; rfl
        · simp [h1]]
      exact this
end

section
open Go.RowKit

/-- How it ends: with the depth; the array says what it said; nothing else has turned. -/
def SDP (x : Int) (g : Nat) (en : Int → Int) (w : World) (e : Ending) (w' : World) : Prop := e = .returned (.int .i64 x) ∧ w.grownBy w' (some g) ∧ EnvAt w' g en

theorem gr_some {w w' : World} (g : Nat) (h : w.grownBy w' none) : w.grownBy w' (some g) := ⟨h.os, h.tape, h.output, h.size, fun k hk _ => h.block k hk (by simp)⟩

set_option maxRecDepth 100000 in
set_option maxHeartbeats 1000000 in
theorem sdep_dig (b : Int) (A : Option Addr) (c g : Nat) (en : Int → Int) (w : World) (he : EnvAt w g en) :
    Calls Tryd.prog 47 #[.pointer (some ⟨g, 0, none⟩), .agg #[.int .u8 48, .int .u8 b, .slice A 0 c]] w (SDP 0 g en w) := by
  have HX := Lib.hid (c3_new w (.int .u8 48) (.int .u8 b) (.slice A 0 c) 37)
  have x0 := HX.out.c0
  have x2 := HX.out.c2
  have HE := Lib.hid he
  clear he
  go_enter Tryd.func47, Tryd.ntmps47
  go_wp2_with fail
  go_ret
  exact ⟨rfl, gr_some g (World.grownBy_alloc _ _ _), HE.out.grown (World.grownBy_alloc _ _ _)⟩

set_option maxRecDepth 100000 in
set_option maxHeartbeats 1000000 in
theorem sdep_var (k : Nat) (hk : k < 256) (A : Option Addr) (c g : Nat) (en : Int → Int) (w : World) (he : EnvAt w g en) :
    Calls Tryd.prog 47 #[.pointer (some ⟨g, 0, none⟩), .agg #[.int .u8 97, .int .u8 (k : Int), .slice A 0 c]] w (SDP (en k) g en w) := by
  have HX := Lib.hid (c3_new w (.int .u8 97) (.int .u8 (k : Int)) (.slice A 0 c) 37)
  have x0 := HX.out.c0
  have x1 := HX.out.c1
  have x2 := HX.out.c2
  have HG := Lib.hid (World.grownBy_alloc w (.cells #[.int .u8 97, .int .u8 (k : Int), .slice A 0 c] 37) none)
  have HE := Lib.hid (he.grown HG.out)
  have hcell := HE.out.cell hk
  generalize en (k : Int) = r at hcell ⊢
  clear he
  go_enter Tryd.func47, Tryd.ntmps47
  go_wp2_with fail
  go_quiet (fail)
  go_wp2_with fail
  go_ret
  exact ⟨rfl, (gr_some g HG.out).trans (gr_drewN _ _ _), HE.out.grown (gr_drewN _ _ _)⟩

set_option maxRecDepth 100000 in
set_option maxHeartbeats 2000000 in
theorem sdep_pre (a d a2 b2 : Int) (A A2 : Option Addr) (c k2 c2 g : Nat) (en : Int → Int) (w : World) (hd : -1 ≤ d ∧ d ≤ 3) (he : EnvAt w g en)
    (ho : w.ownsRow 0 37 3 (.slice A 1 c) 1 (flat3 [(a2, b2, .slice A2 k2 c2)]))
    (ih : ∀ u : World, w.grownBy u (some g) → EnvAt u g en → Calls Tryd.prog 47 #[.pointer (some ⟨g, 0, none⟩), .agg #[.int .u8 a2, .int .u8 b2, .slice A2 k2 c2]] u (SDP d g en u)) :
    Calls Tryd.prog 47 #[.pointer (some ⟨g, 0, none⟩), .agg #[.int .u8 a, .int .u8 0, .slice A 1 c]] w (SDP (dOne a d) g en w) := by
  obtain ⟨-, -, hrow⟩ := srow3 (xs := [(a2, b2, .slice A2 k2 c2)]) ho
  obtain ⟨gr, rfl, hgr1, hcell⟩ := hrow (by omega)
  obtain ⟨q0, q1, q2⟩ := hcell 0 _ rfl
  simp only [Nat.zero_mul, Nat.zero_add] at q0 q1 q2
  have HX := Lib.hid (c3_new w (.int .u8 a) (.int .u8 0) (.slice (some ⟨gr, 0, none⟩) 1 c) 37)
  have x0 := HX.out.c0
  have x2 := HX.out.c2
  have HG := Lib.hid (World.grownBy_alloc w (.cells #[.int .u8 a, .int .u8 0, .slice (some ⟨gr, 0, none⟩) 1 c] 37) none)
  have h0 := HG.out.cell q0 (by simp)
  have h1 := HG.out.cell q1 (by simp)
  have h2 := HG.out.cell q2 (by simp)
  have HE := Lib.hid (he.grown HG.out)
  have hlt : g < w.heap.size := he.lt
  have HD := Lib.hid (fun w => done_any a d w hd)
  generalize dOne a d = r at HD ⊢
  have HC := Lib.hid ih
  clear hcell hrow ho ih q0 q1 q2 he
  go_enter Tryd.func47, Tryd.ntmps47
  go_wp2_with fail
  go_region_law (first
    | (go_simp
       go_at_call 67
       refine (HD.out _).mono ?_
       rintro e wb ⟨rfl, rfl⟩
       have HDONE := Lib.hid True.intro)
    | (go_simp
       go_at_call 47
       refine (HC.out _ ((gr_some g HG.out).trans (gr_drewN _ 1 _)) (HE.out.grown (gr_drewN _ 1 _))).mono ?_
       rintro e wa ⟨rfl, hga, hea⟩
       have HGa := Lib.hid ((gr_drewN (w.alloc (.cells #[.int .u8 a, .int .u8 0, .slice (some ⟨gr, 0, none⟩) 1 c] 37)) 1 (some g)).trans hga)
       have HEa := Lib.hid hea
       have x0a := HGa.out.cell x0 (by simp; omega)
       clear hga hea))
  all_goals
    go_wp2_with fail
  all_goals
    go_ret
    exact ⟨rfl, (gr_some g HG.out).trans HGa.out, HEa.out⟩

set_option maxRecDepth 100000 in
set_option maxHeartbeats 2000000 in
theorem sdep_two (a d1 d2 a2 b2 a3 b3 : Int) (A A2 A3 : Option Addr) (c k2 c2 k3 c3 g : Nat) (en : Int → Int) (w : World) (he : EnvAt w g en)
    (hne : ∀ x, (Value.slice A 2 c).ownBlock = some x → x ≠ g)
    (ho : w.ownsRow 0 37 3 (.slice A 2 c) 2 (flat3 [(a2, b2, .slice A2 k2 c2), (a3, b3, .slice A3 k3 c3)]))
    (ih1 : ∀ u : World, w.grownBy u (some g) → EnvAt u g en → Calls Tryd.prog 47 #[.pointer (some ⟨g, 0, none⟩), .agg #[.int .u8 a2, .int .u8 b2, .slice A2 k2 c2]] u (SDP d1 g en u))
    (ih2 : ∀ u : World, w.grownBy u (some g) → EnvAt u g en → Calls Tryd.prog 47 #[.pointer (some ⟨g, 0, none⟩), .agg #[.int .u8 a3, .int .u8 b3, .slice A3 k3 c3]] u (SDP d2 g en u)) :
    Calls Tryd.prog 47 #[.pointer (some ⟨g, 0, none⟩), .agg #[.int .u8 a, .int .u8 0, .slice A 2 c]] w (SDP (dTwo a d1 d2) g en w) := by
  obtain ⟨-, -, hrow⟩ := srow3 (xs := [(a2, b2, .slice A2 k2 c2), (a3, b3, .slice A3 k3 c3)]) ho
  obtain ⟨gr, rfl, hgr1, hcell⟩ := hrow (by omega)
  obtain ⟨q0, q1, q2⟩ := hcell 0 _ rfl
  obtain ⟨q3, q4, q5⟩ := hcell 1 _ rfl
  simp only [Nat.zero_mul, Nat.zero_add, Nat.one_mul] at q0 q1 q2 q3 q4 q5
  have HX := Lib.hid (c3_new w (.int .u8 a) (.int .u8 0) (.slice (some ⟨gr, 0, none⟩) 2 c) 37)
  have x0 := HX.out.c0
  have x1 := HX.out.c1
  have x2 := HX.out.c2
  have HG := Lib.hid (World.grownBy_alloc w (.cells #[.int .u8 a, .int .u8 0, .slice (some ⟨gr, 0, none⟩) 2 c] 37) none)
  have h0 := HG.out.cell q0 (by simp)
  have h1 := HG.out.cell q1 (by simp)
  have h2 := HG.out.cell q2 (by simp)
  have h3 := HG.out.cell q3 (by simp)
  have h4 := HG.out.cell q4 (by simp)
  have h5 := HG.out.cell q5 (by simp)
  have HE := Lib.hid (he.grown HG.out)
  have hlt : g < w.heap.size := he.lt
  have hneg : gr ≠ g := hne gr rfl
  have HD := Lib.hid (fun w => dtwo_any a d1 d2 w)
  generalize dTwo a d1 d2 = r at HD ⊢
  have HC1 := Lib.hid ih1
  have HC2 := Lib.hid ih2
  clear hcell hrow ho ih1 ih2 q0 q1 q2 q3 q4 q5 he hne
  go_enter Tryd.func47, Tryd.ntmps47
  go_wp2_with fail
  refine (HC1.out _ (gr_some g HG.out) HE.out).mono ?_
  rintro e w1 ⟨rfl, hg1, he1⟩
  have HG1 := Lib.hid hg1
  have HE1 := Lib.hid he1
  have y0 := hg1.cell x0 (by simp; omega)
  have y1 := hg1.cell x1 (by simp; omega)
  have y2 := hg1.cell x2 (by simp; omega)
  have z3 := hg1.cell h3 (by simp; exact hneg)
  have z4 := hg1.cell h4 (by simp; exact hneg)
  have z5 := hg1.cell h5 (by simp; exact hneg)
  have HGG := Lib.hid ((gr_some g HG.out).trans hg1)
  clear hg1 he1 x0 x1 x2 h0 h1 h2 h3 h4 h5
  go_wp2_with fail
  go_region_law (first
    | (go_simp
       go_at_call 68
       refine (HD.out _).mono ?_
       rintro e wb ⟨rfl, rfl⟩
       have HDONE := Lib.hid True.intro)
    | (go_simp
       go_at_call 47
       refine (HC2.out _ (HGG.out.trans (gr_drewN w1 1 _)) (HE1.out.grown (gr_drewN w1 1 _))).mono ?_
       rintro e wa ⟨rfl, hga, hea⟩
       have HGa := Lib.hid ((gr_drewN w1 1 (some g)).trans hga)
       have HEa := Lib.hid hea
       have x0a := HGa.out.cell y0 (by simp; omega)
       clear hga hea))
  all_goals
    go_wp2_with fail
  all_goals
    go_ret
    exact ⟨rfl, HGG.out.trans HGa.out, HEa.out⟩
end

section
open Go.RowKit

set_option maxRecDepth 100000 in
set_option maxHeartbeats 2000000 in
theorem sdep_loop0 (a d1 a2 b2 a3 b3 : Int) (k : Nat) (A A2 A3 : Option Addr) (c k2 c2 k3 c3 g : Nat) (en : Int → Int) (w : World) (hk0 : 0 < k) (hd : d1 < 1) (he : EnvAt w g en)
    (hne : ∀ x, (Value.slice A 2 c).ownBlock = some x → x ≠ g)
    (ho : w.ownsRow 0 37 3 (.slice A 2 c) 2 (flat3 [(a2, b2, .slice A2 k2 c2), (a3, b3, .slice A3 k3 c3)]))
    (ih1 : ∀ u : World, w.grownBy u (some g) → EnvAt u g en → Calls Tryd.prog 47 #[.pointer (some ⟨g, 0, none⟩), .agg #[.int .u8 a2, .int .u8 b2, .slice A2 k2 c2]] u (SDP d1 g en u)) :
    Calls Tryd.prog 47 #[.pointer (some ⟨g, 0, none⟩), .agg #[.int .u8 a, .int .u8 (k : Int), .slice A 2 c]] w (SDP (-1) g en w) := by
  obtain ⟨-, -, hrow⟩ := srow3 (xs := [(a2, b2, .slice A2 k2 c2), (a3, b3, .slice A3 k3 c3)]) ho
  obtain ⟨gr, rfl, hgr1, hcell⟩ := hrow (by omega)
  obtain ⟨q0, q1, q2⟩ := hcell 0 _ rfl
  simp only [Nat.zero_mul, Nat.zero_add] at q0 q1 q2
  have HX := Lib.hid (c3_new w (.int .u8 a) (.int .u8 (k : Int)) (.slice (some ⟨gr, 0, none⟩) 2 c) 37)
  have x0 := HX.out.c0
  have x1 := HX.out.c1
  have x2 := HX.out.c2
  have HG := Lib.hid (World.grownBy_alloc w (.cells #[.int .u8 a, .int .u8 (k : Int), .slice (some ⟨gr, 0, none⟩) 2 c] 37) none)
  have h0 := HG.out.cell q0 (by simp)
  have h1 := HG.out.cell q1 (by simp)
  have h2 := HG.out.cell q2 (by simp)
  have HE := Lib.hid (he.grown HG.out)
  have hlt : g < w.heap.size := he.lt
  have hkz : ((k : Int) == 0) = false := by rw [beq_eq_false_iff_ne]; omega
  have HC1 := Lib.hid ih1
  clear hcell hrow ho ih1 q0 q1 q2 he hne
  go_enter Tryd.func47, Tryd.ntmps47
  go_wp2_with fail
  refine (HC1.out _ (gr_some g HG.out) HE.out).mono ?_
  rintro e w1 ⟨rfl, hg1, he1⟩
  have HG1 := Lib.hid hg1
  have HE1 := Lib.hid he1
  have y1 := hg1.cell x1 (by simp; omega)
  have HGG := Lib.hid ((gr_some g HG.out).trans hg1)
  clear hg1 he1 x0 x1 x2 h0 h1 h2
  go_wp2_with fail
  go_ret
  exact ⟨rfl, HGG.out, HE1.out⟩

set_option maxRecDepth 100000 in
set_option maxHeartbeats 4000000 in
theorem sdep_loop1 (a d1 d2 a2 b2 a3 b3 : Int) (k : Nat) (A A2 A3 : Option Addr) (c k2 c2 k3 c3 g : Nat) (en : Int → Int) (w : World) (ha : a = 91 ∨ a = 123) (hk0 : 0 < k) (hk : k < 256) (hd : 1 ≤ d1) (hd1 : d1 ≤ 3) (hd2 : -1 ≤ d2 ∧ d2 ≤ 3) (he : EnvAt w g en)
    (hne : ∀ x, (Value.slice A 2 c).ownBlock = some x → x ≠ g)
    (ho : w.ownsRow 0 37 3 (.slice A 2 c) 2 (flat3 [(a2, b2, .slice A2 k2 c2), (a3, b3, .slice A3 k3 c3)]))
    (ih1 : ∀ u : World, w.grownBy u (some g) → EnvAt u g en → Calls Tryd.prog 47 #[.pointer (some ⟨g, 0, none⟩), .agg #[.int .u8 a2, .int .u8 b2, .slice A2 k2 c2]] u (SDP d1 g en u))
    (ih2 : ∀ u : World, w.grownBy u (some g) → EnvAt u g (upd en k (d1 - 1)) → Calls Tryd.prog 47 #[.pointer (some ⟨g, 0, none⟩), .agg #[.int .u8 a3, .int .u8 b3, .slice A3 k3 c3]] u (SDP d2 g (upd en k (d1 - 1)) u)) :
    Calls Tryd.prog 47 #[.pointer (some ⟨g, 0, none⟩), .agg #[.int .u8 a, .int .u8 (k : Int), .slice A 2 c]] w (SDP (dLoop a d1 d2) g en w) := by
  obtain ⟨-, -, hrow⟩ := srow3 (xs := [(a2, b2, .slice A2 k2 c2), (a3, b3, .slice A3 k3 c3)]) ho
  obtain ⟨gr, rfl, hgr1, hcell⟩ := hrow (by omega)
  obtain ⟨q0, q1, q2⟩ := hcell 0 _ rfl
  obtain ⟨q3, q4, q5⟩ := hcell 1 _ rfl
  simp only [Nat.zero_mul, Nat.zero_add, Nat.one_mul] at q0 q1 q2 q3 q4 q5
  have HX := Lib.hid (c3_new w (.int .u8 a) (.int .u8 (k : Int)) (.slice (some ⟨gr, 0, none⟩) 2 c) 37)
  have x0 := HX.out.c0
  have x1 := HX.out.c1
  have x2 := HX.out.c2
  have HG := Lib.hid (World.grownBy_alloc w (.cells #[.int .u8 a, .int .u8 (k : Int), .slice (some ⟨gr, 0, none⟩) 2 c] 37) none)
  have h0 := HG.out.cell q0 (by simp)
  have h1 := HG.out.cell q1 (by simp)
  have h2 := HG.out.cell q2 (by simp)
  have h3 := HG.out.cell q3 (by simp)
  have h4 := HG.out.cell q4 (by simp)
  have h5 := HG.out.cell q5 (by simp)
  have HE := Lib.hid (he.grown HG.out)
  have hlt : g < w.heap.size := he.lt
  have hneg : gr ≠ g := hne gr rfl
  have hkz : ((k : Int) == 0) = false := by rw [beq_eq_false_iff_ne]; omega
  have hd0 : ¬ (d1 < 1) := by omega
  have wr1 : IntKind.i64.wrap (d1 - 1) = d1 - 1 := IntWalk.i64_in _ (by omega)
  have wr2 : IntKind.i64.wrap (d2 + 1) = d2 + 1 := IntWalk.i64_in _ (by omega)
  have HC1 := Lib.hid ih1
  have HC2 := Lib.hid ih2
  have HA := Lib.hid ha
  clear hcell hrow ho ih1 ih2 q0 q1 q2 q3 q4 q5 he hne ha
  go_enter Tryd.func47, Tryd.ntmps47
  go_wp2_with fail
  refine (HC1.out _ (gr_some g HG.out) HE.out).mono ?_
  rintro e w1 ⟨rfl, hg1, he1⟩
  have HE1 := Lib.hid he1
  have y0 := hg1.cell x0 (by simp; omega)
  have y1 := hg1.cell x1 (by simp; omega)
  have y2 := hg1.cell x2 (by simp; omega)
  have z3 := hg1.cell h3 (by simp; exact hneg)
  have z4 := hg1.cell h4 (by simp; exact hneg)
  have z5 := hg1.cell h5 (by simp; exact hneg)
  have HGG := Lib.hid ((gr_some g HG.out).trans hg1)
  have hold := he1.cell hk
  have hfr := he1.frozen k
  obtain ⟨old, hO⟩ : ∃ o, en (k : Int) = o := ⟨_, rfl⟩
  rw [hO] at hold
  have HO := Lib.hid hO
  have HB : Hid (w.heap.size ≠ g) := Lib.hid (by omega)
  have HR : Hid (gr ≠ g) := Lib.hid hneg
  clear hg1 he1 x0 x1 x2 h0 h1 h2 h3 h4 h5 hO
  go_wp2_with fail
  go_quiet (fail)
  go_wp2_with fail
  go_region
  go_wp2_with fail
  have HS := Lib.hid ((HE1.out.grown (gr_drewN w1 (nq + 1) none)).set k (d1 - 1))
  refine (HC2.out _ ((HGG.out.trans (gr_drewN w1 (nq + 1) _)).trans HS.out.2) HS.out.1).mono ?_
  rintro e w2 ⟨rfl, hg2, he2⟩
  have hch := ((gr_drewN w1 (nq + 1) (some g)).trans HS.out.2).trans hg2
  have HG2 := Lib.hid (HGG.out.trans hch)
  have v0 := hch.cell y0 (by simp; exact HB.out)
  have v1 := hch.cell y1 (by simp; exact HB.out)
  have hcell2 := he2.cell hk
  have hfr2 := he2.frozen k
  obtain ⟨mid, hM⟩ : ∃ o, upd en (k : Int) (d1 - 1) (k : Int) = o := ⟨_, rfl⟩
  rw [hM] at hcell2
  have HE2 := Lib.hid he2
  clear hg2 he2 hch hM y0 y1 y2 z3 z4 z5 hold hfr
  go_wp2_with fail
  go_region
  have HS2 := Lib.hid ((HE2.out.grown (gr_drewN w2 1 none)).set k old)
  have HEND : Hid (w.grownBy ((w2.drewN 1).setCell ⟨g, k, none⟩ (.int .i64 old)) (some g) ∧ EnvAt ((w2.drewN 1).setCell ⟨g, k, none⟩ (.int .i64 old)) g en) := Lib.hid ⟨(HG2.out.trans (gr_drewN w2 1 _)).trans HS2.out.2, by
    have := HS2.out.1
    rw [show upd (upd en (k : Int) (d1 - 1)) (k : Int) old = en from by rw [← HO.out]; exact upd_back en _ _] at this
    exact this⟩
  clear HS HS2 HE2 HG2
  rcases HA.out with rfl | rfl
  · go_wp2_with fail
    all_goals
      go_ret
      refine ⟨ret_i ?_, HEND.out.1, HEND.out.2⟩
      unfold dLoop
      (repeat' split) <;> omega
  · go_wp2_with fail
    all_goals
      go_ret
      refine ⟨ret_i ?_, HEND.out.1, HEND.out.2⟩
      try simp only [bne_iff_ne, bne_eq_false_iff_eq, ne_eq] at *
      unfold dLoop
      (repeat' split) <;> omega
end

section
open Go.RowKit

theorem SN.grownG {w w' : World} {S : Nat → Prop} {t : Tm} {x : Int × Int × Value} {g : Nat} (h : SN w S t x) (hS : ∀ b, S b → b ≠ g) (hg : w.grownBy w' (some g)) : SN w' S t x :=
  h.keep (fun b hb hl => hg.block b hl (by simp; exact hS b hb)) (fun _ hb _ => hb) t x

theorem slice_form {w : World} {e : TypeId} {size n : Nat} {sv : Value} {xs : List Value} (h : w.ownsRow 0 e size sv n xs) : ∃ A c, sv = .slice A n c := by
  obtain ⟨A, m, c, rfl⟩ := own_form h
  exact ⟨A, c, by rw [own_len h]⟩

set_option maxRecDepth 100000 in
theorem sdep_any : ∀ (n : Nat) (t : Tm) (S : Nat → Prop) (x : Int × Int × Value) (g : Nat) (en : Int → Int) (w : World), t.size ≤ n → t.Ok → (∀ c, -1 ≤ en c ∧ en c ≤ 3) → SN w S t x → (∀ b, S b → b ≠ g) → EnvAt w g en →
    Calls Tryd.prog 47 #[.pointer (some ⟨g, 0, none⟩), .agg #[.int .u8 x.1, .int .u8 x.2.1, x.2.2]] w (SDP (t.depth en) g en w)
  | 0, t, _, _, _, _, _, hn, _, _, _, _, _ => by have := t.size_pos; omega
  | n + 1, .dig c, S, (x1, x2, x3), g, en, w, hn, ho, hen, h, hS, he => by
    obtain ⟨h1, h2, h3, _⟩ := h
    obtain ⟨A, cc, h4⟩ := slice_form h3
    simp only at h1 h2 h4
    subst h1 h4
    exact sdep_dig _ A cc g en w he
  | n + 1, .var c, S, (x1, x2, x3), g, en, w, hn, ho, hen, h, hS, he => by
    obtain ⟨h1, h2, h3, _⟩ := h
    obtain ⟨A, cc, h4⟩ := slice_form h3
    simp only at h1 h2 h4
    subst h1 h2 h4
    have hv := vb ho
    have := sdep_var x2.toNat (by omega) A cc g en w he
    rw [show ((x2.toNat : Nat) : Int) = x2 from by omega] at this
    exact this
  | n + 1, .pre c s, S, (x1, x2, x3), g, en, w, hn, ho, hen, h, hS, he => by
    obtain ⟨h1, h2, y, h3, _, hy⟩ := h
    obtain ⟨A, cc, h4⟩ := slice_form h3
    simp only at h1 h2 h4 h3
    subst h1 h2 h4
    obtain ⟨y1, y2, y3⟩ := y
    obtain ⟨A2, k2, c2, h5⟩ := hy.form
    simp only at h5
    subst h5
    simp only [Tm.size] at hn
    exact sdep_pre x1 (s.depth en) y1 y2 A A2 cc k2 c2 g en w (s.depth_bd en hen) he h3 (fun u hu hue => sdep_any n s S (y1, y2, .slice A2 k2 c2) g en u (by omega) ho.2 hen (hy.grownG hS hu) hS hue)
  | n + 1, .two c s t, S, (x1, x2, x3), g, en, w, hn, ho, hen, h, hS, he => by
    obtain ⟨h1, h2, y, z, h3, hb, hy, hz⟩ := h
    obtain ⟨A, cc, h4⟩ := slice_form h3
    simp only at h1 h2 h4 h3 hb
    subst h1 h2 h4
    obtain ⟨y1, y2, y3⟩ := y
    obtain ⟨A2, k2, c2, h5⟩ := hy.form
    simp only at h5
    subst h5
    obtain ⟨z1, z2, z3⟩ := z
    obtain ⟨A3, k3, c3, h6⟩ := hz.form
    simp only at h6
    subst h6
    simp only [Tm.size] at hn
    exact sdep_two x1 (s.depth en) (t.depth en) y1 y2 z1 z2 A A2 A3 cc k2 c2 k3 c3 g en w he (fun x hx => hS x (hb x hx)) h3
      (fun u hu hue => sdep_any n s S (y1, y2, .slice A2 k2 c2) g en u (by omega) ho.2.1 hen (hy.grownG hS hu) hS hue)
      (fun u hu hue => sdep_any n t S (z1, z2, .slice A3 k3 c3) g en u (by omega) ho.2.2 hen (hz.grownG hS hu) hS hue)
  | n + 1, .loop c i s t, S, (x1, x2, x3), g, en, w, hn, ho, hen, h, hS, he => by
    obtain ⟨h1, h2, y, z, h3, hb, hy, hz⟩ := h
    obtain ⟨A, cc, h4⟩ := slice_form h3
    simp only at h1 h2 h4 h3 hb
    subst h1 h2 h4
    obtain ⟨y1, y2, y3⟩ := y
    obtain ⟨A2, k2, c2, h5⟩ := hy.form
    simp only at h5
    subst h5
    obtain ⟨z1, z2, z3⟩ := z
    obtain ⟨A3, k3, c3, h6⟩ := hz.form
    simp only at h6
    subst h6
    simp only [Tm.size] at hn
    have hl := lb ho.2.1
    have hl0 := isL_ge ho.2.1
    have hd1 := s.depth_bd en hen
    have hxk : ((x2.toNat : Nat) : Int) = x2 := by omega
    simp only [Tm.depth]
    by_cases hd : 1 ≤ s.depth en
    · rw [if_pos hd]
      have hbu := upd_bd hen x2 (d := s.depth en - 1) (by omega)
      have hd2 := t.depth_bd _ hbu
      have := sdep_loop1 x1 (s.depth en) (t.depth (upd en x2 (s.depth en - 1))) y1 y2 z1 z2 x2.toNat A A2 A3 cc k2 c2 k3 c3 g en w ho.1 (by omega) (by omega) hd hd1.2 hd2 he (fun x hx => hS x (hb x hx)) h3
        (fun u hu hue => sdep_any n s S (y1, y2, .slice A2 k2 c2) g en u (by omega) ho.2.2.1 hen (hy.grownG hS hu) hS hue)
        (fun u hu hue => by rw [hxk] at hue ⊢; exact sdep_any n t S (z1, z2, .slice A3 k3 c3) g _ u (by omega) ho.2.2.2 hbu (hz.grownG hS hu) hS hue)
      rw [hxk] at this
      exact this
    · rw [if_neg hd]
      have := sdep_loop0 x1 (s.depth en) y1 y2 z1 z2 x2.toNat A A2 A3 cc k2 c2 k3 c3 g en w (by omega) (by omega) he (fun x hx => hS x (hb x hx)) h3
        (fun u hu hue => sdep_any n s S (y1, y2, .slice A2 k2 c2) g en u (by omega) ho.2.2.1 hen (hy.grownG hS hu) hS hue)
      rw [hxk] at this
      exact this

set_option maxRecDepth 100000 in
set_option maxHeartbeats 2000000 in
theorem tdepth_spec (s : ByteArray) (hs : s.size ≤ 1048576) (w : World) :
    Calls Tryd.prog 36 #[.string s] w (DepP (depthA s) w) := by
  have H := Lib.hid (sterm_any s hs w)
  obtain ⟨r, hb⟩ : ∃ b, depthA s = b := ⟨_, rfl⟩
  rw [hb]
  have HB := Lib.hid hb
  clear hb
  go_enter Tryd.func36, Tryd.ntmps36
  go_wp2_with fail
  refine H.out.mono ?_
  intro e w1 hp
  unfold STermPost at hp
  have hb := HB.out
  unfold depthA at hb
  cases hr : readT s with
  | none =>
    rw [hr] at hp hb
    subst hb
    obtain ⟨rfl, hg⟩ := hp
    have HG := Lib.hid hg
    clear hg hr
    go_wp2_with fail
    go_ret
    exact ⟨rfl, HG.out.trans (World.grownBy_alloc _ _ _)⟩
  | some t =>
    rw [hr] at hp hb
    obtain ⟨a, d, A, k, c, rfl, hg, ha⟩ := hp
    have HG := Lib.hid (hg.trans (World.grownBy_alloc w1 (.cells #[.int .u8 a, .int .u8 d, .slice A k c] 37) none))
    have HX := Lib.hid (c3_new w1 (.int .u8 a) (.int .u8 d) (.slice A k c) 37)
    have x0 := HX.out.c0
    have x1 := HX.out.c1
    have x2 := HX.out.c2
    have hok := readT_some hr
    have HR : Hid (t.depth env0 = r) := Lib.hid hb
    have HA : Hid (SN w1 (fun b => b < w1.heap.size) t (a, d, .slice A k c)) := Lib.hid (ha.keep (fun _ _ _ => rfl) (fun b _ hl => hl) _ _)
    have HOK := Lib.hid hok.2.2.1
    have HSZ := Lib.hid hok.2.2.2
    have HCALL : Hid (∀ (g : Nat) (u : World), (w1.alloc (.cells #[.int .u8 a, .int .u8 d, .slice A k c] 37)).heap.size ≤ g → (w1.alloc (.cells #[.int .u8 a, .int .u8 d, .slice A k c] 37)).grownBy u none → EnvAt u g env0 →
        Calls Tryd.prog 47 #[.pointer (some ⟨g, 0, none⟩), .agg #[.int .u8 a, .int .u8 d, .slice A k c]] u (SDP r g env0 u)) := Lib.hid (fun g u hge hu hue => by
      rw [← HR.out]
      exact sdep_any 80 t _ (a, d, .slice A k c) g env0 u HSZ.out HOK.out env0_bd ((HA.out.grown (World.grownBy_alloc w1 _ none)).grown hu) (fun b (hb : b < w1.heap.size) => by rw [World.size_alloc] at hge; omega) hue)
    clear hg hr hb ha hok
    go_wp2_with fail
    go_region_law (first
      | (go_simp
         go_at_call 47
         refine (HCALL.out _ _ HGE.out HG2.out HE2.out).mono ?_
         rintro e w3 ⟨rfl, hg3, -⟩
         have HG3 := Lib.hid hg3
         clear hg3)
      | (go_simp
         go_at_call 46
         refine (sstart_any _).mono ?_
         rintro e w2 ⟨g, rfl, hge, hg2, he2⟩
         have hg2' := (gr_drewN (w1.alloc (.cells #[.int .u8 a, .int .u8 d, .slice A k c] 37)) 1 none).trans hg2
         have HG2 := Lib.hid hg2'
         have x0a := hg2'.cell x0 (by simp)
         have x1a := hg2'.cell x1 (by simp)
         have x2a := hg2'.cell x2 (by simp)
         have HGE : Hid ((w1.alloc (.cells #[.int .u8 a, .int .u8 d, .slice A k c] 37)).heap.size ≤ g) := Lib.hid hge
         have HE2 := Lib.hid he2
         clear hge hg2 he2 hg2'))
    all_goals
      go_wp2_with fail
    all_goals
      go_ret
      exact ⟨rfl, gr_new (HG.out.trans HG2.out) HG3.out (Nat.le_trans HG.out.size HGE.out)⟩
end

section
open Go.RowKit

def tdepA (s : ByteArray) : Int := depthA s
theorem tdep_spec (s : ByteArray) (hs : s.size ≤ 1048576) (w : World) : Calls Tryd.prog 36 #[.string s] w fun e w' => e = .returned (.int .i64 (tdepA s)) ∧ w.grownBy w' none := tdepth_spec s hs w
theorem tdep_impl (s : ByteArray) (_ : s.size ≤ 1048576) (w : World) : Calls Tryd.prog 37 #[.string s] w fun e w' => e = .returned (.int .i64 (tdepA s)) ∧ w.grownBy w' none := tdepth_impl s w
end
end

section
open Go.RowKit

def depcA (s : ByteArray) : Int := match codeT s with
  | some t => depthA (bytesOf t.txt)
  | none => -1

set_option maxHeartbeats 1000000 in
theorem depc_spec (s : ByteArray) (w : World) : Calls Tryd.prog 25 #[.string s] w fun e w' => e = .returned (.int .i64 (depcA s)) ∧ w.grownBy w' none := by
  have H := Lib.hid (tof_spec s w)
  unfold TofP tofV at H
  unfold depcA
  cases hc : codeT s with
  | none =>
    rw [hc] at H
    simp only at H ⊢
    clear hc
    go_enter Tryd.func25, Tryd.ntmps25
    go_wp2_with fail
    refine H.out.mono ?_
    rintro e w1 ⟨rfl, hg1⟩
    have HG1 := Lib.hid hg1
    clear hg1
    go_wp2_with fail
    go_ret
    exact ⟨rfl, HG1.out⟩
  | some t =>
    have hl := (codeT_ok hc).2
    rw [hc] at H
    simp only at H ⊢
    have hz := bytesOf_size t.txt
    generalize bytesOf t.txt = x at H hz ⊢
    have HD := Lib.hid (fun w => tdepth_spec x (by omega) w)
    generalize depthA x = r at HD ⊢
    clear hc hz hl
    go_enter Tryd.func25, Tryd.ntmps25
    go_wp2_with fail
    refine H.out.mono ?_
    rintro e w1 ⟨rfl, hg1⟩
    have HG1 := Lib.hid hg1
    clear hg1
    go_wp2_with fail
    refine (HD.out _).mono ?_
    rintro e w2 ⟨rfl, hg2⟩
    have HG2 := Lib.hid hg2
    clear hg2
    go_wp2_with fail
    go_ret
    exact ⟨rfl, HG1.out.trans HG2.out⟩

set_option maxHeartbeats 1000000 in
theorem depc_impl (s : ByteArray) (w : World) : Calls Tryd.prog 26 #[.string s] w fun e w' => e = .returned (.int .i64 (depcA s)) ∧ w.grownBy w' none := by
  have H := Lib.hid (tof_impl s w)
  unfold TofP tofV at H
  unfold depcA
  cases hc : codeT s with
  | none =>
    rw [hc] at H
    simp only at H ⊢
    clear hc
    go_enter Tryd.func26, Tryd.ntmps26
    go_wp2_with fail
    refine H.out.mono ?_
    rintro e w1 ⟨rfl, hg1⟩
    have HG1 := Lib.hid hg1
    clear hg1
    go_wp2_with fail
    go_ret
    exact ⟨rfl, HG1.out⟩
  | some t =>
    have hl := (codeT_ok hc).2
    rw [hc] at H
    simp only at H ⊢
    have hz := bytesOf_size t.txt
    generalize bytesOf t.txt = x at H hz ⊢
    have HD := Lib.hid (fun w => tdepth_impl x w)
    generalize depthA x = r at HD ⊢
    clear hc hz hl
    go_enter Tryd.func26, Tryd.ntmps26
    go_wp2_with fail
    refine H.out.mono ?_
    rintro e w1 ⟨rfl, hg1⟩
    have HG1 := Lib.hid hg1
    clear hg1
    go_wp2_with fail
    refine (HD.out _).mono ?_
    rintro e w2 ⟨rfl, hg2⟩
    have HG2 := Lib.hid hg2
    clear hg2
    go_wp2_with fail
    go_ret
    exact ⟨rfl, HG1.out.trans HG2.out⟩
end

open Go.ChangeShapes Go.WideShapes Go.ChangeAt Go.RowKit
open Go.ChangeMaps (open_string shut_string)

theorem knob_own : ownKnob Tryd.prog.godebug = none := by kernel_rfl
theorem below_of {w w' : World} (h : w.grownBy w' none) : Below w.heap.size w w' := ⟨h.os, h.tape, h.output, h.size, fun k hk => h.block k hk (by simp)⟩

set_option maxHeartbeats 1000000 in
theorem law_depc_in (s : ByteArray) (hs : s.size ≤ 1048576) (w : World) :
    Calls Tryd.prog 8 #[.string s] w fun e w' => e = .returned (.bool true) ∧ w.grownBy w' none := by
  have H1 := Lib.hid (fun w => depc_spec s w)
  have H2 := Lib.hid (fun w => depc_impl s w)
  generalize depcA s = b at H1 H2
  go_enter Tryd.func8, Tryd.ntmps8
  go_wp2_with fail
  refine (H1.out _).mono ?_
  rintro e w1 ⟨rfl, hg1⟩
  have HG1 := Lib.hid hg1
  clear hg1
  go_wp2_with fail
  refine (H2.out _).mono ?_
  rintro e w2 ⟨rfl, hg2⟩
  have HG2 := Lib.hid hg2
  clear hg2
  have hne : (b != b) = false := by simp
  go_wp2_with fail
  go_ret
  exact ⟨rfl, HG1.out.trans HG2.out⟩

theorem law_depc_out (s : ByteArray) (hs : 1048576 < s.size) (w : World) :
    Calls Tryd.prog 8 #[.string s] w fun e w' => e = .returned (.bool true) ∧ w.grownBy w' none := by
  go_enter Tryd.func8, Tryd.ntmps8
  go_wp2_with fail
  go_ret
  exact ⟨rfl, gr_refl _ _⟩

theorem law_depc (s : ByteArray) (w : World) :
    Calls Tryd.prog 8 #[.string s] w fun e w' => e = .returned (.bool true) ∧ w.grownBy w' none := by
  rcases Nat.lt_or_ge 1048576 s.size with h | h
  · exact law_depc_out s h w
  · exact law_depc_in s h w

theorem door_met_depc (os : Os) (args : Array Value) : laidMetH Tryd.prog Rows.fnExactDepthOfCodeRow.laid ((World.laidAll Tryd.prog os Rows.fnExactDepthOfCodeRow.laid).forCall (fun _ _ => 0) ⟨#[], args, []⟩).memory := by
  rw [MakeChecks.laidMetH_plain _ _ _ (by kernel_rfl)]
  exact laidMet_laidAll _ (by kernel_rfl) (by kernel_rfl)

set_option maxRecDepth 100000 in
theorem depc_lifted (os : Os) (started : os.Started) (H : Type) (enc : TypeId × Value → H) :
    ReturnsInHanded {} Tryd.checked os 8 .any (fun w args => (Rows.fnExactDepthOfCodeSpec.pre enc Tryd.prog Tryd.f8 [] false w args ∧ laidMetH Tryd.prog Rows.fnExactDepthOfCodeRow.laid w) ∧ sizedMet enc Tryd.prog Tryd.f8 (OpenSpec.ofChange Rows.fnExactDepthOfCodeSpec) false w args) (Rows.fnExactDepthOfCodeSpec.post enc Tryd.prog Tryd.f8 false true false false) := by
  refine returnsInHanded_of_change_and (C := Tryd.checked) (X := fun w _ => laidMetH Tryd.prog Rows.fnExactDepthOfCodeRow.laid w) (fun _ _ _ hh h => h.of_heap hh) knob_own started (by kernel_rfl) Tryd.func8
    (ChangeSpec.witness_shaped (enc := enc) (C := Tryd.checked) (os := os) (X := fun w _ => laidMetH Tryd.prog Rows.fnExactDepthOfCodeRow.laid w) false (World.laidAll Tryd.prog os Rows.fnExactDepthOfCodeRow.laid) #[.string .empty] 8 (World.laidAll_os _ _ _) (World.shaped_of_ZipB (by kernel_rfl) (by kernel_rfl)) (by kernel_rfl) (by kernel_rfl) (by kernel_rfl) (door_met_depc os _)) ?_
  intro W base args ds gs before hval0 hW _ _ hL _
  have hval : ∀ (j : Nat) t v, Tryd.f8.params[j]? = some t → args[j]? = some v → Value.okWide Tryd.prog W .any base t v := hval0
  have hW' := hW
  obtain ⟨p, q, hA0, hV, rfl, hfz, hnd⟩ := hW
  have hA : DataW.TrodAll enc Tryd.prog W 0 (fun _ => true) true Tryd.f8.params.toList args.toList ds p := hA0
  rw [Tryd.params8] at hA hval
  obtain ⟨v0, d0, rfl, rfl, h0⟩ := trodAll_one hA
  obtain ⟨rfl, rfl⟩ := trodVars_none hV
  obtain ⟨s, rfl, rfl, rfl, hmax⟩ := open_string Tryd.underlying9 (hval 0 9 v0 rfl rfl) h0
  clear hA0 hval0
  simp only [List.append_nil] at hW'
  refine (law_depc s W).mono fun e W' ⟨he, hg⟩ => ?_
  subst he
  refine ⟨_, rfl, _, _, _, [], [], [], hW', ?_, ?_, rfl, (below_of hg).frame _, fun h => by cases h⟩
  · exact trodAll_mk1 (shut_bool Tryd.underlying4 _)
  · exact trodAll_mk1 (shut_string Tryd.underlying9 hmax)

theorem depc_row : Rows.FnExactDepthOfCodeSaid :=
  OpenClaim.holds_of_wide 8 Tryd.f8 rfl rfl rfl rfl rfl rfl rfl ⟨rfl, rfl, rfl, rfl, rfl⟩ rfl rfl rfl rfl rfl (by kernel_rfl) Tryd.func8 (by kernel_rfl)
    (of_decide_eq_true (by kernel_rfl)) (by unfold Func.isWrapper; first | (rw [if_pos (by decide +kernel)]; kernel_rfl) | (rw [if_neg (by decide +kernel)]; exact ⟨rfl, rfl⟩))
    (fun os started H enc _ => depc_lifted os started H enc)

theorem depc_holds : Rows.FnExactDepthOfCodeCardSaid :=
  Claim7.holds_tied_plain_at .later [] [.data, .pinned] true (true, "34bbca0471d9cb63907a04ebed20f4bdbae97c9b2692d9e5e5395e1b526744ed") true
    depc_row (fun _ h => by cases h) (by kernel_rfl) (fun _ h => by cases h) fnExactDepthOfCode_row_tie rfl ⟨rfl, rfl⟩ (by kernel_rfl) rfl
    (fun f fn hf hfn => by
      obtain rfl : f = 8 := Option.some.inj ((show Tryd.prog.funcNamed "loop.example/flatarrays/laws.FnExactDepthOfCode" = some 8 by kernel_rfl).symm.trans hf) |>.symm
      obtain rfl : fn = Tryd.f8 := (Option.some.inj (Tryd.func8.symm.trans hfn)).symm
      exact ⟨by kernel_rfl, fun j t ht => by
        rw [Tryd.params8] at ht
        have hm : t ∈ [9] := by simpa using Array.mem_of_getElem? ht
        have hall : ([9].all fun u => !Tryd.prog.wantsStandIn u) = true := by kernel_rfl
        exact (show Tryd.prog.wantsStandIn t = false by simpa using List.all_eq_true.1 hall t hm)⟩)
    (by kernel_rfl)

#print axioms depc_holds

end Go.Proofs.YtfaeolnmkdjhaaaDoor

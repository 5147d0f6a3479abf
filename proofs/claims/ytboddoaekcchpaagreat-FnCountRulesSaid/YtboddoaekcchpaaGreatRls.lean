/- What prefixOf and forEachOf of the program do; the sets of signs that rules ask for. -/
import Derived.Test.YtboddoaekcchpaaGreatTmN
import Derived.Test.YtboddoaekcchpaaGreatSgn
import Derived.Test.YtboddoaekcchpaaGreatSmp
import Derived.Test.YtboddoaekcchpaaGreatTOkb
import Derived.Deep.RegionLaw
namespace Go.Proofs.YtboddoaekcchpaaGreat
open Go.RowKit

def b4 (c : Int) : Bool := decide (c = 82 ∨ c = 83 ∨ c = 77 ∨ c = 78)
def b1 (d c : Int) : Bool := decide (c = d)
def b2 (c : Int) : Bool := decide (c = 43 ∨ c = 94)
def b3 (c : Int) : Bool := decide (c = 43 ∨ c = 94 ∨ c = 45)
def s4 : ByteArray := ⟨#[82, 83, 77, 78]⟩
def sR : ByteArray := ⟨#[82]⟩
def sN : ByteArray := ⟨#[78]⟩
def s2 : ByteArray := ⟨#[43, 94]⟩
def s3 : ByteArray := ⟨#[43, 94, 45]⟩
theorem s4_is {c : Int} (h0 : 0 ≤ c) (h1 : c ≤ 255) : decide (0 ≤ Lib.indexByte s4.data.toList c.toNat.toUInt8) = b4 c :=
  all256 (P := fun c => decide (0 ≤ Lib.indexByte s4.data.toList c.toNat.toUInt8) = b4 c) (by decide +kernel) h0 h1
theorem sR_is {c : Int} (h0 : 0 ≤ c) (h1 : c ≤ 255) : decide (0 ≤ Lib.indexByte sR.data.toList c.toNat.toUInt8) = b1 82 c :=
  all256 (P := fun c => decide (0 ≤ Lib.indexByte sR.data.toList c.toNat.toUInt8) = b1 82 c) (by decide +kernel) h0 h1
theorem sN_is {c : Int} (h0 : 0 ≤ c) (h1 : c ≤ 255) : decide (0 ≤ Lib.indexByte sN.data.toList c.toNat.toUInt8) = b1 78 c :=
  all256 (P := fun c => decide (0 ≤ Lib.indexByte sN.data.toList c.toNat.toUInt8) = b1 78 c) (by decide +kernel) h0 h1
theorem s2_is {c : Int} (h0 : 0 ≤ c) (h1 : c ≤ 255) : decide (0 ≤ Lib.indexByte s2.data.toList c.toNat.toUInt8) = b2 c :=
  all256 (P := fun c => decide (0 ≤ Lib.indexByte s2.data.toList c.toNat.toUInt8) = b2 c) (by decide +kernel) h0 h1
theorem s3_is {c : Int} (h0 : 0 ≤ c) (h1 : c ≤ 255) : decide (0 ≤ Lib.indexByte s3.data.toList c.toNat.toUInt8) = b3 c :=
  all256 (P := fun c => decide (0 ≤ Lib.indexByte s3.data.toList c.toNat.toUInt8) = b3 c) (by decide +kernel) h0 h1

abbrev OneP (c : Int) (set : ByteArray) (b : Bool) : Prop := ∀ w : World, Calls Tryz.prog 24 #[.int .u8 c, .string set] w fun e w' => e = .returned (.bool b) ∧ w' = w
theorem one4 {c : Int} (h : 0 ≤ c ∧ c ≤ 255) : OneP c ⟨#[82, 83, 77, 78]⟩ (b4 c) := fun w => oneof_any s4 c _ (s4_is h.1 h.2) w
theorem oneR {c : Int} (h : 0 ≤ c ∧ c ≤ 255) : OneP c ⟨#[82]⟩ (b1 82 c) := fun w => oneof_any sR c _ (sR_is h.1 h.2) w
theorem oneN {c : Int} (h : 0 ≤ c ∧ c ≤ 255) : OneP c ⟨#[78]⟩ (b1 78 c) := fun w => oneof_any sN c _ (sN_is h.1 h.2) w
theorem one2 {c : Int} (h : 0 ≤ c ∧ c ≤ 255) : OneP c ⟨#[43, 94]⟩ (b2 c) := fun w => oneof_any s2 c _ (s2_is h.1 h.2) w
theorem one3 {c : Int} (h : 0 ≤ c ∧ c ≤ 255) : OneP c ⟨#[43, 94, 45]⟩ (b3 c) := fun w => oneof_any s3 c _ (s3_is h.1 h.2) w
theorem bb {c : Int} (h : isB c = true) : 0 ≤ c ∧ c ≤ 255 := by have := isB_ge h; omega

/-- How prefixOf and forEachOf end. -/
def PfP (p : Option Addr) (b : Bool) (w : World) (e : Ending) (w' : World) : Prop := e = .returned (.tuple #[.pointer p, .bool b]) ∧ w.grownBy w' none

set_option maxRecDepth 100000 in
set_option maxHeartbeats 2000000 in
theorem pfx_hit (c : Int) (set : ByteArray) (b : Bool) (g : Nat) (x : Value) (w : World) (ho : OneP c set b) (hh : w.heap[g]? = some (.cells #[.int .u8 c, x] 115 (0, 0))) :
    Calls Tryz.prog 118 #[.iface 112 (.pointer (some ⟨g, 0, none⟩)), .string set] w (PfP (some ⟨g, 0, none⟩) b w) := by
  have ht := fun xT u => ta_pre_pre (.pointer (some ⟨g, 0, none⟩)) xT u
  have c0 : w.cell? ⟨g, 0, none⟩ = some (.int .u8 c) := cell_of_row w g 0 _ _ (0, 0) hh
  have HO := Lib.hid ho
  clear ho hh
  go_enter Tryz.func118, Tryz.ntmps118
  go_wp2_with fail
  refine (HO.out _).mono ?_
  rintro e w1 ⟨rfl, rfl⟩
  go_wp2_with fail
  go_ret2
  exact ⟨rfl, gr_refl _ _⟩

set_option maxRecDepth 100000 in
set_option maxHeartbeats 2000000 in
theorem pfx_miss (t : Tm) (S : Nat → Prop) (set : ByteArray) (ty : TypeId) (pv : Value) (w : World) (h : PT w S t (.iface ty pv)) (hl : t.isPrf = false) :
    Calls Tryz.prog 118 #[.iface ty pv, .string set] w (PfP none false w) := by
  have ht := ta_nopre h hl
  clear h hl
  go_enter Tryz.func118, Tryz.ntmps118
  go_wp2_with fail
  go_ret2
  exact ⟨rfl, gr_refl _ _⟩

set_option maxRecDepth 100000 in
set_option maxHeartbeats 2000000 in
theorem fe_hit (c i : Int) (g : Nat) (x y : Value) (w : World) (hh : w.heap[g]? = some (.cells #[.int .u8 c, .int .u8 i, x, y] 97 (0, 0))) :
    Calls Tryz.prog 119 #[.iface 94 (.pointer (some ⟨g, 0, none⟩))] w (PfP (some ⟨g, 0, none⟩) (b1 91 c) w) := by
  have ht := fun xT u => ta_loop_loop (.pointer (some ⟨g, 0, none⟩)) xT u
  have c0 : w.cell? ⟨g, 0, none⟩ = some (.int .u8 c) := cell_of_row w g 0 _ _ (0, 0) hh
  have hb : (c == 91) = b1 91 c := rfl
  generalize b1 91 c = b at hb ⊢
  clear hh
  go_enter Tryz.func119, Tryz.ntmps119
  go_wp2_with fail
  go_quiet (fail)
  go_wp2_with fail
  go_ret2
  exact ⟨rfl, gr_drewN _ _ _⟩

set_option maxRecDepth 100000 in
set_option maxHeartbeats 2000000 in
theorem fe_miss (t : Tm) (S : Nat → Prop) (ty : TypeId) (pv : Value) (w : World) (h : PT w S t (.iface ty pv)) (hl : t.isLp = false) :
    Calls Tryz.prog 119 #[.iface ty pv] w (PfP none false w) := by
  have ht := ta_nolp h hl
  clear h hl
  go_enter Tryz.func119, Tryz.ntmps119
  go_wp2_with fail
  go_quiet (fail)
  go_wp2_with fail
  go_ret2
  exact ⟨rfl, gr_drewN _ _ _⟩

/-- How a rule ends: with what the term becomes, if it applies. -/
def RulP (o : Option Tm) (w : World) (e : Ending) (w' : World) : Prop :=
  ∃ ty pv, e = .returned (.tuple #[.iface ty pv, .bool true]) ∧ w.grownBy w' none ∧ ∃ q, o = some q ∧ PT w' (fun _ => True) q (.iface ty pv)
/-- .. or with false. -/
def RulN (w : World) (e : Ending) (w' : World) : Prop := ∃ v, e = .returned (.tuple #[v, .bool false]) ∧ w.grownBy w' none
def RulE (o : Option Tm) (w : World) (e : Ending) (w' : World) : Prop := (o = none ∧ RulN w e w') ∨ RulP o w e w'
end Go.Proofs.YtboddoaekcchpaaGreat

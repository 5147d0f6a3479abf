/- Which of a few signs a byte is: what isOneOf of the program and l13Find of the model do. -/
import Derived.Test.YtboddoaekcchpaaGreatGr
import Derived.Test.YtboddoaekcchpaaGreatTm
import Derived.Test.YtboddoaekcchpaaGreatIn
import Derived.Lib.Bytealg
import Derived.Laws.Externs
namespace Go.Proofs.YtboddoaekcchpaaGreat
open Go.RowKit

set_option maxHeartbeats 1000000 in
set_option maxRecDepth 100000 in
theorem slidx_any (s : ByteArray) (c : Int) (w : World) :
    Calls Tryz.prog 69 #[.string s, .int .u8 c] w fun e w' => e = .returned (.int .i64 (Lib.indexByte s.data.toList c.toNat.toUInt8)) ∧ w' = w := by
  go_enter Tryz.func69, Tryz.ntmps69
  go_wp2
  rw [run_callFunc_extern Tryz.func85 (by kernel_rfl) (by kernel_rfl) (by kernel_rfl) (e := Extern.BytealgIndexByte.indexByte) (by kernel_rfl), Lib.run_indexByteString]
  simp only [Result.andThen]
  rw [Oper.upon_value]
  go_wp2
  go_ret
  exact ⟨rfl, rfl⟩

theorem stridx_any (s : ByteArray) (c : Int) (w : World) :
    Calls Tryz.prog 48 #[.string s, .int .u8 c] w fun e w' => e = .returned (.int .i64 (Lib.indexByte s.data.toList c.toNat.toUInt8)) ∧ w' = w := by
  go_enter Tryz.func48, Tryz.ntmps48
  go_wp2_with fail
  refine (slidx_any s c w).mono ?_
  rintro e w' ⟨rfl, rfl⟩
  go_wp2_with fail
  go_ret
  exact ⟨rfl, rfl⟩

theorem oneof_any (s : ByteArray) (c : Int) (b : Bool) (hb : decide (0 ≤ Lib.indexByte s.data.toList c.toNat.toUInt8) = b) (w : World) :
    Calls Tryz.prog 24 #[.int .u8 c, .string s] w fun e w' => e = .returned (.bool b) ∧ w' = w := by
  have H := Lib.hid (fun w => stridx_any s c w)
  generalize Lib.indexByte s.data.toList c.toNat.toUInt8 = k at H hb
  subst hb
  go_enter Tryz.func24, Tryz.ntmps24
  go_wp2_with fail
  refine (H.out w).mono ?_
  rintro e w' ⟨rfl, rfl⟩
  go_wp2_with fail
  go_ret
  exact ⟨rfl, rfl⟩

/-- The sets of signs. -/
def sV : ByteArray := ⟨#[97, 98, 118, 119, 120, 121, 122]⟩
def sL : ByteArray := ⟨#[118, 119, 120, 121, 122]⟩
def sP : ByteArray := ⟨#[83, 77, 73, 78, 82, 67, 80]⟩
def sB : ByteArray := ⟨#[43, 42, 94, 45, 61, 60, 64]⟩

theorem all256 {P : Int → Prop} (h : ∀ k : Fin 256, P (k.1 : Int)) {c : Int} (h0 : 0 ≤ c) (h1 : c ≤ 255) : P c := by
  have := h ⟨c.toNat, by omega⟩
  rw [show ((c.toNat : Nat) : Int) = c from by omega] at this
  exact this
theorem sV_is {c : Int} (h0 : 0 ≤ c) (h1 : c ≤ 255) : decide (0 ≤ Lib.indexByte sV.data.toList c.toNat.toUInt8) = isV c :=
  all256 (P := fun c => decide (0 ≤ Lib.indexByte sV.data.toList c.toNat.toUInt8) = isV c) (by decide +kernel) h0 h1
theorem sL_is {c : Int} (h0 : 0 ≤ c) (h1 : c ≤ 255) : decide (0 ≤ Lib.indexByte sL.data.toList c.toNat.toUInt8) = isL c :=
  all256 (P := fun c => decide (0 ≤ Lib.indexByte sL.data.toList c.toNat.toUInt8) = isL c) (by decide +kernel) h0 h1
theorem sP_is {c : Int} (h0 : 0 ≤ c) (h1 : c ≤ 255) : decide (0 ≤ Lib.indexByte sP.data.toList c.toNat.toUInt8) = isP c :=
  all256 (P := fun c => decide (0 ≤ Lib.indexByte sP.data.toList c.toNat.toUInt8) = isP c) (by decide +kernel) h0 h1
theorem sB_is {c : Int} (h0 : 0 ≤ c) (h1 : c ≤ 255) : decide (0 ≤ Lib.indexByte sB.data.toList c.toNat.toUInt8) = isB c :=
  all256 (P := fun c => decide (0 ≤ Lib.indexByte sB.data.toList c.toNat.toUInt8) = isB c) (by decide +kernel) h0 h1

theorem oneofV (c : Int) (h0 : 0 ≤ c) (h1 : c ≤ 255) (b : Bool) (hb : isV c = b) (w : World) :
    Calls Tryz.prog 24 #[.int .u8 c, .string { data := #[97, 98, 118, 119, 120, 121, 122] }] w fun e w' => e = .returned (.bool b) ∧ w' = w := oneof_any sV c b ((sV_is h0 h1).trans hb) w
theorem oneofL (c : Int) (h0 : 0 ≤ c) (h1 : c ≤ 255) (b : Bool) (hb : isL c = b) (w : World) :
    Calls Tryz.prog 24 #[.int .u8 c, .string { data := #[118, 119, 120, 121, 122] }] w fun e w' => e = .returned (.bool b) ∧ w' = w := oneof_any sL c b ((sL_is h0 h1).trans hb) w
theorem oneofP (c : Int) (h0 : 0 ≤ c) (h1 : c ≤ 255) (b : Bool) (hb : isP c = b) (w : World) :
    Calls Tryz.prog 24 #[.int .u8 c, .string { data := #[83, 77, 73, 78, 82, 67, 80] }] w fun e w' => e = .returned (.bool b) ∧ w' = w := oneof_any sP c b ((sP_is h0 h1).trans hb) w
theorem oneofB (c : Int) (h0 : 0 ≤ c) (h1 : c ≤ 255) (b : Bool) (hb : isB c = b) (w : World) :
    Calls Tryz.prog 24 #[.int .u8 c, .string { data := #[43, 42, 94, 45, 61, 60, 64] }] w fun e w' => e = .returned (.bool b) ∧ w' = w := oneof_any sB c b ((sB_is h0 h1).trans hb) w

/-- Where a byte stands first in a text, from a place on; -1 for nowhere. -/
def fndF (s : ByteArray) : Nat → Nat → Int → Int
  | 0, _, _ => -1
  | f + 1, i, c => if ba s i = c then i else fndF s f (i + 1) c
def fnd (s : ByteArray) (c : Int) : Int := fndF s s.size 0 c

set_option maxHeartbeats 400000 in
theorem find_any (s : ByteArray) (hs : s.size ≤ 1000000000) (c : Int) (w : World) :
    Calls Tryz.prog 73 #[.string s, .int .u8 c] w fun e w' => e = .returned (.int .i64 (fnd s c)) ∧ w' = w := by
  go_enter Tryz.func73, Tryz.ntmps73
  go_wp2_with fail
  go_loop [5] (fun i => ∃ k : Nat, k ≤ s.size ∧ i = .int .i64 k ∧ Hid (fnd s c = fndF s (s.size - k) k c)) (fun i => s.size - (intOf i).toNat)
  case atStart => exact ⟨0, Nat.zero_le _, rfl, Lib.hid rfl⟩
  case round =>
    obtain ⟨k, hk, rfl, he⟩ := hrel
    by_cases hlt : k < s.size
    · obtain ⟨f, hf⟩ : ∃ f, s.size - k = f + 1 := ⟨s.size - k - 1, by omega⟩
      by_cases hc : ba s k = c
      · have hb : ((s[k].toNat : Int) == c) = true := by rw [beq_iff_eq, ← ba_in hlt]; exact hc
        have HE : Hid (fnd s c = k) := Lib.hid (by rw [he.out, hf, fndF, if_pos hc])
        clear he hf hc
        go_wp2_with fail
        go_ret
        exact ⟨by rw [HE.out]; rfl, rfl⟩
      · have hb : ((s[k].toNat : Int) == c) = false := by rw [beq_eq_false_iff_ne, ← ba_in hlt]; exact hc
        have HE : Hid (fnd s c = fndF s (s.size - (k + 1)) (k + 1) c) := Lib.hid (by rw [he.out, hf, fndF, if_neg hc]; congr 1; omega)
        clear he hf hc
        go_wp2_with fail
        go_round
        case rel => exact ⟨k + 1, by omega, by go_num, HE⟩
        case measure => simp [intOf]; omega
    · have HE : Hid (fnd s c = -1) := Lib.hid (by rw [he.out, show s.size - k = 0 from by omega]; rfl)
      clear he
      go_wp2_with fail
      go_ret
      exact ⟨by rw [HE.out]; rfl, rfl⟩

theorem fndV_is {c : Int} (h0 : 0 ≤ c) (h1 : c ≤ 255) : decide (0 ≤ fnd sP c) = isP c :=
  all256 (P := fun c => decide (0 ≤ fnd sP c) = isP c) (by decide +kernel) h0 h1
theorem fndB_is {c : Int} (h0 : 0 ≤ c) (h1 : c ≤ 255) : decide (0 ≤ fnd sB c) = isB c :=
  all256 (P := fun c => decide (0 ≤ fnd sB c) = isB c) (by decide +kernel) h0 h1

/-- What l13Find answers at the two sets: a number that is not negative exactly if the sign is one of them. -/
def FndPost (b : Bool) (w : World) (e : Ending) (w' : World) : Prop := ∃ k : Int, e = .returned (.int .i64 k) ∧ decide (0 ≤ k) = b ∧ w' = w
theorem findP (c : Int) (h0 : 0 ≤ c) (h1 : c ≤ 255) (b : Bool) (hb : isP c = b) (w : World) :
    Calls Tryz.prog 73 #[.string { data := #[83, 77, 73, 78, 82, 67, 80] }, .int .u8 c] w (FndPost b w) :=
  (find_any sP (by decide) c w).mono fun _ _ ⟨he, hw⟩ => ⟨_, he, (fndV_is h0 h1).trans hb, hw⟩
theorem findB (c : Int) (h0 : 0 ≤ c) (h1 : c ≤ 255) (b : Bool) (hb : isB c = b) (w : World) :
    Calls Tryz.prog 73 #[.string { data := #[43, 42, 94, 45, 61, 60, 64] }, .int .u8 c] w (FndPost b w) :=
  (find_any sB (by decide) c w).mono fun _ _ ⟨he, hw⟩ => ⟨_, he, (fndB_is h0 h1).trans hb, hw⟩

end Go.Proofs.YtboddoaekcchpaaGreat

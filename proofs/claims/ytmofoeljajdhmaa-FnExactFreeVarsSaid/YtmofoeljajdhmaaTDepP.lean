/- The depth of what a sign gives: depthOfPrefix, depthOfPair, depthOfLoop of the program, l5One and l5Two of the model. -/
import Derived.Test.YtmofoeljajdhmaaTmD
import Derived.Test.YtmofoeljajdhmaaSgn
namespace Go.Proofs.Ytmofoeljajdhmaa
open Go.RowKit

/-- The set of signs "SM". -/
def sSM : ByteArray := ⟨#[83, 77]⟩
theorem sSM_is {c : Int} (h0 : 0 ≤ c) (h1 : c ≤ 255) : decide (0 ≤ Lib.indexByte sSM.data.toList c.toNat.toUInt8) = decide (c = 83 ∨ c = 77) :=
  all256 (P := fun c => decide (0 ≤ Lib.indexByte sSM.data.toList c.toNat.toUInt8) = decide (c = 83 ∨ c = 77)) (by decide +kernel) h0 h1

theorem ret_i {x y : Int} (h : x = y) : Ending.returned (.int .i64 x) = .returned (.int .i64 y) := by rw [h]

set_option maxRecDepth 100000 in
set_option maxHeartbeats 1000000 in
theorem dprefix_any (c d : Int) (w : World) (h0 : 0 ≤ c) (h1 : c ≤ 255) (hd : -1 ≤ d ∧ d ≤ 3) :
    Calls Try.prog 146 #[.int .u8 c, .int .i64 d] w fun e w' => e = .returned (.int .i64 (dOne c d)) ∧ w = w' := by
  have HO := Lib.hid (fun w => oneof_any sSM c _ (sSM_is h0 h1) w)
  have HD : Hid (∀ x, dOne c d = x ↔ dOne c d = x) := Lib.hid (fun _ => Iff.rfl)
  obtain ⟨b, hb⟩ : ∃ b, decide (c = 83 ∨ c = 77) = b := ⟨_, rfl⟩
  rw [hb] at HO
  unfold sSM at HO
  have w1 : IntKind.i64.wrap (d - 1) = d - 1 := IntWalk.i64_in _ (by omega)
  have HB := Lib.hid hb
  clear hb HD
  go_enter Try.func146, Try.ntmps146
  go_wp2_with fail
  refine (HO.out w).mono ?_
  rintro e w' ⟨rfl, rfl⟩
  cases b
  · have hb : ¬ (c = 83 ∨ c = 77) := by simpa using HB.out
    go_wp2_with fail
    all_goals
      go_ret
      refine ⟨ret_i ?_, rfl⟩
      try simp only [beq_iff_eq, beq_eq_false_iff_ne] at *
      unfold dOne
      rw [if_neg (fun h => hb h.1)]
      (repeat' split) <;> omega
  · have hb : c = 83 ∨ c = 77 := by simpa using HB.out
    go_wp2_with fail
    all_goals
      go_ret
      refine ⟨ret_i ?_, rfl⟩
      try simp only [beq_iff_eq, beq_eq_false_iff_ne] at *
      unfold dOne
      (repeat' split) <;> omega

set_option maxRecDepth 100000 in
set_option maxHeartbeats 1000000 in
theorem done_any (c d : Int) (w : World) (hd : -1 ≤ d ∧ d ≤ 3) :
    Calls Try.prog 150 #[.int .u8 c, .int .i64 d] w fun e w' => e = .returned (.int .i64 (dOne c d)) ∧ w = w' := by
  have w1 : IntKind.i64.wrap (d - 1) = d - 1 := IntWalk.i64_in _ (by omega)
  go_enter Try.func150, Try.ntmps150
  go_wp2_with fail
  all_goals
    go_ret
    refine ⟨ret_i ?_, rfl⟩
    try simp only [beq_iff_eq, beq_eq_false_iff_ne] at *
    unfold dOne
    (repeat' split) <;> omega

set_option maxRecDepth 100000 in
set_option maxHeartbeats 1000000 in
theorem dpair_any (c x y : Int) (w : World) :
    Calls Try.prog 147 #[.int .u8 c, .int .i64 x, .int .i64 y] w fun e w' => e = .returned (.int .i64 (dTwo c x y)) ∧ w = w' := by
  go_enter Try.func147, Try.ntmps147
  go_wp2_with fail
  all_goals
    go_ret
    refine ⟨ret_i ?_, rfl⟩
    try simp only [beq_iff_eq, beq_eq_false_iff_ne, bne_iff_ne, bne_eq_false_iff_eq, ne_eq] at *
    unfold dTwo
    (repeat' split) <;> omega

set_option maxRecDepth 100000 in
set_option maxHeartbeats 1000000 in
theorem dtwo_any (c x y : Int) (w : World) :
    Calls Try.prog 151 #[.int .u8 c, .int .i64 x, .int .i64 y] w fun e w' => e = .returned (.int .i64 (dTwo c x y)) ∧ w = w' := by
  go_enter Try.func151, Try.ntmps151
  go_wp2_with fail
  all_goals
    go_ret
    refine ⟨ret_i ?_, rfl⟩
    try simp only [beq_iff_eq, beq_eq_false_iff_ne] at *
    unfold dTwo
    (repeat' split) <;> omega

set_option maxRecDepth 100000 in
set_option maxHeartbeats 1000000 in
theorem dloop_any (c x y : Int) (w : World) (hc : c = 91 ∨ c = 123) (hy : -1 ≤ y ∧ y ≤ 3) :
    Calls Try.prog 148 #[.int .u8 c, .int .i64 x, .int .i64 y] w fun e w' => e = .returned (.int .i64 (dLoop c x y)) ∧ w = w' := by
  have w1 : IntKind.i64.wrap (y + 1) = y + 1 := IntWalk.i64_in _ (by omega)
  go_enter Try.func148, Try.ntmps148
  go_wp2_with fail
  all_goals
    go_ret
    refine ⟨ret_i ?_, rfl⟩
    try simp only [beq_iff_eq, beq_eq_false_iff_ne] at *
    unfold dLoop
    (repeat' split) <;> omega

end Go.Proofs.Ytmofoeljajdhmaa

/- What the model's l13Num does on a text of at most six digits. -/
import Derived.Test.YtachjodnhgmoiaaSpec
namespace Go.Proofs.Ytachjodnhgmoiaa
open Go.RowKit

set_option maxHeartbeats 400000 in
theorem num13_empty (t : ByteArray) (w : World) (h0 : t.size = 0) :
    Calls Try.prog 53 #[.string t] w fun e w' => e = .returned (.tuple #[.int .i64 0, .bool false]) ∧ w' = w := by
  have hd : decide (0 < t.size) = false := decide_eq_false (by omega)
  have hd2 : ((t.size : Int) == 0) = true := beq_iff_eq.2 (by omega)
  clear h0
  go_enter Try.func53, Try.ntmps53
  go_wp2_with fail
  all_goals (go_ret2; exact ⟨rfl, rfl⟩)

set_option maxHeartbeats 400000 in
theorem num13_zero (t : ByteArray) (w : World) (h1 : 1 < t.size) (h6 : t.size ≤ 6) (hz : ba t 0 = 48) :
    Calls Try.prog 53 #[.string t] w fun e w' => e = .returned (.tuple #[.int .i64 0, .bool false]) ∧ w' = w := by
  have hp : 0 < t.size := by omega
  rw [ba_in hp] at hz
  have hb1 : ((t[0].toNat : Int) == 45) = false := by rw [hz]; rfl
  have hb2 : ((t[0].toNat : Int) == 48) = true := by rw [hz]; rfl
  have hd : decide (0 < t.size) = true := decide_eq_true (by omega)
  have hd2 : ((t.size : Int) == 0) = false := beq_eq_false_iff_ne.2 (by omega)
  clear hz
  go_enter Try.func53, Try.ntmps53
  go_wp2_with fail
  all_goals (go_ret2; exact ⟨rfl, rfl⟩)

theorem ret2_int {a b : Int} (h : a = b) (v : Value) : Ending.returned (.tuple #[.int .i64 a, v]) = .returned (.tuple #[.int .i64 b, v]) := by rw [h]

set_option maxHeartbeats 800000 in
theorem num13_good (t : ByteArray) (w : World) (h1 : 0 < t.size) (h6 : t.size ≤ 6) (hdig : ∀ i, i < t.size → dg t i = true) (hz : ba t 0 = 48 → t.size = 1) :
    Calls Try.prog 53 #[.string t] w fun e w' => e = .returned (.tuple #[.int .i64 (val t 0 t.size : Nat), .bool true]) ∧ w' = w := by
  have hd0 := dg_yes (hdig 0 h1)
  rw [ba_in h1] at hd0 hz
  have hb1 : ((t[0].toNat : Int) == 45) = false := beq_eq_false_iff_ne.2 (by omega)
  have hd : decide (0 < t.size) = true := decide_eq_true (by omega)
  have hd2 : ((t.size : Int) == 0) = false := beq_eq_false_iff_ne.2 (by omega)
  have HDG := Lib.hid hdig
  obtain ⟨Z, hZ⟩ : ∃ Z : Bool, ((t[0].toNat : Int) == 48) = Z := ⟨_, rfl⟩
  have hZ2 : Z = true → t.size = 1 := fun e => hz (by rw [e] at hZ; exact beq_iff_eq.1 hZ)
  clear hz hdig
  cases Z
  all_goals
    first
    | (have hs1 : decide (1 < (t.size : Int)) = false := decide_eq_false (by have := hZ2 rfl; omega))
    | skip
    clear hZ2
    go_enter Try.func53, Try.ntmps53
    go_wp2_with fail
    clear hZ hb1 hd hd2 hd0
    go_loop [5, 6] (fun n i => ∃ k : Nat, k ≤ t.size ∧ i = .int .i64 k ∧ n = .int .i64 (val t 0 k : Nat)) (fun _ i => t.size - (intOf i).toNat)
    case atStart => exact ⟨0, Nat.zero_le _, rfl, rfl⟩
    case round =>
      obtain ⟨k, hk, rfl, rfl⟩ := hrel
      by_cases hlt : k < t.size
      · have hdk := dg_yes (HDG.out k hlt)
        rw [ba_in hlt] at hdk
        obtain ⟨hdk1, hdk2⟩ := hdk
        have hvk := val_lt6 t 0 k (by omega) (fun i hi => by rw [Nat.zero_add]; exact HDG.out i (by omega))
        have HVS := Lib.hid (show ((val t 0 (k + 1) : Nat) : Int) = (val t 0 k : Int) * 10 + ((t[k].toNat : Int) - 48) from by
          rw [val, Nat.zero_add, ba_in hlt]; omega)
        go_wp2_with fail
        go_round
        case rel => exact ⟨k + 1, by omega, by go_num, by rw [HVS.out]⟩
        case measure => simp [intOf]; omega
      · have hk2 : k = t.size := by omega
        have HK := Lib.hid hk2
        clear hk2
        go_wp2_with fail
        go_ret2
        exact ⟨ret2_int (by rw [HK.out]) _, rfl⟩

end Go.Proofs.Ytachjodnhgmoiaa

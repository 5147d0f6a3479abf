/- What signs between two digits give: arithmeticOf of the program, l6Number of the model. -/
import Derived.Test.YtboddoaekcchpaaGreatSmp
import Derived.Test.YtboddoaekcchpaaGreatSgn
import Derived.Shelf.Abstract
namespace Go.Proofs.YtboddoaekcchpaaGreat
open Go.RowKit Go.Shelf
attribute [local go_sem] Oper.semAt_some

theorem ret_eq {x y : Int} (h : x = y) : Ending.returned (.int .i64 x) = .returned (.int .i64 y) := by rw [h]
theorem ari94 (m n : Int) : arith 94 m n = max m n := rfl
theorem ari45 (m n : Int) : arith 45 m n = max (m - n) 0 := rfl

/-- A function of the program that does what a sign does. -/
structure Ari (gf : Nat) (c : Int) : Prop where
  enters : ∀ (args : Array Value) (w : World), (callFunc gf args).run Tryz.prog w = .ok (.enter gf args) w
  call : ∀ (m n : Int) (u : World), 0 ≤ m → m ≤ 9 → 0 ≤ n → n ≤ 9 → Calls Tryz.prog gf #[.int .i64 m, .int .i64 n] u fun e u' => e = .returned (.int .i64 (arith c m n)) ∧ u' = u

theorem mul_in {m n : Int} (h0 : 0 ≤ m) (h1 : m ≤ 9) (h2 : 0 ≤ n) (h3 : n ≤ 9) : 0 ≤ m * n ∧ m * n ≤ 81 :=
  ⟨Int.mul_nonneg h0 h2, Int.le_trans (Int.mul_le_mul h1 h3 h2 (by omega)) (by decide)⟩

set_option maxRecDepth 100000 in
set_option maxHeartbeats 400000 in
theorem oneif_any (b : Bool) (w : World) : Calls Tryz.prog 131 #[.bool b] w fun e w' => e = .returned (.int .i64 (if b = true then 1 else 0)) ∧ w' = w := by
  cases b
  · go_enter Tryz.func131, Tryz.ntmps131
    go_wp2_with fail
    go_ret
    exact ⟨rfl, rfl⟩
  · go_enter Tryz.func131, Tryz.ntmps131
    go_wp2_with fail
    go_ret
    exact ⟨rfl, rfl⟩
set_option maxRecDepth 100000 in
set_option maxHeartbeats 400000 in
theorem struth_any (b : Bool) (w : World) : Calls Tryz.prog 134 #[.bool b] w fun e w' => e = .returned (.int .i64 (if b = true then 1 else 0)) ∧ w' = w := by
  cases b
  · go_enter Tryz.func134, Tryz.ntmps134
    go_wp2_with fail
    go_ret
    exact ⟨rfl, rfl⟩
  · go_enter Tryz.func134, Tryz.ntmps134
    go_wp2_with fail
    go_ret
    exact ⟨rfl, rfl⟩

theorem mod_in {x : Int} (h0 : 0 ≤ x) (h1 : x ≤ 100) : x % 10007 = x := by omega
theorem tmod_in {x : Int} (h0 : 0 ≤ x) (h1 : x ≤ 100) : x.tmod 10007 = x := Int.tmod_eq_of_lt h0 (by omega)

set_option maxRecDepth 100000 in
set_option maxHeartbeats 400000 in
theorem ari_add : Ari 126 43 where
  enters := enters_of Tryz.func126 (by kernel_rfl) rfl
  call := fun m n u h0 h1 h2 h3 => by
    go_enter Tryz.func126, Tryz.ntmps126
    go_wp2_with fail
    go_ret
    exact ⟨by simp only [arith, if_true]; go_num, rfl⟩
set_option maxRecDepth 100000 in
set_option maxHeartbeats 400000 in
theorem ari_mul : Ari 127 42 where
  enters := enters_of Tryz.func127 (by kernel_rfl) rfl
  call := fun m n u h0 h1 h2 h3 => by
    have hm := mul_in h0 h1 h2 h3
    have hw : IntKind.i64.wrap (m * n) = m * n := IntWalk.i64_in _ (by omega)
    go_enter Tryz.func127, Tryz.ntmps127
    go_wp2_with fail
    go_ret
    exact ⟨by simp only [arith]; go_num, rfl⟩
set_option maxRecDepth 100000 in
set_option maxHeartbeats 400000 in
theorem ari_max : Ari 128 94 where
  enters := enters_of Tryz.func128 (by kernel_rfl) rfl
  call := fun m n u h0 h1 h2 h3 => by
    go_enter Tryz.func128, Tryz.ntmps128
    go_wp2_with fail
    all_goals
      go_ret
      exact ⟨ret_eq (by first | rw [ari94]; omega | rw [ari45]; omega), rfl⟩
set_option maxRecDepth 100000 in
set_option maxHeartbeats 400000 in
theorem ari_sub : Ari 129 45 where
  enters := enters_of Tryz.func129 (by kernel_rfl) rfl
  call := fun m n u h0 h1 h2 h3 => by
    go_enter Tryz.func129, Tryz.ntmps129
    go_wp2_with fail
    all_goals
      go_ret
      exact ⟨ret_eq (by first | rw [ari94]; omega | rw [ari45]; omega), rfl⟩
set_option maxRecDepth 100000 in
set_option maxHeartbeats 400000 in
theorem ari_eq : Ari 130 61 where
  enters := enters_of Tryz.func130 (by kernel_rfl) rfl
  call := fun m n u h0 h1 h2 h3 => by
    have HO := Lib.hid (fun w => oneif_any (m == n) w)
    have HE : Hid (arith 61 m n = if (m == n) = true then 1 else 0) := Lib.hid (by simp [arith])
    obtain ⟨z, hz⟩ : ∃ z : Int, (if (m == n) = true then 1 else 0) = z := ⟨_, rfl⟩
    rw [hz] at HE
    simp only [hz] at HO
    clear hz
    go_enter Tryz.func130, Tryz.ntmps130
    go_wp2_with fail
    refine (HO.out _).mono ?_
    rintro e w1 ⟨rfl, rfl⟩
    go_wp2_with fail
    go_ret
    exact ⟨by rw [HE.out]; rfl, rfl⟩
set_option maxRecDepth 100000 in
set_option maxHeartbeats 400000 in
theorem ari_lt {c : Int} (h1 : c ≠ 43) (h2 : c ≠ 42) (h3 : c ≠ 94) (h4 : c ≠ 45) (h5 : c ≠ 61) : Ari 132 c where
  enters := enters_of Tryz.func132 (by kernel_rfl) rfl
  call := fun m n u _ _ _ _ => by
    have HO := Lib.hid (fun w => oneif_any (decide (m < n)) w)
    have HE : Hid (arith c m n = if decide (m < n) = true then 1 else 0) := Lib.hid (by simp [arith, h1, h2, h3, h4, h5])
    obtain ⟨z, hz⟩ : ∃ z : Int, (if decide (m < n) = true then 1 else 0) = z := ⟨_, rfl⟩
    rw [hz] at HE
    simp only [hz] at HO
    clear hz
    clear h1 h2 h3 h4 h5
    go_enter Tryz.func132, Tryz.ntmps132
    go_wp2_with fail
    refine (HO.out _).mono ?_
    rintro e w1 ⟨rfl, rfl⟩
    go_wp2_with fail
    go_ret
    exact ⟨by rw [HE.out]; rfl, rfl⟩

set_option maxRecDepth 100000 in
set_option maxHeartbeats 1000000 in
theorem ariOf_any (c : Int) (w : World) : Calls Tryz.prog 117 #[.int .u8 c] w fun e w' => ∃ gf, e = .returned (.func (.func gf) #[] #[]) ∧ Ari gf c ∧ w' = w := by
  by_cases h1 : c = 43
  · subst h1
    go_enter Tryz.func117, Tryz.ntmps117
    go_wp2_with fail
    go_ret
    exact ⟨_, rfl, ari_add, rfl⟩
  by_cases h2 : c = 42
  · subst h2
    go_enter Tryz.func117, Tryz.ntmps117
    go_wp2_with fail
    go_ret
    exact ⟨_, rfl, ari_mul, rfl⟩
  by_cases h3 : c = 94
  · subst h3
    go_enter Tryz.func117, Tryz.ntmps117
    go_wp2_with fail
    go_ret
    exact ⟨_, rfl, ari_max, rfl⟩
  by_cases h4 : c = 45
  · subst h4
    go_enter Tryz.func117, Tryz.ntmps117
    go_wp2_with fail
    go_ret
    exact ⟨_, rfl, ari_sub, rfl⟩
  by_cases h5 : c = 61
  · subst h5
    go_enter Tryz.func117, Tryz.ntmps117
    go_wp2_with fail
    go_ret
    exact ⟨_, rfl, ari_eq, rfl⟩
  have HF := Lib.hid (ari_lt h1 h2 h3 h4 h5)
  have b1 : (c == 43) = false := by rw [beq_eq_false_iff_ne]; exact h1
  have b2 : (c == 42) = false := by rw [beq_eq_false_iff_ne]; exact h2
  have b3 : (c == 94) = false := by rw [beq_eq_false_iff_ne]; exact h3
  have b4 : (c == 45) = false := by rw [beq_eq_false_iff_ne]; exact h4
  have b5 : (c == 61) = false := by rw [beq_eq_false_iff_ne]; exact h5
  clear h1 h2 h3 h4 h5
  go_enter Tryz.func117, Tryz.ntmps117
  go_wp2_with fail
  go_ret
  exact ⟨_, rfl, HF.out, rfl⟩

set_option maxRecDepth 100000 in
set_option maxHeartbeats 400000 in
theorem sl3add_any (a b : Int) (w : World) (h0 : 0 ≤ a) (h1 : a ≤ 9) (h2 : 0 ≤ b) (h3 : b ≤ 9) :
    Calls Tryz.prog 133 #[.int .i64 a, .int .i64 b] w fun e w' => e = .returned (.int .i64 (a + b)) ∧ w' = w := by
  go_enter Tryz.func133, Tryz.ntmps133
  go_wp2_with fail
  go_ret
  exact ⟨by go_num, rfl⟩

set_option maxRecDepth 100000 in
set_option maxHeartbeats 2000000 in
theorem snum_any (c m n : Int) (w : World) (h0 : 0 ≤ m) (h1 : m ≤ 9) (h2 : 0 ≤ n) (h3 : n ≤ 9) :
    Calls Tryz.prog 122 #[.int .u8 c, .int .i64 m, .int .i64 n] w fun e w' => e = .returned (.int .i64 (arith c m n)) ∧ w' = w := by
  by_cases q1 : c = 43
  · subst q1
    have HA := Lib.hid (fun w => sl3add_any m n w h0 h1 h2 h3)
    go_enter Tryz.func122, Tryz.ntmps122
    go_wp2_with fail
    refine (HA.out _).mono ?_
    rintro e w1 ⟨rfl, rfl⟩
    go_wp2_with fail
    go_ret
    exact ⟨rfl, rfl⟩
  by_cases q2 : c = 42
  · subst q2
    have hm := mul_in h0 h1 h2 h3
    have hw : IntKind.i64.wrap (m * n) = m * n := IntWalk.i64_in _ (by omega)
    go_enter Tryz.func122, Tryz.ntmps122
    go_wp2_with fail
    go_ret
    exact ⟨by simp only [arith]; go_num, rfl⟩
  by_cases q3 : c = 94
  · subst q3
    go_enter Tryz.func122, Tryz.ntmps122
    go_wp2_with fail
    all_goals
      go_ret
      exact ⟨ret_eq (by first | rw [ari94]; omega | rw [ari45]; omega), rfl⟩
  by_cases q4 : c = 45
  · subst q4
    go_enter Tryz.func122, Tryz.ntmps122
    go_wp2_with fail
    all_goals
      go_ret
      exact ⟨ret_eq (by first | rw [ari94]; omega | rw [ari45]; omega), rfl⟩
  by_cases q5 : c = 61
  · subst q5
    have HO := Lib.hid (fun w => struth_any (m == n) w)
    have HE : Hid (arith 61 m n = if (m == n) = true then 1 else 0) := Lib.hid (by simp [arith])
    obtain ⟨z, hz⟩ : ∃ z : Int, (if (m == n) = true then 1 else 0) = z := ⟨_, rfl⟩
    rw [hz] at HE
    simp only [hz] at HO
    clear hz
    go_enter Tryz.func122, Tryz.ntmps122
    go_wp2_with fail
    refine (HO.out _).mono ?_
    rintro e w1 ⟨rfl, rfl⟩
    go_wp2_with fail
    go_ret
    exact ⟨by rw [HE.out]; rfl, rfl⟩
  have b1 : (c == 43) = false := by rw [beq_eq_false_iff_ne]; exact q1
  have b2 : (c == 42) = false := by rw [beq_eq_false_iff_ne]; exact q2
  have b3 : (c == 94) = false := by rw [beq_eq_false_iff_ne]; exact q3
  have b4 : (c == 45) = false := by rw [beq_eq_false_iff_ne]; exact q4
  have b5 : (c == 61) = false := by rw [beq_eq_false_iff_ne]; exact q5
  have HO := Lib.hid (fun w => struth_any (decide (m < n)) w)
  have HE : Hid (arith c m n = if decide (m < n) = true then 1 else 0) := Lib.hid (by simp [arith, q1, q2, q3, q4, q5])
  obtain ⟨z, hz⟩ : ∃ z : Int, (if decide (m < n) = true then 1 else 0) = z := ⟨_, rfl⟩
  rw [hz] at HE
  simp only [hz] at HO
  clear hz
  clear q1 q2 q3 q4 q5
  go_enter Tryz.func122, Tryz.ntmps122
  go_wp2_with fail
  refine (HO.out _).mono ?_
  rintro e w1 ⟨rfl, rfl⟩
  go_wp2_with fail
  go_ret
  exact ⟨by rw [HE.out]; rfl, rfl⟩

end Go.Proofs.YtboddoaekcchpaaGreat

/- What l7Kind of the model answers: the kind of an instruction's text. -/
import Derived.Test.YtohdlnkkchijnaaGreatDoorSgn
import Derived.Test.YtohdlnkkchijnaaGreatDoorCode
import Derived.Test.YtohdlnkkchijnaaGreatDoorCutP
namespace Go.Proofs.YtohdlnkkchijnaaGreatDoor
open Go.RowKit

def kS (x : ByteArray) : Int := match insOf x with
  | none => 0
  | some (.dig _) => 97
  | some (.var _) => 97
  | some (.pre _) => 83
  | some (.two _) => 43
  | some (.beg _ _) => 91
  | some (.fin _) => 93

set_option maxHeartbeats 1000000 in
theorem skind_else (x : ByteArray) (h1 : x.size ≠ 1) (h2 : x.size ≠ 2) (w : World) :
    Calls Tryz.prog 101 #[.string x] w fun e w' => e = .returned (.int .u8 (kS x)) ∧ w' = w := by
  have hk : kS x = 0 := by unfold kS insOf; rw [if_neg h1, if_neg (fun h => h2 h.1)]
  rw [hk]
  obtain ⟨n, hn⟩ : ∃ n, x.size = n := ⟨_, rfl⟩
  rw [hn] at h1 h2
  have hd1 : (((n : Nat) : Int) == 1) = false := by simp; omega
  have hd2 : (((n : Nat) : Int) == 2) = false := by simp; omega
  have hd3 : (((n : Nat) : Int) != 1) = true := by simp; omega
  clear hk h1 h2
  go_enter Tryz.func101, Tryz.ntmps101
  go_wp2_with fail
  go_ret
  exact ⟨rfl, rfl⟩

set_option maxHeartbeats 1000000 in
theorem skind_two (x : ByteArray) (hs : x.size = 2) (w : World) :
    Calls Tryz.prog 101 #[.string x] w fun e w' => e = .returned (.int .u8 (kS x)) ∧ w' = w := by
  have hlt : 0 < x.size := by omega
  have hlt1 : 1 < x.size := by omega
  have hb0 := ba_in hlt
  have hb1 := ba_in hlt1
  have hd0 := UInt8.toNat_lt x[0]
  have hd1 := UInt8.toNat_lt x[1]
  have hk : kS x = if (((x[0].toNat : Nat) : Int) = 91 ∨ ((x[0].toNat : Nat) : Int) = 123) ∧ isL ((x[1].toNat : Nat) : Int) = true then 91 else 0 := by
    unfold kS insOf
    rw [if_neg (by omega), hb0, hb1]
    by_cases h : (((x[0].toNat : Nat) : Int) = 91 ∨ ((x[0].toNat : Nat) : Int) = 123) ∧ isL ((x[1].toNat : Nat) : Int) = true
    · rw [if_pos h, if_pos ⟨hs, h⟩]
    · rw [if_neg h, if_neg (fun e => h e.2)]
  rw [hk]
  have HI := Lib.hid (fun w => in_any (((x[1].toNat : Nat) : Int)) 118 122 (isL ((x[1].toNat : Nat) : Int)) rfl w)
  clear hk hb0 hb1
  by_cases h91 : ((x[0].toNat : Nat) : Int) = 91
  · have e91 : (((x[0].toNat : Nat) : Int) == 91) = true := by simpa using h91
    cases hl : isL ((x[1].toNat : Nat) : Int) <;> rw [hl] at HI
    · rw [if_neg (by simp)]
      clear hl
      go_enter Tryz.func101, Tryz.ntmps101
      go_wp2_with fail
      refine (HI.out w).mono ?_
      rintro e w' ⟨rfl, rfl⟩
      go_wp2_with fail
      go_ret
      exact ⟨rfl, rfl⟩
    · rw [if_pos ⟨.inl h91, rfl⟩]
      clear hl
      go_enter Tryz.func101, Tryz.ntmps101
      go_wp2_with fail
      refine (HI.out w).mono ?_
      rintro e w' ⟨rfl, rfl⟩
      go_wp2_with fail
      go_ret
      exact ⟨rfl, rfl⟩
  have e91 : (((x[0].toNat : Nat) : Int) == 91) = false := by simpa using h91
  by_cases h123 : ((x[0].toNat : Nat) : Int) = 123
  · have e123 : (((x[0].toNat : Nat) : Int) == 123) = true := by simpa using h123
    cases hl : isL ((x[1].toNat : Nat) : Int) <;> rw [hl] at HI
    · rw [if_neg (by simp)]
      clear hl
      go_enter Tryz.func101, Tryz.ntmps101
      go_wp2_with fail
      refine (HI.out w).mono ?_
      rintro e w' ⟨rfl, rfl⟩
      go_wp2_with fail
      go_ret
      exact ⟨rfl, rfl⟩
    · rw [if_pos ⟨.inr h123, rfl⟩]
      clear hl
      go_enter Tryz.func101, Tryz.ntmps101
      go_wp2_with fail
      refine (HI.out w).mono ?_
      rintro e w' ⟨rfl, rfl⟩
      go_wp2_with fail
      go_ret
      exact ⟨rfl, rfl⟩
  have e123 : (((x[0].toNat : Nat) : Int) == 123) = false := by simpa using h123
  rw [if_neg (fun h => by rcases h.1 with e | e; exact h91 e; exact h123 e)]
  go_enter Tryz.func101, Tryz.ntmps101
  go_wp2_with fail
  go_ret
  exact ⟨rfl, rfl⟩

/-- What l7Kind answers at texts of one byte. -/
def k1 (c : Int) : Int := if isD c = true then 97 else if isV c = true then 97 else if isP c = true then 83 else if isB c = true then 43 else if c = 93 ∨ c = 125 then 93 else 0

set_option maxHeartbeats 2000000 in
theorem skind_one (x : ByteArray) (hs : x.size = 1) (w : World) :
    Calls Tryz.prog 101 #[.string x] w fun e w' => e = .returned (.int .u8 (kS x)) ∧ w' = w := by
  have hlt : 0 < x.size := by omega
  have hb0 := ba_in hlt
  have hd0 := UInt8.toNat_lt x[0]
  obtain ⟨c, hc⟩ : ∃ c : Int, ((x[0].toNat : Nat) : Int) = c := ⟨_, rfl⟩
  have hk : kS x = k1 c := by
    unfold kS insOf
    rw [if_pos hs, hb0, hc]
    unfold ins1 k1
    (repeat' split) <;> simp_all
  rw [hk]
  have h0 : 0 ≤ c := by omega
  have h1 : c ≤ 255 := by omega
  unfold k1
  clear hk hb0 hd0
  cases hD : isD c with
  | true =>
    rw [if_pos rfl]
    have HD := Lib.hid (fun w => in_any c 48 57 true hD w)
    clear hD
    go_enter Tryz.func101, Tryz.ntmps101
    go_wp2_with fail
    refine (HD.out w).mono ?_
    rintro e w' ⟨rfl, rfl⟩
    go_wp2_with fail
    go_ret
    exact ⟨rfl, rfl⟩
  | false =>
  rw [if_neg (by simp)]
  have HD := Lib.hid (fun w => in_any c 48 57 false hD w)
  by_cases h97 : c = 97
  · subst h97
    rw [if_pos (by rfl)]
    clear hD
    go_enter Tryz.func101, Tryz.ntmps101
    go_wp2_with fail
    refine (HD.out w).mono ?_
    rintro e w' ⟨rfl, rfl⟩
    go_wp2_with fail
    go_ret
    exact ⟨rfl, rfl⟩
  have e97 : (c == 97) = false := by simpa using h97
  by_cases h98 : c = 98
  · subst h98
    rw [if_pos (by rfl)]
    clear hD
    go_enter Tryz.func101, Tryz.ntmps101
    go_wp2_with fail
    refine (HD.out w).mono ?_
    rintro e w' ⟨rfl, rfl⟩
    go_wp2_with fail
    go_ret
    exact ⟨rfl, rfl⟩
  have e98 : (c == 98) = false := by simpa using h98
  have hVL : isV c = isL c := by unfold isV isL; simp [h97, h98]
  cases hL : isL c with
  | true =>
    have HL := Lib.hid (fun w => in_any c 118 122 true hL w)
    rw [if_pos (hVL.trans hL)]
    clear hD hVL hL
    go_enter Tryz.func101, Tryz.ntmps101
    go_wp2_with fail
    refine (HD.out w).mono ?_
    rintro e w' ⟨rfl, rfl⟩
    go_wp2_with fail
    refine (HL.out w').mono ?_
    rintro e w ⟨rfl, rfl⟩
    go_wp2_with fail
    go_ret
    exact ⟨rfl, rfl⟩
  | false =>
  have HL := Lib.hid (fun w => in_any c 118 122 false hL w)
  rw [if_neg (by rw [hVL, hL]; simp)]
  cases hP : isP c with
  | true =>
    rw [if_pos rfl]
    have HP := Lib.hid (fun w => findP c h0 h1 true hP w)
    clear hD hVL hL hP
    go_enter Tryz.func101, Tryz.ntmps101
    go_wp2_with fail
    refine (HD.out w).mono ?_
    rintro e w' ⟨rfl, rfl⟩
    go_wp2_with fail
    refine (HL.out w').mono ?_
    rintro e w ⟨rfl, rfl⟩
    go_wp2_with fail
    refine (HP.out w).mono ?_
    rintro e w' ⟨k, rfl, hk, rfl⟩
    go_wp2_with fail
    go_ret
    exact ⟨rfl, rfl⟩
  | false =>
  have HP := Lib.hid (fun w => findP c h0 h1 false hP w)
  rw [if_neg (by simp)]
  cases hB : isB c with
  | true =>
    rw [if_pos rfl]
    have HB := Lib.hid (fun w => findB c h0 h1 true hB w)
    clear hD hVL hL hP hB
    go_enter Tryz.func101, Tryz.ntmps101
    go_wp2_with fail
    refine (HD.out w).mono ?_
    rintro e w' ⟨rfl, rfl⟩
    go_wp2_with fail
    refine (HL.out w').mono ?_
    rintro e w ⟨rfl, rfl⟩
    go_wp2_with fail
    refine (HP.out w).mono ?_
    rintro e w' ⟨k, rfl, hk, rfl⟩
    go_wp2_with fail
    clear hk
    refine (HB.out w').mono ?_
    rintro e w ⟨k2, rfl, hk2, rfl⟩
    go_wp2_with fail
    go_ret
    exact ⟨rfl, rfl⟩
  | false =>
  have HB := Lib.hid (fun w => findB c h0 h1 false hB w)
  rw [if_neg (by simp)]
  by_cases h93 : c = 93
  · subst h93
    rw [if_pos (.inl rfl)]
    clear hD hVL hL hP hB
    go_enter Tryz.func101, Tryz.ntmps101
    go_wp2_with fail
    refine (HD.out w).mono ?_
    rintro e w' ⟨rfl, rfl⟩
    go_wp2_with fail
    refine (HL.out w').mono ?_
    rintro e w ⟨rfl, rfl⟩
    go_wp2_with fail
    refine (HP.out w).mono ?_
    rintro e w' ⟨k, rfl, hk, rfl⟩
    go_wp2_with fail
    clear hk
    refine (HB.out w').mono ?_
    rintro e w ⟨k2, rfl, hk2, rfl⟩
    go_wp2_with fail
    go_ret
    exact ⟨rfl, rfl⟩
  have e93 : (c == 93) = false := by simpa using h93
  by_cases h125 : c = 125
  · subst h125
    rw [if_pos (.inr rfl)]
    clear hD hVL hL hP hB
    go_enter Tryz.func101, Tryz.ntmps101
    go_wp2_with fail
    refine (HD.out w).mono ?_
    rintro e w' ⟨rfl, rfl⟩
    go_wp2_with fail
    refine (HL.out w').mono ?_
    rintro e w ⟨rfl, rfl⟩
    go_wp2_with fail
    refine (HP.out w).mono ?_
    rintro e w' ⟨k, rfl, hk, rfl⟩
    go_wp2_with fail
    clear hk
    refine (HB.out w').mono ?_
    rintro e w ⟨k2, rfl, hk2, rfl⟩
    go_wp2_with fail
    go_ret
    exact ⟨rfl, rfl⟩
  have e125 : (c == 125) = false := by simpa using h125
  rw [if_neg (by omega)]
  clear hD hVL hL hP hB
  go_enter Tryz.func101, Tryz.ntmps101
  go_wp2_with fail
  refine (HD.out w).mono ?_
  rintro e w' ⟨rfl, rfl⟩
  go_wp2_with fail
  refine (HL.out w').mono ?_
  rintro e w ⟨rfl, rfl⟩
  go_wp2_with fail
  refine (HP.out w).mono ?_
  rintro e w' ⟨k, rfl, hk, rfl⟩
  go_wp2_with fail
  clear hk
  refine (HB.out w').mono ?_
  rintro e w ⟨k2, rfl, hk2, rfl⟩
  go_wp2_with fail
  go_ret
  exact ⟨rfl, rfl⟩

theorem skind_any (x : ByteArray) (w : World) :
    Calls Tryz.prog 101 #[.string x] w fun e w' => e = .returned (.int .u8 (kS x)) ∧ w' = w := by
  by_cases h1 : x.size = 1
  · exact skind_one x h1 w
  by_cases h2 : x.size = 2
  · exact skind_two x h2 w
  exact skind_else x h1 h2 w

end Go.Proofs.YtohdlnkkchijnaaGreatDoor

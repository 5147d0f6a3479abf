/- The kind of a sign, and the instruction of a sign. -/
import Derived.Test.YtdfanconjiiceaaDoorSgn
import Derived.Test.YtdfanconjiiceaaDoorDig
import Derived.Test.YtdfanconjiiceaaDoorSTRd
namespace Go.Proofs.YtdfanconjiiceaaDoor
open Go.RowKit

/-- The kind of a sign. -/
def kd (c : Int) : Int := if isD c = true then 1 else if isV c = true then 2 else if isP c = true then 3 else if isB c = true then 4
  else if c = 91 ∨ c = 123 then 5 else if c = 93 ∨ c = 125 then 6 else 0

def sO : ByteArray := ⟨#[91, 123]⟩
def sC : ByteArray := ⟨#[93, 125]⟩
def isO (c : Int) : Bool := decide (c = 91 ∨ c = 123)
def isC (c : Int) : Bool := decide (c = 93 ∨ c = 125)
theorem sO_is {c : Int} (h0 : 0 ≤ c) (h1 : c ≤ 255) : decide (0 ≤ Lib.indexByte sO.data.toList c.toNat.toUInt8) = isO c :=
  all256 (P := fun c => decide (0 ≤ Lib.indexByte sO.data.toList c.toNat.toUInt8) = isO c) (by decide +kernel) h0 h1
theorem sC_is {c : Int} (h0 : 0 ≤ c) (h1 : c ≤ 255) : decide (0 ≤ Lib.indexByte sC.data.toList c.toNat.toUInt8) = isC c :=
  all256 (P := fun c => decide (0 ≤ Lib.indexByte sC.data.toList c.toNat.toUInt8) = isC c) (by decide +kernel) h0 h1
theorem oneofO (c : Int) (h0 : 0 ≤ c) (h1 : c ≤ 255) (b : Bool) (hb : isO c = b) (w : World) :
    Calls Tryd.prog 35 #[.int .u8 c, .string { data := #[91, 123] }] w fun e w' => e = .returned (.bool b) ∧ w' = w := oneof_any sO c b ((sO_is h0 h1).trans hb) w
theorem oneofC (c : Int) (h0 : 0 ≤ c) (h1 : c ≤ 255) (b : Bool) (hb : isC c = b) (w : World) :
    Calls Tryd.prog 35 #[.int .u8 c, .string { data := #[93, 125] }] w fun e w' => e = .returned (.bool b) ∧ w' = w := oneof_any sC c b ((sC_is h0 h1).trans hb) w

set_option maxHeartbeats 1000000 in
theorem kind_any (c : Int) (h0 : 0 ≤ c) (h1 : c ≤ 255) (w : World) :
    Calls Tryd.prog 42 #[.int .u8 c] w fun e w' => e = .returned (.int .i64 (kd c)) ∧ w' = w := by
  obtain ⟨k, hk⟩ : ∃ k, kd c = k := ⟨_, rfl⟩
  rw [hk]
  unfold kd at hk
  cases hd : isD c with
  | true =>
    rw [if_pos hd] at hk; subst hk
    have HD := Lib.hid (fun w => isdigit_any c true hd w)
    go_enter Tryd.func42, Tryd.ntmps42
    go_wp2_with fail
    refine (HD.out w).mono ?_
    rintro e w' ⟨rfl, rfl⟩
    go_wp2_with fail
    go_ret
    exact ⟨rfl, rfl⟩
  | false =>
  rw [if_neg (by simp [hd])] at hk
  have HD := Lib.hid (fun w => isdigit_any c false hd w)
  cases hv : isV c with
  | true =>
    rw [if_pos hv] at hk; subst hk
    have HV := Lib.hid (fun w => oneofV c h0 h1 true hv w)
    go_enter Tryd.func42, Tryd.ntmps42
    go_wp2_with fail
    refine (HD.out w).mono ?_
    rintro e w' ⟨rfl, rfl⟩
    go_wp2_with fail
    refine (HV.out w').mono ?_
    rintro e w ⟨rfl, rfl⟩
    go_wp2_with fail
    go_ret
    exact ⟨rfl, rfl⟩
  | false =>
  rw [if_neg (by simp [hv])] at hk
  have HV := Lib.hid (fun w => oneofV c h0 h1 false hv w)
  cases hp : isP c with
  | true =>
    rw [if_pos hp] at hk; subst hk
    have HP := Lib.hid (fun w => oneofP c h0 h1 true hp w)
    go_enter Tryd.func42, Tryd.ntmps42
    go_wp2_with fail
    refine (HD.out w).mono ?_
    rintro e w' ⟨rfl, rfl⟩
    go_wp2_with fail
    refine (HV.out w').mono ?_
    rintro e w ⟨rfl, rfl⟩
    go_wp2_with fail
    refine (HP.out w).mono ?_
    rintro e w' ⟨rfl, rfl⟩
    go_wp2_with fail
    go_ret
    exact ⟨rfl, rfl⟩
  | false =>
  rw [if_neg (by simp [hp])] at hk
  have HP := Lib.hid (fun w => oneofP c h0 h1 false hp w)
  cases hb : isB c with
  | true =>
    rw [if_pos hb] at hk; subst hk
    have HB := Lib.hid (fun w => oneofB c h0 h1 true hb w)
    go_enter Tryd.func42, Tryd.ntmps42
    go_wp2_with fail
    refine (HD.out w).mono ?_
    rintro e w' ⟨rfl, rfl⟩
    go_wp2_with fail
    refine (HV.out w').mono ?_
    rintro e w ⟨rfl, rfl⟩
    go_wp2_with fail
    refine (HP.out w).mono ?_
    rintro e w' ⟨rfl, rfl⟩
    go_wp2_with fail
    refine (HB.out w').mono ?_
    rintro e w ⟨rfl, rfl⟩
    go_wp2_with fail
    go_ret
    exact ⟨rfl, rfl⟩
  | false =>
  rw [if_neg (by simp [hb])] at hk
  have HB := Lib.hid (fun w => oneofB c h0 h1 false hb w)
  cases ho : isO c with
  | true =>
    rw [if_pos (of_decide_eq_true ho)] at hk; subst hk
    have HO := Lib.hid (fun w => oneofO c h0 h1 true ho w)
    go_enter Tryd.func42, Tryd.ntmps42
    go_wp2_with fail
    refine (HD.out w).mono ?_
    rintro e w' ⟨rfl, rfl⟩
    go_wp2_with fail
    refine (HV.out w').mono ?_
    rintro e w ⟨rfl, rfl⟩
    go_wp2_with fail
    refine (HP.out w).mono ?_
    rintro e w' ⟨rfl, rfl⟩
    go_wp2_with fail
    refine (HB.out w').mono ?_
    rintro e w ⟨rfl, rfl⟩
    go_wp2_with fail
    refine (HO.out w).mono ?_
    rintro e w' ⟨rfl, rfl⟩
    go_wp2_with fail
    go_ret
    exact ⟨rfl, rfl⟩
  | false =>
  rw [if_neg (of_decide_eq_false ho)] at hk
  have HO := Lib.hid (fun w => oneofO c h0 h1 false ho w)
  have HC := Lib.hid (fun w => oneofC c h0 h1 (isC c) rfl w)
  cases hc : isC c with
  | true =>
    rw [if_pos (of_decide_eq_true hc)] at hk; subst hk
    rw [hc] at HC
    go_enter Tryd.func42, Tryd.ntmps42
    go_wp2_with fail
    refine (HD.out w).mono ?_
    rintro e w' ⟨rfl, rfl⟩
    go_wp2_with fail
    refine (HV.out w').mono ?_
    rintro e w ⟨rfl, rfl⟩
    go_wp2_with fail
    refine (HP.out w).mono ?_
    rintro e w' ⟨rfl, rfl⟩
    go_wp2_with fail
    refine (HB.out w').mono ?_
    rintro e w ⟨rfl, rfl⟩
    go_wp2_with fail
    refine (HO.out w).mono ?_
    rintro e w' ⟨rfl, rfl⟩
    go_wp2_with fail
    refine (HC.out w').mono ?_
    rintro e w ⟨rfl, rfl⟩
    go_wp2_with fail
    go_ret
    exact ⟨rfl, rfl⟩
  | false =>
    rw [if_neg (of_decide_eq_false hc)] at hk; subst hk
    rw [hc] at HC
    go_enter Tryd.func42, Tryd.ntmps42
    go_wp2_with fail
    refine (HD.out w).mono ?_
    rintro e w' ⟨rfl, rfl⟩
    go_wp2_with fail
    refine (HV.out w').mono ?_
    rintro e w ⟨rfl, rfl⟩
    go_wp2_with fail
    refine (HP.out w).mono ?_
    rintro e w' ⟨rfl, rfl⟩
    go_wp2_with fail
    refine (HB.out w').mono ?_
    rintro e w ⟨rfl, rfl⟩
    go_wp2_with fail
    refine (HO.out w).mono ?_
    rintro e w' ⟨rfl, rfl⟩
    go_wp2_with fail
    refine (HC.out w').mono ?_
    rintro e w ⟨rfl, rfl⟩
    go_wp2_with fail
    go_ret
    exact ⟨rfl, rfl⟩

/-- An instruction of a kind, a sign and a variable. -/
def insT (k c v : Int) : Value := .agg #[.int .i64 k, .int .u8 c, .int .u8 v]

set_option maxHeartbeats 1000000 in
theorem inst_any (c : Int) (h0 : 0 ≤ c) (h1 : c ≤ 255) (w : World) :
    Calls Tryd.prog 27 #[.int .u8 c] w fun e w' => e = .returned (insT (kd c) c 0) ∧ w.grownBy w' none := by
  have HK := Lib.hid (fun w => kind_any c h0 h1 w)
  generalize kd c = k at HK
  have HN := Lib.hid (c3_new w (.int .i64 0) (.int .u8 0) (.int .u8 0) 59)
  have HG := Lib.hid (World.grownBy_alloc w (.cells #[.int .i64 0, .int .u8 0, .int .u8 0] 59) none)
  go_enter Tryd.func27, Tryd.ntmps27
  have n0 := HN.out.c0
  have n1 := HN.out.c1
  have n2 := HN.out.c2
  have f0 := HN.out.f 0
  have f1 := HN.out.f 1
  have f2 := HN.out.f 2
  go_wp2_with fail
  refine (HK.out _).mono ?_
  rintro e w' ⟨rfl, rfl⟩
  clear n0 n1 n2 f0 f1 f2
  go_wp2_with fail
  have HL := c3_new w (.int .i64 k) (.int .u8 c) (.int .u8 0) 59
  have m0 := HL.c0
  have m1 := HL.c1
  have m2 := HL.c2
  refine bodyPost_ret (v := insT k c 0) (by simp [results, Tryd.results27, go_sem, m0, m1, m2, insT]) rfl ⟨rfl, World.grownBy_alloc _ _ _⟩

theorem gr_laid3n {w w1 : World} {b : Nat} (h : w.grownBy w1 none) (hb : w.heap.size ≤ b) (x y z : Value) : w.grownBy (laid3 w1 b x y z) none :=
  gr_new (gr_new (gr_new h (gr_set _ _ _ _) hb) (gr_set _ _ _ _) hb) (gr_set _ _ _ _) hb

end Go.Proofs.YtdfanconjiiceaaDoor

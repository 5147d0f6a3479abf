/- What readInstruction of the program gives: the instruction with a text. -/
import Derived.Test.YtdfanconjiiceaaDoorInsK
import Derived.Test.YtdfanconjiiceaaDoorCode
namespace Go.Proofs.YtdfanconjiiceaaDoor
open Go.RowKit

/-- The instruction that is read from a text. -/
def riV (x : ByteArray) : Value := if x.size = 1 ∧ kd (ba x 0) ≠ 5 then insT (kd (ba x 0)) (ba x 0) 0
  else if x.size = 2 ∧ kd (ba x 0) = 5 ∧ isL (ba x 1) = true then insT 5 (ba x 0) (ba x 1) else insT 0 0 0

set_option maxHeartbeats 1000000 in
theorem read_one (x : ByteArray) (hs : x.size = 1) (w : World) :
    Calls Tryd.prog 29 #[.string x] w fun e w' => e = .returned (riV x) ∧ w.grownBy w' none := by
  have hlt : 0 < x.size := by omega
  have hb := ba_in hlt
  have hbd := UInt8.toNat_lt x[0]
  have HK := Lib.hid (fun w => kind_any (((x[0].toNat : Nat) : Int)) (by omega) (by omega) w)
  have HI := Lib.hid (fun w => inst_any (((x[0].toNat : Nat) : Int)) (by omega) (by omega) w)
  obtain ⟨r, hr⟩ : ∃ r, riV x = r := ⟨_, rfl⟩
  rw [hr]
  unfold riV at hr
  rw [hb] at hr
  obtain ⟨k, hk⟩ : ∃ k, kd (((x[0].toNat : Nat) : Int)) = k := ⟨_, rfl⟩
  rw [hk] at HK HI hr
  have HR := Lib.hid hr
  clear hr hb hk hbd
  by_cases h5 : k = 5
  · subst h5
    go_enter Tryd.func29, Tryd.ntmps29
    go_wp2_with fail
    refine (HK.out _).mono ?_
    rintro e w' ⟨rfl, rfl⟩
    go_wp2_with fail
    have HL := c3_new w (.int .i64 0) (.int .u8 0) (.int .u8 0) 59
    have m0 := HL.c0
    have m1 := HL.c1
    have m2 := HL.c2
    refine bodyPost_ret (v := insT 0 0 0) (by simp [results, Tryd.results29, go_sem, m0, m1, m2, insT]) rfl ⟨?_, World.grownBy_alloc _ _ _⟩
    rw [← HR.out, if_neg (by simp), if_neg (by omega)]
  · have hk5 : (k != 5) = true := by simpa using h5
    have HN := Lib.hid (c3_new w (.int .i64 0) (.int .u8 0) (.int .u8 0) 59)
    go_enter Tryd.func29, Tryd.ntmps29
    go_wp2_with fail
    refine (HK.out _).mono ?_
    rintro e w' ⟨rfl, rfl⟩
    go_wp2_with fail
    refine (HI.out _).mono ?_
    rintro e w' ⟨rfl, hg⟩
    have HN2 := Lib.hid (HN.out.grown hg (by simp))
    have n0 := HN2.out.c0
    have n1 := HN2.out.c1
    have n2 := HN2.out.c2
    have f0 := HN2.out.f 0
    have f1 := HN2.out.f 1
    have f2 := HN2.out.f 2
    have HG := Lib.hid ((World.grownBy_alloc w (.cells #[.int .i64 0, .int .u8 0, .int .u8 0] 59) none).trans hg)
    unfold insT
    clear hg
    go_wp2_with fail
    have HL := HN2.out.laid (x' := .int .i64 k) (y' := .int .u8 ((x[0].toNat : Nat) : Int)) (z' := .int .u8 0)
    clear n0 n1 n2 f0 f1 f2
    have m0 := HL.c0
    have m1 := HL.c1
    have m2 := HL.c2
    unfold laid3 at m0 m1 m2
    refine bodyPost_ret (v := insT k ((x[0].toNat : Nat) : Int) 0) (by simp [results, Tryd.results29, go_sem, m0, m1, m2, insT]) rfl ⟨?_, gr_laid3n HG.out (Nat.le_refl _) _ _ _⟩
    rw [← HR.out, if_pos ⟨hs, h5⟩]

set_option maxHeartbeats 1000000 in
theorem read_two (x : ByteArray) (hs : x.size = 2) (w : World) :
    Calls Tryd.prog 29 #[.string x] w fun e w' => e = .returned (riV x) ∧ w.grownBy w' none := by
  have hlt : 0 < x.size := by omega
  have hlt1 : 1 < x.size := by omega
  have hb := ba_in hlt
  have hb1 := ba_in hlt1
  have hbd := UInt8.toNat_lt x[0]
  have hbd1 := UInt8.toNat_lt x[1]
  have HK := Lib.hid (fun w => kind_any (((x[0].toNat : Nat) : Int)) (by omega) (by omega) w)
  have HO := Lib.hid (fun (b : Bool) (hb : isL (((x[1].toNat : Nat) : Int)) = b) w => oneofL (((x[1].toNat : Nat) : Int)) (by omega) (by omega) b hb w)
  obtain ⟨r, hr⟩ : ∃ r, riV x = r := ⟨_, rfl⟩
  rw [hr]
  unfold riV at hr
  rw [hb, hb1] at hr
  obtain ⟨k, hk⟩ : ∃ k, kd (((x[0].toNat : Nat) : Int)) = k := ⟨_, rfl⟩
  rw [hk] at HK hr
  have HR := Lib.hid hr
  clear hr hb hb1 hk hbd hbd1
  by_cases h5 : k = 5
  · subst h5
    cases hl : isL (((x[1].toNat : Nat) : Int))
    · have HOL := Lib.hid (HO.out false hl)
      have HLL := Lib.hid hl
      clear HO hl
      go_enter Tryd.func29, Tryd.ntmps29
      go_wp2_with fail
      refine (HK.out _).mono ?_
      rintro e w' ⟨rfl, rfl⟩
      go_wp2_with fail
      refine (HOL.out _).mono ?_
      rintro e w' ⟨rfl, rfl⟩
      go_wp2_with fail
      have HL := c3_new w (.int .i64 0) (.int .u8 0) (.int .u8 0) 59
      have m0 := HL.c0
      have m1 := HL.c1
      have m2 := HL.c2
      refine bodyPost_ret (v := insT 0 0 0) (by simp [results, Tryd.results29, go_sem, m0, m1, m2, insT]) rfl ⟨?_, World.grownBy_alloc _ _ _⟩
      rw [← HR.out, if_neg (by omega), if_neg (by rw [HLL.out]; simp)]
    · have HOL := Lib.hid (HO.out true hl)
      have HLL := Lib.hid hl
      have HN := Lib.hid (c3_new w (.int .i64 0) (.int .u8 0) (.int .u8 0) 59)
      clear HO hl
      go_enter Tryd.func29, Tryd.ntmps29
      have n0 := HN.out.c0
      have n1 := HN.out.c1
      have n2 := HN.out.c2
      have f0 := HN.out.f 0
      have f1 := HN.out.f 1
      have f2 := HN.out.f 2
      go_wp2_with fail
      refine (HK.out _).mono ?_
      rintro e w' ⟨rfl, rfl⟩
      go_wp2_with fail
      refine (HOL.out _).mono ?_
      rintro e w' ⟨rfl, rfl⟩
      go_wp2_with fail
      go_region
      go_wp2_with fail
      clear n0 n1 n2 f0 f1 f2
      have HL : C3 (w.alloc (.cells #[.int .i64 5, .int .u8 ((x[0].toNat : Nat) : Int), .int .u8 ((x[1].toNat : Nat) : Int)] 59)).drew w.heap.size (.int .i64 5) (.int .u8 ((x[0].toNat : Nat) : Int)) (.int .u8 ((x[1].toNat : Nat) : Int)) 59 := c3_new w (.int .i64 5) (.int .u8 ((x[0].toNat : Nat) : Int)) (.int .u8 ((x[1].toNat : Nat) : Int)) 59
      have m0 := HL.c0
      have m1 := HL.c1
      have m2 := HL.c2
      refine bodyPost_ret (v := insT 5 ((x[0].toNat : Nat) : Int) ((x[1].toNat : Nat) : Int)) (by simp [results, Tryd.results29, go_sem, m0, m1, m2, insT]) rfl ⟨?_, (World.grownBy_alloc _ _ _).trans (gr_drewN _ 1 none)⟩
      rw [← HR.out, if_neg (by omega), if_pos (by refine ⟨hs, ?_, HLL.out⟩; trivial)]
  · have hk5 : (k == 5) = false := by simpa using h5
    go_enter Tryd.func29, Tryd.ntmps29
    go_wp2_with fail
    refine (HK.out _).mono ?_
    rintro e w' ⟨rfl, rfl⟩
    go_wp2_with fail
    have HL := c3_new w (.int .i64 0) (.int .u8 0) (.int .u8 0) 59
    have m0 := HL.c0
    have m1 := HL.c1
    have m2 := HL.c2
    refine bodyPost_ret (v := insT 0 0 0) (by simp [results, Tryd.results29, go_sem, m0, m1, m2, insT]) rfl ⟨?_, World.grownBy_alloc _ _ _⟩
    rw [← HR.out, if_neg (by omega), if_neg (by rintro ⟨_, h, _⟩; exact h5 h)]

set_option maxHeartbeats 1000000 in
theorem read_else (x : ByteArray) (h1 : x.size ≠ 1) (h2 : x.size ≠ 2) (w : World) :
    Calls Tryd.prog 29 #[.string x] w fun e w' => e = .returned (riV x) ∧ w.grownBy w' none := by
  have hd1 : decide ((x.size : Int) = 1) = false := by simp; omega
  have hd2 : decide ((x.size : Int) = 2) = false := by simp; omega
  have HR := Lib.hid (show riV x = insT 0 0 0 by unfold riV; rw [if_neg (fun h => h1 h.1), if_neg (fun h => h2 h.1)])
  obtain ⟨n, hn⟩ : ∃ n, x.size = n := ⟨_, rfl⟩
  rw [hn] at h1 h2 hd1 hd2
  go_enter Tryd.func29, Tryd.ntmps29
  go_wp2_with fail
  have HL := c3_new w (.int .i64 0) (.int .u8 0) (.int .u8 0) 59
  have m0 := HL.c0
  have m1 := HL.c1
  have m2 := HL.c2
  exact bodyPost_ret (v := insT 0 0 0) (by simp [results, Tryd.results29, go_sem, m0, m1, m2, insT]) rfl ⟨by rw [HR.out], World.grownBy_alloc _ _ _⟩

theorem read_any (x : ByteArray) (w : World) :
    Calls Tryd.prog 29 #[.string x] w fun e w' => e = .returned (riV x) ∧ w.grownBy w' none := by
  by_cases h1 : x.size = 1
  · exact read_one x h1 w
  by_cases h2 : x.size = 2
  · exact read_two x h2 w
  exact read_else x h1 h2 w

/-- What is read: an instruction, or something of no kind. -/
def Ins.val : Ins → Value
  | .dig c => insT 1 c 0
  | .var c => insT 2 c 0
  | .pre c => insT 3 c 0
  | .two c => insT 4 c 0
  | .beg c v => insT 5 c v
  | .fin c => insT 6 c 0
theorem riV_of (x : ByteArray) : match insOf x with
    | some i => riV x = i.val
    | none => ∃ c v, riV x = insT 0 c v := by
  unfold insOf riV
  by_cases h1 : x.size = 1
  · rw [if_pos h1]
    unfold ins1 kd
    by_cases hd : isD (ba x 0) = true
    · simp [hd, h1, Ins.val]
    by_cases hv : isV (ba x 0) = true
    · simp [hd, hv, h1, Ins.val]
    by_cases hp : isP (ba x 0) = true
    · simp [hd, hv, hp, h1, Ins.val]
    by_cases hb : isB (ba x 0) = true
    · simp [hd, hv, hp, hb, h1, Ins.val]
    by_cases hc : ba x 0 = 93 ∨ ba x 0 = 125
    · have ho : ¬ (ba x 0 = 91 ∨ ba x 0 = 123) := by omega
      simp [hd, hv, hp, hb, ho, hc, h1, Ins.val]
    by_cases ho : ba x 0 = 91 ∨ ba x 0 = 123
    · simp only [if_neg hd, if_neg hv, if_neg hp, if_neg hb, if_neg hc]
      refine ⟨0, 0, ?_⟩
      rw [if_neg (by rintro ⟨_, h⟩; exact h (if_pos ho)), if_neg (by omega)]
    · simp only [if_neg hd, if_neg hv, if_neg hp, if_neg hb, if_neg hc, if_neg ho]
      exact ⟨_, _, if_pos ⟨h1, by decide⟩⟩
  · rw [if_neg h1]
    by_cases h2 : x.size = 2 ∧ (ba x 0 = 91 ∨ ba x 0 = 123) ∧ isL (ba x 1) = true
    · rw [if_pos h2]
      have hk : kd (ba x 0) = 5 := by rcases h2.2.1 with e | e <;> rw [e] <;> decide
      simp only [Ins.val]
      rw [if_neg (by omega), if_pos ⟨h2.1, hk, h2.2.2⟩]
    · rw [if_neg h2]
      refine ⟨0, 0, ?_⟩
      rw [if_neg (by omega), if_neg ?_]
      rintro ⟨g1, g2, g3⟩
      refine h2 ⟨g1, ?_, g3⟩
      unfold kd at g2
      by_cases hd : isD (ba x 0) = true
      · rw [if_pos hd] at g2; omega
      by_cases hv : isV (ba x 0) = true
      · rw [if_neg hd, if_pos hv] at g2; omega
      by_cases hp : isP (ba x 0) = true
      · rw [if_neg hd, if_neg hv, if_pos hp] at g2; omega
      by_cases hb : isB (ba x 0) = true
      · rw [if_neg hd, if_neg hv, if_neg hp, if_pos hb] at g2; omega
      by_cases ho : ba x 0 = 91 ∨ ba x 0 = 123
      · exact ho
      · rw [if_neg hd, if_neg hv, if_neg hp, if_neg hb, if_neg ho] at g2
        split at g2 <;> omega

end Go.Proofs.YtdfanconjiiceaaDoor

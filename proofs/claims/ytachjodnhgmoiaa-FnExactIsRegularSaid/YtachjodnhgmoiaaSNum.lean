/- What the model's number does: the number that stands at the place, or the mark that something is wrong. -/
import Derived.Test.YtachjodnhgmoiaaNum13
namespace Go.Proofs.Ytachjodnhgmoiaa
open Go.RowKit

theorem val_ge (s : ByteArray) (p : Nat) (h : 49 ≤ ba s p) : ∀ k, 10 ^ k ≤ val s p (k + 1)
  | 0 => by simp only [val, Nat.add_zero]; omega
  | k + 1 => by
    have := val_ge s p h k
    rw [val, Nat.pow_succ]
    omega

def mn (s : ByteArray) (p : Nat) : Nat := min (nd s p) 6

/-- What l13Num says of the digits that number hands it. -/
def Said13 (s : ByteArray) (p : Nat) (n : Int) (ok : Bool) : Prop := match num s p with
  | some (v, q) => ok = true ∧ n = v ∧ q = p + mn s p ∧ 0 ≤ n ∧ n ≤ 10006
  | none => ok = false ∨ ¬ (0 ≤ n ∧ n ≤ 10006)

theorem num13_at (s : ByteArray) (p q : Nat) (hq : q = p + mn s p) (hqs : q ≤ s.size) :
    ∃ (n : Int) (ok : Bool), (∀ w, Calls Try.prog 53 #[.string (s.extract p q)] w fun e w' => e = .returned (.tuple #[.int .i64 n, .bool ok]) ∧ w' = w) ∧ Said13 s p n ok := by
  have hsz : (s.extract p q).size = mn s p := by simp; omega
  have hm6 : mn s p ≤ 6 := by unfold mn; omega
  have hmn : mn s p ≤ nd s p := by unfold mn; omega
  have hdig : ∀ i, i < (s.extract p q).size → dg (s.extract p q) i = true := fun i hi => by
    rw [dg_extract s p q i hqs (by omega)]; exact nd_dg s i p (by omega)
  rcases Nat.eq_zero_or_pos (mn s p) with h0 | h0
  · refine ⟨0, false, fun w => num13_empty _ w (by omega), ?_⟩
    unfold Said13
    rw [num_none (.inl (by unfold mn at h0; omega))]
    exact .inl rfl
  · have hb0 : ba (s.extract p q) 0 = ba s p := by rw [ba_extract s p q 0 hqs (by omega), Nat.add_zero]
    by_cases hz : ba s p = 48 ∧ 1 < mn s p
    · refine ⟨0, false, fun w => num13_zero _ w (by omega) (by omega) (by rw [hb0]; exact hz.1), ?_⟩
      unfold Said13
      rw [num_none (.inr (.inl ⟨hz.1, by omega⟩))]
      exact .inl rfl
    · refine ⟨_, true, fun w => num13_good _ w (by omega) (by omega) hdig (fun h => by rw [hb0] at h; have : ¬ 1 < mn s p := fun h' => hz ⟨h, h'⟩; omega), ?_⟩
      have hv : val (s.extract p q) 0 (s.extract p q).size = val s p (mn s p) := by rw [hsz, val_extract s p q hqs _ (by omega)]
      rw [hv]
      unfold Said13
      by_cases h6 : nd s p ≤ 6
      · have e : mn s p = nd s p := by unfold mn; omega
        rw [e]
        by_cases hbig : 10007 ≤ val s p (nd s p)
        · rw [num_none (.inr (.inr hbig))]
          exact .inr (by omega)
        · rw [num_some (by omega) (fun h => by have : ¬ 1 < mn s p := fun h' => hz ⟨h, h'⟩; omega) (by omega)]
          exact ⟨rfl, rfl, rfl, by omega, by omega⟩
      · have e : mn s p = 6 := by unfold mn; omega
        have h48 : ba s p ≠ 48 := fun h => hz ⟨h, by omega⟩
        have hd0 := dg_yes (nd_dg s 0 p (by omega))
        rw [Nat.add_zero] at hd0
        have hge : 10 ^ 5 ≤ val s p 6 := val_ge s p (by omega) 5
        have hmo := val_mono s p 6 (nd s p - 6)
        rw [show 6 + (nd s p - 6) = nd s p from by omega] at hmo
        rw [e]
        have hbig : 10007 ≤ val s p (nd s p) := by omega
        rw [num_none (.inr (.inr hbig))]
        exact .inr (by omega)

/-- How number ends. -/
def SNumPost (s : ByteArray) (p g : Nat) (w : World) (e : Ending) (w' : World) : Prop :=
  w.grownBy w' (some g) ∧ ∃ n : Int, e = .returned (.int .i64 n) ∧ ((∃ v q, num s p = some (v, q) ∧ n = (v : Nat) ∧ SRdr w' g s q false) ∨ (num s p = none ∧ ∃ q, SRdr w' g s q true))

theorem plc_eqS {w : World} {g p : Nat} {s : ByteArray} {b : Bool} (h : SRdr w g s p b) : plcS w g = p := by
  unfold plcS; rw [h.c1]; simp [intOf]

set_option maxHeartbeats 1000000 in
theorem snumber_any (g p : Nat) (s : ByteArray) (w : World) (h : SRdr w g s p false) (hs : s.size ≤ 400) (hp : p ≤ s.size) :
    Calls Try.prog 44 #[.pointer (some ⟨g, 0, none⟩)] w (SNumPost s p g w) := by
  have HR := Lib.hid h
  have hc0 := h.c0
  have hc1 := h.c1
  clear h
  go_enter Try.func44, Try.ntmps44
  go_wp2_with fail
  clear hc0 hc1
  go_loopw [10] (fun _ wr => ∃ k : Nat, k ≤ mn s p ∧ Hid (SRdr wr g s (p + k) false) ∧ Hid (w.grownBy wr (some g))) (fun _ wr => s.size + 1 - plcS wr g)
  case atStart => exact ⟨0, Nat.zero_le _, HR, Lib.hid (gr_refl _ _)⟩
  case round =>
    obtain ⟨k, hk, hr, hgr⟩ := hrel
    have hm6 : mn s p ≤ 6 := by unfold mn; omega
    have hmn : mn s p ≤ nd s p := by unfold mn; omega
    obtain ⟨q, hqe⟩ : ∃ q, p + k = q := ⟨_, rfl⟩
    have HRQ := Lib.hid hr.out
    rw [hqe] at HRQ
    have HQE := Lib.hid hqe
    have hqs : q ≤ s.size := by
      rcases Nat.eq_zero_or_pos k with h0 | h0
      · omega
      · have := nd_le s p (by omega); omega
    clear hqe hr
    have hc0 := HRQ.out.c0
    have hc1 := HRQ.out.c1
    have hcf := HRQ.out.f 1
    by_cases hlt : k < mn s p
    · have hdk : dg s q = true := by rw [← HQE.out]; exact nd_dg s k p (by omega)
      have hq := dg_lt hdk
      have hb := dg_yes hdk
      rw [ba_in hq] at hb
      have hin : decide (48 ≤ (s[q].toNat : Int) ∧ (s[q].toNat : Int) ≤ 57) = true := decide_eq_true hb
      have HI := Lib.hid (fun w => in_any (s[q].toNat : Int) 48 57 true hin w)
      have hd : decide (q < s.size) = true := decide_eq_true hq
      have h6 : decide ((q : Int) < (p : Int) + 6) = true := decide_eq_true (by have := HQE.out; omega)
      have w1 : IntKind.i64.wrap ((p : Int) + 6) = (p : Int) + 6 := IntWalk.i64_in _ (by omega)
      have w2 : IntKind.i64.wrap (s[q].toNat : Int) = (s[q].toNat : Int) := IntWalk.i64_in _ (by omega)
      clear hin hdk
      go_wp2_with fail
      go_quiet ((go_at_call 37; exact Calls.quiet_of_same (HI.out _)))
      clear w1 w2 h6 hd
      go_wp2_with fail
      go_roundw
      case rel =>
        refine ⟨k + 1, by omega, Lib.hid ?_, Lib.hid ((hgr.out.trans (gr_drewN _ nq _)).trans (gr_set _ _ _ _))⟩
        have := (HRQ.out.drewN nq).set1 (q + 1)
        rw [show p + (k + 1) = q + 1 from by have := HQE.out; omega]
        simpa using this
      case measure =>
        have e2 : SRdr ((wr.drewN nq).setCell ⟨g, 1, none⟩ (.int .i64 ((q + 1 : Nat) : Int))) g s (q + 1) false := (HRQ.out.drewN nq).set1 (q + 1)
        have e3 := plc_eqS e2
        rw [plc_eqS HRQ.out]
        simp only [Int.natCast_add, Int.cast_ofNat_Int] at e3
        rw [e3]
        omega
    · have hk2 : k = mn s p := by omega
      have hqm : q = p + mn s p := by rw [← hk2]; exact HQE.out.symm
      obtain ⟨n, ok, hcall, hsaid⟩ := num13_at s p q hqm hqs
      have HC := Lib.hid hcall
      have HS := Lib.hid hsaid
      have hcase : s.size ≤ q ∨ (∃ h : q < s.size, ¬ (48 ≤ (s[q].toNat : Int) ∧ (s[q].toNat : Int) ≤ 57)) ∨ (∃ h : q < s.size, (48 ≤ (s[q].toNat : Int) ∧ (s[q].toNat : Int) ≤ 57) ∧ p + 6 ≤ q) := by
        rcases Nat.lt_or_ge q s.size with h1 | h1
        · refine .inr ?_
          by_cases h2 : 48 ≤ (s[q].toNat : Int) ∧ (s[q].toNat : Int) ≤ 57
          · refine .inr ⟨h1, h2, ?_⟩
            have hdq : dg s q = true := by unfold dg; rw [ba_in h1]; exact decide_eq_true h2
            have : ¬ mn s p = nd s p := fun e => by
              have := nd_stop s (nd s p) p rfl
              rw [← e, ← hqm, hdq] at this
              cases this
            unfold mn at *
            omega
          · exact .inl ⟨h1, h2⟩
        · exact .inl h1
      clear hcall hsaid hk2
      have HQM := Lib.hid hqm
      clear hqm
      have w1 : IntKind.i64.wrap ((p : Int) + 6) = (p : Int) + 6 := IntWalk.i64_in _ (by omega)
      rcases hcase with h1 | ⟨hq, h2⟩ | ⟨hq, h2, h3⟩
      case' inl =>
        have hd : decide (q < s.size) = false := decide_eq_false (by omega)
        go_wp2_with fail
        go_quiet (fail)
      case' inr.inl =>
        have hd : decide (q < s.size) = true := decide_eq_true hq
        have HI := Lib.hid (fun w => in_any (s[q].toNat : Int) 48 57 false (decide_eq_false h2) w)
        have w2 : IntKind.i64.wrap (s[q].toNat : Int) = (s[q].toNat : Int) := IntWalk.i64_in _ (by have := UInt8.toNat_lt s[q]; omega)
        clear h2
        go_wp2_with fail
        go_quiet ((go_at_call 37; exact Calls.quiet_of_same (HI.out _)))
        clear w2 hd
      case' inr.inr =>
        have hd : decide (q < s.size) = true := decide_eq_true hq
        have HI := Lib.hid (fun w => in_any (s[q].toNat : Int) 48 57 true (decide_eq_true h2) w)
        have h6 : decide ((q : Int) < (p : Int) + 6) = false := decide_eq_false (by omega)
        have w2 : IntKind.i64.wrap (s[q].toNat : Int) = (s[q].toNat : Int) := IntWalk.i64_in _ (by omega)
        clear h2
        go_wp2_with fail
        go_quiet ((go_at_call 37; exact Calls.quiet_of_same (HI.out _)))
        clear w2 hd h6
      all_goals
        clear w1
        have hpq : p ≤ q := by have := HQE.out; omega
        have hc2 := HRQ.out.c2
        have hf2 := HRQ.out.f 2
        go_wp2_with fail
        go_quiet ((go_at_call 53; exact qsame HC.out))
        cases ok
        case' false =>
          go_wp2_with fail
          go_ret
          refine ⟨(hgr.out.trans (gr_drewN _ _ _)).trans (gr_set _ _ _ _), n, rfl, .inr ⟨?_, q, (HRQ.out.drewN _).set2 true⟩⟩
          have := HS.out
          unfold Said13 at this
          split at this
          · cases this.1
          · assumption
        obtain ⟨b, hb⟩ : ∃ b : Bool, decide (0 ≤ n ∧ n ≤ 10006) = b := ⟨_, rfl⟩
        have HB := Lib.hid (fun w => in_any n 0 10006 b hb w)
        have HBB := Lib.hid hb
        clear hb
        cases b
        all_goals
          go_wp2_with fail
          refine (HB.out _).mono ?_
          rintro e w9 ⟨rfl, rfl⟩
          go_wp2_with fail
          go_ret
        · refine ⟨(hgr.out.trans (gr_drewN _ _ _)).trans (gr_set _ _ _ _), n, rfl, .inr ⟨?_, q, (HRQ.out.drewN _).set2 true⟩⟩
          have := HS.out
          have hb := HBB.out
          unfold Said13 at this
          split at this
          · simp at hb; omega
          · assumption
        · refine ⟨(hgr.out.trans (gr_drewN _ _ _)).trans (gr_set _ _ _ _), n, rfl, .inl ?_⟩
          have := HS.out
          have hb := HBB.out
          unfold Said13 at this
          split at this
          · rename_i v q2 hn
            obtain ⟨_, hv, hq2, _⟩ := this
            refine ⟨v, q2, hn, hv, ?_⟩
            have e : q2 = q := by rw [hq2]; exact HQM.out.symm
            rw [e]
            exact (HRQ.out.drewN _).set2 false
          · simp at hb; simp at this; omega

end Go.Proofs.Ytachjodnhgmoiaa

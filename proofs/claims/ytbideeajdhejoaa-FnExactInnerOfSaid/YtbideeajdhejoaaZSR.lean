/- 7 texts in one: Num13 SNum SNode SLoop SNodeS SRead L1Read. -/
import Derived.Test.YtbideeajdhejoaaSpec
import Derived.Test.YtbideeajdhejoaaSNd
import Derived.Test.YtbideeajdhejoaaZRD
import Derived.Deep.RegionLaw
import Derived.Deep.AppendLies
namespace Go.Proofs.Ytbideeajdhejoaa
/- Num13 -/
section
open Go.RowKit

set_option maxHeartbeats 400000 in
theorem num13_empty (t : ByteArray) (w : World) (h0 : t.size = 0) :
    Calls Try.prog 157 #[.string t] w fun e w' => e = .returned (.tuple #[.int .i64 0, .bool false]) ∧ w' = w := by
  have hd : decide (0 < t.size) = false := decide_eq_false (by omega)
  have hd2 : ((t.size : Int) == 0) = true := beq_iff_eq.2 (by omega)
  clear h0
  go_enter Try.func157, Try.ntmps157
  go_wp2_with fail
  all_goals (go_ret2; exact ⟨rfl, rfl⟩)

set_option maxHeartbeats 400000 in
theorem num13_zero (t : ByteArray) (w : World) (h1 : 1 < t.size) (h6 : t.size ≤ 6) (hz : ba t 0 = 48) :
    Calls Try.prog 157 #[.string t] w fun e w' => e = .returned (.tuple #[.int .i64 0, .bool false]) ∧ w' = w := by
  have hp : 0 < t.size := by omega
  rw [ba_in hp] at hz
  have hb1 : ((t[0].toNat : Int) == 45) = false := by rw [hz]; rfl
  have hb2 : ((t[0].toNat : Int) == 48) = true := by rw [hz]; rfl
  have hd : decide (0 < t.size) = true := decide_eq_true (by omega)
  have hd2 : ((t.size : Int) == 0) = false := beq_eq_false_iff_ne.2 (by omega)
  clear hz
  go_enter Try.func157, Try.ntmps157
  go_wp2_with fail
  all_goals (go_ret2; exact ⟨rfl, rfl⟩)

theorem ret2_int {a b : Int} (h : a = b) (v : Value) : Ending.returned (.tuple #[.int .i64 a, v]) = .returned (.tuple #[.int .i64 b, v]) := by rw [h]

set_option maxHeartbeats 800000 in
theorem num13_good (t : ByteArray) (w : World) (h1 : 0 < t.size) (h6 : t.size ≤ 6) (hdig : ∀ i, i < t.size → dg t i = true) (hz : ba t 0 = 48 → t.size = 1) :
    Calls Try.prog 157 #[.string t] w fun e w' => e = .returned (.tuple #[.int .i64 (val t 0 t.size : Nat), .bool true]) ∧ w' = w := by
  have hd0 := dg_yes (hdig 0 h1)
  rw [ba_in h1] at hd0 hz
  have hb1 : ((t[0].toNat : Int) == 45) = false := beq_eq_false_iff_ne.2 (by omega)
  have hd : decide (0 < t.size) = true := decide_eq_true (by omega)
  have hd2 : ((t.size : Int) == 0) = false := beq_eq_false_iff_ne.2 (by omega)
  have HDG := Lib.hid hdig
  obtain ⟨Z, hZ⟩ : ∃ Z : Bool, ((t[0].toNat : Int) == 48) = Z := ⟨_, rfl⟩
  have hZ2 : Z = true → t.size = 1 := fun e => hz (by rw [e] at hZ; exact beq_iff_eq.1 hZ)
  clear hz hdig
  cases Z
  all_goals
    first
    | (have hs1 : decide (1 < (t.size : Int)) = false := decide_eq_false (by have := hZ2 rfl; omega))
    | skip
    clear hZ2
    go_enter Try.func157, Try.ntmps157
    go_wp2_with fail
    clear hZ hb1 hd hd2 hd0
    go_loop [5, 6] (fun n i => ∃ k : Nat, k ≤ t.size ∧ i = .int .i64 k ∧ n = .int .i64 (val t 0 k : Nat)) (fun _ i => t.size - (intOf i).toNat)
    case atStart => exact ⟨0, Nat.zero_le _, rfl, rfl⟩
    case round =>
      obtain ⟨k, hk, rfl, rfl⟩ := hrel
      by_cases hlt : k < t.size
      · have hdk := dg_yes (HDG.out k hlt)
        rw [ba_in hlt] at hdk
        obtain ⟨hdk1, hdk2⟩ := hdk
        have hvk := val_lt6 t 0 k (by omega) (fun i hi => by rw [Nat.zero_add]; exact HDG.out i (by omega))
        have HVS := Lib.hid (show ((val t 0 (k + 1) : Nat) : Int) = (val t 0 k : Int) * 10 + ((t[k].toNat : Int) - 48) from by
          rw [val, Nat.zero_add, ba_in hlt]; omega)
        go_wp2_with fail
        go_round
        case rel => exact ⟨k + 1, by omega, by go_num, by rw [HVS.out]⟩
        case measure => simp [intOf]; omega
      · have hk2 : k = t.size := by omega
        have HK := Lib.hid hk2
        clear hk2
        go_wp2_with fail
        go_ret2
        exact ⟨ret2_int (by rw [HK.out]) _, rfl⟩
end

/- SNum -/
section
open Go.RowKit

theorem val_ge (s : ByteArray) (p : Nat) (h : 49 ≤ ba s p) : ∀ k, 10 ^ k ≤ val s p (k + 1)
  | 0 => by simp only [val, Nat.add_zero]; omega
  | k + 1 => by
    have := val_ge s p h k
    rw [val, Nat.pow_succ]
    omega

def mn (s : ByteArray) (p : Nat) : Nat := min (nd s p) 6

/-- What l13Num says of the digits that number hands it. -/
def Said13 (s : ByteArray) (p : Nat) (n : Int) (ok : Bool) : Prop := match num s p with
  | some (v, q) => ok = true ∧ n = v ∧ q = p + mn s p ∧ 0 ≤ n ∧ n ≤ 10006
  | none => ok = false ∨ ¬ (0 ≤ n ∧ n ≤ 10006)

theorem num13_at (s : ByteArray) (p q : Nat) (hq : q = p + mn s p) (hqs : q ≤ s.size) :
    ∃ (n : Int) (ok : Bool), (∀ w, Calls Try.prog 157 #[.string (s.extract p q)] w fun e w' => e = .returned (.tuple #[.int .i64 n, .bool ok]) ∧ w' = w) ∧ Said13 s p n ok := by
  have hsz : (s.extract p q).size = mn s p := by simp; omega
  have hm6 : mn s p ≤ 6 := by unfold mn; omega
  have hmn : mn s p ≤ nd s p := by unfold mn; omega
  have hdig : ∀ i, i < (s.extract p q).size → dg (s.extract p q) i = true := fun i hi => by
    rw [dg_extract s p q i hqs (by omega)]; exact nd_dg s i p (by omega)
  rcases Nat.eq_zero_or_pos (mn s p) with h0 | h0
  · refine ⟨0, false, fun w => num13_empty _ w (by omega), ?_⟩
    unfold Said13
    rw [num_none (.inl (by unfold mn at h0; omega))]
    exact .inl rfl
  · have hb0 : ba (s.extract p q) 0 = ba s p := by rw [ba_extract s p q 0 hqs (by omega), Nat.add_zero]
    by_cases hz : ba s p = 48 ∧ 1 < mn s p
    · refine ⟨0, false, fun w => num13_zero _ w (by omega) (by omega) (by rw [hb0]; exact hz.1), ?_⟩
      unfold Said13
      rw [num_none (.inr (.inl ⟨hz.1, by omega⟩))]
      exact .inl rfl
    · refine ⟨_, true, fun w => num13_good _ w (by omega) (by omega) hdig (fun h => by rw [hb0] at h; have : ¬ 1 < mn s p := fun h' => hz ⟨h, h'⟩; omega), ?_⟩
      have hv : val (s.extract p q) 0 (s.extract p q).size = val s p (mn s p) := by rw [hsz, val_extract s p q hqs _ (by omega)]
      rw [hv]
      unfold Said13
      by_cases h6 : nd s p ≤ 6
      · have e : mn s p = nd s p := by unfold mn; omega
        rw [e]
        by_cases hbig : 10007 ≤ val s p (nd s p)
        · rw [num_none (.inr (.inr hbig))]
          exact .inr (by omega)
        · rw [num_some (by omega) (fun h => by have : ¬ 1 < mn s p := fun h' => hz ⟨h, h'⟩; omega) (by omega)]
          exact ⟨rfl, rfl, rfl, by omega, by omega⟩
      · have e : mn s p = 6 := by unfold mn; omega
        have h48 : ba s p ≠ 48 := fun h => hz ⟨h, by omega⟩
        have hd0 := dg_yes (nd_dg s 0 p (by omega))
        rw [Nat.add_zero] at hd0
        have hge : 10 ^ 5 ≤ val s p 6 := val_ge s p (by omega) 5
        have hmo := val_mono s p 6 (nd s p - 6)
        rw [show 6 + (nd s p - 6) = nd s p from by omega] at hmo
        rw [e]
        have hbig : 10007 ≤ val s p (nd s p) := by omega
        rw [num_none (.inr (.inr hbig))]
        exact .inr (by omega)

/-- How number ends. -/
def SNumPost (s : ByteArray) (p g : Nat) (w : World) (e : Ending) (w' : World) : Prop :=
  w.grownBy w' (some g) ∧ ∃ n : Int, e = .returned (.int .i64 n) ∧ ((∃ v q, num s p = some (v, q) ∧ n = (v : Nat) ∧ SRdr w' g s q false) ∨ (num s p = none ∧ ∃ q, SRdr w' g s q true))

theorem plc_eqS {w : World} {g p : Nat} {s : ByteArray} {b : Bool} (h : SRdr w g s p b) : plcS w g = p := by
  unfold plcS; rw [h.c1]; simp [intOf]

set_option maxHeartbeats 1000000 in
theorem snumber_any (g p : Nat) (s : ByteArray) (w : World) (h : SRdr w g s p false) (hs : s.size ≤ 400) (hp : p ≤ s.size) :
    Calls Try.prog 148 #[.pointer (some ⟨g, 0, none⟩)] w (SNumPost s p g w) := by
  have HR := Lib.hid h
  have hc0 := h.c0
  have hc1 := h.c1
  clear h
  go_enter Try.func148, Try.ntmps148
  go_wp2_with fail
  clear hc0 hc1
  go_loopw [10] (fun _ wr => ∃ k : Nat, k ≤ mn s p ∧ Hid (SRdr wr g s (p + k) false) ∧ Hid (w.grownBy wr (some g))) (fun _ wr => s.size + 1 - plcS wr g)
  case atStart => exact ⟨0, Nat.zero_le _, HR, Lib.hid (gr_refl _ _)⟩
  case round =>
    obtain ⟨k, hk, hr, hgr⟩ := hrel
    have hm6 : mn s p ≤ 6 := by unfold mn; omega
    have hmn : mn s p ≤ nd s p := by unfold mn; omega
    obtain ⟨q, hqe⟩ : ∃ q, p + k = q := ⟨_, rfl⟩
    have HRQ := Lib.hid hr.out
    rw [hqe] at HRQ
    have HQE := Lib.hid hqe
    have hqs : q ≤ s.size := by
      rcases Nat.eq_zero_or_pos k with h0 | h0
      · omega
      · have := nd_le s p (by omega); omega
    clear hqe hr
    have hc0 := HRQ.out.c0
    have hc1 := HRQ.out.c1
    have hcf := HRQ.out.f 1
    by_cases hlt : k < mn s p
    · have hdk : dg s q = true := by rw [← HQE.out]; exact nd_dg s k p (by omega)
      have hq := dg_lt hdk
      have hb := dg_yes hdk
      rw [ba_in hq] at hb
      have hin : decide (48 ≤ (s[q].toNat : Int) ∧ (s[q].toNat : Int) ≤ 57) = true := decide_eq_true hb
      have HI := Lib.hid (fun w => in_any (s[q].toNat : Int) 48 57 true hin w)
      have hd : decide (q < s.size) = true := decide_eq_true hq
      have h6 : decide ((q : Int) < (p : Int) + 6) = true := decide_eq_true (by have := HQE.out; omega)
      have w1 : IntKind.i64.wrap ((p : Int) + 6) = (p : Int) + 6 := IntWalk.i64_in _ (by omega)
      have w2 : IntKind.i64.wrap (s[q].toNat : Int) = (s[q].toNat : Int) := IntWalk.i64_in _ (by omega)
      clear hin hdk
      go_wp2_with fail
      go_quiet ((go_at_call 69; exact Calls.quiet_of_same (HI.out _)))
      clear w1 w2 h6 hd
      go_wp2_with fail
      go_roundw
      case rel =>
        refine ⟨k + 1, by omega, Lib.hid ?_, Lib.hid ((hgr.out.trans (gr_drewN _ nq _)).trans (gr_set _ _ _ _))⟩
        have := (HRQ.out.drewN nq).set1 (q + 1)
        rw [show p + (k + 1) = q + 1 from by have := HQE.out; omega]
        simpa using this
      case measure =>
        have e2 : SRdr ((wr.drewN nq).setCell ⟨g, 1, none⟩ (.int .i64 ((q + 1 : Nat) : Int))) g s (q + 1) false := (HRQ.out.drewN nq).set1 (q + 1)
        have e3 := plc_eqS e2
        rw [plc_eqS HRQ.out]
        simp only [Int.natCast_add, Int.cast_ofNat_Int] at e3
        rw [e3]
        omega
    · have hk2 : k = mn s p := by omega
      have hqm : q = p + mn s p := by rw [← hk2]; exact HQE.out.symm
      obtain ⟨n, ok, hcall, hsaid⟩ := num13_at s p q hqm hqs
      have HC := Lib.hid hcall
      have HS := Lib.hid hsaid
      have hcase : s.size ≤ q ∨ (∃ h : q < s.size, ¬ (48 ≤ (s[q].toNat : Int) ∧ (s[q].toNat : Int) ≤ 57)) ∨ (∃ h : q < s.size, (48 ≤ (s[q].toNat : Int) ∧ (s[q].toNat : Int) ≤ 57) ∧ p + 6 ≤ q) := by
        rcases Nat.lt_or_ge q s.size with h1 | h1
        · refine .inr ?_
          by_cases h2 : 48 ≤ (s[q].toNat : Int) ∧ (s[q].toNat : Int) ≤ 57
          · refine .inr ⟨h1, h2, ?_⟩
            have hdq : dg s q = true := by unfold dg; rw [ba_in h1]; exact decide_eq_true h2
            have : ¬ mn s p = nd s p := fun e => by
              have := nd_stop s (nd s p) p rfl
              rw [← e, ← hqm, hdq] at this
              cases this
            unfold mn at *
            omega
          · exact .inl ⟨h1, h2⟩
        · exact .inl h1
      clear hcall hsaid hk2
      have HQM := Lib.hid hqm
      clear hqm
      have w1 : IntKind.i64.wrap ((p : Int) + 6) = (p : Int) + 6 := IntWalk.i64_in _ (by omega)
      rcases hcase with h1 | ⟨hq, h2⟩ | ⟨hq, h2, h3⟩
      case' inl =>
        have hd : decide (q < s.size) = false := decide_eq_false (by omega)
        go_wp2_with fail
        go_quiet (fail)
      case' inr.inl =>
        have hd : decide (q < s.size) = true := decide_eq_true hq
        have HI := Lib.hid (fun w => in_any (s[q].toNat : Int) 48 57 false (decide_eq_false h2) w)
        have w2 : IntKind.i64.wrap (s[q].toNat : Int) = (s[q].toNat : Int) := IntWalk.i64_in _ (by have := UInt8.toNat_lt s[q]; omega)
        clear h2
        go_wp2_with fail
        go_quiet ((go_at_call 69; exact Calls.quiet_of_same (HI.out _)))
        clear w2 hd
      case' inr.inr =>
        have hd : decide (q < s.size) = true := decide_eq_true hq
        have HI := Lib.hid (fun w => in_any (s[q].toNat : Int) 48 57 true (decide_eq_true h2) w)
        have h6 : decide ((q : Int) < (p : Int) + 6) = false := decide_eq_false (by omega)
        have w2 : IntKind.i64.wrap (s[q].toNat : Int) = (s[q].toNat : Int) := IntWalk.i64_in _ (by omega)
        clear h2
        go_wp2_with fail
        go_quiet ((go_at_call 69; exact Calls.quiet_of_same (HI.out _)))
        clear w2 hd h6
      all_goals
        clear w1
        have hpq : p ≤ q := by have := HQE.out; omega
        have hc2 := HRQ.out.c2
        have hf2 := HRQ.out.f 2
        go_wp2_with fail
        go_quiet ((go_at_call 157; exact qsame HC.out))
        cases ok
        case' false =>
          go_wp2_with fail
          go_ret
          refine ⟨(hgr.out.trans (gr_drewN _ _ _)).trans (gr_set _ _ _ _), n, rfl, .inr ⟨?_, q, (HRQ.out.drewN _).set2 true⟩⟩
          have := HS.out
          unfold Said13 at this
          split at this
          · cases this.1
          · assumption
        obtain ⟨b, hb⟩ : ∃ b : Bool, decide (0 ≤ n ∧ n ≤ 10006) = b := ⟨_, rfl⟩
        have HB := Lib.hid (fun w => in_any n 0 10006 b hb w)
        have HBB := Lib.hid hb
        clear hb
        cases b
        all_goals
          go_wp2_with fail
          refine (HB.out _).mono ?_
          rintro e w9 ⟨rfl, rfl⟩
          go_wp2_with fail
          go_ret
        · refine ⟨(hgr.out.trans (gr_drewN _ _ _)).trans (gr_set _ _ _ _), n, rfl, .inr ⟨?_, q, (HRQ.out.drewN _).set2 true⟩⟩
          have := HS.out
          have hb := HBB.out
          unfold Said13 at this
          split at this
          · simp at hb; omega
          · assumption
        · refine ⟨(hgr.out.trans (gr_drewN _ _ _)).trans (gr_set _ _ _ _), n, rfl, .inl ?_⟩
          have := HS.out
          have hb := HBB.out
          unfold Said13 at this
          split at this
          · rename_i v q2 hn
            obtain ⟨_, hv, hq2, _⟩ := this
            refine ⟨v, q2, hn, hv, ?_⟩
            have e : q2 = q := by rw [hq2]; exact HQM.out.symm
            rw [e]
            exact (HRQ.out.drewN _).set2 false
          · simp at hb; simp at this; omega
end

/- SNode -/
section
open Go.RowKit

/-- How node ends. -/
def SArrPost (s : ByteArray) (d p g : Nat) (w : World) (e : Ending) (w' : World) : Prop :=
  w.grownBy w' (some g) ∧ ∃ m sv, e = .returned (.agg #[.int .i64 m, sv]) ∧ (∃ A k c, sv = .slice A k c) ∧
    ((∃ t q, node s d p = some (t, q) ∧ SRdr w' g s q false ∧ SNd w' (fun b => w.heap.size ≤ b) d t (m, sv)) ∨ (node s d p = none ∧ ∃ q, SRdr w' g s q true))

theorem SRdr.far {w : World} {g p : Nat} {s : ByteArray} {b : Bool} (h : SRdr w g s p b) {k i : Nat} (hk : g ≠ k) (u : Value) : SRdr (w.setCell ⟨k, i, none⟩ u) g s p b := (Below.heap_setCell _ _ _ _ hk).trans h
theorem SRdr.drew {w : World} {g p : Nat} {s : ByteArray} {b : Bool} (h : SRdr w g s p b) : SRdr w.drew g s p b := h

/-- A world behind node's first blocks, in which the reader has gone on: what node's end needs. -/
theorem sarr_ok {s : ByteArray} {d p g q : Nat} {w w' : World} {e : Ending} {m : Int} {A : Option Addr} {k c : Nat} {t : T d} (hg : w.grownBy w' (some g)) (he : e = .returned (.agg #[.int .i64 m, .slice A k c])) (hn : node s d p = some (t, q)) (hr : SRdr w' g s q false)
    (ha : SNd w' (fun b => w.heap.size ≤ b) d t (m, .slice A k c)) : SArrPost s d p g w e w' := ⟨hg, m, _, he, ⟨_, _, _, rfl⟩, .inl ⟨t, q, hn, hr, ha⟩⟩
theorem sarr_bad {s : ByteArray} {d p g q : Nat} {w w' : World} {e : Ending} {m : Int} {A : Option Addr} {k c : Nat} (hg : w.grownBy w' (some g)) (he : e = .returned (.agg #[.int .i64 m, .slice A k c])) (hn : node s d p = none) (hr : SRdr w' g s q true) :
    SArrPost s d p g w e w' := ⟨hg, m, _, he, ⟨_, _, _, rfl⟩, .inr ⟨hn, q, hr⟩⟩

set_option maxHeartbeats 400000 in
theorem snode0 (g p : Nat) (s : ByteArray) (w : World) (h : SRdr w g s p false) (hs : s.size ≤ 400) (hp : p ≤ s.size) :
    Calls Try.prog 139 #[.pointer (some ⟨g, 0, none⟩), .int .i64 0] w (SArrPost s 0 p g w) := by
  have HR := Lib.hid h
  have hgw := h.lt
  clear h
  go_enter Try.func139, Try.ntmps139
  go_wp2_with fail
  refine (snumber_any g p s _ (((HR.out.alloc _).alloc _).alloc _) hs hp).mono ?_
  have HB := Lib.hid (begun w)
  generalize ((w.alloc (.cells #[.int .i64 0, .slice none 0 0] 123)).alloc (.cells #[] 123)).alloc (.cells #[.int .i64 0, .slice (some ⟨w.heap.size + 1, 0, none⟩) 0 0] 123) = w3 at HB
  rintro e w4 ⟨hg4, n, rfl, hcase⟩
  have hz3 := HB.out.size
  have HG4 := Lib.hid hg4
  have HRES := Lib.hid (HB.out.res.grown hg4 (by simp; omega))
  have HOUT := Lib.hid (HB.out.out.grown hg4 (by simp; omega))
  have HCASE := Lib.hid hcase
  have r0 := HRES.out.c0
  have r1 := HRES.out.c1
  have o0 := HOUT.out.c0
  have o1 := HOUT.out.c1
  have f0 := HRES.out.f 0
  have f1 := HRES.out.f 1
  have f2 := HOUT.out.f 0
  clear hg4 hcase
  go_wp2_with fail
  refine bodyPost_ret (v := .agg #[.int .i64 n, .slice (some ⟨w.heap.size + 1, 0, none⟩) 0 0]) (by simp [results, Try.results139, go_sem, r0, r1]) rfl ?_
  have hga := gr_some HB.out.gr HG4.out
  have hgb := gr_set_row (gr_set_row (gr_set_row (i := 0) (b := w.heap.size + 1 + 1) hga (by omega) (.int .i64 n)) (i := 0) (Nat.le_refl _) (.int .i64 n)) (i := 1) (Nat.le_refl _) (.slice (some ⟨w.heap.size + 1, 0, none⟩) 0 0)
  rcases HCASE.out with ⟨v, q, hn, hv, hr⟩ | ⟨hn, q, hr⟩
  · exact sarr_ok (d := 0) (t := v) hgb rfl hn (((hr.far (by omega) _).far (by omega) _).far (by omega) _) ⟨hv, (num_ge hn).2.2, _, _, _, rfl⟩
  · exact sarr_bad (d := 0) hgb rfl hn (((hr.far (by omega) _).far (by omega) _).far (by omega) _)
end

/- SLoop -/
section
open Go.RowKit

/-- What holds of the memory while node gathers parts. -/
structure SLf (s : ByteArray) (g : Nat) (w wr : World) (sv : Value) (xs : List (Int × Value)) (q : Nat) (bad : Bool) : Prop where
  rdr : SRdr wr g s q bad
  gr : w.grownBy wr (some g)
  size : w.heap.size + 3 ≤ wr.heap.size
  res : Two wr w.heap.size (.int .i64 0) (.slice none 0 0)
  out : Two wr (w.heap.size + 1 + 1) (.int .i64 0) sv
  own : wr.ownsRow w.heap.size 123 2 sv xs.length (flat2 xs)
  ne0 : sv.ownBlock ≠ some w.heap.size
  ne2 : sv.ownBlock ≠ some (w.heap.size + 1 + 1)

/-- Nothing is wrong so far. -/
structure SLg (s : ByteArray) (d p g : Nat) (w wr : World) (sv : Value) (ts : List (T d)) (xs : List (Int × Value)) (f q : Nat) : Prop where
  lf : SLf s g w wr sv xs q false
  le : q ≤ s.size
  fuel : s.size < f + q
  com : parts s (node s d) p = cons' ts (more s (node s d) f q)
  len : xs.length ≤ q
  all : All2 (SNd wr (fun b => w.heap.size + 3 ≤ b ∧ sv.ownBlock ≠ some b) d) ts xs

def SLoop (s : ByteArray) (d p g : Nat) (w wr : World) (sv : Value) (xs : List (Int × Value)) (q : Nat) (bad : Bool) : Prop :=
  SLf s g w wr sv xs q bad ∧ ((bad = false ∧ ∃ ts f, SLg s d p g w wr sv ts xs f q) ∨ (bad = true ∧ parts s (node s d) p = none))

/-- A loop's measure, out of the world. -/
def mS (N : Nat) (w : World) (g : Nat) : Nat := match w.cell? ⟨g, 2, none⟩ with
  | some (.bool true) => 0
  | _ => N + 1 - plcS w g
theorem mS_bad {N : Nat} {w : World} {g p : Nat} {s : ByteArray} (h : SRdr w g s p true) : mS N w g = 0 := by unfold mS; rw [h.c2]
theorem mS_good {N : Nat} {w : World} {g p : Nat} {s : ByteArray} (h : SRdr w g s p false) : mS N w g = N + 1 - p := by unfold mS; rw [h.c2, plc_eqS h]

section
variable {s : ByteArray} {d p g : Nat} {w wr : World} {sv : Value} {ts : List (T d)} {xs : List (Int × Value)} {f q : Nat} {bad : Bool}

theorem SLf.drewN (h : SLf s g w wr sv xs q bad) (n : Nat) : SLf s g w (wr.drewN n) sv xs q bad :=
  ⟨h.rdr.drewN n, h.gr.trans (gr_drewN _ _ _), h.size, h.res.drewN n, h.out.drewN n, own_keep h.own (fun _ _ => rfl), h.ne0, h.ne2⟩
/-- The reader alone has gone on. -/
theorem SLf.reader (h : SLf s g w wr sv xs q bad) {w2 : World} {q2 : Nat} {b2 : Bool} (hg : wr.grownBy w2 (some g)) (hr : SRdr w2 g s q2 b2) (hgw : g < w.heap.size) : SLf s g w w2 sv xs q2 b2 := by
  have hb : ∀ b, w.heap.size ≤ b → b < wr.heap.size → w2.heap[b]? = wr.heap[b]? := fun b hb hb2 => hg.block b hb2 (by simp; omega)
  have hl := h.own.lt
  have hsz := hg.size
  have := h.size
  exact ⟨hr, h.gr.trans hg, by omega, h.res.grown hg (by simp; omega), h.out.grown hg (by simp; omega), own_keep h.own (fun k hk => hb k (hl k hk).1 (hl k hk).2), h.ne0, h.ne2⟩

/-- A part more: the element was read (world we), laid in a box, appended (world w2), and the variable written. -/
theorem SLf.step (h : SLf s g w wr sv xs q false) {m : Int} {v : Value} {we w2 : World} {q2 : Nat} {b2 : Bool} {gg cap : Nat} {o : Obj}
    (hge : wr.grownBy we (some g)) (hrd : SRdr we g s q2 b2)
    (hown : w2.ownsRow w.heap.size 123 2 (.slice (some ⟨gg, 0, none⟩) (xs.length + 1) cap) (xs.length + 1) (flat2 xs ++ [.int .i64 m, v])) (hg2 : (we.alloc o).grownBy w2 sv.ownBlock)
    (hat : sv.ownBlock = some gg ∨ gg = we.heap.size + 1) (hgw : g < w.heap.size) :
    SLf s g w (w2.setCell ⟨w.heap.size + 1 + 1, 1, none⟩ (.slice (some ⟨gg, 0, none⟩) (xs.length + 1) cap)) (.slice (some ⟨gg, 0, none⟩) (xs.length + 1) cap) (xs ++ [(m, v)]) q2 b2 := by
  have hsz : (we.alloc o).heap.size = we.heap.size + 1 := by simp
  have hsw := h.gr.size
  have hse := hge.size
  have hs2 := hg2.size
  have hs3 := h.size
  have hlt := h.own.lt
  have hga : we.grownBy (we.alloc o) (some g) := World.grownBy_alloc _ _ _
  have hgg : gg ≠ w.heap.size ∧ gg ≠ w.heap.size + 1 + 1 ∧ w.heap.size ≤ gg := by
    rcases hat with e | e
    · exact ⟨fun e2 => h.ne0 (by rw [e, e2]), fun e2 => h.ne2 (by rw [e, e2]), (hlt gg e).1⟩
    · exact ⟨by omega, by omega, by omega⟩
  have h1 := h.gr.trans (hge.trans hga)
  have hg3 : w.grownBy w2 (some g) := ⟨hg2.os.trans h1.os, hg2.tape.trans h1.tape, hg2.output.trans h1.output, Nat.le_trans h1.size hg2.size, fun k hk hne =>
    (hg2.block k (Nat.lt_of_lt_of_le hk h1.size) (fun e => by have := (hlt k e.symm).1; omega)).trans (h1.block k hk hne)⟩
  refine ⟨?_, gr_set_row hg3 (by omega) _, by have := (gr_set w2 (w.heap.size + 1 + 1) 1 (.slice (some ⟨gg, 0, none⟩) (xs.length + 1) cap)).size; omega, ?_, ?_, ?_, ?_, ?_⟩
  · exact ((hrd.alloc o).grown hg2 (fun e => by have := (hlt g e.symm).1; omega)).far (by omega) _
  · exact (((h.res.grown hge (by simp; omega)).alloc o).grown hg2 (fun e => h.ne0 e.symm)).far (by omega) _
  · exact (((h.out.grown hge (by simp; omega)).alloc o).grown hg2 (fun e => h.ne2 e.symm)).set1 _
  · rw [flat2_snoc, List.length_append]
    exact own_keep hown (fun k hk => Below.heap_setCell _ _ _ _ (by simp [Value.ownBlock] at hk; subst hk; exact hgg.2.1))
  · simpa [Value.ownBlock] using hgg.1
  · simpa [Value.ownBlock] using hgg.2.1

theorem SLf.step_all (h : SLf s g w wr sv xs q false) (hall : All2 (SNd wr (fun b => w.heap.size + 3 ≤ b ∧ sv.ownBlock ≠ some b) d) ts xs) {m : Int} {v : Value} {t : T d} {we w2 : World} {gg cap : Nat} {o : Obj}
    (hge : wr.grownBy we (some g)) (hnd : SNd we (fun b => wr.heap.size ≤ b) d t (m, v)) (hg2 : (we.alloc o).grownBy w2 sv.ownBlock)
    (hat : sv.ownBlock = some gg ∨ gg = we.heap.size + 1) (hgw : g < w.heap.size) :
    All2 (SNd (w2.setCell ⟨w.heap.size + 1 + 1, 1, none⟩ (.slice (some ⟨gg, 0, none⟩) (xs.length + 1) cap)) (fun b => w.heap.size + 3 ≤ b ∧ (Value.slice (some ⟨gg, 0, none⟩) (xs.length + 1) cap).ownBlock ≠ some b) d) (ts ++ [t]) (xs ++ [(m, v)]) := by
  have hsz : (we.alloc o).heap.size = we.heap.size + 1 := by simp
  have hsw := h.gr.size
  have hse := hge.size
  have hs3 := h.size
  have hlt := h.own.lt
  have hga : we.grownBy (we.alloc o) (some g) := World.grownBy_alloc _ _ _
  have hne : ∀ b, sv.ownBlock ≠ some b → b < we.heap.size → (Value.slice (some ⟨gg, 0, none⟩) (xs.length + 1) cap).ownBlock ≠ some b := by
    intro b hb hb2 e
    simp only [Value.ownBlock, Option.some.injEq] at e
    rcases hat with e2 | e2
    · exact hb (e2.trans (by rw [e]))
    · omega
  have hset : ∀ b, w.heap.size + 3 ≤ b → (w2.setCell ⟨w.heap.size + 1 + 1, 1, none⟩ (.slice (some ⟨gg, 0, none⟩) (xs.length + 1) cap)).heap[b]? = w2.heap[b]? := fun b hb => Below.heap_setCell _ _ _ _ (by show b ≠ w.heap.size + 1 + 1; omega)
  refine All2.snoc ?_ ts xs ?_
  · refine SNd.keep ?_ ?_ d t (m, v) hnd
    · intro b hb hb2
      rw [hset b (by omega), hg2.block b (by omega) (fun e => by have := (hlt b e.symm).2; omega), hga.block b (by omega) (by simp; omega)]
    · intro b hb hb2
      exact ⟨by omega, hne b (fun e => by have := (hlt b e).2; omega) hb2⟩
  · refine All2.mono (SNd.keep ?_ ?_ d) ts xs hall
    · rintro b ⟨hb1, hb2⟩ hb
      rw [hset b hb1, hg2.block b (by omega) (fun e => hb2 e.symm), hga.block b (by omega) (by simp; omega), hge.block b hb (by simp; omega)]
    · rintro b ⟨hb1, hb2⟩ hb
      exact ⟨hb1, hne b hb2 (by omega)⟩

/-- Behind a part that was read and appended: the next head, good or bad. com: what the parts come to if the part is there; bad: if not. -/
theorem sloop_step (h : SLf s g w wr sv xs q false) (hall : All2 (SNd wr (fun b => w.heap.size + 3 ≤ b ∧ sv.ownBlock ≠ some b) d) ts xs) {pe : Nat} {m : Int} {v : Value} {we w2 : World} {gg cap : Nat} {o : Obj}
    (hlen : xs.length < pe)
    (hgood : ∀ t q2, node s d pe = some (t, q2) → ∃ f', s.size < f' + q2 ∧ parts s (node s d) p = cons' (ts ++ [t]) (more s (node s d) f' q2)) (hbad : node s d pe = none → parts s (node s d) p = none)
    (hge : wr.grownBy we (some g)) (hcase : (∃ t q2, node s d pe = some (t, q2) ∧ SRdr we g s q2 false ∧ SNd we (fun b => wr.heap.size ≤ b) d t (m, v)) ∨ (node s d pe = none ∧ ∃ q2, SRdr we g s q2 true))
    (hown : w2.ownsRow w.heap.size 123 2 (.slice (some ⟨gg, 0, none⟩) (xs.length + 1) cap) (xs.length + 1) (flat2 xs ++ [.int .i64 m, v])) (hg2 : (we.alloc o).grownBy w2 sv.ownBlock)
    (hat : sv.ownBlock = some gg ∨ gg = we.heap.size + 1) (hgw : g < w.heap.size) :
    ∃ q2 b2, SLoop s d p g w (w2.setCell ⟨w.heap.size + 1 + 1, 1, none⟩ (.slice (some ⟨gg, 0, none⟩) (xs.length + 1) cap)) (.slice (some ⟨gg, 0, none⟩) (xs.length + 1) cap) (xs ++ [(m, v)]) q2 b2 ∧ (b2 = false → pe < q2 ∧ q2 ≤ s.size) := by
  rcases hcase with ⟨t, q2, hn, hr, hnd⟩ | ⟨hn, q2, hr⟩
  · obtain ⟨f', hf, hcom⟩ := hgood t q2 hn
    have hq := node_ge s d _ _ _ hn
    have hl := h.step hge hr hown hg2 hat hgw
    exact ⟨q2, false, ⟨hl, .inl ⟨rfl, ts ++ [t], f', ⟨hl, hq.2, hf, hcom, by rw [List.length_append]; simp; omega, h.step_all hall hge hnd hg2 hat hgw⟩⟩⟩, fun _ => hq⟩
  · exact ⟨q2, true, ⟨h.step hge hr hown hg2 hat hgw, .inr ⟨rfl, hbad hn⟩⟩, fun e => by cases e⟩
theorem SLf.laid (h : SLf s g w wr sv xs q bad) {w2 : World} {q2 : Nat} {b2 : Bool} (hg : wr.grownBy w2 (some g)) (hr : SRdr w2 g s q2 b2) (hgw : g < w.heap.size) :
    w.grownBy (laidOut' w w2 sv) (some g) ∧ SRdr (laidOut' w w2 sv) g s q2 b2 :=
  ⟨gr_set_row (gr_set_row (h.gr.trans hg) (Nat.le_refl _) _) (Nat.le_refl _) _, (hr.far (by omega) _).far (by omega) _⟩
theorem SLf.end_bad (h : SLf s g w wr sv xs q bad) (hn : parts s (node s d) p = none) {w2 : World} {q2 : Nat} (hg : wr.grownBy w2 (some g)) (hr : SRdr w2 g s q2 true) (hgw : g < w.heap.size) :
    SArrPost s (d + 1) p g w (.returned (.agg #[.int .i64 0, sv])) (laidOut' w w2 sv) := by
  obtain ⟨h1, h2⟩ := h.laid hg hr hgw
  exact ⟨h1, 0, sv, rfl, own_form h.own, .inr ⟨hn, q2, h2⟩⟩
theorem SLg.end_good (h : SLg s d p g w wr sv ts xs f q) (hc : ba s q = 93) {w2 : World} (hg : wr.grownBy w2 (some g)) (hr : SRdr w2 g s (q + 1) false) (hgw : g < w.heap.size) :
    SArrPost s (d + 1) p g w (.returned (.agg #[.int .i64 0, sv])) (laidOut' w w2 sv) := by
  obtain ⟨h1, h2⟩ := h.lf.laid hg hr hgw
  have hcom : parts s (node s d) p = some (ts, q + 1) := by
    obtain ⟨f', rfl⟩ : ∃ f', f = f' + 1 := ⟨f - 1, by have := h.fuel; have := h.le; omega⟩
    rw [h.com, more, if_pos hc]
    simp [cons']
  have hl := h.lf.own.lt
  have hsz := hg.size
  have hkeep : ∀ b, w.heap.size < b → b < wr.heap.size → (laidOut' w w2 sv).heap[b]? = wr.heap[b]? := fun b hb hb2 =>
    (laid_heap w w2 sv b (by omega)).trans (hg.block b hb2 (by simp; omega))
  have hrow : ∀ k, sv.ownBlock = some k → w.heap.size < k := fun k hk => by
    have := (hl k hk).1
    have : k ≠ w.heap.size := fun e => h.lf.ne0 (by rw [hk, e])
    omega
  refine ⟨h1, 0, sv, rfl, own_form h.lf.own, .inl ⟨ts, q + 1, hcom, h2, xs, own_base (own_keep h.lf.own (fun k hk => hkeep k (hrow k hk) (hl k hk).2)) (Nat.zero_le _), fun k hk => (hl k hk).1, ?_⟩⟩
  exact All2.mono (SNd.keep (fun b hb hb2 => hkeep b (by omega) hb2) (fun b hb _ => by omega) d) ts xs h.all
theorem SLg.stop (h : SLg s d p g w wr sv ts xs f q) (hc : ba s q ≠ 93) (h2 : ba s q ≠ 44) : parts s (node s d) p = none := by
  obtain ⟨f', rfl⟩ : ∃ f', f = f' + 1 := ⟨f - 1, by have := h.fuel; have := h.le; omega⟩
  rw [h.com, more, if_neg hc, if_neg h2]
  rfl
theorem SLg.goes (h : SLg s d p g w wr sv ts xs f q) (h2 : ba s q = 44) :
    (∀ t q2, node s d (q + 1) = some (t, q2) → ∃ f', s.size < f' + q2 ∧ parts s (node s d) p = cons' (ts ++ [t]) (more s (node s d) f' q2)) ∧ (node s d (q + 1) = none → parts s (node s d) p = none) := by
  obtain ⟨f', rfl⟩ : ∃ f', f = f' + 1 := ⟨f - 1, by have := h.fuel; have := h.le; omega⟩
  constructor
  · intro t q2 hn
    have hg := node_ge s d _ _ _ hn
    have := h.fuel
    refine ⟨f', by omega, ?_⟩
    rw [h.com, more, if_neg (by omega), if_pos h2, hn]
    simp only
    cases hm : more s (node s d) f' q2 with
    | none => rfl
    | some r => simp [cons']
  · intro hn
    rw [h.com, more, if_neg (by omega), if_pos h2, hn]
    rfl
end
end

/- SNodeS -/
section
open Go.RowKit


theorem slf_start {s : ByteArray} {g p : Nat} {w w3 : World} (hb : Begun w w3) (hr : SRdr w3 g s p false) : SLf s g w w3 (.slice (some ⟨w.heap.size + 1, 0, none⟩) 0 0) [] p false :=
  ⟨hr, gr_some hb.gr (gr_refl _ _), by rw [hb.size]; omega, hb.res, hb.out, hb.own, by simp [Value.ownBlock], by simp [Value.ownBlock]⟩

theorem slf_own {s : ByteArray} {g q : Nat} {w wr we : World} {sv : Value} {xs : List (Int × Value)} {bad : Bool} (h : SLf s g w wr sv xs q bad) (hg : wr.grownBy we (some g)) (hgw : g < w.heap.size) (o : Obj) :
    (we.alloc o).ownsRow w.heap.size 123 2 sv xs.length (flat2 xs) :=
  (own_keep h.own (fun k hk => hg.block k (h.own.lt k hk).2 (fun e => by have := (h.own.lt k hk).1; simp at e; omega))).alloc o

/-- The variable's second cell behind the append. -/
theorem slf_cell {s : ByteArray} {g q : Nat} {w wr we w2 : World} {sv : Value} {xs : List (Int × Value)} {bad : Bool} {o : Obj} (h : SLf s g w wr sv xs q bad) (hg : wr.grownBy we (some g)) (hgw : g < w.heap.size) (hg2 : (we.alloc o).grownBy w2 sv.ownBlock) :
    Two w2 (w.heap.size + 1 + 1) (.int .i64 0) sv :=
  ((h.out.grown hg (by simp; omega)).alloc o).grown hg2 (fun e => h.ne2 e.symm)

set_option maxRecDepth 100000 in
set_option maxHeartbeats 4000000 in
theorem snode_main (g p d : Nat) (n : Int) (s : ByteArray) (w : World) (h : SRdr w g s p false) (hs : s.size ≤ 400) (hn1 : 1 ≤ n) (hn2 : n ≤ 1000)
    (hc : ba s p = 91) (hc2 : ba s (p + 1) ≠ 93)
    (ih : ∀ (p : Nat) (w : World), SRdr w g s p false → p ≤ s.size → Calls Try.prog 139 #[.pointer (some ⟨g, 0, none⟩), .int .i64 (n - 1)] w (SArrPost s d p g w)) :
    Calls Try.prog 139 #[.pointer (some ⟨g, 0, none⟩), .int .i64 n] w (SArrPost s (d + 1) p g w) := by
  obtain ⟨i0, hi0, hz0, hz1, hz2⟩ := info_parts infoN
  have HR := Lib.hid h
  have hgw := h.lt
  have HI := Lib.hid ih
  have HC := Lib.hid hc
  have HC2 := Lib.hid hc2
  have hp1 : p < s.size := ba_lt (by omega)
  have e0 : (n == 0) = false := by rw [beq_eq_false_iff_ne]; omega
  clear h ih hc hc2
  go_enter Try.func139, Try.ntmps139
  go_wp2_with fail
  clear e0
  refine (is_yes g p s 91 false _ (((HR.out.alloc _).alloc _).alloc _) (by omega) HC.out hs).mono ?_
  have HB := Lib.hid (begun w)
  have HR3 := Lib.hid (((HR.out.alloc (.cells #[.int .i64 0, .slice none 0 0] 123)).alloc (.cells #[] 123)).alloc (.cells #[.int .i64 0, .slice (some ⟨w.heap.size + 1, 0, none⟩) 0 0] 123))
  generalize ((w.alloc (.cells #[.int .i64 0, .slice none 0 0] 123)).alloc (.cells #[] 123)).alloc (.cells #[.int .i64 0, .slice (some ⟨w.heap.size + 1, 0, none⟩) 0 0] 123) = w3 at HB HR3
  rintro e w4 ⟨rfl, hr4, hg4⟩
  have HL4 := Lib.hid ((slf_start HB.out HR3.out).reader hg4 hr4 hgw)
  clear hr4 hg4
  go_wp2_with fail
  refine (is_no g (p + 1) s 93 false w4 HL4.out.rdr HC2.out).mono ?_
  rintro e w5 ⟨rfl, n5, rfl⟩
  go_wp2_with fail
  have o1 := HL4.out.out.c1
  have wn : IntKind.i64.wrap (n - 1) = n - 1 := IntWalk.i64_in _ (by omega)
  go_region_law (first
    | (refine step_append_lies _ (by rfl) _ _ _ (by rfl) w.heap.size 123 i0 _ 2 32 Try.underlying121 hi0 hz0 hz1 hz2 rfl (by omega) _ 0 [] (by rfl) own7 ⟨w7.heap.size, 0, none⟩ 1 1 [.int .i64 m, .slice A7 k7 c7] (by rfl) (by rfl) (World.news_of_block (cs := #[.int .i64 m, .slice A7 k7 c7]) (t := 123) (fr := (0, 0)) (heap_alloc_new w7 _)) (by simp [Value.oneCell']) (by omega) (by simp [maxLen]) (by omega) (by simp; omega) (w7.heap.size + 1) (by simp) ?_
       intro gg cap w8 hown8 hg8 hat8 hlt8
       have t8 := slf_cell (o := .cells #[.int .i64 m, .slice A7 k7 c7] 123) HL4.out HG7.out hgw hg8
       have o8 := t8.c1
       have f8 := t8.f 1
       have HO8 := Lib.hid hown8
       have HG8 := Lib.hid hg8
       have HA8 := Lib.hid hat8
       clear hown8 hg8 hat8 hlt8 t8)
    | (go_simp
       go_at_call 139
       refine (HI.out (p + 1) _ (HL4.out.rdr.drewN _) (by omega)).mono ?_
       rintro e w7 ⟨hg7, m, v7, rfl, ⟨A7, k7, c7, rfl⟩, hcase7⟩
       have HG7 := Lib.hid ((gr_drewN w4 _ _).trans hg7)
       have hb7 := HG7.out.size
       have hb4 := HL4.out.size
       have o7 := (HL4.out.out.grown HG7.out (by simp; omega)).c1
       have o7b := ((HL4.out.out.grown HG7.out (by simp; omega)).alloc (.cells #[.int .i64 m, .slice A7 k7 c7] 123)).c1
       have own7 := slf_own HL4.out HG7.out hgw (.cells #[.int .i64 m, .slice A7 k7 c7] 123)
       have HC7 := Lib.hid hcase7
       clear hg7 hcase7))
  all_goals
    have hstep := sloop_step (p := p) (ts := []) HL4.out trivial (by simp) (fun t q2 hn => ⟨s.size + 1, by omega, parts_s HC.out HC2.out hn⟩) (fun hn => parts_n2 HC.out HC2.out hn) HG7.out HC7.out HO8.out HG8.out HA8.out hgw
    obtain ⟨q2, b2, hS, _⟩ := hstep
    have HS := Lib.hid hS
    clear hS HO8 HG8 HA8 o1 o7 o7b o8 f8 own7 HC7 HG7 hb7 hb4
    go_wp2_with fail
    go_loopw [33] (fun _ wr => ∃ sv xs q bad, Hid (SLoop s d p g w wr sv xs q bad)) (fun _ wr => mS s.size wr g)
    case atStart => exact ⟨_, _, _, _, HS⟩
    case round =>
      clear HS HL4
      obtain ⟨sv, xs, q, bad, hL⟩ := hrel
      obtain ⟨A, k, c, rfl⟩ := own_form hL.out.1.own
      cases bad
      · have hg : ∃ ts f, SLg s d p g w wr (.slice A k c) ts xs f q := by
          rcases hL.out.2 with ⟨_, h⟩ | ⟨h, _⟩
          · exact h
          · cases h
        obtain ⟨ts, f, hg'⟩ := hg
        have HGD := Lib.hid hg'
        clear hg' hL
        have hq := HGD.out.le
        have hlen := HGD.out.len
        have c2 := HGD.out.lf.rdr.c2
        by_cases h44 : ba s q = 44
        · have H44 := Lib.hid h44
          have hq1 : q < s.size := ba_lt (by omega)
          clear h44
          go_wp2_with fail
          refine (is_yes g q s 44 false wr HGD.out.lf.rdr (by omega) H44.out hs).mono ?_
          rintro e w6 ⟨rfl, hr6, hg6⟩
          have HL6 := Lib.hid (HGD.out.lf.reader hg6 hr6 hgw)
          have HG6 := Lib.hid hg6
          clear hr6 hg6 c2
          go_wp2_with fail
          have v1 := HL6.out.out.c1
          go_region_law (first
            | (refine step_append_lies _ (by rfl) _ _ _ (by rfl) w.heap.size 123 i0 _ 2 32 Try.underlying121 hi0 hz0 hz1 hz2 rfl (by omega) _ xs.length (flat2 xs) (by rfl) own8 ⟨w9.heap.size, 0, none⟩ 1 1 [.int .i64 m9, .slice A9 k9 c9] (by rfl) (by rfl) (World.news_of_block (cs := #[.int .i64 m9, .slice A9 k9 c9]) (t := 123) (fr := (0, 0)) (heap_alloc_new w9 _)) (by simp [Value.oneCell']) (by omega) (by simp [maxLen]; omega) (by omega) (by simp; omega) (w9.heap.size + 1) (by simp) ?_
               intro gx cax w10 hown10 hg10 hat10 hlt10
               have t10 := slf_cell (o := .cells #[.int .i64 m9, .slice A9 k9 c9] 123) HL6.out HG9.out hgw hg10
               have o10 := t10.c1
               have f10 := t10.f 1
               have HO10 := Lib.hid hown10
               have HG10 := Lib.hid hg10
               have HA10 := Lib.hid hat10
               clear hown10 hg10 hat10 hlt10 t10)
            | (go_simp
               go_at_call 139
               refine (HI.out (q + 1) _ (HL6.out.rdr.drewN _) (by omega)).mono ?_
               rintro e w9 ⟨hg9, m9, v9, rfl, ⟨A9, k9, c9, rfl⟩, hcase9⟩
               have HG9 := Lib.hid ((gr_drewN w6 _ _).trans hg9)
               have hb9 := HG9.out.size
               have hb6 := HL6.out.size
               have o9 := (HL6.out.out.grown HG9.out (by simp; omega)).c1
               have o9b := ((HL6.out.out.grown HG9.out (by simp; omega)).alloc (.cells #[.int .i64 m9, .slice A9 k9 c9] 123)).c1
               have own8 := slf_own HL6.out HG9.out hgw (.cells #[.int .i64 m9, .slice A9 k9 c9] 123)
               have HC9 := Lib.hid hcase9
               clear hg9 hcase9))
          all_goals
            have hgo := HGD.out.goes H44.out
            have hall := All2.mono (SNd.keep (w := wr) (w' := w6) (fun b hb hb2 => HG6.out.block b hb2 (by simp; omega)) (fun b hb _ => hb) d) ts xs HGD.out.all
            obtain ⟨q3, b3, hS3, hq3⟩ := sloop_step (p := p) HL6.out hall (pe := q + 1) (by omega) hgo.1 hgo.2 HG9.out HC9.out HO10.out HG10.out HA10.out hgw
            have HS3 := Lib.hid hS3
            have HQ3 := Lib.hid hq3
            clear hS3 hq3 hgo hall HO10 HG10 HA10 v1 o9 o9b o10 f10 own8 HC9
            go_wp2_with fail
            go_roundw
            case rel => exact ⟨_, _, _, _, HS3⟩
            case measure =>
              rw [mS_good HGD.out.lf.rdr]
              cases b3
              · rw [mS_good HS3.out.1.rdr]
                have := HQ3.out rfl
                omega
              · rw [mS_bad HS3.out.1.rdr]
                omega
        · have H44 := Lib.hid h44
          clear h44
          go_wp2_with fail
          refine (is_no g q s 44 false wr HGD.out.lf.rdr H44.out).mono ?_
          rintro e w6 ⟨rfl, n6, rfl⟩
          have hne : ¬ g = w.heap.size := by omega
          have hne2 : ¬ g = w.heap.size + 1 + 1 := by omega
          go_wp2_with fail
          clear c2
          by_cases h93 : ba s q = 93
          · have H93 := Lib.hid h93
            clear h93
            refine (is_yes g q s 93 false _ (HGD.out.lf.rdr.drewN n6) (by omega) H93.out hs).mono ?_
            rintro e w7' ⟨rfl, hr7, hg7⟩
            have hl7 := (HGD.out.lf.drewN n6).reader hg7 hr7 hgw
            have c2 := hr7.c2
            have cf := hr7.f 2
            have r0 := hl7.res.c0
            have r1 := hl7.res.c1
            have u0 := hl7.out.c0
            have u1 := hl7.out.c1
            have f0 := hl7.res.f 0
            have f1 := hl7.res.f 1
            have HR7 := Lib.hid hr7
            have HG7b := Lib.hid hg7
            clear hr7 hg7 hl7
            go_wp2_with fail
            refine bodyPost_ret (v := .agg #[.int .i64 0, .slice A k c]) (by simp [results, Try.results139, go_sem, r0, r1]) rfl ?_
            exact HGD.out.end_good H93.out (((gr_drewN wr n6 _).trans HG7b.out).trans (gr_set w7' g 2 (.bool false))) (HR7.out.set2 false) hgw
          · have H93 := Lib.hid h93
            clear h93
            refine (is_no g q s 93 false _ (HGD.out.lf.rdr.drewN n6) H93.out).mono ?_
            rintro e w7' ⟨rfl, n7, rfl⟩
            have c2 := HGD.out.lf.rdr.c2
            have cf := HGD.out.lf.rdr.f 2
            have r0 := HGD.out.lf.res.c0
            have r1 := HGD.out.lf.res.c1
            have u0 := HGD.out.lf.out.c0
            have u1 := HGD.out.lf.out.c1
            have f0 := HGD.out.lf.res.f 0
            have f1 := HGD.out.lf.res.f 1
            go_wp2_with fail
            refine bodyPost_ret (v := .agg #[.int .i64 0, .slice A k c]) (by simp [results, Try.results139, go_sem, r0, r1]) rfl ?_
            exact HGD.out.lf.end_bad (HGD.out.stop H93.out H44.out) ((gr_drewN wr _ _).trans (gr_set _ g 2 (.bool true))) ((HGD.out.lf.rdr.drewN _).set2 true) hgw
      · have hn : parts s (node s d) p = none := by
          rcases hL.out.2 with ⟨h, _⟩ | ⟨_, h⟩
          · cases h
          · exact h
        have HN := Lib.hid hn
        clear hn
        have c2 := hL.out.1.rdr.c2
        have cf := hL.out.1.rdr.f 2
        have r0 := hL.out.1.res.c0
        have r1 := hL.out.1.res.c1
        have u0 := hL.out.1.out.c0
        have u1 := hL.out.1.out.c1
        have f0 := hL.out.1.res.f 0
        have f1 := hL.out.1.res.f 1
        have hne : ¬ g = w.heap.size := by omega
        have hne2 : ¬ g = w.heap.size + 1 + 1 := by omega
        go_wp2_with fail
        refine bodyPost_ret (v := .agg #[.int .i64 0, .slice A k c]) (by simp [results, Try.results139, go_sem, r0, r1]) rfl ?_
        exact hL.out.1.end_bad HN.out (gr_set wr g 2 (.bool true)) (hL.out.1.rdr.set2 true) hgw
end

/- SRead -/
section
open Go.RowKit

set_option maxHeartbeats 400000 in
theorem snode_n1 (g p d : Nat) (n : Int) (s : ByteArray) (w : World) (h : SRdr w g s p false) (hn1 : 1 ≤ n) (hc : ba s p ≠ 91) :
    Calls Try.prog 139 #[.pointer (some ⟨g, 0, none⟩), .int .i64 n] w (SArrPost s (d + 1) p g w) := by
  have HR := Lib.hid h
  have hgw := h.lt
  have HC := Lib.hid hc
  have e0 : (n == 0) = false := by rw [beq_eq_false_iff_ne]; omega
  clear h hc
  go_enter Try.func139, Try.ntmps139
  go_wp2_with fail
  clear e0
  refine (is_no g p s 91 false _ (((HR.out.alloc _).alloc _).alloc _) HC.out).mono ?_
  have HB := Lib.hid (begun w)
  have HR3 := Lib.hid (((HR.out.alloc (.cells #[.int .i64 0, .slice none 0 0] 123)).alloc (.cells #[] 123)).alloc (.cells #[.int .i64 0, .slice (some ⟨w.heap.size + 1, 0, none⟩) 0 0] 123))
  generalize ((w.alloc (.cells #[.int .i64 0, .slice none 0 0] 123)).alloc (.cells #[] 123)).alloc (.cells #[.int .i64 0, .slice (some ⟨w.heap.size + 1, 0, none⟩) 0 0] 123) = w3 at HB HR3
  rintro e w4 ⟨rfl, n4, rfl⟩
  have HL := Lib.hid (slf_start HB.out HR3.out)
  have c2 := HL.out.rdr.c2
  have cf := HL.out.rdr.f 2
  have r0 := HL.out.res.c0
  have r1 := HL.out.res.c1
  have u0 := HL.out.out.c0
  have u1 := HL.out.out.c1
  have f0 := HL.out.res.f 0
  have f1 := HL.out.res.f 1
  have hne : ¬ g = w.heap.size := by omega
  have hne2 : ¬ g = w.heap.size + 1 + 1 := by omega
  go_wp2_with fail
  refine bodyPost_ret (v := .agg #[.int .i64 0, .slice (some ⟨w.heap.size + 1, 0, none⟩) 0 0]) (by simp [results, Try.results139, go_sem, r0, r1]) rfl ?_
  exact HL.out.end_bad (parts_n1 HC.out) ((gr_drewN w3 _ _).trans (gr_set _ g 2 (.bool true))) ((HL.out.rdr.drewN _).set2 true) hgw

theorem parts_more {s : ByteArray} {d p : Nat} (h : ba s p = 91) (h2 : ba s (p + 1) = 93) : parts s (node s d) p = cons' [] (more s (node s d) (s.size + 1) (p + 1)) := by
  rw [parts_e h h2, more, if_pos h2]
  rfl

set_option maxHeartbeats 400000 in
theorem snode_e (g p d : Nat) (n : Int) (s : ByteArray) (w : World) (h : SRdr w g s p false) (hs : s.size ≤ 400) (hn1 : 1 ≤ n) (hc : ba s p = 91) (hc2 : ba s (p + 1) = 93) :
    Calls Try.prog 139 #[.pointer (some ⟨g, 0, none⟩), .int .i64 n] w (SArrPost s (d + 1) p g w) := by
  have HR := Lib.hid h
  have hgw := h.lt
  have HC := Lib.hid hc
  have HC2 := Lib.hid hc2
  have hp1 : p < s.size := ba_lt (by omega)
  have e0 : (n == 0) = false := by rw [beq_eq_false_iff_ne]; omega
  clear h hc hc2
  go_enter Try.func139, Try.ntmps139
  go_wp2_with fail
  clear e0
  refine (is_yes g p s 91 false _ (((HR.out.alloc _).alloc _).alloc _) (by omega) HC.out hs).mono ?_
  have HB := Lib.hid (begun w)
  have HR3 := Lib.hid (((HR.out.alloc (.cells #[.int .i64 0, .slice none 0 0] 123)).alloc (.cells #[] 123)).alloc (.cells #[.int .i64 0, .slice (some ⟨w.heap.size + 1, 0, none⟩) 0 0] 123))
  generalize ((w.alloc (.cells #[.int .i64 0, .slice none 0 0] 123)).alloc (.cells #[] 123)).alloc (.cells #[.int .i64 0, .slice (some ⟨w.heap.size + 1, 0, none⟩) 0 0] 123) = w3 at HB HR3
  rintro e w4 ⟨rfl, hr4, hg4⟩
  have HL4 := Lib.hid ((slf_start HB.out HR3.out).reader hg4 hr4 hgw)
  clear hr4 hg4
  go_wp2_with fail
  refine (is_yes g (p + 1) s 93 false w4 HL4.out.rdr (by omega) HC2.out hs).mono ?_
  rintro e w5 ⟨rfl, hr5, hg5⟩
  have hl5 := HL4.out.reader hg5 hr5 hgw
  have r0 := hl5.res.c0
  have r1 := hl5.res.c1
  have u0 := hl5.out.c0
  have u1 := hl5.out.c1
  have f0 := hl5.res.f 0
  have f1 := hl5.res.f 1
  have HG := Lib.hid (show SLg s d p g w w4 (.slice (some ⟨w.heap.size + 1, 0, none⟩) 0 0) [] [] (s.size + 1) (p + 1) from ⟨HL4.out, by omega, by omega, parts_more HC.out HC2.out, Nat.zero_le _, trivial⟩)
  have HR5 := Lib.hid hr5
  have HG5 := Lib.hid hg5
  clear hr5 hg5 hl5
  go_wp2_with fail
  refine bodyPost_ret (v := .agg #[.int .i64 0, .slice (some ⟨w.heap.size + 1, 0, none⟩) 0 0]) (by simp [results, Try.results139, go_sem, r0, r1]) rfl ?_
  exact HG.out.end_good HC2.out HG5.out HR5.out hgw

theorem snode_any (g : Nat) (s : ByteArray) (hs : s.size ≤ 400) : ∀ (d : Nat) (n : Int) (p : Nat) (w : World), n = d → d ≤ 1000 → SRdr w g s p false → p ≤ s.size →
    Calls Try.prog 139 #[.pointer (some ⟨g, 0, none⟩), .int .i64 n] w (SArrPost s d p g w)
  | 0, n, p, w, hn, _, h, hp => by obtain rfl : n = 0 := hn; exact snode0 g p s w h hs hp
  | d + 1, n, p, w, hn, hd, h, hp => by
    by_cases hc : ba s p = 91
    · by_cases hc2 : ba s (p + 1) = 93
      · exact snode_e g p d n s w h hs (by omega) hc hc2
      · exact snode_main g p d n s w h hs (by omega) (by omega) hc hc2 (fun p w h hp => snode_any g s hs d (n - 1) p w (by omega) (by omega) h hp)
    · exact snode_n1 g p d n s w h (by omega) hc
end

/- L1Read -/
section
open Go.RowKit

def SReadNo (w : World) (e : Ending) (w' : World) : Prop := e = .returned (.tuple #[.agg #[.int .i64 0, .slice none 0 0], .bool false]) ∧ w.grownBy w' none
def SReadPost (s : ByteArray) (d : Nat) (w : World) (e : Ending) (w' : World) : Prop := match readN s d with
  | some t => ∃ m sv, e = .returned (.tuple #[.agg #[.int .i64 m, sv], .bool true]) ∧ (∃ A k c, sv = .slice A k c) ∧ w.grownBy w' none ∧ SNd w' (fun b => w.heap.size ≤ b) d t (m, sv)
  | none => SReadNo w e w'

theorem sread_no {s : ByteArray} {d : Nat} {w w' : World} {e : Ending} (hr : readN s d = none) (he : e = .returned (.tuple #[.agg #[.int .i64 0, .slice none 0 0], .bool false])) (hg : w.grownBy w' none) : SReadPost s d w e w' := by
  unfold SReadPost
  rw [hr]
  exact ⟨he, hg⟩
theorem sread_yes {s : ByteArray} {d : Nat} {t : T d} {w w' : World} {e : Ending} {m : Int} {A : Option Addr} {k c : Nat} (hr : readN s d = some t) (he : e = .returned (.tuple #[.agg #[.int .i64 m, .slice A k c], .bool true])) (hg : w.grownBy w' none) (ha : SNd w' (fun b => w.heap.size ≤ b) d t (m, .slice A k c)) : SReadPost s d w e w' := by
  unfold SReadPost
  rw [hr]
  exact ⟨m, _, he, ⟨_, _, _, rfl⟩, hg, ha⟩

set_option maxHeartbeats 400000 in
theorem sread_out (n : Int) (s : ByteArray) (w : World) (h : n < 0 ∨ 3 < n ∨ 400 < s.size) :
    Calls Try.prog 122 #[.string s, .int .i64 n] w (SReadNo w) := by
  by_cases hn : 0 ≤ n ∧ n ≤ 3
  · have hs : 400 < s.size := by omega
    have HI := Lib.hid (fun w => in_any n 0 3 true (decide_eq_true hn) w)
    clear hn h
    go_enter Try.func122, Try.ntmps122
    go_wp2_with fail
    refine (HI.out _).mono ?_
    rintro e w1 ⟨rfl, rfl⟩
    go_wp2_with fail
    refine bodyPost_ret (v := .tuple #[.agg #[.int .i64 0, .slice none 0 0], .bool false]) (by simp [results, Try.results122, go_sem]) rfl ?_
    exact ⟨rfl, World.grownBy_alloc _ _ _⟩
  · have HI := Lib.hid (fun w => in_any n 0 3 false (decide_eq_false hn) w)
    clear hn h
    go_enter Try.func122, Try.ntmps122
    go_wp2_with fail
    refine (HI.out _).mono ?_
    rintro e w1 ⟨rfl, rfl⟩
    go_wp2_with fail
    refine bodyPost_ret (v := .tuple #[.agg #[.int .i64 0, .slice none 0 0], .bool false]) (by simp [results, Try.results122, go_sem]) rfl ?_
    exact ⟨rfl, World.grownBy_alloc _ _ _⟩

theorem srdr_new {w : World} {k : Nat} (s : ByteArray) (hk : w.heap.size = k) : SRdr (w.alloc (.cells #[.string s, .int .i64 0, .bool false] 169)) k s 0 false := by
  subst hk
  exact heap_alloc_new _ _

set_option maxHeartbeats 1000000 in
theorem sread_in (n : Int) (d : Nat) (s : ByteArray) (w : World) (hnd : n = d) (h0 : 0 ≤ n) (h3 : n ≤ 3) (hs : s.size ≤ 400) :
    Calls Try.prog 122 #[.string s, .int .i64 n] w (SReadPost s d w) := by
  have HI := Lib.hid (fun w => in_any n 0 3 true (decide_eq_true ⟨h0, h3⟩) w)
  have HND := Lib.hid hnd
  have hd3 : d ≤ 3 := by omega
  clear hnd
  go_enter Try.func122, Try.ntmps122
  go_wp2_with fail
  refine (HI.out _).mono ?_
  rintro e w1 ⟨rfl, rfl⟩
  go_wp2_with fail
  refine (snode_any _ s hs d n 0 _ HND.out (by omega) (srdr_new s (by simp)) (Nat.zero_le _)).mono ?_
  rintro e w4 ⟨hg4, m, sv, rfl, ⟨A, k, c, rfl⟩, hcase⟩
  have hR : Two ((w.alloc (.cells #[.int .i64 0, .slice none 0 0] 123)).alloc (.cells #[.string s, .int .i64 0, .bool false] 169)) w.heap.size (.int .i64 0) (.slice none 0 0) := (two_new w _ _ rfl).alloc _
  have hz4 := hg4.size
  simp at hz4
  have HRES := Lib.hid (hR.grown hg4 (by simp))
  have HGR := Lib.hid (gr_new ((World.grownBy_alloc w (.cells #[.int .i64 0, .slice none 0 0] 123) none).trans (World.grownBy_alloc _ (.cells #[.string s, .int .i64 0, .bool false] 169) none)) hg4 (by omega))
  have hR5 := HRES.out.alloc (.cells #[.int .i64 m, .slice A k c] 123)
  have r0 := hR5.c0
  have r1 := hR5.c1
  have f0 := hR5.f 0
  have f1 := hR5.f 1
  have HG5 := Lib.hid (HGR.out.trans (World.grownBy_alloc w4 (.cells #[.int .i64 m, .slice A k c] 123) none))
  clear hR hR5
  rcases hcase with ⟨t, q, hn, hr, hnd⟩ | ⟨hn, q, hr⟩
  · have hqs := node_ge s d 0 t q hn
    have HN := Lib.hid hn
    have HR4 := Lib.hid hr
    have HA := Lib.hid hnd
    have c2 := (hr.alloc (.cells #[.int .i64 m, .slice A k c] 123)).c2
    have c1 := (hr.alloc (.cells #[.int .i64 m, .slice A k c] 123)).c1
    clear hn hr hnd hg4
    by_cases hend : q = s.size
    · have hb : ((q : Int) != (s.size : Int)) = false := by rw [hend]; simp
      have HE := Lib.hid hend
      clear hend
      go_wp2_with fail
      refine bodyPost_ret (v := .tuple #[.agg #[.int .i64 m, .slice A k c], .bool true]) (by simp [results, Try.results122, go_sem, r0, r1]) rfl ?_
      refine sread_yes (by rw [readN, HN.out]; exact if_pos HE.out) rfl (gr_set_new (gr_set_new HG5.out (Nat.le_refl _) _) (Nat.le_refl _) _) (SNd.keep ?_ ?_ d t _ HA.out)
      · intro b hb hb2
        simp at hb
        rw [Below.heap_setCell _ _ _ _ (by simp; omega), Below.heap_setCell _ _ _ _ (by simp; omega)]
        exact Below.heap_alloc _ _ _ hb2
      · intro b hb _
        simp at hb
        omega
    · have hb : ((q : Int) != (s.size : Int)) = true := by rw [bne_iff_ne]; omega
      have HE := Lib.hid hend
      clear hend
      go_wp2_with fail
      refine bodyPost_ret (v := .tuple #[.agg #[.int .i64 0, .slice none 0 0], .bool false]) (by simp [results, Try.results122, go_sem, r0, r1]) rfl ?_
      exact sread_no (by rw [readN, HN.out]; exact if_neg HE.out) rfl (gr_set_new (gr_set_new HG5.out (Nat.le_refl _) _) (Nat.le_refl _) _)
  · have HN := Lib.hid hn
    have c2 := (hr.alloc (.cells #[.int .i64 m, .slice A k c] 123)).c2
    clear hn hr hg4
    go_wp2_with fail
    refine bodyPost_ret (v := .tuple #[.agg #[.int .i64 0, .slice none 0 0], .bool false]) (by simp [results, Try.results122, go_sem, r0, r1]) rfl ?_
    exact sread_no (by rw [readN, HN.out]) rfl (gr_set_new (gr_set_new HG5.out (Nat.le_refl _) _) (Nat.le_refl _) _)

/-- Is the text an array of the depth? -/
def isArr (s : ByteArray) (n : Int) : Bool := decide (0 ≤ n ∧ n ≤ 3 ∧ s.size ≤ 400) && (readN s n.toNat).isSome
end

end Go.Proofs.Ytbideeajdhejoaa

/- 19 texts in one: Spec Num13 SNum Num Rep SNode Text Dec SText Loop SLoop Parts0 SNodeS Parts1 Arr Nest SRead L1Read ValidI. -/
import Derived.Test.YtachjodnhgmoiaaGreatDoorStrs0
import Derived.Test.YtachjodnhgmoiaaGreatDoorIn
import Derived.IntWalk
import Derived.Test.YtachjodnhgmoiaaGreatDoorOwn
import Derived.Test.YtachjodnhgmoiaaGreatDoorSNd
import Derived.Test.YtachjodnhgmoiaaGreatDoorByte
import Derived.Test.YtachjodnhgmoiaaGreatDoorStrsF
import Derived.Test.YtachjodnhgmoiaaGreatDoorGr
import Derived.Laws.BytesArg
import Derived.Deep.RegionLaw
import Derived.Deep.AppendLies
import Derived.Recover
namespace Go.Proofs.YtachjodnhgmoiaaGreatDoor
/- Spec -/
section
open Go.RowKit

/-- The model's reader at block g: its text, its place, and whether something was wrong. -/
def SRdr (w : World) (g : Nat) (s : ByteArray) (p : Nat) (b : Bool) : Prop := w.heap[g]? = some (.cells #[.string s, .int .i64 p, .bool b] 75 (0, 0))

section
variable {w w' : World} {g p : Nat} {s : ByteArray} {b : Bool}
theorem SRdr.c0 (h : SRdr w g s p b) : w.cell? ⟨g, 0, none⟩ = some (.string s) := cell_of_row w g 0 _ _ (0, 0) h
theorem SRdr.c1 (h : SRdr w g s p b) : w.cell? ⟨g, 1, none⟩ = some (.int .i64 p) := cell_of_row w g 1 _ _ (0, 0) h
theorem SRdr.c2 (h : SRdr w g s p b) : w.cell? ⟨g, 2, none⟩ = some (.bool b) := cell_of_row w g 2 _ _ (0, 0) h
theorem SRdr.f (h : SRdr w g s p b) (i : Nat) : w.frozen? ⟨g, i, none⟩ = false := by
  unfold SRdr at h
  simp [World.frozen?, h]
theorem SRdr.lt (h : SRdr w g s p b) : g < w.heap.size := by
  rcases Nat.lt_or_ge g w.heap.size with hlt | hge
  · exact hlt
  · unfold SRdr at h; rw [Array.getElem?_eq_none hge] at h; cases h
theorem SRdr.drewN (h : SRdr w g s p b) (n : Nat) : SRdr (w.drewN n) g s p b := h
theorem SRdr.set1 (h : SRdr w g s p b) (q : Nat) : SRdr (w.setCell ⟨g, 1, none⟩ (.int .i64 q)) g s q b := by
  unfold SRdr at h ⊢
  simp [World.setCell, Array.getElem?_modify, h]
theorem SRdr.set2 (h : SRdr w g s p b) (c : Bool) : SRdr (w.setCell ⟨g, 2, none⟩ (.bool c)) g s p c := by
  unfold SRdr at h ⊢
  simp [World.setCell, Array.getElem?_modify, h]
theorem SRdr.alloc (h : SRdr w g s p b) (o : Obj) : SRdr (w.alloc o) g s p b := (Below.heap_alloc w o g h.lt).trans h
theorem SRdr.grown {row : Option Nat} (h : SRdr w g s p b) (hg : w.grownBy w' row) (hne : some g ≠ row) : SRdr w' g s p b := (hg.block g h.lt hne).trans h
end

/-- The place of the reader, out of the world: a loop's measure. -/
def plcS (w : World) (g : Nat) : Nat := match w.cell? ⟨g, 1, none⟩ with
  | some v => (intOf v).toNat
  | none => 0
theorem plcS_drewN (w : World) (g n : Nat) : plcS (w.drewN n) g = plcS w g := rfl

set_option maxHeartbeats 400000 in
theorem is_out (g p : Nat) (s : ByteArray) (c : Int) (bad : Bool) (w : World) (h : SRdr w g s p bad) (hp : s.size ≤ p) :
    Calls Tryz.prog 58 #[.pointer (some ⟨g, 0, none⟩), .int .u8 c] w fun e w' => e = .returned (.bool false) ∧ ∃ n, w' = w.drewN n := by
  have h0 := h.c0
  have h1 := h.c1
  have hd : decide (p < s.size) = false := by simp; omega
  go_enter Tryz.func58, Tryz.ntmps58
  go_wp2_with fail
  go_quiet (fail)
  go_wp2_with fail
  go_ret
  exact ⟨rfl, _, rfl⟩

set_option maxHeartbeats 400000 in
theorem is_no (g p : Nat) (s : ByteArray) (c : Int) (bad : Bool) (w : World) (h : SRdr w g s p bad) (hc : ba s p ≠ c) :
    Calls Tryz.prog 58 #[.pointer (some ⟨g, 0, none⟩), .int .u8 c] w fun e w' => e = .returned (.bool false) ∧ ∃ n, w' = w.drewN n := by
  rcases Nat.lt_or_ge p s.size with hp | hp
  · have h0 := h.c0
    have h1 := h.c1
    have hd : decide (p < s.size) = true := by simp; omega
    have hb : ((s[p].toNat : Int) == c) = false := by rw [beq_eq_false_iff_ne, ← ba_in hp]; exact hc
    clear hc
    go_enter Tryz.func58, Tryz.ntmps58
    go_wp2_with fail
    go_quiet (fail)
    go_wp2_with fail
    go_ret
    exact ⟨rfl, _, rfl⟩
  · exact is_out g p s c bad w h hp

set_option maxHeartbeats 400000 in
theorem is_yes (g p : Nat) (s : ByteArray) (c : Int) (bad : Bool) (w : World) (h : SRdr w g s p bad) (h0c : 0 ≤ c) (hc : ba s p = c) (hs : s.size ≤ 400) :
    Calls Tryz.prog 58 #[.pointer (some ⟨g, 0, none⟩), .int .u8 c] w fun e w' => e = .returned (.bool true) ∧ SRdr w' g s (p + 1) bad ∧ w.grownBy w' (some g) := by
  have hp : p < s.size := ba_lt (by omega)
  have h0 := h.c0
  have h1 := h.c1
  have hf := h.f 1
  have hd : decide (p < s.size) = true := by simp; omega
  have hb : ((s[p].toNat : Int) == c) = true := by rw [beq_iff_eq, ← ba_in hp]; exact hc
  clear hc
  go_enter Tryz.func58, Tryz.ntmps58
  go_wp2_with fail
  go_quiet (fail)
  go_wp2_with fail
  go_ret
  refine ⟨rfl, ?_, ?_⟩
  · have := (h.drewN nq).set1 (p + 1)
    simpa using this
  · exact (gr_drewN w nq _).trans (gr_set _ _ _ _)
end

/- Num13 -/
section
open Go.RowKit

set_option maxHeartbeats 400000 in
theorem num13_empty (t : ByteArray) (w : World) (h0 : t.size = 0) :
    Calls Tryz.prog 79 #[.string t] w fun e w' => e = .returned (.tuple #[.int .i64 0, .bool false]) ∧ w' = w := by
  have hd : decide (0 < t.size) = false := decide_eq_false (by omega)
  have hd2 : ((t.size : Int) == 0) = true := beq_iff_eq.2 (by omega)
  clear h0
  go_enter Tryz.func79, Tryz.ntmps79
  go_wp2_with fail
  all_goals (go_ret2; exact ⟨rfl, rfl⟩)

set_option maxHeartbeats 400000 in
theorem num13_zero (t : ByteArray) (w : World) (h1 : 1 < t.size) (h6 : t.size ≤ 6) (hz : ba t 0 = 48) :
    Calls Tryz.prog 79 #[.string t] w fun e w' => e = .returned (.tuple #[.int .i64 0, .bool false]) ∧ w' = w := by
  have hp : 0 < t.size := by omega
  rw [ba_in hp] at hz
  have hb1 : ((t[0].toNat : Int) == 45) = false := by rw [hz]; rfl
  have hb2 : ((t[0].toNat : Int) == 48) = true := by rw [hz]; rfl
  have hd : decide (0 < t.size) = true := decide_eq_true (by omega)
  have hd2 : ((t.size : Int) == 0) = false := beq_eq_false_iff_ne.2 (by omega)
  clear hz
  go_enter Tryz.func79, Tryz.ntmps79
  go_wp2_with fail
  all_goals (go_ret2; exact ⟨rfl, rfl⟩)

theorem ret2_int {a b : Int} (h : a = b) (v : Value) : Ending.returned (.tuple #[.int .i64 a, v]) = .returned (.tuple #[.int .i64 b, v]) := by rw [h]

set_option maxHeartbeats 800000 in
theorem num13_good (t : ByteArray) (w : World) (h1 : 0 < t.size) (h6 : t.size ≤ 6) (hdig : ∀ i, i < t.size → dg t i = true) (hz : ba t 0 = 48 → t.size = 1) :
    Calls Tryz.prog 79 #[.string t] w fun e w' => e = .returned (.tuple #[.int .i64 (val t 0 t.size : Nat), .bool true]) ∧ w' = w := by
  have hd0 := dg_yes (hdig 0 h1)
  rw [ba_in h1] at hd0 hz
  have hb1 : ((t[0].toNat : Int) == 45) = false := beq_eq_false_iff_ne.2 (by omega)
  have hd : decide (0 < t.size) = true := decide_eq_true (by omega)
  have hd2 : ((t.size : Int) == 0) = false := beq_eq_false_iff_ne.2 (by omega)
  have HDG := Lib.hid hdig
  obtain ⟨Z, hZ⟩ : ∃ Z : Bool, ((t[0].toNat : Int) == 48) = Z := ⟨_, rfl⟩
  have hZ2 : Z = true → t.size = 1 := fun e => hz (by rw [e] at hZ; exact beq_iff_eq.1 hZ)
  clear hz hdig
  cases Z
  all_goals
    first
    | (have hs1 : decide (1 < (t.size : Int)) = false := decide_eq_false (by have := hZ2 rfl; omega))
    | skip
    clear hZ2
    go_enter Tryz.func79, Tryz.ntmps79
    go_wp2_with fail
    clear hZ hb1 hd hd2 hd0
    go_loop [5, 6] (fun n i => ∃ k : Nat, k ≤ t.size ∧ i = .int .i64 k ∧ n = .int .i64 (val t 0 k : Nat)) (fun _ i => t.size - (intOf i).toNat)
    case atStart => exact ⟨0, Nat.zero_le _, rfl, rfl⟩
    case round =>
      obtain ⟨k, hk, rfl, rfl⟩ := hrel
      by_cases hlt : k < t.size
      · have hdk := dg_yes (HDG.out k hlt)
        rw [ba_in hlt] at hdk
        obtain ⟨hdk1, hdk2⟩ := hdk
        have hvk := val_lt6 t 0 k (by omega) (fun i hi => by rw [Nat.zero_add]; exact HDG.out i (by omega))
        have HVS := Lib.hid (show ((val t 0 (k + 1) : Nat) : Int) = (val t 0 k : Int) * 10 + ((t[k].toNat : Int) - 48) from by
          rw [val, Nat.zero_add, ba_in hlt]; omega)
        go_wp2_with fail
        go_round
        case rel => exact ⟨k + 1, by omega, by go_num, by rw [HVS.out]⟩
        case measure => simp [intOf]; omega
      · have hk2 : k = t.size := by omega
        have HK := Lib.hid hk2
        clear hk2
        go_wp2_with fail
        go_ret2
        exact ⟨ret2_int (by rw [HK.out]) _, rfl⟩
end

/- SNum -/
section
open Go.RowKit

theorem val_ge (s : ByteArray) (p : Nat) (h : 49 ≤ ba s p) : ∀ k, 10 ^ k ≤ val s p (k + 1)
  | 0 => by simp only [val, Nat.add_zero]; omega
  | k + 1 => by
    have := val_ge s p h k
    rw [val, Nat.pow_succ]
    omega

def mn (s : ByteArray) (p : Nat) : Nat := min (nd s p) 6

/-- What l13Num says of the digits that number hands it. -/
def Said13 (s : ByteArray) (p : Nat) (n : Int) (ok : Bool) : Prop := match num s p with
  | some (v, q) => ok = true ∧ n = v ∧ q = p + mn s p ∧ 0 ≤ n ∧ n ≤ 10006
  | none => ok = false ∨ ¬ (0 ≤ n ∧ n ≤ 10006)

theorem num13_at (s : ByteArray) (p q : Nat) (hq : q = p + mn s p) (hqs : q ≤ s.size) :
    ∃ (n : Int) (ok : Bool), (∀ w, Calls Tryz.prog 79 #[.string (s.extract p q)] w fun e w' => e = .returned (.tuple #[.int .i64 n, .bool ok]) ∧ w' = w) ∧ Said13 s p n ok := by
  have hsz : (s.extract p q).size = mn s p := by simp; omega
  have hm6 : mn s p ≤ 6 := by unfold mn; omega
  have hmn : mn s p ≤ nd s p := by unfold mn; omega
  have hdig : ∀ i, i < (s.extract p q).size → dg (s.extract p q) i = true := fun i hi => by
    rw [dg_extract s p q i hqs (by omega)]; exact nd_dg s i p (by omega)
  rcases Nat.eq_zero_or_pos (mn s p) with h0 | h0
  · refine ⟨0, false, fun w => num13_empty _ w (by omega), ?_⟩
    unfold Said13
    rw [num_none (.inl (by unfold mn at h0; omega))]
    exact .inl rfl
  · have hb0 : ba (s.extract p q) 0 = ba s p := by rw [ba_extract s p q 0 hqs (by omega), Nat.add_zero]
    by_cases hz : ba s p = 48 ∧ 1 < mn s p
    · refine ⟨0, false, fun w => num13_zero _ w (by omega) (by omega) (by rw [hb0]; exact hz.1), ?_⟩
      unfold Said13
      rw [num_none (.inr (.inl ⟨hz.1, by omega⟩))]
      exact .inl rfl
    · refine ⟨_, true, fun w => num13_good _ w (by omega) (by omega) hdig (fun h => by rw [hb0] at h; have : ¬ 1 < mn s p := fun h' => hz ⟨h, h'⟩; omega), ?_⟩
      have hv : val (s.extract p q) 0 (s.extract p q).size = val s p (mn s p) := by rw [hsz, val_extract s p q hqs _ (by omega)]
      rw [hv]
      unfold Said13
      by_cases h6 : nd s p ≤ 6
      · have e : mn s p = nd s p := by unfold mn; omega
        rw [e]
        by_cases hbig : 10007 ≤ val s p (nd s p)
        · rw [num_none (.inr (.inr hbig))]
          exact .inr (by omega)
        · rw [num_some (by omega) (fun h => by have : ¬ 1 < mn s p := fun h' => hz ⟨h, h'⟩; omega) (by omega)]
          exact ⟨rfl, rfl, rfl, by omega, by omega⟩
      · have e : mn s p = 6 := by unfold mn; omega
        have h48 : ba s p ≠ 48 := fun h => hz ⟨h, by omega⟩
        have hd0 := dg_yes (nd_dg s 0 p (by omega))
        rw [Nat.add_zero] at hd0
        have hge : 10 ^ 5 ≤ val s p 6 := val_ge s p (by omega) 5
        have hmo := val_mono s p 6 (nd s p - 6)
        rw [show 6 + (nd s p - 6) = nd s p from by omega] at hmo
        rw [e]
        have hbig : 10007 ≤ val s p (nd s p) := by omega
        rw [num_none (.inr (.inr hbig))]
        exact .inr (by omega)

/-- How number ends. -/
def SNumPost (s : ByteArray) (p g : Nat) (w : World) (e : Ending) (w' : World) : Prop :=
  w.grownBy w' (some g) ∧ ∃ n : Int, e = .returned (.int .i64 n) ∧ ((∃ v q, num s p = some (v, q) ∧ n = (v : Nat) ∧ SRdr w' g s q false) ∨ (num s p = none ∧ ∃ q, SRdr w' g s q true))

theorem plc_eqS {w : World} {g p : Nat} {s : ByteArray} {b : Bool} (h : SRdr w g s p b) : plcS w g = p := by
  unfold plcS; rw [h.c1]; simp [intOf]

set_option maxHeartbeats 1000000 in
theorem snumber_any (g p : Nat) (s : ByteArray) (w : World) (h : SRdr w g s p false) (hs : s.size ≤ 400) (hp : p ≤ s.size) :
    Calls Tryz.prog 57 #[.pointer (some ⟨g, 0, none⟩)] w (SNumPost s p g w) := by
  have HR := Lib.hid h
  have hc0 := h.c0
  have hc1 := h.c1
  clear h
  go_enter Tryz.func57, Tryz.ntmps57
  go_wp2_with fail
  clear hc0 hc1
  go_loopw [10] (fun _ wr => ∃ k : Nat, k ≤ mn s p ∧ Hid (SRdr wr g s (p + k) false) ∧ Hid (w.grownBy wr (some g))) (fun _ wr => s.size + 1 - plcS wr g)
  case atStart => exact ⟨0, Nat.zero_le _, HR, Lib.hid (gr_refl _ _)⟩
  case round =>
    obtain ⟨k, hk, hr, hgr⟩ := hrel
    have hm6 : mn s p ≤ 6 := by unfold mn; omega
    have hmn : mn s p ≤ nd s p := by unfold mn; omega
    obtain ⟨q, hqe⟩ : ∃ q, p + k = q := ⟨_, rfl⟩
    have HRQ := Lib.hid hr.out
    rw [hqe] at HRQ
    have HQE := Lib.hid hqe
    have hqs : q ≤ s.size := by
      rcases Nat.eq_zero_or_pos k with h0 | h0
      · omega
      · have := nd_le s p (by omega); omega
    clear hqe hr
    have hc0 := HRQ.out.c0
    have hc1 := HRQ.out.c1
    have hcf := HRQ.out.f 1
    by_cases hlt : k < mn s p
    · have hdk : dg s q = true := by rw [← HQE.out]; exact nd_dg s k p (by omega)
      have hq := dg_lt hdk
      have hb := dg_yes hdk
      rw [ba_in hq] at hb
      have hin : decide (48 ≤ (s[q].toNat : Int) ∧ (s[q].toNat : Int) ≤ 57) = true := decide_eq_true hb
      have HI := Lib.hid (fun w => in_any (s[q].toNat : Int) 48 57 true hin w)
      have hd : decide (q < s.size) = true := decide_eq_true hq
      have h6 : decide ((q : Int) < (p : Int) + 6) = true := decide_eq_true (by have := HQE.out; omega)
      have w1 : IntKind.i64.wrap ((p : Int) + 6) = (p : Int) + 6 := IntWalk.i64_in _ (by omega)
      have w2 : IntKind.i64.wrap (s[q].toNat : Int) = (s[q].toNat : Int) := IntWalk.i64_in _ (by omega)
      clear hin hdk
      go_wp2_with fail
      go_quiet ((go_at_call 20; exact Calls.quiet_of_same (HI.out _)))
      clear w1 w2 h6 hd
      go_wp2_with fail
      go_roundw
      case rel =>
        refine ⟨k + 1, by omega, Lib.hid ?_, Lib.hid ((hgr.out.trans (gr_drewN _ nq _)).trans (gr_set _ _ _ _))⟩
        have := (HRQ.out.drewN nq).set1 (q + 1)
        rw [show p + (k + 1) = q + 1 from by have := HQE.out; omega]
        simpa using this
      case measure =>
        have e2 : SRdr ((wr.drewN nq).setCell ⟨g, 1, none⟩ (.int .i64 ((q + 1 : Nat) : Int))) g s (q + 1) false := (HRQ.out.drewN nq).set1 (q + 1)
        have e3 := plc_eqS e2
        rw [plc_eqS HRQ.out]
        simp only [Int.natCast_add, Int.cast_ofNat_Int] at e3
        rw [e3]
        omega
    · have hk2 : k = mn s p := by omega
      have hqm : q = p + mn s p := by rw [← hk2]; exact HQE.out.symm
      obtain ⟨n, ok, hcall, hsaid⟩ := num13_at s p q hqm hqs
      have HC := Lib.hid hcall
      have HS := Lib.hid hsaid
      have hcase : s.size ≤ q ∨ (∃ h : q < s.size, ¬ (48 ≤ (s[q].toNat : Int) ∧ (s[q].toNat : Int) ≤ 57)) ∨ (∃ h : q < s.size, (48 ≤ (s[q].toNat : Int) ∧ (s[q].toNat : Int) ≤ 57) ∧ p + 6 ≤ q) := by
        rcases Nat.lt_or_ge q s.size with h1 | h1
        · refine .inr ?_
          by_cases h2 : 48 ≤ (s[q].toNat : Int) ∧ (s[q].toNat : Int) ≤ 57
          · refine .inr ⟨h1, h2, ?_⟩
            have hdq : dg s q = true := by unfold dg; rw [ba_in h1]; exact decide_eq_true h2
            have : ¬ mn s p = nd s p := fun e => by
              have := nd_stop s (nd s p) p rfl
              rw [← e, ← hqm, hdq] at this
              cases this
            unfold mn at *
            omega
          · exact .inl ⟨h1, h2⟩
        · exact .inl h1
      clear hcall hsaid hk2
      have HQM := Lib.hid hqm
      clear hqm
      have w1 : IntKind.i64.wrap ((p : Int) + 6) = (p : Int) + 6 := IntWalk.i64_in _ (by omega)
      rcases hcase with h1 | ⟨hq, h2⟩ | ⟨hq, h2, h3⟩
      case' inl =>
        have hd : decide (q < s.size) = false := decide_eq_false (by omega)
        go_wp2_with fail
        go_quiet (fail)
      case' inr.inl =>
        have hd : decide (q < s.size) = true := decide_eq_true hq
        have HI := Lib.hid (fun w => in_any (s[q].toNat : Int) 48 57 false (decide_eq_false h2) w)
        have w2 : IntKind.i64.wrap (s[q].toNat : Int) = (s[q].toNat : Int) := IntWalk.i64_in _ (by have := UInt8.toNat_lt s[q]; omega)
        clear h2
        go_wp2_with fail
        go_quiet ((go_at_call 20; exact Calls.quiet_of_same (HI.out _)))
        clear w2 hd
      case' inr.inr =>
        have hd : decide (q < s.size) = true := decide_eq_true hq
        have HI := Lib.hid (fun w => in_any (s[q].toNat : Int) 48 57 true (decide_eq_true h2) w)
        have h6 : decide ((q : Int) < (p : Int) + 6) = false := decide_eq_false (by omega)
        have w2 : IntKind.i64.wrap (s[q].toNat : Int) = (s[q].toNat : Int) := IntWalk.i64_in _ (by omega)
        clear h2
        go_wp2_with fail
        go_quiet ((go_at_call 20; exact Calls.quiet_of_same (HI.out _)))
        clear w2 hd h6
      all_goals
        clear w1
        have hpq : p ≤ q := by have := HQE.out; omega
        have hc2 := HRQ.out.c2
        have hf2 := HRQ.out.f 2
        go_wp2_with fail
        go_quiet ((go_at_call 79; exact qsame HC.out))
        cases ok
        case' false =>
          go_wp2_with fail
          go_ret
          refine ⟨(hgr.out.trans (gr_drewN _ _ _)).trans (gr_set _ _ _ _), n, rfl, .inr ⟨?_, q, (HRQ.out.drewN _).set2 true⟩⟩
          have := HS.out
          unfold Said13 at this
          split at this
          · cases this.1
          · assumption
        obtain ⟨b, hb⟩ : ∃ b : Bool, decide (0 ≤ n ∧ n ≤ 10006) = b := ⟨_, rfl⟩
        have HB := Lib.hid (fun w => in_any n 0 10006 b hb w)
        have HBB := Lib.hid hb
        clear hb
        cases b
        all_goals
          go_wp2_with fail
          refine (HB.out _).mono ?_
          rintro e w9 ⟨rfl, rfl⟩
          go_wp2_with fail
          go_ret
        · refine ⟨(hgr.out.trans (gr_drewN _ _ _)).trans (gr_set _ _ _ _), n, rfl, .inr ⟨?_, q, (HRQ.out.drewN _).set2 true⟩⟩
          have := HS.out
          have hb := HBB.out
          unfold Said13 at this
          split at this
          · simp at hb; omega
          · assumption
        · refine ⟨(hgr.out.trans (gr_drewN _ _ _)).trans (gr_set _ _ _ _), n, rfl, .inl ?_⟩
          have := HS.out
          have hb := HBB.out
          unfold Said13 at this
          split at this
          · rename_i v q2 hn
            obtain ⟨_, hv, hq2, _⟩ := this
            refine ⟨v, q2, hn, hv, ?_⟩
            have e : q2 = q := by rw [hq2]; exact HQM.out.symm
            rw [e]
            exact (HRQ.out.drewN _).set2 false
          · simp at hb; simp at this; omega
end

/- Num -/
section
open Go.RowKit

/-- How readNumber ends. -/
def NumPost (s : ByteArray) (p g : Nat) (w : World) (e : Ending) (w' : World) : Prop :=
  w.grownBy w' (some g) ∧ ((∃ v q, num s p = some (v, q) ∧ e = .returned (.int .i64 (v : Nat)) ∧ Rdr w' g s q) ∨ (num s p = none ∧ Fell e))

theorem numPost_fell {s : ByteArray} {p g : Nat} {w w' : World} {e : Ending} (hn : num s p = none) (hg : w.grownBy w' (some g)) (he : Fell e) : NumPost s p g w e w' :=
  ⟨hg, .inr ⟨hn, he⟩⟩
theorem numPost_ok {s : ByteArray} {p g v q : Nat} {w w' : World} {e : Ending} (hn : num s p = some (v, q)) (hg : w.grownBy w' (some g)) (he : e = .returned (.int .i64 (v : Nat))) (hr : Rdr w' g s q) : NumPost s p g w e w' :=
  ⟨hg, .inl ⟨v, q, hn, he, hr⟩⟩

set_option maxHeartbeats 400000 in
theorem number_none (g p : Nat) (s : ByteArray) (w : World) (h : Rdr w g s p) (hd : dg s p = false) :
    Calls Tryz.prog 86 #[.pointer (some ⟨g, 0, none⟩)] w (NumPost s p g w) := by
  have hn : num s p = none := num_none (.inl (nd_no hd))
  have H := Lib.hid (digit_any g p s w h false hd)
  have HN := Lib.hid hn
  clear hn hd h
  go_enter Tryz.func86, Tryz.ntmps86
  go_wp2_with fail
  refine H.out.mono ?_
  rintro e w' ⟨rfl, n, rfl⟩
  go_wp2_with fail
  exact ⟨rfl, numPost_fell HN.out (gr_drewN w n _) ⟨_, rfl⟩⟩

theorem dg_sub {s : ByteArray} {q : Nat} (h : dg s q = true) : ∃ hq : q < s.size, 48 ≤ (s[q].toNat : Int) ∧ (s[q].toNat : Int) ≤ 57 ∧ ((ba s q - 48).toNat : Int) = (s[q].toNat : Int) - 48 := by
  have hq := dg_lt h
  have := dg_yes h
  rw [ba_in hq] at *
  exact ⟨hq, by omega, by omega, by omega⟩

set_option maxHeartbeats 1000000 in
theorem number_some (g p : Nat) (s : ByteArray) (w : World) (h : Rdr w g s p) (hd : dg s p = true) (hs : s.size ≤ 400) :
    Calls Tryz.prog 86 #[.pointer (some ⟨g, 0, none⟩)] w (NumPost s p g w) := by
  have H := Lib.hid (digit_any g p s w h true hd)
  have HD := Lib.hid hd
  have HR := Lib.hid h
  have hlt := dg_lt hd
  have hnd : 0 < nd s p := by rw [nd_yes hd]; omega
  have hle := nd_le s p hnd
  clear hd h
  obtain ⟨Z, hZ⟩ : ∃ Z : Bool, decide (ba s p = 48) = Z := ⟨_, rfl⟩
  have HZ := Lib.hid hZ
  clear hZ
  go_enter Tryz.func86, Tryz.ntmps86
  go_wp2_with fail
  refine H.out.mono ?_
  rintro e w' ⟨rfl, n, rfl⟩
  go_wp2_with fail
  refine (sees_any g p s 48 _ (HR.out.drewN n) (by omega) Z HZ.out).mono ?_
  rintro e w' ⟨rfl, n2, rfl⟩
  go_wp2_with fail
  go_loopw [4, 5] (fun v d wr => ∃ k : Nat, k ≤ nd s p ∧ d = .int .i64 k ∧ v = .int .i64 (val s p k : Nat) ∧ val s p k < 10007 ∧ Hid (Z = true → k ≤ 1) ∧ Hid (Rdr wr g s (p + k)) ∧ Hid (w.grownBy wr (some g))) (fun _ d _ => nd s p - (intOf d).toNat)
  case atStart => exact ⟨0, Nat.zero_le _, rfl, rfl, by simp [val], Lib.hid (fun _ => Nat.zero_le _), Lib.hid ((HR.out.drewN n).drewN n2), Lib.hid (gr_drewN w _ _)⟩
  case round =>
    obtain ⟨k, hk, rfl, rfl, hv, hz1, hr, hgr⟩ := hrel
    by_cases hlt2 : k < nd s p
    · have hdk := nd_dg s k p hlt2
      have HDK := Lib.hid hdk
      go_wp2_with fail
      refine (digit_any g (p + k) s _ hr.out true HDK.out).mono ?_
      rintro e w' ⟨rfl, n3, rfl⟩
      go_wp2_with fail
      · have hk0 : 0 < k := by assumption
        have hZt : Z = true := by assumption
        refine ⟨rfl, numPost_fell (num_none (.inr (.inl ⟨?_, by omega⟩))) (hgr.out.trans (gr_drewN _ n3 _)) ⟨_, rfl⟩⟩
        have := HZ.out
        rw [hZt] at this
        simpa using this
      all_goals
        have HZK : Hid (Z = true → k = 0) := by
          intro hz
          first
            | (have hzf : Z = false := by assumption
               rw [hzf] at hz; cases hz)
            | omega
        obtain ⟨q, hqe⟩ : ∃ q, p + k = q := ⟨_, rfl⟩
        have HDQ := Lib.hid HDK.out
        have HRQ := Lib.hid hr.out
        rw [hqe] at HDQ HRQ
        have HQE := Lib.hid hqe
        clear hqe
        obtain ⟨hq, h48, h57, hdv⟩ := dg_sub HDQ.out
        have hc0 := HRQ.out.c0
        have hc1 := HRQ.out.c1
        have HDV := Lib.hid hdv
        clear hdv
        have w1 : IntKind.i64.wrap (10 * (val s p k : Int)) = 10 * (val s p k : Int) := IntWalk.i64_in _ (by omega)
        have w2 : IntKind.u8.wrap ((s[q].toNat : Int) - 48) = (s[q].toNat : Int) - 48 := IntWalk.u8_in _ (by omega)
        have w3 : IntKind.i64.wrap ((s[q].toNat : Int) - 48) = (s[q].toNat : Int) - 48 := IntWalk.i64_in _ (by omega)
        have w4 : IntKind.i64.wrap (10 * (val s p k : Int) + ((s[q].toNat : Int) - 48)) = 10 * (val s p k : Int) + ((s[q].toNat : Int) - 48) := IntWalk.i64_in _ (by omega)
        go_quiet (fail)
        clear w1 w2 w3 w4
        have hcf := HRQ.out.f 1
        have hq400 : q < 400 := by omega
        have hvs : ((val s p (k + 1) : Nat) : Int) = 10 * (val s p k : Int) + ((s[q].toNat : Int) - 48) := by
          have e1 := HDV.out
          have e2 := HQE.out
          rw [val, e2]
          omega
        have HVS := Lib.hid hvs
        clear hvs
        have hmn := val_mono s p (k + 1) (nd s p - (k + 1))
        have HMN := Lib.hid hmn
        clear hmn
        go_wp2_with fail
        · have hge : 10007 ≤ 10 * (val s p k : Int) + ((s[q].toNat : Int) - 48) := by assumption
          refine ⟨rfl, numPost_fell (num_none (.inr (.inr ?_))) (hgr.out.trans (gr_drewN _ _ _)) ⟨_, rfl⟩⟩
          have e1 := HVS.out
          have e2 := HMN.out
          rw [show k + 1 + (nd s p - (k + 1)) = nd s p from by omega] at e2
          omega
        · have hlt3 : 10 * (val s p k : Int) + ((s[q].toNat : Int) - 48) < 10007 := by assumption
          have e1 := HVS.out
          go_roundw
          case rel =>
            refine ⟨k + 1, by omega, by go_num, by rw [e1], by omega, Lib.hid (fun hz => by have := HZK.out hz; omega), Lib.hid ?_, Lib.hid ?_⟩
            · have := (HRQ.out.drewN (n3 + nq)).set1 (q + 1)
              rw [show p + (k + 1) = q + 1 from by have := HQE.out; omega]
              simpa using this
            · exact (hgr.out.trans (gr_drewN _ (n3 + nq) _)).trans (gr_set _ _ _ _)
          case measure => simp [intOf]; omega
    · have hk2 : k = nd s p := by omega
      have hst := nd_stop s k p hk2.symm
      have HK := Lib.hid hk2
      have HST := Lib.hid hst
      clear hk2 hst
      go_wp2_with fail
      refine (digit_any g (p + k) s _ hr.out false HST.out).mono ?_
      rintro e w' ⟨rfl, n3, rfl⟩
      go_wp2_with fail
      go_ret
      refine numPost_ok (q := p + nd s p) (num_some (by omega) ?_ ?_) (hgr.out.trans (gr_drewN _ _ _)) ?_ ?_
      · intro hz
        have h1 := hz1.out (by rw [← HZ.out]; simpa using hz)
        have h2 := HK.out
        omega
      · rw [← HK.out]; exact hv
      · rw [← HK.out]; rfl
      · have := hr.out.drewN n3
        rw [HK.out] at this
        exact this

theorem number_any (g p : Nat) (s : ByteArray) (w : World) (h : Rdr w g s p) (hs : s.size ≤ 400) :
    Calls Tryz.prog 86 #[.pointer (some ⟨g, 0, none⟩)] w (NumPost s p g w) := by
  cases hd : dg s p with
  | true => exact number_some g p s w h hd hs
  | false => exact number_none g p s w h hd
end

/- Rep -/
section
open Go.RowKit

/-- The types of a node, by the depth of its parts. -/
def ptrT : Nat → TypeId
  | 0 => 121
  | _ + 1 => 126
def strT : Nat → TypeId
  | 0 => 125
  | _ + 1 => 130
def elT : Nat → TypeId
  | 0 => 119
  | _ + 1 => 87

/-- A part as it stands in a row: a number, or a node. Its blocks are among S. -/
def Nd (w : World) (S : Nat → Prop) : (d : Nat) → T d → Value → Prop
  | 0, n, v => v = .int .i64 (show Nat from n : Nat)
  | d + 1, ts, v => ∃ b sv xs, v = .iface (ptrT d) (.pointer (some ⟨b, 0, none⟩)) ∧ S b ∧ w.heap[b]? = some (.cells #[sv] (strT d) (0, 0)) ∧
      w.ownsRow 0 (elT d) 1 sv xs.length xs ∧ (∀ g, sv.ownBlock = some g → S g) ∧ All2 (Nd w S d) ts xs

/-- A whole array behind the interface. -/
def RepI (w : World) (S : Nat → Prop) : (d : Nat) → T d → Value → Prop
  | 0, n, v => v = .iface 119 (.int .i64 (show Nat from n : Nat))
  | d + 1, ts, v => Nd w S (d + 1) ts v

theorem Nd.keep {w w' : World} {S S' : Nat → Prop} (hk : ∀ b, S b → b < w.heap.size → w'.heap[b]? = w.heap[b]?) (hs : ∀ b, S b → b < w.heap.size → S' b) : ∀ (d : Nat) (t : T d) (v : Value), Nd w S d t v → Nd w' S' d t v
  | 0, _, _, h => h
  | d + 1, ts, v, ⟨b, sv, xs, hv, hb, hh, ho, hS, ha⟩ => by
    have hl : b < w.heap.size := by
      rcases Nat.lt_or_ge b w.heap.size with hlt | hge
      · exact hlt
      · rw [Array.getElem?_eq_none hge] at hh; cases hh
    have hl2 : ∀ g, sv.ownBlock = some g → g < w.heap.size := fun g hg => (ho.lt g hg).2
    exact ⟨b, sv, xs, hv, hs b hb hl, (hk b hb hl).trans hh, own_keep ho (fun g hg => hk g (hS g hg) (hl2 g hg)), fun g hg => hs g (hS g hg) (hl2 g hg), All2.mono (Nd.keep hk hs d) ts xs ha⟩
theorem RepI.keep {w w' : World} {S S' : Nat → Prop} (hk : ∀ b, S b → b < w.heap.size → w'.heap[b]? = w.heap[b]?) (hs : ∀ b, S b → b < w.heap.size → S' b) : ∀ (d : Nat) (t : T d) (v : Value), RepI w S d t v → RepI w' S' d t v
  | 0, _, _, h => h
  | d + 1, ts, v, h => Nd.keep hk hs (d + 1) ts v h
end

/- SNode -/
section
open Go.RowKit

/-- How node ends. -/
def SArrPost (s : ByteArray) (d p g : Nat) (w : World) (e : Ending) (w' : World) : Prop :=
  w.grownBy w' (some g) ∧ ∃ m sv, e = .returned (.agg #[.int .i64 m, sv]) ∧ (∃ A k c, sv = .slice A k c) ∧
    ((∃ t q, node s d p = some (t, q) ∧ SRdr w' g s q false ∧ SNd w' (fun b => w.heap.size ≤ b) d t (m, sv)) ∨ (node s d p = none ∧ ∃ q, SRdr w' g s q true))

theorem SRdr.far {w : World} {g p : Nat} {s : ByteArray} {b : Bool} (h : SRdr w g s p b) {k i : Nat} (hk : g ≠ k) (u : Value) : SRdr (w.setCell ⟨k, i, none⟩ u) g s p b := (Below.heap_setCell _ _ _ _ hk).trans h
theorem SRdr.drew {w : World} {g p : Nat} {s : ByteArray} {b : Bool} (h : SRdr w g s p b) : SRdr w.drew g s p b := h

/-- A world behind node's first blocks, in which the reader has gone on: what node's end needs. -/
theorem sarr_ok {s : ByteArray} {d p g q : Nat} {w w' : World} {e : Ending} {m : Int} {A : Option Addr} {k c : Nat} {t : T d} (hg : w.grownBy w' (some g)) (he : e = .returned (.agg #[.int .i64 m, .slice A k c])) (hn : node s d p = some (t, q)) (hr : SRdr w' g s q false)
    (ha : SNd w' (fun b => w.heap.size ≤ b) d t (m, .slice A k c)) : SArrPost s d p g w e w' := ⟨hg, m, _, he, ⟨_, _, _, rfl⟩, .inl ⟨t, q, hn, hr, ha⟩⟩
theorem sarr_bad {s : ByteArray} {d p g q : Nat} {w w' : World} {e : Ending} {m : Int} {A : Option Addr} {k c : Nat} (hg : w.grownBy w' (some g)) (he : e = .returned (.agg #[.int .i64 m, .slice A k c])) (hn : node s d p = none) (hr : SRdr w' g s q true) :
    SArrPost s d p g w e w' := ⟨hg, m, _, he, ⟨_, _, _, rfl⟩, .inr ⟨hn, q, hr⟩⟩

set_option maxHeartbeats 400000 in
theorem snode0 (g p : Nat) (s : ByteArray) (w : World) (h : SRdr w g s p false) (hs : s.size ≤ 400) (hp : p ≤ s.size) :
    Calls Tryz.prog 38 #[.pointer (some ⟨g, 0, none⟩), .int .i64 0] w (SArrPost s 0 p g w) := by
  have HR := Lib.hid h
  have hgw := h.lt
  clear h
  go_enter Tryz.func38, Tryz.ntmps38
  go_wp2_with fail
  refine (snumber_any g p s _ (((HR.out.alloc _).alloc _).alloc _) hs hp).mono ?_
  have HB := Lib.hid (begun w)
  generalize ((w.alloc (.cells #[.int .i64 0, .slice none 0 0] 50)).alloc (.cells #[] 50)).alloc (.cells #[.int .i64 0, .slice (some ⟨w.heap.size + 1, 0, none⟩) 0 0] 50) = w3 at HB
  rintro e w4 ⟨hg4, n, rfl, hcase⟩
  have hz3 := HB.out.size
  have HG4 := Lib.hid hg4
  have HRES := Lib.hid (HB.out.res.grown hg4 (by simp; omega))
  have HOUT := Lib.hid (HB.out.out.grown hg4 (by simp; omega))
  have HCASE := Lib.hid hcase
  have r0 := HRES.out.c0
  have r1 := HRES.out.c1
  have o0 := HOUT.out.c0
  have o1 := HOUT.out.c1
  have f0 := HRES.out.f 0
  have f1 := HRES.out.f 1
  have f2 := HOUT.out.f 0
  clear hg4 hcase
  go_wp2_with fail
  refine bodyPost_ret (v := .agg #[.int .i64 n, .slice (some ⟨w.heap.size + 1, 0, none⟩) 0 0]) (by simp [results, Tryz.results38, go_sem, r0, r1]) rfl ?_
  have hga := gr_some HB.out.gr HG4.out
  have hgb := gr_set_row (gr_set_row (gr_set_row (i := 0) (b := w.heap.size + 1 + 1) hga (by omega) (.int .i64 n)) (i := 0) (Nat.le_refl _) (.int .i64 n)) (i := 1) (Nat.le_refl _) (.slice (some ⟨w.heap.size + 1, 0, none⟩) 0 0)
  rcases HCASE.out with ⟨v, q, hn, hv, hr⟩ | ⟨hn, q, hr⟩
  · exact sarr_ok (d := 0) (t := v) hgb rfl hn (((hr.far (by omega) _).far (by omega) _).far (by omega) _) ⟨hv, (num_ge hn).2.2, _, _, _, rfl⟩
  · exact sarr_bad (d := 0) hgb rfl hn (((hr.far (by omega) _).far (by omega) _).far (by omega) _)
end

/- Text -/
section

/-- The digits of a number, by fuel. -/
def decF : Nat → Nat → List UInt8
  | 0, _ => []
  | f + 1, n => if n ≤ 9 then [UInt8.ofNat (48 + n)] else decF f (n / 10) ++ [UInt8.ofNat (48 + n % 10)]
def dec (n : Nat) : List UInt8 := decF (n + 1) n

theorem decF_more : ∀ (f n g : Nat), n < f → n < g → decF f n = decF g n
  | 0, n, g, h, _ => by omega
  | f + 1, n, g, h, hg => by
    obtain ⟨g', rfl⟩ : ∃ g', g = g' + 1 := ⟨g - 1, by omega⟩
    by_cases h9 : n ≤ 9
    · rw [decF, decF, if_pos h9, if_pos h9]
    · rw [decF, decF, if_neg h9, if_neg h9, decF_more f (n / 10) g' (by omega) (by omega)]
theorem dec_low {n : Nat} (h : n ≤ 9) : dec n = [UInt8.ofNat (48 + n)] := by rw [dec, decF, if_pos h]
theorem dec_high {n : Nat} (h : 9 < n) : dec n = dec (n / 10) ++ [UInt8.ofNat (48 + n % 10)] := by
  rw [dec, decF, if_neg (by omega), decF_more n (n / 10) (n / 10 + 1) (by omega) (by omega)]
  rfl
theorem dec_snoc {v d : Nat} (hv : 0 < v) (hd : d ≤ 9) : dec (10 * v + d) = dec v ++ [UInt8.ofNat (48 + d)] := by
  rw [dec_high (by omega)]
  have h1 : (10 * v + d) / 10 = v := by omega
  have h2 : (10 * v + d) % 10 = d := by omega
  rw [h1, h2]

/-- The bytes from a place to another. -/
def sub (s : ByteArray) (p q : Nat) : List UInt8 := (s.data.toList.drop p).take (q - p)

theorem sub_join (s : ByteArray) {p q r : Nat} (h1 : p ≤ q) (h2 : q ≤ r) : sub s p r = sub s p q ++ sub s q r := by
  unfold sub
  have e : r - p = (q - p) + (r - q) := by omega
  rw [e, List.take_add, List.drop_drop]
  congr 3
  omega
theorem sub_one (s : ByteArray) {p : Nat} (h : p < s.size) : sub s p (p + 1) = [s[p]] := by
  have h' : p < s.data.toList.length := by simpa using h
  unfold sub
  rw [show p + 1 - p = 1 from by omega, List.drop_eq_getElem_cons h']
  simp
  rfl
theorem sub_byte (s : ByteArray) {p : Nat} {c : Nat} (h : ba s p = (c : Int)) (_hc : c < 256) : sub s p (p + 1) = [UInt8.ofNat c] := by
  have hp := ba_lt (s := s) (p := p) (by omega)
  rw [sub_one s hp]
  rw [ba_in hp] at h
  have : s[p].toNat = c := by omega
  rw [← this]
  simp
theorem sub_all (s : ByteArray) : sub s 0 s.size = s.data.toList := by
  unfold sub
  simp
  exact List.take_of_length_le (by simp)
theorem sub_nil (s : ByteArray) (p : Nat) : sub s p p = [] := by unfold sub; simp

theorem val_pos (s : ByteArray) (p : Nat) (h : 49 ≤ ba s p) (k : Nat) : 0 < val s p (k + 1) := by
  induction k with
  | zero => simp only [val, Nat.add_zero]; omega
  | succ k ih => rw [val]; omega

/-- k digits that do not begin with 0 are the decimal text of their value. -/
theorem sub_dec (s : ByteArray) (p : Nat) (h0 : 49 ≤ ba s p) : ∀ k, (∀ i, i < k + 1 → dg s (p + i) = true) → sub s p (p + (k + 1)) = dec (val s p (k + 1))
  | 0, h => by
    have hd := dg_yes (h 0 (by omega))
    rw [Nat.add_zero] at hd
    have e : val s p 1 = (ba s p - 48).toNat := by simp [val]
    rw [e, dec_low (by omega)]
    exact sub_byte s (c := 48 + (ba s p - 48).toNat) (by omega) (by omega)
  | k + 1, h => by
    have hd := dg_yes (h (k + 1) (by omega))
    have ih := sub_dec s p h0 k (fun i hi => h i (by omega))
    have hv := val_pos s p h0 k
    have e : val s p (k + 1 + 1) = 10 * val s p (k + 1) + (ba s (p + (k + 1)) - 48).toNat := rfl
    rw [sub_join s (q := p + (k + 1)) (by omega) (by omega), ih, e, dec_snoc hv (by omega)]
    congr 1
    exact sub_byte s (p := p + (k + 1)) (c := 48 + (ba s (p + (k + 1)) - 48).toNat) (by omega) (by omega)

theorem sub_num {s : ByteArray} {p v q : Nat} (h : num s p = some (v, q)) : sub s p q = dec v := by
  unfold num at h
  split at h
  · cases h
  · rename_i hc
    simp only [Option.some.injEq, Prod.mk.injEq] at h
    obtain ⟨rfl, rfl⟩ := h
    have hn : nd s p ≠ 0 := fun e => hc (.inl e)
    obtain ⟨k, hk⟩ : ∃ k, nd s p = k + 1 := ⟨nd s p - 1, by omega⟩
    have hdig : ∀ i, i < k + 1 → dg s (p + i) = true := fun i hi => nd_dg s i p (by omega)
    by_cases hz : ba s p = 48
    · have h1 : nd s p = 1 := by
        have : ¬ 1 < nd s p := fun h1 => hc (.inr (.inl ⟨hz, h1⟩))
        omega
      rw [h1]
      have e : val s p 1 = 0 := by simp [val, hz]
      rw [e, dec_low (by omega)]
      exact sub_byte s (c := 48) (by omega) (by omega)
    · have hd := dg_yes (hdig 0 (by omega))
      rw [Nat.add_zero] at hd
      rw [hk]
      exact sub_dec s p (by omega) k hdig

/-- The text of an array of a depth. -/
def text : (d : Nat) → T d → List UInt8
  | 0, n => dec (show Nat from n)
  | d + 1, ts => 91 :: (match (show List (T d) from ts) with
    | [] => [93]
    | t :: l => text d t ++ (l.flatMap (fun x => 44 :: text d x) ++ [93]))

/-- The parts' texts with ',' between them. -/
def lst (d : Nat) : List (T d) → List UInt8
  | [] => []
  | t :: l => text d t ++ l.flatMap (fun x => 44 :: text d x)
theorem text_succ (d : Nat) (ts : List (T d)) : text (d + 1) ts = 91 :: (lst d ts ++ [93]) := by
  cases ts with
  | nil => rfl
  | cons t l => show 91 :: (text d t ++ (l.flatMap (fun x => 44 :: text d x) ++ [93])) = _; simp [lst]
theorem lst_one (d : Nat) (t : T d) : lst d [t] = text d t := by simp [lst]
theorem lst_snoc (d : Nat) (t : T d) : ∀ (l : List (T d)), l ≠ [] → lst d (l ++ [t]) = lst d l ++ 44 :: text d t
  | [], h => absurd rfl h
  | x :: l, _ => by simp [lst]
theorem lst_take_le (d : Nat) (ts : List (T d)) : ∀ j, (lst d (ts.take j)).length ≤ (lst d ts).length := by
  intro j
  have e : ts.take j ++ ts.drop j = ts := List.take_append_drop j ts
  cases hd : ts.take j with
  | nil => simp [lst]
  | cons x l =>
    rw [← e, hd]
    simp only [lst, List.cons_append, List.flatMap_append, List.length_append]
    omega

theorem dec_pos (n : Nat) : 0 < (dec n).length := by
  by_cases h : n ≤ 9
  · rw [dec_low h]; simp
  · rw [dec_high (by omega)]; simp
theorem text_pos : ∀ (d : Nat) (t : T d), 0 < (text d t).length
  | 0, t => dec_pos _
  | d + 1, t => by
    have e : text (d + 1) t = 91 :: (lst d t ++ [93]) := text_succ d t
    rw [e]
    simp
theorem flat_ge (d : Nat) : ∀ (l : List (T d)), l.length ≤ (l.flatMap (fun x => 44 :: text d x)).length
  | [] => by simp
  | x :: l => by
    have := flat_ge d l
    simp only [List.flatMap_cons, List.length_append, List.length_cons]
    omega
theorem lst_ge (d : Nat) : ∀ (l : List (T d)), l.length ≤ (lst d l).length
  | [] => by simp
  | x :: l => by
    have h1 := flat_ge d l
    have h2 := text_pos d x
    simp only [lst, List.length_append, List.length_cons]
    omega

theorem lst_step0 {d : Nat} {ts : List (T d)} {t : T d} (h : ts[0]? = some t) : lst d (ts.take 1) = text d t := by
  cases ts with
  | nil => simp at h
  | cons x l => simp at h; subst h; simp [lst]
theorem lst_stepS {d : Nat} {ts : List (T d)} {j : Nat} {t : T d} (h : ts[j]? = some t) (hj : 0 < j) : lst d (ts.take (j + 1)) = lst d (ts.take j) ++ 44 :: text d t := by
  have e : ts.take (j + 1) = ts.take j ++ [t] := by rw [List.take_add_one, h]; rfl
  rw [e]
  refine lst_snoc d t _ (fun hn => ?_)
  have hl : j < ts.length := by
    rcases Nat.lt_or_ge j ts.length with h' | h'
    · exact h'
    · rw [List.getElem?_eq_none h'] at h; cases h
  have := congrArg List.length hn
  rw [List.length_take, List.length_nil] at this
  omega

theorem sub_more {s : ByteArray} {d : Nat} (he : ∀ p t q, node s d p = some (t, q) → sub s p q = text d t) :
    ∀ (f p : Nat) (xs : List (T d)) (r : Nat), more s (node s d) f p = some (xs, r) → sub s p r = xs.flatMap (fun x => 44 :: text d x) ++ [93]
  | 0, p, xs, r, h => by cases h
  | f + 1, p, xs, r, h => by
    unfold more at h
    split at h
    · rename_i h93
      simp only [Option.some.injEq, Prod.mk.injEq] at h
      obtain ⟨rfl, rfl⟩ := h
      exact sub_byte s (c := 93) h93 (by omega)
    · split at h
      · rename_i h44
        split at h
        · cases h
        · rename_i x q hx
          split at h
          · cases h
          · rename_i ys r' hm
            simp only [Option.some.injEq, Prod.mk.injEq] at h
            obtain ⟨rfl, rfl⟩ := h
            have g1 := node_ge s d _ _ _ hx
            have g2 := more_ge (node_ge s d) f q ys r' hm
            rw [sub_join s (q := p + 1) (by omega) (by omega), sub_join s (p := p + 1) (q := q) (by omega) (by omega), sub_byte s (c := 44) h44 (by omega), he _ _ _ hx, sub_more he f q ys r' hm]
            simp
      · cases h

theorem sub_node (s : ByteArray) : ∀ (d p : Nat) (t : T d) (q : Nat), node s d p = some (t, q) → sub s p q = text d t
  | 0, p, t, q, h => sub_num (v := t) h
  | d + 1, p, t, q, h => by
    have he := fun p t q h => sub_node s d p t q h
    change parts s (node s d) p = some (t, q) at h
    unfold parts at h
    split at h
    · rename_i h91
      split at h
      · rename_i h93
        cases h
        rw [sub_join s (q := p + 1) (by omega) (by omega), sub_byte s (c := 91) h91 (by omega), sub_byte s (p := p + 1) (c := 93) h93 (by omega)]
        rfl
      · split at h
        · cases h
        · rename_i x q1 hx
          split at h
          · cases h
          · rename_i ys r' hm
            cases h
            have g1 := node_ge s d _ _ _ hx
            have g2 := more_ge (node_ge s d) _ _ ys _ hm
            rw [sub_join s (q := p + 1) (by omega) (by omega), sub_join s (p := p + 1) (q := q1) (by omega) (by omega), sub_byte s (c := 91) h91 (by omega), he _ _ _ hx, sub_more he _ _ ys _ hm]
            rfl
    · cases h
end

/- Dec -/
section
open Go.RowKit

theorem conv_one (w : World) (b : Int) : (convert 143 9 (.slice (some ⟨w.heap.size, 0, none⟩) 1 1)).run Tryz.prog (w.alloc (.cells #[.int .u8 b] 5)) = .ok (.string (strOfNums [b])) (w.alloc (.cells #[.int .u8 b] 5)) := by
  refine run_convert_bytes_arg (P := Tryz.prog) _ 143 5 Tryz.underlying143 Tryz.underlying5 w.heap.size 0 1 1 [b] rfl ?_ 9 Tryz.underlying9
  intro i hi
  obtain rfl : i = 0 := by omega
  exact cell_of_row _ _ 0 _ _ (0, 0) (heap_alloc_new _ _)

set_option maxHeartbeats 400000 in
theorem dec_any (n : Nat) (w : World) (hn : n ≤ 60000) :
    Calls Tryz.prog 59 #[.int .i64 (n : Int)] w fun e w' => (∃ t : ByteArray, e = .returned (.string t) ∧ t.data.toList = dec n) ∧ w.grownBy w' none := by
  go_enter Tryz.func59, Tryz.ntmps59
  go_wp2_with fail
  go_loopw [0, 3] (fun u v wr => ∃ (m : Nat) (t : ByteArray), t.size + m ≤ n ∧ u = .int .i64 m ∧ v = .string t ∧ Hid (dec n = dec m ++ t.data.toList) ∧ Hid (w.grownBy wr none)) (fun u _ _ => (intOf u).toNat)
  case atStart => exact ⟨n, ⟨#[]⟩, by simp [ByteArray.size], rfl, rfl, Lib.hid (by simp), Lib.hid (gr_refl _ _)⟩
  case round =>
    obtain ⟨m, t, hm, rfl, rfl, ht, hgr⟩ := hrel
    have hcv := conv_one wr
    by_cases h9 : 9 < m
    · have hs1 : (strOfNums [48 + (m : Int) % 10]).size = 1 := strOfNums_size _
      have HS1 := Lib.hid hs1
      clear hs1
      have hlt : (strOfNums [48 + (m : Int) % 10]).size + t.size ≤ 60001 := by rw [HS1.out]; omega
      go_wp2_with fail
      go_roundw
      case rel =>
        refine ⟨m / 10, strOfNums [48 + (m : Int) % 10] ++ t, by rw [ByteArray.size_append, HS1.out]; omega, by simp, rfl, Lib.hid ?_, Lib.hid (hgr.out.trans (World.grownBy_alloc _ _ _))⟩
        rw [ht.out, dec_high h9, ByteArray.data_append, Array.toList_append, strOfNums_data]
        have e : (48 + (m : Int) % 10).toNat = 48 + m % 10 := by omega
        simp [e]
      case measure => simp [intOf]; omega
    · have hs1 : (strOfNums [48 + (m : Int)]).size = 1 := strOfNums_size _
      have HS1 := Lib.hid hs1
      clear hs1
      have hlt : (strOfNums [48 + (m : Int)]).size + t.size ≤ 60001 := by rw [HS1.out]; omega
      go_wp2_with fail
      go_ret
      refine ⟨⟨_, rfl, ?_⟩, hgr.out.trans (World.grownBy_alloc _ _ _)⟩
      rw [ht.out, dec_low (by omega), ByteArray.data_append, Array.toList_append, strOfNums_data]
      have e : (48 + (m : Int)).toNat = 48 + m := by omega
      simp [e]
end

/- SText -/
section
open Go.RowKit

theorem All2.at_ {α β : Type} {R : α → β → Prop} : ∀ {l : List α} {m : List β} {j : Nat}, All2 R l m → j < m.length → ∃ a b, l[j]? = some a ∧ m[j]? = some b ∧ R a b
  | a :: l, b :: m, 0, ⟨h, _⟩, _ => ⟨a, b, rfl, rfl, h⟩
  | _ :: l, _ :: m, j + 1, ⟨_, h⟩, hj => by
    obtain ⟨a, b, h1, h2, h3⟩ := All2.at_ (j := j) h (by simpa using hj)
    exact ⟨a, b, by simpa using h1, by simpa using h2, h3⟩
  | [], [], _, _, hj => by simp at hj
  | [], _ :: _, _, h, _ => h.elim
  | _ :: _, [], _, h, _ => h.elim

theorem flat2_at : ∀ (l : List (Int × Value)) (j : Nat) (x : Int × Value), l[j]? = some x → (flat2 l)[j * 2]? = some (.int .i64 x.1) ∧ (flat2 l)[j * 2 + 1]? = some x.2
  | [], j, x, h => by simp at h
  | (m, sv) :: l, 0, x, h => by simp at h; subst h; exact ⟨rfl, rfl⟩
  | (m, sv) :: l, j + 1, x, h => by
    have := flat2_at l j x (by simpa using h)
    have e1 : (j + 1) * 2 = j * 2 + 1 + 1 := by omega
    rw [e1]
    exact this

/-- A model row whose slice is known: its length, and the cells of each part. -/
theorem srow {w : World} {A : Option Addr} {k c : Nat} {xs : List (Int × Value)} (h : w.ownsRow 0 50 2 (.slice A k c) xs.length (flat2 xs)) :
    k = xs.length ∧ k ≤ c ∧ (0 < k → ∃ g, A = some ⟨g, 0, none⟩ ∧ g < w.heap.size ∧ ∀ (j : Nat) (x : Int × Value), xs[j]? = some x → w.cell? ⟨g, j * 2, none⟩ = some (.int .i64 x.1) ∧ w.cell? ⟨g, j * 2 + 1, none⟩ = some x.2) := by
  rcases h.2 with ⟨hv, hn⟩ | ⟨g, cap, cur, hv, _, hg, hnc, hcm, hcs, htake⟩
  · cases hv
    exact ⟨by omega, by omega, fun h => by omega⟩
  · cases hv
    refine ⟨rfl, hnc, fun _ => ⟨g, rfl, (Array.getElem?_eq_some_iff.1 hg).1, fun j x hj => ?_⟩⟩
    have hjl : j < xs.length := by
      rcases Nat.lt_or_ge j xs.length with h | h
      · exact h
      · rw [List.getElem?_eq_none h] at hj; cases hj
    have hf := flat2_at xs j x hj
    have hc : ∀ i, i < xs.length * 2 → w.cell? ⟨g, i, none⟩ = (flat2 xs)[i]? := fun i hi => by
      rw [cell_of_row w g i _ _ (0, 0) hg, ← htake, List.getElem?_take, if_pos hi]
      simp
    exact ⟨(hc _ (by omega)).trans hf.1, (hc _ (by omega)).trans hf.2⟩

/-- How l1Text ends. -/
def TextPost (d : Nat) (t : T d) (w : World) (e : Ending) (w' : World) : Prop := (∃ s : ByteArray, e = .returned (.string s) ∧ s.data.toList = text d t) ∧ w.grownBy w' none

set_option maxHeartbeats 400000 in
theorem stext0 (t : T 0) (m : Int) (A : Option Addr) (k c : Nat) (S : Nat → Prop) (w : World) (h : SNd w S 0 t (m, .slice A k c)) :
    Calls Tryz.prog 39 #[.agg #[.int .i64 m, .slice A k c], .int .i64 0] w (TextPost 0 t w) := by
  have HD := Lib.hid (fun w => dec_any (show Nat from t) w (by have := h.2.1; omega))
  have hm : m = ((show Nat from t : Nat) : Int) := h.1
  rw [← hm] at HD
  clear hm h
  go_enter Tryz.func39, Tryz.ntmps39
  go_wp2_with fail
  refine (HD.out _).mono ?_
  rintro e w1 ⟨⟨s, rfl, hs⟩, hg⟩
  have HS := Lib.hid hs
  have HG := Lib.hid hg
  clear hs hg
  go_wp2_with fail
  go_ret
  exact ⟨⟨s, rfl, HS.out⟩, (World.grownBy_alloc _ _ _).trans HG.out⟩

set_option maxHeartbeats 1000000 in
theorem stextS (d : Nat) (n : Int) (ts : List (T d)) (m : Int) (A : Option Addr) (k c : Nat) (S : Nat → Prop) (w : World) (h : SNd w S (d + 1) ts (m, .slice A k c)) (hn1 : 1 ≤ n) (hn2 : n ≤ 1000) (hl : (lst d ts).length ≤ 1000000000)
    (ih : ∀ (t : T d) (m : Int) (A : Option Addr) (k c : Nat) (w : World), SNd w S d t (m, .slice A k c) → (text d t).length ≤ 1000000000 → Calls Tryz.prog 39 #[.agg #[.int .i64 m, .slice A k c], .int .i64 (n - 1)] w (TextPost d t w)) :
    Calls Tryz.prog 39 #[.agg #[.int .i64 m, .slice A k c], .int .i64 n] w (TextPost (d + 1) ts w) := by
  obtain ⟨xs, ho, hS, ha⟩ := h
  obtain ⟨hkx, hkc, hrow⟩ := srow ho
  have HA := Lib.hid ha
  have HROW := Lib.hid hrow
  have HI := Lib.hid ih
  have HL := Lib.hid hl
  have HKX := Lib.hid hkx
  have hlen := All2.length ts xs ha
  have hk : k ≤ 1000000000 := by have := lst_ge d ts; omega
  have HLEN := Lib.hid hlen
  clear ho hS ha hrow ih hl hkx hlen
  have e0 : (n == 0) = false := by rw [beq_eq_false_iff_ne]; omega
  go_enter Tryz.func39, Tryz.ntmps39
  go_wp2_with fail
  clear e0
  go_loopw [16, 5] (fun i u wr => ∃ (j : Nat) (s : ByteArray), j ≤ k ∧ i = .int .i64 j ∧ u = .string s ∧ Hid (s.data.toList = 91 :: lst d (ts.take j)) ∧ Hid (w.grownBy wr none)) (fun i _ _ => k - (intOf i).toNat)
  case atStart => exact ⟨0, ⟨#[91]⟩, Nat.zero_le _, rfl, rfl, Lib.hid (by simp [lst]), Lib.hid (World.grownBy_alloc _ _ _)⟩
  case round =>
    obtain ⟨j, s, hj, rfl, rfl, hs, hgr⟩ := hrel
    by_cases hlt : j < k
    · obtain ⟨g, rfl, hgw, hcells⟩ := HROW.out (by omega)
      obtain ⟨t, x, htj, hxj, hr⟩ := All2.at_ (j := j) HA.out (by have := HKX.out; omega)
      have hx := hcells j x hxj
      obtain ⟨m2, sv2⟩ := x
      obtain ⟨A2, k2, c2, hsv⟩ := hr.form
      simp only at hsv hx
      subst hsv
      have h1 := hgr.out.cell hx.1 (by simp)
      have h2 := hgr.out.cell hx.2 (by simp)
      have HX := Lib.hid hxj
      have HR := Lib.hid hr
      have HT := Lib.hid htj
      clear hx hxj hr htj hcells
      have wn : IntKind.i64.wrap (n - 1) = n - 1 := IntWalk.i64_in _ (by omega)
      have hjs : j < 1000000000 := by omega
      have hss : s.size ≤ 1000000001 := by
        have e1 := congrArg List.length hs.out
        have e2 := lst_take_le d ts j
        have e3 := HL.out
        rw [Array.length_toList] at e1
        simp only [List.length_cons] at e1
        show s.data.size ≤ _
        omega
      have htx : (text d t).length ≤ 1000000000 := by
        have e2 := lst_take_le d ts (j + 1)
        have e3 := HL.out
        rcases Nat.eq_zero_or_pos j with h0 | h0
        · subst h0
          rw [lst_step0 HT.out] at e2
          omega
        · rw [lst_stepS HT.out h0] at e2
          simp only [List.length_append, List.length_cons] at e2
          omega
      have HTX := Lib.hid htx
      clear htx
      have HK := Lib.hid (SNd.keep (w' := wr.alloc (.cells #[.int .i64 m2, .slice A2 k2 c2] 50)) (fun b _ hb => ((hgr.out.trans (World.grownBy_alloc wr _ none)).block b hb (by simp))) (fun b hb _ => hb) d t _ HR.out)
      rcases Nat.eq_zero_or_pos j with hj0 | hj0
      · subst hj0
        go_wp2_with fail
        refine (HI.out t m2 A2 k2 c2 _ HK.out HTX.out).mono ?_
        rintro e w5 ⟨⟨s5, rfl, hs5⟩, hg5⟩
        have HS5 := Lib.hid hs5
        have HG5 := Lib.hid hg5
        have hz5 : s5.size ≤ 1000000000 := by
          have e1 := congrArg List.length hs5
          rw [Array.length_toList] at e1
          have := HTX.out
          show s5.data.size ≤ _
          omega
        clear hs5 hg5
        go_wp2_with fail
        go_roundw
        case rel =>
          refine ⟨1, s ++ s5, by omega, rfl, rfl, Lib.hid ?_, Lib.hid ((hgr.out.trans (World.grownBy_alloc _ _ _)).trans HG5.out)⟩
          rw [lst_step0 HT.out, ByteArray.data_append, Array.toList_append, hs.out, HS5.out]
          simp [lst]
        case measure => simp [intOf]; omega
      · go_wp2_with fail
        refine (HI.out t m2 A2 k2 c2 _ HK.out HTX.out).mono ?_
        rintro e w5 ⟨⟨s5, rfl, hs5⟩, hg5⟩
        have HS5 := Lib.hid hs5
        have HG5 := Lib.hid hg5
        have hz5 : s5.size ≤ 1000000000 := by
          have e1 := congrArg List.length hs5
          rw [Array.length_toList] at e1
          have := HTX.out
          show s5.data.size ≤ _
          omega
        clear hs5 hg5
        go_wp2_with fail
        go_roundw
        case rel =>
          refine ⟨j + 1, _, by omega, by go_num, rfl, Lib.hid ?_, Lib.hid ((hgr.out.trans (World.grownBy_alloc _ _ _)).trans HG5.out)⟩
          rw [lst_stepS HT.out hj0]
          simp [ByteArray.data_append, hs.out, HS5.out]
        case measure => simp [intOf]; omega
    · have hjk : j = k := by omega
      have hss : s.size ≤ 1000000001 := by
        have e1 := congrArg List.length hs.out
        have e2 := lst_take_le d ts j
        have e3 := HL.out
        rw [Array.length_toList] at e1
        simp only [List.length_cons] at e1
        show s.data.size ≤ _
        omega
      have HJ := Lib.hid hjk
      clear hjk
      go_wp2_with fail
      go_ret
      refine ⟨⟨_, rfl, ?_⟩, hgr.out⟩
      have e : ts.take j = ts := List.take_of_length_le (by have h1 := HJ.out; have h2 := HKX.out; have h3 := HLEN.out; omega)
      have h1 := hs.out
      rw [e] at h1
      rw [text_succ]
      simp [ByteArray.data_append, h1]

theorem stext_any (S : Nat → Prop) : ∀ (d : Nat) (n : Int) (t : T d) (m : Int) (A : Option Addr) (k c : Nat) (w : World), n = d → d ≤ 1000 → SNd w S d t (m, .slice A k c) → (text d t).length ≤ 1000000000 →
    Calls Tryz.prog 39 #[.agg #[.int .i64 m, .slice A k c], .int .i64 n] w (TextPost d t w)
  | 0, n, t, m, A, k, c, w, hn, _, h, _ => by obtain rfl : n = 0 := hn; exact stext0 t m A k c S w h
  | d + 1, n, t, m, A, k, c, w, hn, hd, h, ht => by
    have e : text (d + 1) t = 91 :: (lst d t ++ [93]) := text_succ d t
    rw [e] at ht
    exact stextS d n t m A k c S w h (by omega) (by omega) (by simp at ht; omega) (fun t m A k c w h ht => stext_any S d (n - 1) t m A k c w (by omega) (by omega) h ht)
end

/- Loop -/
section
open Go.RowKit

/-- How readParts ends. -/
def PartsPost (s : ByteArray) (d p g : Nat) (w : World) (e : Ending) (w' : World) : Prop :=
  w.grownBy w' (some g) ∧ ((∃ ts q sv xs, parts s (node s d) p = some (ts, q) ∧ e = .returned sv ∧ Rdr w' g s q ∧
    w'.ownsRow w.heap.size (elT d) 1 sv xs.length xs ∧ All2 (Nd w' (fun b => w.heap.size ≤ b) d) ts xs) ∨ (parts s (node s d) p = none ∧ Fell e))

/-- How a part's reading ends. -/
def ElPost (s : ByteArray) (d p g : Nat) (w : World) (e : Ending) (w' : World) : Prop :=
  w.grownBy w' (some g) ∧ ((∃ t q v, node s d p = some (t, q) ∧ e = .returned v ∧ Rdr w' g s q ∧ Nd w' (fun b => w.heap.size ≤ b) d t v) ∨ (node s d p = none ∧ Fell e))

def cons' {α : Type} (ts : List α) : Option (List α × Nat) → Option (List α × Nat)
  | none => none
  | some (xs, r) => some (ts ++ xs, r)

/-- The place of the reader, out of the world: a loop's measure. -/
def plc (w : World) (g : Nat) : Nat := match w.cell? ⟨g, 1, none⟩ with
  | some v => (intOf v).toNat
  | none => 0
theorem plc_eq {w : World} {g p : Nat} {s : ByteArray} (h : Rdr w g s p) : plc w g = p := by
  unfold plc; rw [h.c1]; simp [intOf]
theorem plc_drewN (w : World) (g n : Nat) : plc (w.drewN n) g = plc w g := rfl

/-- What holds at the head of each round. -/
structure Lf (s : ByteArray) (d g : Nat) (w wr : World) (sv : Value) (ts : List (T d)) (xs : List Value) (q : Nat) : Prop where
  le : q ≤ s.size
  rdr : Rdr wr g s q
  gr : w.grownBy wr (some g)
  own : wr.ownsRow w.heap.size (elT d) 1 sv xs.length xs
  len : xs.length ≤ q
  all : All2 (Nd wr (fun b => w.heap.size ≤ b ∧ sv.ownBlock ≠ some b) d) ts xs

structure Lp (s : ByteArray) (d p g : Nat) (w wr : World) (sv : Value) (ts : List (T d)) (xs : List Value) (f q : Nat) : Prop where
  fuel : s.size < f + q
  com : parts s (node s d) p = cons' ts (more s (node s d) f q)
  lf : Lf s d g w wr sv ts xs q

section
variable {s : ByteArray} {d p g : Nat} {w wr : World} {sv : Value} {ts : List (T d)} {xs : List Value} {f q : Nat}

theorem Lp.pos (h : Lp s d p g w wr sv ts xs f q) : ∃ f', f = f' + 1 := by
  have := h.fuel; have := h.lf.le
  exact ⟨f - 1, by omega⟩

theorem Lp.exit (h : Lp s d p g w wr sv ts xs f q) (hc : ba s q = 93) : parts s (node s d) p = some (ts, q + 1) := by
  obtain ⟨f', rfl⟩ := h.pos
  rw [h.com, more, if_pos hc]
  simp [cons']
theorem Lp.stop1 (h : Lp s d p g w wr sv ts xs f q) (hc : ba s q ≠ 93) (h2 : ba s q ≠ 44) : parts s (node s d) p = none := by
  obtain ⟨f', rfl⟩ := h.pos
  rw [h.com, more, if_neg hc, if_neg h2]
  rfl
theorem Lp.stop2 (h : Lp s d p g w wr sv ts xs f q) (hc : ba s q ≠ 93) (h2 : ba s q = 44) (h3 : node s d (q + 1) = none) : parts s (node s d) p = none := by
  obtain ⟨f', rfl⟩ := h.pos
  rw [h.com, more, if_neg hc, if_pos h2, h3]
  rfl
theorem Lp.next (h : Lp s d p g w wr sv ts xs f q) (hc : ba s q ≠ 93) (h2 : ba s q = 44) {t : T d} {q2 : Nat} (h3 : node s d (q + 1) = some (t, q2)) :
    ∃ f', s.size < f' + q2 ∧ q2 ≤ s.size ∧ q + 1 < q2 ∧ parts s (node s d) p = cons' (ts ++ [t]) (more s (node s d) f' q2) := by
  obtain ⟨f', rfl⟩ := h.pos
  have hg := node_ge s d _ _ _ h3
  have := h.fuel
  refine ⟨f', by omega, hg.2, hg.1, ?_⟩
  rw [h.com, more, if_neg hc, if_pos h2, h3]
  simp only
  cases hm : more s (node s d) f' q2 with
  | none => rfl
  | some r => simp [cons']

/-- A part more: the element was read (world we), laid in a box of its own, and appended (world w2). -/
theorem Lf.step (h : Lf s d g w wr sv ts xs q) {t : T d} {v : Value} {we w2 : World} {q2 : Nat} {sv2 : Value} {o : Obj}
    (hq : q < q2) (hle : q2 ≤ s.size)
    (hge : wr.grownBy we (some g)) (hrd : Rdr we g s q2) (hnd : Nd we (fun b => wr.heap.size ≤ b) d t v)
    (hown : w2.ownsRow w.heap.size (elT d) 1 sv2 (xs.length + 1) (xs ++ [v])) (hg2 : (we.alloc o).grownBy w2 sv.ownBlock)
    (hat : sv2.ownBlock = sv.ownBlock ∨ sv2.ownBlock = some (we.heap.size + 1)) (hgw : g < w.heap.size) :
    Lf s d g w w2 sv2 (ts ++ [t]) (xs ++ [v]) q2 := by
  have hsz : (we.alloc o).heap.size = we.heap.size + 1 := by simp
  have hsw := h.gr.size
  have hse := hge.size
  have hlt := h.own.lt
  have hga : we.grownBy (we.alloc o) (some g) := World.grownBy_alloc _ _ _
  have hsv : ∀ k, sv.ownBlock = some k → w.heap.size ≤ k ∧ k < wr.heap.size := hlt
  refine ⟨hle, ?_, ?_, ?_, ?_, ?_⟩
  · refine (hrd.alloc o).grown hg2 ?_
    intro e
    have := hsv g e.symm
    omega
  · have h1 := h.gr.trans (hge.trans hga)
    refine ⟨hg2.os.trans h1.os, hg2.tape.trans h1.tape, hg2.output.trans h1.output, Nat.le_trans h1.size hg2.size, fun k hk hne => ?_⟩
    exact (hg2.block k (Nat.lt_of_lt_of_le hk h1.size) (fun e => by have := hsv k e.symm; omega)).trans (h1.block k hk hne)
  · simpa using hown
  · simp; have := h.len; omega
  · have hkeep : ∀ b, (w.heap.size ≤ b ∧ sv.ownBlock ≠ some b) → b < wr.heap.size → w2.heap[b]? = wr.heap[b]? := by
      rintro b ⟨hb1, hb2⟩ hb
      rw [hg2.block b (by omega) (fun e => hb2 e.symm), hga.block b (by omega) (by simp; omega), hge.block b hb (by simp; omega)]
    have hne : ∀ b, w.heap.size ≤ b → sv.ownBlock ≠ some b → b < we.heap.size → sv2.ownBlock ≠ some b := by
      intro b hb hb2 hb3 e
      rcases hat with e2 | e2
      · exact hb2 (e2 ▸ e)
      · rw [e2] at e
        simp only [Option.some.injEq] at e
        omega
    refine All2.snoc ?_ ts xs ?_
    · refine Nd.keep ?_ ?_ d t v hnd
      · intro b hb hb2
        rw [hg2.block b (by omega) (fun e => by have := hsv b e.symm; omega), hga.block b (by omega) (by simp; omega)]
      · intro b hb hb2
        exact ⟨by omega, hne b (by omega) (fun e => by have := hsv b e; omega) hb2⟩
    · exact All2.mono (Nd.keep hkeep (fun b hb hb2 => ⟨hb.1, hne b hb.1 hb.2 (by omega)⟩) d) ts xs h.all

theorem Lf.drewN (h : Lf s d g w wr sv ts xs q) (n : Nat) : Lf s d g w (wr.drewN n) sv ts xs q :=
  ⟨h.le, h.rdr.drewN n, h.gr.trans (gr_drewN _ _ _), own_keep h.own (fun _ _ => rfl), h.len, All2.mono (Nd.keep (w := wr) (w' := wr.drewN n) (fun _ _ _ => rfl) (fun _ hb _ => hb) d) ts xs h.all⟩
/-- The reader alone has gone on. -/
theorem Lf.reader (h : Lf s d g w wr sv ts xs q) {w2 : World} {q2 : Nat} (hg : wr.grownBy w2 (some g)) (hr : Rdr w2 g s q2) (hq : q ≤ q2) (hle : q2 ≤ s.size) (hgw : g < w.heap.size) : Lf s d g w w2 sv ts xs q2 := by
  have hb : ∀ b, w.heap.size ≤ b → b < wr.heap.size → w2.heap[b]? = wr.heap[b]? := fun b hb hb2 => hg.block b hb2 (by simp; omega)
  have hl := h.own.lt
  exact ⟨hle, hr, h.gr.trans hg, own_keep h.own (fun k hk => hb k (hl k hk).1 (hl k hk).2), by have := h.len; omega,
    All2.mono (Nd.keep (fun b hb1 hb2 => hb b hb1.1 hb2) (fun _ hb _ => hb) d) ts xs h.all⟩
/-- The row with its parts, when all are read. -/
theorem Lf.done (h : Lf s d g w wr sv ts xs q) : wr.ownsRow w.heap.size (elT d) 1 sv xs.length xs ∧ All2 (Nd wr (fun b => w.heap.size ≤ b) d) ts xs :=
  ⟨h.own, All2.mono (Nd.keep (fun _ _ _ => rfl) (fun _ hb _ => hb.1) d) ts xs h.all⟩
theorem Lf.start {w wa : World} (hr : Rdr wa g s q) (hg : w.grownBy wa (some g)) (hq : q ≤ s.size) : Lf s d g w wa (.slice none 0 0) [] [] q :=
  ⟨hq, hr, hg, World.ownsRow_nil _ _ _ _, Nat.zero_le _, trivial⟩
end
end

/- SLoop -/
section
open Go.RowKit

/-- What holds of the memory while node gathers parts. -/
structure SLf (s : ByteArray) (g : Nat) (w wr : World) (sv : Value) (xs : List (Int × Value)) (q : Nat) (bad : Bool) : Prop where
  rdr : SRdr wr g s q bad
  gr : w.grownBy wr (some g)
  size : w.heap.size + 3 ≤ wr.heap.size
  res : Two wr w.heap.size (.int .i64 0) (.slice none 0 0)
  out : Two wr (w.heap.size + 1 + 1) (.int .i64 0) sv
  own : wr.ownsRow w.heap.size 50 2 sv xs.length (flat2 xs)
  ne0 : sv.ownBlock ≠ some w.heap.size
  ne2 : sv.ownBlock ≠ some (w.heap.size + 1 + 1)

/-- Nothing is wrong so far. -/
structure SLg (s : ByteArray) (d p g : Nat) (w wr : World) (sv : Value) (ts : List (T d)) (xs : List (Int × Value)) (f q : Nat) : Prop where
  lf : SLf s g w wr sv xs q false
  le : q ≤ s.size
  fuel : s.size < f + q
  com : parts s (node s d) p = cons' ts (more s (node s d) f q)
  len : xs.length ≤ q
  all : All2 (SNd wr (fun b => w.heap.size + 3 ≤ b ∧ sv.ownBlock ≠ some b) d) ts xs

def SLoop (s : ByteArray) (d p g : Nat) (w wr : World) (sv : Value) (xs : List (Int × Value)) (q : Nat) (bad : Bool) : Prop :=
  SLf s g w wr sv xs q bad ∧ ((bad = false ∧ ∃ ts f, SLg s d p g w wr sv ts xs f q) ∨ (bad = true ∧ parts s (node s d) p = none))

/-- A loop's measure, out of the world. -/
def mS (N : Nat) (w : World) (g : Nat) : Nat := match w.cell? ⟨g, 2, none⟩ with
  | some (.bool true) => 0
  | _ => N + 1 - plcS w g
theorem mS_bad {N : Nat} {w : World} {g p : Nat} {s : ByteArray} (h : SRdr w g s p true) : mS N w g = 0 := by unfold mS; rw [h.c2]
theorem mS_good {N : Nat} {w : World} {g p : Nat} {s : ByteArray} (h : SRdr w g s p false) : mS N w g = N + 1 - p := by unfold mS; rw [h.c2, plc_eqS h]

section
variable {s : ByteArray} {d p g : Nat} {w wr : World} {sv : Value} {ts : List (T d)} {xs : List (Int × Value)} {f q : Nat} {bad : Bool}

theorem SLf.drewN (h : SLf s g w wr sv xs q bad) (n : Nat) : SLf s g w (wr.drewN n) sv xs q bad :=
  ⟨h.rdr.drewN n, h.gr.trans (gr_drewN _ _ _), h.size, h.res.drewN n, h.out.drewN n, own_keep h.own (fun _ _ => rfl), h.ne0, h.ne2⟩
/-- The reader alone has gone on. -/
theorem SLf.reader (h : SLf s g w wr sv xs q bad) {w2 : World} {q2 : Nat} {b2 : Bool} (hg : wr.grownBy w2 (some g)) (hr : SRdr w2 g s q2 b2) (hgw : g < w.heap.size) : SLf s g w w2 sv xs q2 b2 := by
  have hb : ∀ b, w.heap.size ≤ b → b < wr.heap.size → w2.heap[b]? = wr.heap[b]? := fun b hb hb2 => hg.block b hb2 (by simp; omega)
  have hl := h.own.lt
  have hsz := hg.size
  have := h.size
  exact ⟨hr, h.gr.trans hg, by omega, h.res.grown hg (by simp; omega), h.out.grown hg (by simp; omega), own_keep h.own (fun k hk => hb k (hl k hk).1 (hl k hk).2), h.ne0, h.ne2⟩

/-- A part more: the element was read (world we), laid in a box, appended (world w2), and the variable written. -/
theorem SLf.step (h : SLf s g w wr sv xs q false) {m : Int} {v : Value} {we w2 : World} {q2 : Nat} {b2 : Bool} {gg cap : Nat} {o : Obj}
    (hge : wr.grownBy we (some g)) (hrd : SRdr we g s q2 b2)
    (hown : w2.ownsRow w.heap.size 50 2 (.slice (some ⟨gg, 0, none⟩) (xs.length + 1) cap) (xs.length + 1) (flat2 xs ++ [.int .i64 m, v])) (hg2 : (we.alloc o).grownBy w2 sv.ownBlock)
    (hat : sv.ownBlock = some gg ∨ gg = we.heap.size + 1) (hgw : g < w.heap.size) :
    SLf s g w (w2.setCell ⟨w.heap.size + 1 + 1, 1, none⟩ (.slice (some ⟨gg, 0, none⟩) (xs.length + 1) cap)) (.slice (some ⟨gg, 0, none⟩) (xs.length + 1) cap) (xs ++ [(m, v)]) q2 b2 := by
  have hsz : (we.alloc o).heap.size = we.heap.size + 1 := by simp
  have hsw := h.gr.size
  have hse := hge.size
  have hs2 := hg2.size
  have hs3 := h.size
  have hlt := h.own.lt
  have hga : we.grownBy (we.alloc o) (some g) := World.grownBy_alloc _ _ _
  have hgg : gg ≠ w.heap.size ∧ gg ≠ w.heap.size + 1 + 1 ∧ w.heap.size ≤ gg := by
    rcases hat with e | e
    · exact ⟨fun e2 => h.ne0 (by rw [e, e2]), fun e2 => h.ne2 (by rw [e, e2]), (hlt gg e).1⟩
    · exact ⟨by omega, by omega, by omega⟩
  have h1 := h.gr.trans (hge.trans hga)
  have hg3 : w.grownBy w2 (some g) := ⟨hg2.os.trans h1.os, hg2.tape.trans h1.tape, hg2.output.trans h1.output, Nat.le_trans h1.size hg2.size, fun k hk hne =>
    (hg2.block k (Nat.lt_of_lt_of_le hk h1.size) (fun e => by have := (hlt k e.symm).1; omega)).trans (h1.block k hk hne)⟩
  refine ⟨?_, gr_set_row hg3 (by omega) _, by have := (gr_set w2 (w.heap.size + 1 + 1) 1 (.slice (some ⟨gg, 0, none⟩) (xs.length + 1) cap)).size; omega, ?_, ?_, ?_, ?_, ?_⟩
  · exact ((hrd.alloc o).grown hg2 (fun e => by have := (hlt g e.symm).1; omega)).far (by omega) _
  · exact (((h.res.grown hge (by simp; omega)).alloc o).grown hg2 (fun e => h.ne0 e.symm)).far (by omega) _
  · exact (((h.out.grown hge (by simp; omega)).alloc o).grown hg2 (fun e => h.ne2 e.symm)).set1 _
  · rw [flat2_snoc, List.length_append]
    exact own_keep hown (fun k hk => Below.heap_setCell _ _ _ _ (by simp [Value.ownBlock] at hk; subst hk; exact hgg.2.1))
  · simpa [Value.ownBlock] using hgg.1
  · simpa [Value.ownBlock] using hgg.2.1

theorem SLf.step_all (h : SLf s g w wr sv xs q false) (hall : All2 (SNd wr (fun b => w.heap.size + 3 ≤ b ∧ sv.ownBlock ≠ some b) d) ts xs) {m : Int} {v : Value} {t : T d} {we w2 : World} {gg cap : Nat} {o : Obj}
    (hge : wr.grownBy we (some g)) (hnd : SNd we (fun b => wr.heap.size ≤ b) d t (m, v)) (hg2 : (we.alloc o).grownBy w2 sv.ownBlock)
    (hat : sv.ownBlock = some gg ∨ gg = we.heap.size + 1) (hgw : g < w.heap.size) :
    All2 (SNd (w2.setCell ⟨w.heap.size + 1 + 1, 1, none⟩ (.slice (some ⟨gg, 0, none⟩) (xs.length + 1) cap)) (fun b => w.heap.size + 3 ≤ b ∧ (Value.slice (some ⟨gg, 0, none⟩) (xs.length + 1) cap).ownBlock ≠ some b) d) (ts ++ [t]) (xs ++ [(m, v)]) := by
  have hsz : (we.alloc o).heap.size = we.heap.size + 1 := by simp
  have hsw := h.gr.size
  have hse := hge.size
  have hs3 := h.size
  have hlt := h.own.lt
  have hga : we.grownBy (we.alloc o) (some g) := World.grownBy_alloc _ _ _
  have hne : ∀ b, sv.ownBlock ≠ some b → b < we.heap.size → (Value.slice (some ⟨gg, 0, none⟩) (xs.length + 1) cap).ownBlock ≠ some b := by
    intro b hb hb2 e
    simp only [Value.ownBlock, Option.some.injEq] at e
    rcases hat with e2 | e2
    · exact hb (e2.trans (by rw [e]))
    · omega
  have hset : ∀ b, w.heap.size + 3 ≤ b → (w2.setCell ⟨w.heap.size + 1 + 1, 1, none⟩ (.slice (some ⟨gg, 0, none⟩) (xs.length + 1) cap)).heap[b]? = w2.heap[b]? := fun b hb => Below.heap_setCell _ _ _ _ (by show b ≠ w.heap.size + 1 + 1; omega)
  refine All2.snoc ?_ ts xs ?_
  · refine SNd.keep ?_ ?_ d t (m, v) hnd
    · intro b hb hb2
      rw [hset b (by omega), hg2.block b (by omega) (fun e => by have := (hlt b e.symm).2; omega), hga.block b (by omega) (by simp; omega)]
    · intro b hb hb2
      exact ⟨by omega, hne b (fun e => by have := (hlt b e).2; omega) hb2⟩
  · refine All2.mono (SNd.keep ?_ ?_ d) ts xs hall
    · rintro b ⟨hb1, hb2⟩ hb
      rw [hset b hb1, hg2.block b (by omega) (fun e => hb2 e.symm), hga.block b (by omega) (by simp; omega), hge.block b hb (by simp; omega)]
    · rintro b ⟨hb1, hb2⟩ hb
      exact ⟨hb1, hne b hb2 (by omega)⟩

/-- Behind a part that was read and appended: the next head, good or bad. com: what the parts come to if the part is there; bad: if not. -/
theorem sloop_step (h : SLf s g w wr sv xs q false) (hall : All2 (SNd wr (fun b => w.heap.size + 3 ≤ b ∧ sv.ownBlock ≠ some b) d) ts xs) {pe : Nat} {m : Int} {v : Value} {we w2 : World} {gg cap : Nat} {o : Obj}
    (hlen : xs.length < pe)
    (hgood : ∀ t q2, node s d pe = some (t, q2) → ∃ f', s.size < f' + q2 ∧ parts s (node s d) p = cons' (ts ++ [t]) (more s (node s d) f' q2)) (hbad : node s d pe = none → parts s (node s d) p = none)
    (hge : wr.grownBy we (some g)) (hcase : (∃ t q2, node s d pe = some (t, q2) ∧ SRdr we g s q2 false ∧ SNd we (fun b => wr.heap.size ≤ b) d t (m, v)) ∨ (node s d pe = none ∧ ∃ q2, SRdr we g s q2 true))
    (hown : w2.ownsRow w.heap.size 50 2 (.slice (some ⟨gg, 0, none⟩) (xs.length + 1) cap) (xs.length + 1) (flat2 xs ++ [.int .i64 m, v])) (hg2 : (we.alloc o).grownBy w2 sv.ownBlock)
    (hat : sv.ownBlock = some gg ∨ gg = we.heap.size + 1) (hgw : g < w.heap.size) :
    ∃ q2 b2, SLoop s d p g w (w2.setCell ⟨w.heap.size + 1 + 1, 1, none⟩ (.slice (some ⟨gg, 0, none⟩) (xs.length + 1) cap)) (.slice (some ⟨gg, 0, none⟩) (xs.length + 1) cap) (xs ++ [(m, v)]) q2 b2 ∧ (b2 = false → pe < q2 ∧ q2 ≤ s.size) := by
  rcases hcase with ⟨t, q2, hn, hr, hnd⟩ | ⟨hn, q2, hr⟩
  · obtain ⟨f', hf, hcom⟩ := hgood t q2 hn
    have hq := node_ge s d _ _ _ hn
    have hl := h.step hge hr hown hg2 hat hgw
    exact ⟨q2, false, ⟨hl, .inl ⟨rfl, ts ++ [t], f', ⟨hl, hq.2, hf, hcom, by rw [List.length_append]; simp; omega, h.step_all hall hge hnd hg2 hat hgw⟩⟩⟩, fun _ => hq⟩
  · exact ⟨q2, true, ⟨h.step hge hr hown hg2 hat hgw, .inr ⟨rfl, hbad hn⟩⟩, fun e => by cases e⟩
theorem SLf.laid (h : SLf s g w wr sv xs q bad) {w2 : World} {q2 : Nat} {b2 : Bool} (hg : wr.grownBy w2 (some g)) (hr : SRdr w2 g s q2 b2) (hgw : g < w.heap.size) :
    w.grownBy (laidOut' w w2 sv) (some g) ∧ SRdr (laidOut' w w2 sv) g s q2 b2 :=
  ⟨gr_set_row (gr_set_row (h.gr.trans hg) (Nat.le_refl _) _) (Nat.le_refl _) _, (hr.far (by omega) _).far (by omega) _⟩
theorem SLf.end_bad (h : SLf s g w wr sv xs q bad) (hn : parts s (node s d) p = none) {w2 : World} {q2 : Nat} (hg : wr.grownBy w2 (some g)) (hr : SRdr w2 g s q2 true) (hgw : g < w.heap.size) :
    SArrPost s (d + 1) p g w (.returned (.agg #[.int .i64 0, sv])) (laidOut' w w2 sv) := by
  obtain ⟨h1, h2⟩ := h.laid hg hr hgw
  exact ⟨h1, 0, sv, rfl, own_form h.own, .inr ⟨hn, q2, h2⟩⟩
theorem SLg.end_good (h : SLg s d p g w wr sv ts xs f q) (hc : ba s q = 93) {w2 : World} (hg : wr.grownBy w2 (some g)) (hr : SRdr w2 g s (q + 1) false) (hgw : g < w.heap.size) :
    SArrPost s (d + 1) p g w (.returned (.agg #[.int .i64 0, sv])) (laidOut' w w2 sv) := by
  obtain ⟨h1, h2⟩ := h.lf.laid hg hr hgw
  have hcom : parts s (node s d) p = some (ts, q + 1) := by
    obtain ⟨f', rfl⟩ : ∃ f', f = f' + 1 := ⟨f - 1, by have := h.fuel; have := h.le; omega⟩
    rw [h.com, more, if_pos hc]
    simp [cons']
  have hl := h.lf.own.lt
  have hsz := hg.size
  have hkeep : ∀ b, w.heap.size < b → b < wr.heap.size → (laidOut' w w2 sv).heap[b]? = wr.heap[b]? := fun b hb hb2 =>
    (laid_heap w w2 sv b (by omega)).trans (hg.block b hb2 (by simp; omega))
  have hrow : ∀ k, sv.ownBlock = some k → w.heap.size < k := fun k hk => by
    have := (hl k hk).1
    have : k ≠ w.heap.size := fun e => h.lf.ne0 (by rw [hk, e])
    omega
  refine ⟨h1, 0, sv, rfl, own_form h.lf.own, .inl ⟨ts, q + 1, hcom, h2, xs, own_base (own_keep h.lf.own (fun k hk => hkeep k (hrow k hk) (hl k hk).2)) (Nat.zero_le _), fun k hk => (hl k hk).1, ?_⟩⟩
  exact All2.mono (SNd.keep (fun b hb hb2 => hkeep b (by omega) hb2) (fun b hb _ => by omega) d) ts xs h.all
theorem SLg.stop (h : SLg s d p g w wr sv ts xs f q) (hc : ba s q ≠ 93) (h2 : ba s q ≠ 44) : parts s (node s d) p = none := by
  obtain ⟨f', rfl⟩ : ∃ f', f = f' + 1 := ⟨f - 1, by have := h.fuel; have := h.le; omega⟩
  rw [h.com, more, if_neg hc, if_neg h2]
  rfl
theorem SLg.goes (h : SLg s d p g w wr sv ts xs f q) (h2 : ba s q = 44) :
    (∀ t q2, node s d (q + 1) = some (t, q2) → ∃ f', s.size < f' + q2 ∧ parts s (node s d) p = cons' (ts ++ [t]) (more s (node s d) f' q2)) ∧ (node s d (q + 1) = none → parts s (node s d) p = none) := by
  obtain ⟨f', rfl⟩ : ∃ f', f = f' + 1 := ⟨f - 1, by have := h.fuel; have := h.le; omega⟩
  constructor
  · intro t q2 hn
    have hg := node_ge s d _ _ _ hn
    have := h.fuel
    refine ⟨f', by omega, ?_⟩
    rw [h.com, more, if_neg (by omega), if_pos h2, hn]
    simp only
    cases hm : more s (node s d) f' q2 with
    | none => rfl
    | some r => simp [cons']
  · intro hn
    rw [h.com, more, if_neg (by omega), if_pos h2, hn]
    rfl
end
end

/- Parts0 -/
section
open Go.RowKit

theorem el0 {s : ByteArray} {p g : Nat} {w w' : World} {e : Ending} (h : NumPost s p g w e w') : ElPost s 0 p g w e w' := by
  obtain ⟨hg, ⟨v, q, hn, he, hr⟩ | ⟨hn, he⟩⟩ := h
  · exact ⟨hg, .inl ⟨v, q, _, hn, he, hr, rfl⟩⟩
  · exact ⟨hg, .inr ⟨hn, he⟩⟩

theorem parts_fell {s : ByteArray} {d p g : Nat} {w w' : World} {e : Ending} (hn : parts s (node s d) p = none) (hg : w.grownBy w' (some g)) (he : Fell e) : PartsPost s d p g w e w' := ⟨hg, .inr ⟨hn, he⟩⟩
theorem parts_ok {s : ByteArray} {d p g q : Nat} {w w' : World} {e : Ending} {ts : List (T d)} {xs : List Value} {sv : Value} (hn : parts s (node s d) p = some (ts, q)) (hg : w.grownBy w' (some g)) (he : e = .returned sv) (hr : Rdr w' g s q)
    (ho : w'.ownsRow w.heap.size (elT d) 1 sv xs.length xs) (ha : All2 (Nd w' (fun b => w.heap.size ≤ b) d) ts xs) : PartsPost s d p g w e w' := ⟨hg, .inl ⟨ts, q, sv, xs, hn, he, hr, ho, ha⟩⟩
theorem parts_n1 {s : ByteArray} {d p : Nat} (h : ba s p ≠ 91) : parts s (node s d) p = none := by rw [parts, if_neg h]
theorem parts_e {s : ByteArray} {d p : Nat} (h : ba s p = 91) (h2 : ba s (p + 1) = 93) : parts s (node s d) p = some ([], p + 2) := by rw [parts, if_pos h, if_pos h2]
theorem parts_n2 {s : ByteArray} {d p : Nat} (h : ba s p = 91) (h2 : ba s (p + 1) ≠ 93) (h3 : node s d (p + 1) = none) : parts s (node s d) p = none := by rw [parts, if_pos h, if_neg h2, h3]
theorem parts_s {s : ByteArray} {d p q : Nat} {t : T d} (h : ba s p = 91) (h2 : ba s (p + 1) ≠ 93) (h3 : node s d (p + 1) = some (t, q)) : parts s (node s d) p = cons' ([] ++ [t]) (more s (node s d) (s.size + 1) q) := by
  rw [parts, if_pos h, if_neg h2, h3]
  simp only
  cases more s (node s d) (s.size + 1) q with
  | none => rfl
  | some r => simp [cons']

theorem info0 : (Tryz.prog.info? 119).map (fun i => (i.zero, i.size, i.bytes)) = some (some (.int .i64 0), 1, 8) := by kernel_rfl

set_option maxHeartbeats 400000 in
theorem parts0_n1 (g p : Nat) (s : ByteArray) (w : World) (h : Rdr w g s p) (hc : ba s p ≠ 91) :
    Calls Tryz.prog 87 #[.pointer (some ⟨g, 0, none⟩), .func (.func 86) #[.pointer (some ⟨g, 0, none⟩)] #[]] w (PartsPost s 0 p g w) := by
  have H := Lib.hid (take_no g p s 91 w h hc)
  have HN := Lib.hid (parts_n1 (d := 0) hc)
  clear hc h
  go_enter Tryz.func87, Tryz.ntmps87
  go_wp2_with fail
  refine H.out.mono ?_
  rintro e w1 ⟨⟨b, rfl⟩, hg1⟩
  exact ⟨rfl, parts_fell HN.out hg1 ⟨_, rfl⟩⟩

set_option maxHeartbeats 400000 in
theorem parts0_e (g p : Nat) (s : ByteArray) (w : World) (h : Rdr w g s p) (hc : ba s p = 91) (hc2 : ba s (p + 1) = 93) (hs : s.size ≤ 400) :
    Calls Tryz.prog 87 #[.pointer (some ⟨g, 0, none⟩), .func (.func 86) #[.pointer (some ⟨g, 0, none⟩)] #[]] w (PartsPost s 0 p g w) := by
  have H := Lib.hid (take_yes g p s 91 w h (by omega) hc hs)
  have HN := Lib.hid (parts_e (d := 0) hc hc2)
  have HC := Lib.hid hc2
  clear hc hc2 h
  go_enter Tryz.func87, Tryz.ntmps87
  go_wp2_with fail
  refine H.out.mono ?_
  rintro e w1 ⟨rfl, hr1, hg1⟩
  have HR1 := Lib.hid hr1
  have HG1 := Lib.hid hg1
  clear hr1 hg1
  go_wp2_with fail
  refine (sees_yes g (p + 1) s 93 w1 HR1.out (by omega) HC.out).mono ?_
  rintro e w2 ⟨rfl, n, rfl⟩
  go_wp2_with fail
  refine wp_loop_rounds 1 ?_
  rw [rounds_succ]
  go_wp2_with fail
  refine (sees_yes g (p + 1) s 93 _ (HR1.out.drewN n) (by omega) HC.out).mono ?_
  rintro e w3 ⟨rfl, n2, rfl⟩
  go_wp2_with fail
  refine (take_yes g (p + 1) s 93 _ (HR1.out.drewN _) (by omega) HC.out hs).mono ?_
  rintro e w4 ⟨rfl, hr4, hg4⟩
  have HR4 := Lib.hid hr4
  have HG4 := Lib.hid hg4
  clear hr4 hg4
  go_wp2_with fail
  go_ret
  refine parts_ok HN.out (HG1.out.trans ((gr_drewN w1 _ _).trans HG4.out)) rfl HR4.out (World.ownsRow_nil _ _ _ _) trivial

set_option maxHeartbeats 400000 in
theorem parts0_n2 (g p : Nat) (s : ByteArray) (w : World) (h : Rdr w g s p) (hc : ba s p = 91) (hc2 : ba s (p + 1) ≠ 93) (h3 : node s 0 (p + 1) = none) (hs : s.size ≤ 400) :
    Calls Tryz.prog 87 #[.pointer (some ⟨g, 0, none⟩), .func (.func 86) #[.pointer (some ⟨g, 0, none⟩)] #[]] w (PartsPost s 0 p g w) := by
  have H := Lib.hid (take_yes g p s 91 w h (by omega) hc hs)
  have HN := Lib.hid (parts_n2 (d := 0) hc hc2 h3)
  have HC := Lib.hid hc2
  have H3 := Lib.hid h3
  clear hc hc2 h h3
  go_enter Tryz.func87, Tryz.ntmps87
  go_wp2_with fail
  refine H.out.mono ?_
  rintro e w1 ⟨rfl, hr1, hg1⟩
  have HR1 := Lib.hid hr1
  have HG1 := Lib.hid hg1
  clear hr1 hg1
  go_wp2_with fail
  refine (sees_no g (p + 1) s 93 w1 HR1.out HC.out).mono ?_
  rintro e w2 ⟨rfl, n, rfl⟩
  go_wp2_with fail
  refine (number_any g (p + 1) s _ (HR1.out.drewN n) hs).mono ?_
  intro e w3 hp
  obtain ⟨hg3, ⟨t, q, v, hn, he, hr, hnd⟩ | ⟨hn, b, rfl⟩⟩ := el0 hp
  · rw [H3.out] at hn; cases hn
  · have HG3 := Lib.hid hg3
    clear hg3 hp
    exact ⟨rfl, parts_fell HN.out (HG1.out.trans ((gr_drewN w1 _ _).trans HG3.out)) ⟨_, rfl⟩⟩

set_option maxHeartbeats 1000000 in
theorem parts0_s (g p : Nat) (s : ByteArray) (w : World) (h : Rdr w g s p) (hc : ba s p = 91) (hc2 : ba s (p + 1) ≠ 93) (t : T 0) (q : Nat) (h3 : node s 0 (p + 1) = some (t, q)) (hs : s.size ≤ 400) :
    Calls Tryz.prog 87 #[.pointer (some ⟨g, 0, none⟩), .func (.func 86) #[.pointer (some ⟨g, 0, none⟩)] #[]] w (PartsPost s 0 p g w) := by
  have H := Lib.hid (take_yes g p s 91 w h (by omega) hc hs)
  have HN := Lib.hid (parts_s (d := 0) hc hc2 h3)
  have HC := Lib.hid hc2
  have H3 := Lib.hid h3
  have hgw := h.lt
  have hq := node_ge s 0 _ _ _ h3
  clear hc hc2 h h3
  obtain ⟨i0, hi0, hz0, hz1, hz2⟩ := info_parts info0
  go_enter Tryz.func87, Tryz.ntmps87
  go_wp2_with fail
  refine H.out.mono ?_
  rintro e w1 ⟨rfl, hr1, hg1⟩
  have HR1 := Lib.hid hr1
  have HG1 := Lib.hid hg1
  clear hr1 hg1
  go_wp2_with fail
  refine (sees_no g (p + 1) s 93 w1 HR1.out HC.out).mono ?_
  rintro e w2 ⟨rfl, n, rfl⟩
  go_wp2_with fail
  refine (number_any g (p + 1) s _ (HR1.out.drewN n) hs).mono ?_
  intro e w3 hp
  obtain ⟨hg3, ⟨t', q', v, hn, rfl, hr3, hnd⟩ | ⟨hn, b, rfl⟩⟩ := el0 hp
  · obtain ⟨rfl, rfl⟩ : t = t' ∧ q = q' := by rw [H3.out] at hn; simpa using hn
    have HG3 := Lib.hid hg3
    have HR3 := Lib.hid hr3
    have HND := Lib.hid hnd
    obtain ⟨tv, rfl⟩ : ∃ tv : Int, v = .int .i64 tv := ⟨_, hnd⟩
    clear hg3 hp hr3 hnd hn
    have own0 := World.ownsRow_nil (w3.alloc (.cells #[.int .i64 tv] 119)) w.heap.size 119 1
    have hb3 : w.heap.size ≤ w3.heap.size := Nat.le_trans HG1.out.size (Nat.le_trans (gr_drewN w1 n (some g)).size HG3.out.size)
    go_wp2_with (at_builtin; refine wpList_append_own_at _ rfl _ _ 123 rfl w.heap.size 119 i0 (.int .i64 0) 1 8 Tryz.underlying123 hi0 hz0 hz1 hz2 rfl (by decide) _ _ _ rfl own0 ⟨w3.heap.size, 0, none⟩ 1 1 [.int .i64 tv] rfl rfl ?c1 ?c2 ?c3 ?c4 ?c5 ?_)
    case c1 => exact cell_one_new _ _ _
    case c2 => simp [Value.oneCell']
    case c3 => simp [maxLen]
    case c4 => omega
    case c5 => simp; omega
    intro sv w4 hown4 hg4 hnil4 hat4
    have hl4 : Lf s 0 g w w4 sv ([] ++ [t]) ([] ++ [.int .i64 tv]) q :=
      (Lf.start (d := 0) (HR1.out.drewN n) (HG1.out.trans (gr_drewN w1 n _)) (by omega)).step hq.1 hq.2 HG3.out HR3.out HND.out hown4 hg4 hat4 hgw
    have HL := Lib.hid (show Lp s 0 p g w w4 sv ([] ++ [t]) ([] ++ [.int .i64 tv]) (s.size + 1) q from ⟨by omega, HN.out, hl4⟩)
    clear hl4 hown4 hg4 hnil4 hat4 own0 hb3
    go_wp2_with fail
    go_loopw [5] (fun u wr => ∃ ts xs f q', Hid (Lp s 0 p g w wr u ts xs f q')) (fun _ wr => s.size + 1 - plc wr g)
    case atStart => exact ⟨_, _, _, _, HL⟩
    case round =>
      obtain ⟨ts, xs, f, q', hL⟩ := hrel
      have hle := hL.out.lf.le
      by_cases h93 : ba s q' = 93
      · have H93 := Lib.hid h93
        clear h93
        go_wp2_with fail
        refine (sees_yes g q' s 93 wr hL.out.lf.rdr (by omega) H93.out).mono ?_
        rintro e w5 ⟨rfl, n5, rfl⟩
        go_wp2_with fail
        refine (take_yes g q' s 93 _ (hL.out.lf.rdr.drewN n5) (by omega) H93.out hs).mono ?_
        rintro e w6 ⟨rfl, hr6, hg6⟩
        have HL6 := Lib.hid ((hL.out.lf.drewN n5).reader hg6 hr6 (by omega) (by have := ba_lt (s := s) (p := q') (by rw [H93.out]; omega); omega) hgw)
        clear hr6 hg6
        go_wp2_with fail
        go_ret
        exact parts_ok (hL.out.exit H93.out) HL6.out.gr rfl HL6.out.rdr HL6.out.done.1 HL6.out.done.2
      · have H93 := Lib.hid h93
        clear h93
        go_wp2_with fail
        refine (sees_no g q' s 93 wr hL.out.lf.rdr H93.out).mono ?_
        rintro e w5 ⟨rfl, n5, rfl⟩
        go_wp2_with fail
        by_cases h44 : ba s q' = 44
        · have H44 := Lib.hid h44
          clear h44
          have hq1 : q' < s.size := ba_lt (by rw [H44.out]; omega)
          refine (take_yes g q' s 44 _ (hL.out.lf.rdr.drewN n5) (by omega) H44.out hs).mono ?_
          rintro e w6 ⟨rfl, hr6, hg6⟩
          have HL6 := Lib.hid ((hL.out.lf.drewN n5).reader hg6 hr6 (by omega) (by omega) hgw)
          have HG6 := Lib.hid ((gr_drewN wr n5 _).trans hg6)
          clear hr6 hg6
          go_wp2_with fail
          refine (number_any g (q' + 1) s w6 HL6.out.rdr hs).mono ?_
          intro e w7 hp
          obtain ⟨hg7, ⟨t7, q7, v, hn, rfl, hr7, hnd⟩ | ⟨hn, b, rfl⟩⟩ := el0 hp
          · have HG7 := Lib.hid hg7
            have HR7 := Lib.hid hr7
            have HND7 := Lib.hid hnd
            have HN7 := Lib.hid (hL.out.next H93.out H44.out hn)
            obtain ⟨tv7, rfl⟩ : ∃ tv : Int, v = .int .i64 tv := ⟨_, hnd⟩
            have hlx := HL6.out.len
            have hb6 := HL6.out.gr.size
            have hb7 := hg7.size
            have own7 := (own_keep HL6.out.own (fun k hk => hg7.block k (HL6.out.own.lt k hk).2 (fun e => by have := (HL6.out.own.lt k hk).1; simp at e; omega))).alloc (.cells #[.int .i64 tv7] 119)
            clear hg7 hr7 hnd hn hp
            go_wp2_with (at_builtin; refine wpList_append_own_at _ rfl _ _ 123 rfl w.heap.size 119 i0 (.int .i64 0) 1 8 Tryz.underlying123 hi0 hz0 hz1 hz2 rfl (by decide) _ _ _ rfl own7 ⟨w7.heap.size, 0, none⟩ 1 1 [.int .i64 tv7] rfl rfl ?c1 ?c2 ?c3 ?c4 ?c5 ?_)
            case c1 => exact cell_one_new _ _ _
            case c2 => simp [Value.oneCell']
            case c3 => simp [maxLen]; omega
            case c4 => omega
            case c5 => simp; omega
            intro sv8 w8 hown8 hg8 hnil8 hat8
            obtain ⟨f8, hf8, hle8, hlt8, hcom8⟩ := HN7.out
            have HL8 := Lib.hid (show Lp s 0 p g w w8 sv8 (ts ++ [t7]) (xs ++ [.int .i64 tv7]) f8 q7 from ⟨hf8, hcom8, HL6.out.step (by omega) hle8 HG7.out HR7.out HND7.out hown8 hg8 hat8 hgw⟩)
            clear hown8 hg8 hnil8 hat8 own7 hcom8 hf8
            go_wp2_with fail
            go_roundw
            case rel => exact ⟨_, _, _, _, HL8⟩
            case measure =>
              rw [plc_eq hL.out.lf.rdr, plc_eq HL8.out.lf.rdr]
              omega
          · have HG7 := Lib.hid hg7
            have HN7 := Lib.hid hn
            clear hg7 hp hn
            exact ⟨rfl, parts_fell (hL.out.stop2 H93.out H44.out HN7.out) (HL6.out.gr.trans HG7.out) ⟨_, rfl⟩⟩
        · have H44 := Lib.hid h44
          clear h44
          refine (take_no g q' s 44 _ (hL.out.lf.rdr.drewN n5) H44.out).mono ?_
          rintro e w6 ⟨⟨b, rfl⟩, hg6⟩
          exact ⟨rfl, parts_fell (hL.out.stop1 H93.out H44.out) ((hL.out.lf.gr.trans (gr_drewN wr n5 _)).trans hg6) ⟨_, rfl⟩⟩
  · rw [H3.out] at hn; cases hn
end

/- SNodeS -/
section
open Go.RowKit


theorem slf_start {s : ByteArray} {g p : Nat} {w w3 : World} (hb : Begun w w3) (hr : SRdr w3 g s p false) : SLf s g w w3 (.slice (some ⟨w.heap.size + 1, 0, none⟩) 0 0) [] p false :=
  ⟨hr, gr_some hb.gr (gr_refl _ _), by rw [hb.size]; omega, hb.res, hb.out, hb.own, by simp [Value.ownBlock], by simp [Value.ownBlock]⟩

theorem slf_own {s : ByteArray} {g q : Nat} {w wr we : World} {sv : Value} {xs : List (Int × Value)} {bad : Bool} (h : SLf s g w wr sv xs q bad) (hg : wr.grownBy we (some g)) (hgw : g < w.heap.size) (o : Obj) :
    (we.alloc o).ownsRow w.heap.size 50 2 sv xs.length (flat2 xs) :=
  (own_keep h.own (fun k hk => hg.block k (h.own.lt k hk).2 (fun e => by have := (h.own.lt k hk).1; simp at e; omega))).alloc o

/-- The variable's second cell behind the append. -/
theorem slf_cell {s : ByteArray} {g q : Nat} {w wr we w2 : World} {sv : Value} {xs : List (Int × Value)} {bad : Bool} {o : Obj} (h : SLf s g w wr sv xs q bad) (hg : wr.grownBy we (some g)) (hgw : g < w.heap.size) (hg2 : (we.alloc o).grownBy w2 sv.ownBlock) :
    Two w2 (w.heap.size + 1 + 1) (.int .i64 0) sv :=
  ((h.out.grown hg (by simp; omega)).alloc o).grown hg2 (fun e => h.ne2 e.symm)

set_option maxRecDepth 100000 in
set_option maxHeartbeats 4000000 in
theorem snode_main (g p d : Nat) (n : Int) (s : ByteArray) (w : World) (h : SRdr w g s p false) (hs : s.size ≤ 400) (hn1 : 1 ≤ n) (hn2 : n ≤ 1000)
    (hc : ba s p = 91) (hc2 : ba s (p + 1) ≠ 93)
    (ih : ∀ (p : Nat) (w : World), SRdr w g s p false → p ≤ s.size → Calls Tryz.prog 38 #[.pointer (some ⟨g, 0, none⟩), .int .i64 (n - 1)] w (SArrPost s d p g w)) :
    Calls Tryz.prog 38 #[.pointer (some ⟨g, 0, none⟩), .int .i64 n] w (SArrPost s (d + 1) p g w) := by
  obtain ⟨i0, hi0, hz0, hz1, hz2⟩ := info_parts infoN
  have HR := Lib.hid h
  have hgw := h.lt
  have HI := Lib.hid ih
  have HC := Lib.hid hc
  have HC2 := Lib.hid hc2
  have hp1 : p < s.size := ba_lt (by omega)
  have e0 : (n == 0) = false := by rw [beq_eq_false_iff_ne]; omega
  clear h ih hc hc2
  go_enter Tryz.func38, Tryz.ntmps38
  go_wp2_with fail
  clear e0
  refine (is_yes g p s 91 false _ (((HR.out.alloc _).alloc _).alloc _) (by omega) HC.out hs).mono ?_
  have HB := Lib.hid (begun w)
  have HR3 := Lib.hid (((HR.out.alloc (.cells #[.int .i64 0, .slice none 0 0] 50)).alloc (.cells #[] 50)).alloc (.cells #[.int .i64 0, .slice (some ⟨w.heap.size + 1, 0, none⟩) 0 0] 50))
  generalize ((w.alloc (.cells #[.int .i64 0, .slice none 0 0] 50)).alloc (.cells #[] 50)).alloc (.cells #[.int .i64 0, .slice (some ⟨w.heap.size + 1, 0, none⟩) 0 0] 50) = w3 at HB HR3
  rintro e w4 ⟨rfl, hr4, hg4⟩
  have HL4 := Lib.hid ((slf_start HB.out HR3.out).reader hg4 hr4 hgw)
  clear hr4 hg4
  go_wp2_with fail
  refine (is_no g (p + 1) s 93 false w4 HL4.out.rdr HC2.out).mono ?_
  rintro e w5 ⟨rfl, n5, rfl⟩
  go_wp2_with fail
  have o1 := HL4.out.out.c1
  have wn : IntKind.i64.wrap (n - 1) = n - 1 := IntWalk.i64_in _ (by omega)
  go_region_law (first
    | (refine step_append_lies _ (by rfl) _ _ _ (by rfl) w.heap.size 50 i0 _ 2 32 Tryz.underlying48 hi0 hz0 hz1 hz2 rfl (by omega) _ 0 [] (by rfl) own7 ⟨w7.heap.size, 0, none⟩ 1 1 [.int .i64 m, .slice A7 k7 c7] (by rfl) (by rfl) (World.news_of_block (cs := #[.int .i64 m, .slice A7 k7 c7]) (t := 50) (fr := (0, 0)) (heap_alloc_new w7 _)) (by simp [Value.oneCell']) (by omega) (by simp [maxLen]) (by omega) (by simp; omega) (w7.heap.size + 1) (by simp) ?_
       intro gg cap w8 hown8 hg8 hat8 hlt8
       have t8 := slf_cell (o := .cells #[.int .i64 m, .slice A7 k7 c7] 50) HL4.out HG7.out hgw hg8
       have o8 := t8.c1
       have f8 := t8.f 1
       have HO8 := Lib.hid hown8
       have HG8 := Lib.hid hg8
       have HA8 := Lib.hid hat8
       clear hown8 hg8 hat8 hlt8 t8)
    | (go_simp
       go_at_call 38
       refine (HI.out (p + 1) _ (HL4.out.rdr.drewN _) (by omega)).mono ?_
       rintro e w7 ⟨hg7, m, v7, rfl, ⟨A7, k7, c7, rfl⟩, hcase7⟩
       have HG7 := Lib.hid ((gr_drewN w4 _ _).trans hg7)
       have hb7 := HG7.out.size
       have hb4 := HL4.out.size
       have o7 := (HL4.out.out.grown HG7.out (by simp; omega)).c1
       have o7b := ((HL4.out.out.grown HG7.out (by simp; omega)).alloc (.cells #[.int .i64 m, .slice A7 k7 c7] 50)).c1
       have own7 := slf_own HL4.out HG7.out hgw (.cells #[.int .i64 m, .slice A7 k7 c7] 50)
       have HC7 := Lib.hid hcase7
       clear hg7 hcase7))
  all_goals
    have hstep := sloop_step (p := p) (ts := []) HL4.out trivial (by simp) (fun t q2 hn => ⟨s.size + 1, by omega, parts_s HC.out HC2.out hn⟩) (fun hn => parts_n2 HC.out HC2.out hn) HG7.out HC7.out HO8.out HG8.out HA8.out hgw
    obtain ⟨q2, b2, hS, _⟩ := hstep
    have HS := Lib.hid hS
    clear hS HO8 HG8 HA8 o1 o7 o7b o8 f8 own7 HC7 HG7 hb7 hb4
    go_wp2_with fail
    go_loopw [33] (fun _ wr => ∃ sv xs q bad, Hid (SLoop s d p g w wr sv xs q bad)) (fun _ wr => mS s.size wr g)
    case atStart => exact ⟨_, _, _, _, HS⟩
    case round =>
      clear HS HL4
      obtain ⟨sv, xs, q, bad, hL⟩ := hrel
      obtain ⟨A, k, c, rfl⟩ := own_form hL.out.1.own
      cases bad
      · have hg : ∃ ts f, SLg s d p g w wr (.slice A k c) ts xs f q := by
          rcases hL.out.2 with ⟨_, h⟩ | ⟨h, _⟩
          · exact h
          · cases h
        obtain ⟨ts, f, hg'⟩ := hg
        have HGD := Lib.hid hg'
        clear hg' hL
        have hq := HGD.out.le
        have hlen := HGD.out.len
        have c2 := HGD.out.lf.rdr.c2
        by_cases h44 : ba s q = 44
        · have H44 := Lib.hid h44
          have hq1 : q < s.size := ba_lt (by omega)
          clear h44
          go_wp2_with fail
          refine (is_yes g q s 44 false wr HGD.out.lf.rdr (by omega) H44.out hs).mono ?_
          rintro e w6 ⟨rfl, hr6, hg6⟩
          have HL6 := Lib.hid (HGD.out.lf.reader hg6 hr6 hgw)
          have HG6 := Lib.hid hg6
          clear hr6 hg6 c2
          go_wp2_with fail
          have v1 := HL6.out.out.c1
          go_region_law (first
            | (refine step_append_lies _ (by rfl) _ _ _ (by rfl) w.heap.size 50 i0 _ 2 32 Tryz.underlying48 hi0 hz0 hz1 hz2 rfl (by omega) _ xs.length (flat2 xs) (by rfl) own8 ⟨w9.heap.size, 0, none⟩ 1 1 [.int .i64 m9, .slice A9 k9 c9] (by rfl) (by rfl) (World.news_of_block (cs := #[.int .i64 m9, .slice A9 k9 c9]) (t := 50) (fr := (0, 0)) (heap_alloc_new w9 _)) (by simp [Value.oneCell']) (by omega) (by simp [maxLen]; omega) (by omega) (by simp; omega) (w9.heap.size + 1) (by simp) ?_
               intro gx cax w10 hown10 hg10 hat10 hlt10
               have t10 := slf_cell (o := .cells #[.int .i64 m9, .slice A9 k9 c9] 50) HL6.out HG9.out hgw hg10
               have o10 := t10.c1
               have f10 := t10.f 1
               have HO10 := Lib.hid hown10
               have HG10 := Lib.hid hg10
               have HA10 := Lib.hid hat10
               clear hown10 hg10 hat10 hlt10 t10)
            | (go_simp
               go_at_call 38
               refine (HI.out (q + 1) _ (HL6.out.rdr.drewN _) (by omega)).mono ?_
               rintro e w9 ⟨hg9, m9, v9, rfl, ⟨A9, k9, c9, rfl⟩, hcase9⟩
               have HG9 := Lib.hid ((gr_drewN w6 _ _).trans hg9)
               have hb9 := HG9.out.size
               have hb6 := HL6.out.size
               have o9 := (HL6.out.out.grown HG9.out (by simp; omega)).c1
               have o9b := ((HL6.out.out.grown HG9.out (by simp; omega)).alloc (.cells #[.int .i64 m9, .slice A9 k9 c9] 50)).c1
               have own8 := slf_own HL6.out HG9.out hgw (.cells #[.int .i64 m9, .slice A9 k9 c9] 50)
               have HC9 := Lib.hid hcase9
               clear hg9 hcase9))
          all_goals
            have hgo := HGD.out.goes H44.out
            have hall := All2.mono (SNd.keep (w := wr) (w' := w6) (fun b hb hb2 => HG6.out.block b hb2 (by simp; omega)) (fun b hb _ => hb) d) ts xs HGD.out.all
            obtain ⟨q3, b3, hS3, hq3⟩ := sloop_step (p := p) HL6.out hall (pe := q + 1) (by omega) hgo.1 hgo.2 HG9.out HC9.out HO10.out HG10.out HA10.out hgw
            have HS3 := Lib.hid hS3
            have HQ3 := Lib.hid hq3
            clear hS3 hq3 hgo hall HO10 HG10 HA10 v1 o9 o9b o10 f10 own8 HC9
            go_wp2_with fail
            go_roundw
            case rel => exact ⟨_, _, _, _, HS3⟩
            case measure =>
              rw [mS_good HGD.out.lf.rdr]
              cases b3
              · rw [mS_good HS3.out.1.rdr]
                have := HQ3.out rfl
                omega
              · rw [mS_bad HS3.out.1.rdr]
                omega
        · have H44 := Lib.hid h44
          clear h44
          go_wp2_with fail
          refine (is_no g q s 44 false wr HGD.out.lf.rdr H44.out).mono ?_
          rintro e w6 ⟨rfl, n6, rfl⟩
          have hne : ¬ g = w.heap.size := by omega
          have hne2 : ¬ g = w.heap.size + 1 + 1 := by omega
          go_wp2_with fail
          clear c2
          by_cases h93 : ba s q = 93
          · have H93 := Lib.hid h93
            clear h93
            refine (is_yes g q s 93 false _ (HGD.out.lf.rdr.drewN n6) (by omega) H93.out hs).mono ?_
            rintro e w7' ⟨rfl, hr7, hg7⟩
            have hl7 := (HGD.out.lf.drewN n6).reader hg7 hr7 hgw
            have c2 := hr7.c2
            have cf := hr7.f 2
            have r0 := hl7.res.c0
            have r1 := hl7.res.c1
            have u0 := hl7.out.c0
            have u1 := hl7.out.c1
            have f0 := hl7.res.f 0
            have f1 := hl7.res.f 1
            have HR7 := Lib.hid hr7
            have HG7b := Lib.hid hg7
            clear hr7 hg7 hl7
            go_wp2_with fail
            refine bodyPost_ret (v := .agg #[.int .i64 0, .slice A k c]) (by simp [results, Tryz.results38, go_sem, r0, r1]) rfl ?_
            exact HGD.out.end_good H93.out (((gr_drewN wr n6 _).trans HG7b.out).trans (gr_set w7' g 2 (.bool false))) (HR7.out.set2 false) hgw
          · have H93 := Lib.hid h93
            clear h93
            refine (is_no g q s 93 false _ (HGD.out.lf.rdr.drewN n6) H93.out).mono ?_
            rintro e w7' ⟨rfl, n7, rfl⟩
            have c2 := HGD.out.lf.rdr.c2
            have cf := HGD.out.lf.rdr.f 2
            have r0 := HGD.out.lf.res.c0
            have r1 := HGD.out.lf.res.c1
            have u0 := HGD.out.lf.out.c0
            have u1 := HGD.out.lf.out.c1
            have f0 := HGD.out.lf.res.f 0
            have f1 := HGD.out.lf.res.f 1
            go_wp2_with fail
            refine bodyPost_ret (v := .agg #[.int .i64 0, .slice A k c]) (by simp [results, Tryz.results38, go_sem, r0, r1]) rfl ?_
            exact HGD.out.lf.end_bad (HGD.out.stop H93.out H44.out) ((gr_drewN wr _ _).trans (gr_set _ g 2 (.bool true))) ((HGD.out.lf.rdr.drewN _).set2 true) hgw
      · have hn : parts s (node s d) p = none := by
          rcases hL.out.2 with ⟨h, _⟩ | ⟨_, h⟩
          · cases h
          · exact h
        have HN := Lib.hid hn
        clear hn
        have c2 := hL.out.1.rdr.c2
        have cf := hL.out.1.rdr.f 2
        have r0 := hL.out.1.res.c0
        have r1 := hL.out.1.res.c1
        have u0 := hL.out.1.out.c0
        have u1 := hL.out.1.out.c1
        have f0 := hL.out.1.res.f 0
        have f1 := hL.out.1.res.f 1
        have hne : ¬ g = w.heap.size := by omega
        have hne2 : ¬ g = w.heap.size + 1 + 1 := by omega
        go_wp2_with fail
        refine bodyPost_ret (v := .agg #[.int .i64 0, .slice A k c]) (by simp [results, Tryz.results38, go_sem, r0, r1]) rfl ?_
        exact hL.out.1.end_bad HN.out (gr_set wr g 2 (.bool true)) (hL.out.1.rdr.set2 true) hgw
end

/- Parts1 -/
section
open Go.RowKit

theorem Nd.iface {w : World} {S : Nat → Prop} {d : Nat} {t : T (d + 1)} {v : Value} (h : Nd w S (d + 1) t v) : ∃ ty pv, v = .iface ty pv := by
  obtain ⟨b, sv, xs, hv, _⟩ := h
  exact ⟨_, _, hv⟩

theorem info1 : (Tryz.prog.info? 87).map (fun i => (i.zero, i.size, i.bytes)) = some (some .nilIface, 1, 16) := by kernel_rfl

set_option maxHeartbeats 400000 in
theorem parts1_n1 (g p bx bn d : Nat) (s : ByteArray) (w : World) (h : Rdr w g s p) (hc : ba s p ≠ 91) :
    Calls Tryz.prog 88 #[.pointer (some ⟨g, 0, none⟩), .func (.func 89) #[] #[.pointer (some ⟨bx, 0, none⟩), .pointer (some ⟨bn, 0, none⟩)]] w (PartsPost s (d + 1) p g w) := by
  have H := Lib.hid (take_no g p s 91 w h hc)
  have HN := Lib.hid (parts_n1 (d := d + 1) hc)
  clear hc h
  go_enter Tryz.func88, Tryz.ntmps88
  go_wp2_with fail
  refine H.out.mono ?_
  rintro e w1 ⟨⟨b, rfl⟩, hg1⟩
  exact ⟨rfl, parts_fell HN.out hg1 ⟨_, rfl⟩⟩

set_option maxHeartbeats 400000 in
theorem parts1_e (g p bx bn d : Nat) (s : ByteArray) (w : World) (h : Rdr w g s p) (hc : ba s p = 91) (hc2 : ba s (p + 1) = 93) (hs : s.size ≤ 400) :
    Calls Tryz.prog 88 #[.pointer (some ⟨g, 0, none⟩), .func (.func 89) #[] #[.pointer (some ⟨bx, 0, none⟩), .pointer (some ⟨bn, 0, none⟩)]] w (PartsPost s (d + 1) p g w) := by
  have H := Lib.hid (take_yes g p s 91 w h (by omega) hc hs)
  have HN := Lib.hid (parts_e (d := d + 1) hc hc2)
  have HC := Lib.hid hc2
  clear hc hc2 h
  go_enter Tryz.func88, Tryz.ntmps88
  go_wp2_with fail
  refine H.out.mono ?_
  rintro e w1 ⟨rfl, hr1, hg1⟩
  have HR1 := Lib.hid hr1
  have HG1 := Lib.hid hg1
  clear hr1 hg1
  go_wp2_with fail
  refine (sees_yes g (p + 1) s 93 w1 HR1.out (by omega) HC.out).mono ?_
  rintro e w2 ⟨rfl, n, rfl⟩
  go_wp2_with fail
  refine wp_loop_rounds 1 ?_
  rw [rounds_succ]
  go_wp2_with fail
  refine (sees_yes g (p + 1) s 93 _ (HR1.out.drewN n) (by omega) HC.out).mono ?_
  rintro e w3 ⟨rfl, n2, rfl⟩
  go_wp2_with fail
  refine (take_yes g (p + 1) s 93 _ (HR1.out.drewN _) (by omega) HC.out hs).mono ?_
  rintro e w4 ⟨rfl, hr4, hg4⟩
  have HR4 := Lib.hid hr4
  have HG4 := Lib.hid hg4
  clear hr4 hg4
  go_wp2_with fail
  go_ret
  refine parts_ok HN.out (HG1.out.trans ((gr_drewN w1 _ _).trans HG4.out)) rfl HR4.out (World.ownsRow_nil _ _ _ _) trivial

set_option maxHeartbeats 400000 in
theorem parts1_n2 (g p bx bn d : Nat) (s : ByteArray) (w : World) (h : Rdr w g s p) (hc : ba s p = 91) (hc2 : ba s (p + 1) ≠ 93) (h3 : node s (d + 1) (p + 1) = none) (hs : s.size ≤ 400) (hel : ∀ (p : Nat) (w' : World), w.grownBy w' (some g) → Rdr w' g s p → Calls Tryz.prog 89 #[.pointer (some ⟨bx, 0, none⟩), .pointer (some ⟨bn, 0, none⟩)] w' (ElPost s (d + 1) p g w')) :
    Calls Tryz.prog 88 #[.pointer (some ⟨g, 0, none⟩), .func (.func 89) #[] #[.pointer (some ⟨bx, 0, none⟩), .pointer (some ⟨bn, 0, none⟩)]] w (PartsPost s (d + 1) p g w) := by
  have H := Lib.hid (take_yes g p s 91 w h (by omega) hc hs)
  have HN := Lib.hid (parts_n2 (d := d + 1) hc hc2 h3)
  have HC := Lib.hid hc2
  have H3 := Lib.hid h3
  have HE := Lib.hid hel
  clear hc hc2 h h3 hel
  go_enter Tryz.func88, Tryz.ntmps88
  go_wp2_with fail
  refine H.out.mono ?_
  rintro e w1 ⟨rfl, hr1, hg1⟩
  have HR1 := Lib.hid hr1
  have HG1 := Lib.hid hg1
  clear hr1 hg1
  go_wp2_with fail
  refine (sees_no g (p + 1) s 93 w1 HR1.out HC.out).mono ?_
  rintro e w2 ⟨rfl, n, rfl⟩
  go_wp2_with fail
  refine (HE.out (p + 1) _ (HG1.out.trans (gr_drewN w1 n _)) (HR1.out.drewN n)).mono ?_
  intro e w3 hp
  obtain ⟨hg3, ⟨t, q, v, hn, he, hr, hnd⟩ | ⟨hn, b, rfl⟩⟩ := hp
  · rw [H3.out] at hn; cases hn
  · have HG3 := Lib.hid hg3
    clear hg3
    exact ⟨rfl, parts_fell HN.out (HG1.out.trans ((gr_drewN w1 _ _).trans HG3.out)) ⟨_, rfl⟩⟩

set_option maxHeartbeats 1000000 in
theorem parts1_s (g p bx bn d : Nat) (s : ByteArray) (w : World) (h : Rdr w g s p) (hc : ba s p = 91) (hc2 : ba s (p + 1) ≠ 93) (t : T (d + 1)) (q : Nat) (h3 : node s (d + 1) (p + 1) = some (t, q)) (hs : s.size ≤ 400) (hel : ∀ (p : Nat) (w' : World), w.grownBy w' (some g) → Rdr w' g s p → Calls Tryz.prog 89 #[.pointer (some ⟨bx, 0, none⟩), .pointer (some ⟨bn, 0, none⟩)] w' (ElPost s (d + 1) p g w')) :
    Calls Tryz.prog 88 #[.pointer (some ⟨g, 0, none⟩), .func (.func 89) #[] #[.pointer (some ⟨bx, 0, none⟩), .pointer (some ⟨bn, 0, none⟩)]] w (PartsPost s (d + 1) p g w) := by
  have H := Lib.hid (take_yes g p s 91 w h (by omega) hc hs)
  have HN := Lib.hid (parts_s (d := d + 1) hc hc2 h3)
  have HC := Lib.hid hc2
  have H3 := Lib.hid h3
  have hgw := h.lt
  have hq := node_ge s (d + 1) _ _ _ h3
  have HE := Lib.hid hel
  clear hc hc2 h h3 hel
  obtain ⟨i0, hi0, hz0, hz1, hz2⟩ := info_parts info1
  go_enter Tryz.func88, Tryz.ntmps88
  go_wp2_with fail
  refine H.out.mono ?_
  rintro e w1 ⟨rfl, hr1, hg1⟩
  have HR1 := Lib.hid hr1
  have HG1 := Lib.hid hg1
  clear hr1 hg1
  go_wp2_with fail
  refine (sees_no g (p + 1) s 93 w1 HR1.out HC.out).mono ?_
  rintro e w2 ⟨rfl, n, rfl⟩
  go_wp2_with fail
  refine (HE.out (p + 1) _ (HG1.out.trans (gr_drewN w1 n _)) (HR1.out.drewN n)).mono ?_
  intro e w3 hp
  obtain ⟨hg3, ⟨t', q', v, hn, rfl, hr3, hnd⟩ | ⟨hn, b, rfl⟩⟩ := hp
  · obtain ⟨rfl, rfl⟩ : t = t' ∧ q = q' := by rw [H3.out] at hn; simpa using hn
    have HG3 := Lib.hid hg3
    have HR3 := Lib.hid hr3
    have HND := Lib.hid hnd
    obtain ⟨ty, pv, rfl⟩ : ∃ ty pv, v = .iface ty pv := hnd.iface
    clear hg3 hr3 hnd hn
    have own0 := World.ownsRow_nil (w3.alloc (.cells #[.iface ty pv] 87)) w.heap.size 87 1
    have hb3 : w.heap.size ≤ w3.heap.size := Nat.le_trans HG1.out.size (Nat.le_trans (gr_drewN w1 n (some g)).size HG3.out.size)
    go_wp2_with (at_builtin; refine wpList_append_own_at _ rfl _ _ 128 rfl w.heap.size 87 i0 .nilIface 1 16 Tryz.underlying128 hi0 hz0 hz1 hz2 rfl (by decide) _ _ _ rfl own0 ⟨w3.heap.size, 0, none⟩ 1 1 [.iface ty pv] rfl rfl ?c1 ?c2 ?c3 ?c4 ?c5 ?_)
    case c1 => exact cell_one_new _ _ _
    case c2 => simp [Value.oneCell']
    case c3 => simp [maxLen]
    case c4 => omega
    case c5 => simp; omega
    intro sv w4 hown4 hg4 hnil4 hat4
    have hl4 : Lf s (d + 1) g w w4 sv ([] ++ [t]) ([] ++ [.iface ty pv]) q :=
      (Lf.start (d := d + 1) (HR1.out.drewN n) (HG1.out.trans (gr_drewN w1 n _)) (by omega)).step hq.1 hq.2 HG3.out HR3.out HND.out hown4 hg4 hat4 hgw
    have HL := Lib.hid (show Lp s (d + 1) p g w w4 sv ([] ++ [t]) ([] ++ [.iface ty pv]) (s.size + 1) q from ⟨by omega, HN.out, hl4⟩)
    clear hl4 hown4 hg4 hnil4 hat4 own0 hb3
    go_wp2_with fail
    go_loopw [5] (fun u wr => ∃ ts xs f q', Hid (Lp s (d + 1) p g w wr u ts xs f q')) (fun _ wr => s.size + 1 - plc wr g)
    case atStart => exact ⟨_, _, _, _, HL⟩
    case round =>
      obtain ⟨ts, xs, f, q', hL⟩ := hrel
      have hle := hL.out.lf.le
      by_cases h93 : ba s q' = 93
      · have H93 := Lib.hid h93
        clear h93
        go_wp2_with fail
        refine (sees_yes g q' s 93 wr hL.out.lf.rdr (by omega) H93.out).mono ?_
        rintro e w5 ⟨rfl, n5, rfl⟩
        go_wp2_with fail
        refine (take_yes g q' s 93 _ (hL.out.lf.rdr.drewN n5) (by omega) H93.out hs).mono ?_
        rintro e w6 ⟨rfl, hr6, hg6⟩
        have HL6 := Lib.hid ((hL.out.lf.drewN n5).reader hg6 hr6 (by omega) (by have := ba_lt (s := s) (p := q') (by rw [H93.out]; omega); omega) hgw)
        clear hr6 hg6
        go_wp2_with fail
        go_ret
        exact parts_ok (hL.out.exit H93.out) HL6.out.gr rfl HL6.out.rdr HL6.out.done.1 HL6.out.done.2
      · have H93 := Lib.hid h93
        clear h93
        go_wp2_with fail
        refine (sees_no g q' s 93 wr hL.out.lf.rdr H93.out).mono ?_
        rintro e w5 ⟨rfl, n5, rfl⟩
        go_wp2_with fail
        by_cases h44 : ba s q' = 44
        · have H44 := Lib.hid h44
          clear h44
          have hq1 : q' < s.size := ba_lt (by rw [H44.out]; omega)
          refine (take_yes g q' s 44 _ (hL.out.lf.rdr.drewN n5) (by omega) H44.out hs).mono ?_
          rintro e w6 ⟨rfl, hr6, hg6⟩
          have HL6 := Lib.hid ((hL.out.lf.drewN n5).reader hg6 hr6 (by omega) (by omega) hgw)
          have HG6 := Lib.hid ((gr_drewN wr n5 _).trans hg6)
          clear hr6 hg6
          go_wp2_with fail
          refine (HE.out (q' + 1) w6 HL6.out.gr HL6.out.rdr).mono ?_
          intro e w7 hp
          obtain ⟨hg7, ⟨t7, q7, v, hn, rfl, hr7, hnd⟩ | ⟨hn, b, rfl⟩⟩ := hp
          · have HG7 := Lib.hid hg7
            have HR7 := Lib.hid hr7
            have HND7 := Lib.hid hnd
            have HN7 := Lib.hid (hL.out.next H93.out H44.out hn)
            obtain ⟨ty7, pv7, rfl⟩ : ∃ ty pv, v = .iface ty pv := hnd.iface
            have hlx := HL6.out.len
            have hb6 := HL6.out.gr.size
            have hb7 := hg7.size
            have own7 := (own_keep HL6.out.own (fun k hk => hg7.block k (HL6.out.own.lt k hk).2 (fun e => by have := (HL6.out.own.lt k hk).1; simp at e; omega))).alloc (.cells #[.iface ty7 pv7] 87)
            clear hg7 hr7 hnd hn
            go_wp2_with (at_builtin; refine wpList_append_own_at _ rfl _ _ 128 rfl w.heap.size 87 i0 .nilIface 1 16 Tryz.underlying128 hi0 hz0 hz1 hz2 rfl (by decide) _ _ _ rfl own7 ⟨w7.heap.size, 0, none⟩ 1 1 [.iface ty7 pv7] rfl rfl ?c1 ?c2 ?c3 ?c4 ?c5 ?_)
            case c1 => exact cell_one_new _ _ _
            case c2 => simp [Value.oneCell']
            case c3 => simp [maxLen]; omega
            case c4 => omega
            case c5 => simp; omega
            intro sv8 w8 hown8 hg8 hnil8 hat8
            obtain ⟨f8, hf8, hle8, hlt8, hcom8⟩ := HN7.out
            have HL8 := Lib.hid (show Lp s (d + 1) p g w w8 sv8 (ts ++ [t7]) (xs ++ [.iface ty7 pv7]) f8 q7 from ⟨hf8, hcom8, HL6.out.step (by omega) hle8 HG7.out HR7.out HND7.out hown8 hg8 hat8 hgw⟩)
            clear hown8 hg8 hnil8 hat8 own7 hcom8 hf8
            go_wp2_with fail
            go_roundw
            case rel => exact ⟨_, _, _, _, HL8⟩
            case measure =>
              rw [plc_eq hL.out.lf.rdr, plc_eq HL8.out.lf.rdr]
              omega
          · have HG7 := Lib.hid hg7
            have HN7 := Lib.hid hn
            clear hg7 hn
            exact ⟨rfl, parts_fell (hL.out.stop2 H93.out H44.out HN7.out) (HL6.out.gr.trans HG7.out) ⟨_, rfl⟩⟩
        · have H44 := Lib.hid h44
          clear h44
          refine (take_no g q' s 44 _ (hL.out.lf.rdr.drewN n5) H44.out).mono ?_
          rintro e w6 ⟨⟨b, rfl⟩, hg6⟩
          exact ⟨rfl, parts_fell (hL.out.stop1 H93.out H44.out) ((hL.out.lf.gr.trans (gr_drewN wr n5 _)).trans hg6) ⟨_, rfl⟩⟩
  · rw [H3.out] at hn; cases hn
end

/- Arr -/
section
open Go.RowKit

/-- How readArray ends. -/
def ArrPost (s : ByteArray) (d p g : Nat) (w : World) (e : Ending) (w' : World) : Prop :=
  w.grownBy w' (some g) ∧ ((∃ t q v, node s d p = some (t, q) ∧ e = .returned v ∧ Rdr w' g s q ∧ RepI w' (fun b => w.heap.size ≤ b) d t v) ∨ (node s d p = none ∧ Fell e))

theorem arr_fell {s : ByteArray} {d p g : Nat} {w w' : World} {e : Ending} (hn : node s d p = none) (hg : w.grownBy w' (some g)) (he : Fell e) : ArrPost s d p g w e w' := ⟨hg, .inr ⟨hn, he⟩⟩
theorem arr_ok {s : ByteArray} {d p g q : Nat} {w w' : World} {e : Ending} {t : T d} {v : Value} (hn : node s d p = some (t, q)) (hg : w.grownBy w' (some g)) (he : e = .returned v) (hr : Rdr w' g s q)
    (ha : RepI w' (fun b => w.heap.size ≤ b) d t v) : ArrPost s d p g w e w' := ⟨hg, .inl ⟨t, q, v, hn, he, hr, ha⟩⟩

theorem makeFunc_run (fn : Fn) (first cap : Array Value) (w : World) : (Instr.makeFunc fn first cap).run Tryz.prog w = .ok (.func fn first cap) w := rfl

set_option maxHeartbeats 400000 in
theorem array0 (g p : Nat) (s : ByteArray) (w : World) (h : Rdr w g s p) (hs : s.size ≤ 400) :
    Calls Tryz.prog 66 #[.pointer (some ⟨g, 0, none⟩), .int .i64 0] w (ArrPost s 0 p g w) := by
  have HR := Lib.hid h
  clear h
  go_enter Tryz.func66, Tryz.ntmps66
  go_wp2_with fail
  refine (number_any g p s _ ((HR.out.alloc _).alloc _) hs).mono ?_
  rintro e w1 ⟨hg1, ⟨v, q, hn, rfl, hr1⟩ | ⟨hn, b, rfl⟩⟩
  · have HG1 := Lib.hid hg1
    have HR1 := Lib.hid hr1
    have HN := Lib.hid hn
    obtain ⟨vi, hvi⟩ : ∃ vi : Int, vi = (v : Int) := ⟨_, rfl⟩
    rw [← hvi]
    have HVI := Lib.hid hvi
    clear hg1 hr1 hn hvi
    go_wp2_with fail
    go_ret
    refine arr_ok (d := 0) (t := v) HN.out (((World.grownBy_alloc _ _ _).trans (World.grownBy_alloc _ _ _)).trans HG1.out) rfl HR1.out ?_
    show _ = Value.iface _ (.int .i64 (v : Int))
    rw [← HVI.out]; rfl
  · have HG1 := Lib.hid hg1
    have HN := Lib.hid hn
    clear hg1 hn
    exact ⟨rfl, arr_fell (d := 0) HN.out (((World.grownBy_alloc _ _ _).trans (World.grownBy_alloc _ _ _)).trans HG1.out) ⟨_, rfl⟩⟩

theorem parts0_any (g p : Nat) (s : ByteArray) (w : World) (h : Rdr w g s p) (hs : s.size ≤ 400) :
    Calls Tryz.prog 87 #[.pointer (some ⟨g, 0, none⟩), .func (.func 86) #[.pointer (some ⟨g, 0, none⟩)] #[]] w (PartsPost s 0 p g w) := by
  by_cases hc : ba s p = 91
  · by_cases hc2 : ba s (p + 1) = 93
    · exact parts0_e g p s w h hc hc2 hs
    · cases h3 : node s 0 (p + 1) with
      | none => exact parts0_n2 g p s w h hc hc2 h3 hs
      | some r => exact parts0_s g p s w h hc hc2 r.1 r.2 h3 hs
  · exact parts0_n1 g p s w h hc

theorem parts1_any (g p bx bn d : Nat) (s : ByteArray) (w : World) (h : Rdr w g s p) (hs : s.size ≤ 400)
    (hel : ∀ (p : Nat) (w' : World), w.grownBy w' (some g) → Rdr w' g s p → Calls Tryz.prog 89 #[.pointer (some ⟨bx, 0, none⟩), .pointer (some ⟨bn, 0, none⟩)] w' (ElPost s (d + 1) p g w')) :
    Calls Tryz.prog 88 #[.pointer (some ⟨g, 0, none⟩), .func (.func 89) #[] #[.pointer (some ⟨bx, 0, none⟩), .pointer (some ⟨bn, 0, none⟩)]] w (PartsPost s (d + 1) p g w) := by
  by_cases hc : ba s p = 91
  · by_cases hc2 : ba s (p + 1) = 93
    · exact parts1_e g p bx bn d s w h hc hc2 hs
    · cases h3 : node s (d + 1) (p + 1) with
      | none => exact parts1_n2 g p bx bn d s w h hc hc2 h3 hs hel
      | some r => exact parts1_s g p bx bn d s w h hc hc2 r.1 r.2 h3 hs hel
  · exact parts1_n1 g p bx bn d s w h hc

/-- The node is laid round its row. -/
theorem rep_node {g d : Nat} {w w0 w1 : World} {ts : List (T d)} {sv : Value} {xs : List Value} (h0 : w.grownBy w0 (some g)) (h1 : w0.grownBy w1 (some g)) (ho : w1.ownsRow w0.heap.size (elT d) 1 sv xs.length xs) (ha : All2 (Nd w1 (fun b => w0.heap.size ≤ b) d) ts xs) :
    Nd (w1.alloc (.cells #[sv] (strT d))) (fun b => w.heap.size ≤ b) (d + 1) ts (.iface (ptrT d) (.pointer (some ⟨w1.heap.size, 0, none⟩))) := by
  have e0 := h0.size
  have e1 := h1.size
  have hl := ho.lt
  have hk : ∀ b, b < w1.heap.size → (w1.alloc (.cells #[sv] (strT d))).heap[b]? = w1.heap[b]? := fun b hb => Below.heap_alloc _ _ _ hb
  refine ⟨w1.heap.size, sv, xs, rfl, by omega, heap_alloc_new _ _, own_base (own_keep ho (fun k hk' => hk k (hl k hk').2)) (Nat.zero_le _), fun k hk' => by have := (hl k hk').1; omega, ?_⟩
  exact All2.mono (Nd.keep (fun b _ hb2 => hk b hb2) (fun b hb _ => by omega) d) ts xs ha

set_option maxHeartbeats 400000 in
theorem array1 (g p : Nat) (s : ByteArray) (w : World) (h : Rdr w g s p) (hs : s.size ≤ 400) :
    Calls Tryz.prog 66 #[.pointer (some ⟨g, 0, none⟩), .int .i64 1] w (ArrPost s 1 p g w) := by
  have HR := Lib.hid h
  clear h
  have hmf := makeFunc_run
  go_enter Tryz.func66, Tryz.ntmps66
  go_wp2_with fail
  clear hmf
  refine (parts0_any g p s _ ((HR.out.alloc _).alloc _) hs).mono ?_
  rintro e w1 ⟨hg1, ⟨ts, q, sv, xs, hn, rfl, hr1, ho1, ha1⟩ | ⟨hn, b, rfl⟩⟩
  · have HG1 := Lib.hid hg1
    have HR1 := Lib.hid hr1
    have HN := Lib.hid hn
    have HA := Lib.hid (rep_node (d := 0) ((World.grownBy_alloc _ _ _).trans (World.grownBy_alloc _ _ _)) hg1 ho1 ha1)
    obtain ⟨A1, m1, c1, rfl⟩ := own_form ho1
    clear hg1 hr1 hn ho1 ha1
    go_wp2_with fail
    go_ret
    exact arr_ok (d := 1) (t := ts) HN.out ((((World.grownBy_alloc _ _ _).trans (World.grownBy_alloc _ _ _)).trans HG1.out).trans (World.grownBy_alloc _ _ _)) rfl (HR1.out.alloc _) HA.out
  · have HG1 := Lib.hid hg1
    have HN := Lib.hid hn
    clear hg1 hn
    exact ⟨rfl, arr_fell (d := 1) HN.out (((World.grownBy_alloc _ _ _).trans (World.grownBy_alloc _ _ _)).trans HG1.out) ⟨_, rfl⟩⟩

/-- Two boxes, one behind the other. -/
theorem cell_two (w : World) (x y : Value) (tx ty : TypeId) : ((w.alloc (.cells #[x] tx)).alloc (.cells #[y] ty)).cell? ⟨w.heap.size, 0, none⟩ = some x ∧ ((w.alloc (.cells #[x] tx)).alloc (.cells #[y] ty)).cell? ⟨w.heap.size + 1, 0, none⟩ = some y := by
  have e : (w.alloc (.cells #[x] tx)).heap.size = w.heap.size + 1 := by simp
  constructor
  · exact cell_of_row _ _ 0 _ _ (0, 0) ((Below.heap_alloc _ _ _ (by omega)).trans (heap_alloc_new _ _))
  · have h := cell_of_row _ _ 0 _ _ (0, 0) (heap_alloc_new (w.alloc (.cells #[x] tx)) (.cells #[y] ty))
    rw [e] at h
    exact h

/-- What the closure does, out of readArray one depth below. -/
theorem closure_any (g bx bn d : Nat) (n : Int) (s : ByteArray) (hn0 : -1000 ≤ n) (hn1 : n ≤ 1000)
    (ih : ∀ (p : Nat) (w : World), Rdr w g s p → Calls Tryz.prog 66 #[.pointer (some ⟨g, 0, none⟩), .int .i64 (n - 1)] w (ArrPost s (d + 1) p g w))
    (p : Nat) (w : World) (h : Rdr w g s p) (hbx : w.cell? ⟨bx, 0, none⟩ = some (.pointer (some ⟨g, 0, none⟩))) (hbn : w.cell? ⟨bn, 0, none⟩ = some (.int .i64 n)) :
    Calls Tryz.prog 89 #[.pointer (some ⟨bx, 0, none⟩), .pointer (some ⟨bn, 0, none⟩)] w (ElPost s (d + 1) p g w) := by
  have HI := Lib.hid ih
  have HR := Lib.hid h
  clear ih h
  go_enter Tryz.func89, Tryz.ntmps89
  go_wp2_with fail
  refine (HI.out p w HR.out).mono ?_
  rintro e w1 ⟨hg1, ⟨t, q, v, hn, rfl, hr1, ha1⟩ | ⟨hn, b, rfl⟩⟩
  · have HG1 := Lib.hid hg1
    have HR1 := Lib.hid hr1
    have HN := Lib.hid hn
    have HA := Lib.hid ha1
    clear hg1 hr1 hn ha1
    go_wp2_with fail
    go_ret
    exact ⟨HG1.out, .inl ⟨t, q, v, HN.out, rfl, HR1.out, HA.out⟩⟩
  · have HG1 := Lib.hid hg1
    have HN := Lib.hid hn
    clear hg1 hn
    exact ⟨rfl, HG1.out, .inr ⟨HN.out, _, rfl⟩⟩

set_option maxHeartbeats 400000 in
theorem arrayS (g p d : Nat) (n : Int) (s : ByteArray) (w : World) (h : Rdr w g s p) (hs : s.size ≤ 400) (hn2 : 2 ≤ n) (hn3 : n ≤ 1000)
    (ih : ∀ (p : Nat) (w : World), Rdr w g s p → Calls Tryz.prog 66 #[.pointer (some ⟨g, 0, none⟩), .int .i64 (n - 1)] w (ArrPost s (d + 1) p g w)) :
    Calls Tryz.prog 66 #[.pointer (some ⟨g, 0, none⟩), .int .i64 n] w (ArrPost s (d + 2) p g w) := by
  have HI := Lib.hid ih
  have HR := Lib.hid h
  have hgw := h.lt
  clear ih h
  have hmf := makeFunc_run
  have e0 : (n == 0) = false := by rw [beq_eq_false_iff_ne]; omega
  have e1 : (n == 1) = false := by rw [beq_eq_false_iff_ne]; omega
  go_enter Tryz.func66, Tryz.ntmps66
  go_wp2_with fail
  clear hmf e0 e1
  refine (parts1_any g p _ _ d s _ ((HR.out.alloc _).alloc _) hs ?_).mono ?_
  · intro p' w' hg' hr'
    refine closure_any g _ _ d n s (by omega) (by omega) HI.out p' w' hr' ?_ ?_
    · exact hg'.cell (cell_two w _ _ _ _).1 (by simp; omega)
    · exact hg'.cell (cell_two w _ _ _ _).2 (by simp; omega)
  rintro e w1 ⟨hg1, ⟨ts, q, sv, xs, hn, rfl, hr1, ho1, ha1⟩ | ⟨hn, b, rfl⟩⟩
  · have HG1 := Lib.hid hg1
    have HR1 := Lib.hid hr1
    have HN := Lib.hid hn
    have HA := Lib.hid (rep_node (d := d + 1) ((World.grownBy_alloc _ _ _).trans (World.grownBy_alloc _ _ _)) hg1 ho1 ha1)
    obtain ⟨A1, m1, c1, rfl⟩ := own_form ho1
    clear hg1 hr1 hn ho1 ha1
    go_wp2_with fail
    go_ret
    exact arr_ok (d := d + 2) (t := ts) HN.out ((((World.grownBy_alloc _ _ _).trans (World.grownBy_alloc _ _ _)).trans HG1.out).trans (World.grownBy_alloc _ _ _)) rfl (HR1.out.alloc _) HA.out
  · have HG1 := Lib.hid hg1
    have HN := Lib.hid hn
    clear hg1 hn
    exact ⟨rfl, arr_fell (d := d + 2) HN.out (((World.grownBy_alloc _ _ _).trans (World.grownBy_alloc _ _ _)).trans HG1.out) ⟨_, rfl⟩⟩

theorem array_any (g : Nat) (s : ByteArray) (hs : s.size ≤ 400) : ∀ (d : Nat) (n : Int) (p : Nat) (w : World), n = d → d ≤ 1000 → Rdr w g s p →
    Calls Tryz.prog 66 #[.pointer (some ⟨g, 0, none⟩), .int .i64 n] w (ArrPost s d p g w)
  | 0, n, p, w, hn, _, h => by obtain rfl : n = 0 := hn; exact array0 g p s w h hs
  | 1, n, p, w, hn, _, h => by obtain rfl : n = 1 := hn; exact array1 g p s w h hs
  | d + 2, n, p, w, hn, hd, h => arrayS g p d n s w h hs (by omega) (by omega) (fun p w h => array_any g s hs (d + 1) (n - 1) p w (by omega) (by omega) h)
end

/- Nest -/
section
open Go.RowKit

/-- The array of a depth whose text is s. -/
def readN (s : ByteArray) (d : Nat) : Option (T d) := match node s d 0 with
  | none => none
  | some (t, q) => if q = s.size then some t else none

theorem catch_fell (p q : Addr) (b : ByteArray) (x y : Value) (w : World) (hc : w.cell? p = some x) (hz : w.frozen? p = false) (hc2 : w.cell? q = some y) (hz2 : w.frozen? q = false) (hne : p.block ≠ q.block) :
    CallsD Tryz.prog 65 #[.pointer (some p), .pointer (some q)] (.panicking [{ v := .iface 9 (.string b), recovered := false }]) w fun e u' w' =>
      e = .returned (.tuple #[]) ∧ u' = .panicking [{ v := .iface 9 (.string b), recovered := true }] ∧ w' = (w.setCell p .nilIface).setCell q (.bool false) := by
  have hc3 : (w.setCell p .nilIface).cell? q = some y := (World.cell?_setCell_other w p q .nilIface (fun e => hne (by rw [e]))).trans hc2
  refine callsD_of_wpS Tryz.func65 rfl fun c₀ cs hu => ?_
  apply wpS_seq
  apply wpS_region
  simp [wpOpsS, go_sem, recoverD, hu, Tryz.ntmps65, Exit.thenS]
  refine wpS_cond (t := true) (by simp [Act.eval, Array.replicate]) ?_
  simp only [if_true]
  apply wpS_region
  simp [wpOpsS, go_sem, hc, hz, hc3, hz2, bodyPostS, results, Tryz.results65]

theorem catch_idle (p q : Addr) (w : World) :
    CallsD Tryz.prog 65 #[.pointer (some p), .pointer (some q)] .returning w fun e u' w' => e = .returned (.tuple #[]) ∧ u' = .returning ∧ w' = w := by
  refine callsD_of_wpS Tryz.func65 rfl fun c₀ cs hu => ?_
  apply wpS_seq
  apply wpS_region
  simp [wpOpsS, go_sem, recoverD, hu, Tryz.ntmps65, Exit.thenS]
  refine wpS_cond (t := false) (by simp [Act.eval, Array.replicate]) ?_
  simp only [Bool.false_eq_true, if_false]
  refine wpS_of_wp (wp_skip ?_)
  cases c₀
  simp_all [bodyPostS, results, Tryz.results65]

/-- How readNested ends without an array. -/
def NestNo (w : World) (e : Ending) (w' : World) : Prop := e = .returned (.tuple #[.nilIface, .bool false]) ∧ w.grownBy w' none

set_option maxHeartbeats 400000 in
theorem nest_out (n : Int) (s : ByteArray) (w : World) (h : n < 0 ∨ 3 < n ∨ 400 < s.size) :
    Calls Tryz.prog 45 #[.string s, .int .i64 n] w (NestNo w) := by
  have hmf := makeFunc_run
  go_enter_defers Tryz.func45, Tryz.ntmps45
  go_wp2_with fail
  all_goals
    refine leaves_cons (f := 65) (args := #[.pointer (some ⟨w.heap.size, 0, none⟩), .pointer (some ⟨w.heap.size + 1, 0, none⟩)]) (by simp) (by simp [go_sem]) ?_
    refine (catch_idle _ _ _).mono ?_
    rintro e u' w'' ⟨rfl, rfl, rfl⟩
    simp [Leaves, settle, results, Tryz.results45, go_sem]
    exact ⟨rfl, (World.grownBy_alloc _ _ _).trans (World.grownBy_alloc _ _ _)⟩

/-- How readNested ends with an array. -/
def NestYes (d : Nat) (t : T d) (w : World) (e : Ending) (w' : World) : Prop :=
  ∃ v, e = .returned (.tuple #[v, .bool true]) ∧ w.grownBy w' none ∧ RepI w' (fun b => w.heap.size ≤ b) d t v
def NestPost (s : ByteArray) (d : Nat) (w : World) (e : Ending) (w' : World) : Prop := match readN s d with
  | some t => NestYes d t w e w'
  | none => NestNo w e w'

theorem frozen_grown {w w' : World} {row : Option Nat} (h : w.grownBy w' row) {b i : Nat} (hb : b < w.heap.size) (hne : some b ≠ row) (hf : w.frozen? ⟨b, i, none⟩ = false) : w'.frozen? ⟨b, i, none⟩ = false :=
  (World.frozen?_of_block (w := w) (a := ⟨b, i, none⟩) (h.block b hb hne)).trans hf

theorem rdr_new {w : World} {k : Nat} (s : ByteArray) (hk : w.heap.size = k) : Rdr (w.alloc (.cells #[.string s, .int .i64 0] 116)) k s 0 := by
  subst hk
  exact heap_alloc_new _ _

theorem nestPost_no {s : ByteArray} {d : Nat} {w w' : World} {e : Ending} (hr : readN s d = none) (he : e = .returned (.tuple #[.nilIface, .bool false])) (hg : w.grownBy w' none) : NestPost s d w e w' := by
  unfold NestPost
  rw [hr]
  exact ⟨he, hg⟩
theorem nestPost_yes {s : ByteArray} {d : Nat} {t : T d} {v : Value} {w w' : World} {e : Ending} (hr : readN s d = some t) (he : e = .returned (.tuple #[v, .bool true])) (hg : w.grownBy w' none) (ha : RepI w' (fun b => w.heap.size ≤ b) d t v) : NestPost s d w e w' := by
  unfold NestPost
  rw [hr]
  exact ⟨v, he, hg, ha⟩
theorem gr_set_new {w w1 : World} {g i : Nat} (h : w.grownBy w1 none) (hg : w.heap.size ≤ g) (u : Value) : w.grownBy (w1.setCell ⟨g, i, none⟩ u) none := gr_new h (gr_set w1 g i u) hg
theorem RepI.iface {w : World} {S : Nat → Prop} : ∀ {d : Nat} {t : T d} {v : Value}, RepI w S d t v → ∃ ty pv, v = .iface ty pv
  | 0, _, _, h => ⟨_, _, h⟩
  | _ + 1, _, _, h => Nd.iface h

/-- The blocks that readNested makes first: the two results and the reader. -/
structure Three (w w3 : World) : Prop where
  gr : w.grownBy w3 none
  size : w3.heap.size = w.heap.size + 3
  c0 : w3.cell? ⟨w.heap.size, 0, none⟩ = some .nilIface
  f0 : w3.frozen? ⟨w.heap.size, 0, none⟩ = false
  c1 : w3.cell? ⟨w.heap.size + 1, 0, none⟩ = some (.bool false)
  f1 : w3.frozen? ⟨w.heap.size + 1, 0, none⟩ = false
theorem three (w : World) (s : ByteArray) : Three w (((w.alloc (.cells #[.nilIface] 87)).alloc (.cells #[.bool false] 4)).alloc (.cells #[.string s, .int .i64 0] 116)) := by
  have h := cell_two w .nilIface (.bool false) 87 4
  refine ⟨(World.grownBy_alloc _ _ _).trans ((World.grownBy_alloc _ _ _).trans (World.grownBy_alloc _ _ _)), by simp, ?_, ?_, ?_, ?_⟩
  · rw [World.cell?_alloc_lt _ _ _ (by simp; omega)]; exact h.1
  · simp [go_sem]
  · rw [World.cell?_alloc_lt _ _ _ (by simp)]; exact h.2
  · simp [go_sem]

set_option maxHeartbeats 1000000 in
theorem nest_in (n : Int) (d : Nat) (s : ByteArray) (w : World) (hnd : n = d) (h0 : 0 ≤ n) (h3 : n ≤ 3) (hs : s.size ≤ 400) :
    Calls Tryz.prog 45 #[.string s, .int .i64 n] w (NestPost s d w) := by
  have hmf := makeFunc_run
  have HND := Lib.hid hnd
  have hd3 : d ≤ 3 := by omega
  clear hnd
  go_enter_defers Tryz.func45, Tryz.ntmps45
  go_wp2_with fail
  clear hmf
  refine (array_any _ s hs d n 0 _ HND.out (by omega) (rdr_new s (by simp))).mono ?_
  have H3 := Lib.hid (three w s)
  generalize ((w.alloc (.cells #[.nilIface] 87)).alloc (.cells #[.bool false] 4)).alloc (.cells #[.string s, .int .i64 0] 116) = w3 at H3
  rintro e w4 ⟨hg4, ⟨t, q, v, hn, rfl, hr4, ha4⟩ | ⟨hn, b, rfl⟩⟩
  · have hs3 := H3.out.size
    have hc0 := hg4.cell H3.out.c0 (by simp; omega)
    have hf0 := frozen_grown hg4 (by omega) (by simp; omega) H3.out.f0
    have hc1 := hg4.cell H3.out.c1 (by simp)
    have hf1 := frozen_grown hg4 (by omega) (by simp) H3.out.f1
    have HG4 := Lib.hid hg4
    have HN := Lib.hid hn
    have HR4 := Lib.hid hr4
    have HA4 := Lib.hid ha4
    have hz4 := hg4.size
    have hqs := node_ge s d 0 t q hn
    obtain ⟨ty, pv, rfl⟩ := ha4.iface
    clear hg4 hn hr4 ha4
    go_wp2_with fail
    have HR5 := Lib.hid (HR4.out.grown (gr_set w4 w.heap.size 0 (.iface ty pv)) (by simp; omega))
    by_cases hend : q = s.size
    · refine (end_yes _ q s _ HR5.out (by omega)).mono ?_
      rintro e w6 ⟨rfl, n6, rfl⟩
      have HE := Lib.hid hend
      clear hend
      go_wp2_with fail
      refine leaves_cons (f := 65) (args := #[.pointer (some ⟨w.heap.size, 0, none⟩), .pointer (some ⟨w.heap.size + 1, 0, none⟩)]) (by simp) (by simp [go_sem]) ?_
      refine (catch_idle _ _ _).mono ?_
      rintro e u' w'' ⟨rfl, rfl, rfl⟩
      simp [Leaves, settle, results, Tryz.results45, go_sem, hc0, hc1]
      have hr : readN s d = some t := by rw [readN, HN.out]; exact if_pos HE.out
      have hg0 := gr_new H3.out.gr HG4.out (by omega)
      have hg1 : w.grownBy ((w4.setCell ⟨w.heap.size, 0, none⟩ (.iface ty pv)).drewN n6) none := (gr_set_new hg0 (by omega) (.iface ty pv)).trans (gr_drewN _ n6 none)
      refine nestPost_yes hr rfl (gr_set_new (gr_set_new hg1 (by omega) _) (by omega) _) (RepI.keep ?_ ?_ d t _ HA4.out)
      · intro b hb _
        rw [Below.heap_setCell _ _ _ _ (by simp; omega), Below.heap_setCell _ _ _ _ (by simp; omega)]
        exact Below.heap_setCell _ _ _ _ (by simp; omega)
      · intro b hb _
        omega
    · refine (end_no _ q s _ HR5.out (by omega)).mono ?_
      rintro e w6 ⟨⟨b, rfl⟩, hg6⟩
      have hr : readN s d = none := by rw [readN, HN.out]; exact if_neg hend
      have HR := Lib.hid hr
      have hb0 : ((w4.setCell ⟨w.heap.size, 0, none⟩ (.iface ty pv)).cell? ⟨w.heap.size, 0, none⟩) = some (.iface ty pv) := by simp [go_sem, hc0]
      have hg5 := gr_set w4 w.heap.size 0 (.iface ty pv)
      have hb1 := hg5.cell hc1 (by simp)
      have hbf0 := (by simpa [go_sem] using hf0 : (w4.setCell ⟨w.heap.size, 0, none⟩ (.iface ty pv)).frozen? ⟨w.heap.size, 0, none⟩ = false)
      have hbf1 := frozen_grown hg5 (by omega) (by simp) hf1
      have hd0 := hg6.cell hb0 (by simp; omega)
      have hd1 := hg6.cell hb1 (by simp)
      have hdf0 := frozen_grown hg6 (by simp; omega) (by simp; omega) hbf0
      have hdf1 := frozen_grown hg6 (by simp; omega) (by simp) hbf1
      have HG := Lib.hid (gr_new (gr_set_new (gr_new H3.out.gr HG4.out (by omega)) (by omega) (.iface ty pv)) hg6 (by omega))
      clear hr hb0 hg5 hb1 hbf0 hbf1 hg6 hc0 hc1 hf0 hf1
      refine leaves_cons (f := 65) (args := #[.pointer (some ⟨w.heap.size, 0, none⟩), .pointer (some ⟨w.heap.size + 1, 0, none⟩)]) (by simp) (by simp [go_sem]) ?_
      refine (catch_fell _ _ b _ _ _ hd0 hdf0 hd1 hdf1 (by simp)).mono ?_
      rintro e u' w'' ⟨rfl, rfl, rfl⟩
      simp [Leaves, settle, results, Tryz.results45, go_sem, hd0, hd1]
      exact nestPost_no HR.out rfl (gr_set_new (gr_set_new HG.out (by omega) _) (by omega) _)
  · have hs3 := H3.out.size
    have hc0 := hg4.cell H3.out.c0 (by simp; omega)
    have hf0 := frozen_grown hg4 (by omega) (by simp; omega) H3.out.f0
    have hc1 := hg4.cell H3.out.c1 (by simp)
    have hf1 := frozen_grown hg4 (by omega) (by simp) H3.out.f1
    have hr : readN s d = none := by rw [readN, hn]
    have HR := Lib.hid hr
    have HG := Lib.hid (gr_new H3.out.gr hg4 (by omega))
    clear hr hn hg4
    refine leaves_cons (f := 65) (args := #[.pointer (some ⟨w.heap.size, 0, none⟩), .pointer (some ⟨w.heap.size + 1, 0, none⟩)]) (by simp) (by simp [go_sem]) ?_
    refine (catch_fell _ _ b _ _ _ hc0 hf0 hc1 hf1 (by simp)).mono ?_
    rintro e u' w'' ⟨rfl, rfl, rfl⟩
    simp [Leaves, settle, results, Tryz.results45, go_sem, hc0, hc1]
    exact nestPost_no HR.out rfl (gr_set_new (gr_set_new HG.out (by omega) _) (by omega) _)
end

/- SRead -/
section
open Go.RowKit

set_option maxHeartbeats 400000 in
theorem snode_n1 (g p d : Nat) (n : Int) (s : ByteArray) (w : World) (h : SRdr w g s p false) (hn1 : 1 ≤ n) (hc : ba s p ≠ 91) :
    Calls Tryz.prog 38 #[.pointer (some ⟨g, 0, none⟩), .int .i64 n] w (SArrPost s (d + 1) p g w) := by
  have HR := Lib.hid h
  have hgw := h.lt
  have HC := Lib.hid hc
  have e0 : (n == 0) = false := by rw [beq_eq_false_iff_ne]; omega
  clear h hc
  go_enter Tryz.func38, Tryz.ntmps38
  go_wp2_with fail
  clear e0
  refine (is_no g p s 91 false _ (((HR.out.alloc _).alloc _).alloc _) HC.out).mono ?_
  have HB := Lib.hid (begun w)
  have HR3 := Lib.hid (((HR.out.alloc (.cells #[.int .i64 0, .slice none 0 0] 50)).alloc (.cells #[] 50)).alloc (.cells #[.int .i64 0, .slice (some ⟨w.heap.size + 1, 0, none⟩) 0 0] 50))
  generalize ((w.alloc (.cells #[.int .i64 0, .slice none 0 0] 50)).alloc (.cells #[] 50)).alloc (.cells #[.int .i64 0, .slice (some ⟨w.heap.size + 1, 0, none⟩) 0 0] 50) = w3 at HB HR3
  rintro e w4 ⟨rfl, n4, rfl⟩
  have HL := Lib.hid (slf_start HB.out HR3.out)
  have c2 := HL.out.rdr.c2
  have cf := HL.out.rdr.f 2
  have r0 := HL.out.res.c0
  have r1 := HL.out.res.c1
  have u0 := HL.out.out.c0
  have u1 := HL.out.out.c1
  have f0 := HL.out.res.f 0
  have f1 := HL.out.res.f 1
  have hne : ¬ g = w.heap.size := by omega
  have hne2 : ¬ g = w.heap.size + 1 + 1 := by omega
  go_wp2_with fail
  refine bodyPost_ret (v := .agg #[.int .i64 0, .slice (some ⟨w.heap.size + 1, 0, none⟩) 0 0]) (by simp [results, Tryz.results38, go_sem, r0, r1]) rfl ?_
  exact HL.out.end_bad (parts_n1 HC.out) ((gr_drewN w3 _ _).trans (gr_set _ g 2 (.bool true))) ((HL.out.rdr.drewN _).set2 true) hgw

theorem parts_more {s : ByteArray} {d p : Nat} (h : ba s p = 91) (h2 : ba s (p + 1) = 93) : parts s (node s d) p = cons' [] (more s (node s d) (s.size + 1) (p + 1)) := by
  rw [parts_e h h2, more, if_pos h2]
  rfl

set_option maxHeartbeats 400000 in
theorem snode_e (g p d : Nat) (n : Int) (s : ByteArray) (w : World) (h : SRdr w g s p false) (hs : s.size ≤ 400) (hn1 : 1 ≤ n) (hc : ba s p = 91) (hc2 : ba s (p + 1) = 93) :
    Calls Tryz.prog 38 #[.pointer (some ⟨g, 0, none⟩), .int .i64 n] w (SArrPost s (d + 1) p g w) := by
  have HR := Lib.hid h
  have hgw := h.lt
  have HC := Lib.hid hc
  have HC2 := Lib.hid hc2
  have hp1 : p < s.size := ba_lt (by omega)
  have e0 : (n == 0) = false := by rw [beq_eq_false_iff_ne]; omega
  clear h hc hc2
  go_enter Tryz.func38, Tryz.ntmps38
  go_wp2_with fail
  clear e0
  refine (is_yes g p s 91 false _ (((HR.out.alloc _).alloc _).alloc _) (by omega) HC.out hs).mono ?_
  have HB := Lib.hid (begun w)
  have HR3 := Lib.hid (((HR.out.alloc (.cells #[.int .i64 0, .slice none 0 0] 50)).alloc (.cells #[] 50)).alloc (.cells #[.int .i64 0, .slice (some ⟨w.heap.size + 1, 0, none⟩) 0 0] 50))
  generalize ((w.alloc (.cells #[.int .i64 0, .slice none 0 0] 50)).alloc (.cells #[] 50)).alloc (.cells #[.int .i64 0, .slice (some ⟨w.heap.size + 1, 0, none⟩) 0 0] 50) = w3 at HB HR3
  rintro e w4 ⟨rfl, hr4, hg4⟩
  have HL4 := Lib.hid ((slf_start HB.out HR3.out).reader hg4 hr4 hgw)
  clear hr4 hg4
  go_wp2_with fail
  refine (is_yes g (p + 1) s 93 false w4 HL4.out.rdr (by omega) HC2.out hs).mono ?_
  rintro e w5 ⟨rfl, hr5, hg5⟩
  have hl5 := HL4.out.reader hg5 hr5 hgw
  have r0 := hl5.res.c0
  have r1 := hl5.res.c1
  have u0 := hl5.out.c0
  have u1 := hl5.out.c1
  have f0 := hl5.res.f 0
  have f1 := hl5.res.f 1
  have HG := Lib.hid (show SLg s d p g w w4 (.slice (some ⟨w.heap.size + 1, 0, none⟩) 0 0) [] [] (s.size + 1) (p + 1) from ⟨HL4.out, by omega, by omega, parts_more HC.out HC2.out, Nat.zero_le _, trivial⟩)
  have HR5 := Lib.hid hr5
  have HG5 := Lib.hid hg5
  clear hr5 hg5 hl5
  go_wp2_with fail
  refine bodyPost_ret (v := .agg #[.int .i64 0, .slice (some ⟨w.heap.size + 1, 0, none⟩) 0 0]) (by simp [results, Tryz.results38, go_sem, r0, r1]) rfl ?_
  exact HG.out.end_good HC2.out HG5.out HR5.out hgw

theorem snode_any (g : Nat) (s : ByteArray) (hs : s.size ≤ 400) : ∀ (d : Nat) (n : Int) (p : Nat) (w : World), n = d → d ≤ 1000 → SRdr w g s p false → p ≤ s.size →
    Calls Tryz.prog 38 #[.pointer (some ⟨g, 0, none⟩), .int .i64 n] w (SArrPost s d p g w)
  | 0, n, p, w, hn, _, h, hp => by obtain rfl : n = 0 := hn; exact snode0 g p s w h hs hp
  | d + 1, n, p, w, hn, hd, h, hp => by
    by_cases hc : ba s p = 91
    · by_cases hc2 : ba s (p + 1) = 93
      · exact snode_e g p d n s w h hs (by omega) hc hc2
      · exact snode_main g p d n s w h hs (by omega) (by omega) hc hc2 (fun p w h hp => snode_any g s hs d (n - 1) p w (by omega) (by omega) h hp)
    · exact snode_n1 g p d n s w h (by omega) hc
end

/- L1Read -/
section
open Go.RowKit

def SReadNo (w : World) (e : Ending) (w' : World) : Prop := e = .returned (.tuple #[.agg #[.int .i64 0, .slice none 0 0], .bool false]) ∧ w.grownBy w' none
def SReadPost (s : ByteArray) (d : Nat) (w : World) (e : Ending) (w' : World) : Prop := match readN s d with
  | some t => ∃ m sv, e = .returned (.tuple #[.agg #[.int .i64 m, sv], .bool true]) ∧ (∃ A k c, sv = .slice A k c) ∧ w.grownBy w' none ∧ SNd w' (fun b => w.heap.size ≤ b) d t (m, sv)
  | none => SReadNo w e w'

theorem sread_no {s : ByteArray} {d : Nat} {w w' : World} {e : Ending} (hr : readN s d = none) (he : e = .returned (.tuple #[.agg #[.int .i64 0, .slice none 0 0], .bool false])) (hg : w.grownBy w' none) : SReadPost s d w e w' := by
  unfold SReadPost
  rw [hr]
  exact ⟨he, hg⟩
theorem sread_yes {s : ByteArray} {d : Nat} {t : T d} {w w' : World} {e : Ending} {m : Int} {A : Option Addr} {k c : Nat} (hr : readN s d = some t) (he : e = .returned (.tuple #[.agg #[.int .i64 m, .slice A k c], .bool true])) (hg : w.grownBy w' none) (ha : SNd w' (fun b => w.heap.size ≤ b) d t (m, .slice A k c)) : SReadPost s d w e w' := by
  unfold SReadPost
  rw [hr]
  exact ⟨m, _, he, ⟨_, _, _, rfl⟩, hg, ha⟩

set_option maxHeartbeats 400000 in
theorem sread_out (n : Int) (s : ByteArray) (w : World) (h : n < 0 ∨ 3 < n ∨ 400 < s.size) :
    Calls Tryz.prog 25 #[.string s, .int .i64 n] w (SReadNo w) := by
  by_cases hn : 0 ≤ n ∧ n ≤ 3
  · have hs : 400 < s.size := by omega
    have HI := Lib.hid (fun w => in_any n 0 3 true (decide_eq_true hn) w)
    clear hn h
    go_enter Tryz.func25, Tryz.ntmps25
    go_wp2_with fail
    refine (HI.out _).mono ?_
    rintro e w1 ⟨rfl, rfl⟩
    go_wp2_with fail
    refine bodyPost_ret (v := .tuple #[.agg #[.int .i64 0, .slice none 0 0], .bool false]) (by simp [results, Tryz.results25, go_sem]) rfl ?_
    exact ⟨rfl, World.grownBy_alloc _ _ _⟩
  · have HI := Lib.hid (fun w => in_any n 0 3 false (decide_eq_false hn) w)
    clear hn h
    go_enter Tryz.func25, Tryz.ntmps25
    go_wp2_with fail
    refine (HI.out _).mono ?_
    rintro e w1 ⟨rfl, rfl⟩
    go_wp2_with fail
    refine bodyPost_ret (v := .tuple #[.agg #[.int .i64 0, .slice none 0 0], .bool false]) (by simp [results, Tryz.results25, go_sem]) rfl ?_
    exact ⟨rfl, World.grownBy_alloc _ _ _⟩

theorem srdr_new {w : World} {k : Nat} (s : ByteArray) (hk : w.heap.size = k) : SRdr (w.alloc (.cells #[.string s, .int .i64 0, .bool false] 75)) k s 0 false := by
  subst hk
  exact heap_alloc_new _ _

set_option maxHeartbeats 1000000 in
theorem sread_in (n : Int) (d : Nat) (s : ByteArray) (w : World) (hnd : n = d) (h0 : 0 ≤ n) (h3 : n ≤ 3) (hs : s.size ≤ 400) :
    Calls Tryz.prog 25 #[.string s, .int .i64 n] w (SReadPost s d w) := by
  have HI := Lib.hid (fun w => in_any n 0 3 true (decide_eq_true ⟨h0, h3⟩) w)
  have HND := Lib.hid hnd
  have hd3 : d ≤ 3 := by omega
  clear hnd
  go_enter Tryz.func25, Tryz.ntmps25
  go_wp2_with fail
  refine (HI.out _).mono ?_
  rintro e w1 ⟨rfl, rfl⟩
  go_wp2_with fail
  refine (snode_any _ s hs d n 0 _ HND.out (by omega) (srdr_new s (by simp)) (Nat.zero_le _)).mono ?_
  rintro e w4 ⟨hg4, m, sv, rfl, ⟨A, k, c, rfl⟩, hcase⟩
  have hR : Two ((w.alloc (.cells #[.int .i64 0, .slice none 0 0] 50)).alloc (.cells #[.string s, .int .i64 0, .bool false] 75)) w.heap.size (.int .i64 0) (.slice none 0 0) := (two_new w _ _ rfl).alloc _
  have hz4 := hg4.size
  simp at hz4
  have HRES := Lib.hid (hR.grown hg4 (by simp))
  have HGR := Lib.hid (gr_new ((World.grownBy_alloc w (.cells #[.int .i64 0, .slice none 0 0] 50) none).trans (World.grownBy_alloc _ (.cells #[.string s, .int .i64 0, .bool false] 75) none)) hg4 (by omega))
  have hR5 := HRES.out.alloc (.cells #[.int .i64 m, .slice A k c] 50)
  have r0 := hR5.c0
  have r1 := hR5.c1
  have f0 := hR5.f 0
  have f1 := hR5.f 1
  have HG5 := Lib.hid (HGR.out.trans (World.grownBy_alloc w4 (.cells #[.int .i64 m, .slice A k c] 50) none))
  clear hR hR5
  rcases hcase with ⟨t, q, hn, hr, hnd⟩ | ⟨hn, q, hr⟩
  · have hqs := node_ge s d 0 t q hn
    have HN := Lib.hid hn
    have HR4 := Lib.hid hr
    have HA := Lib.hid hnd
    have c2 := (hr.alloc (.cells #[.int .i64 m, .slice A k c] 50)).c2
    have c1 := (hr.alloc (.cells #[.int .i64 m, .slice A k c] 50)).c1
    clear hn hr hnd hg4
    by_cases hend : q = s.size
    · have hb : ((q : Int) != (s.size : Int)) = false := by rw [hend]; simp
      have HE := Lib.hid hend
      clear hend
      go_wp2_with fail
      refine bodyPost_ret (v := .tuple #[.agg #[.int .i64 m, .slice A k c], .bool true]) (by simp [results, Tryz.results25, go_sem, r0, r1]) rfl ?_
      refine sread_yes (by rw [readN, HN.out]; exact if_pos HE.out) rfl (gr_set_new (gr_set_new HG5.out (Nat.le_refl _) _) (Nat.le_refl _) _) (SNd.keep ?_ ?_ d t _ HA.out)
      · intro b hb hb2
        simp at hb
        rw [Below.heap_setCell _ _ _ _ (by simp; omega), Below.heap_setCell _ _ _ _ (by simp; omega)]
        exact Below.heap_alloc _ _ _ hb2
      · intro b hb _
        simp at hb
        omega
    · have hb : ((q : Int) != (s.size : Int)) = true := by rw [bne_iff_ne]; omega
      have HE := Lib.hid hend
      clear hend
      go_wp2_with fail
      refine bodyPost_ret (v := .tuple #[.agg #[.int .i64 0, .slice none 0 0], .bool false]) (by simp [results, Tryz.results25, go_sem, r0, r1]) rfl ?_
      exact sread_no (by rw [readN, HN.out]; exact if_neg HE.out) rfl (gr_set_new (gr_set_new HG5.out (Nat.le_refl _) _) (Nat.le_refl _) _)
  · have HN := Lib.hid hn
    have c2 := (hr.alloc (.cells #[.int .i64 m, .slice A k c] 50)).c2
    clear hn hr hg4
    go_wp2_with fail
    refine bodyPost_ret (v := .tuple #[.agg #[.int .i64 0, .slice none 0 0], .bool false]) (by simp [results, Tryz.results25, go_sem, r0, r1]) rfl ?_
    exact sread_no (by rw [readN, HN.out]) rfl (gr_set_new (gr_set_new HG5.out (Nat.le_refl _) _) (Nat.le_refl _) _)

/-- Is the text an array of the depth? -/
def isArr (s : ByteArray) (n : Int) : Bool := decide (0 ≤ n ∧ n ≤ 3 ∧ s.size ≤ 400) && (readN s n.toNat).isSome
end

/- ValidI -/
section
open Go.RowKit

theorem valid_impl (s : ByteArray) (n : Int) (w : World) :
    Calls Tryz.prog 84 #[.string s, .int .i64 n] w fun e w' => e = .returned (.bool (isArr s n)) ∧ w.grownBy w' none := by
  by_cases h : 0 ≤ n ∧ n ≤ 3 ∧ s.size ≤ 400
  · have HC := Lib.hid (nest_in n n.toNat s w (by omega) h.1 h.2.1 h.2.2)
    cases hr : readN s n.toNat with
    | none =>
      have hv : isArr s n = false := by unfold isArr; rw [hr]; simp
      rw [hv]
      have HR := Lib.hid hr
      clear h hv hr
      go_enter Tryz.func84, Tryz.ntmps84
      go_wp2_with fail
      refine HC.out.mono ?_
      intro e w1 hp
      unfold NestPost at hp
      rw [HR.out] at hp
      obtain ⟨rfl, hg⟩ := hp
      have HG := Lib.hid hg
      clear hg
      go_wp2_with fail
      go_ret
      exact ⟨rfl, HG.out⟩
    | some t =>
      have hv : isArr s n = true := by unfold isArr; rw [hr]; simp; omega
      rw [hv]
      have HR := Lib.hid hr
      clear h hv hr
      go_enter Tryz.func84, Tryz.ntmps84
      go_wp2_with fail
      refine HC.out.mono ?_
      intro e w1 hp
      unfold NestPost at hp
      rw [HR.out] at hp
      obtain ⟨v, rfl, hg, ha⟩ := hp
      obtain ⟨ty, pv, rfl⟩ := ha.iface
      have HG := Lib.hid hg
      clear hg ha
      go_wp2_with fail
      go_ret
      exact ⟨rfl, HG.out⟩
  · have HC := Lib.hid (nest_out n s w (by omega))
    have hv : isArr s n = false := by unfold isArr; simp [h]
    rw [hv]
    clear h hv
    go_enter Tryz.func84, Tryz.ntmps84
    go_wp2_with fail
    refine HC.out.mono ?_
    rintro e w1 ⟨rfl, hg⟩
    have HG := Lib.hid hg
    clear hg
    go_wp2_with fail
    go_ret
    exact ⟨rfl, HG.out⟩
end

end Go.Proofs.YtachjodnhgmoiaaGreatDoor

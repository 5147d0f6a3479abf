/- What the reader's readNumber of the program does: the number that stands at the place, or a panic, for every text of at most 400 bytes. -/
import Derived.Test.YtachjodnhgmoiaaStrs0
import Derived.IntWalk
namespace Go.Proofs.Ytachjodnhgmoiaa
open Go.RowKit

/-- How readNumber ends. -/
def NumPost (s : ByteArray) (p g : Nat) (w : World) (e : Ending) (w' : World) : Prop :=
  w.grownBy w' (some g) ∧ ((∃ v q, num s p = some (v, q) ∧ e = .returned (.int .i64 (v : Nat)) ∧ Rdr w' g s q) ∨ (num s p = none ∧ Fell e))

theorem numPost_fell {s : ByteArray} {p g : Nat} {w w' : World} {e : Ending} (hn : num s p = none) (hg : w.grownBy w' (some g)) (he : Fell e) : NumPost s p g w e w' :=
  ⟨hg, .inr ⟨hn, he⟩⟩
theorem numPost_ok {s : ByteArray} {p g v q : Nat} {w w' : World} {e : Ending} (hn : num s p = some (v, q)) (hg : w.grownBy w' (some g)) (he : e = .returned (.int .i64 (v : Nat))) (hr : Rdr w' g s q) : NumPost s p g w e w' :=
  ⟨hg, .inl ⟨v, q, hn, he, hr⟩⟩

set_option maxHeartbeats 400000 in
theorem number_none (g p : Nat) (s : ByteArray) (w : World) (h : Rdr w g s p) (hd : dg s p = false) :
    Calls Try.prog 39 #[.pointer (some ⟨g, 0, none⟩)] w (NumPost s p g w) := by
  have hn : num s p = none := num_none (.inl (nd_no hd))
  have H := Lib.hid (digit_any g p s w h false hd)
  have HN := Lib.hid hn
  clear hn hd h
  go_enter Try.func39, Try.ntmps39
  go_wp2_with fail
  refine H.out.mono ?_
  rintro e w' ⟨rfl, n, rfl⟩
  go_wp2_with fail
  exact ⟨rfl, numPost_fell HN.out (gr_drewN w n _) ⟨_, rfl⟩⟩

theorem dg_sub {s : ByteArray} {q : Nat} (h : dg s q = true) : ∃ hq : q < s.size, 48 ≤ (s[q].toNat : Int) ∧ (s[q].toNat : Int) ≤ 57 ∧ ((ba s q - 48).toNat : Int) = (s[q].toNat : Int) - 48 := by
  have hq := dg_lt h
  have := dg_yes h
  rw [ba_in hq] at *
  exact ⟨hq, by omega, by omega, by omega⟩

set_option maxHeartbeats 1000000 in
theorem number_some (g p : Nat) (s : ByteArray) (w : World) (h : Rdr w g s p) (hd : dg s p = true) (hs : s.size ≤ 400) :
    Calls Try.prog 39 #[.pointer (some ⟨g, 0, none⟩)] w (NumPost s p g w) := by
  have H := Lib.hid (digit_any g p s w h true hd)
  have HD := Lib.hid hd
  have HR := Lib.hid h
  have hlt := dg_lt hd
  have hnd : 0 < nd s p := by rw [nd_yes hd]; omega
  have hle := nd_le s p hnd
  clear hd h
  obtain ⟨Z, hZ⟩ : ∃ Z : Bool, decide (ba s p = 48) = Z := ⟨_, rfl⟩
  have HZ := Lib.hid hZ
  clear hZ
  go_enter Try.func39, Try.ntmps39
  go_wp2_with fail
  refine H.out.mono ?_
  rintro e w' ⟨rfl, n, rfl⟩
  go_wp2_with fail
  refine (sees_any g p s 48 _ (HR.out.drewN n) (by omega) Z HZ.out).mono ?_
  rintro e w' ⟨rfl, n2, rfl⟩
  go_wp2_with fail
  go_loopw [4, 5] (fun v d wr => ∃ k : Nat, k ≤ nd s p ∧ d = .int .i64 k ∧ v = .int .i64 (val s p k : Nat) ∧ val s p k < 10007 ∧ Hid (Z = true → k ≤ 1) ∧ Hid (Rdr wr g s (p + k)) ∧ Hid (w.grownBy wr (some g))) (fun _ d _ => nd s p - (intOf d).toNat)
  case atStart => exact ⟨0, Nat.zero_le _, rfl, rfl, by simp [val], Lib.hid (fun _ => Nat.zero_le _), Lib.hid ((HR.out.drewN n).drewN n2), Lib.hid (gr_drewN w _ _)⟩
  case round =>
    obtain ⟨k, hk, rfl, rfl, hv, hz1, hr, hgr⟩ := hrel
    by_cases hlt2 : k < nd s p
    · have hdk := nd_dg s k p hlt2
      have HDK := Lib.hid hdk
      go_wp2_with fail
      refine (digit_any g (p + k) s _ hr.out true HDK.out).mono ?_
      rintro e w' ⟨rfl, n3, rfl⟩
      go_wp2_with fail
      · have hk0 : 0 < k := by assumption
        have hZt : Z = true := by assumption
        refine ⟨rfl, numPost_fell (num_none (.inr (.inl ⟨?_, by omega⟩))) (hgr.out.trans (gr_drewN _ n3 _)) ⟨_, rfl⟩⟩
        have := HZ.out
        rw [hZt] at this
        simpa using this
      all_goals
        have HZK : Hid (Z = true → k = 0) := by
          intro hz
          first
            | (have hzf : Z = false := by assumption
               rw [hzf] at hz; cases hz)
            | omega
        obtain ⟨q, hqe⟩ : ∃ q, p + k = q := ⟨_, rfl⟩
        have HDQ := Lib.hid HDK.out
        have HRQ := Lib.hid hr.out
        rw [hqe] at HDQ HRQ
        have HQE := Lib.hid hqe
        clear hqe
        obtain ⟨hq, h48, h57, hdv⟩ := dg_sub HDQ.out
        have hc0 := HRQ.out.c0
        have hc1 := HRQ.out.c1
        have HDV := Lib.hid hdv
        clear hdv
        have w1 : IntKind.i64.wrap (10 * (val s p k : Int)) = 10 * (val s p k : Int) := IntWalk.i64_in _ (by omega)
        have w2 : IntKind.u8.wrap ((s[q].toNat : Int) - 48) = (s[q].toNat : Int) - 48 := IntWalk.u8_in _ (by omega)
        have w3 : IntKind.i64.wrap ((s[q].toNat : Int) - 48) = (s[q].toNat : Int) - 48 := IntWalk.i64_in _ (by omega)
        have w4 : IntKind.i64.wrap (10 * (val s p k : Int) + ((s[q].toNat : Int) - 48)) = 10 * (val s p k : Int) + ((s[q].toNat : Int) - 48) := IntWalk.i64_in _ (by omega)
        go_quiet (fail)
        clear w1 w2 w3 w4
        have hcf := HRQ.out.f 1
        have hq400 : q < 400 := by omega
        have hvs : ((val s p (k + 1) : Nat) : Int) = 10 * (val s p k : Int) + ((s[q].toNat : Int) - 48) := by
          have e1 := HDV.out
          have e2 := HQE.out
          rw [val, e2]
          omega
        have HVS := Lib.hid hvs
        clear hvs
        have hmn := val_mono s p (k + 1) (nd s p - (k + 1))
        have HMN := Lib.hid hmn
        clear hmn
        go_wp2_with fail
        · have hge : 10007 ≤ 10 * (val s p k : Int) + ((s[q].toNat : Int) - 48) := by assumption
          refine ⟨rfl, numPost_fell (num_none (.inr (.inr ?_))) (hgr.out.trans (gr_drewN _ _ _)) ⟨_, rfl⟩⟩
          have e1 := HVS.out
          have e2 := HMN.out
          rw [show k + 1 + (nd s p - (k + 1)) = nd s p from by omega] at e2
          omega
        · have hlt3 : 10 * (val s p k : Int) + ((s[q].toNat : Int) - 48) < 10007 := by assumption
          have e1 := HVS.out
          go_roundw
          case rel =>
            refine ⟨k + 1, by omega, by go_num, by rw [e1], by omega, Lib.hid (fun hz => by have := HZK.out hz; omega), Lib.hid ?_, Lib.hid ?_⟩
            · have := (HRQ.out.drewN (n3 + nq)).set1 (q + 1)
              rw [show p + (k + 1) = q + 1 from by have := HQE.out; omega]
              simpa using this
            · exact (hgr.out.trans (gr_drewN _ (n3 + nq) _)).trans (gr_set _ _ _ _)
          case measure => simp [intOf]; omega
    · have hk2 : k = nd s p := by omega
      have hst := nd_stop s k p hk2.symm
      have HK := Lib.hid hk2
      have HST := Lib.hid hst
      clear hk2 hst
      go_wp2_with fail
      refine (digit_any g (p + k) s _ hr.out false HST.out).mono ?_
      rintro e w' ⟨rfl, n3, rfl⟩
      go_wp2_with fail
      go_ret
      refine numPost_ok (q := p + nd s p) (num_some (by omega) ?_ ?_) (hgr.out.trans (gr_drewN _ _ _)) ?_ ?_
      · intro hz
        have h1 := hz1.out (by rw [← HZ.out]; simpa using hz)
        have h2 := HK.out
        omega
      · rw [← HK.out]; exact hv
      · rw [← HK.out]; rfl
      · have := hr.out.drewN n3
        rw [HK.out] at this
        exact this

theorem number_any (g p : Nat) (s : ByteArray) (w : World) (h : Rdr w g s p) (hs : s.size ≤ 400) :
    Calls Try.prog 39 #[.pointer (some ⟨g, 0, none⟩)] w (NumPost s p g w) := by
  cases hd : dg s p with
  | true => exact number_some g p s w h hd hs
  | false => exact number_none g p s w h hd

end Go.Proofs.Ytachjodnhgmoiaa

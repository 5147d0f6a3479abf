/- What ShapeOf of the model does. -/
import Derived.Test.YtachjodnhgmoiaaShI
import Derived.Test.YtachjodnhgmoiaaRawLay
import Derived.Deep.AppendLies
import Derived.RangeFuncBox
namespace Go.Proofs.Ytachjodnhgmoiaa
open Go.RowKit Go.Shelf

/-- LayOut of the model, as ShapeOf wants it. -/
theorem slayout_sh (s : ByteArray) (n : Int) (w : World) : Calls Try.prog 12 #[.string s, .int .i64 n] w fun e w' => ∃ u D, e = .returned (.tuple #[u, .bool (isArr s n)]) ∧ w.grownBy w' none ∧ Lyt w' u (shLL s n) D := by
  refine (slayout_any s n w).mono ?_
  rintro e w' ⟨hg, ⟨hb, u, rfl, hl⟩ | ⟨hb, t, u, ht, rfl, hl⟩⟩
  · have e : shLL s n = [] := by unfold shLL; rw [hb]; rfl
    exact ⟨_, [], by rw [hb], hg, by rw [e]; exact hl⟩
  · have e : shLL s n = lv n.toNat [t] := by unfold shLL; rw [if_pos hb, ht]
    exact ⟨u, _, by rw [hb], hg, by rw [e]; exact hl⟩

/-- How ShapeOf of the model ends. -/
def ShSP (s : ByteArray) (n : Int) (w : World) (e : Ending) (w' : World) : Prop :=
  ∃ A c, e = .returned (.tuple #[.slice A (shZ s n).length c, .bool (shB s n)]) ∧ w.grownBy w' none ∧ Ints w' A (shZ s n)

theorem hd_at {L : List Int} (h : 0 < L.length) : L[0]? = some (hdI L) := by
  cases L with
  | nil => simp at h
  | cons z l => rfl
theorem even_not {L : List Int} {j : Nat} {z : Int} (h : L[j]? = some z) (hne : z ≠ hdI L) : evenL L = false := by
  rw [evenL, List.all_eq_false]
  exact ⟨z, List.mem_of_getElem? h, by simpa using hne⟩
theorem even_step {L : List Int} {j : Nat} {z : Int} (h : L[j]? = some z) (hz : z = hdI L) (hj : (L.take j).all (fun x => x == hdI L) = true) : (L.take (j + 1)).all (fun x => x == hdI L) = true := by
  rw [List.take_add_one, h, List.all_append, hj]
  simp [hz]
theorem evenLL_not {LL : List (List Int)} {L : List Int} {j : Nat} (h : LL[j]? = some L) (he : evenL L = false) : evenLL LL = false := by
  rw [evenLL, List.all_eq_false]
  exact ⟨L, List.mem_of_getElem? h, by simp [he]⟩

set_option maxRecDepth 100000 in
set_option maxHeartbeats 4000000 in
theorem shape_spec (s : ByteArray) (n : Int) (w : World) : Calls Try.prog 5 #[.string s, .int .i64 n] w (ShSP s n w) := by
  obtain ⟨i0, hi0, hz0, hz1, hz2⟩ := info_parts infoJ
  have HL := Lib.hid (slayout_sh s n w)
  have hl3 := shLL_len s n
  have HSZ := Lib.hid (shLL_sz s n)
  obtain ⟨b, hb⟩ : ∃ b, isArr s n = b := ⟨_, rfl⟩
  obtain ⟨LL, hLL⟩ : ∃ LL, shLL s n = LL := ⟨_, rfl⟩
  have HB := Lib.hid hb
  have HE := Lib.hid hLL
  rw [hb, hLL] at HL
  rw [hLL] at HSZ hl3
  have HB0 := Lib.hid (show b = false → LL = [] by
    rintro rfl
    rw [← HE.out]
    unfold shLL
    rw [HB.out]
    rfl)
  clear hb hLL
  go_enter Try.func5, Try.ntmps5
  go_wp2_with fail
  refine HL.out.mono ?_
  rintro e w1 ⟨u, D, rfl, hg1, hl1⟩
  obtain ⟨A, c, B, d, rfl, _, _, hR, _⟩ := hl1
  obtain ⟨k, hk⟩ : ∃ k, LL.length = k := ⟨_, rfl⟩
  have HK := Lib.hid hk
  rw [hk] at hl3 ⊢
  generalize D.length = m at *
  have HR := Lib.hid hR
  have HG1 := Lib.hid hg1
  have HGB := Lib.hid ((World.grownBy_alloc w1 (.cells #[.slice A k c, .slice B m d] 30) none).trans (World.grownBy_alloc _ (.cells #[] 3) none))
  have HP := Lib.hid (Pr.new w1 30 (.slice A k c) (.slice B m d))
  have HO := Lib.hid (World.ownsRow_made (base := w1.heap.size) (e := 3) (size := 1) (w1.alloc (.cells #[.slice A k c, .slice B m d] 30)) #[] 0 (by simp) (by simp) (by simp))
  have p0 := HP.out.c0
  clear hg1 hR hk
  go_wp2_with fail
  generalize (w1.alloc (.cells #[.slice A k c, .slice B m d] 30)).alloc (.cells #[] 3) = w2 at HGB HO ⊢
  rw [sz_alloc] at HO
  have hEND : Hid (shB s n = (b && evenLL LL)) := Lib.hid (by unfold shB; rw [HB.out, HE.out])
  go_loopw [8, 10, 12, 23] (fun o _ _ i wr => ∃ (j g8 c8 : Nat) (zs : List Value), j ≤ k ∧ i = .int .i64 j ∧ o = .slice (some ⟨g8, 0, none⟩) j c8 ∧ Hid (zs = ((LL.map hdI).take j).map (Value.int .i64)) ∧ Hid (wr.ownsRow w1.heap.size 3 1 (.slice (some ⟨g8, 0, none⟩) j c8) j zs) ∧ Hid (w1.grownBy wr none) ∧ Hid ((LL.take j).all evenL = true)) (fun _ _ _ i _ => k - (intOf i).toNat)
  case atStart => exact ⟨0, _, _, _, Nat.zero_le _, rfl, rfl, Lib.hid rfl, HO, HGB, Lib.hid rfl⟩
  case round =>
    obtain ⟨j, g8, c8, zs, hj, rfl, rfl, hzs, ho, hgr, hev⟩ := hrel
    by_cases hlt : j < k
    · obtain ⟨L, hL⟩ : ∃ L, LL[j]? = some L := ⟨_, List.getElem?_eq_getElem (by have := HK.out; omega)⟩
      obtain ⟨b1, off, rfl, _, hc⟩ := (HR.out.grown hgr.out) (by have := HK.out; omega)
      obtain ⟨Bj, cj, hcj, hlc, hij⟩ := hc j L hL
      have hlen := HSZ.out L (List.mem_of_getElem? hL)
      have HLE := Lib.hid hL
      have HIJ := Lib.hid hij
      have HST := Lib.hid (show (LL.map hdI).take (j + 1) = (LL.map hdI).take j ++ [hdI L] by rw [List.take_add_one, List.getElem?_map, hL]; rfl)
      obtain ⟨q, hq⟩ : ∃ q, L.length = q := ⟨_, rfl⟩
      have HQ := Lib.hid hq
      rw [hq] at hcj hlc hlen
      clear hL hc hij hq
      go_wp2_with fail
      go_loopw [12, 29] (fun _ i2 wr2 => ∃ j2 : Nat, j2 ≤ q ∧ i2 = .int .i64 j2 ∧ wr2 = wr ∧ Hid ((L.take j2).all (fun x => x == hdI L) = true)) (fun _ i2 _ => q - (intOf i2).toNat)
      case atStart => exact ⟨0, Nat.zero_le _, rfl, rfl, Lib.hid rfl⟩
      case round =>
        obtain ⟨j2, hj2, rfl, rfl, hal⟩ := hrel
        by_cases hlt2 : j2 < q
        · obtain ⟨b2, off2, rfl, _, hc2⟩ := HIJ.out (by have := HQ.out; omega)
          obtain ⟨z, hz⟩ : ∃ z, L[j2]? = some z := ⟨_, List.getElem?_eq_getElem (by have := HQ.out; omega)⟩
          have hcell := hc2 j2 z hz
          have hcell0 := hc2 0 _ (hd_at (by have := HQ.out; omega))
          rw [Nat.add_zero] at hcell0
          have HZ := Lib.hid hz
          obtain ⟨h0, hh0⟩ : ∃ h0, hdI L = h0 := ⟨_, rfl⟩
          have HH0 := Lib.hid hh0
          rw [hh0] at hcell0
          have hq0 : 0 < q := by omega
          clear hc2 hz hh0
          by_cases hzz : z = h0
          · have hbn : (z != h0) = false := by rw [hzz]; simp
            have HZZ := Lib.hid hzz
            clear hzz
            go_wp2_with fail
            go_roundw
            case rel => exact ⟨j2 + 1, by omega, by go_num, trivial, Lib.hid (even_step HZ.out (by rw [HZZ.out, HH0.out]) hal.out)⟩
            case measure => simp [intOf]; omega
          · have hbn : (z != h0) = true := by rw [bne_iff_ne]; exact hzz
            have HF := Lib.hid (evenLL_not HLE.out (even_not HZ.out (by rw [HH0.out]; exact hzz)))
            clear hzz
            go_wp2_with fail
            go_ret2
            have e1 : shB s n = false := by rw [hEND.out, HF.out]; simp
            have e2 : shZ s n = [] := by unfold shZ; rw [e1]; rfl
            unfold ShSP
            rw [e2, e1]
            exact ⟨_, _, rfl, HG1.out.trans (hgr.out.trans (World.grownBy_alloc _ _ _)), fun h => by simp at h⟩
        · have hjq : j2 = q := by omega
          have hLE : evenL L = true := by
            have := hal.out
            rwa [List.take_of_length_le (by have := HQ.out; omega)] at this
          have HLV := Lib.hid hLE
          have HEV2 := Lib.hid (show (LL.take (j + 1)).all evenL = true by rw [List.take_add_one, HLE.out, List.all_append, hev.out]; simp [HLV.out])
          clear hjq hLE
          by_cases hq0 : q = 0
          · have hL0 : hdI L = 0 := by
              have : L = [] := List.eq_nil_of_length_eq_zero (by have := HQ.out; omega)
              rw [this]; rfl
            have HL0 := Lib.hid hL0
            clear hL0
            go_wp2_with (at_builtin; refine wpList_append_own _ rfl _ _ 22 rfl w1.heap.size 3 i0 (.int .i64 0) 1 8 Try.underlying22 hi0 hz0 hz1 hz2 rfl (by decide) _ _ _ rfl (ho.out.alloc _) ⟨wr.heap.size, 0, none⟩ 1 1 [.int .i64 0] rfl rfl (cell_one_new _ _ _) (by simp [Value.oneCell']) (by simp only [maxLen]; omega) (by omega) (by have := hgr.out.size; simp; omega) ?_)
            intro v9 w9 hown9 hgr9 hne9
            obtain ⟨g9, c9, rfl⟩ := ownsRow_succ hown9
            have HO9 := Lib.hid hown9
            have HG9 := Lib.hid (gr_ownF (hgr.out.trans (World.grownBy_alloc wr (.cells #[.int .i64 0] 3) none)) hgr9 (fun k hk => (ho.out.lt k hk).1))
            clear hown9 hgr9 hne9
            go_wp2_with fail
            go_roundw
            case rel =>
              refine ⟨j + 1, g9, c9, _, by omega, by go_num, rfl, Lib.hid ?_, HO9, HG9, HEV2⟩
              rw [hzs.out, HST.out, List.map_append, HL0.out]
              rfl
            case measure => simp [intOf]; omega
          · obtain ⟨b2, off2, rfl, _, hc2⟩ := HIJ.out (by have := HQ.out; omega)
            have hcell0 := hc2 0 _ (hd_at (by have := HQ.out; omega))
            rw [Nat.add_zero] at hcell0
            obtain ⟨h0, hh0⟩ : ∃ h0, hdI L = h0 := ⟨_, rfl⟩
            have HH0 := Lib.hid hh0
            rw [hh0] at hcell0
            have hq1 : 0 < q := by omega
            have hqe : ((q : Int) == 0) = false := by rw [beq_eq_false_iff_ne]; omega
            clear hc2 hh0
            go_wp2_with (at_builtin; refine wpList_append_own _ rfl _ _ 22 rfl w1.heap.size 3 i0 (.int .i64 0) 1 8 Try.underlying22 hi0 hz0 hz1 hz2 rfl (by decide) _ _ _ rfl (ho.out.alloc _) ⟨wr.heap.size, 0, none⟩ 1 1 [.int .i64 h0] rfl rfl (cell_one_new _ _ _) (by simp [Value.oneCell']) (by simp only [maxLen]; omega) (by omega) (by have := hgr.out.size; simp; omega) ?_)
            intro v9 w9 hown9 hgr9 hne9
            obtain ⟨g9, c9, rfl⟩ := ownsRow_succ hown9
            have HO9 := Lib.hid hown9
            have HG9 := Lib.hid (gr_ownF (hgr.out.trans (World.grownBy_alloc wr (.cells #[.int .i64 h0] 3) none)) hgr9 (fun k hk => (ho.out.lt k hk).1))
            clear hown9 hgr9 hne9
            go_wp2_with fail
            go_roundw
            case rel =>
              refine ⟨j + 1, g9, c9, _, by omega, by go_num, rfl, Lib.hid ?_, HO9, HG9, HEV2⟩
              rw [hzs.out, HST.out, List.map_append, HH0.out]
              rfl
            case measure => simp [intOf]; omega
    · have hjn : j = k := by omega
      have hta : (LL.map hdI).take j = LL.map hdI := List.take_of_length_le (by have := HK.out; simp; omega)
      have htb : LL.take j = LL := List.take_of_length_le (by have := HK.out; omega)
      have HTA := Lib.hid hta
      have HTB := Lib.hid htb
      clear hta htb
      go_wp2_with fail
      go_ret2
      have e0 : evenLL LL = true := by
        have := hev.out
        rwa [HTB.out] at this
      have e1 : shB s n = b := by rw [hEND.out, e0]; simp
      have e2 : shZ s n = LL.map hdI := by
        unfold shZ
        rw [e1, HE.out]
        cases b
        · rw [HB0.out rfl]; rfl
        · rfl
      have ho2 := ho.out
      rw [hzs.out, HTA.out] at ho2
      have hl : (LL.map hdI).length = j := by have := HK.out; simp; omega
      unfold ShSP
      rw [e2, e1]
      refine ⟨some ⟨g8, 0, none⟩, c8, ?_, HG1.out.trans hgr.out, Ints.of_own (e := 3) (by rw [hl]; exact ho2)⟩
      rw [hl]
      rfl

end Go.Proofs.Ytachjodnhgmoiaa

/- What SpreadValues of the program does, where the arguments are as they are to be. -/
import Derived.Test.YtbideeajdhejoaaGen
namespace Go.Proofs.Ytbideeajdhejoaa
open Go.RowKit

set_option maxRecDepth 100000 in
set_option maxHeartbeats 4000000 in
theorem repeat_any (A B : Option Addr) (c d : Nat) (L V : List Int) (w : World) (hA : Ints w A L) (hB : Ints w B V) (hl4 : L.length ≤ 400) (hok : okN 400 L = true) (hs4 : sumI L ≤ 400) (hv : V.length = L.length) :
    Calls Try.prog 94 #[.slice A L.length c, .slice B V.length d] w (ListPost (genI (spreadF V) 0 L) w) := by
  obtain ⟨i0, hi0, hz0', hz1', hz2'⟩ := info_parts infoJ
  have HA := Lib.hid hA
  have HB := Lib.hid hB
  have HOK := Lib.hid hok
  have HSUM := Lib.hid hs4
  obtain ⟨n, hnn⟩ : ∃ n, L.length = n := ⟨_, rfl⟩
  have HN := Lib.hid hnn
  have HM := Lib.hid (hv.trans hnn)
  rw [hnn] at hl4 ⊢
  rw [hv, hnn]
  clear hA hB hv hok hs4 hnn
  go_enter Try.func94, Try.ntmps94
  go_wp2_with fail
  go_loopw [5, 10] (fun u i wr => ∃ (j s : Nat) (A3 : Option Addr) (c3 : Nat), j ≤ n ∧ i = .int .i64 j ∧ u = .slice A3 s c3 ∧ Hid ((s : Int) = sumI (L.take j)) ∧ Hid (wr.ownsRow w.heap.size 3 1 (.slice A3 s c3) s ((genI (spreadF V) 0 (L.take j)).map (Value.int .i64))) ∧ Hid (w.grownBy wr none)) (fun _ i _ => n - (intOf i).toNat)
  case atStart => exact ⟨0, 0, none, 0, Nat.zero_le _, rfl, rfl, Lib.hid rfl, Lib.hid (World.ownsRow_nil _ _ _ _), Lib.hid (gr_refl _ _)⟩
  case round =>
    obtain ⟨j, s, A3, c3, hj, rfl, rfl, hs, hown, hgr⟩ := hrel
    obtain ⟨wo, rfl⟩ : ∃ wo : World, wo = wr := ⟨_, rfl⟩
    by_cases hlt : j < n
    · obtain ⟨z0, hz⟩ : ∃ z, L[j]? = some z := ⟨_, List.getElem?_eq_getElem (by have := HN.out; omega)⟩
      obtain ⟨b, off, rfl, _, hc⟩ := HA.out.grown hgr.out (by simp) (by have := HN.out; omega)
      have hcell := hc j z0 hz
      obtain ⟨hz0, hz4, hs0, hsz⟩ := sumI_le HOK.out hz
      obtain ⟨z, rfl⟩ : ∃ z : Nat, z0 = (z : Int) := ⟨z0.toNat, by omega⟩
      have hsz4 : s + z ≤ 400 := by have := HSUM.out; have := hs.out; omega
      have HST := Lib.hid (genI_take (spreadF V) L 0 j _ hz)
      have HS1 := Lib.hid (show ((s + z : Nat) : Int) = sumI (L.take (j + 1)) by rw [sumI_step hz, ← hs.out]; omega)
      have HHZ := Lib.hid hz
      have HVZ : Hid (V[j]? = some (V.getD j 0)) := Lib.hid (by have := HM.out; rw [List.getD_eq_getElem?_getD, List.getElem?_eq_getElem (by omega)]; rfl)
      obtain ⟨x, hx⟩ : ∃ x, V.getD j 0 = x := ⟨_, rfl⟩
      have HXX := Lib.hid hx
      rw [hx] at HVZ
      clear hx
      clear hc hz hz0 hz4 hs0 hsz
      go_wp2_with fail
      go_loopw [5, 16] (fun u i wr => ∃ (k : Nat) (A4 : Option Addr) (c4 : Nat), k ≤ z ∧ i = .int .i64 k ∧ u = .slice A4 (s + k) c4 ∧ Hid (wr.ownsRow w.heap.size 3 1 (.slice A4 (s + k) c4) (s + k) ((genI (spreadF V) 0 (L.take j) ++ (List.range k).map ((spreadF V) j)).map (Value.int .i64))) ∧ Hid (w.grownBy wr none)) (fun _ i _ => z - (intOf i).toNat)
      case atStart => exact ⟨0, A3, c3, Nat.zero_le _, rfl, rfl, Lib.hid (by simpa using hown.out), hgr⟩
      case round =>
        obtain ⟨k, A4, c4, hk, rfl, rfl, hown4, hgr4⟩ := hrel
        by_cases hlt2 : k < z
        · obtain ⟨b5, off5, rfl, _, hc5⟩ := HB.out.grown hgr4.out (by simp) (by have := HM.out; omega)
          have hcell5 := hc5 j _ HVZ.out
          clear hc5
          have hB := hgr4.out.size
          obtain ⟨P, hP⟩ : ∃ P, genI (spreadF V) 0 (L.take j) ++ (List.range k).map ((spreadF V) j) = P := ⟨_, rfl⟩
          have HP2 : Hid (genI (spreadF V) 0 (L.take j) ++ (List.range (k + 1)).map ((spreadF V) j) = P ++ [x]) := Lib.hid (by rw [gen_step, ← List.append_assoc, hP]; exact congrArg (fun t => P ++ [t]) HXX.out)
          rw [hP] at hown4
          clear hP
          have hnl : ∀ (i : Nat) (u : Value), ([.int .i64 x] : List Value)[i]? = some u → (wr.alloc (.cells #[.int .i64 x] 3)).cell? ((⟨wr.heap.size, 0, none⟩ : Addr).add i) = some u := cell_one_new _ _ _
          have HNL := Lib.hid hnl
          have hown2 := hown4.out.alloc (.cells #[.int .i64 x] 3)
          clear hnl
          go_wp2_with (at_builtin; refine wpList_append_own_at _ rfl _ _ 23 rfl w.heap.size 3 i0 (.int .i64 0) 1 8 Try.underlying23 hi0 hz0' hz1' hz2' rfl (by decide) _ _ _ rfl hown2 ⟨wr.heap.size, 0, none⟩ 1 1 [.int .i64 x] rfl rfl HNL.out ?c2 ?c3 ?c4 ?c5 ?_)
          case c2 => simp [Value.oneCell']
          case c3 => simp only [maxLen]; omega
          case c4 => omega
          case c5 => (try simp only [World.size_alloc]); omega
          intro v8 w8 hown8 hg8 _ _
          obtain ⟨g8, o8, g8', c8, rfl⟩ := row_one hgr4.out (Nat.le_refl _) hown4.out hown8 hg8
          have HG8 := Lib.hid g8
          have HO8 := Lib.hid o8
          clear hown8 hg8 g8 o8 hown2
          go_wp2_with fail
          go_roundw
          case rel => exact ⟨k + 1, some ⟨g8', 0, none⟩, c8, by omega, by go_num, rfl, Lib.hid (by rw [HP2.out]; exact HO8.out), HG8⟩
          case measure => simp [intOf]; omega
        · have hkz : k = z := by omega
          have HK := Lib.hid hkz
          clear hkz
          go_wp2_with fail
          go_roundw
          case rel => exact ⟨j + 1, s + k, A4, c4, by omega, by go_num, rfl, Lib.hid (by rw [HK.out]; exact HS1.out), Lib.hid (by rw [HST.out, Nat.zero_add, Int.toNat_natCast, ← HK.out]; exact hown4.out), hgr4⟩
          case measure => simp [intOf]; omega
    · have hjn : j = n := by omega
      have HJ := Lib.hid hjn
      clear hjn
      go_wp2_with fail
      go_ret
      have e : L.take j = L := by rw [HJ.out, ← HN.out, List.take_length]
      have h3 := hown.out
      have h4 := hs.out
      rw [e] at h3 h4
      have e2 : (genI (spreadF V) 0 L).length = s := by have := genI_len (spreadF V) L 0 HOK.out; omega
      exact ⟨A3, c3, by rw [e2]; rfl, hgr.out, by rw [e2]; exact h3⟩

set_option maxRecDepth 100000 in
set_option maxHeartbeats 4000000 in
theorem spread_yes (A B : Option Addr) (c d : Nat) (L V : List Int) (w : World) (hA : Ints w A L) (hB : Ints w B V) (hb : spreadB L V = true) :
    Calls Try.prog 46 #[.slice A L.length c, .slice B V.length d] w (ListPostB (genI (spreadF V) 0 L) true w) := by
  obtain ⟨hl, hv, hok6⟩ := spreadB_get hb
  obtain ⟨hl4, hok, hs4, _⟩ := lensB_get hl
  have HRP := Lib.hid (repeat_any A B c d L V w hA hB (by omega) hok (by omega) hv)
  have HL1 := Lib.hid (arelen_any A c L w hA (by omega))
  have HL2 := Lib.hid (upto_any B d L.length 10006 V w hB (by omega))
  have hq : decide (V.length = L.length ∧ okN 10006 V = true) = true := by simp [hv, hok6]
  rw [hl] at HL1
  rw [hq] at HL2
  obtain ⟨n, hnn⟩ : ∃ n, L.length = n := ⟨_, rfl⟩
  rw [hv, hnn] at HL2
  rw [hv, hnn] at HRP
  rw [hnn] at HL1 ⊢
  rw [hv, hnn]
  clear hA hB hl hv hok hs4 hnn hq hb hok6 hl4
  go_enter Try.func46, Try.ntmps46
  go_wp2_with fail
  refine HL1.out.mono ?_
  rintro e w1 ⟨rfl, rfl⟩
  go_wp2_with fail
  refine HL2.out.mono ?_
  rintro e w1 ⟨rfl, rfl⟩
  go_wp2_with fail
  refine HRP.out.mono ?_
  rintro e w1 ⟨A3, c3, rfl, hg3, ho3⟩
  go_wp2_with fail
  go_ret2
  exact ⟨A3, c3, rfl, hg3, ho3⟩

end Go.Proofs.Ytbideeajdhejoaa

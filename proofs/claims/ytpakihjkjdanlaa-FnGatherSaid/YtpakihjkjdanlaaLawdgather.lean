/- The law FnGather: whatever the input, true. -/
import Derived.Test.YtpakihjkjdanlaaDrawG
import Derived.Test.YtpakihjkjdanlaaGathI
import Derived.Test.YtpakihjkjdanlaaInvS
import Derived.BigQuiet
import Derived.Deep.QuietTactic
import Derived.Test.YtpakihjkjdanlaaGdgather
namespace Go.Proofs.Ytpakihjkjdanlaa
open Go.ChangeShapes Go.WideShapes Go.ChangeAt Go.RowKit

theorem gather_own (v u : Value) (L D : List Int) (w : World) (h1 : OwnI w v L) (h2 : OwnI w u D) (hn : L.length ≤ 1048576) (hm : D.length ≤ 1048576) :
    Calls Try.prog 18 #[v, u] w (ListPostB (gatherR L D) (gatherB L D) w) := by
  obtain ⟨A, c, rfl, hA, _, _, _⟩ := h1.form
  obtain ⟨B, d, rfl, hB, _, _, _⟩ := h2.form
  exact gatherdata_any A B c d L D w hA hB hn hm
theorem sgather_own (v u : Value) (L D : List Int) (w : World) (h1 : OwnI w v L) (h2 : OwnI w u D) (hn : L.length ≤ 1048576) (hm : D.length ≤ 1048576) :
    Calls Try.prog 16 #[v, u] w (ListPostB (gatherR L D) (gatherB L D) w) := by
  obtain ⟨A, c, rfl, hA, _, _, _⟩ := h1.form
  obtain ⟨B, d, rfl, hB, _, _, _⟩ := h2.form
  exact sgather_any A B c d L D w hA hB hn hm
theorem gatherR_len {D A : List Int} (h : gatherB D A = true) : (gatherR D A).length = A.length := by rw [gatherR, if_pos h, pickI_len]
theorem gatherR_le {D A : List Int} (h : A.length ≤ 1048576) : (gatherR D A).length ≤ 1048576 := by
  unfold gatherR
  split
  · rw [pickI_len]; exact h
  · simp
theorem iota_step (t : Nat) : iotaL (t + 1) = iotaL t ++ [(t : Int)] := by
  simp [iotaL, List.range_succ]
theorem iota_len (t : Nat) : (iotaL t).length = t := by simp [iotaL]
/-- All indices in order give the data. -/
theorem gather_all {D : List Int} (h : dataB D = true) : gatherB D (iotaL D.length) = true ∧ gatherR D (iotaL D.length) = D := by
  have hd := (dataB_get h).1
  have h1 : idxB D.length (iotaL D.length) = true := by
    simp only [idxB, iota_len, Bool.and_eq_true, decide_eq_true_eq]
    refine ⟨hd, okN_all (fun x hx => ?_)⟩
    obtain ⟨k, hk, rfl⟩ := List.mem_map.1 hx
    have := List.mem_range.1 hk
    omega
  have hb : gatherB D (iotaL D.length) = true := by simp [gatherB, h, h1]
  refine ⟨hb, ?_⟩
  rw [gatherR, if_pos hb]
  refine List.ext_getElem? fun i => ?_
  rw [pickI, List.getElem?_map]
  rcases Nat.lt_or_ge i D.length with hi | hi
  · have e : (iotaL D.length)[i]? = some (i : Int) := by simp [iotaL, hi]
    rw [e, List.getElem?_eq_getElem hi]
    simp [hi]
  · rw [List.getElem?_eq_none (by rw [iota_len]; exact hi), List.getElem?_eq_none hi]
    rfl
theorem gather_at {D A : List Int} (h : gatherB D A = true) {t : Nat} {x : Int} (ht : A[t]? = some x) : ∃ (k : Nat) (y : Int), x = (k : Int) ∧ k < D.length ∧ D[k]? = some y ∧ (gatherR D A)[t]? = some y := by
  obtain ⟨_, hi⟩ := gatherB_get h
  have hx := (idxB_get hi).2.2 x (List.mem_of_getElem? ht)
  have hk : x.toNat < D.length := by omega
  refine ⟨x.toNat, _, by omega, hk, List.getElem?_eq_getElem hk, ?_⟩
  rw [gatherR, if_pos h, pickI, List.getElem?_map, ht]
  simp [hk]

set_option maxRecDepth 100000 in
set_option maxHeartbeats 16000000 in
theorem law_dgather (A : Option Addr) (n c : Nat) (w : World) (hB : Byts w A n) (hc : n ≤ c) (hn : n ≤ 9223372036854775807) :
    Calls Try.prog 11 #[.slice A n c] w fun e w' => e = .returned (.bool true) ∧ w.grownBy w' none := by
  obtain ⟨i0, hi0, hz0', hz1', hz2'⟩ := info_parts infoJ
  by_cases h1 : 1048576 < n
  · clear hB
    go_enter Try.func11, Try.ntmps11
    go_wp2_with fail
    go_ret
    exact ⟨rfl, gr_refl _ _⟩
  have HD := Lib.hid (drawgather_any A n c w hB hc hn)
  clear hB hc
  go_enter Try.func11, Try.ntmps11
  go_wp2_with fail
  refine HD.out.mono ?_
  rintro e w1 ⟨u, v, D, F, rfl, hu, hv, hD, hF, hg⟩
  have hD4 : D.length ≤ 1048576 := by omega
  have hF4 : F.length ≤ 1048576 := by omega
  obtain ⟨z, hz⟩ : ∃ z, (gatherR D F).length = z := ⟨_, rfl⟩
  obtain ⟨R, hR⟩ : ∃ R, gatherB D F = R := ⟨_, rfl⟩
  have HM1 := Lib.hid (show ∀ w, OwnI w u D → OwnI w v F → Calls Try.prog 18 #[u, v] w (fun e w' => ∃ A c, e = .returned (.tuple #[.slice A z c, .bool R]) ∧ w.grownBy w' none ∧ w'.ownsRow w.heap.size 3 1 (.slice A z c) z ((gatherR D F).map (Value.int .i64))) from fun w h0 h1 => by
    rw [← hz, ← hR]; exact gather_own u v D F w h0 h1 hD4 hF4)
  have HM2 := Lib.hid (show ∀ w, OwnI w u D → OwnI w v F → Calls Try.prog 16 #[u, v] w (fun e w' => ∃ A c, e = .returned (.tuple #[.slice A z c, .bool R]) ∧ w.grownBy w' none ∧ w'.ownsRow w.heap.size 3 1 (.slice A z c) z ((gatherR D F).map (Value.int .i64))) from fun w h0 h1 => by
    rw [← hz, ← hR]; exact sgather_own u v D F w h0 h1 hD4 hF4)
  have HS1 := Lib.hid (show ∀ A B c d w, Ints w A (gatherR D F) → Ints w B (gatherR D F) → Calls Try.prog 37 #[.slice A z c, .slice B z d] w (fun e w' => e = .returned (.bool true) ∧ ∃ m, w' = w.drewN m) from fun A B c d w h h2 => by
    rw [← hz]; exact same_any A B c d (gatherR D F) w h h2 (gatherR_le hF4))
  have HZ := Lib.hid hz
  have HR := Lib.hid hR
  have HU := Lib.hid hu
  have HV := Lib.hid hv
  have HG := Lib.hid hg
  have HD4 := Lib.hid hD
  have HF4 := Lib.hid hF
  have hRR : (R != R) = false := by simp
  have hRR' : (R == R) = true := by simp
  clear hu hv hg HD hz hR
  go_wp2_with fail
  refine (HM1.out _ HU.out HV.out).mono ?_
  rintro e w2 ⟨A5, c5, rfl, hg, ho⟩
  have HG := Lib.hid (HG.out.trans hg)
  have HU := Lib.hid (HU.out.grown0 hg)
  have HV := Lib.hid (HV.out.grown0 hg)
  have HZ5 := Lib.hid (Ints.of_own (zs := gatherR D F) (by rw [HZ.out]; exact ho))
  clear hg ho HM1
  go_wp2_with fail
  refine (HM2.out _ HU.out HV.out).mono ?_
  rintro e w3 ⟨A6, c6, rfl, hg, ho⟩
  have HG := Lib.hid (HG.out.trans hg)
  have HU := Lib.hid (HU.out.grown0 hg)
  have HV := Lib.hid (HV.out.grown0 hg)
  have HZ5 := Lib.hid (HZ5.out.grown hg (by simp))
  have HZ6 := Lib.hid (Ints.of_own (zs := gatherR D F) (by rw [HZ.out]; exact ho))
  clear hg ho HM2
  go_wp2_with fail
  refine (HS1.out _ _ c5 c6 _ HZ5.out HZ6.out).mono ?_
  rintro e w4 ⟨rfl, q4, rfl⟩
  have HG := Lib.hid (HG.out.trans (gr_drewN w3 q4 none))
  have HU := Lib.hid (HU.out.grown0 (gr_drewN w3 q4 none))
  have HV := Lib.hid (HV.out.grown0 (gr_drewN w3 q4 none))
  have HZ5 := Lib.hid (HZ5.out.grown (gr_drewN w3 q4 none) (by simp))
  have HZ6 := Lib.hid (HZ6.out.grown (gr_drewN w3 q4 none) (by simp))
  generalize w3.drewN q4 = w4 at HG HU HV HZ5 HZ6 ⊢
  cases R with
  | false =>
    go_wp2_with fail
    refine (HS1.out _ _ c5 c6 _ HZ5.out HZ6.out).mono ?_
    rintro e w5 ⟨rfl, q5, rfl⟩
    have HG := Lib.hid (HG.out.trans (gr_drewN w4 q5 none))
    have HU := Lib.hid (HU.out.grown0 (gr_drewN w4 q5 none))
    have HV := Lib.hid (HV.out.grown0 (gr_drewN w4 q5 none))
    have HZ5 := Lib.hid (HZ5.out.grown (gr_drewN w4 q5 none) (by simp))
    have HZ6 := Lib.hid (HZ6.out.grown (gr_drewN w4 q5 none) (by simp))
    generalize w4.drewN q5 = w5 at HG HU HV HZ5 HZ6 ⊢
    go_wp2_with fail
    go_ret
    exact ⟨rfl, HG.out⟩
  | true =>
    obtain ⟨A3, c3, rfl, hI3, _, _, _⟩ := HU.out.form
    obtain ⟨A4, c4, rfl, hI4, _, _, _⟩ := HV.out.form
    have HI3 := Lib.hid hI3
    have HI4 := Lib.hid hI4
    have HALL := Lib.hid (gather_all (D := D) (gatherB_get HR.out).1)
    obtain ⟨k, hk⟩ : ∃ k, D.length = k := ⟨_, rfl⟩
    obtain ⟨m, hm⟩ : ∃ m, F.length = m := ⟨_, rfl⟩
    have HK := Lib.hid hk
    have HM := Lib.hid hm
    rw [hk] at HALL hD4 hD
    rw [hm] at hF4 hF
    rw [hk] at HU
    simp only [hk, hm]
    have hzm : z = m := by rw [← HZ.out, gatherR_len HR.out, hm]
    subst hzm
    have HM3 := Lib.hid (show ∀ a w, OwnI w (.slice A3 k c3) D → OwnI w a (iotaL k) → Calls Try.prog 18 #[.slice A3 k c3, a] w (fun e w' => ∃ A c, e = .returned (.tuple #[.slice A k c, .bool true]) ∧ w.grownBy w' none ∧ w'.ownsRow w.heap.size 3 1 (.slice A k c) k ((D).map (Value.int .i64))) from fun a w h0 h1 => by
      have h5 := gather_own (.slice A3 k c3) a D (iotaL k) w h0 h1 (by rw [HK.out]; exact hD4) (by rw [iota_len]; exact hD4)
      rw [HALL.out.1, HALL.out.2] at h5
      refine h5.mono ?_
      rintro e w' ⟨A, c, rfl, hg, ho⟩
      rw [HK.out] at ho ⊢
      exact ⟨A, c, rfl, hg, ho⟩)
    have HSD := Lib.hid (show ∀ A B c d w, Ints w A (D) → Ints w B (D) → Calls Try.prog 37 #[.slice A k c, .slice B k d] w (fun e w' => e = .returned (.bool true) ∧ ∃ m, w' = w.drewN m) from fun A B c d w h h2 => by
      rw [← HK.out]; exact same_any A B c d (D) w h h2 (by rw [HK.out]; exact hD4))
    clear hI3 hI4 HV hk hm
    go_wp2_with fail
    go_loopw [58] (fun i wr => ∃ (t : Nat), t ≤ z ∧ i = .int .i64 t ∧ Hid (∃ q, wr = w4.drewN q)) (fun i _ => z - (intOf i).toNat)
    case atStart => exact ⟨0, Nat.zero_le _, rfl, Lib.hid ⟨0, rfl⟩⟩
    case round =>
      obtain ⟨t, ht, rfl, hq⟩ := hrel
      obtain ⟨q, hq⟩ := hq.out
      subst hq
      by_cases hlt : t < z
      · obtain ⟨x, hx⟩ : ∃ x, F[t]? = some x := ⟨_, List.getElem?_eq_getElem (by have := HM.out; omega)⟩
        obtain ⟨j, y, rfl, hj, hy, hzt⟩ := gather_at HR.out hx
        have hjk : j < k := by have := HK.out; omega
        have hjk2 : (j : Int) < (k : Int) := by omega
        have htz2 : (t : Int) < (z : Int) := by omega
        obtain ⟨b4, o4, rfl, _, hc4⟩ := HI4.out (by have := HM.out; omega)
        obtain ⟨b3, o3, rfl, _, hc3⟩ := HI3.out (by have := HK.out; omega)
        obtain ⟨b5, o5, rfl, _, hc5⟩ := HZ5.out (by have := HZ.out; omega)
        have e4 := hc4 t _ hx
        have e3 := hc3 j _ hy
        have e5 := hc5 t _ hzt
        have e4 : (w4.drewN q).cell? ⟨b4, o4 + t, none⟩ = some (.int .i64 (j : Int)) := e4
        have e3 : ∀ q, (w4.drewN q).cell? ⟨b3, o3 + j, none⟩ = some (.int .i64 y) := fun _ => e3
        have e5 : ∀ q, (w4.drewN q).cell? ⟨b5, o5 + t, none⟩ = some (.int .i64 y) := fun _ => e5
        clear hc4 hc3 hc5 hx hy hzt
        have hyy : (y != y) = false := by simp
        go_wp2_with fail
        go_quiet (fail)
        go_wp2_with fail
        go_roundw
        case rel => exact ⟨t + 1, by omega, by go_num, Lib.hid ⟨_, rfl⟩⟩
        case measure => simp [intOf]; omega
      · have htz : t = z := by omega
        subst htz
        have HG := Lib.hid (HG.out.trans (gr_drewN w4 q none))
        have HU := Lib.hid (HU.out.grown0 (gr_drewN w4 q none))
        have HI3 := Lib.hid (HI3.out.grown (gr_drewN w4 q none) (by simp))
        have HZ5 := Lib.hid (HZ5.out.grown (gr_drewN w4 q none) (by simp))
        generalize w4.drewN q = w9 at HG HU HI3 HZ5 ⊢
        go_wp2_with fail
        go_loopw [11, 76] (fun a i wr => ∃ (t : Nat) (A8 : Option Addr) (c8 : Nat), t ≤ k ∧ i = .int .i64 t ∧ a = .slice A8 t c8 ∧ Hid (wr.ownsRow w9.heap.size 3 1 (.slice A8 t c8) t ((iotaL t).map (Value.int .i64))) ∧ Hid (w9.grownBy wr none)) (fun _ i _ => k - (intOf i).toNat)
        case atStart => exact ⟨0, some ⟨w9.heap.size, 0, none⟩, 0, Nat.zero_le _, rfl, rfl, Lib.hid (made_row w9 w9.heap.size (Nat.le_refl _)), Lib.hid (World.grownBy_alloc _ _ _)⟩
        case round =>
          obtain ⟨s, A8, c8, hs, rfl, rfl, hown, hgr⟩ := hrel
          by_cases hlt2 : s < k
          · have hB := hgr.out.size
            have hnl : ∀ (i : Nat) (u : Value), ([.int .i64 (s : Int)] : List Value)[i]? = some u → (wr.alloc (.cells #[.int .i64 (s : Int)] 3)).cell? ((⟨wr.heap.size, 0, none⟩ : Addr).add i) = some u := cell_one_new _ _ _
            have HNL := Lib.hid hnl
            have hown2 := hown.out.alloc (.cells #[.int .i64 (s : Int)] 3)
            have HIS := Lib.hid (iota_step s)
            clear hnl
            go_wp2_with (at_builtin; refine wpList_append_own_at _ rfl _ _ 22 rfl w9.heap.size 3 i0 (.int .i64 0) 1 8 Try.underlying22 hi0 hz0' hz1' hz2' rfl (by decide) _ _ _ rfl hown2 ⟨wr.heap.size, 0, none⟩ 1 1 [.int .i64 (s : Int)] rfl rfl HNL.out ?c2 ?c3 ?c4 ?c5 ?_)
            case c2 => simp [Value.oneCell']
            case c3 => simp only [maxLen]; omega
            case c4 => omega
            case c5 => (try simp only [World.size_alloc]); omega
            intro v8 w8 hown8 hg8 _ _
            obtain ⟨g8, o8, g8', c8', rfl⟩ := row_one hgr.out (Nat.le_refl _) hown.out hown8 hg8
            have HG8 := Lib.hid g8
            have HO8 := Lib.hid o8
            clear hown8 hg8 g8 o8 hown2
            go_wp2_with fail
            go_roundw
            case rel => exact ⟨s + 1, some ⟨g8', 0, none⟩, c8', by omega, by go_num, rfl, Lib.hid (by rw [HIS.out]; exact HO8.out), HG8⟩
            case measure => simp [intOf]; omega
          · have hsk : s = k := by omega
            subst hsk
            have HG := Lib.hid (HG.out.trans hgr.out)
            have HU := Lib.hid (HU.out.grown0 hgr.out)
            have HI3 := Lib.hid (HI3.out.grown hgr.out (by simp))
            have HA8 := Lib.hid (OwnI.of hown.out (iota_len s))
            clear hown hgr
            have htt : ((t : Int) == (t : Int)) = true := by simp
            go_wp2_with fail
            refine (HM3.out _ _ HU.out HA8.out).mono ?_
            rintro e w10 ⟨A9, c9, rfl, hg9, ho9⟩
            have HG := Lib.hid (HG.out.trans hg9)
            have HI3 := Lib.hid (HI3.out.grown hg9 (by simp))
            have HZ9 := Lib.hid (Ints.of_own (zs := D) (by rw [HK.out]; exact ho9))
            clear hg9 ho9
            go_wp2_with fail
            refine (HSD.out _ _ c9 c3 _ HZ9.out HI3.out).mono ?_
            rintro e w11 ⟨rfl, q11, rfl⟩
            have HG := Lib.hid (HG.out.trans (gr_drewN w10 q11 none))
            go_wp2_with fail
            go_ret
            exact ⟨rfl, HG.out⟩

set_option maxRecDepth 100000 in
theorem dgather_lifted (os : Os) (started : os.Started) (H : Type) (enc : TypeId × Value → H) :
    ReturnsInHanded {} Try.checked os 11 .any (Rows.fnGatherSpec.pre6 enc Try.prog Try.f11 Rows.fnGatherRow.domain false) (Rows.fnGatherSpec.post enc Try.prog Try.f11 false true false false) := by
  refine returnsInHanded_of_change (C := Try.checked) knob_own started (by kernel_rfl) Try.func11
    (ChangeSpec.witness6 (enc := enc) (C := Try.checked) false ⟨#[], #[.slice none 0 0], []⟩ 8 (by kernel_rfl) (by kernel_rfl) (by kernel_rfl) (by kernel_rfl)) ?_
  intro W base args ds gs before hval0 hW hcnd _
  have hval : ∀ (j : Nat) t v, Try.f11.params[j]? = some t → args[j]? = some v → Value.okWide Try.prog W .any base t v := hval0
  have hW' := hW
  obtain ⟨p, q, hA0, hV, rfl, hfz, hnd⟩ := hW
  have hA : DataW.TrodAll enc Try.prog W 0 (fun _ => true) true Try.f11.params.toList args.toList ds p := hA0
  rw [Try.params11] at hA hval
  obtain ⟨v0, d0, rfl, rfl, h0⟩ := trodAll_one hA
  obtain ⟨rfl, rfl⟩ := trodVars_none hV
  obtain ⟨A, n, c, rfl, a1, a2, a3⟩ := open_byts (hval 0 34 v0 rfl rfl) h0
  clear hA0 hval0
  simp only [List.append_nil] at hW'
  have hlt : ∀ x ∈ p, x.block < W.heap.size := fun x hx => by simpa using hW'.lt x hx
  refine (law_dgather A n c W a3 a1 a2).mono fun e W' ⟨he, hg⟩ => ?_
  subst he
  refine ⟨_, rfl, _, _, _, [], p, [], hW', ?_, ?_, rfl, (below_of hg).frame _, fun h => by cases h⟩
  · exact trodAll_mk1 (shut_bool Try.underlying4 _)
  · exact trodAll_mk1 (Below.trod laid_out (by kernel_rfl) (of_decide_eq_true (by kernel_rfl)) h0 (below_of hg) hlt)

theorem dgather_holds : Rows.FnGatherSaid :=
  OpenClaim.holds_of_wide 11 Try.f11 rfl rfl rfl rfl rfl rfl rfl ⟨rfl, rfl, rfl, rfl, rfl⟩ rfl rfl rfl rfl rfl fdgather_name Try.func11 fdgather_all fdgather_inst fdgather_wrap
    (fun os started H enc _ => (dgather_lifted os started H enc))

#print axioms dgather_holds

end Go.Proofs.Ytpakihjkjdanlaa

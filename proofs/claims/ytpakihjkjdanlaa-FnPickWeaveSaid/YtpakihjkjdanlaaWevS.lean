/- What WeaveData of the model does. -/
import Derived.Test.YtpakihjkjdanlaaGathS
namespace Go.Proofs.Ytpakihjkjdanlaa
open Go.RowKit

/-- How many of the first flags are not zero. -/
def cnW (F : List Int) (j : Nat) : Nat := (F.take j).countP (fun z => decide (z ≠ 0))
theorem cnW_step {F : List Int} {j : Nat} {f : Int} (h : F[j]? = some f) : cnW F (j + 1) = cnW F j + (if f = 0 then 0 else 1) := by
  rw [cnW, cnW, List.take_add_one, h, List.countP_append]
  by_cases hf : f = 0 <;> simp [hf]
theorem cnW_le (F : List Int) (j : Nat) : cnW F j ≤ j := by
  have h1 : cnW F j ≤ (F.take j).length := List.countP_le_length
  rw [List.length_take] at h1
  omega
theorem cnW_rest (F : List Int) (j : Nat) : cnW F j ≤ cnW F F.length ∧ cnW F F.length ≤ cnW F j + (F.length - j) := by
  have h1 : cnW F F.length = cnW F j + (F.drop j).countP (fun z => decide (z ≠ 0)) := by
    rw [cnW, cnW, ← List.countP_append, List.take_append_drop, List.take_length]
  have h2 : (F.drop j).countP (fun z => decide (z ≠ 0)) ≤ (F.drop j).length := List.countP_le_length
  rw [List.length_drop] at h2
  omega
/-- The number that flag j takes, and the first j of them. -/
def atW (F A B : List Int) (j : Nat) : Int := if F.getD j 0 = 0 then B.getD (j - cnW F j) 0 else A.getD (cnW F j) 0
def weaveI (F A B : List Int) (j : Nat) : List Int := (List.range j).map (atW F A B)
theorem weaveI_len (F A B : List Int) (j : Nat) : (weaveI F A B j).length = j := by simp [weaveI]
theorem weaveI_one {F A B : List Int} {j : Nat} {f x : Int} (hf : F[j]? = some f) (h0 : f ≠ 0) (hx : A[cnW F j]? = some x) : weaveI F A B (j + 1) = weaveI F A B j ++ [x] := by
  have e : atW F A B j = x := by simp [atW, hf, h0, hx]
  rw [weaveI, List.range_succ, List.map_append, weaveI, List.map_singleton, e]
theorem weaveI_zero {F A B : List Int} {j : Nat} {f x : Int} (hf : F[j]? = some f) (h0 : f = 0) (hx : B[j - cnW F j]? = some x) : weaveI F A B (j + 1) = weaveI F A B j ++ [x] := by
  have e : atW F A B j = x := by simp [atW, hf, h0, hx]
  rw [weaveI, List.range_succ, List.map_append, weaveI, List.map_singleton, e]
def fitB (F A B : List Int) : Bool := decide (cnW F F.length = A.length) && decide (F.length - cnW F F.length = B.length)
def weaveB (F A B : List Int) : Bool := dataB F && (dataB A && (dataB B && fitB F A B))
def weaveR (F A B : List Int) : List Int := if weaveB F A B = true then weaveI F A B F.length else []

set_option maxRecDepth 100000 in
set_option maxHeartbeats 8000000 in
theorem sweave_any (A1 A2 A3 : Option Addr) (c1 c2 c3 : Nat) (F A B : List Int) (w : World) (h1 : Ints w A1 F) (h2 : Ints w A2 A) (h3 : Ints w A3 B) (hn : F.length ≤ 1048576) (hm : A.length ≤ 1048576) (hk : B.length ≤ 1048576) :
    Calls Try.prog 34 #[.slice A1 F.length c1, .slice A2 A.length c2, .slice A3 B.length c3] w (ListPostB (weaveR F A B) (weaveB F A B) w) := by
  obtain ⟨i0, hi0, hz0', hz1', hz2'⟩ := info_parts infoJ
  have hg : w.grownBy (w.alloc (.cells #[] 3)) none := World.grownBy_alloc _ _ _
  have HS1 := Lib.hid (sdata_any A1 c1 F _ (h1.grown hg (by simp)) hn)
  have HS2 := Lib.hid (sdata_any A2 c2 A _ (h2.grown hg (by simp)) hm)
  have HS3 := Lib.hid (sdata_any A3 c3 B _ (h3.grown hg (by simp)) hk)
  have HF := Lib.hid h1
  have HA := Lib.hid h2
  have HB := Lib.hid h3
  have HNO : Hid (dataB F = false ∨ dataB A = false ∨ dataB B = false ∨ cnW F F.length ≠ A.length ∨ F.length - cnW F F.length ≠ B.length → weaveR F A B = [] ∧ weaveB F A B = false) := Lib.hid (fun h => by
    have : weaveB F A B = false := by rcases h with h | h | h | h | h <;> simp [weaveB, fitB, h]
    simp [weaveR, this])
  have HYES : Hid (dataB F = true → dataB A = true → dataB B = true → cnW F F.length = A.length → F.length - cnW F F.length = B.length → weaveR F A B = weaveI F A B F.length ∧ weaveB F A B = true) := Lib.hid (fun g1 g2 g3 g4 g5 => by
    have : weaveB F A B = true := by simp [weaveB, fitB, g1, g2, g3, g4, ← g5]
    simp [weaveR, this])
  have H4 : Hid (dataB F = true → F.length ≤ 400) := Lib.hid (fun h => (dataB_get h).1)
  have HP : Hid (ListPostB [] false w (.returned (.tuple #[.slice (some ⟨w.heap.size, 0, none⟩) 0 0, .bool false])) (w.alloc (.cells #[] 3))) := Lib.hid ⟨_, 0, rfl, hg, made_row w w.heap.size (Nat.le_refl _)⟩
  obtain ⟨b1, hb1⟩ : ∃ b, dataB F = b := ⟨_, rfl⟩
  obtain ⟨b2, hb2⟩ : ∃ b, dataB A = b := ⟨_, rfl⟩
  obtain ⟨b3, hb3⟩ : ∃ b, dataB B = b := ⟨_, rfl⟩
  obtain ⟨zs, hzs⟩ : ∃ zs, weaveR F A B = zs := ⟨_, rfl⟩
  obtain ⟨bb, hbb⟩ : ∃ bb, weaveB F A B = bb := ⟨_, rfl⟩
  rw [hb1] at HS1 HNO HYES H4
  rw [hb2] at HS2 HNO HYES
  rw [hb3] at HS3 HNO HYES
  rw [hzs, hbb] at HNO HYES ⊢
  obtain ⟨n, hnn⟩ : ∃ n, F.length = n := ⟨_, rfl⟩
  obtain ⟨m, hmm⟩ : ∃ m, A.length = m := ⟨_, rfl⟩
  obtain ⟨k, hkk⟩ : ∃ k, B.length = k := ⟨_, rfl⟩
  have HN := Lib.hid hnn
  have HM := Lib.hid hmm
  have HK := Lib.hid hkk
  rw [hnn] at HS1 HNO HYES H4 hn ⊢
  rw [hmm] at HS2 HNO HYES hm ⊢
  rw [hkk] at HS3 HNO HYES hk ⊢
  clear h1 h2 h3 hg hb1 hb2 hb3 hzs hbb hnn hmm hkk
  go_enter Try.func34, Try.ntmps34
  go_wp2_with fail
  go_loopw [9, 19] (fun a i wr => ∃ (j p : Nat), j ≤ n ∧ i = .int .i64 j ∧ a = .int .i64 (p : Int) ∧ p ≤ j ∧ Hid (p = cnW F j) ∧ wr = w.alloc (.cells #[] 3)) (fun _ i _ => n - (intOf i).toNat)
  case atStart => exact ⟨0, 0, Nat.zero_le _, rfl, rfl, Nat.le_refl _, Lib.hid rfl, rfl⟩
  case round =>
    obtain ⟨j, p, hj, rfl, rfl, hpj, hp, rfl⟩ := hrel
    by_cases hlt : j < n
    · obtain ⟨z, hz⟩ : ∃ z, F[j]? = some z := ⟨_, List.getElem?_eq_getElem (by have := HN.out; omega)⟩
      obtain ⟨b, off, rfl, _, hc⟩ := HF.out.grown (World.grownBy_alloc w (.cells #[] 3) none) (by simp) (by have := HN.out; omega)
      have hcell := hc j z hz
      have hst := cnW_step hz
      rw [← hp.out] at hst
      clear hc hz
      by_cases h0 : z = 0
      · subst h0
        rw [if_pos rfl] at hst
        have HST := Lib.hid hst
        clear hst
        go_wp2_with fail
        go_roundw
        case rel => exact ⟨j + 1, p, by omega, by go_num, rfl, by omega, Lib.hid HST.out.symm, trivial⟩
        case measure => simp [intOf]; omega
      · rw [if_neg h0] at hst
        have HST := Lib.hid hst
        have hz1 : (z != 0) = true := by simpa using h0
        clear hst
        go_wp2_with fail
        go_roundw
        case rel => exact ⟨j + 1, p + 1, by omega, by go_num, by go_num, by omega, Lib.hid HST.out.symm, trivial⟩
        case measure => simp [intOf]; omega
    · have hjn : j = n := by omega
      subst hjn
      have hp2 := hp.out
      have HPC := Lib.hid hp2
      rw [← hp2] at HNO HYES
      clear hp2
      cases b1 with
      | false =>
        have HR := Lib.hid (HNO.out (.inl rfl))
        go_wp2_with fail
        refine HS1.out.mono ?_
        rintro e w1 ⟨rfl, rfl⟩
        go_wp2_with fail
        go_ret2
        rw [HR.out.1, HR.out.2]
        exact HP.out
      | true =>
        have h4 := H4.out rfl
        cases b2 with
        | false =>
          have HR := Lib.hid (HNO.out (.inr (.inl rfl)))
          go_wp2_with fail
          refine HS1.out.mono ?_
          rintro e w1 ⟨rfl, rfl⟩
          go_wp2_with fail
          refine HS2.out.mono ?_
          rintro e w1 ⟨rfl, rfl⟩
          go_wp2_with fail
          go_ret2
          rw [HR.out.1, HR.out.2]
          exact HP.out
        | true =>
          cases b3 with
          | false =>
            have HR := Lib.hid (HNO.out (.inr (.inr (.inl rfl))))
            go_wp2_with fail
            refine HS1.out.mono ?_
            rintro e w1 ⟨rfl, rfl⟩
            go_wp2_with fail
            refine HS2.out.mono ?_
            rintro e w1 ⟨rfl, rfl⟩
            go_wp2_with fail
            refine HS3.out.mono ?_
            rintro e w1 ⟨rfl, rfl⟩
            go_wp2_with fail
            go_ret2
            rw [HR.out.1, HR.out.2]
            exact HP.out
          | true =>
            by_cases e1 : p = m
            · subst e1
              by_cases e2 : j - p = k
              · have HR := Lib.hid (HYES.out rfl rfl rfl rfl e2)
                have ne1 : ((p : Int) != (p : Int)) = false := by simp
                have ne2 : ((j : Int) - (p : Int) != (k : Int)) = false := by simp; omega
                go_wp2_with fail
                refine HS1.out.mono ?_
                rintro e w1 ⟨rfl, rfl⟩
                go_wp2_with fail
                refine HS2.out.mono ?_
                rintro e w1 ⟨rfl, rfl⟩
                go_wp2_with fail
                refine HS3.out.mono ?_
                rintro e w1 ⟨rfl, rfl⟩
                go_wp2_with fail
                have E2 := Lib.hid e2
                clear ne1 ne2 e2
                go_loopw [8, 12, 13, 59] (fun u x y i wr => ∃ (l r s : Nat) (A5 : Option Addr) (c5 : Nat), l ≤ j ∧ i = .int .i64 l ∧ x = .int .i64 (r : Int) ∧ y = .int .i64 (s : Int) ∧ r + s = l ∧ u = .slice A5 l c5 ∧ Hid (r = cnW F l) ∧ Hid (wr.ownsRow w.heap.size 3 1 (.slice A5 l c5) l ((weaveI F A B l).map (Value.int .i64))) ∧ Hid (w.grownBy wr none)) (fun _ _ _ i _ => j - (intOf i).toNat)
                case atStart => exact ⟨0, 0, 0, some ⟨w.heap.size, 0, none⟩, 0, Nat.zero_le _, rfl, rfl, rfl, rfl, rfl, Lib.hid rfl, Lib.hid (made_row w w.heap.size (Nat.le_refl _)), Lib.hid (World.grownBy_alloc _ _ _)⟩
                case round =>
                  obtain ⟨l, r, s, A5, c5, hl, rfl, rfl, rfl, hrs, rfl, hr, hown, hgr⟩ := hrel
                  by_cases hlt2 : l < j
                  · obtain ⟨z, hz⟩ : ∃ z, F[l]? = some z := ⟨_, List.getElem?_eq_getElem (by have := HN.out; omega)⟩
                    obtain ⟨b, off, rfl, _, hc⟩ := HF.out.grown hgr.out (by simp) (by have := HN.out; omega)
                    have hcell := hc l z hz
                    have hst := cnW_step hz
                    have hrest := cnW_rest F (l + 1)
                    rw [HN.out, ← HPC.out] at hrest
                    have hB := hgr.out.size
                    by_cases h0 : z = 0
                    · subst h0
                      rw [if_pos rfl, Nat.add_zero] at hst
                      rw [hst, ← hr.out] at hrest
                      have hsk : s < k := by have := E2.out; omega
                      obtain ⟨x, hx⟩ : ∃ x, B[s]? = some x := ⟨_, List.getElem?_eq_getElem (by have := HK.out; omega)⟩
                      obtain ⟨b2, off2, rfl, _, hc2⟩ := HB.out.grown hgr.out (by simp) (by have := HK.out; omega)
                      have hcell2 := hc2 s x hx
                      have HW := Lib.hid (weaveI_zero (A := A) (B := B) hz rfl (show B[l - cnW F l]? = some x by rw [← hr.out, show l - r = s from by omega]; exact hx))
                      have HST : Hid (r = cnW F (l + 1)) := Lib.hid (by rw [hst]; exact hr.out)
                      have hnl : ∀ (i : Nat) (u : Value), ([.int .i64 x] : List Value)[i]? = some u → (wr.alloc (.cells #[.int .i64 x] 3)).cell? ((⟨wr.heap.size, 0, none⟩ : Addr).add i) = some u := cell_one_new _ _ _
                      have HNL := Lib.hid hnl
                      have hown2 := hown.out.alloc (.cells #[.int .i64 x] 3)
                      clear hnl hc hc2 hz hx hst hrest
                      go_wp2_with (at_builtin; refine wpList_append_own_at _ rfl _ _ 22 rfl w.heap.size 3 i0 (.int .i64 0) 1 8 Try.underlying22 hi0 hz0' hz1' hz2' rfl (by decide) _ _ _ rfl hown2 ⟨wr.heap.size, 0, none⟩ 1 1 [.int .i64 x] rfl rfl HNL.out ?c2 ?c3 ?c4 ?c5 ?_)
                      case c2 => simp [Value.oneCell']
                      case c3 => simp only [maxLen]; omega
                      case c4 => omega
                      case c5 => (try simp only [World.size_alloc]); omega
                      intro v8 w8 hown8 hg8 _ _
                      obtain ⟨g8, o8, g8', c8, rfl⟩ := row_one hgr.out (Nat.le_refl _) hown.out hown8 hg8
                      have HG8 := Lib.hid g8
                      have HO8 := Lib.hid o8
                      clear hown8 hg8 g8 o8 hown2
                      go_wp2_with fail
                      go_roundw
                      case rel => exact ⟨l + 1, r, s + 1, some ⟨g8', 0, none⟩, c8, by omega, by go_num, rfl, by go_num, by omega, rfl, HST, Lib.hid (by rw [HW.out]; exact HO8.out), HG8⟩
                      case measure => simp [intOf]; omega
                    · rw [if_neg h0] at hst
                      rw [hst, ← hr.out] at hrest
                      have hsk : r < p := by have := E2.out; omega
                      obtain ⟨x, hx⟩ : ∃ x, A[r]? = some x := ⟨_, List.getElem?_eq_getElem (by have := HM.out; omega)⟩
                      obtain ⟨b2, off2, rfl, _, hc2⟩ := HA.out.grown hgr.out (by simp) (by have := HM.out; omega)
                      have hcell2 := hc2 r x hx
                      have HW := Lib.hid (weaveI_one (A := A) (B := B) hz h0 (show A[cnW F l]? = some x by rw [← hr.out]; exact hx))
                      have HST : Hid (r + 1 = cnW F (l + 1)) := Lib.hid (by rw [hst, ← hr.out])
                      have hz1 : (z != 0) = true := by simpa using h0
                      have hnl : ∀ (i : Nat) (u : Value), ([.int .i64 x] : List Value)[i]? = some u → (wr.alloc (.cells #[.int .i64 x] 3)).cell? ((⟨wr.heap.size, 0, none⟩ : Addr).add i) = some u := cell_one_new _ _ _
                      have HNL := Lib.hid hnl
                      have hown2 := hown.out.alloc (.cells #[.int .i64 x] 3)
                      clear hnl hc hc2 hz hx hst hrest h0
                      go_wp2_with (at_builtin; refine wpList_append_own_at _ rfl _ _ 22 rfl w.heap.size 3 i0 (.int .i64 0) 1 8 Try.underlying22 hi0 hz0' hz1' hz2' rfl (by decide) _ _ _ rfl hown2 ⟨wr.heap.size, 0, none⟩ 1 1 [.int .i64 x] rfl rfl HNL.out ?c2 ?c3 ?c4 ?c5 ?_)
                      case c2 => simp [Value.oneCell']
                      case c3 => simp only [maxLen]; omega
                      case c4 => omega
                      case c5 => (try simp only [World.size_alloc]); omega
                      intro v8 w8 hown8 hg8 _ _
                      obtain ⟨g8, o8, g8', c8, rfl⟩ := row_one hgr.out (Nat.le_refl _) hown.out hown8 hg8
                      have HG8 := Lib.hid g8
                      have HO8 := Lib.hid o8
                      clear hown8 hg8 g8 o8 hown2
                      go_wp2_with fail
                      go_roundw
                      case rel => exact ⟨l + 1, r + 1, s, some ⟨g8', 0, none⟩, c8, by omega, by go_num, by go_num, rfl, by omega, rfl, HST, Lib.hid (by rw [HW.out]; exact HO8.out), HG8⟩
                      case measure => simp [intOf]; omega
                  · have hln : l = j := by omega
                    have HL := Lib.hid hln
                    clear hln
                    go_wp2_with fail
                    go_ret2
                    have h3 := hown.out
                    rw [HR.out.1, HR.out.2]
                    have e2 : (weaveI F A B j).length = j := weaveI_len F A B j
                    have e3 := HL.out
                    rw [e3] at h3
                    refine ⟨A5, c5, by rw [e2, e3]; rfl, hgr.out, by rw [e2]; exact h3⟩
              · have HR := Lib.hid (HNO.out (.inr (.inr (.inr (.inr e2)))))
                have ne1 : ((p : Int) != (p : Int)) = false := by simp
                have ne2 : ((j : Int) - (p : Int) != (k : Int)) = true := by rw [bne_iff_ne]; omega
                go_wp2_with fail
                refine HS1.out.mono ?_
                rintro e w1 ⟨rfl, rfl⟩
                go_wp2_with fail
                refine HS2.out.mono ?_
                rintro e w1 ⟨rfl, rfl⟩
                go_wp2_with fail
                refine HS3.out.mono ?_
                rintro e w1 ⟨rfl, rfl⟩
                go_wp2_with fail
                go_ret2
                rw [HR.out.1, HR.out.2]
                exact HP.out
            · have HR := Lib.hid (HNO.out (.inr (.inr (.inr (.inl e1)))))
              have ne1 : ((p : Int) != (m : Int)) = true := by rw [bne_iff_ne]; omega
              go_wp2_with fail
              refine HS1.out.mono ?_
              rintro e w1 ⟨rfl, rfl⟩
              go_wp2_with fail
              refine HS2.out.mono ?_
              rintro e w1 ⟨rfl, rfl⟩
              go_wp2_with fail
              refine HS3.out.mono ?_
              rintro e w1 ⟨rfl, rfl⟩
              go_wp2_with fail
              go_ret2
              rw [HR.out.1, HR.out.2]
              exact HP.out

end Go.Proofs.Ytpakihjkjdanlaa

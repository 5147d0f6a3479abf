/- What FormatLayout of the model does. -/
import Derived.Test.YtbideeajdhejoaaDoorFmt
namespace Go.Proofs.YtbideeajdhejoaaDoor
open Go.RowKit

/-- The text of the levels. -/
def levT (LL : List (List Int)) : List UInt8 := LL.flatMap (fun L => numText L ++ [124])
theorem levT_step {LL : List (List Int)} {j : Nat} {L : List Int} (h : LL[j]? = some L) : levT (LL.take (j + 1)) = levT (LL.take j) ++ (numText L ++ [124]) := by
  rw [levT, List.take_add_one, h, List.flatMap_append]
  simp [levT]
theorem levT_len {LL : List (List Int)} (h : ∀ L ∈ LL, Wf L) : (levT LL).length ≤ 22 * totL LL + 2 * LL.length := by
  induction LL with
  | nil => simp [levT]
  | cons L LL ih =>
    have h1 := numText_len (h L (by simp))
    have h2 := ih (fun M hM => h M (by simp [hM]))
    simp only [levT, List.flatMap_cons, List.length_append, List.length_cons, List.length_nil, totL] at h2 ⊢
    omega

set_option maxHeartbeats 1000000 in
theorem sfmt_any (v : Value) (LL : List (List Int)) (D : List Int) (w : World) (h : Lyt w v LL D) (hn : LL.length + totL LL + D.length ≤ 1048576) (hw : ∀ L ∈ LL, Wf L) (hwd : Wf D) :
    Calls Tryd.prog 11 #[v] w (TxtPost (fmtText LL D) w) := by
  obtain ⟨A, c, B, d, rfl, _, _, h3, h4⟩ := h
  have hm : ∀ M ∈ LL, M.length ≤ 1048576 := fun M hM => by
    obtain ⟨i, hi⟩ := List.getElem?_of_mem hM
    have := totL_at hi
    omega
  have HM := Lib.hid hm
  have HW := Lib.hid hw
  have HLN := Lib.hid (fun j => levT_len (LL := LL.take j) (fun L hL => hw L (List.mem_of_mem_take hL)))
  have HTL := Lib.hid (fun j => (by
    have e : LL.take j ++ LL.drop j = LL := List.take_append_drop j LL
    have := totL_append (LL.take j) (LL.drop j)
    rw [e] at this
    omega : totL (LL.take j) ≤ totL LL))
  have HD := Lib.hid (fun w (h : Ints w B D) => snums_any B d D w h hwd (by omega))
  have hdl := numText_len hwd
  have HDL := Lib.hid hdl
  obtain ⟨n, hnn⟩ : ∃ n, LL.length = n := ⟨_, rfl⟩
  obtain ⟨m, hmm⟩ : ∃ m, D.length = m := ⟨_, rfl⟩
  have HN := Lib.hid hnn
  have HMM := Lib.hid hmm
  have HNN := Lib.hid hn
  rw [hmm] at HD
  rw [hnn, hmm]
  have hn1 : n ≤ 1048576 := by omega
  have hg0 := World.grownBy_alloc w (.cells #[.slice A n c, .slice B m d] 30) none
  have HS := Lib.hid (h3.grown hg0)
  have HI := Lib.hid (h4.grown hg0 (by simp))
  have HG := Lib.hid hg0
  have HP := Lib.hid (Pr.new w 30 (.slice A n c) (.slice B m d))
  clear h3 h4 hg0 hm hw hwd hnn hmm hn hdl
  go_enter Tryd.func11, Tryd.ntmps11
  go_wp2_with fail
  generalize w.alloc (.cells #[.slice A n c, .slice B m d] 30) = u0 at HS HI HG HP ⊢
  go_loopw [9, 3] (fun i v wr => ∃ (j : Nat) (t : ByteArray), j ≤ n ∧ i = .int .i64 j ∧ v = .string t ∧ t.size ≤ 30000000 ∧ Hid (t.data.toList = levT (LL.take j)) ∧ Hid (u0.grownBy wr none)) (fun i _ _ => n - (intOf i).toNat)
  case atStart => exact ⟨0, ⟨#[]⟩, Nat.zero_le _, rfl, rfl, by simp [ByteArray.size], Lib.hid (by simp [levT]), Lib.hid (gr_refl _ _)⟩
  case round =>
    obtain ⟨j, t, hj, rfl, rfl, hts, ht, hgr⟩ := hrel
    by_cases hlt : j < n
    · obtain ⟨L, hL⟩ : ∃ L, LL[j]? = some L := ⟨_, List.getElem?_eq_getElem (by have := HN.out; omega)⟩
      obtain ⟨b, off, B2, c2, rfl, hcell, _, hi⟩ := (HS.out.grown hgr.out).at_ hL
      have hmem := List.mem_of_getElem? hL
      have HC := Lib.hid (fun u (hg : wr.grownBy u none) => snums_any B2 c2 L u (hi.grown hg (by simp)) (HW.out L hmem) (HM.out L hmem))
      have HLV := Lib.hid (levT_step hL)
      have hq2 := HM.out L hmem
      have HNT := Lib.hid (numText_len (HW.out L hmem))
      obtain ⟨q, hq⟩ : ∃ q, L.length = q := ⟨_, rfl⟩
      have HQ := Lib.hid hq
      rw [hq] at hcell HC
      clear hL hi hmem hq hq2
      go_wp2_with fail
      refine (HC.out _ (gr_refl _ _)).mono ?_
      rintro e w1 ⟨⟨t1, rfl, ht1⟩, hg1⟩
      have hlj := HLN.out (j + 1)
      have htl := HTL.out (j + 1)
      rw [HLV.out, List.length_append, ← ht.out, Array.length_toList] at hlj
      have hsz : t.data.size = t.size := rfl
      rw [hsz, List.length_append, ← ht1, Array.length_toList, List.length_take] at hlj
      have hsz1 : t1.data.size = t1.size := rfl
      have hb1 : t.size + t1.size + 1 ≤ 30000000 := by
        have := HNN.out
        have := HN.out
        simp only [List.length_cons, List.length_nil] at hlj
        omega
      have HT1 := Lib.hid ht1
      have HG1 := Lib.hid (hgr.out.trans hg1)
      have hsx : (t ++ t1).size ≤ 30000000 := by rw [ByteArray.size_append]; omega
      have hs124 : (ByteArray.mk #[124]).size = 1 := rfl
      clear ht1 hg1 hlj htl hsz hsz1
      go_wp2_with fail
      go_roundw
      case rel =>
        refine ⟨j + 1, t ++ t1 ++ ByteArray.mk #[124], by omega, by go_num, rfl, by rw [ByteArray.size_append, ByteArray.size_append, hs124]; omega, Lib.hid ?_, HG1⟩
        rw [ByteArray.data_append, Array.toList_append, ByteArray.data_append, Array.toList_append, ht.out, HT1.out, HLV.out]
        simp
      case measure => simp [intOf]; omega
    · have hjn : j = n := by omega
      have HJ := Lib.hid hjn
      have e1 : LL.take j = LL := List.take_of_length_le (by have := HN.out; omega)
      have h2 := ht.out
      rw [e1] at h2
      have HT2 := Lib.hid h2
      have hp1 := (HP.out.grown hgr.out (by simp)).c1
      clear hjn e1 h2
      go_wp2_with fail
      refine (HD.out _ (HI.out.grown hgr.out (by simp))).mono ?_
      rintro e w1 ⟨⟨t1, rfl, ht1⟩, hg1⟩
      have hs1 : t1.size ≤ 24000000 := by rw [txt_size ht1]; have := HDL.out; have := HNN.out; omega
      have HT1 := Lib.hid ht1
      have HG1 := Lib.hid (HG.out.trans (hgr.out.trans hg1))
      clear ht1 hg1
      go_wp2_with fail
      go_ret
      refine ⟨⟨_, rfl, ?_⟩, HG1.out⟩
      rw [ByteArray.data_append, Array.toList_append, HT2.out, HT1.out]
      rfl

end Go.Proofs.YtbideeajdhejoaaDoor

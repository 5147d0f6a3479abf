/- Plain facts: the text of numbers and of a layout. What l13Dec, l2Numbers and FormatLayout of the model do. -/
import Derived.Test.YtbideeajdhejoaaDoorFam
import Derived.Test.YtbideeajdhejoaaDoorDec
import Derived.Lib.ItoaLen
namespace Go.Proofs.YtbideeajdhejoaaDoor
open Go.RowKit

/-- The numbers' texts with blanks between them. -/
def preT : List Int → List UInt8
  | [] => []
  | z :: l => Lib.itoa z ++ l.flatMap (fun y => 32 :: Lib.itoa y)
def numText (zs : List Int) : List UInt8 := if zs = [] then [45] else preT zs
/-- The text of a layout. -/
def fmtText (LL : List (List Int)) (D : List Int) : List UInt8 := LL.flatMap (fun L => numText L ++ [124]) ++ numText D

theorem preT_step0 {zs : List Int} {z : Int} (h : zs[0]? = some z) : preT (zs.take 1) = Lib.itoa z := by
  cases zs with
  | nil => simp at h
  | cons x l => simp at h; subst h; simp [preT]
theorem preT_snoc (z : Int) : ∀ (l : List Int), l ≠ [] → preT (l ++ [z]) = preT l ++ 32 :: Lib.itoa z
  | [], h => absurd rfl h
  | x :: l, _ => by simp [preT]
theorem preT_stepS {zs : List Int} {j : Nat} {z : Int} (h : zs[j]? = some z) (hj : 0 < j) : preT (zs.take (j + 1)) = preT (zs.take j) ++ 32 :: Lib.itoa z := by
  have e : zs.take (j + 1) = zs.take j ++ [z] := by rw [List.take_add_one, h]; rfl
  rw [e]
  refine preT_snoc z _ (fun hn => ?_)
  have hl := (List.getElem?_eq_some_iff.1 h).1
  have := congrArg List.length hn
  rw [List.length_take, List.length_nil] at this
  omega
theorem itoa_pos (z : Int) : 0 < (Lib.itoa z).length := by
  have hd : ∀ u, 0 < (Lib.decDigits u).length := fun u => by
    rw [Lib.decDigits]
    split <;> simp
  unfold Lib.itoa
  split
  · simp
  · exact hd _
/-- All numbers are int64s. -/
def Wf (zs : List Int) : Prop := ∀ z ∈ zs, -9223372036854775808 ≤ z ∧ z ≤ 9223372036854775807
theorem preT_len : ∀ {zs : List Int}, Wf zs → (preT zs).length ≤ 22 * zs.length
  | [], _ => by simp [preT]
  | z :: l, h => by
    have h1 := Lib.itoa_length_le z (h z (by simp)).1 (h z (by simp)).2
    have h2 : ∀ (l : List Int), Wf l → (l.flatMap (fun y => 32 :: Lib.itoa y)).length ≤ 22 * l.length := by
      intro l hl
      induction l with
      | nil => simp
      | cons y l ih =>
        have h3 := Lib.itoa_length_le y (hl y (by simp)).1 (hl y (by simp)).2
        have h4 := ih (fun z hz => hl z (by simp [hz]))
        simp only [List.flatMap_cons, List.length_append, List.length_cons]
        omega
    have h5 := h2 l (fun z hz => h z (by simp [hz]))
    simp only [preT, List.length_append, List.length_cons]
    omega
theorem Wf.take {zs : List Int} (h : Wf zs) (j : Nat) : Wf (zs.take j) := fun z hz => h z (List.mem_of_mem_take hz)
theorem preT_pos {zs : List Int} (h : zs ≠ []) : 0 < (preT zs).length := by
  cases zs with
  | nil => exact absurd rfl h
  | cons z l =>
    have := itoa_pos z
    simp only [preT, List.length_append]
    omega
theorem numText_len {zs : List Int} (h : Wf zs) : (numText zs).length ≤ 22 * zs.length + 1 := by
  unfold numText
  split
  · simp
  · exact Nat.le_succ_of_le (preT_len h)

theorem decD_low {n : Nat} (h : n ≤ 9) : Lib.decDigits n = [UInt8.ofNat (48 + n)] := by rw [Lib.decDigits, dif_pos (by omega)]
theorem decD_high {n : Nat} (h : 9 < n) : Lib.decDigits n = Lib.decDigits (n / 10) ++ [UInt8.ofNat (48 + n % 10)] := by
  rw [Lib.decDigits, dif_neg (by omega)]

set_option maxHeartbeats 400000 in
theorem sdec_nat (n : Nat) (w : World) (hn : n ≤ 9223372036854775807) :
    Calls Tryd.prog 10 #[.int .i64 (n : Int)] w fun e w' => (∃ t : ByteArray, e = .returned (.string t) ∧ t.data.toList = Lib.decDigits n ∧ t.size ≤ 20) ∧ w.grownBy w' none := by
  go_enter Tryd.func10, Tryd.ntmps10
  go_wp2_with fail
  go_loopw [0, 3] (fun u v wr => ∃ (m k : Nat) (t : ByteArray), t.size + k = 20 ∧ m ≤ 9223372036854775807 ∧ u = .int .i64 m ∧ v = .string t ∧ Hid (m < 10 ^ k) ∧ Hid (0 < k) ∧ Hid (Lib.decDigits n = Lib.decDigits m ++ t.data.toList) ∧ Hid (w.grownBy wr none)) (fun u _ _ => (intOf u).toNat)
  case atStart => exact ⟨n, 20, ⟨#[]⟩, by simp [ByteArray.size], hn, rfl, rfl, Lib.hid (by omega), Lib.hid (by omega), Lib.hid (by simp), Lib.hid (gr_refl _ _)⟩
  case round =>
    obtain ⟨m, k, t, htk, hm, rfl, rfl, hmk, hk0, ht, hgr⟩ := hrel
    have hcv := conv_one wr
    by_cases h9 : 9 < m
    · have hs1 : (strOfNums [48 + (m : Int) % 10]).size = 1 := strOfNums_size _
      have HS1 := Lib.hid hs1
      clear hs1
      have hlt : (strOfNums [48 + (m : Int) % 10]).size + t.size ≤ 60001 := by rw [HS1.out]; omega
      go_wp2_with fail
      go_roundw
      case rel =>
        obtain ⟨k', rfl⟩ : ∃ k', k = k' + 1 := ⟨k - 1, by have := hk0.out; omega⟩
        have h10 : m < 10 * 10 ^ k' := by have := hmk.out; rw [Nat.pow_succ] at this; omega
        have hk1 : 0 < k' := by
          rcases Nat.eq_zero_or_pos k' with h | h
          · subst h; simp at h10; omega
          · exact h
        refine ⟨m / 10, k', strOfNums [48 + (m : Int) % 10] ++ t, by rw [ByteArray.size_append, HS1.out]; omega, by omega, by simp, rfl, Lib.hid (by omega), Lib.hid hk1, Lib.hid ?_, Lib.hid (hgr.out.trans (World.grownBy_alloc _ _ _))⟩
        rw [ht.out, decD_high h9, ByteArray.data_append, Array.toList_append, strOfNums_data]
        have e : (48 + (m : Int) % 10).toNat = 48 + m % 10 := by omega
        simp [e]
      case measure => simp [intOf]; omega
    · have hs1 : (strOfNums [48 + (m : Int)]).size = 1 := strOfNums_size _
      have HS1 := Lib.hid hs1
      clear hs1
      have hlt : (strOfNums [48 + (m : Int)]).size + t.size ≤ 60001 := by rw [HS1.out]; omega
      go_wp2_with fail
      go_ret
      refine ⟨⟨_, rfl, ?_, by rw [ByteArray.size_append, HS1.out]; have := hk0.out; omega⟩, hgr.out.trans (World.grownBy_alloc _ _ _)⟩
      rw [ht.out, decD_low (by omega), ByteArray.data_append, Array.toList_append, strOfNums_data]
      have e : (48 + (m : Int)).toNat = 48 + m := by omega
      simp [e]

set_option maxHeartbeats 400000 in
theorem sdec_any (n : Int) (w : World) (h0 : -9223372036854775808 ≤ n) (h1 : n ≤ 9223372036854775807) :
    Calls Tryd.prog 10 #[.int .i64 n] w fun e w' => (∃ t : ByteArray, e = .returned (.string t) ∧ t.data.toList = Lib.itoa n) ∧ w.grownBy w' none := by
  by_cases hp : 0 ≤ n
  · obtain ⟨m, rfl⟩ : ∃ m : Nat, n = m := ⟨n.toNat, by omega⟩
    refine (sdec_nat m w (by omega)).mono ?_
    rintro e w' ⟨⟨t, he, ht, _⟩, hg⟩
    refine ⟨⟨t, he, ?_⟩, hg⟩
    rw [ht, Lib.itoa, if_neg (by omega)]
    rfl
  · by_cases hm : n < -9223372036854775807
    · have hn : n = -9223372036854775808 := by omega
      subst hn
      go_enter Tryd.func10, Tryd.ntmps10
      go_wp2_with fail
      go_ret
      refine ⟨⟨_, rfl, ?_⟩, gr_refl _ _⟩
      decide +kernel
    · have HC := Lib.hid (fun w => sdec_nat n.natAbs w (by omega))
      have e1 : ((n.natAbs : Nat) : Int) = -n := by omega
      rw [e1] at HC
      have wn : IntKind.i64.wrap (-n) = -n := IntWalk.i64_in _ (by omega)
      have hp' : n < 0 := by omega
      clear hp
      go_enter Tryd.func10, Tryd.ntmps10
      go_wp2_with fail
      refine (HC.out _).mono ?_
      rintro e w1 ⟨⟨t, rfl, ht, hts⟩, hg⟩
      have HT := Lib.hid ht
      have HG := Lib.hid hg
      clear ht hg
      go_wp2_with fail
      go_ret
      refine ⟨⟨_, rfl, ?_⟩, HG.out⟩
      rw [ByteArray.data_append, Array.toList_append, HT.out, Lib.itoa, if_pos hp']
      rfl

/-- How a function ends that returns a text. -/
def TxtPost (l : List UInt8) (w : World) (e : Ending) (w' : World) : Prop := (∃ t : ByteArray, e = .returned (.string t) ∧ t.data.toList = l) ∧ w.grownBy w' none
theorem txt_size {t : ByteArray} {l : List UInt8} (h : t.data.toList = l) : t.size = l.length := by rw [← h, Array.length_toList]; rfl

set_option maxHeartbeats 1000000 in
theorem snums_any (A : Option Addr) (c : Nat) (zs : List Int) (w : World) (h : Ints w A zs) (hwf : Wf zs) (hn : zs.length ≤ 1048576) :
    Calls Tryd.prog 18 #[.slice A zs.length c] w (TxtPost (numText zs) w) := by
  have HS := Lib.hid h
  have HWF := Lib.hid hwf
  have HPL := Lib.hid (fun j => preT_len (hwf.take j))
  obtain ⟨n, hnn⟩ : ∃ n, zs.length = n := ⟨_, rfl⟩
  have HN := Lib.hid hnn
  rw [hnn] at hn ⊢
  clear h hwf hnn
  go_enter Tryd.func18, Tryd.ntmps18
  go_wp2_with fail
  go_loopw [8, 3] (fun i v wr => ∃ (j : Nat) (t : ByteArray), j ≤ n ∧ i = .int .i64 j ∧ v = .string t ∧ t.size ≤ 22 * j ∧ Hid (t.data.toList = preT (zs.take j)) ∧ Hid (w.grownBy wr none)) (fun i _ _ => n - (intOf i).toNat)
  case atStart => exact ⟨0, ⟨#[]⟩, Nat.zero_le _, rfl, rfl, by simp [ByteArray.size], Lib.hid (by simp [preT]), Lib.hid (gr_refl _ _)⟩
  case round =>
    obtain ⟨j, t, hj, rfl, rfl, hts, ht, hgr⟩ := hrel
    by_cases hlt : j < n
    · obtain ⟨z, hz⟩ : ∃ z, zs[j]? = some z := ⟨_, List.getElem?_eq_getElem (by have := HN.out; omega)⟩
      obtain ⟨b, off, rfl, _, hc⟩ := (HS.out.grown hgr.out (by simp)) (by have := HN.out; omega)
      have hcell := hc j z hz
      have hzb := HWF.out z (List.mem_of_getElem? hz)
      have HC := Lib.hid (fun u => sdec_any z u hzb.1 hzb.2)
      have hil := Lib.itoa_length_le z hzb.1 hzb.2
      have HIL := Lib.hid hil
      have HZ := Lib.hid hz
      have hpj := HPL.out (j + 1)
      rw [List.length_take, Nat.min_eq_left (by have := HN.out; omega)] at hpj
      have HPJ := Lib.hid hpj
      clear hc hz hzb hil hpj
      by_cases h0 : j = 0
      · subst h0
        have hcell0 : wr.cell? ⟨b, off, none⟩ = some (.int .i64 z) := by simpa using hcell
        go_wp2_with fail
        refine (HC.out _).mono ?_
        rintro e w1 ⟨⟨t1, rfl, ht1⟩, hg1⟩
        have hs1 : t1.size ≤ 21 := by rw [txt_size ht1]; exact HIL.out
        have HT1 := Lib.hid ht1
        have HG1 := Lib.hid (hgr.out.trans hg1)
        clear ht1 hg1
        go_wp2_with fail
        go_roundw
        case rel =>
          refine ⟨1, t ++ t1, by omega, by go_num, rfl, by rw [ByteArray.size_append]; omega, Lib.hid ?_, HG1⟩
          rw [ByteArray.data_append, Array.toList_append, ht.out, HT1.out, preT_step0 HZ.out]
          simp [preT]
        case measure => simp [intOf]; omega
      · have hj0 : 0 < j := by omega
        have hs32 : (ByteArray.mk #[32]).size = 1 := rfl
        go_wp2_with fail
        refine (HC.out _).mono ?_
        rintro e w1 ⟨⟨t1, rfl, ht1⟩, hg1⟩
        have hs1 : t1.size ≤ 21 := by rw [txt_size ht1]; exact HIL.out
        have HT1 := Lib.hid ht1
        have HG1 := Lib.hid (hgr.out.trans hg1)
        clear ht1 hg1
        have hsx : (t ++ ByteArray.mk #[32]).size ≤ 22 * j + 1 := by rw [ByteArray.size_append, hs32]; omega
        go_wp2_with fail
        go_roundw
        case rel =>
          refine ⟨j + 1, t ++ ByteArray.mk #[32] ++ t1, by omega, by go_num, rfl, by rw [ByteArray.size_append]; omega, Lib.hid ?_, HG1⟩
          rw [ByteArray.data_append, Array.toList_append, ByteArray.data_append, Array.toList_append, ht.out, HT1.out, preT_stepS HZ.out hj0]
          simp
        case measure => simp [intOf]; omega
    · have hjn : j = n := by omega
      have HJ := Lib.hid hjn
      have e1 : zs.take j = zs := List.take_of_length_le (by have := HN.out; omega)
      have h2 := ht.out
      rw [e1] at h2
      have HT2 := Lib.hid h2
      clear hjn e1 h2
      obtain ⟨bb, hbb⟩ : ∃ bb, t.toList.isEmpty = bb := ⟨_, rfl⟩
      have HBB := Lib.hid hbb
      cases bb
      · go_wp2_with fail
        go_ret
        refine ⟨⟨t, rfl, ?_⟩, hgr.out⟩
        have h3 := HBB.out
        rw [ByteArray.toList_eq, HT2.out] at h3
        rw [HT2.out, numText, if_neg (by intro h; subst h; simp [preT] at h3)]
      · go_wp2_with fail
        go_ret
        refine ⟨⟨_, rfl, ?_⟩, hgr.out⟩
        have hnil : zs = [] := by
          rcases Classical.em (zs = []) with h | h
          · exact h
          · have h3 := HBB.out
            rw [ByteArray.toList_eq, HT2.out, List.isEmpty_iff] at h3
            have := preT_pos h
            rw [h3] at this
            simp at this
        rw [hnil]
        rfl

end Go.Proofs.YtbideeajdhejoaaDoor

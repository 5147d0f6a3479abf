/- What FormatLayout of the program does. -/
import Derived.Test.YtbideeajdhejoaaDoorApp
import Derived.Lib.SlBytesRow
namespace Go.Proofs.YtbideeajdhejoaaDoor
open Go.RowKit

theorem appn_any (B n : Nat) (sv : Value) (xs : List Value) (A : Option Addr) (c : Nat) (zs : List Int) (w : World) (hown : w.ownsRow B 5 1 sv n xs) (hB : B ≤ w.heap.size) (h : IntsB B w A zs) (hwf : Wf zs) (hz : zs.length ≤ 1048576) (hn : n ≤ 60000000) (htab : Tab B w) :
    Calls Tryd.prog 22 #[sv, .slice A zs.length c] w (AppPost B n xs (numText zs) w) := by
  rcases Nat.eq_zero_or_pos zs.length with h0 | h0
  · have hnil : zs = [] := List.eq_nil_of_length_eq_zero h0
    subst hnil
    exact appn_nil B n sv xs A c w hown hB hn
  · have hne : zs ≠ [] := fun e => by rw [e] at h0; simp at h0
    have := appn_some B n sv xs A c zs w hown hB h hwf hz hn htab h0
    rwa [numText, if_neg hne]

theorem Ints.toB {w : World} {A : Option Addr} {zs : List Int} (h : Ints w A zs) : IntsB w.heap.size w A zs := fun hl => by
  obtain ⟨b, off, e, hb, hc⟩ := h hl
  exact ⟨b, off, e, hb, hb, hc⟩
theorem Tab.mono {B B' : Nat} {w : World} (h : Tab B w) (hB : B ≤ B') : Tab B' w := fun w' hb => h w' ⟨hb.os, hb.tape, hb.output, hb.size, fun k hk => hb.block k (by omega)⟩
theorem gr_below {w w' : World} {B : Nat} (h : Below B w w') (hB : w.heap.size ≤ B) : w.grownBy w' none := ⟨h.os, h.tape, h.output, h.size, fun k hk _ => h.block k (by omega)⟩

/-- string(text), of the bytes that are owned. -/
theorem conv_own {w : World} {B n : Nat} {A : Option Addr} {c : Nat} {l : List UInt8} (h : w.ownsRow B 5 1 (.slice A n c) n (Lib.byteCells l)) (hl : l.length = n) (hp : 0 < n) :
    (convert 43 9 (.slice A n c)).run Tryd.prog w = .ok (.string ⟨l.toArray⟩) w := by
  obtain ⟨s, hs⟩ : ∃ s : ByteArray, s = ⟨l.toArray⟩ := ⟨_, rfl⟩
  have e : s.size = n := by rw [← hl, hs]; simp [ByteArray.size]
  have hat : ∀ i (hi : i < s.size), l[i]? = some s[i] := fun i hi => by
    subst hs
    have hil : i < l.length := by omega
    rw [List.getElem?_eq_getElem hil]
    rfl
  rw [← hs]
  clear hs
  rcases h.2 with ⟨_, hn⟩ | ⟨g, cap, cur, hv, _⟩
  · omega
  · cases hv
    have hb : Lib.Bytes w g 0 s := fun i hi => by
      have := h.cellAt i (by omega)
      rw [Nat.zero_add, this, Lib.byteCells, List.getElem?_map, hat i hi]
      rfl
    have := Lib.run_convert_whole (P := Tryd.prog) w 43 5 9 Tryd.underlying43 Tryd.underlying5 Tryd.underlying9 g 0 s hb c
    rw [e] at this
    exact this

set_option maxRecDepth 100000 in
set_option maxHeartbeats 2000000 in
theorem fmtl_any (v : Value) (LL : List (List Int)) (D : List Int) (w : World) (h : Lyt w v LL D) (hn : LL.length + totL LL + D.length ≤ 1048576) (hw : ∀ L ∈ LL, Wf L) (hwd : Wf D) (htab : Lib.TabIs Tryd.prog w "internal/strconv.uint64pow10" .u64 Lib.pow10Tab) :
    Calls Tryd.prog 14 #[v] w (TxtPost (fmtText LL D) w) := by
  obtain ⟨i0, hi0, hz0, hz1, hz2⟩ := info_parts infoU
  obtain ⟨A, c, B0, d, rfl, _, _, h3, h4⟩ := h
  have hm : ∀ M ∈ LL, M.length ≤ 1048576 := fun M hM => by
    obtain ⟨i, hi⟩ := List.getElem?_of_mem hM
    have := totL_at hi
    omega
  have hlev : ∀ j, (levT (LL.take j)).length ≤ 30000000 := fun j => by
    have h1 := levT_len (LL := LL.take j) (fun L hL => hw L (List.mem_of_mem_take hL))
    have e : LL.take j ++ LL.drop j = LL := List.take_append_drop j LL
    have h2 := totL_append (LL.take j) (LL.drop j)
    have h3 : (LL.take j).length ≤ LL.length := by rw [List.length_take]; omega
    rw [e] at h2
    omega
  have HM := Lib.hid hm
  have HW := Lib.hid hw
  have HLV := Lib.hid hlev
  have HWD := Lib.hid hwd
  have hdl := numText_len hwd
  have hd0 : D.length ≤ 1048576 := by omega
  obtain ⟨n, hnn⟩ : ∃ n, LL.length = n := ⟨_, rfl⟩
  obtain ⟨m, hmm⟩ : ∃ m, D.length = m := ⟨_, rfl⟩
  have HN := Lib.hid hnn
  have HMM := Lib.hid hmm
  rw [hnn, hmm]
  rw [hmm] at hdl
  have hn1 : n ≤ 1048576 := by omega
  have hm1 : m ≤ 1048576 := by omega
  have HDL := Lib.hid hdl
  have hg0 := World.grownBy_alloc w (.cells #[.slice A n c, .slice B0 m d] 30) none
  have HS := Lib.hid (h3.grown hg0)
  have HI := Lib.hid (h4.grown hg0 (by simp)).toB
  have HG := Lib.hid hg0
  have HP := Lib.hid (Pr.new w 30 (.slice A n c) (.slice B0 m d))
  have HT := Lib.hid (Tab.mono (((Lib.tabBelow_of_tabIs htab).on (below_allocA (Nat.le_refl _) (.cells #[.slice A n c, .slice B0 m d] 30)) : Tab w.heap.size _)) hg0.size)
  clear h3 h4 hg0 hm hw hwd hnn hmm hn hdl htab hlev hd0
  go_enter Tryd.func14, Tryd.ntmps14
  go_wp2_with fail
  generalize w.alloc (.cells #[.slice A n c, .slice B0 m d] 30) = u0 at HS HI HG HP HT ⊢
  go_loopw [3, 9] (fun v i wr => ∃ (j k : Nat), j ≤ n ∧ i = .int .i64 j ∧ Hid (k = (levT (LL.take j)).length) ∧ Hid (wr.ownsRow u0.heap.size 5 1 v k (Lib.byteCells (levT (LL.take j)))) ∧ Hid (Below u0.heap.size u0 wr) ∧ u0.heap.size ≤ wr.heap.size) (fun _ i _ => n - (intOf i).toNat)
  case atStart => exact ⟨0, 0, Nat.zero_le _, rfl, Lib.hid (by simp [levT]), Lib.hid (by simpa [levT, Lib.byteCells] using World.ownsRow_nil u0 _ _ _), Lib.hid (Below.refl _ _), Nat.le_refl _⟩
  case round =>
    obtain ⟨j, k, hj, rfl, hk, ho, hb, hB⟩ := hrel
    have hk1 : k ≤ 30000000 := by rw [hk.out]; exact HLV.out j
    by_cases hlt : j < n
    · obtain ⟨L, hL⟩ : ∃ L, LL[j]? = some L := ⟨_, List.getElem?_eq_getElem (by have := HN.out; omega)⟩
      obtain ⟨b, off, rfl, hbb, hcc⟩ := HS.out (by have := HN.out; omega)
      obtain ⟨B2, c2, hc0, _, hi⟩ := hcc j L hL
      have hcell := (cell_below (o := off + j) hb.out hbb).trans hc0
      have hmem := List.mem_of_getElem? hL
      have hLv := levT_step hL
      have hle := HLV.out (j + 1)
      rw [hLv, List.length_append, ← hk.out, List.length_append] at hle
      have HLVT := Lib.hid hLv
      have HCA := Lib.hid (appn_any u0.heap.size k u3 _ B2 c2 L wr ho.out hB (hi.toB.below hb.out) (HW.out L hmem) (HM.out L hmem) (by omega) (HT.out.on hb.out))
      obtain ⟨q, hq⟩ : ∃ q, L.length = q := ⟨_, rfl⟩
      rw [hq] at hcell HCA
      clear hL hi hmem hq hcc hc0 hLv
      go_wp2_with fail
      refine HCA.out.mono ?_
      rintro e w1 ⟨v1, rfl, ho1, hb1⟩
      obtain ⟨l1, hl1⟩ : ∃ l1, (numText L).length = l1 := ⟨_, rfl⟩
      rw [hl1] at hle ho1
      have hk2 : k + l1 + 1 ≤ 30000000 := by simp at hle; omega
      have HL1 := Lib.hid hl1
      have hB1 : u0.heap.size ≤ w1.heap.size := Nat.le_trans hB hb1.size
      have HB1 := Lib.hid (hb.out.trans hb1)
      have own1 := ho1.alloc (.cells #[.int .u8 124] 5)
      obtain ⟨A1, m1, c1, rfl⟩ := own_form ho1
      obtain rfl : m1 = k + l1 := own_len2A ho1
      clear hl1 ho1 hb1 hle
      go_wp2_with (at_builtin; refine wpList_append_own_at _ rfl _ _ 43 rfl u0.heap.size 5 i0 (.int .u8 0) 1 1 Tryd.underlying43 hi0 hz0 hz1 hz2 rfl (by decide) _ _ _ rfl own1 ⟨w1.heap.size, 0, none⟩ 1 1 [.int .u8 124] rfl rfl ?b1 ?b2 ?b3 ?b4 ?b5 ?_)
      case b1 => exact cell_one_new _ _ _
      case b2 => simp [Value.oneCell']
      case b3 => simp only [maxLen]; omega
      case b4 => omega
      case b5 => simp; omega
      intro v8 w8 hown8 hg8 _ _
      have hb8 := (below_allocA hB1 (.cells #[.int .u8 124] 5)).trans (below_rowA own1 (by simp; omega) hg8)
      have HB8 := Lib.hid (HB1.out.trans hb8)
      have hB8 : u0.heap.size ≤ w8.heap.size := Nat.le_trans hB1 hb8.size
      have HO8 := Lib.hid hown8
      clear hown8 hg8 own1 hb8
      go_wp2_with fail
      go_roundw
      case rel =>
        refine ⟨j + 1, k + l1 + 1, by omega, by go_num, Lib.hid ?_, Lib.hid ?_, HB8, hB8⟩
        · rw [HLVT.out, List.length_append, ← hk.out, List.length_append, HL1.out]
          rfl
        · rw [HLVT.out, byteCells_app, byteCells_app]
          have e9 : Lib.byteCells [124] = [Value.int .u8 124] := rfl
          rw [e9]
          have := HO8.out
          simpa only [List.append_assoc] using this
      case measure => simp [intOf]; omega
    · have hjn : j = n := by omega
      have e1 : LL.take j = LL := List.take_of_length_le (by have := HN.out; omega)
      have h2 := hk.out
      have h3 := ho.out
      rw [e1] at h2 h3
      have HK := Lib.hid h2
      have hp1 := (cell_below (o := 1) hb.out (by have := HP.out.lt; exact this)).trans HP.out.c1
      have HCA := Lib.hid (appn_any u0.heap.size k u3 _ B0 d D wr h3 hB (HI.out.below hb.out) HWD.out (by have := HMM.out; omega) (by omega) (HT.out.on hb.out))
      rw [HMM.out] at HCA
      clear h2 h3 e1 hjn
      go_wp2_with fail
      refine HCA.out.mono ?_
      rintro e w1 ⟨v1, rfl, ho1, hb1⟩
      obtain ⟨A1, m1, c1, rfl⟩ := own_form ho1
      have hm1' := own_len2A ho1
      subst hm1'
      rw [← byteCells_app] at ho1
      have hcv := conv_own ho1 (by rw [List.length_append, HK.out]) (by
        have : 0 < (numText D).length := by
          unfold numText
          split
          · simp
          · rename_i hD; exact preT_pos hD
        omega)
      have HG1 := Lib.hid (HG.out.trans (gr_below (hb.out.trans hb1) (Nat.le_refl _)))
      clear ho1 hb1
      go_wp2_with fail
      go_ret
      exact ⟨⟨_, rfl, by simp [fmtText, levT]⟩, HG1.out⟩

end Go.Proofs.YtbideeajdhejoaaDoor

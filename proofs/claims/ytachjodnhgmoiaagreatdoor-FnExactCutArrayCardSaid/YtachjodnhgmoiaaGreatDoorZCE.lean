/- 12 texts in one: Texts Nstr FoldP FoldI Wrong FoldUp AppR AppL FoldR CutM CutI CutS. -/
import Derived.Test.YtachjodnhgmoiaaGreatDoorGrB
import Derived.Test.YtachjodnhgmoiaaGreatDoorShelfB
import Derived.Lib.AppendIntMem
import Derived.Test.YtachjodnhgmoiaaGreatDoorLytArg
import Derived.Test.YtachjodnhgmoiaaGreatDoorZCB
import Derived.Test.YtachjodnhgmoiaaGreatDoorRngA
import Derived.Test.YtachjodnhgmoiaaGreatDoorIterL
import Derived.Test.YtachjodnhgmoiaaGreatDoorPr
import Derived.Test.YtachjodnhgmoiaaGreatDoorRgnV
import Derived.Test.YtachjodnhgmoiaaGreatDoorFam
import Derived.Lib.AppendZerosOnto
import Derived.Deep.AppendLies
import Derived.Deep.RegionLaw
import Derived.Test.YtachjodnhgmoiaaGreatDoorZCD
import Derived.Test.YtachjodnhgmoiaaGreatDoorRowPush
import Derived.Test.YtachjodnhgmoiaaGreatDoorIn
namespace Go.Proofs.YtachjodnhgmoiaaGreatDoor
/- Texts -/
section
open Go.RowKit

/-- A number's text. -/
def nstr (z : Int) : ByteArray := ⟨(Lib.itoa z).toArray⟩

theorem infoStr : (Tryz.prog.info? 9).map (fun i => (i.zero, i.size, i.bytes)) = some (some (.string ⟨#[]⟩), 1, 16) := by kernel_rfl

set_option maxRecDepth 100000 in
set_option maxHeartbeats 400000 in
theorem texts_any (A : Option Addr) (c : Nat) (zs : List Int) (w : World) (h : Ints w A zs) (hwf : Wf zs) (hn : zs.length ≤ 1048576) (htab : Lib.TabIs Tryz.prog w "internal/strconv.uint64pow10" .u64 Lib.pow10Tab) :
    Calls Tryz.prog 62 #[.agg #[.slice A zs.length c]] w fun e w' => ∃ g, e = .returned (.slice (some ⟨g, 0, none⟩) zs.length zs.length) ∧ w.grownBy w' none ∧
      w'.ownsRow w.heap.size 9 1 (.slice (some ⟨g, 0, none⟩) zs.length zs.length) zs.length (zs.map (fun z => Value.string (nstr z))) := by
  obtain ⟨i0, hi0, hz0, hz1, hz2⟩ := info_parts infoStr
  have HS := Lib.hid h
  have HWF := Lib.hid hwf
  have HT := Lib.hid (Lib.tabBelow_of_tabIs htab)
  obtain ⟨n, hnn⟩ : ∃ n, zs.length = n := ⟨_, rfl⟩
  have HN := Lib.hid hnn
  rw [hnn] at hn ⊢
  clear h hnn hwf htab
  have hmk : ∀ u : World, (Instr.makeSlice 106 (.int .i64 (n : Int)) (.int .i64 (n : Int))).run Tryz.prog u =
      .ok (.slice (some ⟨u.heap.size, 0, none⟩) n n) (u.alloc (.cells (madeCells #[.string ⟨#[]⟩] n) 9)) := fun u => by
    have h := run_make (P := Tryz.prog) u 106 9 i0 (.string ⟨#[]⟩) Tryz.underlying106 hi0 hz0 .i64 .i64 (n : Int) (n : Int) (by omega) (Int.le_refl _) (by rw [hz2]; omega) (by omega)
    simpa [hz1, Value.cells] using h
  go_enter Tryz.func62, Tryz.ntmps62
  go_wp2_with fail
  clear hmk hi0 hz0 hz1 hz2
  have hs1 : (w.alloc (.cells #[.slice A n c] 80)).heap.size = w.heap.size + 1 := by simp
  have ho1 := World.ownsRow_lit (base := w.heap.size) (e := 9) (size := 1) (w.alloc (.cells #[.slice A n c] 80)) (madeCells #[.string ⟨#[]⟩] n) n (by omega) (by simp only [maxLen]; omega) (by simp [madeCells])
  have hg1 : w.grownBy ((w.alloc (.cells #[.slice A n c] 80)).alloc (.cells (madeCells #[.string ⟨#[]⟩] n) 9)) none := (World.grownBy_alloc _ _ _).trans (World.grownBy_alloc _ _ _)
  rw [hs1] at ho1
  have HO := Lib.hid ho1
  have HG := Lib.hid hg1
  generalize (w.alloc (.cells #[.slice A n c] 80)).alloc (.cells (madeCells #[.string ⟨#[]⟩] n) 9) = u0 at HO HG ⊢
  clear ho1 hg1 hs1
  go_loopw [13] (fun i wr => ∃ (j : Nat) (ys : List Value), j ≤ n ∧ i = .int .i64 j ∧ Hid (wr.ownsRow w.heap.size 9 1 (.slice (some ⟨w.heap.size + 1, 0, none⟩) n n) n ys) ∧ Hid (∀ i, i < j → ys[i]? = (zs.map (fun z => Value.string (nstr z)))[i]?) ∧ Hid (w.grownBy wr none)) (fun i _ => n - (intOf i).toNat)
  case atStart => exact ⟨0, _, Nat.zero_le _, rfl, HO, Lib.hid (fun i hi => by omega), HG⟩
  case round =>
    obtain ⟨j, ys, hj, rfl, ho, hys, hgr⟩ := hrel
    by_cases hlt : j < n
    · obtain ⟨z, hz⟩ : ∃ z, zs[j]? = some z := ⟨_, List.getElem?_eq_getElem (by have := HN.out; omega)⟩
      obtain ⟨b, off, rfl, hb, hc⟩ := (HS.out.grown hgr.out (by simp)) (by have := HN.out; omega)
      have hcell := hc j z hz
      have hzw := HWF.out z (List.mem_of_getElem? hz)
      have HAI := Lib.hid (Tryz.strconv_Itoa z hzw.1 hzw.2 wr (HT.out wr (below_of hgr.out)))
      have HZ := Lib.hid hz
      clear hc hz hb
      go_wp2_with fail
      refine HAI.out.mono ?_
      rintro e w1 ⟨rfl, k1, os1, hw1⟩
      have hgk : wr.grownBy w1 none := by
        rw [hw1]
        exact gr_belowB (Lib.below_grow wr.heap.size wr (Nat.le_refl _) k1 os1) (Nat.le_refl _)
      clear hw1
      have ho1 := ho.out.kept hgk (.inr (by simp [Value.ownBlock]))
      have hyl : ys.length = n := by have := ho1.1; omega
      have hcell2 : w1.cell? ⟨w.heap.size + 1, j, none⟩ = some ys[j] := (ho1.cellAt j (by omega)).trans (List.getElem?_eq_getElem (by omega))
      have hfr := ho1.frozenAt j
      generalize ys[j] = y0 at hcell2
      have HYL := Lib.hid hyl
      have HST := Lib.hid (ho1.stored j (.string ⟨(Lib.itoa z).toArray⟩))
      have HG1 := Lib.hid (hgr.out.trans hgk)
      clear ho1 hyl hgk
      go_wp2_with fail
      go_roundw
      case rel =>
        refine ⟨j + 1, ys.set j (.string ⟨(Lib.itoa z).toArray⟩), by omega, by go_num, Lib.hid HST.out.1, Lib.hid (fun i hi => ?_), Lib.hid (gr_ownF HG1.out HST.out.2 (fun k hk => by cases hk; omega))⟩
        rw [List.getElem?_set]
        by_cases e : j = i
        · subst e
          rw [if_pos rfl, if_pos (by have := HYL.out; omega), List.getElem?_map, HZ.out]
          rfl
        · rw [if_neg e]
          exact hys.out i (by omega)
      case measure => simp [intOf]; omega
    · have hjn : j = n := by omega
      have HJ := Lib.hid hjn
      clear hjn
      go_wp2_with fail
      go_ret
      refine ⟨_, rfl, hgr.out, ?_⟩
      have e : ys = zs.map (fun z => Value.string (nstr z)) := by
        refine List.ext_getElem? fun i => ?_
        have hyl : ys.length = n := by have := ho.out.1; omega
        have := HN.out
        rcases Nat.lt_or_ge i n with h | h
        · exact hys.out i (by rw [HJ.out]; exact h)
        · rw [List.getElem?_eq_none (by omega), List.getElem?_eq_none (by rw [List.length_map]; omega)]
      rw [← e]
      exact ho.out
end

/- Nstr -/
section
open Go.RowKit

theorem decDigits_dec : ∀ (u : Nat), Lib.decDigits u = dec u := by
  intro u
  induction u using Nat.strongRecOn with
  | _ u ih =>
    rcases Nat.lt_or_ge 9 u with h | h
    · rw [dec_high h, ← ih (u / 10) (by omega), Lib.decDigits, dif_neg (by omega)]
    · rw [dec_low h, Lib.decDigits, dif_pos (by omega)]
theorem nstr_dec {z : Int} (h : 0 ≤ z) : (nstr z).data.toList = dec z.toNat := by
  unfold nstr
  simp only
  rw [Lib.itoa, if_neg (by omega), decDigits_dec]
theorem tx_nums : ∀ {D : List Int}, okN 10006 D = true → Tx 0 (D.map nstr) (show List (T 0) from (D.map Int.toNat : List Nat))
  | [], _ => rfl
  | z :: D, h => by
    simp only [okN, Bool.and_eq_true, decide_eq_true_eq] at h
    have h2 : (D.map nstr).map (·.data.toList) = (D.map Int.toNat : List Nat).map dec := tx_nums (D := D) h.2
    show (nstr z).data.toList :: (D.map nstr).map (·.data.toList) = dec z.toNat :: (D.map Int.toNat : List Nat).map dec
    rw [nstr_dec (by omega), h2]
end

/- FoldP -/
section
open Go.RowKit Go.Shelf

theorem fits_num : ∀ (LL : List (List Int)) (c : Nat) (D : List Int), Fits c LL D → okN 10006 D = true
  | [], _, _, h => h.2
  | _ :: LL, _, D, h => fits_num LL _ D h.2.2
theorem wf_num {D : List Int} (h : okN 10006 D = true) : Wf D := fun z hz => by
  obtain ⟨j, hj⟩ := List.getElem?_of_mem hz
  have := okN_at hj h
  omega
theorem rws_vals {w : World} {A : Option Addr} {LL : List (List Int)} (h : Rws w A LL) : ∃ vs : List Value, vs.length = LL.length ∧ (∀ (X : Nat → TypeId → Prop) (W : World), (∀ k t, X k t → w.heap.size ≤ k) → w.grownBy W none → SlsL X W A vs) ∧
    ∀ (i : Nat) (L : List Int), LL[i]? = some L → ∃ (Bi : Option Addr) (ci : Nat), vs[i]? = some (.slice Bi L.length ci) ∧ L.length ≤ ci ∧ Ints w Bi L := by
  by_cases hl : 0 < LL.length
  · obtain ⟨b, off, rfl, hb, hc⟩ := h hl
    refine ⟨(List.range LL.length).map (fun i => (w.cell? ⟨b, off + i, none⟩).getD (.int .i64 0)), by simp, fun X W hX hg _ => ⟨b, off, rfl, fun W' hk j v hj => ?_⟩, fun i L hL => ?_⟩
    · have hjd : j < LL.length := by have := (List.getElem?_eq_some_iff.1 hj).1; simpa using this
      rw [List.getElem?_map, List.getElem?_range hjd] at hj
      simp only [Option.map_some, Option.some.injEq] at hj
      obtain ⟨Bj, cj, h1, _, _⟩ := hc j _ (List.getElem?_eq_getElem hjd)
      rw [h1] at hj
      simp only [Option.getD_some] at hj
      subst hj
      exact low_cell hX hb hg hk h1
    · have hid : i < LL.length := (List.getElem?_eq_some_iff.1 hL).1
      obtain ⟨Bi, ci, h1, h2, h3⟩ := hc i L hL
      refine ⟨Bi, ci, ?_, h2, h3⟩
      rw [List.getElem?_map, List.getElem?_range hid]
      simp only [Option.map_some, h1, Option.getD_some]
  · have e : LL = [] := List.eq_nil_of_length_eq_zero (by omega)
    subst e
    exact ⟨[], rfl, fun X W _ _ h => by simp at h, fun i L h => by simp at h⟩
/-- The text of the whole array is too long. -/
def FoldBad (LL : List (List Int)) (D : List Int) : Prop := 400 < txs LL.length (foldN LL.length LL D)
theorem txs_suffix : ∀ (LL : List (List Int)) (c k : Nat) (D : List Int), Fits c LL D → k ≤ LL.length → txs (LL.drop k).length (foldN (LL.drop k).length (LL.drop k) D) ≤ txs LL.length (foldN LL.length LL D)
  | LL, _, 0, _, _, _ => Nat.le_refl _
  | [], _, k + 1, _, _, h => by simp at h
  | L :: LL, c, k + 1, D, hf, h => by
    have h1 := txs_suffix LL _ k D hf.2.2 (by simpa using h)
    have h2 := txs_up (d := LL.length) rfl hf
    exact Nat.le_trans h1 h2
theorem txs_single {d : Nat} (t : T d) : txs d [t] = (text d t).length := by simp [txs]

theorem spanL_pre {L : List Int} {pre : List (Int × Int)} {x : Int × Int} (h : pre ++ [x] <+: spanK 0 L) : ∃ z, L[pre.length]? = some z ∧ x = (sumI (L.take pre.length), sumI (L.take pre.length) + z) := by
  have hl := h.length_le
  rw [spanK_len, List.length_append] at hl
  simp only [List.length_cons, List.length_nil] at hl
  obtain ⟨z, hz⟩ : ∃ z, L[pre.length]? = some z := ⟨_, List.getElem?_eq_getElem (by omega)⟩
  have h1 := spanK_at L 0 _ z hz
  have h2 : (spanK 0 L)[pre.length]? = some x := by
    obtain ⟨t, ht⟩ := h
    rw [← ht]
    simp
  rw [h2] at h1
  simp only [Option.some.injEq, Int.zero_add] at h1
  exact ⟨z, hz, h1⟩
theorem cells_keptF {W W' : World} {row : Option Nat} (hg : W.grownBy W' row) (hr : ∀ r, row = some r → ∃ o : Obj, W.heap[r]? = some o ∧ o.isCells = false) {k : Nat} {cs : Array Value} {T : TypeId} {fr : Nat × Nat} (h : W.heap[k]? = some (.cells cs T fr)) : W'.heap[k]? = some (.cells cs T fr) :=
  (hg.block k (Array.getElem?_eq_some_iff.1 h).1 (fun e => by
    obtain ⟨o, ho, hc⟩ := hr k e.symm
    rw [h] at ho
    cases ho
    cases hc)).trans h
theorem own_keptF {W W' : World} {row : Option Nat} (hg : W.grownBy W' row) (hr : ∀ r, row = some r → ∃ o : Obj, W.heap[r]? = some o ∧ o.isCells = false) {base n : Nat} {e : TypeId} {v : Value} {xs : List Value} (h : W.ownsRow base e 1 v n xs) : W'.ownsRow base e 1 v n xs :=
  own_keep h (fun k hk => by
    rcases h.2 with ⟨hv, _⟩ | ⟨b, cap, cur, hv, _, hb, _⟩
    · rw [hv] at hk; cases hk
    · rw [hv] at hk
      simp only [Value.ownBlock, Option.some.injEq] at hk
      subst hk
      rw [hb]
      exact cells_keptF hg hr hb)
set_option maxRecDepth 100000 in
theorem cut_runS (A : Option Addr) (k c : Nat) (s z : Int) (u : World) (h0 : 0 ≤ s) (h1 : 0 ≤ z) (h2 : s + z ≤ c) :
    (Instr.slice 106 (.slice A k c) (some (.int .i64 s)) (some (.int .i64 (s + z))) (some (.int .i64 (s + z)))).run Tryz.prog u = .ok (.slice (if (s + z).toNat = s.toNat then A else A.map (·.add (s.toNat * 1))) ((s + z).toNat - s.toNat) ((s + z).toNat - s.toNat)) u := by
  rw [run_slice_lhm u 106 A k c Tryz.underlying106 .i64 .i64 .i64 s (s + z) (s + z) h0 (by omega) (by omega) h2]
  have hsz : (sizeOf (Tryz.prog.elem 106)).run Tryz.prog u = .ok 1 u := by kernel_rfl
  rw [hsz]
  rfl

theorem bytes_eqF {t : ByteArray} {l : List UInt8} (h : t.data.toList = l) : t = ⟨l.toArray⟩ := by
  cases t
  simp only at h
  subst h
  simp
def strW (ss : List ByteArray) : List Value := ss.map Value.string
theorem strW_snoc (l : List ByteArray) (x : ByteArray) : strW (l ++ [x]) = strW l ++ [.string x] := by simp [strW]
theorem keeps_own {X : Nat → TypeId → Prop} {W W' : World} {base n : Nat} {e : TypeId} {v : Value} {xs : List Value} (h : W.grownBy W' v.ownBlock) (ho : W.ownsRow base e 1 v n xs) (hX : ∀ q, base ≤ q → X q e) : KeepsK X W W' := by
  rcases ho.2 with ⟨hv, _⟩ | ⟨b, cap, cur, hv, hb, hg, _⟩
  · rw [hv] at h
    exact KeepsK.grown h
  · rw [hv] at h
    exact KeepsK.grownX h hg (hX b hb)
theorem own_notF {W : World} {base n b : Nat} {e t : TypeId} {v : Value} {xs : List Value} {cs : Array Value} {fr : Nat × Nat} (ho : W.ownsRow base e 1 v n xs) (hb : W.heap[b]? = some (.cells cs t fr)) (ht : t ≠ e) : some b ≠ v.ownBlock := fun h => by
  rcases ho.2 with ⟨hv, _⟩ | ⟨q, cap, cur, hv, _, hg, _⟩
  · rw [hv] at h; cases h
  · rw [hv] at h
    simp only [Value.ownBlock, Option.some.injEq] at h
    subst h
    rw [hb] at hg
    cases hg
    exact ht rfl
theorem set_one {W : World} {b : Nat} {x : Value} {t : TypeId} {m : Nat × Nat} (h : W.heap[b]? = some (.cells #[x] t m)) (y : Value) : (W.setCell ⟨b, 0, none⟩ y).heap[b]? = some (.cells #[y] t m) := by
  simp [World.setCell, Array.getElem?_modify, h]
theorem own_lenF {w : World} {base e m n : Nat} {A : Option Addr} {c : Nat} {xs : List Value} (h : w.ownsRow base e 1 (.slice A m c) n xs) : m = n := by
  rcases h.2 with ⟨hv, hn⟩ | ⟨g, cap, cur, hv, _⟩
  · cases hv; omega
  · cases hv; rfl
theorem own_strs {w : World} {base c n : Nat} {A : Option Addr} {ss : List ByteArray} (h : w.ownsRow base 9 1 (.slice A n c) ss.length (strW ss)) : Strs w A ss ∧ n = ss.length ∧ n ≤ c := by
  rcases h.2 with ⟨hv, hn⟩ | ⟨g, cap, cur, hv, hb, hg, hnc, _, hcs, htake⟩
  · cases hv
    exact ⟨fun hl => by omega, by omega, Nat.zero_le _⟩
  · cases hv
    refine ⟨fun hl => ⟨g, 0, rfl, (Array.getElem?_eq_some_iff.1 hg).1, fun j s hj => ?_⟩, rfl, hnc⟩
    have hjl : j < ss.length := (List.getElem?_eq_some_iff.1 hj).1
    rw [Nat.zero_add, cell_of_row w g j _ _ (0, 0) hg]
    have h1 : (cur.toList.take (ss.length * 1))[j]? = (strW ss)[j]? := by rw [htake]
    rw [List.getElem?_take, if_pos (by omega)] at h1
    rw [← Array.getElem?_toList, h1, strW, List.getElem?_map, hj]
    rfl
/-- A part of a row of strings. -/
theorem strs_part {w : World} {A : Option Addr} {ss : List ByteArray} (h : Strs w A ss) (s z : Int) (h0 : 0 ≤ s) (hz : 0 ≤ z) (hl : s + z ≤ ss.length) :
    Strs w (if (s + z).toNat = s.toNat then A else A.map (·.add (s.toNat * 1))) ((ss.drop s.toNat).take z.toNat) := fun hp => by
  have hlen : ((ss.drop s.toNat).take z.toNat).length = z.toNat := by rw [List.length_take, List.length_drop]; omega
  rw [hlen] at hp
  obtain ⟨b, off, rfl, hb, hc⟩ := h (by omega)
  rw [if_neg (by omega)]
  refine ⟨b, off + s.toNat, by simp [Addr.add], hb, fun j x hj => ?_⟩
  rw [List.getElem?_take] at hj
  split at hj
  · rw [List.getElem?_drop] at hj
    have := hc _ x hj
    rwa [show off + s.toNat + j = off + (s.toNat + j) by omega]
  · cases hj
theorem tx_part {d : Nat} {ss : List ByteArray} {ts : List (T d)} (h : Tx d ss ts) (s z : Nat) : Tx d ((ss.drop s).take z) ((ts.drop s).take z) := by
  unfold Tx at h ⊢
  rw [List.map_take, List.map_drop, h, List.map_take, List.map_drop]
theorem tx_len {d : Nat} {ss : List ByteArray} {ts : List (T d)} (h : Tx d ss ts) : ss.length = ts.length := by
  have := congrArg List.length h
  simpa using this
theorem tot_small : ∀ (ss : List ByteArray), (∀ s ∈ ss, s.size ≤ 400) → tot ss ≤ 400 * ss.length
  | [], _ => by simp [tot]
  | s :: l, h => by
    have h1 := tot_small l (fun x hx => h x (by simp [hx]))
    have h2 := h s (by simp)
    simp only [tot, List.length_cons]
    omega
end

/- FoldI -/
section
open Go.RowKit Go.Shelf
attribute [local go_sem] Oper.semAt_some

/-- The blocks that rounds may write. -/
def XF (g : Nat) (k : Nat) (T : TypeId) : Prop := g ≤ k ∧ (T = 9 ∨ T = 106 ∨ T = 4)

/-- Between two levels. -/
structure FoI (w : World) (g bt : Nat) (fa fb : Value) (LL : List (List Int)) (D : List Int) (n : Nat) (W : World) : Prop where
  gr : w.grownBy W none
  bx : W.heap[g]? = some (.cells #[fa, fb] 82 (0, 0))
  r0 : W.heap[g + 1]? = some (.cells #[.string ⟨#[]⟩] 9 (0, 0))
  r1 : W.heap[g + 2]? = some (.cells #[.bool false] 4 (0, 0))
  tx : ∃ (A : Option Addr) (c : Nat) (ss : List ByteArray), W.heap[bt]? = some (.cells #[.slice A ss.length c] 106 (0, 0)) ∧ W.ownsRow g 9 1 (.slice A ss.length c) ss.length (strW ss) ∧
    Tx (LL.drop (LL.length - n)).length ss (foldN (LL.drop (LL.length - n)).length (LL.drop (LL.length - n)) D) ∧ ∀ s ∈ ss, s.size ≤ 400
/-- A text was too long. -/
structure FoX (w : World) (g : Nat) (LL : List (List Int)) (D : List Int) (W : World) : Prop where
  gr : w.grownBy W none
  r0 : W.heap[g + 1]? = some (.cells #[.string ⟨#[]⟩] 9 (0, 0))
  r1 : W.heap[g + 2]? = some (.cells #[.bool false] 4 (0, 0))
  bad : FoldBad LL D

/-- Between two parts of a level. -/
structure FiI (Wb : World) (m d : Nat) (us : List (T (d + 1))) (n : Nat) (V : World) : Prop where
  gr : Wb.grownBy V none
  tx : ∃ (A : Option Addr) (c : Nat) (fs : List ByteArray), V.heap[m]? = some (.cells #[.slice A fs.length c] 106 (0, 0)) ∧ V.ownsRow m 9 1 (.slice A fs.length c) fs.length (strW fs) ∧ Tx (d + 1) fs (us.take n) ∧ ∀ s ∈ fs, s.size ≤ 400
/-- A text was too long: within the loop over parts. -/
structure FiX (w : World) (g B : Nat) (LL : List (List Int)) (D : List Int) (Wb V : World) : Prop where
  from_ : KeepsFrom B Wb V
  bad : FoX w g LL D V
theorem foI_own (w : World) (g bt : Nat) (fa fb : Value) (LL : List (List Int)) (D : List Int) (hg : w.heap.size = g) {B : Nat} (hB : g ≤ B) : OwnFrom B (fun (pre : List (Int × Value)) W => FoI w g bt fa fb LL D pre.length W) := fun pre A C row hs hgr hr => by
  have hr2 : ∀ r, row = some r → ∃ o : Obj, A.heap[r]? = some o ∧ o.isCells = false := fun r e => (hr r e).2
  obtain ⟨h1, h2, h3, h4, A1, c1, ss, h5, h6, h7, h8⟩ := hs
  exact ⟨gr_ownF h1 hgr (fun k e => by have := (hr k e).1; omega), cells_keptF hgr hr2 h2, cells_keptF hgr hr2 h3, cells_keptF hgr hr2 h4, A1, c1, ss, cells_keptF hgr hr2 h5, own_keptF hgr hr2 h6, h7, h8⟩
theorem foX_own {α : Type} (w : World) (g : Nat) (LL : List (List Int)) (D : List Int) (hg : w.heap.size = g) {B : Nat} (hB : g ≤ B) : OwnFrom B (fun (_ : α) W => FoX w g LL D W) := fun pre A C row hs hgr hr => by
  have hr2 : ∀ r, row = some r → ∃ o : Obj, A.heap[r]? = some o ∧ o.isCells = false := fun r e => (hr r e).2
  obtain ⟨h1, h2, h3, h4⟩ := hs
  exact ⟨gr_ownF h1 hgr (fun k e => by have := (hr k e).1; omega), cells_keptF hgr hr2 h2, cells_keptF hgr hr2 h3, h4⟩
theorem fiI_own (Wb : World) (m d : Nat) (us : List (T (d + 1))) (hm : Wb.heap.size = m) {B : Nat} (hB : m ≤ B) : OwnFrom B (fun (pre : List (Int × Int)) V => FiI Wb m d us pre.length V) := fun pre A C row hs hgr hr => by
  have hr2 : ∀ r, row = some r → ∃ o : Obj, A.heap[r]? = some o ∧ o.isCells = false := fun r e => (hr r e).2
  obtain ⟨h1, A1, c1, fs, h5, h6, h7, h8⟩ := hs
  exact ⟨gr_ownF h1 hgr (fun k e => by have := (hr k e).1; omega), A1, c1, fs, cells_keptF hgr hr2 h5, own_keptF hgr hr2 h6, h7, h8⟩
theorem fiX_own {α : Type} (w : World) (g B0 : Nat) (LL : List (List Int)) (D : List Int) (Wb : World) (hg : w.heap.size = g) {B : Nat} (hB : g ≤ B) (hW : Wb.heap.size ≤ B) : OwnFrom B (fun (_ : α) V => FiX w g B0 LL D Wb V) := fun pre A C row hs hgr hr =>
  ⟨ownFrom_keepsF B0 Wb hW pre A C row hs.from_ hgr hr, foX_own w g LL D hg hB pre A C row hs.bad hgr hr⟩
/-- The blocks that a level's rounds may write. -/
def XG (m : Nat) (k : Nat) (T : TypeId) : Prop := m ≤ k ∧ (T = 9 ∨ T = 106)

def FoldP (LL : List (List Int)) (D : List Int) (w : World) (e : Ending) (w' : World) : Prop := w.grownBy w' none ∧ ∃ (u : ByteArray) (t : T LL.length), foldN LL.length LL D = [t] ∧
  e = .returned (.tuple #[.string u, .bool (decide ((text LL.length t).length ≤ 400))]) ∧ u.data.toList = if (text LL.length t).length ≤ 400 then text LL.length t else []

set_option maxRecDepth 100000 in
set_option maxHeartbeats 4000000 in
theorem fold_impl (A B : Option Addr) (c e : Nat) (LL : List (List Int)) (D : List Int) (w : World) (h : Rws w A LL) (hB : Ints w B D) (hf : Fits 1 LL D) (hd : LL.length ≤ 3) (hm : ∀ M ∈ LL, M.length ≤ 1048576) (hn : D.length ≤ 1048576)
    (htab : Lib.TabIs Tryz.prog w "internal/strconv.uint64pow10" .u64 Lib.pow10Tab) :
    Calls Tryz.prog 43 #[.agg #[.slice B D.length e, .slice A LL.length c]] w (FoldP LL D w) := by
  obtain ⟨i0s, hj0, hj1, hj2, hj3⟩ := info_parts infoStr
  obtain ⟨g, hg⟩ : ∃ g, w.heap.size = g := ⟨_, rfl⟩
  obtain ⟨nd, hnd⟩ : ∃ n, LL.length = n := ⟨_, rfl⟩
  obtain ⟨nD, hnD⟩ : ∃ n, D.length = n := ⟨_, rfl⟩
  obtain ⟨w1, hw1⟩ : ∃ z, w.alloc (.cells #[.slice B nD e, .slice A nd c] 82) = z := ⟨_, rfl⟩
  obtain ⟨w2, hw2⟩ : ∃ z, w1.alloc (.cells #[.string ⟨#[]⟩] 9) = z := ⟨_, rfl⟩
  obtain ⟨w3, hw3⟩ : ∃ z, w2.alloc (.cells #[.bool false] 4) = z := ⟨_, rfl⟩
  have z1 : w1.heap.size = g + 1 := by rw [← hw1, ← hg]; simp
  have z2 : w2.heap.size = g + 2 := by rw [← hw2]; simp [z1]
  have z3 : w3.heap.size = g + 3 := by rw [← hw3]; simp [z2]
  have g1 : w.grownBy w1 none := by rw [← hw1]; exact World.grownBy_alloc _ _ _
  have g2 : w1.grownBy w2 none := by rw [← hw2]; exact World.grownBy_alloc _ _ _
  have g3 : w2.grownBy w3 none := by rw [← hw3]; exact World.grownBy_alloc _ _ _
  have b1 : Pr w1 g 82 (.slice B nD e) (.slice A nd c) := by rw [← hw1, ← hg]; exact Pr.new _ _ _ _
  have b2 : w2.heap[g + 1]? = some (.cells #[.string ⟨#[]⟩] 9 (0, 0)) := by rw [← hw2, ← z1]; exact heap_alloc_new _ _
  have b3 : w3.heap[g + 2]? = some (.cells #[.bool false] 4 (0, 0)) := by rw [← hw3, ← z2]; exact heap_alloc_new _ _
  have g13 : w.grownBy w3 none := (g1.trans g2).trans g3
  have HTXT := Lib.hid (texts_any B e D w3 (hB.grown g13 (by simp)) (wf_num (fits_num LL 1 D hf)) (by omega) (Lib.tabBelow_of_tabIs htab _ (below_of g13)))
  have HZ := Lib.hid (And.intro z1 (And.intro z2 z3))
  rw [hnD] at HTXT
  rw [hnd, hnD]
  have p0 := b1.c0
  have p1 := b1.c1
  have HB1 := Lib.hid b1
  have q1 := (g2.trans g3).cell p0 (by simp)
  have q2 := (g2.trans g3).cell p1 (by simp)
  refine (callsIn_wide (n := 3)).1 ?_
  refine callsIn_of_wp_marks Tryz.func43 rfl trivial ?_ rfl
  simp only [Tryz.ntmps43, List.size_toArray, List.length_cons, List.length_nil, Nat.reduceAdd, Nat.reduceSub, Array.replicate_succ, Array.replicate_zero, List.push_toArray, List.append_toArray, List.nil_append, List.cons_append]
  gi_wp2_with (first
    | (refine ⟨trivial, ?_⟩; gi_at_call 62; refine (callsIn_wide.2 HTXT.out).mono ?_; clear HTXT; rintro ee w4 ⟨gt, rfl, hg4, ho4⟩; have q3 := (hg4.trans (World.grownBy_alloc w4 (.cells #[.slice (some ⟨gt, 0, none⟩) nD nD] 106) none)).cell q1 (by simp); have q4 := (hg4.trans (World.grownBy_alloc w4 (.cells #[.slice (some ⟨gt, 0, none⟩) nD nD] 106) none)).cell q2 (by simp))
    | (refine ⟨trivial, ?_⟩; gi_at_call 63; refine (callsIn_wide.2 (backmakerL A nd c _)).mono ?_; rintro ee w5 ⟨rfl, rfl⟩))
  obtain ⟨vs, hvl, hvS, hvR⟩ := rws_vals h
  obtain ⟨bt, hbt⟩ : ∃ bt, w4.heap.size = bt := ⟨_, rfl⟩
  rw [hbt]
  obtain ⟨w5, hw5⟩ : ∃ z, w4.alloc (.cells #[.slice (some ⟨gt, 0, none⟩) nD nD] 106) = z := ⟨_, rfl⟩
  rw [hw5]
  obtain ⟨w6, hw6⟩ : ∃ z, w5.alloc (.cells #[.slice A nd c] 32) = z := ⟨_, rfl⟩
  rw [hw6]
  have z5 : w5.heap.size = bt + 1 := by rw [← hw5, ← hbt]; simp
  have z6 : w6.heap.size = bt + 2 := by rw [← hw6]; simp [z5]
  have g5 : w4.grownBy w5 none := by rw [← hw5]; exact World.grownBy_alloc _ _ _
  have g6 : w5.grownBy w6 none := by rw [← hw6]; exact World.grownBy_alloc _ _ _
  have g36 : w3.grownBy w6 none := (hg4.trans g5).trans g6
  have gA : w.grownBy w6 none := g13.trans g36
  have hbtg : g + 3 ≤ bt := by have := hg4.size; omega
  have c5 : w6.heap[bt]? = some (.cells #[.slice (some ⟨gt, 0, none⟩) nD nD] 106 (0, 0)) := (g6.block _ (by omega) (by simp)).trans (by rw [← hw5, ← hbt]; exact heap_alloc_new _ _)
  have c6 : w6.heap[bt + 1]? = some (.cells #[.slice A nd c] 32 (0, 0)) := by rw [← hw6, ← z5]; exact heap_alloc_new _ _
  have hX : ∀ k T, XF g k T → w.heap.size ≤ k := fun k T h => by rw [hg]; exact h.1
  have hnX : ¬ XF g (bt + 1) 32 := by rintro ⟨_, h | h | h⟩ <;> exact absurd h (by decide)
  have hseq := backL_iter (XF g) (bt + 1) c hnX A vs w6 (hvS _ _ hX gA) (by rw [hvl]; omega) (by rw [hvl, hnd]; exact c6)
  have hD0 := fits_num LL 1 D hf
  have h0 : FoI w g bt (.slice B nD e) (.slice A nd c) LL D ([] : List (Int × Value)).length w6 := by
    refine ⟨gA, ((g2.trans g3).trans g36).block _ (by omega) (by simp) |>.trans HB1.out, (g3.trans g36).block _ (by omega) (by simp) |>.trans b2, g36.block _ (by omega) (by simp) |>.trans b3, some ⟨gt, 0, none⟩, nD, D.map nstr, ?_, ?_, ?_, ?_⟩
    · rw [List.length_map, hnD]; exact c5
    · have h3 := own_keep (own_base ho4 (show g ≤ w3.heap.size by omega)) (fun k hk => ((g5.trans g6).block k ((ho4.lt k hk).2) (by simp)))
      have e1 : strW (D.map nstr) = D.map (fun z => Value.string (nstr z)) := by simp [strW]
      rw [List.length_map, hnD, e1]
      exact h3
    · have e : LL.drop (LL.length - ([] : List (Int × Value)).length) = [] := by simp
      rw [e]
      exact tx_nums hD0
    · intro s hs
      obtain ⟨z, hz, rfl⟩ := List.mem_map.1 hs
      obtain ⟨j, hj⟩ := List.getElem?_of_mem hz
      have h1 := okN_at hj hD0
      have h2 := nstr_dec h1.1
      have h3 := dec_len 4 z.toNat (by omega)
      have h4 : (nstr z).size = (nstr z).data.toList.length := by rw [Array.length_toList]; rfl
      rw [h4, h2]
      omega
  refine range_ownA idx (X := XF g) (zs := back vs) (gf := 83) (lb := #[.pointer (some ⟨bt + 1, 0, none⟩)]) rfl (enters_of Tryz.func83 (by kernel_rfl) rfl) hseq
    (fun pre W => FoI w g bt (.slice B nD e) (.slice A nd c) LL D pre.length W) (fun _ W => FoX w g LL D W) (foI_own w g bt _ _ LL D hg (by omega)) (foX_own w g LL D hg (by omega)) h0 (fun _ => rfl)
    (fun x W => W.alloc (.cells #[.int .i64 x.1] 3)) (fun x W => World.grownBy_alloc _ _ _)
    (fun x W => { tmps := #[.agg #[.slice B nD e, .slice A nd c], .pointer (some ⟨g, 0, none⟩), .pointer (some ⟨g + 1, 0, none⟩), .pointer (some ⟨g + 2, 0, none⟩), .pointer (some ⟨bt, 0, none⟩), .pointer (some ⟨W.heap.size, 0, none⟩), x.2, undef, undef, undef, undef, undef,
      .pointer (some ⟨g, 0, none⟩), .agg #[.slice B nD e], .slice (some ⟨gt, 0, none⟩) nD nD, .pointer (some ⟨g, 1, none⟩), .slice A nd c, .func (.func 83) #[] #[.pointer (some ⟨bt + 1, 0, none⟩)], .int .i64 x.1, x.2,
      undef, undef, undef, undef, undef, undef, undef, undef, undef, undef, undef, undef, undef, undef, undef, undef, undef, undef, undef, undef, undef, undef, undef, undef, undef, undef, undef, undef], defers := [] }) ?assign ?body ?done ?stop
  case assign =>
    intro l1 m1 x W K hK
    simp only [idx]
    gi_wp2
    exact hK
  case body =>
    intro l1 m1 pre x W0 Wb hl1 hr1 hI0 hI hsz hcl hpre
    obtain ⟨r1, hr1⟩ := hr1
    obtain ⟨i, v, hi, hv, rfl⟩ := back_pre hpre
    rw [hvl] at hi
    obtain ⟨L, hL⟩ : ∃ L, LL[i]? = some L := ⟨_, List.getElem?_eq_getElem (by omega)⟩
    obtain ⟨Bi, ci, hv2, hci, hin⟩ := hvR i L hL
    rw [hv] at hv2
    simp only [Option.some.injEq] at hv2
    subst hv2
    obtain ⟨k, hk⟩ : ∃ k, L.length = k := ⟨_, rfl⟩
    have hkm : k ≤ 1048576 := by have := hm L (List.mem_of_getElem? hL); omega
    obtain ⟨hgr, hbx, hr0', hr1', At, ct, ss, hbt', hown, htx, hsm⟩ := hI
    have hS : LL.drop (LL.length - pre.length) = LL.drop (i + 1) := by congr 1; omega
    rw [hS] at htx
    obtain ⟨hokL, hfS, _, _, _⟩ := fits_drop hf hL
    have hSS := drop_at hL
    have hsl : (LL.drop (i + 1)).length = pre.length := by rw [List.length_drop]; omega
    obtain ⟨S, hSd⟩ : ∃ S, LL.drop (i + 1) = S := ⟨_, rfl⟩
    rw [hSd] at htx hfS hSS hsl
    have htl := foldN_len S.length _ S D rfl hfS
    have hssl := tx_len htx
    have hlev : Wb.heap[W0.heap.size]? = some (.cells #[.int .i64 (i : Int)] 3 (0, 0)) := hcl _ _ _ _ (heap_alloc_new _ _)
    obtain ⟨bl, hbl⟩ : ∃ bl, W0.heap.size = bl := ⟨_, rfl⟩
    rw [hbl] at hlev
    have hmb : Wb.heap.size = bl + 1 := by rw [hsz, ← hbl]; simp
    obtain ⟨ns, hns⟩ : ∃ n, ss.length = n := ⟨_, rfl⟩
    have hbW := hgr.size
    have hblt : bt < bl + 1 := by have := (Array.getElem?_eq_some_iff.1 hbt').1; omega
    have hgm : g ≤ bl + 1 := by have := hgr.size; omega
    have hl1m : l1 < bl + 1 := by have := (Array.getElem?_eq_some_iff.1 hr1).1; omega
    simp only [hbl, hk]
    gi_wp2_with (refine ⟨trivial, fun h => (by cases h), ?_⟩; refine (CallsIn.inRound l1 (callsIn_wide.2 (spansmakerL _ _ _ _))).mono ?_; rintro ee w' ⟨rfl, rfl⟩)
    obtain ⟨V1, hV1⟩ : ∃ z, Wb.alloc (.cells #[.slice none 0 0] 106) = z := ⟨_, rfl⟩
    rw [hV1]
    obtain ⟨V2, hV2⟩ : ∃ z, V1.alloc (.cells #[.slice Bi k ci] 25) = z := ⟨_, rfl⟩
    rw [hV2]
    have y1 : V1.heap.size = bl + 2 := by rw [← hV1]; simp [hmb]
    have y2 : V2.heap.size = bl + 3 := by rw [← hV2]; simp [y1]
    have gV1 : Wb.grownBy V1 none := by rw [← hV1]; exact World.grownBy_alloc _ _ _
    have gV2 : V1.grownBy V2 none := by rw [← hV2]; exact World.grownBy_alloc _ _ _
    have e1 : V2.heap[bl + 1]? = some (.cells #[.slice none 0 0] 106 (0, 0)) := (gV2.block _ (by omega) (by simp)).trans (by rw [← hV1, ← hmb]; exact heap_alloc_new _ _)
    have e2 : V2.heap[bl + 1 + 1]? = some (.cells #[.slice Bi k ci] 25 (0, 0)) := by rw [← hV2, ← y1]; exact heap_alloc_new _ _
    have gV : Wb.grownBy V2 none := gV1.trans gV2
    have hXG : ∀ q T, XG (bl + 1) q T → w.heap.size ≤ q := fun q T h => by have := h.1; omega
    have hnXG : ¬ XG (bl + 1) (bl + 1 + 1) 25 := by rintro ⟨_, h | h⟩ <;> exact absurd h (by decide)
    have hseq2 := spansL_iter (XG (bl + 1)) (bl + 1 + 1) ci Bi L V2 (ints_l hin hXG (hgr.trans gV)) hnXG (by omega) hokL (by rw [hk]; exact e2)
    have hr1V : V2.heap[l1]? = some (.loop r1) := (gV.block _ (by omega) (by simp)).trans hr1
    obtain ⟨us, hus⟩ : ∃ us, us = foldN (S.length + 1) (L :: S) D := ⟨_, rfl⟩
    have i0 : FiI Wb (bl + 1) S.length us ([] : List (Int × Int)).length V2 := ⟨gV, none, 0, [], e1, World.ownsRow_nil _ _ _ _, by simp [Tx], by simp⟩
    refine range_inK twoK (X := XG (bl + 1)) hr1V (zs := spanK 0 L) (gf := 74) (lb := #[.pointer (some ⟨bl + 1 + 1, 0, none⟩)]) rfl (enters_of Tryz.func74 (by kernel_rfl) rfl) hseq2
      (fun pre2 V => FiI Wb (bl + 1) S.length us pre2.length V) (fun _ V => FiX w g w6.heap.size LL D Wb V) (fiI_own Wb (bl + 1) S.length us hmb (by omega)) (fiX_own w g _ LL D Wb hg (by omega) gV.size) i0 (fun _ => rfl)
      (fun y => { tmps := #[.agg #[.slice B nD e, .slice A nd c], .pointer (some ⟨g, 0, none⟩), .pointer (some ⟨g + 1, 0, none⟩), .pointer (some ⟨g + 2, 0, none⟩), .pointer (some ⟨bt, 0, none⟩), .pointer (some ⟨bl, 0, none⟩), .slice Bi k ci, .pointer (some ⟨bl + 1, 0, none⟩), .int .i64 y.1, .int .i64 y.2, undef, undef,
        .pointer (some ⟨g, 0, none⟩), .agg #[.slice B nD e], .slice (some ⟨gt, 0, none⟩) nD nD, .pointer (some ⟨g, 1, none⟩), .slice A nd c, .func (.func 83) #[] #[.pointer (some ⟨bt + 1, 0, none⟩)], .int .i64 (i : Int), .slice Bi k ci,
        .slice Bi k ci, .func (.func 74) #[] #[.pointer (some ⟨bl + 1 + 1, 0, none⟩)], .int .i64 y.1, .int .i64 y.2, undef, undef, undef, undef, undef, undef, undef, undef, undef, undef, undef, undef, undef, undef, undef, undef, undef, undef, undef, undef, undef, undef, undef, undef], defers := [] }) ?as2 ?bo2 ?do2 ?st2
    case as2 =>
      intro l2 m2 y V K hK
      simp only [twoK]
      gi_wp2
      exact hK
    case bo2 =>
      intro l2 m2 pre2 y V hl2 hr2 hF hpre2
      obtain ⟨z, hz, rfl⟩ := spanL_pre hpre2
      obtain ⟨hz0, hz4, hs0, hsz2⟩ := sumI_le hokL hz
      obtain ⟨s, hs⟩ : ∃ s, sumI (L.take pre2.length) = s := ⟨_, rfl⟩
      rw [hs] at hs0 hsz2 ⊢
      obtain ⟨hgV, Af, cf, fs, hbf, hof, htf, hsf⟩ := hF
      have hgw := hgr.trans hgV
      -- what is read
      have v1 : V.cell? ⟨bt, 0, none⟩ = some (.slice At ns ct) := by
        have := (hgV.block _ (by omega) (by simp)).trans hbt'
        rw [hns] at this
        exact cell_of_row V bt 0 _ _ (0, 0) this
      have hbxV : Pr V g 82 (.slice B nD e) (.slice A nd c) := (hgV.block _ (by have := (Array.getElem?_eq_some_iff.1 hbx).1; omega) (by simp)).trans hbx
      have v2 := hbxV.c1
      have v3 : V.cell? ⟨bl, 0, none⟩ = some (.int .i64 (i : Int)) := cell_of_row V bl 0 _ _ (0, 0) ((hgV.block _ (by omega) (by simp)).trans hlev)
      have hownV := own_keep hown (fun q hq => hgV.block q (hown.lt q hq).2 (by simp))
      obtain ⟨hstr, _, hcap⟩ := own_strs hownV
      rw [hns] at hcap
      have hsn : s + z ≤ (ns : Int) := by
        have h2 : (foldN S.length S D).length = (sumI L).toNat := htl
        omega
      have hpt := strs_part hstr s z hs0 hz0 (by omega)
      have htxp := tx_part htx s.toNat z.toNat
      obtain ⟨ps, hps⟩ : ∃ ps, (ss.drop s.toNat).take z.toNat = ps := ⟨_, rfl⟩
      have hpl : ps.length = z.toNat := by rw [← hps, List.length_take, List.length_drop]; omega
      rw [hps] at hpt htxp
      -- the array
      obtain ⟨u, hu⟩ : ∃ u : T (S.length + 1), us[pre2.length]? = some u := ⟨_, List.getElem?_eq_getElem (by
        rw [hus]
        have h1 := (List.getElem?_eq_some_iff.1 hz).1
        have h2 : (foldN (S.length + 1) (L :: S) D).length = L.length := cutBy_len L _
        omega)⟩
      have hup : u = ((foldN S.length S D).drop s.toNat).take z.toNat := by
        have h1 := foldN_at (d := S.length) (LL := S) (D := D) hz hokL
        rw [hs, ← hus] at h1
        exact Option.some.inj (hu.symm.trans h1)
      have hokk : mkOk ps ((S.length : Int) + 1) = decide ((text (S.length + 1) u).length ≤ 400) := by
        rw [hup]
        exact mk_level htxp (fun t ht => okT_fold S.length _ S D rfl hfS t (List.mem_of_mem_drop (List.mem_of_mem_take ht))) (by omega)
      have htxt : mkText ps = text (S.length + 1) u := by rw [hup]; exact tx_text htxp
      have hptot : tot ps ≤ 1048576 := by
        have := tot_small ps (fun x hx => hsm x (by rw [← hps] at hx; exact List.mem_of_mem_drop (List.mem_of_mem_take hx)))
        omega
      obtain ⟨Ap, hAp⟩ : ∃ Ap, (if (s + z).toNat = s.toNat then At else At.map (·.add (s.toNat * 1))) = Ap := ⟨_, rfl⟩
      rw [hAp] at hpt
      obtain ⟨ok, hok⟩ : ∃ b, mkOk ps ((S.length : Int) + 1) = b := ⟨_, rfl⟩
      obtain ⟨U, hU⟩ : ∃ U : ByteArray, U = if ok = true then ⟨(mkText ps).toArray⟩ else ⟨#[]⟩ := ⟨_, rfl⟩
      have HMK : Hid (∀ W, V.grownBy W none → Calls Tryz.prog 64 #[.slice Ap z.toNat z.toNat, .int .i64 ((S.length : Int) + 1)] W fun e w' => e = .returned (.tuple #[.string U, .bool ok]) ∧ W.grownBy w' none) := Lib.hid (fun W hW => by
        have h1 := mkimpl_any Ap z.toNat ((S.length : Int) + 1) ps W (hpt.grown hW) (by omega) hptot (by omega)
        rw [hpl] at h1
        refine h1.mono ?_
        rintro ee w' ⟨hg', t, rfl, ht⟩
        rw [hok] at ht ⊢
        refine ⟨?_, hg'⟩
        have : t = U := by
          rw [hU, bytes_eqF ht]
          cases ok <;> rfl
        rw [this])
      have hrun : ∀ u, (Instr.slice 106 (.slice At ns ct) (some (.int .i64 s)) (some (.int .i64 (s + z))) (some (.int .i64 (s + z)))).run Tryz.prog u = .ok (.slice Ap z.toNat z.toNat) u := fun u => by
        have := cut_runS At ns ct s z u hs0 hz0 (by omega)
        rw [hAp, show (s + z).toNat - s.toNat = z.toNat by omega] at this
        exact this
      have hsub : IntKind.i64.wrap ((nd : Int) - (i : Int)) = (S.length : Int) + 1 := by
        have : (nd : Int) - (i : Int) = (S.length : Int) + 1 := by omega
        rw [this]
        exact IntWalk.i64_in _ (by omega)
      have hmx : Tryz.prog.follows .mixedOrders = true := by kernel_rfl
      have HV1 := Lib.hid v1
      have HV2 := Lib.hid v2
      have HV3 := Lib.hid v3
      have HRUN := Lib.hid hrun
      have HSUB := Lib.hid hsub
      obtain ⟨sl, hsl2⟩ : ∃ sl : Int, (S.length : Int) + 1 = sl := ⟨_, rfl⟩
      rw [hsl2] at HMK HSUB
      have HSLE := Lib.hid hsl2
      have HUE := Lib.hid hU
      have HOK := Lib.hid (hok.symm.trans hokk)
      have HTXT := Lib.hid htxt
      have HHS := Lib.hid hs
      have HSLL := Lib.hid hsl
      clear hsl2 hU hok hokk htxt hsl hup hpl hps hsub hrun v1 v2 v3
      gi_wp2
      refine wpIn_region_put (u := V) [.slice At ns ct, .int .i64 s, .int .i64 (s + z), .int .i64 (s + z), .slice Ap z.toNat z.toNat, .pointer (some ⟨g, 1, none⟩), .slice A nd c, .int .i64 (nd : Int), .int .i64 (i : Int), .int .i64 sl, .tuple #[.string U, .bool ok], .tuple #[.string U, .bool ok], .string U, .bool ok, .string U, .bool ok] 48 rfl (by simp) (by kernel_rfl) (by kernel_rfl) hmx ?hend ?hstep V (gr_drewN V 1 none)
      case hstep =>
        refine ⟨?_, ?_, ?_, ?_, ?_, ?_, ?_, ?_, ?_, ?_, ?_, ?_, ?_, ?_, ?_, ?_, trivial⟩
        · intro a' w' hdf hgr' hfar hdep
          have e0 : a'.tmps.getD 4 undef = .pointer (some ⟨bt, 0, none⟩) := hfar 4 (by kernel_rfl)
          have f0 := hgr'.cell HV1.out (by simp)
          go_simp
          exact gr_refl _ _
        · intro a' w' hdf hgr' hfar hdep
          have e0 : a'.tmps.getD 8 undef = .int .i64 s := hfar 8 (by kernel_rfl)
          go_simp
          exact gr_refl _ _
        · intro a' w' hdf hgr' hfar hdep
          have e0 : a'.tmps.getD 9 undef = .int .i64 (s + z) := hfar 9 (by kernel_rfl)
          go_simp
          exact gr_refl _ _
        · intro a' w' hdf hgr' hfar hdep
          have e0 : a'.tmps.getD 9 undef = .int .i64 (s + z) := hfar 9 (by kernel_rfl)
          go_simp
          exact gr_refl _ _
        · intro a' w' hdf hgr' hfar hdep
          have e0 : a'.tmps.getD 25 undef = .slice At ns ct := hdep 0 _ 25 (by kernel_rfl) rfl rfl
          have e1 : a'.tmps.getD 26 undef = .int .i64 s := hdep 1 _ 26 (by kernel_rfl) rfl rfl
          have e2 : a'.tmps.getD 27 undef = .int .i64 (s + z) := hdep 2 _ 27 (by kernel_rfl) rfl rfl
          have e3 : a'.tmps.getD 28 undef = .int .i64 (s + z) := hdep 3 _ 28 (by kernel_rfl) rfl rfl
          have f0 := HRUN.out w'
          go_simp
          exact gr_refl _ _
        · intro a' w' hdf hgr' hfar hdep
          have e0 : a'.tmps.getD 1 undef = .pointer (some ⟨g, 0, none⟩) := hfar 1 (by kernel_rfl)
          go_simp
          exact gr_refl _ _
        · intro a' w' hdf hgr' hfar hdep
          have e0 : a'.tmps.getD 30 undef = .pointer (some ⟨g, 1, none⟩) := hdep 5 _ 30 (by kernel_rfl) rfl rfl
          have f0 := hgr'.cell HV2.out (by simp)
          go_simp
          exact gr_refl _ _
        · intro a' w' hdf hgr' hfar hdep
          have e0 : a'.tmps.getD 31 undef = .slice A nd c := hdep 6 _ 31 (by kernel_rfl) rfl rfl
          go_simp
          exact gr_refl _ _
        · intro a' w' hdf hgr' hfar hdep
          have e0 : a'.tmps.getD 5 undef = .pointer (some ⟨bl, 0, none⟩) := hfar 5 (by kernel_rfl)
          have f0 := hgr'.cell HV3.out (by simp)
          go_simp
          exact gr_refl _ _
        · intro a' w' hdf hgr' hfar hdep
          have e0 : a'.tmps.getD 32 undef = .int .i64 (nd : Int) := hdep 7 _ 32 (by kernel_rfl) rfl rfl
          have e1 : a'.tmps.getD 33 undef = .int .i64 (i : Int) := hdep 8 _ 33 (by kernel_rfl) rfl rfl
          have f0 := HSUB.out
          go_simp
          exact gr_refl _ _
        · intro a' w' hdf hgr' hfar hdep
          have e0 : a'.tmps.getD 29 undef = .slice Ap z.toNat z.toNat := hdep 4 _ 29 (by kernel_rfl) rfl rfl
          have e1 : a'.tmps.getD 34 undef = .int .i64 sl := hdep 9 _ 34 (by kernel_rfl) rfl rfl
          go_simp
          go_at_call 64
          refine (HMK.out w' hgr').mono ?_
          rintro ee w'' ⟨rfl, hg''⟩
          exact ⟨rfl, hg''⟩
        · intro a' w' hdf hgr' hfar hdep
          have e0 : a'.tmps.getD 35 undef = .tuple #[.string U, .bool ok] := hdep 10 _ 35 (by kernel_rfl) rfl rfl
          go_simp
          exact gr_refl _ _
        · intro a' w' hdf hgr' hfar hdep
          have e0 : a'.tmps.getD 24 undef = .tuple #[.string U, .bool ok] := hdep 11 _ 24 (by kernel_rfl) rfl rfl
          go_simp
          exact gr_refl _ _
        · intro a' w' hdf hgr' hfar hdep
          have e0 : a'.tmps.getD 24 undef = .tuple #[.string U, .bool ok] := hdep 11 _ 24 (by kernel_rfl) rfl rfl
          go_simp
          exact gr_refl _ _
        · intro a' w' hdf hgr' hfar hdep
          have e0 : a'.tmps.getD 36 undef = .string U := hdep 12 _ 36 (by kernel_rfl) rfl rfl
          go_simp
          exact gr_refl _ _
        · intro a' w' hdf hgr' hfar hdep
          have e0 : a'.tmps.getD 37 undef = .bool ok := hdep 13 _ 37 (by kernel_rfl) rfl rfl
          go_simp
          exact gr_refl _ _
      case hend =>
        intro V3 hg3
        have hgV3 := hgV.trans hg3
        have h7 : V3.heap[bl + 1]? = some (.cells #[.slice Af fs.length cf] 106 (0, 0)) := (hg3.block _ (by have := (Array.getElem?_eq_some_iff.1 hbf).1; omega) (by simp)).trans hbf
        have hof3 := own_keep hof (fun q hq => hg3.block q (hof.lt q hq).2 (by simp))
        have hr0V : V3.heap[g + 1]? = some (.cells #[.string ⟨#[]⟩] 9 (0, 0)) := (hgV3.block _ (by have := (Array.getElem?_eq_some_iff.1 hr0').1; omega) (by simp)).trans hr0'
        have hr1V2 : V3.heap[g + 2]? = some (.cells #[.bool false] 4 (0, 0)) := (hgV3.block _ (by have := (Array.getElem?_eq_some_iff.1 hr1').1; omega) (by simp)).trans hr1'
        generalize hT : putVals _ _ _ = T
        obtain rfl : T = #[.agg #[.slice B nD e, .slice A nd c], .pointer (some ⟨g, 0, none⟩), .pointer (some ⟨g + 1, 0, none⟩), .pointer (some ⟨g + 2, 0, none⟩), .pointer (some ⟨bt, 0, none⟩), .pointer (some ⟨bl, 0, none⟩), .slice Bi k ci, .pointer (some ⟨bl + 1, 0, none⟩), .int .i64 s, .int .i64 (s + z), .string U, .bool ok,
          .pointer (some ⟨g, 0, none⟩), .agg #[.slice B nD e], .slice (some ⟨gt, 0, none⟩) nD nD, .pointer (some ⟨g, 1, none⟩), .slice A nd c, .func (.func 83) #[] #[.pointer (some ⟨bt + 1, 0, none⟩)], .int .i64 (i : Int), .slice Bi k ci,
          .slice Bi k ci, .func (.func 74) #[] #[.pointer (some ⟨bl + 1 + 1, 0, none⟩)], .int .i64 s, .int .i64 (s + z), .tuple #[.string U, .bool ok], .slice At ns ct, .int .i64 s, .int .i64 (s + z), .int .i64 (s + z), .slice Ap z.toNat z.toNat, .pointer (some ⟨g, 1, none⟩), .slice A nd c, .int .i64 (nd : Int), .int .i64 (i : Int), .int .i64 sl, .tuple #[.string U, .bool ok], .string U, .bool ok,
          undef, undef, undef, undef, undef, undef, undef, undef, undef, undef] := by rw [← hT]; simp [putVals]
        clear hT
        have u1 : V3.cell? ⟨g + 1, 0, none⟩ = some (.string ⟨#[]⟩) := cell_of_row V3 (g + 1) 0 _ _ (0, 0) hr0V
        have u2 : V3.cell? ⟨g + 2, 0, none⟩ = some (.bool false) := cell_of_row V3 (g + 2) 0 _ _ (0, 0) hr1V2
        have u3 : V3.frozen? ⟨g + 1, 0, none⟩ = false := by simp [World.frozen?, hr0V]
        have u4 : V3.frozen? ⟨g + 2, 0, none⟩ = false := by simp [World.frozen?, hr1V2]
        have u7 : V3.cell? ⟨bl + 1, 0, none⟩ = some (.slice Af fs.length cf) := cell_of_row V3 (bl + 1) 0 _ _ (0, 0) h7
        have u8 : V3.frozen? ⟨bl + 1, 0, none⟩ = false := by simp [World.frozen?, h7]
        have hgw3 := hgw.trans hg3
        cases ok with
        | false =>
          have hbad : FoldBad LL D := by
            have h1 := txs_suffix LL 1 i D hf (by omega)
            rw [hSS] at h1
            have h2 := txs_mem (S.length + 1) hu
            have h3 := HOK.out
            rw [hus] at h2
            unfold FoldBad
            have h4 : ¬ (text (S.length + 1) u).length ≤ 400 := fun h => by rw [decide_eq_true h] at h3; cases h3
            have h5 : txs (L :: S).length (foldN (L :: S).length (L :: S) D) = txs (S.length + 1) (foldN (S.length + 1) (L :: S) D) := rfl
            omega
          gi_wp2
          have k1 : KeepsK (fun _ _ => True) V3 (V3.setCell ⟨g + 1, 0, none⟩ (.string ⟨#[]⟩)) := KeepsK.grownX (gr_set V3 (g + 1) 0 _) hr0V trivial
          have hr1V3 : (V3.setCell ⟨g + 1, 0, none⟩ (.string ⟨#[]⟩)).heap[g + 2]? = some (.cells #[.bool false] 4 (0, 0)) := (Below.heap_setCell _ _ _ _ (by simp)).trans hr1V2
          have k2 : KeepsK (fun _ _ => True) (V3.setCell ⟨g + 1, 0, none⟩ (.string ⟨#[]⟩)) ((V3.setCell ⟨g + 1, 0, none⟩ (.string ⟨#[]⟩)).setCell ⟨g + 2, 0, none⟩ (.bool false)) := KeepsK.grownX (gr_set _ (g + 2) 0 _) hr1V3 trivial
          have k3 : KeepsK (fun _ _ => True) V _ := ((KeepsK.grown hg3).trans k1).trans k2
          have k4 : KeepsK (fun _ _ => True) Wb _ := ((KeepsK.grown hgV3).trans k1).trans k2
          refine ⟨k3.from _, k4.from _, ?_, ?_, ?_, hbad⟩
          · exact gr_ownF (gr_ownF hgw3 (gr_set V3 (g + 1) 0 _) (fun q e => by cases e; omega)) (gr_set _ (g + 2) 0 _) (fun q e => by cases e; omega)
          · exact (Below.heap_setCell _ _ _ _ (by simp)).trans (set_one hr0V _)
          · exact set_one hr1V3 _
        | true =>
          have hrow4 := hof3.alloc (.cells #[.string U] 9)
          have hfl : fs.length ≤ 1048576 := by
            have h1 := tx_len htf
            rw [List.length_take] at h1
            have h2 := (List.getElem?_eq_some_iff.1 hz).1
            omega
          have HNL := Lib.hid (fun (q : Nat) (x : Value) (hq : ([.string U] : List Value)[q]? = some x) => (World.news_of_block (cs := #[.string U]) (heap_alloc_new V3 (.cells #[.string U] 9)) q x hq : (V3.alloc (.cells #[.string U] 9)).cell? ((⟨V3.heap.size, 0, none⟩ : Addr).add q) = some x))
          have hV3m : bl + 1 ≤ V3.heap.size := by have := hgV3.size; omega
          gi_wp2_with
            (gi_at_builtin; refine wpListIn_append_own _ rfl _ _ 106 rfl (bl + 1) 9 i0s (.string ⟨#[]⟩) 1 16 Tryz.underlying106 hj0 hj1 hj2 hj3 rfl (by decide) (.slice Af fs.length cf) fs.length _ rfl hrow4 ⟨V3.heap.size, 0, none⟩ 1 1 [.string U] rfl rfl HNL.out (by simp [Value.oneCell']) (by simp only [maxLen]; omega) (by omega) (by simp; omega) ?_
             intro v8 V5 hown8 hgr8 _
             obtain ⟨A8, k8, c8, rfl⟩ := own_form hown8
             have h75 : V5.heap[bl + 1]? = some (.cells #[.slice Af fs.length cf] 106 (0, 0)) := (hgr8.block _ (by have := (Array.getElem?_eq_some_iff.1 h7).1; simp; omega) (own_notF hof3 h7 (by decide))).trans ((Below.heap_alloc _ _ _ (Array.getElem?_eq_some_iff.1 h7).1).trans h7)
             have u75 : V5.cell? ⟨bl + 1, 0, none⟩ = some (.slice Af fs.length cf) := cell_of_row V5 (bl + 1) 0 _ _ (0, 0) h75
             have u85 : V5.frozen? ⟨bl + 1, 0, none⟩ = false := by simp [World.frozen?, h75]
             have H75 := Lib.hid h75; have HO8 := Lib.hid hown8; have HG8 := Lib.hid hgr8; have HR4 := Lib.hid hrow4
             clear h75 hown8 hgr8 hrow4)
          obtain rfl := own_lenF HO8.out
          have q1 : KeepsK (XG (bl + 1)) V (V3.alloc (.cells #[.string U] 9)) := (KeepsK.grown hg3).trans (KeepsK.alloc _ _)
          have q2 : KeepsK (XG (bl + 1)) _ V5 := keeps_own HG8.out HR4.out (fun q hq => ⟨hq, .inl rfl⟩)
          have q3 : KeepsK (XG (bl + 1)) V5 (V5.setCell ⟨bl + 1, 0, none⟩ (.slice A8 (fs.length + 1) c8)) := KeepsK.grownX (gr_set V5 (bl + 1) 0 _) H75.out ⟨Nat.le_refl _, .inr rfl⟩
          have hul : U.data.toList = text (S.length + 1) u := by
            rw [HUE.out, ← HTXT.out]
            simp
          have hus4 : U.size ≤ 400 := by
            have h1 : U.size = U.data.toList.length := by rw [Array.length_toList]; rfl
            rw [h1, hul]
            exact of_decide_eq_true HOK.out.symm
          refine ⟨(q1.trans q2).trans q3, ?_, A8, c8, fs ++ [U], ?_, ?_, ?_, ?_⟩
          · exact gr_ownF (gr_ownF (hgV3.trans (World.grownBy_alloc V3 (.cells #[.string U] 9) none)) HG8.out (fun q hq => by have := (HR4.out.lt q hq).1; omega)) (gr_set V5 (bl + 1) 0 _) (fun q e => by cases e; omega)
          · rw [List.length_append]
            exact set_one H75.out _
          · rw [List.length_append, strW_snoc]
            exact own_keep HO8.out (fun q hq => Below.heap_setCell _ _ _ _ (fun e => own_notF HO8.out H75.out (by decide) (hq.trans (congrArg some e)).symm))
          · rw [List.length_append, List.length_singleton, ← hus, List.take_add_one, hu]
            unfold Tx at htf ⊢
            rw [List.map_append, htf, Option.toList_some, List.map_append]
            simp [hul]
          · intro x hx
            rcases List.mem_append.1 hx with h | h
            · exact hsf x h
            · simp only [List.mem_singleton] at h
              rw [h]
              exact hus4
    case do2 =>
      intro V hF
      obtain ⟨hgV, Af, cf, fs, hbf, hof, htf, hsf⟩ := hF
      have hgw := hgr.trans hgV
      have f1 : V.cell? ⟨bl + 1, 0, none⟩ = some (.slice Af fs.length cf) := cell_of_row V (bl + 1) 0 _ _ (0, 0) hbf
      have f2 : V.heap[bt]? = some (.cells #[.slice At ss.length ct] 106 (0, 0)) := (hgV.block _ (by omega) (by simp)).trans hbt'
      have f3 : V.cell? ⟨bt, 0, none⟩ = some (.slice At ss.length ct) := cell_of_row V bt 0 _ _ (0, 0) f2
      have f4 : V.frozen? ⟨bt, 0, none⟩ = false := by simp [World.frozen?, f2]
      have HF2 := Lib.hid f2
      gi_wp2
      have k1 : KeepsK (XF g) Wb (V.setCell ⟨bt, 0, none⟩ (.slice Af fs.length cf)) := (KeepsK.grown hgV).trans (KeepsK.grownX (gr_set V bt 0 _) HF2.out ⟨by omega, .inr (.inl rfl)⟩)
      have hb : ∀ q, q ≠ bt → q < bl + 1 → (V.setCell ⟨bt, 0, none⟩ (.slice Af fs.length cf)).heap[q]? = Wb.heap[q]? := fun q h1 h2 => (Below.heap_setCell _ _ _ _ h1).trans (hgV.block _ (by omega) (by simp))
      refine ⟨k1, ?_, ?_, ?_, ?_, Af, cf, fs, set_one HF2.out _, ?_, ?_, hsf⟩
      · exact gr_ownF hgw (gr_set V bt 0 _) (fun q e => by cases e; omega)
      · exact (hb _ (by omega) (by omega)).trans hbx
      · exact (hb _ (by omega) (by omega)).trans hr0'
      · exact (hb _ (by omega) (by omega)).trans hr1'
      · exact own_base (own_keep hof (fun q hq => Below.heap_setCell _ _ _ _ (fun e => own_notF hof HF2.out (by decide) (hq.trans (congrArg some e)).symm))) (by omega)
      · have e3 : LL.drop (LL.length - (pre ++ [((i : Int), Value.slice Bi k ci)]).length) = L :: S := by
          rw [← hSS]
          congr 1
          simp
          omega
        rw [e3]
        have h5 : us.take (spanK 0 L).length = us := by
          refine List.take_of_length_le ?_
          rw [spanK_len, hus]
          have h2 : (foldN (S.length + 1) (L :: S) D).length = L.length := cutBy_len L _
          omega
        rw [h5, hus] at htf
        exact htf
    case st2 =>
      intro pre2 V _ hF
      gi_wp2
      exact ⟨hF.from_, hF.bad⟩
  case done =>
    intro Dm V hDm hI hK
    obtain ⟨hgr, hbx, hr0', hr1', At, ct, ss, hbt', hown, htx, hsm⟩ := hI
    have hS : LL.drop (LL.length - (back vs).length) = LL := by rw [back_len, hvl]; simp
    rw [hS] at htx
    have htl := foldN_len LL.length 1 LL D rfl hf
    have hl1 := tx_len htx
    obtain ⟨t, ht⟩ : ∃ t : T LL.length, foldN LL.length LL D = [t] := List.length_eq_one_iff.1 htl
    obtain ⟨x, hx⟩ : ∃ x, ss = [x] := List.length_eq_one_iff.1 (by omega)
    subst hx
    rw [ht] at htx
    have hxt : x.data.toList = text LL.length t := by simpa [Tx] using htx
    have hx4 : (text LL.length t).length ≤ 400 := by
      have h1 : x.size = x.data.toList.length := by rw [Array.length_toList]; rfl
      have h2 := hsm x (by simp)
      rw [← hxt]
      omega
    obtain ⟨hstr, _, _⟩ := own_strs hown
    obtain ⟨bq, off, rfl, hbq, hcq⟩ := hstr (by simp)
    have f1 : V.cell? ⟨bt, 0, none⟩ = some (.slice (some ⟨bq, off, none⟩) 1 ct) := cell_of_row V bt 0 _ _ (0, 0) hbt'
    have f2 : V.cell? ⟨bq, off, none⟩ = some (.string x) := hcq 0 x rfl
    have u1 : V.cell? ⟨g + 1, 0, none⟩ = some (.string ⟨#[]⟩) := cell_of_row V (g + 1) 0 _ _ (0, 0) hr0'
    have u2 : V.cell? ⟨g + 2, 0, none⟩ = some (.bool false) := cell_of_row V (g + 2) 0 _ _ (0, 0) hr1'
    have u3 : V.frozen? ⟨g + 1, 0, none⟩ = false := by simp [World.frozen?, hr0']
    have u4 : V.frozen? ⟨g + 2, 0, none⟩ = false := by simp [World.frozen?, hr1']
    gi_wp2
    have r1 : (V.setCell ⟨g + 1, 0, none⟩ (.string x)).heap[g + 1]? = some (.cells #[.string x] 9 (0, 0)) := set_one hr0' _
    have r2 : ((V.setCell ⟨g + 1, 0, none⟩ (.string x)).setCell ⟨g + 2, 0, none⟩ (.bool true)).heap[g + 1]? = some (.cells #[.string x] 9 (0, 0)) := (Below.heap_setCell _ _ _ _ (by simp)).trans r1
    have r3 : ((V.setCell ⟨g + 1, 0, none⟩ (.string x)).setCell ⟨g + 2, 0, none⟩ (.bool true)).heap[g + 2]? = some (.cells #[.bool true] 4 (0, 0)) := set_one ((Below.heap_setCell _ _ _ _ (by simp)).trans hr1') _
    have hdk : ((V.setCell ⟨g + 1, 0, none⟩ (.string x)).setCell ⟨g + 2, 0, none⟩ (.bool true)).heap[Dm]? = some (.deferred (some [])) := (Below.heap_setCell _ _ _ _ (by simp; omega)).trans ((Below.heap_setCell _ _ _ _ (by simp; omega)).trans hK)
    have hgf : w.grownBy ((V.setCell ⟨g + 1, 0, none⟩ (.string x)).setCell ⟨g + 2, 0, none⟩ (.bool true)) none := gr_ownF (gr_ownF hgr (gr_set V (g + 1) 0 _) (fun q e => by cases e; omega)) (gr_set _ (g + 2) 0 _) (fun q e => by cases e; omega)
    generalize (V.setCell ⟨g + 1, 0, none⟩ (.string x)).setCell ⟨g + 2, 0, none⟩ (.bool true) = V3 at r2 r3 hdk hgf ⊢
    have m1 : (V3.putObj Dm (.deferred none)).cell? ⟨g + 1, 0, none⟩ = some (.string x) := cell_of_row _ (g + 1) 0 _ _ (0, 0) ((World.putObj_heap_other (by omega)).trans r2)
    have m2 : (V3.putObj Dm (.deferred none)).cell? ⟨g + 2, 0, none⟩ = some (.bool true) := cell_of_row _ (g + 2) 0 _ _ (0, 0) ((World.putObj_heap_other (by omega)).trans r3)
    refine ⟨by simp, .inl ⟨_, _, rfl, run_takeDeferred hdk, ?_⟩⟩
    refine ⟨.tuple #[.string x, .bool true], by simp [results, Tryz.results43, go_sem, m1, m2], gr_ownF hgf (grownBy_putObj' V3 Dm _) (fun q e => by cases e; omega), x, t, ht, ?_, ?_⟩
    · rw [decide_eq_true hx4]
    · rw [if_pos hx4]; exact hxt
  case stop =>
    intro Dm pre V hDm hpre hI hK
    obtain ⟨hgr, hr0', hr1', hbad⟩ := hI
    have htl := foldN_len LL.length 1 LL D rfl hf
    obtain ⟨t, ht⟩ : ∃ t : T LL.length, foldN LL.length LL D = [t] := List.length_eq_one_iff.1 htl
    have hx4 : ¬ (text LL.length t).length ≤ 400 := by
      unfold FoldBad at hbad
      rw [ht, txs_single] at hbad
      omega
    gi_wp2
    have m1 : (V.putObj Dm (.deferred none)).cell? ⟨g + 1, 0, none⟩ = some (.string ⟨#[]⟩) := cell_of_row _ (g + 1) 0 _ _ (0, 0) ((World.putObj_heap_other (by omega)).trans hr0')
    have m2 : (V.putObj Dm (.deferred none)).cell? ⟨g + 2, 0, none⟩ = some (.bool false) := cell_of_row _ (g + 2) 0 _ _ (0, 0) ((World.putObj_heap_other (by omega)).trans hr1')
    refine ⟨by simp, .inl ⟨_, _, rfl, run_takeDeferred hK, ?_⟩⟩
    refine ⟨.tuple #[.string ⟨#[]⟩, .bool false], by simp [results, Tryz.results43, go_sem, m1, m2], gr_ownF hgr (grownBy_putObj' V Dm _) (fun q e => by cases e; omega), ⟨#[]⟩, t, ht, ?_, ?_⟩
    · rw [decide_eq_false hx4]
    · rw [if_neg hx4]
end

/- Wrong -/
section
open Go.RowKit

set_option maxHeartbeats 400000 in
theorem sumof_any (A : Option Addr) (c : Nat) (zs : List Int) (w : World) (h : Ints w A zs) (hok : okN 400 zs = true) (hn : zs.length ≤ 1048576) :
    Calls Tryz.prog 98 #[.slice A zs.length c] w fun e w' => e = .returned (.int .i64 (sumI zs)) ∧ w = w' := by
  have HS := Lib.hid h
  have HOK := Lib.hid hok
  obtain ⟨n, hnn⟩ : ∃ n, zs.length = n := ⟨_, rfl⟩
  have HN := Lib.hid hnn
  rw [hnn] at hn ⊢
  clear h hnn hok
  go_enter Tryz.func98, Tryz.ntmps98
  go_wp2_with fail
  go_loop [3, 8] (fun u i => ∃ (j : Nat) (x : Int), j ≤ n ∧ i = .int .i64 j ∧ u = .int .i64 x ∧ 0 ≤ x ∧ x ≤ 419430400 ∧ Hid (x = sumI (zs.take j))) (fun _ i => n - (intOf i).toNat)
  case atStart => exact ⟨0, 0, Nat.zero_le _, rfl, rfl, by omega, by omega, Lib.hid rfl⟩
  case round =>
    obtain ⟨j, x, hj, rfl, rfl, hx0, hx1, hx⟩ := hrel
    by_cases hlt : j < n
    · obtain ⟨z, hz⟩ : ∃ z, zs[j]? = some z := ⟨_, List.getElem?_eq_getElem (by have := HN.out; omega)⟩
      obtain ⟨b, off, rfl, _, hc⟩ := HS.out (by have := HN.out; omega)
      have hcell := hc j z hz
      have HST := Lib.hid (sumI_step hz)
      have hb := sumI_take_bound HOK.out (j + 1)
      rw [HST.out, ← hx.out] at hb
      obtain ⟨hb0, hb1⟩ := hb
      have hbz := okN_at hz HOK.out
      obtain ⟨hz0, hz1⟩ := hbz
      clear hc hz
      go_wp2_with fail
      go_round
      case rel => exact ⟨j + 1, x + z, by omega, by go_num, by go_num, by omega, by omega, Lib.hid (by rw [HST.out, hx.out])⟩
      case measure => simp [intOf]; omega
    · have hjn : j = n := by omega
      have HJ := Lib.hid hjn
      clear hjn
      go_wp2_with fail
      go_ret
      refine ⟨?_, rfl⟩
      rw [hx.out, HJ.out, ← HN.out, List.take_length]
      rfl

set_option maxHeartbeats 400000 in
theorem upto_any (A : Option Addr) (c k : Nat) (hi : Int) (zs : List Int) (w : World) (h : Ints w A zs) (hn : zs.length ≤ 1048576) :
    Calls Tryz.prog 97 #[.slice A zs.length c, .int .i64 k, .int .i64 hi] w fun e w' => e = .returned (.bool (decide (zs.length = k ∧ okN hi zs = true))) ∧ w = w' := by
  have HS := Lib.hid h
  obtain ⟨n, hnn⟩ : ∃ n, zs.length = n := ⟨_, rfl⟩
  have HN := Lib.hid hnn
  rw [hnn] at hn ⊢
  clear h hnn
  go_enter Tryz.func97, Tryz.ntmps97
  go_wp2_with fail
  go_loop [11] (fun i => ∃ (j : Nat), j ≤ n ∧ i = .int .i64 j ∧ Hid (okN hi (zs.take j) = true)) (fun i => n - (intOf i).toNat)
  case atStart => exact ⟨0, Nat.zero_le _, rfl, Lib.hid rfl⟩
  case round =>
    obtain ⟨j, hj, rfl, hx⟩ := hrel
    by_cases hlt : j < n
    · obtain ⟨z, hz⟩ : ∃ z, zs[j]? = some z := ⟨_, List.getElem?_eq_getElem (by have := HN.out; omega)⟩
      obtain ⟨b, off, rfl, _, hc⟩ := HS.out (by have := HN.out; omega)
      have hcell := hc j z hz
      have HZ := Lib.hid hz
      clear hc hz
      by_cases h0 : z < 0
      · go_wp2_with fail
        go_ret
        exact ⟨by rw [okN_bad HZ.out (.inl h0)]; simp, rfl⟩
      · by_cases h1 : hi < z
        · go_wp2_with fail
          go_ret
          exact ⟨by rw [okN_bad HZ.out (.inr h1)]; simp, rfl⟩
        · go_wp2_with fail
          go_round
          case rel => exact ⟨j + 1, by omega, by go_num, Lib.hid (okN_step HZ.out hx.out (by omega) (by omega))⟩
          case measure => simp [intOf]; omega
    · have hjn : j = n := by omega
      have hall : okN hi zs = true := by
        have := hx.out
        rwa [hjn, ← HN.out, List.take_length] at this
      have HA := Lib.hid hall
      clear hjn hall
      go_wp2_with fail
      go_ret
      refine ⟨?_, rfl⟩
      rw [HA.out]
      simp
      rw [Bool.eq_iff_iff, beq_iff_eq, decide_eq_true_iff]
      omega

theorem totm {LL : List (List Int)} {D : List Int} (hn : LL.length + totL LL + D.length ≤ 1048576) : ∀ M ∈ LL, M.length ≤ 1048576 := fun M hM => by
  obtain ⟨i, hi⟩ := List.getElem?_of_mem hM
  have := totL_at hi
  omega

set_option maxHeartbeats 1000000 in
theorem wrongv_any (A B : Option Addr) (c d k0 : Nat) (hk0 : k0 ≤ 1000000000) (LL : List (List Int)) (D : List Int) (w : World) (h3 : Rws w A LL) (h4 : Ints w B D) (hn : LL.length + totL LL + D.length ≤ 1048576) :
    Calls Tryz.prog 81 #[.agg #[.slice B D.length d, .slice A LL.length c], .int .i64 (k0 : Int)] w fun e w' => e = .returned (.int .i64 (wrongAt 0 k0 LL D)) ∧ w.grownBy w' none := by
  have hm := totm hn
  have HM := Lib.hid hm
  obtain ⟨n, hnn⟩ : ∃ n, LL.length = n := ⟨_, rfl⟩
  have HN := Lib.hid hnn
  have HU := Lib.hid (fun w (h : Ints w B D) (k : Nat) => upto_any B d k 10006 D w h (by omega))
  have hn1 : n ≤ 1048576 := by omega
  rw [hnn]
  obtain ⟨m, hmm⟩ : ∃ m, D.length = m := ⟨_, rfl⟩
  have HMM := Lib.hid hmm
  rw [hmm] at HU ⊢
  obtain ⟨r, hr⟩ : ∃ r, wrongAt 0 k0 LL D = r := ⟨_, rfl⟩
  have HR := Lib.hid hr
  rw [hr]
  clear hr hnn hmm hm hn
  have hg0 : w.grownBy (w.alloc (.cells #[.slice B m d, .slice A n c] 82)) none := World.grownBy_alloc _ _ _
  have HS := Lib.hid (h3.grown hg0)
  have HD := Lib.hid (h4.grown hg0 (by simp))
  have HG := Lib.hid hg0
  clear h3 h4 hg0
  go_enter Tryz.func81, Tryz.ntmps81
  go_wp2_with fail
  go_loop [1, 10] (fun u i => ∃ (j k : Nat), j ≤ n ∧ i = .int .i64 j ∧ u = .int .i64 k ∧ k ≤ 1000000000 ∧ j ≤ 3 ∧ Hid (wrongAt j k (LL.drop j) D = r)) (fun _ i => n - (intOf i).toNat)
  case atStart => exact ⟨0, k0, Nat.zero_le _, rfl, rfl, by omega, by omega, Lib.hid HR.out⟩
  case round =>
    obtain ⟨j, k, hj, rfl, rfl, hk, hj4, hx⟩ := hrel
    by_cases hlt : j < n
    · obtain ⟨L, hL⟩ : ∃ L, LL[j]? = some L := ⟨_, List.getElem?_eq_getElem (by have := HN.out; omega)⟩
      obtain ⟨b, off, B2, c2, rfl, hcell, _, hi⟩ := HS.out.at_ hL
      have hll := HM.out L (List.mem_of_getElem? hL)
      have HC := Lib.hid (upto_any B2 c2 k 400 L _ hi hll)
      have HC2 := Lib.hid (fun hok => sumof_any B2 c2 L _ hi hok hll)
      have HL := Lib.hid hL
      have HLL := Lib.hid hll
      obtain ⟨q, hq⟩ : ∃ q, L.length = q := ⟨_, rfl⟩
      have HQ := Lib.hid hq
      rw [hq] at hcell HC HC2
      clear hL hi hq hll
      by_cases h3 : j = 3
      · subst h3
        go_wp2_with fail
        go_ret
        refine ⟨?_, HG.out⟩
        rw [wrong_stop HL.out hx.out (by omega)]
        rfl
      · obtain ⟨bb, hbb⟩ : ∃ bb, decide (q = k ∧ okN 400 L = true) = bb := ⟨_, rfl⟩
        rw [hbb] at HC
        have HB := Lib.hid hbb
        have hj3 : ((j : Int) == 3) = false := by rw [beq_eq_false_iff_ne]; omega
        have hj3n : j ≠ 3 := h3
        clear hbb h3
        go_wp2_with fail
        refine HC.out.mono ?_
        rintro e w1 ⟨rfl, rfl⟩
        cases bb
        · go_wp2_with fail
          go_ret
          refine ⟨?_, HG.out⟩
          rw [wrong_stop HL.out hx.out (by have := HB.out; rw [decide_eq_false_iff_not] at this; rw [HQ.out]; intro h; exact this h.2)]
          rfl
        · have hok : okN 400 L = true := (decide_eq_true_iff.1 HB.out).2
          have hqk : q = k := (decide_eq_true_iff.1 HB.out).1
          have hsb := sumI_bound hok
          have HC3 := Lib.hid (HC2.out hok)
          obtain ⟨x, hxx⟩ : ∃ x : Nat, sumI L = x := ⟨(sumI L).toNat, by omega⟩
          have hx1 : x ≤ 1000000000 := by have := HLL.out; omega
          rw [hxx] at HC3
          have HX := Lib.hid hxx
          have HQK := Lib.hid hqk
          have HOK := Lib.hid hok
          clear hsb hok hqk hxx
          go_wp2_with fail
          refine HC3.out.mono ?_
          rintro e w1 ⟨rfl, rfl⟩
          go_wp2_with fail
          go_round
          case rel =>
            have h3 : j < 3 := by omega
            refine ⟨j + 1, x, by omega, by go_num, rfl, hx1, by omega, Lib.hid ?_⟩
            have := wrong_next HL.out hx.out h3 (by rw [HQ.out, HQK.out]) HOK.out
            rw [HX.out] at this
            exact this
          case measure => simp [intOf]; omega
    · have hjn : j = n := by omega
      have HJ := Lib.hid hjn
      have HC := Lib.hid (HU.out _ HD.out k)
      clear hjn
      obtain ⟨bb, hbb⟩ : ∃ bb, decide (m = k ∧ okN 10006 D = true) = bb := ⟨_, rfl⟩
      rw [hbb] at HC
      have HB := Lib.hid hbb
      clear hbb
      have hw := wrong_end (show LL.length ≤ j by have := HN.out; have := HJ.out; omega) hx.out
      have HW := Lib.hid hw
      clear hw
      go_wp2_with fail
      refine HC.out.mono ?_
      rintro e w1 ⟨rfl, rfl⟩
      cases bb
      · go_wp2_with fail
        go_ret
        refine ⟨?_, HG.out⟩
        have := decide_eq_false_iff_not.1 HB.out
        rw [HW.out, HMM.out, if_neg this, HJ.out]
        rfl
      · go_wp2_with fail
        go_ret
        refine ⟨?_, HG.out⟩
        have := decide_eq_true_iff.1 HB.out
        rw [HW.out, HMM.out, if_pos this]
        rfl

set_option maxHeartbeats 400000 in
theorem flatof_any (A B : Option Addr) (n c m d : Nat) (w : World) :
    Calls Tryz.prog 42 #[.agg #[.slice A n c, .slice B m d]] w fun e w' => e = .returned (.agg #[.slice B m d, .slice A n c]) ∧ w.grownBy w' none := by
  go_enter Tryz.func42, Tryz.ntmps42
  go_wp2_with fail
  refine bodyPost_ret (v := .agg #[.slice B m d, .slice A n c]) (by simp [results, Tryz.results42, go_sem]) rfl ?_
  exact ⟨rfl, (World.grownBy_alloc _ _ _).trans (World.grownBy_alloc _ _ _)⟩

set_option maxHeartbeats 400000 in
theorem wrongl_any (v : Value) (LL : List (List Int)) (D : List Int) (w : World) (h : Lyt w v LL D) (hn : LL.length + totL LL + D.length ≤ 1048576) :
    Calls Tryz.prog 61 #[v] w fun e w' => e = .returned (.int .i64 (wrong LL D)) ∧ w.grownBy w' none := by
  obtain ⟨A, c, B, d, rfl, h1, h2, h3, h4⟩ := h
  have H1 := Lib.hid (fun w h3 h4 => wrongv_any A B c d 1 (by omega) LL D w h3 h4 hn)
  have H3 := Lib.hid h3
  have H4 := Lib.hid h4
  obtain ⟨n, hnn⟩ : ∃ n, LL.length = n := ⟨_, rfl⟩
  obtain ⟨m, hm⟩ : ∃ m, D.length = m := ⟨_, rfl⟩
  obtain ⟨r, hr⟩ : ∃ r, wrong LL D = r := ⟨_, rfl⟩
  have HF := Lib.hid (fun w => flatof_any A B n c m d w)
  rw [show wrongAt 0 1 LL D = r from hr] at H1
  rw [hm, hnn] at H1
  rw [hm, hnn, hr]
  clear h1 h2 h3 h4 hn hnn hm hr
  go_enter Tryz.func61, Tryz.ntmps61
  go_wp2_with fail
  refine (HF.out _).mono ?_
  rintro e w1 ⟨rfl, hg1⟩
  have HG1 := Lib.hid ((World.grownBy_alloc w (.cells #[.slice A n c, .slice B m d] 59) none).trans hg1)
  clear hg1
  go_wp2_with fail
  refine (H1.out _ (H3.out.grown HG1.out) (H4.out.grown HG1.out (by simp))).mono ?_
  rintro e w2 ⟨rfl, hg2⟩
  have HG2 := Lib.hid (HG1.out.trans hg2)
  clear hg2
  go_wp2_with fail
  go_ret
  exact ⟨rfl, HG2.out⟩

theorem wrong_neg (LL : List (List Int)) (D : List Int) : -1 ≤ wrong LL D := (wrongAt_range LL 0 1 D).1

set_option maxHeartbeats 400000 in
theorem layok_any (v : Value) (LL : List (List Int)) (D : List Int) (w : World) (h : Lyt w v LL D) (hn : LL.length + totL LL + D.length ≤ 1048576) :
    Calls Tryz.prog 41 #[v] w fun e w' => e = .returned (.bool (decide (wrong LL D = -1))) ∧ w.grownBy w' none := by
  have H1 := Lib.hid (fun w h => wrongl_any v LL D w h hn)
  have H := Lib.hid h
  have hw := wrong_neg LL D
  obtain ⟨r, hr⟩ : ∃ r, wrong LL D = r := ⟨_, rfl⟩
  rw [hr] at H1 hw
  rw [hr]
  obtain ⟨A, c, B, d, rfl, _⟩ := h
  obtain ⟨n, hnn⟩ : ∃ n, LL.length = n := ⟨_, rfl⟩
  obtain ⟨m, hm⟩ : ∃ m, D.length = m := ⟨_, rfl⟩
  rw [hm, hnn] at H1 H
  rw [hm, hnn]
  clear hn hr hnn hm
  obtain ⟨q, hq⟩ : ∃ q, (r == -1) = q := ⟨_, rfl⟩
  have e : decide (r = -1) = q := by rw [← hq, Bool.eq_iff_iff]; simp
  rw [e]
  clear e
  go_enter Tryz.func41, Tryz.ntmps41
  go_wp2_with fail
  refine (H1.out _ (H.out.grown (World.grownBy_alloc _ _ _))).mono ?_
  rintro e w2 ⟨rfl, hg2⟩
  have HG2 := Lib.hid ((World.grownBy_alloc w (.cells #[.slice A n c, .slice B m d] 59) none).trans hg2)
  clear hg2
  go_wp2_with fail
  go_ret
  exact ⟨rfl, HG2.out⟩
end

/- FoldUp -/
section
open Go.RowKit

set_option maxRecDepth 100000 in
set_option maxHeartbeats 2000000 in
theorem foldup_impl (v : Value) (LL : List (List Int)) (D : List Int) (w : World) (h : Lyt w v LL D) (hn : LL.length + totL LL + D.length ≤ 1048576) (htab : Lib.TabIs Tryz.prog w "internal/strconv.uint64pow10" .u64 Lib.pow10Tab) :
    Calls Tryz.prog 29 #[v] w (FUPost (foldText LL D) w) := by
  have H := Lib.hid h
  obtain ⟨A, c, B, d, rfl, h1, h2, h3, h4⟩ := h
  have HV := Lib.hid (fun u (hg : w.grownBy u none) => layok_any _ LL D u (H.out.grown hg) hn)
  have HFO := Lib.hid (fun (hv : wrong LL D = -1) u (hg : w.grownBy u none) => fold_impl A B c d LL D u (h3.grown hg) (h4.grown hg (by simp)) (wrong_fits hv).2 (wrong_fits hv).1 (fun M hM => by
    obtain ⟨i, hi⟩ := List.getElem?_of_mem hM
    have := totL_at hi
    omega) (by omega) (Lib.tabBelow_of_tabIs htab _ (below_of hg)))
  have HYES := Lib.hid (fun (t : T LL.length) (hv : wrong LL D = -1) (ht : foldN LL.length LL D = [t]) => foldText_yes hv (show (foldN LL.length LL D)[0]? = some t by rw [ht]; rfl))
  have HNO := Lib.hid (fun (hv : wrong LL D ≠ -1) => foldText_no hv)
  obtain ⟨n, hnn⟩ : ∃ n, LL.length = n := ⟨_, rfl⟩
  obtain ⟨m, hm⟩ : ∃ m, D.length = m := ⟨_, rfl⟩
  have HN := Lib.hid hnn
  rw [hnn, hm] at HV H
  rw [hnn, hm]
  have HFL := Lib.hid (fun u => flatof_any A B n c m d u)
  obtain ⟨R, hR⟩ : ∃ R, foldText LL D = R := ⟨_, rfl⟩
  rw [hR]
  have HR := Lib.hid hR
  have HM := Lib.hid hm
  clear hn hnn hm h1 h2 h3 h4 htab hR
  have HG0 := Lib.hid (World.grownBy_alloc w (.cells #[.slice A n c, .slice B m d] 59) none)
  have HP0 := Lib.hid (Pr.new w 59 (.slice A n c) (.slice B m d))
  by_cases hv : wrong LL D = -1
  · have hd : decide (wrong LL D = -1) = true := decide_eq_true hv
    have HVV := Lib.hid hv
    rw [hd] at HV
    have HFF := Lib.hid (HFO.out hv)
    clear hv hd HFO
    go_enter Tryz.func29, Tryz.ntmps29
    have p0 := HP0.out.c0
    have p1 := HP0.out.c1
    go_wp2_with fail
    generalize w.alloc (.cells #[.slice A n c, .slice B m d] 59) = w1 at HG0 HP0 p0 p1 ⊢
    refine (HV.out w1 HG0.out).mono ?_
    rintro e w2 ⟨rfl, hg2⟩
    have HG2 := Lib.hid (HG0.out.trans hg2)
    have P2 := HP0.out.grown hg2 (by simp)
    clear p0 p1
    have p0 := P2.c0
    have p1 := P2.c1
    clear hg2 P2
    go_wp2_with fail
    refine (HFL.out w2).mono ?_
    rintro e w3 ⟨rfl, hg3⟩
    have HG3 := Lib.hid (HG2.out.trans hg3)
    have HC := Lib.hid (HFF.out w3 HG3.out)
    rw [HN.out, HM.out] at HC
    clear hg3 p0 p1
    go_wp2_with fail
    refine HC.out.mono ?_
    rintro e w4 ⟨hg4, u, t, ht, rfl, hu⟩
    have HG4 := Lib.hid (HG3.out.trans hg4)
    have hy := HYES.out t HVV.out ht
    rw [HR.out] at hy
    have HY := Lib.hid hy
    have HU := Lib.hid hu
    obtain ⟨bb, hbb⟩ : ∃ bb, decide ((text LL.length t).length ≤ 400) = bb := ⟨_, rfl⟩
    rw [hbb]
    have HB := Lib.hid hbb
    clear hg4 ht hu hy hbb
    go_wp2_with fail
    refine bodyPost_ret (v := .tuple #[.string u, .bool bb]) (by simp [results, Tryz.results29, go_sem]) rfl ?_
    refine ⟨⟨u, ?_, ?_⟩, HG4.out⟩
    · rw [HY.out, ← HB.out]
      by_cases h4 : (text LL.length t).length ≤ 400
      · rw [if_pos h4, decide_eq_true h4]; rfl
      · rw [if_neg h4, decide_eq_false h4]; rfl
    · rw [HY.out, HU.out]
      by_cases h4 : (text LL.length t).length ≤ 400
      · rw [if_pos h4, if_pos h4]; rfl
      · rw [if_neg h4, if_neg h4]; rfl
  · have hd : decide (wrong LL D = -1) = false := decide_eq_false hv
    have HX := Lib.hid (HNO.out hv)
    rw [hd] at HV
    clear hv hd HFO
    go_enter Tryz.func29, Tryz.ntmps29
    have p0 := HP0.out.c0
    have p1 := HP0.out.c1
    go_wp2_with fail
    generalize w.alloc (.cells #[.slice A n c, .slice B m d] 59) = w1 at HG0 HP0 p0 p1 ⊢
    refine (HV.out w1 HG0.out).mono ?_
    rintro e w2 ⟨rfl, hg2⟩
    have HG2 := Lib.hid (HG0.out.trans hg2)
    clear hg2 p0 p1
    go_wp2_with fail
    go_ret2
    have hr := HX.out
    rw [HR.out] at hr
    subst hr
    exact ⟨⟨⟨#[]⟩, rfl, rfl⟩, HG2.out⟩
end

/- AppR -/
section
open Go.RowKit

theorem run_append_list (w : World) (base : Nat) (v : Value) (n : Nat) (xs : List Value) (hown : w.ownsRow base 3 1 v n xs) (A : Option Addr) (c : Nat) (M : List Int) (hA : Ints w A M) (hn : n + M.length ≤ 1099511627776) (hbase : base ≤ w.heap.size) :
    ∃ v' w', (Builtin.append_ #[25, 25] 25 #[v, .slice A M.length c]).run Tryz.prog w = .ok v' w' ∧ w'.ownsRow base 3 1 v' (n + M.length) (xs ++ M.map (Value.int .i64)) ∧ w.grownBy w' v.ownBlock ∧ (v'.ownBlock = v.ownBlock ∨ v'.ownBlock = some w.heap.size) := by
  obtain ⟨i0, hi0, hz0, hz1, hz2⟩ := info_parts infoJ
  cases A with
  | some a =>
    obtain ⟨v', w', h1, h2, h3, _, h5⟩ := run_append_own_at (P := Tryz.prog) w base 25 25 3 i0 (.int .i64 0) 1 8 Tryz.underlying25 hi0 hz0 hz1 hz2 rfl (by decide) v n xs hown a M.length c (M.map (Value.int .i64)) (by simp)
      (fun j u hj => by
        rw [List.getElem?_map] at hj
        cases hz : M[j]? with
        | none => rw [hz] at hj; cases hj
        | some z =>
          rw [hz] at hj
          cases hj
          obtain ⟨b, off, e, _, hc⟩ := hA (by have := (List.getElem?_eq_some_iff.1 hz).1; omega)
          cases e
          rw [addr_flat]
          exact hc j z hz)
      (fun u hu => by
        obtain ⟨z, _, rfl⟩ := List.mem_map.1 hu
        rfl) (by simp only [maxLen]; omega) (by omega) hbase
    exact ⟨v', w', h1, h2, h3, h5⟩
  | none =>
    have hM : M = [] := by
      cases M with
      | nil => rfl
      | cons z M =>
        obtain ⟨b, off, e, _⟩ := hA (by simp)
        cases e
    subst hM
    have hu := Tryz.underlying25
    refine ⟨v, w, ?_, by simpa using hown, ⟨rfl, rfl, rfl, Nat.le_refl _, fun _ _ _ => rfl⟩, .inl rfl⟩
    rcases hown.2 with ⟨rfl, rfl⟩ | ⟨g, cap, cur, rfl, _, _, hnc, _⟩
    · simp [Builtin.append_, run_underlying hu, sizeOf, typeInfo, hi0, Builtin.lenOf, Builtin.firstCells]
    · simp [Builtin.append_, run_underlying hu, sizeOf, typeInfo, hi0, Builtin.lenOf, Builtin.firstCells, hnc, storeCells]
theorem step_append_run {P : Program} {ops : Array Oper} {o : Oper} {a : Act} {w : World} {K : Act → World → Prop} {Q : Exit → Act → World → Prop} {E : Prop} (hgd : o.guard = none) (s x : Operand) (t : TypeId) (ho : o.op = Op.call { callee := Callee.builtin Builtin.append, args := #[s, x], argTypes := #[t, t] })
    (v u : Value) (hs : a.eval s = v) (hx : a.eval x = u) (v' : Value) (w' : World) (hrun : (Builtin.append_ #[t, t] o.type #[v, u]).run P w = .ok v' w') (h : K (a.put o.dst v') w') :
    if Region.wanted o (yielded ops a.tmps) = true then Oper.wp P o a w K Q else E := by
  have hw : Region.wanted o (yielded ops a.tmps) = true := by simp [Region.wanted, hgd]
  rw [if_pos hw]
  unfold Oper.wp
  simp [execOp, ho, resolve, invoke, builtin, hs, hx, hrun, Result.andThen]
  exact h
end

/- AppL -/
section
open Go.RowKit

theorem flat_step {LL : List (List Int)} {j : Nat} {M : List Int} (h : LL[j]? = some M) : (LL.take (j + 1)).flatten = (LL.take j).flatten ++ M := by
  rw [at_take h, List.flatten_append]
  simp
theorem flat_le (LL : List (List Int)) (j : Nat) : (LL.take j).flatten.length ≤ LL.flatten.length := by
  have h : LL.flatten = (LL.take j).flatten ++ (LL.drop j).flatten := by rw [← List.flatten_append, List.take_append_drop]
  rw [h, List.length_append]
  omega

set_option maxRecDepth 100000 in
set_option maxHeartbeats 2000000 in
theorem grow_any (n : Nat) (w : World) (hn : n ≤ 1048576) :
    Calls Tryz.prog 44 #[.slice none 0 0, .int .i64 (n : Int)] w fun e w' => ∃ v, e = .returned v ∧ w'.ownsRow w.heap.size 3 1 v 0 [] ∧ w.grownBy w' none := by
  obtain ⟨i0, hi0, hz0, hz1, hz2⟩ := info_parts infoJ
  by_cases h0 : n = 0
  · subst h0
    go_enter Tryz.func44, Tryz.ntmps44
    go_wp2_with fail
    go_ret
    exact ⟨_, rfl, World.ownsRow_nil _ _ _ _, gr_refl _ _⟩
  · have hrz : ∀ ty, (Builtin.append_ #[25, 3] ty #[.slice none 0 0, .int .i64 (n : Int)]).run Tryz.prog w =
        .ok (.slice (some ⟨w.heap.size, 0, none⟩) n (grownCap w n 0 3)) (w.drew.alloc (.cells (#[] ++ Builtin.zeroCells (Value.cells (.int .i64 0)) n ++ Builtin.zeroCells (Value.cells (.int .i64 0)) (grownCap w n 0 3 - n)) 3)) := fun ty => by
      have h := Lib.run_append_grow_zeros (P := Tryz.prog) w 25 3 ty 3 i0 (.int .i64 0) .i64 .i64 Tryz.underlying25 Tryz.underlying3 hi0 hz0 none 0 0 [] (run_firstCells_none w.drew i0.size 0 0 0) n (by omega) (by omega) (by omega) (by omega) (by rw [hz2]; omega)
        (by rw [hz2]; exact growslice_fits (by omega) (by omega))
      simpa using h
    have hG := grownCap_ge w n 0 3
    have hG2 := grownCap_le_maxLen w n 0 3 (by unfold maxLen; omega)
    obtain ⟨G, hGe⟩ : ∃ G, grownCap w n 0 3 = G := ⟨_, rfl⟩
    rw [hGe] at hrz hG hG2
    have hG63 : G ≤ 9223372036854775807 := by unfold maxLen at hG2; omega
    obtain ⟨W, hW⟩ : ∃ W, w.drew.alloc (.cells (#[] ++ Builtin.zeroCells (Value.cells (.int .i64 0)) n ++ Builtin.zeroCells (Value.cells (.int .i64 0)) (G - n)) 3) = W := ⟨_, rfl⟩
    have hgr : w.grownBy W none := by rw [← hW]; exact (gr_drewN w 1 none).trans (World.grownBy_alloc _ _ _)
    have hown : W.ownsRow w.heap.size 3 1 (.slice (some ⟨w.heap.size, 0, none⟩) 0 G) 0 [] := by
      refine ⟨rfl, .inr ⟨w.heap.size, G, _, rfl, Nat.le_refl _, by rw [← hW]; exact heap_alloc_new w.drew _, Nat.zero_le _, hG2, ?_, by simp⟩⟩
      simp only [Array.size_append, size_zeroCells, Value.cells]
      simp
      omega
    rw [hW] at hrz
    have HP := Lib.hid (And.intro hgr hown)
    clear hgr hown hW hGe hG2
    go_enter Tryz.func44, Tryz.ntmps44
    go_wp2_with (at_builtin; refine Lib.wpList_append_run _ rfl _ _ _ _ rfl _ _ rfl rfl _ _ (hrz _) ?_)
    all_goals (go_ret; exact ⟨_, rfl, HP.out.2, HP.out.1⟩)

set_option maxRecDepth 100000 in
set_option maxHeartbeats 4000000 in
theorem concat_any (A : Option Addr) (c : Nat) (LL : List (List Int)) (w : World) (hA : Rws w A LL) (hk : LL.length ≤ 1048576) (hs : LL.flatten.length ≤ 1048576) :
    Calls Tryz.prog 30 #[.slice A LL.length c] w (ListPost LL.flatten w) := by
  have HA := Lib.hid hA
  obtain ⟨k, hkk⟩ : ∃ k, LL.length = k := ⟨_, rfl⟩
  have HK := Lib.hid hkk
  obtain ⟨T, hT⟩ : ∃ T, LL.flatten = T := ⟨_, rfl⟩
  have HT := Lib.hid hT
  have HLE := Lib.hid (fun j => (show (LL.take j).flatten.length ≤ 1048576 from Nat.le_trans (flat_le LL j) hs))
  have HGR := Lib.hid (fun (n : Nat) (h : n ≤ 1048576) => grow_any n w h)
  rw [hkk] at hk ⊢
  rw [hT]
  clear hA hkk hT hs
  go_enter Tryz.func30, Tryz.ntmps30
  go_wp2_with fail
  go_loopw [3, 11] (fun a i wr => ∃ (j q : Nat), j ≤ k ∧ i = .int .i64 j ∧ a = .int .i64 (q : Int) ∧ q ≤ 1048576 ∧ Hid (q = (LL.take j).flatten.length) ∧ w = wr) (fun _ i _ => k - (intOf i).toNat)
  case atStart => exact ⟨0, 0, Nat.zero_le _, rfl, rfl, by omega, Lib.hid rfl, rfl⟩
  case round =>
    obtain ⟨j, q, hj, rfl, rfl, hq, hqq, rfl⟩ := hrel
    by_cases hlt : j < k
    · obtain ⟨M, hM⟩ : ∃ M, LL[j]? = some M := ⟨_, List.getElem?_eq_getElem (by have := HK.out; omega)⟩
      obtain ⟨b, off, B, d, rfl, hcell, hcap, hi⟩ := HA.out.at_ hM
      obtain ⟨z, hz⟩ : ∃ z, M.length = z := ⟨_, rfl⟩
      rw [hz] at hcell
      have hst := flat_step hM
      have hle := HLE.out (j + 1)
      have e : (LL.take (j + 1)).flatten.length = q + z := by rw [hst, List.length_append, ← hqq.out, hz]
      rw [e] at hle
      have HE := Lib.hid e
      have hneg : ¬ ((q : Int) + (z : Int) < 0) := by omega
      clear hcap hi hM hz hst e
      go_wp2_with fail
      go_roundw
      case rel => exact ⟨j + 1, q + z, by omega, by go_num, by go_num, hle, Lib.hid HE.out.symm, trivial⟩
      case measure => simp [intOf]; omega
    · have hjn : j = k := by omega
      have HJ := Lib.hid hjn
      have HG := Lib.hid (HGR.out q hq)
      clear hjn
      go_wp2_with fail
      refine HG.out.mono ?_
      rintro e w1 ⟨v, rfl, ho1, hg1⟩
      obtain ⟨A1, m1, c1, rfl⟩ := own_form ho1
      have hm1 : m1 = 0 := by
        rcases ho1.2 with ⟨h, _⟩ | ⟨g, cap, cur, h, _⟩
        · cases h; rfl
        · cases h; rfl
      subst hm1
      have HO1 := Lib.hid ho1
      have HG1 := Lib.hid hg1
      clear ho1 hg1 HG
      go_wp2_with fail
      go_loopw [6, 27] (fun u i wr => ∃ (j q : Nat) (A3 : Option Addr) (c3 : Nat), j ≤ k ∧ i = .int .i64 j ∧ u = .slice A3 q c3 ∧ q ≤ 1048576 ∧ Hid (q = (LL.take j).flatten.length) ∧ Hid (wr.ownsRow w.heap.size 3 1 (.slice A3 q c3) q (((LL.take j).flatten).map (Value.int .i64))) ∧ Hid (w.grownBy wr none)) (fun _ i _ => k - (intOf i).toNat)
      case atStart => exact ⟨0, 0, A1, c1, Nat.zero_le _, rfl, rfl, by omega, Lib.hid rfl, HO1, HG1⟩
      case round =>
        obtain ⟨j, q, A3, c3, hj, rfl, rfl, hq, hqq, hown, hgr⟩ := hrel
        by_cases hlt : j < k
        · obtain ⟨M, hM⟩ : ∃ M, LL[j]? = some M := ⟨_, List.getElem?_eq_getElem (by have := HK.out; omega)⟩
          obtain ⟨b, off, B, d, rfl, hcell, hcap, hi⟩ := (HA.out.grown hgr.out).at_ hM
          have hst := flat_step hM
          have hle := HLE.out (j + 1)
          have e : (LL.take (j + 1)).flatten.length = q + M.length := by rw [hst, List.length_append, ← hqq.out]
          rw [e] at hle
          obtain ⟨v2, w2, hrun, ho2, hg2, hat2⟩ := run_append_list wr w.heap.size _ q _ hown.out B d M hi (Nat.le_trans hle (by omega)) hgr.out.size
          rw [← List.map_append, ← hst] at ho2
          have hg3 := gr_ownF hgr.out hg2 (fun g hg => (hown.out.lt g hg).1)
          obtain ⟨z, hz⟩ : ∃ z, M.length = z := ⟨_, rfl⟩
          rw [hz] at hcell hrun ho2 e hle
          obtain ⟨A4, m4, c4, rfl⟩ := own_form ho2
          have hm4 : m4 = q + z := by
            rcases ho2.2 with ⟨h, h'⟩ | ⟨g, cap, cur, h, _⟩
            · cases h; omega
            · cases h; rfl
          subst hm4
          have HE := Lib.hid e
          have HO2 := Lib.hid ho2
          have HG3 := Lib.hid hg3
          clear hcap hi hM hz hst e ho2 hg3 hg2 hat2
          go_wp2_with (at_builtin; refine Lib.wpList_append_run _ rfl _ _ _ _ rfl _ _ rfl rfl _ _ hrun ?_)
          go_roundw
          case rel => exact ⟨j + 1, q + z, A4, c4, by omega, by go_num, rfl, hle, Lib.hid HE.out.symm, HO2, HG3⟩
          case measure => simp [intOf]; omega
        · have hjn : j = k := by omega
          have HJ2 := Lib.hid hjn
          clear hjn
          go_wp2_with fail
          go_ret
          have e : LL.take j = LL := by rw [HJ2.out, ← HK.out, List.take_length]
          have h3 := hown.out
          have h4 := hqq.out
          rw [e, HT.out] at h3 h4
          exact ⟨A3, c3, by rw [← h4]; rfl, hgr.out, by rw [← h4]; exact h3⟩
end

/- FoldR -/
section
open Go.RowKit Go.Shelf

theorem makeR_run (n : Nat) (hn : n ≤ 1048576) (u : World) : (Instr.makeSlice 25 (.int .i64 (n : Int)) (.int .i64 (n : Int))).run Tryz.prog u =
    .ok (.slice (some ⟨u.heap.size, 0, none⟩) n n) (u.alloc (.cells (madeCells #[.int .i64 0] n) 3)) := by
  obtain ⟨i0, hi0, hz0, hz1, hz2⟩ := info_parts infoJ
  have h := run_make (P := Tryz.prog) u 25 3 i0 (.int .i64 0) Tryz.underlying25 hi0 hz0 .i64 .i64 (n : Int) (n : Int) (by omega) (Int.le_refl _) (by rw [hz2]; omega) (by omega)
  simpa [hz1, Value.cells] using h
theorem flat_len_le {B : Nat} : ∀ (R : List (List Int)), (∀ r ∈ R, r.length ≤ B) → R.flatten.length ≤ R.length * B
  | [], _ => by simp
  | r :: R, h => by
    have h1 := h r (by simp)
    have h2 := flat_len_le R (fun x hx => h x (by simp [hx]))
    rw [List.flatten_cons, List.length_append, List.length_cons, Nat.add_mul, Nat.one_mul]
    omega
theorem okR_flat {R : List (List Int)} (h : okR R) : R.flatten.length ≤ 160000 := by
  have h1 := flat_len_le (B := 400) R (fun r hr => (h.2 r hr).1)
  have h2 : R.length * 400 ≤ 400 * 400 := Nat.mul_le_mul_right _ h.1
  omega
/-- The layout of rows, as foldRows builds it. -/
theorem lyt_rows {w : World} {g1 g2 g n c : Nat} {A : Option Addr} {R : List (List Int)} (hn : R.length = n) (h1 : w.heap[g1]? = some (.cells #[.int .i64 (n : Int)] 3 (0, 0))) (h2 : w.heap[g2]? = some (.cells #[.slice (some ⟨g1, 0, none⟩) 1 1, .slice (some ⟨g, 0, none⟩) n n] 25 (0, 0)))
    (h3 : Ints w (some ⟨g, 0, none⟩) (lensI R)) (h4 : Ints w A R.flatten) (h5 : R.flatten.length ≤ c) : Lyt w (.agg #[.slice (some ⟨g2, 0, none⟩) 2 2, .slice A R.flatten.length c]) [[(n : Int)], lensI R] R.flatten := by
  refine ⟨some ⟨g2, 0, none⟩, 2, A, c, rfl, Nat.le_refl _, h5, fun _ => ⟨g2, 0, rfl, (Array.getElem?_eq_some_iff.1 h2).1, fun j L hj => ?_⟩, h4⟩
  match j, hj with
  | 0, hj =>
    simp only [List.getElem?_cons_zero, Option.some.injEq] at hj
    subst hj
    refine ⟨some ⟨g1, 0, none⟩, 1, cell_of_row w g2 0 _ _ (0, 0) h2, Nat.le_refl _, fun _ => ⟨g1, 0, rfl, (Array.getElem?_eq_some_iff.1 h1).1, fun i z hi => ?_⟩⟩
    match i, hi with
    | 0, hi =>
      simp only [List.getElem?_cons_zero, Option.some.injEq] at hi
      subst hi
      exact cell_of_row w g1 0 _ _ (0, 0) h1
    | i + 1, hi => simp at hi
  | 1, hj =>
    simp only [List.getElem?_cons_succ, List.getElem?_cons_zero, Option.some.injEq] at hj
    subst hj
    refine ⟨some ⟨g, 0, none⟩, n, ?_, by rw [lens_len, hn]; exact Nat.le_refl _, h3⟩
    rw [lens_len, hn]
    exact cell_of_row w g2 1 _ _ (0, 0) h2
  | j + 2, hj => simp at hj

set_option maxRecDepth 100000 in
set_option maxHeartbeats 4000000 in
theorem foldrows_any (A : Option Addr) (c : Nat) (R : List (List Int)) (w : World) (hA : Rws w A R) (hR : okR R) (htab : Lib.TabIs Tryz.prog w "internal/strconv.uint64pow10" .u64 Lib.pow10Tab) :
    Calls Tryz.prog 17 #[.slice A R.length c] w (FUPost (rowsX R) w) := by
  have hfl := okR_flat hR
  have HA := Lib.hid hA
  have hn4 := hR.1
  have HC := Lib.hid (fun u (hg : w.grownBy u none) => concat_any A c R u (hA.grown hg) (by omega) (by omega))
  have HTX := Lib.hid (foldText_rows hR)
  have HFU := Lib.hid (fun v u (hg : w.grownBy u none) (hl : Lyt u v [[(R.length : Int)], lensI R] R.flatten) => foldup_impl v _ _ u hl (by
    simp only [totL, List.length_cons, List.length_nil, lens_len]
    omega) ((Lib.tabBelow_of_tabIs htab) u (below_of hg)))
  rw [HTX.out] at HFU
  obtain ⟨n, hn⟩ : ∃ n, R.length = n := ⟨_, rfl⟩
  have HN := Lib.hid hn
  rw [hn] at hn4 HC HFU ⊢
  have hmk := makeR_run n (by omega)
  generalize rowsX R = X at HFU ⊢
  clear hA hR htab hn HTX
  go_enter Tryz.func17, Tryz.ntmps17
  go_wp2_with fail
  clear hmk
  have HO := Lib.hid (World.ownsRow_lit (base := w.heap.size) (e := 3) (size := 1) w (madeCells #[.int .i64 0] n) n (Nat.le_refl _) (by simp only [maxLen]; omega) (by simp [madeCells]))
  go_loopw [5, 6, 12] (fun _ _ i wr => ∃ (j : Nat) (ys : List Value), j ≤ n ∧ i = .int .i64 j ∧ Hid (wr.ownsRow w.heap.size 3 1 (.slice (some ⟨w.heap.size, 0, none⟩) n n) n ys) ∧ Hid (∀ i, i < j → ys[i]? = ((lensI R).map (Value.int .i64))[i]?) ∧ Hid (w.grownBy wr none)) (fun _ _ i _ => n - (intOf i).toNat)
  case atStart => exact ⟨0, _, Nat.zero_le _, rfl, HO, Lib.hid (fun i hi => by omega), Lib.hid (World.grownBy_alloc _ _ _)⟩
  case round =>
    obtain ⟨j, ys, hj, rfl, ho, hys, hgr⟩ := hrel
    by_cases hlt : j < n
    · obtain ⟨L, hL⟩ : ∃ L, R[j]? = some L := ⟨_, List.getElem?_eq_getElem (by have := HN.out; omega)⟩
      obtain ⟨b, off, rfl, _, hc⟩ := (HA.out.grown hgr.out) (by have := HN.out; omega)
      obtain ⟨Bj, cj, hcj, _, _⟩ := hc j L hL
      have hyl : ys.length = n := by have := ho.out.1; omega
      have hcell2 : wr.cell? ⟨w.heap.size, j, none⟩ = some ys[j] := (ho.out.cellAt j (by omega)).trans (List.getElem?_eq_getElem (by omega))
      have hfr := ho.out.frozenAt j
      generalize ys[j] = y0 at hcell2
      have HL := Lib.hid hL
      have HYL := Lib.hid hyl
      obtain ⟨k, hk⟩ : ∃ k, L.length = k := ⟨_, rfl⟩
      have HK := Lib.hid hk
      rw [hk] at hcj
      have HST := Lib.hid (ho.out.stored j (.int .i64 (k : Int)))
      clear hc hL hyl hk
      go_wp2_with fail
      go_roundw
      case rel =>
        refine ⟨j + 1, ys.set j (.int .i64 (k : Int)), by omega, by go_num, Lib.hid HST.out.1, Lib.hid (fun i hi => ?_), Lib.hid (gr_ownF hgr.out HST.out.2 (fun k hk => by cases hk; exact Nat.le_refl _))⟩
        rw [List.getElem?_set]
        by_cases e : j = i
        · subst e
          rw [if_pos rfl, if_pos (by have := HYL.out; omega), List.getElem?_map, lensI, List.getElem?_map, HL.out]
          simp [HK.out]
        · rw [if_neg e]
          exact hys.out i (by omega)
      case measure => simp [intOf]; omega
    · have hjn : j = n := by omega
      have e : ys = (lensI R).map (Value.int .i64) := by
        refine List.ext_getElem? fun i => ?_
        have hyl : ys.length = n := by have := ho.out.1; omega
        have := HN.out
        rcases Nat.lt_or_ge i n with h | h
        · exact hys.out i (by rw [hjn]; exact h)
        · rw [List.getElem?_eq_none (by omega), List.getElem?_eq_none (by rw [List.length_map, lens_len]; omega)]
      have HO2 := Lib.hid ho.out
      rw [e] at HO2
      have hg2 := (World.grownBy_alloc wr (.cells #[.int .i64 (n : Int)] 3) none).trans (World.grownBy_alloc _ (.cells #[.slice (some ⟨wr.heap.size, 0, none⟩) 1 1, .slice (some ⟨w.heap.size, 0, none⟩) n n] 25) none)
      have HG2 := Lib.hid hg2
      have HB1 := Lib.hid ((Below.heap_alloc (wr.alloc (.cells #[.int .i64 (n : Int)] 3)) (.cells #[.slice (some ⟨wr.heap.size, 0, none⟩) 1 1, .slice (some ⟨w.heap.size, 0, none⟩) n n] 25) wr.heap.size (by simp)).trans (heap_alloc_new wr (.cells #[.int .i64 (n : Int)] 3)))
      have hb2 := heap_alloc_new (wr.alloc (.cells #[.int .i64 (n : Int)] 3)) (.cells #[.slice (some ⟨wr.heap.size, 0, none⟩) 1 1, .slice (some ⟨w.heap.size, 0, none⟩) n n] 25)
      rw [sz_alloc] at hb2
      have HB2 := Lib.hid hb2
      have HGR := Lib.hid hgr.out
      have HCC := Lib.hid (HC.out _ (hgr.out.trans hg2))
      clear hjn e hg2 hb2
      go_wp2_with fail
      refine HCC.out.mono ?_
      rintro e w3 ⟨A3, c3, rfl, hg3, ho3⟩
      have hga := HG2.out.trans hg3
      have hq3 : R.flatten.length ≤ c3 := by
        rcases ho3.2 with ⟨hv, hm⟩ | ⟨g, cap, cur, hv, _, _, hnc, _⟩
        · omega
        · cases hv; exact hnc
      have hly := lyt_rows (w := w3) HN.out ((hg3.block _ (by simp; omega) (by simp)).trans HB1.out) ((hg3.block _ (by simp) (by simp)).trans HB2.out)
        ((Ints.of_own (e := 3) (zs := lensI R) (A := some ⟨w.heap.size, 0, none⟩) (c := n) (by rw [lens_len, HN.out]; exact HO2.out)).grown hga (by simp)) (Ints.of_own (e := 3) ho3) hq3
      have HF := Lib.hid (HFU.out _ w3 (HGR.out.trans hga) hly)
      have HG3 := Lib.hid (HGR.out.trans hga)
      generalize R.flatten.length = q at HF ⊢
      clear hga hq3 hly hg3 ho3
      go_wp2_with fail
      refine HF.out.mono ?_
      rintro e w4 ⟨⟨u, rfl, hu⟩, hg4⟩
      have HG4 := Lib.hid (HG3.out.trans hg4)
      have HU := Lib.hid hu
      obtain ⟨b, hb⟩ : ∃ b, X.isSome = b := ⟨_, rfl⟩
      have HB := Lib.hid hb
      rw [hb]
      clear hg4 hu hb
      go_wp2_with fail
      go_ret2
      exact ⟨⟨u, by rw [HB.out]; rfl, HU.out⟩, HG4.out⟩
end

/- CutM -/
section
open Go.RowKit Go.Shelf

/-- The first j rows are cut. -/
def cutL : Nat → List Int → List (List Int) → List (List Int)
  | 0, _, R => R
  | j + 1, ns, R => (cutL j ns R).set j ((R[j]?.getD []).take (ns[j]?.getD 0).toNat)
theorem cutL_len (ns : List Int) (R : List (List Int)) : ∀ j, (cutL j ns R).length = R.length
  | 0 => rfl
  | j + 1 => by rw [cutL, List.length_set, cutL_len ns R j]
theorem cutL_at (ns : List Int) (R : List (List Int)) : ∀ (j i : Nat), j ≤ i → (cutL j ns R)[i]? = R[i]?
  | 0, _, _ => rfl
  | j + 1, i, h => by rw [cutL, List.getElem?_set_ne (by omega), cutL_at ns R j i (by omega)]
theorem cutL_step {ns : List Int} {R : List (List Int)} {j : Nat} {M : List Int} {x : Int} (hM : R[j]? = some M) (hx : ns[j]? = some x) : cutL (j + 1) ns R = (cutL j ns R).set j (M.take x.toNat) := by
  rw [cutL, hM, hx]
  rfl
theorem okR_cut {ns : List Int} {R : List (List Int)} (h : okR R) : ∀ j, okR (cutL j ns R)
  | 0 => h
  | j + 1 => by
    refine ⟨by rw [cutL_len]; exact h.1, fun r hr => ?_⟩
    rw [cutL] at hr
    rcases List.mem_or_eq_of_mem_set hr with h1 | h1
    · exact (okR_cut h j).2 r h1
    · subst h1
      cases hM : R[j]? with
      | none => exact ⟨by simp, okN_of fun z hz => by simp at hz⟩
      | some M =>
        have hm := h.2 M (List.mem_of_getElem? hM)
        refine ⟨?_, okN_of fun z hz => okN_mem hm.2 (List.mem_of_mem_take hz)⟩
        have h1 := hm.1
        have h2 := List.length_take_le (ns[j]?.getD 0).toNat M
        show (M.take (ns[j]?.getD 0).toNat).length ≤ 400
        rw [List.length_take]
        omega
/-- All lengths are within their rows. -/
def cutB (R : List (List Int)) (ns : List Int) : Bool := decide (ns.length = R.length) && (List.range R.length).all fun i => decide (0 ≤ ns[i]?.getD 0 ∧ ns[i]?.getD 0 ≤ ((R[i]?.getD []).length : Int))
theorem cutB_no {R : List (List Int)} {ns : List Int} {j : Nat} {M : List Int} {x : Int} (hM : R[j]? = some M) (hx : ns[j]? = some x) (hb : ¬ (0 ≤ x ∧ x ≤ (M.length : Int))) : cutB R ns = false := by
  have hj := (List.getElem?_eq_some_iff.1 hM).1
  have h : (List.range R.length).all (fun i => decide (0 ≤ ns[i]?.getD 0 ∧ ns[i]?.getD 0 ≤ ((R[i]?.getD []).length : Int))) = false := by
    rw [List.all_eq_false]
    refine ⟨j, List.mem_range.2 hj, ?_⟩
    rw [hM, hx]
    simpa using hb
  rw [cutB, h, Bool.and_false]
theorem cutB_yes {R : List (List Int)} {ns : List Int} (hl : ns.length = R.length) (h : ∀ (i : Nat) (M : List Int) (x : Int), i < R.length → R[i]? = some M → ns[i]? = some x → 0 ≤ x ∧ x ≤ (M.length : Int)) : cutB R ns = true := by
  rw [cutB, decide_eq_true hl, Bool.true_and, List.all_eq_true]
  intro i hi
  have hi := List.mem_range.1 hi
  have h1 := List.getElem?_eq_getElem hi
  have h2 := List.getElem?_eq_getElem (show i < ns.length by omega)
  have h3 := h i _ _ hi h1 h2
  rw [h1, h2]
  exact decide_eq_true h3
/-- The text of the cut array, nothing where there is none. -/
def cutX (s : ByteArray) (ns : List Int) : Option (List UInt8) := if isArr s 2 = true ∧ cutB (rowsS s) ns = true then rowsX (cutL (rowsS s).length ns (rowsS s)) else none

theorem ints_takeC {u : World} {A : Option Addr} {z : Nat} {D : List Int} (h : Ints u A D) : Ints u A (D.take z) := fun hl => by
  rw [List.length_take] at hl
  obtain ⟨b, off, e, hb, hc⟩ := h (by omega)
  refine ⟨b, off, e, hb, fun j x hj => ?_⟩
  rw [List.getElem?_take] at hj
  split at hj
  · exact hc j x hj
  · cases hj

/-- Rows in memory: each without room or in a block of ints. -/
def CuI (L : List (List Int)) (vs : List Value) (w : World) : Prop := ∀ (i : Nat) (M : List Int), L[i]? = some M → ∃ A' c', vs[i]? = some (.slice A' M.length c') ∧ M.length ≤ c' ∧ (c' = 0 ∨ ∃ b off xs fr, A' = some ⟨b, off, none⟩ ∧ w.heap[b]? = some (.cells xs 3 fr)) ∧ Ints w A' M
theorem CuI.keep {L : List (List Int)} {vs : List Value} {w w' : World} {row : Option Nat} (h : CuI L vs w) (hg : w.grownBy w' row) (hr : ∀ g, row = some g → ∃ cs t fr, w.heap[g]? = some (.cells cs t fr) ∧ t ≠ 3) : CuI L vs w' := fun i M hM => by
  obtain ⟨A', c', h1, h2, h3, h4⟩ := h i M hM
  rcases h3 with h0 | ⟨b, off, xs, fr, rfl, hb⟩
  · exact ⟨A', c', h1, h2, .inl h0, fun hl => by omega⟩
  · have hne : some b ≠ row := fun e => by
      obtain ⟨cs, t, fr2, hb2, ht⟩ := hr b e.symm
      rw [hb] at hb2
      cases hb2
      exact ht rfl
    exact ⟨_, c', h1, h2, .inr ⟨b, off, xs, fr, rfl, (hg.block b (Array.getElem?_eq_some_iff.1 hb).1 hne).trans hb⟩, h4.grown hg (fun b' off' e => by cases e; exact hne)⟩
theorem CuI.cut {j k c' : Nat} {L : List (List Int)} {vs : List Value} {w : World} {M : List Int} {A' : Option Addr} (h : CuI L vs w) (hl : vs.length = L.length) (hj : j < L.length) (hk : k ≤ M.length) (hc : M.length ≤ c') (ha : c' = 0 ∨ ∃ b off xs fr, A' = some ⟨b, off, none⟩ ∧ w.heap[b]? = some (.cells xs 3 fr)) (hI : Ints w A' M) :
    CuI (L.set j (M.take k)) (vs.set j (.slice A' k c')) w := fun i N hN => by
  rw [List.getElem?_set] at hN
  by_cases e : j = i
  · subst e
    rw [if_pos rfl, if_pos hj] at hN
    cases hN
    have hkl : (M.take k).length = k := by rw [List.length_take]; omega
    rw [hkl]
    refine ⟨A', c', ?_, by omega, ha, ints_takeC hI⟩
    rw [List.getElem?_set, if_pos rfl, if_pos (by omega)]
  · rw [if_neg e] at hN
    obtain ⟨A2, c2, h1, h2, h3, h4⟩ := h i N hN
    refine ⟨A2, c2, ?_, h2, h3, h4⟩
    rw [List.getElem?_set, if_neg e]
    exact h1
theorem CuI.rws {base c : Nat} {A : Option Addr} {L : List (List Int)} {vs : List Value} {w : World} (h : CuI L vs w) (ho : w.ownsRow base 25 1 (.slice A L.length c) L.length vs) : Rws w A L := fun hl => by
  have hcell := fun g => ho.cells (g := g)
  rcases ho.2 with ⟨hv, hn⟩ | ⟨g, cap, cur, hv, _, hg, hnc, _⟩
  · omega
  · cases hv
    refine ⟨g, 0, rfl, (Array.getElem?_eq_some_iff.1 hg).1, fun i M hM => ?_⟩
    obtain ⟨A', c', h1, h2, _, h4⟩ := h i M hM
    refine ⟨A', c', ?_, h2, h4⟩
    have h9 := hcell g rfl i _ h1
    rw [Nat.zero_add]
    by_cases hi0 : i = 0
    · subst hi0; simpa [Addr.add] using h9
    · simpa [Addr.add, hi0] using h9
theorem CuI.of_lrows {w : World} {base : Nat} {R : List (List Int)} {vs : List Value} (h : LRows w base vs R) : CuI R vs w := fun i M hM => by
  have hi : i < vs.length := by have := (List.getElem?_eq_some_iff.1 hM).1; have := h.1; omega
  have hv := List.getElem?_eq_getElem hi
  have h1 := h.2.1 i _ M hv hM
  obtain ⟨A', m, c', e⟩ := own_form h1
  rw [e] at h1 hv
  rcases h1.2 with ⟨h2, hn⟩ | ⟨g, cap, cur, h2, _, hg, hnc, _⟩
  · cases h2
    have hM0 : M.length = 0 := hn
    refine ⟨none, 0, ?_, by omega, .inl rfl, fun hl => by omega⟩
    rw [hM0]
    exact hv
  · cases h2
    exact ⟨_, _, hv, hnc, .inr ⟨g, 0, cur, (0, 0), rfl, hg⟩, Ints.of_own h1⟩
end

/- CutI -/
section
open Go.RowKit Go.Shelf

set_option maxRecDepth 100000 in
set_option maxHeartbeats 4000000 in
theorem cut_impl (s : ByteArray) (A1 : Option Addr) (c1 : Nat) (ns : List Int) (w : World) (hA1 : Ints w A1 ns) (hl1 : ns.length ≤ 1048576) (htab : Lib.TabIs Tryz.prog w "internal/strconv.uint64pow10" .u64 Lib.pow10Tab) : Calls Tryz.prog 10 #[.string s, .slice A1 ns.length c1] w (FUPost (cutX s ns) w) := by
  have HGR := Lib.hid (grid_any s w)
  unfold GridP at HGR
  have hok := okR_rows s
  have hX : cutX s ns = if isArr s 2 = true ∧ cutB (rowsS s) ns = true then rowsX (cutL (rowsS s).length ns (rowsS s)) else none := rfl
  have HX := Lib.hid hX
  generalize cutX s ns = X at HX ⊢
  generalize rowsS s = R at HGR hok HX
  have HA1 := Lib.hid hA1
  have HFR := Lib.hid (fun A c u (hg : w.grownBy u none) (hA : Rws u A (cutL R.length ns R)) => foldrows_any A c (cutL R.length ns R) u hA (okR_cut hok _) ((Lib.tabBelow_of_tabIs htab) u (below_of hg)))
  rw [cutL_len] at HFR
  obtain ⟨n, hn⟩ : ∃ n, R.length = n := ⟨_, rfl⟩
  have HN := Lib.hid hn
  have hn4 : n ≤ 400 := by rw [← hn]; exact hok.1
  have HR4 := Lib.hid (fun M (hM : M ∈ R) => (hok.2 M hM).1)
  rw [hn] at HGR HFR HX
  obtain ⟨m, hm⟩ : ∃ m, ns.length = m := ⟨_, rfl⟩
  have HM := Lib.hid hm
  rw [hm] at hl1 ⊢
  obtain ⟨b, hb⟩ : ∃ b, isArr s 2 = b := ⟨_, rfl⟩
  rw [hb] at HGR HX
  clear hok hX hn hb htab hm hA1
  cases b
  · go_enter Tryz.func10, Tryz.ntmps10
    go_wp2_with fail
    refine HGR.out.mono ?_
    rintro e w1 (⟨_, rfl, hg1⟩ | ⟨h, _⟩)
    · have HG1 := Lib.hid (hg1.trans (World.grownBy_alloc w1 (.cells #[.slice none 0 0, .int .i64 0] 37) none))
      clear hg1
      go_wp2_with fail
      go_ret2
      rw [HX.out, if_neg (fun h => by cases h.1)]
      exact ⟨⟨⟨#[]⟩, rfl, rfl⟩, HG1.out⟩
    · cases h
  · go_enter Tryz.func10, Tryz.ntmps10
    go_wp2_with fail
    refine HGR.out.mono ?_
    rintro e w1 (⟨h, _⟩ | ⟨_, A, c, rfl, hg1, hcg⟩)
    · cases h
    · obtain ⟨vs, ho, hvs⟩ := hcg
      rw [HN.out] at ho
      generalize maxI (lensI R) = wd at *
      have HG1 := Lib.hid (hg1.trans (World.grownBy_alloc w1 (.cells #[.slice A n c, .int .i64 wd] 37) none))
      have HP1 := Lib.hid (Pr.new w1 37 (.slice A n c) (.int .i64 wd))
      have HO1 := Lib.hid (own_keep (w' := w1.alloc (.cells #[.slice A n c, .int .i64 wd] 37)) ho (fun k hk => Below.heap_alloc w1 _ k (ho.lt k hk).2))
      have HV1 : Hid (CuI (cutL 0 ns R) vs (w1.alloc (.cells #[.slice A n c, .int .i64 wd] 37))) := Lib.hid (CuI.keep (w := w1) (fun i M hM => by
        obtain ⟨A', h1, h2, h3⟩ := hvs i M hM
        refine ⟨A', M.length, h1, Nat.le_refl _, ?_, h2⟩
        rcases Nat.eq_zero_or_pos M.length with h0 | hp
        · exact .inl h0
        · exact .inr (h3 hp)) (World.grownBy_alloc w1 _ none) (fun g e => by cases e))
      have HSZ := Lib.hid hg1.size
      clear ho hvs hg1
      by_cases hmn : m = n
      · subst hmn
        go_wp2_with fail
        generalize w1.alloc (.cells #[.slice A m c, .int .i64 wd] 37) = w2 at HG1 HP1 HO1 HV1 ⊢
        go_loopw [8, 9, 27] (fun _ _ i wr => ∃ (j : Nat) (vs : List Value), j ≤ m ∧ i = .int .i64 j ∧ Hid (Pr wr w1.heap.size 37 (.slice A m c) (.int .i64 wd)) ∧ Hid (wr.ownsRow w.heap.size 25 1 (.slice A m c) m vs) ∧ Hid (CuI (cutL j ns R) vs wr) ∧ Hid (w.grownBy wr none) ∧ Hid (∀ (i : Nat) (M : List Int) (x : Int), i < j → R[i]? = some M → ns[i]? = some x → 0 ≤ x ∧ x ≤ (M.length : Int))) (fun _ _ i _ => m - (intOf i).toNat)
        case atStart => exact ⟨0, vs, Nat.zero_le _, rfl, HP1, HO1, HV1, HG1, Lib.hid (fun i M x h => by omega)⟩
        case round =>
          obtain ⟨j, vs, hj, rfl, hp, ho, hv, hgr, hok⟩ := hrel
          by_cases hlt : j < m
          · obtain ⟨M, hM⟩ : ∃ M, R[j]? = some M := ⟨_, List.getElem?_eq_getElem (by have := HN.out; omega)⟩
            obtain ⟨x, hx⟩ : ∃ x, ns[j]? = some x := ⟨_, List.getElem?_eq_getElem (by have := HM.out; omega)⟩
            have hm4 := HR4.out M (List.mem_of_getElem? hM)
            obtain ⟨b1, o1, rfl, _, hc1⟩ := (HA1.out.grown hgr.out (by simp)) (by have := HM.out; omega)
            have hcx := hc1 j x hx
            obtain ⟨A', c', h1, h2, h3, h4⟩ := hv.out j M (by rw [cutL_at _ _ _ _ (Nat.le_refl _)]; exact hM)
            obtain ⟨g, rfl⟩ : ∃ g, A = some ⟨g, 0, none⟩ := by
              rcases ho.out.2 with ⟨hv, hn0⟩ | ⟨g, cap, cur, hv, _⟩
              · omega
              · cases hv; exact ⟨g, rfl⟩
            have hcell : wr.cell? ⟨g, j, none⟩ = some (.slice A' M.length c') := by
              rw [ho.out.cellAt j (by omega), h1]
            have hfr := ho.out.frozenAt j
            have hrow : ∃ cs fr, wr.heap[g]? = some (.cells cs 25 fr) := by
              rcases ho.out.2 with ⟨hv, _⟩ | ⟨g', cap, cur, hv, _, hg, _⟩
              · cases hv
              · cases hv; exact ⟨_, _, hg⟩
            have HROW := Lib.hid hrow
            have p0 := hp.out.c0
            have HMj := Lib.hid hM
            have HXj := Lib.hid hx
            have HH3 := Lib.hid h3
            have HH4 := Lib.hid h4
            have HH2 := Lib.hid h2
            have HGR2 := Lib.hid hgr.out
            have HPP := Lib.hid hp.out
            obtain ⟨y, hy⟩ : ∃ y, M.length = y := ⟨_, rfl⟩
            have HY := Lib.hid hy
            rw [hy] at hcell h2 hm4
            clear hM hx hc1 h1 h4 hrow hy
            by_cases hx0 : x < 0
            · have hno : cutB R ns = false := cutB_no HMj.out HXj.out (by omega)
              have HNO := Lib.hid hno
              clear hno h3
              go_wp2_with fail
              go_ret2
              rw [HX.out, HNO.out, if_neg (fun h => by cases h.2)]
              exact ⟨⟨⟨#[]⟩, rfl, rfl⟩, HGR2.out⟩
            obtain ⟨k, rfl⟩ : ∃ k : Nat, x = (k : Int) := ⟨x.toNat, by omega⟩
            by_cases hky : y < k
            · have hno : cutB R ns = false := cutB_no HMj.out HXj.out (by have := HY.out; omega)
              have HNO := Lib.hid hno
              clear hno h3
              go_wp2_with fail
              go_ret2
              rw [HX.out, HNO.out, if_neg (fun h => by cases h.2)]
              exact ⟨⟨⟨#[]⟩, rfl, rfl⟩, HGR2.out⟩
            have hkc : k ≤ c' := by omega
            have HST := Lib.hid (ho.out.stored j (.slice A' k c'))
            have HV9 := Lib.hid (CuI.cut (k := k) hv.out (by rw [cutL_len, HN.out]; have := ho.out.1; omega) (by rw [cutL_len, HN.out]; exact hlt) (by have := HY.out; omega) HH2.out HH3.out HH4.out)
            rcases h3 with h30 | ⟨b3, o3, xs3, fr3, rfl, h3b⟩
            · obtain rfl := h30
              obtain rfl : y = 0 := by omega
              obtain rfl : k = 0 := by omega
              go_wp2_with fail
              go_region
              all_goals
                go_wp2_with fail
                go_roundw
                case rel => (
                  have hgs := HST.out.2.trans (gr_drewN _ 1 (some g))
                  have hne : w1.heap.size ≠ g := fun e => by
                    obtain ⟨cs, fr, h⟩ := HROW.out
                    have h9 := HPP.out
                    unfold Pr at h9
                    rw [e, h] at h9
                    simp at h9
                  refine ⟨j + 1, _, by omega, by go_num, Lib.hid (HPP.out.grown hgs (by simpa [Value.ownBlock] using hne)), Lib.hid HST.out.1, Lib.hid ?_, Lib.hid (gr_ownF HGR2.out hgs (fun k hk => (ho.out.lt k hk).1)), Lib.hid (fun i M x hi hM hx => ?_)⟩
                  · rw [cutL_step HMj.out HXj.out]
                    exact HV9.out.keep hgs (fun g0 e => by
                      simp at e
                      subst e
                      obtain ⟨cs, fr, h⟩ := HROW.out
                      exact ⟨cs, _, fr, h, by decide⟩)
                  · by_cases hij : i = j
                    · subst hij
                      have e1 := HMj.out
                      have e2 := HXj.out
                      rw [hM] at e1
                      rw [hx] at e2
                      cases e1
                      cases e2
                      have := HY.out
                      omega
                    · exact hok.out i M x (by omega) hM hx)
                case measure => simp [intOf]; omega
            · clear h3b
              have hc0 : ¬ c' = 0 ∨ c' = 0 := by omega
              rcases hc0 with hc0 | hc0
              · go_wp2_with fail
                go_region
                all_goals
                  go_wp2_with fail
                  go_roundw
                  case rel => (
                  have hgs := HST.out.2.trans (gr_drewN _ 1 (some g))
                  have hne : w1.heap.size ≠ g := fun e => by
                    obtain ⟨cs, fr, h⟩ := HROW.out
                    have h9 := HPP.out
                    unfold Pr at h9
                    rw [e, h] at h9
                    simp at h9
                  refine ⟨j + 1, _, by omega, by go_num, Lib.hid (HPP.out.grown hgs (by simpa [Value.ownBlock] using hne)), Lib.hid HST.out.1, Lib.hid ?_, Lib.hid (gr_ownF HGR2.out hgs (fun k hk => (ho.out.lt k hk).1)), Lib.hid (fun i M x hi hM hx => ?_)⟩
                  · rw [cutL_step HMj.out HXj.out]
                    exact HV9.out.keep hgs (fun g0 e => by
                      simp at e
                      subst e
                      obtain ⟨cs, fr, h⟩ := HROW.out
                      exact ⟨cs, _, fr, h, by decide⟩)
                  · by_cases hij : i = j
                    · subst hij
                      have e1 := HMj.out
                      have e2 := HXj.out
                      rw [hM] at e1
                      rw [hx] at e2
                      cases e1
                      cases e2
                      have := HY.out
                      omega
                    · exact hok.out i M x (by omega) hM hx)
                  case measure => simp [intOf]; omega
              · obtain rfl := hc0
                obtain rfl : y = 0 := by omega
                obtain rfl : k = 0 := by omega
                go_wp2_with fail
                go_region
                all_goals
                  go_wp2_with fail
                  go_roundw
                  case rel => (
                  have hgs := HST.out.2.trans (gr_drewN _ 1 (some g))
                  have hne : w1.heap.size ≠ g := fun e => by
                    obtain ⟨cs, fr, h⟩ := HROW.out
                    have h9 := HPP.out
                    unfold Pr at h9
                    rw [e, h] at h9
                    simp at h9
                  refine ⟨j + 1, _, by omega, by go_num, Lib.hid (HPP.out.grown hgs (by simpa [Value.ownBlock] using hne)), Lib.hid HST.out.1, Lib.hid ?_, Lib.hid (gr_ownF HGR2.out hgs (fun k hk => (ho.out.lt k hk).1)), Lib.hid (fun i M x hi hM hx => ?_)⟩
                  · rw [cutL_step HMj.out HXj.out]
                    exact HV9.out.keep hgs (fun g0 e => by
                      simp at e
                      subst e
                      obtain ⟨cs, fr, h⟩ := HROW.out
                      exact ⟨cs, _, fr, h, by decide⟩)
                  · by_cases hij : i = j
                    · subst hij
                      have e1 := HMj.out
                      have e2 := HXj.out
                      rw [hM] at e1
                      rw [hx] at e2
                      cases e1
                      cases e2
                      have := HY.out
                      omega
                    · exact hok.out i M x (by omega) hM hx)
                  case measure => simp [intOf]; omega
          · have hjn : j = m := by omega
            subst hjn
            have hrw : Rws wr A (cutL j ns R) := CuI.rws (c := c) hv.out (by rw [cutL_len, HN.out]; exact ho.out)
            have HC := Lib.hid (HFR.out A c wr hgr.out hrw)
            have HG := Lib.hid hgr.out
            have HYES := Lib.hid (cutB_yes (by rw [HM.out, HN.out]) (fun i M x hi => by rw [HN.out] at hi; exact hok.out i M x hi))
            have p0 := hp.out.c0
            obtain ⟨b, hb⟩ : ∃ b, (rowsX (cutL j ns R)).isSome = b := ⟨_, rfl⟩
            have HB := Lib.hid hb
            unfold FUPost at HC
            rw [hb] at HC
            clear hrw hb
            go_wp2_with fail
            refine HC.out.mono ?_
            rintro e w3 ⟨⟨u, rfl, hu⟩, hg3⟩
            have HG3 := Lib.hid (HG.out.trans hg3)
            have HU := Lib.hid hu
            clear hg3 hu
            go_wp2_with fail
            go_ret2
            rw [HX.out, if_pos ⟨trivial, HYES.out⟩]
            exact ⟨⟨u, by rw [HB.out]; rfl, HU.out⟩, HG3.out⟩
      · have hno : cutB R ns = false := by rw [cutB, HM.out, HN.out, decide_eq_false hmn]; rfl
        have HNO := Lib.hid hno
        have hmi : ¬ (m : Int) = (n : Int) := by omega
        have hbn : ((m : Int) != (n : Int)) = true := by rw [bne_iff_ne]; omega
        clear hno
        go_wp2_with fail
        go_ret2
        rw [HX.out, HNO.out, if_neg (fun h => by cases h.2)]
        exact ⟨⟨⟨#[]⟩, rfl, rfl⟩, HG1.out⟩
end

/- CutS -/
section
open Go.RowKit Go.Shelf

set_option maxRecDepth 100000 in
set_option maxHeartbeats 4000000 in
theorem cut_spec (s : ByteArray) (A1 : Option Addr) (c1 : Nat) (ns : List Int) (w : World) (hA1 : Ints w A1 ns) (hl1 : ns.length ≤ 1048576) : Calls Tryz.prog 8 #[.string s, .slice A1 ns.length c1] w (FUPost (cutX s ns) w) := by
  have HGR := Lib.hid (any_spec s w)
  unfold AnyP at HGR
  have hok := okR_rows s
  have hX : cutX s ns = if isArr s 2 = true ∧ cutB (rowsS s) ns = true then rowsX (cutL (rowsS s).length ns (rowsS s)) else none := rfl
  have HX := Lib.hid hX
  generalize cutX s ns = X at HX ⊢
  generalize rowsS s = R at HGR hok HX
  have HA1 := Lib.hid hA1
  have HFR := Lib.hid (fun A c u (hA : Rws u A (cutL R.length ns R)) => text_spec A c (cutL R.length ns R) u hA (okR_cut hok _))
  rw [cutL_len] at HFR
  obtain ⟨n, hn⟩ : ∃ n, R.length = n := ⟨_, rfl⟩
  have HN := Lib.hid hn
  have hn4 : n ≤ 400 := by rw [← hn]; exact hok.1
  have HR4 := Lib.hid (fun M (hM : M ∈ R) => (hok.2 M hM).1)
  rw [hn] at HGR HFR HX
  obtain ⟨m, hm⟩ : ∃ m, ns.length = m := ⟨_, rfl⟩
  have HM := Lib.hid hm
  rw [hm] at hl1 ⊢
  obtain ⟨b, hb⟩ : ∃ b, isArr s 2 = b := ⟨_, rfl⟩
  rw [hb] at HGR HX
  clear hok hX hn hb  hm hA1
  cases b
  · go_enter Tryz.func8, Tryz.ntmps8
    go_wp2_with fail
    refine HGR.out.mono ?_
    rintro e w1 ⟨A, c, vs, rfl, hg1, _⟩
    have HG1 := Lib.hid hg1
    clear hg1
    go_wp2_with fail
    go_ret2
    rw [HX.out, if_neg (fun h => by cases h.1)]
    exact ⟨⟨⟨#[]⟩, rfl, rfl⟩, HG1.out⟩
  · go_enter Tryz.func8, Tryz.ntmps8
    go_wp2_with fail
    refine HGR.out.mono ?_
    rintro e w1 ⟨A, c, vs, rfl, hg1, ho, hlr⟩
    have HG1 := Lib.hid hg1
    have HO1 := Lib.hid ho
    have HV1 : Hid (CuI (cutL 0 ns R) vs w1) := Lib.hid (CuI.of_lrows hlr)
    clear ho hlr hg1
    by_cases hmn : m = n
    · subst hmn
      go_wp2_with fail
      go_loopw [8, 9, 26] (fun _ _ i wr => ∃ (j : Nat) (vs : List Value), j ≤ m ∧ i = .int .i64 j ∧ Hid (wr.ownsRow w.heap.size 25 1 (.slice A m c) m vs) ∧ Hid (CuI (cutL j ns R) vs wr) ∧ Hid (w.grownBy wr none) ∧ Hid (∀ (i : Nat) (M : List Int) (x : Int), i < j → R[i]? = some M → ns[i]? = some x → 0 ≤ x ∧ x ≤ (M.length : Int))) (fun _ _ i _ => m - (intOf i).toNat)
      case atStart => exact ⟨0, vs, Nat.zero_le _, rfl, HO1, HV1, HG1, Lib.hid (fun i M x h => by omega)⟩
      case round =>
        obtain ⟨j, vs, hj, rfl, ho, hv, hgr, hok⟩ := hrel
        by_cases hlt : j < m
        · obtain ⟨M, hM⟩ : ∃ M, R[j]? = some M := ⟨_, List.getElem?_eq_getElem (by have := HN.out; omega)⟩
          obtain ⟨x, hx⟩ : ∃ x, ns[j]? = some x := ⟨_, List.getElem?_eq_getElem (by have := HM.out; omega)⟩
          have hm4 := HR4.out M (List.mem_of_getElem? hM)
          obtain ⟨b1, o1, rfl, _, hc1⟩ := (HA1.out.grown hgr.out (by simp)) (by have := HM.out; omega)
          have hcx := hc1 j x hx
          obtain ⟨A', c', h1, h2, h3, h4⟩ := hv.out j M (by rw [cutL_at _ _ _ _ (Nat.le_refl _)]; exact hM)
          obtain ⟨g, rfl⟩ : ∃ g, A = some ⟨g, 0, none⟩ := by
            rcases ho.out.2 with ⟨hv, hn0⟩ | ⟨g, cap, cur, hv, _⟩
            · omega
            · cases hv; exact ⟨g, rfl⟩
          have hcell : wr.cell? ⟨g, j, none⟩ = some (.slice A' M.length c') := by
            rw [ho.out.cellAt j (by omega), h1]
          have hfr := ho.out.frozenAt j
          have hrow : ∃ cs fr, wr.heap[g]? = some (.cells cs 25 fr) := by
            rcases ho.out.2 with ⟨hv, _⟩ | ⟨g', cap, cur, hv, _, hg, _⟩
            · cases hv
            · cases hv; exact ⟨_, _, hg⟩
          have HROW := Lib.hid hrow
          have HMj := Lib.hid hM
          have HXj := Lib.hid hx
          have HH3 := Lib.hid h3
          have HH4 := Lib.hid h4
          have HH2 := Lib.hid h2
          have HGR2 := Lib.hid hgr.out
          obtain ⟨y, hy⟩ : ∃ y, M.length = y := ⟨_, rfl⟩
          have HY := Lib.hid hy
          rw [hy] at hcell h2 hm4
          clear hM hx hc1 h1 h4 hrow hy
          by_cases hin : 0 ≤ x ∧ x ≤ (y : Int)
          · have HIN := Lib.hid (fun u => in_any x 0 (y : Int) true (decide_eq_true hin) u)
            obtain ⟨k, rfl⟩ : ∃ k : Nat, x = (k : Int) := ⟨x.toNat, by omega⟩
            have hky : k ≤ y := by omega
            have hkc : k ≤ c' := by omega
            have HST := Lib.hid (ho.out.stored j (.slice A' k c'))
            have HV9 := Lib.hid (CuI.cut (k := k) hv.out (by rw [cutL_len, HN.out]; have := ho.out.1; omega) (by rw [cutL_len, HN.out]; exact hlt) (by have := HY.out; omega) HH2.out HH3.out HH4.out)
            clear hin
            rcases h3 with h30 | ⟨b3, o3, xs3, fr3, rfl, h3b⟩
            · obtain rfl := h30
              obtain rfl : y = 0 := by omega
              obtain rfl : k = 0 := by omega
              (
                go_wp2_with fail
                refine (HIN.out _).mono ?_
                rintro e w3 ⟨rfl, rfl⟩
                go_wp2_with fail
                all_goals
                  go_wp2_with fail
                  go_roundw
                  case rel => (
                  have hgs := HST.out.2
                  refine ⟨j + 1, _, by omega, by go_num, Lib.hid HST.out.1, Lib.hid ?_, Lib.hid (gr_ownF HGR2.out hgs (fun k hk => (ho.out.lt k hk).1)), Lib.hid (fun i M x hi hM hx => ?_)⟩
                  · rw [cutL_step HMj.out HXj.out]
                    exact HV9.out.keep hgs (fun g0 e => by
                      simp at e
                      subst e
                      obtain ⟨cs, fr, h⟩ := HROW.out
                      exact ⟨cs, _, fr, h, by decide⟩)
                  · by_cases hij : i = j
                    · subst hij
                      have e1 := HMj.out
                      have e2 := HXj.out
                      rw [hM] at e1
                      rw [hx] at e2
                      cases e1
                      cases e2
                      have := HY.out
                      omega
                    · exact hok.out i M x (by omega) hM hx)
                  case measure => simp [intOf]; omega)
            · clear h3b
              have hc0 : ¬ c' = 0 ∨ c' = 0 := by omega
              rcases hc0 with hc0 | hc0
              · (
                go_wp2_with fail
                refine (HIN.out _).mono ?_
                rintro e w3 ⟨rfl, rfl⟩
                go_wp2_with fail
                all_goals
                  go_wp2_with fail
                  go_roundw
                  case rel => (
                  have hgs := HST.out.2
                  refine ⟨j + 1, _, by omega, by go_num, Lib.hid HST.out.1, Lib.hid ?_, Lib.hid (gr_ownF HGR2.out hgs (fun k hk => (ho.out.lt k hk).1)), Lib.hid (fun i M x hi hM hx => ?_)⟩
                  · rw [cutL_step HMj.out HXj.out]
                    exact HV9.out.keep hgs (fun g0 e => by
                      simp at e
                      subst e
                      obtain ⟨cs, fr, h⟩ := HROW.out
                      exact ⟨cs, _, fr, h, by decide⟩)
                  · by_cases hij : i = j
                    · subst hij
                      have e1 := HMj.out
                      have e2 := HXj.out
                      rw [hM] at e1
                      rw [hx] at e2
                      cases e1
                      cases e2
                      have := HY.out
                      omega
                    · exact hok.out i M x (by omega) hM hx)
                  case measure => simp [intOf]; omega)
              · obtain rfl := hc0
                obtain rfl : y = 0 := by omega
                obtain rfl : k = 0 := by omega
                (
                go_wp2_with fail
                refine (HIN.out _).mono ?_
                rintro e w3 ⟨rfl, rfl⟩
                go_wp2_with fail
                all_goals
                  go_wp2_with fail
                  go_roundw
                  case rel => (
                  have hgs := HST.out.2
                  refine ⟨j + 1, _, by omega, by go_num, Lib.hid HST.out.1, Lib.hid ?_, Lib.hid (gr_ownF HGR2.out hgs (fun k hk => (ho.out.lt k hk).1)), Lib.hid (fun i M x hi hM hx => ?_)⟩
                  · rw [cutL_step HMj.out HXj.out]
                    exact HV9.out.keep hgs (fun g0 e => by
                      simp at e
                      subst e
                      obtain ⟨cs, fr, h⟩ := HROW.out
                      exact ⟨cs, _, fr, h, by decide⟩)
                  · by_cases hij : i = j
                    · subst hij
                      have e1 := HMj.out
                      have e2 := HXj.out
                      rw [hM] at e1
                      rw [hx] at e2
                      cases e1
                      cases e2
                      have := HY.out
                      omega
                    · exact hok.out i M x (by omega) hM hx)
                  case measure => simp [intOf]; omega)
          · have HIN := Lib.hid (fun u => in_any x 0 (y : Int) false (decide_eq_false hin) u)
            have hno : cutB R ns = false := cutB_no HMj.out HXj.out (by rw [HY.out]; exact hin)
            have HNO := Lib.hid hno
            clear hno h3 hin
            go_wp2_with fail
            refine (HIN.out _).mono ?_
            rintro e w3 ⟨rfl, rfl⟩
            go_wp2_with fail
            go_ret2
            rw [HX.out, HNO.out, if_neg (fun h => by cases h.2)]
            exact ⟨⟨⟨#[]⟩, rfl, rfl⟩, HGR2.out⟩
        · have hjn : j = m := by omega
          subst hjn
          have hrw : Rws wr A (cutL j ns R) := CuI.rws (c := c) hv.out (by rw [cutL_len, HN.out]; exact ho.out)
          have HC := Lib.hid (HFR.out A c wr hrw)
          have HG := Lib.hid hgr.out
          have HYES := Lib.hid (cutB_yes (by rw [HM.out, HN.out]) (fun i M x hi => by rw [HN.out] at hi; exact hok.out i M x hi))
          obtain ⟨b, hb⟩ : ∃ b, (rowsX (cutL j ns R)).isSome = b := ⟨_, rfl⟩
          have HB := Lib.hid hb
          unfold FUPost at HC
          rw [hb] at HC
          clear hrw hb
          go_wp2_with fail
          refine HC.out.mono ?_
          rintro e w3 ⟨⟨u, rfl, hu⟩, hg3⟩
          have HG3 := Lib.hid (HG.out.trans hg3)
          have HU := Lib.hid hu
          clear hg3 hu
          go_wp2_with fail
          go_ret2
          rw [HX.out, if_pos ⟨trivial, HYES.out⟩]
          exact ⟨⟨u, by rw [HB.out]; rfl, HU.out⟩, HG3.out⟩
    · have hno : cutB R ns = false := by rw [cutB, HM.out, HN.out, decide_eq_false hmn]; rfl
      have HNO := Lib.hid hno
      have hmi : ¬ (m : Int) = (n : Int) := by omega
      have hbn : ((m : Int) != (n : Int)) = true := by rw [bne_iff_ne]; omega
      clear hno
      go_wp2_with fail
      go_ret2
      rw [HX.out, HNO.out, if_neg (fun h => by cases h.2)]
      exact ⟨⟨⟨#[]⟩, rfl, rfl⟩, HG1.out⟩
end

end Go.Proofs.YtachjodnhgmoiaaGreatDoor

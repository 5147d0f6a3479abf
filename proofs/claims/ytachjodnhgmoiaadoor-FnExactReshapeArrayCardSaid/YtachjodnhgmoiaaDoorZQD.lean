/- 8 texts in one: Texts FoldV Nstr FoldP SNums FillI FillF SFilF. -/
import Derived.Test.YtachjodnhgmoiaaDoorGrB
import Derived.Test.YtachjodnhgmoiaaDoorShelfB
import Derived.Lib.AppendIntMem
import Derived.Test.YtachjodnhgmoiaaDoorLytArg
import Derived.Test.YtachjodnhgmoiaaDoorZQB
import Derived.Test.YtachjodnhgmoiaaDoorZQC
import Derived.Test.YtachjodnhgmoiaaDoorRngA
import Derived.Test.YtachjodnhgmoiaaDoorIterL
import Derived.Test.YtachjodnhgmoiaaDoorPr
import Derived.Test.YtachjodnhgmoiaaDoorRgnV
import Derived.Test.YtachjodnhgmoiaaDoorFam
import Derived.Test.YtachjodnhgmoiaaDoorIsDat1
namespace Go.Proofs.YtachjodnhgmoiaaDoor
/- Texts -/
section
open Go.RowKit

/-- A number's text. -/
def nstr (z : Int) : ByteArray := ⟨(Lib.itoa z).toArray⟩

theorem infoStr : (Tryd.prog.info? 9).map (fun i => (i.zero, i.size, i.bytes)) = some (some (.string ⟨#[]⟩), 1, 16) := by kernel_rfl

set_option maxRecDepth 100000 in
set_option maxHeartbeats 400000 in
theorem texts_any (A : Option Addr) (c : Nat) (zs : List Int) (w : World) (h : Ints w A zs) (hwf : Wf zs) (hn : zs.length ≤ 1048576) (htab : Lib.TabIs Tryd.prog w "internal/strconv.uint64pow10" .u64 Lib.pow10Tab) :
    Calls Tryd.prog 91 #[.agg #[.slice A zs.length c]] w fun e w' => ∃ g, e = .returned (.slice (some ⟨g, 0, none⟩) zs.length zs.length) ∧ w.grownBy w' none ∧
      w'.ownsRow w.heap.size 9 1 (.slice (some ⟨g, 0, none⟩) zs.length zs.length) zs.length (zs.map (fun z => Value.string (nstr z))) := by
  obtain ⟨i0, hi0, hz0, hz1, hz2⟩ := info_parts infoStr
  have HS := Lib.hid h
  have HWF := Lib.hid hwf
  have HT := Lib.hid (Lib.tabBelow_of_tabIs htab)
  obtain ⟨n, hnn⟩ : ∃ n, zs.length = n := ⟨_, rfl⟩
  have HN := Lib.hid hnn
  rw [hnn] at hn ⊢
  clear h hnn hwf htab
  have hmk : ∀ u : World, (Instr.makeSlice 37 (.int .i64 (n : Int)) (.int .i64 (n : Int))).run Tryd.prog u =
      .ok (.slice (some ⟨u.heap.size, 0, none⟩) n n) (u.alloc (.cells (madeCells #[.string ⟨#[]⟩] n) 9)) := fun u => by
    have h := run_make (P := Tryd.prog) u 37 9 i0 (.string ⟨#[]⟩) Tryd.underlying37 hi0 hz0 .i64 .i64 (n : Int) (n : Int) (by omega) (Int.le_refl _) (by rw [hz2]; omega) (by omega)
    simpa [hz1, Value.cells] using h
  go_enter Tryd.func91, Tryd.ntmps91
  go_wp2_with fail
  clear hmk hi0 hz0 hz1 hz2
  have hs1 : (w.alloc (.cells #[.slice A n c] 80)).heap.size = w.heap.size + 1 := by simp
  have ho1 := World.ownsRow_lit (base := w.heap.size) (e := 9) (size := 1) (w.alloc (.cells #[.slice A n c] 80)) (madeCells #[.string ⟨#[]⟩] n) n (by omega) (by simp only [maxLen]; omega) (by simp [madeCells])
  have hg1 : w.grownBy ((w.alloc (.cells #[.slice A n c] 80)).alloc (.cells (madeCells #[.string ⟨#[]⟩] n) 9)) none := (World.grownBy_alloc _ _ _).trans (World.grownBy_alloc _ _ _)
  rw [hs1] at ho1
  have HO := Lib.hid ho1
  have HG := Lib.hid hg1
  generalize (w.alloc (.cells #[.slice A n c] 80)).alloc (.cells (madeCells #[.string ⟨#[]⟩] n) 9) = u0 at HO HG ⊢
  clear ho1 hg1 hs1
  go_loopw [13] (fun i wr => ∃ (j : Nat) (ys : List Value), j ≤ n ∧ i = .int .i64 j ∧ Hid (wr.ownsRow w.heap.size 9 1 (.slice (some ⟨w.heap.size + 1, 0, none⟩) n n) n ys) ∧ Hid (∀ i, i < j → ys[i]? = (zs.map (fun z => Value.string (nstr z)))[i]?) ∧ Hid (w.grownBy wr none)) (fun i _ => n - (intOf i).toNat)
  case atStart => exact ⟨0, _, Nat.zero_le _, rfl, HO, Lib.hid (fun i hi => by omega), HG⟩
  case round =>
    obtain ⟨j, ys, hj, rfl, ho, hys, hgr⟩ := hrel
    by_cases hlt : j < n
    · obtain ⟨z, hz⟩ : ∃ z, zs[j]? = some z := ⟨_, List.getElem?_eq_getElem (by have := HN.out; omega)⟩
      obtain ⟨b, off, rfl, hb, hc⟩ := (HS.out.grown hgr.out (by simp)) (by have := HN.out; omega)
      have hcell := hc j z hz
      have hzw := HWF.out z (List.mem_of_getElem? hz)
      have HAI := Lib.hid (Tryd.strconv_Itoa z hzw.1 hzw.2 wr (HT.out wr (below_of hgr.out)))
      have HZ := Lib.hid hz
      clear hc hz hb
      go_wp2_with fail
      refine HAI.out.mono ?_
      rintro e w1 ⟨rfl, k1, os1, hw1⟩
      have hgk : wr.grownBy w1 none := by
        rw [hw1]
        exact gr_belowB (Lib.below_grow wr.heap.size wr (Nat.le_refl _) k1 os1) (Nat.le_refl _)
      clear hw1
      have ho1 := ho.out.kept hgk (.inr (by simp [Value.ownBlock]))
      have hyl : ys.length = n := by have := ho1.1; omega
      have hcell2 : w1.cell? ⟨w.heap.size + 1, j, none⟩ = some ys[j] := (ho1.cellAt j (by omega)).trans (List.getElem?_eq_getElem (by omega))
      have hfr := ho1.frozenAt j
      generalize ys[j] = y0 at hcell2
      have HYL := Lib.hid hyl
      have HST := Lib.hid (ho1.stored j (.string ⟨(Lib.itoa z).toArray⟩))
      have HG1 := Lib.hid (hgr.out.trans hgk)
      clear ho1 hyl hgk
      go_wp2_with fail
      go_roundw
      case rel =>
        refine ⟨j + 1, ys.set j (.string ⟨(Lib.itoa z).toArray⟩), by omega, by go_num, Lib.hid HST.out.1, Lib.hid (fun i hi => ?_), Lib.hid (gr_ownF HG1.out HST.out.2 (fun k hk => by cases hk; omega))⟩
        rw [List.getElem?_set]
        by_cases e : j = i
        · subst e
          rw [if_pos rfl, if_pos (by have := HYL.out; omega), List.getElem?_map, HZ.out]
          rfl
        · rw [if_neg e]
          exact hys.out i (by omega)
      case measure => simp [intOf]; omega
    · have hjn : j = n := by omega
      have HJ := Lib.hid hjn
      clear hjn
      go_wp2_with fail
      go_ret
      refine ⟨_, rfl, hgr.out, ?_⟩
      have e : ys = zs.map (fun z => Value.string (nstr z)) := by
        refine List.ext_getElem? fun i => ?_
        have hyl : ys.length = n := by have := ho.out.1; omega
        have := HN.out
        rcases Nat.lt_or_ge i n with h | h
        · exact hys.out i (by rw [HJ.out]; exact h)
        · rw [List.getElem?_eq_none (by omega), List.getElem?_eq_none (by rw [List.length_map]; omega)]
      rw [← e]
      exact ho.out
end

/- FoldV -/
section

theorem cutBy_mem {α : Type} : ∀ (l : List Int) (xs p : List α), p ∈ cutBy l xs → ∀ x ∈ p, x ∈ xs
  | [], _, _, h, _, _ => by simp [cutBy] at h
  | z :: l, xs, p, h, x, hx => by
    rw [cutBy, List.mem_cons] at h
    rcases h with rfl | h
    · exact List.mem_of_mem_take hx
    · exact List.mem_of_mem_drop (cutBy_mem l _ p h x hx)
theorem okT_fold : ∀ (d c : Nat) (LL : List (List Int)) (D : List Int), LL.length = d → Fits c LL D → ∀ t ∈ foldN d LL D, okT d t
  | 0, c, LL, D, h, hf, t, ht => by
    obtain rfl := List.eq_nil_of_length_eq_zero h
    have ht' : (show Nat from t) ∈ (D.map Int.toNat : List Nat) := ht
    obtain ⟨z, hz, e⟩ := List.mem_map.1 ht'
    obtain ⟨j, hj⟩ := List.getElem?_of_mem hz
    have := okN_at hj hf.2
    show (show Nat from t) < 10007
    rw [← e]
    omega
  | d + 1, c, [], D, h, _, t, ht => by simp at h
  | d + 1, c, L :: LL, D, h, hf, t, ht => fun x hx => okT_fold d _ LL D (by simpa using h) hf.2.2 x (cutBy_mem L _ t ht x hx)

/-- These strings are the texts of these arrays. -/
def Tx (d : Nat) (ss : List ByteArray) (ts : List (T d)) : Prop := ss.map (·.data.toList) = ts.map (text d)
theorem tx_tail {d : Nat} : ∀ {ss : List ByteArray} {ts : List (T d)}, Tx d ss ts → Lib.joinTail [44] (ss.map (·.data.toList)) = ts.flatMap (fun x => 44 :: text d x) ∧ tot ss = txs d ts ∧ ss.length = ts.length
  | [], [], _ => ⟨rfl, rfl, rfl⟩
  | [], t :: ts, h => by simp [Tx] at h
  | s :: ss, [], h => by simp [Tx] at h
  | s :: ss, t :: ts, h => by
    simp only [Tx, List.map_cons, List.cons.injEq] at h
    obtain ⟨h1, h2, h3⟩ := tx_tail (d := d) (ss := ss) (ts := ts) h.2
    have hs : s.data.toList.length = s.size := by rw [Array.length_toList]; rfl
    refine ⟨?_, ?_, ?_⟩
    · simp only [Lib.joinTail, List.map_cons, List.flatten_cons] at h1 ⊢
      rw [h1, h.1]
      rfl
    · simp only [tot, txs]
      rw [h2, ← h.1, hs]
    · simp [h3]
theorem tx_text {d : Nat} {ss : List ByteArray} {ts : List (T d)} (h : Tx d ss ts) : mkText ss = text (d + 1) ts := by
  have e : text (d + 1) ts = 91 :: (lst d ts ++ [93]) := text_succ d ts
  rw [e, mkText]
  congr 2
  cases ss with
  | nil =>
    cases ts with
    | nil => rfl
    | cons t ts => simp [Tx] at h
  | cons s ss =>
    cases ts with
    | nil => simp [Tx] at h
    | cons t ts =>
      simp only [Tx, List.map_cons, List.cons.injEq] at h
      rw [List.map_cons, Lib.join_cons, (tx_tail (d := d) (ss := ss) (ts := ts) h.2).1, h.1]
      rfl
theorem mkText_length (ss : List ByteArray) : (mkText ss).length = 2 + (ss.length - 1) + tot ss := by
  rw [mkText, List.length_cons, List.length_append, join_len]
  simp
  omega
theorem tx_mem {d : Nat} {ss : List ByteArray} {ts : List (T d)} (h : Tx d ss ts) {s : ByteArray} (hs : s ∈ ss) : ∃ t ∈ ts, s.data.toList = text d t := by
  have h1 : s.data.toList ∈ ss.map (·.data.toList) := List.mem_map.2 ⟨s, hs, rfl⟩
  rw [h] at h1
  obtain ⟨t, ht, e⟩ := List.mem_map.1 h1
  exact ⟨t, ht, e.symm⟩
/-- What MakeArray answers: exactly if the text is not too long. -/
theorem mk_level {d : Nat} {ss : List ByteArray} {ts : List (T d)} (h : Tx d ss ts) (hk : ∀ t ∈ ts, okT d t) (hd : d + 1 ≤ 3) : mkOk ss ((d : Int) + 1) = decide ((text (d + 1) ts).length ≤ 400) := by
  have hl : (text (d + 1) ts).length = 2 + (ss.length - 1) + tot ss := by rw [← tx_text h, mkText_length]
  by_cases h4 : (text (d + 1) ts).length ≤ 400
  · rw [decide_eq_true h4]
    refine mk_all ⟨by omega, by omega⟩ (fun s hs => ?_) (by omega)
    obtain ⟨t, ht, e⟩ := tx_mem h hs
    have hlt : s.size ≤ tot ss := by
      obtain ⟨j, hj⟩ := List.getElem?_of_mem hs
      have h1 := tot_step hj
      have h2 := tot_take_le ss (j + 1)
      omega
    have hs2 : (text d t).length = s.size := by rw [← e, Array.length_toList]; rfl
    have := isArr_text e (hk t ht) (by omega) (by omega)
    rwa [show (d : Int) + 1 - 1 = (d : Int) from by omega]
  · rw [decide_eq_false h4]
    exact mk_long (by omega)

/-- The texts of a level are no longer than those of the level above. -/
theorem txs_up {d c : Nat} {L : List Int} {LL : List (List Int)} {D : List Int} (h : LL.length = d) (hf : Fits c (L :: LL) D) : txs d (foldN d LL D) ≤ txs (d + 1) (foldN (d + 1) (L :: LL) D) := by
  have h1 := foldN_len d _ LL D h hf.2.2
  have h2 := cutBy_flat L (foldN d LL D) hf.2.1 h1
  have h3 := flatMap_txs d (foldN (d + 1) (L :: LL) D)
  have e : (foldN (d + 1) (L :: LL) D).flatMap prt = foldN d LL D := by
    have : (foldN (d + 1) (L :: LL) D).flatMap prt = (cutBy L (foldN d LL D)).flatten := by
      show (cutBy L (foldN d LL D)).flatMap (fun t => t) = _
      simp [List.flatMap]
    rw [this, h2]
  rwa [e] at h3
end

/- Nstr -/
section
open Go.RowKit

theorem decDigits_dec : ∀ (u : Nat), Lib.decDigits u = dec u := by
  intro u
  induction u using Nat.strongRecOn with
  | _ u ih =>
    rcases Nat.lt_or_ge 9 u with h | h
    · rw [dec_high h, ← ih (u / 10) (by omega), Lib.decDigits, dif_neg (by omega)]
    · rw [dec_low h, Lib.decDigits, dif_pos (by omega)]
theorem nstr_dec {z : Int} (h : 0 ≤ z) : (nstr z).data.toList = dec z.toNat := by
  unfold nstr
  simp only
  rw [Lib.itoa, if_neg (by omega), decDigits_dec]
theorem tx_nums : ∀ {D : List Int}, okN 10006 D = true → Tx 0 (D.map nstr) (show List (T 0) from (D.map Int.toNat : List Nat))
  | [], _ => rfl
  | z :: D, h => by
    simp only [okN, Bool.and_eq_true, decide_eq_true_eq] at h
    have h2 : (D.map nstr).map (·.data.toList) = (D.map Int.toNat : List Nat).map dec := tx_nums (D := D) h.2
    show (nstr z).data.toList :: (D.map nstr).map (·.data.toList) = dec z.toNat :: (D.map Int.toNat : List Nat).map dec
    rw [nstr_dec (by omega), h2]
end

/- FoldP -/
section
open Go.RowKit Go.Shelf

theorem fits_num : ∀ (LL : List (List Int)) (c : Nat) (D : List Int), Fits c LL D → okN 10006 D = true
  | [], _, _, h => h.2
  | _ :: LL, _, D, h => fits_num LL _ D h.2.2
theorem wf_num {D : List Int} (h : okN 10006 D = true) : Wf D := fun z hz => by
  obtain ⟨j, hj⟩ := List.getElem?_of_mem hz
  have := okN_at hj h
  omega
theorem rws_vals {w : World} {A : Option Addr} {LL : List (List Int)} (h : Rws w A LL) : ∃ vs : List Value, vs.length = LL.length ∧ (∀ (X : Nat → TypeId → Prop) (W : World), (∀ k t, X k t → w.heap.size ≤ k) → w.grownBy W none → SlsL X W A vs) ∧
    ∀ (i : Nat) (L : List Int), LL[i]? = some L → ∃ (Bi : Option Addr) (ci : Nat), vs[i]? = some (.slice Bi L.length ci) ∧ L.length ≤ ci ∧ Ints w Bi L := by
  by_cases hl : 0 < LL.length
  · obtain ⟨b, off, rfl, hb, hc⟩ := h hl
    refine ⟨(List.range LL.length).map (fun i => (w.cell? ⟨b, off + i, none⟩).getD (.int .i64 0)), by simp, fun X W hX hg _ => ⟨b, off, rfl, fun W' hk j v hj => ?_⟩, fun i L hL => ?_⟩
    · have hjd : j < LL.length := by have := (List.getElem?_eq_some_iff.1 hj).1; simpa using this
      rw [List.getElem?_map, List.getElem?_range hjd] at hj
      simp only [Option.map_some, Option.some.injEq] at hj
      obtain ⟨Bj, cj, h1, _, _⟩ := hc j _ (List.getElem?_eq_getElem hjd)
      rw [h1] at hj
      simp only [Option.getD_some] at hj
      subst hj
      exact low_cell hX hb hg hk h1
    · have hid : i < LL.length := (List.getElem?_eq_some_iff.1 hL).1
      obtain ⟨Bi, ci, h1, h2, h3⟩ := hc i L hL
      refine ⟨Bi, ci, ?_, h2, h3⟩
      rw [List.getElem?_map, List.getElem?_range hid]
      simp only [Option.map_some, h1, Option.getD_some]
  · have e : LL = [] := List.eq_nil_of_length_eq_zero (by omega)
    subst e
    exact ⟨[], rfl, fun X W _ _ h => by simp at h, fun i L h => by simp at h⟩
/-- The text of the whole array is too long. -/
def FoldBad (LL : List (List Int)) (D : List Int) : Prop := 400 < txs LL.length (foldN LL.length LL D)
theorem txs_suffix : ∀ (LL : List (List Int)) (c k : Nat) (D : List Int), Fits c LL D → k ≤ LL.length → txs (LL.drop k).length (foldN (LL.drop k).length (LL.drop k) D) ≤ txs LL.length (foldN LL.length LL D)
  | LL, _, 0, _, _, _ => Nat.le_refl _
  | [], _, k + 1, _, _, h => by simp at h
  | L :: LL, c, k + 1, D, hf, h => by
    have h1 := txs_suffix LL _ k D hf.2.2 (by simpa using h)
    have h2 := txs_up (d := LL.length) rfl hf
    exact Nat.le_trans h1 h2
theorem txs_single {d : Nat} (t : T d) : txs d [t] = (text d t).length := by simp [txs]

theorem spanL_pre {L : List Int} {pre : List (Int × Int)} {x : Int × Int} (h : pre ++ [x] <+: spanK 0 L) : ∃ z, L[pre.length]? = some z ∧ x = (sumI (L.take pre.length), sumI (L.take pre.length) + z) := by
  have hl := h.length_le
  rw [spanK_len, List.length_append] at hl
  simp only [List.length_cons, List.length_nil] at hl
  obtain ⟨z, hz⟩ : ∃ z, L[pre.length]? = some z := ⟨_, List.getElem?_eq_getElem (by omega)⟩
  have h1 := spanK_at L 0 _ z hz
  have h2 : (spanK 0 L)[pre.length]? = some x := by
    obtain ⟨t, ht⟩ := h
    rw [← ht]
    simp
  rw [h2] at h1
  simp only [Option.some.injEq, Int.zero_add] at h1
  exact ⟨z, hz, h1⟩
theorem cells_keptF {W W' : World} {row : Option Nat} (hg : W.grownBy W' row) (hr : ∀ r, row = some r → ∃ o : Obj, W.heap[r]? = some o ∧ o.isCells = false) {k : Nat} {cs : Array Value} {T : TypeId} {fr : Nat × Nat} (h : W.heap[k]? = some (.cells cs T fr)) : W'.heap[k]? = some (.cells cs T fr) :=
  (hg.block k (Array.getElem?_eq_some_iff.1 h).1 (fun e => by
    obtain ⟨o, ho, hc⟩ := hr k e.symm
    rw [h] at ho
    cases ho
    cases hc)).trans h
theorem own_keptF {W W' : World} {row : Option Nat} (hg : W.grownBy W' row) (hr : ∀ r, row = some r → ∃ o : Obj, W.heap[r]? = some o ∧ o.isCells = false) {base n : Nat} {e : TypeId} {v : Value} {xs : List Value} (h : W.ownsRow base e 1 v n xs) : W'.ownsRow base e 1 v n xs :=
  own_keep h (fun k hk => by
    rcases h.2 with ⟨hv, _⟩ | ⟨b, cap, cur, hv, _, hb, _⟩
    · rw [hv] at hk; cases hk
    · rw [hv] at hk
      simp only [Value.ownBlock, Option.some.injEq] at hk
      subst hk
      rw [hb]
      exact cells_keptF hg hr hb)
set_option maxRecDepth 100000 in
theorem cut_runS (A : Option Addr) (k c : Nat) (s z : Int) (u : World) (h0 : 0 ≤ s) (h1 : 0 ≤ z) (h2 : s + z ≤ c) :
    (Instr.slice 37 (.slice A k c) (some (.int .i64 s)) (some (.int .i64 (s + z))) (some (.int .i64 (s + z)))).run Tryd.prog u = .ok (.slice (if (s + z).toNat = s.toNat then A else A.map (·.add (s.toNat * 1))) ((s + z).toNat - s.toNat) ((s + z).toNat - s.toNat)) u := by
  rw [run_slice_lhm u 37 A k c Tryd.underlying37 .i64 .i64 .i64 s (s + z) (s + z) h0 (by omega) (by omega) h2]
  have hsz : (sizeOf (Tryd.prog.elem 37)).run Tryd.prog u = .ok 1 u := by kernel_rfl
  rw [hsz]
  rfl

theorem bytes_eqF {t : ByteArray} {l : List UInt8} (h : t.data.toList = l) : t = ⟨l.toArray⟩ := by
  cases t
  simp only at h
  subst h
  simp
def strW (ss : List ByteArray) : List Value := ss.map Value.string
theorem strW_snoc (l : List ByteArray) (x : ByteArray) : strW (l ++ [x]) = strW l ++ [.string x] := by simp [strW]
theorem keeps_own {X : Nat → TypeId → Prop} {W W' : World} {base n : Nat} {e : TypeId} {v : Value} {xs : List Value} (h : W.grownBy W' v.ownBlock) (ho : W.ownsRow base e 1 v n xs) (hX : ∀ q, base ≤ q → X q e) : KeepsK X W W' := by
  rcases ho.2 with ⟨hv, _⟩ | ⟨b, cap, cur, hv, hb, hg, _⟩
  · rw [hv] at h
    exact KeepsK.grown h
  · rw [hv] at h
    exact KeepsK.grownX h hg (hX b hb)
theorem own_notF {W : World} {base n b : Nat} {e t : TypeId} {v : Value} {xs : List Value} {cs : Array Value} {fr : Nat × Nat} (ho : W.ownsRow base e 1 v n xs) (hb : W.heap[b]? = some (.cells cs t fr)) (ht : t ≠ e) : some b ≠ v.ownBlock := fun h => by
  rcases ho.2 with ⟨hv, _⟩ | ⟨q, cap, cur, hv, _, hg, _⟩
  · rw [hv] at h; cases h
  · rw [hv] at h
    simp only [Value.ownBlock, Option.some.injEq] at h
    subst h
    rw [hb] at hg
    cases hg
    exact ht rfl
theorem set_one {W : World} {b : Nat} {x : Value} {t : TypeId} {m : Nat × Nat} (h : W.heap[b]? = some (.cells #[x] t m)) (y : Value) : (W.setCell ⟨b, 0, none⟩ y).heap[b]? = some (.cells #[y] t m) := by
  simp [World.setCell, Array.getElem?_modify, h]
theorem own_lenF {w : World} {base e m n : Nat} {A : Option Addr} {c : Nat} {xs : List Value} (h : w.ownsRow base e 1 (.slice A m c) n xs) : m = n := by
  rcases h.2 with ⟨hv, hn⟩ | ⟨g, cap, cur, hv, _⟩
  · cases hv; omega
  · cases hv; rfl
theorem own_strs {w : World} {base c n : Nat} {A : Option Addr} {ss : List ByteArray} (h : w.ownsRow base 9 1 (.slice A n c) ss.length (strW ss)) : Strs w A ss ∧ n = ss.length ∧ n ≤ c := by
  rcases h.2 with ⟨hv, hn⟩ | ⟨g, cap, cur, hv, hb, hg, hnc, _, hcs, htake⟩
  · cases hv
    exact ⟨fun hl => by omega, by omega, Nat.zero_le _⟩
  · cases hv
    refine ⟨fun hl => ⟨g, 0, rfl, (Array.getElem?_eq_some_iff.1 hg).1, fun j s hj => ?_⟩, rfl, hnc⟩
    have hjl : j < ss.length := (List.getElem?_eq_some_iff.1 hj).1
    rw [Nat.zero_add, cell_of_row w g j _ _ (0, 0) hg]
    have h1 : (cur.toList.take (ss.length * 1))[j]? = (strW ss)[j]? := by rw [htake]
    rw [List.getElem?_take, if_pos (by omega)] at h1
    rw [← Array.getElem?_toList, h1, strW, List.getElem?_map, hj]
    rfl
/-- A part of a row of strings. -/
theorem strs_part {w : World} {A : Option Addr} {ss : List ByteArray} (h : Strs w A ss) (s z : Int) (h0 : 0 ≤ s) (hz : 0 ≤ z) (hl : s + z ≤ ss.length) :
    Strs w (if (s + z).toNat = s.toNat then A else A.map (·.add (s.toNat * 1))) ((ss.drop s.toNat).take z.toNat) := fun hp => by
  have hlen : ((ss.drop s.toNat).take z.toNat).length = z.toNat := by rw [List.length_take, List.length_drop]; omega
  rw [hlen] at hp
  obtain ⟨b, off, rfl, hb, hc⟩ := h (by omega)
  rw [if_neg (by omega)]
  refine ⟨b, off + s.toNat, by simp [Addr.add], hb, fun j x hj => ?_⟩
  rw [List.getElem?_take] at hj
  split at hj
  · rw [List.getElem?_drop] at hj
    have := hc _ x hj
    rwa [show off + s.toNat + j = off + (s.toNat + j) by omega]
  · cases hj
theorem tx_part {d : Nat} {ss : List ByteArray} {ts : List (T d)} (h : Tx d ss ts) (s z : Nat) : Tx d ((ss.drop s).take z) ((ts.drop s).take z) := by
  unfold Tx at h ⊢
  rw [List.map_take, List.map_drop, h, List.map_take, List.map_drop]
theorem tx_len {d : Nat} {ss : List ByteArray} {ts : List (T d)} (h : Tx d ss ts) : ss.length = ts.length := by
  have := congrArg List.length h
  simpa using this
theorem tot_small : ∀ (ss : List ByteArray), (∀ s ∈ ss, s.size ≤ 400) → tot ss ≤ 400 * ss.length
  | [], _ => by simp [tot]
  | s :: l, h => by
    have h1 := tot_small l (fun x hx => h x (by simp [hx]))
    have h2 := h s (by simp)
    simp only [tot, List.length_cons]
    omega
end

/- SNums -/
section
open Go.RowKit

/-- All numbers of an array. -/
def nums : (d : Nat) → T d → List Int
  | 0, n => [((show Nat from n : Nat) : Int)]
  | d + 1, ts => (show List (T d) from ts).flatMap (nums d)
theorem nums_succ (d : Nat) (ts : List (T d)) : nums (d + 1) ts = ts.flatMap (nums d) := rfl

theorem gr_row {w w1 w2 : World} {row : Option Nat} (h : w.grownBy w1 none) (h2 : w1.grownBy w2 row) (hr : ∀ k, row = some k → w.heap.size ≤ k) : w.grownBy w2 none :=
  ⟨h2.os.trans h.os, h2.tape.trans h.tape, h2.output.trans h.output, Nat.le_trans h.size h2.size, fun k hk hne => (h2.block k (Nat.lt_of_lt_of_le hk h.size) (fun e => by have := hr k e.symm; omega)).trans (h.block k hk hne)⟩

/-- A new row of ints. -/
def NewInts (zs : List Int) (w : World) (v : Value) (w' : World) : Prop := ∃ g c, v = .slice (some ⟨g, 0, none⟩) zs.length c ∧ w.grownBy w' none ∧ w'.ownsRow w.heap.size 3 1 (.slice (some ⟨g, 0, none⟩) zs.length c) zs.length (zs.map (Value.int .i64))
def NumsPost (zs : List Int) (w : World) (e : Ending) (w' : World) : Prop := ∃ v, e = .returned v ∧ NewInts zs w v w'

theorem infoI : (Tryd.prog.info? 3).map (fun i => (i.zero, i.size, i.bytes)) = some (some (.int .i64 0), 1, 8) := by kernel_rfl

set_option maxHeartbeats 400000 in
theorem snums0 (t : T 0) (m : Int) (A : Option Addr) (k c : Nat) (S : Nat → Prop) (w : World) (h : SNd w S 0 t (m, .slice A k c)) :
    Calls Tryd.prog 75 #[.agg #[.int .i64 m, .slice A k c], .int .i64 0] w (NumsPost (nums 0 t) w) := by
  have hm : [m] = nums 0 t := by show [m] = [((show Nat from t : Nat) : Int)]; rw [← h.1]
  rw [← hm]
  clear hm h
  go_enter Tryd.func75, Tryd.ntmps75
  go_wp2_with fail
  go_ret
  refine ⟨_, rfl, w.heap.size + 1, 1, rfl, (World.grownBy_alloc _ _ _).trans (World.grownBy_alloc _ _ _), ?_⟩
  have := World.ownsRow_lit (base := w.heap.size) (e := 3) (size := 1) (w.alloc (.cells #[.int .i64 m, .slice A k c] 61)) #[.int .i64 m] 1 (by simp) (by simp [maxLen]) (by simp)
  simpa using this

set_option maxHeartbeats 1000000 in
theorem snumsS (d : Nat) (n : Int) (ts : List (T d)) (m : Int) (A : Option Addr) (k c : Nat) (S : Nat → Prop) (w : World) (h : SNd w S (d + 1) ts (m, .slice A k c)) (hn1 : 1 ≤ n) (hn2 : n ≤ 1000) (hl : (ts.flatMap (nums d)).length ≤ 1000000) (hk : k ≤ 1000000)
    (ih : ∀ (t : T d) (m : Int) (A : Option Addr) (k c : Nat) (w : World), t ∈ ts → SNd w S d t (m, .slice A k c) → Calls Tryd.prog 75 #[.agg #[.int .i64 m, .slice A k c], .int .i64 (n - 1)] w (NumsPost (nums d t) w)) :
    Calls Tryd.prog 75 #[.agg #[.int .i64 m, .slice A k c], .int .i64 n] w (NumsPost (nums (d + 1) ts) w) := by
  obtain ⟨i0, hi0, hz0, hz1, hz2⟩ := info_parts infoI
  obtain ⟨xs, ho, hS, ha⟩ := h
  obtain ⟨hkx, hkc, hrow⟩ := srow ho
  have HA := Lib.hid ha
  have HROW := Lib.hid hrow
  have HI := Lib.hid ih
  have HL := Lib.hid hl
  have HKX := Lib.hid hkx
  have HLEN := Lib.hid (All2.length ts xs ha)
  clear ho hS ha hrow ih hl hkx
  have e0 : (n == 0) = false := by rw [beq_eq_false_iff_ne]; omega
  go_enter Tryd.func75, Tryd.ntmps75
  go_wp2_with fail
  clear e0
  go_loopw [17, 5] (fun i u wr => ∃ (j q : Nat) (A1 : Option Addr) (c1 : Nat), j ≤ k ∧ i = .int .i64 j ∧ u = .slice A1 q c1 ∧ Hid (q = ((ts.take j).flatMap (nums d)).length) ∧ Hid (∃ g, A1 = some ⟨g, 0, none⟩) ∧ Hid (wr.ownsRow w.heap.size 3 1 (.slice A1 q c1) q (((ts.take j).flatMap (nums d)).map (Value.int .i64))) ∧ Hid (w.grownBy wr none)) (fun i _ _ => k - (intOf i).toNat)
  case atStart =>
    refine ⟨0, 0, some ⟨w.heap.size + 1, 0, none⟩, 0, Nat.zero_le _, rfl, rfl, Lib.hid (by simp), Lib.hid ⟨_, rfl⟩, Lib.hid ?_, Lib.hid ((World.grownBy_alloc _ _ _).trans (World.grownBy_alloc _ _ _))⟩
    have := World.ownsRow_made (base := w.heap.size) (e := 3) (size := 1) (w.alloc (.cells #[.int .i64 m, .slice A k c] 61)) #[] 0 (by simp) (by simp) (by simp)
    simpa using this
  case round =>
    obtain ⟨j, q, A1, c1, hj, rfl, rfl, hq, hg1, ho1, hgr⟩ := hrel
    by_cases hlt : j < k
    · obtain ⟨g, rfl, hgw, hcells⟩ := HROW.out (by omega)
      obtain ⟨t, x, htj, hxj, hr⟩ := All2.at_ (j := j) HA.out (by have := HKX.out; omega)
      have hx := hcells j x hxj
      obtain ⟨m2, sv2⟩ := x
      obtain ⟨A2, k2, c2, hsv⟩ := hr.form
      simp only at hsv hx
      subst hsv
      have h1 := hgr.out.cell hx.1 (by simp)
      have h2 := hgr.out.cell hx.2 (by simp)
      have HR := Lib.hid hr
      have HT := Lib.hid htj
      have HMEM := Lib.hid (List.mem_of_getElem? htj)
      clear hx hxj hr htj hcells
      have wn : IntKind.i64.wrap (n - 1) = n - 1 := IntWalk.i64_in _ (by omega)
      have HK := Lib.hid (SNd.keep (w' := wr.alloc (.cells #[.int .i64 m2, .slice A2 k2 c2] 61)) (fun b _ hb => ((hgr.out.trans (World.grownBy_alloc wr _ none)).block b hb (by simp))) (fun b hb _ => hb) d t _ HR.out)
      have hstep : (ts.take (j + 1)).flatMap (nums d) = (ts.take j).flatMap (nums d) ++ nums d t := by
        rw [List.take_add_one, HT.out, List.flatMap_append]; simp
      have hle : ((ts.take (j + 1)).flatMap (nums d)).length ≤ 1000000 := by
        have e : ts.take (j + 1) ++ ts.drop (j + 1) = ts := List.take_append_drop _ _
        have h3 := HL.out
        rw [← e, List.flatMap_append, List.length_append] at h3
        omega
      rw [hstep, List.length_append] at hle
      have HST := Lib.hid hstep
      have HLE := Lib.hid hle
      clear hstep hle
      go_wp2_with fail
      refine (HI.out t m2 A2 k2 c2 _ HMEM.out HK.out).mono ?_
      rintro e w5 ⟨v5, rfl, g5, c5, rfl, hg5, ho5⟩
      have hzs : w.heap.size ≤ w5.heap.size := Nat.le_trans hgr.out.size (Nat.le_trans (by simp) hg5.size)
      have HINT := Lib.hid (Ints.of_own ho5)
      have hga := (World.grownBy_alloc wr (.cells #[.int .i64 m2, .slice A2 k2 c2] 61) none).trans hg5
      have own6 := own_keep ho1.out (fun k hk => hga.block k (ho1.out.lt k hk).2 (by simp))
      have HGA := Lib.hid (hgr.out.trans hga)
      obtain ⟨ns, hns⟩ : ∃ ns, nums d t = ns := ⟨_, rfl⟩
      rw [hns] at HINT ho5 ⊢
      have hfl : q + ns.length ≤ 1000000 := by have h1 := HLE.out; have h2 := hq.out; rw [hns] at h1; omega
      have HNS := Lib.hid hns
      have hnew : ∀ (i : Nat) (u : Value), (ns.map (Value.int .i64))[i]? = some u → w5.cell? ((⟨g5, 0, none⟩ : Addr).add i) = some u := fun i u hu => ho5.cells (g := g5) rfl i u hu
      have HNEW := Lib.hid hnew
      clear hg5 ho5 hga hns hnew
      go_wp2_with (at_builtin; refine wpList_append_own_at _ rfl _ _ 22 rfl w.heap.size 3 i0 (.int .i64 0) 1 8 Tryd.underlying22 hi0 hz0 hz1 hz2 rfl (by decide) _ q _ rfl own6 ⟨g5, 0, none⟩ ns.length c5 (ns.map (Value.int .i64)) rfl ?c1 HNEW.out ?c2 ?c3 ?c4 ?c5 ?_)
      case c1 => simp
      case c2 => intro u hu; obtain ⟨z, _, rfl⟩ := List.mem_map.1 hu; rfl
      case c3 => simp only [maxLen]; omega
      case c4 => omega
      case c5 => exact hzs
      intro v8 w8 hown8 hg8 hnil8 hat8
      obtain ⟨g8, c8, rfl⟩ : ∃ g8 c8, v8 = .slice (some ⟨g8, 0, none⟩) (q + ns.length) c8 := by
        rcases hown8.2 with ⟨hv, _⟩ | ⟨g, cap, cur, hv, _⟩
        · obtain ⟨g1, rfl⟩ := hg1.out
          have := hnil8.1 hv
          simp at this
        · exact ⟨g, cap, hv⟩
      have HO8 := Lib.hid hown8
      have HG8 := Lib.hid (gr_row HGA.out hg8 (fun k hk => (own6.lt k hk).1))
      clear hown8 hg8 hnil8 hat8 own6
      go_wp2_with fail
      go_roundw
      case rel =>
        refine ⟨j + 1, q + ns.length, some ⟨g8, 0, none⟩, c8, by omega, by go_num, rfl, Lib.hid ?_, Lib.hid ⟨_, rfl⟩, Lib.hid ?_, HG8⟩
        · rw [HST.out, List.length_append, HNS.out, ← hq.out]
        · rw [HST.out, List.map_append, HNS.out]
          exact HO8.out
      case measure => simp [intOf]; omega
    · have hjn : j = k := by omega
      have HJ := Lib.hid hjn
      clear hjn
      obtain ⟨g1, rfl⟩ := hg1.out
      go_wp2_with fail
      go_ret
      have e : ts.take j = ts := List.take_of_length_le (by have h1 := HJ.out; have h2 := HKX.out; have h3 := HLEN.out; omega)
      have h1 := hq.out
      have h2 := ho1.out
      rw [e] at h1 h2
      rw [nums_succ]
      subst h1
      exact ⟨_, rfl, g1, c1, rfl, hgr.out, h2⟩

/-- No array holds more numbers, or parts, than its text has bytes. -/
theorem nums_text : ∀ (d : Nat) (t : T d), (nums d t).length ≤ (text d t).length
  | 0, t => dec_pos _
  | d + 1, ts => by
    have e : text (d + 1) ts = 91 :: (lst d ts ++ [93]) := text_succ d ts
    rw [e]
    have h : ∀ (l : List (T d)), (l.flatMap (nums d)).length ≤ (l.flatMap (fun x => 44 :: text d x)).length := by
      intro l
      induction l with
      | nil => simp
      | cons x l ih =>
        have := nums_text d x
        simp only [List.flatMap_cons, List.length_append, List.length_cons]
        omega
    have h2 : ((show List (T d) from ts).flatMap (nums d)).length ≤ (lst d ts).length := by
      cases ts with
      | nil => simp
      | cons x l =>
        have := nums_text d x
        have := h l
        show ((x :: l).flatMap (nums d)).length ≤ _
        simp only [lst, List.flatMap_cons, List.length_append]
        omega
    simp only [List.length_cons, List.length_append]
    exact Nat.le_trans (show (nums (d + 1) ts).length ≤ (lst d ts).length from h2) (by omega)
theorem text_mem {d : Nat} : ∀ {ts : List (T d)} {t : T d}, t ∈ ts → (text d t).length ≤ (lst d ts).length
  | [], t, h => by cases h
  | x :: l, t, h => by
    have hf : ∀ (l : List (T d)), t ∈ l → (text d t).length ≤ (l.flatMap (fun x => 44 :: text d x)).length := by
      intro l
      induction l with
      | nil => intro h; cases h
      | cons y l ih =>
        intro h
        simp only [List.flatMap_cons, List.length_append, List.length_cons]
        rcases List.mem_cons.1 h with e | e
        · subst e; omega
        · have := ih e; omega
    simp only [lst, List.length_append]
    rcases List.mem_cons.1 h with e | e
    · subst e; omega
    · have := hf l e; omega

theorem snums_any (S : Nat → Prop) : ∀ (d : Nat) (n : Int) (t : T d) (m : Int) (A : Option Addr) (k c : Nat) (w : World), n = d → d ≤ 1000 → SNd w S d t (m, .slice A k c) → (text d t).length ≤ 1000000 →
    Calls Tryd.prog 75 #[.agg #[.int .i64 m, .slice A k c], .int .i64 n] w (NumsPost (nums d t) w)
  | 0, n, t, m, A, k, c, w, hn, _, h, _ => by obtain rfl : n = 0 := hn; exact snums0 t m A k c S w h
  | d + 1, n, t, m, A, k, c, w, hn, hd, h, ht => by
    have hnt := nums_text (d + 1) t
    have e : text (d + 1) t = 91 :: (lst d t ++ [93]) := text_succ d t
    rw [e] at ht
    have hlst : (lst d t).length ≤ 1000000 := by simp at ht; omega
    obtain ⟨xs, ho, hS, ha⟩ := h
    have hk : k ≤ 1000000 := by
      have h1 := (srow ho).1
      have h2 := All2.length t xs ha
      have h3 := lst_ge d t
      omega
    refine snumsS d n t m A k c S w ⟨xs, ho, hS, ha⟩ (by omega) (by omega) ?_ hk (fun t' m A k c w hm h => snums_any S d (n - 1) t' m A k c w (by omega) (by omega) h ?_)
    · have : (nums (d + 1) t).length ≤ 1000000 := by rw [e] at hnt; exact Nat.le_trans hnt ht
      exact this
    · exact Nat.le_trans (text_mem hm) hlst

/-- How NumbersOf ends, with and without an array. -/
def NOPost (s : ByteArray) (n : Int) (w : World) (e : Ending) (w' : World) : Prop :=
  (isArr s n = false ∧ ∃ A c, e = .returned (.tuple #[.slice A 0 c, .bool false]) ∧ w.grownBy w' none) ∨
  (isArr s n = true ∧ ∃ t v, readN s n.toNat = some t ∧ e = .returned (.tuple #[v, .bool true]) ∧ NewInts (nums n.toNat t) w v w')

set_option maxHeartbeats 400000 in
theorem snumbersof_any (s : ByteArray) (n : Int) (w : World) : Calls Tryd.prog 39 #[.string s, .int .i64 n] w (NOPost s n w) := by
  obtain ⟨b, hb⟩ : ∃ b, isArr s n = b := ⟨_, rfl⟩
  cases b
  · have HC := Lib.hid (sread_false hb w)
    have HB := Lib.hid hb
    clear hb
    go_enter Tryd.func39, Tryd.ntmps39
    go_wp2_with fail
    refine HC.out.mono ?_
    rintro e w1 ⟨rfl, hg⟩
    have HG := Lib.hid hg
    clear hg
    go_wp2_with fail
    go_ret2
    exact .inl ⟨HB.out, _, _, rfl, (HG.out.trans (World.grownBy_alloc _ _ _)).trans (World.grownBy_alloc _ _ _)⟩
  · have h0 : 0 ≤ n ∧ n ≤ 3 ∧ s.size ≤ 400 := by
      have := hb
      unfold isArr at this
      simp only [Bool.and_eq_true, decide_eq_true_eq] at this
      exact this.1
    have hnd : n = n.toNat := by omega
    obtain ⟨t, ht, hcall⟩ := sread_true hnd hb
    have hlen : (text n.toNat t).length ≤ 1000000 := by
      rw [← readN_bytes ht, Array.length_toList]
      have : s.data.size = s.size := rfl
      omega
    have HC := Lib.hid (hcall w)
    have HB := Lib.hid hb
    have HT := Lib.hid ht
    have HN := Lib.hid (fun (S : Nat → Prop) (m : Int) (A : Option Addr) (k c : Nat) (w : World) h => snums_any S n.toNat n t m A k c w hnd (by omega) h hlen)
    clear hb ht hcall hlen hnd
    go_enter Tryd.func39, Tryd.ntmps39
    go_wp2_with fail
    refine HC.out.mono ?_
    rintro e w1 ⟨m, A, k, c, rfl, hg, hnd⟩
    have HG := Lib.hid (hg.trans (World.grownBy_alloc w1 (.cells #[.int .i64 m, .slice A k c] 61) none))
    have HND := Lib.hid (SNd.keep (w' := w1.alloc (.cells #[.int .i64 m, .slice A k c] 61)) (fun b _ hb => Below.heap_alloc w1 _ b hb) (fun b hb _ => hb) n.toNat t _ hnd)
    clear hg hnd
    go_wp2_with fail
    refine (HN.out _ m A k c _ HND.out).mono ?_
    rintro e w2 ⟨v, rfl, hv⟩
    obtain ⟨g2, c2, rfl, hg2, ho2⟩ := hv
    have HG2 := Lib.hid (HG.out.trans hg2)
    have HO2 := Lib.hid (own_base (base' := w.heap.size) ho2 (Nat.le_trans HG.out.size (Nat.le_refl _)))
    clear hg2 ho2
    go_wp2_with fail
    go_ret2
    exact .inr ⟨HB.out, t, _, HT.out, rfl, g2, c2, rfl, HG2.out, HO2.out⟩
end

/- FillI -/
section
open Go.RowKit Go.Shelf

theorem made_one (x : Value) (k : Nat) : (madeCells #[x] k).toList = List.replicate k x := by
  refine List.ext_getElem (by simp [madeCells]) fun i h1 h2 => ?_
  simp [madeCells, Nat.mod_one]

/-- How fill ends. -/
def FilP (sh ns : List Int) (w : World) (e : Ending) (w' : World) : Prop :=
  w.grownBy w' none ∧ ∃ u : ByteArray, e = .returned (.tuple #[.string u, .bool (decide ((text sh.length (fillT sh ns)).length ≤ 400))]) ∧ u.data.toList = if (text sh.length (fillT sh ns)).length ≤ 400 then text sh.length (fillT sh ns) else []
/-- fill of a shape, for whatever numbers. -/
def FilAny (w0 : World) (sh : List Int) : Prop := ∀ (A B : Option Addr) (c d : Nat) (ns : List Int) (w : World), w0.grownBy w none → Ints w A sh → Ints w B ns → Sl A sh.length c → Sl B ns.length d → okN 10006 ns = true → (prodI sh).toNat ≤ ns.length → ns.length ≤ 400 →
  Calls Tryd.prog 38 #[.slice A sh.length c, .slice B ns.length d] w (FilP sh ns w)

set_option maxRecDepth 100000 in
set_option maxHeartbeats 1000000 in
theorem fill_zero {w0 : World} (htab : Lib.TabIs Tryd.prog w0 "internal/strconv.uint64pow10" .u64 Lib.pow10Tab) : FilAny w0 [] := fun A B c d ns w hg0 hA hB hsA hsB hok hp hn => by
  have hl : 1 ≤ ns.length := hp
  obtain ⟨b, off, rfl, _, hc⟩ := hB (by omega)
  obtain ⟨z, hz⟩ : ∃ z, ns[0]? = some z := ⟨_, List.getElem?_eq_getElem (by omega)⟩
  have hcell := hc 0 z hz
  rw [Nat.add_zero] at hcell
  have hb := okN_at hz hok
  have HB := Lib.hid hb
  have HAI := Lib.hid (Tryd.strconv_Itoa z (by omega) (by omega) w ((Lib.tabBelow_of_tabIs htab) w (below_of hg0)))
  have hT : text 0 (fillT [] ns) = dec z.toNat := by
    have : ns.headD 0 = z := by
      cases ns with
      | nil => simp at hl
      | cons y l => simp at hz; simp [hz]
    show dec (show Nat from (ns.headD 0).toNat) = _
    rw [this]
  have hT4 : (dec z.toNat).length ≤ 400 := by
    have h2 := dec_len 4 z.toNat (by omega)
    omega
  have HT := Lib.hid hT
  have HT4 := Lib.hid hT4
  obtain ⟨n, hnn⟩ : ∃ n, ns.length = n := ⟨_, rfl⟩
  rw [hnn] at hl ⊢
  have hl2 : (0 : Int) < (n : Int) := by omega
  clear hc hz hA hB hsA hsB hok hp hn hb htab hT hT4 hnn
  go_enter Tryd.func38, Tryd.ntmps38
  go_wp2_with fail
  refine HAI.out.mono ?_
  rintro e w1 ⟨rfl, k1, os1, hw1⟩
  have hgk : w.grownBy w1 none := by
    rw [hw1]
    exact gr_belowB (Lib.below_grow w.heap.size w (Nat.le_refl _) k1 os1) (Nat.le_refl _)
  clear hw1
  have HGK := Lib.hid hgk
  clear hgk
  go_wp2_with fail
  go_ret2
  have h1 := HT.out
  unfold FilP
  refine ⟨HGK.out, nstr z, ?_, ?_⟩
  · show _ = Ending.returned (.tuple #[.string (nstr z), .bool (decide ((text 0 (fillT [] ns)).length ≤ 400))])
    rw [h1, decide_eq_true HT4.out]
    rfl
  · show (nstr z).data.toList = if (text 0 (fillT [] ns)).length ≤ 400 then text 0 (fillT [] ns) else []
    rw [h1, if_pos HT4.out]
    exact nstr_dec HB.out.1

/-- The parts that fill makes. -/
def filL (k : Nat) (sh ns : List Int) : List (T sh.length) := (List.range k).map fun i => fillT sh (ns.drop (i * (prodI sh).toNat))
theorem filL_len (k : Nat) (sh ns : List Int) : (filL k sh ns).length = k := by simp [filL]
theorem filL_at {k i : Nat} {sh ns : List Int} (h : i < k) : (filL k sh ns)[i]? = some (fillT sh (ns.drop (i * (prodI sh).toNat))) := by
  unfold filL
  rw [List.getElem?_map, List.getElem?_range h]
  rfl
theorem filL_text (z : Int) (sh ns : List Int) : text (z :: sh).length (fillT (z :: sh) ns) = text (sh.length + 1) (show T (sh.length + 1) from filL z.toNat sh ns) := rfl
/-- Strings of which so many are the parts' texts. -/
def FilS (j : Nat) (sh : List Int) (k : Nat) (ns : List Int) (ss : List ByteArray) : Prop := ss.length = k ∧ ∀ i, i < j → ∃ s, ss[i]? = some s ∧ s.data.toList = text sh.length (fillT sh (ns.drop (i * (prodI sh).toNat))) ∧ s.data.toList.length ≤ 400
theorem FilS.set {j k : Nat} {sh ns : List Int} {ss : List ByteArray} {u : ByteArray} (h : FilS j sh k ns ss) (hj : j < k) (hu : u.data.toList = text sh.length (fillT sh (ns.drop (j * (prodI sh).toNat)))) (hl : u.data.toList.length ≤ 400) : FilS (j + 1) sh k ns (ss.set j u) := by
  refine ⟨by rw [List.length_set]; exact h.1, fun i hi => ?_⟩
  rw [List.getElem?_set]
  by_cases e : j = i
  · subst e
    rw [if_pos rfl, if_pos (by rw [h.1]; exact hj)]
    exact ⟨u, rfl, hu, hl⟩
  · rw [if_neg e]
    exact h.2 i (by omega)
theorem FilS.tx {k : Nat} {sh ns : List Int} {ss : List ByteArray} (h : FilS k sh k ns ss) : Tx sh.length ss (filL k sh ns) := by
  unfold Tx
  refine List.ext_getElem? fun i => ?_
  rw [List.getElem?_map, List.getElem?_map]
  rcases Nat.lt_or_ge i k with hi | hi
  · obtain ⟨s, h1, h2, _⟩ := h.2 i hi
    rw [h1, filL_at hi]
    simp [h2]
  · rw [List.getElem?_eq_none (by rw [h.1]; exact hi), List.getElem?_eq_none (by rw [filL_len]; exact hi)]
    rfl
theorem FilS.small {k : Nat} {sh ns : List Int} {ss : List ByteArray} (h : FilS k sh k ns ss) : ∀ s ∈ ss, s.size ≤ 400 := fun s hs => by
  obtain ⟨i, hi⟩ := List.getElem?_of_mem hs
  have hik : i < k := by rw [← h.1]; exact (List.getElem?_eq_some_iff.1 hi).1
  obtain ⟨s', h1, _, h3⟩ := h.2 i hik
  rw [hi] at h1
  cases h1
  have : s.size = s.data.toList.length := by rw [Array.length_toList]; rfl
  omega
/-- A part that is too long makes the whole too long. -/
theorem fil_long {z : Int} {sh ns : List Int} {i : Nat} (hi : i < z.toNat) (h : 400 < (text sh.length (fillT sh (ns.drop (i * (prodI sh).toNat)))).length) : ¬ (text (z :: sh).length (fillT (z :: sh) ns)).length ≤ 400 := by
  have h1 := text_mem (List.mem_of_getElem? (filL_at (ns := ns) (sh := sh) hi))
  have e : text (z :: sh).length (fillT (z :: sh) ns) = 91 :: (lst sh.length (filL z.toNat sh ns) ++ [93]) := text_succ sh.length (filL z.toNat sh ns)
  rw [e]
  simp only [List.length_cons, List.length_append]
  omega

set_option maxRecDepth 100000 in
set_option maxHeartbeats 4000000 in
theorem fill_succ {w0 : World} {z : Int} {sh : List Int} (hok : okN 400 (z :: sh) = true) (hl3 : sh.length + 1 ≤ 3) (ih : FilAny w0 sh) : FilAny w0 (z :: sh) := fun A B c d ns w hg0 hA hB hsA hsB hok2 hp hn => by
  obtain ⟨i0, hi0, hz0, hz1, hz2⟩ := info_parts infoStr
  have hok' := hok
  simp only [okN, Bool.and_eq_true, decide_eq_true_eq] at hok'
  obtain ⟨⟨hz00, hz400⟩, hokS⟩ := hok'
  obtain ⟨k, hk⟩ : ∃ k : Nat, z = k := ⟨z.toNat, by omega⟩
  subst hk
  have hpr := prod_nn hokS
  have hpk : (prodI ((k : Int) :: sh)).toNat = k * (prodI sh).toNat := by rw [prodI, Int.toNat_mul (by omega) hpr, Int.toNat_natCast]
  rw [hpk] at hp
  obtain ⟨b, off, rfl, _, hc⟩ := hA (by simp)
  have hcell := hc 0 _ rfl
  rw [Nat.add_zero] at hcell
  obtain ⟨A', htl, hsA', hiA'⟩ := tail_run b off (sh.length + 1) c (by omega) hsA.1
  have HIA := Lib.hid (fun u (hg : w.grownBy u none) => hiA' u ((k : Int) :: sh) rfl (hA.grown hg (by simp)))
  have HIB := Lib.hid hB
  have HPO := Lib.hid (fun u (hg : w.grownBy u none) => prodof_any A' (c - 1) sh u (hiA' u ((k : Int) :: sh) rfl (hA.grown hg (by simp))) hokS (by omega))
  have HIH := Lib.hid (fun (B : Option Addr) (d : Nat) (ns : List Int) u (hg : w.grownBy u none) (hB : Ints u B ns) hs ho hp hn => ih A' B (c - 1) d ns u (hg0.trans hg) (hiA' u ((k : Int) :: sh) rfl (hA.grown hg (by simp))) hB (by simpa using hsA') hs ho hp hn)
  obtain ⟨n, hnn⟩ : ∃ n, ns.length = n := ⟨_, rfl⟩
  have HN := Lib.hid hnn
  obtain ⟨p, hpp⟩ : ∃ p : Nat, (prodI sh).toNat = p := ⟨_, rfl⟩
  have hpi : prodI sh = (p : Int) := by omega
  have HP := Lib.hid hpp
  have HOK2 := Lib.hid hok2
  have hok0 := Lib.hid hokS
  have HLN := Lib.hid (fun j : Nat => @fil_long (k : Int) sh ns j)
  have hmk : ∀ u : World, (Instr.makeSlice 37 (.int .i64 (k : Int)) (.int .i64 (k : Int))).run Tryd.prog u =
      .ok (.slice (some ⟨u.heap.size, 0, none⟩) k k) (u.alloc (.cells (madeCells #[.string ⟨#[]⟩] k) 9)) := fun u => by
    have h := run_make (P := Tryd.prog) u 37 9 i0 (.string ⟨#[]⟩) Tryd.underlying37 hi0 hz0 .i64 .i64 (k : Int) (k : Int) (by omega) (Int.le_refl _) (by rw [hz2]; omega) (by omega)
    simpa [hz1, Value.cells] using h
  rw [hpi] at HPO
  rw [hnn] at hsB hn ⊢
  rw [hpp] at hp HIH
  obtain ⟨m, hm⟩ : ∃ m, sh.length = m := ⟨_, rfl⟩
  have HM := Lib.hid hm
  have hl1 : ((k : Int) :: sh).length = m + 1 := by simp [hm]
  rw [hm] at htl HPO HIH hsA' hl3
  rw [hl1]
  have HE := Lib.hid hl1
  have he1 : ((m : Int) + 1 == 0) = false := by rw [beq_eq_false_iff_ne]; omega
  have hd1 : m + 1 - 1 = m := by omega
  rw [hd1] at htl hsA'
  clear hA hB hc hsA hok hokS hz00 hpr hpk hi0 hz0 hz1 hz2 hiA' hpp hpi hnn hok2 hl1 ih hd1
  go_enter Tryd.func38, Tryd.ntmps38
  go_wp2_with fail
  clear hmk
  have ho1 := World.ownsRow_lit (base := w.heap.size) (e := 9) (size := 1) w (madeCells #[.string ⟨#[]⟩] k) k (Nat.le_refl _) (by simp only [maxLen]; omega) (by simp [madeCells])
  have hsw : (madeCells #[Value.string ⟨#[]⟩] k).toList = strW (List.replicate k ⟨#[]⟩) := by
    rw [strW, List.map_replicate]
    exact made_one _ _
  rw [hsw] at ho1
  have HO := Lib.hid (ho1.alloc (.cells #[.slice B n d] 80))
  have HG := Lib.hid ((World.grownBy_alloc w (.cells (madeCells #[.string ⟨#[]⟩] k) 9) none).trans (World.grownBy_alloc _ (.cells #[.slice B n d] 80) none))
  have hbx := B1.new (w.alloc (.cells (madeCells #[.string ⟨#[]⟩] k) 9)) 80 (.slice B n d)
  rw [show (w.alloc (.cells (madeCells #[.string ⟨#[]⟩] k) 9)).heap.size = w.heap.size + 1 by simp] at hbx
  have HBX := Lib.hid hbx
  generalize (w.alloc (.cells (madeCells #[.string ⟨#[]⟩] k) 9)).alloc (.cells #[.slice B n d] 80) = w0' at HO HG HBX ⊢
  clear ho1 hsw hbx
  go_loopw [9, 10, 11, 29] (fun _ _ _ i wr => ∃ (j : Nat) (ss : List ByteArray) (Bj : Option Addr) (dj q : Nat), j ≤ k ∧ i = .int .i64 j ∧ Hid (wr.ownsRow w.heap.size 9 1 (.slice (some ⟨w.heap.size, 0, none⟩) k k) k (strW ss)) ∧ Hid (FilS j sh k ns ss) ∧ Hid (B1 wr (w.heap.size + 1) 80 (.slice Bj q dj)) ∧ Hid (q = n - j * p) ∧ Hid (Sl Bj q dj) ∧ Hid (∀ u, w.grownBy u none → Ints u Bj (ns.drop (j * p))) ∧ Hid (w.grownBy wr none)) (fun _ _ _ i _ => k - (intOf i).toNat)
  case atStart => exact ⟨0, List.replicate k ⟨#[]⟩, B, d, n, Nat.zero_le _, rfl, HO, Lib.hid ⟨by simp, fun i hi => by omega⟩, HBX, Lib.hid (by simp), Lib.hid hsB, Lib.hid (fun u hg => by simpa using HIB.out.grown hg (by simp)), HG⟩
  case round =>
    obtain ⟨j, ss, Bj, dj, q, hj, rfl, ho, hfs, hbx, hq, hsl, hib, hgr⟩ := hrel
    by_cases hlt : j < k
    · have hjp : (j + 1) * p ≤ k * p := Nat.mul_le_mul_right _ hlt
      have hjp2 : (j + 1) * p = j * p + p := by rw [Nat.add_mul, Nat.one_mul]
      have hpq : p ≤ q := by have := hq.out; have := HN.out; omega
      have hpn : p ≤ 400 := by have := hq.out; have := HN.out; omega
      have hdl : (ns.drop (j * p)).length = q := by rw [List.length_drop, HN.out]; exact hq.out.symm
      have hxl : ((ns.drop (j * p)).take p).length = p := by rw [List.length_take]; omega
      have hxok : okN 10006 ((ns.drop (j * p)).take p) = true := okN_take (okN_drop HOK2.out _) _
      have HXX := Lib.hid (show fillT sh ((ns.drop (j * p)).take p) = fillT sh (ns.drop (j * p)) from fillT_take sh _ _ (by have := hok0.out; exact this) (by rw [HP.out]; exact Nat.le_refl _))
      obtain ⟨hsl1, hsl2⟩ := hsl.out
      have hpdj : Sl Bj p p := by
        refine ⟨Nat.le_refl _, ?_⟩
        rcases hsl2 with ⟨h1, h2⟩ | h
        · exact .inl ⟨h1, by omega⟩
        · exact .inr h
      have HTK := Lib.hid (fun u (h : B1 u (w.heap.size + 1) 80 (.slice Bj q dj)) => take1_any (w.heap.size + 1) p q dj Bj u h hpq ⟨hsl1, hsl2⟩)
      have HFL := Lib.hid (fun u (hg : w.grownBy u none) => HIH.out Bj p ((ns.drop (j * p)).take p) u hg (ints_take (hib.out u hg)) (by rw [hxl]; exact hpdj) hxok (by rw [hxl]; exact Nat.le_refl _) (by rw [hxl]; exact hpn))
      rw [hxl] at HFL
      unfold FilP at HFL
      rw [HXX.out] at HFL
      have HPJ := Lib.hid (HPO.out wr hgr.out)
      have hfl : ∀ u, (Instr.field 80 (.agg #[.slice Bj p p]) 0).run Tryd.prog u = .ok (.slice Bj p p) u := fun u => by kernel_rfl
      have HDL := Lib.hid hdl
      obtain ⟨pp, hpp⟩ : ∃ pp : Int, (p : Int) = pp := ⟨_, rfl⟩
      clear hjp hdl hxl hxok hsl1 hsl2 hpdj hpp
      go_wp2_with fail
      refine HPJ.out.mono ?_
      rintro e w1 ⟨rfl, rfl⟩
      go_wp2_with fail
      refine (HTK.out _ hbx.out).mono ?_
      rintro e w1 ⟨rfl, hg1, B2, d2, hb2, hs2, hi2⟩
      have HGR1 := Lib.hid (gr_ownF hgr.out hg1 (fun q e => by cases e; omega))
      have HG1 := Lib.hid hg1
      have HB2 := Lib.hid hb2
      have HS2 := Lib.hid hs2
      have HI2 := Lib.hid hi2
      clear hg1 hb2 hs2 hi2
      go_wp2_with fail
      refine (HFL.out _ HGR1.out).mono ?_
      rintro e w2 ⟨hg2, u, rfl, hu⟩
      have HG2 := Lib.hid hg2
      have HGR2 := Lib.hid (HGR1.out.trans hg2)
      have HBX2 := Lib.hid (HB2.out.grown hg2 (by simp))
      have HO2 := Lib.hid (own_keep (own_keep ho.out (fun g hg => HG1.out.block g (ho.out.lt g hg).2 (by simp [Value.ownBlock] at hg; subst hg; simp))) (fun g hg => hg2.block g (by simp [Value.ownBlock] at hg; subst hg; have h1 := (ho.out.lt _ rfl).2; exact Nat.lt_of_lt_of_le h1 HG1.out.size) (by simp)))
      have HU := Lib.hid hu
      clear hg2 hu
      have hpf : ∀ i, i * (prodI sh).toNat = i * p := fun i => by rw [HP.out]
      have HPF := Lib.hid hpf
      obtain ⟨X, hX⟩ : ∃ X, text sh.length (fillT sh (ns.drop (j * p))) = X := ⟨_, rfl⟩
      have HX := Lib.hid hX
      rw [hX] at HU ⊢
      clear hX hpf
      by_cases h4 : X.length ≤ 400
      · rw [decide_eq_true h4]
        have HU4 := Lib.hid (show u.data.toList = X by have := HU.out; rwa [if_pos h4] at this)
        have hyl : (strW ss).length = k := by have := HO2.out.1; omega
        have hcell2 : w2.cell? ⟨w.heap.size, j, none⟩ = some (strW ss)[j] := (HO2.out.cellAt j (by omega)).trans (List.getElem?_eq_getElem (by omega))
        have hfr := HO2.out.frozenAt j
        generalize (strW ss)[j] = y0 at hcell2
        have hst := HO2.out.stored j (.string u)
        have HST := Lib.hid hst
        have H4 := Lib.hid h4
        clear hyl hst h4
        go_wp2_with fail
        go_roundw
        case rel =>
          have e5 : (j + 1) * p = j * p + p := by rw [Nat.add_mul, Nat.one_mul]
          refine ⟨j + 1, ss.set j u, B2, d2, q - p, by omega, by go_num, Lib.hid ?_, Lib.hid (FilS.set hfs.out hlt (by rw [HPF.out, HX.out]; exact HU4.out) (by rw [HU4.out]; exact H4.out)), Lib.hid (HBX2.out.grown HST.out.2 (by simp)), Lib.hid (by have := hq.out; omega), HS2, Lib.hid (fun u2 hg => ?_), Lib.hid (gr_ownF HGR2.out HST.out.2 (fun k hk => by cases hk; exact Nat.le_refl _))⟩
          · have e6 : strW (ss.set j u) = (strW ss).set j (.string u) := by simp [strW, List.map_set]
            rw [e6]
            exact HST.out.1
          · have h7 := HI2.out u2 (ns.drop (j * p)) HDL.out (hib.out u2 hg)
            rw [List.drop_drop] at h7
            rwa [e5]
        case measure => simp [intOf]; omega
      · rw [decide_eq_false h4]
        have H4 := Lib.hid h4
        clear h4
        go_wp2_with fail
        go_ret2
        have hno := HLN.out j (by simpa using hlt) (by rw [HPF.out, HX.out]; have := H4.out; omega)
        refine ⟨HGR2.out, ⟨#[]⟩, ?_, ?_⟩
        · rw [decide_eq_false hno]; rfl
        · rw [if_neg hno]
    · have hjk : j = k := by omega
      subst hjk
      have hss := hfs.out.1
      have HTX := Lib.hid hfs.out.tx
      have hsm := hfs.out.small
      have htot := tot_small ss hsm
      have ho2 := ho.out
      rw [← hss] at ho2
      obtain ⟨hstr, _, _⟩ := own_strs (base := w.heap.size) (A := some ⟨w.heap.size, 0, none⟩) (c := ss.length) (n := ss.length) ho2
      have HMK := Lib.hid (mkimpl_any (some ⟨w.heap.size, 0, none⟩) ss.length ((m : Int) + 1) ss wr hstr (by omega) (by omega) (Nat.le_refl _))
      have hokL : ∀ t ∈ filL j sh ns, okT sh.length t := fun t ht => by
        obtain ⟨i, _, rfl⟩ := List.mem_map.1 ht
        exact fillT_ok sh _ (okN_drop HOK2.out _)
      have hmi : (m : Int) + 1 = (sh.length : Int) + 1 := by rw [HM.out]
      have hlv : mkOk ss ((m : Int) + 1) = decide ((text (sh.length + 1) (show T (sh.length + 1) from filL j sh ns)).length ≤ 400) := by
        rw [hmi]
        exact mk_level hfs.out.tx hokL (by rw [HM.out]; exact hl3)
      have hmt := tx_text hfs.out.tx
      have e9 : text (sh.length + 1) (show T (sh.length + 1) from filL j sh ns) = text ((j : Int) :: sh).length (fillT ((j : Int) :: sh) ns) := rfl
      unfold MkPost at HMK
      rw [hlv] at HMK
      have HTL := Lib.hid hmt
      have HSS := Lib.hid hss
      rw [hss] at HMK
      clear hss hsm htot ho2 hstr hokL hlv hmt hmi
      go_wp2_with fail
      refine HMK.out.mono ?_
      rintro e w3 ⟨hg3, u, rfl, hu⟩
      have HG3 := Lib.hid (hgr.out.trans hg3)
      have HU := Lib.hid hu
      clear hg3 hu
      go_wp2_with fail
      go_ret2
      refine ⟨HG3.out, u, rfl, ?_⟩
      have hu := HU.out
      rw [HTL.out] at hu
      refine hu.trans ?_
      by_cases h4 : (text ((j : Int) :: sh).length (fillT ((j : Int) :: sh) ns)).length ≤ 400
      · rw [if_pos h4]
        exact if_pos (decide_eq_true h4)
      · rw [if_neg h4]
        exact if_neg (fun h => h4 (of_decide_eq_true h))

theorem fill_any {w0 : World} (htab : Lib.TabIs Tryd.prog w0 "internal/strconv.uint64pow10" .u64 Lib.pow10Tab) : ∀ (sh : List Int), okN 400 sh = true → sh.length ≤ 3 → FilAny w0 sh
  | [], _, _ => fill_zero htab
  | z :: sh, h, hl => by
    have h' := h
    simp only [okN, Bool.and_eq_true, decide_eq_true_eq] at h'
    exact fill_succ h (by simpa using hl) (fill_any htab sh h'.2 (by simp at hl; omega))
end

/- FillF -/
section
open Go.RowKit Go.Shelf

theorem fillX_no {sh ns : List Int} (h : fillB sh ns = false) : fillX sh ns = none := by unfold fillX; rw [h]; simp
theorem fillX_yes {sh ns : List Int} (h : fillB sh ns = true) : fillX sh ns = if (text sh.length (fillT sh ns)).length ≤ 400 then some (text sh.length (fillT sh ns)) else none := by unfold fillX; rw [h]; simp
theorem fillX_get {sh ns : List Int} (h : fillB sh ns = true) : (fillX sh ns).isSome = decide ((text sh.length (fillT sh ns)).length ≤ 400) ∧ (fillX sh ns).getD [] = if (text sh.length (fillT sh ns)).length ≤ 400 then text sh.length (fillT sh ns) else [] := by
  rw [fillX_yes h]
  by_cases h4 : (text sh.length (fillT sh ns)).length ≤ 400
  · rw [if_pos h4, if_pos h4, decide_eq_true h4]; exact ⟨rfl, rfl⟩
  · rw [if_neg h4, if_neg h4, decide_eq_false h4]; exact ⟨rfl, rfl⟩

set_option maxRecDepth 100000 in
set_option maxHeartbeats 4000000 in
theorem fill_impl (A : Option Addr) (c : Nat) (sh : List Int) (B : Option Addr) (d : Nat) (ns : List Int) (w : World) (hA : Ints w A sh) (hB : Ints w B ns) (hsA : Sl A sh.length c) (hsB : Sl B ns.length d) (hlA : sh.length ≤ 1048576) (hlB : ns.length ≤ 1048576) (htab : Lib.TabIs Tryd.prog w "internal/strconv.uint64pow10" .u64 Lib.pow10Tab) :
    Calls Tryd.prog 10 #[.slice A sh.length c, .slice B ns.length d] w (FUPost (fillX sh ns) w) := by
  have HD := Lib.hid (isdata_any A c 400 sh w hA hlA)
  have HD2 := Lib.hid (isdat_any B d ns w hB hlB)
  obtain ⟨n, hn⟩ : ∃ n, sh.length = n := ⟨_, rfl⟩
  obtain ⟨m, hm⟩ : ∃ m, ns.length = m := ⟨_, rfl⟩
  have hno : fillB sh ns = false → ∀ (w' : World), w.grownBy w' none → FUPost (fillX sh ns) w (.returned (.tuple #[.string ⟨#[]⟩, .bool false])) w' := fun h w' hg => by
    rw [fillX_no h]
    exact ⟨⟨⟨#[]⟩, rfl, rfl⟩, hg⟩
  have HNO := Lib.hid hno
  have HN := Lib.hid hn
  have HM := Lib.hid hm
  clear hno
  by_cases h1 : 3 < sh.length
  · have hb : fillB sh ns = false := by unfold fillB; rw [decide_eq_false (by omega)]; rfl
    have HBF := Lib.hid hb
    have hd : decide (3 < (n : Int)) = true := decide_eq_true (by omega)
    rw [hn, hm]
    clear hb h1 hA hB hsA hsB htab hn hm hlA hlB
    go_enter Tryd.func10, Tryd.ntmps10
    go_wp2_with fail
    go_ret2
    exact HNO.out HBF.out _ (gr_refl _ _)
  · have h3 : sh.length ≤ 3 := by omega
    have hd : decide (3 < (n : Int)) = false := decide_eq_false (by omega)
    have e4 : decide (sh.length ≤ 400) = true := decide_eq_true (by omega)
    rw [e4, Bool.true_and] at HD
    obtain ⟨b1, hb1⟩ : ∃ b, okN 400 sh = b := ⟨_, rfl⟩
    rw [hb1] at HD
    cases b1
    · have hb : fillB sh ns = false := by unfold fillB; rw [hb1]; simp
      have HBF := Lib.hid hb
      rw [hn] at HD
      rw [hn, hm]
      clear hb h1 hA hB hsA hsB htab hn hm hlA hlB hb1 h3 e4
      go_enter Tryd.func10, Tryd.ntmps10
      go_wp2_with fail
      refine HD.out.mono ?_
      rintro e w1 ⟨rfl, rfl⟩
      go_wp2_with fail
      go_ret2
      exact HNO.out HBF.out _ (gr_refl _ _)
    obtain ⟨b2, hb2⟩ : ∃ b, (decide (ns.length ≤ 400) && okN 10006 ns) = b := ⟨_, rfl⟩
    rw [hb2] at HD2
    cases b2
    · have hb : fillB sh ns = false := by unfold fillB; rw [hb2]; simp
      have HBF := Lib.hid hb
      rw [hn] at HD
      rw [hm] at HD2
      rw [hn, hm]
      clear hb h1 hA hB hsA hsB htab hn hm hlA hlB hb1 hb2 h3 e4
      go_enter Tryd.func10, Tryd.ntmps10
      go_wp2_with fail
      refine HD.out.mono ?_
      rintro e w1 ⟨rfl, rfl⟩
      go_wp2_with fail
      refine HD2.out.mono ?_
      rintro e w1 ⟨rfl, rfl⟩
      go_wp2_with fail
      go_ret2
      exact HNO.out HBF.out _ (gr_refl _ _)
    have HPR := Lib.hid (prodof_any A c sh w hA hb1 h3)
    obtain ⟨p, hp⟩ : ∃ p, prodI sh = p := ⟨_, rfl⟩
    by_cases hpm : p = (m : Int)
    · have hb : fillB sh ns = true := by
        unfold fillB
        rw [hb1, hb2, decide_eq_true h3, decide_eq_true (by rw [hp, hpm, hm])]
        rfl
      have hb2' := hb2
      simp only [Bool.and_eq_true, decide_eq_true_eq] at hb2'
      have HFL := Lib.hid (fill_any htab sh hb1 h3 A B c d ns w (gr_refl _ _) hA hB hsA hsB hb2'.2 (by rw [hp, hpm]; omega) hb2'.1)
      have hgt := fillX_get hb
      unfold FilP at HFL
      obtain ⟨X, hX⟩ : ∃ X, text sh.length (fillT sh ns) = X := ⟨_, rfl⟩
      rw [hX] at HFL hgt
      obtain ⟨ok, hok⟩ : ∃ b, decide (X.length ≤ 400) = b := ⟨_, rfl⟩
      rw [hok] at HFL hgt
      have HGT := Lib.hid hgt
      rw [hp, hpm] at HPR
      rw [hn] at HD HPR HFL
      rw [hm] at HD2 HFL
      rw [hn, hm]
      clear hgt hX hok hb hb2' h1 hA hB hsA hsB htab hn hm hlA hlB hb1 hb2 h3 e4 hp hpm
      go_enter Tryd.func10, Tryd.ntmps10
      go_wp2_with fail
      refine HD.out.mono ?_
      rintro e w1 ⟨rfl, rfl⟩
      go_wp2_with fail
      refine HD2.out.mono ?_
      rintro e w1 ⟨rfl, rfl⟩
      go_wp2_with fail
      refine HPR.out.mono ?_
      rintro e w1 ⟨rfl, rfl⟩
      go_wp2_with fail
      refine HFL.out.mono ?_
      rintro e w2 ⟨hg2, u, rfl, hu⟩
      have HG2 := Lib.hid hg2
      have HU := Lib.hid hu
      clear hg2 hu
      go_wp2_with fail
      go_ret2
      refine ⟨⟨u, ?_, ?_⟩, HG2.out⟩
      · rw [HGT.out.1]; rfl
      · rw [HGT.out.2, HU.out]
    · have hb : fillB sh ns = false := by
        unfold fillB
        rw [decide_eq_false (show ¬ prodI sh = (ns.length : Int) by rw [hp, hm]; exact hpm)]
        simp
      have HBF := Lib.hid hb
      have hne : ((m : Int) != p) = true := by rw [bne_iff_ne]; omega
      rw [hp] at HPR
      rw [hn] at HD HPR
      rw [hm] at HD2
      rw [hn, hm]
      clear hb h1 hA hB hsA hsB htab hn hm hlA hlB hb1 hb2 h3 e4 hp hpm
      go_enter Tryd.func10, Tryd.ntmps10
      go_wp2_with fail
      refine HD.out.mono ?_
      rintro e w1 ⟨rfl, rfl⟩
      go_wp2_with fail
      refine HD2.out.mono ?_
      rintro e w1 ⟨rfl, rfl⟩
      go_wp2_with fail
      refine HPR.out.mono ?_
      rintro e w1 ⟨rfl, rfl⟩
      go_wp2_with fail
      go_ret2
      exact HNO.out HBF.out _ (gr_refl _ _)
end

/- SFilF -/
section
open Go.RowKit Go.Shelf

theorem okN_false {hi : Int} {zs : List Int} {j : Nat} {z : Int} (hz : zs[j]? = some z) (h : ¬ (0 ≤ z ∧ z ≤ hi)) : okN hi zs = false := by
  cases hb : okN hi zs with
  | false => rfl
  | true => exact absurd (okN_at hz hb) h
set_option maxRecDepth 100000 in
set_option maxHeartbeats 4000000 in
theorem fill_spec (A : Option Addr) (c : Nat) (sh : List Int) (B : Option Addr) (d : Nat) (ns : List Int) (w : World) (hA : Ints w A sh) (hB : Ints w B ns) (hsA : Sl A sh.length c) (hsB : Sl B ns.length d) (hlA : sh.length ≤ 1048576) (hlB : ns.length ≤ 1048576) :
    Calls Tryd.prog 8 #[.slice A sh.length c, .slice B ns.length d] w (FUPost (fillX sh ns) w) := by
  have HD2 := Lib.hid (sdat_any B d ns w hB hlB)
  obtain ⟨n, hn⟩ : ∃ n, sh.length = n := ⟨_, rfl⟩
  obtain ⟨m, hm⟩ : ∃ m, ns.length = m := ⟨_, rfl⟩
  have hno : fillB sh ns = false → ∀ (w' : World), w.grownBy w' none → FUPost (fillX sh ns) w (.returned (.tuple #[.string ⟨#[]⟩, .bool false])) w' := fun h w' hg => by
    rw [fillX_no h]
    exact ⟨⟨⟨#[]⟩, rfl, rfl⟩, hg⟩
  have HNO := Lib.hid hno
  have HN := Lib.hid hn
  have HM := Lib.hid hm
  have HA := Lib.hid hA
  clear hno
  by_cases h1 : 3 < sh.length
  · have hb : fillB sh ns = false := by unfold fillB; rw [decide_eq_false (by omega)]; rfl
    have HBF := Lib.hid hb
    have hd : decide (3 < (n : Int)) = true := decide_eq_true (by omega)
    rw [hn, hm]
    clear hb h1 hA hB hsA hsB hn hm hlA hlB
    go_enter Tryd.func8, Tryd.ntmps8
    go_wp2_with fail
    go_ret2
    exact HNO.out HBF.out _ (gr_refl _ _)
  have h3 : sh.length ≤ 3 := by omega
  have hd : decide (3 < (n : Int)) = false := decide_eq_false (by omega)
  obtain ⟨b2, hb2⟩ : ∃ b, (decide (ns.length ≤ 400) && okN 10006 ns) = b := ⟨_, rfl⟩
  rw [hb2] at HD2
  cases b2
  · have hb : fillB sh ns = false := by unfold fillB; rw [hb2]; simp
    have HBF := Lib.hid hb
    rw [hm] at HD2
    rw [hn, hm]
    clear hb h1 hA hB hsA hsB hn hm hlA hlB hb2 h3
    go_enter Tryd.func8, Tryd.ntmps8
    go_wp2_with fail
    refine HD2.out.mono ?_
    rintro e w1 ⟨rfl, rfl⟩
    go_wp2_with fail
    go_ret2
    exact HNO.out HBF.out _ (gr_refl _ _)
  have hb2' := hb2
  simp only [Bool.and_eq_true, decide_eq_true_eq] at hb2'
  have HPR := Lib.hid (fun (h : okN 400 sh = true) => sprod_any A c sh w hA h h3)
  have hnA : (Value.slice A sh.length c) = .slice A n c := by rw [hn]
  have hmB : (Value.slice B ns.length d) = .slice B m d := by rw [hm]
  have HFL := Lib.hid (fun (h : okN 400 sh = true) (hp : prodI sh = (m : Int)) => show Calls Tryd.prog 33 #[.slice A n c, .slice B m d] w (SFilP sh B ns w) by
    have h9 := sfill_any sh h h3 A B c d ns w hA hB hsA hsB hb2'.2 (by rw [hp]; omega) hb2'.1
    rwa [hnA, hmB] at h9)
  have HGT := Lib.hid (fun h => @fillX_get sh ns h)
  have HFB := Lib.hid (fun (h : okN 400 sh = true) => show fillB sh ns = decide (prodI sh = (m : Int)) by
    unfold fillB
    rw [hb2, h, decide_eq_true h3, hm]
    rfl)
  have HFN := Lib.hid (fun (h : okN 400 sh = false) => show fillB sh ns = false by unfold fillB; rw [h]; simp)
  have HTL := Lib.hid (fun (h : okN 400 sh = true) (S : Nat → Prop) (m : Int) (A : Option Addr) (k c : Nat) (u : World) (hs : SNd u S sh.length (fillT sh ns) (m, .slice A k c)) => told_any S sh.length (n : Int) (fillT sh ns) m A k c u (by rw [hn]) (by omega) hs (text_fill h hb2'.2 h3))
  have HM4 : m ≤ 400 := by rw [← hm]; exact hb2'.1
  rw [hn] at HPR h3
  rw [hm] at HD2
  rw [hn, hm]
  unfold SFilP at HFL
  clear h1 hA hB hsA hsB hn hm hlA hlB hb2 hb2' hnA hmB
  go_enter Tryd.func8, Tryd.ntmps8
  go_wp2_with fail
  refine HD2.out.mono ?_
  rintro e w1 ⟨rfl, rfl⟩
  go_wp2_with fail
  go_loopw [7, 20] (fun _ i wr => ∃ (j : Nat), j ≤ n ∧ i = .int .i64 j ∧ wr = w ∧ Hid (okN 400 (sh.take j) = true)) (fun _ i _ => n - (intOf i).toNat)
  case atStart => exact ⟨0, Nat.zero_le _, rfl, rfl, Lib.hid rfl⟩
  case round =>
    obtain ⟨j, hj, rfl, rfl, hok⟩ := hrel
    by_cases hlt : j < n
    · obtain ⟨z, hz⟩ : ∃ z, sh[j]? = some z := ⟨_, List.getElem?_eq_getElem (by have := HN.out; omega)⟩
      obtain ⟨b, off, rfl, _, hc⟩ := HA.out (by have := HN.out; omega)
      have hcell := hc j z hz
      obtain ⟨b1, hb1⟩ : ∃ b1 : Bool, decide (0 ≤ z ∧ z ≤ 400) = b1 := ⟨_, rfl⟩
      have HI := Lib.hid (fun w => in_any z 0 400 b1 hb1 w)
      have HZ := Lib.hid hz
      have HB1 := Lib.hid hb1
      clear hc hz hb1
      cases b1
      · go_wp2_with fail
        refine (HI.out _).mono ?_
        rintro e w1 ⟨rfl, rfl⟩
        go_wp2_with fail
        go_ret2
        exact HNO.out (HFN.out (okN_false HZ.out (of_decide_eq_false HB1.out))) _ (gr_refl _ _)
      · go_wp2_with fail
        refine (HI.out _).mono ?_
        rintro e w1 ⟨rfl, rfl⟩
        go_wp2_with fail
        go_roundw
        case rel =>
          refine ⟨j + 1, by omega, by go_num, by trivial, Lib.hid ?_⟩
          rw [List.take_add_one, HZ.out]
          refine okN_of fun x hx => ?_
          rcases List.mem_append.1 hx with h | h
          · exact okN_mem hok.out h
          · have : x = z := by simpa using h
            rw [this]
            exact of_decide_eq_true HB1.out
        case measure => simp [intOf]; omega
    · have hok4 : okN 400 sh = true := by
        have := hok.out
        rwa [List.take_of_length_le (by have := HN.out; omega)] at this
      have HP1 := Lib.hid (HPR.out hok4)
      have HF1 := Lib.hid (HFL.out hok4)
      have HFB1 := Lib.hid (HFB.out hok4)
      have HTL1 := Lib.hid (HTL.out hok4)
      clear hok4
      obtain ⟨p, hp⟩ : ∃ p, prodI sh = p := ⟨_, rfl⟩
      rw [hp] at HP1 HFB1
      have HPP := Lib.hid hp
      clear hp
      by_cases hpm : p = (m : Int)
      · have hne : (min p 401 != (m : Int)) = false := by
          have : min p 401 = (m : Int) := by omega
          rw [this]; simp
        have HFB2 := Lib.hid (show fillB sh ns = true by rw [HFB1.out, decide_eq_true hpm])
        have HF2 := Lib.hid (HF1.out (HPP.out.trans hpm))
        have hgt := HGT.out HFB2.out
        obtain ⟨X, hX⟩ : ∃ X, text sh.length (fillT sh ns) = X := ⟨_, rfl⟩
        have HX := Lib.hid hX
        rw [hX] at hgt HTL1
        obtain ⟨ok, hok⟩ : ∃ b, decide (X.length ≤ 400) = b := ⟨_, rfl⟩
        unfold ToldPost at HTL1
        rw [hok] at hgt HTL1
        have HG2 := Lib.hid hgt
        clear hpm hgt hX hok
        go_wp2_with fail
        refine HP1.out.mono ?_
        rintro e w1 ⟨rfl, rfl⟩
        go_wp2_with fail
        refine HF2.out.mono ?_
        rintro e w2 ⟨hg2, m2, A2, k2, c2, B2, d2, rfl, _, hnd, _⟩
        have HG5 := Lib.hid (hg2.trans (World.grownBy_alloc w2 (.cells #[.int .i64 m2, .slice A2 k2 c2] 61) none))
        have HND := Lib.hid (SNd.keep (w' := w2.alloc (.cells #[.int .i64 m2, .slice A2 k2 c2] 61)) (fun b _ hb => Below.heap_alloc w2 _ b hb) (fun b hb _ => hb) sh.length _ _ hnd)
        clear hg2 hnd
        go_wp2_with fail
        refine (HTL1.out _ _ _ _ _ _ HND.out).mono ?_
        rintro e w3 ⟨hg3, u, rfl, hu⟩
        have HG6 := Lib.hid (HG5.out.trans hg3)
        have HU := Lib.hid hu
        clear hg3 hu
        go_wp2_with fail
        go_ret2
        refine ⟨⟨u, ?_, ?_⟩, HG6.out⟩
        · rw [HG2.out.1]; rfl
        · rw [HG2.out.2, HU.out]
      · have hne : (min p 401 != (m : Int)) = true := by rw [bne_iff_ne]; omega
        have HFB2 := Lib.hid (show fillB sh ns = false by rw [HFB1.out, decide_eq_false hpm])
        clear hpm
        go_wp2_with fail
        refine HP1.out.mono ?_
        rintro e w1 ⟨rfl, rfl⟩
        go_wp2_with fail
        go_ret2
        exact HNO.out HFB2.out _ (gr_refl _ _)
end

end Go.Proofs.YtachjodnhgmoiaaDoor

/- What WeaveData of the program does, and both at once. -/
import Derived.Test.YtpakihjkjdanlaaWevS
import Derived.Test.YtpakihjkjdanlaaQueS
namespace Go.Proofs.Ytpakihjkjdanlaa
open Go.RowKit Go.Conc

/-- What lies in the two queues once the first j flags have taken theirs. -/
def ChW (F A B : List Int) (ca cb m k j : Nat) (w : World) : Prop :=
  w.heap[ca]? = some (.chan m (((A.drop (cnW F j)).map (Value.int .i64)).toArray) true m (cnW F j) false) ∧
    w.heap[cb]? = some (.chan k (((B.drop (j - cnW F j)).map (Value.int .i64)).toArray) true k (j - cnW F j) false) ∧ cnW F j ≤ m ∧ j - cnW F j ≤ k
theorem chan_head {L : List Int} {r : Nat} {z : Int} (h : L[r]? = some z) : 0 < (((L.drop r).map (Value.int .i64)).toArray).size ∧ (((L.drop r).map (Value.int .i64)).toArray).getD 0 undef = .int .i64 z ∧
    (((L.drop r).map (Value.int .i64)).toArray).extract 1 (((L.drop r).map (Value.int .i64)).toArray).size = ((L.drop (r + 1)).map (Value.int .i64)).toArray := by
  obtain ⟨hl, hz⟩ := List.getElem?_eq_some_iff.1 h
  have e : L.drop r = z :: L.drop (r + 1) := by rw [List.drop_eq_getElem_cons hl, hz]
  rw [e]
  generalize L.drop (r + 1) = M
  refine ⟨by simp, by simp, ?_⟩
  apply Array.ext'
  simp
  exact List.take_of_length_le (by simp)
theorem setChan_else {w : World} {c d cap s r : Nat} {buf : Array Value} {cl tm : Bool} (h : d ≠ c) : (w.setChan c cap buf cl s r tm).heap[d]? = w.heap[d]? := by
  simp only [World.setChan]
  rw [Array.getElem?_setIfInBounds_ne (fun e => h e.symm)]
theorem chW_take {F A B : List Int} {ca cb m k j : Nat} {w : World} {f : Int} (hf : F[j]? = some f) (hm : A.length = m) (hk : B.length = k) (hne : ca < cb) (h : ChW F A B ca cb m k j w) :
    (∃ cap buf s r z, w.heap[if f = 0 then cb else ca]? = some (.chan cap buf true s r false) ∧ 0 < buf.size ∧ buf.getD 0 undef = .int .i64 z ∧ weaveI F A B (j + 1) = weaveI F A B j ++ [z] ∧
      ChW F A B ca cb m k (j + 1) (w.setChan (if f = 0 then cb else ca) cap (buf.extract 1 buf.size) true s (r + 1) false)) ∨
    (∃ cap s r, w.heap[if f = 0 then cb else ca]? = some (.chan cap #[] true s r false) ∧ ((f ≠ 0 ∧ cnW F j = m) ∨ (f = 0 ∧ j - cnW F j = k))) := by
  obtain ⟨h1, h2, h3, h4⟩ := h
  have hst := cnW_step hf
  have hle := cnW_le F j
  have l1 := (Array.getElem?_eq_some_iff.1 h1).1
  have l2 := (Array.getElem?_eq_some_iff.1 h2).1
  by_cases h0 : f = 0
  · replace hst : cnW F (j + 1) = cnW F j := by rw [if_pos h0] at hst; omega
    rw [if_pos h0]
    by_cases hlt : j - cnW F j < k
    · left
      obtain ⟨z, hz⟩ : ∃ z, B[j - cnW F j]? = some z := ⟨_, List.getElem?_eq_getElem (by omega)⟩
      obtain ⟨e1, e2, e3⟩ := chan_head hz
      refine ⟨_, _, _, _, z, h2, e1, e2, weaveI_zero hf h0 hz, ?_⟩
      rw [e3]
      refine ⟨?_, ?_, by omega, by omega⟩
      · rw [setChan_else (by omega), hst]
        exact h1
      · rw [heap_setChan _ _ _ _ _ _ _ _ l2, hst, show j + 1 - cnW F j = j - cnW F j + 1 from by omega]
    · right
      have e : j - cnW F j = k := by omega
      refine ⟨k, k, j - cnW F j, ?_, .inr ⟨h0, e⟩⟩
      rw [h2, List.drop_of_length_le (by omega)]
      rfl
  · rw [if_neg h0] at hst
    rw [if_neg h0]
    by_cases hlt : cnW F j < m
    · left
      obtain ⟨z, hz⟩ : ∃ z, A[cnW F j]? = some z := ⟨_, List.getElem?_eq_getElem (by omega)⟩
      obtain ⟨e1, e2, e3⟩ := chan_head hz
      refine ⟨_, _, _, _, z, h1, e1, e2, weaveI_one hf h0 hz, ?_⟩
      rw [e3]
      refine ⟨?_, ?_, by omega, by omega⟩
      · rw [heap_setChan _ _ _ _ _ _ _ _ l1, hst]
      · rw [setChan_else (by omega), hst, show j + 1 - (cnW F j + 1) = j - cnW F j from by omega]
        exact h2
    · right
      have e : cnW F j = m := by omega
      refine ⟨m, m, cnW F j, ?_, .inl ⟨h0, e⟩⟩
      rw [h1, List.drop_of_length_le (by omega)]
      rfl
theorem chW_keep {F A B : List Int} {ca cb m k j g : Nat} {w w' : World} (h : ChW F A B ca cb m k j w) (hg : w.grownBy w' (some g)) (h1 : ca ≠ g) (h2 : cb ≠ g) : ChW F A B ca cb m k j w' :=
  ⟨(hg.block ca (Array.getElem?_eq_some_iff.1 h.1).1 (fun e => h1 (by cases e; rfl))).trans h.1, (hg.block cb (Array.getElem?_eq_some_iff.1 h.2.1).1 (fun e => h2 (by cases e; rfl))).trans h.2.1, h.2.2⟩
theorem chW_fail {F : List Int} {m k j n : Nat} {f : Int} (hf : F[j]? = some f) (hn : F.length = n) (h : (f ≠ 0 ∧ cnW F j = m) ∨ (f = 0 ∧ j - cnW F j = k)) : cnW F n ≠ m ∨ n - cnW F n ≠ k := by
  have hst := cnW_step hf
  have hr := cnW_rest F (j + 1)
  have hle := cnW_le F j
  have hj := (List.getElem?_eq_some_iff.1 hf).1
  rw [hn] at hr hj
  rcases h with ⟨h0, h⟩ | ⟨h0, h⟩
  · rw [if_neg h0] at hst
    left
    omega
  · rw [if_pos h0] at hst
    right
    omega

set_option maxHeartbeats 2000000 in
theorem weave_no (A1 A2 A3 : Option Addr) (c1 c2 c3 : Nat) (F A B : List Int) (w : World) (h1 : Ints w A1 F) (h2 : Ints w A2 A) (h3 : Ints w A3 B) (hn : F.length ≤ 1048576) (hm : A.length ≤ 1048576) (hk : B.length ≤ 1048576)
    (hb : dataB F = false ∨ dataB A = false ∨ dataB B = false ∨ A.length + B.length ≠ F.length) :
    Calls Try.prog 35 #[.slice A1 F.length c1, .slice A2 A.length c2, .slice A3 B.length c3] w (ListPostB [] false w) := by
  have HS1 := Lib.hid (isdata1_any A1 c1 F w h1 hn)
  have HS2 := Lib.hid (isdata1_any A2 c2 A w h2 hm)
  have HS3 := Lib.hid (isdata1_any A3 c3 B w h3 hk)
  obtain ⟨b1, hb1⟩ : ∃ b, dataB F = b := ⟨_, rfl⟩
  obtain ⟨b2, hb2⟩ : ∃ b, dataB A = b := ⟨_, rfl⟩
  obtain ⟨b3, hb3⟩ : ∃ b, dataB B = b := ⟨_, rfl⟩
  rw [hb1] at HS1 hb
  rw [hb2] at HS2 hb
  rw [hb3] at HS3 hb
  obtain ⟨n, hnn⟩ : ∃ n, F.length = n := ⟨_, rfl⟩
  obtain ⟨m, hmm⟩ : ∃ m, A.length = m := ⟨_, rfl⟩
  obtain ⟨k, hkk⟩ : ∃ k, B.length = k := ⟨_, rfl⟩
  rw [hnn] at HS1 hb hn ⊢
  rw [hmm] at HS2 hb hm ⊢
  rw [hkk] at HS3 hb hk ⊢
  clear h1 h2 h3 hb1 hb2 hb3 hnn hmm hkk
  go_enter Try.func35, Try.ntmps35
  cases b1 with
  | false =>
    go_wp2_with fail
    refine HS1.out.mono ?_
    rintro e w1 ⟨rfl, rfl⟩
    go_wp2_with fail
    go_ret2
    exact postB_no _ _ (gr_refl _ _)
  | true =>
    cases b2 with
    | false =>
      go_wp2_with fail
      refine HS1.out.mono ?_
      rintro e w1 ⟨rfl, rfl⟩
      go_wp2_with fail
      refine HS2.out.mono ?_
      rintro e w1 ⟨rfl, rfl⟩
      go_wp2_with fail
      go_ret2
      exact postB_no _ _ (gr_refl _ _)
    | true =>
      cases b3 with
      | false =>
        go_wp2_with fail
        refine HS1.out.mono ?_
        rintro e w1 ⟨rfl, rfl⟩
        go_wp2_with fail
        refine HS2.out.mono ?_
        rintro e w1 ⟨rfl, rfl⟩
        go_wp2_with fail
        refine HS3.out.mono ?_
        rintro e w1 ⟨rfl, rfl⟩
        go_wp2_with fail
        go_ret2
        exact postB_no _ _ (gr_refl _ _)
      | true =>
        have hne : ((m : Int) + (k : Int) != (n : Int)) = true := by
          rw [bne_iff_ne]
          rcases hb with h | h | h | h
          · cases h
          · cases h
          · cases h
          · omega
        clear hb
        go_wp2_with fail
        refine HS1.out.mono ?_
        rintro e w1 ⟨rfl, rfl⟩
        go_wp2_with fail
        refine HS2.out.mono ?_
        rintro e w1 ⟨rfl, rfl⟩
        go_wp2_with fail
        refine HS3.out.mono ?_
        rintro e w1 ⟨rfl, rfl⟩
        go_wp2_with fail
        go_ret2
        exact postB_no _ _ (gr_refl _ _)

set_option maxRecDepth 100000 in
set_option maxHeartbeats 8000000 in
theorem weave_yes (A1 A2 A3 : Option Addr) (c1 c2 c3 : Nat) (F A B : List Int) (w : World) (h1 : Ints w A1 F) (h2 : Ints w A2 A) (h3 : Ints w A3 B) (hb1 : dataB F = true) (hb2 : dataB A = true) (hb3 : dataB B = true) (hl : A.length + B.length = F.length) :
    Calls Try.prog 35 #[.slice A1 F.length c1, .slice A2 A.length c2, .slice A3 B.length c3] w (ListPostB (weaveR F A B) (weaveB F A B) w) := by
  have hn4 := (dataB_get hb1).1
  have HS1 := Lib.hid (isdata1_any A1 c1 F w h1 (by omega))
  have HS2 := Lib.hid (isdata1_any A2 c2 A w h2 (by omega))
  have HS3 := Lib.hid (isdata1_any A3 c3 B w h3 (by omega))
  have HQ1 := Lib.hid (queue_any A2 c2 A w h2 (by omega))
  have HQ2 := Lib.hid (fun u (hg : w.grownBy u none) => queue_any A3 c3 B u (h3.grown hg (by simp)) (by omega))
  have HF := Lib.hid h1
  have HNO : Hid (cnW F F.length ≠ A.length ∨ F.length - cnW F F.length ≠ B.length → weaveR F A B = [] ∧ weaveB F A B = false) := Lib.hid (fun h => by
    have : weaveB F A B = false := by rcases h with h | h <;> simp [weaveB, fitB, h]
    simp [weaveR, this])
  have HYES : Hid (cnW F F.length = A.length → F.length - cnW F F.length = B.length → weaveR F A B = weaveI F A B F.length ∧ weaveB F A B = true) := Lib.hid (fun g4 g5 => by
    have : weaveB F A B = true := by simp [weaveB, fitB, hb1, hb2, hb3, g4, ← g5]
    simp [weaveR, this])
  obtain ⟨zs, hzs⟩ : ∃ zs, weaveR F A B = zs := ⟨_, rfl⟩
  obtain ⟨bb, hbb⟩ : ∃ bb, weaveB F A B = bb := ⟨_, rfl⟩
  rw [hb1] at HS1
  rw [hb2] at HS2
  rw [hb3] at HS3
  rw [hzs, hbb] at HNO HYES ⊢
  obtain ⟨n, hnn⟩ : ∃ n, F.length = n := ⟨_, rfl⟩
  obtain ⟨m, hmm⟩ : ∃ m, A.length = m := ⟨_, rfl⟩
  obtain ⟨k, hkk⟩ : ∃ k, B.length = k := ⟨_, rfl⟩
  have HN := Lib.hid hnn
  have HM := Lib.hid hmm
  have HK := Lib.hid hkk
  rw [hnn] at HS1 HNO HYES hn4 hl ⊢
  rw [hmm] at HS2 HQ1 HNO HYES hl ⊢
  rw [hkk] at HS3 HQ2 HNO HYES hl ⊢
  have hne : ((m : Int) + (k : Int) != (n : Int)) = false := by simp; omega
  have hmk := make_run n (by omega)
  clear h1 h2 h3 hb1 hb2 hb3 hzs hbb hnn hmm hkk
  refine calls_of_codeN Try.func35 rfl ?_
  simp only [Try.ntmps35, List.size_toArray, List.length_cons, List.length_nil, Nat.reduceAdd, Nat.reduceSub, Array.replicate_succ, Array.replicate_zero, List.push_toArray, List.append_toArray, List.nil_append, List.cons_append]
  refine codeN_seq ?_
  refine CodeN.of ?_
  go_wp2
  refine codeN_seq ?_
  refine CodeN.of ?_
  go_wp2_with fail
  refine HS1.out.mono ?_
  rintro e w1 ⟨rfl, rfl⟩
  go_wp2_with fail
  refine HS2.out.mono ?_
  rintro e w1 ⟨rfl, rfl⟩
  go_wp2_with fail
  refine HS3.out.mono ?_
  rintro e w1 ⟨rfl, rfl⟩
  go_wp2_with fail
  -- MADE by gen_wevi.py
  refine codeN_seq ?_
  refine CodeN.of ?_
  go_wp2_with fail
  refine HQ1.out.mono ?_
  rintro e w1 ⟨rfl, hg1, hc1⟩
  have HQ3 := Lib.hid (HQ2.out w1 hg1)
  have HG1 := Lib.hid hg1
  have HC1 := Lib.hid hc1
  clear hg1 hc1 HQ1 HQ2
  go_wp2_with fail
  refine HQ3.out.mono ?_
  rintro e w2 ⟨rfl, hg2, hc2⟩
  obtain ⟨ca, hca⟩ : ∃ x, w.heap.size = x := ⟨_, rfl⟩
  obtain ⟨cb, hcb⟩ : ∃ x, w1.heap.size = x := ⟨_, rfl⟩
  obtain ⟨g, hgg⟩ : ∃ x, w2.heap.size = x := ⟨_, rfl⟩
  have hlt1 : ca < cb := by
    have := (Array.getElem?_eq_some_iff.1 HC1.out).1
    omega
  have hlt2 : cb < g := by
    have := (Array.getElem?_eq_some_iff.1 hc2).1
    omega
  obtain ⟨W3, hW3⟩ : ∃ W3, w2.alloc (.cells (madeCells #[.int .i64 0] n) 3) = W3 := ⟨_, rfl⟩
  have g3 : w2.grownBy W3 none := by rw [← hW3]; exact World.grownBy_alloc _ _ _
  have ho3 : W3.ownsRow g 3 1 (.slice (some ⟨g, 0, none⟩) n n) n (madeCells #[.int .i64 0] n).toList := by
    rw [← hW3, ← hgg]
    exact made_own w2 n (by omega)
  have hca3 : W3.heap[ca]? = some (.chan m ((A.map (Value.int .i64)).toArray) true m 0 false) := by
    rw [g3.block ca (by omega) (by simp), hg2.block ca (by omega) (by simp), ← hca]
    exact HC1.out
  have hcb3 : W3.heap[cb]? = some (.chan k ((B.map (Value.int .i64)).toArray) true k 0 false) := by
    rw [g3.block cb (by omega) (by simp), ← hcb]
    exact hc2
  have HO3 := Lib.hid ho3
  have HCA3 := Lib.hid hca3
  have HCB3 := Lib.hid hcb3
  have HG3 := Lib.hid ((HG1.out.trans hg2).trans g3)
  have HW3 := Lib.hid hW3
  have HCC := Lib.hid (And.intro hlt1 (And.intro hlt2 hca))
  have HSZ := Lib.hid (And.intro hca (And.intro hcb hgg))
  clear hg2 hc2 HQ3 HC1 ho3 hca3 hcb3 hW3 g3 hlt1 hlt2
  rw [hca, hcb]
  go_wp2_with fail
  refine codeN_seq ?_
  refine CodeN.of ?_
  go_wp2
  rw [HW3.out]
  clear hca hcb hgg hmk
  refine codeN_seq ?_
  refine codeN_seq ?_
  refine CodeN.of ?_
  go_wp2
  refine codeN_block ?_
  refine codeN_loop (fun mm a wr => ∃ (j : Nat) (ys : List Value) (u11 u12 u13 u14 u15 u16 u17 u18 u19 u20 u21 u22 u23 u24 u25 u26 u27 u28 u29 u30 u31 u32 u33 u34 u35 u36 u37 u38 u39 u40 u41 u42 u43 u44 u45 u49 u50 u51 u52 u53 u54 u55 u56 u57 u58 u59 u60 u61 u62 u63 u64 u65 u66 u67 u68 : Value), a = { tmps := #[.slice A1 n c1, .slice A2 m c2, .slice A3 k c3, undef, undef, undef, .slice none 0 0, .bool false, .chan (some ca), .chan (some cb), .slice (some ⟨g, 0, none⟩) n n, u11, u12, u13, u14, u15, u16, u17, u18, u19, u20, u21, u22, u23, u24, u25, u26, u27, u28, u29, u30, u31, u32, u33, u34, u35, u36, u37, u38, u39, u40, u41, u42, u43, u44, u45, .slice A1 n c1, .int .i64 (n : Int), .int .i64 (j : Int), u49, u50, u51, u52, u53, u54, u55, u56, u57, u58, u59, u60, u61, u62, u63, u64, u65, u66, u67, u68, undef], defers := [] } ∧ j ≤ n ∧ mm = n - j ∧ Hid (wr.ownsRow g 3 1 (.slice (some ⟨g, 0, none⟩) n n) n ys) ∧ Hid (ys.take j = (weaveI F A B j).map (Value.int .i64)) ∧ Hid (w.grownBy wr none) ∧ Hid (ChW F A B ca cb m k j wr)) n ?start ?round
  case start =>
    exact ⟨0, _, _, _, _, _, _, _, _, _, _, _, _, _, _, _, _, _, _, _, _, _, _, _, _, _, _, _, _, _, _, _, _, _, _, _, _, _, _, _, _, _, _, _, _, _, _, _, _, _, _, _, _, _, _, _, _, rfl, Nat.zero_le _, rfl, HO3, Lib.hid rfl, HG3, Lib.hid ⟨by rw [HCA3.out]; rfl, by rw [HCB3.out]; rfl, Nat.zero_le _, Nat.zero_le _⟩⟩
  case round =>
    rintro mm a wr ⟨j, ys, u11, u12, u13, u14, u15, u16, u17, u18, u19, u20, u21, u22, u23, u24, u25, u26, u27, u28, u29, u30, u31, u32, u33, u34, u35, u36, u37, u38, u39, u40, u41, u42, u43, u44, u45, u49, u50, u51, u52, u53, u54, u55, u56, u57, u58, u59, u60, u61, u62, u63, u64, u65, u66, u67, u68, rfl, hj, rfl, hown, hyt, hgr, hch⟩
    refine codeN_seq ?_
    refine CodeN.of ?_
    by_cases hlt : j < n
    · obtain ⟨f, hf⟩ : ∃ f, F[j]? = some f := ⟨_, List.getElem?_eq_getElem (by have := HN.out; omega)⟩
      obtain ⟨b, off, rfl, _, hc⟩ := HF.out.grown hgr.out (by simp) (by have := HN.out; omega)
      have hcell := hc j f hf
      have HFJ := Lib.hid hf
      obtain ⟨ch, hchv⟩ : ∃ ch, (if f = 0 then cb else ca) = ch := ⟨_, rfl⟩
      have hstep := chW_take hf HM.out HK.out HCC.out.1 hch.out
      rw [hchv] at hstep
      have hlow : w.heap.size ≤ ch := by
        have h1 := HCC.out
        rw [← hchv]
        split <;> omega
      have hgc : g ≠ ch := by
        have h1 := HCC.out
        rw [← hchv]
        split <;> omega
      have HCV := Lib.hid hchv
      clear hc hf hchv
      rcases hstep with ⟨cap, buf, s, r, z, hcn, hpos, hget, hwv, hnx⟩ | ⟨cap, s, r, hcn, hwhy⟩
      · obtain ⟨W5, hW5⟩ : ∃ W5, wr.setChan ch cap (buf.extract 1 buf.size) true s (r + 1) false = W5 := ⟨_, rfl⟩
        rw [hW5] at hnx
        have hg5 : wr.grownBy W5 (some ch) := by rw [← hW5]; exact setChan_grown _ _ _ _ _ _ _ _
        have ho5 := own_keep hown.out (fun k e => hg5.block k (hown.out.lt k e).2 (fun e2 => hgc (by cases e; cases e2; rfl)))
        have hyl : ys.length = n := by have := hown.out.1; omega
        have hcell3 : W5.cell? ⟨g, j, none⟩ = some ys[j] := by have := (ho5.cellAt j (by omega)).trans (List.getElem?_eq_getElem (by omega)); simpa using this
        have hfr : W5.frozen? ⟨g, j, none⟩ = false := by have := ho5.frozenAt j; simpa using this
        have HST := Lib.hid (ho5.stored j (.int .i64 z))
        have HYT : Hid ((ys.set j (.int .i64 z)).take (j + 1) = (weaveI F A B (j + 1)).map (Value.int .i64)) := Lib.hid (by
          rw [take_setX _ _ _ (by omega), hyt.out, hwv, List.map_append]
          rfl)
        have HG5 := Lib.hid (gr_own hgr.out hg5 (fun k e => by cases e; exact hlow))
        have HNX := Lib.hid hnx
        have HW5 := Lib.hid hW5
        have HCN := Lib.hid hcn
        have HPOS := Lib.hid hpos
        have HGET := Lib.hid hget
        generalize ys[j] = y0 at hcell3
        clear hcn hpos hget hwv hnx hW5 hg5 ho5 hyl hgr hyt hown hch
        go_wp2
        refine codeN_seq ?_
        refine codeN_true rfl ?_
        refine CodeN.of (wp_skip ?_)
        refine codeN_seq ?_
        refine codeN_block ?_
        refine codeN_seq ?_
        refine CodeN.of ?_
        go_wp2
        refine codeN_seq ?_
        refine CodeN.of ?_
        go_wp2
        refine codeN_cut (fun a' w' => ∃ (v53 v54 v55 v56 : Value), a' = { tmps := #[.slice (some ⟨b, off, none⟩) n c1, .slice A2 m c2, .slice A3 k c3, undef, undef, undef, .slice none 0 0, .bool false, .chan (some ca), .chan (some cb), .slice (some ⟨g, 0, none⟩) n n, .int .i64 (j : Int), .int .i64 f, .chan (some ch), u14, u15, u16, u17, u18, u19, u20, u21, u22, u23, u24, u25, u26, u27, u28, u29, u30, u31, u32, u33, u34, u35, u36, u37, u38, u39, u40, u41, u42, u43, u44, u45, .slice (some ⟨b, off, none⟩) n c1, .int .i64 (n : Int), .int .i64 (j : Int), .bool true, .int .i64 (j : Int), .pointer (some ⟨b, off + j, none⟩), .int .i64 f, v53, v54, v55, v56, u57, u58, u59, u60, u61, u62, u63, u64, u65, u66, u67, u68, undef], defers := [] } ∧ w' = wr) ?c1 ?c2
        case c1 =>
          refine codeN_hide (fun Q' hQ => ?_)
          refine CodeN.of ?_
          by_cases h0 : f = 0
          · have hcv := HCV.out
            rw [if_pos h0] at hcv
            subst hcv
            subst h0
            go_wp2
            all_goals first | exact ⟨_, _, _, _, rfl, rfl⟩ | exact ⟨_, _, _, _, rfl, trivial⟩
          · have hcv := HCV.out
            rw [if_neg h0] at hcv
            subst hcv
            have hz1 : (f == 0) = false := by simpa using h0
            go_wp2
            all_goals first | exact ⟨_, _, _, _, rfl, rfl⟩ | exact ⟨_, _, _, _, rfl, trivial⟩
        case c2 =>
          rintro a' w' ⟨v53, v54, v55, v56, rfl, rfl⟩
          refine codeN_seq ?_
          refine codeN_hide (fun Q' hQ => ?_)
          refine codeN_region ?_
          simp only [List.size_toArray, List.length_cons, List.length_nil, Nat.reduceAdd, Nat.zero_add, List.range, List.range.loop]
          refine opsN_value rfl rfl rfl ?_
          go_simp
          refine opsN_recv true (c := ch) (z := .int .i64 0) rfl rfl (by simp [go_sem, rcase]) HCN.out HPOS.out ?_
          rw [HW5.out, HGET.out]
          simp only [got, if_true]
          go_simp
          refine opsN_value rfl rfl rfl ?_
          go_simp
          refine opsN_value rfl rfl rfl ?_
          go_simp
          refine opsN_value rfl rfl rfl ?_
          go_simp
          refine opsN_value rfl rfl rfl ?_
          go_simp
          refine opsN_value rfl rfl rfl ?_
          go_simp
          refine opsN_nil (hQ _ _ ?_)
          clear hQ
          change CodeN _ _ _ _ _
          refine codeN_seq ?_
          refine CodeN.of ?_
          go_wp2
          refine codeN_hide (fun Q' hQ => ?_)
          refine CodeN.of ?_
          go_wp2
          change CodeN _ _ _ _ _
          refine codeN_hide (fun Q' hQ => ?_)
          refine CodeN.of ?_
          go_wp2
          change ∃ m' : Nat, _
          exact ⟨n - (j + 1), by omega, j + 1, _, _, _, _, _, _, _, _, _, _, _, _, _, _, _, _, _, _, _, _, _, _, _, _, _, _, _, _, _, _, _, _, _, _, _, _, _, _, _, _, _, _, _, _, _, _, _, _, _, _, _, _, _, _, _, _, rfl, by omega, rfl, Lib.hid HST.out.1, HYT, Lib.hid (gr_own HG5.out HST.out.2 (fun k e => by cases e; have := HCC.out; omega)), Lib.hid (chW_keep HNX.out HST.out.2 (by have := HCC.out; omega) (by have := HCC.out; omega))⟩
      · have HR := Lib.hid (HNO.out (chW_fail HFJ.out HN.out hwhy))
        have HCN := Lib.hid hcn
        clear hcn hwhy hown hyt hch hgc
        go_wp2
        refine codeN_seq ?_
        refine codeN_true rfl ?_
        refine CodeN.of (wp_skip ?_)
        refine codeN_seq ?_
        refine codeN_block ?_
        refine codeN_seq ?_
        refine CodeN.of ?_
        go_wp2
        refine codeN_seq ?_
        refine CodeN.of ?_
        go_wp2
        refine codeN_cut (fun a' w' => ∃ (v53 v54 v55 v56 : Value), a' = { tmps := #[.slice (some ⟨b, off, none⟩) n c1, .slice A2 m c2, .slice A3 k c3, undef, undef, undef, .slice none 0 0, .bool false, .chan (some ca), .chan (some cb), .slice (some ⟨g, 0, none⟩) n n, .int .i64 (j : Int), .int .i64 f, .chan (some ch), u14, u15, u16, u17, u18, u19, u20, u21, u22, u23, u24, u25, u26, u27, u28, u29, u30, u31, u32, u33, u34, u35, u36, u37, u38, u39, u40, u41, u42, u43, u44, u45, .slice (some ⟨b, off, none⟩) n c1, .int .i64 (n : Int), .int .i64 (j : Int), .bool true, .int .i64 (j : Int), .pointer (some ⟨b, off + j, none⟩), .int .i64 f, v53, v54, v55, v56, u57, u58, u59, u60, u61, u62, u63, u64, u65, u66, u67, u68, undef], defers := [] } ∧ w' = wr) ?c1 ?c2
        case c1 =>
          refine codeN_hide (fun Q' hQ => ?_)
          refine CodeN.of ?_
          by_cases h0 : f = 0
          · have hcv := HCV.out
            rw [if_pos h0] at hcv
            subst hcv
            subst h0
            go_wp2
            all_goals first | exact ⟨_, _, _, _, rfl, rfl⟩ | exact ⟨_, _, _, _, rfl, trivial⟩
          · have hcv := HCV.out
            rw [if_neg h0] at hcv
            subst hcv
            have hz1 : (f == 0) = false := by simpa using h0
            go_wp2
            all_goals first | exact ⟨_, _, _, _, rfl, rfl⟩ | exact ⟨_, _, _, _, rfl, trivial⟩
        case c2 =>
          rintro a' w' ⟨v53, v54, v55, v56, rfl, rfl⟩
          refine codeN_seq ?_
          refine codeN_hide (fun Q' hQ => ?_)
          refine codeN_region ?_
          simp only [List.size_toArray, List.length_cons, List.length_nil, Nat.reduceAdd, Nat.zero_add, List.range, List.range.loop]
          refine opsN_value rfl rfl rfl ?_
          go_simp
          refine opsN_recv_shut true (c := ch) (z := .int .i64 0) rfl rfl (by simp [go_sem, rcase]) HCN.out ?_
          simp only [got, if_true]
          go_simp
          refine opsN_value rfl rfl rfl ?_
          go_simp
          refine opsN_value rfl rfl rfl ?_
          go_simp
          refine opsN_value rfl rfl rfl ?_
          go_simp
          refine opsN_value rfl rfl rfl ?_
          go_simp
          refine opsN_value rfl rfl rfl ?_
          go_simp
          refine opsN_nil (hQ _ _ ?_)
          clear hQ
          change CodeN _ _ _ _ _
          refine codeN_seq ?_
          refine CodeN.of ?_
          go_wp2
          refine ⟨.inr trivial, trivial, .tuple #[.slice none 0 0, .bool false], by simp [results, Try.results35, go_sem], by rw [HR.out.1, HR.out.2]; exact postB_no _ _ hgr.out⟩
    · have hjn : j = n := by omega
      subst hjn
      have h5 := hch.out
      have h6 := cnW_le F j
      obtain ⟨_, _, h7, h8⟩ := h5
      have HR := Lib.hid (HYES.out (by omega) (by omega))
      have HZ : Hid (wr.ownsRow g 3 1 (.slice (some ⟨g, 0, none⟩) j j) j (zs.map (Value.int .i64))) := Lib.hid (by
        have h3 := hyt.out
        rw [List.take_of_length_le (by have := hown.out.1; omega)] at h3
        rw [HR.out.1, ← h3]
        exact hown.out)
      have HZL : Hid (zs.length = j) := Lib.hid (by rw [HR.out.1, weaveI_len])
      clear hown hyt hch h6 h7 h8
      go_wp2
      refine codeN_seq ?_
      refine codeN_false rfl ?_
      refine CodeN.of (wp_exit ?_)
      simp only [Exit.then, Exit.inBlock, if_true]
      refine CodeN.of ?_
      go_wp2
      refine ⟨.tuple #[.slice (some ⟨g, 0, none⟩) j j, .bool true], by simp [results, Try.results35, go_sem], ?_⟩
      rw [HR.out.2]
      refine ⟨some ⟨g, 0, none⟩, j, by rw [HZL.out], hgr.out, ?_⟩
      rw [HZL.out]
      exact own_base HZ.out (by have := HCC.out; omega)

theorem weave_impl (A1 A2 A3 : Option Addr) (c1 c2 c3 : Nat) (F A B : List Int) (w : World) (h1 : Ints w A1 F) (h2 : Ints w A2 A) (h3 : Ints w A3 B) (hn : F.length ≤ 1048576) (hm : A.length ≤ 1048576) (hk : B.length ≤ 1048576) :
    Calls Try.prog 35 #[.slice A1 F.length c1, .slice A2 A.length c2, .slice A3 B.length c3] w (ListPostB (weaveR F A B) (weaveB F A B) w) := by
  by_cases hb : dataB F = true ∧ dataB A = true ∧ dataB B = true ∧ A.length + B.length = F.length
  · exact weave_yes A1 A2 A3 c1 c2 c3 F A B w h1 h2 h3 hb.1 hb.2.1 hb.2.2.1 hb.2.2.2
  · have hb2 : dataB F = false ∨ dataB A = false ∨ dataB B = false ∨ A.length + B.length ≠ F.length := by
      cases e1 : dataB F with
      | false => exact .inl rfl
      | true =>
        cases e2 : dataB A with
        | false => exact .inr (.inl rfl)
        | true =>
          cases e3 : dataB B with
          | false => exact .inr (.inr (.inl rfl))
          | true => exact .inr (.inr (.inr (fun e => hb ⟨e1, e2, e3, e⟩)))
    have hw : weaveB F A B = false := by
      rcases hb2 with h | h | h | h
      · simp [weaveB, h]
      · simp [weaveB, h]
      · simp [weaveB, h]
      · have h6 := cnW_le F F.length
        cases hf : fitB F A B with
        | false => simp [weaveB, hf]
        | true =>
          simp only [fitB, Bool.and_eq_true, decide_eq_true_eq] at hf
          omega
    have hr : weaveR F A B = [] := by simp [weaveR, hw]
    rw [hr, hw]
    exact weave_no A1 A2 A3 c1 c2 c3 F A B w h1 h2 h3 hn hm hk hb2

/-- Both at once: the same numbers. -/
theorem both_weave (L D F : List Int) (hn : L.length ≤ 1048576) (hm : D.length ≤ 1048576) (hf : F.length ≤ 1048576) : ∃ (zs : List Int) (b : Bool), zs.length ≤ 1048576 ∧
    (∀ v u t w, OwnI w v L → OwnI w u D → OwnI w t F → Calls Try.prog 34 #[v, u, t] w fun e w' => ∃ A c, e = .returned (.tuple #[.slice A zs.length c, .bool b]) ∧ w.grownBy w' none ∧ Ints w' A zs) ∧
    (∀ v u t w, OwnI w v L → OwnI w u D → OwnI w t F → Calls Try.prog 35 #[v, u, t] w fun e w' => ∃ A c, e = .returned (.tuple #[.slice A zs.length c, .bool b]) ∧ w.grownBy w' none ∧
      w'.ownsRow w.heap.size 3 1 (.slice A zs.length c) zs.length (zs.map (Value.int .i64))) := by
  refine ⟨weaveR L D F, weaveB L D F, ?_, fun v u t w h1 h2 h3 => ?_, fun v u t w h1 h2 h3 => ?_⟩
  · unfold weaveR
    split
    · rw [weaveI_len]; exact hn
    · simp
  · obtain ⟨A, c, rfl, hA, _, _, _⟩ := h1.form
    obtain ⟨B, d, rfl, hB, _, _, _⟩ := h2.form
    obtain ⟨C, f, rfl, hC, _, _, _⟩ := h3.form
    refine (sweave_any A B C c d f L D F w hA hB hC hn hm hf).mono ?_
    rintro e w' ⟨A, c, rfl, hg, ho⟩
    exact ⟨A, c, rfl, hg, Ints.of_own ho⟩
  · obtain ⟨A, c, rfl, hA, _, _, _⟩ := h1.form
    obtain ⟨B, d, rfl, hB, _, _, _⟩ := h2.form
    obtain ⟨C, f, rfl, hC, _, _, _⟩ := h3.form
    refine (weave_impl A B C c d f L D F w hA hB hC hn hm hf).mono ?_
    rintro e w' ⟨A, c, rfl, hg, ho⟩
    exact ⟨A, c, rfl, hg, ho⟩

end Go.Proofs.Ytpakihjkjdanlaa

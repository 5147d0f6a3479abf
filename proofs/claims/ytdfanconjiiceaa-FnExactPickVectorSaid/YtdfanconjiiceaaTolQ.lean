/- Copies of lists of lists and of layouts whose rows own their blocks, even those that are empty (written by gen_tolq.py out of Fam and FamL). -/
import Derived.Test.YtdfanconjiiceaaFamL
namespace Go.Proofs.Ytdfanconjiiceaa
open Go.RowKit

/-- A row of ints that is owned, unless it is empty. -/
def OwnQ (w : World) (base : Nat) (v : Value) (L : List Int) : Prop :=
  ∃ A c, v = .slice A L.length c ∧ L.length ≤ c ∧ (True → w.ownsRow base 3 1 v L.length (L.map (Value.int .i64)))
/-- The first rows, whose blocks are all different. -/
def FamQ (w : World) (base j : Nat) (vs : List Value) (LL : List (List Int)) : Prop :=
  (∀ (i : Nat) (L : List Int), i < j → LL[i]? = some L → ∃ v, vs[i]? = some v ∧ OwnQ w base v L) ∧
  (∀ (i i' : Nat) (v u : Value) (L L' : List Int) (g : Nat), i < j → i' < j → i ≠ i' → vs[i]? = some v → vs[i']? = some u → LL[i]? = some L → LL[i']? = some L' → True → True → v.ownBlock = some g → u.ownBlock ≠ some g)
theorem OwnQ.kept {w w' : World} {base : Nat} {v : Value} {L : List Int} (h : OwnQ w base v L) (hk : ∀ g, True → v.ownBlock = some g → w'.heap[g]? = w.heap[g]?) : OwnQ w' base v L := by
  obtain ⟨A, c, hv, hc, ho⟩ := h
  exact ⟨A, c, hv, hc, fun hl => own_keep (ho hl) (fun g hg => hk g hl hg)⟩
theorem OwnQ.low {w : World} {base base' : Nat} {v : Value} {L : List Int} (h : OwnQ w base v L) (hb : base' ≤ base) : OwnQ w base' v L := by
  obtain ⟨A, c, hv, hc, ho⟩ := h
  exact ⟨A, c, hv, hc, fun hl => own_base (ho hl) hb⟩
theorem OwnQ.lt {w : World} {base : Nat} {v : Value} {L : List Int} (h : OwnQ w base v L) (hl : True) : ∀ g, v.ownBlock = some g → base ≤ g ∧ g < w.heap.size := by
  obtain ⟨A, c, hv, hc, ho⟩ := h
  exact (ho hl).lt
theorem OwnQ.grown {w w' : World} {base : Nat} {v : Value} {L : List Int} {row : Option Nat} (h : OwnQ w base v L) (hg : w.grownBy w' row) (hne : ∀ g, True → v.ownBlock = some g → some g ≠ row) : OwnQ w' base v L :=
  h.kept (fun g hl hv => hg.block g (h.lt hl g hv).2 (hne g hl hv))
theorem FamQ.zero (w : World) (base : Nat) (vs : List Value) (LL : List (List Int)) : FamQ w base 0 vs LL := ⟨fun _ _ h => by omega, fun _ _ _ _ _ _ _ h => by omega⟩
theorem FamQ.kept {w w' : World} {base j : Nat} {vs : List Value} {LL : List (List Int)} (h : FamQ w base j vs LL) (hk : ∀ i L v g, i < j → LL[i]? = some L → vs[i]? = some v → True → v.ownBlock = some g → w'.heap[g]? = w.heap[g]?) : FamQ w' base j vs LL :=
  ⟨fun i L hi hL => by
    obtain ⟨v, hv, ho⟩ := h.1 i L hi hL
    exact ⟨v, hv, ho.kept (fun g hl hg => hk i L v g hi hL hv hl hg)⟩, h.2⟩
theorem FamQ.low {w : World} {base base' j : Nat} {vs : List Value} {LL : List (List Int)} (h : FamQ w base j vs LL) (hb : base' ≤ base) : FamQ w base' j vs LL :=
  ⟨fun i L hi hL => by
    obtain ⟨v, hv, ho⟩ := h.1 i L hi hL
    exact ⟨v, hv, ho.low hb⟩, h.2⟩
theorem FamQ.lt {w : World} {base j : Nat} {vs : List Value} {LL : List (List Int)} (h : FamQ w base j vs LL) {i : Nat} {L : List Int} {v : Value} {g : Nat} (hi : i < j) (hL : LL[i]? = some L) (hv : vs[i]? = some v) (hl : True) (hg : v.ownBlock = some g) : base ≤ g ∧ g < w.heap.size := by
  obtain ⟨v', hv', ho⟩ := h.1 i L hi hL
  rw [hv] at hv'
  cases hv'
  exact ho.lt hl g hg
theorem FamQ.grown {w w' : World} {base j : Nat} {vs : List Value} {LL : List (List Int)} (h : FamQ w base j vs LL) (hg : w.grownBy w' none) : FamQ w' base j vs LL :=
  h.kept (fun _ _ _ g hi hL hv hl hb => hg.block g (h.lt hi hL hv hl hb).2 (by simp))
/-- What is written in a row of rows leaves rows of ints as they are. -/
theorem OwnQ.aside {w w' : World} {base base' n : Nat} {v u : Value} {xs : List Value} {L : List Int} (h : OwnQ w base v L) (ho : w.ownsRow base' 23 1 u n xs) (hg : w.grownBy w' u.ownBlock) : OwnQ w' base v L :=
  h.grown hg (fun g hl hv e => by
    obtain ⟨A, c, rfl, _, h1⟩ := id h
    have := own_typ (h1 hl) ho hv e.symm
    exact absurd this (by decide))
theorem FamQ.aside {w w' : World} {base base' j n : Nat} {vs : List Value} {LL : List (List Int)} {u : Value} {xs : List Value} (h : FamQ w base j vs LL) (ho : w.ownsRow base' 23 1 u n xs) (hg : w.grownBy w' u.ownBlock) : FamQ w' base j vs LL :=
  ⟨fun i L hi hL => by
    obtain ⟨v, hv, h1⟩ := h.1 i L hi hL
    exact ⟨v, hv, h1.aside ho hg⟩, h.2⟩
/-- One row more, in a block that is new. -/
theorem FamQ.more {w : World} {base j lo : Nat} {vs vs' : List Value} {LL : List (List Int)} {L : List Int} {v : Value} (h : FamQ w base j vs LL) (hL : LL[j]? = some L) (hv : vs'[j]? = some v) (hsame : ∀ i, i < j → vs'[i]? = vs[i]?)
    (ho : OwnQ w base v L) (hnew : ∀ g, True → v.ownBlock = some g → lo ≤ g) (hold : ∀ i M u g, i < j → LL[i]? = some M → vs[i]? = some u → True → u.ownBlock = some g → g < lo) : FamQ w base (j + 1) vs' LL := by
  refine ⟨fun i M hi hM => ?_, fun i i' u u' M M' g hi hi' hne hu hu' hM hM' hl hl' hb => ?_⟩
  · by_cases e : i = j
    · subst e
      rw [hL] at hM
      cases hM
      exact ⟨v, hv, ho⟩
    · obtain ⟨u, hu, h1⟩ := h.1 i M (by omega) hM
      exact ⟨u, (hsame i (by omega)).trans hu, h1⟩
  · by_cases e : i = j
    · subst e
      rw [hL] at hM; cases hM
      rw [hv] at hu; cases hu
      have h1 := hnew g hl hb
      intro hb'
      rw [hsame i' (by omega)] at hu'
      have := hold i' M' u' g (by omega) hM' hu' hl' hb'
      omega
    · by_cases e' : i' = j
      · subst e'
        rw [hL] at hM'; cases hM'
        rw [hv] at hu'; cases hu'
        intro hb'
        have h1 := hnew g hl' hb'
        rw [hsame i (by omega)] at hu
        have := hold i M u g (by omega) hM hu hl hb
        omega
      · exact h.2 i i' u u' M M' g (by omega) (by omega) hne ((hsame i (by omega)).symm.trans hu) ((hsame i' (by omega)).symm.trans hu') hM hM' hl hl' hb
theorem FamQ.all {w : World} {base n : Nat} {vs : List Value} {LL : List (List Int)} (h : FamQ w base n vs LL) (hv : vs.length = LL.length) (hn : n = LL.length) {d : Value} {D : List Int} (lo : Nat) (ho : OwnQ w base d D) (hnew : ∀ g, True → d.ownBlock = some g → lo ≤ g)
    (hold : ∀ (i : Nat) M u g, i < n → LL[i]? = some M → vs[i]? = some u → True → u.ownBlock = some g → g < lo) : FamQ w base (n + 1) (vs ++ [d]) (LL ++ [D]) := by
  subst hn
  have h' : FamQ w base LL.length vs (LL ++ [D]) := by
    refine ⟨fun i L hi hL => ?_, fun i i' v u L L' g hi hi' hne hv hu hL hL' => ?_⟩
    · rw [List.getElem?_append_left hi] at hL
      exact h.1 i L hi hL
    · rw [List.getElem?_append_left hi] at hL
      rw [List.getElem?_append_left hi'] at hL'
      exact h.2 i i' v u L L' g hi hi' hne hv hu hL hL'
  refine FamQ.more (lo := lo) (v := d) (L := D) h' (by simp) (by rw [List.getElem?_append_right (by omega), hv]; simp) (fun i hi => List.getElem?_append_left (by omega)) ho hnew ?_
  intro i M u g hi hM hu hl hg
  rw [List.getElem?_append_left hi] at hM
  exact hold i M u g hi hM hu hl hg
/-- A layout whose memory is all its own: the levels' row, and the rows of ints. -/
def OwnLytQ (w : World) (base : Nat) (v : Value) (LL : List (List Int)) (D : List Int) : Prop :=
  ∃ A c d vs, v = .agg #[.slice A LL.length c, d] ∧ LL.length ≤ c ∧ w.ownsRow base 23 1 (.slice A LL.length c) LL.length vs ∧ FamQ w base (LL.length + 1) (vs ++ [d]) (LL ++ [D])
set_option maxHeartbeats 400000 in
theorem tosq_any (A : Option Addr) (c : Nat) (LL : List (List Int)) (w : World) (h : Rws w A LL) (hn : LL.length ≤ 1048576) (hm : ∀ M ∈ LL, M.length ≤ 1048576) :
    Calls Try.prog 88 #[.slice A LL.length c] w fun e w' => e = .returned (.slice (some ⟨w.heap.size, 0, none⟩) LL.length LL.length) ∧ w.grownBy w' none ∧
      ∃ vs, w'.ownsRow w.heap.size 23 1 (.slice (some ⟨w.heap.size, 0, none⟩) LL.length LL.length) LL.length vs ∧ FamQ w' w.heap.size LL.length vs LL := by
  obtain ⟨i0, hi0, hz0, hz1, hz2⟩ := info_parts infoL
  have HS := Lib.hid h
  have HM := Lib.hid hm
  obtain ⟨n, hnn⟩ : ∃ n, LL.length = n := ⟨_, rfl⟩
  have HN := Lib.hid hnn
  rw [hnn] at hn ⊢
  clear h hnn hm
  have hmk : ∀ u : World, (Instr.makeSlice 22 (.int .i64 (n : Int)) (.int .i64 (n : Int))).run Try.prog u =
      .ok (.slice (some ⟨u.heap.size, 0, none⟩) n n) (u.alloc (.cells (madeCells #[.slice none 0 0] n) 23)) := fun u => by
    have h := run_make (P := Try.prog) u 22 23 i0 (.slice none 0 0) Try.underlying22 hi0 hz0 .i64 .i64 (n : Int) (n : Int) (by omega) (Int.le_refl _) (by rw [hz2]; omega) (by omega)
    simpa [hz1, Value.cells] using h
  go_enter Try.func88, Try.ntmps88
  go_wp2_with fail
  clear hmk hi0 hz0 hz1 hz2
  have HO := Lib.hid (World.ownsRow_lit (base := w.heap.size) (e := 23) (size := 1) w (madeCells #[.slice none 0 0] n) n (Nat.le_refl _) (by simp only [maxLen]; omega) (by simp [madeCells]))
  go_loopw [4] (fun i wr => ∃ (j : Nat) (vs : List Value), j ≤ n ∧ i = .int .i64 j ∧ Hid (wr.ownsRow w.heap.size 23 1 (.slice (some ⟨w.heap.size, 0, none⟩) n n) n vs) ∧ Hid (FamQ wr w.heap.size j vs LL) ∧ Hid (w.grownBy wr none)) (fun i _ => n - (intOf i).toNat)
  case atStart => exact ⟨0, _, Nat.zero_le _, rfl, HO, Lib.hid (FamQ.zero _ _ _ _), Lib.hid (World.grownBy_alloc _ _ _)⟩
  case round =>
    obtain ⟨j, vs, hj, rfl, ho, hf, hgr⟩ := hrel
    by_cases hlt : j < n
    · obtain ⟨L, hL⟩ : ∃ L, LL[j]? = some L := ⟨_, List.getElem?_eq_getElem (by have := HN.out; omega)⟩
      obtain ⟨b, off, B, d, rfl, hcell, hcap, hi⟩ := (HS.out.grown hgr.out).at_ hL
      have hll := HM.out L (List.mem_of_getElem? hL)
      have HC := Lib.hid (toi_any B d L wr hi hll)
      obtain ⟨k, hk⟩ : ∃ k, L.length = k := ⟨_, rfl⟩
      have HK := Lib.hid hk
      rw [hk] at hcell HC
      have hyl : vs.length = n := by have := ho.out.1; omega
      have hcell2 : wr.cell? ⟨w.heap.size, j, none⟩ = some vs[j] := (ho.out.cellAt j (by omega)).trans (List.getElem?_eq_getElem (by omega))
      have hfr := ho.out.frozenAt j
      generalize vs[j] = y0 at hcell2
      have HLJ := Lib.hid hL
      have HYL := Lib.hid hyl
      clear hcap hi hL hk hyl
      go_wp2_with fail
      refine HC.out.mono ?_
      rintro e w1 ⟨rfl, hg1, ho1⟩
      have ho2 := ho.out.kept hg1 (by cases hv : (Value.slice (some ⟨w.heap.size, 0, none⟩) n n).ownBlock <;> simp)
      have HO2 := Lib.hid ho2
      have hcell3 := (hg1.cell hcell2 (by simp))
      have hfr3 := ho2.frozenAt j
      have HF1 := Lib.hid (hf.out.grown hg1)
      have HR1 := Lib.hid (show OwnQ w1 w.heap.size (.slice (some ⟨wr.heap.size, 0, none⟩) k k) L from ⟨_, _, by rw [HK.out], by rw [HK.out]; exact Nat.le_refl _, fun _ => own_base (by rw [HK.out]; exact ho1) hgr.out.size⟩)
      have HG1 := Lib.hid hg1
      have HST := Lib.hid (ho2.stored j (.slice (some ⟨wr.heap.size, 0, none⟩) k k))
      clear hg1 ho1 ho2 hcell2
      go_wp2_with fail
      go_roundw
      case rel =>
        refine ⟨j + 1, vs.set j _, by omega, by go_num, Lib.hid HST.out.1, Lib.hid ?_, Lib.hid (gr_ownF (hgr.out.trans HG1.out) HST.out.2 (fun k hk => by cases hk; exact Nat.le_refl _))⟩
        refine FamQ.more (lo := wr.heap.size) (HF1.out.aside HO2.out HST.out.2) HLJ.out (List.getElem?_set_self (by have := HYL.out; omega)) (fun i hi => List.getElem?_set_ne (by omega)) (HR1.out.aside HO2.out HST.out.2) (fun g _ hg => by cases hg; exact Nat.le_refl _) ?_
        intro i M u g hi hM hu hl hg
        exact (hf.out.lt hi hM hu hl hg).2
      case measure => simp [intOf]; omega
    · have hjn : j = n := by omega
      have HJ := Lib.hid hjn
      clear hjn
      go_wp2_with fail
      go_ret
      exact ⟨rfl, hgr.out, vs, ho.out, by have := hf.out; rw [HJ.out] at this; exact this⟩
set_option maxHeartbeats 400000 in
theorem tolq_any (v : Value) (LL : List (List Int)) (D : List Int) (w : World) (h : Lyt w v LL D) (hn : LL.length + totL LL + D.length ≤ 1048576) :
    Calls Try.prog 52 #[v] w fun e w' => ∃ u, e = .returned u ∧ w.grownBy w' none ∧ OwnLytQ w' w.heap.size u LL D := by
  obtain ⟨A, c, B, d, rfl, h1, h2, h3, h4⟩ := h
  have hm : ∀ M ∈ LL, M.length ≤ 1048576 := fun M hM => by
    obtain ⟨i, hi⟩ := List.getElem?_of_mem hM
    have := totL_at hi
    omega
  have H1 := Lib.hid (fun w (h : Rws w A LL) => tosq_any A c LL w h (by omega) hm)
  have H2 := Lib.hid (fun w (h : Ints w B D) => toi_any B d D w h (by omega))
  have H3 := Lib.hid h3
  have H4 := Lib.hid h4
  obtain ⟨m, hm⟩ : ∃ m, LL.length = m := ⟨_, rfl⟩
  obtain ⟨k, hk⟩ : ∃ k, D.length = k := ⟨_, rfl⟩
  have HM := Lib.hid hm
  have HK := Lib.hid hk
  rw [hm] at H1 ⊢
  rw [hk] at H2 ⊢
  clear h1 h2 h3 h4 hm hk hn
  go_enter Try.func52, Try.ntmps52
  go_wp2_with fail
  have hg0 : w.grownBy (((w.alloc (.cells #[.slice A m c, .slice B k d] 42)).alloc (.cells #[.slice none 0 0, .slice none 0 0] 25)).alloc (.cells #[.slice none 0 0, .slice none 0 0] 25)) none :=
    ((World.grownBy_alloc _ _ _).trans (World.grownBy_alloc _ _ _)).trans (World.grownBy_alloc _ _ _)
  have P0 := ((Pr.new w 42 (.slice A m c) (.slice B k d)).alloc (.cells #[.slice none 0 0, .slice none 0 0] 25)).alloc (.cells #[.slice none 0 0, .slice none 0 0] 25)
  have P1 := (Pr.new (w.alloc (.cells #[.slice A m c, .slice B k d] 42)) 25 (.slice none 0 0) (.slice none 0 0)).alloc (.cells #[.slice none 0 0, .slice none 0 0] 25)
  have P2 := Pr.new ((w.alloc (.cells #[.slice A m c, .slice B k d] 42)).alloc (.cells #[.slice none 0 0, .slice none 0 0] 25)) 25 (.slice none 0 0) (.slice none 0 0)
  rw [sz_alloc] at P1
  rw [sz_alloc, sz_alloc] at P2
  generalize ((w.alloc (.cells #[.slice A m c, .slice B k d] 42)).alloc (.cells #[.slice none 0 0, .slice none 0 0] 25)).alloc (.cells #[.slice none 0 0, .slice none 0 0] 25) = u0 at hg0 P0 P1 P2 ⊢
  refine (H1.out _ (H3.out.grown hg0)).mono ?_
  rintro e w1 ⟨rfl, hg1, vs, ho1, hf1⟩
  have Q2 := P2.grown hg1 (by simp)
  have Q0 := P0.grown hg1 (by simp)
  have Q1 := P1.grown hg1 (by simp)
  have a0 := Q2.c0
  have a1 := Q2.f 0
  have HG2 := Lib.hid (gr_ownF (hg0.trans hg1) (gr_set w1 (w.heap.size + 1 + 1) 0 (.slice (some ⟨u0.heap.size, 0, none⟩) m m)) (fun k hk => by cases hk; omega))
  have R2 := Q2.set0 (.slice (some ⟨u0.heap.size, 0, none⟩) m m)
  have hgs := gr_set w1 (w.heap.size + 1 + 1) 0 (.slice (some ⟨u0.heap.size, 0, none⟩) m m)
  have R0 := Q0.grown hgs (by simp; omega)
  have R1 := Q1.grown hgs (by simp)
  have hs0 : w.heap.size + 1 + 1 < u0.heap.size := P2.lt
  have ho2 := own_keep ho1 (fun g hg => hgs.block g (ho1.lt g hg).2 (by have := (ho1.lt g hg).1; simp; omega))
  have hf2 := hf1.kept (fun i L v g hi hL hv hl hg => hgs.block g (hf1.lt hi hL hv hl hg).2 (by have := (hf1.lt hi hL hv hl hg).1; simp; omega))
  have hsz : u0.heap.size ≤ (w1.setCell ⟨w.heap.size + 1 + 1, 0, none⟩ (.slice (some ⟨u0.heap.size, 0, none⟩) m m)).heap.size := Nat.le_trans hg1.size hgs.size
  clear hgs Q0 Q1 Q2 P0 P1 P2 hg1 ho1 hf1
  have b0 := R0.c1
  go_wp2_with fail
  clear a0 a1 b0
  generalize w1.setCell ⟨w.heap.size + 1 + 1, 0, none⟩ (.slice (some ⟨u0.heap.size, 0, none⟩) m m) = u1 at HG2 R0 R1 R2 ho2 hf2 hsz ⊢
  refine (H2.out _ (H4.out.grown HG2.out (by simp))).mono ?_
  rintro e w2 ⟨rfl, hg2, ho3⟩
  have Q2 := R2.grown hg2 (by simp)
  have Q1 := R1.grown hg2 (by simp)
  have a0 := Q2.c1
  have a1 := Q2.f 1
  have hgs := gr_set w2 (w.heap.size + 1 + 1) 1 (.slice (some ⟨u1.heap.size, 0, none⟩) k k)
  have HG3 := Lib.hid (gr_ownF (HG2.out.trans hg2) hgs (fun k hk => by cases hk; omega))
  have S2 := Q2.set1 (.slice (some ⟨u1.heap.size, 0, none⟩) k k)
  have S1 := Q1.grown hgs (by simp)
  have ho4 := own_keep (ho2.kept hg2 (by cases hv : (Value.slice (some ⟨u0.heap.size, 0, none⟩) m m).ownBlock <;> simp)) (fun g hg => (hgs.block g (Nat.lt_of_lt_of_le (ho2.lt g hg).2 hg2.size) (by have := (ho2.lt g hg).1; simp; omega)))
  have hf3 := (hf2.grown hg2).kept (fun i L v g hi hL hv hl hg => hgs.block g (Nat.lt_of_lt_of_le (hf2.lt hi hL hv hl hg).2 hg2.size) (by have := (hf2.lt hi hL hv hl hg).1; simp; omega))
  have ho5 := own_keep ho3 (fun g hg => hgs.block g (ho3.lt g hg).2 (by have := (ho3.lt g hg).1; simp; omega))
  have a2 := Q2.c0
  have a3 := Q1.c0
  have a4 := Q1.c1
  have a5 := Q1.f 0
  have a6 := Q1.f 1
  clear hgs Q1 Q2 R0 R1 R2 hg2 ho3 ho2
  go_wp2_with fail
  generalize w2.setCell ⟨w.heap.size + 1 + 1, 1, none⟩ (.slice (some ⟨u1.heap.size, 0, none⟩) k k) = u2 at HG3 S1 S2 ho4 hf3 ho5 ⊢
  clear a0 a1 a2 a3 a4 a5 a6
  have T0 := S1.set0 (.slice (some ⟨u0.heap.size, 0, none⟩) m m)
  have T1 := T0.set1 (.slice (some ⟨u1.heap.size, 0, none⟩) k k)
  have hg4 := gr_set u2 (w.heap.size + 1) 0 (.slice (some ⟨u0.heap.size, 0, none⟩) m m)
  have hg5 := hg4.trans (gr_set (u2.setCell ⟨w.heap.size + 1, 0, none⟩ (.slice (some ⟨u0.heap.size, 0, none⟩) m m)) (w.heap.size + 1) 1 (.slice (some ⟨u1.heap.size, 0, none⟩) k k))
  have r0 := T1.c0
  have r1 := T1.c1
  refine bodyPost_ret (v := .agg #[.slice (some ⟨u0.heap.size, 0, none⟩) m m, .slice (some ⟨u1.heap.size, 0, none⟩) k k]) (by simp [results, Try.results52, go_sem, r0, r1]) rfl ?_
  clear r0 r1 T0 T1
  generalize (u2.setCell ⟨w.heap.size + 1, 0, none⟩ (.slice (some ⟨u0.heap.size, 0, none⟩) m m)).setCell ⟨w.heap.size + 1, 1, none⟩ (.slice (some ⟨u1.heap.size, 0, none⟩) k k) = u3 at hg5 ⊢
  have hlow : w.heap.size ≤ u0.heap.size := by omega
  have ho6 := own_base (own_keep ho4 (fun g hg => hg5.block g (ho4.lt g hg).2 (by have := (ho4.lt g hg).1; simp; omega))) hlow
  have hf4 := (hf3.kept (fun i L v g hi hL hv hl hg => hg5.block g (hf3.lt hi hL hv hl hg).2 (by have := (hf3.lt hi hL hv hl hg).1; simp; omega))).low hlow
  have ho7 := own_base (own_keep ho5 (fun g hg => hg5.block g (ho5.lt g hg).2 (by have := (ho5.lt g hg).1; simp; omega))) (show w.heap.size ≤ u1.heap.size by omega)
  refine ⟨_, rfl, gr_ownF HG3.out hg5 (fun k hk => by cases hk; omega), _, _, _, vs, by rw [HM.out], by rw [HM.out]; exact Nat.le_refl _, by rw [HM.out]; exact ho6, ?_⟩
  rw [HM.out]
  refine FamQ.all (lo := u1.heap.size) hf4 (by have := ho6.1; have := HM.out; omega) HM.out.symm ⟨_, _, by rw [HK.out], by rw [HK.out]; exact Nat.le_refl _, fun _ => by rw [HK.out]; exact ho7⟩ (fun g _ hg => by cases hg; exact Nat.le_refl _) ?_
  intro i M u g hi hM hu hl hg
  exact (hf2.lt hi hM hu hl hg).2

theorem OwnLytQ.own {w : World} {base : Nat} {v : Value} {LL : List (List Int)} {D : List Int} (h : OwnLytQ w base v LL D) : OwnLyt w base v LL D := by
  obtain ⟨A, c, d, vs, h1, h2, h3, h4⟩ := h
  exact ⟨A, c, d, vs, h1, h2, h3, fun i L hi hL => by
    obtain ⟨v, hv, A', c', h5, h6, h7⟩ := h4.1 i L hi hL
    exact ⟨v, hv, A', c', h5, h6, fun _ => h7 trivial⟩, fun i i' v u L L' g hi hi' hne hv hu hL hL' _ _ hg => h4.2 i i' v u L L' g hi hi' hne hv hu hL hL' trivial trivial hg⟩

end Go.Proofs.Ytdfanconjiiceaa

/- slices.Collect of what segmentsOf gives: the segments, as a list of slices. -/
import Derived.Test.YtpakihjkjdanlaaSegIt2
import Derived.Test.YtpakihjkjdanlaaSegCut
namespace Go.Proofs.Ytpakihjkjdanlaa
open Go.RowKit Go.Shelf
attribute [local go_sem] Oper.semAt_some

theorem sgV_intsY {w : World} {A : Option Addr} {L D : List Int} {c j : Nat} {z : Int} (h : OwnI w (.slice A D.length c) D) (hok : okN 400 L = true) (hs : (D.length : Int) = sumI L) (hz : L[j]? = some z) :
    ∃ A', sgV A (sumI (L.take j), sumI (L.take j) + z) = .slice A' z.toNat z.toNat ∧ ((cutI L D)[j]? = some ((D.drop (sumI (L.take j)).toNat).take z.toNat)) ∧ ((D.drop (sumI (L.take j)).toNat).take z.toNat).length = z.toNat ∧
      (∀ u, w.grownBy u none → Ints u A' ((D.drop (sumI (L.take j)).toNat).take z.toNat)) ∧ (0 < z.toNat → ∃ b, A = some ⟨b, 0, none⟩ ∧ A' = some ⟨b, (sumI (L.take j)).toNat, none⟩) := by
  obtain ⟨h0, h4, hs0, hsz⟩ := sumI_le hok hz
  obtain ⟨s, hsn⟩ : ∃ s : Nat, sumI (L.take j) = (s : Int) := ⟨(sumI (L.take j)).toNat, by omega⟩
  obtain ⟨q, hqn⟩ : ∃ q : Nat, z = (q : Int) := ⟨z.toNat, by omega⟩
  have hcut := cutI_at L D j z hok hz
  rw [hsn, hqn] at hcut ⊢
  have e1 : ((s : Int) + (q : Int)).toNat = s + q := by omega
  have hlen : ((D.drop s).take q).length = q := by
    rw [List.length_take, List.length_drop]; omega
  simp only [Int.toNat_natCast] at hcut ⊢
  obtain ⟨A1, c1, hv, hI, hc1, hnone, hsome⟩ := h.form
  cases hv
  have hints : ∀ (b : Nat), A = some ⟨b, 0, none⟩ → ∀ u, w.grownBy u none → Ints u (some ⟨b, s, none⟩) ((D.drop s).take q) := fun b e u hu hpos => by
    subst e
    rw [hlen] at hpos
    obtain ⟨b2, xs, mm, e, hb, hcell⟩ := hsome _ rfl
    cases e
    have hlt : b < w.heap.size := (Array.getElem?_eq_some_iff.1 hb).1
    refine ⟨b, s, rfl, Nat.lt_of_lt_of_le hlt hu.size, fun i x hi => ?_⟩
    have hiq : i < q := by have := (List.getElem?_eq_some_iff.1 hi).1; omega
    rw [List.getElem?_take, if_pos hiq, List.getElem?_drop] at hi
    exact hu.cell (hcell (s + i) x hi) (by simp)
  by_cases hq : q = 0
  · subst hq
    refine ⟨A, by simp [sgV], hcut, by simp, fun u _ hp => by simp at hp, fun hp => by omega⟩
  · have hAs : ∃ a, A = some a := by
      cases A with
      | some a => exact ⟨a, rfl⟩
      | none =>
        have := (hnone rfl).2
        subst this
        simp at hs
        omega
    obtain ⟨a, rfl⟩ := hAs
    obtain ⟨b, xs, mm, rfl, hb, hcell⟩ := hsome _ rfl
    refine ⟨some ⟨b, s, none⟩, ?_, hcut, hlen, hints b rfl, fun _ => ⟨b, rfl, rfl⟩⟩
    simp only [sgV, e1, Int.toNat_natCast]
    rw [if_neg (by omega), show s + q - s = q from by omega]
    simp [addr_flat]

theorem keeps_rowY {X : Nat → TypeId → Prop} {V V' : World} {base e size n : Nat} {v : Value} {xs : List Value} (h : V.ownsRow base e size v n xs) (he : ∀ k, base ≤ k → X k e) (hg : V.grownBy V' v.ownBlock) : KeepsK X V V' := by
  rcases h.2 with ⟨rfl, _⟩ | ⟨g, cap, cur, rfl, hb, hgb, _⟩
  · exact KeepsK.grown hg
  · exact KeepsK.grownX hg hgb (he g hb)

/-- What a round writes: the box of the list and the list's rows, which lie behind the iterator's own box. -/
def collX (g : Nat) (k : Nat) (t : TypeId) : Prop := (t = 22 ∧ g + 5 ≤ k) ∨ (t = 41 ∧ k = g)

theorem segsmakerY (A B : Option Addr) (n c m d : Nat) (w : World) : Calls Try.prog 73 #[.slice A n c, .slice B m d] w fun e w' =>
    e = .returned (.func (.func 108) #[] #[.pointer (some ⟨w.heap.size, 0, none⟩), .pointer (some ⟨w.heap.size + 1, 0, none⟩)]) ∧ w' = (w.alloc (.cells #[.slice A n c] 22)).alloc (.cells #[.slice B m d] 22) := by
  have hmf := @makeFunc_runK
  go_enter Try.func73, Try.ntmps73
  go_wp2_with fail
  go_ret
  exact ⟨rfl, rfl⟩

set_option maxRecDepth 100000 in
set_option maxHeartbeats 4000000 in
theorem appseq_any (bl bd cl cd : Nat) (AL AD : Option Addr) (L D : List Int) (w : World) (hL : OwnI w (.slice AL L.length cl) L) (hD : OwnI w (.slice AD D.length cd) D) (hlen : L.length ≤ 400) (hok : okN 400 L = true) (hs : (D.length : Int) = sumI L)
    (hbl : w.heap[bl]? = some (.cells #[.slice AL L.length cl] 22 (0, 0))) (hbd : w.heap[bd]? = some (.cells #[.slice AD D.length cd] 22 (0, 0))) :
    Calls Try.prog 107 #[.slice none 0 0, .func (.func 108) #[] #[.pointer (some ⟨bl, 0, none⟩), .pointer (some ⟨bd, 0, none⟩)]] w fun e w' =>
      ∃ A c, e = .returned (.slice A (cutI L D).length c) ∧ w.grownBy w' none ∧ Rws w' A (cutI L D) := by
  obtain ⟨i0, hi0, hz0, hz1, hz2⟩ := info_parts infoL
  have hdc : D.length ≤ cd := by obtain ⟨_, _, e, _, h, _⟩ := hD.form; cases e; exact h
  obtain ⟨A0, c0, e0, hA, _, _, hsome⟩ := hL.form
  cases e0
  obtain ⟨g, hg⟩ : ∃ g, w.heap.size = g := ⟨_, rfl⟩
  obtain ⟨W1, hW1⟩ : ∃ W1, w.alloc (.cells #[.slice none 0 0] 41) = W1 := ⟨_, rfl⟩
  have s1 : W1.heap.size = g + 1 := by rw [← hW1]; simp [hg]
  have g1 : w.grownBy W1 none := by rw [← hW1]; exact World.grownBy_alloc _ _ _
  obtain ⟨X, hX⟩ : ∃ X, collX g = X := ⟨_, rfl⟩
  have b1 : Boxed W1 g 41 (.slice none 0 0) := by
    rw [← hW1, ← hg]
    exact Boxed.new w _ _
  have hll := (Array.getElem?_eq_some_iff.1 hbl).1
  have hld := (Array.getElem?_eq_some_iff.1 hbd).1
  have b2 : W1.heap[bl]? = some (.cells #[.slice AL L.length cl] 22 (0, 0)) := (g1.block bl hll (by simp)).trans hbl
  have b3 : W1.heap[bd]? = some (.cells #[.slice AD D.length cd] 22 (0, 0)) := (g1.block bd hld (by simp)).trans hbd
  have hLK : IntsK X W1 AL L := fun hpos => by
    obtain ⟨b, off, rfl, hblt, hcell⟩ := hA hpos
    obtain ⟨b', xs, m, e, hb, _⟩ := hsome _ rfl
    cases e
    refine ⟨b, 0, xs, m, rfl, (g1.block b hblt (by simp)).trans hb, by rw [← hX]; simp [collX], fun j z hj => g1.cell (hcell j z hj) (by simp)⟩
  have hseq := Lib.hid (segs_iter2 X (fun k => by rw [← hX]; simp [collX]) bl bd cl cd AL AD L D W1 (by rw [← hX, s1]; simp [collX]) hLK (by omega) hok (by omega) b2 (by rw [← hX]; simp [collX]; omega) b3 (by rw [← hX]; simp [collX]; omega))
  have HB1 := Lib.hid b1
  have HG1 := Lib.hid g1
  have HX := Lib.hid hX
  have HW := Lib.hid hW1
  have HL4 := Lib.hid hlen
  have HD := Lib.hid hD
  have HOK := Lib.hid hok
  have HSM := Lib.hid hs
  have HSS := Lib.hid (show W1.heap.size = g + 1 ∧ w.heap.size = g from ⟨s1, hg⟩)
  have HGH := Lib.hid hg
  clear hL hD hlen hok hs hbl hbd hdc hA hsome hg hW1 s1 g1 hX b1 hll hld b2 b3 hLK
  refine (callsIn_wide (n := 3)).1 ?_
  refine callsIn_of_wp_marks Try.func107 rfl trivial ?_ rfl
  simp only [Try.ntmps107, List.size_toArray, List.length_cons, List.length_nil, Nat.reduceAdd, Nat.reduceSub, Array.replicate_succ, Array.replicate_zero, List.push_toArray, List.append_toArray, List.nil_append, List.cons_append]
  gi_wp2
  rw [HW.out]
  simp only [HGH.out]
  clear HW
  refine range_ownK2 (sgK AD) (X := X) (zs := spanK 0 L) (gf := 108) (lb := #[.pointer (some ⟨bl, 0, none⟩), .pointer (some ⟨bd, 0, none⟩)]) rfl (enters_of Try.func108 (by kernel_rfl) rfl) hseq.out
    (fun pre V => (∃ v, Boxed V g 41 v ∧ V.ownsRow (g + 5) 22 1 v pre.length (pre.map (sgV AD)) ∧ True) ∧ w.grownBy V none) (fun _ _ => False) ?hI ?hIx ?h0 (fun _ => rfl)
    (fun x => { tmps := #[.slice none 0 0, .func (.func 108) #[] #[.pointer (some ⟨bl, 0, none⟩), .pointer (some ⟨bd, 0, none⟩)], .pointer (some ⟨g, 0, none⟩), undef, .slice none 0 0, sgV AD x,
          .func (.func 108) #[] #[.pointer (some ⟨bl, 0, none⟩), .pointer (some ⟨bd, 0, none⟩)], sgV AD x, undef, undef, undef, undef, undef], defers := [] }) ?assign ?body ?done ?stop
  case hI => exact OwnFrom.and (Own.from (holdsRow_own (g + 5) g 41 22 1 (fun pre : List (Int × Int) => pre.length) (fun pre => pre.map (sgV AD)) (fun _ _ => True)) _) (fun s A C row hs hg hr => gr_own hs hg (fun k e => by have h1 := (hr k e).1; have h2 := HSS.out; omega))
  case hIx => exact fun _ _ _ _ hs _ _ => hs
  case h0 => exact ⟨⟨_, HB1.out, by simpa using World.ownsRow_nil _ _ _ _, trivial⟩, HG1.out⟩
  case assign =>
    intro l m x V K hK
    simp only [sgK]
    gi_wp2
    exact hK
  case body =>
    rintro l1 m1 pre x V hl1 hr1 hs4 ⟨⟨v, hv, hrow, _⟩, hG⟩ hpre
    have hszV : g + 5 ≤ V.heap.size := by have := HSS.out; omega
    have hpl : pre.length < 400 := by
      have h1 := hpre.length_le
      rw [spanK_len, List.length_append] at h1
      simp only [List.length_cons, List.length_nil] at h1
      have := HL4.out
      omega
    have hc := hv.cell
    obtain ⟨A', k', hy⟩ : ∃ A' k', sgV AD x = .slice A' k' k' := ⟨_, _, rfl⟩
    have HY := Lib.hid hy
    have HC := Lib.hid (cell_one_new V (.slice A' k' k') 22)
    simp only [hy]
    clear hy
    gi_wp2_with (gi_at_builtin; refine wpListIn_append_own _ rfl _ _ 41 rfl (g + 5) 22 i0 (.slice none 0 0) 1 24 Try.underlying41 hi0 hz0 hz1 hz2 rfl (by decide) v pre.length _ rfl (hrow.alloc _) ⟨V.heap.size, 0, none⟩ 1 1 [.slice A' k' k'] rfl rfl HC.out (by simp [Value.oneCell']) (by simp only [maxLen]; omega) (by omega) (by simp; omega) ?_; intro v' w1 hown' hgrow _; obtain ⟨g', cap', rfl⟩ := ownsRow_succ hown'; have hv1 : Boxed w1 g 41 v := Boxed.kept (hv.alloc _) hgrow (hv.not_row (by decide) hrow); have hc1 := hv1.cell; have hf1 := hv1.frozen)
    have hrow3 := hown'.kept (grownBy_setCell' w1 g (.slice (some ⟨g', 0, none⟩) (pre.length + 1) cap')) (.inr (hv1.not_row (by decide) hown').symm)
    have ka : KeepsK X V (V.alloc (.cells #[.slice A' k' k'] 22)) := KeepsK.alloc _ _
    have kb : KeepsK X (V.alloc (.cells #[.slice A' k' k'] 22)) w1 := keeps_rowY (hrow.alloc _) (fun k hk => by rw [← HX.out]; exact .inl ⟨rfl, hk⟩) hgrow
    have kc : KeepsK X w1 (w1.setCell ⟨g, 0, none⟩ (.slice (some ⟨g', 0, none⟩) (pre.length + 1) cap')) := KeepsK.grownX (grownBy_setCell' w1 g _) hv1 (by rw [← HX.out]; exact .inr ⟨rfl, rfl⟩)
    refine ⟨(ka.trans kb).trans kc, ⟨_, hv1.set _, ?_, trivial⟩, ?_⟩
    · rw [List.length_append, List.length_singleton, List.map_append, List.map_singleton, HY.out]
      exact hrow3
    · have hlow := HSS.out
      refine gr_own (gr_own (hG.trans (World.grownBy_alloc V _ none)) hgrow (fun k hk => by have := (hrow.lt k hk).1; omega)) (grownBy_setCell' w1 g _) (fun k e => by cases e; omega)
  case done =>
    rintro Dm V hD' ⟨⟨v, hv, hrow, _⟩, hG⟩ hK
    have hc := hv.cell
    obtain ⟨A6, m, c6, rfl⟩ := own_form hrow
    have hm : m = (spanK 0 L).length := by
      rcases hrow.2 with ⟨h, h'⟩ | ⟨g, cap, cur, h, _⟩
      · cases h; omega
      · cases h; rfl
    subst hm
    have e1 : (cutI L D).length = (spanK 0 L).length := by rw [spanK_len, cutI_len]
    gi_wp2
    refine ⟨by simp, .inl ⟨_, _, rfl, run_takeDeferred hK, ?_⟩⟩
    have h3 := own_base (base' := w.heap.size) (ownsRow_putObj hrow (.deferred none) hK rfl) (by have := HSS.out; omega)
    have hgl : w.grownBy (V.putObj Dm (.deferred none)) none := gr_own hG (grownBy_putObj' V Dm _) (fun k e => by have := HSS.out; cases e; omega)
    refine ⟨.slice A6 (spanK 0 L).length c6, by simp [results, Try.results107, go_sem], A6, c6, by rw [e1], hgl, ?_⟩
    rw [← e1] at h3
    refine Sls.rws (fun j M hj hM => ?_) h3
    obtain ⟨z, hz⟩ : ∃ z, L[j]? = some z := ⟨_, List.getElem?_eq_getElem (by rw [cutI_len] at hj; exact hj)⟩
    obtain ⟨A', h1, h2, h4, h5, _⟩ := sgV_intsY (HD.out.grown0 hgl) HOK.out HSM.out hz
    rw [hM] at h2
    cases h2
    refine ⟨A', z.toNat, ?_, by omega, h5 _ (gr_refl _ _)⟩
    rw [List.getElem?_map, spanK_at L 0 j z hz, Option.map_some, Int.zero_add, h1, h4]
  case stop =>
    rintro D' pre V _ _ h _
    exact h.elim

set_option maxHeartbeats 1000000 in
theorem collect_any (bl bd cl cd : Nat) (AL AD : Option Addr) (L D : List Int) (w : World) (hL : OwnI w (.slice AL L.length cl) L) (hD : OwnI w (.slice AD D.length cd) D) (hlen : L.length ≤ 400) (hok : okN 400 L = true) (hs : (D.length : Int) = sumI L)
    (hbl : w.heap[bl]? = some (.cells #[.slice AL L.length cl] 22 (0, 0))) (hbd : w.heap[bd]? = some (.cells #[.slice AD D.length cd] 22 (0, 0))) :
    Calls Try.prog 72 #[.func (.func 108) #[] #[.pointer (some ⟨bl, 0, none⟩), .pointer (some ⟨bd, 0, none⟩)]] w fun e w' =>
      ∃ A c, e = .returned (.slice A (cutI L D).length c) ∧ w.grownBy w' none ∧ Rws w' A (cutI L D) := by
  have HS := Lib.hid (appseq_any bl bd cl cd AL AD L D w hL hD hlen hok hs hbl hbd)
  obtain ⟨LL, hLL⟩ : ∃ LL, cutI L D = LL := ⟨_, rfl⟩
  rw [hLL] at HS ⊢
  obtain ⟨n, hn⟩ : ∃ n, LL.length = n := ⟨_, rfl⟩
  rw [hn] at HS ⊢
  clear hL hD hlen hok hs hbl hbd hLL hn
  go_enter Try.func72, Try.ntmps72
  go_wp2_with fail
  refine HS.out.mono ?_
  rintro e w1 ⟨A, c, rfl, hg, hr⟩
  have HP := Lib.hid (And.intro hg hr)
  clear hg hr
  go_wp2_with fail
  go_ret
  exact ⟨A, c, rfl, HP.out.1, HP.out.2⟩

end Go.Proofs.Ytpakihjkjdanlaa

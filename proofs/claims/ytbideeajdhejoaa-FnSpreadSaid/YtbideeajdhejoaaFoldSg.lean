/- What foldSegments of the program does: what is folded in each segment, in a new row. -/
import Derived.Test.YtbideeajdhejoaaFoldG
import Derived.Test.YtbideeajdhejoaaLate
import Derived.Test.YtbideeajdhejoaaSegS2
namespace Go.Proofs.Ytbideeajdhejoaa
open Go.RowKit Go.Shelf
attribute [local go_sem] Oper.semAt_some

set_option maxHeartbeats 400000 in
theorem segsmaker (A B : Option Addr) (n c m d : Nat) (w : World) : Calls Try.prog 96 #[.slice A n c, .slice B m d] w fun e w' =>
    e = .returned (.func (.func 119) #[] #[.pointer (some ⟨w.heap.size, 0, none⟩), .pointer (some ⟨w.heap.size + 1, 0, none⟩)]) ∧ w' = (w.alloc (.cells #[.slice A n c] 23)).alloc (.cells #[.slice B m d] 23) := by
  have hmf := @makeFunc_runK
  go_enter Try.func96, Try.ntmps96
  go_wp2_with fail
  go_ret
  exact ⟨rfl, rfl⟩

/-- A segment, as it is cut out, holds the segment's numbers. -/
theorem sgV_ints {w : World} {A : Option Addr} {L D : List Int} {c j : Nat} {z : Int} (h : OwnI w (.slice A D.length c) D) (hok : okN 400 L = true) (hs : (D.length : Int) = sumI L) (hz : L[j]? = some z) :
    ∃ A', sgV A (sumI (L.take j), sumI (L.take j) + z) = .slice A' z.toNat z.toNat ∧ ((cutI L D)[j]? = some ((D.drop (sumI (L.take j)).toNat).take z.toNat)) ∧ ((D.drop (sumI (L.take j)).toNat).take z.toNat).length = z.toNat ∧
      (∀ u, w.grownBy u none → Ints u A' ((D.drop (sumI (L.take j)).toNat).take z.toNat)) ∧ (0 < z.toNat → ∃ b, A = some ⟨b, 0, none⟩ ∧ A' = some ⟨b, (sumI (L.take j)).toNat, none⟩) := by
  obtain ⟨h0, h4, hs0, hsz⟩ := sumI_le hok hz
  obtain ⟨s, hsn⟩ : ∃ s : Nat, sumI (L.take j) = (s : Int) := ⟨(sumI (L.take j)).toNat, by omega⟩
  obtain ⟨q, hqn⟩ : ∃ q : Nat, z = (q : Int) := ⟨z.toNat, by omega⟩
  have hcut := cutI_at L D j z hok hz
  rw [hsn, hqn] at hcut ⊢
  have e1 : ((s : Int) + (q : Int)).toNat = s + q := by omega
  have hlen : ((D.drop s).take q).length = q := by
    rw [List.length_take, List.length_drop]; omega
  simp only [Int.toNat_natCast] at hcut ⊢
  obtain ⟨A1, c1, hv, hI, hc1, hnone, hsome⟩ := h.form
  cases hv
  have hints : ∀ (b : Nat), A = some ⟨b, 0, none⟩ → ∀ u, w.grownBy u none → Ints u (some ⟨b, s, none⟩) ((D.drop s).take q) := fun b e u hu hpos => by
    subst e
    rw [hlen] at hpos
    obtain ⟨b2, xs, mm, e, hb, hcell⟩ := hsome _ rfl
    cases e
    have hlt : b < w.heap.size := (Array.getElem?_eq_some_iff.1 hb).1
    refine ⟨b, s, rfl, Nat.lt_of_lt_of_le hlt hu.size, fun i x hi => ?_⟩
    have hiq : i < q := by have := (List.getElem?_eq_some_iff.1 hi).1; omega
    rw [List.getElem?_take, if_pos hiq, List.getElem?_drop] at hi
    exact hu.cell (hcell (s + i) x hi) (by simp)
  by_cases hq : q = 0
  · subst hq
    refine ⟨A, by simp [sgV], hcut, by simp, fun u _ hp => by simp at hp, fun hp => by omega⟩
  · have hAs : ∃ a, A = some a := by
      cases A with
      | some a => exact ⟨a, rfl⟩
      | none =>
        have := (hnone rfl).2
        subst this
        simp at hs
        omega
    obtain ⟨a, rfl⟩ := hAs
    obtain ⟨b, xs, mm, rfl, hb, hcell⟩ := hsome _ rfl
    refine ⟨some ⟨b, s, none⟩, ?_, hcut, hlen, hints b rfl, fun _ => ⟨b, rfl, rfl⟩⟩
    simp only [sgV, e1, Int.toNat_natCast]
    rw [if_neg (by omega), show s + q - s = q from by omega]
    simp [addr_flat]

/-- What a round of foldSegments may write: rows of ints from B on, and the box g. -/
def foldX (B g : Nat) (k : Nat) (t : TypeId) : Prop := (t = 3 ∧ B ≤ k) ∨ (t = 23 ∧ k = g)

theorem keeps_rowK {X : Nat → TypeId → Prop} {V V' : World} {base e size n : Nat} {v : Value} {xs : List Value} (h : V.ownsRow base e size v n xs) (he : ∀ k, base ≤ k → X k e) (hg : V.grownBy V' v.ownBlock) : KeepsK X V V' := by
  rcases h.2 with ⟨rfl, _⟩ | ⟨g, cap, cur, rfl, hb, hgb, _⟩
  · exact KeepsK.grown hg
  · exact KeepsK.grownX hg hgb (he g hb)
theorem own_len3 {w : World} {base e m n : Nat} {A : Option Addr} {c : Nat} {xs : List Value} (h : w.ownsRow base e 1 (.slice A m c) n xs) : m = n := by
  rcases h.2 with ⟨hv, hn⟩ | ⟨g, cap, cur, hv, _⟩
  · cases hv; omega
  · cases hv; rfl

set_option maxRecDepth 100000 in
set_option maxHeartbeats 2000000 in
theorem foldsegs_any (gf : Nat) (f : Int → Int → Int) (lo : Int) (hi : Nat → Int) (hj : Joins2 gf f lo hi) (A B : Option Addr) (c d : Nat) (L D : List Int) (r : Int) (w : World) (hA : OwnI w (.slice A L.length c) L) (hB : OwnI w (.slice B D.length d) D) (hl : lensB L = true) (hs : (D.length : Int) = sumI L) (hok : okN 10006 D = true) (h0 : lo ≤ r) (h1 : r ≤ hi 0) :
    Calls Try.prog 102 #[.slice A L.length c, .slice B D.length d, .int .i64 r, .func (.func gf) #[] #[]] w (ListPost ((cutI L D).map fun l => l.foldl f r) w) := by
  obtain ⟨i0, hi0, hz0, hz1, hz2⟩ := info_parts infoJ
  obtain ⟨hl4, hlok, hsum4, hsum0⟩ := lensB_get hl
  obtain ⟨res, hres⟩ : ∃ res, (cutI L D).map (fun l => l.foldl f r) = res := ⟨_, rfl⟩
  have HRES := Lib.hid hres
  have hrl : res.length = L.length := by rw [← hres, List.length_map, cutI_len]
  rw [hres]
  obtain ⟨A1, c1, hv, hI, hc1, _, hsome⟩ := hA.form
  cases hv
  -- the worlds on the way to the loop
  obtain ⟨W1, hW1⟩ : ∃ W1, w.alloc (.cells #[.int .i64 r] 3) = W1 := ⟨_, rfl⟩
  obtain ⟨W2, hW2⟩ : ∃ W2, W1.alloc (.cells #[.func (.func gf) #[] #[]] 111) = W2 := ⟨_, rfl⟩
  obtain ⟨W3, hW3⟩ : ∃ W3, W2.alloc (.cells #[.slice none 0 0] 23) = W3 := ⟨_, rfl⟩
  obtain ⟨W4, hW4⟩ : ∃ W4, (W3.alloc (.cells #[.slice A L.length c] 23)).alloc (.cells #[.slice B D.length d] 23) = W4 := ⟨_, rfl⟩
  have s1 : W1.heap.size = w.heap.size + 1 := by rw [← hW1]; simp
  have s2 : W2.heap.size = w.heap.size + 2 := by rw [← hW2]; simp [s1]
  have s3 : W3.heap.size = w.heap.size + 3 := by rw [← hW3]; simp [s2]
  have s4 : W4.heap.size = w.heap.size + 5 := by rw [← hW4]; simp [s3]
  have g3 : w.grownBy W3 none := by rw [← hW3, ← hW2, ← hW1]; exact ((World.grownBy_alloc _ _ _).trans (World.grownBy_alloc _ _ _)).trans (World.grownBy_alloc _ _ _)
  have g4 : w.grownBy W4 none := by rw [← hW4]; exact (g3.trans (World.grownBy_alloc _ _ _)).trans (World.grownBy_alloc _ _ _)
  obtain ⟨X, hX⟩ : ∃ X, foldX W3.heap.size W2.heap.size = X := ⟨_, rfl⟩
  have b1 : W4.heap[w.heap.size]? = some (.cells #[.int .i64 r] 3 (0, 0)) := by
    rw [← hW4, Below.heap_alloc _ _ _ (by simp; omega), Below.heap_alloc _ _ _ (by omega), ← hW3, Below.heap_alloc _ _ _ (by omega), ← hW2, Below.heap_alloc _ _ _ (by omega), ← hW1]
    exact World.alloc_heap_new w _
  have b2 : W4.heap[W1.heap.size]? = some (.cells #[.func (.func gf) #[] #[]] 111 (0, 0)) := by
    rw [← hW4, Below.heap_alloc _ _ _ (by simp; omega), Below.heap_alloc _ _ _ (by omega), ← hW3, Below.heap_alloc _ _ _ (by omega), ← hW2]
    exact World.alloc_heap_new W1 _
  have b3 : W4.heap[W2.heap.size]? = some (.cells #[.slice none 0 0] 23 (0, 0)) := by
    rw [← hW4, Below.heap_alloc _ _ _ (by simp; omega), Below.heap_alloc _ _ _ (by omega), ← hW3]
    exact World.alloc_heap_new W2 _
  have b4 : W4.heap[W3.heap.size]? = some (.cells #[.slice A L.length c] 23 (0, 0)) := by
    rw [← hW4, Below.heap_alloc _ _ _ (by simp)]
    exact World.alloc_heap_new W3 _
  have b5 : W4.heap[W3.heap.size + 1]? = some (.cells #[.slice B D.length d] 23 (0, 0)) := by
    have := World.alloc_heap_new (W3.alloc (.cells #[.slice A L.length c] 23)) (.cells #[.slice B D.length d] 23)
    rw [World.size_alloc, hW4] at this
    exact this
  have x1 : ¬ X w.heap.size 3 := by rw [← hX]; simp [foldX]; omega
  have x2 : ∀ k, ¬ X k 111 := fun k => by rw [← hX]; simp [foldX]
  have x4 : ∀ k, W3.heap.size ≤ k → ¬ X k 23 := fun k hk => by rw [← hX]; simp [foldX]; omega
  have hLK : IntsK X W4 A L := fun hpos => by
    obtain ⟨b, off, rfl, hblt, hcell⟩ := hI hpos
    obtain ⟨b', xs, m, e, hb, _⟩ := hsome _ rfl
    cases e
    refine ⟨b, 0, xs, m, rfl, (g4.block b hblt (by simp)).trans hb, by rw [← hX]; simp [foldX]; omega, fun j z hj => g4.cell (hcell j z hj) (by simp)⟩
  obtain ⟨_, _, hv2, _, hdc, _⟩ := hB.form
  cases hv2
  have hseq := Lib.hid (segs_iter X (fun k => by rw [← hX]; simp [foldX]) W3.heap.size (W3.heap.size + 1) c d A B L D W4 (fun k hk => x4 k (by omega)) hLK (by omega) hlok (by omega) b4 (x4 _ (Nat.le_refl _)) b5 (x4 _ (by omega)))
  have HB1 := Lib.hid b1
  have HB2 := Lib.hid b2
  have HB3 : Hid (Boxed W4 W2.heap.size 23 (.slice none 0 0)) := Lib.hid b3
  have HX := Lib.hid hX
  have HX1 := Lib.hid x1
  have HX2 := Lib.hid x2
  have HG4 := Lib.hid g4
  have HS := Lib.hid (show W3.heap.size ≤ W4.heap.size ∧ W2.heap.size < W3.heap.size ∧ w.heap.size ≤ W3.heap.size by omega)
  have HD := Lib.hid hB
  have HLK := Lib.hid hlok
  have HSUM := Lib.hid hs
  have HOK := Lib.hid hok
  have HJ := Lib.hid hj
  have HRL := Lib.hid hrl
  have HW := Lib.hid (And.intro hW1 (And.intro hW2 (And.intro hW3 hW4)))
  have HL4 := Lib.hid hl4
  have HSZ := Lib.hid (And.intro s1 (And.intro s2 s3))
  obtain ⟨kl, hkl⟩ : ∃ kl, L.length = kl := ⟨_, rfl⟩
  obtain ⟨kd, hkd⟩ : ∃ kd, D.length = kd := ⟨_, rfl⟩
  have HKL := Lib.hid hkl
  have HKD := Lib.hid hkd
  rw [hkl, hkd] at HW
  rw [hkl, hkd]
  have hmx : Try.prog.follows .mixedOrders = true := by kernel_rfl
  clear hl hl4 hlok hsum4 hsum0 hres hrl hI hc1 hsome hW1 hW2 hW3 hW4 s1 s2 s3 s4 g3 g4 hX b1 b2 b3 b4 b5 x1 x2 x4 hLK hdc hA hB hs hok hj hkl hkd
  refine (callsIn_wide (n := 3)).1 ?_
  refine callsIn_of_wp_marks Try.func102 rfl trivial ?_ rfl
  simp only [Try.ntmps102, List.size_toArray, List.length_cons, List.length_nil, Nat.reduceAdd, Nat.reduceSub, Array.replicate_succ, Array.replicate_zero, List.push_toArray, List.append_toArray, List.nil_append, List.cons_append]
  gi_wp2_with (refine ⟨trivial, ?_⟩; refine (callsIn_wide.2 (segsmaker _ _ _ _ _ _ _)).mono ?_; rintro e w' ⟨rfl, rfl⟩)
  rw [HW.out.1, HW.out.2.1, HW.out.2.2.1, HW.out.2.2.2]
  obtain ⟨g, hg⟩ : ∃ g, w.heap.size + 1 + 1 = g := ⟨_, rfl⟩
  obtain ⟨e1, e2, e3⟩ := HSZ.out
  have e2' : W2.heap.size = g := by omega
  have e3' : W3.heap.size = g + 1 := by omega
  rw [e2'] at HB3
  rw [e1] at HB2
  rw [e3'] at hseq
  rw [e2', e3'] at HX
  have HSS := Lib.hid (show g + 1 ≤ W4.heap.size ∧ w.heap.size ≤ g ∧ g < W4.heap.size by have := HS.out; omega)
  rw [hg]
  clear e1 e2 e3 e2' e3' hg HS HSZ HW
  refine range_ownK (sgK B) (X := X) (zs := spanK 0 L) (gf := 119) (lb := #[.pointer (some ⟨g + 1, 0, none⟩), .pointer (some ⟨g + 1 + 1, 0, none⟩)]) rfl (enters_of Try.func119 (by kernel_rfl) rfl) hseq.out
    (fun pre V => (∃ v, Boxed V g 23 v ∧ V.ownsRow (g + 1) 3 1 v pre.length ((res.take pre.length).map (Value.int .i64)) ∧ True) ∧ w.grownBy V none ∧ KeepsK X W4 V) (fun _ _ => False) ?hI ?hIx ?h0 (fun _ => rfl)
    (fun x => { tmps := #[.slice A kl c, .slice B kd d, .int .i64 r, .func (.func gf) #[] #[], undef, undef, .pointer (some ⟨w.heap.size, 0, none⟩), .pointer (some ⟨w.heap.size + 1, 0, none⟩), .slice none 0 0, .pointer (some ⟨g, 0, none⟩), sgV B x, .slice A kl c, .slice B kd d,
          .func (.func 119) #[] #[.pointer (some ⟨g + 1, 0, none⟩), .pointer (some ⟨g + 1 + 1, 0, none⟩)], sgV B x, undef, undef, undef, undef, undef, undef, undef, undef], defers := [] }) ?assign ?body ?done ?stop
  case hI => exact OwnFrom.and (Own.from (holdsRow_own (g + 1) g 23 3 1 (fun pre : List (Int × Int) => pre.length) (fun pre => (res.take pre.length).map (Value.int .i64)) (fun _ _ => True)) _) (OwnFrom.and (fun s A C row hs hg hr => gr_ownF hs hg (fun k e => by have h1 := (hr k e).1; have h2 := HSS.out; omega)) (ownFrom_keepsK X W4 (Nat.le_refl _)))
  case hIx => exact fun _ _ _ _ hs _ _ => hs
  case h0 => exact ⟨⟨_, HB3.out, by simpa using World.ownsRow_nil _ _ _ _, trivial⟩, HG4.out, KeepsK.refl _ _⟩
  case assign =>
    intro l m x V K hK
    simp only [sgK]
    gi_wp2
    exact hK
  case body =>
    rintro l1 m1 pre x V hl1 hr1 ⟨⟨v, hv, hrow, _⟩, hG, hkV⟩ hpre
    obtain ⟨z, hz, hx, hpp⟩ := spanK_pre hpre
    subst hx
    have hBV : OwnI V (.slice B D.length d) D := HD.out.grown0 hG
    obtain ⟨A', hsv, hcut, hsl, hsi, _⟩ := sgV_ints hBV HLK.out HSUM.out hz
    obtain ⟨seg, hseg⟩ : ∃ seg, (D.drop (sumI (L.take pre.length)).toNat).take z.toNat = seg := ⟨_, rfl⟩
    have hsok : okN 10006 seg = true := by rw [← hseg]; exact okN_take (okN_drop HOK.out _) _
    rw [hseg] at hcut hsl hsi
    obtain ⟨q, hq⟩ : ∃ q, z.toNat = q := ⟨_, rfl⟩
    rw [hq] at hsv hsl
    have hq4 : q ≤ 400 := by have := (sumI_le HLK.out hz).2.1; omega
    have HF := Lib.hid (foldl_any gf f lo hi HJ.out A' q seg r V.drew (hsi _ (gr_drewN V 1 none)) (by omega) hsok h0 h1)
    rw [hsl] at HF
    obtain ⟨y, hy⟩ : ∃ y, seg.foldl f r = y := ⟨_, rfl⟩
    rw [hy] at HF
    have hry : res[pre.length]? = some y := by rw [← HRES.out, List.getElem?_map, hcut, ← hy]; rfl
    have hst := at_take hry
    have c1 : V.cell? ⟨w.heap.size, 0, none⟩ = some (.int .i64 r) := by
      have := hkV.cell HB1.out HX1.out
      simp [World.cell?, this]
    have c2 : V.cell? ⟨w.heap.size + 1, 0, none⟩ = some (.func (.func gf) #[] #[]) := by
      have := hkV.cell HB2.out (HX2.out _)
      simp [World.cell?, this]
    have c3 := hv.cell
    rw [hsv]
    have HSTILL := Lib.hid (HF.out.mono fun _ _ ⟨h, h'⟩ => (⟨h, h'.symm⟩ : _ ∧ _))
    clear hz hcut hsl hsi hseg hsok hq hy hry hsv hpp HF
    have HST := Lib.hid hst
    clear hst
    gi_wp2
    refine wpIn_region_late2 (lets_round l1) (fun u => u.cell? ⟨g, 0, none⟩ = some v) v 5 (by omega) rfl rfl rfl hmx (by kernel_rfl) (by kernel_rfl) (fun _ _ _ h => h) c3 rfl rfl (fun u hu => by simp [go_sem, hu]) ?_
    simp only [List.take_succ_cons, List.take_zero, List.drop_succ_cons, List.drop_zero]
    still_step
    still_step
    still_step
    still_call HSTILL.out
    refine wpStill_nil ?_
    go_simp
    have hpl : pre.length < 400 := by
      have h1 := hpre.length_le
      rw [spanK_len, List.length_append] at h1
      simp only [List.length_cons, List.length_nil] at h1
      have := HKL.out
      have := HL4.out
      omega
    have hrow2 : (V.alloc (.cells #[.int .i64 y] 3)).drew.ownsRow (g + 1) 3 1 v pre.length ((res.take pre.length).map (Value.int .i64)) := hrow.alloc _
    have hszV : g + 1 ≤ V.heap.size := by have := hkV.size; have := HSS.out; omega
    have HC := Lib.hid (cell_one_new V (.int .i64 y) 3)
    refine ⟨(hv.alloc _).cell, ?_⟩
    gi_wp2_with (gi_at_builtin; refine wpListIn_append_own _ rfl _ _ 23 rfl (g + 1) 3 i0 (.int .i64 0) 1 8 Try.underlying23 hi0 hz0 hz1 hz2 rfl (by decide) v pre.length _ rfl hrow2 ⟨V.heap.size, 0, none⟩ 1 1 [.int .i64 y] rfl rfl HC.out (by simp [Value.oneCell']) (by simp only [maxLen]; omega) (by omega) (by simp; omega) ?_; intro v' w1 hown' hgrow _; obtain ⟨g', cap', rfl⟩ := ownsRow_succ hown'; have hv1 : Boxed w1 g 23 v := Boxed.kept (W := (V.alloc (.cells #[.int .i64 y] 3)).drew) (hv.alloc _) hgrow (hv.not_row (by decide) hrow); have hc1 := hv1.cell; have hf1 := hv1.frozen)
    have hrow3 := hown'.kept (grownBy_setCell' w1 g (.slice (some ⟨g', 0, none⟩) (pre.length + 1) cap')) (.inr (hv1.not_row (by decide) hown').symm)
    have hg1 : (V.alloc (.cells #[.int .i64 y] 3)).grownBy w1 v.ownBlock := (gr_drewN (V.alloc (.cells #[.int .i64 y] 3)) 1 v.ownBlock).trans hgrow
    have ka : KeepsK X V (V.alloc (.cells #[.int .i64 y] 3)) := KeepsK.alloc _ _
    have kb : KeepsK X (V.alloc (.cells #[.int .i64 y] 3)) w1 := keeps_rowK (hrow.alloc _) (fun k hk => by rw [← HX.out]; exact .inl ⟨rfl, hk⟩) hg1
    have kc : KeepsK X w1 (w1.setCell ⟨g, 0, none⟩ (.slice (some ⟨g', 0, none⟩) (pre.length + 1) cap')) := KeepsK.grownX (grownBy_setCell' w1 g _) hv1 (by rw [← HX.out]; exact .inr ⟨rfl, rfl⟩)
    refine ⟨(ka.trans kb).trans kc, ⟨_, hv1.set _, ?_, trivial⟩, ?_, ((hkV.trans ka).trans kb).trans kc⟩
    · rw [List.length_append, List.length_singleton, HST.out]
      simpa using hrow3
    · have hlow := HSS.out
      refine gr_ownF (gr_ownF (hG.trans (World.grownBy_alloc V _ none)) hg1 (fun k hk => by have := (hrow.lt k hk).1; omega)) (grownBy_setCell' w1 g _) (fun k e => by cases e; omega)
  case done =>
    rintro Dm V hD ⟨⟨v, hv, hrow, _⟩, hG, _⟩ hK
    have hc := hv.cell
    obtain ⟨A6, m, c6, rfl⟩ := own_form hrow
    have hm6 := own_len3 hrow
    have e1 : (spanK 0 L).length = res.length := by rw [spanK_len, HRL.out]
    gi_wp2
    refine ⟨by simp, .inl ⟨_, _, rfl, run_takeDeferred hK, ?_⟩⟩
    refine ⟨_, results_tmp rfl _ _ _, A6, c6, ?_, gr_ownF hG (grownBy_putObj' V Dm _) (fun k e => by have := HSS.out; cases e; omega), ?_⟩
    · rfl
    · have h3 := own_base (base' := w.heap.size) (ownsRow_putObj hrow (.deferred none) hK rfl) (by have := HSS.out; omega)
      rw [e1, List.take_length, hm6, e1] at h3
      exact h3
  case stop =>
    rintro D pre V _ _ h _
    exact h.elim

end Go.Proofs.Ytbideeajdhejoaa

/- What StartsOf does, of the program and of the model. -/
import Derived.Test.YtbideeajdhejoaaPostB
import Derived.Test.YtbideeajdhejoaaFoldSg
import Derived.Test.YtbideeajdhejoaaSegSt
namespace Go.Proofs.Ytbideeajdhejoaa
open Go.RowKit Go.Shelf
attribute [local go_sem] Oper.semAt_some

def startsR (L : List Int) : List Int := if lensB L = true then startsI 0 L else []

set_option maxHeartbeats 1000000 in
theorem sstartsof_spec (v : Value) (L : List Int) (w : World) (hv : OwnI w v L) (hn : L.length ≤ 1048576) :
    Calls Try.prog 52 #[v] w (ListPostB (startsR L) (lensB L) w) := by
  obtain ⟨A, c, rfl, hA, _, _, _⟩ := hv.form
  have HS := Lib.hid (slens_any A c L w hA hn)
  obtain ⟨n, hnn⟩ : ∃ n, L.length = n := ⟨_, rfl⟩
  cases hl : lensB L with
  | false =>
    have hr : startsR L = [] := by simp [startsR, hl]
    rw [hl, hnn] at HS
    rw [hr, hnn]
    clear hA hn hnn hl hv hr
    go_enter Try.func52, Try.ntmps52
    go_wp2_with fail
    refine HS.out.mono ?_
    rintro e w1 ⟨rfl, rfl⟩
    go_wp2_with fail
    go_ret2
    exact ⟨_, 0, rfl, World.grownBy_alloc _ _ _, made_row w w.heap.size (Nat.le_refl _)⟩
  | true =>
    obtain ⟨_, hok, _, _⟩ := lensB_get hl
    have HF := Lib.hid (sstarts_any A c L w hA hok hn)
    have hr : startsR L = startsI 0 L := by simp [startsR, hl]
    rw [hl, hnn] at HS
    rw [hnn] at HF
    rw [hr, hnn]
    obtain ⟨zs, hzs⟩ : ∃ zs, startsI 0 L = zs := ⟨_, rfl⟩
    rw [hzs] at HF ⊢
    clear hA hn hnn hl hv hr hok hzs
    go_enter Try.func52, Try.ntmps52
    go_wp2_with fail
    refine HS.out.mono ?_
    rintro e w1 ⟨rfl, rfl⟩
    go_wp2_with fail
    refine HF.out.mono ?_
    rintro e w1 ⟨A1, c1, rfl, hg, ho⟩
    have HP := Lib.hid (And.intro hg ho)
    clear hg ho
    go_wp2_with fail
    go_ret2
    exact ⟨A1, c1, rfl, HP.out.1, HP.out.2⟩

set_option maxHeartbeats 1000000 in
theorem starts_no (v : Value) (L : List Int) (w : World) (hv : OwnI w v L) (hn : L.length ≤ 1048576) (hl : lensB L = false) :
    Calls Try.prog 51 #[v] w (ListPostB [] false w) := by
  obtain ⟨A, c, rfl, hA, _, _, _⟩ := hv.form
  have HS := Lib.hid (arelen_any A c L w hA hn)
  obtain ⟨n, hnn⟩ : ∃ n, L.length = n := ⟨_, rfl⟩
  rw [hl, hnn] at HS
  rw [hnn]
  clear hA hn hnn hl hv
  go_enter Try.func51, Try.ntmps51
  go_wp2_with fail
  refine HS.out.mono ?_
  rintro e w1 ⟨rfl, rfl⟩
  go_wp2_with fail
  go_ret2
  exact postB_nil _ _ (gr_refl _ _)

set_option maxRecDepth 100000 in
set_option maxHeartbeats 2000000 in
theorem starts_yes (v : Value) (L : List Int) (w : World) (hv : OwnI w v L) (hl : lensB L = true) :
    Calls Try.prog 51 #[v] w (ListPostB (startsI 0 L) true w) := by
  obtain ⟨i0, hi0, hz0, hz1, hz2⟩ := info_parts infoJ
  obtain ⟨hl4, hlok, hsum4, hsum0⟩ := lensB_get hl
  obtain ⟨A, c, rfl, hA, hc1, _, hsome⟩ := hv.form
  have HS := Lib.hid (arelen_any A c L w hA (by omega))
  rw [hl] at HS
  obtain ⟨res, hres⟩ : ∃ res, startsI 0 L = res := ⟨_, rfl⟩
  have HRA := Lib.hid (fun j z (h : L[j]? = some z) => startsI_step h)
  have HRL := Lib.hid (startsI_len L 0)
  rw [hres] at HRA HRL ⊢
  obtain ⟨g, hg⟩ : ∃ g, w.heap.size = g := ⟨_, rfl⟩
  obtain ⟨W1, hW1⟩ : ∃ W1, w.alloc (.cells #[.slice none 0 0] 23) = W1 := ⟨_, rfl⟩
  obtain ⟨W2, hW2⟩ : ∃ W2, W1.alloc (.cells #[.slice A L.length c] 23) = W2 := ⟨_, rfl⟩
  have s1 : W1.heap.size = g + 1 := by rw [← hW1]; simp [hg]
  have s2 : W2.heap.size = g + 2 := by rw [← hW2]; simp [s1]
  have g2 : w.grownBy W2 none := by rw [← hW2, ← hW1]; exact (World.grownBy_alloc _ _ _).trans (World.grownBy_alloc _ _ _)
  obtain ⟨X, hX⟩ : ∃ X, foldX (g + 1) g = X := ⟨_, rfl⟩
  have b1 : Boxed W2 g 23 (.slice none 0 0) := by
    rw [← hW2, ← hg]
    refine (Boxed.alloc ?_ _)
    rw [← hW1]
    exact Boxed.new w _ _
  have b2 : W2.heap[g + 1]? = some (.cells #[.slice A L.length c] 23 (0, 0)) := by rw [← hW2, ← s1]; exact World.alloc_heap_new W1 _
  have hLK : IntsK X W2 A L := fun hpos => by
    obtain ⟨b, off, rfl, hblt, hcell⟩ := hA hpos
    obtain ⟨b', xs, m, e, hb, _⟩ := hsome _ rfl
    cases e
    refine ⟨b, 0, xs, m, rfl, (g2.block b hblt (by simp)).trans hb, by rw [← hX]; simp [foldX]; omega, fun j z hj => g2.cell (hcell j z hj) (by simp)⟩
  have hseq := Lib.hid (spansK_iter X (g + 1) c A L W2 hLK (by rw [← hX]; simp [foldX]) (by omega) hlok b2)
  have HB1 := Lib.hid b1
  have HG2 := Lib.hid g2
  have HX := Lib.hid hX
  have HW := Lib.hid (And.intro hW1 hW2)
  have HL4 := Lib.hid hl4
  have HSS := Lib.hid (show W2.heap.size = g + 2 ∧ w.heap.size = g from ⟨s2, hg⟩)
  obtain ⟨kl, hkl⟩ : ∃ kl, L.length = kl := ⟨_, rfl⟩
  have HKL := Lib.hid hkl
  rw [hkl] at HW HS
  rw [hkl]
  clear hl hl4 hlok hsum4 hsum0 hA hc1 hsome hW1 hW2 s1 s2 g2 hX b1 b2 hLK hv hres hkl
  refine (callsIn_wide (n := 3)).1 ?_
  refine callsIn_of_wp_marks Try.func51 rfl trivial ?_ rfl
  simp only [Try.ntmps51, List.size_toArray, List.length_cons, List.length_nil, Nat.reduceAdd, Nat.reduceSub, Array.replicate_succ, Array.replicate_zero, List.push_toArray, List.append_toArray, List.nil_append, List.cons_append]
  gi_wp2_with (first | (refine ⟨trivial, ?_⟩; gi_at_call 93; refine (callsIn_wide.2 HS.out).mono ?_; rintro e w' ⟨rfl, rfl⟩) | (refine ⟨trivial, ?_⟩; gi_at_call 99; refine (callsIn_wide.2 (spansmaker _ _ _ _)).mono ?_; rintro e w' ⟨rfl, rfl⟩))
  rw [HW.out.1, HW.out.2]
  clear HS HW
  refine range_ownK twoK (X := X) (zs := spanK 0 L) (gf := 120) (lb := #[.pointer (some ⟨g + 1, 0, none⟩)]) rfl (enters_of Try.func120 (by kernel_rfl) rfl) hseq.out
    (fun pre V => (∃ v, Boxed V g 23 v ∧ V.ownsRow (g + 1) 3 1 v pre.length ((res.take pre.length).map (Value.int .i64)) ∧ True) ∧ w.grownBy V none) (fun _ _ => False) ?hI ?hIx ?h0 (fun _ => rfl)
    (fun x => { tmps := #[.slice A kl c, undef, .slice none 0 0, .bool false, .pointer (some ⟨g, 0, none⟩), .int .i64 x.1, .slice A kl c, .bool true, .bool false, .slice A kl c,
          .func (.func 120) #[] #[.pointer (some ⟨g + 1, 0, none⟩)], .int .i64 x.1, .int .i64 x.2, undef, undef, undef, undef, undef], defers := [] }) ?assign ?body ?done ?stop
  case hI => exact OwnFrom.and (Own.from (holdsRow_own (g + 1) g 23 3 1 (fun pre : List (Int × Int) => pre.length) (fun pre => (res.take pre.length).map (Value.int .i64)) (fun _ _ => True)) _) (fun s A C row hs hg hr => gr_ownF hs hg (fun k e => by have h1 := (hr k e).1; have h2 := HSS.out; omega))
  case hIx => exact fun _ _ _ _ hs _ _ => hs
  case h0 => exact ⟨⟨_, HB1.out, by simpa using World.ownsRow_nil _ _ _ _, trivial⟩, HG2.out⟩
  case assign =>
    intro l m x V K hK
    simp only [twoK]
    gi_wp2
    exact hK
  case body =>
    rintro l1 m1 pre x V hl1 hr1 ⟨⟨v, hv, hrow, _⟩, hG⟩ hpre
    obtain ⟨z, hz, hx, hpp⟩ := spanK_pre hpre
    subst hx
    have hst := HRA.out _ z hz
    have HST := Lib.hid hst
    obtain ⟨s, hs⟩ : ∃ s, sumI (L.take pre.length) = s := ⟨_, rfl⟩
    rw [hs] at HST
    have hpl : pre.length < 400 := by
      have h1 := hpre.length_le
      rw [spanK_len, List.length_append] at h1
      simp only [List.length_cons, List.length_nil] at h1
      have := HKL.out
      have := HL4.out
      omega
    have hszV : g + 1 ≤ V.heap.size := by have := hv.lt; omega
    have hc := hv.cell
    have HC := Lib.hid (cell_one_new V (.int .i64 s) 3)
    simp only [hs]
    clear hz hpp hst hs
    gi_wp2_with (gi_at_builtin; refine wpListIn_append_own _ rfl _ _ 23 rfl (g + 1) 3 i0 (.int .i64 0) 1 8 Try.underlying23 hi0 hz0 hz1 hz2 rfl (by decide) v pre.length _ rfl (hrow.alloc _) ⟨V.heap.size, 0, none⟩ 1 1 [.int .i64 s] rfl rfl HC.out (by simp [Value.oneCell']) (by simp only [maxLen]; omega) (by omega) (by simp; omega) ?_; intro v' w1 hown' hgrow _; obtain ⟨g', cap', rfl⟩ := ownsRow_succ hown'; have hv1 : Boxed w1 g 23 v := Boxed.kept (hv.alloc _) hgrow (hv.not_row (by decide) hrow); have hc1 := hv1.cell; have hf1 := hv1.frozen)
    have hrow3 := hown'.kept (grownBy_setCell' w1 g (.slice (some ⟨g', 0, none⟩) (pre.length + 1) cap')) (.inr (hv1.not_row (by decide) hown').symm)
    have ka : KeepsK X V (V.alloc (.cells #[.int .i64 s] 3)) := KeepsK.alloc _ _
    have kb : KeepsK X (V.alloc (.cells #[.int .i64 s] 3)) w1 := keeps_rowK (hrow.alloc _) (fun k hk => by rw [← HX.out]; exact .inl ⟨rfl, hk⟩) hgrow
    have kc : KeepsK X w1 (w1.setCell ⟨g, 0, none⟩ (.slice (some ⟨g', 0, none⟩) (pre.length + 1) cap')) := KeepsK.grownX (grownBy_setCell' w1 g _) hv1 (by rw [← HX.out]; exact .inr ⟨rfl, rfl⟩)
    refine ⟨(ka.trans kb).trans kc, ⟨_, hv1.set _, ?_, trivial⟩, ?_⟩
    · rw [List.length_append, List.length_singleton, HST.out]
      simpa using hrow3
    · have hlow := HSS.out
      refine gr_ownF (gr_ownF (hG.trans (World.grownBy_alloc V _ none)) hgrow (fun k hk => by have := (hrow.lt k hk).1; omega)) (grownBy_setCell' w1 g _) (fun k e => by cases e; omega)
  case done =>
    rintro Dm V hD ⟨⟨v, hv, hrow, _⟩, hG⟩ hK
    have hc := hv.cell
    obtain ⟨A6, m, c6, rfl⟩ := own_form hrow
    obtain rfl := own_len3 hrow
    have e1 : (spanK 0 L).length = res.length := by rw [spanK_len, HRL.out]
    gi_wp2
    refine ⟨by simp, .inl ⟨_, _, rfl, run_takeDeferred hK, ?_⟩⟩
    have h3 := own_base (base' := w.heap.size) (ownsRow_putObj hrow (.deferred none) hK rfl) (by have := HSS.out; omega)
    rw [e1, List.take_length] at h3
    have hgl : w.grownBy (V.putObj Dm (.deferred none)) none := gr_ownF hG (grownBy_putObj' V Dm _) (fun k e => by have := HSS.out; cases e; omega)
    exact ⟨.tuple #[.slice A6 res.length c6, .bool true], by simp [results, Try.results51, go_sem], A6, c6, rfl, hgl, h3⟩
  case stop =>
    rintro D pre V _ _ h _
    exact h.elim

theorem starts_impl (v : Value) (L : List Int) (w : World) (hv : OwnI w v L) (hn : L.length ≤ 1048576) :
    Calls Try.prog 51 #[v] w (ListPostB (startsR L) (lensB L) w) := by
  cases hl : lensB L with
  | false =>
    have hr : startsR L = [] := by simp [startsR, hl]
    rw [hr]
    exact starts_no v L w hv hn hl
  | true =>
    have hr : startsR L = startsI 0 L := by simp [startsR, hl]
    rw [hr]
    exact starts_yes v L w hv hl

/-- Both at once: the same numbers. -/
theorem both_starts (L : List Int) (hn : L.length ≤ 1048576) : ∃ (zs : List Int) (b : Bool), zs.length ≤ 1048576 ∧
    (∀ v w, OwnI w v L → Calls Try.prog 52 #[v] w fun e w' => ∃ A c, e = .returned (.tuple #[.slice A zs.length c, .bool b]) ∧ w.grownBy w' none ∧ Ints w' A zs) ∧
    (∀ v w, OwnI w v L → Calls Try.prog 51 #[v] w fun e w' => ∃ A c, e = .returned (.tuple #[.slice A zs.length c, .bool b]) ∧ w.grownBy w' none ∧
      w'.ownsRow w.heap.size 3 1 (.slice A zs.length c) zs.length (zs.map (Value.int .i64))) := by
  refine ⟨startsR L, lensB L, ?_, fun v w h1 => (sstartsof_spec v L w h1 hn).mono ?_, fun v w h1 => (starts_impl v L w h1 hn).mono ?_⟩
  · unfold startsR
    split
    · rw [startsI_len]; exact hn
    · simp
  · rintro e w' ⟨A, c, rfl, hg, ho⟩
    exact ⟨A, c, rfl, hg, Ints.of_own ho⟩
  · rintro e w' ⟨A, c, rfl, hg, ho⟩
    exact ⟨A, c, rfl, hg, ho⟩

end Go.Proofs.Ytbideeajdhejoaa

/- What CountUp does, of the program and of the model. -/
import Derived.Test.YtbideeajdhejoaaFoldSg
import Derived.Test.YtbideeajdhejoaaGenUp
import Derived.Test.YtbideeajdhejoaaUpI
namespace Go.Proofs.Ytbideeajdhejoaa
open Go.RowKit Go.Shelf
attribute [local go_sem] Oper.semAt_some

theorem sgV_at (g s z : Nat) : ∃ A', sgV (some ⟨g, 0, none⟩) ((s : Int), (s : Int) + (z : Int)) = .slice A' z z ∧ (0 < z → A' = some ⟨g, s, none⟩) := by
  have e1 : ((s : Int) + (z : Int)).toNat = s + z := by omega
  by_cases hz : z = 0
  · subst hz
    exact ⟨some ⟨g, 0, none⟩, by simp [sgV], fun h => by omega⟩
  · refine ⟨some ⟨g, s, none⟩, ?_, fun _ => rfl⟩
    simp only [sgV, e1, Int.toNat_natCast]
    rw [if_neg (by omega), show s + z - s = z from by omega]
    simp [addr_flat]

set_option maxHeartbeats 1000000 in
theorem scountup_spec (v : Value) (L : List Int) (w : World) (hv : OwnI w v L) (hn : L.length ≤ 1048576) :
    Calls Try.prog 50 #[v] w (ListPostB (upR L) (lensB L) w) := by
  obtain ⟨A, c, rfl, hA, _, _, _⟩ := hv.form
  have HS := Lib.hid (slens_any A c L w hA hn)
  obtain ⟨n, hnn⟩ : ∃ n, L.length = n := ⟨_, rfl⟩
  cases hl : lensB L with
  | false =>
    have hr : upR L = [] := by simp [upR, hl]
    rw [hl, hnn] at HS
    rw [hr, hnn]
    clear hA hn hnn hl hv hr
    go_enter Try.func50, Try.ntmps50
    go_wp2_with fail
    refine HS.out.mono ?_
    rintro e w1 ⟨rfl, rfl⟩
    go_wp2_with fail
    go_ret2
    exact ⟨_, 0, rfl, World.grownBy_alloc _ _ _, made_row w w.heap.size (Nat.le_refl _)⟩
  | true =>
    have HF := Lib.hid (sup_any A c L w hA hl)
    have hr : upR L = genI upF 0 L := by simp [upR, hl]
    rw [hl, hnn] at HS
    rw [hnn] at HF
    rw [hr, hnn]
    obtain ⟨zs, hzs⟩ : ∃ zs, genI upF 0 L = zs := ⟨_, rfl⟩
    rw [hzs] at HF ⊢
    clear hA hn hnn hl hv hr hzs
    go_enter Try.func50, Try.ntmps50
    go_wp2_with fail
    refine HS.out.mono ?_
    rintro e w1 ⟨rfl, rfl⟩
    go_wp2_with fail
    refine HF.out.mono ?_
    rintro e w1 ⟨A1, c1, rfl, hg, ho⟩
    have HP := Lib.hid (And.intro hg ho)
    clear hg ho
    go_wp2_with fail
    go_ret2
    exact ⟨A1, c1, rfl, HP.out.1, HP.out.2⟩

set_option maxHeartbeats 1000000 in
theorem countup_no (v : Value) (L : List Int) (w : World) (hv : OwnI w v L) (hn : L.length ≤ 1048576) (hl : lensB L = false) :
    Calls Try.prog 49 #[v] w (ListPostB [] false w) := by
  obtain ⟨A, c, rfl, hA, _, _, _⟩ := hv.form
  have HS := Lib.hid (arelen_any A c L w hA hn)
  obtain ⟨n, hnn⟩ : ∃ n, L.length = n := ⟨_, rfl⟩
  rw [hl, hnn] at HS
  rw [hnn]
  clear hA hn hnn hl hv
  go_enter Try.func49, Try.ntmps49
  go_wp2_with fail
  refine HS.out.mono ?_
  rintro e w1 ⟨rfl, rfl⟩
  go_wp2_with fail
  go_ret2
  exact postB_nil _ _ (gr_refl _ _)

/-- What a round of CountUp may write: ints in the one block. -/
def countX (g : Nat) (k : Nat) (t : TypeId) : Prop := t = 3 ∧ k = g

set_option maxRecDepth 100000 in
set_option maxHeartbeats 4000000 in
theorem countup_yes (v : Value) (L : List Int) (w : World) (hv : OwnI w v L) (hl : lensB L = true) :
    Calls Try.prog 49 #[v] w (ListPostB (genI upF 0 L) true w) := by
  obtain ⟨i0, hi0, hz0, hz1, hz2⟩ := info_parts infoJ
  obtain ⟨hl4, hlok, hsum4, hsum0⟩ := lensB_get hl
  obtain ⟨A, c, rfl, hA, hc1, _, hsome⟩ := hv.form
  have HS := Lib.hid (arelen_any A c L w hA (by omega))
  have HSM := Lib.hid (sumof_any A c L w hA hlok (by omega))
  rw [hl] at HS
  obtain ⟨n, hn⟩ : ∃ n : Nat, sumI L = (n : Int) := ⟨(sumI L).toNat, by omega⟩
  rw [hn] at HSM
  have hn4 : n ≤ 400 := by omega
  obtain ⟨g, hg⟩ : ∃ g, w.heap.size = g := ⟨_, rfl⟩
  obtain ⟨W1, hW1⟩ : ∃ W1, w.alloc (.cells (madeCells #[.int .i64 0] n) 3) = W1 := ⟨_, rfl⟩
  obtain ⟨W3, hW3⟩ : ∃ W3, (W1.alloc (.cells #[.slice A L.length c] 23)).alloc (.cells #[.slice (some ⟨g, 0, none⟩) n n] 23) = W3 := ⟨_, rfl⟩
  have s1 : W1.heap.size = g + 1 := by rw [← hW1]; simp [hg]
  have s3 : W3.heap.size = g + 3 := by rw [← hW3]; simp [s1]
  have g1 : w.grownBy W1 none := by rw [← hW1]; exact World.grownBy_alloc _ _ _
  have g13 : W1.grownBy W3 none := by rw [← hW3]; exact (World.grownBy_alloc _ _ _).trans (World.grownBy_alloc _ _ _)
  have g3 := g1.trans g13
  obtain ⟨X, hX⟩ : ∃ X, countX g = X := ⟨_, rfl⟩
  have ho1 : W1.ownsRow g 3 1 (.slice (some ⟨g, 0, none⟩) n n) n (madeCells #[.int .i64 0] n).toList := by
    rw [← hW1, ← hg]
    exact World.ownsRow_lit (base := w.heap.size) (e := 3) (size := 1) w (madeCells #[.int .i64 0] n) n (Nat.le_refl _) (by simp only [maxLen]; omega) (by simp [madeCells])
  have ho3 := own_keep ho1 (fun k hk => g13.block k (ho1.lt k hk).2 (by simp))
  have b1 : W3.heap[g + 1]? = some (.cells #[.slice A L.length c] 23 (0, 0)) := by
    rw [← hW3, Below.heap_alloc _ _ _ (by simp; omega), ← s1]
    exact World.alloc_heap_new W1 _
  have b2 : W3.heap[g + 2]? = some (.cells #[.slice (some ⟨g, 0, none⟩) n n] 23 (0, 0)) := by
    have := World.alloc_heap_new (W1.alloc (.cells #[.slice A L.length c] 23)) (.cells #[.slice (some ⟨g, 0, none⟩) n n] 23)
    rw [World.size_alloc, hW3, s1] at this
    exact this
  have hLK : IntsK X W3 A L := fun hpos => by
    obtain ⟨b, off, rfl, hblt, hcell⟩ := hA hpos
    obtain ⟨b', xs, m, e, hb, _⟩ := hsome _ rfl
    cases e
    refine ⟨b, 0, xs, m, rfl, (g3.block b hblt (by simp)).trans hb, by rw [← hX]; simp [countX]; omega, fun j z hj => g3.cell (hcell j z hj) (by simp)⟩
  have hseq := Lib.hid (segs_iter X (fun k => by rw [← hX]; simp [countX]) (g + 1) (g + 2) c n A (some ⟨g, 0, none⟩) L (List.replicate n 0) W3 (fun k hk => by rw [← hX]; simp [countX]) hLK (by omega) hlok (by omega) b1 (by rw [← hX]; simp [countX]) (by rw [List.length_replicate]; exact b2) (by rw [← hX]; simp [countX]))
  have hmk : ∀ u : World, (Instr.makeSlice 23 (.int .i64 (n : Int)) (.int .i64 (n : Int))).run Try.prog u =
      .ok (.slice (some ⟨u.heap.size, 0, none⟩) n n) (u.alloc (.cells (madeCells #[.int .i64 0] n) 3)) := fun u => by
    have h := run_make (P := Try.prog) u 23 3 i0 (.int .i64 0) Try.underlying23 hi0 hz0 .i64 .i64 (n : Int) (n : Int) (by omega) (Int.le_refl _) (by rw [hz2]; omega) (by omega)
    simpa [hz1, Value.cells] using h
  have HO := Lib.hid ho3
  have HG3 := Lib.hid g3
  have HX := Lib.hid hX
  have HW := Lib.hid (And.intro hW1 hW3)
  have HOK := Lib.hid hlok
  have HN := Lib.hid hn
  have HSS := Lib.hid (show W3.heap.size = g + 3 ∧ w.heap.size = g from ⟨s3, hg⟩)
  obtain ⟨kl, hkl⟩ : ∃ kl, L.length = kl := ⟨_, rfl⟩
  have HKL := Lib.hid hkl
  rw [hkl] at HW HS HSM
  rw [hkl]
  clear hl hl4 hlok hsum4 hsum0 hA hc1 hsome hW1 hW3 s1 s3 g1 g13 g3 hX b1 b2 hLK hv hkl hn ho1 ho3 hi0 hz0 hz1 hz2
  refine (callsIn_wide (n := 3)).1 ?_
  refine callsIn_of_wp_marks Try.func49 rfl trivial ?_ rfl
  simp only [Try.ntmps49, List.size_toArray, List.length_cons, List.length_nil, Nat.reduceAdd, Nat.reduceSub, Array.replicate_succ, Array.replicate_zero, List.push_toArray, List.append_toArray, List.nil_append, List.cons_append]
  gi_wp2_with (first | (refine ⟨trivial, ?_⟩; gi_at_call 93; refine (callsIn_wide.2 HS.out).mono ?_; rintro e w' ⟨rfl, rfl⟩) | (refine ⟨trivial, ?_⟩; gi_at_call 72; refine (callsIn_wide.2 HSM.out).mono ?_; rintro e w' ⟨rfl, rfl⟩) | (refine ⟨trivial, ?_⟩; gi_at_call 96; refine (callsIn_wide.2 (segsmaker _ _ _ _ _ _ _)).mono ?_; rintro e w' ⟨rfl, rfl⟩))
  rw [HW.out.1, HW.out.2]
  clear HS HW HSM hmk
  refine range_ownK (sgK (some ⟨g, 0, none⟩)) (X := X) (zs := spanK 0 L) (gf := 119) (lb := #[.pointer (some ⟨g + 1, 0, none⟩), .pointer (some ⟨g + 2, 0, none⟩)]) rfl (enters_of Try.func119 (by kernel_rfl) rfl) hseq.out
    (fun pre V => (∃ ys, V.ownsRow g 3 1 (.slice (some ⟨g, 0, none⟩) n n) n ys ∧ ys.take (sumI (L.take pre.length)).toNat = (genI upF 0 (L.take pre.length)).map (Value.int .i64)) ∧ w.grownBy V none) (fun _ _ => False) ?hI ?hIx ?h0 (fun _ => rfl)
    (fun x => { tmps := #[.slice A kl c, undef, .slice none 0 0, .bool false, .slice (some ⟨g, 0, none⟩) n n, sgV (some ⟨g, 0, none⟩) x, .slice A kl c, .bool true, .bool false, .slice A kl c, .int .i64 (n : Int), .slice (some ⟨g, 0, none⟩) n n, .slice A kl c, .slice (some ⟨g, 0, none⟩) n n,
          .func (.func 119) #[] #[.pointer (some ⟨g + 1, 0, none⟩), .pointer (some ⟨g + 2, 0, none⟩)], sgV (some ⟨g, 0, none⟩) x, undef, undef, undef], defers := [] }) ?assign ?body ?done ?stop
  case hI =>
    refine OwnFrom.and ?_ (fun s A C row hs hg hr => gr_ownF hs hg (fun k e => by have h1 := (hr k e).1; have h2 := HSS.out; omega))
    intro s A C row hs hg hr
    obtain ⟨ys, h1, h2⟩ := hs
    refine ⟨ys, own_keep h1 (fun k hk => hg.block k (h1.lt k hk).2 ?_), h2⟩
    intro e
    have h3 := (hr k e.symm).1
    have h4 := HSS.out
    have h5 : g = k := by simpa [Value.ownBlock] using hk
    omega
  case hIx => exact fun _ _ _ _ hs _ _ => hs
  case h0 => exact ⟨⟨_, HO.out, by simp [sumI, genI]⟩, HG3.out⟩
  case assign =>
    intro l m x V K hK
    simp only [sgK]
    gi_wp2
    exact hK
  case body =>
    rintro l1 m1 pre x V hl1 hr1 ⟨⟨ys0, hrow, hys0⟩, hG⟩ hpre
    obtain ⟨z0, hz, hx, hpp⟩ := spanK_pre hpre
    subst hx
    obtain ⟨hz0, hz4, hs0, hsz⟩ := sumI_le HOK.out hz
    have hs1 := sumI_step hz
    have HGT := Lib.hid (genI_take upF L 0 _ _ hz)
    obtain ⟨s, hs⟩ : ∃ s : Nat, sumI (L.take pre.length) = (s : Int) := ⟨(sumI (L.take pre.length)).toNat, by omega⟩
    obtain ⟨z, rfl⟩ : ∃ z : Nat, z0 = (z : Int) := ⟨z0.toNat, by omega⟩
    rw [hs] at hs1 hys0 ⊢
    rw [Int.toNat_natCast] at hys0
    obtain ⟨A', hsv, hA'⟩ := sgV_at g s z
    have hszn : s + z ≤ n := by have := HN.out; omega
    rw [hsv]
    have HS1 := Lib.hid hs1
    have HUP := Lib.hid (up_any g g n n s z A' z ys0 V hrow hA' hszn (by omega))
    have HYL := Lib.hid (show ys0.length = n by have := hrow.1; omega)
    have HYS := Lib.hid hys0
    have HRW := Lib.hid hrow
    have HGV := Lib.hid hG
    clear hz hpp hs hsv hz0 hz4 hs0 hsz hs1 hA' hrow hys0 hG
    gi_wp2
    refine ⟨trivial, fun h => (by cases h), ?_⟩
    refine (CallsIn.inRound l1 (callsIn_wide.2 HUP.out)).mono ?_
    rintro e w' ⟨rfl, ho', hg'⟩
    gi_wp2
    have hgb : ∃ xs m, V.heap[g]? = some (.cells xs 3 m) := by
      rcases HRW.out.2 with ⟨hv, _⟩ | ⟨g', cap, cur, hv, _, hg', _⟩
      · cases hv
      · cases hv; exact ⟨_, _, hg'⟩
    obtain ⟨xs, mm, hgb⟩ := hgb
    refine ⟨KeepsK.grownX hg' hgb (by rw [← HX.out]; exact ⟨rfl, rfl⟩), ⟨_, ho', ?_⟩, gr_ownF HGV.out hg' (fun k e => by have := HSS.out; cases e; omega)⟩
    have h5 := spl_take (ys := ys0) (s := s) (L := upV z) (by rw [HYL.out]; omega)
    rw [upV_len] at h5
    rw [List.length_append, List.length_singleton, HS1.out, HGT.out, show ((s : Int) + (z : Int)).toNat = s + z from by omega, h5, HYS.out, Nat.zero_add, Int.toNat_natCast, List.map_append, List.map_map]
    rfl
  case done =>
    rintro Dm V hD ⟨⟨ys, hrow, hyt⟩, hG⟩ hK
    have e1 : (spanK 0 L).length = L.length := spanK_len L 0
    rw [e1, List.take_length, HN.out, Int.toNat_natCast, List.take_of_length_le (by have := hrow.1; omega)] at hyt
    subst hyt
    have e2 : (genI upF 0 L).length = n := by have := genI_len upF L 0 HOK.out; have := HN.out; omega
    clear e1
    have HE := Lib.hid e2
    clear e2
    gi_wp2
    refine ⟨by simp, .inl ⟨_, _, rfl, run_takeDeferred hK, ?_⟩⟩
    have h3 := own_base (base' := w.heap.size) (ownsRow_putObj hrow (.deferred none) hK rfl) (by have := HSS.out; omega)
    have hgl : w.grownBy (V.putObj Dm (.deferred none)) none := gr_ownF hG (grownBy_putObj' V Dm _) (fun k e => by have := HSS.out; cases e; omega)
    refine ⟨.tuple #[.slice (some ⟨g, 0, none⟩) n n, .bool true], by simp [results, Try.results49, go_sem], some ⟨g, 0, none⟩, n, by rw [HE.out], hgl, by rw [HE.out]; exact h3⟩
  case stop =>
    rintro D pre V _ _ h _
    exact h.elim

theorem countup_impl (v : Value) (L : List Int) (w : World) (hv : OwnI w v L) (hn : L.length ≤ 1048576) :
    Calls Try.prog 49 #[v] w (ListPostB (upR L) (lensB L) w) := by
  cases hl : lensB L with
  | false =>
    have hr : upR L = [] := by simp [upR, hl]
    rw [hr]
    exact countup_no v L w hv hn hl
  | true =>
    have hr : upR L = genI upF 0 L := by simp [upR, hl]
    rw [hr]
    exact countup_yes v L w hv hl

/-- Both at once: the same numbers. -/
theorem both_countup (L : List Int) (hn : L.length ≤ 1048576) : ∃ (zs : List Int) (b : Bool), zs.length ≤ 1048576 ∧
    (∀ v w, OwnI w v L → Calls Try.prog 50 #[v] w fun e w' => ∃ A c, e = .returned (.tuple #[.slice A zs.length c, .bool b]) ∧ w.grownBy w' none ∧ Ints w' A zs) ∧
    (∀ v w, OwnI w v L → Calls Try.prog 49 #[v] w fun e w' => ∃ A c, e = .returned (.tuple #[.slice A zs.length c, .bool b]) ∧ w.grownBy w' none ∧
      w'.ownsRow w.heap.size 3 1 (.slice A zs.length c) zs.length (zs.map (Value.int .i64))) := by
  refine ⟨upR L, lensB L, ?_, fun v w h1 => (scountup_spec v L w h1 hn).mono ?_, fun v w h1 => (countup_impl v L w h1 hn).mono ?_⟩
  · unfold upR
    split
    · rename_i h
      obtain ⟨_, h2, h3, _⟩ := lensB_get h
      have := genI_len upF L 0 h2
      omega
    · simp
  · rintro e w' ⟨A, c, rfl, hg, ho⟩
    exact ⟨A, c, rfl, hg, Ints.of_own ho⟩
  · rintro e w' ⟨A, c, rfl, hg, ho⟩
    exact ⟨A, c, rfl, hg, ho⟩

end Go.Proofs.Ytbideeajdhejoaa

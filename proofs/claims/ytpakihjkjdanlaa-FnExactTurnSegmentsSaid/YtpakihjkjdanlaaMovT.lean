/- What moveIndices does with slices.Reverse. -/
import Derived.Test.YtpakihjkjdanlaaMovI
namespace Go.Proofs.Ytpakihjkjdanlaa
open Go.RowKit Go.Shelf
attribute [local go_sem] Oper.semAt_some

theorem sgV_atX (g s z : Nat) : ∃ A', sgV (some ⟨g, 0, none⟩) ((s : Int), (s : Int) + (z : Int)) = .slice A' z z ∧ (0 < z → A' = some ⟨g, s, none⟩) := by
  have e1 : ((s : Int) + (z : Int)).toNat = s + z := by omega
  by_cases hz : z = 0
  · subst hz
    exact ⟨some ⟨g, 0, none⟩, by simp [sgV], fun h => by omega⟩
  · refine ⟨some ⟨g, s, none⟩, ?_, fun _ => rfl⟩
    simp only [sgV, e1, Int.toNat_natCast]
    rw [if_neg (by omega), show s + z - s = z from by omega]
    simp [addr_flat]
theorem segsmakerX (A B : Option Addr) (n c m d : Nat) (w : World) : Calls Try.prog 73 #[.slice A n c, .slice B m d] w fun e w' =>
    e = .returned (.func (.func 108) #[] #[.pointer (some ⟨w.heap.size, 0, none⟩), .pointer (some ⟨w.heap.size + 1, 0, none⟩)]) ∧ w' = (w.alloc (.cells #[.slice A n c] 22)).alloc (.cells #[.slice B m d] 22) := by
  have hmf := @makeFunc_runK
  go_enter Try.func73, Try.ntmps73
  go_wp2_with fail
  go_ret
  exact ⟨rfl, rfl⟩

/-- What a round may write: ints in the one block. -/
def rowX (g : Nat) (k : Nat) (t : TypeId) : Prop := t = 3 ∧ k = g

set_option maxRecDepth 100000 in
set_option maxHeartbeats 4000000 in
theorem turnmove_any (v : Value) (L : List Int) (w : World) (hv : OwnI w v L) (hl : lensB L = true) :
    Calls Try.prog 65 #[v, .func (.func 66) #[] #[]] w (ListPost (genI (turnF L) 0 L) w) := by
  obtain ⟨hl4, hlok, hsum4, hsum0⟩ := lensB_get hl
  obtain ⟨A, c, rfl, hA, hc1, _, hsome⟩ := hv.form
  have HSM := Lib.hid (fun w (h : Ints w A L) => sumof_any A c L w h hlok (by omega))
  obtain ⟨n, hn⟩ : ∃ n : Nat, sumI L = (n : Int) := ⟨(sumI L).toNat, by omega⟩
  rw [hn] at HSM
  have hn4 : n ≤ 400 := by omega
  obtain ⟨gb, hgb⟩ : ∃ gb, w.heap.size = gb := ⟨_, rfl⟩
  obtain ⟨W0, hW0⟩ : ∃ W0, w.alloc (.cells #[.func (.func 66) #[] #[]] 64) = W0 := ⟨_, rfl⟩
  have s0 : W0.heap.size = gb + 1 := by rw [← hW0, ← hgb]; simp
  have g0 : w.grownBy W0 none := by rw [← hW0]; exact World.grownBy_alloc _ _ _
  have bx0 : W0.heap[gb]? = some (.cells #[.func (.func 66) #[] #[]] 64 (0, 0)) := by rw [← hW0, ← hgb]; exact World.alloc_heap_new w _
  obtain ⟨g, hg⟩ : ∃ g, gb + 1 = g := ⟨_, rfl⟩
  obtain ⟨W1, hW1⟩ : ∃ W1, W0.alloc (.cells (madeCells #[.int .i64 0] n) 3) = W1 := ⟨_, rfl⟩
  have g1 : W0.grownBy W1 none := by rw [← hW1]; exact World.grownBy_alloc _ _ _
  have ho1 : W1.ownsRow g 3 1 (.slice (some ⟨g, 0, none⟩) n n) n (madeCells #[.int .i64 0] n).toList := by
    rw [← hW1, ← hg, ← s0]
    exact made_own W0 n (by omega)
  have HUP := Lib.hid (up_any g g n n 0 n (some ⟨g, 0, none⟩) n (madeCells #[.int .i64 0] n).toList W1 ho1 (fun _ => rfl) (by omega) hn4)
  have hmk : ∀ u : World, (Instr.makeSlice 22 (.int .i64 (n : Int)) (.int .i64 (n : Int))).run Try.prog u =
      .ok (.slice (some ⟨u.heap.size, 0, none⟩) n n) (u.alloc (.cells (madeCells #[.int .i64 0] n) 3)) := make_run n (by omega)
  have HS0 := Lib.hid (HSM.out W0 (hA.grown g0 (by simp)))
  have HBX := Lib.hid bx0
  have HG0 := Lib.hid (g0.trans g1)
  have HW0 := Lib.hid (And.intro hW0 s0)
  have HW1 := Lib.hid (And.intro hW1 hg)
  have HOK := Lib.hid hlok
  have HN := Lib.hid hn
  have HA := Lib.hid hA
  have HSO := Lib.hid hsome
  have HG1 := Lib.hid (show W1.heap.size = g + 1 by rw [← hW1]; simp [s0]; omega)
  have HGB := Lib.hid hgb
  have HL4 := Lib.hid hl4
  have HML : Hid ((madeCells #[.int .i64 0] n).toList.length = n) := Lib.hid (by rw [toList_madeCells_one, List.length_replicate])
  have HB1 : Hid (W1.heap[gb]? = some (.cells #[.func (.func 66) #[] #[]] 64 (0, 0))) := Lib.hid ((g1.block gb (by omega) (by simp)).trans bx0)
  obtain ⟨kl, hkl⟩ : ∃ kl, L.length = kl := ⟨_, rfl⟩
  have HKL := Lib.hid hkl
  rw [hkl] at HS0 ⊢
  clear hl hl4 hlok hsum4 hsum0 hA hc1 hsome hW0 hW1 s0 g0 g1 bx0 hv hn ho1 hg hgb hkl HSM HBX
  refine (callsIn_wide (n := 3)).1 ?_
  refine callsIn_of_wp_marks Try.func65 rfl trivial ?_ rfl
  simp only [Try.ntmps65, List.size_toArray, List.length_cons, List.length_nil, Nat.reduceAdd, Nat.reduceSub, Array.replicate_succ, Array.replicate_zero, List.push_toArray, List.append_toArray, List.nil_append, List.cons_append]
  gi_wp2_with (refine ⟨trivial, ?_⟩; rw [HW0.out.1]; gi_at_call 102; refine (callsIn_wide.2 HS0.out).mono ?_; rintro e w' ⟨rfl, rfl⟩)
  rw [HW0.out.2, HW1.out.2, HW1.out.1]
  simp only [HGB.out]
  refine ⟨trivial, ?_⟩
  refine (callsIn_wide.2 HUP.out).mono ?_
  rintro e w2 ⟨rfl, ho2, hg2⟩
  clear HUP hmk HS0
  -- the row counts up
  have ho2' : w2.ownsRow g 3 1 (.slice (some ⟨g, 0, none⟩) n n) n ((turnTo L n 0 0).map (Value.int .i64)) := by
    have e1 : spl (madeCells #[.int .i64 0] n).toList 0 (upV n) = (turnTo L n 0 0).map (Value.int .i64) := by
      rw [spl, List.take_zero, List.nil_append, upV_len, Nat.zero_add, List.drop_of_length_le (by rw [HML.out]; exact Nat.le_refl _), List.append_nil, upV_iota]
      simp [turnTo, genI]
    rw [← e1]
    exact ho2
  obtain ⟨h, hh⟩ : ∃ h, w2.heap.size = h := ⟨_, rfl⟩
  obtain ⟨W3, hW3⟩ : ∃ W3, (w2.alloc (.cells #[.slice A kl c] 22)).alloc (.cells #[.slice (some ⟨g, 0, none⟩) n n] 22) = W3 := ⟨_, rfl⟩
  have hgh : g + 1 ≤ h := by have := hg2.size; have := HG1.out; omega
  have g23 : w2.grownBy W3 none := by rw [← hW3]; exact (World.grownBy_alloc _ _ _).trans (World.grownBy_alloc _ _ _)
  have s3 : W3.heap.size = h + 2 := by rw [← hW3]; simp [hh]
  have gbg : gb + 1 = g := HW1.out.2
  have g02 : w.grownBy w2 none := gr_own HG0.out hg2 (fun k e => by have := HGB.out; cases e; omega)
  have g3 := g02.trans g23
  have ho3 := own_keep ho2' (fun k hk => g23.block k (ho2'.lt k hk).2 (by simp))
  have bb : W3.heap[gb]? = some (.cells #[.func (.func 66) #[] #[]] 64 (0, 0)) := by
    rw [g23.block gb (by omega) (by simp), hg2.block gb (by have := HG1.out; omega) (by simp; omega)]
    exact HB1.out
  have b1 : W3.heap[h]? = some (.cells #[.slice A kl c] 22 (0, 0)) := by
    rw [← hW3, Below.heap_alloc _ _ _ (by simp; omega), ← hh]
    exact World.alloc_heap_new w2 _
  have b2 : W3.heap[h + 1]? = some (.cells #[.slice (some ⟨g, 0, none⟩) n n] 22 (0, 0)) := by
    have := World.alloc_heap_new (w2.alloc (.cells #[.slice A kl c] 22)) (.cells #[.slice (some ⟨g, 0, none⟩) n n] 22)
    rw [World.size_alloc, hW3, hh] at this
    exact this
  obtain ⟨X, hX⟩ : ∃ X, rowX g = X := ⟨_, rfl⟩
  have hLK : IntsK X W3 A L := fun hpos => by
    obtain ⟨b, off, rfl, hblt, hcell⟩ := HA.out hpos
    obtain ⟨b', xs, m, e, hb, _⟩ := HSO.out _ rfl
    cases e
    refine ⟨b, 0, xs, m, rfl, (g3.block b hblt (by simp)).trans hb, by rw [← hX]; simp [rowX]; have := HGB.out; omega, fun j z hj => g3.cell (hcell j z hj) (by simp)⟩
  have hseq := Lib.hid (segs_iter X (fun k => by rw [← hX]; simp [rowX]) h (h + 1) c n A (some ⟨g, 0, none⟩) L (List.replicate n 0) W3 (fun k hk => by rw [← hX]; simp [rowX]) hLK (by have := HL4.out; omega) HOK.out (by rw [HN.out]; exact Int.le_refl _) (by rw [HKL.out]; exact b1) (by rw [← hX]; simp [rowX]) (by rw [List.length_replicate]; exact b2) (by rw [← hX]; simp [rowX]))
  have HO := Lib.hid ho3
  have HG3 := Lib.hid g3
  have HX := Lib.hid hX
  have HW3 := Lib.hid (And.intro hW3 hh)
  have HSS := Lib.hid (show W3.heap.size = h + 2 ∧ w.heap.size = gb ∧ gb + 1 = g ∧ g + 1 ≤ h from ⟨s3, HGB.out, gbg, hgh⟩)
  have HBB := Lib.hid bb
  clear ho2 ho2' hg2 hW3 g23 s3 g02 g3 ho3 bb b1 b2 hX hLK hh hgh gbg HB1 HG0 HA HSO HML HG1 HW1 HW0
  gi_wp2_with (refine ⟨trivial, ?_⟩; gi_at_call 73; refine (callsIn_wide.2 (segsmakerX _ _ _ _ _ _ _)).mono ?_; rintro e w' ⟨rfl, rfl⟩)
  rw [HW3.out.1]
  simp only [HW3.out.2]
  refine range_ownK (sgK (some ⟨g, 0, none⟩)) (X := X) (zs := spanK 0 L) (gf := 108) (lb := #[.pointer (some ⟨h, 0, none⟩), .pointer (some ⟨h + 1, 0, none⟩)]) rfl (enters_of Try.func108 (by kernel_rfl) rfl) hseq.out
    (fun pre V => (∃ s : Nat, sumI (L.take pre.length) = (s : Int) ∧ V.ownsRow g 3 1 (.slice (some ⟨g, 0, none⟩) n n) n ((turnTo L n pre.length s).map (Value.int .i64))) ∧ w.grownBy V none ∧ V.heap[gb]? = some (.cells #[.func (.func 66) #[] #[]] 64 (0, 0))) (fun _ _ => False) ?hI ?hIx ?h0 (fun _ => rfl)
    (fun x => { tmps := #[.slice A kl c, .func (.func 66) #[] #[], undef, .pointer (some ⟨gb, 0, none⟩), .slice none 0 0, .slice (some ⟨g, 0, none⟩) n n, sgV (some ⟨g, 0, none⟩) x, .slice A kl c, .int .i64 (n : Int), .slice (some ⟨g, 0, none⟩) n n, .slice (some ⟨g, 0, none⟩) n n, .tuple #[], .slice A kl c, .slice (some ⟨g, 0, none⟩) n n,
          .func (.func 108) #[] #[.pointer (some ⟨h, 0, none⟩), .pointer (some ⟨h + 1, 0, none⟩)], sgV (some ⟨g, 0, none⟩) x, undef, undef, undef, undef], defers := [] }) ?assign ?body ?done ?stop
  case hI =>
    intro s A C row hs hg hr
    obtain ⟨⟨z, h1, h2⟩, h3, h4⟩ := hs
    have h5 := HSS.out
    have h6 := h3.size
    have hne : ∀ r, row = some r → r ≠ g ∧ w.heap.size ≤ r ∧ r ≠ gb := fun r e => by have := (hr r e).1; omega
    refine ⟨⟨z, h1, own_keep h2 (fun k hk => hg.block k (h2.lt k hk).2 (fun e => ?_))⟩, gr_own h3 hg (fun k e => (hne k e).2.1), (hg.block gb (Array.getElem?_eq_some_iff.1 h4).1 (fun e => (hne gb e.symm).2.2 rfl)).trans h4⟩
    exact (hne k e.symm).1 (by have : g = k := by simpa [Value.ownBlock] using hk
                               omega)
  case hIx => exact fun _ _ _ _ hs _ _ => hs
  case h0 => exact ⟨⟨0, by simp [sumI], HO.out⟩, HG3.out, HBB.out⟩
  case assign =>
    intro l m x V K hK
    simp only [sgK]
    gi_wp2
    exact hK
  case body =>
    rintro l1 m1 pre x V hl1 hr1 ⟨⟨s, hs, hrow⟩, hG, hbx⟩ hpre
    obtain ⟨z0, hz, hx, hpp⟩ := spanK_pre hpre
    subst hx
    obtain ⟨hz0, hz4, hs0, hsz⟩ := sumI_le HOK.out hz
    have hs1 := sumI_step hz
    obtain ⟨z, rfl⟩ : ∃ z : Nat, z0 = (z : Int) := ⟨z0.toNat, by omega⟩
    rw [hs] at hs1 hsz ⊢
    obtain ⟨A', hsv, hA'⟩ := sgV_atX g s z
    have hszn : s + z ≤ n := by have := HN.out; omega
    rw [hsv]
    have hdl := turnTo_drop (n := n) HOK.out hs
    have hlen := turnTo_len (n := n) HOK.out hs (by omega)
    have hML : (((iotaL n).drop s).take z).length = z := by rw [List.length_take, List.length_drop, iota_lenX]; omega
    have hself : spl ((turnTo L n pre.length s).map (Value.int .i64)) s ((((iotaL n).drop s).take z).map (Value.int .i64)) = (turnTo L n pre.length s).map (Value.int .i64) := by
      have h1 := spl_self (ys := (turnTo L n pre.length s).map (Value.int .i64)) (s := s) (z := z) (by rw [List.length_map]; omega)
      rw [← List.map_drop, hdl.1, ← List.map_take] at h1
      exact h1
    have HREV := Lib.hid (rev_any g g n n s z A' z ((turnTo L n pre.length s).map (Value.int .i64)) (((iotaL n).drop s).take z) V (by rw [hself]; exact hrow) (by rw [List.length_map]; exact hlen) hML hA' hszn (by omega))
    rw [turnTo_step HOK.out hz hs hszn] at HREV
    have hcb : V.cell? ⟨gb, 0, none⟩ = some (.func (.func 66) #[] #[]) := by simp [World.cell?, hbx]
    have HS1 := Lib.hid (show sumI (L.take (pre.length + 1)) = ((s + z : Nat) : Int) by rw [hs1]; omega)
    have HGV := Lib.hid hG
    have HBV := Lib.hid hbx
    have HRW := Lib.hid hrow
    clear hz hpp hs hsv hz0 hz4 hs0 hsz hs1 hA' hdl hlen hML hself hG hbx hrow
    gi_wp2
    refine ⟨trivial, fun h => (by cases h), ?_⟩
    refine (CallsIn.inRound l1 (callsIn_wide.2 HREV.out)).mono ?_
    rintro e w' ⟨rfl, ho', hg'⟩
    gi_wp2
    have hgb2 : ∃ xs m, V.heap[g]? = some (.cells xs 3 m) := by
      rcases HRW.out.2 with ⟨hv, _⟩ | ⟨g', cap, cur, hv, _, hg'', _⟩
      · cases hv
      · cases hv; exact ⟨_, _, hg''⟩
    obtain ⟨xs, mm, hgb2⟩ := hgb2
    refine ⟨KeepsK.grownX hg' hgb2 (by rw [← HX.out]; exact ⟨rfl, rfl⟩), ⟨s + z, by rw [List.length_append, List.length_singleton]; exact HS1.out, by rw [List.length_append, List.length_singleton]; exact ho'⟩, gr_own HGV.out hg' (fun k e => by have := HSS.out; cases e; omega), (hg'.block gb (Array.getElem?_eq_some_iff.1 HBV.out).1 (by have := HSS.out; simp; omega)).trans HBV.out⟩
  case done =>
    rintro Dm V hD ⟨⟨s, hs, hrow⟩, hG, _⟩ hK
    have e1 : (spanK 0 L).length = L.length := spanK_len L 0
    rw [e1, List.take_length, HN.out] at hs
    obtain rfl : s = n := by omega
    have e2 : turnTo L s (spanK 0 L).length s = genI (turnF L) 0 L := by
      rw [e1, turnTo, List.take_length, List.drop_of_length_le (by rw [iota_lenX]; exact Nat.le_refl _), List.append_nil]
    rw [e2] at hrow
    have e3 : (genI (turnF L) 0 L).length = s := by have := genI_len (turnF L) L 0 HOK.out; have := HN.out; omega
    have HE := Lib.hid e3
    clear e1 e2 e3
    gi_wp2
    refine ⟨by simp, .inl ⟨_, _, rfl, run_takeDeferred hK, ?_⟩⟩
    have h3 := own_base (base' := w.heap.size) (ownsRow_putObj hrow (.deferred none) hK rfl) (by have := HSS.out; omega)
    have hgl : w.grownBy (V.putObj Dm (.deferred none)) none := gr_own hG (grownBy_putObj' V Dm _) (fun k e => by have := HSS.out; cases e; omega)
    refine ⟨.slice (some ⟨g, 0, none⟩) s s, by simp [results, Try.results65, go_sem], some ⟨g, 0, none⟩, s, by rw [HE.out], hgl, by rw [HE.out]; exact h3⟩
  case stop =>
    rintro D pre V _ _ h _
    exact h.elim

end Go.Proofs.Ytpakihjkjdanlaa

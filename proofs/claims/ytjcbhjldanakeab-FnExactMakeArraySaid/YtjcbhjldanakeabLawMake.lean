/- The law on MakeArray: for every list of texts and every depth both functions answer alike, and the arguments read as they did. No condition. -/
import Derived.Test.YtjcbhjldanakeabMkSpec
import Derived.Test.YtjcbhjldanakeabLawValid
import Derived.Test.YtjcbhjldanakeabStrs
import Derived.SizedLaws
namespace Go.Proofs.Ytjcbhjldanakeab
open Go.ChangeShapes Go.WideShapes Go.ChangeAt Go.RowKit

set_option maxHeartbeats 1000000 in
theorem law_make (A : Option Addr) (c : Nat) (n : Int) (ss : List ByteArray) (w : World) (h : Strs w A ss) (hn : ss.length ≤ 9223372036854775807) (hsz : ∀ s ∈ ss, s.size ≤ 9223372036854775807) :
    Calls Try.prog 4 #[.slice A ss.length c, .int .i64 n] w fun e w' => e = .returned (.bool true) ∧ w.grownBy w' none := by
  have HZ := Lib.hid (sz_any A c 1048576 ss w h (Nat.le_refl _) hn hsz)
  have HS := Lib.hid h
  obtain ⟨N, hN⟩ : ∃ N, ss.length = N := ⟨_, rfl⟩
  have HN := Lib.hid hN
  rw [hN] at HZ ⊢
  clear h hn hsz hN
  go_enter Try.func4, Try.ntmps4
  go_wp2_with fail
  refine HZ.out.mono ?_
  rintro e w1 ⟨⟨r, rfl, hr⟩, rfl⟩
  have HR := Lib.hid hr
  clear hr
  by_cases hneg : r < 0
  · go_wp2_with fail
    go_ret
    exact ⟨rfl, gr_refl _ _⟩
  · have hr0 : 0 ≤ r := by omega
    have hfit := HR.out hr0
    have hlen : ss.length ≤ 1048576 := by omega
    have htot : tot ss ≤ 1048576 := by omega
    have HLEN := Lib.hid hlen
    have HTOT := Lib.hid htot
    clear hfit hlen htot
    have HT1 := Lib.hid (to_any A c ss w HS.out HLEN.out)
    rw [HN.out] at HT1
    go_wp2_with fail
    refine HT1.out.mono ?_
    rintro e w2 ⟨g2, rfl, hg2, hs2⟩
    have HG2 := Lib.hid hg2
    have HM1 := Lib.hid (mkspec_any (some ⟨g2, 0, none⟩) ss.length n ss w2 hs2 HLEN.out HTOT.out)
    rw [HN.out] at HM1 ⊢
    clear hg2 hs2
    go_wp2_with fail
    refine HM1.out.mono ?_
    rintro e w3 ⟨hg3, t3, rfl, ht3⟩
    have HG3 := Lib.hid (HG2.out.trans hg3)
    have HT3 := Lib.hid ht3
    clear hg3 ht3
    have HT2 := Lib.hid (to_any A c ss w3 (HS.out.grown HG3.out) HLEN.out)
    rw [HN.out] at HT2
    go_wp2_with fail
    refine HT2.out.mono ?_
    rintro e w4 ⟨g4, rfl, hg4, hs4⟩
    have HG4 := Lib.hid (HG3.out.trans hg4)
    have HS4 := Lib.hid hs4
    have HM2 := Lib.hid (mkimpl_any (some ⟨g4, 0, none⟩) ss.length n ss w4 hs4 HLEN.out HTOT.out (Nat.le_refl _))
    rw [HN.out] at HM2 ⊢
    clear hg4 hs4
    go_wp2_with fail
    refine HM2.out.mono ?_
    rintro e w5 ⟨hg5, t5, rfl, ht5⟩
    have HG5 := Lib.hid (HG4.out.trans hg5)
    have HS5 := Lib.hid (HS4.out.grown hg5)
    obtain rfl : t3 = t5 := by
      have h1 := HT3.out
      rw [← ht5] at h1
      exact ByteArray.ext (Array.toList_inj.1 h1)
    clear hg5 ht5 HT3
    generalize mkOk ss n = b
    have HT6 := Lib.hid (to_any A c ss w5 (HS.out.grown HG5.out) HLEN.out)
    rw [HN.out] at HT6
    cases b
    all_goals
      go_wp2_with fail
      refine HT6.out.mono ?_
      rintro e w6 ⟨g6, rfl, hg6, hs6⟩
      have HG6 := Lib.hid (HG5.out.trans hg6)
      have HE := Lib.hid (eq_any (some ⟨g4, 0, none⟩) (some ⟨g6, 0, none⟩) ss.length ss.length ss w6 (HS5.out.grown hg6) hs6 HLEN.out)
      rw [HN.out] at HE ⊢
      clear hg6 hs6
      go_wp2_with fail
      refine HE.out.mono ?_
      rintro e w7 ⟨rfl, hg7⟩
      have HG7 := Lib.hid (HG6.out.trans hg7)
      clear hg7
      go_wp2_with fail
      go_ret
      exact ⟨rfl, HG7.out⟩

theorem cellsS : Try.prog.cellsOf 9 = 1 := by kernel_rfl
theorem laid_out : laidOutB Try.prog = true := by kernel_rfl
theorem add_flat (b off i : Nat) : (⟨b, off, none⟩ : Addr).add i = ⟨b, off + i, none⟩ := by unfold Addr.add; split <;> simp_all

set_option maxRecDepth 100000 in
theorem make_lifted (os : Os) (started : os.Started) (H : Type) (enc : TypeId × Value → H) :
    ReturnsInHanded {} Try.checked os 4 .any (Rows.fnExactMakeArraySpec.pre6 enc Try.prog Try.f4 Rows.fnExactMakeArrayRow.domain false) (Rows.fnExactMakeArraySpec.post enc Try.prog Try.f4 false true false false) := by
  refine returnsInHanded_of_change (C := Try.checked) knob_own started (by kernel_rfl) Try.func4
    (ChangeSpec.witness6 (enc := enc) (C := Try.checked) false ⟨#[], #[.slice none 0 0, .int .i64 0], []⟩ 8 (by kernel_rfl) (by kernel_rfl) (by kernel_rfl) (by kernel_rfl)) ?_
  intro W base args ds gs before hval0 hW hcnd _
  have hval : ∀ (j : Nat) t v, Try.f4.params[j]? = some t → args[j]? = some v → Value.okWide Try.prog W .any base t v := hval0
  have hW' := hW
  obtain ⟨p, q, hA0, hV, rfl, hfz, hnd⟩ := hW
  have hA : DataW.TrodAll enc Try.prog W 0 (fun _ => true) true Try.f4.params.toList args.toList ds p := hA0
  rw [Try.params4] at hA hval
  obtain ⟨v0, v1, d0, d1, p0, p1, rfl, rfl, rfl, h0, h1⟩ := trodAll_two hA
  obtain ⟨rfl, rfl⟩ := trodVars_none hV
  obtain ⟨a0, len, cap, rfl⟩ := okWide_slice Try.underlying23 (hval 0 23 v0 rfl rfl)
  obtain ⟨n, rfl, rfl, rfl, wn⟩ := open_int Try.underlying3 (hval 1 3 v1 rfl rfl) h1
  have h0k := h0
  obtain ⟨fuel, hf⟩ := h0
  clear hA0 hval0
  simp only [List.append_nil] at hW'
  have hlt : ∀ x ∈ p0, x.block < W.heap.size := fun x hx => by simpa using hW'.lt x hx
  have fin : ∀ e W', (e = Ending.returned (.bool true) ∧ W.grownBy W' none) → ∃ v, e = Ending.returned v ∧ Rows.fnExactMakeArraySpec.post enc Try.checked.prog Try.f4 false true false false W #[.slice a0 len cap, .int .i64 n] v W' := by
    intro e W' ⟨he, hg⟩
    subst he
    refine ⟨_, rfl, _, _, _, [], p0, [], hW', ?_, ?_, rfl, (below_of hg).frame _, fun h => by cases h⟩
    · exact trodAll_mk1 (shut_bool Try.underlying4 _)
    · have := trodAll_mk2 (Below.trod laid_out (by kernel_rfl) (of_decide_eq_true (by kernel_rfl)) h0k (below_of hg) hlt) (shut_int (spare := fun b => decide (b < W.heap.size)) (held := true) Try.underlying3 wn)
      rw [List.append_nil] at this
      exact this
  rcases open_strings Try.underlying23 Try.underlying9 cellsS hf with ⟨hcs, hx⟩ | ⟨a, len', cap', ss, hcs, _, hl, hm, hz, hx, hcell, hws⟩
  · simp [Value.cells] at hcs
    obtain ⟨rfl, rfl, rfl⟩ := hcs
    exact (law_make none 0 n [] W (fun h => by simp at h) (by simp) (by simp)).mono fin
  · simp [Value.cells] at hcs
    obtain ⟨rfl, rfl, rfl⟩ := hcs
    simp only [if_true] at hz
    have hle : (ss.take len).length = len := by rw [List.length_take]; omega
    have hS : Strs W (some a) (ss.take len) := by
      intro hpos
      obtain ⟨b, off, spot⟩ := a
      have hspot : spot = none := by simpa [Addr.add] using World.cell?_spot (hcell 0 (by omega))
      subst hspot
      have hc0 := hcell 0 (by omega)
      rw [add_flat] at hc0
      refine ⟨b, off, rfl, World.block_lt_of_cell? W _ hc0, fun j s hj => ?_⟩
      have hjl : j < len := by
        rcases Nat.lt_or_ge j (ss.take len).length with h | h
        · omega
        · rw [List.getElem?_eq_none h] at hj; cases hj
      rw [List.getElem?_take, if_pos hjl] at hj
      have := hcell j (by omega)
      rw [add_flat] at this
      rw [this]
      simp [List.getD, hj]
    have hw := law_make (some a) cap n (ss.take len) W hS (by unfold maxLen at hm; omega) (fun s hs => by have := hws s (List.mem_of_mem_take hs); unfold maxLen at this; omega)
    rw [hle] at hw
    exact hw.mono fin

theorem make_holds : Rows.FnExactMakeArraySaid :=
  OpenClaim.holds_of_wide 4 Try.f4 rfl rfl rfl rfl rfl rfl rfl ⟨rfl, rfl, rfl, rfl, rfl⟩ rfl rfl rfl rfl rfl (by kernel_rfl) Try.func4 (by kernel_rfl)
    (of_decide_eq_true (by kernel_rfl)) (by unfold Func.isWrapper; first | (rw [if_pos (by decide +kernel)]; kernel_rfl) | (rw [if_neg (by decide +kernel)]; exact ⟨rfl, rfl⟩))
    (fun os started H enc _ => make_lifted os started H enc)

#print axioms make_holds

end Go.Proofs.Ytjcbhjldanakeab

/- What PackSegments of the program does: how many numbers of each segment are flagged, and these numbers. -/
import Derived.Test.YtpakihjkjdanlaaImplS
namespace Go.Proofs.Ytpakihjkjdanlaa
open Go.RowKit

/-- The numbers whose flag is not 0. -/
def packI : List Int → List Int → List Int
  | d :: D, f :: F => if f = 0 then packI D F else d :: packI D F
  | _, _ => []
theorem packI_take : ∀ (D F : List Int) (j : Nat) (d f : Int), D[j]? = some d → F[j]? = some f → packI (D.take (j + 1)) (F.take (j + 1)) = packI (D.take j) (F.take j) ++ (if f = 0 then [] else [d])
  | [], _, _, _, _, h, _ => by simp at h
  | _ :: _, [], _, _, _, _, h => by simp at h
  | x :: D, y :: F, 0, d, f, h, h2 => by
    simp only [List.getElem?_cons_zero, Option.some.injEq] at h h2
    subst h h2
    simp [packI]
  | x :: D, y :: F, j + 1, d, f, h, h2 => by
    have := packI_take D F j d f (by simpa using h) (by simpa using h2)
    simp only [List.take_succ_cons, packI, this]
    split
    · rfl
    · simp
theorem packI_le : ∀ (D F : List Int), (packI D F).length ≤ D.length
  | [], F => by cases F <;> simp [packI]
  | d :: D, [] => by simp [packI]
  | d :: D, f :: F => by
    have := packI_le D F
    simp only [packI]
    split <;> simp only [List.length_cons] <;> omega
def packB (L D F : List Int) : Bool := segsB L D && segsB L F
def packC (L D F : List Int) : List Int := if packB L D F = true then (cutI L F).map (fun l => l.foldl countF 0) else []
def packR (L D F : List Int) : List Int := if packB L D F = true then packI D F else []
theorem packB_get {L D F : List Int} (h : packB L D F = true) : segsB L D = true ∧ segsB L F = true := by
  simp only [packB, Bool.and_eq_true] at h
  exact h

/-- Two new rows of ints, apart from each other. -/
def PackPost (cs ks : List Int) (b : Bool) (w : World) (e : Ending) (w' : World) : Prop :=
  ∃ A c A2 c2, e = .returned (.tuple #[.slice A cs.length c, .slice A2 ks.length c2, .bool b]) ∧ w.grownBy w' none ∧ w'.ownsRow w.heap.size 3 1 (.slice A cs.length c) cs.length (cs.map (Value.int .i64)) ∧
    w'.ownsRow w.heap.size 3 1 (.slice A2 ks.length c2) ks.length (ks.map (Value.int .i64)) ∧ ∀ g, (Value.slice A cs.length c).ownBlock = some g → (Value.slice A2 ks.length c2).ownBlock ≠ some g

set_option maxHeartbeats 1000000 in
theorem pack_no (v u t : Value) (L D F : List Int) (w : World) (hv : OwnI w v L) (hu : OwnI w u D) (ht : OwnI w t F) (hn : L.length ≤ 1048576) (hm : D.length ≤ 1048576) (hf : F.length ≤ 1048576) (hb : packB L D F = false) :
    Calls Try.prog 44 #[v, u, t] w (PackPost [] [] false w) := by
  obtain ⟨A, c, rfl, hA, _, _, _⟩ := hv.form
  obtain ⟨B, d, rfl, hB, _, _, _⟩ := hu.form
  obtain ⟨C, f, rfl, hC, _, _, _⟩ := ht.form
  have HP := Lib.hid (show PackPost [] [] false w (.returned (.tuple #[.slice none 0 0, .slice none 0 0, .bool false])) w from ⟨none, 0, none, 0, rfl, gr_refl _ _, World.ownsRow_nil _ _ _ _, World.ownsRow_nil _ _ _ _, fun g h => by simp [Value.ownBlock] at h⟩)
  have HS := Lib.hid (segv_any A B c d L D w hA hB hn hm)
  have HS2 := Lib.hid (segv_any A C c f L F w hA hC hn hf)
  obtain ⟨n, hnn⟩ : ∃ n, L.length = n := ⟨_, rfl⟩
  obtain ⟨m, hmm⟩ : ∃ m, D.length = m := ⟨_, rfl⟩
  obtain ⟨q, hqq⟩ : ∃ q, F.length = q := ⟨_, rfl⟩
  cases h1 : segsB L D with
  | false =>
    rw [h1, hnn, hmm] at HS
    rw [hnn, hmm, hqq]
    clear hA hB hC hn hm hf hnn hmm hqq h1 hv hu ht hb
    go_enter Try.func44, Try.ntmps44
    go_wp2_with fail
    refine HS.out.mono ?_
    rintro e w1 ⟨rfl, rfl⟩
    go_wp2_with fail
    go_ret3
    exact HP.out
  | true =>
    have h2 : segsB L F = false := by simpa [packB, h1] using hb
    rw [h1, hnn, hmm] at HS
    rw [h2, hnn, hqq] at HS2
    rw [hnn, hmm, hqq]
    clear hA hB hC hn hm hf hnn hmm hqq h1 h2 hv hu ht hb
    go_enter Try.func44, Try.ntmps44
    go_wp2_with fail
    refine HS.out.mono ?_
    rintro e w1 ⟨rfl, rfl⟩
    go_wp2_with fail
    refine HS2.out.mono ?_
    rintro e w1 ⟨rfl, rfl⟩
    go_wp2_with fail
    go_ret3
    exact HP.out

set_option maxRecDepth 100000 in
set_option maxHeartbeats 4000000 in
theorem pack_yes (A B C : Option Addr) (c d f : Nat) (L D F : List Int) (w : World) (hv : OwnI w (.slice A L.length c) L) (hu : OwnI w (.slice B D.length d) D) (ht : OwnI w (.slice C F.length f) F) (hb : packB L D F = true) :
    Calls Try.prog 44 #[.slice A L.length c, .slice B D.length d, .slice C F.length f] w (PackPost ((cutI L F).map (fun l => l.foldl countF 0)) (packI D F) true w) := by
  obtain ⟨i0, hi0, hz0', hz1', hz2'⟩ := info_parts infoJ
  obtain ⟨h1, h2⟩ := packB_get hb
  obtain ⟨hl, hs1, hok1⟩ := segsB_get h1
  obtain ⟨_, hs2, hok2⟩ := segsB_get h2
  obtain ⟨hl4, _, hs4, _⟩ := lensB_get hl
  have hA : Ints w A L := by obtain ⟨_, _, e, h, _⟩ := hv.form; cases e; exact h
  have hB : Ints w B D := by obtain ⟨_, _, e, h, _⟩ := hu.form; cases e; exact h
  have hC : Ints w C F := by obtain ⟨_, _, e, h, _⟩ := ht.form; cases e; exact h
  have HS := Lib.hid (segv_any A B c d L D w hA hB (by omega) (by omega))
  have HS2 := Lib.hid (segv_any A C c f L F w hA hC (by omega) (by omega))
  have HF := Lib.hid (foldsegs_any 86 countF 0 (fun j => j) joins_count A C c f L F 0 w hv ht hl hs2 hok2 (by omega) (by simp))
  obtain ⟨cs, hcs⟩ : ∃ cs, (cutI L F).map (fun l => l.foldl countF 0) = cs := ⟨_, rfl⟩
  rw [hcs] at HF ⊢
  have HB := Lib.hid hB
  have HC := Lib.hid hC
  rw [h1] at HS
  rw [h2] at HS2
  obtain ⟨n, hnn⟩ : ∃ n, L.length = n := ⟨_, rfl⟩
  obtain ⟨m, hmm⟩ : ∃ m, D.length = m := ⟨_, rfl⟩
  have hfm : F.length = m := by omega
  have HM := Lib.hid hmm
  have HFM := Lib.hid hfm
  have hm4 : m ≤ 400 := by omega
  obtain ⟨z, hz⟩ : ∃ z, cs.length = z := ⟨_, rfl⟩
  have HZ := Lib.hid hz
  rw [hnn, hmm] at HS
  rw [hnn, hfm] at HS2
  rw [hnn, hfm] at HF
  rw [hnn, hmm, hfm]
  clear hA hB hC hv hu ht hb h1 h2 hl hs1 hs2 hok1 hok2 hl4 hs4 hcs hnn hmm hfm hz
  go_enter Try.func44, Try.ntmps44
  go_wp2_with fail
  refine HS.out.mono ?_
  rintro e w1 ⟨rfl, rfl⟩
  go_wp2_with fail
  refine HS2.out.mono ?_
  rintro e w1 ⟨rfl, rfl⟩
  go_wp2_with fail
  refine HF.out.mono ?_
  rintro e w1 ⟨A1, c1, rfl, hg1, ho1⟩
  rw [HZ.out] at ho1
  rw [HZ.out]
  have HG1 := Lib.hid hg1
  have HO1 := Lib.hid ho1
  clear hg1 ho1 HS HS2 HF
  go_wp2_with fail
  go_loopw [10, 28] (fun u i wr => ∃ (j q : Nat) (A3 : Option Addr) (c3 : Nat), j ≤ m ∧ i = .int .i64 j ∧ u = .slice A3 q c3 ∧ q ≤ j ∧ Hid (wr.ownsRow w1.heap.size 3 1 (.slice A3 q c3) q ((packI (D.take j) (F.take j)).map (Value.int .i64))) ∧ Hid (w1.grownBy wr none)) (fun _ i _ => m - (intOf i).toNat)
  case atStart => exact ⟨0, 0, none, 0, Nat.zero_le _, rfl, rfl, Nat.le_refl _, Lib.hid (World.ownsRow_nil _ _ _ _), Lib.hid (gr_refl _ _)⟩
  case round =>
    obtain ⟨j, q, A3, c3, hj, rfl, rfl, hqj, hown, hgr⟩ := hrel
    obtain ⟨wo, rfl⟩ : ∃ wo : World, wo = wr := ⟨_, rfl⟩
    by_cases hlt : j < m
    · obtain ⟨x, hx⟩ : ∃ x, D[j]? = some x := ⟨_, List.getElem?_eq_getElem (by have := HM.out; omega)⟩
      obtain ⟨y, hy⟩ : ∃ y, F[j]? = some y := ⟨_, List.getElem?_eq_getElem (by have := HFM.out; omega)⟩
      obtain ⟨b, off, rfl, _, hc⟩ := (HB.out.grown HG1.out (by simp)).grown hgr.out (by simp) (by have := HM.out; omega)
      obtain ⟨b2, off2, rfl, _, hc2⟩ := (HC.out.grown HG1.out (by simp)).grown hgr.out (by simp) (by have := HFM.out; omega)
      have hcell := hc j x hx
      have hcell2 := hc2 j y hy
      have hst := packI_take D F j x y hx hy
      obtain ⟨P, hP⟩ : ∃ P, packI (D.take j) (F.take j) = P := ⟨_, rfl⟩
      rw [hP] at hown hst
      clear hc hc2 hx hy hP
      by_cases hy0 : y = 0
      · subst hy0
        rw [if_pos rfl, List.append_nil] at hst
        have HST := Lib.hid hst
        clear hst
        go_wp2_with fail
        go_roundw
        case rel => exact ⟨j + 1, q, A3, c3, by omega, by go_num, rfl, by omega, Lib.hid (by rw [HST.out]; exact hown.out), hgr⟩
        case measure => simp [intOf]; omega
      · rw [if_neg hy0] at hst
        have HST := Lib.hid hst
        have hy1 : (y != 0) = true := by simpa using hy0
        have hB := hgr.out.size
        have hnl : ∀ (i : Nat) (u : Value), ([.int .i64 x] : List Value)[i]? = some u → (wo.alloc (.cells #[.int .i64 x] 3)).cell? ((⟨wo.heap.size, 0, none⟩ : Addr).add i) = some u := cell_one_new _ _ _
        have HNL := Lib.hid hnl
        have hown2 := hown.out.alloc (.cells #[.int .i64 x] 3)
        clear hnl hst hy0
        go_wp2_with (at_builtin; refine wpList_append_own_at _ rfl _ _ 22 rfl w1.heap.size 3 i0 (.int .i64 0) 1 8 Try.underlying22 hi0 hz0' hz1' hz2' rfl (by decide) _ _ _ rfl hown2 ⟨wo.heap.size, 0, none⟩ 1 1 [.int .i64 x] rfl rfl HNL.out ?c2 ?c3 ?c4 ?c5 ?_)
        case c2 => simp [Value.oneCell']
        case c3 => simp only [maxLen]; omega
        case c4 => omega
        case c5 => (try simp only [World.size_alloc]); omega
        intro v8 w8 hown8 hg8 _ _
        obtain ⟨g8, o8, g8', c8, rfl⟩ := row_one hgr.out (Nat.le_refl _) hown.out hown8 hg8
        have HG8 := Lib.hid g8
        have HO8 := Lib.hid o8
        clear hown8 hg8 g8 o8 hown2
        go_wp2_with fail
        go_roundw
        case rel => exact ⟨j + 1, q + 1, some ⟨g8', 0, none⟩, c8, by omega, by go_num, rfl, by omega, Lib.hid (by rw [HST.out]; exact HO8.out), HG8⟩
        case measure => simp [intOf]; omega
    · have hjn : j = m := by omega
      have HJ := Lib.hid hjn
      clear hjn
      go_wp2_with fail
      go_ret3
      have e1 : D.take j = D := by rw [HJ.out, ← HM.out, List.take_length]
      have e2 : F.take j = F := by rw [HJ.out, ← HFM.out, List.take_length]
      have h3 := hown.out
      rw [e1, e2] at h3
      have e3 : (packI D F).length = q := by have := h3.1; rw [List.length_map] at this; omega
      have h4 := own_keep HO1.out (fun g hg => hgr.out.block g (HO1.out.lt g hg).2 (by simp))
      refine ⟨A1, c1, A3, c3, by rw [e3, HZ.out]; rfl, HG1.out.trans hgr.out, by rw [HZ.out]; exact h4, by rw [e3]; exact own_base h3 HG1.out.size, fun g hg1 hg2 => ?_⟩
      rw [HZ.out] at hg1
      rw [e3] at hg2
      have h5 := (HO1.out.lt g hg1).2
      have h6 := (h3.lt g hg2).1
      omega

theorem pack_impl (v u t : Value) (L D F : List Int) (w : World) (hv : OwnI w v L) (hu : OwnI w u D) (ht : OwnI w t F) (hn : L.length ≤ 1048576) (hm : D.length ≤ 1048576) (hf : F.length ≤ 1048576) :
    Calls Try.prog 44 #[v, u, t] w (PackPost (packC L D F) (packR L D F) (packB L D F) w) := by
  cases hb : packB L D F with
  | false =>
    have hr : packR L D F = [] := by simp [packR, hb]
    have hc : packC L D F = [] := by simp [packC, hb]
    rw [hr, hc]
    exact pack_no v u t L D F w hv hu ht hn hm hf hb
  | true =>
    have hr : packR L D F = packI D F := by simp [packR, hb]
    have hc : packC L D F = (cutI L F).map (fun l => l.foldl countF 0) := by simp [packC, hb]
    rw [hr, hc]
    obtain ⟨A, c, rfl, _, _, _, _⟩ := hv.form
    obtain ⟨B, d, rfl, _, _, _, _⟩ := hu.form
    obtain ⟨C, f, rfl, _, _, _, _⟩ := ht.form
    exact pack_yes A B C c d f L D F w hv hu ht hb

end Go.Proofs.Ytpakihjkjdanlaa

/- What the model's l3Cut does: the segments of data, as slices of it. -/
import Derived.Test.YtpakihjkjdanlaaSegSt
namespace Go.Proofs.Ytpakihjkjdanlaa
open Go.RowKit

/-- The values are slices of these lists. -/
def Sls (w : World) (j : Nat) (vs : List Value) (LL : List (List Int)) : Prop := ∀ (i : Nat) (M : List Int), i < j → LL[i]? = some M → ∃ A c, vs[i]? = some (.slice A M.length c) ∧ M.length ≤ c ∧ Ints w A M
theorem Sls.grown {w w' : World} {j : Nat} {vs : List Value} {LL : List (List Int)} (h : Sls w j vs LL) (hg : w.grownBy w' none) : Sls w' j vs LL := fun i M hi hM => by
  obtain ⟨A, c, h1, h2, h3⟩ := h i M hi hM
  exact ⟨A, c, h1, h2, h3.grown hg (by simp)⟩
theorem Sls.more {w : World} {j : Nat} {vs : List Value} {LL : List (List Int)} {v : Value} {M : List Int} {A : Option Addr} {c : Nat} (h : Sls w j vs LL) (hl : vs.length = j) (hM : LL[j]? = some M) (hv : v = .slice A M.length c) (hc : M.length ≤ c) (hI : Ints w A M) : Sls w (j + 1) (vs ++ [v]) LL := fun i N hi hN => by
  by_cases e : i = j
  · subst e
    rw [hM] at hN
    cases hN
    exact ⟨A, c, by rw [List.getElem?_append_right (by omega), hl]; simp [hv], hc, hI⟩
  · obtain ⟨A', c', h1, h2, h3⟩ := h i N (by omega) hN
    exact ⟨A', c', by rw [List.getElem?_append_left (by omega)]; exact h1, h2, h3⟩
theorem Sls.rws {w : World} {base c : Nat} {A : Option Addr} {vs : List Value} {LL : List (List Int)} (h : Sls w LL.length vs LL) (ho : w.ownsRow base 22 1 (.slice A LL.length c) LL.length vs) : Rws w A LL := fun hl => by
  rcases ho.2 with ⟨hv, hn⟩ | ⟨g, cap, cur, hv, _, hg, hnc, _, hcs, htake⟩
  · omega
  · cases hv
    refine ⟨g, 0, rfl, (Array.getElem?_eq_some_iff.1 hg).1, fun j M hj => ?_⟩
    have hjl : j < LL.length := (List.getElem?_eq_some_iff.1 hj).1
    obtain ⟨B, d, h1, h2, h3⟩ := h j M hjl hj
    refine ⟨B, d, ?_, h2, h3⟩
    rw [Nat.zero_add, cell_of_row w g j _ _ (0, 0) hg]
    have : (cur.toList.take (LL.length * 1))[j]? = some (.slice B M.length d) := by rw [htake]; exact h1
    rw [List.getElem?_take, if_pos (by omega)] at this
    simpa using this

/-- A slice with room behind it, as the model cuts it out. -/
def sgW (A : Option Addr) (d : Nat) (s z : Nat) : Value := .slice (if d = s then A else A.map (·.add (s * 1))) z (d - s)

set_option maxRecDepth 100000 in
theorem cutw_run (A : Option Addr) (k d s z : Nat) (u : World) (h2 : s + z ≤ d) :
    (Instr.slice 22 (.slice A k d) (some (.int .i64 (s : Int))) (some (.int .i64 ((s : Int) + (z : Int)))) none).run Try.prog u = .ok (sgW A d s z) u := by
  rw [run_slice_lh u 22 A k d Try.underlying22 .i64 .i64 (s : Int) ((s : Int) + (z : Int)) (by omega) (by omega) (by omega)]
  have hsz : (sizeOf (Try.prog.elem 22)).run Try.prog u = .ok 1 u := by kernel_rfl
  rw [hsz]
  show Result.ok (Value.slice (if d = ((s : Int)).toNat then A else A.map (·.add (((s : Int)).toNat * 1))) (((s : Int) + (z : Int)).toNat - ((s : Int)).toNat) (d - ((s : Int)).toNat)) u = _
  rw [show ((s : Int)).toNat = s from by omega, show ((s : Int) + (z : Int)).toNat = s + z from by omega, show s + z - s = z from by omega]
  rfl

theorem sgW_ints {w : World} {A : Option Addr} {D : List Int} {d s z : Nat} (h : OwnI w (.slice A D.length d) D) (hs : s + z ≤ D.length) :
    ∃ A', sgW A d s z = .slice A' z (d - s) ∧ ((D.drop s).take z).length = z ∧ z ≤ d - s ∧ Ints w A' ((D.drop s).take z) := by
  obtain ⟨A1, c1, hv, hI, hc1, hnone, hsome⟩ := h.form
  cases hv
  have hlen : ((D.drop s).take z).length = z := by rw [List.length_take, List.length_drop]; omega
  refine ⟨_, rfl, hlen, by omega, fun hpos => ?_⟩
  rw [hlen] at hpos
  rw [if_neg (by omega)]
  cases A with
  | none => have := (hnone rfl).1; omega
  | some a =>
    obtain ⟨b, xs, m, rfl, hb, hcell⟩ := hsome _ rfl
    refine ⟨b, s, by simp [addr_flat], (Array.getElem?_eq_some_iff.1 hb).1, fun i x hi => ?_⟩
    have hiq : i < z := by have := (List.getElem?_eq_some_iff.1 hi).1; omega
    rw [List.getElem?_take, if_pos hiq, List.getElem?_drop] at hi
    exact hcell (s + i) x hi

/-- How l3Cut ends. -/
def CutPost (v : Value) (D : List Int) (LL : List (List Int)) (w : World) (e : Ending) (w' : World) : Prop := ∃ A c vs, e = .returned (.slice A LL.length c) ∧ w.grownBy w' none ∧ w'.ownsRow w.heap.size 22 1 (.slice A LL.length c) LL.length vs ∧ ∀ u, OwnI u v D → Sls u LL.length vs LL

/-- Rows of different element types are apart. -/
theorem own_aside3 {w w' : World} {base base2 n k : Nat} {e t : TypeId} {v u : Value} {xs ys : List Value} (h : w.ownsRow base e 1 v n xs) (h2 : w.ownsRow base2 t 1 u k ys) (ht : t ≠ e) (hg : w.grownBy w' u.ownBlock) : w'.ownsRow base e 1 v n xs :=
  own_keep h (fun g hv => hg.block g (h.lt g hv).2 (fun hc => ht (own_typ h2 h hc.symm hv)))
theorem own_succ3 {w : World} {base e n : Nat} {v : Value} {xs : List Value} (h : w.ownsRow base e 1 v (n + 1) xs) : ∃ g c, v = .slice (some ⟨g, 0, none⟩) (n + 1) c := by
  rcases h.2 with ⟨_, hn⟩ | ⟨g, cap, cur, hv, _⟩
  · omega
  · exact ⟨g, cap, hv⟩

set_option maxRecDepth 100000 in
set_option maxHeartbeats 2000000 in
theorem scut_any (A B : Option Addr) (c d : Nat) (L D : List Int) (w : World) (hA : Ints w A L) (hB : OwnI w (.slice B D.length d) D) (hl : lensB L = true) (hs : (D.length : Int) = sumI L) :
    Calls Try.prog 71 #[.slice A L.length c, .slice B D.length d] w (CutPost (.slice B D.length d) D (cutI L D) w) := by
  obtain ⟨i0, hi0, hz0', hz1', hz2'⟩ := info_parts infoL
  obtain ⟨hl4, hlok, _, _⟩ := lensB_get hl
  have HST := Lib.hid (fun u (hg : w.grownBy u none) => sstarts_any A c L u (hA.grown hg (by simp)) hlok (by omega))
  have HA := Lib.hid hA
  have HB := Lib.hid hB
  have HOK := Lib.hid hlok
  have HSUM := Lib.hid hs
  have hdc : D.length ≤ d := by obtain ⟨_, _, e, _, h, _⟩ := hB.form; cases e; exact h
  obtain ⟨SS, hSS⟩ : ∃ SS, startsI 0 L = SS := ⟨_, rfl⟩
  obtain ⟨LL, hLL⟩ : ∃ LL, cutI L D = LL := ⟨_, rfl⟩
  have HSA := Lib.hid (fun j z h => startsI_at L 0 j z h)
  have HSL := Lib.hid (startsI_len L 0)
  have HLL := Lib.hid (cutI_len L D)
  have HCA := Lib.hid (fun j z h => cutI_at L D j z hlok h)
  rw [hSS] at HST HSA HSL
  rw [hLL] at HLL HCA ⊢
  obtain ⟨n, hnn⟩ : ∃ n, L.length = n := ⟨_, rfl⟩
  obtain ⟨m, hmm⟩ : ∃ m, D.length = m := ⟨_, rfl⟩
  have HN := Lib.hid hnn
  have HM := Lib.hid hmm
  obtain ⟨p, hpp⟩ : ∃ p, SS.length = p := ⟨_, rfl⟩
  have HP := Lib.hid (show p = n by have := HSL.out; omega)
  rw [hnn] at HST hl4 ⊢
  have HPOST : Hid (∀ (A : Option Addr) (c : Nat) (vs : List Value) (w' : World), w.grownBy w' none → w'.ownsRow w.heap.size 22 1 (.slice A LL.length c) LL.length vs → (∀ u, OwnI u (.slice B D.length d) D → Sls u LL.length vs LL) → CutPost (.slice B D.length d) D LL w (.returned (.slice A LL.length c)) w') := Lib.hid (fun A c vs w' h1 h2 h3 => ⟨A, c, vs, rfl, h1, h2, h3⟩)
  rw [hmm] at hdc HPOST ⊢
  clear hA hB hl hlok hs hnn hmm hSS hLL
  go_enter Try.func71, Try.ntmps71
  go_wp2_with fail
  refine (HST.out _ (World.grownBy_alloc _ _ _)).mono ?_
  rintro e w1 ⟨A1, c1, rfl, hg1, ho1⟩
  rw [hpp]
  have HG1 := Lib.hid ((World.grownBy_alloc w (.cells #[] 22) none).trans hg1)
  rw [hpp] at ho1
  have HI1 := Lib.hid ho1
  have hro : (w.alloc (.cells #[] 22)).ownsRow w.heap.size 22 1 (.slice (some ⟨w.heap.size, 0, none⟩) 0 0) 0 [] := by
    have := World.ownsRow_made (base := w.heap.size) (e := 22) (size := 1) w #[] 0 (Nat.le_refl _) (by simp) (by simp)
    simpa using this
  have HRO := Lib.hid (own_keep hro (fun g hg => hg1.block g (hro.lt g hg).2 (by simp)))
  have hpn : p = n := HP.out
  subst hpn
  have HPP := Lib.hid hpp
  clear hg1 ho1 hro hpp
  go_wp2_with fail
  go_loopw [5, 12] (fun u i wr => ∃ (j : Nat) (A3 : Option Addr) (c3 : Nat) (vs : List Value), j ≤ p ∧ i = .int .i64 j ∧ u = .slice A3 j c3 ∧ Hid (wr.ownsRow w.heap.size 22 1 (.slice A3 j c3) j vs) ∧ Hid (∀ u, OwnI u (.slice B m d) D → Sls u j vs LL) ∧ Hid (w.grownBy wr none) ∧ Hid (wr.ownsRow (w.alloc (.cells #[] 22)).heap.size 3 1 (.slice A1 p c1) p (SS.map (Value.int .i64)))) (fun _ i _ => p - (intOf i).toNat)
  case atStart => exact ⟨0, some ⟨w.heap.size, 0, none⟩, 0, [], Nat.zero_le _, rfl, rfl, HRO, Lib.hid (fun _ _ i M hi => by omega), HG1, HI1⟩
  case round =>
    obtain ⟨j, A3, c3, vs, hj, rfl, rfl, hown, hsl, hgr, hi1⟩ := hrel
    by_cases hlt : j < p
    · obtain ⟨z, hz⟩ : ∃ z, L[j]? = some z := ⟨_, List.getElem?_eq_getElem (by have := HN.out; omega)⟩
      obtain ⟨b, off, rfl, _, hc⟩ := HA.out.grown hgr.out (by simp) (by have := HN.out; omega)
      have hcell := hc j z hz
      obtain ⟨hz0, hz4, hs0, hsz⟩ := sumI_le HOK.out hz
      have hsa := HSA.out j z hz
      have hca := HCA.out j z hz
      obtain ⟨s, hss⟩ : ∃ s : Nat, sumI (L.take j) = (s : Int) := ⟨(sumI (L.take j)).toNat, by omega⟩
      obtain ⟨q, hqq⟩ : ∃ q : Nat, z = (q : Int) := ⟨z.toNat, by omega⟩
      subst hqq
      rw [hss] at hsa hca hs0 hsz
      rw [Int.zero_add] at hsa
      simp only [Int.toNat_natCast] at hca
      have hsq : s + q ≤ D.length := by have := HSUM.out; omega
      obtain ⟨b2, off2, rfl, _, hc2⟩ := (show Ints wr A1 SS from Ints.of_own (e := 3) (by have := hi1.out; rw [← HPP.out] at this; exact this)) (by have := HN.out; have := HSL.out; omega)
      have hcell2 := hc2 j _ hsa
      obtain ⟨A', hsg, hlen, hq2, hI⟩ := sgW_ints (s := s) (z := q) HB.out (by omega)
      rw [HM.out] at hsq
      have hq6 : q ≤ 1000000 := by omega
      have hs4 : s ≤ 1000000 := by have := HSUM.out; have := HM.out; omega
      have hrun : ∀ u, (Instr.slice 22 (.slice B m d) (some (.int .i64 (s : Int))) (some (.int .i64 ((s : Int) + (q : Int)))) none).run Try.prog u = .ok (.slice A' q (d - s)) u := fun u => by rw [cutw_run B m d s q u (by omega), hsg]
      have HCA2 := Lib.hid hca
      have HLEN := Lib.hid hlen
      have HI : Hid (∀ u, OwnI u (.slice B m d) D → Ints u A' ((D.drop s).take q)) := Lib.hid (fun u hu => by
        obtain ⟨A'', h1, _, _, h4⟩ := sgW_ints (D := D) (d := d) (s := s) (z := q) (by rw [HM.out]; exact hu) (by have := HM.out; omega)
        rw [hsg] at h1
        cases h1
        exact h4)
      have hB := hgr.out.size
      have hnl : ∀ (i : Nat) (u : Value), ([.slice A' q (d - s)] : List Value)[i]? = some u → (wr.alloc (.cells #[.slice A' q (d - s)] 22)).cell? ((⟨wr.heap.size, 0, none⟩ : Addr).add i) = some u := cell_one_new _ _ _
      have HNL := Lib.hid hnl
      have hown2 := hown.out.alloc (.cells #[.slice A' q (d - s)] 22)
      clear hnl hc hc2 hz hsa hca hss hsg hlen hI hz4 hsz hz0 hs0
      go_wp2_with (at_builtin; refine wpList_append_own_at _ rfl _ _ 41 rfl w.heap.size 22 i0 (.slice none 0 0) 1 24 Try.underlying41 hi0 hz0' hz1' hz2' rfl (by decide) _ _ _ rfl hown2 ⟨wr.heap.size, 0, none⟩ 1 1 [.slice A' q (d - s)] rfl rfl HNL.out ?c2 ?c3 ?c4 ?c5 ?_)
      case c2 => simp [Value.oneCell']
      case c3 => simp only [maxLen]; omega
      case c4 => omega
      case c5 => simp; omega
      intro v8 w8 hown8 hg8 _ _
      obtain ⟨g8, c8, rfl⟩ := own_succ3 hown8
      have HG8 := Lib.hid (gr_own (hgr.out.trans (World.grownBy_alloc wr (.cells #[.slice A' q (d - s)] 22) none)) hg8 (fun k hk => (hown.out.lt k hk).1))
      have HO8 := Lib.hid hown8
      have HS8 : Hid (w8.ownsRow (w.alloc (.cells #[] 22)).heap.size 3 1 (.slice (some ⟨b2, off2, none⟩) p c1) p (SS.map (Value.int .i64))) := Lib.hid (own_aside3 (hi1.out.alloc _) hown2 (by decide) hg8)
      have HSL8 : Hid (∀ u, OwnI u (.slice B m d) D → Sls u (j + 1) (vs ++ [.slice A' q (d - s)]) LL) := Lib.hid (fun u hu => Sls.more (hsl.out u hu) (by have := hown.out.1; omega) HCA2.out (by rw [HLEN.out]) (by rw [HLEN.out]; exact hq2) (HI.out u hu))
      clear hown8 hg8 hown2
      go_wp2_with fail
      go_roundw
      case rel => exact ⟨j + 1, some ⟨g8, 0, none⟩, c8, _, by omega, by go_num, rfl, HO8, HSL8, HG8, HS8⟩
      case measure => simp [intOf]; omega
    · have hjn : j = p := by omega
      have HJ := Lib.hid hjn
      clear hjn
      go_wp2_with fail
      go_ret
      have e : LL.length = j := by have := HLL.out; have := HN.out; have := HJ.out; omega
      have := HPOST.out A3 c3 vs wr hgr.out (by rw [e]; exact hown.out) (by rw [e]; exact hsl.out)
      rw [e] at this
      exact this

end Go.Proofs.Ytpakihjkjdanlaa

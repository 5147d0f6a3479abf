/- 5 texts in one: SMade SlsL Coll Coll2 Grid. -/
import Derived.Test.YtachjodnhgmoiaaGreatDoorSeg
import Derived.Test.YtachjodnhgmoiaaGreatDoorOwnI
import Derived.Test.YtachjodnhgmoiaaGreatDoorPr
import Derived.Test.YtachjodnhgmoiaaGreatDoorFam
import Derived.Test.YtachjodnhgmoiaaGreatDoorSegIt2
import Derived.Test.YtachjodnhgmoiaaGreatDoorZCC
import Derived.Test.YtachjodnhgmoiaaGreatDoorZCB
import Derived.Deep.RegionLaw
import Derived.Deep.RegionHeld3
namespace Go.Proofs.YtachjodnhgmoiaaGreatDoor
/- SMade -/
section
open Go.RowKit

/-- A new row of ints that is handed back. -/
def ListPost (zs : List Int) (w : World) (e : Ending) (w' : World) : Prop :=
  ∃ A c, e = .returned (.slice A zs.length c) ∧ w.grownBy w' none ∧ w'.ownsRow w.heap.size 3 1 (.slice A zs.length c) zs.length (zs.map (Value.int .i64))
/-- The same, and a second result. -/
def ListPostB (zs : List Int) (b : Bool) (w : World) (e : Ending) (w' : World) : Prop :=
  ∃ A c, e = .returned (.tuple #[.slice A zs.length c, .bool b]) ∧ w.grownBy w' none ∧ w'.ownsRow w.heap.size 3 1 (.slice A zs.length c) zs.length (zs.map (Value.int .i64))

theorem made_row (w : World) (B : Nat) (hB : B ≤ w.heap.size) : (w.alloc (.cells #[] 3)).ownsRow B 3 1 (.slice (some ⟨w.heap.size, 0, none⟩) 0 0) 0 [] := by
  have := World.ownsRow_made (base := B) (e := 3) (size := 1) w #[] 0 hB (by simp) (by simp)
  simpa using this

/-- One number more behind a row of the call's own. -/
theorem row_one {w0 w w1 : World} {B q : Nat} {v v' : Value} {xs : List Int} {z : Int} {o : Obj} (h : w0.grownBy w none) (hB : w0.heap.size ≤ B) (ho : w.ownsRow B 3 1 v q (xs.map (Value.int .i64)))
    (ho' : w1.ownsRow B 3 1 v' (q + 1) (xs.map (Value.int .i64) ++ [.int .i64 z])) (hg : (w.alloc o).grownBy w1 v.ownBlock) :
    w0.grownBy w1 none ∧ w1.ownsRow B 3 1 v' (q + 1) ((xs ++ [z]).map (Value.int .i64)) ∧ ∃ g c, v' = .slice (some ⟨g, 0, none⟩) (q + 1) c := by
  refine ⟨gr_ownF (h.trans (World.grownBy_alloc w o none)) hg (fun k hk => Nat.le_trans hB (ho.lt k hk).1), by simpa using ho', ?_⟩
  rcases ho'.2 with ⟨_, hn⟩ | ⟨g, cap, cur, hv, _⟩
  · omega
  · exact ⟨g, cap, hv⟩
end

/- SlsL -/
section
open Go.RowKit

/-- The values are slices of these lists. -/
def Sls (w : World) (j : Nat) (vs : List Value) (LL : List (List Int)) : Prop := ∀ (i : Nat) (M : List Int), i < j → LL[i]? = some M → ∃ A c, vs[i]? = some (.slice A M.length c) ∧ M.length ≤ c ∧ Ints w A M
theorem Sls.grown {w w' : World} {j : Nat} {vs : List Value} {LL : List (List Int)} (h : Sls w j vs LL) (hg : w.grownBy w' none) : Sls w' j vs LL := fun i M hi hM => by
  obtain ⟨A, c, h1, h2, h3⟩ := h i M hi hM
  exact ⟨A, c, h1, h2, h3.grown hg (by simp)⟩
theorem Sls.more {w : World} {j : Nat} {vs : List Value} {LL : List (List Int)} {v : Value} {M : List Int} {A : Option Addr} {c : Nat} (h : Sls w j vs LL) (hl : vs.length = j) (hM : LL[j]? = some M) (hv : v = .slice A M.length c) (hc : M.length ≤ c) (hI : Ints w A M) : Sls w (j + 1) (vs ++ [v]) LL := fun i N hi hN => by
  by_cases e : i = j
  · subst e
    rw [hM] at hN
    cases hN
    exact ⟨A, c, by rw [List.getElem?_append_right (by omega), hl]; simp [hv], hc, hI⟩
  · obtain ⟨A', c', h1, h2, h3⟩ := h i N (by omega) hN
    exact ⟨A', c', by rw [List.getElem?_append_left (by omega)]; exact h1, h2, h3⟩
theorem Sls.rws {w : World} {base c : Nat} {A : Option Addr} {vs : List Value} {LL : List (List Int)} (h : Sls w LL.length vs LL) (ho : w.ownsRow base 25 1 (.slice A LL.length c) LL.length vs) : Rws w A LL := fun hl => by
  rcases ho.2 with ⟨hv, hn⟩ | ⟨g, cap, cur, hv, _, hg, hnc, _, hcs, htake⟩
  · omega
  · cases hv
    refine ⟨g, 0, rfl, (Array.getElem?_eq_some_iff.1 hg).1, fun j M hj => ?_⟩
    have hjl : j < LL.length := (List.getElem?_eq_some_iff.1 hj).1
    obtain ⟨B, d, h1, h2, h3⟩ := h j M hjl hj
    refine ⟨B, d, ?_, h2, h3⟩
    rw [Nat.zero_add, cell_of_row w g j _ _ (0, 0) hg]
    have : (cur.toList.take (LL.length * 1))[j]? = some (.slice B M.length d) := by rw [htake]; exact h1
    rw [List.getElem?_take, if_pos (by omega)] at this
    simpa using this

/-- A slice with room behind it, as the model cuts it out. -/
def sgW (A : Option Addr) (d : Nat) (s z : Nat) : Value := .slice (if d = s then A else A.map (·.add (s * 1))) z (d - s)

set_option maxRecDepth 100000 in
theorem cutw_run (A : Option Addr) (k d s z : Nat) (u : World) (h2 : s + z ≤ d) :
    (Instr.slice 25 (.slice A k d) (some (.int .i64 (s : Int))) (some (.int .i64 ((s : Int) + (z : Int)))) none).run Tryz.prog u = .ok (sgW A d s z) u := by
  rw [run_slice_lh u 25 A k d Tryz.underlying25 .i64 .i64 (s : Int) ((s : Int) + (z : Int)) (by omega) (by omega) (by omega)]
  have hsz : (sizeOf (Tryz.prog.elem 25)).run Tryz.prog u = .ok 1 u := by kernel_rfl
  rw [hsz]
  show Result.ok (Value.slice (if d = ((s : Int)).toNat then A else A.map (·.add (((s : Int)).toNat * 1))) (((s : Int) + (z : Int)).toNat - ((s : Int)).toNat) (d - ((s : Int)).toNat)) u = _
  rw [show ((s : Int)).toNat = s from by omega, show ((s : Int) + (z : Int)).toNat = s + z from by omega, show s + z - s = z from by omega]
  rfl

theorem sgW_ints {w : World} {A : Option Addr} {D : List Int} {d s z : Nat} (h : OwnI w (.slice A D.length d) D) (hs : s + z ≤ D.length) :
    ∃ A', sgW A d s z = .slice A' z (d - s) ∧ ((D.drop s).take z).length = z ∧ z ≤ d - s ∧ Ints w A' ((D.drop s).take z) := by
  obtain ⟨A1, c1, hv, hI, hc1, hnone, hsome⟩ := h.form
  cases hv
  have hlen : ((D.drop s).take z).length = z := by rw [List.length_take, List.length_drop]; omega
  refine ⟨_, rfl, hlen, by omega, fun hpos => ?_⟩
  rw [hlen] at hpos
  rw [if_neg (by omega)]
  cases A with
  | none => have := (hnone rfl).1; omega
  | some a =>
    obtain ⟨b, xs, m, rfl, hb, hcell⟩ := hsome _ rfl
    refine ⟨b, s, by simp [addr_flat], (Array.getElem?_eq_some_iff.1 hb).1, fun i x hi => ?_⟩
    have hiq : i < z := by have := (List.getElem?_eq_some_iff.1 hi).1; omega
    rw [List.getElem?_take, if_pos hiq, List.getElem?_drop] at hi
    exact hcell (s + i) x hi

/-- How l3Cut ends. -/
def CutPost (v : Value) (D : List Int) (LL : List (List Int)) (w : World) (e : Ending) (w' : World) : Prop := ∃ A c vs, e = .returned (.slice A LL.length c) ∧ w.grownBy w' none ∧ w'.ownsRow w.heap.size 25 1 (.slice A LL.length c) LL.length vs ∧ ∀ u, OwnI u v D → Sls u LL.length vs LL

/-- Rows of different element types are apart. -/
theorem own_aside3 {w w' : World} {base base2 n k : Nat} {e t : TypeId} {v u : Value} {xs ys : List Value} (h : w.ownsRow base e 1 v n xs) (h2 : w.ownsRow base2 t 1 u k ys) (ht : t ≠ e) (hg : w.grownBy w' u.ownBlock) : w'.ownsRow base e 1 v n xs :=
  own_keep h (fun g hv => hg.block g (h.lt g hv).2 (fun hc => ht (own_typ h2 h hc.symm hv)))
theorem own_succ3 {w : World} {base e n : Nat} {v : Value} {xs : List Value} (h : w.ownsRow base e 1 v (n + 1) xs) : ∃ g c, v = .slice (some ⟨g, 0, none⟩) (n + 1) c := by
  rcases h.2 with ⟨_, hn⟩ | ⟨g, cap, cur, hv, _⟩
  · omega
  · exact ⟨g, cap, hv⟩
end

/- Coll -/
section
open Go.RowKit Go.Shelf
attribute [local go_sem] Oper.semAt_some

theorem sgV_intsY {w : World} {A : Option Addr} {L D : List Int} {c j : Nat} {z : Int} (h : OwnI w (.slice A D.length c) D) (hok : okN 400 L = true) (hs : (D.length : Int) = sumI L) (hz : L[j]? = some z) :
    ∃ A', sgV A (sumI (L.take j), sumI (L.take j) + z) = .slice A' z.toNat z.toNat ∧ ((cutI L D)[j]? = some ((D.drop (sumI (L.take j)).toNat).take z.toNat)) ∧ ((D.drop (sumI (L.take j)).toNat).take z.toNat).length = z.toNat ∧
      (∀ u, w.grownBy u none → Ints u A' ((D.drop (sumI (L.take j)).toNat).take z.toNat)) ∧ (0 < z.toNat → ∃ b, A = some ⟨b, 0, none⟩ ∧ A' = some ⟨b, (sumI (L.take j)).toNat, none⟩) := by
  obtain ⟨h0, h4, hs0, hsz⟩ := sumI_le hok hz
  obtain ⟨s, hsn⟩ : ∃ s : Nat, sumI (L.take j) = (s : Int) := ⟨(sumI (L.take j)).toNat, by omega⟩
  obtain ⟨q, hqn⟩ : ∃ q : Nat, z = (q : Int) := ⟨z.toNat, by omega⟩
  have hcut := cutI_at L D j z hok hz
  rw [hsn, hqn] at hcut ⊢
  have e1 : ((s : Int) + (q : Int)).toNat = s + q := by omega
  have hlen : ((D.drop s).take q).length = q := by
    rw [List.length_take, List.length_drop]; omega
  simp only [Int.toNat_natCast] at hcut ⊢
  obtain ⟨A1, c1, hv, hI, hc1, hnone, hsome⟩ := h.form
  cases hv
  have hints : ∀ (b : Nat), A = some ⟨b, 0, none⟩ → ∀ u, w.grownBy u none → Ints u (some ⟨b, s, none⟩) ((D.drop s).take q) := fun b e u hu hpos => by
    subst e
    rw [hlen] at hpos
    obtain ⟨b2, xs, mm, e, hb, hcell⟩ := hsome _ rfl
    cases e
    have hlt : b < w.heap.size := (Array.getElem?_eq_some_iff.1 hb).1
    refine ⟨b, s, rfl, Nat.lt_of_lt_of_le hlt hu.size, fun i x hi => ?_⟩
    have hiq : i < q := by have := (List.getElem?_eq_some_iff.1 hi).1; omega
    rw [List.getElem?_take, if_pos hiq, List.getElem?_drop] at hi
    exact hu.cell (hcell (s + i) x hi) (by simp)
  by_cases hq : q = 0
  · subst hq
    refine ⟨A, by simp [sgV], hcut, by simp, fun u _ hp => by simp at hp, fun hp => by omega⟩
  · have hAs : ∃ a, A = some a := by
      cases A with
      | some a => exact ⟨a, rfl⟩
      | none =>
        have := (hnone rfl).2
        subst this
        simp at hs
        omega
    obtain ⟨a, rfl⟩ := hAs
    obtain ⟨b, xs, mm, rfl, hb, hcell⟩ := hsome _ rfl
    refine ⟨some ⟨b, s, none⟩, ?_, hcut, hlen, hints b rfl, fun _ => ⟨b, rfl, rfl⟩⟩
    simp only [sgV, e1, Int.toNat_natCast]
    rw [if_neg (by omega), show s + q - s = q from by omega]
    simp [addr_flat]

theorem keeps_rowY {X : Nat → TypeId → Prop} {V V' : World} {base e size n : Nat} {v : Value} {xs : List Value} (h : V.ownsRow base e size v n xs) (he : ∀ k, base ≤ k → X k e) (hg : V.grownBy V' v.ownBlock) : KeepsK X V V' := by
  rcases h.2 with ⟨rfl, _⟩ | ⟨g, cap, cur, rfl, hb, hgb, _⟩
  · exact KeepsK.grown hg
  · exact KeepsK.grownX hg hgb (he g hb)

/-- What a round writes: the box of the list and the list's rows, which lie behind the iterator's own box. -/
def collX (g : Nat) (k : Nat) (t : TypeId) : Prop := (t = 25 ∧ g + 5 ≤ k) ∨ (t = 32 ∧ k = g)

theorem segsmakerY (A B : Option Addr) (n c m d : Nat) (w : World) : Calls Tryz.prog 33 #[.slice A n c, .slice B m d] w fun e w' =>
    e = .returned (.func (.func 50) #[] #[.pointer (some ⟨w.heap.size, 0, none⟩), .pointer (some ⟨w.heap.size + 1, 0, none⟩)]) ∧ w' = (w.alloc (.cells #[.slice A n c] 25)).alloc (.cells #[.slice B m d] 25) := by
  have hmf := @makeFunc_runK
  go_enter Tryz.func33, Tryz.ntmps33
  go_wp2_with fail
  go_ret
  exact ⟨rfl, rfl⟩

set_option maxRecDepth 100000 in
set_option maxHeartbeats 4000000 in
theorem appseq_any (bl bd cl cd : Nat) (AL AD : Option Addr) (L D : List Int) (w : World) (hL : OwnI w (.slice AL L.length cl) L) (hD : OwnI w (.slice AD D.length cd) D) (hlen : L.length ≤ 400) (hok : okN 400 L = true) (hs : (D.length : Int) = sumI L)
    (hbl : w.heap[bl]? = some (.cells #[.slice AL L.length cl] 25 (0, 0))) (hbd : w.heap[bd]? = some (.cells #[.slice AD D.length cd] 25 (0, 0))) :
    Calls Tryz.prog 49 #[.slice none 0 0, .func (.func 50) #[] #[.pointer (some ⟨bl, 0, none⟩), .pointer (some ⟨bd, 0, none⟩)]] w fun e w' =>
      ∃ A c, e = .returned (.slice A (cutI L D).length c) ∧ w.grownBy w' none ∧ Rws w' A (cutI L D) := by
  obtain ⟨i0, hi0, hz0, hz1, hz2⟩ := info_parts infoL
  have hdc : D.length ≤ cd := by obtain ⟨_, _, e, _, h, _⟩ := hD.form; cases e; exact h
  obtain ⟨A0, c0, e0, hA, _, _, hsome⟩ := hL.form
  cases e0
  obtain ⟨g, hg⟩ : ∃ g, w.heap.size = g := ⟨_, rfl⟩
  obtain ⟨W1, hW1⟩ : ∃ W1, w.alloc (.cells #[.slice none 0 0] 32) = W1 := ⟨_, rfl⟩
  have s1 : W1.heap.size = g + 1 := by rw [← hW1]; simp [hg]
  have g1 : w.grownBy W1 none := by rw [← hW1]; exact World.grownBy_alloc _ _ _
  obtain ⟨X, hX⟩ : ∃ X, collX g = X := ⟨_, rfl⟩
  have b1 : Boxed W1 g 32 (.slice none 0 0) := by
    rw [← hW1, ← hg]
    exact Boxed.new w _ _
  have hll := (Array.getElem?_eq_some_iff.1 hbl).1
  have hld := (Array.getElem?_eq_some_iff.1 hbd).1
  have b2 : W1.heap[bl]? = some (.cells #[.slice AL L.length cl] 25 (0, 0)) := (g1.block bl hll (by simp)).trans hbl
  have b3 : W1.heap[bd]? = some (.cells #[.slice AD D.length cd] 25 (0, 0)) := (g1.block bd hld (by simp)).trans hbd
  have hLK : IntsK X W1 AL L := fun hpos => by
    obtain ⟨b, off, rfl, hblt, hcell⟩ := hA hpos
    obtain ⟨b', xs, m, e, hb, _⟩ := hsome _ rfl
    cases e
    refine ⟨b, 0, xs, m, rfl, (g1.block b hblt (by simp)).trans hb, by rw [← hX]; simp [collX], fun j z hj => g1.cell (hcell j z hj) (by simp)⟩
  have hseq := Lib.hid (segs_iter2 X (fun k => by rw [← hX]; simp [collX]) bl bd cl cd AL AD L D W1 (by rw [← hX, s1]; simp [collX]) hLK (by omega) hok (by omega) b2 (by rw [← hX]; simp [collX]; omega) b3 (by rw [← hX]; simp [collX]; omega))
  have HB1 := Lib.hid b1
  have HG1 := Lib.hid g1
  have HX := Lib.hid hX
  have HW := Lib.hid hW1
  have HL4 := Lib.hid hlen
  have HD := Lib.hid hD
  have HOK := Lib.hid hok
  have HSM := Lib.hid hs
  have HSS := Lib.hid (show W1.heap.size = g + 1 ∧ w.heap.size = g from ⟨s1, hg⟩)
  have HGH := Lib.hid hg
  clear hL hD hlen hok hs hbl hbd hdc hA hsome hg hW1 s1 g1 hX b1 hll hld b2 b3 hLK
  refine (callsIn_wide (n := 3)).1 ?_
  refine callsIn_of_wp_marks Tryz.func49 rfl trivial ?_ rfl
  simp only [Tryz.ntmps49, List.size_toArray, List.length_cons, List.length_nil, Nat.reduceAdd, Nat.reduceSub, Array.replicate_succ, Array.replicate_zero, List.push_toArray, List.append_toArray, List.nil_append, List.cons_append]
  gi_wp2
  rw [HW.out]
  simp only [HGH.out]
  clear HW
  refine range_ownK2 (sgK AD) (X := X) (zs := spanK 0 L) (gf := 50) (lb := #[.pointer (some ⟨bl, 0, none⟩), .pointer (some ⟨bd, 0, none⟩)]) rfl (enters_of Tryz.func50 (by kernel_rfl) rfl) hseq.out
    (fun pre V => (∃ v, Boxed V g 32 v ∧ V.ownsRow (g + 5) 25 1 v pre.length (pre.map (sgV AD)) ∧ True) ∧ w.grownBy V none) (fun _ _ => False) ?hI ?hIx ?h0 (fun _ => rfl)
    (fun x => { tmps := #[.slice none 0 0, .func (.func 50) #[] #[.pointer (some ⟨bl, 0, none⟩), .pointer (some ⟨bd, 0, none⟩)], .pointer (some ⟨g, 0, none⟩), undef, .slice none 0 0, sgV AD x,
          .func (.func 50) #[] #[.pointer (some ⟨bl, 0, none⟩), .pointer (some ⟨bd, 0, none⟩)], sgV AD x, undef, undef, undef, undef, undef], defers := [] }) ?assign ?body ?done ?stop
  case hI => exact OwnFrom.and (Own.from (holdsRow_own (g + 5) g 32 25 1 (fun pre : List (Int × Int) => pre.length) (fun pre => pre.map (sgV AD)) (fun _ _ => True)) _) (fun s A C row hs hg hr => gr_ownF hs hg (fun k e => by have h1 := (hr k e).1; have h2 := HSS.out; omega))
  case hIx => exact fun _ _ _ _ hs _ _ => hs
  case h0 => exact ⟨⟨_, HB1.out, by simpa using World.ownsRow_nil _ _ _ _, trivial⟩, HG1.out⟩
  case assign =>
    intro l m x V K hK
    simp only [sgK]
    gi_wp2
    exact hK
  case body =>
    rintro l1 m1 pre x V hl1 hr1 hs4 ⟨⟨v, hv, hrow, _⟩, hG⟩ hpre
    have hszV : g + 5 ≤ V.heap.size := by have := HSS.out; omega
    have hpl : pre.length < 400 := by
      have h1 := hpre.length_le
      rw [spanK_len, List.length_append] at h1
      simp only [List.length_cons, List.length_nil] at h1
      have := HL4.out
      omega
    have hc := hv.cell
    obtain ⟨A', k', hy⟩ : ∃ A' k', sgV AD x = .slice A' k' k' := ⟨_, _, rfl⟩
    have HY := Lib.hid hy
    have HC := Lib.hid (cell_one_new V (.slice A' k' k') 25)
    simp only [hy]
    clear hy
    gi_wp2_with (gi_at_builtin; refine wpListIn_append_own _ rfl _ _ 32 rfl (g + 5) 25 i0 (.slice none 0 0) 1 24 Tryz.underlying32 hi0 hz0 hz1 hz2 rfl (by decide) v pre.length _ rfl (hrow.alloc _) ⟨V.heap.size, 0, none⟩ 1 1 [.slice A' k' k'] rfl rfl HC.out (by simp [Value.oneCell']) (by simp only [maxLen]; omega) (by omega) (by simp; omega) ?_; intro v' w1 hown' hgrow _; obtain ⟨g', cap', rfl⟩ := ownsRow_succ hown'; have hv1 : Boxed w1 g 32 v := Boxed.kept (hv.alloc _) hgrow (hv.not_row (by decide) hrow); have hc1 := hv1.cell; have hf1 := hv1.frozen)
    have hrow3 := hown'.kept (grownBy_setCell' w1 g (.slice (some ⟨g', 0, none⟩) (pre.length + 1) cap')) (.inr (hv1.not_row (by decide) hown').symm)
    have ka : KeepsK X V (V.alloc (.cells #[.slice A' k' k'] 25)) := KeepsK.alloc _ _
    have kb : KeepsK X (V.alloc (.cells #[.slice A' k' k'] 25)) w1 := keeps_rowY (hrow.alloc _) (fun k hk => by rw [← HX.out]; exact .inl ⟨rfl, hk⟩) hgrow
    have kc : KeepsK X w1 (w1.setCell ⟨g, 0, none⟩ (.slice (some ⟨g', 0, none⟩) (pre.length + 1) cap')) := KeepsK.grownX (grownBy_setCell' w1 g _) hv1 (by rw [← HX.out]; exact .inr ⟨rfl, rfl⟩)
    refine ⟨(ka.trans kb).trans kc, ⟨_, hv1.set _, ?_, trivial⟩, ?_⟩
    · rw [List.length_append, List.length_singleton, List.map_append, List.map_singleton, HY.out]
      exact hrow3
    · have hlow := HSS.out
      refine gr_ownF (gr_ownF (hG.trans (World.grownBy_alloc V _ none)) hgrow (fun k hk => by have := (hrow.lt k hk).1; omega)) (grownBy_setCell' w1 g _) (fun k e => by cases e; omega)
  case done =>
    rintro Dm V hD' ⟨⟨v, hv, hrow, _⟩, hG⟩ hK
    have hc := hv.cell
    obtain ⟨A6, m, c6, rfl⟩ := own_form hrow
    have hm : m = (spanK 0 L).length := by
      rcases hrow.2 with ⟨h, h'⟩ | ⟨g, cap, cur, h, _⟩
      · cases h; omega
      · cases h; rfl
    subst hm
    have e1 : (cutI L D).length = (spanK 0 L).length := by rw [spanK_len, cutI_len]
    gi_wp2
    refine ⟨by simp, .inl ⟨_, _, rfl, run_takeDeferred hK, ?_⟩⟩
    have h3 := own_base (base' := w.heap.size) (ownsRow_putObj hrow (.deferred none) hK rfl) (by have := HSS.out; omega)
    have hgl : w.grownBy (V.putObj Dm (.deferred none)) none := gr_ownF hG (grownBy_putObj' V Dm _) (fun k e => by have := HSS.out; cases e; omega)
    refine ⟨.slice A6 (spanK 0 L).length c6, by simp [results, Tryz.results49, go_sem], A6, c6, by rw [e1], hgl, ?_⟩
    rw [← e1] at h3
    refine Sls.rws (fun j M hj hM => ?_) h3
    obtain ⟨z, hz⟩ : ∃ z, L[j]? = some z := ⟨_, List.getElem?_eq_getElem (by rw [cutI_len] at hj; exact hj)⟩
    obtain ⟨A', h1, h2, h4, h5, _⟩ := sgV_intsY (HD.out.grown0 hgl) HOK.out HSM.out hz
    rw [hM] at h2
    cases h2
    refine ⟨A', z.toNat, ?_, by omega, h5 _ (gr_refl _ _)⟩
    rw [List.getElem?_map, spanK_at L 0 j z hz, Option.map_some, Int.zero_add, h1, h4]
  case stop =>
    rintro D' pre V _ _ h _
    exact h.elim

set_option maxHeartbeats 1000000 in
theorem collect_any (bl bd cl cd : Nat) (AL AD : Option Addr) (L D : List Int) (w : World) (hL : OwnI w (.slice AL L.length cl) L) (hD : OwnI w (.slice AD D.length cd) D) (hlen : L.length ≤ 400) (hok : okN 400 L = true) (hs : (D.length : Int) = sumI L)
    (hbl : w.heap[bl]? = some (.cells #[.slice AL L.length cl] 25 (0, 0))) (hbd : w.heap[bd]? = some (.cells #[.slice AD D.length cd] 25 (0, 0))) :
    Calls Tryz.prog 32 #[.func (.func 50) #[] #[.pointer (some ⟨bl, 0, none⟩), .pointer (some ⟨bd, 0, none⟩)]] w fun e w' =>
      ∃ A c, e = .returned (.slice A (cutI L D).length c) ∧ w.grownBy w' none ∧ Rws w' A (cutI L D) := by
  have HS := Lib.hid (appseq_any bl bd cl cd AL AD L D w hL hD hlen hok hs hbl hbd)
  obtain ⟨LL, hLL⟩ : ∃ LL, cutI L D = LL := ⟨_, rfl⟩
  rw [hLL] at HS ⊢
  obtain ⟨n, hn⟩ : ∃ n, LL.length = n := ⟨_, rfl⟩
  rw [hn] at HS ⊢
  clear hL hD hlen hok hs hbl hbd hLL hn
  go_enter Tryz.func32, Tryz.ntmps32
  go_wp2_with fail
  refine HS.out.mono ?_
  rintro e w1 ⟨A, c, rfl, hg, hr⟩
  have HP := Lib.hid (And.intro hg hr)
  clear hg hr
  go_wp2_with fail
  go_ret
  exact ⟨A, c, rfl, HP.out.1, HP.out.2⟩
end

/- Coll2 -/
section
open Go.RowKit Go.Shelf
attribute [local go_sem] Oper.semAt_some

theorem sgV_intsR {w w' : World} {A : Option Addr} {L D : List Int} {c j : Nat} {z : Int} (h : OwnR w 0 (.slice A D.length c) D) (hg : w.grownBy w' none) (hok : okN 400 L = true) (hs : (D.length : Int) = sumI L) (hz : L[j]? = some z) :
    ∃ A', sgV A (sumI (L.take j), sumI (L.take j) + z) = .slice A' z.toNat z.toNat ∧ ((cutI L D)[j]? = some ((D.drop (sumI (L.take j)).toNat).take z.toNat)) ∧ ((D.drop (sumI (L.take j)).toNat).take z.toNat).length = z.toNat ∧
      Ints w' A' ((D.drop (sumI (L.take j)).toNat).take z.toNat) ∧ (0 < z.toNat → ∃ b off xs fr, A' = some ⟨b, off, none⟩ ∧ w'.heap[b]? = some (.cells xs 3 fr)) := by
  rcases Nat.eq_zero_or_pos D.length with h0 | hp
  · obtain ⟨g0, g4, gs0, gsz⟩ := sumI_le hok hz
    have hz0 : z = 0 := by omega
    have hs0 : sumI (L.take j) = 0 := by omega
    have hd : D = [] := List.eq_nil_of_length_eq_zero h0
    subst hz0
    refine ⟨A, by rw [hs0]; simp [sgV], cutI_at L D j 0 hok hz, by simp, fun hl => by simp at hl, fun h => by simp at h⟩
  · obtain ⟨_, _, e, _, ho⟩ := h
    cases e
    have hoi := (show OwnI w (.slice A D.length c) D from ho hp).grown0 hg
    obtain ⟨A', h1, h2, h3, h4, h5⟩ := sgV_intsY hoi hok hs hz
    refine ⟨A', h1, h2, h3, h4 _ (gr_refl _ _), fun hz0 => ?_⟩
    obtain ⟨b, e1, e2⟩ := h5 hz0
    obtain ⟨A0, c0, e0, _, _, _, h⟩ := hoi.form
    cases e0
    obtain ⟨b', xs, m, e3, h6, _⟩ := h _ e1
    cases e3
    exact ⟨b, _, xs, m, e2, h6⟩

/-- A row of the call's own: slices of ints that have no room. -/
def CutG (R : List (List Int)) (base : Nat) (A : Option Addr) (c : Nat) (w : World) : Prop :=
  ∃ vs, w.ownsRow base 25 1 (.slice A R.length c) R.length vs ∧ ∀ (j : Nat) (M : List Int), R[j]? = some M → ∃ A', vs[j]? = some (.slice A' M.length M.length) ∧ Ints w A' M ∧ (0 < M.length → ∃ b off xs fr, A' = some ⟨b, off, none⟩ ∧ w.heap[b]? = some (.cells xs 3 fr))

set_option maxRecDepth 100000 in
set_option maxHeartbeats 4000000 in
theorem appseqG_any (bl bd cl cd : Nat) (AL AD : Option Addr) (L D : List Int) (w : World) (hL : OwnR w 0 (.slice AL L.length cl) L) (hD : OwnR w 0 (.slice AD D.length cd) D) (hlen : L.length ≤ 400) (hok : okN 400 L = true) (hs : (D.length : Int) = sumI L)
    (hbl : w.heap[bl]? = some (.cells #[.slice AL L.length cl] 25 (0, 0))) (hbd : w.heap[bd]? = some (.cells #[.slice AD D.length cd] 25 (0, 0))) :
    Calls Tryz.prog 49 #[.slice none 0 0, .func (.func 50) #[] #[.pointer (some ⟨bl, 0, none⟩), .pointer (some ⟨bd, 0, none⟩)]] w fun e w' =>
      ∃ A c, e = .returned (.slice A (cutI L D).length c) ∧ w.grownBy w' none ∧ CutG (cutI L D) w.heap.size A c w' := by
  obtain ⟨i0, hi0, hz0, hz1, hz2⟩ := info_parts infoL
  have hdc : D.length ≤ cd := hD.ints.2.1
  have hA := hL.ints.2.2
  have hsome : ∀ a, AL = some a → 0 < L.length → ∃ b xs m, a = ⟨b, 0, none⟩ ∧ w.heap[b]? = some (.cells xs 3 m) ∧ True := fun a ha hp => by
    obtain ⟨_, _, e, _, ho⟩ := hL
    cases e
    obtain ⟨A0, c0, e0, _, _, _, h⟩ := (show OwnI w (.slice AL L.length cl) L from ho hp).form
    cases e0
    obtain ⟨b, xs, m, h1, h2, _⟩ := h a ha
    exact ⟨b, xs, m, h1, h2, trivial⟩
  obtain ⟨g, hg⟩ : ∃ g, w.heap.size = g := ⟨_, rfl⟩
  obtain ⟨W1, hW1⟩ : ∃ W1, w.alloc (.cells #[.slice none 0 0] 32) = W1 := ⟨_, rfl⟩
  have s1 : W1.heap.size = g + 1 := by rw [← hW1]; simp [hg]
  have g1 : w.grownBy W1 none := by rw [← hW1]; exact World.grownBy_alloc _ _ _
  obtain ⟨X, hX⟩ : ∃ X, collX g = X := ⟨_, rfl⟩
  have b1 : Boxed W1 g 32 (.slice none 0 0) := by
    rw [← hW1, ← hg]
    exact Boxed.new w _ _
  have hll := (Array.getElem?_eq_some_iff.1 hbl).1
  have hld := (Array.getElem?_eq_some_iff.1 hbd).1
  have b2 : W1.heap[bl]? = some (.cells #[.slice AL L.length cl] 25 (0, 0)) := (g1.block bl hll (by simp)).trans hbl
  have b3 : W1.heap[bd]? = some (.cells #[.slice AD D.length cd] 25 (0, 0)) := (g1.block bd hld (by simp)).trans hbd
  have hLK : IntsK X W1 AL L := fun hpos => by
    obtain ⟨b, off, rfl, hblt, hcell⟩ := hA hpos
    obtain ⟨b', xs, m, e, hb, _⟩ := hsome _ rfl hpos
    cases e
    refine ⟨b, 0, xs, m, rfl, (g1.block b hblt (by simp)).trans hb, by rw [← hX]; simp [collX], fun j z hj => g1.cell (hcell j z hj) (by simp)⟩
  have hseq := Lib.hid (segs_iter2 X (fun k => by rw [← hX]; simp [collX]) bl bd cl cd AL AD L D W1 (by rw [← hX, s1]; simp [collX]) hLK (by omega) hok (by omega) b2 (by rw [← hX]; simp [collX]; omega) b3 (by rw [← hX]; simp [collX]; omega))
  have HB1 := Lib.hid b1
  have HG1 := Lib.hid g1
  have HX := Lib.hid hX
  have HW := Lib.hid hW1
  have HL4 := Lib.hid hlen
  have HD := Lib.hid hD
  have HOK := Lib.hid hok
  have HSM := Lib.hid hs
  have HSS := Lib.hid (show W1.heap.size = g + 1 ∧ w.heap.size = g from ⟨s1, hg⟩)
  have HGH := Lib.hid hg
  clear hL hD hlen hok hs hbl hbd hdc hA hsome hg hW1 s1 g1 hX b1 hll hld b2 b3 hLK
  refine (callsIn_wide (n := 3)).1 ?_
  refine callsIn_of_wp_marks Tryz.func49 rfl trivial ?_ rfl
  simp only [Tryz.ntmps49, List.size_toArray, List.length_cons, List.length_nil, Nat.reduceAdd, Nat.reduceSub, Array.replicate_succ, Array.replicate_zero, List.push_toArray, List.append_toArray, List.nil_append, List.cons_append]
  gi_wp2
  rw [HW.out]
  simp only [HGH.out]
  clear HW
  refine range_ownK2 (sgK AD) (X := X) (zs := spanK 0 L) (gf := 50) (lb := #[.pointer (some ⟨bl, 0, none⟩), .pointer (some ⟨bd, 0, none⟩)]) rfl (enters_of Tryz.func50 (by kernel_rfl) rfl) hseq.out
    (fun pre V => (∃ v, Boxed V g 32 v ∧ V.ownsRow (g + 5) 25 1 v pre.length (pre.map (sgV AD)) ∧ True) ∧ w.grownBy V none) (fun _ _ => False) ?hI ?hIx ?h0 (fun _ => rfl)
    (fun x => { tmps := #[.slice none 0 0, .func (.func 50) #[] #[.pointer (some ⟨bl, 0, none⟩), .pointer (some ⟨bd, 0, none⟩)], .pointer (some ⟨g, 0, none⟩), undef, .slice none 0 0, sgV AD x,
          .func (.func 50) #[] #[.pointer (some ⟨bl, 0, none⟩), .pointer (some ⟨bd, 0, none⟩)], sgV AD x, undef, undef, undef, undef, undef], defers := [] }) ?assign ?body ?done ?stop
  case hI => exact OwnFrom.and (Own.from (holdsRow_own (g + 5) g 32 25 1 (fun pre : List (Int × Int) => pre.length) (fun pre => pre.map (sgV AD)) (fun _ _ => True)) _) (fun s A C row hs hg hr => gr_ownF hs hg (fun k e => by have h1 := (hr k e).1; have h2 := HSS.out; omega))
  case hIx => exact fun _ _ _ _ hs _ _ => hs
  case h0 => exact ⟨⟨_, HB1.out, by simpa using World.ownsRow_nil _ _ _ _, trivial⟩, HG1.out⟩
  case assign =>
    intro l m x V K hK
    simp only [sgK]
    gi_wp2
    exact hK
  case body =>
    rintro l1 m1 pre x V hl1 hr1 hs4 ⟨⟨v, hv, hrow, _⟩, hG⟩ hpre
    have hszV : g + 5 ≤ V.heap.size := by have := HSS.out; omega
    have hpl : pre.length < 400 := by
      have h1 := hpre.length_le
      rw [spanK_len, List.length_append] at h1
      simp only [List.length_cons, List.length_nil] at h1
      have := HL4.out
      omega
    have hc := hv.cell
    obtain ⟨A', k', hy⟩ : ∃ A' k', sgV AD x = .slice A' k' k' := ⟨_, _, rfl⟩
    have HY := Lib.hid hy
    have HC := Lib.hid (cell_one_new V (.slice A' k' k') 25)
    simp only [hy]
    clear hy
    gi_wp2_with (gi_at_builtin; refine wpListIn_append_own _ rfl _ _ 32 rfl (g + 5) 25 i0 (.slice none 0 0) 1 24 Tryz.underlying32 hi0 hz0 hz1 hz2 rfl (by decide) v pre.length _ rfl (hrow.alloc _) ⟨V.heap.size, 0, none⟩ 1 1 [.slice A' k' k'] rfl rfl HC.out (by simp [Value.oneCell']) (by simp only [maxLen]; omega) (by omega) (by simp; omega) ?_; intro v' w1 hown' hgrow _; obtain ⟨g', cap', rfl⟩ := ownsRow_succ hown'; have hv1 : Boxed w1 g 32 v := Boxed.kept (hv.alloc _) hgrow (hv.not_row (by decide) hrow); have hc1 := hv1.cell; have hf1 := hv1.frozen)
    have hrow3 := hown'.kept (grownBy_setCell' w1 g (.slice (some ⟨g', 0, none⟩) (pre.length + 1) cap')) (.inr (hv1.not_row (by decide) hown').symm)
    have ka : KeepsK X V (V.alloc (.cells #[.slice A' k' k'] 25)) := KeepsK.alloc _ _
    have kb : KeepsK X (V.alloc (.cells #[.slice A' k' k'] 25)) w1 := keeps_rowY (hrow.alloc _) (fun k hk => by rw [← HX.out]; exact .inl ⟨rfl, hk⟩) hgrow
    have kc : KeepsK X w1 (w1.setCell ⟨g, 0, none⟩ (.slice (some ⟨g', 0, none⟩) (pre.length + 1) cap')) := KeepsK.grownX (grownBy_setCell' w1 g _) hv1 (by rw [← HX.out]; exact .inr ⟨rfl, rfl⟩)
    refine ⟨(ka.trans kb).trans kc, ⟨_, hv1.set _, ?_, trivial⟩, ?_⟩
    · rw [List.length_append, List.length_singleton, List.map_append, List.map_singleton, HY.out]
      exact hrow3
    · have hlow := HSS.out
      refine gr_ownF (gr_ownF (hG.trans (World.grownBy_alloc V _ none)) hgrow (fun k hk => by have := (hrow.lt k hk).1; omega)) (grownBy_setCell' w1 g _) (fun k e => by cases e; omega)
  case done =>
    rintro Dm V hD' ⟨⟨v, hv, hrow, _⟩, hG⟩ hK
    have hc := hv.cell
    obtain ⟨A6, m, c6, rfl⟩ := own_form hrow
    have hm : m = (spanK 0 L).length := by
      rcases hrow.2 with ⟨h, h'⟩ | ⟨g, cap, cur, h, _⟩
      · cases h; omega
      · cases h; rfl
    subst hm
    have e1 : (cutI L D).length = (spanK 0 L).length := by rw [spanK_len, cutI_len]
    gi_wp2
    refine ⟨by simp, .inl ⟨_, _, rfl, run_takeDeferred hK, ?_⟩⟩
    have h3 := own_base (base' := w.heap.size) (ownsRow_putObj hrow (.deferred none) hK rfl) (by have := HSS.out; omega)
    have hgl : w.grownBy (V.putObj Dm (.deferred none)) none := gr_ownF hG (grownBy_putObj' V Dm _) (fun k e => by have := HSS.out; cases e; omega)
    refine ⟨.slice A6 (spanK 0 L).length c6, by simp [results, Tryz.results49, go_sem], A6, c6, by rw [e1], hgl, ?_⟩
    rw [← e1] at h3
    refine ⟨_, h3, fun j M hM => ?_⟩
    have hj : j < (cutI L D).length := (List.getElem?_eq_some_iff.1 hM).1
    obtain ⟨z, hz⟩ : ∃ z, L[j]? = some z := ⟨_, List.getElem?_eq_getElem (by rw [cutI_len] at hj; exact hj)⟩
    obtain ⟨A', h1, h2, h4, h5, h6⟩ := sgV_intsR (w := w) (HD.out) hgl HOK.out HSM.out hz
    rw [hM] at h2
    cases h2
    refine ⟨A', ?_, h5, fun hp => h6 (by omega)⟩
    rw [List.getElem?_map, spanK_at L 0 j z hz, Option.map_some, Int.zero_add, h1, h4]
  case stop =>
    rintro D' pre V _ _ h _
    exact h.elim

set_option maxHeartbeats 1000000 in
theorem collectG_any (bl bd cl cd : Nat) (AL AD : Option Addr) (L D : List Int) (w : World) (hL : OwnR w 0 (.slice AL L.length cl) L) (hD : OwnR w 0 (.slice AD D.length cd) D) (hlen : L.length ≤ 400) (hok : okN 400 L = true) (hs : (D.length : Int) = sumI L)
    (hbl : w.heap[bl]? = some (.cells #[.slice AL L.length cl] 25 (0, 0))) (hbd : w.heap[bd]? = some (.cells #[.slice AD D.length cd] 25 (0, 0))) :
    Calls Tryz.prog 32 #[.func (.func 50) #[] #[.pointer (some ⟨bl, 0, none⟩), .pointer (some ⟨bd, 0, none⟩)]] w fun e w' =>
      ∃ A c, e = .returned (.slice A (cutI L D).length c) ∧ w.grownBy w' none ∧ CutG (cutI L D) w.heap.size A c w' := by
  have HS := Lib.hid (appseqG_any bl bd cl cd AL AD L D w hL hD hlen hok hs hbl hbd)
  obtain ⟨LL, hLL⟩ : ∃ LL, cutI L D = LL := ⟨_, rfl⟩
  rw [hLL] at HS ⊢
  have HG := Lib.hid (show ∀ A c w', CutG LL w.heap.size A c w' ↔ CutG LL w.heap.size A c w' from fun _ _ _ => Iff.rfl)
  generalize CutG LL w.heap.size = P at HS HG ⊢
  obtain ⟨n, hn⟩ : ∃ n, LL.length = n := ⟨_, rfl⟩
  rw [hn] at HS ⊢
  clear hL hD hlen hok hs hbl hbd hLL hn HG
  go_enter Tryz.func32, Tryz.ntmps32
  go_wp2_with fail
  refine HS.out.mono ?_
  rintro e w1 ⟨A, c, rfl, hg, hr⟩
  have HP := Lib.hid (And.intro hg hr)
  clear hg hr
  go_wp2_with fail
  go_ret
  exact ⟨A, c, rfl, HP.out.1, HP.out.2⟩
end

/- Grid -/
section
open Go.RowKit Go.Shelf

theorem cutI_rows : ∀ (R : List (List Int)), cutI (lensI R) R.flatten = R
  | [] => rfl
  | r :: R => by
    have h := cutI_rows R
    simp only [lensI, List.map_cons, cutI, List.flatten_cons, Int.toNat_natCast] at h ⊢
    rw [List.take_left' rfl, List.drop_left' rfl, h]

/-- LayOut of the program at depth two. -/
theorem layout_rows (s : ByteArray) (w : World) : Calls Tryz.prog 31 #[.string s, .int .i64 2] w fun e w' =>
    (isArr s 2 = false ∧ e = .returned (.tuple #[.agg #[.slice none 0 0, .slice none 0 0], .bool false]) ∧ w.grownBy w' none) ∨
    (isArr s 2 = true ∧ ∃ u, e = .returned (.tuple #[u, .bool true]) ∧ w.grownBy w' none ∧ OwnLyt w' w.heap.size u [[((rowsS s).length : Int)], lensI (rowsS s)] (rowsS s).flatten) := by
  refine (layout_impl s 2 w).mono ?_
  rintro e w' (h | ⟨hb, t, u, ht, rfl, hg, ho⟩)
  · exact .inl h
  · have e1 : rowsS s = rowsI t := by
      unfold rowsS
      rw [if_pos hb, show readN s 2 = some t from ht]
    rw [e1]
    have e2 := lv2 t
    have e3 := dat2 t
    have ho' : OwnLyt w' w.heap.size u (lv 2 [t]) (dat 2 [t]) := ho
    rw [e2, e3] at ho'
    exact .inr ⟨hb, u, rfl, hg, ho'⟩
/-- What a layout of rows looks like. -/
theorem lyt_open {w : World} {base n : Nat} {u : Value} {L D : List Int} (h : OwnLyt w base u [[(n : Int)], L] D) : ∃ g c B m d BL kl cl, u = .agg #[.slice (some ⟨g, 0, none⟩) 2 c, .slice B m d] ∧ m = D.length ∧ kl = L.length ∧
    w.cell? ⟨g, 1, none⟩ = some (.slice BL kl cl) ∧ OwnR w 0 (.slice BL L.length cl) L ∧ OwnR w 0 (.slice B D.length d) D := by
  obtain ⟨A, c, dv, vs, rfl, hc, ho, hf⟩ := h
  have hvl : vs.length = 2 := by have := ho.1; simp at this; omega
  obtain ⟨v1, hv1, h1⟩ := hf.1 1 L (by simp) rfl
  obtain ⟨v2, hv2, h2⟩ := hf.1 2 D (by simp) rfl
  rw [List.getElem?_append_left (by omega)] at hv1
  rw [List.getElem?_append_right (by omega), hvl] at hv2
  have hd : dv = v2 := by simpa using hv2
  subst hd
  obtain ⟨BL, cl, rfl, hcl, hoL⟩ := h1
  obtain ⟨B, d, rfl, hcd, hoD⟩ := h2
  have hlow : ∀ {v : Value} {M : List Int}, OwnR w base v M → OwnR w 0 v M := fun {v M} ⟨A, c, h1, h2, h3⟩ => ⟨A, c, h1, h2, fun hp => own_base (h3 hp) (Nat.zero_le _)⟩
  have hcells := fun g => ho.cells (g := g)
  rcases ho.2 with ⟨hv, hn⟩ | ⟨g, cap, cur, hv, _, hg, hnc, _⟩
  · simp at hn
  · cases hv
    exact ⟨g, c, B, D.length, d, BL, L.length, cl, rfl, rfl, rfl, hcells g rfl 1 _ hv1, hlow ⟨BL, cl, rfl, hcl, hoL⟩, hlow ⟨B, d, rfl, hcd, hoD⟩⟩

theorem ownR_grown {w w' : World} {base : Nat} {v : Value} {L : List Int} (h : OwnR w base v L) (hg : w.grownBy w' none) : OwnR w' base v L := by
  obtain ⟨A, c, h1, h2, h3⟩ := h
  exact ⟨A, c, h1, h2, fun hp => own_keep (h3 hp) (fun k hk => hg.block k ((h3 hp).lt k hk).2 (by simp))⟩
theorem CutG.keep {w w' : World} {R : List (List Int)} {base c : Nat} {A : Option Addr} {row : Option Nat} (h : CutG R base A c w) (hg : w.grownBy w' row) (hr : ∀ g, row = some g → g < base ∧ ∃ cs t fr, w.heap[g]? = some (.cells cs t fr) ∧ t ≠ 3) : CutG R base A c w' := by
  obtain ⟨vs, h1, h2⟩ := h
  refine ⟨vs, own_keep h1 (fun k hk => hg.block k (h1.lt k hk).2 (fun e => by have := (h1.lt k hk).1; have := (hr k e.symm).1; omega)), fun j M hM => ?_⟩
  obtain ⟨A', h3, h4, h5⟩ := h2 j M hM
  rcases Nat.eq_zero_or_pos M.length with h0 | hp
  · exact ⟨A', h3, fun hl => by omega, fun hl => by omega⟩
  · obtain ⟨b, off, xs, fr, rfl, hb⟩ := h5 hp
    have hne : some b ≠ row := fun e => by
      obtain ⟨_, cs, t, fr2, hb2, ht⟩ := hr b e.symm
      rw [hb] at hb2
      cases hb2
      exact ht rfl
    refine ⟨_, h3, h4.grown hg (fun b' off' e => by cases e; exact hne), fun _ => ⟨b, off, xs, fr, rfl, (hg.block b (Array.getElem?_eq_some_iff.1 hb).1 hne).trans hb⟩⟩
theorem CutG.grown {w w' : World} {R : List (List Int)} {base c : Nat} {A : Option Addr} (h : CutG R base A c w) (hg : w.grownBy w' none) : CutG R base A c w' := h.keep hg (fun g e => by cases e)
theorem CutG.low {w : World} {R : List (List Int)} {base base' c : Nat} {A : Option Addr} (h : CutG R base A c w) (hb : base' ≤ base) : CutG R base' A c w := by
  obtain ⟨vs, h1, h2⟩ := h
  exact ⟨vs, own_base h1 hb, h2⟩

/-- How readGrid ends. -/
def GridP (s : ByteArray) (w : World) (e : Ending) (w' : World) : Prop :=
  (isArr s 2 = false ∧ e = .returned (.tuple #[.agg #[.slice none 0 0, .int .i64 0], .bool false]) ∧ w.grownBy w' none) ∨
  (isArr s 2 = true ∧ ∃ A c, e = .returned (.tuple #[.agg #[.slice A (rowsS s).length c, .int .i64 (maxI (lensI (rowsS s)))], .bool true]) ∧ w.grownBy w' none ∧ CutG (rowsS s) w.heap.size A c w')

set_option maxRecDepth 100000 in
set_option maxHeartbeats 4000000 in
theorem grid_any (s : ByteArray) (w : World) : Calls Tryz.prog 21 #[.string s] w (GridP s w) := by
  have HL := Lib.hid (fun w => layout_rows s w)
  have hok := okR_rows s
  obtain ⟨R, hR⟩ : ∃ R, rowsS s = R := ⟨_, rfl⟩
  rw [hR] at HL hok
  have HLG := Lib.hid (fun v u h => longest_any v [[(R.length : Int)], lensI R] R.flatten u h (by simp) (fun M hM => by
    have h1 := hok.1
    rcases List.mem_cons.1 hM with h | h
    · subst h; simp
    · have : M = lensI R := by simpa using h
      rw [this, lens_len]; omega))
  have HCO := Lib.hid (fun bl bd cl cd AL AD u hL hD hbl hbd => collectG_any bl bd cl cd AL AD (lensI R) R.flatten u hL hD (by rw [lens_len]; exact hok.1) (lens_ok fun r hr => (hok.2 r hr).1) (sum_lens R).symm hbl hbd)
  rw [cutI_rows, lens_len] at HCO
  unfold GridP
  rw [hR]
  unfold LgP at HLG
  obtain ⟨k, hk⟩ : ∃ k, R.length = k := ⟨_, rfl⟩
  obtain ⟨b, hb⟩ : ∃ b, isArr s 2 = b := ⟨_, rfl⟩
  have HB := Lib.hid hb
  rw [hb] at HL
  clear hb
  cases b
  · clear HLG HCO
    have hr0 := Pr.new w 37 (.slice none 0 0) (.int .i64 0)
    have HR0 := Lib.hid hr0
    have HG0 := Lib.hid (World.grownBy_alloc w (.cells #[.slice none 0 0, .int .i64 0] 37) none)
    clear hr0 hk hok hR
    go_enter Tryz.func21, Tryz.ntmps21
    go_wp2_with fail
    refine (HL.out _).mono ?_
    rintro e w1 (⟨_, rfl, hg1⟩ | ⟨h, _⟩)
    · have HG1 := Lib.hid (HG0.out.trans (hg1.trans (World.grownBy_alloc w1 (.cells #[.slice none 0 0, .slice none 0 0] 59) none)))
      have HR1 := Lib.hid ((HR0.out.grown hg1 (by simp)).alloc (.cells #[.slice none 0 0, .slice none 0 0] 59))
      have r0 := HR1.out.c0
      have r1 := HR1.out.c1
      have r2 := HR1.out.f
      clear hg1
      go_wp2_with fail
      have T1 := (HR1.out.set0 (.slice none 0 0)).set1 (.int .i64 0)
      have q0 := T1.c0
      have q1 := T1.c1
      refine bodyPost_ret (v := .tuple #[.agg #[.slice none 0 0, .int .i64 0], .bool false]) (by simp [results, Tryz.results21, go_sem, q0, q1]) rfl ?_
      exact .inl ⟨HB.out, rfl, gr_ownF HG1.out ((gr_set _ w.heap.size 0 _).trans (gr_set _ w.heap.size 1 _)) (fun k hk => by cases hk; exact Nat.le_refl _)⟩
    · cases h
  · have HR0 := Lib.hid (Pr.new w 37 (.slice none 0 0) (.int .i64 0))
    have HG0 := Lib.hid (World.grownBy_alloc w (.cells #[.slice none 0 0, .int .i64 0] 37) none)
    have HK := Lib.hid hk
    clear hok hR hk
    go_enter Tryz.func21, Tryz.ntmps21
    go_wp2_with fail
    refine (HL.out _).mono ?_
    rintro e w1 (⟨h, _⟩ | ⟨_, u, rfl, hg1, ho1⟩)
    · cases h
    · obtain ⟨g, c, B, m, d, BL, kl, cl, rfl, hm, hkl, hcell, hoL, hoD⟩ := lyt_open (n := R.length) ho1
      rw [← hm] at hoD
      rw [← hkl] at hoL
      obtain rfl : kl = k := by rw [hkl, lens_len, HK.out]
      rw [HK.out] at HCO
      rw [← hm] at HCO
      have HLY := Lib.hid ho1.lyt
      have HOL := Lib.hid hoL
      have HOD := Lib.hid hoD
      have HMM := Lib.hid hm
      have HKL := Lib.hid hkl
      have HCL := Lib.hid hcell
      have HGL := Lib.hid hg1.size
      have HG1 := Lib.hid (HG0.out.trans hg1)
      have HR1 := Lib.hid ((HR0.out.grown hg1 (by simp)).alloc (.cells #[.slice (some ⟨g, 0, none⟩) 2 c, .slice B m d] 59))
      have HP1 := Lib.hid (Pr.new w1 59 (.slice (some ⟨g, 0, none⟩) 2 c) (.slice B m d))
      have HGB := Lib.hid (World.grownBy_alloc w1 (.cells #[.slice (some ⟨g, 0, none⟩) 2 c, .slice B m d] 59) none)
      clear hg1 ho1 hcell hoL hoD hm hkl
      go_wp2_with fail
      generalize w1.alloc (.cells #[.slice (some ⟨g, 0, none⟩) 2 c, .slice B m d] 59) = w2 at HR1 HP1 HGB ⊢
      have p0 := HP1.out.c0
      have p1 := HP1.out.c1
      have p2 := HGB.out.cell HCL.out (by simp)
      have HG2 := Lib.hid (HG1.out.trans HGB.out)
      go_region_law (first
        | (go_simp
           go_at_call 33
           refine (segsmakerY BL B kl cl m d _).mono ?_
           rintro e w3 ⟨rfl, hw3⟩
           have HG3 := Lib.hid (show w2.grownBy w3 none by rw [hw3]; exact ((gr_drewN w2 1 none).trans (World.grownBy_alloc _ _ none)).trans (World.grownBy_alloc _ _ none))
           have P3 := HP1.out.grown HG3.out (by simp)
           have c3 := P3.c0
           have c4 := P3.c1
           have c5 := HG3.out.cell p2 (by simp)
           have HC3 := Lib.hid (HCO.out w2.heap.size (w2.heap.size + 1) cl d BL B w3 (ownR_grown HOL.out (HGB.out.trans HG3.out)) (ownR_grown HOD.out (HGB.out.trans HG3.out))
             (by rw [hw3, Below.heap_alloc _ _ _ (by simp)]; exact heap_alloc_new w2.drew _) (by rw [hw3]; have h9 := heap_alloc_new (w2.drew.alloc (.cells #[.slice BL kl cl] 25)) (.cells #[.slice B m d] 25); rw [sz_alloc] at h9; exact h9))
           clear hw3)
        | (go_simp
           go_at_call 32
           refine HC3.out.mono ?_
           rintro e w4 ⟨A4, c4', rfl, hg4, hcg⟩
           have HG4 := Lib.hid (HG3.out.trans hg4)
           have P4 := HP1.out.grown HG4.out (by simp)
           have d3 := P4.c0
           have d4 := P4.c1
           have d5 := HG4.out.cell p2 (by simp)
           have HCG := Lib.hid hcg
           have HZ3 := Lib.hid HG3.out.size
           clear hg4 hcg)
        | (go_simp
           go_at_call 34
           refine (HLG.out _ w4 (HLY.out.grown (HGB.out.trans HG4.out))).mono ?_
           rintro e w5 ⟨x, y, z, he, rfl, hg5⟩
           have HX := Lib.hid he
           have HG5 := Lib.hid (HG4.out.trans hg5)
           have HCG5 := Lib.hid (HCG.out.grown hg5)
           have R5 := HR1.out.grown HG5.out (by simp)
           have s0 := R5.c0
           have s1 := R5.c1
           have s2 := R5.f
           have hix : ∀ u, (Instr.index 67 (.agg #[.int .i64 x, .int .i64 y, .int .i64 z]) (.int .i64 1)).run Tryz.prog u = .ok (.int .i64 y) u := fun u => by kernel_rfl
           clear he hg5))
      all_goals
        go_wp2_with fail
        have T1 := (R5.set0 (.slice A4 kl c4')).set1 (.int .i64 y)
        have q0 := T1.c0
        have q1 := T1.c1
        refine bodyPost_ret (v := .tuple #[.agg #[.slice A4 kl c4', .int .i64 y], .bool true]) (by simp [results, Tryz.results21, go_sem, q0, q1]) rfl ?_
        have hy : y = maxI (lensI R) := by
          have h9 := HX.out
          simp [pad3] at h9
          exact h9.2.1.symm
        have hgs := (gr_set w5 w.heap.size 0 (.slice A4 kl c4')).trans (gr_set (w5.setCell ⟨w.heap.size, 0, none⟩ (.slice A4 kl c4')) w.heap.size 1 (.int .i64 y))
        refine .inr ⟨HB.out, A4, c4', ?_, gr_ownF (HG2.out.trans HG5.out) hgs (fun k hk => by cases hk; exact Nat.le_refl _), ?_⟩
        · rw [hy, HK.out]
        · refine CutG.low (HCG5.out.keep hgs (fun g0 e => by
            cases e
            exact ⟨Nat.lt_of_lt_of_le HR0.out.lt (Nat.le_trans (Nat.le_trans HGL.out HGB.out.size) HZ3.out), _, _, _, R5, by decide⟩)) (Nat.le_trans HG2.out.size HZ3.out)
end

end Go.Proofs.YtachjodnhgmoiaaGreatDoor

/- 4 texts in one: FoldM FoldL FoldS FoldT. -/
import Derived.Test.YtbideeajdhejoaaFold
import Derived.Test.YtbideeajdhejoaaFam
import Derived.Test.YtbideeajdhejoaaSNd
import Derived.Deep.RegionLaw
import Derived.Deep.AppendLies
namespace Go.Proofs.Ytbideeajdhejoaa
/- FoldM -/
section
open Go.RowKit

/-- The folder's block: the layout's two slices, and the places. -/
def Fdr (w : World) (g : Nat) (x y : Value) (at_ : List Int) : Prop := w.heap[g]? = some (.cells (x :: y :: at_.map (Value.int .i64)).toArray 164 (0, 0))
section
variable {w w' : World} {g : Nat} {x y : Value} {at_ : List Int}
theorem Fdr.lt (h : Fdr w g x y at_) : g < w.heap.size := (Array.getElem?_eq_some_iff.1 h).1
theorem Fdr.c0 (h : Fdr w g x y at_) : w.cell? ⟨g, 0, none⟩ = some x := cell_of_row w g 0 _ _ (0, 0) h
theorem Fdr.c1 (h : Fdr w g x y at_) : w.cell? ⟨g, 1, none⟩ = some y := cell_of_row w g 1 _ _ (0, 0) h
theorem Fdr.plc (h : Fdr w g x y at_) {k : Nat} {z : Int} (hk : at_[k]? = some z) : w.cell? ⟨g, 2 + k, none⟩ = some (.int .i64 z) := by
  rw [cell_of_row w g (2 + k) _ _ (0, 0) h]
  have e : 2 + k = k + 1 + 1 := by omega
  rw [e]
  simp [hk]
theorem Fdr.f (h : Fdr w g x y at_) (i : Nat) : w.frozen? ⟨g, i, none⟩ = false := by
  unfold Fdr at h
  simp [World.frozen?, h]
theorem Fdr.set (h : Fdr w g x y at_) (k : Nat) (z : Int) : Fdr (w.setCell ⟨g, 2 + k, none⟩ (.int .i64 z)) g x y (at_.set k z) := by
  unfold Fdr at h ⊢
  have e : 2 + k = k + 1 + 1 := by omega
  simp [World.setCell, Array.getElem?_modify, h, e, List.map_set]
theorem Fdr.grown {row : Option Nat} (h : Fdr w g x y at_) (hg : w.grownBy w' row) (hne : some g ≠ row) : Fdr w' g x y at_ := (hg.block g h.lt hne).trans h
theorem Fdr.far (h : Fdr w g x y at_) {k i : Nat} (hk : g ≠ k) (u : Value) : Fdr (w.setCell ⟨k, i, none⟩ u) g x y at_ := (Below.heap_setCell _ _ _ _ hk).trans h
theorem Fdr.alloc (h : Fdr w g x y at_) (o : Obj) : Fdr (w.alloc o) g x y at_ := (Below.heap_alloc w o g h.lt).trans h
end

theorem gr_drewF (w : World) (row : Option Nat) : w.grownBy w.drew row := ⟨rfl, rfl, rfl, Nat.le_refl _, fun _ _ _ => rfl⟩

/-- How next ends. -/
def NextPost (LL : List (List Int)) (D : List Int) (d k j g : Nat) (x y : Value) (at_ : List Int) (w : World) (e : Ending) (w' : World) : Prop :=
  w.grownBy w' (some g) ∧ ∃ m sv b t, e = .returned (.agg #[.int .i64 m, sv]) ∧ (∃ A k c, sv = .slice A k c) ∧ (foldN d (LL.drop k) D)[j]? = some t ∧ SNd w' (fun b => w.heap.size ≤ b) d t (m, sv) ∧ Fdr w' g x y b ∧ Step LL k j at_ b

/-- next on a level, d levels above the numbers: of a layout that lies in an older world, wherever the places stand. -/
def NextAny (w0 : World) (g c e d : Nat) (A B : Option Addr) (LL : List (List Int)) (D : List Int) : Prop :=
  ∀ (k j : Nat) (at_ : List Int) (w : World), k + d = LL.length → w0.grownBy w none → Fdr w g (.slice A LL.length c) (.slice B D.length e) at_ → at_.length = 4 → at_[k]? = some (j : Int) → (∃ q, Fits q (LL.drop k) D ∧ j < q) → Cons LL k at_ →
    Calls Try.prog 137 #[.pointer (some ⟨g, 0, none⟩), .int .i64 (k : Int)] w (NextPost LL D d k j g (.slice A LL.length c) (.slice B D.length e) at_ w)

set_option maxRecDepth 100000 in
set_option maxHeartbeats 2000000 in
theorem next0 (g k j m c d : Nat) (A B : Option Addr) (LL : List (List Int)) (D at_ : List Int) (w : World) (hn : LL.length = k) (hm : D.length = m) (h : Fdr w g (.slice A k c) (.slice B m d) at_) (hI : Ints w B D) (hn3 : k ≤ 3) (ha : at_.length = 4) (hj : at_[k]? = some (j : Int)) (hjm : j < m) (hm1 : m ≤ 1048576) (hok : okN 10006 D = true) (hgb : ∀ b off, B = some ⟨b, off, none⟩ → b ≠ g) :
    Calls Try.prog 137 #[.pointer (some ⟨g, 0, none⟩), .int .i64 (k : Int)] w (NextPost LL D 0 k j g (.slice A k c) (.slice B m d) at_ w) := by
  have HF := Lib.hid h
  have hgw := h.lt
  have HJ := Lib.hid hj
  have HN := Lib.hid hn
  have HM := Lib.hid hm
  have HB := Lib.hid (begun w)
  have HF3 := Lib.hid ((HF.out.alloc (.cells #[.int .i64 0, .slice none 0 0] 123)).alloc (.cells #[] 123) |>.alloc (.cells #[.int .i64 0, .slice (some ⟨w.heap.size + 1, 0, none⟩) 0 0] 123))
  clear h hj hn hm
  have hkb : (k : Int) < 4 := by omega
  go_enter Try.func137, Try.ntmps137
  have cp := HF3.out.plc HJ.out
  have c0 := HF3.out.c0
  have c1 := HF3.out.c1
  have fp := HF3.out.f (2 + k)
  go_wp2_with fail
  generalize ((w.alloc (.cells #[.int .i64 0, .slice none 0 0] 123)).alloc (.cells #[] 123)).alloc (.cells #[.int .i64 0, .slice (some ⟨w.heap.size + 1, 0, none⟩) 0 0] 123) = w3 at HB HF3 cp c0 c1 fp ⊢
  go_region
  have hF5 : Fdr (w3.setCell ⟨g, 2 + k, none⟩ (.int .i64 ((j : Int) + 1))).drew g (.slice A k c) (.slice B m d) (at_.set k ((j : Int) + 1)) := HF3.out.set k _
  have hR5 : Two (w3.setCell ⟨g, 2 + k, none⟩ (.int .i64 ((j : Int) + 1))).drew w.heap.size (.int .i64 0) (.slice none 0 0) := HB.out.res.far (by omega) _
  have hO5 : Two (w3.setCell ⟨g, 2 + k, none⟩ (.int .i64 ((j : Int) + 1))).drew (w.heap.size + 1 + 1) (.int .i64 0) (.slice (some ⟨w.heap.size + 1, 0, none⟩) 0 0) := HB.out.out.far (by omega) _
  have hG5 : w3.grownBy (w3.setCell ⟨g, 2 + k, none⟩ (.int .i64 ((j : Int) + 1))).drew (some g) := (gr_set w3 g (2 + k) (.int .i64 ((j : Int) + 1))).trans (gr_drewF _ _)
  generalize (w3.setCell ⟨g, 2 + k, none⟩ (.int .i64 ((j : Int) + 1))).drew = w5 at hF5 hR5 hO5 hG5 ⊢
  have HF5 := Lib.hid hF5
  have HR5 := Lib.hid hR5
  have HO5 := Lib.hid hO5
  have HG5 := Lib.hid hG5
  have hG3 : w.grownBy w5 (some g) := gr_some HB.out.gr hG5
  obtain ⟨b, off, rfl, hb, hcc⟩ := hI (by rw [HM.out]; omega)
  obtain ⟨z, hz⟩ : ∃ z, D[j]? = some z := ⟨_, List.getElem?_eq_getElem (by have := HM.out; omega)⟩
  have hzz := okN_at hz hok
  have hcell : w5.cell? ⟨b, off + j, none⟩ = some (.int .i64 z) := hG3.cell (hcc j z hz) (by have := hgb b off rfl; simpa using this)
  have HZ := Lib.hid hz
  have HG3 := Lib.hid hG3
  have o0 := hO5.c0
  have o1 := hO5.c1
  have r0 := hR5.c0
  have r1 := hR5.c1
  have f0 := hR5.f 0
  have f1 := hR5.f 1
  have f2 := hO5.f 0
  have d0 := hF5.c0
  have d1 := hF5.c1
  clear hF5 hR5 hO5 hG5 hG3 hz hcc cp c0 c1 fp
  go_wp2_with fail
  refine bodyPost_ret (v := .agg #[.int .i64 z, .slice (some ⟨w.heap.size + 1, 0, none⟩) 0 0]) (by simp [results, Try.results137, go_sem, r0, r1]) rfl ?_
  refine ⟨gr_set_row (gr_set_row (gr_set_row HG3.out (by omega) _) (Nat.le_refl _) _) (Nat.le_refl _) _, z, _, _, (z.toNat : Nat), rfl, ⟨_, _, _, rfl⟩, ?_, ⟨?_, ?_, _, _, _, rfl⟩, ((HF5.out.far (by omega) _).far (by omega) _).far (by omega) _, ?_, ?_, ?_, ?_⟩
  · show (D.map Int.toNat : List Nat)[j]? = some z.toNat
    rw [List.getElem?_map, HZ.out]
    rfl
  · show z = ((z.toNat : Nat) : Int)
    omega
  · show z.toNat < 10007
    omega
  · exact List.length_set
  · intro i hi
    exact List.getElem?_set_ne (by omega)
  · rw [List.getElem?_set_self (by omega)]
    simp
  · intro i L hi hL
    have := (List.getElem?_eq_some_iff.1 hL).1
    have := HN.out
    omega

theorem next_zero {w0 : World} {g c e : Nat} {A B : Option Addr} {LL : List (List Int)} {D : List Int} (hI : Ints w0 B D) (hg : w0.heap.size ≤ g) (hn3 : LL.length ≤ 3) (hm1 : D.length ≤ 1048576) : NextAny w0 g c e 0 A B LL D := fun k j at_ w hk hw hf ha hj ⟨q, hq, hjq⟩ _ => by
  obtain rfl : k = LL.length := by omega
  rw [List.drop_length] at hq
  have h1 := hq.1
  have hb : ∀ b off, B = some ⟨b, off, none⟩ → b ≠ g := fun b off hb => by
    obtain ⟨b', off', h2, h3, _⟩ := hI (by omega)
    rw [h2] at hb
    cases hb
    omega
  exact next0 g LL.length j D.length c e A B LL D at_ w rfl rfl hf (hI.grown hw (by simp)) hn3 ha hj (by omega) hm1 hq.2 hb
end

/- FoldL -/
section
open Go.RowKit

/-- What holds of the memory while next gathers parts. -/
structure FLf (g : Nat) (w wr : World) (sv : Value) (xs : List (Int × Value)) : Prop where
  gr : w.grownBy wr (some g)
  size : w.heap.size + 3 ≤ wr.heap.size
  res : Two wr w.heap.size (.int .i64 0) (.slice none 0 0)
  out : Two wr (w.heap.size + 1 + 1) (.int .i64 0) sv
  own : wr.ownsRow w.heap.size 123 2 sv xs.length (flat2 xs)
  ne0 : sv.ownBlock ≠ some w.heap.size
  ne2 : sv.ownBlock ≠ some (w.heap.size + 1 + 1)

section
variable {d g : Nat} {w wr : World} {sv : Value} {ts : List (T d)} {xs : List (Int × Value)}

theorem FLf.drewN (h : FLf g w wr sv xs) (n : Nat) : FLf g w (wr.drewN n) sv xs :=
  ⟨h.gr.trans (gr_drewN _ _ _), h.size, h.res.drewN n, h.out.drewN n, own_keep h.own (fun _ _ => rfl), h.ne0, h.ne2⟩

theorem FLf.step (h : FLf g w wr sv xs) {m : Int} {v : Value} {we w2 : World} {gg cap : Nat} {o : Obj} (hge : wr.grownBy we (some g))
    (hown : w2.ownsRow w.heap.size 123 2 (.slice (some ⟨gg, 0, none⟩) (xs.length + 1) cap) (xs.length + 1) (flat2 xs ++ [.int .i64 m, v])) (hg2 : (we.alloc o).grownBy w2 sv.ownBlock)
    (hat : sv.ownBlock = some gg ∨ gg = we.heap.size + 1) (hgw : g < w.heap.size) :
    FLf g w (w2.setCell ⟨w.heap.size + 1 + 1, 1, none⟩ (.slice (some ⟨gg, 0, none⟩) (xs.length + 1) cap)) (.slice (some ⟨gg, 0, none⟩) (xs.length + 1) cap) (xs ++ [(m, v)]) := by
  have hsz : (we.alloc o).heap.size = we.heap.size + 1 := by simp
  have hsw := h.gr.size
  have hse := hge.size
  have hs2 := hg2.size
  have hs3 := h.size
  have hlt := h.own.lt
  have hga : we.grownBy (we.alloc o) (some g) := World.grownBy_alloc _ _ _
  have hgg : gg ≠ w.heap.size ∧ gg ≠ w.heap.size + 1 + 1 ∧ w.heap.size ≤ gg := by
    rcases hat with e | e
    · exact ⟨fun e2 => h.ne0 (by rw [e, e2]), fun e2 => h.ne2 (by rw [e, e2]), (hlt gg e).1⟩
    · exact ⟨by omega, by omega, by omega⟩
  have h1 := h.gr.trans (hge.trans hga)
  have hg3 : w.grownBy w2 (some g) := ⟨hg2.os.trans h1.os, hg2.tape.trans h1.tape, hg2.output.trans h1.output, Nat.le_trans h1.size hg2.size, fun k hk hne =>
    (hg2.block k (Nat.lt_of_lt_of_le hk h1.size) (fun e => by have := (hlt k e.symm).1; omega)).trans (h1.block k hk hne)⟩
  refine ⟨gr_set_row hg3 (by omega) _, by have := (gr_set w2 (w.heap.size + 1 + 1) 1 (.slice (some ⟨gg, 0, none⟩) (xs.length + 1) cap)).size; omega, ?_, ?_, ?_, ?_, ?_⟩
  · exact (((h.res.grown hge (by simp; omega)).alloc o).grown hg2 (fun e => h.ne0 e.symm)).far (by omega) _
  · exact (((h.out.grown hge (by simp; omega)).alloc o).grown hg2 (fun e => h.ne2 e.symm)).set1 _
  · rw [flat2_snoc, List.length_append]
    exact own_keep hown (fun k hk => Below.heap_setCell _ _ _ _ (by simp [Value.ownBlock] at hk; subst hk; exact hgg.2.1))
  · simpa [Value.ownBlock] using hgg.1
  · simpa [Value.ownBlock] using hgg.2.1

theorem FLf.step_all (h : FLf g w wr sv xs) (hall : All2 (SNd wr (fun b => w.heap.size + 3 ≤ b ∧ sv.ownBlock ≠ some b) d) ts xs) {m : Int} {v : Value} {t : T d} {we w2 : World} {gg cap : Nat} {o : Obj}
    (hge : wr.grownBy we (some g)) (hnd : SNd we (fun b => wr.heap.size ≤ b) d t (m, v)) (hg2 : (we.alloc o).grownBy w2 sv.ownBlock)
    (hat : sv.ownBlock = some gg ∨ gg = we.heap.size + 1) (hgw : g < w.heap.size) :
    All2 (SNd (w2.setCell ⟨w.heap.size + 1 + 1, 1, none⟩ (.slice (some ⟨gg, 0, none⟩) (xs.length + 1) cap)) (fun b => w.heap.size + 3 ≤ b ∧ (Value.slice (some ⟨gg, 0, none⟩) (xs.length + 1) cap).ownBlock ≠ some b) d) (ts ++ [t]) (xs ++ [(m, v)]) := by
  have hsz : (we.alloc o).heap.size = we.heap.size + 1 := by simp
  have hsw := h.gr.size
  have hse := hge.size
  have hs3 := h.size
  have hlt := h.own.lt
  have hga : we.grownBy (we.alloc o) (some g) := World.grownBy_alloc _ _ _
  have hne : ∀ b, sv.ownBlock ≠ some b → b < we.heap.size → (Value.slice (some ⟨gg, 0, none⟩) (xs.length + 1) cap).ownBlock ≠ some b := by
    intro b hb hb2 e
    simp only [Value.ownBlock, Option.some.injEq] at e
    rcases hat with e2 | e2
    · exact hb (e2.trans (by rw [e]))
    · omega
  have hset : ∀ b, w.heap.size + 3 ≤ b → (w2.setCell ⟨w.heap.size + 1 + 1, 1, none⟩ (.slice (some ⟨gg, 0, none⟩) (xs.length + 1) cap)).heap[b]? = w2.heap[b]? := fun b hb => Below.heap_setCell _ _ _ _ (by show b ≠ w.heap.size + 1 + 1; omega)
  refine All2.snoc ?_ ts xs ?_
  · refine SNd.keep ?_ ?_ d t (m, v) hnd
    · intro b hb hb2
      rw [hset b (by omega), hg2.block b (by omega) (fun e => by have := (hlt b e.symm).2; omega), hga.block b (by omega) (by simp; omega)]
    · intro b hb hb2
      exact ⟨by omega, hne b (fun e => by have := (hlt b e).2; omega) hb2⟩
  · refine All2.mono (SNd.keep ?_ ?_ d) ts xs hall
    · rintro b ⟨hb1, hb2⟩ hb
      rw [hset b hb1, hg2.block b (by omega) (fun e => hb2 e.symm), hga.block b (by omega) (by simp; omega), hge.block b hb (by simp; omega)]
    · rintro b ⟨hb1, hb2⟩ hb
      exact ⟨hb1, hne b hb2 (by omega)⟩
end

/-- What holds at a round's head: q parts of the array are there. -/
structure FInv (LL : List (List Int)) (g : Nat) (x y : Value) (d k j s q : Nat) (at_ : List Int) (ts : List (T d)) (w wr : World) (sv : Value) (xs : List (Int × Value)) (b : List Int) : Prop where
  lf : FLf g w wr sv xs
  len : xs.length = q
  all : All2 (SNd wr (fun b => w.heap.size + 3 ≤ b ∧ sv.ownBlock ≠ some b) d) (ts.take q) xs
  fd : Fdr wr g x y b
  bl : b.length = 4
  low : ∀ i, i < k → b[i]? = at_[i]?
  here : b[k]? = some ((j + 1 : Nat) : Int)
  next : b[k + 1]? = some ((s + q : Nat) : Int)
  con : Cons LL (k + 1) b

section
variable {LL : List (List Int)} {D : List Int} {g : Nat} {x y : Value} {d k j s q : Nat} {at_ b : List Int} {ts : List (T d)} {w wr : World} {sv : Value} {xs : List (Int × Value)}

theorem finv_start {w3 w5 : World} {L : List Int} (hb : Begun w w3) (hG : w3.grownBy w5 (some g)) (hR : Two w5 w.heap.size (.int .i64 0) (.slice none 0 0)) (hO : Two w5 (w.heap.size + 1 + 1) (.int .i64 0) (.slice (some ⟨w.heap.size + 1, 0, none⟩) 0 0)) (hF : Fdr w5 g x y (at_.set k ((j : Int) + 1))) (hgw : g < w.heap.size)
    (ha : at_.length = 4) (hk : k < 3) (hc : Cons LL k at_) (hL : LL[k]? = some L) (hj : at_[k]? = some (j : Int)) (hs : (s : Int) = sumI (L.take j)) : FInv LL g x y d k j s 0 at_ ts w w5 (.slice (some ⟨w.heap.size + 1, 0, none⟩) 0 0) [] (at_.set k ((j : Int) + 1)) := by
  have hn1 : at_[k + 1]? = some (s : Int) := by
    obtain ⟨j', h1, h2⟩ := hc k L (Nat.le_refl _) hL
    rw [hj] at h1
    simp only [Option.some.injEq, Int.natCast_inj] at h1
    subst h1
    rw [h2, hs]
  refine ⟨⟨gr_some hb.gr hG, by have := hb.size; have := hG.size; omega, hR, hO, own_keep hb.own (fun k' hk' => ?_), by simp [Value.ownBlock], by simp [Value.ownBlock]⟩, rfl, ?_, hF, by rw [List.length_set]; exact ha, fun i hi => List.getElem?_set_ne (by omega), ?_, ?_, hc.up.set (by omega) _⟩
  · have h1 := hb.own.lt k' hk'
    exact hG.block k' h1.2 (by simp; omega)
  · rw [List.take_zero]
    trivial
  · rw [List.getElem?_set_self (by omega)]
    simp
  · rw [List.getElem?_set_ne (by omega), hn1]
    simp

theorem finv_step (h : FInv LL g x y d k j s q at_ ts w wr sv xs b) {m : Int} {v : Value} {t : T d} {we w2 : World} {gg cap : Nat} {o : Obj} {b2 : List Int} (ht : ts[q]? = some t)
    (hge : wr.grownBy we (some g)) (hnd : SNd we (fun b => wr.heap.size ≤ b) d t (m, v)) (hfd : Fdr we g x y b2) (hst : Step LL (k + 1) (s + q) b b2)
    (hown : w2.ownsRow w.heap.size 123 2 (.slice (some ⟨gg, 0, none⟩) (xs.length + 1) cap) (xs.length + 1) (flat2 xs ++ [.int .i64 m, v])) (hg2 : (we.alloc o).grownBy w2 sv.ownBlock)
    (hat : sv.ownBlock = some gg ∨ gg = we.heap.size + 1) (hgw : g < w.heap.size) :
    FInv LL g x y d k j s (q + 1) at_ ts w (w2.setCell ⟨w.heap.size + 1 + 1, 1, none⟩ (.slice (some ⟨gg, 0, none⟩) (xs.length + 1) cap)) (.slice (some ⟨gg, 0, none⟩) (xs.length + 1) cap) (xs ++ [(m, v)]) b2 := by
  obtain ⟨h1, h2, h3, h4⟩ := hst
  refine ⟨h.lf.step hge hown hg2 hat hgw, by rw [List.length_append, h.len]; rfl, ?_, ?_, h1.trans h.bl, fun i hi => (h2 i (by omega)).trans (h.low i hi), (h2 k (by omega)).trans h.here, h3, h4⟩
  · rw [List.take_add_one, ht]
    exact h.lf.step_all h.all hge hnd hg2 hat hgw
  · exact ((hfd.alloc o).grown hg2 (fun e => by have := (h.lf.own.lt g e.symm).1; omega)).far (by omega) _

theorem finv_end {L : List Int} {z : Int} (h : FInv LL g x y d k j s q at_ ts w wr sv xs b) (hq : (q : Int) = z) (hL : LL[k]? = some L) (hz : L[j]? = some z) (hok : okN 400 L = true) (hs : (s : Int) = sumI (L.take j)) (hts : ts = ((foldN d (LL.drop (k + 1)) D).drop (sumI (L.take j)).toNat).take z.toNat) (ha : at_.length = 4) (hgw : g < w.heap.size) :
    NextPost LL D (d + 1) k j g x y at_ w (.returned (.agg #[.int .i64 0, sv])) (laidOut' w wr sv) := by
  have hl := h.lf.own.lt
  have hrow : ∀ k, sv.ownBlock = some k → w.heap.size < k := fun k hk => by
    have := (hl k hk).1
    have : k ≠ w.heap.size := fun e => h.lf.ne0 (by rw [hk, e])
    omega
  have hat : (foldN (d + 1) (LL.drop k) D)[j]? = some ts := by
    rw [drop_at hL, hts]
    exact foldN_at hz hok
  have htq : ts.take q = ts := List.take_of_length_le (by rw [hts, List.length_take]; omega)
  have hall := h.all
  rw [htq] at hall
  refine ⟨gr_set_row (gr_set_row h.lf.gr (Nat.le_refl _) _) (Nat.le_refl _) _, 0, sv, b, ts, rfl, own_form h.lf.own, hat, ⟨xs, own_base (own_keep h.lf.own (fun k hk => laid_heap w wr sv k (by have := hrow k hk; omega))) (Nat.zero_le _), fun k hk => (hl k hk).1, ?_⟩, (h.fd.far (by omega) _).far (by omega) _, h.bl.trans ha.symm, h.low, h.here, ?_⟩
  · exact All2.mono (SNd.keep (fun b hb hb2 => laid_heap w wr sv b (by omega)) (fun b hb _ => by omega) d) ts xs hall
  · refine h.con.down hL h.here ?_
    rw [h.next, sumI_step hz]
    congr 1
    omega
end

theorem gr_base {w0 w w' : World} {g : Nat} (h : w0.grownBy w none) (h2 : w.grownBy w' (some g)) (hg : w0.heap.size ≤ g) : w0.grownBy w' none :=
  ⟨h2.os.trans h.os, h2.tape.trans h.tape, h2.output.trans h.output, Nat.le_trans h.size h2.size, fun k hk _ => (h2.block k (Nat.lt_of_lt_of_le hk h.size) (by simp; omega)).trans (h.block k hk (by simp))⟩
end

/- FoldS -/
section
open Go.RowKit

set_option maxRecDepth 100000 in
set_option maxHeartbeats 1000000 in
theorem next_succ {w0 : World} {g c e d : Nat} {A B : Option Addr} {LL : List (List Int)} {D : List Int} (hA : Rws w0 A LL) (hg0 : w0.heap.size ≤ g) (hn3 : LL.length ≤ 3) (hsz : ∀ M ∈ LL, M.length ≤ 1048576) (ih : NextAny w0 g c e d A B LL D) : NextAny w0 g c e (d + 1) A B LL D := fun k j at_ w hk hw hf ha hj ⟨cN, hfit, hjc⟩ hcon => by
  obtain ⟨i0, hi0, hz0, hz1, hz2⟩ := info_parts infoN
  obtain ⟨L, hL⟩ : ∃ L, LL[k]? = some L := ⟨_, List.getElem?_eq_getElem (by omega)⟩
  rw [drop_at hL] at hfit
  obtain ⟨hlen, hok, hfit2⟩ := hfit
  obtain ⟨z, hz⟩ : ∃ z, L[j]? = some z := ⟨_, List.getElem?_eq_getElem (by omega)⟩
  have hzz := okN_at hz hok
  obtain ⟨s, hs⟩ : ∃ s : Nat, (s : Int) = sumI (L.take j) := ⟨(sumI (L.take j)).toNat, by have := (sumI_bound (okN_take hok j)).1; omega⟩
  obtain ⟨ts, hts⟩ : ∃ ts : List (T d), ts = ((foldN d (LL.drop (k + 1)) D).drop (sumI (L.take j)).toNat).take z.toNat := ⟨_, rfl⟩
  have hall : (foldN d (LL.drop (k + 1)) D).length = (sumI L).toNat := foldN_len d _ _ _ (by rw [List.length_drop]; omega) hfit2
  have hsum : sumI (L.take j) + z ≤ sumI L := by
    have h1 := sumI_step hz
    have h3 := sumI_bound (okN_drop hok (j + 1))
    have e : sumI L = sumI (L.take (j + 1)) + sumI (L.drop (j + 1)) := by rw [← sumI_append, List.take_append_drop]
    omega
  have hpart : ∀ q : Nat, (q : Int) < z → ∃ t, (foldN d (LL.drop (k + 1)) D)[s + q]? = some t ∧ ts[q]? = some t ∧ s + q < (sumI L).toNat := fun q hq => by
    have hlt : s + q < (foldN d (LL.drop (k + 1)) D).length := by omega
    refine ⟨_, List.getElem?_eq_getElem hlt, ?_, by omega⟩
    rw [hts, List.getElem?_take, if_pos (by omega), List.getElem?_drop, ← hs, Int.toNat_natCast]
    exact List.getElem?_eq_getElem hlt
  obtain ⟨n, hn⟩ : ∃ n, LL.length = n := ⟨_, rfl⟩
  obtain ⟨m, hm⟩ : ∃ m, D.length = m := ⟨_, rfl⟩
  have HI := Lib.hid ih
  have HP := Lib.hid hpart
  have HF := Lib.hid hf
  have hgw := hf.lt
  have HJ := Lib.hid hj
  have HN := Lib.hid hn
  have HB := Lib.hid (begun w)
  have HEND := Lib.hid (fun (q : Nat) (wr : World) (sv : Value) (xs : List (Int × Value)) (b : List Int) (h : FInv LL g (.slice A LL.length c) (.slice B D.length e) d k j s q at_ ts w wr sv xs b) (hq : (q : Int) = z) => finv_end (D := D) h hq hL hz hok hs hts ha hgw)
  have HST := Lib.hid (fun (w3 w5 : World) (hb : Begun w w3) (hG : w3.grownBy w5 (some g)) (hR : Two w5 w.heap.size (.int .i64 0) (.slice none 0 0)) (hO : Two w5 (w.heap.size + 1 + 1) (.int .i64 0) (.slice (some ⟨w.heap.size + 1, 0, none⟩) 0 0)) (hF : Fdr w5 g (.slice A LL.length c) (.slice B D.length e) (at_.set k ((j : Int) + 1))) => finv_start (d := d) (ts := ts) hb hG hR hO hF hgw ha (by omega) hcon hL hj hs)
  have HW := Lib.hid hw
  have HFIT := Lib.hid hfit2
  have HZ := Lib.hid hz
  obtain ⟨b0, off, rfl, hbl, hcc⟩ := hA (by omega)
  obtain ⟨B2, c2, hc0, hlc, hint⟩ := hcc k L hL
  obtain ⟨b2, off2, rfl, hbl2, hcc2⟩ := hint (by omega)
  have HC0 := Lib.hid hc0
  have HC2 := Lib.hid (hcc2 j z hz)
  have hkn : k < n := by omega
  have hn4 : n ≤ 3 := by omega
  have hk1 : k + 1 + d = n := by omega
  obtain ⟨l, hl⟩ : ∃ l, L.length = l := ⟨_, rfl⟩
  have hjl : j < l := by omega
  have hl1 : l ≤ 1048576 := by rw [← hl]; exact hsz L (List.mem_of_getElem? hL)
  rw [hl] at HC0 hlc
  rw [hn, hm] at HEND HST HF ⊢
  have HF3 := Lib.hid ((HF.out.alloc (.cells #[.int .i64 0, .slice none 0 0] 123)).alloc (.cells #[] 123) |>.alloc (.cells #[.int .i64 0, .slice (some ⟨w.heap.size + 1, 0, none⟩) 0 0] 123))
  have HMM := Lib.hid hm
  clear hA hL hz hcc hcc2 hc0 hint hlen hok hfit2 hs hts hall hsum hpart hj hcon hf hw hn hm hl ih hk hsz hn3 hjc ha
  have hkb : (k : Int) < 4 := by omega
  have hne : ((k : Int) == (n : Int)) = false := by rw [beq_eq_false_iff_ne]; omega
  go_enter Try.func137, Try.ntmps137
  have cp := HF3.out.plc HJ.out
  have c0 := HF3.out.c0
  have c1 := HF3.out.c1
  have fp := HF3.out.f (2 + k)
  go_wp2_with fail
  generalize ((w.alloc (.cells #[.int .i64 0, .slice none 0 0] 123)).alloc (.cells #[] 123)).alloc (.cells #[.int .i64 0, .slice (some ⟨w.heap.size + 1, 0, none⟩) 0 0] 123) = w3 at HB HF3 cp c0 c1 fp ⊢
  go_region
  have hF5 := HF3.out.set k ((j : Int) + 1)
  have hR5 : Two (w3.setCell ⟨g, 2 + k, none⟩ (.int .i64 ((j : Int) + 1))).drew w.heap.size (.int .i64 0) (.slice none 0 0) := HB.out.res.far (by omega) _
  have hO5 : Two (w3.setCell ⟨g, 2 + k, none⟩ (.int .i64 ((j : Int) + 1))).drew (w.heap.size + 1 + 1) (.int .i64 0) (.slice (some ⟨w.heap.size + 1, 0, none⟩) 0 0) := HB.out.out.far (by omega) _
  have hG5 : w3.grownBy (w3.setCell ⟨g, 2 + k, none⟩ (.int .i64 ((j : Int) + 1))).drew (some g) := (gr_set w3 g (2 + k) (.int .i64 ((j : Int) + 1))).trans (gr_drewF _ _)
  have HS5 := Lib.hid (HST.out _ _ HB.out hG5 hR5 hO5 hF5)
  generalize (w3.setCell ⟨g, 2 + k, none⟩ (.int .i64 ((j : Int) + 1))).drew = w5 at hF5 hR5 hO5 hG5 HS5 ⊢
  have hW5 : w0.grownBy w5 none := gr_base (HW.out.trans HB.out.gr) hG5 hg0
  have d0 := HS5.out.fd.c0
  have hcell := hW5.cell HC0.out (by simp)
  have hcell2 := hW5.cell HC2.out (by simp)
  clear hF5 hR5 hO5 hG5 cp c0 c1 fp HB HF3 HST
  go_wp2_with fail
  go_loopw [54] (fun i wr => ∃ (q : Nat) (sv : Value) (xs : List (Int × Value)) (b : List Int), (q : Int) ≤ z ∧ i = .int .i64 q ∧ Hid (FInv LL g (.slice (some ⟨b0, off, none⟩) n c) (.slice B m e) d k j s q at_ ts w wr sv xs b)) (fun i _ => z.toNat - (intOf i).toNat)
  case atStart => exact ⟨0, _, _, _, by omega, rfl, HS5⟩
  case round =>
    clear HS5 d0 hcell hcell2 hW5
    obtain ⟨q, sv, xs, b, hq, rfl, hinv⟩ := hrel
    obtain ⟨A1, k1, c1, rfl⟩ := own_form hinv.out.lf.own
    have hlen := hinv.out.len
    have h3 := hinv.out.lf.size
    by_cases hlt : (q : Int) < z
    · obtain ⟨t, ht1, ht2, hsq⟩ := HP.out q hlt
      have HT1 := Lib.hid ht1
      have HT2 := Lib.hid ht2
      have HC := Lib.hid (HI.out (k + 1) (s + q) b wr.drew (by rw [HN.out]; omega) ((gr_base HW.out hinv.out.lf.gr hg0).trans (gr_drewF _ _)) (by rw [HN.out, HMM.out]; exact hinv.out.fd) hinv.out.bl hinv.out.next ⟨_, HFIT.out, hsq⟩ hinv.out.con)
      simp only [Int.natCast_add, Int.natCast_one] at HC
      rw [HN.out, HMM.out] at HC
      have v1 := hinv.out.lf.out.c1
      have wn : IntKind.i64.wrap ((k : Int) + 1) = (k : Int) + 1 := IntWalk.i64_in _ (by omega)
      clear ht1 ht2 hsq
      go_wp2_with fail
      go_region_law (first
        | (refine step_append_lies _ (by rfl) _ _ _ (by rfl) w.heap.size 123 i0 _ 2 32 Try.underlying121 hi0 hz0 hz1 hz2 rfl (by omega) _ xs.length (flat2 xs) (by rfl) own8 ⟨w9.heap.size, 0, none⟩ 1 1 [.int .i64 m9, .slice A9 k9 c9] (by rfl) (by rfl) (World.news_of_block (cs := #[.int .i64 m9, .slice A9 k9 c9]) (t := 123) (fr := (0, 0)) (heap_alloc_new w9 _)) (by simp [Value.oneCell']) (by omega) (by simp [maxLen]; omega) (by omega) (by simp; omega) (w9.heap.size + 1) (by simp) ?_
           intro gx cax w10 hown10 hg10 hat10 hlt10
           have t10 := ((hinv.out.lf.out.grown HG9.out (by simp; omega)).alloc (.cells #[.int .i64 m9, .slice A9 k9 c9] 123)).grown hg10 (fun e => hinv.out.lf.ne2 e.symm)
           have o10 := t10.c1
           have f10 := t10.f 1
           have HO10 := Lib.hid hown10
           have HG10 := Lib.hid hg10
           have HA10 := Lib.hid hat10
           clear hown10 hg10 hat10 hlt10 t10)
        | (go_simp
           go_at_call 137
           refine HC.out.mono ?_
           rintro e w9 ⟨hg9, m9, v9, b9, t9, rfl, ⟨A9, k9, c9, rfl⟩, ht9, hnd9, hfd9, hst9⟩
           have HG9 := Lib.hid ((gr_drewF wr _).trans hg9)
           have hb9 := HG9.out.size
           have o9 := (hinv.out.lf.out.grown HG9.out (by simp; omega)).c1
           have o9b := ((hinv.out.lf.out.grown HG9.out (by simp; omega)).alloc (.cells #[.int .i64 m9, .slice A9 k9 c9] 123)).c1
           have own8 := (own_keep hinv.out.lf.own (fun k' hk' => HG9.out.block k' (hinv.out.lf.own.lt k' hk').2 (fun e => by have := (hinv.out.lf.own.lt k' hk').1; simp at e; omega))).alloc (.cells #[.int .i64 m9, .slice A9 k9 c9] 123)
           have HT9 := Lib.hid ht9
           have HN9 := Lib.hid hnd9
           have HF9 := Lib.hid hfd9
           have HS9 := Lib.hid hst9
           clear hg9 ht9 hnd9 hfd9 hst9))
      all_goals
        obtain rfl : t = t9 := Option.some.inj (HT1.out.symm.trans HT9.out)
        have hS := finv_step hinv.out HT2.out HG9.out HN9.out HF9.out HS9.out HO10.out HG10.out HA10.out hgw
        rw [hlen] at hS
        have HS := Lib.hid hS
        clear hS HO10 HG10 HA10 v1 o9 o9b o10 f10 own8 HT9 HN9 HF9 HS9
        go_wp2_with fail
        go_roundw
        case rel => exact ⟨q + 1, _, _, _, by omega, by go_num, HS⟩
        case measure => simp [intOf]; omega
    · have hqz : (q : Int) = z := by omega
      have HE2 := Lib.hid (HEND.out _ _ _ _ _ hinv.out hqz)
      have r0 := hinv.out.lf.res.c0
      have r1 := hinv.out.lf.res.c1
      have u0 := hinv.out.lf.out.c0
      have u1 := hinv.out.lf.out.c1
      have f0 := hinv.out.lf.res.f 0
      have f1 := hinv.out.lf.res.f 1
      go_wp2_with fail
      refine bodyPost_ret (v := .agg #[.int .i64 0, .slice A1 k1 c1]) (by simp [results, Try.results137, go_sem, r0, r1]) rfl ?_
      exact HE2.out

theorem next_any {w0 : World} {g c e : Nat} {A B : Option Addr} {LL : List (List Int)} {D : List Int} (hA : Rws w0 A LL) (hI : Ints w0 B D) (hg : w0.heap.size ≤ g) (hn3 : LL.length ≤ 3) (hm1 : D.length ≤ 1048576) (hsz : ∀ M ∈ LL, M.length ≤ 1048576) : ∀ d, NextAny w0 g c e d A B LL D
  | 0 => next_zero hI hg hn3 hm1
  | d + 1 => next_succ hA hg hn3 hsz (next_any hA hI hg hn3 hm1 hsz d)
end

/- FoldT -/
section
open Go.RowKit

/-- How l2Fold ends. -/
def FoldPost (LL : List (List Int)) (D : List Int) (w : World) (e : Ending) (w' : World) : Prop :=
  w.grownBy w' none ∧ ∃ m sv t, e = .returned (.agg #[.int .i64 m, sv]) ∧ (∃ A k c, sv = .slice A k c) ∧ (foldN LL.length LL D)[0]? = some t ∧ SNd w' (fun b => w.heap.size ≤ b) LL.length t (m, sv)

theorem cons_zero (LL : List (List Int)) (h : LL.length ≤ 3) : Cons LL 0 [0, 0, 0, 0] := fun i L _ hL => by
  have hi := (List.getElem?_eq_some_iff.1 hL).1
  refine ⟨0, ?_, ?_⟩
  · match i, (show i < 3 by omega) with
    | 0, _ => rfl
    | 1, _ => rfl
    | 2, _ => rfl
  · match i, (show i < 3 by omega) with
    | 0, _ => rfl
    | 1, _ => rfl
    | 2, _ => rfl

set_option maxRecDepth 100000 in
set_option maxHeartbeats 1000000 in
theorem fold_any (v : Value) (LL : List (List Int)) (D : List Int) (w : World) (h : Lyt w v LL D) (hn : LL.length + totL LL + D.length ≤ 1048576) (hv : wrong LL D = -1) :
    Calls Try.prog 114 #[v] w (FoldPost LL D w) := by
  obtain ⟨A, c, B, e, rfl, _, _, h3, h4⟩ := h
  obtain ⟨hn3, hfit⟩ := wrong_fits hv
  have hsz : ∀ M ∈ LL, M.length ≤ 1048576 := fun M hM => by
    obtain ⟨i, hi⟩ := List.getElem?_of_mem hM
    have := totL_at hi
    omega
  have HC := Lib.hid (fun g (hg : w.heap.size ≤ g) u (hu : w.grownBy u none) (hf : Fdr u g (.slice A LL.length c) (.slice B D.length e) [0, 0, 0, 0]) => next_any (c := c) (e := e) h3 h4 hg hn3 (by omega) hsz LL.length 0 0 [0, 0, 0, 0] u (by omega) hu hf rfl rfl ⟨1, hfit, by omega⟩ (cons_zero LL hn3))
  obtain ⟨n, hnn⟩ : ∃ n, LL.length = n := ⟨_, rfl⟩
  obtain ⟨m, hm⟩ : ∃ m, D.length = m := ⟨_, rfl⟩
  have HN := Lib.hid hnn
  rw [hnn, hm, show ((0 : Nat) : Int) = 0 from rfl] at HC
  rw [hnn, hm]
  clear h3 h4 hn hv hfit hsz hnn hm
  go_enter Try.func114, Try.ntmps114
  go_wp2_with fail
  have hs2 : ((w.alloc (.cells #[.slice A n c, .slice B m e] 28)).alloc (.cells #[.int .i64 0, .slice none 0 0] 123)).heap.size = w.heap.size + 1 + 1 := by simp
  have hs1 : (w.alloc (.cells #[.slice A n c, .slice B m e] 28)).heap.size = w.heap.size + 1 := by simp
  have hT2 := (two_new (w.alloc (.cells #[.slice A n c, .slice B m e] 28)) (.int .i64 0) (.slice none 0 0) hs1).alloc (.cells #[.slice A n c, .slice B m e, .int .i64 0, .int .i64 0, .int .i64 0, .int .i64 0] 164)
  have hF : Fdr (((w.alloc (.cells #[.slice A n c, .slice B m e] 28)).alloc (.cells #[.int .i64 0, .slice none 0 0] 123)).alloc (.cells #[.slice A n c, .slice B m e, .int .i64 0, .int .i64 0, .int .i64 0, .int .i64 0] 164)) (w.heap.size + 1 + 1) (.slice A n c) (.slice B m e) [0, 0, 0, 0] := by
    have := heap_alloc_new ((w.alloc (.cells #[.slice A n c, .slice B m e] 28)).alloc (.cells #[.int .i64 0, .slice none 0 0] 123)) (.cells #[.slice A n c, .slice B m e, .int .i64 0, .int .i64 0, .int .i64 0, .int .i64 0] 164)
    rw [hs2] at this
    exact this
  have hG : w.grownBy (((w.alloc (.cells #[.slice A n c, .slice B m e] 28)).alloc (.cells #[.int .i64 0, .slice none 0 0] 123)).alloc (.cells #[.slice A n c, .slice B m e, .int .i64 0, .int .i64 0, .int .i64 0, .int .i64 0] 164)) none := (World.grownBy_alloc _ _ _).trans ((World.grownBy_alloc _ _ _).trans (World.grownBy_alloc _ _ _))
  have hS3 : (((w.alloc (.cells #[.slice A n c, .slice B m e] 28)).alloc (.cells #[.int .i64 0, .slice none 0 0] 123)).alloc (.cells #[.slice A n c, .slice B m e, .int .i64 0, .int .i64 0, .int .i64 0, .int .i64 0] 164)).heap.size = w.heap.size + 1 + 1 + 1 := by simp
  generalize ((w.alloc (.cells #[.slice A n c, .slice B m e] 28)).alloc (.cells #[.int .i64 0, .slice none 0 0] 123)).alloc (.cells #[.slice A n c, .slice B m e, .int .i64 0, .int .i64 0, .int .i64 0, .int .i64 0] 164) = w3 at hT2 hF hG hS3 ⊢
  have HT2 := Lib.hid hT2
  have HG := Lib.hid hG
  have HF := Lib.hid hF
  clear hT2 hG hF hs1 hs2
  refine (HC.out (w.heap.size + 1 + 1) (by omega) w3 HG.out HF.out).mono ?_
  rintro e9 w9 ⟨hg9, m9, v9, b9, t9, rfl, ⟨A9, k9, c9, rfl⟩, ht9, hnd9, _, _⟩
  have HG9 := Lib.hid (gr_base HG.out hg9 (by omega))
  have HT9 := Lib.hid (HT2.out.grown hg9 (by simp))
  have HN9 := Lib.hid hnd9
  have HAT := Lib.hid ht9
  have r0 := HT9.out.c0
  have r1 := HT9.out.c1
  have f0 := HT9.out.f 0
  have f1 := HT9.out.f 1
  clear hg9 hnd9 ht9
  go_wp2_with fail
  refine bodyPost_ret (v := .agg #[.int .i64 m9, .slice A9 k9 c9]) (by simp [results, Try.results114, go_sem, r0, r1]) rfl ?_
  have e1 : ∀ b, w.heap.size + 1 + 1 + 1 ≤ b → ((w9.setCell ⟨w.heap.size + 1, 0, none⟩ (.int .i64 m9)).setCell ⟨w.heap.size + 1, 1, none⟩ (.slice A9 k9 c9)).heap[b]? = w9.heap[b]? := fun b hb => by
    rw [Below.heap_setCell _ _ _ _ (by show b ≠ w.heap.size + 1; omega), Below.heap_setCell _ _ _ _ (by show b ≠ w.heap.size + 1; omega)]
  have e2 : w.grownBy ((w9.setCell ⟨w.heap.size + 1, 0, none⟩ (.int .i64 m9)).setCell ⟨w.heap.size + 1, 1, none⟩ (.slice A9 k9 c9)) none := by
    refine ⟨HG9.out.os, HG9.out.tape, HG9.out.output, Nat.le_trans HG9.out.size (Nat.le_trans (gr_set w9 (w.heap.size + 1) 0 (.int .i64 m9)).size (gr_set _ (w.heap.size + 1) 1 (.slice A9 k9 c9)).size), fun b hb hne => ?_⟩
    rw [Below.heap_setCell _ _ _ _ (by show b ≠ w.heap.size + 1; omega), Below.heap_setCell _ _ _ _ (by show b ≠ w.heap.size + 1; omega)]
    exact HG9.out.block b hb hne
  obtain rfl : n = LL.length := HN.out.symm
  refine ⟨e2, m9, _, t9, rfl, ⟨_, _, _, rfl⟩, ?_, ?_⟩
  · exact HAT.out
  · exact SNd.keep (fun b hb _ => e1 b (by omega)) (fun b hb _ => by omega) _ _ _ HN9.out
end

end Go.Proofs.Ytbideeajdhejoaa

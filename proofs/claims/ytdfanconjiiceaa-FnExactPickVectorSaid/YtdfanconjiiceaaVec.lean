/- A vector as it reads, and the laws' copies, sizes and comparisons of vectors: szVector, toVector, eqVector. -/
import Derived.Test.YtdfanconjiiceaaFamL
import Derived.Test.YtdfanconjiiceaaPr
namespace Go.Proofs.Ytdfanconjiiceaa
open Go.RowKit

/-- A struct of three cells in a block. -/
def Tri (w : World) (g : Nat) (t : TypeId) (a b c : Value) : Prop := w.heap[g]? = some (.cells #[a, b, c] t (0, 0))
section
variable {w w' : World} {g : Nat} {t : TypeId} {a b c : Value}
theorem Tri.new (w : World) (t : TypeId) (a b c : Value) : Tri (w.alloc (.cells #[a, b, c] t)) w.heap.size t a b c := heap_alloc_new w _
theorem Tri.c0 (h : Tri w g t a b c) : w.cell? ⟨g, 0, none⟩ = some a := cell_of_row w g 0 _ _ (0, 0) h
theorem Tri.c1 (h : Tri w g t a b c) : w.cell? ⟨g, 1, none⟩ = some b := cell_of_row w g 1 _ _ (0, 0) h
theorem Tri.c2 (h : Tri w g t a b c) : w.cell? ⟨g, 2, none⟩ = some c := cell_of_row w g 2 _ _ (0, 0) h
theorem Tri.f (h : Tri w g t a b c) (i : Nat) : w.frozen? ⟨g, i, none⟩ = false := by
  unfold Tri at h
  simp [World.frozen?, h]
theorem Tri.lt (h : Tri w g t a b c) : g < w.heap.size := (Array.getElem?_eq_some_iff.1 h).1
theorem Tri.set0 (h : Tri w g t a b c) (u : Value) : Tri (w.setCell ⟨g, 0, none⟩ u) g t u b c := by
  unfold Tri at h ⊢
  simp [World.setCell, Array.getElem?_modify, h]
theorem Tri.set1 (h : Tri w g t a b c) (u : Value) : Tri (w.setCell ⟨g, 1, none⟩ u) g t a u c := by
  unfold Tri at h ⊢
  simp [World.setCell, Array.getElem?_modify, h]
theorem Tri.set2 (h : Tri w g t a b c) (u : Value) : Tri (w.setCell ⟨g, 2, none⟩ u) g t a b u := by
  unfold Tri at h ⊢
  simp [World.setCell, Array.getElem?_modify, h]
theorem Tri.alloc (h : Tri w g t a b c) (o : Obj) : Tri (w.alloc o) g t a b c := (Below.heap_alloc w o g h.lt).trans h
theorem Tri.grown {row : Option Nat} (h : Tri w g t a b c) (hg : w.grownBy w' row) (hne : some g ≠ row) : Tri w' g t a b c := (hg.block g h.lt hne).trans h
end

/-- A vector's three cells. -/
def Vct (w : World) (v : Value) (n : Int) (LL : List (List Int)) (D : List Int) : Prop :=
  ∃ A c B d, v = .agg #[.int .i64 n, .slice A LL.length c, .slice B D.length d] ∧ LL.length ≤ c ∧ D.length ≤ d ∧ Rws w A LL ∧ Ints w B D
theorem Vct.grown {w w' : World} {v : Value} {n : Int} {LL : List (List Int)} {D : List Int} (h : Vct w v n LL D) (hg : w.grownBy w' none) : Vct w' v n LL D := by
  obtain ⟨A, c, B, d, rfl, h1, h2, h3, h4⟩ := h
  exact ⟨A, c, B, d, rfl, h1, h2, h3.grown hg, h4.grown hg (by simp)⟩
theorem Vct.lyt {w : World} {v : Value} {n : Int} {LL : List (List Int)} {D : List Int} (h : Vct w v n LL D) : ∃ x y, v = .agg #[.int .i64 n, x, y] ∧ Lyt w (.agg #[x, y]) LL D := by
  obtain ⟨A, c, B, d, rfl, h1, h2, h3, h4⟩ := h
  exact ⟨_, _, rfl, A, c, B, d, rfl, h1, h2, h3, h4⟩
theorem OwnLyt.keep {w w' : World} {base : Nat} {v : Value} {LL : List (List Int)} {D : List Int} (h : OwnLyt w base v LL D) (hk : ∀ g, base ≤ g → g < w.heap.size → w'.heap[g]? = w.heap[g]?) : OwnLyt w' base v LL D := by
  obtain ⟨A, c, d, vs, rfl, hc, ho, hf⟩ := h
  exact ⟨A, c, d, vs, rfl, hc, own_keep ho (fun g hg => hk g (ho.lt g hg).1 (ho.lt g hg).2), hf.kept (fun i L v g hi hL hv hl hg => hk g (hf.lt hi hL hv hl hg).1 (hf.lt hi hL hv hl hg).2)⟩
theorem OwnLyt.lows {w : World} {base base' : Nat} {v : Value} {LL : List (List Int)} {D : List Int} (h : OwnLyt w base v LL D) (hb : base' ≤ base) : OwnLyt w base' v LL D := by
  obtain ⟨A, c, d, vs, rfl, hc, ho, hf⟩ := h
  exact ⟨A, c, d, vs, rfl, hc, own_base ho hb, hf.low hb⟩
/-- A vector whose memory is all its own. -/
def OwnVct (w : World) (base : Nat) (v : Value) (n : Int) (LL : List (List Int)) (D : List Int) : Prop :=
  ∃ x y, v = .agg #[.int .i64 n, x, y] ∧ OwnLyt w base (.agg #[x, y]) LL D
theorem OwnVct.vct {w : World} {base : Nat} {v : Value} {n : Int} {LL : List (List Int)} {D : List Int} (h : OwnVct w base v n LL D) : Vct w v n LL D := by
  obtain ⟨x, y, rfl, h⟩ := h
  obtain ⟨A, c, B, d, he, h1, h2, h3, h4⟩ := h.lyt
  simp only [Value.agg.injEq, Array.mk.injEq, List.cons.injEq, and_true] at he
  obtain ⟨rfl, rfl⟩ := he
  exact ⟨A, c, B, d, rfl, h1, h2, h3, h4⟩
theorem OwnVct.kept {w w' : World} {base base' : Nat} {v : Value} {n : Int} {LL : List (List Int)} {D : List Int} (h : OwnVct w base v n LL D) (hk : ∀ u, OwnLyt w base u LL D → OwnLyt w' base' u LL D) : OwnVct w' base' v n LL D := by
  obtain ⟨x, y, rfl, h⟩ := h
  exact ⟨x, y, rfl, hk _ h⟩

set_option maxHeartbeats 400000 in
theorem szv_any (v : Value) (k : Int) (LL : List (List Int)) (D : List Int) (w : World) (h : Vct w v k LL D) (hn : LL.length ≤ 9223372036854775807) (hsz : ∀ M ∈ LL, M.length ≤ 9223372036854775807) (hd : D.length ≤ 9223372036854775807) :
    Calls Try.prog 21 #[v, .int .i64 1048576] w fun e w' => (∃ r : Int, e = .returned (.int .i64 r) ∧ (0 ≤ r → LL.length + totL LL + D.length ≤ 1048576)) ∧ w.grownBy w' none := by
  obtain ⟨x, y, rfl, hl⟩ := h.lyt
  have HZ := Lib.hid (fun w h => szl_any (.agg #[x, y]) LL D w h hn hsz hd)
  have HL := Lib.hid (hl.grown (World.grownBy_alloc w (.cells #[.int .i64 k, x, y] 44) none))
  have HT := Lib.hid (Tri.new w 44 (.int .i64 k) x y)
  have HG := Lib.hid (World.grownBy_alloc w (.cells #[.int .i64 k, x, y] 44) none)
  obtain ⟨A, c, B, d, he, _⟩ := hl
  cases he
  obtain ⟨n, hnn⟩ : ∃ n, LL.length = n := ⟨_, rfl⟩
  obtain ⟨m, hm⟩ : ∃ m, D.length = m := ⟨_, rfl⟩
  rw [hnn, hm] at HZ HL HT HG ⊢
  clear h hn hsz hd hnn hm
  go_enter Try.func21, Try.ntmps21
  go_wp2_with fail
  refine (HZ.out _ HL.out).mono ?_
  rintro e w1 ⟨⟨r, rfl, hr⟩, hg1⟩
  have HR := Lib.hid hr
  have HG1 := Lib.hid (HG.out.trans hg1)
  clear hr hg1
  by_cases hneg : r < 0
  · go_wp2_with fail
    go_ret
    exact ⟨⟨-1, rfl, fun h => by omega⟩, HG1.out⟩
  · go_wp2_with fail
    go_ret
    exact ⟨⟨r, rfl, HR.out⟩, HG1.out⟩

set_option maxHeartbeats 1000000 in
theorem tov_any (v : Value) (k : Int) (LL : List (List Int)) (D : List Int) (w : World) (h : Vct w v k LL D) (hn : LL.length + totL LL + D.length ≤ 1048576) :
    Calls Try.prog 23 #[v] w fun e w' => ∃ u, e = .returned u ∧ w.grownBy w' none ∧ OwnVct w' w.heap.size u k LL D := by
  obtain ⟨x, y, rfl, hl⟩ := h.lyt
  have HZ := Lib.hid (fun w h => tol_any (.agg #[x, y]) LL D w h hn)
  obtain ⟨A, c, B, d, he, _⟩ := id hl
  cases he
  obtain ⟨n, hnn⟩ : ∃ n, LL.length = n := ⟨_, rfl⟩
  obtain ⟨m, hm⟩ : ∃ m, D.length = m := ⟨_, rfl⟩
  have HN := Lib.hid hnn
  have HM := Lib.hid hm
  rw [hnn, hm] at HZ hl ⊢
  have HL := Lib.hid hl
  clear h hn hnn hm hl
  go_enter Try.func23, Try.ntmps23
  go_wp2_with fail
  have hg0 : w.grownBy (((w.alloc (.cells #[.int .i64 k, .slice A n c, .slice B m d] 44)).alloc (.cells #[.int .i64 0, .slice none 0 0, .slice none 0 0] 34)).alloc (.cells #[.int .i64 k, .slice none 0 0, .slice none 0 0] 34)) none :=
    ((World.grownBy_alloc _ _ _).trans (World.grownBy_alloc _ _ _)).trans (World.grownBy_alloc _ _ _)
  have P1 := (Tri.new (w.alloc (.cells #[.int .i64 k, .slice A n c, .slice B m d] 44)) 34 (.int .i64 0) (.slice none 0 0) (.slice none 0 0)).alloc (.cells #[.int .i64 k, .slice none 0 0, .slice none 0 0] 34)
  have P2 := Tri.new ((w.alloc (.cells #[.int .i64 k, .slice A n c, .slice B m d] 44)).alloc (.cells #[.int .i64 0, .slice none 0 0, .slice none 0 0] 34)) 34 (.int .i64 k) (.slice none 0 0) (.slice none 0 0)
  rw [sz_alloc] at P1
  rw [sz_alloc, sz_alloc] at P2
  generalize ((w.alloc (.cells #[.int .i64 k, .slice A n c, .slice B m d] 44)).alloc (.cells #[.int .i64 0, .slice none 0 0, .slice none 0 0] 34)).alloc (.cells #[.int .i64 k, .slice none 0 0, .slice none 0 0] 34) = u0 at hg0 P1 P2 ⊢
  have hs0 : w.heap.size + 1 + 1 < u0.heap.size := P2.lt
  refine (HZ.out _ (HL.out.grown hg0)).mono ?_
  rintro e w1 ⟨u, rfl, hg1, ho1⟩
  obtain ⟨A1, c1, B1, d1, rfl, _⟩ := id ho1.lyt
  rw [HN.out, HM.out] at ho1 ⊢
  have Q1 := P1.grown hg1 (by simp)
  have Q2 := P2.grown hg1 (by simp)
  have HG1 := Lib.hid (hg0.trans hg1)
  have a0 := Q1.c0
  have a1 := Q1.c1
  have a2 := Q1.c2
  have f0 := Q1.f 0
  have f1 := Q1.f 1
  have f2 := Q1.f 2
  have b0 := Q2.c0
  have b1 := Q2.c1
  have b2 := Q2.c2
  have e0 := Q2.f 0
  have e1 := Q2.f 1
  have e2 := Q2.f 2
  have HQ1 := Lib.hid Q1
  have HQ2 := Lib.hid Q2
  have HO1 := Lib.hid ho1
  clear hg0 P1 P2 hg1 ho1 Q1 Q2
  go_wp2_with fail
  obtain ⟨g, hg⟩ : ∃ g, w.heap.size + 1 = g := ⟨_, rfl⟩
  obtain ⟨g2, hg2⟩ : ∃ g2, w.heap.size + 1 + 1 = g2 := ⟨_, rfl⟩
  have T2 := (HQ2.out.set1 (.slice A1 n c1)).set2 (.slice B1 m d1)
  have hgs := (gr_set w1 (w.heap.size + 1 + 1) 1 (.slice A1 n c1)).trans (gr_set (w1.setCell ⟨w.heap.size + 1 + 1, 1, none⟩ (.slice A1 n c1)) (w.heap.size + 1 + 1) 2 (.slice B1 m d1))
  have T1 := HQ1.out.grown hgs (by simp)
  have ho2 := HO1.out.keep (fun q hq hq2 => hgs.block q hq2 (by simp; omega))
  have hG2 := gr_ownF HG1.out hgs (fun q hq => by cases hq; omega)
  generalize (w1.setCell ⟨w.heap.size + 1 + 1, 1, none⟩ (.slice A1 n c1)).setCell ⟨w.heap.size + 1 + 1, 2, none⟩ (.slice B1 m d1) = w2 at T1 T2 hgs ho2 hG2 ⊢
  have S1 := ((T1.set0 (.int .i64 k)).set1 (.slice A1 n c1)).set2 (.slice B1 m d1)
  have hgz := ((gr_set w2 (w.heap.size + 1) 0 (.int .i64 k)).trans (gr_set _ (w.heap.size + 1) 1 (.slice A1 n c1))).trans (gr_set ((w2.setCell ⟨w.heap.size + 1, 0, none⟩ (.int .i64 k)).setCell ⟨w.heap.size + 1, 1, none⟩ (.slice A1 n c1)) (w.heap.size + 1) 2 (.slice B1 m d1))
  have r0 := S1.c0
  have r1 := S1.c1
  have r2 := S1.c2
  refine bodyPost_ret (v := .agg #[.int .i64 k, .slice A1 n c1, .slice B1 m d1]) (by simp [results, Try.results23, go_sem, r0, r1, r2]) rfl ?_
  have ho3 := ho2.keep (fun q hq hq2 => hgz.block q hq2 (by simp; omega))
  exact ⟨_, rfl, gr_ownF hG2 hgz (fun q hq => by cases hq; omega), _, _, rfl, ho3.lows (by omega)⟩

set_option maxHeartbeats 400000 in
theorem eqv_any (v u : Value) (k : Int) (LL : List (List Int)) (D : List Int) (w : World) (h : Vct w v k LL D) (h2 : Vct w u k LL D) (hn : LL.length + totL LL + D.length ≤ 1099511627776) :
    Calls Try.prog 16 #[v, u] w fun e w' => e = .returned (.bool true) ∧ w.grownBy w' none := by
  obtain ⟨x, y, rfl, hl⟩ := h.lyt
  obtain ⟨x2, y2, rfl, hl2⟩ := h2.lyt
  have hg := (World.grownBy_alloc w (.cells #[.int .i64 k, x, y] 34) none).trans (World.grownBy_alloc _ (.cells #[.int .i64 k, x2, y2] 34) none)
  have HE := Lib.hid (eql_any (.agg #[x, y]) (.agg #[x2, y2]) LL D _ (hl.grown hg) (hl2.grown hg) hn)
  have HG := Lib.hid hg
  obtain ⟨A, c, B, d, he, _⟩ := hl
  cases he
  obtain ⟨A2, c2, B2, d2, he2, _⟩ := hl2
  cases he2
  obtain ⟨n, hnn⟩ : ∃ n, LL.length = n := ⟨_, rfl⟩
  obtain ⟨m, hm⟩ : ∃ m, D.length = m := ⟨_, rfl⟩
  rw [hnn, hm] at HE HG ⊢
  have hkk : (k != k) = false := by simp
  clear h h2 hn hnn hm hg
  go_enter Try.func16, Try.ntmps16
  go_wp2_with fail
  refine HE.out.mono ?_
  rintro e w1 ⟨rfl, hg1⟩
  have HG1 := Lib.hid (HG.out.trans hg1)
  clear hg1
  go_wp2_with fail
  go_ret
  exact ⟨rfl, HG1.out⟩

end Go.Proofs.Ytdfanconjiiceaa

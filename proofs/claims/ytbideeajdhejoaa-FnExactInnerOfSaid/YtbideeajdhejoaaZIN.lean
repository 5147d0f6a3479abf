/- 12 texts in one: LysOwn Vec LayS InnQ InnerI InnerS MarkA LysHeld MarkLys BothInner LytL Lawinner. -/
import Derived.Test.YtbideeajdhejoaaLys
import Derived.Test.YtbideeajdhejoaaRawM
import Derived.Test.YtbideeajdhejoaaFamL
import Derived.Test.YtbideeajdhejoaaPr
import Derived.Test.YtbideeajdhejoaaZTK
import Derived.Test.YtbideeajdhejoaaZFO
import Derived.Test.YtbideeajdhejoaaZLM
import Derived.Test.YtbideeajdhejoaaClone
import Derived.Test.YtbideeajdhejoaaSWrong
import Derived.Test.YtbideeajdhejoaaMark
import Derived.Test.YtbideeajdhejoaaLytArg
import Derived.Deep.AppendLies
import Derived.Deep.RegionLaw
namespace Go.Proofs.Ytbideeajdhejoaa
/- LysOwn -/
section
open Go.RowKit

theorem infoY : (Try.prog.info? 28).map (fun i => (i.zero, i.size, i.bytes)) = some (some (.agg #[.slice none 0 0, .slice none 0 0]), 2, 48) := by kernel_rfl

/-- A list of layouts to be copied. -/
def LysC (w : World) (A : Option Addr) (P : List (List (List Int) × List Int)) : Prop :=
  0 < P.length → ∃ b off, A = some ⟨b, off, none⟩ ∧ b < w.heap.size ∧ ∀ (j : Nat) (p : List (List Int) × List Int), P[j]? = some p → ∃ x y, w.cell? ⟨b, off + j * 2, none⟩ = some x ∧ w.cell? ⟨b, off + j * 2 + 1, none⟩ = some y ∧ LytC w (.agg #[x, y]) p.1 p.2
theorem LysC.grown {w w' : World} {A : Option Addr} {P : List (List (List Int) × List Int)} (h : LysC w A P) (hg : w.grownBy w' none) : LysC w' A P := fun hl => by
  obtain ⟨b, off, rfl, hb, hc⟩ := h hl
  refine ⟨b, off, rfl, Nat.lt_of_lt_of_le hb hg.size, fun j p hj => ?_⟩
  obtain ⟨x, y, h1, h2, h3⟩ := hc j p hj
  exact ⟨x, y, hg.cell h1 (by simp), hg.cell h2 (by simp), h3.grown hg⟩

theorem own_typK {w : World} {base base' : Nat} {e e' : TypeId} {k k' n n' : Nat} {v v' : Value} {xs xs' : List Value} {g : Nat} (h : w.ownsRow base e k v n xs) (h' : w.ownsRow base' e' k' v' n' xs') (hg : v.ownBlock = some g) (hg' : v'.ownBlock = some g) : e = e' := by
  rcases h.2 with ⟨rfl, _⟩ | ⟨b, cap, cur, rfl, _, hb, _⟩
  · simp [Value.ownBlock] at hg
  · rcases h'.2 with ⟨rfl, _⟩ | ⟨b', cap', cur', rfl, _, hb', _⟩
    · simp [Value.ownBlock] at hg'
    · simp only [Value.ownBlock, Option.some.injEq] at hg hg'
      subst hg hg'
      rw [hb] at hb'
      cases hb'
      rfl
theorem OwnLyt.grown {w w' : World} {base : Nat} {v : Value} {LL : List (List Int)} {D : List Int} (h : OwnLyt w base v LL D) (hg : w.grownBy w' none) : OwnLyt w' base v LL D := by
  obtain ⟨A, c, d, vs, rfl, hc, ho, hf⟩ := h
  exact ⟨A, c, d, vs, rfl, hc, own_keep ho (fun k hk => hg.block k (ho.lt k hk).2 (by simp)), hf.grown hg⟩
theorem OwnLyt.lowK {w : World} {base base' : Nat} {v : Value} {LL : List (List Int)} {D : List Int} (h : OwnLyt w base v LL D) (hb : base' ≤ base) : OwnLyt w base' v LL D := by
  obtain ⟨A, c, d, vs, rfl, hc, ho, hf⟩ := h
  exact ⟨A, c, d, vs, rfl, hc, own_base ho hb, hf.low hb⟩
/-- What is written in a row of layouts leaves a layout as it is. -/
theorem OwnLyt.aside {w w' : World} {base base' n : Nat} {v u : Value} {xs : List Value} {LL : List (List Int)} {D : List Int} (h : OwnLyt w base v LL D) (hu : w.ownsRow base' 28 2 u n xs) (hg : w.grownBy w' u.ownBlock) : OwnLyt w' base v LL D := by
  obtain ⟨A, c, d, vs, rfl, hc, ho, hf⟩ := h
  refine ⟨A, c, d, vs, rfl, hc, own_keep ho (fun k hk => hg.block k (ho.lt k hk).2 (fun e => absurd (own_typK ho hu hk e.symm) (by decide))), hf.kept (fun i L x g hi hL hv hl hx => hg.block g (hf.lt hi hL hv hl hx).2 (fun e => ?_))⟩
  obtain ⟨x', hx', A', c', rfl, _, h1⟩ := hf.1 i L hi hL
  rw [hv] at hx'
  cases hx'
  exact absurd (own_typK (h1 hl) hu hx e.symm) (by decide)

/-- The first pairs of cells are these layouts. -/
def Prs (w : World) (base j : Nat) (vs : List Value) (P : List (List (List Int) × List Int)) : Prop :=
  ∀ (i : Nat) (p : List (List Int) × List Int), i < j → P[i]? = some p → ∃ x y, vs[i * 2]? = some x ∧ vs[i * 2 + 1]? = some y ∧ OwnLyt w base (.agg #[x, y]) p.1 p.2
theorem Prs.imp {w w' : World} {base base' j : Nat} {vs : List Value} {P : List (List (List Int) × List Int)} (h : Prs w base j vs P) (hg : ∀ v LL D, OwnLyt w base v LL D → OwnLyt w' base' v LL D) : Prs w' base' j vs P := fun i p hi hp => by
  obtain ⟨x, y, h1, h2, h3⟩ := h i p hi hp
  exact ⟨x, y, h1, h2, hg _ _ _ h3⟩
theorem Prs.more {w : World} {base j : Nat} {vs : List Value} {P : List (List (List Int) × List Int)} {x y : Value} {p : List (List Int) × List Int} (h : Prs w base j vs P) (hv : vs.length = j * 2) (hp : P[j]? = some p) (hl : OwnLyt w base (.agg #[x, y]) p.1 p.2) : Prs w base (j + 1) (vs ++ [x, y]) P := fun i q hi hq => by
  by_cases e : i = j
  · subst e
    rw [hp] at hq
    cases hq
    refine ⟨x, y, ?_, ?_, hl⟩
    · rw [List.getElem?_append_right (by omega), hv]; simp
    · rw [List.getElem?_append_right (by omega), hv]; simp
  · obtain ⟨x', y', h1, h2, h3⟩ := h i q (by omega) hq
    exact ⟨x', y', by rw [List.getElem?_append_left (by omega)]; exact h1, by rw [List.getElem?_append_left (by omega)]; exact h2, h3⟩
theorem Prs.lys {w : World} {base base' c : Nat} {A : Option Addr} {vs : List Value} {P : List (List (List Int) × List Int)} (h : Prs w base P.length vs P) (ho : w.ownsRow base' 28 2 (.slice A P.length c) P.length vs) : Lys w A P := fun hl => by
  rcases ho.2 with ⟨hv, hn⟩ | ⟨g, cap, cur, hv, _, hg, hnc, _, hcs, htake⟩
  · omega
  · cases hv
    refine ⟨g, 0, rfl, (Array.getElem?_eq_some_iff.1 hg).1, fun j p hj => ?_⟩
    have hjl : j < P.length := (List.getElem?_eq_some_iff.1 hj).1
    obtain ⟨x, y, h1, h2, h3⟩ := h j p hjl hj
    refine ⟨x, y, ?_, ?_, h3.lyt⟩
    · rw [Nat.zero_add, cell_of_row w g (j * 2) _ _ (0, 0) hg]
      have : (cur.toList.take (P.length * 2))[j * 2]? = some x := by rw [htake]; exact h1
      rw [List.getElem?_take, if_pos (by omega)] at this
      simpa using this
    · rw [Nat.zero_add, cell_of_row w g (j * 2 + 1) _ _ (0, 0) hg]
      have : (cur.toList.take (P.length * 2))[j * 2 + 1]? = some y := by rw [htake]; exact h2
      rw [List.getElem?_take, if_pos (by omega)] at this
      simpa using this

set_option maxRecDepth 100000 in
set_option maxHeartbeats 4000000 in
theorem ownlist_any (A : Option Addr) (c : Nat) (P : List (List (List Int) × List Int)) (w : World) (h : LysC w A P) (hn : P.length ≤ 1048576) (hm : ∀ p ∈ P, p.1.length ≤ 1048576 ∧ (∀ M ∈ p.1, M.length ≤ 1048576) ∧ p.2.length ≤ 1048576) :
    Calls Try.prog 82 #[.slice A P.length c] w fun e w' => ∃ A' c', e = .returned (.slice A' P.length c') ∧ w.grownBy w' none ∧ Lys w' A' P := by
  obtain ⟨i0, hi0, hz0, hz1, hz2⟩ : ∃ i : TypeInfo, Try.prog.info? 28 = some i ∧ i.zero = some (.agg #[.slice none 0 0, .slice none 0 0]) ∧ i.size = 2 ∧ i.bytes = 48 := by
    obtain ⟨i, hi, hzz⟩ := Option.map_eq_some_iff.1 infoY
    simp only [Prod.mk.injEq] at hzz
    exact ⟨i, hi, hzz.1, hzz.2.1, hzz.2.2⟩
  have HS := Lib.hid h
  have HM := Lib.hid hm
  obtain ⟨n, hnn⟩ : ∃ n, P.length = n := ⟨_, rfl⟩
  have HN := Lib.hid hnn
  rw [hnn] at hn ⊢
  clear h hnn hm
  have HO : Hid ((w.alloc (.cells #[] 28)).ownsRow w.heap.size 28 2 (.slice (some ⟨w.heap.size, 0, none⟩) 0 0) 0 []) := Lib.hid (by
    have := World.ownsRow_made (base := w.heap.size) (e := 28) (size := 2) w #[] 0 (Nat.le_refl _) (by simp) (by simp)
    simpa using this)
  go_enter Try.func82, Try.ntmps82
  go_wp2_with fail
  go_loopw [3, 9] (fun o i wr => ∃ (j : Nat) (Ax : Option Addr) (cx : Nat) (vs : List Value), j ≤ n ∧ i = .int .i64 j ∧ o = .slice Ax j cx ∧ Hid (wr.ownsRow w.heap.size 28 2 (.slice Ax j cx) j vs) ∧ Hid (Prs wr w.heap.size j vs P) ∧ Hid (w.grownBy wr none)) (fun _ i _ => n - (intOf i).toNat)
  case atStart => exact ⟨0, _, 0, [], Nat.zero_le _, rfl, rfl, HO, Lib.hid (fun i p hi => by omega), Lib.hid (World.grownBy_alloc _ _ _)⟩
  case round =>
    clear HO
    obtain ⟨j, Ax, cx, vs, hj, rfl, rfl, ho, hpr, hgr⟩ := hrel
    obtain ⟨wo, rfl⟩ : ∃ wo : World, wo = wr := ⟨_, rfl⟩
    by_cases hlt : j < n
    · obtain ⟨p, hp⟩ : ∃ p, P[j]? = some p := ⟨_, List.getElem?_eq_getElem (by have := HN.out; omega)⟩
      obtain ⟨b, off, rfl, _, hc⟩ := (HS.out.grown hgr.out) (by have := HN.out; omega)
      obtain ⟨x, y, hx, hy, hl⟩ := hc j p hp
      obtain ⟨m1, m2, m3⟩ := HM.out p (List.mem_of_getElem? hp)
      have hl' := hl
      obtain ⟨A1, c1, B1, d1, he, _⟩ := hl'
      cases he
      have HC := Lib.hid (fun w' (hg : wo.grownBy w' none) => ownl_any _ p.1 p.2 w' (hl.grown hg) m1 m2 m3)
      have HP := Lib.hid hp
      clear hc hl hp m1 m2 m3
      go_wp2_with fail
      refine (HC.out _ (World.grownBy_alloc _ _ _)).mono ?_
      rintro e w5 ⟨u, rfl, hg5, hu5⟩
      obtain ⟨A6, c6, B6, d6, rfl, _⟩ := hu5.lyt
      have hl5 := hu5.lowK (base' := w.heap.size) (by have := hgr.out.size; simp; omega)
      have hg5b : wo.grownBy w5 none := (World.grownBy_alloc _ _ _).trans hg5
      obtain ⟨q1, hq1⟩ : ∃ q, p.1.length = q := ⟨_, rfl⟩
      obtain ⟨q2, hq2⟩ : ∃ q, p.2.length = q := ⟨_, rfl⟩
      rw [hq1, hq2] at hl5 ⊢
      have hgA := hg5b.trans (World.grownBy_alloc w5 (.cells #[.slice A6 q1 c6, .slice B6 q2 d6] 28) none)
      have HL5 := Lib.hid (hl5.grown (World.grownBy_alloc w5 (.cells #[.slice A6 q1 c6, .slice B6 q2 d6] 28) none))
      have HG5 := Lib.hid (hgr.out.trans hgA)
      have hown2 := own_keep ho.out (fun k hk => hgA.block k (ho.out.lt k hk).2 (by simp))
      have HPR := Lib.hid (hpr.out.imp (fun _ _ _ h => h.grown hgA))
      have HVL := Lib.hid (show vs.length = j * 2 from ho.out.1)
      have HNL := Lib.hid (fun (k : Nat) (v : Value) (hk : ([.slice A6 q1 c6, .slice B6 q2 d6] : List Value)[k]? = some v) => (World.news_of_block (cs := #[.slice A6 q1 c6, .slice B6 q2 d6]) (heap_alloc_new w5 (.cells #[.slice A6 q1 c6, .slice B6 q2 d6] 28)) k v hk : (w5.alloc (.cells #[.slice A6 q1 c6, .slice B6 q2 d6] 28)).cell? ((⟨w5.heap.size, 0, none⟩ : Addr).add k) = some v))
      have hszB : w.heap.size ≤ w5.heap.size + 1 := by have := HG5.out.size; simpa using this
      clear hg5 hg5b hgA ho hpr HC hu5 hl5 hq1 hq2 hgr
      go_wp2_with (at_builtin; refine wpList_append_own_at _ rfl _ _ 51 rfl w.heap.size 28 i0 (.agg #[.slice none 0 0, .slice none 0 0]) 2 48 Try.underlying51 hi0 hz0 hz1 hz2 rfl (by decide) _ _ _ rfl hown2 ⟨w5.heap.size, 0, none⟩ 1 1 [.slice A6 q1 c6, .slice B6 q2 d6] rfl rfl HNL.out ?c2 ?c3 ?c4 ?c5 ?_)
      case c2 => simp [Value.oneCell']
      case c3 => simp only [maxLen]; omega
      case c4 => omega
      case c5 => (try simp only [World.size_alloc]); omega
      intro v8 w8 hown8 hg8 _ _
      obtain ⟨g8, c8, rfl⟩ : ∃ g c, v8 = .slice (some ⟨g, 0, none⟩) (j + 1) c := by
        rcases hown8.2 with ⟨_, hn⟩ | ⟨g, cap, cur, hv, _⟩
        · omega
        · exact ⟨g, cap, hv⟩
      have HG8 := Lib.hid (gr_ownF HG5.out hg8 (fun k hk => (hown2.lt k hk).1))
      have HPS := Lib.hid ((HPR.out.imp (fun _ _ _ h => h.aside hown2 hg8)).more HVL.out HP.out (HL5.out.aside hown2 hg8))
      have HO8 := Lib.hid hown8
      clear hown8 hg8 hown2 HNL
      go_wp2_with fail
      go_roundw
      case rel => exact ⟨j + 1, _, c8, _, by omega, by go_num, rfl, HO8, HPS, HG8⟩
      case measure => simp [intOf]; omega
    · obtain rfl : j = n := by omega
      have HE := Lib.hid (show Lys wo Ax P from Prs.lys (by rw [HN.out]; exact hpr.out) (by rw [HN.out]; exact ho.out))
      clear ho hpr
      go_wp2_with fail
      go_ret
      exact ⟨_, _, rfl, hgr.out, HE.out⟩
end

/- Vec -/
section
open Go.RowKit

/-- A struct of three cells in a block. -/
def Tri (w : World) (g : Nat) (t : TypeId) (a b c : Value) : Prop := w.heap[g]? = some (.cells #[a, b, c] t (0, 0))
section
variable {w w' : World} {g : Nat} {t : TypeId} {a b c : Value}
theorem Tri.new (w : World) (t : TypeId) (a b c : Value) : Tri (w.alloc (.cells #[a, b, c] t)) w.heap.size t a b c := heap_alloc_new w _
theorem Tri.c0 (h : Tri w g t a b c) : w.cell? ⟨g, 0, none⟩ = some a := cell_of_row w g 0 _ _ (0, 0) h
theorem Tri.c1 (h : Tri w g t a b c) : w.cell? ⟨g, 1, none⟩ = some b := cell_of_row w g 1 _ _ (0, 0) h
theorem Tri.c2 (h : Tri w g t a b c) : w.cell? ⟨g, 2, none⟩ = some c := cell_of_row w g 2 _ _ (0, 0) h
theorem Tri.f (h : Tri w g t a b c) (i : Nat) : w.frozen? ⟨g, i, none⟩ = false := by
  unfold Tri at h
  simp [World.frozen?, h]
theorem Tri.lt (h : Tri w g t a b c) : g < w.heap.size := (Array.getElem?_eq_some_iff.1 h).1
theorem Tri.set0 (h : Tri w g t a b c) (u : Value) : Tri (w.setCell ⟨g, 0, none⟩ u) g t u b c := by
  unfold Tri at h ⊢
  simp [World.setCell, Array.getElem?_modify, h]
theorem Tri.set1 (h : Tri w g t a b c) (u : Value) : Tri (w.setCell ⟨g, 1, none⟩ u) g t a u c := by
  unfold Tri at h ⊢
  simp [World.setCell, Array.getElem?_modify, h]
theorem Tri.set2 (h : Tri w g t a b c) (u : Value) : Tri (w.setCell ⟨g, 2, none⟩ u) g t a b u := by
  unfold Tri at h ⊢
  simp [World.setCell, Array.getElem?_modify, h]
theorem Tri.alloc (h : Tri w g t a b c) (o : Obj) : Tri (w.alloc o) g t a b c := (Below.heap_alloc w o g h.lt).trans h
theorem Tri.grown {row : Option Nat} (h : Tri w g t a b c) (hg : w.grownBy w' row) (hne : some g ≠ row) : Tri w' g t a b c := (hg.block g h.lt hne).trans h
end

/-- A vector's three cells. -/
def Vct (w : World) (v : Value) (n : Int) (LL : List (List Int)) (D : List Int) : Prop :=
  ∃ A c B d, v = .agg #[.int .i64 n, .slice A LL.length c, .slice B D.length d] ∧ LL.length ≤ c ∧ D.length ≤ d ∧ Rws w A LL ∧ Ints w B D
theorem Vct.grown {w w' : World} {v : Value} {n : Int} {LL : List (List Int)} {D : List Int} (h : Vct w v n LL D) (hg : w.grownBy w' none) : Vct w' v n LL D := by
  obtain ⟨A, c, B, d, rfl, h1, h2, h3, h4⟩ := h
  exact ⟨A, c, B, d, rfl, h1, h2, h3.grown hg, h4.grown hg (by simp)⟩
theorem Vct.lyt {w : World} {v : Value} {n : Int} {LL : List (List Int)} {D : List Int} (h : Vct w v n LL D) : ∃ x y, v = .agg #[.int .i64 n, x, y] ∧ Lyt w (.agg #[x, y]) LL D := by
  obtain ⟨A, c, B, d, rfl, h1, h2, h3, h4⟩ := h
  exact ⟨_, _, rfl, A, c, B, d, rfl, h1, h2, h3, h4⟩
theorem OwnLyt.keep {w w' : World} {base : Nat} {v : Value} {LL : List (List Int)} {D : List Int} (h : OwnLyt w base v LL D) (hk : ∀ g, base ≤ g → g < w.heap.size → w'.heap[g]? = w.heap[g]?) : OwnLyt w' base v LL D := by
  obtain ⟨A, c, d, vs, rfl, hc, ho, hf⟩ := h
  exact ⟨A, c, d, vs, rfl, hc, own_keep ho (fun g hg => hk g (ho.lt g hg).1 (ho.lt g hg).2), hf.kept (fun i L v g hi hL hv hl hg => hk g (hf.lt hi hL hv hl hg).1 (hf.lt hi hL hv hl hg).2)⟩
theorem OwnLyt.lows {w : World} {base base' : Nat} {v : Value} {LL : List (List Int)} {D : List Int} (h : OwnLyt w base v LL D) (hb : base' ≤ base) : OwnLyt w base' v LL D := by
  obtain ⟨A, c, d, vs, rfl, hc, ho, hf⟩ := h
  exact ⟨A, c, d, vs, rfl, hc, own_base ho hb, hf.low hb⟩
/-- A vector whose memory is all its own. -/
def OwnVct (w : World) (base : Nat) (v : Value) (n : Int) (LL : List (List Int)) (D : List Int) : Prop :=
  ∃ x y, v = .agg #[.int .i64 n, x, y] ∧ OwnLyt w base (.agg #[x, y]) LL D
theorem OwnVct.vct {w : World} {base : Nat} {v : Value} {n : Int} {LL : List (List Int)} {D : List Int} (h : OwnVct w base v n LL D) : Vct w v n LL D := by
  obtain ⟨x, y, rfl, h⟩ := h
  obtain ⟨A, c, B, d, he, h1, h2, h3, h4⟩ := h.lyt
  simp only [Value.agg.injEq, Array.mk.injEq, List.cons.injEq, and_true] at he
  obtain ⟨rfl, rfl⟩ := he
  exact ⟨A, c, B, d, rfl, h1, h2, h3, h4⟩
theorem OwnVct.kept {w w' : World} {base base' : Nat} {v : Value} {n : Int} {LL : List (List Int)} {D : List Int} (h : OwnVct w base v n LL D) (hk : ∀ u, OwnLyt w base u LL D → OwnLyt w' base' u LL D) : OwnVct w' base' v n LL D := by
  obtain ⟨x, y, rfl, h⟩ := h
  exact ⟨x, y, rfl, hk _ h⟩

set_option maxHeartbeats 400000 in
theorem szv_any (v : Value) (k : Int) (LL : List (List Int)) (D : List Int) (w : World) (h : Vct w v k LL D) (hn : LL.length ≤ 9223372036854775807) (hsz : ∀ M ∈ LL, M.length ≤ 9223372036854775807) (hd : D.length ≤ 9223372036854775807) :
    Calls Try.prog 25 #[v, .int .i64 1048576] w fun e w' => (∃ r : Int, e = .returned (.int .i64 r) ∧ (0 ≤ r → LL.length + totL LL + D.length ≤ 1048576)) ∧ w.grownBy w' none := by
  obtain ⟨x, y, rfl, hl⟩ := h.lyt
  have HZ := Lib.hid (fun w h => szl_any (.agg #[x, y]) LL D w h hn hsz hd)
  have HL := Lib.hid (hl.grown (World.grownBy_alloc w (.cells #[.int .i64 k, x, y] 38) none))
  have HT := Lib.hid (Tri.new w 38 (.int .i64 k) x y)
  have HG := Lib.hid (World.grownBy_alloc w (.cells #[.int .i64 k, x, y] 38) none)
  obtain ⟨A, c, B, d, he, _⟩ := hl
  cases he
  obtain ⟨n, hnn⟩ : ∃ n, LL.length = n := ⟨_, rfl⟩
  obtain ⟨m, hm⟩ : ∃ m, D.length = m := ⟨_, rfl⟩
  rw [hnn, hm] at HZ HL HT HG ⊢
  clear h hn hsz hd hnn hm
  go_enter Try.func25, Try.ntmps25
  go_wp2_with fail
  refine (HZ.out _ HL.out).mono ?_
  rintro e w1 ⟨⟨r, rfl, hr⟩, hg1⟩
  have HR := Lib.hid hr
  have HG1 := Lib.hid (HG.out.trans hg1)
  clear hr hg1
  by_cases hneg : r < 0
  · go_wp2_with fail
    go_ret
    exact ⟨⟨-1, rfl, fun h => by omega⟩, HG1.out⟩
  · go_wp2_with fail
    go_ret
    exact ⟨⟨r, rfl, HR.out⟩, HG1.out⟩

set_option maxHeartbeats 1000000 in
theorem tov_any (v : Value) (k : Int) (LL : List (List Int)) (D : List Int) (w : World) (h : Vct w v k LL D) (hn : LL.length + totL LL + D.length ≤ 1048576) :
    Calls Try.prog 27 #[v] w fun e w' => ∃ u, e = .returned u ∧ w.grownBy w' none ∧ OwnVct w' w.heap.size u k LL D := by
  obtain ⟨x, y, rfl, hl⟩ := h.lyt
  have HZ := Lib.hid (fun w h => tol_any (.agg #[x, y]) LL D w h hn)
  obtain ⟨A, c, B, d, he, _⟩ := id hl
  cases he
  obtain ⟨n, hnn⟩ : ∃ n, LL.length = n := ⟨_, rfl⟩
  obtain ⟨m, hm⟩ : ∃ m, D.length = m := ⟨_, rfl⟩
  have HN := Lib.hid hnn
  have HM := Lib.hid hm
  rw [hnn, hm] at HZ hl ⊢
  have HL := Lib.hid hl
  clear h hn hnn hm hl
  go_enter Try.func27, Try.ntmps27
  go_wp2_with fail
  have hg0 : w.grownBy (((w.alloc (.cells #[.int .i64 k, .slice A n c, .slice B m d] 38)).alloc (.cells #[.int .i64 0, .slice none 0 0, .slice none 0 0] 42)).alloc (.cells #[.int .i64 k, .slice none 0 0, .slice none 0 0] 42)) none :=
    ((World.grownBy_alloc _ _ _).trans (World.grownBy_alloc _ _ _)).trans (World.grownBy_alloc _ _ _)
  have P1 := (Tri.new (w.alloc (.cells #[.int .i64 k, .slice A n c, .slice B m d] 38)) 42 (.int .i64 0) (.slice none 0 0) (.slice none 0 0)).alloc (.cells #[.int .i64 k, .slice none 0 0, .slice none 0 0] 42)
  have P2 := Tri.new ((w.alloc (.cells #[.int .i64 k, .slice A n c, .slice B m d] 38)).alloc (.cells #[.int .i64 0, .slice none 0 0, .slice none 0 0] 42)) 42 (.int .i64 k) (.slice none 0 0) (.slice none 0 0)
  rw [sz_alloc] at P1
  rw [sz_alloc, sz_alloc] at P2
  generalize ((w.alloc (.cells #[.int .i64 k, .slice A n c, .slice B m d] 38)).alloc (.cells #[.int .i64 0, .slice none 0 0, .slice none 0 0] 42)).alloc (.cells #[.int .i64 k, .slice none 0 0, .slice none 0 0] 42) = u0 at hg0 P1 P2 ⊢
  have hs0 : w.heap.size + 1 + 1 < u0.heap.size := P2.lt
  refine (HZ.out _ (HL.out.grown hg0)).mono ?_
  rintro e w1 ⟨u, rfl, hg1, ho1⟩
  obtain ⟨A1, c1, B1, d1, rfl, _⟩ := id ho1.lyt
  rw [HN.out, HM.out] at ho1 ⊢
  have Q1 := P1.grown hg1 (by simp)
  have Q2 := P2.grown hg1 (by simp)
  have HG1 := Lib.hid (hg0.trans hg1)
  have a0 := Q1.c0
  have a1 := Q1.c1
  have a2 := Q1.c2
  have f0 := Q1.f 0
  have f1 := Q1.f 1
  have f2 := Q1.f 2
  have b0 := Q2.c0
  have b1 := Q2.c1
  have b2 := Q2.c2
  have e0 := Q2.f 0
  have e1 := Q2.f 1
  have e2 := Q2.f 2
  have HQ1 := Lib.hid Q1
  have HQ2 := Lib.hid Q2
  have HO1 := Lib.hid ho1
  clear hg0 P1 P2 hg1 ho1 Q1 Q2
  go_wp2_with fail
  obtain ⟨g, hg⟩ : ∃ g, w.heap.size + 1 = g := ⟨_, rfl⟩
  obtain ⟨g2, hg2⟩ : ∃ g2, w.heap.size + 1 + 1 = g2 := ⟨_, rfl⟩
  have T2 := (HQ2.out.set1 (.slice A1 n c1)).set2 (.slice B1 m d1)
  have hgs := (gr_set w1 (w.heap.size + 1 + 1) 1 (.slice A1 n c1)).trans (gr_set (w1.setCell ⟨w.heap.size + 1 + 1, 1, none⟩ (.slice A1 n c1)) (w.heap.size + 1 + 1) 2 (.slice B1 m d1))
  have T1 := HQ1.out.grown hgs (by simp)
  have ho2 := HO1.out.keep (fun q hq hq2 => hgs.block q hq2 (by simp; omega))
  have hG2 := gr_ownF HG1.out hgs (fun q hq => by cases hq; omega)
  generalize (w1.setCell ⟨w.heap.size + 1 + 1, 1, none⟩ (.slice A1 n c1)).setCell ⟨w.heap.size + 1 + 1, 2, none⟩ (.slice B1 m d1) = w2 at T1 T2 hgs ho2 hG2 ⊢
  have S1 := ((T1.set0 (.int .i64 k)).set1 (.slice A1 n c1)).set2 (.slice B1 m d1)
  have hgz := ((gr_set w2 (w.heap.size + 1) 0 (.int .i64 k)).trans (gr_set _ (w.heap.size + 1) 1 (.slice A1 n c1))).trans (gr_set ((w2.setCell ⟨w.heap.size + 1, 0, none⟩ (.int .i64 k)).setCell ⟨w.heap.size + 1, 1, none⟩ (.slice A1 n c1)) (w.heap.size + 1) 2 (.slice B1 m d1))
  have r0 := S1.c0
  have r1 := S1.c1
  have r2 := S1.c2
  refine bodyPost_ret (v := .agg #[.int .i64 k, .slice A1 n c1, .slice B1 m d1]) (by simp [results, Try.results27, go_sem, r0, r1, r2]) rfl ?_
  have ho3 := ho2.keep (fun q hq hq2 => hgz.block q hq2 (by simp; omega))
  exact ⟨_, rfl, gr_ownF hG2 hgz (fun q hq => by cases hq; omega), _, _, rfl, ho3.lows (by omega)⟩

set_option maxHeartbeats 400000 in
theorem eqv_any (v u : Value) (k : Int) (LL : List (List Int)) (D : List Int) (w : World) (h : Vct w v k LL D) (h2 : Vct w u k LL D) (hn : LL.length + totL LL + D.length ≤ 1048576) :
    Calls Try.prog 29 #[v, u] w fun e w' => e = .returned (.bool true) ∧ w.grownBy w' none := by
  obtain ⟨x, y, rfl, hl⟩ := h.lyt
  obtain ⟨x2, y2, rfl, hl2⟩ := h2.lyt
  have hg := (World.grownBy_alloc w (.cells #[.int .i64 k, x, y] 42) none).trans (World.grownBy_alloc _ (.cells #[.int .i64 k, x2, y2] 42) none)
  have HE := Lib.hid (eql_any (.agg #[x, y]) (.agg #[x2, y2]) LL D _ (hl.grown hg) (hl2.grown hg) hn)
  have HG := Lib.hid hg
  obtain ⟨A, c, B, d, he, _⟩ := hl
  cases he
  obtain ⟨A2, c2, B2, d2, he2, _⟩ := hl2
  cases he2
  obtain ⟨n, hnn⟩ : ∃ n, LL.length = n := ⟨_, rfl⟩
  obtain ⟨m, hm⟩ : ∃ m, D.length = m := ⟨_, rfl⟩
  rw [hnn, hm] at HE HG ⊢
  have hkk : (k != k) = false := by simp
  clear h h2 hn hnn hm hg
  go_enter Try.func29, Try.ntmps29
  go_wp2_with fail
  refine HE.out.mono ?_
  rintro e w1 ⟨rfl, hg1⟩
  have HG1 := Lib.hid (HG.out.trans hg1)
  clear hg1
  go_wp2_with fail
  go_ret
  exact ⟨rfl, HG1.out⟩
end

/- LayS -/
section
open Go.RowKit

/-- Layouts in a row of pairs, each with all its memory between two marks of the heap, one above the other. -/
def LayS (Q : World → Nat → Value → List (List Int) → List Int → Prop) (w : World) (base j : Nat) (rb : Option Nat) (vs : List Value) (P : List (List (List Int) × List Int)) : Prop :=
  ∃ lo hi : Nat → Nat, (∀ i, i < j → base ≤ lo i ∧ hi i ≤ w.heap.size ∧ ∀ q, rb = some q → q < lo i ∨ hi i ≤ q) ∧ (∀ i k, i < k → k < j → hi i ≤ lo k) ∧
    ∀ (i : Nat) (p : List (List Int) × List Int), i < j → P[i]? = some p → ∃ x y u, vs[i * 2]? = some x ∧ vs[i * 2 + 1]? = some y ∧ Q u (lo i) (.agg #[x, y]) p.1 p.2 ∧ u.heap.size = hi i ∧ ∀ k, lo i ≤ k → k < hi i → w.heap[k]? = u.heap[k]?
theorem LayS.zero (Q : World → Nat → Value → List (List Int) → List Int → Prop) (w : World) (base : Nat) (rb : Option Nat) (P : List (List (List Int) × List Int)) : LayS Q w base 0 rb [] P :=
  ⟨fun _ => 0, fun _ => 0, fun _ h => by omega, fun _ _ _ h => by omega, fun _ _ h => by omega⟩
theorem LayS.more {Q : World → Nat → Value → List (List Int) → List Int → Prop} {wo w1 w5 w6 w8 : World} {base j : Nat} {rb rb' : Option Nat} {vs : List Value} {P : List (List (List Int) × List Int)} {x y : Value} {p : List (List Int) × List Int} (h : LayS Q wo base j rb vs P) (hb : base ≤ wo.heap.size) (hv : vs.length = j * 2) (hp : P[j]? = some p)
    (h1 : wo.grownBy w1 none) (hl : Q w5 w1.heap.size (.agg #[x, y]) p.1 p.2) (h5 : w1.grownBy w5 none) (h6 : w5.grownBy w6 none) (h8 : w6.grownBy w8 rb) (hrb : ∀ q, rb = some q → q < wo.heap.size) (hrb' : ∀ q, rb' = some q → rb = some q ∨ w6.heap.size ≤ q) : LayS Q w8 base (j + 1) rb' (vs ++ [x, y]) P := by
  obtain ⟨lo, hi, a1, a2, a3⟩ := h
  have s1 := h1.size
  have s5 := h5.size
  have s6 := h6.size
  have s8 := h8.size
  refine ⟨fun i => if i = j then w1.heap.size else lo i, fun i => if i = j then w5.heap.size else hi i, fun i hij => ?_, fun i k hik hkj => ?_, fun i q hij hq => ?_⟩
  · by_cases e : i = j
    · subst e
      simp only [if_pos]
      refine ⟨by omega, by omega, fun q hq => ?_⟩
      rcases hrb' q hq with h9 | h9
      · have := hrb q h9; left; omega
      · right; omega
    · simp only [if_neg e]
      obtain ⟨b1, b2, b3⟩ := a1 i (by omega)
      refine ⟨b1, by omega, fun q hq => ?_⟩
      rcases hrb' q hq with h9 | h9
      · exact b3 q h9
      · right; omega
  · have e : i ≠ j := by omega
    simp only [if_neg e]
    by_cases e2 : k = j
    · simp only [if_pos e2]
      have := (a1 i (by omega)).2.1
      omega
    · simp only [if_neg e2]
      exact a2 i k hik (by omega)
  · by_cases e : i = j
    · subst e
      rw [hp] at hq
      cases hq
      simp only [if_pos]
      refine ⟨x, y, w5, ?_, ?_, hl, rfl, fun k hk1 hk2 => ?_⟩
      · rw [List.getElem?_append_right (by omega), hv]; simp
      · rw [List.getElem?_append_right (by omega), hv]; simp
      · exact (h8.block k (by omega) (fun e => by have := hrb k e.symm; omega)).trans (h6.block k hk2 (by simp))
    · simp only [if_neg e]
      obtain ⟨x', y', u, k1, k2, k3, k4, k5⟩ := a3 i q (by omega) hq
      obtain ⟨b1, b2, b3⟩ := a1 i (by omega)
      refine ⟨x', y', u, by rw [List.getElem?_append_left (by have := (List.getElem?_eq_some_iff.1 k1).1; omega)]; exact k1, by rw [List.getElem?_append_left (by have := (List.getElem?_eq_some_iff.1 k2).1; omega)]; exact k2, k3, k4, fun k hk1 hk2 => ?_⟩
      have hne : some k ≠ rb := fun e => by rcases b3 k e.symm with h | h <;> omega
      exact (h8.block k (by omega) hne).trans ((h6.block k (by omega) (by simp)).trans ((h5.block k (by omega) (by simp)).trans ((h1.block k (by omega) (by simp)).trans (k5 k hk1 hk2))))
theorem LayS.at {w : World} {base j : Nat} {rb : Option Nat} {vs : List Value} {P : List (List (List Int) × List Int)} (h : LayS OwnLyt w base j rb vs P) {i : Nat} {p : List (List Int) × List Int} (hi : i < j) (hp : P[i]? = some p) : ∃ x y, vs[i * 2]? = some x ∧ vs[i * 2 + 1]? = some y ∧ OwnLyt w base (.agg #[x, y]) p.1 p.2 := by
  obtain ⟨lo, hh, a1, a2, a3⟩ := h
  obtain ⟨x, y, u, k1, k2, k3, k4, k5⟩ := a3 i p hi hp
  exact ⟨x, y, k1, k2, OwnLyt.lows (k3.keep (fun g h1 h2 => k5 g h1 (by omega))) (a1 i hi).1⟩
theorem LayS.prs {w : World} {base j : Nat} {rb : Option Nat} {vs : List Value} {P : List (List (List Int) × List Int)} (h : LayS OwnLyt w base j rb vs P) : Prs w base j vs P := fun _ _ hi hp => h.at hi hp
end

/- InnQ -/
section
open Go.RowKit

theorem OwnLytQ.keep {w w' : World} {base : Nat} {v : Value} {LL : List (List Int)} {D : List Int} (h : OwnLytQ w base v LL D) (hk : ∀ g, base ≤ g → g < w.heap.size → w'.heap[g]? = w.heap[g]?) : OwnLytQ w' base v LL D := by
  obtain ⟨A, c, d, vs, rfl, hc, ho, hf⟩ := h
  exact ⟨A, c, d, vs, rfl, hc, own_keep ho (fun g hg => hk g (ho.lt g hg).1 (ho.lt g hg).2), hf.kept (fun i L v g hi hL hv hl hg => hk g (hf.lt hi hL hv hl hg).1 (hf.lt hi hL hv hl hg).2)⟩
theorem laid_ownq {w : World} {base g c : Nat} {d : Value} {LL : List (List Int)} {D : List Int} (h : LaidAt w base g c d LL D) : OwnLytQ w base (.agg #[.slice (some ⟨g, 0, none⟩) LL.length c, d]) LL D := by
  obtain ⟨vs, ho, hr⟩ := h
  have hlen : vs.length = LL.length := by have := ho.1; omega
  have hc : LL.length ≤ c := by
    rcases ho.2 with ⟨hv, _⟩ | ⟨_, _, _, hv, _, _, hnc, _⟩
    · cases hv
    · simp only [Value.slice.injEq] at hv; omega
  refine ⟨_, c, d, vs, rfl, hc, ho, fun i L hi hL => ?_, fun i i' v u L L' g _ _ hne hv hu _ _ _ _ hg => hr.2.2 i i' v u g hne hv hu hg⟩
  have hiv : i < (vs ++ [d]).length := by simp; omega
  have how := hr.2.1 i _ L (List.getElem?_eq_getElem hiv) hL
  refine ⟨_, List.getElem?_eq_getElem hiv, ?_⟩
  obtain ⟨A, n, c2, hv⟩ := own_form how
  rw [hv] at how ⊢
  obtain ⟨rfl, _, h3, _⟩ := row_reads how
  exact ⟨A, c2, rfl, h3, fun _ => how⟩
theorem LytQ.lytc {w : World} {v : Value} {LL : List (List Int)} {D : List Int} (h : LytQ w v LL D) : LytC w v LL D := by
  obtain ⟨A, c, B, e, rfl, h1, h2, h3⟩ := h
  obtain ⟨_, h4, h5, h6⟩ := h2.ints
  refine ⟨A, c, B, e, rfl, h1, h4, fun hl => ?_, h5, h6, fun w' j L hg hL b off e2 => ?_⟩
  · obtain ⟨g, off, rfl, hg, hc⟩ := h3 hl
    refine ⟨g, off, rfl, hg, fun j L hj => ?_⟩
    obtain ⟨x, hx, hs⟩ := hc j L hj
    obtain ⟨A2, c2, rfl⟩ := hs.form
    obtain ⟨_, h6, h7, _⟩ := hs.ints
    exact ⟨A2, c2, hx, h6, h7⟩
  · obtain ⟨g, off2, e3, hg2, hc⟩ := h3 (by have := (List.getElem?_eq_some_iff.1 hL).1; omega)
    rw [e2] at e3
    cases e3
    obtain ⟨x, hx, hs⟩ := hc j L hL
    obtain ⟨A2, c2, rfl⟩ := hs.form
    obtain ⟨_, h6, h7, h8⟩ := hs.ints
    exact ⟨A2, c2, hg.cell hx (by simp), h7.grown hg (by simp), h8, h6⟩
theorem LayS.atq {w : World} {base j : Nat} {rb : Option Nat} {vs : List Value} {P : List (List (List Int) × List Int)} (h : LayS OwnLytQ w base j rb vs P) {i : Nat} {p : List (List Int) × List Int} (hi : i < j) (hp : P[i]? = some p) : ∃ x y, vs[i * 2]? = some x ∧ vs[i * 2 + 1]? = some y ∧ LytC w (.agg #[x, y]) p.1 p.2 := by
  obtain ⟨lo, hh, a1, a2, a3⟩ := h
  obtain ⟨x, y, u, k1, k2, k3, k4, k5⟩ := a3 i p hi hp
  exact ⟨x, y, k1, k2, (k3.keep (fun g h1 h2 => k5 g h1 (by omega))).lytq.lytc⟩
theorem LayS.lysc {w : World} {base base' c : Nat} {A : Option Addr} {rb : Option Nat} {vs : List Value} {P : List (List (List Int) × List Int)} (h : LayS OwnLytQ w base P.length rb vs P) (ho : w.ownsRow base' 28 2 (.slice A P.length c) P.length vs) : LysC w A P := fun hl => by
  rcases ho.2 with ⟨hv, hn⟩ | ⟨g, cap, cur, hv, _, hg, hnc, _, hcs, htake⟩
  · omega
  · cases hv
    refine ⟨g, 0, rfl, (Array.getElem?_eq_some_iff.1 hg).1, fun j p hj => ?_⟩
    have hjl : j < P.length := (List.getElem?_eq_some_iff.1 hj).1
    obtain ⟨x, y, h1, h2, h3⟩ := h.atq hjl hj
    refine ⟨x, y, ?_, ?_, h3⟩
    · rw [Nat.zero_add, cell_of_row w g (j * 2) _ _ (0, 0) hg]
      have : (cur.toList.take (P.length * 2))[j * 2]? = some x := by rw [htake]; exact h1
      rw [List.getElem?_take, if_pos (by omega)] at this
      simpa using this
    · rw [Nat.zero_add, cell_of_row w g (j * 2 + 1) _ _ (0, 0) hg]
      have : (cur.toList.take (P.length * 2))[j * 2 + 1]? = some y := by rw [htake]; exact h2
      rw [List.getElem?_take, if_pos (by omega)] at this
      simpa using this

/-! ### How much one part holds -/
theorem okl_head {d : Nat} {t : T d} {ts : List (T d)} (h : ∀ M ∈ lv d (t :: ts), okN 400 M = true) : ∀ M ∈ lv d [t], okN 400 M = true := fun M hM => by
  have h2 := (cut_arr d 1 (t :: ts) (by simp)).1
  simp only [List.take_succ_cons, List.take_zero] at h2
  obtain ⟨j, hj⟩ := List.getElem?_of_mem hM
  have hjl : j < (lv d (t :: ts)).length := by rw [lv_len]; have := (List.getElem?_eq_some_iff.1 hj).1; rwa [lv_len] at this
  have h3 := cutP_at _ 1 j _ (List.getElem?_eq_getElem hjl)
  rw [h2, hj] at h3
  simp only [Option.some.injEq] at h3
  rw [h3]
  exact okN_take (h _ (List.getElem_mem hjl)) _
theorem okl_rest {d : Nat} {t : T d} {ts : List (T d)} (h : ∀ M ∈ lv d (t :: ts), okN 400 M = true) : ∀ M ∈ lv d ts, okN 400 M = true := fun M hM => by
  have h2 := (cut_arr d 1 (t :: ts) (by simp)).2.1
  simp only [List.drop_succ_cons, List.drop_zero] at h2
  obtain ⟨j, hj⟩ := List.getElem?_of_mem hM
  have hjl : j < (lv d (t :: ts)).length := by rw [lv_len]; have := (List.getElem?_eq_some_iff.1 hj).1; rwa [lv_len] at this
  have h3 := cutR_at _ 1 j _ (List.getElem?_eq_getElem hjl)
  rw [h2, hj] at h3
  simp only [Option.some.injEq] at h3
  rw [h3]
  exact okN_drop (h _ (List.getElem_mem hjl)) _
theorem okl_mem {d : Nat} : ∀ {ts : List (T d)} {s : T d}, s ∈ ts → (∀ M ∈ lv d ts, okN 400 M = true) → ∀ M ∈ lv d [s], okN 400 M = true
  | t :: ts, s, h, hk => by
    rcases List.mem_cons.1 h with rfl | h
    · exact okl_head hk
    · exact okl_mem h (okl_rest hk)
theorem small_all : ∀ (d : Nat) (ts : List (T d)), (∀ M ∈ lv d ts, okN 400 M = true) → (dat d ts).length ≤ ts.length * 400 ^ d ∧ ∀ M ∈ lv d ts, M.length ≤ ts.length * 400 ^ d
  | 0, ts, _ => by
    refine ⟨?_, fun M hM => by simp [lv] at hM⟩
    have : (dat 0 ts).length = ts.length := List.length_map _
    omega
  | d + 1, ts, h => by
    have h0 := h (ts.map fun t => ((prt t).length : Int)) (by simp [lv])
    have hb := (sumI_bound h0).2
    rw [← flat_len, List.length_map] at hb
    obtain ⟨i1, i2⟩ := small_all d (ts.flatMap prt) (fun M hM => h M (by simp [lv, hM]))
    have hf : (ts.flatMap prt).length ≤ 400 * ts.length := by omega
    have hm : (ts.flatMap prt).length * 400 ^ d ≤ ts.length * 400 ^ (d + 1) := by
      have := Nat.mul_le_mul_right (400 ^ d) hf
      calc _ ≤ 400 * ts.length * 400 ^ d := this
        _ = ts.length * 400 ^ (d + 1) := by rw [Nat.pow_succ, Nat.mul_comm 400 ts.length, Nat.mul_assoc, Nat.mul_comm 400]
    have hp : 1 ≤ 400 ^ (d + 1) := Nat.pow_pos (by decide)
    refine ⟨Nat.le_trans i1 hm, fun M hM => ?_⟩
    simp only [lv, List.mem_cons] at hM
    rcases hM with rfl | hM
    · rw [List.length_map]
      exact Nat.le_mul_of_pos_right _ hp
    · exact Nat.le_trans (i2 M hM) hm
theorem part_small {d : Nat} {t : T (d + 1)} {s : T d} (hd : d ≤ 2) (hs : s ∈ prt t) (h : OkL (lv (d + 1) [t])) : (dat d [s]).length ≤ 160000 ∧ (∀ M ∈ lv d [s], M.length ≤ 160000) ∧ (prt t).length ≤ 400 := by
  rw [lv_one] at h
  have hk : ∀ M ∈ lv d (prt t), okN 400 M = true := fun M hM => by
    obtain ⟨j, hj⟩ := List.getElem?_of_mem hM
    exact (h (j + 1) M (by simpa using hj)).1
  obtain ⟨h1, h2⟩ := small_all d [s] (okl_mem hs hk)
  have h3 : 400 ^ d ≤ 160000 := by
    match d, hd with
    | 0, _ => decide
    | 1, _ => decide
    | 2, _ => decide
  simp only [List.length_singleton, Nat.one_mul] at h1 h2
  have h4 := (h 0 _ rfl).1
  simp only [okN, Bool.and_eq_true, decide_eq_true_eq] at h4
  exact ⟨by omega, fun M hM => Nat.le_trans (h2 M hM) h3, by omega⟩
end

/- InnerI -/
section
open Go.RowKit

/-- A layout that fits is that of one array. -/
theorem one_of {LL : List (List Int)} {D : List Int} {d : Nat} (h : wrong LL D = -1) (hl : LL.length = d + 1) : ∃ t : T (d + 1), LL = lv (d + 1) [t] ∧ D = dat (d + 1) [t] ∧ foldN (d + 1) LL D = [t] := by
  obtain ⟨_, hf⟩ := wrong_fits h
  obtain ⟨h1, h2⟩ := fold_lv (d + 1) 1 LL D hl hf
  have h3 : (foldN (d + 1) LL D).length = 1 := by
    cases LL with
    | nil => simp at hl
    | cons L LL =>
      have h4 := hf.1
      simp only [lv] at h1
      have h5 := (List.cons.inj h1).1
      have h6 := congrArg List.length h5
      rw [List.length_map] at h6
      omega
  obtain ⟨t, ht⟩ := List.length_eq_one_iff.1 h3
  exact ⟨t, by rw [← ht, h1], by rw [← ht, h2], ht⟩
theorem okl_of {LL : List (List Int)} {D : List Int} (h : wrong LL D = -1) (hm : ∀ M ∈ LL, M.length ≤ 1048576) : OkL LL := fun j L hL => by
  obtain ⟨_, hf⟩ := wrong_fits h
  exact ⟨(fits_drop hf hL).1, hm L (List.mem_of_getElem? hL)⟩

theorem LytQ.lyt {w : World} {v : Value} {LL : List (List Int)} {D : List Int} (h : LytQ w v LL D) : Lyt w v LL D := by
  obtain ⟨A, c, B, e, rfl, h1, h2, h3⟩ := h
  obtain ⟨_, h4, h5, _⟩ := h2.ints
  refine ⟨A, c, B, e, rfl, h1, h4, fun hl => ?_, h5⟩
  obtain ⟨g, off, rfl, hg, hc⟩ := h3 hl
  refine ⟨g, off, rfl, hg, fun j L hj => ?_⟩
  obtain ⟨x, hx, hs⟩ := hc j L hj
  obtain ⟨A2, c2, rfl⟩ := hs.form
  obtain ⟨_, h6, h7, _⟩ := hs.ints
  exact ⟨A2, c2, hx, h6, h7⟩
theorem arf_gr {base B d : Nat} {t : T d} {w w' : World} {x y : Value} (h : ArF base B d t w x y) (hg : w.grownBy w' none) : ArF base B d t w' x y := by
  obtain ⟨hx, P, cP, ps, rfl, ho, hp⟩ := h
  refine ⟨slb_gr hx hg, P, cP, ps, rfl, own_keep ho (fun q hq => hg.block q (ho.lt q hq).2 (by simp)), fun i L hL => ?_⟩
  obtain ⟨v, hv, hs⟩ := hp i L hL
  exact ⟨v, hv, slb_gr hs hg⟩
theorem arf_layout {base B d : Nat} {t : T d} {w : World} {x y : Value} (h : ArF base B d t w x y) (hd : d ≤ 3) (hm : ∀ M ∈ lv d [t], M.length ≤ 1048576) (hdl : (dat d [t]).length ≤ 1048576) :
    Calls Try.prog 80 #[.agg #[x, y]] w fun e w' => ∃ u, e = .returned u ∧ w.grownBy w' none ∧ OwnLyt w' w.heap.size u (lv d [t]) (dat d [t]) := by
  obtain ⟨hx, P, cP, ps, rfl, ho, hp⟩ := h
  obtain ⟨A, c, rfl⟩ := hx.form
  obtain ⟨_, h1, h2, h3⟩ := hx.ints
  have hll := lv_len d [t]
  have hpl : ps.length = d := by have := ho.1; omega
  have hcell := fun g => ho.cells (g := g)
  have hloc : ∀ b off, P = some ⟨b, off, none⟩ → off = 0 ∧ b < w.heap.size := fun b off e => by
    rcases ho.2 with ⟨hv, _⟩ | ⟨g, cap, cur, hv, _, hg, _⟩
    · cases hv; cases e
    · cases hv
      cases e
      exact ⟨rfl, (Array.getElem?_eq_some_iff.1 hg).1⟩
  have hrow : ∀ (j : Nat) (L : List Int), (lv d [t])[j]? = some L → ∀ b off, P = some ⟨b, off, none⟩ → ∃ Aj cj, w.cell? ⟨b, off + j, none⟩ = some (.slice Aj L.length cj) ∧ Ints w Aj L ∧ (Aj = none → cj = 0) ∧ L.length ≤ cj := fun j L hL b off e => by
    obtain ⟨v, hv, hs⟩ := hp j L hL
    obtain ⟨A2, c2, rfl⟩ := hs.form
    obtain ⟨_, h6, h7, h8⟩ := hs.ints
    obtain ⟨rfl, _⟩ := hloc b off e
    exact ⟨A2, c2, by have := hcell b (by rw [e]; rfl) j _ hv; rw [addr_flat] at this; exact this, h7, h8, h6⟩
  have hR : Rws w P (lv d [t]) := fun hl => by
    rcases ho.2 with ⟨hv, hn⟩ | ⟨g, cap, cur, hv, _, hg, _⟩
    · omega
    · cases hv
      refine ⟨g, 0, rfl, (Array.getElem?_eq_some_iff.1 hg).1, fun j L hj => ?_⟩
      obtain ⟨Aj, cj, k1, k2, _, k4⟩ := hrow j L hj g 0 rfl
      exact ⟨Aj, cj, k1, k4, k2⟩
  have := layout_any P A cP c (lv d [t]) (dat d [t]) w hR h2 (by omega) hm hdl h1 h3 (fun w' j L hg hL b off e => by
    obtain ⟨Aj, cj, k1, k2, k3, k4⟩ := hrow j L hL b off e
    exact ⟨Aj, cj, hg.cell k1 (by simp), k2.grown hg (by simp), k3, k4⟩)
  rwa [hll] at this

/-- The parts of an array, laid flat. -/
def partsP {d : Nat} (t : T (d + 1)) : List (List (List Int) × List Int) := (prt t).map fun s => (lv d [s], dat d [s])

set_option maxRecDepth 100000 in
set_option maxHeartbeats 4000000 in
theorem innerof_some (d : Nat) (t : T (d + 1)) (v : Value) (w : World) (hd : d ≤ 2) (h : LytQ w v (lv (d + 1) [t]) (dat (d + 1) [t])) (hv : wrong (lv (d + 1) [t]) (dat (d + 1) [t]) = -1) (hn : (lv (d + 1) [t]).length + totL (lv (d + 1) [t]) + (dat (d + 1) [t]).length ≤ 1048576)
    (hpt : ∀ s ∈ prt t, (∀ M ∈ lv d [s], M.length ≤ 1048576) ∧ (dat d [s]).length ≤ 1048576) (hpn : (prt t).length ≤ 1048576) :
    Calls Try.prog 36 #[v] w fun e w' => ∃ A c vs, e = .returned (.tuple #[.slice A (prt t).length c, .bool true]) ∧ w.grownBy w' none ∧ w'.ownsRow w.heap.size 28 2 (.slice A (prt t).length c) (prt t).length vs ∧ LayS OwnLyt w' w.heap.size (prt t).length (Value.slice A (prt t).length c).ownBlock vs (partsP t) := by
  obtain ⟨i0, hi0, hz0, hz1, hz2⟩ : ∃ i : TypeInfo, Try.prog.info? 28 = some i ∧ i.zero = some (.agg #[.slice none 0 0, .slice none 0 0]) ∧ i.size = 2 ∧ i.bytes = 48 := by
    obtain ⟨i, hi, hzz⟩ := Option.map_eq_some_iff.1 infoY
    simp only [Prod.mk.injEq] at hzz
    exact ⟨i, hi, hzz.1, hzz.2.1, hzz.2.2⟩
  have hok := okl_of hv (fun M hM => by
    obtain ⟨i, hi⟩ := List.getElem?_of_mem hM
    have := totL_at hi
    omega)
  have HV := Lib.hid (fun u (hg : w.grownBy u none) => layok_any v _ _ u (h.grown hg).lyt hn)
  rw [hv] at HV
  obtain ⟨A, c, B, e, rfl, hc, _⟩ := id h
  rw [lv_len] at h hc HV ⊢
  have HI := Lib.hid (fun u (hg : w.grownBy u none) => inner_any d t A B c e u (by omega) (h.grown hg) hok hpn)
  obtain ⟨m, hm⟩ : ∃ m, (dat (d + 1) [t]).length = m := ⟨_, rfl⟩
  obtain ⟨n, hnn⟩ : ∃ n, (prt t).length = n := ⟨_, rfl⟩
  rw [hm, hnn] at HI
  rw [hm] at HV
  rw [hm, hnn]
  rw [hnn] at hpn
  have HN := Lib.hid hnn
  have HPT := Lib.hid hpt
  have hg0 := World.grownBy_alloc w (.cells #[.slice A (d + 1) c, .slice B m e] 28) none
  have HG0 := Lib.hid hg0
  have P0 := Pr.new w 28 (.slice A (d + 1) c) (.slice B m e)
  have HP0 := Lib.hid P0
  have HFL := Lib.hid (fun u => flatof_any A B (d + 1) c m e u)
  have hdd : ((d : Int) + 1 == 0) = false := by simp; omega
  clear h hm hnn hpt hok hn hv hg0 P0
  go_enter Try.func36, Try.ntmps36
  have p0 := HP0.out.c0
  have p1 := HP0.out.c1
  go_wp2_with fail
  generalize w.alloc (.cells #[.slice A (d + 1) c, .slice B m e] 28) = w1 at HG0 HP0 p0 p1 ⊢
  refine (HV.out w1 HG0.out).mono ?_
  rintro ee w2 ⟨rfl, hg2⟩
  have P2 := HP0.out.grown hg2 (by simp)
  have HP2 := Lib.hid P2
  have HG2 := Lib.hid (HG0.out.trans hg2)
  clear p0 p1 HP0 HG0
  have p0 := P2.c0
  have p1 := P2.c1
  clear P2 hg2
  go_wp2_with fail
  refine (HFL.out w2).mono ?_
  rintro ee w3 ⟨rfl, hg3⟩
  have HG3 := Lib.hid (HG2.out.trans hg3)
  clear hg3 p0 p1
  go_wp2_with fail
  refine (HI.out w3 HG3.out).mono ?_
  rintro ee w4 ⟨bb, ga, rfl, hg4, hbb, hbg, har⟩
  have HG4 := Lib.hid (HG3.out.trans hg4)
  have HAR := Lib.hid har
  have HAF := Lib.hid (fun (u : World) (hg : w4.grownBy u none) (j : Nat) (s : T d) (hs : (prt t)[j]? = some s) => (by
    obtain ⟨cur, hc1, hc2, hc3⟩ := HAR.out
    have hjn : j < n := by have := (List.getElem?_eq_some_iff.1 hs).1; have := HN.out; omega
    obtain ⟨x, y, hx, hy, haf⟩ := hc3 j s hjn hs
    obtain ⟨k1, k2⟩ := HPT.out s (List.mem_of_getElem? hs)
    refine ⟨x, y, ?_, ?_, ?_, ?_⟩
    · exact hg.cell (show w4.cell? ⟨ga, j * 2, none⟩ = some x by rw [cell_of_row w4 ga (j * 2) _ _ (0, 0) hc1]; exact hx) (by simp)
    · exact hg.cell (show w4.cell? ⟨ga, j * 2 + 1, none⟩ = some y by rw [cell_of_row w4 ga (j * 2 + 1) _ _ (0, 0) hc1]; exact hy) (by simp)
    · obtain ⟨⟨a1, a2, a3, _⟩, b1, b2, _, b3, _⟩ := haf
      exact ⟨a1, a2, b1, b2, a3, b3⟩
    · exact fun u' hg' => arf_layout (arf_gr haf (hg.trans hg')) (by omega) k1 k2 : ∃ x y, u.cell? ⟨ga, j * 2, none⟩ = some x ∧ u.cell? ⟨ga, j * 2 + 1, none⟩ = some y ∧ (∃ a1 a2 b1 b2, x = .slice a1 (dat d [s]).length a2 ∧ y = .slice b1 d b2) ∧ ∀ u', u.grownBy u' none → Calls Try.prog 80 #[.agg #[x, y]] u' fun e w' => ∃ z, e = .returned z ∧ u'.grownBy w' none ∧ OwnLyt w' u'.heap.size z (lv d [s]) (dat d [s])))
  clear hg4 har hbb hbg HI HFL HV HP2 HG2 HG3
  go_wp2_with fail
  go_loopw [4, 20] (fun o i wr => ∃ (j : Nat) (Ax : Option Addr) (cx : Nat) (vs : List Value), j ≤ n ∧ i = .int .i64 j ∧ o = .slice Ax j cx ∧ Hid (wr.ownsRow w4.heap.size 28 2 (.slice Ax j cx) j vs) ∧ Hid (LayS OwnLyt wr w.heap.size j (Value.slice Ax j cx).ownBlock vs (partsP t)) ∧ Hid (w4.grownBy wr none)) (fun _ i _ => n - (intOf i).toNat)
  case atStart => exact ⟨0, _, 0, [], Nat.zero_le _, rfl, rfl, Lib.hid (World.ownsRow_nil _ _ _ _), Lib.hid (LayS.zero _ _ _ _ _), Lib.hid (gr_refl _ _)⟩
  case round =>
    obtain ⟨j, Ax, cx, vs, hj, rfl, rfl, ho, hls, hgr⟩ := hrel
    obtain ⟨wo, rfl⟩ : ∃ wo : World, wo = wr := ⟨_, rfl⟩
    by_cases hlt : j < n
    · obtain ⟨s, hs⟩ : ∃ s, (prt t)[j]? = some s := ⟨_, List.getElem?_eq_getElem (by have := HN.out; omega)⟩
      obtain ⟨x, y, hx, hy, ⟨a1, a2, b1, b2, rfl, rfl⟩, hlc⟩ := HAF.out wo hgr.out j s hs
      obtain ⟨q, hq⟩ : ∃ q, (dat d [s]).length = q := ⟨_, rfl⟩
      rw [hq] at hx hlc
      have HS := Lib.hid hs
      have HQ := Lib.hid hq
      have HLC := Lib.hid hlc
      clear hs hlc hq
      go_wp2_with fail
      have hgb := World.grownBy_alloc wo (.cells #[.slice a1 q a2, .slice b1 d b2] 85) none
      refine (HLC.out _ hgb).mono ?_
      rintro ee w5 ⟨u, rfl, hg5, hu5⟩
      obtain ⟨A6, c6, B6, d6, hu6, _⟩ := id hu5.lyt
      subst hu6
      rw [HQ.out, lv_len] at hu5 ⊢
      have hgA := (hgb.trans hg5).trans (World.grownBy_alloc w5 (.cells #[.slice A6 d c6, .slice B6 q d6] 28) none)
      have hown2 := own_keep ho.out (fun k hk => hgA.block k (ho.out.lt k hk).2 (by simp))
      have hbw := (gr_refl w none).size
      have HWO := Lib.hid (show w.heap.size ≤ wo.heap.size from (HG4.out.trans hgr.out).size)
      have HMR := Lib.hid (fun (w8 : World) (rb' : Option Nat) (h8 : (w5.alloc (.cells #[.slice A6 d c6, .slice B6 q d6] 28)).grownBy w8 (Value.slice Ax j cx).ownBlock) (hrb : ∀ k, rb' = some k → (Value.slice Ax j cx).ownBlock = some k ∨ (w5.alloc (.cells #[.slice A6 d c6, .slice B6 q d6] 28)).heap.size ≤ k) =>
        hls.out.more (rb' := rb') HWO.out (show vs.length = j * 2 from ho.out.1) (show (partsP t)[j]? = some (lv d [s], dat d [s]) by unfold partsP; rw [List.getElem?_map, HS.out]; rfl) hgb hu5 hg5 (World.grownBy_alloc _ _ _) h8 (fun k hk => (ho.out.lt k hk).2) hrb)
      have HGA := Lib.hid (hgr.out.trans hgA)
      have HNL := Lib.hid (fun (k : Nat) (v : Value) (hk : ([.slice A6 d c6, .slice B6 q d6] : List Value)[k]? = some v) => (World.news_of_block (cs := #[.slice A6 d c6, .slice B6 q d6]) (heap_alloc_new w5 (.cells #[.slice A6 d c6, .slice B6 q d6] 28)) k v hk : (w5.alloc (.cells #[.slice A6 d c6, .slice B6 q d6] 28)).cell? ((⟨w5.heap.size, 0, none⟩ : Addr).add k) = some v))
      have hszB : w4.heap.size ≤ w5.heap.size + 1 := by have := hgr.out.size; have := hgA.size; simp at this; omega
      clear hg5 hgb hgA ho hls HLC hu5 hgr hbw
      go_wp2_with (at_builtin; refine wpList_append_own_at _ rfl _ _ 51 rfl w4.heap.size 28 i0 (.agg #[.slice none 0 0, .slice none 0 0]) 2 48 Try.underlying51 hi0 hz0 hz1 hz2 rfl (by decide) _ _ _ rfl hown2 ⟨w5.heap.size, 0, none⟩ 1 1 [.slice A6 d c6, .slice B6 q d6] rfl rfl HNL.out ?c2 ?c3 ?c4 ?c5 ?_)
      case c2 => simp [Value.oneCell']
      case c3 => simp only [maxLen]; omega
      case c4 => omega
      case c5 => (try simp only [World.size_alloc]); omega
      intro v8 w8 hown8 hg8 _ hat8
      obtain ⟨g8, c8, rfl⟩ : ∃ g c, v8 = .slice (some ⟨g, 0, none⟩) (j + 1) c := by
        rcases hown8.2 with ⟨_, hn⟩ | ⟨g, cap, cur, hv, _⟩
        · omega
        · exact ⟨g, cap, hv⟩
      have HMS := Lib.hid (HMR.out w8 (Value.slice (some ⟨g8, 0, none⟩) (j + 1) c8).ownBlock hg8 (fun k hk => by
        rcases hat8 with h | h
        · left; rw [← h]; exact hk
        · right; rw [h] at hk; cases hk; simp))
      have HO8 := Lib.hid hown8
      have HG8 := Lib.hid (show w4.grownBy w8 none from gr_ownF HGA.out hg8 (fun k hk => (hown2.lt k hk).1))
      clear hown8 hg8 hat8 hown2 HNL HMR
      go_wp2_with fail
      go_roundw
      case rel => exact ⟨j + 1, _, c8, _, by omega, by go_num, rfl, HO8, HMS, HG8⟩
      case measure => simp [intOf]; omega
    · have hjn : j = n := by omega
      subst hjn
      go_wp2_with fail
      refine bodyPost_ret (v := .tuple #[.slice Ax j cx, .bool true]) (by simp [results, Try.results36, go_sem]) rfl ?_
      exact ⟨_, _, _, rfl, HG4.out.trans hgr.out, own_base ho.out HG4.out.size, hls.out⟩

set_option maxHeartbeats 1000000 in
theorem innerof_none (v : Value) (LL : List (List Int)) (D : List Int) (w : World) (h : Lyt w v LL D) (hn : LL.length + totL LL + D.length ≤ 1048576) (hb : ¬ wrong LL D = -1 ∨ LL.length = 0) :
    Calls Try.prog 36 #[v] w fun e w' => e = .returned (.tuple #[.slice none 0 0, .bool false]) ∧ w.grownBy w' none := by
  have HV := Lib.hid (fun u (hg : w.grownBy u none) => layok_any v LL D u (h.grown hg) hn)
  obtain ⟨A, c, B, e, rfl, _⟩ := h
  obtain ⟨m, hm⟩ : ∃ m, D.length = m := ⟨_, rfl⟩
  obtain ⟨n, hnn⟩ : ∃ n, LL.length = n := ⟨_, rfl⟩
  rw [hm, hnn] at HV
  rw [hnn] at hb hn
  rw [hm, hnn]
  obtain ⟨bv, hbv⟩ : ∃ bv, decide (wrong LL D = -1) = bv := ⟨_, rfl⟩
  rw [hbv] at HV
  have hor : bv = false ∨ n = 0 := by
    rcases hb with h | h
    · left; rw [← hbv]; simpa using h
    · exact .inr h
  have HP := Lib.hid (Pr.new w 28 (.slice A n c) (.slice B m e))
  have HG0 := Lib.hid (World.grownBy_alloc w (.cells #[.slice A n c, .slice B m e] 28) none)
  clear hb hm hnn hbv hn
  have p0 := HP.out.c0
  have p1 := HP.out.c1
  cases bv with
  | false =>
    go_enter Try.func36, Try.ntmps36
    go_wp2_with fail
    refine (HV.out _ HG0.out).mono ?_
    rintro ee w2 ⟨rfl, hg2⟩
    go_wp2_with fail
    refine bodyPost_ret (v := .tuple #[.slice none 0 0, .bool false]) (by simp [results, Try.results36, go_sem]) rfl ?_
    exact ⟨rfl, HG0.out.trans hg2⟩
  | true =>
    obtain rfl : n = 0 := by simpa using hor
    go_enter Try.func36, Try.ntmps36
    go_wp2_with fail
    refine (HV.out _ HG0.out).mono ?_
    rintro ee w2 ⟨rfl, hg2⟩
    have P2 := HP.out.grown hg2 (by simp)
    have q0 := P2.c0
    have q1 := P2.c1
    clear P2
    go_wp2_with fail
    refine bodyPost_ret (v := .tuple #[.slice none 0 0, .bool false]) (by simp [results, Try.results36, go_sem]) rfl ?_
    exact ⟨rfl, HG0.out.trans hg2⟩
end

/- InnerS -/
section
open Go.RowKit

set_option maxRecDepth 100000 in
set_option maxHeartbeats 8000000 in
theorem srawinner_some (d : Nat) (t : T (d + 1)) (v : Value) (w : World) (hd : d ≤ 2) (h : Lyt w v (lv (d + 1) [t]) (dat (d + 1) [t])) (hv : wrong (lv (d + 1) [t]) (dat (d + 1) [t]) = -1) (hft : foldN (d + 1) (lv (d + 1) [t]) (dat (d + 1) [t]) = [t]) (hn : (lv (d + 1) [t]).length + totL (lv (d + 1) [t]) + (dat (d + 1) [t]).length ≤ 1048576) :
    Calls Try.prog 81 #[v] w fun e w' => ∃ A c, e = .returned (.tuple #[.slice A (prt t).length c, .bool true]) ∧ w.grownBy w' none ∧ LysC w' A (partsP t) := by
  obtain ⟨i0, hi0, hz0, hz1, hz2⟩ : ∃ i : TypeInfo, Try.prog.info? 28 = some i ∧ i.zero = some (.agg #[.slice none 0 0, .slice none 0 0]) ∧ i.size = 2 ∧ i.bytes = 48 := by
    obtain ⟨i, hi, hzz⟩ := Option.map_eq_some_iff.1 infoY
    simp only [Prod.mk.injEq] at hzz
    exact ⟨i, hi, hzz.1, hzz.2.1, hzz.2.2⟩
  obtain ⟨il, hil, hl0, hl1, hl2⟩ := info_parts infoL
  have hok := okl_of hv (fun M hM => by
    obtain ⟨i, hi⟩ := List.getElem?_of_mem hM
    have := totL_at hi
    omega)
  have HSM := Lib.hid (fun s (hs : s ∈ prt t) => part_small hd hs hok)
  have HNS := Lib.hid (show (prt t).length ≤ 400 by
    rw [lv_one] at hok
    have h4 := (hok 0 _ rfl).1
    simp only [okN, Bool.and_eq_true, decide_eq_true_eq] at h4
    omega)
  have HV := Lib.hid (fun u (hg : w.grownBy u none) => slayok_any v _ _ u (h.grown hg) hn)
  rw [hv] at HV
  have HF := Lib.hid (fun u (hg : w.grownBy u none) => fold_any v _ _ u (h.grown hg) hn hv)
  unfold FoldPost at HF
  obtain ⟨A, c, B, e, rfl, hc, _⟩ := h
  rw [lv_len] at HF hc HV ⊢
  rw [hft] at HF
  obtain ⟨m, hm⟩ : ∃ m, (dat (d + 1) [t]).length = m := ⟨_, rfl⟩
  obtain ⟨n, hnn⟩ : ∃ n, (prt t).length = n := ⟨_, rfl⟩
  rw [hm] at HF HV
  rw [hm, hnn]
  rw [hnn] at HNS
  have hn4 := HNS.out
  have HN := Lib.hid hnn
  have hg0 := World.grownBy_alloc w (.cells #[.slice A (d + 1) c, .slice B m e] 28) none
  have HG0 := Lib.hid hg0
  have P0 := Pr.new w 28 (.slice A (d + 1) c) (.slice B m e)
  have HP0 := Lib.hid P0
  have hdd : ((d : Int) + 1 == 0) = false := by simp; omega
  clear hm hnn hok hn hv hg0 P0 hft
  go_enter Try.func81, Try.ntmps81
  have p0 := HP0.out.c0
  have p1 := HP0.out.c1
  have hgo := World.grownBy_alloc (w.alloc (.cells #[.slice A (d + 1) c, .slice B m e] 28)) (.cells #[] 28) none
  have HO : Hid (((w.alloc (.cells #[.slice A (d + 1) c, .slice B m e] 28)).alloc (.cells #[] 28)).ownsRow (w.heap.size + 1) 28 2 (.slice (some ⟨w.heap.size + 1, 0, none⟩) 0 0) 0 []) := Lib.hid (by
    have := World.ownsRow_made (base := w.heap.size + 1) (e := 28) (size := 2) (w.alloc (.cells #[.slice A (d + 1) c, .slice B m e] 28)) #[] 0 (by simp) (by simp) (by simp)
    simpa using this)
  have HPA := Lib.hid (HP0.out.grown hgo (by simp))
  have HGA := Lib.hid (HG0.out.trans hgo)
  clear hgo p0 p1
  have p0 := HPA.out.c0
  have p1 := HPA.out.c1
  go_wp2_with fail
  generalize (w.alloc (.cells #[.slice A (d + 1) c, .slice B m e] 28)).alloc (.cells #[] 28) = w1 at HO HPA HGA p0 p1 ⊢
  refine (HV.out w1 HGA.out).mono ?_
  rintro ee w2 ⟨rfl, hg2⟩
  have P2 := HPA.out.grown hg2 (by simp)
  have HG2 := Lib.hid (HGA.out.trans hg2)
  have HO2 := Lib.hid (own_keep HO.out (fun k hk => hg2.block k (HO.out.lt k hk).2 (by simp)))
  clear p0 p1 HPA HGA HP0 HG0 HO
  have p0 := P2.c0
  have p1 := P2.c1
  clear P2 hg2
  go_wp2_with fail
  refine (HF.out w2 HG2.out).mono ?_
  rintro ee w3 ⟨hg3, m3, sv3, t3, rfl, ⟨A3, k3, c3, rfl⟩, ht3, hnd3⟩
  simp only [List.getElem?_cons_zero, Option.some.injEq] at ht3
  subst ht3
  obtain ⟨xs, hox, hxs, hall⟩ := hnd3
  have hk3 := (srowM hox).1
  have hal := All2.length _ _ hall
  have hk3n : k3 = n := by rw [hk3, ← hal]; exact HN.out
  clear hk3
  subst hk3n
  have HG3 := Lib.hid (HG2.out.trans hg3)
  have HO3 := Lib.hid (own_keep HO2.out (fun k hk => hg3.block k (HO2.out.lt k hk).2 (by simp)))
  have HOX := Lib.hid hox
  have HXS := Lib.hid hxs
  have HS2 : w.heap.size + 1 < w2.heap.size := (HO2.out.lt (w.heap.size + 1) rfl).2
  have HALL := Lib.hid hall
  have HXL := Lib.hid hal
  clear hg3 hox hxs hall hal HG2 HO2 HF HV p0 p1
  have hfd : ∀ u : World, (Instr.field 123 (.agg #[.int .i64 m3, .slice A3 k3 c3]) 1).run Try.prog u = .ok (.slice A3 k3 c3) u := fun _ => by kernel_rfl
  go_wp2_with fail
  have HKP0 : Hid (∀ b, w2.heap.size ≤ b → b < w3.heap.size → w3.heap[b]? = w3.heap[b]?) := Lib.hid (fun _ _ _ => rfl)
  go_loopw [4, 28] (fun o i wr => ∃ (j : Nat) (Ax : Option Addr) (cx : Nat) (vs : List Value), j ≤ k3 ∧ i = .int .i64 j ∧ o = .slice Ax j cx ∧ Hid (wr.ownsRow (w.heap.size + 1) 28 2 (.slice Ax j cx) j vs) ∧ Hid (LayS OwnLytQ wr w.heap.size j (Value.slice Ax j cx).ownBlock vs (partsP t)) ∧ Hid (w.grownBy wr none) ∧ Hid (∀ b, w2.heap.size ≤ b → b < w3.heap.size → wr.heap[b]? = w3.heap[b]?) ∧ Hid (∀ q, (Value.slice Ax j cx).ownBlock = some q → q < w2.heap.size ∨ w3.heap.size ≤ q) ∧ w3.heap.size ≤ wr.heap.size) (fun _ i _ => k3 - (intOf i).toNat)
  case atStart => exact ⟨0, _, 0, [], Nat.zero_le _, rfl, rfl, HO3, Lib.hid (LayS.zero _ _ _ _ _), HG3, HKP0, Lib.hid (fun q hq => by cases hq; left; exact HS2), Nat.le_refl _⟩
  case round =>
    clear HKP0 HO3 HG3
    obtain ⟨j, Ax, cx, vs, hj, rfl, rfl, ho, hls, hgr, hkp, hrb, hsz⟩ := hrel
    obtain ⟨wo, rfl⟩ : ∃ wo : World, wo = wr := ⟨_, rfl⟩
    by_cases hlt : j < k3
    · obtain ⟨s, x, hs, hx, hnd⟩ := All2.nth (j := j) HALL.out (by have := HXL.out; have := HN.out; unfold prt at this; omega)
      have hox := own_keep HOX.out (fun g hg => hkp.out g (HXS.out g hg) (HOX.out.lt g hg).2)
      obtain ⟨g3, rfl, hcells⟩ := (srowM hox).2.2 (by omega)
      obtain ⟨m4, sv4⟩ := x
      obtain ⟨A4, k4, c4, hsv⟩ := hnd.form
      simp only at hsv
      subst hsv
      obtain ⟨hx1, hx2⟩ := hcells j _ hx
      have HSN := Lib.hid (SNd.keep (w' := wo) (S' := fun b => b < wo.heap.size) (fun b hb hb2 => hkp.out b hb hb2) (fun b _ hb2 => Nat.lt_of_lt_of_le hb2 hsz) d s _ hnd)
      have HS := Lib.hid (show (prt t)[j]? = some s from hs)
      obtain ⟨b1, b2, _⟩ := HSM.out s (List.mem_of_getElem? hs)
      have HB12 := Lib.hid (And.intro b1 b2)
      clear hs hx hnd hox hcells b1 b2
      have hbw : Below wo.heap.size wo ((((wo.alloc (.cells #[.int .i64 m4, .slice A4 k4 c4] 123)).alloc (.cells #[] 23)).alloc (.cells #[] 3)).alloc (.cells #[.slice (some ⟨wo.heap.size + 1, 0, none⟩) 0 0, .slice (some ⟨wo.heap.size + 1 + 1, 0, none⟩) 0 0] 28)) := by
        have hg := (((World.grownBy_alloc wo (.cells #[.int .i64 m4, .slice A4 k4 c4] 123) none).trans (World.grownBy_alloc _ (.cells #[] 23) none)).trans (World.grownBy_alloc _ (.cells #[] 3) none)).trans (World.grownBy_alloc _ (.cells #[.slice (some ⟨wo.heap.size + 1, 0, none⟩) 0 0, .slice (some ⟨wo.heap.size + 1 + 1, 0, none⟩) 0 0] 28) none)
        exact ⟨hg.os, hg.tape, hg.output, hg.size, fun k hk => hg.block k hk (by simp)⟩
      have HFM := Lib.hid (flatm_start wo (.cells #[.int .i64 m4, .slice A4 k4 c4] 123))
      have HND := Lib.hid ((((Pr.new wo 123 (.int .i64 m4) (.slice A4 k4 c4)).alloc (.cells #[] 23)).alloc (.cells #[] 3)).alloc (.cells #[.slice (some ⟨wo.heap.size + 1, 0, none⟩) 0 0, .slice (some ⟨wo.heap.size + 1 + 1, 0, none⟩) 0 0] 28))
      have HBW := Lib.hid hbw
      clear hbw
      go_wp2_with fail
      generalize (((wo.alloc (.cells #[.int .i64 m4, .slice A4 k4 c4] 123)).alloc (.cells #[] 23)).alloc (.cells #[] 3)).alloc (.cells #[.slice (some ⟨wo.heap.size + 1, 0, none⟩) 0 0, .slice (some ⟨wo.heap.size + 1 + 1, 0, none⟩) 0 0] 28) = u0 at HFM HND HBW ⊢
      go_loopw [37] (fun i wr => ∃ (j' : Nat), j' ≤ d ∧ i = .int .i64 j' ∧ Hid (FlatM wr wo.heap.size (wo.heap.size + 1 + 1 + 1) (.slice (some ⟨wo.heap.size + 1 + 1, 0, none⟩) 0 0) (List.replicate j' []) []) ∧ Hid (Below wo.heap.size wo wr) ∧ Hid (Pr wr wo.heap.size 123 (.int .i64 m4) (.slice A4 k4 c4))) (fun i _ => d - (intOf i).toNat)
      case atStart => exact ⟨0, Nat.zero_le _, rfl, HFM, HBW, HND⟩
      case round =>
        obtain ⟨j', hj', rfl, hfm, hbl, hnd⟩ := hrel
        clear HFM HBW HND
        by_cases hlt' : j' < d
        · obtain ⟨g, c9, ls, hp, hol, hb, hst⟩ := flatm_step hfm.out
          have HST := Lib.hid hst
          have own6 := (hol.alloc (.cells #[] 3)).alloc (.cells #[.slice (some ⟨wr.heap.size, 0, none⟩) 0 0] 23)
          have p0 := hp.c0
          clear hp hol hst
          go_wp2_with (at_builtin; refine wpList_append_own_at _ rfl _ _ 22 rfl wo.heap.size 23 il (.slice none 0 0) 1 24 Try.underlying22 hil hl0 hl1 hl2 rfl (by decide) _ _ _ rfl own6 ⟨wr.heap.size + 1, 0, none⟩ 1 1 [(.slice (some ⟨wr.heap.size, 0, none⟩) 0 0)] rfl rfl ?h1 ?h2 ?h3 ?h4 ?h5 ?_)
          case h2 => simp [Value.oneCell']
          case h3 => simp only [maxLen]; omega
          case h4 => omega
          case h5 => first | omega | (simp; omega)
          case h1 =>
            have hcn := cell_one_new (wr.alloc (.cells #[] 3)) (.slice (some ⟨wr.heap.size, 0, none⟩) 0 0) 23
            rw [sz_alloc] at hcn
            exact hcn
          intro v8 w8 hown8 hg8 hnil8 _
          obtain ⟨g8, c8, rfl⟩ : ∃ g8 c8, v8 = .slice (some ⟨g8, 0, none⟩) (j' + 1) c8 := by
            rcases hown8.2 with ⟨hv, hz⟩ | ⟨b8, cap8, cur8, hv8, _⟩
            · omega
            · exact ⟨b8, cap8, hv8⟩
          obtain ⟨hp8, hb8, hf8, hn8⟩ := HST.out w8 g8 c8 hg8 hown8
          have HB8 := Lib.hid hb8
          have HF8 := Lib.hid hf8
          have HN8 := Lib.hid (hn8 _ _ _ hnd.out)
          have x0 := hp8.c0
          have x1 := hp8.f 0
          clear hown8 hg8 hnil8 own6 hp8 hb8 hf8 hn8
          go_wp2_with fail
          go_roundw
          case rel => exact ⟨j' + 1, by omega, by go_num, HF8, Lib.hid (hbl.out.trans HB8.out), HN8⟩
          case measure => simp [intOf]; omega
        · have hjn : j' = d := by omega
          subst hjn
          have hs0 : SNd wr (fun b => b < wo.heap.size) j' s (m4, .slice A4 k4 c4) := SNd.keep (fun b hb _ => hbl.out.block b hb) (fun b hb _ => hb) j' s _ HSN.out
          have hlay := laym_any j' s (wo.heap.size + 1 + 1 + 1) wo.heap.size 0 (fun b => b < wo.heap.size) m4 A4 k4 c4 _ (List.replicate j' []) [] wr hfm.out hs0 (fun b hb => hb) (by simp) (by omega) (by
            rw [behind, List.take_zero, List.nil_append, List.drop_zero, lv_zero_add]
            intro i M hM
            have := HB12.out.2 M (List.mem_of_getElem? hM)
            omega) (by rw [List.nil_append]; have := HB12.out.1; omega)
          have e1 : behind 0 (List.replicate j' []) (lv j' [s]) = lv j' [s] := by rw [behind, List.take_zero, List.nil_append, List.drop_zero, lv_zero_add]
          rw [e1, List.nil_append] at hlay
          have HLY := Lib.hid hlay
          have n0 := hnd.out.c0
          have n1 := hnd.out.c1
          clear hs0 hlay e1
          go_wp2_with fail
          refine HLY.out.mono ?_
          rintro ee w5 ⟨rfl, hb5, d5, hf5⟩
          have hg5 := gr_below (gr_refl wo none) (hbl.out.trans hb5)
          obtain ⟨g, c5, hp5, hl5, _, hgl⟩ := hf5
          have hq5 := laid_ownq hl5
          obtain ⟨⟨A8, c8, rfl, _⟩, _, _⟩ := hl5.reads
          obtain ⟨q2, hq2⟩ : ∃ q, (dat j' [s]).length = q := ⟨_, rfl⟩
          rw [lv_len] at hp5 hq5
          rw [hq2] at hp5 hq5
          have p0 := hp5.c0
          have p1 := hp5.c1
          have hgA := hg5.trans (World.grownBy_alloc w5 (.cells #[.slice (some ⟨g, 0, none⟩) j' c5, .slice A8 q2 c8] 28) none)
          have hown2 := own_keep ho.out (fun k hk => hgA.block k (ho.out.lt k hk).2 (by simp))
          have HWO := Lib.hid hgr.out.size
          have HMR := Lib.hid (fun (w8 : World) (rb' : Option Nat) (h8 : (w5.alloc (.cells #[.slice (some ⟨g, 0, none⟩) j' c5, .slice A8 q2 c8] 28)).grownBy w8 (Value.slice Ax j cx).ownBlock) (hrb : ∀ k, rb' = some k → (Value.slice Ax j cx).ownBlock = some k ∨ (w5.alloc (.cells #[.slice (some ⟨g, 0, none⟩) j' c5, .slice A8 q2 c8] 28)).heap.size ≤ k) =>
            hls.out.more (rb' := rb') HWO.out (show vs.length = j * 2 from ho.out.1) (show (partsP t)[j]? = some (lv j' [s], dat j' [s]) by unfold partsP; rw [List.getElem?_map, HS.out]; rfl) (gr_refl wo none) hq5 hg5 (World.grownBy_alloc _ _ _) h8 (fun k hk => (ho.out.lt k hk).2) hrb)
          have HGA := Lib.hid (hgr.out.trans hgA)
          have HKA := Lib.hid (fun b (h1 : w2.heap.size ≤ b) (h2 : b < w3.heap.size) => (hgA.block b (by omega) (by simp)).trans (hkp.out b h1 h2))
          have HSA := Lib.hid (show w3.heap.size ≤ (w5.alloc (.cells #[.slice (some ⟨g, 0, none⟩) j' c5, .slice A8 q2 c8] 28)).heap.size by have := hgA.size; omega)
          have HNL := Lib.hid (fun (k : Nat) (v : Value) (hk : ([.slice (some ⟨g, 0, none⟩) j' c5, .slice A8 q2 c8] : List Value)[k]? = some v) => (World.news_of_block (cs := #[.slice (some ⟨g, 0, none⟩) j' c5, .slice A8 q2 c8]) (heap_alloc_new w5 (.cells #[.slice (some ⟨g, 0, none⟩) j' c5, .slice A8 q2 c8] 28)) k v hk : (w5.alloc (.cells #[.slice (some ⟨g, 0, none⟩) j' c5, .slice A8 q2 c8] 28)).cell? ((⟨w5.heap.size, 0, none⟩ : Addr).add k) = some v))
          have hszB : w.heap.size + 1 ≤ w5.heap.size + 1 := by have := HWO.out; have := hg5.size; omega
          clear hg5 hgA ho hls hp5 hl5 hq5 hb5 HLY hgr hkp hsz n0 n1 hfm hbl hnd
          go_wp2_with (at_builtin; refine wpList_append_own_at _ rfl _ _ 51 rfl (w.heap.size + 1) 28 i0 (.agg #[.slice none 0 0, .slice none 0 0]) 2 48 Try.underlying51 hi0 hz0 hz1 hz2 rfl (by decide) _ _ _ rfl hown2 ⟨w5.heap.size, 0, none⟩ 1 1 [.slice (some ⟨g, 0, none⟩) j' c5, .slice A8 q2 c8] rfl rfl HNL.out ?c2 ?c3 ?c4 ?c5 ?_)
          case c2 => simp [Value.oneCell']
          case c3 => simp only [maxLen]; omega
          case c4 => omega
          case c5 => (try simp only [World.size_alloc]); omega
          intro v8 w8 hown8 hg8 _ hat8
          obtain ⟨g8, c8', rfl⟩ : ∃ g c, v8 = .slice (some ⟨g, 0, none⟩) (j + 1) c := by
            rcases hown8.2 with ⟨_, hn⟩ | ⟨g, cap, cur, hv, _⟩
            · omega
            · exact ⟨g, cap, hv⟩
          have hat9 : ∀ k, (Value.slice (some ⟨g8, 0, none⟩) (j + 1) c8').ownBlock = some k → (Value.slice Ax j cx).ownBlock = some k ∨ (w5.alloc (.cells #[.slice (some ⟨g, 0, none⟩) j' c5, .slice A8 q2 c8] 28)).heap.size ≤ k := fun k hk => by
            rcases hat8 with h | h
            · left; rw [← h]; exact hk
            · right; rw [h] at hk; cases hk; simp
          have HMS := Lib.hid (HMR.out w8 (Value.slice (some ⟨g8, 0, none⟩) (j + 1) c8').ownBlock hg8 hat9)
          have HO8 := Lib.hid hown8
          have HG8 := Lib.hid (show w.grownBy w8 none from gr_ownF HGA.out hg8 (fun k hk => by have := (hown2.lt k hk).1; omega))
          have HK8 := Lib.hid (fun b (h1 : w2.heap.size ≤ b) (h2 : b < w3.heap.size) => (hg8.block b (by have := HSA.out; omega) (fun e => by rcases hrb.out b e.symm with h | h <;> omega)).trans (HKA.out b h1 h2))
          have HR8 := Lib.hid (fun k hk => (by
            rcases hat9 k hk with h | h
            · exact hrb.out k h
            · right; have := HSA.out; omega : k < w2.heap.size ∨ w3.heap.size ≤ k))
          have hS8 : w3.heap.size ≤ w8.heap.size := Nat.le_trans HSA.out hg8.size
          clear hown8 hg8 hat8 hat9 hown2 HNL HMR
          go_wp2_with fail
          go_roundw
          case rel => exact ⟨j + 1, _, c8', _, by omega, by go_num, rfl, HO8, HMS, HG8, HK8, HR8, hS8⟩
          case measure => simp [intOf]; omega
    · have hjn : j = k3 := by omega
      subst hjn
      go_wp2_with fail
      refine bodyPost_ret (v := .tuple #[.slice Ax j cx, .bool true]) (by simp [results, Try.results81, go_sem]) rfl ?_
      have e1 : (partsP t).length = j := by unfold partsP; rw [List.length_map]; exact HN.out
      exact ⟨_, _, rfl, hgr.out, LayS.lysc (c := cx) (by rw [e1]; exact hls.out) (by rw [e1]; exact ho.out)⟩

set_option maxHeartbeats 1000000 in
theorem srawinner_none (v : Value) (LL : List (List Int)) (D : List Int) (w : World) (h : Lyt w v LL D) (hn : LL.length + totL LL + D.length ≤ 1048576) (hb : ¬ wrong LL D = -1 ∨ LL.length = 0) :
    Calls Try.prog 81 #[v] w fun e w' => ∃ A c, e = .returned (.tuple #[.slice A 0 c, .bool false]) ∧ w.grownBy w' none := by
  have HV := Lib.hid (fun u (hg : w.grownBy u none) => slayok_any v LL D u (h.grown hg) hn)
  obtain ⟨A, c, B, e, rfl, _⟩ := h
  obtain ⟨m, hm⟩ : ∃ m, D.length = m := ⟨_, rfl⟩
  obtain ⟨n, hnn⟩ : ∃ n, LL.length = n := ⟨_, rfl⟩
  rw [hm, hnn] at HV
  rw [hnn] at hb hn
  rw [hm, hnn]
  obtain ⟨bv, hbv⟩ : ∃ bv, decide (wrong LL D = -1) = bv := ⟨_, rfl⟩
  rw [hbv] at HV
  have hor : bv = false ∨ n = 0 := by
    rcases hb with h | h
    · left; rw [← hbv]; simpa using h
    · exact .inr h
  have HP := Lib.hid ((Pr.new w 28 (.slice A n c) (.slice B m e)).alloc (.cells #[] 28))
  have HG0 := Lib.hid ((World.grownBy_alloc w (.cells #[.slice A n c, .slice B m e] 28) none).trans (World.grownBy_alloc _ (.cells #[] 28) none))
  clear hb hm hnn hbv hn
  have p0 := HP.out.c0
  have p1 := HP.out.c1
  cases bv with
  | false =>
    go_enter Try.func81, Try.ntmps81
    go_wp2_with fail
    refine (HV.out _ HG0.out).mono ?_
    rintro ee w2 ⟨rfl, hg2⟩
    go_wp2_with fail
    refine bodyPost_ret (v := .tuple #[.slice (some ⟨w.heap.size + 1, 0, none⟩) 0 0, .bool false]) (by simp [results, Try.results81, go_sem]) rfl ?_
    exact ⟨_, _, rfl, HG0.out.trans hg2⟩
  | true =>
    obtain rfl : n = 0 := by simpa using hor
    go_enter Try.func81, Try.ntmps81
    go_wp2_with fail
    refine (HV.out _ HG0.out).mono ?_
    rintro ee w2 ⟨rfl, hg2⟩
    have P2 := HP.out.grown hg2 (by simp)
    have q0 := P2.c0
    have q1 := P2.c1
    clear P2
    go_wp2_with fail
    refine bodyPost_ret (v := .tuple #[.slice (some ⟨w.heap.size + 1, 0, none⟩) 0 0, .bool false]) (by simp [results, Try.results81, go_sem]) rfl ?_
    exact ⟨_, _, rfl, HG0.out.trans hg2⟩

/-- What InnerOf of the model does when the raw one is known. -/
theorem sinner_of (v : Value) (P : List (List (List Int) × List Int)) (b : Bool) (LL : List (List Int)) (D : List Int) (w : World) (h : Lyt w v LL D) (hn : P.length ≤ 1048576) (hm : ∀ p ∈ P, p.1.length ≤ 1048576 ∧ (∀ M ∈ p.1, M.length ≤ 1048576) ∧ p.2.length ≤ 1048576)
    (hr : ∀ u, Lyt u v LL D → Calls Try.prog 81 #[v] u fun e w' => ∃ A c, e = .returned (.tuple #[.slice A P.length c, .bool b]) ∧ u.grownBy w' none ∧ LysC w' A P) :
    Calls Try.prog 35 #[v] w fun e w' => ∃ A c, e = .returned (.tuple #[.slice A P.length c, .bool b]) ∧ w.grownBy w' none ∧ Lys w' A P := by
  have HR := Lib.hid (fun u (hg : w.grownBy u none) => hr u (h.grown hg))
  have HO := Lib.hid (fun A c u hu => ownlist_any A c P u hu hn hm)
  obtain ⟨A, c, B, e, rfl, _⟩ := h
  obtain ⟨n, hnn⟩ : ∃ n, P.length = n := ⟨_, rfl⟩
  rw [hnn] at HR HO
  rw [hnn]
  obtain ⟨m, hm2⟩ : ∃ m, D.length = m := ⟨_, rfl⟩
  obtain ⟨l, hl⟩ : ∃ l, LL.length = l := ⟨_, rfl⟩
  rw [hm2, hl] at HR
  rw [hm2, hl]
  clear hr hm hn hnn hm2 hl
  have hg0 := World.grownBy_alloc w (.cells #[.slice A l c, .slice B m e] 28) none
  have P0 := Pr.new w 28 (.slice A l c) (.slice B m e)
  have p0 := P0.c0
  have p1 := P0.c1
  go_enter Try.func35, Try.ntmps35
  go_wp2_with fail
  refine (HR.out _ hg0).mono ?_
  rintro ee w2 ⟨A2, c2, rfl, hg2, hls⟩
  have HG2 := Lib.hid (hg0.trans hg2)
  have HLS := Lib.hid hls
  clear hg2 hls hg0 P0 p0 p1
  go_wp2_with fail
  refine (HO.out A2 c2 w2 HLS.out).mono ?_
  rintro ee w3 ⟨A3, c3, rfl, hg3, hl3⟩
  go_wp2_with fail
  refine bodyPost_ret (v := .tuple #[.slice A3 n c3, .bool b]) (by simp [results, Try.results35, go_sem]) rfl ?_
  exact ⟨_, _, rfl, HG2.out.trans hg3, hl3⟩
end

/- MarkA -/
section
open Go.RowKit

/-- Only blocks between two marks are written. -/
structure Btw (lo hi : Nat) (w w' : World) : Prop where
  os : w'.os = w.os
  tape : w'.tape = w.tape
  output : w'.output = w.output
  size : w.heap.size ≤ w'.heap.size
  block : ∀ k, k < lo ∨ hi ≤ k → k < w.heap.size → w'.heap[k]? = w.heap[k]?
theorem Btw.refl (lo hi : Nat) (w : World) : Btw lo hi w w := ⟨rfl, rfl, rfl, Nat.le_refl _, fun _ _ _ => rfl⟩
theorem Btw.trans {lo hi : Nat} {w w1 w2 : World} (h : Btw lo hi w w1) (h2 : Btw lo hi w1 w2) : Btw lo hi w w2 :=
  ⟨h2.os.trans h.os, h2.tape.trans h.tape, h2.output.trans h.output, Nat.le_trans h.size h2.size, fun k hk hl => (h2.block k hk (Nat.lt_of_lt_of_le hl h.size)).trans (h.block k hk hl)⟩
theorem Btw.row {lo hi : Nat} {w w1 w2 : World} {row : Option Nat} (h : Btw lo hi w w1) (hg : w1.grownBy w2 row) (hr : ∀ b, row = some b → lo ≤ b ∧ b < hi) : Btw lo hi w w2 :=
  h.trans ⟨hg.os, hg.tape, hg.output, hg.size, fun k hk hl => hg.block k hl (fun e => by have := hr k e.symm; omega)⟩
theorem Btw.gr {lo hi : Nat} {w0 w w' : World} (h0 : w0.grownBy w none) (h : Btw lo hi w w') (hb : w0.heap.size ≤ lo) : w0.grownBy w' none :=
  ⟨h.os.trans h0.os, h.tape.trans h0.tape, h.output.trans h0.output, Nat.le_trans h0.size h.size, fun k hk _ => (h.block k (by omega) (Nat.lt_of_lt_of_le hk h0.size)).trans (h0.block k hk (by simp))⟩

set_option maxHeartbeats 1000000 in
theorem marksA_any (A : Option Addr) (base top c k n : Nat) (vs : List Value) (d : Value) (LL : List (List Int)) (D : List Int) (w : World) (h : Marked w base A c vs d n (LL ++ [D])) (hn : n ≤ 1048576) (hk : k + totL LL ≤ 1048576) (htop : ∀ (i : Nat) (L : List Int) (u : Value) (g : Nat), (vs ++ [d])[i]? = some u → LL[i]? = some L → 0 < L.length → u.ownBlock = some g → g < top) :
    Calls Try.prog 84 #[.slice A n c, .int .i64 (k : Int)] w fun e w' => e = .returned (.int .i64 ((k + totL LL : Nat) : Int)) ∧ Marked w' base A c vs d n (numL k LL ++ [D]) ∧ Btw base top w w' ∧ Others w w' := by
  have hll : LL.length = n := by have := h.len; rw [List.length_append] at this; simp at this; omega
  have HLL := Lib.hid hll
  have hvl : vs.length = n := by have := h.own.1; omega
  have HVL := Lib.hid hvl
  have HM := Lib.hid h
  have HK := Lib.hid hk
  have HTOP := Lib.hid htop
  clear h hll hvl hk htop
  go_enter Try.func84, Try.ntmps84
  go_wp2_with fail
  go_loopw [1, 5] (fun u i wr => ∃ (j x : Nat), j ≤ n ∧ i = .int .i64 j ∧ u = .int .i64 x ∧ Hid (x = k + totL (LL.take j)) ∧ Hid (Marked wr base A c vs d n ((numL k LL).take j ++ LL.drop j ++ [D])) ∧ Hid (Btw base top w wr) ∧ Hid (Others w wr)) (fun _ i _ => n - (intOf i).toNat)
  case atStart => exact ⟨0, k, Nat.zero_le _, rfl, rfl, Lib.hid (by simp [totL]), Lib.hid (by simpa using HM.out), Lib.hid (Btw.refl _ _ _), Lib.hid (fun _ _ _ _ _ h => h)⟩
  case round =>
    obtain ⟨j, x, hj, rfl, rfl, hx, hm, hgr, hpr⟩ := hrel
    by_cases hlt : j < n
    · obtain ⟨L, hL⟩ : ∃ L, LL[j]? = some L := ⟨_, List.getElem?_eq_getElem (by have := HLL.out; omega)⟩
      have hFL : ((numL k LL).take j ++ LL.drop j ++ [D])[j]? = some L := by
        have h1 : ((numL k LL).take j).length = j := by rw [List.length_take, numL_len]; have := HLL.out; omega
        rw [List.append_assoc, List.getElem?_append_right (by omega), h1, Nat.sub_self, drop_at hL]
        rfl
      obtain ⟨v, hv, how⟩ := hm.out.fam.1 j L (by omega) hFL
      have hvs : vs[j]? = some v := by rw [List.getElem?_append_left (by have := HVL.out; omega)] at hv; exact hv
      obtain ⟨g, rfl⟩ : ∃ g, A = some ⟨g, 0, none⟩ := by
        rcases hm.out.own.2 with ⟨hv, hn0⟩ | ⟨g, cap, cur, hv, _⟩
        · omega
        · cases hv; exact ⟨g, rfl⟩
      have hcell := (hm.out.own.cellAt j (by omega)).trans hvs
      have hll := totL_at hL
      have hst := totL_step hL
      have htl := totL_take_le LL (j + 1)
      have HC := Lib.hid (mark_row v base x L wr how (by have := HK.out; omega) (by have := HK.out; have := hx.out; omega))
      have HST := Lib.hid (fun (w' : World) (hg : wr.grownBy w' (if 0 < L.length then v.ownBlock else none)) (ho : OwnR w' base v (upFrom x L.length)) => hm.out.step (by omega) hv hFL hg ho (upFrom_length _ _))
      have HOW := Lib.hid how
      have HTP := Lib.hid (fun (h0 : 0 < L.length) (b : Nat) (hb : v.ownBlock = some b) => HTOP.out j L v b hv hL h0 hb)
      have HSN := Lib.hid (set_num (D := D) (k := k) hL)
      have HTS := Lib.hid hst
      have HTL := Lib.hid htl
      obtain ⟨A8, c8, rfl, _⟩ := how
      obtain ⟨q, hq⟩ : ∃ q, L.length = q := ⟨_, rfl⟩
      have HQ := Lib.hid hq
      rw [hq] at hcell HC
      have hb1 : x + q ≤ 1048576 := by have := HK.out; have := hx.out; omega
      obtain ⟨y, hy⟩ : ∃ y, x + q = y := ⟨_, rfl⟩
      rw [hy] at HC hb1
      have HY := Lib.hid hy
      clear hL hFL hv hvs hll hst htl hq hy
      go_wp2_with fail
      refine HC.out.mono ?_
      rintro e w5 ⟨rfl, hg5, ho5⟩
      have hm5 := HST.out w5 (by rw [HQ.out]; exact hg5) (by rw [HQ.out]; exact ho5)
      rw [HQ.out] at hm5
      have hs5 := HSN.out
      rw [HQ.out, ← hx.out] at hs5
      rw [hs5] at hm5
      have HM5 := Lib.hid hm5
      have HG5 := Lib.hid (hgr.out.row hg5 (fun b hb => by
        by_cases h0 : 0 < L.length
        · rw [if_pos (by have := HQ.out; omega)] at hb
          exact ⟨(HOW.out.lt h0 b (by rw [HQ.out]; exact hb)).1, HTP.out h0 b (by rw [HQ.out]; exact hb)⟩
        · rw [if_neg (by have := HQ.out; omega)] at hb
          cases hb))
      have HPR := Lib.hid (show Others w w5 from fun g0 cs t m ht h1 => int_kept ht (hpr.out g0 cs t m ht h1) HOW.out (by rw [HQ.out]; exact hg5))
      clear hg5 ho5 hm5 hs5
      go_wp2_with fail
      go_roundw
      case rel => exact ⟨j + 1, y, by omega, by go_num, rfl, Lib.hid (by have := HTS.out; have := hx.out; have := HQ.out; have := HY.out; omega), HM5, HG5, HPR⟩
      case measure => simp [intOf]; omega
    · have hjn : j = n := by omega
      have HJ := Lib.hid hjn
      clear hjn
      go_wp2_with fail
      go_ret
      have e1 : LL.take j = LL := List.take_of_length_le (by have := HLL.out; have := HJ.out; omega)
      have h1 := hx.out
      have h2 := hm.out
      rw [e1] at h1
      rw [List.take_of_length_le (by rw [numL_len]; have := HLL.out; have := HJ.out; omega), List.drop_of_length_le (by have := HLL.out; have := HJ.out; omega), List.append_nil] at h2
      exact ⟨by first | (rw [← h1]; rfl) | (rw [show ((k : Int) + ((totL LL : Nat) : Int)) = (x : Int) from by omega]; rfl), h2, hgr.out, hpr.out⟩
end

/- LysHeld -/
section
open Go.RowKit

def totP : List (List (List Int) × List Int) → Nat
  | [] => 0
  | p :: P => totL p.1 + p.2.length + totP P
def numP : Nat → List (List (List Int) × List Int) → List (List (List Int) × List Int)
  | _, [] => []
  | k, p :: P => (numL k p.1, upFrom (k + totL p.1) p.2.length) :: numP (k + totL p.1 + p.2.length) P
theorem numP_len : ∀ (P : List (List (List Int) × List Int)) (k : Nat), (numP k P).length = P.length
  | [], _ => rfl
  | p :: P, k => by simp [numP, numP_len P]
theorem numP_at : ∀ (P : List (List (List Int) × List Int)) (k j : Nat) (p : List (List Int) × List Int), P[j]? = some p → (numP k P)[j]? = some (numL (k + totP (P.take j)) p.1, upFrom (k + totP (P.take j) + totL p.1) p.2.length)
  | [], _, _, _, h => by simp at h
  | q :: P, k, 0, p, h => by
    simp only [List.getElem?_cons_zero, Option.some.injEq] at h
    subst h
    simp [numP, totP]
  | q :: P, k, j + 1, p, h => by
    have := numP_at P (k + totL q.1 + q.2.length) j p (by simpa using h)
    simp only [numP, List.getElem?_cons_succ, List.take_succ_cons, totP]
    rw [this]
    congr 2 <;> congr 1 <;> omega
theorem totP_step : ∀ {P : List (List (List Int) × List Int)} {j : Nat} {p : List (List Int) × List Int}, P[j]? = some p → totP (P.take (j + 1)) = totP (P.take j) + totL p.1 + p.2.length
  | [], _, _, h => by simp at h
  | q :: P, 0, p, h => by
    simp only [List.getElem?_cons_zero, Option.some.injEq] at h
    subst h
    simp [totP]
  | q :: P, j + 1, p, h => by
    have := totP_step (P := P) (j := j) (p := p) (by simpa using h)
    simp only [List.take_succ_cons, totP, this]
    omega
theorem totP_take : ∀ (P : List (List (List Int) × List Int)) (j : Nat), totP (P.take j) ≤ totP P
  | [], _ => by simp [totP]
  | q :: P, 0 => by simp [totP]
  | q :: P, j + 1 => by
    have := totP_take P j
    simp only [List.take_succ_cons, totP]
    omega

set_option maxHeartbeats 1000000 in
theorem heldlys_any (A : Option Addr) (c k : Nat) (P : List (List (List Int) × List Int)) (w : World) (h : Lys w A (numP k P)) (hn : P.length ≤ 1048576) (hm : ∀ p ∈ P, p.1.length ≤ 1048576) (hk : k + totP P ≤ 1048576) :
    Calls Try.prog 40 #[.slice A P.length c, .int .i64 (k : Int)] w fun e w' => e = .returned (.int .i64 ((k + totP P : Nat) : Int)) ∧ w = w' := by
  obtain ⟨n, hnn⟩ : ∃ n, P.length = n := ⟨_, rfl⟩
  have HN := Lib.hid hnn
  rw [hnn] at hn ⊢
  have HR := Lib.hid h
  have HK := Lib.hid hk
  have HM := Lib.hid hm
  clear h hnn hk hm
  go_enter Try.func40, Try.ntmps40
  go_wp2_with fail
  go_loop [1, 5] (fun u i => ∃ (j x : Nat), j ≤ n ∧ i = .int .i64 j ∧ u = .int .i64 x ∧ Hid (x = k + totP (P.take j))) (fun _ i => n - (intOf i).toNat)
  case atStart => exact ⟨0, k, Nat.zero_le _, rfl, rfl, Lib.hid (by simp [totP])⟩
  case round =>
    obtain ⟨j, x, hj, rfl, rfl, hx⟩ := hrel
    by_cases hlt : j < n
    · obtain ⟨p, hp⟩ : ∃ p, P[j]? = some p := ⟨_, List.getElem?_eq_getElem (by have := HN.out; omega)⟩
      obtain ⟨b, off, rfl, _, hc⟩ := HR.out (by rw [numP_len]; have := HN.out; omega)
      obtain ⟨x0, y0, hx0, hy0, hl⟩ := hc j _ (numP_at P k j p hp)
      obtain ⟨A1, c1, B1, d1, he, _, _, hr1, hi1⟩ := hl
      cases he
      have hst := totP_step hp
      have htl := totP_take P (j + 1)
      have HTS := Lib.hid hst
      have hxx := hx.out
      rw [← hxx] at hr1 hi1
      obtain ⟨q1, hq1⟩ : ∃ q, p.1.length = q := ⟨_, rfl⟩
      obtain ⟨q2, hq2⟩ : ∃ q, p.2.length = q := ⟨_, rfl⟩
      have hb1 : x + totL p.1 + q2 ≤ 1048576 := by have := HK.out; omega
      have HC1 := Lib.hid (helds_any A1 c1 x p.1 w hr1 (HM.out p (List.mem_of_getElem? hp)) (by omega))
      obtain ⟨y, hy⟩ : ∃ y, x + totL p.1 = y := ⟨_, rfl⟩
      rw [hy, hq1] at HC1
      rw [hy, hq2] at hi1
      rw [hy] at hb1
      have HC2 := Lib.hid (held_any B1 d1 y q2 w hi1 (by omega) (by omega))
      obtain ⟨z, hz⟩ : ∃ z, y + q2 = z := ⟨_, rfl⟩
      rw [hz] at HC2 hb1
      have HY := Lib.hid (And.intro hy (And.intro hz hq2))
      have hy1 : y ≤ 1048576 := by omega
      simp only [numL_len, upFrom_length, hq1, hq2] at hx0 hy0
      clear hc hp hst htl hxx hr1 hi1 hq1 hq2 hy hz
      go_wp2_with fail
      refine HC1.out.mono ?_
      rintro e w5 ⟨rfl, rfl⟩
      go_wp2_with fail
      refine HC2.out.mono ?_
      rintro e w6 ⟨rfl, rfl⟩
      go_wp2_with fail
      go_round
      case rel => exact ⟨j + 1, z, by omega, by go_num, rfl, Lib.hid (by have := HTS.out; have := hx.out; have := HY.out; omega)⟩
      case measure => simp [intOf]; omega
    · have hjn : j = n := by omega
      have HJ := Lib.hid hjn
      clear hjn
      go_wp2_with fail
      go_ret
      have e1 : P.take j = P := List.take_of_length_le (by have := HN.out; have := HJ.out; omega)
      have h1 := hx.out
      rw [e1] at h1
      exact ⟨by first | (rw [← h1]; rfl) | (rw [show ((k : Int) + ((totP P : Nat) : Int)) = (x : Int) from by omega]; rfl), rfl⟩
end

/- MarkLys -/
section
open Go.RowKit

/-- A layout all of whose memory lies between two marks of the heap. -/
def OwnB (w : World) (lo hi : Nat) (v : Value) (LL : List (List Int)) (D : List Int) : Prop :=
  ∃ (A : Option Addr) (c : Nat) (d : Value) (vs : List Value), v = .agg #[.slice A LL.length c, d] ∧ LL.length ≤ c ∧ w.ownsRow lo 23 1 (.slice A LL.length c) LL.length vs ∧ Fam w lo (LL.length + 1) (vs ++ [d]) (LL ++ [D]) ∧
    (∀ g, (Value.slice A LL.length c).ownBlock = some g → g < hi) ∧ ∀ (i : Nat) (L : List Int) (u : Value) (g : Nat), (vs ++ [d])[i]? = some u → (LL ++ [D])[i]? = some L → 0 < L.length → u.ownBlock = some g → g < hi
theorem OwnB.own {w : World} {lo hi : Nat} {v : Value} {LL : List (List Int)} {D : List Int} (h : OwnB w lo hi v LL D) : OwnLyt w lo v LL D := by
  obtain ⟨A, c, d, vs, h1, h2, h3, h4, _⟩ := h
  exact ⟨A, c, d, vs, h1, h2, h3, h4⟩
theorem OwnB.keep {w w' : World} {lo hi : Nat} {v : Value} {LL : List (List Int)} {D : List Int} (h : OwnB w lo hi v LL D) (hk : ∀ k, lo ≤ k → k < hi → k < w.heap.size → w'.heap[k]? = w.heap[k]?) : OwnB w' lo hi v LL D := by
  obtain ⟨A, c, d, vs, h1, h2, h3, h4, h5, h6⟩ := h
  refine ⟨A, c, d, vs, h1, h2, own_keep h3 (fun g hg => hk g (h3.lt g hg).1 (h5 g hg) (h3.lt g hg).2), h4.kept (fun i L u g hi hL hu hl hg => ?_), h5, h6⟩
  have := h4.lt hi hL hu hl hg
  exact hk g this.1 (h6 i L u g hu hL hl hg) this.2
theorem OwnB.of {w u : World} {lo : Nat} {v : Value} {LL : List (List Int)} {D : List Int} (h : OwnLyt u lo v LL D) (hk : ∀ k, lo ≤ k → k < u.heap.size → w.heap[k]? = u.heap[k]?) : OwnB w lo u.heap.size v LL D := by
  obtain ⟨A, c, d, vs, h1, h2, h3, h4⟩ := h
  refine OwnB.keep (w := u) ⟨A, c, d, vs, h1, h2, h3, h4, fun g hg => (h3.lt g hg).2, fun i L x g hx hL hl hg => ?_⟩ (fun k h1 h2 _ => hk k h1 h2)
  have hil := (List.getElem?_eq_some_iff.1 hL).1
  simp only [List.length_append, List.length_singleton] at hil
  exact (h4.lt hil hL hx hl hg).2

/-- Layouts in a row of pairs, each between two marks of its own. -/
def LayB (w : World) (base n : Nat) (vs : List Value) (P : List (List (List Int) × List Int)) : Prop :=
  ∃ lo hi : Nat → Nat, (∀ i, i < n → base ≤ lo i) ∧ (∀ i k, i < k → k < n → hi i ≤ lo k) ∧
    ∀ (i : Nat) (p : List (List Int) × List Int), i < n → P[i]? = some p → ∃ x y, vs[i * 2]? = some x ∧ vs[i * 2 + 1]? = some y ∧ OwnB w (lo i) (hi i) (.agg #[x, y]) p.1 p.2
theorem LayS.layb {w : World} {base n : Nat} {rb : Option Nat} {vs : List Value} {P : List (List (List Int) × List Int)} (h : LayS OwnLyt w base n rb vs P) : LayB w base n vs P := by
  obtain ⟨lo, hi, a1, a2, a3⟩ := h
  refine ⟨lo, hi, fun i h => (a1 i h).1, a2, fun i p h hp => ?_⟩
  obtain ⟨x, y, u, k1, k2, k3, k4, k5⟩ := a3 i p h hp
  refine ⟨x, y, k1, k2, ?_⟩
  rw [← k4]
  exact OwnB.of k3 (fun k h1 h2 => k5 k h1 (by omega))
theorem LayB.grown {w w' : World} {base n : Nat} {vs : List Value} {P : List (List (List Int) × List Int)} (h : LayB w base n vs P) (hg : w.grownBy w' none) : LayB w' base n vs P := by
  obtain ⟨lo, hi, a1, a2, a3⟩ := h
  refine ⟨lo, hi, a1, a2, fun i p h hp => ?_⟩
  obtain ⟨x, y, k1, k2, k3⟩ := a3 i p h hp
  exact ⟨x, y, k1, k2, k3.keep (fun k _ _ h => hg.block k h (by simp))⟩
theorem LayB.lys {w : World} {base base' n c : Nat} {A : Option Addr} {vs : List Value} {P : List (List (List Int) × List Int)} (h : LayB w base n vs P) (hn : P.length = n) (ho : w.ownsRow base' 28 2 (.slice A n c) n vs) : Lys w A P := by
  subst hn
  obtain ⟨lo, hi, a1, a2, a3⟩ := h
  have hp : Prs w base P.length vs P := fun i p hi hp => by
    obtain ⟨x, y, k1, k2, k3⟩ := a3 i p hi hp
    exact ⟨x, y, k1, k2, k3.own.lows (a1 i hi)⟩
  exact hp.lys ho
/-- One layout is marked. -/
theorem LayB.mark {w : World} {base n j : Nat} {vs : List Value} {P : List (List (List Int) × List Int)} {p : List (List Int) × List Int} (h : LayB w base n vs P) (hj : j < n) (hp : P[j]? = some p) :
    ∃ x y lo hi, vs[j * 2]? = some x ∧ vs[j * 2 + 1]? = some y ∧ base ≤ lo ∧ OwnB w lo hi (.agg #[x, y]) p.1 p.2 ∧ ∀ (w' : World) (q : List (List Int) × List Int), Btw lo hi w w' → OwnB w' lo hi (.agg #[x, y]) q.1 q.2 → LayB w' base n vs (P.set j q) := by
  obtain ⟨lo, hi, a1, a2, a3⟩ := h
  obtain ⟨x, y, k1, k2, k3⟩ := a3 j p hj hp
  refine ⟨x, y, lo j, hi j, k1, k2, a1 j hj, k3, fun w' q hb ho => ⟨lo, hi, a1, a2, fun i r hi' hr => ?_⟩⟩
  rw [List.getElem?_set] at hr
  by_cases e : j = i
  · subst e
    rw [if_pos rfl, if_pos (List.getElem?_eq_some_iff.1 hp).1] at hr
    cases hr
    exact ⟨x, y, k1, k2, ho⟩
  · rw [if_neg e] at hr
    obtain ⟨x', y', b1, b2, b3⟩ := a3 i r hi' hr
    refine ⟨x', y', b1, b2, b3.keep (fun k h1 h2 h3 => hb.block k ?_ h3)⟩
    rcases Nat.lt_or_gt_of_ne e with h | h
    · right
      have := a2 j i h hi'
      omega
    · left
      have := a2 i j h hj
      omega

theorem set_numP {P : List (List (List Int) × List Int)} {k j : Nat} {p : List (List Int) × List Int} (hp : P[j]? = some p) : ((numP k P).take j ++ P.drop j).set j (numL (k + totP (P.take j)) p.1, upFrom (k + totP (P.take j) + totL p.1) p.2.length) = (numP k P).take (j + 1) ++ P.drop (j + 1) := by
  have hj : j < P.length := (List.getElem?_eq_some_iff.1 hp).1
  have h1 : ((numP k P).take j).length = j := by rw [List.length_take, numP_len]; omega
  have hd : P.drop j = p :: P.drop (j + 1) := by
    obtain ⟨h2, h3⟩ := List.getElem?_eq_some_iff.1 hp
    rw [List.drop_eq_getElem_cons h2, h3]
  rw [hd, List.set_append_right _ _ (by omega), h1, Nat.sub_self, List.take_add_one, numP_at P k j p hp]
  simp
/-- The two calls that mark one layout. -/
theorem marktwo {w : World} {lo hi k : Nat} {x y : Value} {LL : List (List Int)} {D : List Int} (h : OwnB w lo hi (.agg #[x, y]) LL D) (hn : LL.length ≤ 1048576) (hk : k + totL LL ≤ 1048576) (hd : D.length ≤ 1048576) :
    Calls Try.prog 84 #[x, .int .i64 (k : Int)] w fun e w1 => e = .returned (.int .i64 ((k + totL LL : Nat) : Int)) ∧ Others w w1 ∧
      Calls Try.prog 33 #[y, .int .i64 ((k + totL LL : Nat) : Int)] w1 fun e w2 => e = .returned (.int .i64 ((k + totL LL + D.length : Nat) : Int)) ∧ Others w w2 ∧ Btw lo hi w w2 ∧ OwnB w2 lo hi (.agg #[x, y]) (numL k LL) (upFrom (k + totL LL) D.length) := by
  obtain ⟨A, c, d, vs, hv, hc, ho, hf, ht, hr⟩ := h
  simp only [Value.agg.injEq, Array.mk.injEq, List.cons.injEq, and_true] at hv
  obtain ⟨rfl, rfl⟩ := hv
  obtain ⟨n, hnn⟩ : ∃ n, LL.length = n := ⟨_, rfl⟩
  have hvn : vs.length = n := by have := ho.1; omega
  rw [hnn] at hc ho hf ht hn ⊢
  have hM : Marked w lo A c vs y n (LL ++ [D]) := ⟨ho, hf, by simp [hnn]⟩
  refine (marksA_any A lo hi c k n vs y LL D w hM hn (by omega) (fun i L u g hu hL hl hg => hr i L u g hu (by rw [List.getElem?_append_left (List.getElem?_eq_some_iff.1 hL).1]; exact hL) hl hg)).mono ?_
  rintro e w1 ⟨rfl, hm1, hb1, ho1⟩
  refine ⟨rfl, ho1, ?_⟩
  have hyn : (vs ++ [y])[n]? = some y := by rw [← hvn]; simp
  have hDn : (numL k LL ++ [D])[n]? = some D := by rw [← hnn, ← numL_len LL k]; simp
  obtain ⟨y2, hy2, hod⟩ := hm1.fam.1 n D (by omega) hDn
  rw [hyn] at hy2
  cases hy2
  refine (mark_row y lo (k + totL LL) D w1 hod (by omega) (by omega)).mono ?_
  rintro e w2 ⟨rfl, hg2, ho2⟩
  have hm2 := hm1.step (by omega) hyn hDn hg2 ho2 (upFrom_length _ _)
  have e1 : (numL k LL ++ [D]).set n (upFrom (k + totL LL) D.length) = numL k LL ++ [upFrom (k + totL LL) D.length] := by
    rw [List.set_append_right _ _ (by rw [numL_len, hnn]; omega), numL_len, hnn, Nat.sub_self]
    rfl
  rw [e1] at hm2
  refine ⟨rfl, fun g0 cs t m ht h => int_kept ht (ho1 g0 cs t m ht h) hod hg2, hb1.row hg2 (fun b hb => ?_), A, c, y, vs, by rw [numL_len, hnn], by rw [numL_len, hnn]; exact hc, by rw [numL_len, hnn]; exact hm2.own, by rw [numL_len, hnn]; exact hm2.fam, by rw [numL_len, hnn]; exact ht, fun i L u g hu hL hl hg => ?_⟩
  · by_cases h0 : 0 < D.length
    · rw [if_pos h0] at hb
      exact ⟨(hod.lt h0 b hb).1, hr n D y b hyn (by rw [← hnn]; simp) h0 hb⟩
    · rw [if_neg h0] at hb
      cases hb
  · have hil := (List.getElem?_eq_some_iff.1 hL).1
    rw [List.length_append, numL_len, hnn] at hil
    simp only [List.length_singleton] at hil
    by_cases hin : i < n
    · obtain ⟨M, hM2⟩ : ∃ M, LL[i]? = some M := ⟨_, List.getElem?_eq_getElem (by omega)⟩
      rw [List.getElem?_append_left (by rw [numL_len]; omega), numL_at LL k i M hM2] at hL
      cases hL
      rw [upFrom_length] at hl
      exact hr i M u g hu (by rw [List.getElem?_append_left (by omega)]; exact hM2) hl hg
    · obtain rfl : i = n := by omega
      rw [List.getElem?_append_right (by rw [numL_len]; omega), numL_len, hnn, Nat.sub_self] at hL
      simp only [List.getElem?_cons_zero, Option.some.injEq] at hL
      subst hL
      rw [upFrom_length] at hl
      exact hr i D u g hu (by rw [← hnn]; simp) hl hg

set_option maxRecDepth 10000 in
set_option maxHeartbeats 400000 in
theorem marklys_any (A : Option Addr) (base c k n : Nat) (vs : List Value) (P : List (List (List Int) × List Int)) (w : World) (h : w.ownsRow base 28 2 (.slice A n c) n vs) (hl : LayB w base n vs P) (hn : P.length = n) (hm : ∀ p ∈ P, p.1.length ≤ 1048576) (hk : k + totP P ≤ 1048576) (hn2 : n ≤ 1048576) :
    Calls Try.prog 39 #[.slice A n c, .int .i64 (k : Int)] w fun e w' => e = .returned (.int .i64 ((k + totP P : Nat) : Int)) ∧ w'.ownsRow base 28 2 (.slice A n c) n vs ∧ LayB w' base n vs (numP k P) ∧ (∀ w0 : World, w0.grownBy w none → w0.heap.size ≤ base → w0.grownBy w' none) ∧ Others w w' := by
  have HL := Lib.hid hl
  have HO := Lib.hid h
  have HN := Lib.hid hn
  have HM := Lib.hid hm
  have HK := Lib.hid hk
  clear h hl hn hm hk
  go_enter Try.func39, Try.ntmps39
  go_wp2_with fail
  go_loopw [1, 5] (fun u i wr => ∃ (j x : Nat), j ≤ n ∧ i = .int .i64 j ∧ u = .int .i64 x ∧ Hid (x = k + totP (P.take j)) ∧ Hid (wr.ownsRow base 28 2 (.slice A n c) n vs) ∧ Hid (LayB wr base n vs ((numP k P).take j ++ P.drop j)) ∧ Hid (∀ w0 : World, w0.grownBy w none → w0.heap.size ≤ base → w0.grownBy wr none) ∧ Hid (Others w wr)) (fun _ i _ => n - (intOf i).toNat)
  case atStart => exact ⟨0, k, Nat.zero_le _, rfl, rfl, Lib.hid (by simp [totP]), HO, Lib.hid (by simpa using HL.out), Lib.hid (fun _ h _ => h), Lib.hid (fun _ _ _ _ _ h => h)⟩
  case round =>
    clear HO HL
    obtain ⟨j, x, hj, rfl, rfl, hx, ho, hlb, hgr, hot⟩ := hrel
    by_cases hlt : j < n
    · obtain ⟨p, hp⟩ : ∃ p, P[j]? = some p := ⟨_, List.getElem?_eq_getElem (by have := HN.out; omega)⟩
      have hPj : ((numP k P).take j ++ P.drop j)[j]? = some p := by
        have h1 : ((numP k P).take j).length = j := by rw [List.length_take, numP_len]; have := HN.out; omega
        rw [List.getElem?_append_right (by omega), h1, Nat.sub_self, List.getElem?_drop, Nat.add_zero]
        exact hp
      obtain ⟨x0, y0, lo, hi, hx0, hy0, hlo, hob, hst⟩ := hlb.out.mark hlt hPj
      have hts := totP_step hp
      have htl := totP_take P (j + 1)
      have hMT := marktwo (k := x) hob (HM.out p (List.mem_of_getElem? hp)) (by have := HK.out; have := hx.out; omega) (by have := HK.out; have := hx.out; omega)
      have HST := Lib.hid hst
      have HSP := Lib.hid (set_numP (k := k) hp)
      have HTS := Lib.hid hts
      have HLO := Lib.hid hlo
      obtain ⟨g, rfl⟩ : ∃ g, A = some ⟨g, 0, none⟩ := by
        rcases ho.out.2 with ⟨hv, hn0⟩ | ⟨g, cap, cur, hv, _⟩
        · omega
        · cases hv; exact ⟨g, rfl⟩
      have hOW := ho.out
      have hcl : ∀ w' : World, Others wr w' → w'.ownsRow base 28 2 (.slice (some ⟨g, 0, none⟩) n c) n vs := fun w' hoo => by
        refine own_keep hOW (fun q hq => ?_)
        rcases hOW.2 with ⟨hv, _⟩ | ⟨b, cap, cur, hv, _, hb, _⟩
        · cases hv
        · cases hv
          simp only [Value.ownBlock, Option.some.injEq] at hq
          subst hq
          rw [hb]
          exact hoo _ _ _ _ (by decide) hb
      have hce : ∀ w' : World, Others wr w' → w'.cell? ⟨g, j * 2, none⟩ = some x0 ∧ w'.cell? ⟨g, j * 2 + 1, none⟩ = some y0 := fun w' hoo => by
        have h1 := hcl w' hoo
        exact ⟨(h1.cellAt (j * 2) (by omega)).trans hx0, (h1.cellAt (j * 2 + 1) (by omega)).trans hy0⟩
      have HCL := Lib.hid hcl
      have HCE := Lib.hid hce
      obtain ⟨hc0, _⟩ := hce wr (fun _ _ _ _ _ h => h)
      obtain ⟨z, hz⟩ : ∃ z, x + totL p.1 = z := ⟨_, rfl⟩
      rw [hz] at hMT
      obtain ⟨z2, hz2⟩ : ∃ z2, z + p.2.length = z2 := ⟨_, rfl⟩
      rw [hz2] at hMT
      have HMT := Lib.hid hMT
      have HZ := Lib.hid (And.intro hz hz2)
      clear hp hPj hob hst hts htl hMT hcl hce hOW hlo hz hz2 hx0 hy0
      go_wp2_with fail
      refine HMT.out.mono ?_
      rintro e w1 ⟨rfl, ho1, hmm⟩
      obtain ⟨_, hc1⟩ := HCE.out w1 ho1
      have HMM := Lib.hid hmm
      clear hmm ho1
      go_wp2_with fail
      refine HMM.out.mono ?_
      rintro e w2 ⟨rfl, ho2, hb2, hob2⟩
      have HO2 := Lib.hid (HCL.out w2 ho2)
      have hlb2 := HST.out w2 (numL x p.1, upFrom z p.2.length) hb2 hob2
      have e2 := HSP.out
      rw [← hx.out, HZ.out.1] at e2
      rw [e2] at hlb2
      have HLB := Lib.hid hlb2
      have HG2 := Lib.hid (fun (w0 : World) (h1 : w0.grownBy w none) (h2 : w0.heap.size ≤ base) => Btw.gr (hgr.out w0 h1 h2) hb2 (Nat.le_trans h2 HLO.out))
      have HOT := Lib.hid (show Others w w2 from fun g0 cs t m ht h => ho2 g0 cs t m ht (hot.out g0 cs t m ht h))
      clear ho2 hb2 hob2 hlb2 e2
      go_wp2_with fail
      go_roundw
      case rel => exact ⟨j + 1, z2, by omega, by go_num, rfl, Lib.hid (by have := HTS.out; have := hx.out; have := HZ.out; omega), HO2, HLB, HG2, HOT⟩
      case measure => simp [intOf]; omega
    · have hjn : j = n := by omega
      have HJ := Lib.hid hjn
      clear hjn
      go_wp2_with fail
      go_ret
      have e1 : P.take j = P := List.take_of_length_le (by have := HN.out; have := HJ.out; omega)
      have h1 := hx.out
      have h2 := hlb.out
      rw [e1] at h1
      rw [List.take_of_length_le (by rw [numP_len]; have := HN.out; have := HJ.out; omega), List.drop_of_length_le (by have := HN.out; have := HJ.out; omega), List.append_nil] at h2
      exact ⟨by first | (rw [← h1]; rfl) | (rw [show ((k : Int) + ((totP P : Nat) : Int)) = (x : Int) from by omega]; rfl), ho.out, h2, hgr.out, hot.out⟩
end

/- BothInner -/
section
open Go.RowKit

theorem totL_addL : ∀ (A B : List (List Int)), A.length = B.length → totL (addL A B) = totL A + totL B
  | [], [], _ => rfl
  | L :: A, M :: B, h => by
    have := totL_addL A B (by simpa using h)
    unfold addL at this ⊢
    simp only [List.zipWith_cons_cons, totL, List.length_append, this]
    omega
  | [], _ :: _, h => by simp at h
  | _ :: _, [], h => by simp at h
theorem totL_lv_nil : ∀ d, totL (lv d []) = 0
  | 0 => rfl
  | d + 1 => by simp [lv, totL, totL_lv_nil d]
theorem totP_parts {d : Nat} : ∀ (ts : List (T d)), totP (ts.map fun s => (lv d [s], dat d [s])) = totL (lv d ts) + (dat d ts).length
  | [] => by simp [totP, totL_lv_nil, dat_nil]
  | s :: ts => by
    have h1 : lv d (s :: ts) = addL (lv d [s]) (lv d ts) := lv_append d [s] ts
    have h2 : dat d (s :: ts) = dat d [s] ++ dat d ts := dat_append d [s] ts
    simp only [List.map_cons, totP, totP_parts ts, h1, h2, List.length_append]
    rw [totL_addL _ _ (by rw [lv_len, lv_len])]
    omega
theorem totP_mem : ∀ {P : List (List (List Int) × List Int)} {p : List (List Int) × List Int}, p ∈ P → totL p.1 + p.2.length ≤ totP P
  | q :: P, p, h => by
    rcases List.mem_cons.1 h with rfl | h
    · simp only [totP]; omega
    · have := totP_mem h
      simp only [totP]; omega

theorem both_inner (LL : List (List Int)) (D : List Int) (hn : LL.length + totL LL + D.length ≤ 1048576) : ∃ (P : List (List (List Int) × List Int)) (b : Bool), P.length ≤ 400 ∧ 1 + totP P ≤ 1048576 ∧ (∀ p ∈ P, p.1.length + totL p.1 + p.2.length ≤ 1048576) ∧
    (∀ v w, Lyt w v LL D → Calls Try.prog 35 #[v] w fun e w' => ∃ A c, e = .returned (.tuple #[.slice A P.length c, .bool b]) ∧ w.grownBy w' none ∧ Lys w' A P) ∧
    (∀ v w, LytQ w v LL D → Calls Try.prog 36 #[v] w fun e w' => ∃ A c vs, e = .returned (.tuple #[.slice A P.length c, .bool b]) ∧ w.grownBy w' none ∧ w'.ownsRow w.heap.size 28 2 (.slice A P.length c) P.length vs ∧ LayB w' w.heap.size P.length vs P) := by
  by_cases hb : wrong LL D = -1 ∧ LL.length ≠ 0
  · obtain ⟨hv, hl⟩ := hb
    obtain ⟨d, hd⟩ : ∃ d, LL.length = d + 1 := ⟨LL.length - 1, by omega⟩
    have hd3 := (wrong_fits hv).1
    obtain ⟨t, rfl, rfl, hft⟩ := one_of hv hd
    have hok := okl_of hv (fun M hM => by
      obtain ⟨i, hi⟩ := List.getElem?_of_mem hM
      have := totL_at hi
      omega)
    have hlen : (partsP t).length = (prt t).length := by unfold partsP; rw [List.length_map]
    have hn4 : (prt t).length ≤ 400 := by
      have h2 := hok
      rw [lv_one] at h2
      have h4 := (h2 0 _ rfl).1
      simp only [okN, Bool.and_eq_true, decide_eq_true_eq] at h4
      omega
    have htp : totP (partsP t) = totL (lv d (prt t)) + (dat d (prt t)).length := totP_parts _
    have hn2 := hn
    rw [lv_len, lv_one, dat_one] at hn2
    simp only [totL, List.length_singleton] at hn2
    have hpm : ∀ p ∈ partsP t, p.1.length = d := fun p hp => by
      unfold partsP at hp
      obtain ⟨s, _, rfl⟩ := List.mem_map.1 hp
      exact lv_len d [s]
    have hps : ∀ s ∈ prt t, (∀ M ∈ lv d [s], M.length ≤ 1048576) ∧ (dat d [s]).length ≤ 1048576 := fun s hs => by
      obtain ⟨h1, h2, _⟩ := part_small (by omega) hs hok
      exact ⟨fun M hM => by have := h2 M hM; omega, by omega⟩
    refine ⟨partsP t, true, by omega, by omega, fun p hp => by have := totP_mem hp; have := hpm p hp; omega, fun v w h => ?_, fun v w h => ?_⟩
    · refine sinner_of v (partsP t) true _ _ w h (by omega) (fun p hp => ?_) (fun u hu => ?_)
      · have hpl := hpm p hp
        unfold partsP at hp
        obtain ⟨s, hs, rfl⟩ := List.mem_map.1 hp
        exact ⟨by omega, (hps s hs).1, (hps s hs).2⟩
      · rw [hlen]
        exact srawinner_some d t v u (by omega) hu hv hft hn
    · rw [hlen]
      refine (innerof_some d t v w (by omega) h hv hn hps (by omega)).mono ?_
      rintro e w' ⟨A, c, vs, rfl, hg, ho, hls⟩
      exact ⟨A, c, vs, rfl, hg, ho, hls.layb⟩
  · have hb2 : ¬ wrong LL D = -1 ∨ LL.length = 0 := by
      by_cases h : wrong LL D = -1
      · right
        by_cases h2 : LL.length = 0
        · exact h2
        · exact absurd ⟨h, h2⟩ hb
      · exact .inl h
    refine ⟨[], false, by simp, by simp [totP], by simp, fun v w h => ?_, fun v w h => ?_⟩
    · refine sinner_of v [] false LL D w h (by simp) (by simp) (fun u hu => ?_)
      refine (srawinner_none v LL D u hu hn hb2).mono ?_
      rintro e w' ⟨A, c, rfl, hg⟩
      exact ⟨A, c, rfl, hg, fun h => by simp at h⟩
    · refine (innerof_none v LL D w h.lyt hn hb2).mono ?_
      rintro e w' ⟨rfl, hg⟩
      exact ⟨none, 0, [], rfl, hg, World.ownsRow_nil _ _ _ _, fun _ => 0, fun _ => 0, fun _ h => by simp at h, fun _ _ _ h => by simp at h, fun _ _ h => by simp at h⟩

set_option maxHeartbeats 1000000 in
theorem marklB_any (v : Value) (lo hi : Nat) (LL : List (List Int)) (D : List Int) (w : World) (h : OwnB w lo hi v LL D) (hn : LL.length ≤ 1048576) (hk : 1 + totL LL ≤ 1048576) (hd : D.length ≤ 1048576) :
    Calls Try.prog 38 #[v, .int .i64 1] w fun e w' => e = .returned (.int .i64 ((1 + totL LL + D.length : Nat) : Int)) ∧ Btw lo hi w w' ∧ Others w w' := by
  obtain ⟨A, c, y, _, rfl, _⟩ := id h
  obtain ⟨n, hnn⟩ : ∃ n, LL.length = n := ⟨_, rfl⟩
  have hg := World.grownBy_alloc w (.cells #[.slice A LL.length c, y] 28) none
  have HM := Lib.hid (marktwo (k := 1) (h.keep (w' := w.alloc (.cells #[.slice A LL.length c, y] 28)) (fun k _ _ hk => hg.block k hk (by simp))) hn hk hd)
  have HG := Lib.hid hg
  have HP := Lib.hid (Pr.new w 28 (.slice A LL.length c) y)
  obtain ⟨z, hz⟩ : ∃ z, 1 + totL LL = z := ⟨_, rfl⟩
  rw [hz] at HM ⊢
  obtain ⟨z2, hz2⟩ : ∃ z2, z + D.length = z2 := ⟨_, rfl⟩
  rw [hz2] at HM ⊢
  rw [hnn] at HM HG HP ⊢
  have p0 := HP.out.c0
  obtain ⟨x, hx⟩ : ∃ x, Value.slice A n c = x := ⟨_, rfl⟩
  rw [hx] at HM HG HP p0 ⊢
  clear h hn hk hd hg hz hz2 hnn hx
  go_enter Try.func38, Try.ntmps38
  go_wp2_with fail
  refine HM.out.mono ?_
  rintro e w1 ⟨rfl, ho1, hmm⟩
  have p1 := (show Pr w1 w.heap.size 28 x y from ho1 _ _ _ _ (by decide) HP.out).c1
  have HMM := Lib.hid hmm
  clear hmm ho1
  go_wp2_with fail
  refine HMM.out.mono ?_
  rintro e w2 ⟨rfl, ho2, hb2, _⟩
  go_wp2_with fail
  go_ret
  exact ⟨rfl, ((Btw.refl lo hi w).row HG.out (by simp)).trans hb2, fun g0 cs t m ht h => ho2 g0 cs t m ht ((HG.out.block g0 (Array.getElem?_eq_some_iff.1 h).1 (by simp)).trans h)⟩
end

/- LytL -/
section
open Go.ChangeShapes Go.WideShapes Go.ChangeAt Go.RowKit Go.Joins Go.Deep
open Go.ChangeMaps (open_string shut_string)

section
variable {H : Type} {enc : TypeId × Value → H}

set_option maxRecDepth 100000 in
theorem open_layout {W : World} {base : Nat} {v : Value} {d : DataW H} {p : List MemPlace} (hval : Value.okWide Try.prog W .any base 25 v) (h : DataW.Trod enc Try.prog W 0 (fun _ => true) true 25 v d p) :
    ∃ LL D, Lyt W v LL D ∧ LL.length ≤ 9223372036854775807 ∧ (∀ M ∈ LL, M.length ≤ 9223372036854775807) ∧ D.length ≤ 9223372036854775807 ∧ (∀ L ∈ LL, ∀ n ∈ L, (Lit.int .i64 n).wf = true) ∧ ∀ n ∈ D, (Lit.int .i64 n).wf = true := by
  obtain ⟨v0, v1, y0, y1, n, rfl, _, _, h0, h1⟩ := open_agg2 Try.underlying25 (by kernel_rfl) (by kernel_rfl) hval h
  obtain ⟨A, c, LL, rfl, a1, a2, a3, a4, a5⟩ := open_rowsarg h0
  obtain ⟨B, e, D, rfl, b1, b2, b3, b4⟩ := open_listarg h1
  have hmx : maxLen ≤ 9223372036854775807 := by simp [maxLen]
  exact ⟨LL, D, ⟨A, c, B, e, rfl, a1, b1, a3, b3⟩, by omega, fun M hM => Nat.le_trans (a4 M hM) hmx, by omega, a5, b4⟩
end
end

/- Lawinner -/
section
open Go.ChangeShapes Go.WideShapes Go.ChangeAt Go.RowKit

theorem LayB.btw {w w' : World} {lo hi base n : Nat} {vs : List Value} {P : List (List (List Int) × List Int)} (h : LayB w base n vs P) (hb : Btw lo hi w w') (hh : hi ≤ base) : LayB w' base n vs P := by
  obtain ⟨l, u, a1, a2, a3⟩ := h
  refine ⟨l, u, a1, a2, fun i p h hp => ?_⟩
  obtain ⟨x, y, k1, k2, k3⟩ := a3 i p h hp
  exact ⟨x, y, k1, k2, k3.keep (fun k h1 _ h3 => hb.block k (by have := a1 i h; omega) h3)⟩
theorem own_btw {w w' : World} {lo hi base e size n : Nat} {v : Value} {xs : List Value} (h : w.ownsRow base e size v n xs) (hb : Btw lo hi w w') (hh : hi ≤ base) : w'.ownsRow base e size v n xs :=
  own_keep h (fun q hq => hb.block q (by have := (h.lt q hq).1; omega) (h.lt q hq).2)
theorem own_gr {w w' : World} {base e size n : Nat} {v : Value} {xs : List Value} (h : w.ownsRow base e size v n xs) (hg : w.grownBy w' none) : w'.ownsRow base e size v n xs :=
  own_keep h (fun q hq => hg.block q (h.lt q hq).2 (by simp))

set_option maxRecDepth 10000 in
set_option maxHeartbeats 4000000 in
theorem law_inner (v : Value) (LL : List (List Int)) (D : List Int) (w : World) (h : Lyt w v LL D) (hn : LL.length ≤ 9223372036854775807) (hsz : ∀ M ∈ LL, M.length ≤ 9223372036854775807) (hd : D.length ≤ 9223372036854775807) :
    Calls Try.prog 8 #[v] w fun e w' => e = .returned (.bool true) ∧ w.grownBy w' none := by
  have HZ := Lib.hid (fun w h => szl_any v LL D w h hn hsz hd)
  have H := Lib.hid h
  obtain ⟨A, c, B, d, rfl, _⟩ := h
  obtain ⟨n, hnn⟩ : ∃ n, LL.length = n := ⟨_, rfl⟩
  obtain ⟨m, hm⟩ : ∃ m, D.length = m := ⟨_, rfl⟩
  have HN := Lib.hid hnn
  have HM := Lib.hid hm
  rw [hm, hnn] at HZ H ⊢
  clear hn hnn hm hsz hd
  go_enter Try.func8, Try.ntmps8
  go_wp2_with fail
  have HG0 := Lib.hid (World.grownBy_alloc w (.cells #[.slice A n c, .slice B m d] 25) none)
  have HP0 := Lib.hid (Pr.new w 25 (.slice A n c) (.slice B m d))
  generalize w.alloc (.cells #[.slice A n c, .slice B m d] 25) = w0 at HG0 HP0 ⊢
  refine (HZ.out _ (H.out.grown HG0.out)).mono ?_
  rintro e w1 ⟨⟨r, rfl, hr⟩, hg1⟩
  have HG1 := Lib.hid hg1
  have HR := Lib.hid hr
  clear hr hg1
  by_cases hneg : r < 0
  · go_wp2_with fail
    go_ret
    exact ⟨rfl, HG0.out.trans HG1.out⟩
  · have hr0 : 0 ≤ r := by omega
    have hfit := HR.out hr0
    rw [← HN.out, ← HM.out] at hfit
    have HT := Lib.hid (fun u (hg : w0.grownBy u none) => tolq_any _ LL D u (H.out.grown (HG0.out.trans hg)) hfit)
    have HPP := Lib.hid (fun u (hg : w0.grownBy u none) => HP0.out.grown hg (by simp))
    have HE := Lib.hid (fun u v w h h2 => eql_any u v LL D w h h2 hfit)
    obtain ⟨P, b, hP4, hPk, hPm, HS, HI⟩ := both_inner LL D hfit
    have HES := Lib.hid (fun A B c d w h h2 => eqlys_any A B c d P w h h2 (by omega) hPm)
    have HMK := Lib.hid (fun v lo hi w h => marklB_any v lo hi LL D w h (by omega) (by
      by_cases h : LL.length = 0
      · obtain rfl := List.eq_nil_of_length_eq_zero h
        simp [totL]
      · omega) (by omega))
    have HML := Lib.hid (fun A base c vs w h hl => marklys_any A base c 1 P.length vs P w h hl rfl (fun p hp => by have := hPm p hp; omega) (by omega) (by omega))
    have HHD := Lib.hid (fun A c w h => heldlys_any A c 1 P w h (by omega) (fun p hp => by have := hPm p hp; omega) (by omega))
    obtain ⟨q, hq⟩ : ∃ q, P.length = q := ⟨_, rfl⟩
    have HQ := Lib.hid hq
    obtain ⟨z, hz⟩ : ∃ z, 1 + totL LL + D.length = z := ⟨_, rfl⟩
    obtain ⟨z2, hz2⟩ : ∃ z2, 1 + totP P = z2 := ⟨_, rfl⟩
    have hz2b : z2 ≤ 1048576 := by omega
    rw [hz] at HMK
    rw [hz2] at HML HHD
    have HS := Lib.hid HS
    have HI := Lib.hid HI
    rw [hq] at HS HI HES HML HHD
    have hbb : (b != b) = false := by simp
    have hzn : ¬ ((z : Int) < 0) := by omega
    have hzn2 : ¬ ((z2 : Int) < 0) := by omega
    have hzz : ((z2 : Int) != (z2 : Int)) = false := by simp
    clear hq hz hz2 hfit hP4 hPk hPm
    have p0 := (HPP.out _ HG1.out).c0
    have p1 := (HPP.out _ HG1.out).c1
    go_wp2_with fail
    refine (HT.out _ HG1.out).mono ?_
    rintro e w2 ⟨u2, rfl, hg2, ho2⟩
    have HG2 := Lib.hid (HG1.out.trans hg2)
    have HO2 := Lib.hid ho2.own.lyt
    clear p0 p1 hg2 ho2
    go_wp2_with fail
    refine (HS.out _ w2 HO2.out).mono ?_
    rintro e w3 ⟨A1, c1, rfl, hg3, hl3⟩
    have HG3 := Lib.hid (HG2.out.trans hg3)
    have HL3 := Lib.hid hl3
    clear hg3 hl3 HO2 HS
    have p0 := (HPP.out _ HG3.out).c0
    have p1 := (HPP.out _ HG3.out).c1
    go_wp2_with fail
    refine (HT.out _ HG3.out).mono ?_
    rintro e w4 ⟨u4, rfl, hg4, ho4⟩
    obtain ⟨A4, c4, B4, d4, rfl, _⟩ := ho4.own.lyt
    rw [HN.out, HM.out] at ho4 ⊢
    have hga := World.grownBy_alloc w4 (.cells #[.slice A4 n c4, .slice B4 m d4] 28) none
    have HK4 := Lib.hid (show w3.grownBy w4 none from hg4)
    have HO4 := Lib.hid ho4
    have HA5 := Lib.hid hga
    have HQ5 := Lib.hid (ho4.lytq.grown hga)
    have HX5 := Lib.hid (Pr.new w4 28 (.slice A4 n c4) (.slice B4 m d4))
    have HG4 := Lib.hid (HG3.out.trans hg4)
    clear hg4 ho4 hga p0 p1
    have p0 := HX5.out.c0
    have p1 := HX5.out.c1
    go_wp2_with fail
    generalize w4.alloc (.cells #[.slice A4 n c4, .slice B4 m d4] 28) = w5 at HA5 HQ5 HX5 p0 p1 ⊢
    refine (HI.out _ w5 HQ5.out).mono ?_
    rintro e w6 ⟨A6, c6, vs6, rfl, hg6, ho6, hl6⟩
    have HG6 := Lib.hid (show w5.grownBy w6 none from hg6)
    have HO6 := Lib.hid ho6
    have HL6 := Lib.hid hl6
    clear hg6 ho6 hl6 p0 p1
    go_wp2_with fail
    refine (HES.out A6 A1 c6 c1 w6 (HL6.out.lys HQ.out HO6.out) ((HL3.out.grown HK4.out).grown (HA5.out.trans HG6.out))).mono ?_
    rintro e w7 ⟨rfl, hg7⟩
    have HG7 := Lib.hid (HG6.out.trans hg7)
    have HO7 := Lib.hid (own_gr HO6.out hg7)
    have HL7 := Lib.hid (HL6.out.grown hg7)
    clear hg7
    have HW7 := Lib.hid (HG4.out.trans (HA5.out.trans HG7.out))
    have p0 := (HX5.out.grown HG7.out (by simp)).c0
    have p1 := (HX5.out.grown HG7.out (by simp)).c1
    have p2 := (HPP.out _ HW7.out).c0
    have p3 := (HPP.out _ HW7.out).c1
    have HY := Lib.hid (HO4.out.own.lyt.grown (HA5.out.trans HG7.out))
    go_wp2_with fail
    go_cut [45] from 41 to 44 (fun v wx => v = .bool false ∧ Hid (w7.grownBy wx none))
    case first =>
      go_region_law (first
        | (go_simp
           go_at_call 16
           refine (HT.out _ (HW7.out.trans (gr_drewN w7 _ none))).mono ?_
           rintro e w8 ⟨u8, rfl, hg8, ho8⟩
           have HG8 := Lib.hid (World.grownBy.trans (gr_drewN w7 _ none) hg8)
           have r2 := ((HX5.out.grown HG7.out (by simp)).grown HG8.out (by simp)).c0
           have r3 := ((HX5.out.grown HG7.out (by simp)).grown HG8.out (by simp)).c1
           have HE8 := Lib.hid (HE.out _ _ w8 (HY.out.grown HG8.out) ho8.own.lyt)
           clear hg8 ho8)
        | (go_simp
           go_at_call 18
           refine HE8.out.mono ?_
           rintro e w9 ⟨rfl, hg9⟩
           have HG9 := Lib.hid (HG8.out.trans hg9)
           clear hg9))
      all_goals
        go_wp2_with fail
        go_meet
        exact ⟨rfl, HG9⟩
    case rest =>
      obtain ⟨rfl, hgc⟩ := hcut
      have HGC := Lib.hid hgc.out
      have HO8 := Lib.hid (own_gr HO7.out hgc.out)
      have HL8 := Lib.hid (HL7.out.grown hgc.out)
      have HW8 := Lib.hid (HW7.out.trans hgc.out)
      have h48 := (HA5.out.trans HG7.out).trans hgc.out
      have p0 := (HX5.out.grown (HG7.out.trans hgc.out) (by simp)).c0
      have p1 := (HX5.out.grown (HG7.out.trans hgc.out) (by simp)).c1
      have hs4 : w4.heap.size ≤ w5.heap.size := HA5.out.size
      have hs3 : w3.heap.size ≤ w4.heap.size := HK4.out.size
      have hs0 : w0.heap.size ≤ w3.heap.size := HG3.out.size
      have HB8 := Lib.hid (OwnB.of (w := wc) HO4.out.own (fun k _ hk => h48.block k hk (by simp)))
      have HK8 := Lib.hid (HK4.out.trans h48)
      clear p2 p3 hgc HY h48 HO7 HL7
      go_wp2_with fail
      refine (HMK.out _ _ _ wc HB8.out).mono ?_
      rintro e wa ⟨rfl, hba, hoa⟩
      have HOA := Lib.hid (own_btw HO8.out hba hs4)
      have HLA := Lib.hid (HL8.out.btw hba hs4)
      have HWA := Lib.hid (Btw.gr HW8.out hba hs0)
      have HKA := Lib.hid (Btw.gr HK8.out hba (Nat.le_refl _))
      clear hba hoa p0 p1 HB8
      go_wp2_with fail
      refine (HES.out A6 A1 c6 c1 wa (HLA.out.lys HQ.out HOA.out) (HL3.out.grown HKA.out)).mono ?_
      rintro e wb ⟨rfl, hgb⟩
      have HOB := Lib.hid (own_gr HOA.out hgb)
      have HLB := Lib.hid (HLA.out.grown hgb)
      have HWB := Lib.hid (HWA.out.trans hgb)
      have HKB := Lib.hid (HKA.out.trans hgb)
      clear hgb
      go_wp2_with fail
      refine (HML.out A6 w5.heap.size c6 vs6 wb HOB.out HLB.out).mono ?_
      rintro e wd ⟨rfl, hod, hld, hfd, _⟩
      have HND := Lib.hid (show Lys wd A6 (numP 1 P) from hld.lys (by rw [numP_len, HQ.out]) hod)
      have HWD := Lib.hid (hfd w0 HWB.out (by omega))
      have HKD := Lib.hid (hfd w3 HKB.out (by omega))
      clear hod hld hfd
      go_wp2_with fail
      refine (HHD.out A6 c6 wd HND.out).mono ?_
      rintro e we ⟨rfl, rfl⟩
      have p2 := (HPP.out _ HWD.out).c0
      have p3 := (HPP.out _ HWD.out).c1
      go_wp2_with fail
      refine (HT.out _ HWD.out).mono ?_
      rintro e wf ⟨u9, rfl, hgf, hof⟩
      have HQF := Lib.hid hof.lytq
      have HKF := Lib.hid (HKD.out.trans hgf)
      have HWF := Lib.hid (HWD.out.trans hgf)
      have HNF := Lib.hid (HND.out.grown hgf)
      clear hgf hof p2 p3
      go_wp2_with fail
      refine (HI.out _ wf HQF.out).mono ?_
      rintro e wg ⟨A9, c9, vs9, rfl, hgg, hog, hlg⟩
      have HLG := Lib.hid (hlg.lys HQ.out hog)
      have HKG := Lib.hid (HKF.out.trans hgg)
      have HWG := Lib.hid (HWF.out.trans hgg)
      have HNG := Lib.hid (HNF.out.grown hgg)
      clear hgg hog hlg
      go_wp2_with fail
      refine (HES.out A9 A1 c9 c1 wg HLG.out (HL3.out.grown HKG.out)).mono ?_
      rintro e wh ⟨rfl, hgh⟩
      have HWH := Lib.hid (HWG.out.trans hgh)
      have HNH := Lib.hid (HNG.out.grown hgh)
      clear hgh
      go_wp2_with fail
      refine (HHD.out A6 c6 wh HNH.out).mono ?_
      rintro e wi ⟨rfl, rfl⟩
      go_wp2_with fail
      go_ret
      exact ⟨rfl, HG0.out.trans HWH.out⟩

set_option maxRecDepth 100000 in
theorem inner_lifted (os : Os) (started : os.Started) (H : Type) (enc : TypeId × Value → H) :
    ReturnsInHanded {} Try.checked os 8 .any (Rows.fnExactInnerOfSpec.pre6 enc Try.prog Try.f8 Rows.fnExactInnerOfRow.domain false) (Rows.fnExactInnerOfSpec.post enc Try.prog Try.f8 false true false false) := by
  refine returnsInHanded_of_change (C := Try.checked) knob_own started (by kernel_rfl) Try.func8
    (ChangeSpec.witness6 (enc := enc) (C := Try.checked) false ⟨#[], #[.agg #[.slice none 0 0, .slice none 0 0]], []⟩ 8 (by kernel_rfl) (by kernel_rfl) (by kernel_rfl) (by kernel_rfl)) ?_
  intro W base args ds gs before hval0 hW hcnd _
  have hval : ∀ (j : Nat) t v, Try.f8.params[j]? = some t → args[j]? = some v → Value.okWide Try.prog W .any base t v := hval0
  have hW' := hW
  obtain ⟨p, q, hA0, hV, rfl, hfz, hnd⟩ := hW
  have hA : DataW.TrodAll enc Try.prog W 0 (fun _ => true) true Try.f8.params.toList args.toList ds p := hA0
  rw [Try.params8] at hA hval
  obtain ⟨v0, d0, rfl, rfl, h0⟩ := trodAll_one hA
  obtain ⟨rfl, rfl⟩ := trodVars_none hV
  obtain ⟨LL, D, hl, hn, hsz, hd, _⟩ := open_layout (hval 0 25 v0 rfl rfl) h0
  clear hA0 hval0
  simp only [List.append_nil] at hW'
  have hlt : ∀ x ∈ p, x.block < W.heap.size := fun x hx => by simpa using hW'.lt x hx
  refine (law_inner v0 LL D W hl hn hsz hd).mono fun e W' ⟨he, hg⟩ => ?_
  subst he
  refine ⟨_, rfl, _, _, _, [], p, [], hW', ?_, ?_, rfl, (below_of hg).frame _, fun h => by cases h⟩
  · exact trodAll_mk1 (shut_bool Try.underlying4 _)
  · exact trodAll_mk1 (Below.trod laid_out (by kernel_rfl) (of_decide_eq_true (by kernel_rfl)) h0 (below_of hg) hlt)

theorem inner_holds : Rows.FnExactInnerOfSaid :=
  OpenClaim.holds_of_wide 8 Try.f8 rfl rfl rfl rfl rfl rfl rfl ⟨rfl, rfl, rfl, rfl, rfl⟩ rfl rfl rfl rfl rfl (by kernel_rfl) Try.func8 (by kernel_rfl)
    (of_decide_eq_true (by kernel_rfl)) (by unfold Func.isWrapper; first | (rw [if_pos (by decide +kernel)]; kernel_rfl) | (rw [if_neg (by decide +kernel)]; exact ⟨rfl, rfl⟩))
    (fun os started H enc _ => inner_lifted os started H enc)

#print axioms inner_holds
end

end Go.Proofs.Ytbideeajdhejoaa

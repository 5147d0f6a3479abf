/- A map of arrays to arrays, each to where its indices stand: what is put into it, what is looked up, whether two arrays are the same. -/
import Derived.Test.YtpakihjkjdanlaaPermV
import Derived.Maps.Keyed
import Derived.DeepKeys4
namespace Go.Proofs.Ytpakihjkjdanlaa
open Go.RowKit Go.ChangeMaps

theorem lawP : WideMaps.KeyLaw Try.prog 59 := deep_law_laid (by kernel_rfl) (m := 2) (by omega) (of_decide_eq_true (by kernel_rfl)) (by kernel_rfl) (by kernel_rfl)

theorem mapM_some {α β : Type} (f : α → Option β) : ∀ l : List α, (∀ a ∈ l, ∃ b, f a = some b) → ∃ bs, l.mapM f = some bs
  | [], _ => ⟨[], rfl⟩
  | a :: l, h => by
    obtain ⟨b, hb⟩ := h a (by simp)
    obtain ⟨bs, hbs⟩ := mapM_some f l (fun x hx => h x (by simp [hx]))
    exact ⟨b :: bs, by simp [List.mapM_cons, hb, hbs]⟩
theorem key_some {P : List Int} (h : Ok400 P) : ∃ l, keyOf Try.prog 59 (.agg (pvc P)) = some l := by
  have hu : Try.prog.underlying 59 = some (.array 400 3) := underP
  have hc : Try.prog.cellsOf 59 = 400 := by kernel_rfl
  have h1 : Try.prog.cellsOf 3 = 1 := by kernel_rfl
  have hk : Try.prog.keyType 59 = true := by kernel_rfl
  have hf : (Value.agg (pvc P)).formed Try.prog 59 = true := by
    simp [Value.formed, hu, hc, pvc_size, h.1]
  obtain ⟨n, hn⟩ : ∃ n, Try.prog.types.size + 1 = n + 2 := ⟨Try.prog.types.size - 1, by have : 0 < Try.prog.types.size := of_decide_eq_true (by kernel_rfl); omega⟩
  have hl : ∃ ls, Try.prog.keyLits (n + 2) 59 (Value.agg (pvc P)).cells.toList = some ls := by
    have hlen : (Value.agg (pvc P)).cells.toList.length = 400 := by simp [Value.cells, pvc, h.1]
    unfold Program.keyLits
    rw [hu]
    simp only [hlen, hc, if_true]
    obtain ⟨bs, hbs⟩ := mapM_some (fun i => Try.prog.keyLits (n + 1) 3 (((Value.agg (pvc P)).cells.toList.drop (i * Try.prog.cellsOf 3)).take (Try.prog.cellsOf 3))) (List.range 400) (fun i hi => by
      have hi4 : i < 400 := List.mem_range.1 hi
      obtain ⟨x, hx⟩ : ∃ x, P[i]? = some x := ⟨_, List.getElem?_eq_getElem (by have := h.1; omega)⟩
      have hxr := h.2 i x hx
      have hd : ((Value.agg (pvc P)).cells.toList.drop (i * 1)).take 1 = [.int .i64 x] := by
        have hil : i < (P.map (Value.int .i64)).length := by rw [List.length_map]; have := h.1; omega
        show ((P.map (Value.int .i64)).drop (i * 1)).take 1 = _
        rw [Nat.mul_one, List.drop_eq_getElem_cons hil, List.take_succ_cons, List.take_zero, List.getElem_map, (List.getElem?_eq_some_iff.1 hx).2]
      rw [h1, hd]
      refine ⟨[.int .i64 x], ?_⟩
      unfold Program.keyLits
      rw [Try.underlying3]
      have hw : (Lit.int .i64 x).wf = true := WalkArith.wf_i64 (by omega)
      simp [hw])
    exact ⟨bs.flatten, by rw [hbs]; rfl⟩
  obtain ⟨ls, hls⟩ := hl
  refine ⟨.string (keyBytes ls), ?_⟩
  unfold keyOf
  rw [hu]
  simp only [hk, hf, hn, hls, Bool.and_self, if_true, Option.map_some]

/-- A block that is a map in which each array stands for where its indices stand, and in which these arrays are. -/
def MpAt (w : World) (b : Nat) (Ks : List (List Int)) : Prop := ∃ es c, w.heap[b]? = some (.map es c) ∧ (∀ e ∈ es.toList, ∃ x, Ok400 x ∧ e.key = .agg (pvc x) ∧ e.val = .agg (pvc (invL x))) ∧ ∀ x ∈ Ks, ∃ e ∈ es.toList, e.key = .agg (pvc x)
theorem MpAt.lt {w : World} {b : Nat} {Ks : List (List Int)} (h : MpAt w b Ks) : b < w.heap.size := by
  obtain ⟨es, c, h1, _⟩ := h
  exact (Array.getElem?_eq_some_iff.1 h1).1
theorem MpAt.grown {w w' : World} {b : Nat} {Ks : List (List Int)} {row : Option Nat} (h : MpAt w b Ks) (hg : w.grownBy w' row) (hne : some b ≠ row) : MpAt w' b Ks := by
  have hl := h.lt
  obtain ⟨es, c, h1, h2⟩ := h
  exact ⟨es, c, (hg.block b hl hne).trans h1, h2⟩
theorem MpAt.new (w : World) : MpAt (w.alloc (.map #[] 0)) w.heap.size [] := ⟨#[], 0, heap_alloc_last w _, by simp, by simp⟩
theorem setBlock_at (w : World) (b : Nat) (o : Obj) (h : b < w.heap.size) : (setBlock w b o).heap[b]? = some o := by simp [setBlock, h]
theorem setBlock_grown (w : World) (b : Nat) (o : Obj) : w.grownBy (setBlock w b o) (some b) :=
  ⟨rfl, rfl, rfl, by simp [setBlock], fun k _ hk => by
    simp only [setBlock]
    rw [Array.getElem?_setIfInBounds_ne (fun e => hk (by rw [e]))]⟩

theorem put_run {w : World} {b : Nat} {Ks : List (List Int)} (h : MpAt w b Ks) {x : List Int} (hx : Ok400 x) :
    ∃ w', (Instr.mapUpdate 62 (.map (some b)) (.agg (pvc x)) (.agg (pvc (invL x)))).run Try.prog w = .ok () w' ∧ MpAt w' b (x :: Ks) ∧ w.grownBy w' (some b) := by
  have hlt := h.lt
  obtain ⟨es, c, hb, hes, hks⟩ := h
  have ht : Try.prog.underlying 62 = some (.map 59 59) := by kernel_rfl
  obtain ⟨l, hl⟩ := key_some hx
  have hkeys : ∀ e ∈ es.toList, ∃ l, keyOf Try.prog 59 e.key = some l := fun e he => by
    obtain ⟨y, hy, e1, _⟩ := hes e he
    rw [e1]; exact key_some hy
  have hchk := lawP.check w false hl
  rcases lawP.find w hl es.toList hkeys with ⟨h1, h2⟩ | ⟨j, e0, h1, h2, h3⟩
  · refine ⟨setBlock w b (.map (es.push ⟨.agg (pvc x), .agg (pvc (invL x)), c⟩) (c + 1)), ?_, ⟨_, _, setBlock_at w b _ hlt, ?_, ?_⟩, setBlock_grown w b _⟩
    · simp [Instr.mapUpdate, run_underlying ht, MapKept.run_getObj_map hb, hchk, h1, MapKept.run_setObj_map _ hb, Result.andThen, setBlock]
    · intro e he
      simp only [Array.toList_push, List.mem_append, List.mem_singleton] at he
      rcases he with he | rfl
      · exact hes e he
      · exact ⟨x, hx, rfl, rfl⟩
    · intro y hy
      simp only [Array.toList_push, List.mem_append, List.mem_singleton]
      rcases List.mem_cons.1 hy with rfl | hy
      · exact ⟨_, .inr rfl, rfl⟩
      · obtain ⟨e, he, h4⟩ := hks y hy
        exact ⟨e, .inl he, h4⟩
  · have hj : es[j]? = some e0 := by simpa using h2
    refine ⟨setBlock w b (.map (es.modify j (fun e' => { e' with key := .agg (pvc x), val := .agg (pvc (invL x)) })) c), ?_, ⟨_, _, setBlock_at w b _ hlt, ?_, ?_⟩, setBlock_grown w b _⟩
    · simp [Instr.mapUpdate, run_underlying ht, MapKept.run_getObj_map hb, hchk, h1, hj, h3, lawP.stays w hl, MapKept.run_setObj_map _ hb, Result.andThen, setBlock]
    · intro e he
      rw [Array.toList_modify, ChangeMaps.modify_eq_set _ _ _ _ h2] at he
      rcases List.mem_or_eq_of_mem_set he with he | rfl
      · exact hes e he
      · exact ⟨x, hx, rfl, rfl⟩
    · intro y hy
      rw [Array.toList_modify, ChangeMaps.modify_eq_set _ _ _ _ h2]
      have hjl := (List.getElem?_eq_some_iff.1 h2).1
      rcases List.mem_cons.1 hy with rfl | hy
      · exact ⟨_, List.mem_set hjl _, rfl⟩
      · obtain ⟨e, he, h4⟩ := hks y hy
        obtain ⟨i, hi, e1⟩ := List.getElem_of_mem he
        by_cases hij : i = j
        · subst hij
          have : e = e0 := by
            rw [List.getElem?_eq_getElem hi, e1] at h2
            exact Option.some.inj h2
          refine ⟨_, List.mem_set hjl _, ?_⟩
          rw [← h4, this, h3]
        · refine ⟨e, ?_, h4⟩
          rw [List.mem_iff_getElem]
          exact ⟨i, by rw [List.length_set]; exact hi, by rw [List.getElem_set_ne (fun e => hij e.symm)]; exact e1⟩

theorem get_run {w : World} {b : Nat} {Ks : List (List Int)} (h : MpAt w b Ks) {x : List Int} (hx : Ok400 x) (hm : x ∈ Ks) :
    (Instr.lookup 62 (.map (some b)) (.agg (pvc x)) false).run Try.prog w = .ok (.agg (pvc (invL x))) w := by
  obtain ⟨es, c, hb, hes, hks⟩ := h
  have ht : Try.prog.underlying 62 = some (.map 59 59) := by kernel_rfl
  obtain ⟨l, hl⟩ := key_some hx
  have hkeys : ∀ e ∈ es.toList, ∃ l, keyOf Try.prog 59 e.key = some l := fun e he => by
    obtain ⟨y, hy, e1, _⟩ := hes e he
    rw [e1]; exact key_some hy
  have hchk := lawP.check w es.isEmpty hl
  rcases lawP.find w hl es.toList hkeys with ⟨h1, h2⟩ | ⟨j, e0, h1, h2, h3⟩
  · obtain ⟨e, he, h4⟩ := hks x hm
    exact absurd h4 (h2 e he)
  · obtain ⟨y, hy, e1, e2⟩ := hes e0 (List.mem_of_getElem? h2)
    rw [h3] at e1
    have hxy : x = y := pvc_inj (by simpa using e1)
    subst hxy
    simp [Instr.lookup, run_underlying ht, MapKept.run_getObj_map hb, hchk, h1, e2, Result.andThen]

/-- Two arrays are the same exactly if their numbers are. -/
theorem same_run {x y : List Int} (hx : Ok400 x) (hy : Ok400 y) (w : World) : (Op.equal 59 (.agg (pvc x)) (.agg (pvc y))).run Try.prog w = .ok (decide (x = y)) w := by
  obtain ⟨l, hl⟩ := key_some hx
  obtain ⟨m, hm⟩ := key_some hy
  have hu : Try.prog.underlying 59 = some (.array 400 3) := underP
  have hf := lawP.find w hl [⟨.agg (pvc y), .agg (pvc y), 0⟩] (fun e he => by
    obtain rfl := List.mem_singleton.1 he
    exact ⟨m, hm⟩)
  have hfk : ∀ r, (Instr.findKey 59 (.agg (pvc x)) [⟨.agg (pvc y), .agg (pvc y), 0⟩]).run Try.prog w = .ok r w → ∃ b, (Op.equal 59 (.agg (pvc x)) (.agg (pvc y))).run Try.prog w = .ok b w ∧ r = if b = true then some (0, .agg (pvc y)) else none := fun r h => by
    simp only [Instr.findKey, Sem.run_bind, run_underlying hu, Result.andThen, Instr.findNow, Instr.sameNow, Instr.findAsking] at h
    cases hq : (Op.equal 59 (.agg (pvc x)) (.agg (pvc y))).run Try.prog w with
    | ok b w1 =>
      rw [hq] at h
      cases b <;> simp at h <;> obtain ⟨rfl, rfl⟩ := h <;> exact ⟨_, rfl, rfl⟩
    | _ => rw [hq] at h; simp at h
  rcases hf with ⟨h1, h2⟩ | ⟨j, e0, h1, h2, h3⟩
  · obtain ⟨b, hb, hr⟩ := hfk _ h1
    have hne : ¬ x = y := fun e => h2 _ (List.mem_singleton.2 rfl) (by rw [e])
    cases b with
    | true => simp at hr
    | false => rw [hb, decide_eq_false hne]
  · obtain ⟨b, hb, hr⟩ := hfk _ h1
    have he : e0 = ⟨.agg (pvc y), .agg (pvc y), 0⟩ := by
      cases j with
      | zero => simpa using h2.symm
      | succ j => simp at h2
    have heq : x = y := by
      rw [he] at h3
      exact (pvc_inj (by simpa using h3)).symm
    cases b with
    | true => rw [hb, decide_eq_true heq]
    | false => simp at hr

end Go.Proofs.Ytpakihjkjdanlaa

/- A strings.Builder that lies at the head of a codeWriter's block: what copyCheck, Len, WriteByte, WriteString and String do with it. -/
import Derived.Test.YtdfanconjiiceaaDoorGr
import Derived.Test.YtdfanconjiiceaaDoorOwn
import Derived.Lib.Strings
import Derived.Lib.Slices
import Derived.Lib.Walk
import Derived.Lib.Builder
import Derived.Lib.AppendStr
import Derived.Lib.UnsafeStr
import Derived.Laws.Externs
import Derived.Laws.IdiomCopy
namespace Go.Proofs.YtdfanconjiiceaaDoor
open Go.RowKit

abbrev CW : TypeId := 48
abbrev U8 : TypeId := 5
theorem sizeBl : (Tryd.prog.info? 46).map (·.size) = some 2 := by kernel_rfl
theorem liesBl : liesAt Tryd.prog Tryd.prog.depth CW (2 / Tryd.prog.cellsOf CW) 0 46 1 = true := by kernel_rfl
theorem infoW8 : (Tryd.prog.info? U8).map (fun i => (i.zero, i.size, i.bytes)) = some (some (.int .u8 0), 1, 1) := by kernel_rfl
theorem cellsU8 : Tryd.prog.cellsOf U8 = 1 := by kernel_rfl

/-- The writer's block b, whose builder holds the bytes l; what lies below block B is not its own. -/
def WB (w : World) (B b : Nat) (l : List UInt8) : Prop := Lib.IsBuilder CW U8 B b (Lib.byteCells l) w
/-- .. once written. -/
def WBu (w : World) (B b : Nat) (l : List UInt8) : Prop := Lib.BuilderAt CW U8 B b (.pointer (some ⟨b, 0, none⟩)) (Lib.byteCells l) w
theorem WBu.wb {w : World} {B b : Nat} {l : List UInt8} (h : WBu w B b l) : WB w B b l := .inr h
theorem at_grown {w w' : World} {B b : Nat} {p : Value} {bs : List Value} (h : Lib.BuilderAt CW U8 B b p bs w) (hg : w.grownBy w' none) : Lib.BuilderAt CW U8 B b p bs w' := by
  have hlt := h.lt
  obtain ⟨hB, v, hb, ho, hne⟩ := h
  exact ⟨hB, v, (hg.block b hlt (by simp)).trans hb, own_keep ho (fun g hv => hg.block g (ho.lt g hv).2 (by simp)), hne⟩
theorem WB.grown {w w' : World} {B b : Nat} {l : List UInt8} (h : WB w B b l) (hg : w.grownBy w' none) : WB w' B b l := h.imp (fun h => at_grown h hg) (fun h => at_grown h hg)
theorem WB.lt {w : World} {B b : Nat} {l : List UInt8} (h : WB w B b l) : B ≤ b ∧ b < w.heap.size := by
  rcases h with h | h
  · exact ⟨h.1, h.lt⟩
  · exact ⟨h.1, h.lt⟩

/-- Blocks that are neither a writer's nor bytes stay. -/
def Kp (w w' : World) : Prop := ∀ (k : Nat) (cs : Array Value) (T : TypeId) (fr : Nat × Nat), T ≠ CW → T ≠ U8 → w.heap[k]? = some (.cells cs T fr) → w'.heap[k]? = some (.cells cs T fr)
theorem Kp.refl (w : World) : Kp w w := fun _ _ _ _ _ _ h => h
theorem Kp.trans {a b c : World} (h : Kp a b) (h2 : Kp b c) : Kp a c := fun k cs T fr h3 h4 h5 => h2 k cs T fr h3 h4 (h k cs T fr h3 h4 h5)
theorem Kp.grown {w w' : World} (hg : w.grownBy w' none) : Kp w w' := fun k cs T fr _ _ h => (hg.block k (Array.getElem?_eq_some_iff.1 h).1 (by simp)).trans h
theorem Kp.set {w : World} {b i : Nat} {cs0 : Array Value} {u : Value} (hb : w.heap[b]? = some (.cells cs0 CW (0, 0))) : Kp w (w.setCell ⟨b, i, none⟩ u) := fun k cs T fr h1 _ h => (Below.heap_setCell _ _ _ _ (fun e => by
  have e' : k = b := by simpa using e
  rw [e', hb] at h
  cases h
  exact h1 rfl)).trans h
theorem Kp.row {w w' : World} {B n : Nat} {v : Value} {xs : List Value} (ho : w.ownsRow B U8 1 v n xs) (hg : w.grownBy w' v.ownBlock) : Kp w w' := fun k cs T fr _ h2 h => (hg.block k (Array.getElem?_eq_some_iff.1 h).1 (fun e => by
  rcases ho.2 with ⟨rfl, _⟩ | ⟨g, cap, cur, rfl, _, hgg, _⟩
  · cases e
  · have e' : k = g := by simpa [Value.ownBlock] using e
    subst e'
    rw [hgg] at h
    cases h
    exact h2 rfl)).trans h

set_option maxHeartbeats 1000000 in
set_option maxRecDepth 100000 in
theorem cc_used (b : Nat) (w : World) (h0 : w.cell? ⟨b, 0, none⟩ = some (.pointer (some ⟨b, 0, none⟩))) :
    Calls Tryd.prog 54 #[.pointer (some ⟨b, 0, none⟩)] w fun e w' => e = .returned (.tuple #[]) ∧ w' = w := by
  obtain ⟨j, hj, _⟩ := Option.map_eq_some_iff.1 sizeBl
  have hq := fun (w : World) => Lib.run_neq_ptr_same (P := Tryd.prog) w ⟨b, 0, none⟩ Tryd.underlying43 hj
  go_enter Tryd.func54, Tryd.ntmps54
  go_wp2
  go_end0
  exact ⟨rfl, rfl⟩

set_option maxHeartbeats 1000000 in
set_option maxRecDepth 100000 in
theorem cc_fresh (b : Nat) (w : World) (h0 : w.cell? ⟨b, 0, none⟩ = some (.pointer none)) (hsh : w.shape? b = some (CW, 2)) (hfz : w.frozen? ⟨b, 0, none⟩ = false) :
    Calls Tryd.prog 54 #[.pointer (some ⟨b, 0, none⟩)] w fun e w' => e = .returned (.tuple #[]) ∧ w' = w.setCell ⟨b, 0, none⟩ (.pointer (some ⟨b, 0, none⟩)) := by
  obtain ⟨j, hj, hjs⟩ := Option.map_eq_some_iff.1 sizeBl
  go_enter Tryd.func54, Tryd.ntmps54
  go_wp2
  rw [Lib.run_to_unsafe w ⟨b, 0, none⟩ Tryd.underlying43 Tryd.underlying130 hj (by rw [hjs]; decide) hsh (Nat.zero_lt_succ 1)]
  simp only [Result.andThen]
  rw [Oper.upon_value]
  go_wp2
  rw [run_callFunc_extern Tryd.func62 (by kernel_rfl) (by kernel_rfl) (by kernel_rfl) (e := Extern.AbiNoEscape.same) (by kernel_rfl)]
  rw [Lib.run_noEscape]
  simp only [Result.andThen]
  rw [Oper.upon_value]
  go_wp2
  rw [Lib.run_from_unsafe w ⟨b, 0, none⟩ Tryd.underlying130 Tryd.underlying43 hj hsh liesBl]
  simp only [Result.andThen]
  rw [Oper.upon_value]
  go_wp2
  go_end0
  exact ⟨rfl, rfl⟩

theorem cc_any (B b : Nat) (l : List UInt8) (w : World) (h : WB w B b l) :
    Calls Tryd.prog 54 #[.pointer (some ⟨b, 0, none⟩)] w fun e w' => e = .returned (.tuple #[]) ∧ WBu w' B b l ∧ Below B w w' ∧ Kp w w' := by
  rcases h with h | h
  · refine (cc_fresh b w h.cell0 h.shape h.frozen0).mono ?_
    rintro e w' ⟨rfl, rfl⟩
    obtain ⟨v, hb, _⟩ := h.2
    exact ⟨rfl, h.used _, (Below.refl B w).setCell (p := ⟨b, 0, none⟩) h.1 _, Kp.set hb⟩
  · refine (cc_used b w h.cell0).mono ?_
    rintro e w' ⟨rfl, rfl⟩
    exact ⟨rfl, h, Below.refl B _, Kp.refl _⟩

theorem bcells_len (l : List UInt8) : (Lib.byteCells l).length = l.length := Lib.byteCells_length l

set_option maxHeartbeats 1000000 in
set_option maxRecDepth 100000 in
theorem blen_any (B b : Nat) (l : List UInt8) (w : World) (h : WB w B b l) :
    Calls Tryd.prog 39 #[.pointer (some ⟨b, 0, none⟩)] w fun e w' => e = .returned (.int .i64 l.length) ∧ w' = w := by
  obtain ⟨p, hB, v, hbk, hown, hne⟩ : ∃ p, Lib.BuilderAt CW U8 B b p (Lib.byteCells l) w := by
    rcases h with h | h
    · exact ⟨_, h⟩
    · exact ⟨_, h⟩
  obtain ⟨A, k, c, rfl⟩ := own_form hown
  have hk : k = l.length := by
    rcases hown.2 with ⟨hv, h0⟩ | ⟨g, cap, cur, hv, _⟩
    · cases hv; rw [bcells_len] at h0; exact h0.symm
    · cases hv; exact bcells_len l
  subst hk
  have c1 : w.cell? ⟨b, 1, none⟩ = some (.slice A l.length c) := by rw [Lib.cell_of_heap hbk]; rfl
  clear hbk hown hne h
  generalize l.length = n at c1 ⊢
  go_enter Tryd.func39, Tryd.ntmps39
  go_wp2_with fail
  go_ret
  exact ⟨rfl, rfl⟩

theorem bcells_app (l m : List UInt8) : Lib.byteCells (l ++ m) = Lib.byteCells l ++ Lib.byteCells m := by simp [Lib.byteCells]

set_option maxHeartbeats 2000000 in
set_option maxRecDepth 100000 in
theorem wbyte_any (B b : Nat) (l : List UInt8) (c : Int) (x : UInt8) (hx : (x.toNat : Int) = c) (w : World) (h : WB w B b l) (hl : l.length ≤ 100000) :
    Calls Tryd.prog 40 #[.pointer (some ⟨b, 0, none⟩), .int .u8 c] w fun e w' => e = .returned .nilIface ∧ WBu w' B b (l ++ [x]) ∧ Below B w w' ∧ Kp w w' := by
  obtain ⟨i0, hi, hz0, hz1, hz2⟩ := info_parts infoW8
  have hBb := h.lt
  have HC := Lib.hid (cc_any B b l w h)
  clear h
  have hxs : Lib.byteCells l ++ [.int .u8 c] = Lib.byteCells (l ++ [x]) := by rw [bcells_app, ← hx]; rfl
  have HXS := Lib.hid hxs
  clear hxs hx
  go_enter Tryd.func40, Tryd.ntmps40
  go_wp2_with fail
  refine HC.out.mono ?_
  rintro e w1 ⟨rfl, h1, hb1, hkp1⟩
  have hlt := Lib.BuilderAt.lt h1
  obtain ⟨hB, v, hbk, hown, hne⟩ := h1
  have c0 : w1.cell? ⟨b, 0, none⟩ = some (.pointer (some ⟨b, 0, none⟩)) := by rw [Lib.cell_of_heap hbk]; rfl
  have c1 : w1.cell? ⟨b, 1, none⟩ = some v := by rw [Lib.cell_of_heap hbk]; rfl
  obtain ⟨A, k, cp, rfl⟩ := own_form hown
  have hlen := bcells_len l
  go_wp2_with (at_builtin; refine wpList_append_own _ rfl _ _ 44 rfl B U8 i0 (.int .u8 0) 1 1 Tryd.underlying44 hi hz0 hz1 hz2 rfl (by decide) _ _ _ rfl (hown.alloc _) ⟨w1.heap.size, 0, none⟩ 1 1 [.int .u8 c] rfl rfl ?c1 ?c2 ?c3 ?c4 ?c5 ?_)
  case c1 =>
    intro j u hj
    match j, hj with
    | 0, hj => simp at hj; subst hj; simp [Addr.add]
  case c2 => intro u hu; simp at hu; subst hu; rfl
  case c3 => unfold maxLen; omega
  case c4 => omega
  case c5 => simp; omega
  intro v' w2 hown' hgrow _
  have hb2 : w2.heap[b]? = some (.cells #[.pointer (some ⟨b, 0, none⟩), .slice A k cp] CW (0, 0)) := by
    rw [hgrow.block b (by simp; omega) (fun e => hne e.symm), Lib.alloc_old w1 _ b hlt]
    exact hbk
  have d0 : w2.cell? ⟨b, 0, none⟩ = some (.pointer (some ⟨b, 0, none⟩)) := by rw [Lib.cell_of_heap hb2]; rfl
  have d1 : w2.cell? ⟨b, 1, none⟩ = some (.slice A k cp) := by rw [Lib.cell_of_heap hb2]; rfl
  have f1 : w2.frozen? ⟨b, 1, none⟩ = false := Lib.frozen_of_heap hb2 1
  obtain ⟨A', k', cp', rfl⟩ := own_form hown'
  have HOWN := Lib.hid hown'
  have HGROW := Lib.hid hgrow
  have HB2 := Lib.hid hb2
  have HOWN1 := Lib.hid hown
  have HB1 := Lib.hid hb1
  have HKP1 := Lib.hid hkp1
  clear hown' hgrow hb2 hown hb1 hbk hkp1
  go_wp2_with fail
  go_ret
  refine ⟨rfl, ?_, ?_, ?_⟩
  · refine Lib.BuilderAt.put (T := CW) (e := U8) hB HB2.out (bs' := Lib.byteCells (l ++ [x])) ?_ (by decide)
    have := HOWN.out
    rw [HXS.out] at this
    simpa [bcells_len] using this
  · exact ((HB1.out.alloc (by have := HB1.out.size; omega) _).grown HGROW.out (by have := HB1.out.size; simp; omega) (fun k hk => (HOWN1.out.lt k hk).1)).setCell (p := ⟨b, 1, none⟩) hB _
  · exact ((HKP1.out.trans (Kp.grown (World.grownBy_alloc w1 _ none))).trans (Kp.row (HOWN1.out.alloc _) HGROW.out)).trans (Kp.set HB2.out)

theorem strCells_is (s : ByteArray) : Lib.strCells s = Lib.byteCells s.data.toList := rfl

set_option maxHeartbeats 2000000 in
set_option maxRecDepth 100000 in
theorem wstr_any (B b : Nat) (l : List UInt8) (s : ByteArray) (w : World) (h : WB w B b l) (hl : l.length ≤ 100000) (hs : s.size ≤ 100000) :
    Calls Tryd.prog 41 #[.pointer (some ⟨b, 0, none⟩), .string s] w fun e w' => e = .returned (.tuple #[.int .i64 s.size, .nilIface]) ∧ WBu w' B b (l ++ s.data.toList) ∧ Below B w w' ∧ Kp w w' := by
  obtain ⟨i0, hi, hz0, hz1, hz2⟩ := info_parts infoW8
  have hBb := h.lt
  have HC := Lib.hid (cc_any B b l w h)
  clear h
  have HXS := Lib.hid (show Lib.byteCells l ++ Lib.strCells s = Lib.byteCells (l ++ s.data.toList) by rw [bcells_app]; rfl)
  go_enter Tryd.func41, Tryd.ntmps41
  go_wp2_with fail
  refine HC.out.mono ?_
  rintro e w1 ⟨rfl, h1, hb1, hkp1⟩
  have hlt := Lib.BuilderAt.lt h1
  obtain ⟨hB, v, hbk, hown, hne⟩ := h1
  have c0 : w1.cell? ⟨b, 0, none⟩ = some (.pointer (some ⟨b, 0, none⟩)) := by rw [Lib.cell_of_heap hbk]; rfl
  have c1 : w1.cell? ⟨b, 1, none⟩ = some v := by rw [Lib.cell_of_heap hbk]; rfl
  obtain ⟨A, k, cp, rfl⟩ := own_form hown
  have hlen := bcells_len l
  go_wp2_with (at_builtin; refine Lib.wpList_append_own_string _ rfl _ _ 44 9 rfl B U8 i0 Tryd.underlying44 Tryd.underlying9 hi hz0 hz1 hz2 _ _ _ rfl hown s rfl ?c3 ?c4 ?c5 ?_)
  case c3 => unfold maxLen; omega
  case c4 => omega
  case c5 => have := hb1.size; omega
  intro v' w2 hown' hgrow _
  have hb2 : w2.heap[b]? = some (.cells #[.pointer (some ⟨b, 0, none⟩), .slice A k cp] CW (0, 0)) := by
    rw [hgrow.block b hlt (fun e => hne e.symm)]
    exact hbk
  have d0 : w2.cell? ⟨b, 0, none⟩ = some (.pointer (some ⟨b, 0, none⟩)) := by rw [Lib.cell_of_heap hb2]; rfl
  have d1 : w2.cell? ⟨b, 1, none⟩ = some (.slice A k cp) := by rw [Lib.cell_of_heap hb2]; rfl
  have f1 : w2.frozen? ⟨b, 1, none⟩ = false := Lib.frozen_of_heap hb2 1
  obtain ⟨A', k', cp', rfl⟩ := own_form hown'
  have HOWN := Lib.hid hown'
  have HGROW := Lib.hid hgrow
  have HB2 := Lib.hid hb2
  have HOWN1 := Lib.hid hown
  have HB1 := Lib.hid hb1
  have HKP1 := Lib.hid hkp1
  clear hown' hgrow hb2 hown hb1 hbk hkp1
  go_wp2_with fail
  go_ret2
  refine ⟨rfl, ?_, ?_, ?_⟩
  · refine Lib.BuilderAt.put (T := CW) (e := U8) hB HB2.out (bs' := Lib.byteCells (l ++ s.data.toList)) ?_ (by decide)
    have := HOWN.out
    rw [HXS.out] at this
    simpa [bcells_len] using this
  · exact (HB1.out.grown HGROW.out (by have := HB1.out.size; omega) (fun k hk => (HOWN1.out.lt k hk).1)).setCell (p := ⟨b, 1, none⟩) hB _
  · exact (HKP1.out.trans (Kp.row HOWN1.out HGROW.out)).trans (Kp.set HB2.out)

set_option maxHeartbeats 1000000 in
set_option maxRecDepth 100000 in
theorem bstr_any (B b : Nat) (l : List UInt8) (w : World) (h : WB w B b l) (h0 : l ≠ []) :
    Calls Tryd.prog 14 #[.pointer (some ⟨b, 0, none⟩)] w fun e w' => e = .returned (.string ⟨l.toArray⟩) ∧ Below B w w' := by
  obtain ⟨p, hB, v, hbk, hown, hne⟩ : ∃ p, Lib.BuilderAt CW U8 B b p (Lib.byteCells l) w := by
    rcases h with h | h
    · exact ⟨_, h⟩
    · exact ⟨_, h⟩
  have hl0 : l.length ≠ 0 := by simpa using h0
  rw [bcells_len] at hown
  obtain ⟨g, cap, cur, rfl, hbg, hg, hnc, hcm, hcs, htake⟩ : ∃ g cap cur, v = .slice (some ⟨g, 0, none⟩) l.length cap ∧ B ≤ g ∧ w.heap[g]? = some (.cells cur U8 (0, 0)) ∧ l.length ≤ cap ∧ cap ≤ maxLen ∧ cur.size = cap * 1 ∧ cur.toList.take (l.length * 1) = Lib.byteCells l := by
    rcases hown.2 with ⟨_, hz⟩ | ⟨g, cap, cur, hv, r⟩
    · exact absurd hz hl0
    · exact ⟨g, cap, cur, hv, r⟩
  have c1 : w.drew.cell? ⟨b, 1, none⟩ = some (.slice (some ⟨g, 0, none⟩) l.length cap) := by
    have : w.drew.heap[b]? = some (.cells #[p, .slice (some ⟨g, 0, none⟩) l.length cap] CW (0, 0)) := hbk
    rw [Lib.cell_of_heap this]; rfl
  have hSD : (Builtin.unsafeSliceData_ #[44] 78 #[.slice (some ⟨g, 0, none⟩) l.length cap]).run Tryd.prog w.drew = .ok (.pointer (some ⟨g, 0, none⟩)) w.drew :=
    Lib.run_unsafeSliceData_row _ _ _ _ _ _ (by omega)
  have hUS : (Builtin.unsafeString_ #[78, 3] 9 #[.pointer (some ⟨g, 0, none⟩), .int .i64 l.length]).run Tryd.prog w.drew = .ok (.string ⟨l.toArray⟩) (w.drew.freeze ⟨g, 0, none⟩ l.length) := by
    refine Lib.run_unsafeString_row w.drew 78 3 9 U8 Tryd.underlying78 cellsU8 g cur.size (by have hg' : w.drew.heap[g]? = some (.cells cur U8 (0, 0)) := hg; simp [World.shape?, hg']) l h0 (by omega) (by unfold maxLen at hcm; omega) ?_
    intro j x hx
    exact hown.cells (g := g) rfl j (.int .u8 x.toNat) (by simp [Lib.byteCells, hx])
  obtain ⟨z, hz⟩ : ∃ z : ByteArray, ⟨l.toArray⟩ = z := ⟨_, rfl⟩
  rw [hz] at hUS ⊢
  clear hbk hown hne h hz
  go_enter Tryd.func14, Tryd.ntmps14
  go_wp2_with fail
  go_region
  all_goals (go_wp2_with fail; go_ret; exact ⟨rfl, Lib.below_freeze (Below.drew (Below.refl B w)) (p := ⟨g, 0, none⟩) hbg _⟩)

end Go.Proofs.YtdfanconjiiceaaDoor

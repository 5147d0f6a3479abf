/- The law FnReplace: whatever the bytes, true. -/
import Derived.Test.YtmofoeljajdhmaaTPts
import Derived.Test.YtmofoeljajdhmaaTxt
import Derived.Test.YtmofoeljajdhmaaDig
import Derived.RangeFuncNested
import Derived.RangeFuncBound
import Derived.RangeFuncCalls
import Derived.RangeFuncLeaves
import Derived.Shelf.Abstract
import Derived.Shelf.RegionOpen
import Derived.WalkKit
import Derived.OwnWalkIn
import Derived.TacticsInMore
import Derived.LoopNIn
import Derived.LoopIn
import Derived.Test.YtmofoeljajdhmaaOwn
import Derived.Test.YtmofoeljajdhmaaTSet
import Derived.Sort.MapsRangeIn
import Derived.RangeFuncSeq
import Derived.BigQuiet
import Derived.Deep.QuietTactic
import Derived.Test.YtmofoeljajdhmaaSFree
import Derived.Test.YtmofoeljajdhmaaTFreeL
import Derived.Test.YtmofoeljajdhmaaTTerm
import Derived.Test.YtmofoeljajdhmaaTText
import Derived.Test.YtmofoeljajdhmaaTBindA
import Derived.Test.YtmofoeljajdhmaaTInL
import Derived.Test.YtmofoeljajdhmaaSRepL
import Derived.Test.YtmofoeljajdhmaaSTxtA
import Derived.Test.YtmofoeljajdhmaaInvR
import Derived.Test.YtmofoeljajdhmaaDraw
import Derived.Test.YtmofoeljajdhmaaOne
import Derived.ProofKit
import Derived.Lib.SmallJoins
import Derived.Deep.Matrix
import Derived.SizedLaws
import Derived.Deep.WholeRow
import Derived.Test.YtmofoeljajdhmaaTDep
import Derived.Great.Walk
import Derived.Test.YtmofoeljajdhmaaSLev
import Derived.Deep.RegionLaw
import Derived.Test.YtmofoeljajdhmaaTDepA
import Derived.Test.YtmofoeljajdhmaaTSign
import Derived.Test.YtmofoeljajdhmaaGr
import Derived.Test.YtmofoeljajdhmaaGdreplace
namespace Go.Proofs.Ytmofoeljajdhmaa
section
open Go.RowKit

/-- What l5Read leaves, with a term or without: a node and its parts, none where there is no term. -/
theorem sterm_kids {s : ByteArray} {w w' : World} {e : Ending} (h : STermPost s w e w') : ∃ a b A k c ok xs, e = .returned (.tuple #[.agg #[.int .u8 a, .int .u8 b, .slice A k c], .bool ok]) ∧ w.grownBy w' none ∧
    w'.ownsRow 0 70 3 (.slice A k c) xs.length (flat3 xs) ∧ All2 (SN w' (fun b => w.heap.size ≤ b)) (match readT s with | some t => t.kids | none => ([] : List Tm)) xs := by
  unfold STermPost at h
  cases hr : readT s with
  | none =>
    rw [hr] at h
    exact ⟨0, 0, none, 0, 0, false, [], h.1, h.2, ⟨rfl, .inl ⟨rfl, rfl⟩⟩, trivial⟩
  | some t =>
    rw [hr] at h
    obtain ⟨a, b, A, k, c, he, hg, hs⟩ := h
    obtain ⟨xs, ho, ha⟩ := hs.kids
    exact ⟨a, b, A, k, c, true, xs, he, hg, ho, ha⟩

/-- Whatever lies in cells of a type lies as it lay. -/
def KeepT (ty : TypeId) (w w' : World) : Prop := ∀ (v : Nat) (cs : Array Value) (fr : Nat × Nat), w.heap[v]? = some (.cells cs ty fr) → w'.heap[v]? = some (.cells cs ty fr)
theorem KeepT.grown {ty : TypeId} {w w1 w2 : World} (h : KeepT ty w w1) (hg : w1.grownBy w2 none) : KeepT ty w w2 := fun v cs fr hv => by
  have := h v cs fr hv
  exact (hg.block v (blk_lt this) (by simp)).trans this
/-- A row of another type is written. -/
theorem KeepT.row {ty e : TypeId} {w w1 w2 : World} {base size n : Nat} {sv : Value} {xs : List Value} (h : KeepT ty w w1) (ho : w1.ownsRow base e size sv n xs) (he : e ≠ ty) (hg : w1.grownBy w2 sv.ownBlock) : KeepT ty w w2 := fun v cs fr hv => by
  have h1 := h v cs fr hv
  refine (hg.block v (blk_lt h1) ?_).trans h1
  intro hb
  rcases ho.2 with ⟨hs, _⟩ | ⟨g, cap, cur, hs, _, hgg, _⟩
  · subst hs; simp [Value.ownBlock] at hb
  · subst hs
    simp only [Value.ownBlock, Option.some.injEq] at hb
    subst hb
    rw [hgg] at h1
    cases h1
    exact he rfl
theorem own_keepT {w w' : World} {base : Nat} {e : TypeId} {size n : Nat} {v : Value} {xs : List Value} (h : w.ownsRow base e size v n xs) (hk : KeepT e w w') : w'.ownsRow base e size v n xs := by
  refine ⟨h.1, ?_⟩
  rcases h.2 with hn | ⟨g, cap, cur, rfl, hb, hgg, rest⟩
  · exact .inl hn
  · exact .inr ⟨g, cap, cur, rfl, hb, hk _ _ _ hgg, rest⟩
theorem SN.keepT {w w' : World} {S : Nat → Prop} (hk : KeepT 70 w w') : ∀ (t : Tm) (x : Int × Int × Value), SN w S t x → SN w' S t x
  | .dig _, _, ⟨h1, h2, ho, hS⟩ => ⟨h1, h2, own_keepT ho hk, hS⟩
  | .var _, _, ⟨h1, h2, ho, hS⟩ => ⟨h1, h2, own_keepT ho hk, hS⟩
  | .pre _ s, _, ⟨h1, h2, y, ho, hS, h3⟩ => ⟨h1, h2, y, own_keepT ho hk, hS, SN.keepT hk s y h3⟩
  | .two _ s t, _, ⟨h1, h2, y, z, ho, hS, h3, h4⟩ => ⟨h1, h2, y, z, own_keepT ho hk, hS, SN.keepT hk s y h3, SN.keepT hk t z h4⟩
  | .loop _ _ s t, _, ⟨h1, h2, y, z, ho, hS, h3, h4⟩ => ⟨h1, h2, y, z, own_keepT ho hk, hS, SN.keepT hk s y h3, SN.keepT hk t z h4⟩

set_option maxRecDepth 100000 in
set_option maxHeartbeats 2000000 in
theorem tpts_spec (s : ByteArray) (hs : s.size ≤ 1048576) (w : World) :
    Calls Try.prog 23 #[.string s] w (PtsPost (partsA s) w) := by
  obtain ⟨i0, hi0, hz0, hz1, hz2⟩ := info_parts infoStr
  have H := Lib.hid (fun u => sterm_any s hs u)
  obtain ⟨ss, hb⟩ : ∃ b, partsA s = b := ⟨_, rfl⟩
  rw [hb]
  have HSS : Hid ((match readT s with | some t => t.kids | none => ([] : List Tm)).map (fun k : Tm => bytesOf k.txt) = ss) := Lib.hid (by
    rw [← hb]; unfold partsA; cases readT s <;> rfl)
  have HLE : Hid (∀ t ∈ (match readT s with | some t => t.kids | none => ([] : List Tm)), t.Ok ∧ t.txt.length ≤ 80) := Lib.hid (by
    intro t ht
    cases hr : readT s with
    | none => rw [hr] at ht; simp at ht
    | some t' =>
      rw [hr] at ht
      have h1 := Tm.kids_ok (readT_some hr).2.2.1 ht
      have h2 := readT_len hr
      have h3 := (readT_some hr).1
      exact ⟨h1.1, by omega⟩)
  have HKL2 : Hid ((match readT s with | some t => t.kids | none => ([] : List Tm)).length ≤ 2) := Lib.hid (by
    cases readT s with
    | none => simp
    | some t => exact kids_len t)
  clear hb
  have HOW0 := Lib.hid (World.ownsRow_made (base := w.heap.size) (e := 9) (size := 1) w #[] 0 (Nat.le_refl _) (by simp) (by simp))
  go_enter Try.func23, Try.ntmps23
  go_wp2_with fail
  refine (H.out _).mono ?_
  intro e w0 hp
  obtain ⟨a, b, A, k, c, ok, xs, rfl, hg, ho, ha⟩ := sterm_kids hp
  generalize (match readT s with | some t => t.kids | none => ([] : List Tm)) = ks at HSS HLE HKL2 ha
  obtain ⟨hk, hkc, -⟩ := srow3 ho
  have hlen := All2.length _ _ ha
  have HKL := Lib.hid hk
  have HLEN := Lib.hid hlen
  have HO := Lib.hid ho
  have HA := Lib.hid ha
  have hk2 : k ≤ 2 := by have := HKL2.out; omega
  have HW0 := Lib.hid (own_keep HOW0.out (fun b hb => hg.block b (HOW0.out.lt b hb).2 (by simp)))
  have HG := Lib.hid ((World.grownBy_alloc w (.cells #[] 9) none).trans hg)
  have HX := Lib.hid (c3_new w0 (.int .u8 a) (.int .u8 b) (.slice A k c) 70)
  have x0 := HX.out.c0
  have x1 := HX.out.c1
  have x2 := HX.out.c2
  clear hp hg ho ha hk hlen
  go_wp2_with fail
  go_loopw [3, 17] (fun u i wr => ∃ j : Nat, j ≤ k ∧ i = .int .i64 j ∧ Hid (wr.ownsRow w.heap.size 9 1 u (ss.take j).length (strV (ss.take j))) ∧ Hid (w.grownBy wr none) ∧ Hid (KeepT 70 w0 wr)) (fun _ i _ => k - (intOf i).toNat)
  case atStart => exact ⟨0, Nat.zero_le _, rfl, Lib.hid (HW0.out.alloc _), Lib.hid (HG.out.trans (World.grownBy_alloc _ _ _)), Lib.hid (KeepT.grown (fun _ _ _ h => h) (World.grownBy_alloc _ _ _))⟩
  case round =>
    obtain ⟨j, hj, rfl, how, hgr, hkt⟩ := hrel
    by_cases hlt : j < k
    · obtain ⟨-, -, hrow⟩ := srow3 (own_keepT HO.out hkt.out)
      obtain ⟨g, rfl, hg1, hcell⟩ := hrow (by omega)
      obtain ⟨tj, ⟨a2, b2, sv2⟩, htj, hxj, hpj⟩ := HA.out.get (j := j) (by have := HKL.out; omega)
      obtain ⟨A2, k2, c2, hsv⟩ := hpj.form
      simp only at hsv
      subst hsv
      obtain ⟨q0, q1, q2⟩ := hcell j _ hxj
      have hle := HLE.out tj (List.mem_of_getElem? htj)
      have HCALL := Lib.hid (stxt_any tj _ a2 b2 A2 k2 c2 (wr.alloc (.cells #[.int .u8 a2, .int .u8 b2, .slice A2 k2 c2] 70)) hle.1 (by omega) ((SN.keepT hkt.out _ _ hpj).grown (World.grownBy_alloc _ _ _)))
      obtain ⟨X, hX⟩ : ∃ X, bytesOf tj.txt = X := ⟨_, rfl⟩
      unfold STxtPost at HCALL
      rw [hX] at HCALL
      have HX' : Hid (ss[j]? = some X) := Lib.hid (by rw [← HSS.out, List.getElem?_map, htj, ← hX]; rfl)
      obtain ⟨Av, nv, cv, rfl⟩ := own_form how.out
      have hlj : (ss.take j).length = j := by
        rw [List.length_take]
        have := (List.getElem?_eq_some_iff.1 HX'.out).1
        omega
      have hnv : nv = j := (own_len how.out).trans hlj
      subst hnv
      have HLJ := Lib.hid hlj
      simp only at q0 q1 q2
      clear hpj htj hxj hcell hX hle hlj hrow
      go_wp2_with fail
      refine HCALL.out.mono ?_
      rintro e w2 ⟨rfl, hg2'⟩
      have hg2 := (World.grownBy_alloc wr (.cells #[.int .u8 a2, .int .u8 b2, .slice A2 k2 c2] 70) none).trans hg2'
      have HG2 := Lib.hid hg2
      have HKT2 := Lib.hid ((hkt.out.grown hg2).grown (World.grownBy_alloc w2 (.cells #[.string X] 9) none))
      have own1 := (own_keep how.out (fun b hb => hg2.block b (how.out.lt b hb).2 (by simp))).alloc (.cells #[.string X] 9)
      rw [HLJ.out] at own1
      have hw2 : w.heap.size ≤ w2.heap.size := Nat.le_trans hgr.out.size hg2.size
      clear hg2 hg2' q0 q1 q2
      go_wp2_with (at_builtin; refine wpList_append_own_at _ rfl _ _ 29 rfl w.heap.size 9 i0 (.string .empty) 1 16 Try.underlying29 hi0 hz0 hz1 hz2 rfl (by decide) _ _ _ rfl own1 ⟨w2.heap.size, 0, none⟩ 1 1 [.string X] rfl rfl ?a1 ?a2 ?a3 ?a4 ?a5 ?_)
      case a1 => exact cell_one_new _ _ _
      case a2 => simp [Value.oneCell']
      case a3 => simp only [maxLen]; omega
      case a4 => omega
      case a5 => simp; omega
      intro v8 w8 hown8 hg8 _ _
      have HKT8 := Lib.hid (HKT2.out.row own1 (by decide) hg8)
      obtain ⟨A8, k8, c8, rfl⟩ := own_form hown8
      have hmore := str_more hgr.out how.out (HG2.out.trans (World.grownBy_alloc w2 (.cells #[.string X] 9) none)) hown8 hg8 (by rw [List.length_append, HLJ.out]; rfl)
      rw [take_snoc' HX'.out] at hmore
      have HM := Lib.hid hmore
      clear hmore hown8 hg8 own1
      go_wp2_with fail
      go_roundw
      case rel => exact ⟨nv + 1, by omega, by go_num, Lib.hid HM.out.1, Lib.hid HM.out.2, HKT8⟩
      case measure => simp [intOf]; omega
    · have hjk : j = k := by omega
      have HJ := Lib.hid hjk
      obtain ⟨Av, nv, cv, rfl⟩ := own_form how.out
      clear hjk
      go_wp2_with fail
      go_ret
      refine ⟨_, rfl, hgr.out, ?_⟩
      have e1 : ss.take j = ss := List.take_of_length_le (by rw [← HSS.out, List.length_map, HLEN.out, HJ.out, HKL.out]; exact Nat.le_refl _)
      have := how.out
      rw [e1] at this
      exact this
end

section
section
open Go.RowKit

/-- The array reader at block g: its text and its place. -/
def Rdr (w : World) (g : Nat) (s : ByteArray) (p : Nat) : Prop := RdrT 209 w g s p

section
variable {w w' : World} {g p : Nat} {s : ByteArray}
theorem Rdr.c0 (h : Rdr w g s p) : w.cell? ⟨g, 0, none⟩ = some (.string s) := RdrT.c0 h
theorem Rdr.c1 (h : Rdr w g s p) : w.cell? ⟨g, 1, none⟩ = some (.int .i64 p) := RdrT.c1 h
theorem Rdr.f (h : Rdr w g s p) (i : Nat) : w.frozen? ⟨g, i, none⟩ = false := RdrT.f h i
theorem Rdr.lt (h : Rdr w g s p) : g < w.heap.size := RdrT.lt h
theorem Rdr.drewN (h : Rdr w g s p) (n : Nat) : Rdr (w.drewN n) g s p := h
theorem Rdr.drew (h : Rdr w g s p) : Rdr w.drew g s p := h
theorem Rdr.set1 (h : Rdr w g s p) (q : Nat) : Rdr (w.setCell ⟨g, 1, none⟩ (.int .i64 q)) g s q := RdrT.set1 h q
theorem Rdr.alloc (h : Rdr w g s p) (o : Obj) : Rdr (w.alloc o) g s p := RdrT.alloc h o
theorem Rdr.grown {row : Option Nat} (h : Rdr w g s p) (hg : w.grownBy w' row) (hne : some g ≠ row) : Rdr w' g s p := RdrT.grown h hg hne
end

set_option maxHeartbeats 400000 in
theorem digit_any (g p : Nat) (s : ByteArray) (w : World) (h : Rdr w g s p) (b : Bool) (hb : dg s p = b) :
    Calls Try.prog 223 #[.pointer (some ⟨g, 0, none⟩)] w fun e w' => e = .returned (.bool b) ∧ ∃ n, w' = w.drewN n := by
  have h0 := h.c0
  have h1 := h.c1
  rcases Nat.lt_or_ge p s.size with hp | hp
  · have hd : decide (p < s.size) = true := by simp; omega
    have HD := Lib.hid (fun w => isdigit_any ((s[p].toNat : Nat) : Int) b (by rw [← ba_in hp]; exact hb) w)
    clear hb
    go_enter Try.func223, Try.ntmps223
    go_wp2_with fail
    go_quiet ((go_at_call 179; exact Calls.quiet_of_same (HD.out _)))
    go_wp2_with fail
    go_ret
    exact ⟨rfl, _, rfl⟩
  · have hd : decide (p < s.size) = false := by simp; omega
    obtain rfl : b = false := by
      rw [← hb]; unfold dg; rw [ba_out hp]; rfl
    clear hb
    go_enter Try.func223, Try.ntmps223
    go_wp2_with fail
    go_quiet (fail)
    go_wp2_with fail
    go_ret
    exact ⟨rfl, _, rfl⟩
end

section
open Go.RowKit

/-- The slice's cells are these strings. -/
def Strs (w : World) (A : Option Addr) (ss : List ByteArray) : Prop :=
  0 < ss.length → ∃ b off, A = some ⟨b, off, none⟩ ∧ b < w.heap.size ∧ ∀ (j : Nat) (s : ByteArray), ss[j]? = some s → w.cell? ⟨b, off + j, none⟩ = some (.string s)
theorem Strs.grown {w w' : World} {A : Option Addr} {ss : List ByteArray} (h : Strs w A ss) (hg : w.grownBy w' none) : Strs w' A ss := fun hl => by
  obtain ⟨b, off, rfl, hb, hc⟩ := h hl
  exact ⟨b, off, rfl, Nat.lt_of_lt_of_le hb hg.size, fun j s hj => hg.cell (hc j s hj) (by simp)⟩

/-- The sum of the lengths. -/
def tot : List ByteArray → Nat
  | [] => 0
  | s :: l => s.size + tot l
theorem tot_append : ∀ (l m : List ByteArray), tot (l ++ m) = tot l + tot m
  | [], m => by simp [tot]
  | s :: l, m => by simp [tot, tot_append l m, Nat.add_assoc]
theorem tot_step {ss : List ByteArray} {j : Nat} {s : ByteArray} (h : ss[j]? = some s) : tot (ss.take (j + 1)) = tot (ss.take j) + s.size := by
  rw [List.take_add_one, h, tot_append]
  simp [tot]
end
end

section
section
open Go.RowKit

/-- Whatever is no cells of these types lies as it lay. -/
structure KeepsX (X : TypeId → Prop) (W W' : World) : Prop where
  size : W.heap.size ≤ W'.heap.size
  same : ∀ (k : Nat) (o : Obj), W.heap[k]? = some o → (∀ xs t m, o = .cells xs t m → ¬ X t) → W'.heap[k]? = some o

theorem KeepsX.refl (X : TypeId → Prop) (W : World) : KeepsX X W W := ⟨Nat.le_refl _, fun _ _ h _ => h⟩
theorem KeepsX.trans {X : TypeId → Prop} {A B C : World} (h : KeepsX X A B) (k : KeepsX X B C) : KeepsX X A C :=
  ⟨Nat.le_trans h.size k.size, fun i o hi ho => k.same i o (h.same i o hi ho) ho⟩
theorem not_cells_spares {o : Obj} (h : o.isCells = false) (X : TypeId → Prop) : ∀ xs t m, o = .cells xs t m → ¬ X t := fun xs t m e => by subst e; cases h
theorem KeepsX.from {X : TypeId → Prop} {W W' : World} (h : KeepsX X W W') (B : Nat) : KeepsFrom B W W' :=
  ⟨h.size, fun k o _ hk ho => h.same k o hk (not_cells_spares ho X)⟩
theorem KeepsX.grown {X : TypeId → Prop} {W W' : World} (h : W.grownBy W' none) : KeepsX X W W' :=
  ⟨h.size, fun k o hk _ => (h.block k (Array.getElem?_eq_some_iff.1 hk).1 (fun e => by cases e)).trans hk⟩
theorem KeepsX.alloc {X : TypeId → Prop} (W : World) (o : Obj) : KeepsX X W (W.alloc o) := KeepsX.grown (World.grownBy_alloc W o none)
/-- A step that turns one block of such cells. -/
theorem KeepsX.grownX {X : TypeId → Prop} {W W' : World} {g : Nat} {xs : Array Value} {t : TypeId} {m : Nat × Nat} (h : W.grownBy W' (some g)) (hg : W.heap[g]? = some (.cells xs t m)) (ht : X t) : KeepsX X W W' :=
  ⟨h.size, fun k o hk ho => (h.block k (Array.getElem?_eq_some_iff.1 hk).1 (fun e => by cases e; rw [hg] at hk; cases hk; exact ho _ _ _ rfl ht)).trans hk⟩
theorem KeepsX.cell {X : TypeId → Prop} {W W' : World} (h : KeepsX X W W') {b : Nat} {v : Value} {t : TypeId} {m : Nat × Nat} (hb : W.heap[b]? = some (.cells #[v] t m)) (ht : ¬ X t) : W'.heap[b]? = some (.cells #[v] t m) :=
  h.same b _ hb (fun xs t' m' e => by cases e; exact ht)
theorem ownFrom_keepsX {β : Type} (X : TypeId → Prop) (W0 : World) {B : Nat} (hB : W0.heap.size ≤ B) : OwnFrom B (fun (_ : β) W => KeepsX X W0 W) := fun s A C row hs hg hr =>
  ⟨Nat.le_trans hs.size hg.size, fun k o hk ho => (hg.block k (Nat.lt_of_lt_of_le (Array.getElem?_eq_some_iff.1 hk).1 hs.size) (fun e => by
    have h1 := (hr k e.symm).1
    have h2 := (Array.getElem?_eq_some_iff.1 hk).1
    omega)).trans (hs.same k o hk ho)⟩
theorem OwnFrom.mono' {β : Type} {B B' : Nat} {I : β → World → Prop} (h : OwnFrom B I) (hB : B ≤ B') : OwnFrom B' I := fun s W W' row hs hg hr =>
  h s W W' row hs hg (fun r e => ⟨Nat.le_trans hB (hr r e).1, (hr r e).2⟩)
/-- A round: the loop's record is busy meanwhile, and ready again. -/
theorem KeepsX.round {X : TypeId → Prop} {W W3 : World} {l : Nat} {o o2 : Obj} (hl : W.heap[l]? = some o) (h : KeepsX X (W.putObj l o2) W3) : KeepsX X W (W3.putObj l o) := by
  have hlt := (Array.getElem?_eq_some_iff.1 hl).1
  refine ⟨by simpa using h.size, fun k o' hk ho => ?_⟩
  by_cases e : k = l
  · subst e
    rw [hl] at hk
    cases hk
    exact World.putObj_heap_same (Nat.lt_of_lt_of_le (by simpa using hlt) h.size)
  · rw [World.putObj_heap_other e]
    exact h.same k o' (by rw [World.putObj_heap_other e]; exact hk) ho

/-- **An iterator's contract**: these numbers come, one by one, or a round has said 'no more'. -/
def SeqOwn (X : TypeId → Prop) (P : Program) (g : Nat) (lb : Array Value) (zs : List Int) (w : World) : Prop :=
  ∀ (n l : Nat) (J Jx : List Int → World → Prop) (W : World), KeepsX X w W → OwnFrom W.heap.size J → OwnFrom W.heap.size Jx →
    (∀ m pre x W1, J pre W1 → pre.length < zs.length → YieldAt Fence.wide m P l #[.int .i64 x] W1 fun e W' =>
      (e = .returned (.bool true) ∧ J (pre ++ [x]) W' ∧ KeepsX X W1 W') ∨ (e = .returned (.bool false) ∧ Jx (pre ++ [x]) W' ∧ KeepsFrom W.heap.size W1 W')) →
    J [] W →
    CallsIn Fence.wide n P g (#[.func (.yield l) #[] #[]] ++ lb) W fun e W' => (∃ v, e = .returned v) ∧ (J zs W' ∨ ∃ pre, pre <+: zs ∧ Jx pre W')

/-- How the body of a round may be left. -/
def rangeEnd (X : TypeId → Prop) (B : Nat) (I Ix : List Int → World → Prop) (xs : List Int) (W : World) : Exit → Act → World → Prop
  | .normal, _, W' => KeepsX X W W' ∧ I xs W'
  | .ret, _, W' => KeepsFrom B W W' ∧ Ix xs W'
  | _, _, _ => False

/-- The mark of a loop. -/
def mark (D : Nat) : Deferred := { target := .collected D, args := #[] }

theorem range_own {P : Program} {g : Operand} {p : Tmp} {assign body : Code} {Q : Exit → Act → World → Prop} {a : Act} {w : World} {n : Nat} {X : TypeId → Prop}
    {gf : Nat} {lb : Array Value} (hg : a.eval g = .func (.func gf) #[] lb) (eg : ∀ args w, (callFunc gf args).run P w = .ok (.enter gf args) w)
    {zs : List Int} (hseq : SeqOwn X P gf lb zs w) (I Ix : List Int → World → Prop) (hI : OwnFrom w.heap.size I) (hIx : OwnFrom w.heap.size Ix) (h0 : I [] w) (a₁ : Int → Act)
    (hassign : ∀ (l m : Nat) (x : Int) (W : World) (K : Act → World → Prop), K (a₁ x) W →
      assign.wpIn (Fence.wide.inRound l) m P (Exit.then K (fun _ _ _ => False)) { tmps := a.tmps.setIfInBounds p (.int .i64 x), defers := [] } W)
    (hbody : ∀ (l m : Nat) (pre : List Int) (x : Int) (W : World), I pre W → pre.length < zs.length → body.wpIn (Fence.wide.inRound l) m P (rangeEnd X w.heap.size I Ix (pre ++ [x]) W) (a₁ x) W)
    (hdone : ∀ (D : Nat) (W : World), w.heap.size ≤ D → I zs W → W.heap[D]? = some (.deferred (some [])) → Q .normal { a with defers := mark D :: a.defers } W)
    (hstop : ∀ (D : Nat) (pre : List Int) (W : World), w.heap.size ≤ D → pre <+: zs → Ix pre W → W.heap[D]? = some (.deferred (some [])) → Code.ret.wpIn Fence.wide n P Q { a with defers := mark D :: a.defers } W) :
    (Code.rangeFunc g #[p] assign body).wpIn Fence.wide n P Q a w := by
  refine wpIn_rangeFunc ?_
  intro fn hfn
  obtain ⟨R, hR⟩ : ∃ R : LoopState → Option Code → Loop, R = fun st pe => { state := st, pending := pe, fn, tmps := a.tmps, params := #[p], assign, body, defers := w.heap.size } := ⟨_, rfl⟩
  obtain ⟨V, hV⟩ : ∃ V, (w.alloc (.deferred (some []))).alloc (.loop (R .ready none)) = V := ⟨_, rfl⟩
  have vs : V.heap.size = w.heap.size + 2 := by rw [← hV]; simp
  have vg : w.grownBy V none := by rw [← hV]; exact (World.grownBy_alloc _ _ _).trans (World.grownBy_alloc _ _ _)
  have vl : V.heap[w.heap.size + 1]? = some (.loop (R .ready none)) := by
    have h1 := World.alloc_heap_new (w.alloc (.deferred (some []))) (.loop (R .ready none))
    rw [World.size_alloc] at h1
    rw [← hV]; exact h1
  have vd : V.heap[w.heap.size]? = some (.deferred (some [])) := by
    rw [← hV]; exact (Below.heap_alloc _ _ _ (by simp)).trans (World.alloc_heap_new w _)
  refine ⟨w.heap.size + 1, [mark w.heap.size], V, { target := .fn (.func gf) lb, args := #[.func (.yield (w.heap.size + 1)) #[] #[]] }, V, gf, #[.func (.yield (w.heap.size + 1)) #[] #[]] ++ lb, V, ?_, ?_, ?_, ?_, ?_, ?_⟩
  · rw [← hV, hR]; exact run_enterLoop_outer _ _ _ _ _
  · simp only [resolve, hg]
    simp [go_sem]
  · intro _ _; trivial
  · simp [invoke, go_sem, eg]
  · intro h; cases h
  · -- what stands beside the invariant: the loop's record and the block of its mark
    have side : ∀ (st : LoopState) (pe : Option Code) (A B : World) (row : Option Nat), A.grownBy B row → (∀ r, row = some r → V.heap.size ≤ r ∧ ∃ o : Obj, A.heap[r]? = some o ∧ o.isCells = false) →
        A.heap[w.heap.size + 1]? = some (.loop (R st pe)) ∧ A.heap[w.heap.size]? = some (.deferred (some [])) → B.heap[w.heap.size + 1]? = some (.loop (R st pe)) ∧ B.heap[w.heap.size]? = some (.deferred (some [])) := fun st pe A B row hg' hr hs =>
      ⟨(hg'.block _ (Array.getElem?_eq_some_iff.1 hs.1).1 (fun e => by have := (hr _ e.symm).1; omega)).trans hs.1,
       (hg'.block _ (Array.getElem?_eq_some_iff.1 hs.2).1 (fun e => by have := (hr _ e.symm).1; omega)).trans hs.2⟩
    have hI2 : OwnFrom V.heap.size (fun pre W => I pre W ∧ W.heap[w.heap.size + 1]? = some (.loop (R .ready none)) ∧ W.heap[w.heap.size]? = some (.deferred (some []))) := fun s A B row hs hg' hr =>
      ⟨hI s A B row hs.1 hg' (fun r e => ⟨by have := (hr r e).1; omega, (hr r e).2⟩), side _ _ A B row hg' hr hs.2⟩
    have hIx2 : OwnFrom V.heap.size (fun pre W => Ix pre W ∧ W.heap[w.heap.size + 1]? = some (.loop (R .done (some .ret))) ∧ W.heap[w.heap.size]? = some (.deferred (some []))) := fun s A B row hs hg' hr =>
      ⟨hIx s A B row hs.1 hg' (fun r e => ⟨by have := (hr r e).1; omega, (hr r e).2⟩), side _ _ A B row hg' hr hs.2⟩
    refine (hseq _ (w.heap.size + 1) _ _ V (KeepsX.grown vg) hI2 hIx2 ?_ ⟨hI [] w V none h0 vg (fun r e => by cases e), vl, vd⟩).mono ?_
    · rintro m pre x W ⟨hi, hl, hk⟩ hlen
      have hlt : w.heap.size + 1 < W.heap.size := (Array.getElem?_eq_some_iff.1 hl).1
      have hy := run_yield (P := P) (args := #[.int .i64 x]) hl (by rw [hR]; rfl)
      rw [hR] at hy
      have hz : ((#[p] : Array Tmp).zip #[Value.int .i64 x]).foldl (fun t (q, v) => t.setIfInBounds q v) a.tmps = a.tmps.setIfInBounds p (.int .i64 x) := by simp
      refine ⟨fn, _, assign, body, hy, roundIn_of_wpIn hfn ?_⟩
      show assign.wpIn _ _ P _ { tmps := ((#[p] : Array Tmp).zip #[Value.int .i64 x]).foldl (fun t (q, v) => t.setIfInBounds q v) a.tmps, defers := [] } W
      rw [hz]
      refine hassign _ _ x W _ ⟨_, run_beginRound hl (by rw [hR]), ?_⟩
      obtain ⟨Wb, hWb⟩ : ∃ Wb, W.putObj (w.heap.size + 1) (.loop { R .ready none with state := .busy }) = Wb := ⟨_, rfl⟩
      have hlb : Wb.heap[w.heap.size + 1]? = some (.loop { R .ready none with state := .busy }) := by rw [← hWb]; exact World.putObj_heap_same hlt
      have hkb : Wb.heap[w.heap.size]? = some (.deferred (some [])) := by rw [← hWb]; exact (World.putObj_heap_other (by omega)).trans hk
      have hib : I pre Wb := by rw [← hWb]; exact hI.putObj _ hi (by omega) hl rfl
      rw [hWb]
      refine wpIn_mono (hbody _ _ pre x Wb hib hlen) ?_
      have last : ∀ (jump : Option Code) (W3 : World), KeepsFrom w.heap.size Wb W3 →
          (Instr.endRound (w.heap.size + 1) jump).run P W3 = .ok (.bool jump.isNone) (W3.putObj (w.heap.size + 1) (.loop (R (if jump.isNone then .ready else .done) jump))) ∧
          W3.heap[w.heap.size + 1]? = some (.loop { R .ready none with state := .busy }) ∧ W3.heap[w.heap.size]? = some (.deferred (some [])) := fun jump W3 hk3 => by
        have h3 := hk3.same _ _ (by omega) hlb rfl
        have h4 := run_endRound (P := P) jump h3
        refine ⟨?_, h3, hk3.same _ _ (Nat.le_refl _) hkb rfl⟩
        rw [h4, hR]
      rintro e a3 W3 hp
      cases e with
      | normal =>
        obtain ⟨hk3, hi3⟩ := hp
        obtain ⟨hr, hl3, hd3⟩ := last none W3 (hk3.from _)
        have hlt3 := (Array.getElem?_eq_some_iff.1 hl3).1
        refine ⟨_, _, hr, .inl ⟨rfl, ⟨hI.putObj _ hi3 (by omega) hl3 rfl, World.putObj_heap_same hlt3, (World.putObj_heap_other (by omega)).trans hd3⟩, ?_⟩⟩
        rw [← hWb] at hk3
        exact KeepsX.round hl hk3
      | ret =>
        obtain ⟨hk3, hi3⟩ := hp
        obtain ⟨hr, hl3, hd3⟩ := last (some .ret) W3 hk3
        have hlt3 := (Array.getElem?_eq_some_iff.1 hl3).1
        refine ⟨_, _, hr, .inr ⟨rfl, ⟨hIx.putObj _ hi3 (by omega) hl3 rfl, World.putObj_heap_same hlt3, (World.putObj_heap_other (by omega)).trans hd3⟩, ?_⟩⟩
        refine ⟨?_, fun k o hk ho hc => ?_⟩
        · have := hk3.size
          rw [← hWb] at this
          simpa using this
        · rw [World.putObj_heap_other (by omega)]
          refine hk3.same k o (by omega) ?_ hc
          rw [← hWb, World.putObj_heap_other (by omega)]
          exact ho
      | exit id => exact hp.elim
      | goto t => exact hp.elim
      | panic ch => exact hp.elim
      | outgrown => exact hp.elim
    · rintro e W2 ⟨⟨v, rfl⟩, (⟨hi, hl, hk⟩ | ⟨pre, hpre, hi, hl, hk⟩)⟩
      · have h5 := run_endLoop (P := P) hl (by rw [hR]; simp)
        refine ⟨none, _, by rw [h5, hR], hdone _ _ (Nat.le_refl _) (hI.putObj _ hi (by omega) hl rfl) ((World.putObj_heap_other (by omega)).trans hk)⟩
      · have h5 := run_endLoop (P := P) hl (by rw [hR]; simp)
        refine ⟨some .ret, _, by rw [h5, hR], hstop _ pre _ (Nat.le_refl _) hpre (hIx.putObj _ hi (by omega) hl rfl) ((World.putObj_heap_other (by omega)).trans hk)⟩

/-- At the function's end: its marks, one by one. -/
theorem leaves_marks {P : Program} {n : Nat} {fn : Func} {tmps : Array Value} {R : Ending → World → Prop} {v : Value} (K : World → Prop)
    (hres : ∀ w, (results fn tmps).run P w = .ok v w) (hR : ∀ w, K w → R (.returned v) w) :
    ∀ (ds : List Nat) (w : World), (∀ (D : Nat) (w : World), D ∈ ds → K w → w.heap[D]? = some (.deferred (some [])) → K (w.putObj D (.deferred none))) → ds.Nodup → (∀ D ∈ ds, w.heap[D]? = some (.deferred (some []))) → K w → LeavesInM Fence.wide n P fn tmps R (ds.map mark) .returning w
  | [], w, _, _, _, hK => ⟨v, hres w, hR w hK⟩
  | D :: ds, w, hs, hn, hd, hK => by
    obtain ⟨h1, h2⟩ := List.nodup_cons.1 hn
    refine ⟨by simp, .inl ⟨D, _, rfl, run_takeDeferred (hd D (by simp)), ?_⟩⟩
    refine leaves_marks K hres hR ds _ (fun D' w hm => hs D' w (by simp [hm])) h2 (fun D' hm => ?_) (hs D w (by simp) hK (hd D (by simp)))
    have hne : D' ≠ D := fun e => h1 (e ▸ hm)
    rw [World.putObj_heap_other hne]
    exact hd D' (by simp [hm])
end

section
open Go.RowKit

/-- Whatever is no cells of these blocks and types lies as it lay. -/
structure KeepsK (X : Nat → TypeId → Prop) (W W' : World) : Prop where
  size : W.heap.size ≤ W'.heap.size
  same : ∀ (k : Nat) (o : Obj), W.heap[k]? = some o → (∀ xs t m, o = .cells xs t m → ¬ X k t) → W'.heap[k]? = some o

theorem KeepsK.refl (X : Nat → TypeId → Prop) (W : World) : KeepsK X W W := ⟨Nat.le_refl _, fun _ _ h _ => h⟩
theorem KeepsK.trans {X : Nat → TypeId → Prop} {A B C : World} (h : KeepsK X A B) (k : KeepsK X B C) : KeepsK X A C :=
  ⟨Nat.le_trans h.size k.size, fun i o hi ho => k.same i o (h.same i o hi ho) ho⟩
theorem not_cells_sparesK {o : Obj} (h : o.isCells = false) (X : Nat → TypeId → Prop) (k : Nat) : ∀ xs t m, o = .cells xs t m → ¬ X k t := fun xs t m e => by subst e; cases h
theorem KeepsK.from {X : Nat → TypeId → Prop} {W W' : World} (h : KeepsK X W W') (B : Nat) : KeepsFrom B W W' :=
  ⟨h.size, fun k o _ hk ho => h.same k o hk (not_cells_sparesK ho X k)⟩
theorem KeepsK.grown {X : Nat → TypeId → Prop} {W W' : World} (h : W.grownBy W' none) : KeepsK X W W' :=
  ⟨h.size, fun k o hk _ => (h.block k (Array.getElem?_eq_some_iff.1 hk).1 (fun e => by cases e)).trans hk⟩
theorem KeepsK.alloc {X : Nat → TypeId → Prop} (W : World) (o : Obj) : KeepsK X W (W.alloc o) := KeepsK.grown (World.grownBy_alloc W o none)
/-- A step that turns one block of such cells. -/
theorem KeepsK.grownX {X : Nat → TypeId → Prop} {W W' : World} {g : Nat} {xs : Array Value} {t : TypeId} {m : Nat × Nat} (h : W.grownBy W' (some g)) (hg : W.heap[g]? = some (.cells xs t m)) (ht : X g t) : KeepsK X W W' :=
  ⟨h.size, fun k o hk ho => (h.block k (Array.getElem?_eq_some_iff.1 hk).1 (fun e => by cases e; rw [hg] at hk; cases hk; exact ho _ _ _ rfl ht)).trans hk⟩
theorem KeepsK.cell {X : Nat → TypeId → Prop} {W W' : World} (h : KeepsK X W W') {b : Nat} {v : Value} {t : TypeId} {m : Nat × Nat} (hb : W.heap[b]? = some (.cells #[v] t m)) (ht : ¬ X b t) : W'.heap[b]? = some (.cells #[v] t m) :=
  h.same b _ hb (fun xs t' m' e => by cases e; exact ht)
theorem KeepsK.row {X : Nat → TypeId → Prop} {W W' : World} (h : KeepsK X W W') {b : Nat} {xs : Array Value} {t : TypeId} {m : Nat × Nat} (hb : W.heap[b]? = some (.cells xs t m)) (ht : ¬ X b t) : W'.heap[b]? = some (.cells xs t m) :=
  h.same b _ hb (fun xs t' m' e => by cases e; exact ht)
theorem ownFrom_keepsK {β : Type} (X : Nat → TypeId → Prop) (W0 : World) {B : Nat} (hB : W0.heap.size ≤ B) : OwnFrom B (fun (_ : β) W => KeepsK X W0 W) := fun s A C row hs hg hr =>
  ⟨Nat.le_trans hs.size hg.size, fun k o hk ho => (hg.block k (Nat.lt_of_lt_of_le (Array.getElem?_eq_some_iff.1 hk).1 hs.size) (fun e => by
    have h1 := (hr k e.symm).1
    have h2 := (Array.getElem?_eq_some_iff.1 hk).1
    omega)).trans (hs.same k o hk ho)⟩
/-- A round: the loop's record is busy meanwhile, and ready again. -/
theorem KeepsK.round {X : Nat → TypeId → Prop} {W W3 : World} {l : Nat} {o o2 : Obj} (hl : W.heap[l]? = some o) (h : KeepsK X (W.putObj l o2) W3) : KeepsK X W (W3.putObj l o) := by
  have hlt := (Array.getElem?_eq_some_iff.1 hl).1
  refine ⟨by simpa using h.size, fun k o' hk ho => ?_⟩
  by_cases e : k = l
  · subst e
    rw [hl] at hk
    cases hk
    exact World.putObj_heap_same (Nat.lt_of_lt_of_le (by simpa using hlt) h.size)
  · rw [World.putObj_heap_other e]
    exact h.same k o' (by rw [World.putObj_heap_other e]; exact hk) ho
theorem ownFrom_keepsF {β : Type} (B0 : Nat) (W0 : World) {B : Nat} (hB : W0.heap.size ≤ B) : OwnFrom B (fun (_ : β) W => KeepsFrom B0 W0 W) := fun s A C row hs hg hr =>
  ⟨Nat.le_trans hs.size hg.size, fun k o hb hk ho => (hg.block k (Nat.lt_of_lt_of_le (Array.getElem?_eq_some_iff.1 hk).1 hs.size) (fun e => by
    have h1 := (hr k e.symm).1
    have h2 := (Array.getElem?_eq_some_iff.1 hk).1
    omega)).trans (hs.same k o hb hk ho)⟩
theorem KeepsFrom.upK {B B' : Nat} {W W' : World} (h : KeepsFrom B W W') (hB : B ≤ B') : KeepsFrom B' W W' := ⟨h.size, fun k o hb hk ho => h.same k o (Nat.le_trans hB hb) hk ho⟩
theorem RoundIn.inRoundK {F : Fence} {n : Nat} {P : Program} {l : Nat} {f : FuncId} {tmps : Array Value} {assign body : Code} {w : World} {R : Ending → World → Prop} (l0 : Nat)
    (h : RoundIn F n P l f tmps assign body w R) : RoundIn (F.inRound l0) n P l f tmps assign body w R := h

/-- **An iterator's contract**: these things come, one by one, or a round has said 'no more'. -/
def SeqOwnK {α : Type} (vs : α → Array Value) (X : Nat → TypeId → Prop) (P : Program) (g : Nat) (lb : Array Value) (zs : List α) (w : World) : Prop :=
  ∀ (n l : Nat) (J Jx : List α → World → Prop) (W : World), KeepsK X w W → OwnFrom W.heap.size J → OwnFrom W.heap.size Jx →
    (∀ m pre x W1, J pre W1 → pre ++ [x] <+: zs → YieldAt Fence.wide m P l (vs x) W1 fun e W' =>
      (e = .returned (.bool true) ∧ J (pre ++ [x]) W' ∧ KeepsK X W1 W') ∨ (e = .returned (.bool false) ∧ Jx (pre ++ [x]) W' ∧ KeepsFrom W.heap.size W1 W')) →
    J [] W →
    CallsIn Fence.wide n P g (#[.func (.yield l) #[] #[]] ++ lb) W fun e W' => (∃ v, e = .returned v) ∧ (J zs W' ∨ ∃ pre, pre <+: zs ∧ Jx pre W')

/-- How the body of a round may be left. -/
def rangeEndK {α : Type} (X : Nat → TypeId → Prop) (B : Nat) (I Ix : List α → World → Prop) (xs : List α) (W : World) : Exit → Act → World → Prop
  | .normal, _, W' => KeepsK X W W' ∧ I xs W'
  | .ret, _, W' => KeepsFrom B W W' ∧ Ix xs W'
  | _, _, _ => False

theorem range_ownK {α : Type} (vs : α → Array Value) {P : Program} {g : Operand} {ps : Array Tmp} {assign body : Code} {Q : Exit → Act → World → Prop} {a : Act} {w : World} {n : Nat} {X : Nat → TypeId → Prop}
    {gf : Nat} {lb : Array Value} (hg : a.eval g = .func (.func gf) #[] lb) (eg : ∀ args w, (callFunc gf args).run P w = .ok (.enter gf args) w)
    {zs : List α} (hseq : SeqOwnK vs X P gf lb zs w) (I Ix : List α → World → Prop) (hI : OwnFrom w.heap.size I) (hIx : OwnFrom w.heap.size Ix) (h0 : I [] w) (hsz : ∀ x, (vs x).size = ps.size) (a₁ : α → Act)
    (hassign : ∀ (l m : Nat) (x : α) (W : World) (K : Act → World → Prop), K (a₁ x) W →
      assign.wpIn (Fence.wide.inRound l) m P (Exit.then K (fun _ _ _ => False)) { tmps := (ps.zip (vs x)).foldl (fun t (q, v) => t.setIfInBounds q v) a.tmps, defers := [] } W)
    (hbody : ∀ (l m : Nat) (pre : List α) (x : α) (W : World), w.heap.size ≤ l → (∃ r, W.heap[l]? = some (.loop r)) → I pre W → pre ++ [x] <+: zs → body.wpIn (Fence.wide.inRound l) m P (rangeEndK X w.heap.size I Ix (pre ++ [x]) W) (a₁ x) W)
    (hdone : ∀ (D : Nat) (W : World), w.heap.size ≤ D → I zs W → W.heap[D]? = some (.deferred (some [])) → Q .normal { a with defers := mark D :: a.defers } W)
    (hstop : ∀ (D : Nat) (pre : List α) (W : World), w.heap.size ≤ D → pre <+: zs → Ix pre W → W.heap[D]? = some (.deferred (some [])) → Code.ret.wpIn Fence.wide n P Q { a with defers := mark D :: a.defers } W) :
    (Code.rangeFunc g ps assign body).wpIn Fence.wide n P Q a w := by
  refine wpIn_rangeFunc ?_
  intro fn hfn
  obtain ⟨R, hR⟩ : ∃ R : LoopState → Option Code → Loop, R = fun st pe => { state := st, pending := pe, fn, tmps := a.tmps, params := ps, assign, body, defers := w.heap.size } := ⟨_, rfl⟩
  obtain ⟨V, hV⟩ : ∃ V, (w.alloc (.deferred (some []))).alloc (.loop (R .ready none)) = V := ⟨_, rfl⟩
  have vsz : V.heap.size = w.heap.size + 2 := by rw [← hV]; simp
  have vg : w.grownBy V none := by rw [← hV]; exact (World.grownBy_alloc _ _ _).trans (World.grownBy_alloc _ _ _)
  have vl : V.heap[w.heap.size + 1]? = some (.loop (R .ready none)) := by
    have h1 := World.alloc_heap_new (w.alloc (.deferred (some []))) (.loop (R .ready none))
    rw [World.size_alloc] at h1
    rw [← hV]; exact h1
  have vd : V.heap[w.heap.size]? = some (.deferred (some [])) := by
    rw [← hV]; exact (Below.heap_alloc _ _ _ (by simp)).trans (World.alloc_heap_new w _)
  refine ⟨w.heap.size + 1, [mark w.heap.size], V, { target := .fn (.func gf) lb, args := #[.func (.yield (w.heap.size + 1)) #[] #[]] }, V, gf, #[.func (.yield (w.heap.size + 1)) #[] #[]] ++ lb, V, ?_, ?_, ?_, ?_, ?_, ?_⟩
  · rw [← hV, hR]; exact run_enterLoop_outer _ _ _ _ _
  · simp only [resolve, hg]
    simp [go_sem]
  · intro _ _; trivial
  · simp [invoke, go_sem, eg]
  · intro h; cases h
  · -- what stands beside the invariant: the loop's record and the block of its mark
    have side : ∀ (st : LoopState) (pe : Option Code) (A B : World) (row : Option Nat), A.grownBy B row → (∀ r, row = some r → V.heap.size ≤ r ∧ ∃ o : Obj, A.heap[r]? = some o ∧ o.isCells = false) →
        A.heap[w.heap.size + 1]? = some (.loop (R st pe)) ∧ A.heap[w.heap.size]? = some (.deferred (some [])) → B.heap[w.heap.size + 1]? = some (.loop (R st pe)) ∧ B.heap[w.heap.size]? = some (.deferred (some [])) := fun st pe A B row hg' hr hs =>
      ⟨(hg'.block _ (Array.getElem?_eq_some_iff.1 hs.1).1 (fun e => by have := (hr _ e.symm).1; omega)).trans hs.1,
       (hg'.block _ (Array.getElem?_eq_some_iff.1 hs.2).1 (fun e => by have := (hr _ e.symm).1; omega)).trans hs.2⟩
    have hI2 : OwnFrom V.heap.size (fun pre W => I pre W ∧ W.heap[w.heap.size + 1]? = some (.loop (R .ready none)) ∧ W.heap[w.heap.size]? = some (.deferred (some []))) := fun s A B row hs hg' hr =>
      ⟨hI s A B row hs.1 hg' (fun r e => ⟨by have := (hr r e).1; omega, (hr r e).2⟩), side _ _ A B row hg' hr hs.2⟩
    have hIx2 : OwnFrom V.heap.size (fun pre W => Ix pre W ∧ W.heap[w.heap.size + 1]? = some (.loop (R .done (some .ret))) ∧ W.heap[w.heap.size]? = some (.deferred (some []))) := fun s A B row hs hg' hr =>
      ⟨hIx s A B row hs.1 hg' (fun r e => ⟨by have := (hr r e).1; omega, (hr r e).2⟩), side _ _ A B row hg' hr hs.2⟩
    refine (hseq _ (w.heap.size + 1) _ _ V (KeepsK.grown vg) hI2 hIx2 ?_ ⟨hI [] w V none h0 vg (fun r e => by cases e), vl, vd⟩).mono ?_
    · rintro m pre x W ⟨hi, hl, hk⟩ hlen
      have hlt : w.heap.size + 1 < W.heap.size := (Array.getElem?_eq_some_iff.1 hl).1
      have hy := run_yield (P := P) (args := (vs x)) hl (by rw [hR]; exact hsz x)
      rw [hR] at hy
      refine ⟨fn, _, assign, body, hy, roundIn_of_wpIn hfn ?_⟩
      refine hassign _ _ x W _ ⟨_, run_beginRound hl (by rw [hR]), ?_⟩
      obtain ⟨Wb, hWb⟩ : ∃ Wb, W.putObj (w.heap.size + 1) (.loop { R .ready none with state := .busy }) = Wb := ⟨_, rfl⟩
      have hlb : Wb.heap[w.heap.size + 1]? = some (.loop { R .ready none with state := .busy }) := by rw [← hWb]; exact World.putObj_heap_same hlt
      have hkb : Wb.heap[w.heap.size]? = some (.deferred (some [])) := by rw [← hWb]; exact (World.putObj_heap_other (by omega)).trans hk
      have hib : I pre Wb := by rw [← hWb]; exact hI.putObj _ hi (by omega) hl rfl
      rw [hWb]
      refine wpIn_mono (hbody _ _ pre x Wb (by omega) ⟨_, hlb⟩ hib hlen) ?_
      have last : ∀ (jump : Option Code) (W3 : World), KeepsFrom w.heap.size Wb W3 →
          (Instr.endRound (w.heap.size + 1) jump).run P W3 = .ok (.bool jump.isNone) (W3.putObj (w.heap.size + 1) (.loop (R (if jump.isNone then .ready else .done) jump))) ∧
          W3.heap[w.heap.size + 1]? = some (.loop { R .ready none with state := .busy }) ∧ W3.heap[w.heap.size]? = some (.deferred (some [])) := fun jump W3 hk3 => by
        have h3 := hk3.same _ _ (by omega) hlb rfl
        have h4 := run_endRound (P := P) jump h3
        refine ⟨?_, h3, hk3.same _ _ (Nat.le_refl _) hkb rfl⟩
        rw [h4, hR]
      rintro e a3 W3 hp
      cases e with
      | normal =>
        obtain ⟨hk3, hi3⟩ := hp
        obtain ⟨hr, hl3, hd3⟩ := last none W3 (hk3.from _)
        have hlt3 := (Array.getElem?_eq_some_iff.1 hl3).1
        refine ⟨_, _, hr, .inl ⟨rfl, ⟨hI.putObj _ hi3 (by omega) hl3 rfl, World.putObj_heap_same hlt3, (World.putObj_heap_other (by omega)).trans hd3⟩, ?_⟩⟩
        rw [← hWb] at hk3
        exact KeepsK.round hl hk3
      | ret =>
        obtain ⟨hk3, hi3⟩ := hp
        obtain ⟨hr, hl3, hd3⟩ := last (some .ret) W3 hk3
        have hlt3 := (Array.getElem?_eq_some_iff.1 hl3).1
        refine ⟨_, _, hr, .inr ⟨rfl, ⟨hIx.putObj _ hi3 (by omega) hl3 rfl, World.putObj_heap_same hlt3, (World.putObj_heap_other (by omega)).trans hd3⟩, ?_⟩⟩
        refine ⟨?_, fun k o hk ho hc => ?_⟩
        · have := hk3.size
          rw [← hWb] at this
          simpa using this
        · rw [World.putObj_heap_other (by omega)]
          refine hk3.same k o (by omega) ?_ hc
          rw [← hWb, World.putObj_heap_other (by omega)]
          exact ho
      | exit id => exact hp.elim
      | goto t => exact hp.elim
      | panic ch => exact hp.elim
      | outgrown => exact hp.elim
    · rintro e W2 ⟨⟨v, rfl⟩, (⟨hi, hl, hk⟩ | ⟨pre, hpre, hi, hl, hk⟩)⟩
      · have h5 := run_endLoop (P := P) hl (by rw [hR]; simp)
        refine ⟨none, _, by rw [h5, hR], hdone _ _ (Nat.le_refl _) (hI.putObj _ hi (by omega) hl rfl) ((World.putObj_heap_other (by omega)).trans hk)⟩
      · have h5 := run_endLoop (P := P) hl (by rw [hR]; simp)
        refine ⟨some .ret, _, by rw [h5, hR], hstop _ pre _ (Nat.le_refl _) hpre (hIx.putObj _ hi (by omega) hl rfl) ((World.putObj_heap_other (by omega)).trans hk)⟩

/-- The same within a round of another loop: no mark. -/
theorem range_inK {α : Type} (vs : α → Array Value) {P : Program} {g : Operand} {ps : Array Tmp} {assign body : Code} {Q : Exit → Act → World → Prop} {a : Act} {w : World} {n : Nat} {X : Nat → TypeId → Prop}
    {l₀ : Nat} {r₀ : Loop} (hl₀ : w.heap[l₀]? = some (.loop r₀)) {gf : Nat} {lb : Array Value} (hg : a.eval g = .func (.func gf) #[] lb) (eg : ∀ args w, (callFunc gf args).run P w = .ok (.enter gf args) w)
    {zs : List α} (hseq : SeqOwnK vs X P gf lb zs w) (I Ix : List α → World → Prop) (hI : OwnFrom w.heap.size I) (hIx : OwnFrom w.heap.size Ix) (h0 : I [] w) (hsz : ∀ x, (vs x).size = ps.size) (a₁ : α → Act)
    (hassign : ∀ (l m : Nat) (x : α) (W : World) (K : Act → World → Prop), K (a₁ x) W →
      assign.wpIn (Fence.wide.inRound l) m P (Exit.then K (fun _ _ _ => False)) { tmps := (ps.zip (vs x)).foldl (fun t (q, v) => t.setIfInBounds q v) a.tmps, defers := [] } W)
    (hbody : ∀ (l m : Nat) (pre : List α) (x : α) (W : World), w.heap.size ≤ l → (∃ r, W.heap[l]? = some (.loop r)) → I pre W → pre ++ [x] <+: zs → body.wpIn (Fence.wide.inRound l) m P (rangeEndK X w.heap.size I Ix (pre ++ [x]) W) (a₁ x) W)
    (hdone : ∀ (W : World), I zs W → Q .normal a W)
    (hstop : ∀ (pre : List α) (W : World), pre <+: zs → Ix pre W → Code.ret.wpIn (Fence.wide.inRound l₀) n P Q a W) :
    (Code.rangeFunc g ps assign body).wpIn (Fence.wide.inRound l₀) n P Q a w := by
  refine wpIn_rangeFunc ?_
  intro fn hfn
  obtain ⟨R, hR⟩ : ∃ R : LoopState → Option Code → Loop, R = fun st pe => { state := st, pending := pe, fn, tmps := a.tmps, params := ps, assign, body, defers := r₀.defers } := ⟨_, rfl⟩
  obtain ⟨V, hV⟩ : ∃ V, w.alloc (.loop (R .ready none)) = V := ⟨_, rfl⟩
  have vsz : V.heap.size = w.heap.size + 1 := by rw [← hV]; simp
  have vg : w.grownBy V none := by rw [← hV]; exact World.grownBy_alloc _ _ _
  have vl : V.heap[w.heap.size]? = some (.loop (R .ready none)) := by rw [← hV]; exact World.alloc_heap_new w _
  refine ⟨w.heap.size, [], V, { target := .fn (.func gf) lb, args := #[.func (.yield w.heap.size) #[] #[]] }, V, gf, #[.func (.yield w.heap.size) #[] #[]] ++ lb, V, ?_, ?_, ?_, ?_, ?_, ?_⟩
  · rw [← hV, hR]; exact run_enterLoop_inner hl₀ _ _ _ _ _
  · simp only [resolve, hg]
    simp [go_sem]
  · intro _ _; trivial
  · simp [invoke, go_sem, eg]
  · intro h; cases h
  · have side : ∀ (st : LoopState) (pe : Option Code) (A B : World) (row : Option Nat), A.grownBy B row → (∀ r, row = some r → V.heap.size ≤ r ∧ ∃ o : Obj, A.heap[r]? = some o ∧ o.isCells = false) →
        A.heap[w.heap.size]? = some (.loop (R st pe)) → B.heap[w.heap.size]? = some (.loop (R st pe)) := fun st pe A B row hg' hr hs =>
      (hg'.block _ (Array.getElem?_eq_some_iff.1 hs).1 (fun e => by have := (hr _ e.symm).1; omega)).trans hs
    have hI2 : OwnFrom V.heap.size (fun pre W => I pre W ∧ W.heap[w.heap.size]? = some (.loop (R .ready none))) := fun s A B row hs hg' hr =>
      ⟨hI s A B row hs.1 hg' (fun r e => ⟨by have := (hr r e).1; omega, (hr r e).2⟩), side _ _ A B row hg' hr hs.2⟩
    have hIx2 : OwnFrom V.heap.size (fun pre W => Ix pre W ∧ W.heap[w.heap.size]? = some (.loop (R .done (some .ret)))) := fun s A B row hs hg' hr =>
      ⟨hIx s A B row hs.1 hg' (fun r e => ⟨by have := (hr r e).1; omega, (hr r e).2⟩), side _ _ A B row hg' hr hs.2⟩
    refine (hseq _ w.heap.size _ _ V (KeepsK.grown vg) hI2 hIx2 ?_ ⟨hI [] w V none h0 vg (fun r e => by cases e), vl⟩).mono ?_
    · rintro m pre x W ⟨hi, hl⟩ hlen
      have hlt : w.heap.size < W.heap.size := (Array.getElem?_eq_some_iff.1 hl).1
      have hy := run_yield (P := P) (args := (vs x)) hl (by rw [hR]; exact hsz x)
      rw [hR] at hy
      refine ⟨fn, _, assign, body, hy, roundIn_of_wpIn hfn ?_⟩
      refine hassign _ _ x W _ ⟨_, run_beginRound hl (by rw [hR]), ?_⟩
      obtain ⟨Wb, hWb⟩ : ∃ Wb, W.putObj w.heap.size (.loop { R .ready none with state := .busy }) = Wb := ⟨_, rfl⟩
      have hlb : Wb.heap[w.heap.size]? = some (.loop { R .ready none with state := .busy }) := by rw [← hWb]; exact World.putObj_heap_same hlt
      have hib : I pre Wb := by rw [← hWb]; exact hI.putObj _ hi (by omega) hl rfl
      rw [hWb]
      refine wpIn_mono (hbody _ _ pre x Wb (Nat.le_refl _) ⟨_, hlb⟩ hib hlen) ?_
      have last : ∀ (jump : Option Code) (W3 : World), KeepsFrom w.heap.size Wb W3 →
          (Instr.endRound w.heap.size jump).run P W3 = .ok (.bool jump.isNone) (W3.putObj w.heap.size (.loop (R (if jump.isNone then .ready else .done) jump))) ∧
          W3.heap[w.heap.size]? = some (.loop { R .ready none with state := .busy }) := fun jump W3 hk3 => by
        have h3 := hk3.same _ _ (Nat.le_refl _) hlb rfl
        have h4 := run_endRound (P := P) jump h3
        refine ⟨?_, h3⟩
        rw [h4, hR]
      rintro e a3 W3 hp
      cases e with
      | normal =>
        obtain ⟨hk3, hi3⟩ := hp
        obtain ⟨hr, hl3⟩ := last none W3 (hk3.from _)
        have hlt3 := (Array.getElem?_eq_some_iff.1 hl3).1
        refine ⟨_, _, hr, .inl ⟨rfl, ⟨hI.putObj _ hi3 (by omega) hl3 rfl, World.putObj_heap_same hlt3⟩, ?_⟩⟩
        rw [← hWb] at hk3
        exact KeepsK.round hl hk3
      | ret =>
        obtain ⟨hk3, hi3⟩ := hp
        obtain ⟨hr, hl3⟩ := last (some .ret) W3 hk3
        have hlt3 := (Array.getElem?_eq_some_iff.1 hl3).1
        refine ⟨_, _, hr, .inr ⟨rfl, ⟨hIx.putObj _ hi3 (by omega) hl3 rfl, World.putObj_heap_same hlt3⟩, ?_⟩⟩
        refine ⟨?_, fun k o hk ho hc => ?_⟩
        · have := hk3.size
          rw [← hWb] at this
          simpa using this
        · rw [World.putObj_heap_other (by omega)]
          refine hk3.same k o (by omega) ?_ hc
          rw [← hWb, World.putObj_heap_other (by omega)]
          exact ho
      | exit id => exact hp.elim
      | goto t => exact hp.elim
      | panic ch => exact hp.elim
      | outgrown => exact hp.elim
    · rintro e W2 ⟨⟨v, rfl⟩, (⟨hi, hl⟩ | ⟨pre, hpre, hi, hl⟩)⟩
      · have h5 := run_endLoop (P := P) hl (by rw [hR]; simp)
        exact ⟨none, _, by rw [h5, hR], hdone _ (hI.putObj _ hi (by omega) hl rfl)⟩
      · have h5 := run_endLoop (P := P) hl (by rw [hR]; simp)
        exact ⟨some .ret, _, by rw [h5, hR], hstop pre _ hpre (hIx.putObj _ hi (by omega) hl rfl)⟩
end

section
open Go.RowKit

/-- **An iterator's contract**: things come one by one, each one allowed behind those that came, and what came in the end is whole. -/
def SeqSetK {α : Type} (vs : α → Array Value) (X : Nat → TypeId → Prop) (P : Program) (g : Nat) (lb : Array Value) (Pre : List α → α → Prop) (End : List α → Prop) (w : World) : Prop :=
  ∀ (n l : Nat) (J : List α → World → Prop) (W : World), KeepsK X w W → OwnFrom W.heap.size J →
    (∀ m pre x W1, J pre W1 → Pre pre x → YieldAt Fence.wide m P l (vs x) W1 fun e W' => e = .returned (.bool true) ∧ J (pre ++ [x]) W' ∧ KeepsK X W1 W') →
    J [] W →
    CallsIn Fence.wide n P g (#[.func (.yield l) #[] #[]] ++ lb) W fun e W' => (∃ v, e = .returned v) ∧ ∃ zs, End zs ∧ J zs W'

/-- How the body of a round may be left. -/
def rangeEndS {α : Type} (X : Nat → TypeId → Prop) (I : List α → World → Prop) (xs : List α) (W : World) : Exit → Act → World → Prop
  | .normal, _, W' => KeepsK X W W' ∧ I xs W'
  | _, _, _ => False

theorem range_ownS {α : Type} (vs : α → Array Value) {P : Program} {g : Operand} {ps : Array Tmp} {assign body : Code} {Q : Exit → Act → World → Prop} {a : Act} {w : World} {n : Nat} {X : Nat → TypeId → Prop}
    {gf : Nat} {lb : Array Value} (hg : a.eval g = .func (.func gf) #[] lb) (eg : ∀ args w, (callFunc gf args).run P w = .ok (.enter gf args) w)
    {Pre : List α → α → Prop} {End : List α → Prop} (hseq : SeqSetK vs X P gf lb Pre End w) (I : List α → World → Prop) (hI : OwnFrom w.heap.size I) (h0 : I [] w) (hsz : ∀ x, (vs x).size = ps.size) (a₁ : α → Act)
    (hassign : ∀ (l m : Nat) (x : α) (W : World) (K : Act → World → Prop), K (a₁ x) W →
      assign.wpIn (Fence.wide.inRound l) m P (Exit.then K (fun _ _ _ => False)) { tmps := (ps.zip (vs x)).foldl (fun t (q, v) => t.setIfInBounds q v) a.tmps, defers := [] } W)
    (hbody : ∀ (l m : Nat) (pre : List α) (x : α) (W : World), w.heap.size ≤ l → (∃ r, W.heap[l]? = some (.loop r)) → I pre W → Pre pre x → body.wpIn (Fence.wide.inRound l) m P (rangeEndS X I (pre ++ [x]) W) (a₁ x) W)
    (hdone : ∀ (D : Nat) (zs : List α) (W : World), w.heap.size ≤ D → End zs → I zs W → W.heap[D]? = some (.deferred (some [])) → Q .normal { a with defers := mark D :: a.defers } W) :
    (Code.rangeFunc g ps assign body).wpIn Fence.wide n P Q a w := by
  refine wpIn_rangeFunc ?_
  intro fn hfn
  obtain ⟨R, hR⟩ : ∃ R : LoopState → Option Code → Loop, R = fun st pe => { state := st, pending := pe, fn, tmps := a.tmps, params := ps, assign, body, defers := w.heap.size } := ⟨_, rfl⟩
  obtain ⟨V, hV⟩ : ∃ V, (w.alloc (.deferred (some []))).alloc (.loop (R .ready none)) = V := ⟨_, rfl⟩
  have vsz : V.heap.size = w.heap.size + 2 := by rw [← hV]; simp
  have vg : w.grownBy V none := by rw [← hV]; exact (World.grownBy_alloc _ _ _).trans (World.grownBy_alloc _ _ _)
  have vl : V.heap[w.heap.size + 1]? = some (.loop (R .ready none)) := by
    have h1 := World.alloc_heap_new (w.alloc (.deferred (some []))) (.loop (R .ready none))
    rw [World.size_alloc] at h1
    rw [← hV]; exact h1
  have vd : V.heap[w.heap.size]? = some (.deferred (some [])) := by
    rw [← hV]; exact (Below.heap_alloc _ _ _ (by simp)).trans (World.alloc_heap_new w _)
  refine ⟨w.heap.size + 1, [mark w.heap.size], V, { target := .fn (.func gf) lb, args := #[.func (.yield (w.heap.size + 1)) #[] #[]] }, V, gf, #[.func (.yield (w.heap.size + 1)) #[] #[]] ++ lb, V, ?_, ?_, ?_, ?_, ?_, ?_⟩
  · rw [← hV, hR]; exact run_enterLoop_outer _ _ _ _ _
  · simp only [resolve, hg]
    simp [go_sem]
  · intro _ _; trivial
  · simp [invoke, go_sem, eg]
  · intro h; cases h
  · -- what stands beside the invariant: the loop's record and the block of its mark
    have side : ∀ (st : LoopState) (pe : Option Code) (A B : World) (row : Option Nat), A.grownBy B row → (∀ r, row = some r → V.heap.size ≤ r ∧ ∃ o : Obj, A.heap[r]? = some o ∧ o.isCells = false) →
        A.heap[w.heap.size + 1]? = some (.loop (R st pe)) ∧ A.heap[w.heap.size]? = some (.deferred (some [])) → B.heap[w.heap.size + 1]? = some (.loop (R st pe)) ∧ B.heap[w.heap.size]? = some (.deferred (some [])) := fun st pe A B row hg' hr hs =>
      ⟨(hg'.block _ (Array.getElem?_eq_some_iff.1 hs.1).1 (fun e => by have := (hr _ e.symm).1; omega)).trans hs.1,
       (hg'.block _ (Array.getElem?_eq_some_iff.1 hs.2).1 (fun e => by have := (hr _ e.symm).1; omega)).trans hs.2⟩
    have hI2 : OwnFrom V.heap.size (fun pre W => I pre W ∧ W.heap[w.heap.size + 1]? = some (.loop (R .ready none)) ∧ W.heap[w.heap.size]? = some (.deferred (some []))) := fun s A B row hs hg' hr =>
      ⟨hI s A B row hs.1 hg' (fun r e => ⟨by have := (hr r e).1; omega, (hr r e).2⟩), side _ _ A B row hg' hr hs.2⟩
    refine (hseq _ (w.heap.size + 1) _ V (KeepsK.grown vg) hI2 ?_ ⟨hI [] w V none h0 vg (fun r e => by cases e), vl, vd⟩).mono ?_
    · rintro m pre x W ⟨hi, hl, hk⟩ hlen
      have hlt : w.heap.size + 1 < W.heap.size := (Array.getElem?_eq_some_iff.1 hl).1
      have hy := run_yield (P := P) (args := (vs x)) hl (by rw [hR]; exact hsz x)
      rw [hR] at hy
      refine ⟨fn, _, assign, body, hy, roundIn_of_wpIn hfn ?_⟩
      refine hassign _ _ x W _ ⟨_, run_beginRound hl (by rw [hR]), ?_⟩
      obtain ⟨Wb, hWb⟩ : ∃ Wb, W.putObj (w.heap.size + 1) (.loop { R .ready none with state := .busy }) = Wb := ⟨_, rfl⟩
      have hlb : Wb.heap[w.heap.size + 1]? = some (.loop { R .ready none with state := .busy }) := by rw [← hWb]; exact World.putObj_heap_same hlt
      have hkb : Wb.heap[w.heap.size]? = some (.deferred (some [])) := by rw [← hWb]; exact (World.putObj_heap_other (by omega)).trans hk
      have hib : I pre Wb := by rw [← hWb]; exact hI.putObj _ hi (by omega) hl rfl
      rw [hWb]
      refine wpIn_mono (hbody _ _ pre x Wb (by omega) ⟨_, hlb⟩ hib hlen) ?_
      have last : ∀ (jump : Option Code) (W3 : World), KeepsFrom w.heap.size Wb W3 →
          (Instr.endRound (w.heap.size + 1) jump).run P W3 = .ok (.bool jump.isNone) (W3.putObj (w.heap.size + 1) (.loop (R (if jump.isNone then .ready else .done) jump))) ∧
          W3.heap[w.heap.size + 1]? = some (.loop { R .ready none with state := .busy }) ∧ W3.heap[w.heap.size]? = some (.deferred (some [])) := fun jump W3 hk3 => by
        have h3 := hk3.same _ _ (by omega) hlb rfl
        have h4 := run_endRound (P := P) jump h3
        refine ⟨?_, h3, hk3.same _ _ (Nat.le_refl _) hkb rfl⟩
        rw [h4, hR]
      rintro e a3 W3 hp
      cases e with
      | normal =>
        obtain ⟨hk3, hi3⟩ := hp
        obtain ⟨hr, hl3, hd3⟩ := last none W3 (hk3.from _)
        have hlt3 := (Array.getElem?_eq_some_iff.1 hl3).1
        refine ⟨_, _, hr, rfl, ⟨hI.putObj _ hi3 (by omega) hl3 rfl, World.putObj_heap_same hlt3, (World.putObj_heap_other (by omega)).trans hd3⟩, ?_⟩
        rw [← hWb] at hk3
        exact KeepsK.round hl hk3
      | ret => exact hp.elim
      | exit id => exact hp.elim
      | goto t => exact hp.elim
      | panic ch => exact hp.elim
      | outgrown => exact hp.elim
    · rintro e W2 ⟨⟨v, rfl⟩, zs, hend, hi, hl, hk⟩
      have h5 := run_endLoop (P := P) hl (by rw [hR]; simp)
      exact ⟨none, _, by rw [h5, hR], hdone _ zs _ (Nat.le_refl _) hend (hI.putObj _ hi (by omega) hl rfl) ((World.putObj_heap_other (by omega)).trans hk)⟩
end
end

section
section
open Go.RowKit Go.Maps Go.Shelf
attribute [local go_sem] Oper.semAt_some

/-- A list has each variable of a set once. -/
def SetOf (f : Int → Bool) (ss : List Int) : Prop := ss.Nodup ∧ ∀ x, x ∈ ss ↔ (0 ≤ x ∧ x ≤ 255 ∧ f x = true)
def SetPre (f : Int → Bool) (pre : List Int) (x : Int) : Prop := (pre ++ [x]).Nodup ∧ (∀ y ∈ pre ++ [x], 0 ≤ y ∧ y ≤ 255 ∧ f y = true)
def byV (x : Int) : Array Value := #[.int .u8 x]
/-- What came, while some are left. -/
def CollV (D : DataW Unit) (left : Lit → Bool) (ss : List Int) : Prop := ss.Nodup ∧ (∀ x ∈ ss, 0 ≤ x ∧ x ≤ 255) ∧ ∀ x, 0 ≤ x → x ≤ 255 → (x ∈ ss ↔ (has D (.int .u8 x) = true ∧ left (.int .u8 x) = false))
theorem CollV.start (D : DataW Unit) : CollV D (has D) [] := ⟨List.nodup_nil, by simp, fun x _ _ => by cases has D (.int .u8 x) <;> simp⟩
theorem CollV.step {D : DataW Unit} {left : Lit → Bool} {ss : List Int} (h : CollV D left ss) {x : Int} {y : DataW Unit} (h0 : 0 ≤ x) (h1 : x ≤ 255) (hlk : left (.int .u8 x) = true) (hat : ∀ zd, D.atKey (.int .u8 x) zd = y) :
    CollV D (fun z => left z && !z.sameKey (.int .u8 x)) (ss ++ [x]) ∧ x ∉ ss ∧ has D (.int .u8 x) = true := by
  have hhas : has D (.int .u8 x) = true := has_true_of_atKey hat
  have hnew : x ∉ ss := fun hx => by have := ((h.2.2 x h0 h1).1 hx).2; rw [hlk] at this; cases this
  refine ⟨⟨List.nodup_append.2 ⟨h.1, by simp, fun a ha b hb => by simp at hb; subst hb; exact fun e => hnew (e ▸ ha)⟩, fun z hz => ?_, fun z hz0 hz1 => ?_⟩, hnew, hhas⟩
  · rcases List.mem_append.1 hz with hz | hz
    · exact h.2.1 z hz
    · simp at hz; subst hz; exact ⟨h0, h1⟩
  · by_cases hz : z = x
    · subst hz; simp [hhas, Lit.sameKey]
    · simp [h.2.2 z hz0 hz1, hz, Lit.sameKey]
theorem keyV_inv {key : Value} {kl : Lit} (h : keyOf Try.prog 80 key = some kl) : ∃ x : Int, key = .int .u8 x ∧ kl = .int .u8 x ∧ (Lit.int .u8 x).wf = true := by
  cases key <;> simp [keyOf, Try.underlying80, mapKey] at h
  rename_i q a
  obtain ⟨⟨rfl, hw⟩, rfl⟩ := h
  exact ⟨a, rfl, rfl, hw⟩
theorem wf_u8 {x : Int} (h : (Lit.int .u8 x).wf = true) : 0 ≤ x ∧ x ≤ 255 := by
  simp [Lit.wf, IntKind.min, IntKind.max, IntKind.signed, IntKind.bits] at h
  omega
theorem VSet.keep {w w' : World} {X : Nat → TypeId → Prop} {b m : Nat} {D : DataW Unit} {k : TypeId} {R : Value → Option (DataW Unit × List MemPlace)} (h : w.ownsMap Try.prog k R b m D) (hk : KeepsK X w w') : w'.ownsMap Try.prog k R b m D := by
  obtain ⟨es, clock, hb, h1, h2, h3⟩ := h
  exact ⟨es, clock, hk.same _ _ hb (fun xs t m e => by cases e), h1, h2, h3⟩

theorem KeepsK.walks {X : Nat → TypeId → Prop} {W W' : World} (h : KeepsK X W W') : KeepsWalks W W' :=
  ⟨h.size, fun k o hk ho => h.same k o hk (fun xs t m e => by subst e; simp [Obj.isWalk] at ho)⟩

set_option maxRecDepth 100000 in
set_option maxHeartbeats 2000000 in
theorem keys_iter (X : Nat → TypeId → Prop) (bm b m : Nat) (f : Int → Bool) (w : World) (hs : VSet w b m f) (hbox : w.heap[bm]? = some (.cells #[.map (some b)] 84 (0, 0))) (hX : ¬ X bm 84) :
    SeqSetK byV X Try.prog 140 #[.pointer (some ⟨bm, 0, none⟩)] (SetPre f) (SetOf f) w := by
  intro n l J W hW hJ hY h0
  obtain ⟨D, ho0, hr⟩ := hs
  have hb1 := hW.cell hbox hX
  have hc : W.cell? ⟨bm, 0, none⟩ = some (.map (some b)) := by simp [World.cell?, hb1]
  have ho : W.ownsMap Try.prog 80 (plainElem Try.prog 4) b m D := VSet.keep ho0 hW
  have HY := Lib.hid hY
  have HR := Lib.hid hr
  show CallsIn Fence.wide n Try.prog _ #[.func (.yield l) #[] #[], .pointer (some ⟨bm, 0, none⟩)] W _
  refine callsIn_of_wp Try.func140 rfl trivial ?_ rfl
  simp only [Try.ntmps140, List.size_toArray, List.length_cons, List.length_nil, Nat.reduceAdd, Nat.reduceSub, Array.replicate_succ, Array.replicate_zero, List.push_toArray, List.append_toArray, List.nil_append, List.cons_append]
  clear hY hr hbox hb1 hW ho0
  gi_wp2_with (first
    | (gi_at_range; refine wpListIn_range_own _ rfl _ 84 rfl 80 4 keyedV Try.underlying84 _ b m _ rfl ho ?_; intro w0 hrg0 hg0 hs0)
    | gi_in)
  go_frame
  gi_loopw [3] (fun _ wr => ∃ (left : Lit → Bool) (cnt : Nat) (ss : List Int), wr.ranges Try.prog 80 (plainElem Try.prog 4) b W.heap.size m D left cnt ∧ CollV D left ss ∧ J ss wr)
    (fun _ wr => wr.rangeLeft b W.heap.size)
  case atStart =>
    exact ⟨_, _, [], hrg0, CollV.start D, hJ [] W w0 none h0 hg0 (fun r e => by cases e)⟩
  case round =>
    obtain ⟨left, cnt, ss, hrg, hC, hJs⟩ := hrel
    gi_wp2_with (first
      | (gi_at_next; refine wpListIn_next_ranges _ rfl _ rfl 80 keyedV (plainElem Try.prog 4) (Value.int .u8) id (fun key kl hk => by obtain ⟨x, hx, _⟩ := keyV_inv hk; exact ⟨x, hx⟩) (fun v _ _ => ⟨v, rfl⟩) b W.heap.size m _ _ _ rfl hrg ?_ ?_)
      | gi_in)
    · intro hc0 hl0
      gi_wp2
      go_end0
      refine ⟨⟨_, rfl⟩, ss, ⟨hC.1, fun x => ⟨fun hx => ?_, fun hx => ?_⟩⟩, hJs⟩
      · have hb := hC.2.1 x hx
        have := ((hC.2.2 x hb.1 hb.2).1 hx).1
        rw [(HR.out x hb.1 hb.2).1] at this
        exact ⟨hb.1, hb.2, this⟩
      · exact (hC.2.2 x hx.1 hx.2.1).2 ⟨by rw [(HR.out x hx.1 hx.2.1).1]; exact hx.2.2, hl0 _⟩
    · intro x c kl yd yp w2 cnt2 hkey hlk hv hat hrg2 hlt hg2 hs2 hen
      obtain ⟨x', ex, rfl, hwf⟩ := keyV_inv hkey
      cases ex
      obtain ⟨hx0, hx1⟩ := wf_u8 hwf
      obtain ⟨hC2, hnew, hhas⟩ := hC.step hx0 hx1 hlk hat
      have hpre : SetPre f ss x := ⟨hC2.1, fun z hz => by
        have hb := hC2.2.1 z hz
        have := ((hC2.2.2 z hb.1 hb.2).1 hz).1
        rw [(HR.out z hb.1 hb.2).1] at this
        exact ⟨hb.1, hb.2, this⟩⟩
      have hJ2 : J ss w2 := hJ ss wr w2 (some W.heap.size) hJs hg2 (fun r e => by cases e; obtain ⟨o, ho, how⟩ := hrg.iter_walk; exact ⟨Nat.le_refl _, o, ho, by cases o <;> first | rfl | (simp [Obj.isWalk] at how)⟩)
      have hyd := HY.out (n - 1) ss x w2 hJ2 hpre
      unfold byV at hyd
      obtain ⟨fn, tmps, assign, body, hy, hRd⟩ := hyd
      gi_wp2_with (refine ⟨fun h => (by cases h), ?_⟩; refine hRd.mono ?_; clear hRd; rintro e W3 ⟨rfl, hJ3, hk3⟩)
      have hrg3 := hrg2.of_walks hk3.walks
      go_roundw
      case rel => exact ⟨_, cnt2, ss ++ [x], hrg3, hC2, hJ3⟩
      case measure => rw [hrg3.left_eq, hrg.left_eq]; exact hlt
end

section
open Go.RowKit Go.Shelf
attribute [local go_sem] Oper.semAt_some

abbrev TV : TypeId := 80
abbrev TSV : TypeId := 78
theorem infoV : (Try.prog.info? TV).map (fun i => (i.zero, i.size, i.bytes)) = some (some (.int .u8 0), 1, 1) := by kernel_rfl
def varV (ss : List Int) : List Value := ss.map (Value.int .u8)

theorem nodup_le : ∀ (m l : List Int), l.Nodup → (∀ x ∈ l, x ∈ m) → l.length ≤ m.length
  | [], l, _, h => by
    cases l with
    | nil => simp
    | cons a l => exact absurd (h a (by simp)) (by simp)
  | a :: m, l, hn, h => by
    have h1 : (l.filter fun x => x != a).length ≤ m.length := nodup_le m _ (hn.filter _) (fun x hx => by
      obtain ⟨hx1, hx2⟩ := List.mem_filter.1 hx
      have := h x hx1
      rcases List.mem_cons.1 this with e | e
      · subst e; simp at hx2
      · exact e)
    have h2 : l.length ≤ (l.filter fun x => x != a).length + 1 := by
      clear h1 h
      induction l with
      | nil => simp
      | cons b l ih =>
        obtain ⟨hb, hl⟩ := List.nodup_cons.1 hn
        by_cases e : b = a
        · subst e
          have : l.filter (fun x => x != b) = l := List.filter_eq_self.2 (fun x hx => by simp; intro e; subst e; exact hb hx)
          simp [this]
        · have := ih hl
          simp [e]; omega
    simp only [List.length_cons]; omega

theorem makeFunc_runV (fn : Fn) (first cap : Array Value) (w : World) : (Instr.makeFunc fn first cap).run Try.prog w = .ok (.func fn first cap) w := rfl

theorem keysmake (b : Nat) (w : World) : Calls Try.prog 75 #[.map (some b)] w fun e w' =>
    e = .returned (.func (.func 140) #[] #[.pointer (some ⟨w.heap.size, 0, none⟩)]) ∧ w' = w.alloc (.cells #[.map (some b)] 84) := by
  have hmf := @makeFunc_runV
  go_enter Try.func75, Try.ntmps75
  go_wp2_with fail
  go_ret
  exact ⟨rfl, rfl⟩

theorem keeps_rowV {X : Nat → TypeId → Prop} {V V' : World} {base e size n : Nat} {v : Value} {xs : List Value} (h : V.ownsRow base e size v n xs) (he : ∀ k, base ≤ k → X k e) (hg : V.grownBy V' v.ownBlock) : KeepsK X V V' := by
  rcases h.2 with ⟨rfl, _⟩ | ⟨g, cap, cur, rfl, hb, hgb, _⟩
  · exact KeepsK.grown hg
  · exact KeepsK.grownX hg hgb (he g hb)
theorem gr_rowV {w w1 w2 : World} {row : Option Nat} (h : w.grownBy w1 none) (h2 : w1.grownBy w2 row) (hr : ∀ k, row = some k → w.heap.size ≤ k) : w.grownBy w2 none :=
  ⟨h2.os.trans h.os, h2.tape.trans h.tape, h2.output.trans h.output, Nat.le_trans h.size h2.size, fun k hk hn => (h2.block k (Nat.lt_of_lt_of_le hk h.size) (fun e => by have := hr k e.symm; omega)).trans (h.block k hk hn)⟩

/-- What a round writes: the box of the list and the list's rows. -/
def collV (g : Nat) (k : Nat) (t : TypeId) : Prop := (t = TV ∧ g + 1 ≤ k) ∨ (t = TSV ∧ k = g)

set_option maxRecDepth 100000 in
set_option maxHeartbeats 4000000 in
theorem appseqV (bm b m : Nat) (f : Int → Bool) (w : World) (hs : VSet w b m f) (hf : ∀ x, f x = true → x ∈ ([97, 98, 118, 119, 120, 121, 122] : List Int)) (hbm : w.heap[bm]? = some (.cells #[.map (some b)] 84 (0, 0))) :
    Calls Try.prog 182 #[.slice none 0 0, .func (.func 140) #[] #[.pointer (some ⟨bm, 0, none⟩)]] w fun e w' =>
      ∃ sv ss, e = .returned sv ∧ SetOf f ss ∧ w.grownBy w' none ∧ w'.ownsRow w.heap.size TV 1 sv ss.length (varV ss) := by
  obtain ⟨i0, hi0, hz0, hz1, hz2⟩ := info_parts infoV
  obtain ⟨g, hg⟩ : ∃ g, w.heap.size = g := ⟨_, rfl⟩
  obtain ⟨W1, hW1⟩ : ∃ W1, w.alloc (.cells #[.slice none 0 0] TSV) = W1 := ⟨_, rfl⟩
  have s1 : W1.heap.size = g + 1 := by rw [← hW1]; simp [hg]
  have g1 : w.grownBy W1 none := by rw [← hW1]; exact World.grownBy_alloc _ _ _
  obtain ⟨X, hX⟩ : ∃ X, collV g = X := ⟨_, rfl⟩
  have b1 : Boxed W1 g TSV (.slice none 0 0) := by
    rw [← hW1, ← hg]
    exact Boxed.new w _ _
  have hll := (Array.getElem?_eq_some_iff.1 hbm).1
  have b2 : W1.heap[bm]? = some (.cells #[.map (some b)] 84 (0, 0)) := (g1.block bm hll (by simp)).trans hbm
  have hseq := Lib.hid (keys_iter X bm b m f W1 (hs.grown g1 (by simp)) b2 (by rw [← hX]; rintro (⟨e, _⟩ | ⟨e, _⟩) <;> exact absurd e (by decide)))
  have HB1 := Lib.hid b1
  have HG1 := Lib.hid g1
  have HX := Lib.hid hX
  have HW := Lib.hid hW1
  have HF := Lib.hid hf
  have HSS := Lib.hid (show W1.heap.size = g + 1 ∧ w.heap.size = g from ⟨s1, hg⟩)
  have HGH := Lib.hid hg
  clear hs hf hbm hg hW1 s1 g1 hX b1 hll b2
  refine (callsIn_wide (n := 3)).1 ?_
  refine callsIn_of_wp_marks Try.func182 rfl trivial ?_ rfl
  simp only [Try.ntmps182, List.size_toArray, List.length_cons, List.length_nil, Nat.reduceAdd, Nat.reduceSub, Array.replicate_succ, Array.replicate_zero, List.push_toArray, List.append_toArray, List.nil_append, List.cons_append]
  gi_wp2
  rw [HW.out]
  simp only [HGH.out]
  clear HW
  refine range_ownS byV (X := X) (Pre := SetPre f) (End := SetOf f) (gf := 140) (lb := #[.pointer (some ⟨bm, 0, none⟩)]) rfl (enters_of Try.func140 (by kernel_rfl) rfl) hseq.out
    (fun pre V => (∃ v, Boxed V g TSV v ∧ V.ownsRow (g + 1) TV 1 v pre.length (pre.map (Value.int .u8)) ∧ True) ∧ w.grownBy V none) ?hI ?h0 (fun _ => rfl)
    (fun x => { tmps := #[.slice none 0 0, .func (.func 140) #[] #[.pointer (some ⟨bm, 0, none⟩)], .pointer (some ⟨g, 0, none⟩), undef, .slice none 0 0, .int .u8 x,
          .func (.func 140) #[] #[.pointer (some ⟨bm, 0, none⟩)], .int .u8 x, undef, undef, undef, undef, undef], defers := [] }) ?assign ?body ?done
  case hI => exact OwnFrom.and (Own.from (holdsRow_own (g + 1) g TSV TV 1 (fun pre : List Int => pre.length) (fun pre => pre.map (Value.int .u8)) (fun _ _ => True)) _) (fun s A C row hs hg hr => gr_rowV hs hg (fun k e => by have h1 := (hr k e).1; have h2 := HSS.out; omega))
  case h0 => exact ⟨⟨_, HB1.out, by simpa using World.ownsRow_nil _ _ _ _, trivial⟩, HG1.out⟩
  case assign =>
    intro l m x V K hK
    simp only [byV]
    gi_wp2
    exact hK
  case body =>
    rintro l1 m1 pre x V hl1 hr1 ⟨⟨v, hv, hrow, _⟩, hG⟩ hpre
    have hszV : g + 1 ≤ V.heap.size := by obtain ⟨r, hr⟩ := hr1; have h1 := (Array.getElem?_eq_some_iff.1 hr).1; have := HSS.out; omega
    have hpl : pre.length < 400 := by
      have h1 := nodup_le _ _ hpre.1 (fun y hy => HF.out y (hpre.2 y hy).2.2)
      simp only [List.length_append, List.length_cons, List.length_nil] at h1
      omega
    have hc := hv.cell
    have HC := Lib.hid (cell_one_new V (.int .u8 x) TV)
    gi_wp2_with (gi_at_builtin; refine wpListIn_append_own _ rfl _ _ TSV rfl (g + 1) TV i0 (.int .u8 0) 1 1 Try.underlying78 hi0 hz0 hz1 hz2 rfl (by decide) v pre.length _ rfl (hrow.alloc _) ⟨V.heap.size, 0, none⟩ 1 1 [.int .u8 x] rfl rfl HC.out (by simp [Value.oneCell']) (by simp only [maxLen]; omega) (by omega) (by simp; omega) ?_; intro v' w1 hown' hgrow _; obtain ⟨g', cap', rfl⟩ := ownsRow_succ hown'; have hv1 : Boxed w1 g TSV v := Boxed.kept (hv.alloc _) hgrow (hv.not_row (by decide) hrow); have hc1 := hv1.cell; have hf1 := hv1.frozen)
    have hrow3 := hown'.kept (grownBy_setCell' w1 g (.slice (some ⟨g', 0, none⟩) (pre.length + 1) cap')) (.inr (hv1.not_row (by decide) hown').symm)
    have ka : KeepsK X V (V.alloc (.cells #[.int .u8 x] TV)) := KeepsK.alloc _ _
    have kb : KeepsK X (V.alloc (.cells #[.int .u8 x] TV)) w1 := keeps_rowV (hrow.alloc _) (fun k hk => by rw [← HX.out]; exact .inl ⟨rfl, hk⟩) hgrow
    have kc : KeepsK X w1 (w1.setCell ⟨g, 0, none⟩ (.slice (some ⟨g', 0, none⟩) (pre.length + 1) cap')) := KeepsK.grownX (grownBy_setCell' w1 g _) hv1 (by rw [← HX.out]; exact .inr ⟨rfl, rfl⟩)
    refine ⟨(ka.trans kb).trans kc, ⟨_, hv1.set _, ?_, trivial⟩, ?_⟩
    · rw [List.length_append, List.length_singleton, List.map_append, List.map_singleton]
      exact hrow3
    · have hlow := HSS.out
      refine gr_rowV (gr_rowV (hG.trans (World.grownBy_alloc V _ none)) hgrow (fun k hk => by have := (hrow.lt k hk).1; omega)) (grownBy_setCell' w1 g _) (fun k e => by cases e; omega)
  case done =>
    rintro Dm ss V hD' hend ⟨⟨v, hv, hrow, _⟩, hG⟩ hK
    have hc := hv.cell
    gi_wp2
    refine ⟨by simp, .inl ⟨_, _, rfl, run_takeDeferred hK, ?_⟩⟩
    have h3 := own_base (base' := w.heap.size) (ownsRow_putObj hrow (.deferred none) hK rfl) (by have := HSS.out; omega)
    have hgl : w.grownBy (V.putObj Dm (.deferred none)) none := gr_rowV hG (grownBy_putObj' V Dm _) (fun k e => by have := HSS.out; cases e; omega)
    refine ⟨v, by simp [results, Try.results182, go_sem], v, ss, rfl, hend, hgl, h3⟩

set_option maxHeartbeats 1000000 in
theorem collectV (bm b m : Nat) (f : Int → Bool) (w : World) (hs : VSet w b m f) (hf : ∀ x, f x = true → x ∈ ([97, 98, 118, 119, 120, 121, 122] : List Int)) (hbm : w.heap[bm]? = some (.cells #[.map (some b)] 84 (0, 0))) :
    Calls Try.prog 138 #[.func (.func 140) #[] #[.pointer (some ⟨bm, 0, none⟩)]] w fun e w' =>
      ∃ sv ss, e = .returned sv ∧ SetOf f ss ∧ w.grownBy w' none ∧ w'.ownsRow w.heap.size TV 1 sv ss.length (varV ss) := by
  have HS := Lib.hid (appseqV bm b m f w hs hf hbm)
  clear hs hf hbm
  go_enter Try.func138, Try.ntmps138
  go_wp2_with fail
  refine HS.out.mono ?_
  rintro e w1 ⟨sv, ss, rfl, h1, h2, h3⟩
  have HP := Lib.hid (And.intro h1 (And.intro h2 h3))
  clear h1 h2 h3
  go_wp2_with fail
  go_ret
  exact ⟨sv, ss, rfl, HP.out.1, HP.out.2.1, HP.out.2.2⟩
end

section
open Go.RowKit

def leV (l : List Int) : Prop := l.Pairwise (· ≤ ·)
theorem leV_in {P Q : List Int} {x : Int} (h : leV (P ++ Q)) (h1 : ∀ y ∈ P, y ≤ x) (h2 : ∀ y ∈ Q, x ≤ y) : leV (P ++ x :: Q) := by
  obtain ⟨hp, hq, hpq⟩ := List.pairwise_append.1 h
  refine List.pairwise_append.2 ⟨hp, List.pairwise_cons.2 ⟨h2, hq⟩, fun a ha b hb => ?_⟩
  rcases List.mem_cons.1 hb with rfl | hb
  · exact h1 a ha
  · exact hpq a ha b hb
theorem leV_last {P Q : List Int} {y : Int} (h : leV (P ++ [y] ++ Q)) : ∀ z ∈ P, z ≤ y := fun z hz => by
  have := (List.pairwise_append.1 (List.pairwise_append.1 h).1).2.2 z hz y (by simp)
  exact this
theorem leV_one : ∀ {l k : List Int}, leV l → leV k → l.Perm k → l = k
  | [], k, _, _, hp => (List.nil_perm.1 hp).symm
  | x :: l, k, h1, h2, hp => by
    cases k with
    | nil => exact List.perm_nil.1 hp
    | cons y k =>
      obtain ⟨hx, h3⟩ := List.pairwise_cons.1 h1
      obtain ⟨hy, h4⟩ := List.pairwise_cons.1 h2
      have e : x = y := by
        have g1 : x ∈ y :: k := hp.subset List.mem_cons_self
        have g2 : y ∈ x :: l := hp.symm.subset List.mem_cons_self
        rcases List.mem_cons.1 g1 with e | g1
        · exact e
        · rcases List.mem_cons.1 g2 with e | g2
          · exact e.symm
          · have a1 := hx y g2
            have a2 := hy x g1
            omega
      subst e
      exact congrArg (x :: ·) (leV_one h3 h4 ((List.perm_cons x).1 hp))

theorem varV_at {L : List Int} {j : Nat} {x : Int} (h : L[j]? = some x) : (varV L)[j]? = some (.int .u8 x) := by simp [varV, h]
theorem mid_at (P Q : List Int) (x : Int) {p : Nat} (h : P.length = p) : (P ++ x :: Q)[p]? = some x := by
  rw [List.getElem?_append_right (by omega), h, Nat.sub_self]; rfl
theorem mid_set (P Q : List Int) (x y : Int) {p : Nat} (h : P.length = p) : (P ++ x :: Q).set p y = P ++ y :: Q := by
  subst h
  simp [List.set_append_right]

theorem isnanV (x : Int) (w : World) : Calls Try.prog 230 #[.int .u8 x] w fun e w' => e = .returned (.bool false) ∧ w' = w := by
  go_enter Try.func230, Try.ntmps230
  go_wp2_with fail
  go_ret
  exact ⟨rfl, rfl⟩
theorem lessV (x y : Int) (w : World) : Calls Try.prog 213 #[.int .u8 x, .int .u8 y] w fun e w' => e = .returned (.bool (decide (x < y))) ∧ w' = w := by
  have H := Lib.hid isnanV
  go_enter Try.func213, Try.ntmps213
  go_wp2_with fail
  refine (H.out _ _).mono ?_
  rintro e w1 ⟨rfl, rfl⟩
  go_wp2_with fail
  go_ret
  exact ⟨rfl, rfl⟩

set_option maxRecDepth 100000 in
set_option maxHeartbeats 8000000 in
theorem insV (B g n cap : Nat) (L : List Int) (w : World) (ho : w.ownsRow B TV 1 (.slice (some ⟨g, 0, none⟩) n cap) n (varV L)) (hn : L.length = n) (hn0 : 0 < n) (hn2 : n ≤ 400) :
    Calls Try.prog 207 #[.slice (some ⟨g, 0, none⟩) n cap, .int .i64 0, .int .i64 (n : Int)] w fun e w' => e = .returned (.tuple #[]) ∧ ∃ M : List Int, M.Perm L ∧ leV M ∧ w'.ownsRow B TV 1 (.slice (some ⟨g, 0, none⟩) n cap) n (varV M) ∧ w.grownBy w' (some g) := by
  have HN := Lib.hid hn
  have H0 : Hid (∃ S R, S.length = 1 ∧ leV S ∧ (S ++ R).Perm L ∧ w.ownsRow B TV 1 (.slice (some ⟨g, 0, none⟩) n cap) n (varV (S ++ R))) := Lib.hid (by
    cases L with
    | nil => simp at hn; omega
    | cons x L => exact ⟨[x], L, rfl, by simp [leV], List.Perm.refl _, ho⟩)
  have HL := Lib.hid lessV
  clear ho hn
  go_enter Try.func207, Try.ntmps207
  go_wp2_with fail
  go_loopw [6] (fun i wr => ∃ t : Nat, 1 ≤ t ∧ t ≤ n ∧ i = .int .i64 (t : Int) ∧ Hid (∃ S R, S.length = t ∧ leV S ∧ (S ++ R).Perm L ∧ wr.ownsRow B TV 1 (.slice (some ⟨g, 0, none⟩) n cap) n (varV (S ++ R))) ∧ Hid (w.grownBy wr (some g))) (fun i _ => n - (intOf i).toNat)
  case atStart => exact ⟨1, Nat.le_refl _, by omega, rfl, H0, Lib.hid (gr_refl _ _)⟩
  case round =>
    obtain ⟨t, ht1, ht2, rfl, hS, hgr⟩ := hrel
    by_cases hlt : t < n
    · have HI : Hid (∃ (P : List Int) (x : Int) (Q R : List Int), P.length = t ∧ Q.length = t - t ∧ leV (P ++ Q) ∧ (∀ y ∈ Q, x ≤ y) ∧ (P ++ x :: (Q ++ R)).Perm L ∧ wr.ownsRow B TV 1 (.slice (some ⟨g, 0, none⟩) n cap) n (varV (P ++ x :: (Q ++ R)))) := Lib.hid (by
        obtain ⟨S, R, h1, h2, h3, h4⟩ := hS.out
        cases R with
        | nil => have := h3.length_eq; rw [List.append_nil, h1, HN.out] at this; omega
        | cons x R => exact ⟨S, x, [], R, h1, by simp, by simpa using h2, by simp, by simpa using h3, by simpa using h4⟩)
      clear hS
      go_wp2_with fail
      go_loopw [7] (fun j wr => ∃ p : Nat, j = .int .i64 (p : Int) ∧ p ≤ t ∧ Hid (∃ (P : List Int) (x : Int) (Q R : List Int), P.length = p ∧ Q.length = t - p ∧ leV (P ++ Q) ∧ (∀ y ∈ Q, x ≤ y) ∧ (P ++ x :: (Q ++ R)).Perm L ∧ wr.ownsRow B TV 1 (.slice (some ⟨g, 0, none⟩) n cap) n (varV (P ++ x :: (Q ++ R)))) ∧ Hid (w.grownBy wr (some g))) (fun j _ => (intOf j).toNat)
      case atStart => exact ⟨t, rfl, Nat.le_refl _, HI, hgr⟩
      case round =>
        clear hgr HI
        obtain ⟨p, rfl, hpt, hst, hgr⟩ := hrel
        by_cases hp0 : p = 0
        · subst hp0
          have HE : Hid (∃ S R, S.length = t + 1 ∧ leV S ∧ (S ++ R).Perm L ∧ wr.ownsRow B TV 1 (.slice (some ⟨g, 0, none⟩) n cap) n (varV (S ++ R))) := Lib.hid (by
            obtain ⟨P, x, Q, R, h1, h2, h3, h4, h5, h6⟩ := hst.out
            obtain rfl := List.eq_nil_of_length_eq_zero h1
            exact ⟨x :: Q, R, by simp; omega, leV_in (P := []) h3 (by simp) h4, by simpa using h5, by simpa using h6⟩)
          clear hst
          go_wp2_with fail
          go_quiet (fail)
          go_wp2_with fail
          go_roundw
          case rel => exact ⟨t + 1, by omega, by omega, by go_num, Lib.hid (by obtain ⟨S, R, h1, h2, h3, h4⟩ := HE.out; exact ⟨S, R, h1, h2, h3, own_keep h4 (fun _ _ => rfl)⟩), Lib.hid (hgr.out.trans (gr_drewN _ _ _))⟩
          case measure => simp [intOf]; omega
        · obtain ⟨q, rfl⟩ : ∃ q, p = q + 1 := ⟨p - 1, by omega⟩
          obtain ⟨P, x, Q, R, h1, h2, h3, h4, h5, h6⟩ := hst.out
          obtain ⟨P', y, rfl⟩ : ∃ P' y, P = P' ++ [y] := by
            have hne : P ≠ [] := fun h => by rw [h] at h1; simp at h1
            exact ⟨P.dropLast, P.getLast hne, (List.dropLast_concat_getLast hne).symm⟩
          have hq : P'.length = q := by simpa using h1
          have hlen := h5.length_eq
          rw [HN.out] at hlen
          simp only [List.length_append, List.length_cons, List.length_nil] at hlen
          have c1 : wr.cell? ⟨g, q + 1, none⟩ = some (.int .u8 x) := (h6.cellAt (q + 1) (by omega)).trans (varV_at (mid_at _ _ x h1))
          have c2 : wr.cell? ⟨g, q, none⟩ = some (.int .u8 y) := (h6.cellAt q (by omega)).trans (varV_at (by rw [List.append_assoc]; exact mid_at _ _ y hq))
          have H6 := Lib.hid h6
          have H3 := Lib.hid h3
          have H4 := Lib.hid h4
          have H5 := Lib.hid h5
          have H2 := Lib.hid h2
          have HQ := Lib.hid hq
          have HQ1 := Lib.hid h1
          have hq1 : (((q + 1 : Nat) : Int)) = (q : Int) + 1 := by omega
          have hqn : q + 1 < n := by omega
          clear h1 h2 h3 h4 h5 h6 hst hq hlen
          by_cases hxy : x < y
          · have hxd : decide (x < y) = true := by simp [hxy]
            go_wp2_with fail
            go_quiet (first | (go_at_call 213; refine Calls.quiet_of_same (lessV x y _)))
            go_wp2_with fail
            generalize hwd : wr.drewN nq = wd
            have ho : wd.ownsRow B TV 1 (.slice (some ⟨g, 0, none⟩) n cap) n (varV (P' ++ [y] ++ x :: (Q ++ R))) := by rw [← hwd]; exact own_keep H6.out (fun _ _ => rfl)
            have d1 : wd.cell? ⟨g, q + 1, none⟩ = some (.int .u8 x) := by rw [← hwd]; exact c1
            have d2 : wd.cell? ⟨g, q, none⟩ = some (.int .u8 y) := by rw [← hwd]; exact c2
            have HG5 := Lib.hid (hgr.out.trans (show wr.grownBy wd (some g) by rw [← hwd]; exact gr_drewN _ _ _))
            have f1 := ho.frozenAt (q + 1)
            have f2 := ho.frozenAt q
            have hne : q + 1 ≠ q := by omega
            have hne2 : q ≠ q + 1 := by omega
            have h1 := ho.stored (q + 1) (.int .u8 y)
            have h2 := h1.1.stored q (.int .u8 x)
            have hset : ((varV (P' ++ [y] ++ x :: (Q ++ R))).set (q + 1) (.int .u8 y)).set q (.int .u8 x) = varV (P' ++ x :: (y :: Q ++ R)) := by
              unfold varV
              rw [← List.map_set, ← List.map_set, mid_set _ _ _ _ HQ1.out, List.append_assoc]
              exact congrArg _ (mid_set P' (y :: (Q ++ R)) y x HQ.out)
            rw [hset] at h2
            have HST := Lib.hid (And.intro h2.1 (h1.2.trans h2.2))
            have HP : Hid ((P' ++ x :: (y :: Q ++ R)).Perm L) := Lib.hid (by
              refine List.Perm.trans ?_ H5.out
              rw [List.append_assoc]
              exact List.Perm.append_left P' (List.Perm.swap y x (Q ++ R)))
            clear h1 h2 ho hset hwd c1 c2
            go_region
            all_goals
              go_wp2_with fail
              go_roundw
              case rel => exact ⟨q, by go_num, by omega, Lib.hid ⟨P', x, y :: Q, R, HQ.out, by have := H2.out; simp; omega, by simpa using H3.out, fun z hz => by
                rcases List.mem_cons.1 hz with rfl | hz
                · omega
                · exact H4.out z hz, HP.out, own_keep HST.out.1 (fun _ _ => rfl)⟩, Lib.hid ((HG5.out.trans HST.out.2).trans (gr_drewN _ _ _))⟩
              case measure => first | (simp [intOf]; done) | (simp [intOf]; omega)
          · have hxd : decide (x < y) = false := by simp [hxy]
            have HE : Hid (∃ S R, S.length = t + 1 ∧ leV S ∧ (S ++ R).Perm L ∧ wr.ownsRow B TV 1 (.slice (some ⟨g, 0, none⟩) n cap) n (varV (S ++ R))) := Lib.hid
              ⟨P' ++ [y] ++ x :: Q, R, by have := HQ.out; have := H2.out; simp; omega, leV_in H3.out (fun z hz => by
                rcases List.mem_append.1 hz with hz | hz
                · have := leV_last H3.out z hz; omega
                · simp at hz; omega) H4.out, by simpa using H5.out, by simpa using H6.out⟩
            go_wp2_with fail
            go_quiet (first | (go_at_call 213; refine Calls.quiet_of_same (lessV x y _)))
            go_wp2_with fail
            go_roundw
            case rel => exact ⟨t + 1, by omega, by omega, by go_num, Lib.hid (by obtain ⟨S, R, h1, h2, h3, h4⟩ := HE.out; exact ⟨S, R, h1, h2, h3, own_keep h4 (fun _ _ => rfl)⟩), Lib.hid (hgr.out.trans (gr_drewN _ _ _))⟩
            case measure => simp [intOf]; omega
    · have hjn : t = n := by omega
      have HJ := Lib.hid hjn
      clear hjn
      go_wp2_with fail
      go_end0
      obtain ⟨S, R, h1, h2, h3, h4⟩ := hS.out
      have hR : R = [] := by
        have := h3.length_eq
        rw [List.length_append, h1, HN.out, HJ.out] at this
        exact List.eq_nil_of_length_eq_zero (by omega)
      subst hR
      rw [List.append_nil] at h3 h4
      exact ⟨rfl, S, h3, h2, h4, hgr.out⟩
end

section
open Go.RowKit Go.Shelf

set_option maxRecDepth 100000 in
set_option maxHeartbeats 2000000 in
theorem len64V (x : Int) (w : World) (h0 : 0 ≤ x) (h1 : x ≤ 12) : Calls Try.prog 217 #[.int .u64 x] w fun e w' => (∃ z : Int, e = .returned (.int .i64 z)) ∧ w' = w := by
  obtain ⟨k, rfl⟩ : ∃ k : Nat, x = (k : Int) := ⟨x.toNat, by omega⟩
  have a1 : ¬ ((4294967296 : Int) ≤ (k : Int)) := by omega
  have a2 : ¬ ((65536 : Int) ≤ (k : Int)) := by omega
  have a3 : ¬ ((256 : Int) ≤ (k : Int)) := by omega
  go_enter Try.func217, Try.ntmps217
  go_wp2_with fail
  go_ret
  exact ⟨⟨_, rfl⟩, rfl⟩

theorem lenV (x : Int) (w : World) (h0 : 0 ≤ x) (h1 : x ≤ 12) : Calls Try.prog 184 #[.int .u64 x] w fun e w' => (∃ z : Int, e = .returned (.int .i64 z)) ∧ w' = w := by
  have H := Lib.hid (fun w => len64V x w h0 h1)
  go_enter Try.func184, Try.ntmps184
  go_wp2_with fail
  refine (H.out _).mono ?_
  rintro e w1 ⟨⟨z, rfl⟩, rfl⟩
  go_wp2_with fail
  go_ret
  exact ⟨⟨_, rfl⟩, rfl⟩

set_option maxRecDepth 100000 in
set_option maxHeartbeats 2000000 in
theorem ins0V (A : Option Addr) (cap : Nat) (w : World) :
    Calls Try.prog 207 #[.slice A 0 cap, .int .i64 0, .int .i64 0] w fun e w' => e = .returned (.tuple #[]) ∧ w' = w := by
  go_enter Try.func207, Try.ntmps207
  go_wp2_with fail
  go_loopw [6] (fun i wr => i = .int .i64 1 ∧ wr = w) (fun _ _ => 0)
  case atStart => exact ⟨rfl, rfl⟩
  case round =>
    obtain ⟨rfl, rfl⟩ := hrel
    go_wp2_with fail
    go_end0
    exact ⟨rfl, rfl⟩

/-- How a sort ends. -/
def SrtP (B n cap : Nat) (A : Option Addr) (L : List Int) (w : World) (e : Ending) (w' : World) : Prop := e = .returned (.tuple #[]) ∧ ∃ M : List Int, M.Perm L ∧ leV M ∧ w'.ownsRow B TV 1 (.slice A n cap) n (varV M) ∧ w.grownBy w' (Value.ownBlock (.slice A n cap))

theorem ins_allV (B n cap : Nat) (A : Option Addr) (L : List Int) (w : World) (ho : w.ownsRow B TV 1 (.slice A n cap) n (varV L)) (hn : L.length = n) (hn2 : n ≤ 12) :
    Calls Try.prog 207 #[.slice A n cap, .int .i64 0, .int .i64 (n : Int)] w (SrtP B n cap A L w) := by
  rcases Nat.eq_zero_or_pos n with h0 | h0
  · subst h0
    obtain rfl := List.eq_nil_of_length_eq_zero hn
    refine (ins0V A cap w).mono ?_
    rintro e w' ⟨rfl, rfl⟩
    exact ⟨rfl, [], List.Perm.refl _, by simp [leV], ho, gr_refl _ _⟩
  · have ho2 := ho
    rcases ho2.2 with ⟨hv, hz⟩ | ⟨g, cap', cur, hv, _⟩
    · cases hv; omega
    · cases hv
      refine (insV B g n cap L w ho hn h0 (by omega)).mono ?_
      rintro e w' ⟨rfl, M, h1, h2, h3, h4⟩
      exact ⟨rfl, M, h1, h2, h3, h4⟩

set_option maxRecDepth 100000 in
set_option maxHeartbeats 4000000 in
theorem pdqV (B n cap : Nat) (A : Option Addr) (L : List Int) (z : Int) (w : World) (ho : w.ownsRow B TV 1 (.slice A n cap) n (varV L)) (hn : L.length = n) (hn2 : n ≤ 12) :
    Calls Try.prog 183 #[.slice A n cap, .int .i64 0, .int .i64 (n : Int), .int .i64 z] w (SrtP B n cap A L w) := by
  have HI := Lib.hid (ins_allV B n cap A L w ho hn hn2)
  have h12 : (n : Int) ≤ 12 := by omega
  clear ho hn
  go_enter Try.func183, Try.ntmps183
  go_wp2_with fail
  go_loopw [1, 2] (fun a b wr => a = .int .i64 0 ∧ b = .int .i64 (n : Int) ∧ wr = w) (fun _ _ _ => 0)
  case atStart => exact ⟨rfl, rfl, rfl⟩
  case round =>
    obtain ⟨rfl, rfl, rfl⟩ := hrel
    go_wp2_with fail
    refine HI.out.mono ?_
    rintro e w1 ⟨rfl, hp⟩
    have HP := Lib.hid hp
    clear hp
    go_wp2_with fail
    go_end0
    exact ⟨rfl, HP.out⟩

theorem sortV (B n cap : Nat) (A : Option Addr) (L : List Int) (w : World) (ho : w.ownsRow B TV 1 (.slice A n cap) n (varV L)) (hn : L.length = n) (hn2 : n ≤ 12) :
    Calls Try.prog 139 #[.slice A n cap] w (SrtP B n cap A L w) := by
  have HI := Lib.hid (fun z => pdqV B n cap A L z w ho hn hn2)
  have HLN := Lib.hid (fun w => lenV (n : Int) w (by omega) (by omega))
  have hw : IntKind.u64.wrap (n : Int) = (n : Int) := IntWalk.u64_in _ (by omega)
  clear ho hn
  go_enter Try.func139, Try.ntmps139
  go_wp2_with fail
  refine (HLN.out _).mono ?_
  rintro e w1 ⟨⟨z, rfl⟩, rfl⟩
  go_wp2_with fail
  refine (HI.out z).mono ?_
  rintro e w1 ⟨rfl, hp⟩
  have HP := Lib.hid hp
  clear hp
  go_wp2_with fail
  go_end0
  exact ⟨rfl, HP.out⟩

theorem setof_len {f : Int → Bool} {ss : List Int} (h : SetOf f ss) (hf : ∀ x, f x = true → x ∈ ([97, 98, 118, 119, 120, 121, 122] : List Int)) : ss.length ≤ 7 := nodup_le _ _ h.1 (fun x hx => hf x ((h.2 x).1 hx).2.2)

/-- slices.Sorted of a set's keys: a new row, the variables in ascending order. -/
theorem sortedV (bm b m : Nat) (f : Int → Bool) (w : World) (hs : VSet w b m f) (hf : ∀ x, f x = true → x ∈ ([97, 98, 118, 119, 120, 121, 122] : List Int)) (hbm : w.heap[bm]? = some (.cells #[.map (some b)] 84 (0, 0))) :
    Calls Try.prog 74 #[.func (.func 140) #[] #[.pointer (some ⟨bm, 0, none⟩)]] w fun e w' =>
      ∃ A n cap ss, e = .returned (.slice A n cap) ∧ SetOf f ss ∧ leV ss ∧ ss.length = n ∧ w.grownBy w' none ∧ w'.ownsRow w.heap.size TV 1 (.slice A n cap) n (varV ss) := by
  have HC := Lib.hid (collectV bm b m f w hs hf hbm)
  have HF := Lib.hid hf
  clear hs hf hbm
  go_enter Try.func74, Try.ntmps74
  go_wp2_with fail
  refine HC.out.mono ?_
  rintro e w1 ⟨sv, ss, rfl, h1, h2, h3⟩
  obtain ⟨A, n, cap, rfl⟩ := own_form h3
  obtain rfl : n = ss.length := by
    rcases h3.2 with ⟨hv, hz⟩ | ⟨g, cap', cur, hv, _⟩
    · cases hv; exact hz.symm
    · cases hv; rfl
  have HS := Lib.hid (sortV w.heap.size ss.length cap A ss w1 h3 rfl (by have := setof_len h1 HF.out; omega))
  have HP := Lib.hid (And.intro h1 (And.intro h2 h3))
  obtain ⟨n, hn⟩ : ∃ n, ss.length = n := ⟨_, rfl⟩
  rw [hn] at HS HP ⊢
  have HN := Lib.hid hn
  clear h1 h2 h3 hn
  go_wp2_with fail
  refine HS.out.mono ?_
  rintro e w2 ⟨rfl, M, p1, p2, p3, p4⟩
  have HQ := Lib.hid (And.intro p1 (And.intro p2 (And.intro p3 p4)))
  clear p1 p2 p3 p4
  go_wp2_with fail
  go_ret
  obtain ⟨p1, p2, p3, p4⟩ := HQ.out
  obtain ⟨h1, h2, h3⟩ := HP.out
  refine ⟨A, n, cap, M, rfl, ⟨p1.symm.nodup h1.1, fun x => ?_⟩, p2, by rw [p1.length_eq, HN.out], gr_rowV h2 p4 (fun k e => (h3.lt k e).1), p3⟩
  rw [← h1.2 x]
  exact p1.mem_iff
end
end

section
section
open Go.RowKit

def vars7 : List Int := [97, 98, 118, 119, 120, 121, 122]
def vt (c : Int) : ByteArray := one c
/-- The variables among the first j that stand free. -/
def frTo (T : Tm) (j : Nat) : ByteArray := bytesOf (((vars7.take j).filter fun c => T.free c).map byt)
def freeA (t : ByteArray) : ByteArray := match readT t with
  | some T => frTo T 7
  | none => ⟨#[]⟩
theorem frTo_step {T : Tm} {j : Nat} {c : Int} (h : vars7[j]? = some c) : frTo T (j + 1) = if T.free c = true then frTo T j ++ one c else frTo T j := by
  unfold frTo
  rw [List.take_add_one, h, List.filter_append, List.map_append]
  split
  · rename_i hf
    rw [← bytesOf_one, ← bytesOf_app]
    simp [hf]
  · rename_i hf
    simp [hf]
theorem frTo_size (T : Tm) (j : Nat) : (frTo T j).size ≤ 7 := by
  unfold frTo
  rw [bytesOf_size, List.length_map]
  refine Nat.le_trans (List.length_filter_le _ _) ?_
  rw [List.length_take]
  show min j 7 ≤ 7
  omega

theorem one_eq (c : Int) : one c = ⟨#[byt c]⟩ := by
  apply ByteArray.ext
  apply Array.toList_inj.1
  rw [one_data]
def s7V : List ByteArray := [⟨#[97]⟩, ⟨#[98]⟩, ⟨#[118]⟩, ⟨#[119]⟩, ⟨#[120]⟩, ⟨#[121]⟩, ⟨#[122]⟩]
theorem s7V_at {j : Nat} (h : j < 7) : ∃ c, vars7[j]? = some c ∧ s7V[j]? = some (one c) ∧ 0 < c ∧ c ≤ 122 := by
  match j, h with
  | 0, _ => exact ⟨97, rfl, by rw [one_eq]; rfl, by omega, by omega⟩
  | 1, _ => exact ⟨98, rfl, by rw [one_eq]; rfl, by omega, by omega⟩
  | 2, _ => exact ⟨118, rfl, by rw [one_eq]; rfl, by omega, by omega⟩
  | 3, _ => exact ⟨119, rfl, by rw [one_eq]; rfl, by omega, by omega⟩
  | 4, _ => exact ⟨120, rfl, by rw [one_eq]; rfl, by omega, by omega⟩
  | 5, _ => exact ⟨121, rfl, by rw [one_eq]; rfl, by omega, by omega⟩
  | 6, _ => exact ⟨122, rfl, by rw [one_eq]; rfl, by omega, by omega⟩
  | n + 7, h => exact absurd h (by omega)
theorem one_ix {c : Int} (h : 0 < (one c).size) (h0 : 0 ≤ c) (h1 : c ≤ 255) : ((((one c)[0]'h).toNat : Nat) : Int) = c := by
  have : ∀ (s : ByteArray) (hs : s = ⟨#[byt c]⟩) (h : 0 < s.size), (s[0]'h) = byt c := by rintro s rfl h; rfl
  rw [this _ (one_eq c) h]
  exact byt_back h0 h1
theorem strs_newV (w : World) (ss : List ByteArray) (ty : TypeId) : Strs (w.alloc (.cells (List.toArray (List.map Value.string ss)) ty)) (some ⟨w.heap.size, 0, none⟩) ss := fun _ =>
  ⟨_, _, rfl, by simp, fun j s hj => by
    have h1 := heap_alloc_new w (.cells (List.toArray (List.map Value.string ss)) ty)
    simp only [World.cell?, h1]
    simp [hj]⟩
theorem sterm_shapeV {s : ByteArray} {w w' : World} {e : Ending} (h : STermPost s w e w') : ∃ a b A k c o, e = .returned (.tuple #[.agg #[.int .u8 a, .int .u8 b, .slice A k c], .bool o]) ∧ w.grownBy w' none ∧ (readT s).isSome = o ∧
    ∀ T, readT s = some T → SN w' (fun b => w.heap.size ≤ b) T (a, b, .slice A k c) := by
  unfold STermPost at h
  cases hr : readT s with
  | none => rw [hr] at h; exact ⟨_, _, _, _, _, _, h.1, h.2, rfl, fun T hT => by cases hT⟩
  | some T =>
    rw [hr] at h
    obtain ⟨a, b, A, k, c, he, hg, hs⟩ := h
    exact ⟨_, _, _, _, _, _, he, hg, rfl, fun T hT => by cases hT; exact hs⟩

set_option maxRecDepth 100000 in
set_option maxHeartbeats 1000000 in
theorem freev_spec (t : ByteArray) (ht : t.size ≤ 1048576) (w : World) :
    Calls Try.prog 15 #[.string t] w fun e w' => e = .returned (.string (freeA t)) ∧ w.grownBy w' none := by
  have H1 := Lib.hid (fun w => sterm_any t ht w)
  go_enter Try.func15, Try.ntmps15
  go_wp2_with fail
  refine (H1.out _).mono ?_
  intro e w1 hp
  obtain ⟨a1, b1, A1, k1, c1, o, rfl, hg1, ho1, hs1⟩ := sterm_shapeV hp
  obtain ⟨x1, hx1⟩ : ∃ x, w1.alloc (.cells #[.int .u8 a1, .int .u8 b1, .slice A1 k1 c1] 70) = x := ⟨_, rfl⟩
  obtain ⟨n1, hn1⟩ : ∃ x, w1.heap.size = x := ⟨_, rfl⟩
  obtain ⟨x2, hx2⟩ : ∃ x, x1.alloc (.cells #[.string ⟨#[97]⟩, .string ⟨#[98]⟩, .string ⟨#[118]⟩, .string ⟨#[119]⟩, .string ⟨#[120]⟩, .string ⟨#[121]⟩, .string ⟨#[122]⟩] 9) = x := ⟨_, rfl⟩
  obtain ⟨n2, hn2⟩ : ∃ x, x1.heap.size = x := ⟨_, rfl⟩
  have gx1 : w1.grownBy x1 none := by rw [← hx1]; exact World.grownBy_alloc _ _ _
  have gx2 : x1.grownBy x2 none := by rw [← hx2]; exact World.grownBy_alloc _ _ _
  have C1 := Lib.hid ((show C3 x1 n1 (.int .u8 a1) (.int .u8 b1) (.slice A1 k1 c1) 70 by rw [← hx1, ← hn1]; exact c3_new _ _ _ _ _).grown gx2 (by simp))
  have HST := Lib.hid (show Strs x2 (some ⟨n2, 0, none⟩) s7V by rw [← hx2, ← hn2]; exact strs_newV x1 s7V _)
  have HG := Lib.hid ((hg1.trans gx1).trans gx2)
  have HO := Lib.hid ho1
  have HS := Lib.hid (fun T hT => ((hs1 T hT).grown gx1).grown gx2)
  clear hg1 gx1 gx2 ho1 hs1 hp
  cases o
  · have hres : freeA t = ⟨#[]⟩ := by
      unfold freeA
      cases hr : readT t with
      | none => rfl
      | some T => have := HO.out; rw [hr] at this; cases this
    have HRES := Lib.hid hres
    clear hres
    go_wp2_with fail
    go_loopw [3, 15] (fun q i wr => ∃ j : Nat, j ≤ 7 ∧ i = .int .i64 j ∧ q = .string ⟨#[]⟩ ∧ Hid (x2.grownBy wr none)) (fun _ i _ => 7 - (intOf i).toNat)
    case atStart => exact ⟨0, Nat.zero_le _, rfl, rfl, Lib.hid (gr_refl _ _)⟩
    case round =>
      obtain ⟨j, hj, rfl, rfl, hgr⟩ := hrel
      by_cases hlt : j < 7
      · obtain ⟨c, _, hz, _, _⟩ := s7V_at hlt
        obtain ⟨b, off, e, _, hcc⟩ := HST.out (by decide)
        cases e
        have hcell := hgr.out.cell (hcc j _ hz) (by simp)
        rw [Nat.zero_add] at hcell
        clear hz hcc
        go_wp2_with fail
        go_quiet (fail)
        go_wp2_with fail
        go_roundw
        case rel => exact ⟨j + 1, by omega, by go_num, rfl, Lib.hid (hgr.out.trans (gr_drewN _ _ _))⟩
        case measure => simp [intOf]; omega
      · go_wp2_with fail
        go_ret
        refine ⟨?_, HG.out.trans hgr.out⟩
        rw [HRES.out]
        rfl
  · obtain ⟨T, hT⟩ : ∃ T, readT t = some T := Option.isSome_iff_exists.1 HO.out
    have hres : freeA t = frTo T 7 := by unfold freeA; rw [hT]
    have HRES := Lib.hid hres
    have HT4 := Lib.hid (readT_some hT)
    have HSN := Lib.hid (HS.out T hT)
    clear hres hT
    go_wp2_with fail
    go_loopw [3, 15] (fun q i wr => ∃ j : Nat, j ≤ 7 ∧ i = .int .i64 j ∧ q = .string (frTo T j) ∧ Hid (x2.grownBy wr none)) (fun _ i _ => 7 - (intOf i).toNat)
    case atStart => exact ⟨0, Nat.zero_le _, rfl, rfl, Lib.hid (gr_refl _ _)⟩
    case round =>
      obtain ⟨j, hj, rfl, rfl, hgr⟩ := hrel
      by_cases hlt : j < 7
      · obtain ⟨c, hc, hz, hc0, hc1⟩ := s7V_at hlt
        obtain ⟨b, off, e, _, hcc⟩ := HST.out (by decide)
        cases e
        have hcell := hgr.out.cell (hcc j _ hz) (by simp)
        rw [Nat.zero_add] at hcell
        have hstep := Lib.hid (frTo_step (T := T) hc)
        have hsize := frTo_size T j
        have p0 := hgr.out.cell C1.out.c0 (by simp)
        have p1 := hgr.out.cell C1.out.c1 (by simp)
        have p2 := hgr.out.cell C1.out.c2 (by simp)
        have HF := Lib.hid (fun (u : World) (hu : x2.grownBy u none) => sfree_any T.size T _ a1 b1 A1 k1 c1 c u (Nat.le_refl _) HT4.out.2.2.1 hc0 (HSN.out.grown hu))
        obtain ⟨fr, hfr⟩ : ∃ x, T.free c = x := ⟨_, rfl⟩
        rw [hfr] at hstep HF
        have hone : (one c).size = 1 := one_size c
        have hix := one_ix (c := c) (by omega) (by omega) (by omega)
        obtain ⟨acc, hacc⟩ : ∃ x, frTo T j = x := ⟨_, rfl⟩
        rw [hacc] at hstep hsize ⊢
        clear hz hcc hc hfr hacc
        go_wp2_with fail
        go_region_law (first
          | (go_simp
             go_at_call 72
             refine (HF.out _ (hgr.out.trans (gr_drewN wr 1 none))).mono ?_
             rintro e wa ⟨rfl, hga⟩
             have HGa := Lib.hid ((gr_drewN wr 1 none).trans hga)
             clear hga))
        all_goals
          cases fr
          · go_wp2_with fail
            go_roundw
            case rel => exact ⟨j + 1, by omega, by go_num, by rw [hstep.out]; rfl, Lib.hid (hgr.out.trans HGa.out)⟩
            case measure => simp [intOf]; omega
          · go_wp2_with fail
            go_roundw
            case rel => exact ⟨j + 1, by omega, by go_num, by rw [hstep.out]; rfl, Lib.hid (hgr.out.trans HGa.out)⟩
            case measure => simp [intOf]; omega
      · have hj7 : j = 7 := by omega
        subst hj7
        go_wp2_with fail
        go_ret
        refine ⟨?_, HG.out.trans hgr.out⟩
        rw [HRES.out]
        rfl
end

section
open Go.RowKit

theorem freeV_isV : ∀ (t : Tm) (v : Int), t.Ok → t.free v = true → isV v = true
  | .dig c, v, _, h => by simp [Tm.free] at h
  | .var c, v, ho, h => by
    simp only [Tm.free, decide_eq_true_eq] at h
    subst h
    exact ho
  | .pre c s, v, ho, h => freeV_isV s v ho.2 h
  | .two c s t, v, ho, h => by
    simp only [Tm.free, Bool.or_eq_true] at h
    rcases h with h | h
    · exact freeV_isV s v ho.2.1 h
    · exact freeV_isV t v ho.2.2 h
  | .loop c i s t, v, ho, h => by
    simp only [Tm.free, Bool.or_eq_true, Bool.and_eq_true] at h
    rcases h with h | h
    · exact freeV_isV s v ho.2.2.1 h
    · exact freeV_isV t v ho.2.2.2 h.2
theorem isV_seven {v : Int} (h : isV v = true) : v ∈ ([97, 98, 118, 119, 120, 121, 122] : List Int) := by
  unfold isV at h
  simp only [decide_eq_true_eq] at h
  simp only [List.mem_cons, List.not_mem_nil, or_false]
  omega
theorem leV_same : ∀ {l k : List Int}, leV l → leV k → l.Nodup → k.Nodup → (∀ x, x ∈ l ↔ x ∈ k) → l = k
  | [], k, _, _, _, _, h => by
    cases k with
    | nil => rfl
    | cons y k => exact absurd ((h y).2 (by simp)) (by simp)
  | x :: l, [], _, _, _, _, h => absurd ((h x).1 (by simp)) (by simp)
  | x :: l, y :: k, h1, h2, n1, n2, h => by
    obtain ⟨hx, h3⟩ := List.pairwise_cons.1 h1
    obtain ⟨hy, h4⟩ := List.pairwise_cons.1 h2
    obtain ⟨nx, n3⟩ := List.nodup_cons.1 n1
    obtain ⟨ny, n4⟩ := List.nodup_cons.1 n2
    have e : x = y := by
      rcases List.mem_cons.1 ((h x).1 (by simp)) with e | g1
      · exact e
      · rcases List.mem_cons.1 ((h y).2 (by simp)) with e | g2
        · exact e.symm
        · have := hx y g2
          have := hy x g1
          omega
    subst e
    refine congrArg (x :: ·) (leV_same h3 h4 n3 n4 fun z => ⟨fun hz => ?_, fun hz => ?_⟩)
    · rcases List.mem_cons.1 ((h z).1 (List.mem_cons_of_mem _ hz)) with e | g
      · subst e; exact absurd hz nx
      · exact g
    · rcases List.mem_cons.1 ((h z).2 (List.mem_cons_of_mem _ hz)) with e | g
      · subst e; exact absurd hz ny
      · exact g
theorem vars7_le : leV vars7 := by unfold leV vars7; decide
theorem vars7_nd : vars7.Nodup := by unfold vars7; decide
theorem sorted_free {T : Tm} {ss : List Int} (ho : T.Ok) (h : SetOf T.free ss) (hl : leV ss) : bytesOf (ss.map byt) = frTo T 7 := by
  have e : ss = vars7.filter fun c => T.free c := leV_same hl (vars7_le.filter _) h.1 (vars7_nd.filter _) (fun x => by
    rw [h.2 x, List.mem_filter]
    constructor
    · rintro ⟨_, _, hf⟩
      exact ⟨isV_seven (freeV_isV T x ho hf), hf⟩
    · rintro ⟨hx, hf⟩
      have := isV_ge (freeV_isV T x ho hf)
      exact ⟨by omega, by omega, hf⟩)
  unfold frTo
  rw [e]
  rfl

theorem gr_below {w w' : World} (h : Below w.heap.size w w') : w.grownBy w' none := ⟨h.os, h.tape, h.output, h.size, fun k hk _ => h.block k hk⟩

set_option maxRecDepth 100000 in
set_option maxHeartbeats 4000000 in
theorem freev_impl (t : ByteArray) (w : World) :
    Calls Try.prog 16 #[.string t] w fun e w' => e = .returned (.string (freeA t)) ∧ w.grownBy w' none := by
  obtain ⟨i0, hi0, hz0, hz1, hz2⟩ := info_parts infoU8
  have H := Lib.hid (term_any t w)
  obtain ⟨res, hb⟩ : ∃ b, freeA t = b := ⟨_, rfl⟩
  rw [hb]
  have HB := Lib.hid hb
  clear hb
  go_enter Try.func16, Try.ntmps16
  go_wp2_with fail
  refine H.out.mono ?_
  intro e w0 hp
  unfold TermPost at hp
  have hb := HB.out
  unfold freeA at hb
  cases hr : readT t with
  | none =>
    rw [hr] at hp hb
    subst hb
    obtain ⟨rfl, hg⟩ := hp
    have HG := Lib.hid hg
    clear hg hr
    go_wp2_with fail
    go_ret
    exact ⟨rfl, HG.out⟩
  | some T =>
    rw [hr] at hp hb
    obtain ⟨v, rfl, hg, hpt⟩ := hp
    obtain ⟨ty, pv, rfl⟩ := hpt.iface
    have HT4 := Lib.hid (readT_some hr)
    have HF := Lib.hid (free_any T.size T _ (.iface ty pv) w0 (Nat.le_refl _) (by have := HT4.out.2.2.2; omega) HT4.out.2.2.1 hpt)
    have HG := Lib.hid hg
    have HRES : Hid (frTo T 7 = res) := Lib.hid hb
    clear hg hpt hr hb
    go_wp2_with fail
    refine HF.out.mono ?_
    rintro e w1 ⟨b, rfl, _, hg1, hvs⟩
    have HG1 := Lib.hid (HG.out.trans hg1)
    have HVS := Lib.hid hvs
    clear hg1 hvs
    go_wp2_with fail
    refine (keysmake b w1).mono ?_
    rintro e w2 ⟨rfl, hw2⟩
    have hg2 : w1.grownBy w2 none := by rw [hw2]; exact World.grownBy_alloc _ _ _
    have HSRT := Lib.hid (sortedV w1.heap.size b T.size T.free w2 (HVS.out.grown hg2 (by simp)) (fun x hx => isV_seven (freeV_isV T x HT4.out.2.2.1 hx)) (by rw [hw2]; exact heap_alloc_new _ _))
    have HG2 := Lib.hid (HG1.out.trans hg2)
    clear hg2 hw2
    go_wp2_with fail
    refine HSRT.out.mono ?_
    rintro e w3 ⟨A, n, cap, ss, rfl, hs1, hs2, hs3, hg3, ho⟩
    have HG3 := Lib.hid (HG2.out.trans hg3)
    have HN := Lib.hid hs3
    have HN7 : n ≤ 7 := by rw [← hs3]; exact setof_len hs1 (fun x hx => isV_seven (freeV_isV T x HT4.out.2.2.1 hx))
    have HRS : Hid (bytesOf (ss.map byt) = res) := Lib.hid (by rw [sorted_free HT4.out.2.2.1 hs1 hs2]; exact HRES.out)
    have HBD := Lib.hid (fun x (hx : x ∈ ss) => ((hs1.2 x).1 hx))
    obtain ⟨_, _, hrow⟩ := orow ho
    have HROW := Lib.hid hrow
    clear hg3 hs1 hs2 hs3 ho hrow
    go_wp2_with fail
    go_loopw [5, 20] (fun u i wr => ∃ j : Nat, j ≤ n ∧ i = .int .i64 j ∧ Hid (Txt wr w3.heap.size u ((ss.map byt).take j)) ∧ Hid (Below w3.heap.size w3 wr)) (fun _ i _ => n - (intOf i).toNat)
    case atStart => exact ⟨0, Nat.zero_le _, rfl, Lib.hid ⟨⟨rfl, .inl ⟨rfl, rfl⟩⟩, Nat.le_refl _⟩, Lib.hid (by exact ⟨rfl, rfl, rfl, Nat.le_refl _, fun _ _ => rfl⟩)⟩
    case round =>
      obtain ⟨j, hj, rfl, htx, hbl⟩ := hrel
      by_cases hlt : j < n
      · obtain ⟨g, rfl, _, hg1, hcell⟩ := HROW.out (by omega)
        obtain ⟨x, hx⟩ : ∃ x, ss[j]? = some x := ⟨_, List.getElem?_eq_getElem (by have := HN.out; omega)⟩
        have hc := (gr_below hbl.out).cell (hcell j _ (varV_at hx)) (by simp)
        have hxb := HBD.out x (List.mem_of_getElem? hx)
        obtain ⟨A0, c0, rfl⟩ := htx.out.form
        have own1 := (htx.out.keep (World.grownBy_alloc wr (.cells #[.int .u8 x] 5) none)).1
        have HBC := Lib.hid (bc_byt hxb.1 hxb.2.1)
        have hlj : ((ss.map byt).take j).length = j := by rw [List.length_take, List.length_map]; have := HN.out; omega
        have HLJ := Lib.hid hlj
        have hw3 := hbl.out.size
        have HX := Lib.hid (take_snoc' (show (ss.map byt)[j]? = some (byt x) by rw [List.getElem?_map, hx]; rfl))
        rw [hlj] at own1
        have htxj := htx.out
        rw [hlj] at htxj
        have HT := Lib.hid htxj
        clear htxj
        clear hcell hx
        rw [hlj]
        go_wp2_with (at_builtin; refine wpList_append_own_at _ rfl _ _ 27 rfl w3.heap.size 5 i0 (.int .u8 0) 1 1 Try.underlying27 hi0 hz0 hz1 hz2 rfl (by decide) _ _ _ rfl own1 ⟨wr.heap.size, 0, none⟩ 1 1 [.int .u8 x] rfl rfl ?a1 ?a2 ?a3 ?a4 ?a5 ?_)
        case a1 => exact cell_one_new _ _ _
        case a2 => simp [Value.oneCell']
        case a3 => simp only [maxLen]; omega
        case a4 => omega
        case a5 => simp; omega
        intro v8 w8 hown8 hg8 _ _
        obtain ⟨A8, k8, c8, rfl⟩ := own_form hown8
        have HR := Lib.hid (HT.out.more (m := [byt x]) (World.grownBy_alloc wr (.cells #[.int .u8 x] 5) none) hown8 hg8 (by rw [List.length_append, HLJ.out, List.length_singleton]) HBC.out.symm)
        rw [HX.out] at HR
        clear hown8 hg8 own1
        go_wp2_with fail
        go_roundw
        case rel => exact ⟨j + 1, by omega, by go_num, Lib.hid HR.out.1, Lib.hid (hbl.out.trans HR.out.2)⟩
        case measure => simp [intOf]; omega
      · have hjn : j = n := by omega
        have HJ := Lib.hid hjn
        obtain ⟨A0, c0, rfl⟩ := htx.out.form
        have hcv := conv_txt htx.out
        have hall : (ss.map byt).take j = ss.map byt := by rw [List.take_of_length_le (by rw [List.length_map]; have := HN.out; have := HJ.out; omega)]
        rw [hall] at hcv
        rw [hall]
        have HRS2 := HRS.out
        rw [HRS2] at hcv
        obtain ⟨l8, hl8⟩ : ∃ l, (ss.map byt).length = l := ⟨_, rfl⟩
        rw [hl8] at hcv ⊢
        clear hjn hall
        go_wp2_with fail
        go_ret
        exact ⟨rfl, HG3.out.trans (gr_below hbl.out)⟩
end
end

section
open Go.RowKit

/-- The one variable that a text is. -/
def vch (v : ByteArray) : Option Int := if v.size = 1 ∧ isV (ba v 0) = true then some (ba v 0) else none
theorem one_list {v : ByteArray} (h : v.size = 1) : v.data.toList = [byt (ba v 0)] := by
  have hl : v.data.toList.length = 1 := by rw [Array.length_toList]; exact h
  obtain ⟨x, hx⟩ := List.length_eq_one_iff.1 hl
  have hb : ba v 0 = (x.toNat : Int) := (At.cons (s := v) (p := 0) (c := x) (l := []) ⟨[], [], by simp [hx], rfl⟩).1
  rw [hx, hb]
  simp [byt]
theorem vch_some {v : ByteArray} {c : Int} (h : vch v = some c) : readT v = some (.var c) ∧ isV c = true ∧ v.size = 1 ∧ ba v 0 = c := by
  unfold vch at h
  split at h
  · rename_i hv
    cases h
    exact ⟨readT_back hv.2 (one_list hv.1) (by omega), hv.2, hv.1, rfl⟩
  · cases h
theorem vch_none {v : ByteArray} {c : Int} (h : vch v = none) : readT v ≠ some (.var c) := by
  intro hr
  have hl := readT_len hr
  have ho := (readT_some hr).2.2.1
  have ht := readT_txt hr
  simp only [Tm.txt, List.length_cons, List.length_nil] at hl
  have hv1 : v.size = 1 := by omega
  have hb := one_list hv1
  rw [ht] at hb
  simp only [Tm.txt, List.cons.injEq, and_true] at hb
  have h0 := vb ho
  have hba : ba v 0 = c := by
    have h1 : 0 ≤ ba v 0 := by rw [ba_in (by omega)]; omega
    have := byt_back h1 (ba_hi v 0)
    rw [← hb, byt_back h0.1 h0.2] at this
    exact this.symm
  unfold vch at h
  rw [if_pos ⟨hv1, by rw [hba]; exact ho⟩] at h
  cases h

/-- What ReplaceVar answers. -/
def replA (t v u : ByteArray) : Option ByteArray := match readT t, readT u, vch v with
  | some T, some U, some c => if T.binds c U = true ∨ 80 < (T.rep c U).txt.length then none else some (bytesOf (T.rep c U).txt)
  | _, _, _ => none
def RVP (o : Option ByteArray) (w : World) (e : Ending) (w' : World) : Prop := e = .returned (.tuple #[.string (o.getD ⟨#[]⟩), .bool o.isSome]) ∧ w.grownBy w' none

set_option maxRecDepth 100000 in
set_option maxHeartbeats 4000000 in
theorem repv_impl (t v u : ByteArray) (w : World) :
    Calls Try.prog 18 #[.string t, .string v, .string u] w (RVP (replA t v u) w) := by
  have H1 := Lib.hid (fun w => term_any t w)
  have H2 := Lib.hid (fun w => term_any u w)
  obtain ⟨res, hres⟩ : ∃ b, replA t v u = b := ⟨_, rfl⟩
  rw [hres]
  have HRES := Lib.hid hres
  clear hres
  go_enter Try.func18, Try.ntmps18
  go_wp2_with fail
  refine (H1.out _).mono ?_
  intro e w1 hp1
  unfold TermPost at hp1
  cases hr1 : readT t with
  | none =>
    rw [hr1] at hp1
    obtain ⟨rfl, hg1⟩ := hp1
    have HG1 := Lib.hid hg1
    have HR : Hid (res = none) := Lib.hid (by rw [← HRES.out]; unfold replA; rw [hr1])
    clear hg1 hr1
    go_wp2_with fail
    refine (H2.out _).mono ?_
    intro e w2 hp2
    have hsh : ∃ x b, e = .returned (.tuple #[x, .bool b]) ∧ w1.grownBy w2 none := by
      unfold TermPost at hp2
      cases hr2 : readT u with
      | none => rw [hr2] at hp2; exact ⟨_, _, hp2.1, hp2.2⟩
      | some U => rw [hr2] at hp2; obtain ⟨x, he, hg, _⟩ := hp2; exact ⟨_, _, he, hg⟩
    obtain ⟨x, b, rfl, hg2⟩ := hsh
    have HG2 := Lib.hid hg2
    clear hp2 hg2
    go_wp2_with fail
    go_ret2
    rw [HR.out]
    exact ⟨rfl, HG1.out.trans HG2.out⟩
  | some T =>
    rw [hr1] at hp1
    obtain ⟨x1, rfl, hg1, hpt⟩ := hp1
    obtain ⟨ty1, pv1, rfl⟩ := hpt.iface
    have HG1 := Lib.hid hg1
    have HPT := Lib.hid hpt
    have HR1 := Lib.hid hr1
    clear hg1 hr1 hpt
    go_wp2_with fail
    refine (H2.out _).mono ?_
    intro e w2 hp2
    unfold TermPost at hp2
    cases hr2 : readT u with
    | none =>
      rw [hr2] at hp2
      obtain ⟨rfl, hg2⟩ := hp2
      have HG2 := Lib.hid hg2
      have HR : Hid (res = none) := Lib.hid (by rw [← HRES.out]; unfold replA; rw [HR1.out, hr2])
      clear hg2 hr2
      go_wp2_with fail
      go_ret2
      rw [HR.out]
      exact ⟨rfl, HG1.out.trans HG2.out⟩
    | some U =>
      rw [hr2] at hp2
      obtain ⟨x2, rfl, hg2, hpu⟩ := hp2
      obtain ⟨ty2, pv2, rfl⟩ := hpu.iface
      have HG2 := Lib.hid hg2
      have HPU := Lib.hid hpu
      have HR2 := Lib.hid hr2
      clear hg2 hr2 hpu
      by_cases hs1 : v.size = 1
      · have h0 : 0 < v.size := by omega
        obtain ⟨iv, hiv⟩ : ∃ b, isV (ba v 0) = b := ⟨_, rfl⟩
        have hb0 : 0 ≤ ba v 0 := by rw [ba_in h0]; omega
        have hb1 := ba_hi v 0
        have HO := Lib.hid (fun w => oneofV (ba v 0) hb0 hb1 iv hiv w)
        have HIV := Lib.hid hiv
        have HVC : Hid (vch v = if iv = true then some (ba v 0) else none) := Lib.hid (by
          unfold vch
          rw [hiv]
          cases iv <;> simp [hs1])
        obtain ⟨c, hcb⟩ : ∃ c, ba v 0 = c := ⟨_, rfl⟩
        have hc : ((v[0]'h0).toNat : Int) = c := by rw [← hcb]; exact (ba_in h0).symm
        rw [hcb] at HO hb0 hb1 HVC
        have hs1i : ((v.size : Int) != 1) = false := by rw [hs1]; rfl
        have HS1 := Lib.hid hs1
        clear hiv hs1 hcb
        go_wp2_with fail
        refine (HO.out _).mono ?_
        rintro e w2' ⟨rfl, rfl⟩
        cases iv
        · have HR : Hid (res = none) := Lib.hid (by rw [← HRES.out]; unfold replA; rw [HR1.out, HR2.out, HVC.out]; rfl)
          go_wp2_with fail
          go_ret2
          rw [HR.out]
          exact ⟨rfl, HG1.out.trans HG2.out⟩
        · have HU := Lib.hid (readT_some HR2.out)
          have HT := Lib.hid (readT_some HR1.out)
          have HUL := Lib.hid (readT_len HR2.out)
          have HTL := Lib.hid (readT_len HR1.out)
          have HR : Hid (res = if T.binds c U = true ∨ 80 < (T.rep c U).txt.length then none else some (bytesOf (T.rep c U).txt)) := Lib.hid (by rw [← HRES.out]; unfold replA; rw [HR1.out, HR2.out, HVC.out]; rfl)
          go_wp2_with fail
          refine (repof_any c U _ _ _ HU.out.2.2.1 (by have := HU.out.2.2.2; omega) HPU.out).mono ?_
          rintro e w3 ⟨r, fb, rfl, hg3, hra⟩
          have HG3 := Lib.hid hg3
          have HRA := Lib.hid hra
          have HPT3 := Lib.hid ((HPT.out.grown HG2.out).grown hg3)
          have HWB := Lib.hid (wb_any r fb U.size c U _ ⟨hb0, hb1⟩ 80 T _ _ w3 HT.out.2.2.2 (by omega) HT.out.2.2.1 HPT3.out hra)
          obtain ⟨bd, hbd⟩ : ∃ b, T.binds c U = b := ⟨_, rfl⟩
          rw [hbd] at HWB HR
          clear hg3 hra hbd
          go_wp2_with fail
          refine HWB.out.mono ?_
          rintro e w4 ⟨rfl, hg4⟩
          have HG4 := Lib.hid hg4
          have HIN := Lib.hid (inn_any r c U _ fb 80 T _ _ w4 HT.out.2.2.2 (HPT3.out.grown hg4) (HRA.out.grown hg4).blk (HRA.out.grown hg4).by')
          clear hg4
          cases bd
          · go_wp2_with fail
            refine HIN.out.mono ?_
            rintro e w5 ⟨x5, rfl, hg5, hp5⟩
            obtain ⟨ty5, pv5, rfl⟩ := hp5.iface
            have HG5 := Lib.hid hg5
            have hle : (T.rep c U).txt.length ≤ 80 * 80 := by
              have h1 := T.rep_len c U (by have := HUL.out; have := HU.out.1; omega)
              have h2 := HTL.out
              have h3 := HT.out.1
              omega
            have HTX := Lib.hid (textof_any (T.rep c U) _ ty5 pv5 w5 (T.rep_ok c U HU.out.2.2.1 HT.out.2.2.1) hp5 (by omega))
            obtain ⟨X, hX⟩ : ∃ X, bytesOf (T.rep c U).txt = X := ⟨_, rfl⟩
            have hXs : X.size = (T.rep c U).txt.length := by rw [← hX]; simp [bytesOf, ByteArray.size]
            rw [hX] at HTX HR
            rw [← hXs] at HR
            clear hg5 hp5 hX hXs hle
            go_wp2_with fail
            refine HTX.out.mono ?_
            rintro e w6 ⟨rfl, hg6⟩
            have HG6 := Lib.hid ((((HG1.out.trans HG2.out).trans HG3.out).trans HG4.out).trans (HG5.out.trans hg6))
            clear hg6
            by_cases h80 : 80 < X.size
            · have hgt : (80 : Int) < (X.size : Int) := by omega
              have HRN : Hid (res = none) := Lib.hid (by rw [HR.out, if_pos (.inr h80)])
              clear h80
              go_wp2_with fail
              go_ret2
              rw [HRN.out]
              exact ⟨rfl, HG6.out⟩
            · have hgt : ¬ (80 : Int) < (X.size : Int) := by omega
              have HRN : Hid (res = some X) := Lib.hid (by rw [HR.out, if_neg (by simp [h80])])
              clear h80
              go_wp2_with fail
              go_ret2
              rw [HRN.out]
              exact ⟨rfl, HG6.out⟩
          · have HRN : Hid (res = none) := Lib.hid (by rw [HR.out, if_pos (.inl rfl)])
            go_wp2_with fail
            go_ret2
            rw [HRN.out]
            exact ⟨rfl, ((HG1.out.trans HG2.out).trans HG3.out).trans HG4.out⟩
      · have hs1i : ((v.size : Int) != 1) = true := by simp; omega
        have HR : Hid (res = none) := Lib.hid (by rw [← HRES.out]; unfold replA; rw [HR1.out, HR2.out, show vch v = none from by unfold vch; rw [if_neg (fun h => hs1 h.1)]])
        go_wp2_with fail
        go_ret2
        rw [HR.out]
        exact ⟨rfl, HG1.out.trans HG2.out⟩
end

section
section
open Go.RowKit

theorem srep_any : ∀ (n : Nat) (t u : Tm) (a b v ua ub : Int) (A UA : Option Addr) (k c uk uc : Nat) (S : Nat → Prop) (w : World), t.size ≤ n → n ≤ 1000000 → t.Ok → u.Ok → 0 < v → u.size ≤ 1000000 →
    (∀ x, S x → x < w.heap.size) → SN w S t (a, b, .slice A k c) → SN w S u (ua, ub, .slice UA uk uc) →
    Calls Try.prog 77 #[.agg #[.int .u8 a, .int .u8 b, .slice A k c], .int .u8 v, .agg #[.int .u8 ua, .int .u8 ub, .slice UA uk uc]] w (SRP (t.rep v u) (!t.binds v u) S w)
  | 0, t, u, a, b, v, ua, ub, A, UA, k, c, uk, uc, S, w, hn, _, _, _, _, _, _, _, _ => by have := t.size_pos; omega
  | n + 1, t, u, a, b, v, ua, ub, A, UA, k, c, uk, uc, S, w, hn, hn2, hok, huok, hv, husz, hS, ht, hu => by
    by_cases hvar : t = .var v
    · subst hvar
      obtain ⟨h1, h2, _⟩ := ht
      simp only at h1 h2
      subst h1 h2
      have e1 : (Tm.var b).rep b u = u := by simp [Tm.rep]
      have e2 : (Tm.var b).binds b u = false := by simp [Tm.binds]
      rw [e1, e2]
      exact srep_hit b ua ub _ ⟨A, k, c, rfl⟩ UA uk uc u S w hu
    · refine srep_go t u a b v ua ub A UA k c uk uc S w hok huok hv (by omega) (fun d hd e => hvar (by rw [hd, e])) hS ht hu ?_
      intro x hx a2 b2 A2 k2 c2 w' hg hs
      obtain ⟨j, hj⟩ := List.getElem?_of_mem hx
      have hbd : x.size ≤ n := by
        have hst := csum_step hj
        have hlq := csum_take t.kids (j + 1)
        have hks := csum_kids t
        omega
      exact srep_any n x u a2 b2 v ua ub A2 UA k2 c2 uk uc S w' hbd (by omega) (kids_ok' hok hx) huok hv husz (fun y hy => Nat.lt_of_lt_of_le (hS y hy) hg.size) hs (hu.grown hg)
end

section
open Go.RowKit

theorem sterm_shape {s : ByteArray} {w w' : World} {e : Ending} (h : STermPost s w e w') : ∃ a b A k c o, e = .returned (.tuple #[.agg #[.int .u8 a, .int .u8 b, .slice A k c], .bool o]) ∧ w.grownBy w' none ∧ (readT s).isSome = o ∧
    ∀ T, readT s = some T → SN w' (fun b => w.heap.size ≤ b) T (a, b, .slice A k c) := by
  unfold STermPost at h
  cases hr : readT s with
  | none => rw [hr] at h; exact ⟨_, _, _, _, _, _, h.1, h.2, rfl, fun T hT => by cases hT⟩
  | some T =>
    rw [hr] at h
    obtain ⟨a, b, A, k, c, he, hg, hs⟩ := h
    exact ⟨_, _, _, _, _, _, he, hg, rfl, fun T hT => by cases hT; exact hs⟩
theorem repA_n1 {t v u : ByteArray} (h : (readT t).isSome = false) : replA t v u = none := by
  unfold replA
  cases hr : readT t with
  | none => rfl
  | some T => rw [hr] at h; cases h
theorem repA_n2 {t v u : ByteArray} (h : (readT u).isSome = false) : replA t v u = none := by
  unfold replA
  cases hr : readT u with
  | none => cases readT t <;> rfl
  | some T => rw [hr] at h; cases h
theorem repA_n3 {t v u : ByteArray} (h : vch v = none) : replA t v u = none := by
  unfold replA
  rw [h]
  cases readT t <;> cases readT u <;> rfl
theorem vch_read {v : ByteArray} (h : (readT v).isSome = false) : vch v = none := by
  cases hv : vch v with
  | none => rfl
  | some c => rw [(vch_some hv).1] at h; cases h
/-- What is read is a variable exactly if its node's sign says so. -/
theorem vch_sign {v : ByteArray} {w : World} {S : Nat → Prop} {a b : Int} {sv : Value} {T : Tm} (hr : readT v = some T) (h : SN w S T (a, b, sv)) : vch v = if a = 97 then some b else none := by
  have hok := (readT_some hr).2.2.1
  cases hv : T.isV with
  | true =>
    cases T <;> try cases hv
    rename_i c
    obtain ⟨h1, h2, _⟩ := h
    simp only at h1 h2
    subst h1 h2
    rw [if_pos rfl]
    cases hc : vch v with
    | none => exact absurd hr (vch_none hc)
    | some d => rw [(vch_some hc).1] at hr; cases hr; rfl
  | false =>
    rw [if_neg (h.novar hok hv)]
    cases hc : vch v with
    | none => rfl
    | some d => rw [(vch_some hc).1] at hr; cases hr; cases hv

set_option maxRecDepth 100000 in
set_option maxHeartbeats 4000000 in
theorem repv_spec (t v u : ByteArray) (ht : t.size ≤ 1048576) (hv : v.size ≤ 1048576) (hu : u.size ≤ 1048576) (w : World) :
    Calls Try.prog 17 #[.string t, .string v, .string u] w (RVP (replA t v u) w) := by
  have H1 := Lib.hid (fun w => sterm_any t ht w)
  have H2 := Lib.hid (fun w => sterm_any u hu w)
  have H3 := Lib.hid (fun w => sterm_any v hv w)
  obtain ⟨res, hres⟩ : ∃ b, replA t v u = b := ⟨_, rfl⟩
  rw [hres]
  have HRES := Lib.hid hres
  clear hres ht hv hu
  go_enter Try.func17, Try.ntmps17
  go_wp2_with fail
  refine (H1.out _).mono ?_
  intro e w1 hp
  obtain ⟨a1, b1, A1, k1, c1, o1, rfl, hg1, ho1, hs1⟩ := sterm_shape hp
  obtain ⟨x1, hx1⟩ : ∃ x, w1.alloc (.cells #[.int .u8 a1, .int .u8 b1, .slice A1 k1 c1] TN) = x := ⟨_, rfl⟩
  obtain ⟨n1, hn1⟩ : ∃ x, w1.heap.size = x := ⟨_, rfl⟩
  have gx1 : w1.grownBy x1 none := by rw [← hx1]; exact World.grownBy_alloc _ _ _
  have C1 := Lib.hid (show C3 x1 n1 (.int .u8 a1) (.int .u8 b1) (.slice A1 k1 c1) TN by rw [← hx1, ← hn1]; exact c3_new _ _ _ _ _)
  have HG1 := Lib.hid (hg1.trans gx1)
  have HO1 := Lib.hid ho1
  have HS1 := Lib.hid (fun T hT => (hs1 T hT).grown gx1)
  clear hg1 gx1 ho1 hs1 hp
  go_wp2_with fail
  refine (H2.out _).mono ?_
  intro e w2 hp
  obtain ⟨a2, b2, A2, k2, c2, o2, rfl, hg2, ho2, hs2⟩ := sterm_shape hp
  obtain ⟨x2, hx2⟩ : ∃ x, w2.alloc (.cells #[.int .u8 a2, .int .u8 b2, .slice A2 k2 c2] TN) = x := ⟨_, rfl⟩
  obtain ⟨n2, hn2⟩ : ∃ x, w2.heap.size = x := ⟨_, rfl⟩
  have gx2 : w2.grownBy x2 none := by rw [← hx2]; exact World.grownBy_alloc _ _ _
  have C2 := Lib.hid (show C3 x2 n2 (.int .u8 a2) (.int .u8 b2) (.slice A2 k2 c2) TN by rw [← hx2, ← hn2]; exact c3_new _ _ _ _ _)
  have HG2 := Lib.hid (hg2.trans gx2)
  have HO2 := Lib.hid ho2
  have HS2 := Lib.hid (fun T hT => (hs2 T hT).grown gx2)
  clear hg2 gx2 ho2 hs2 hp
  go_wp2_with fail
  refine (H3.out _).mono ?_
  intro e w3 hp
  obtain ⟨a3, b3, A3, k3, c3, o3, rfl, hg3, ho3, hs3⟩ := sterm_shape hp
  obtain ⟨x3, hx3⟩ : ∃ x, w3.alloc (.cells #[.int .u8 a3, .int .u8 b3, .slice A3 k3 c3] TN) = x := ⟨_, rfl⟩
  obtain ⟨n3, hn3⟩ : ∃ x, w3.heap.size = x := ⟨_, rfl⟩
  have gx3 : w3.grownBy x3 none := by rw [← hx3]; exact World.grownBy_alloc _ _ _
  have C3' := Lib.hid (show C3 x3 n3 (.int .u8 a3) (.int .u8 b3) (.slice A3 k3 c3) TN by rw [← hx3, ← hn3]; exact c3_new _ _ _ _ _)
  have HG3 := Lib.hid (hg3.trans gx3)
  have HO3 := Lib.hid ho3
  have HS3 := Lib.hid (fun T hT => (hs3 T hT).grown gx3)
  have HG := Lib.hid ((HG1.out.trans HG2.out).trans HG3.out)
  clear hg3 gx3 ho3 hs3 hp
  cases o1
  · have HR : Hid (res = none) := Lib.hid (by rw [← HRES.out]; exact repA_n1 HO1.out)
    go_wp2_with fail
    go_ret2
    rw [HR.out]
    exact ⟨rfl, HG.out⟩
  cases o2
  · have HR : Hid (res = none) := Lib.hid (by rw [← HRES.out]; exact repA_n2 HO2.out)
    go_wp2_with fail
    go_ret2
    rw [HR.out]
    exact ⟨rfl, HG.out⟩
  cases o3
  · have HR : Hid (res = none) := Lib.hid (by rw [← HRES.out]; exact repA_n3 (vch_read HO3.out))
    go_wp2_with fail
    go_ret2
    rw [HR.out]
    exact ⟨rfl, HG.out⟩
  obtain ⟨T3, hT3⟩ : ∃ T, readT v = some T := Option.isSome_iff_exists.1 HO3.out
  have HV := Lib.hid (vch_sign hT3 (HS3.out T3 hT3))
  have q0 := C3'.out.c0
  by_cases h97 : a3 = 97
  · subst h97
    have HV : Hid (vch v = some b3) := Lib.hid (by rw [HV.out, if_pos rfl])
    obtain ⟨T, hT⟩ : ∃ T, readT t = some T := Option.isSome_iff_exists.1 HO1.out
    obtain ⟨U, hU⟩ : ∃ T, readT u = some T := Option.isSome_iff_exists.1 HO2.out
    have hT4 := readT_some hT
    have hU4 := readT_some hU
    have hTl := readT_len hT
    have hUl := readT_len hU
    have hb3 : 0 < b3 := by have := isV_ge (vch_some HV.out).2.1; omega
    have HST : Hid (SN x3 (fun x => w.heap.size ≤ x ∧ x < x3.heap.size) T (a1, b1, .slice A1 k1 c1)) := Lib.hid ((((HS1.out T hT).grown HG2.out).grown HG3.out).keep (fun _ _ _ => rfl) (fun b hb hl => ⟨hb, hl⟩) _ _)
    have HSU : Hid (SN x3 (fun x => w.heap.size ≤ x ∧ x < x3.heap.size) U (a2, b2, .slice A2 k2 c2)) := Lib.hid (((HS2.out U hU).grown HG3.out).keep (fun _ _ _ => rfl) (fun b hb hl => ⟨by have := HG1.out.size; omega, hl⟩) _ _)
    have HCALL := Lib.hid (srep_any T.size T U a1 b1 b3 a2 b2 A1 A2 k1 c1 k2 c2 (fun x => w.heap.size ≤ x ∧ x < x3.heap.size) x3 (Nat.le_refl _) (by omega) hT4.2.2.1 hU4.2.2.1 hb3 (by omega) (fun x hx => hx.2) HST.out HSU.out)
    have HOKR := Lib.hid (Tm.rep_ok T b3 U hU4.2.2.1 hT4.2.2.1)
    have HLEN := Lib.hid (Tm.rep_len T b3 U (by omega))
    have hl6 : (T.rep b3 U).txt.length ≤ 1000000 := by have := HLEN.out; omega
    have HL6 := Lib.hid hl6
    obtain ⟨good, hgood⟩ : ∃ b, (!T.binds b3 U) = b := ⟨_, rfl⟩
    rw [hgood] at HCALL
    have HGOOD := Lib.hid hgood
    have HREP : Hid (res = if T.binds b3 U = true ∨ 80 < (T.rep b3 U).txt.length then none else some (bytesOf (T.rep b3 U).txt)) := Lib.hid (by rw [← HRES.out]; unfold replA; rw [hT, hU, HV.out])
    obtain ⟨Z, hZ⟩ : ∃ Z, bytesOf (T.rep b3 U).txt = Z := ⟨_, rfl⟩
    have HZ := Lib.hid hZ
    have hzs : Z.size = (T.rep b3 U).txt.length := by rw [← hZ]; exact bytesOf_size _
    have HZS := Lib.hid hzs
    have q1 := C3'.out.c1
    have p0 := (C1.out.grown (HG2.out.trans HG3.out) (by simp)).c0
    have p1 := (C1.out.grown (HG2.out.trans HG3.out) (by simp)).c1
    have p2 := (C1.out.grown (HG2.out.trans HG3.out) (by simp)).c2
    have r0 := (C2.out.grown HG3.out (by simp)).c0
    have r1 := (C2.out.grown HG3.out (by simp)).c1
    have r2 := (C2.out.grown HG3.out (by simp)).c2
    clear hT hU hT4 hU4 hTl hUl hgood hZ hT3 hl6
    go_wp2_with fail
    refine HCALL.out.mono ?_
    rintro e w4 ⟨a4, b4, A4, k4, c4, rfl, hg4, hs4⟩
    obtain ⟨x4, hx4⟩ : ∃ x, w4.alloc (.cells #[.int .u8 a4, .int .u8 b4, .slice A4 k4 c4] TN) = x := ⟨_, rfl⟩
    obtain ⟨n4, hn4⟩ : ∃ x, w4.heap.size = x := ⟨_, rfl⟩
    have gx4 : w4.grownBy x4 none := by rw [← hx4]; exact World.grownBy_alloc _ _ _
    have C4 := Lib.hid (show C3 x4 n4 (.int .u8 a4) (.int .u8 b4) (.slice A4 k4 c4) TN by rw [← hx4, ← hn4]; exact c3_new _ _ _ _ _)
    have HG4 := Lib.hid (HG.out.trans (hg4.trans gx4))
    have HTX := Lib.hid (stxt_any (T.rep b3 U) _ a4 b4 A4 k4 c4 x4 HOKR.out HL6.out (hs4.grown gx4))
    unfold STxtPost at HTX
    rw [HZ.out] at HTX
    clear hg4 hs4 gx4 p0 p1 p2 r0 r1 r2 q0 q1
    have p0 := C4.out.c0
    have p1 := C4.out.c1
    have p2 := C4.out.c2
    go_wp2_with fail
    refine HTX.out.mono ?_
    rintro e w5 ⟨rfl, hg5⟩
    have HG5 := Lib.hid (HG4.out.trans hg5)
    clear hg5 p0 p1 p2
    cases good
    · have HR : Hid (res = none) := Lib.hid (by
        rw [HREP.out, if_pos (.inl (by have := HGOOD.out; simpa using this))])
      go_wp2_with fail
      go_ret2
      rw [HR.out]
      exact ⟨rfl, HG5.out⟩
    · have hb : T.binds b3 U = false := by have := HGOOD.out; simpa using this
      have HB := Lib.hid hb
      clear hb
      by_cases h80 : 80 < Z.size
      · have HR : Hid (res = none) := Lib.hid (by rw [HREP.out, if_pos (.inr (by rw [← HZS.out]; exact h80))])
        go_wp2_with fail
        go_ret2
        rw [HR.out]
        exact ⟨rfl, HG5.out⟩
      · have HR : Hid (res = some Z) := Lib.hid (by
          rw [HREP.out, HZ.out, if_neg (by rw [HB.out, ← HZS.out]; simp; omega)])
        go_wp2_with fail
        go_ret2
        rw [HR.out]
        exact ⟨rfl, HG5.out⟩
  · have HR : Hid (res = none) := Lib.hid (by rw [← HRES.out]; exact repA_n3 (by rw [HV.out, if_neg h97]))
    have hne : (a3 != 97) = true := by simp [h97]
    go_wp2_with fail
    go_ret2
    rw [HR.out]
    exact ⟨rfl, HG.out⟩
end
end

section
open Go.RowKit

/-- Does one of the first j letters of F say x? -/
def anyTo (F x : ByteArray) (j : Nat) : Bool := (List.range j).any fun i => (F.extract i (i + 1)).toList == x.toList
theorem anyTo_step (F x : ByteArray) (j : Nat) : anyTo F x (j + 1) = (anyTo F x j || ((F.extract j (j + 1)).toList == x.toList)) := by
  unfold anyTo
  rw [List.range_succ, List.any_append]
  simp
theorem ext_at {F : ByteArray} {i : Nat} {b : UInt8} (h : F.data.toList[i]? = some b) : (F.extract i (i + 1)).toList = [b] := by
  rw [Lib.toList_data]
  have h1 : (F.extract i (i + 1)).data.toList = (F.data.toList.drop i).take 1 := by simp [ByteArray.data_extract]
  rw [h1, ← List.head?_drop] at *
  cases hd : F.data.toList.drop i with
  | nil => rw [hd] at h; cases h
  | cons a l => rw [hd] at h; simp at h; subst h; rfl
theorem anyTo_mem {F x : ByteArray} {b : UInt8} (hx : x.toList = [b]) : anyTo F x F.size = true ↔ b ∈ F.data.toList := by
  unfold anyTo
  rw [List.any_eq_true]
  constructor
  · rintro ⟨i, hi, he⟩
    have hlt : i < F.data.toList.length := by rw [Array.length_toList]; exact List.mem_range.1 hi
    rw [ext_at (List.getElem?_eq_getElem hlt), hx] at he
    have : F.data.toList[i] = b := by simpa using he
    rw [← this]
    exact List.getElem_mem _
  · intro hb
    obtain ⟨i, hi⟩ := List.getElem?_of_mem hb
    have hlt := (List.getElem?_eq_some_iff.1 hi).1
    refine ⟨i, List.mem_range.2 (by rw [Array.length_toList] at hlt; exact hlt), ?_⟩
    rw [ext_at hi, hx]
    simp
theorem one_toList (c : Int) : (one c).toList = [byt c] := by rw [Lib.toList_data, one_data]
theorem frTo_list (T : Tm) : (frTo T 7).data.toList = (vars7.filter fun c => T.free c).map byt := rfl
theorem vars7_bd {c : Int} (h : c ∈ vars7) : 0 ≤ c ∧ c ≤ 255 := by
  simp only [vars7, List.mem_cons, List.not_mem_nil, or_false] at h
  omega
theorem byt_inj {c d : Int} (hc : 0 ≤ c ∧ c ≤ 255) (hd : 0 ≤ d ∧ d ≤ 255) (h : byt c = byt d) : c = d := by
  rw [← byt_back hc.1 hc.2, h, byt_back hd.1 hd.2]
theorem free_mem {T : Tm} (ho : T.Ok) {c : Int} (hc : 0 ≤ c ∧ c ≤ 255) : byt c ∈ (frTo T 7).data.toList ↔ T.free c = true := by
  rw [frTo_list]
  constructor
  · intro h
    obtain ⟨d, hd, he⟩ := List.mem_map.1 h
    obtain ⟨h1, h2⟩ := List.mem_filter.1 hd
    rw [byt_inj (vars7_bd h1) hc he] at h2
    exact h2
  · intro h
    exact List.mem_map.2 ⟨c, List.mem_filter.2 ⟨isV_seven (freeV_isV T c ho h), h⟩, rfl⟩
/-- The letter at a place. -/
theorem free_nth {T : Tm} {i : Nat} (hi : i < (frTo T 7).size) : ∃ d, 0 ≤ d ∧ d ≤ 255 ∧ T.free d = true ∧ ((frTo T 7).extract i (i + 1)).toList = [byt d] := by
  have hlt : i < (frTo T 7).data.toList.length := by rw [Array.length_toList]; exact hi
  obtain ⟨b, hb⟩ : ∃ b, (frTo T 7).data.toList[i]? = some b := ⟨_, List.getElem?_eq_getElem hlt⟩
  have hm := List.mem_of_getElem? hb
  rw [frTo_list] at hm
  obtain ⟨d, hd, he⟩ := List.mem_map.1 hm
  obtain ⟨h1, h2⟩ := List.mem_filter.1 hd
  have := vars7_bd h1
  exact ⟨d, this.1, this.2, h2, by rw [ext_at hb, he]⟩

/-- What a replacement that is made says. -/
theorem repl_some {t v u S : ByteArray} (h : replA t v u = some S) : ∃ T U c, readT t = some T ∧ readT u = some U ∧ vch v = some c ∧ v = one c ∧ 0 ≤ c ∧ c ≤ 255 ∧ T.binds c U = false ∧ S = bytesOf (T.rep c U).txt ∧ readT S = some (T.rep c U) := by
  unfold replA at h
  cases hT : readT t with
  | none => rw [hT] at h; cases h
  | some T =>
    cases hU : readT u with
    | none => rw [hT, hU] at h; cases h
    | some U =>
      cases hc : vch v with
      | none => rw [hT, hU, hc] at h; cases h
      | some c =>
        rw [hT, hU, hc] at h
        simp only at h
        split at h
        · cases h
        · rename_i hn
          cases h
          have hv := vch_some hc
          have hge := isV_ge hv.2.1
          have hvo : v = one c := by
            apply ByteArray.ext
            apply Array.toList_inj.1
            rw [one_list hv.2.2.1, one_data, hv.2.2.2]
          refine ⟨T, U, c, rfl, rfl, rfl, hvo, by omega, by omega, ?_, rfl, ?_⟩
          · cases hb : T.binds c U with
            | false => rfl
            | true => exact absurd (.inl hb) hn
          · exact readT_back (Tm.rep_ok T c U (readT_some hU).2.2.1 (readT_some hT).2.2.1) rfl (by rw [bytesOf_size]; omega)
theorem ptextM {t : ByteArray} {T : Tm} (h : readT t = some T) : t = bytesOf T.txt := by
  apply ByteArray.ext
  apply Array.toList_inj.1
  rw [readT_txt h]
  rfl
theorem repl_self {t v : ByteArray} {T : Tm} {c : Int} (hT : readT t = some T) (hc : vch v = some c) : replA t v v = some t := by
  have hl := readT_len hT
  have h80 := (readT_some hT).1
  unfold replA
  rw [hT, (vch_some hc).1, hc]
  simp only [(Tm.rep_self T c).1, (Tm.rep_self T c).2]
  rw [if_neg (by simp; omega)]
  congr 1
  exact (ptextM hT).symm
theorem repl_idle {T U : Tm} {c : Int} (h : T.free c = false) : T.rep c U = T := (T.rep_id c U h).1
end

section
section
open Go.RowKit

theorem sum_upd (f f' : Nat → Nat) (i c : Nat) (hi : f' i = f i + c) (hne : ∀ j, j ≠ i → f' j = f j) : ∀ n, ((List.range n).map f').sum = ((List.range n).map f).sum + if i < n then c else 0
  | 0 => by simp
  | n + 1 => by
    have ih := sum_upd f f' i c hi hne n
    rw [List.range_succ, List.map_append, List.map_append, List.sum_append, List.sum_append, ih]
    simp only [List.map_cons, List.map_nil, List.sum_cons, List.sum_nil]
    by_cases h : n = i
    · subst h
      rw [hi]
      have h1 : ¬ n < n := by omega
      have h2 : n < n + 1 := by omega
      rw [if_neg h1, if_pos h2]; omega
    · rw [hne n h]
      by_cases h3 : i < n
      · have h4 : i < n + 1 := by omega
        rw [if_pos h3, if_pos h4]; omega
      · have h4 : ¬ i < n + 1 := by omega
        rw [if_neg h3, if_neg h4]; omega
theorem sum_le (f g : Nat → Nat) (h : ∀ j, f j ≤ g j) : ∀ n, ((List.range n).map f).sum ≤ ((List.range n).map g).sum
  | 0 => by simp
  | n + 1 => by
    have ih := sum_le f g h n
    rw [List.range_succ, List.map_append, List.map_append, List.sum_append, List.sum_append]
    simp only [List.map_cons, List.map_nil, List.sum_cons, List.sum_nil]
    have := h n
    omega

/-- What the listed operations spent. -/
def spent (cost : Nat → Nat) (listed : Array Bool) : Nat := ((List.range listed.size).map fun i => if listed.getD i false = true then cost i else 0).sum
def spentAll (cost : Nat → Nat) (n : Nat) : Nat := ((List.range n).map cost).sum
theorem spent_none (cost : Nat → Nat) (n : Nat) : spent cost (Array.replicate n false) = 0 := by
  unfold spent
  have : ∀ m, ((List.range m).map fun i => if (Array.replicate n false).getD i false = true then cost i else 0).sum = 0 := by
    intro m
    induction m with
    | zero => simp
    | succ m ih =>
      rw [List.range_succ, List.map_append, List.sum_append, ih]
      simp [Array.getD_eq_getD_getElem?, Array.getElem?_replicate]
      intro h1
      split at h1 <;> simp at h1
  exact this _
theorem spent_set {cost : Nat → Nat} {listed : Array Bool} {i : Nat} (hi : i < listed.size) (h : listed.getD i true = false) : spent cost (listed.setIfInBounds i true) = spent cost listed + cost i := by
  unfold spent
  rw [Array.size_setIfInBounds]
  have h0 : listed.getD i false = false := by
    simp only [Array.getD_eq_getD_getElem?, Array.getElem?_eq_getElem hi, Option.getD_some] at h ⊢
    exact h
  have := sum_upd (fun i => if listed.getD i false = true then cost i else 0) (fun j => if (listed.setIfInBounds i true).getD j false = true then cost j else 0) i (cost i)
    (by simp [h0, Array.getD_eq_getD_getElem?, hi]) (fun j hj => by
      have hj' : ¬ i = j := fun e => hj e.symm
      simp [Array.getD_eq_getD_getElem?, hj']) listed.size
  rw [this, if_pos hi]
theorem spent_le (cost : Nat → Nat) (listed : Array Bool) : spent cost listed ≤ spentAll cost listed.size := by
  unfold spent spentAll
  refine sum_le _ _ (fun j => ?_) _
  split <;> omega

section
variable {P : Program} {ops : Array Oper} {Q : Exit → Act → World → Prop} {md : Region.Mode}

structure JInv (ops : Array Oper) (B : Array Value) (u : World) (G : World → World → Prop) (R : Nat → Value → World → Prop) (cost : Nat → Nat) (J : Nat → World → Prop) (listed : Array Bool) (a : Act) (w : World) : Prop where
  ls : listed.size = ops.size
  size : a.tmps.size = B.size
  defs : a.defers = []
  gr : G u w
  far : ∀ k, (∀ (i : Nat) (o : Oper), ops[i]? = some o → o.dst ≠ some k) → a.tmps.getD k undef = B.getD k undef
  done : ∀ (i : Nat) (o : Oper) (d : Nat), ops[i]? = some o → o.dst = some d → listed.getD i true = true → R i (a.tmps.getD d undef) w
  kept : J (spent cost listed) w

/-- One operation's step. -/
def StepJ (P : Program) (Q : Exit → Act → World → Prop) (ops : Array Oper) (B : Array Value) (u : World) (G : World → World → Prop) (R : Nat → Value → World → Prop) (cost : Nat → Nat) (J : Nat → World → Prop) (i : Nat) (o : Oper) : Prop :=
  ∀ a w k, a.defers = [] → G u w → (∀ k, slotFree ops k = true → a.tmps.getD k undef = B.getD k undef) →
    (∀ (j : Nat) (p : Oper) (d : Nat), depB o j = true → ops[j]? = some p → p.dst = some d → R j (a.tmps.getD d undef) w) → J k w → k + cost i ≤ spentAll cost ops.size →
    o.wp P a w (fun a' w' => ∃ v, a' = a.put o.dst v ∧ G w w' ∧ R i v w' ∧ J (k + cost i) w') Q

theorem wp_region_jsteps {id : Nat} {B : Array Value} {u : World} (n : Nat) (hB : B.size = n) (hok : regOkB n ops = true) (G : World → World → Prop) (R : Nat → Value → World → Prop) (cost : Nat → Nat) (J : Nat → World → Prop) (hm : P.follows .mixedOrders = true)
    (htr : ∀ w1 w2 w3, G w1 w2 → G w2 w3 → G w1 w3)
    (hmono : ∀ i v w w', R i v w → G w w' → R i v w')
    (hend : ∀ a w, a.defers = [] → G u w → (∀ k, slotFree ops k = true → a.tmps.getD k undef = B.getD k undef) → (∀ (i : Nat) (o : Oper) (d : Nat), ops[i]? = some o → o.dst = some d → R i (a.tmps.getD d undef) w) → (∃ k, k ≤ spentAll cost ops.size ∧ J k w) → Q .normal a w)
    (hstep : AllFrom (StepJ P Q ops B u G R cost J) 0 ops.toList)
    (w : World) (hu : G u { w with drawn := w.drawn + 1 }) (hj : J 0 { w with drawn := w.drawn + 1 }) : (Code.region id ops true).wp P Q { tmps := B, defers := [] } w := by
  unfold regOkB at hok
  rw [Bool.and_eq_true, Array.all_eq_true', List.all_eq_true] at hok
  obtain ⟨h1, h2⟩ := hok
  have hmemo : ∀ (i : Nat) (o : Oper), ops[i]? = some o → o ∈ ops := fun i o ho => Array.mem_of_getElem? ho
  have h2' : ∀ (i : Nat) (o : Oper), ops[i]? = some o → (o.after.all (fun e => decide (e.on < i)) = true) ∧ ∀ (j : Nat) (p : Oper), ops[j]? = some p → p.dst = o.dst → j = i := by
    intro i o ho
    have := h2 i (List.mem_range.2 (Array.getElem?_eq_some_iff.1 ho).1)
    simp only [ho, Bool.and_eq_true, List.all_eq_true] at this
    refine ⟨this.1, fun j p hp hd => ?_⟩
    have := this.2 j (List.mem_range.2 (Array.getElem?_eq_some_iff.1 hp).1)
    simp only [hp, Bool.or_eq_true, bne_iff_ne, ne_eq, beq_iff_eq] at this
    rcases this with h | h
    · exact absurd hd h
    · exact h.symm
  have hfree : ∀ k, slotFree ops k = true → ∀ (i : Nat) (o : Oper), ops[i]? = some o → o.dst ≠ some k := by
    intro k hk i o ho
    unfold slotFree at hk
    rw [Array.all_eq_true'] at hk
    have := hk o (hmemo i o ho)
    simpa using this
  have hac : ∀ (i : Nat) (o : Oper), ops[i]? = some o → ∀ e ∈ o.after, e.on < i := by
    intro i o ho e he
    have := (h2' i o ho).1
    rw [Array.all_eq_true'] at this
    simpa using this e he
  have hg : ∀ (i : Nat) (o : Oper), ops[i]? = some o → o.guard = none := by
    intro i o ho
    have := h1 o (hmemo i o ho)
    simp only [Bool.and_eq_true, Option.isNone_iff_eq_none] at this
    exact this.1
  have hdst : ∀ (i : Nat) (o : Oper), ops[i]? = some o → ∃ d, o.dst = some d ∧ d < B.size ∧ ∀ (j : Nat) (p : Oper), ops[j]? = some p → p.dst = some d → j = i := by
    intro i o ho
    have := h1 o (hmemo i o ho)
    simp only [Bool.and_eq_true] at this
    cases hd : o.dst with
    | none => rw [hd] at this; simp at this
    | some d =>
      rw [hd] at this
      refine ⟨d, rfl, by rw [hB]; simpa using this.2, fun j p hp hpd => (h2' i o ho).2 j p hp (by rw [hpd, hd])⟩
  refine wp_region_any hm (wpAny_inv (JInv ops B u G R cost J) (fun _ _ _ h => h.ls) hac ?_ ?_ _ _ _ _ ?_ ?_)
  · intro listed a w hI hall
    refine hend a w hI.defs hI.gr (fun k hk => hI.far k (hfree k hk)) (fun i o d ho hd => hI.done i o d ho hd (hall i (Array.getElem?_eq_some_iff.1 ho).1)) ⟨_, ?_, hI.kept⟩
    have := spent_le cost listed
    rw [hI.ls] at this
    exact this
  · intro i o listed a w ho hI hl hd
    unfold wpOp
    rw [ho]
    have hw : Region.wanted o (yielded ops a.tmps) = true := by simp [Region.wanted, hg i o ho]
    simp only [hw, if_true]
    left
    have hil : i < listed.size := by rw [hI.ls]; exact (Array.getElem?_eq_some_iff.1 ho).1
    have hsp := spent_set (cost := cost) hil hl
    have hS := allFrom_at hstep (i := i) (o := o) (by simpa using ho)
    rw [Nat.zero_add] at hS
    have hs := hS a w (spent cost listed) hI.defs hI.gr (fun k hk => hI.far k (hfree k hk)) (fun j p d hj hp hpd => hI.done j p d hp hpd (by
      unfold depB at hj
      rw [Array.any_eq_true'] at hj
      obtain ⟨e, he, hb⟩ := hj
      simp only [Bool.and_eq_true, beq_iff_eq] at hb
      have := hd e he hb.1
      rw [hb.2] at this
      have hjl : j < listed.size := by rw [hI.ls]; exact (Array.getElem?_eq_some_iff.1 hp).1
      simp only [Array.getD_eq_getD_getElem?, Array.getElem?_eq_getElem hjl, Option.getD_some] at this ⊢
      exact this)) hI.kept (by
        have := spent_le cost (listed.setIfInBounds i true)
        rw [hsp, Array.size_setIfInBounds, hI.ls] at this
        exact this)
    refine Oper.wp_mono ?_ hs
    rintro a' w' ⟨v, rfl, hgr, hR, hJ⟩
    obtain ⟨d, hod, hdB, huniq⟩ := hdst i o ho
    have hput : a.put o.dst v = { a with tmps := a.tmps.setIfInBounds d v } := by rw [hod]; rfl
    rw [hput]
    refine ⟨by simp [hI.ls], by simp [hI.size], hI.defs, htr _ _ _ hI.gr hgr, fun k hk => ?_, fun j p e hp hpe hlj => ?_, by rw [hsp]; exact hJ⟩
    · rw [← hI.far k hk]
      have : d ≠ k := fun e => hk i o ho (by rw [hod, e])
      simp [Array.getD_eq_getD_getElem?, this]
    · by_cases hji : j = i
      · subst hji
        rw [ho] at hp; cases hp
        rw [hod] at hpe; cases hpe
        have : (a.tmps.setIfInBounds d v).getD d undef = v := by simp [Array.getD_eq_getD_getElem?, hI.size, hdB]
        rw [this]; exact hR
      · have hde : d ≠ e := fun h => hji (huniq j p hp (by rw [hpe, h]))
        have : (a.tmps.setIfInBounds d v).getD e undef = a.tmps.getD e undef := by simp [Array.getD_eq_getD_getElem?, hde]
        rw [this]
        refine hmono _ _ _ _ (hI.done j p e hp hpe ?_) hgr
        have hji' : ¬ i = j := fun h => hji h.symm
        simpa [Array.getD_eq_getD_getElem?, hji'] using hlj
  · exact ⟨by simp, rfl, rfl, hu, fun _ _ => rfl, fun i o d ho _ hl => by
      have hi := (Array.getElem?_eq_some_iff.1 ho).1
      simp [Array.getD_eq_getD_getElem?, hi] at hl, by rw [spent_none]; exact hj⟩
  · unfold unl
    refine Nat.le_trans (List.countP_le_length) ?_
    simp
end
end

section
open Go.RowKit

theorem Strs.grownG {w w' : World} {A : Option Addr} {ss : List ByteArray} {row : Option Nat} (h : Strs w A ss) (hg : w.grownBy w' row) (hne : ∀ b off, A = some ⟨b, off, none⟩ → some b ≠ row) : Strs w' A ss := fun hl => by
  obtain ⟨b, off, rfl, hb, hc⟩ := h hl
  exact ⟨b, off, rfl, Nat.lt_of_lt_of_le hb hg.size, fun j s hj => hg.cell (hc j s hj) (hne b off rfl)⟩

/-- How 'of' ends: one of the texts. -/
def OfPost (g : Nat) (A : Option Addr) (n c p : Nat) (ss : List ByteArray) (w : World) (e : Ending) (w' : World) : Prop := ∃ s, e = .returned (.string s) ∧ s ∈ ss ∧ Rd13 w' g A n c (p + 1) ∧ w.grownBy w' (some g)

set_option maxHeartbeats 1000000 in
theorem oftxt_any (g n c p : Nat) (A B : Option Addr) (d : Nat) (ss : List ByteArray) (w : World) (h : Rd13 w g A n c p) (hB : Strs w B ss) (hBg : ∀ b off, B = some ⟨b, off, none⟩ → b ≠ g) (hp : p ≤ 1000000) (hn2 : n ≤ 2000) (hl : 0 < ss.length) (hl2 : ss.length ≤ 1000) :
    Calls Try.prog 93 #[.pointer (some ⟨g, 0, none⟩), .slice B ss.length d] w (OfPost g A n c p ss w) := by
  have HP := Lib.hid (pick_any g n c p A ss.length w h hp hn2 (by omega) (by omega))
  have HB := Lib.hid hB
  have HBG := Lib.hid hBg
  obtain ⟨k, hk⟩ : ∃ k, ss.length = k := ⟨_, rfl⟩
  have HK := Lib.hid hk
  rw [hk] at HP ⊢
  have hk0 : 0 < k := by omega
  clear h hB hBg hk hl hl2
  go_enter Try.func93, Try.ntmps93
  go_wp2_with fail
  refine HP.out.mono ?_
  rintro e w1 ⟨x, rfl, hx0, hx1, hr, hg⟩
  obtain ⟨i, rfl⟩ : ∃ i : Nat, x = (i : Int) := ⟨x.toNat, by omega⟩
  have hik : i < k := by omega
  obtain ⟨b, off, rfl, _, hc⟩ := (HB.out.grownG hg (fun b off e => by have := HBG.out b off e; simpa using this)) (by have := HK.out; omega)
  obtain ⟨z, hz⟩ : ∃ z, ss[i]? = some z := ⟨_, List.getElem?_eq_getElem (by have := HK.out; omega)⟩
  have hcell := hc i z hz
  have HR := Lib.hid hr
  have HG := Lib.hid hg
  have HZ := Lib.hid (List.mem_of_getElem? hz)
  clear hc hz hr hg
  go_wp2_with fail
  go_ret
  exact ⟨z, rfl, HZ.out, HR.out, HG.out⟩

set_option maxHeartbeats 1000000 in
theorem unbind_any (z v : ByteArray) (w : World) (hz : z.size ≤ 1000) :
    Calls Try.prog 189 #[.string z, .string v] w fun e w' => ∃ s, e = .returned (.string s) ∧ s.size ≤ z.size ∧ w' = w := by
  obtain ⟨k, hk⟩ : ∃ k, z.size = k := ⟨_, rfl⟩
  have HK := Lib.hid hk
  rw [hk] at hz ⊢
  go_enter Try.func189, Try.ntmps189
  go_wp2_with fail
  go_loopw [5, 9] (fun q i wr => ∃ (j : Nat) (s : ByteArray), j ≤ k ∧ i = .int .i64 j ∧ q = .string s ∧ s.size ≤ j ∧ wr = w) (fun _ i _ => k - (intOf i).toNat)
  case atStart => exact ⟨0, ⟨#[]⟩, Nat.zero_le _, rfl, rfl, Nat.le_refl _, rfl⟩
  case round =>
    obtain ⟨j, s, hj, rfl, rfl, hs, rfl⟩ := hrel
    by_cases hlt : j < k
    · go_wp2_with fail
      · refine ⟨⟨j + 1, s ++ z.extract j (j + 1), by omega, by go_num, rfl, ?_, trivial⟩, by simp [intOf]; omega⟩
        have := HK.out
        simp [ByteArray.size_append, ByteArray.size_extract]
        omega
      · exact ⟨⟨j + 1, s, by omega, by go_num, rfl, by omega, trivial⟩, by simp [intOf]; omega⟩
    · go_wp2_with fail
      go_ret
      exact ⟨s, rfl, by omega, rfl⟩

theorem bind_any (z v : ByteArray) (w : World) (hz : z.size ≤ 1000) (hv : v.size = 1) :
    Calls Try.prog 188 #[.string z, .string v] w fun e w' => ∃ s, e = .returned (.string s) ∧ s.size ≤ z.size + 1 ∧ w' = w := by
  have HU := Lib.hid (fun w => unbind_any z v w hz)
  obtain ⟨k, hk⟩ : ∃ k, z.size = k := ⟨_, rfl⟩
  rw [hk] at HU hz ⊢
  have HV := Lib.hid hv
  clear hv
  go_enter Try.func188, Try.ntmps188
  go_wp2_with fail
  refine (HU.out _).mono ?_
  rintro e w1 ⟨s, rfl, hs, rfl⟩
  have hsz : ¬ 9223372036854775807 < s.size + v.size := by have := HV.out; omega
  go_wp2_with fail
  go_ret
  exact ⟨_, rfl, by rw [ByteArray.size_append, HV.out]; omega, rfl⟩

set_option maxRecDepth 100000 in
set_option maxHeartbeats 1000000 in
theorem dec_any (x : Int) (w : World) (h0 : 0 ≤ x) (h1 : x ≤ 9) :
    Calls Try.prog 187 #[.int .i64 x] w fun e w' => ∃ s, e = .returned (.string s) ∧ s.size = 1 ∧ w.grownBy w' none := by
  have h2 : ¬ x < -9223372036854775807 := by omega
  have h3 : ¬ x < 0 := by omega
  have h4 : ¬ 9 < x := by omega
  have e1 : IntKind.u8.wrap (48 + x) = 48 + x := IntWalk.u8_in _ (by omega)
  have hcv := conv_byte w (48 + x) w.heap.size rfl
  go_enter Try.func187, Try.ntmps187
  go_wp2_with fail
  go_loopw [0, 3] (fun q i wr => q = .int .i64 x ∧ i = .string ⟨#[]⟩ ∧ wr = w) (fun _ _ _ => 0)
  case atStart => exact ⟨rfl, rfl, rfl⟩
  case round =>
    obtain ⟨rfl, rfl, rfl⟩ := hrel
    go_wp2_with fail
    go_ret
    refine ⟨_, rfl, ?_, World.grownBy_alloc _ _ _⟩
    rw [ByteArray.size_append, one_size]
    rfl
end

section
open Go.RowKit

/-- How a draw of a text ends: of at most so many bytes, and so many steps of the source further on. -/
def DrP (g n c p K L : Nat) (A : Option Addr) (w : World) (e : Ending) (w' : World) : Prop := ∃ s p', e = .returned (.string s) ∧ 1 ≤ s.size ∧ s.size ≤ L ∧ p ≤ p' ∧ p' ≤ p + K ∧ Rd13 w' g A n c p' ∧ w.grownBy w' (some g)

theorem gr_someG {w w' : World} {g : Nat} (h : w.grownBy w' none) : w.grownBy w' (some g) := ⟨h.os, h.tape, h.output, h.size, fun k hk _ => h.block k hk (by simp)⟩
theorem gr_selfG (w : World) (g : Nat) : w.grownBy w (some g) := gr_refl _ _
theorem ext_one (z : ByteArray) (k : Nat) (h : k < z.size) : (z.extract k (k + 1)).size = 1 := by simp [ByteArray.size_extract]; omega

set_option maxRecDepth 100000 in
set_option maxHeartbeats 4000000 in
theorem draw_zero0 (g n c p : Nat) (A : Option Addr) (f : Int) (z o : ByteArray) (w : World) (h : Rd13 w g A n c p) (hf : f ≤ 0) (hp : p ≤ 900000) (hn2 : n ≤ 2000) (hz : z.size ≤ 100) :
    Calls Try.prog 145 #[.pointer (some ⟨g, 0, none⟩), .int .i64 0, .int .i64 f, .string z, .string o] w (DrP g n c p 2 1 A w) := by
  have H := Lib.hid h
  obtain ⟨k, hk⟩ : ∃ k, z.size = k := ⟨_, rfl⟩
  have HK := Lib.hid hk
  rw [hk] at hz
  obtain ⟨zb, hzb⟩ : ∃ b, z.toList.isEmpty = b := ⟨_, rfl⟩
  clear h
  cases zb
  · have hk0 : 0 < k := by
      rcases Nat.eq_zero_or_pos k with h0 | h0
      · exfalso
        have : z = ⟨#[]⟩ := ByteArray.ext (Array.eq_empty_of_size_eq_zero (by have := HK.out; rw [h0] at this; exact this))
        rw [this] at hzb
        have h9 : (⟨#[]⟩ : ByteArray).toList.isEmpty = true := by first | kernel_rfl | (unfold ByteArray.toList ByteArray.toList.loop; simp [ByteArray.size])
        rw [h9] at hzb
        cases hzb
      · exact h0
    have H3 := Lib.hid (pick_any g n c p A 3 w H.out (by omega) hn2 (by omega) (by omega))
    go_enter Try.func145, Try.ntmps145
    go_wp2_with fail
    refine H3.out.mono ?_
    rintro e w1 ⟨x, rfl, hx0, hx1, hr1, hg1⟩
    have HR1 := Lib.hid hr1
    have HG1 := Lib.hid hg1
    clear hr1 hg1
    by_cases hx : 0 < x
    · have HK1 := Lib.hid (pick_any g n c (p + 1) A k w1 HR1.out (by omega) hn2 (by omega) (by omega))
      go_wp2_with fail
      refine HK1.out.mono ?_
      rintro e w2 ⟨y, rfl, hy0, hy1, hr2, hg2⟩
      obtain ⟨i, rfl⟩ : ∃ i : Nat, y = (i : Int) := ⟨y.toNat, by omega⟩
      have hik : i < k := by omega
      have HR2 := Lib.hid hr2
      have HG2 := Lib.hid (HG1.out.trans hg2)
      have HS := Lib.hid (ext_one z i (by have := HK.out; omega))
      clear hr2 hg2
      go_wp2_with fail
      go_ret
      exact ⟨_, p + 2, rfl, by rw [HS.out]; omega, by rw [HS.out]; omega, by omega, by omega, HR2.out, HG2.out⟩
    · have H5 := Lib.hid (pick_any g n c (p + 1) A 5 w1 HR1.out (by omega) hn2 (by omega) (by omega))
      go_wp2_with fail
      refine H5.out.mono ?_
      rintro e w2 ⟨y, rfl, hy0, hy1, hr2, hg2⟩
      have HR2 := Lib.hid hr2
      have HG2 := Lib.hid (HG1.out.trans hg2)
      clear hr2 hg2
      go_wp2_with fail
      refine (dec_any y w2 (by omega) (by omega)).mono ?_
      rintro e w3 ⟨s, rfl, hs, hg3⟩
      have HG3 := Lib.hid hg3
      clear hg3
      go_wp2_with fail
      go_ret
      exact ⟨s, p + 2, rfl, by omega, by omega, by omega, by omega, HR2.out.grown HG3.out (by simp) (by simp), HG2.out.trans (gr_someG HG3.out)⟩
  · have H5 := Lib.hid (pick_any g n c p A 5 w H.out (by omega) hn2 (by omega) (by omega))
    go_enter Try.func145, Try.ntmps145
    go_wp2_with fail
    refine H5.out.mono ?_
    rintro e w1 ⟨x, rfl, hx0, hx1, hr1, hg1⟩
    have HR1 := Lib.hid hr1
    have HG1 := Lib.hid hg1
    clear hr1 hg1
    go_wp2_with fail
    refine (dec_any x w1 (by omega) (by omega)).mono ?_
    rintro e w2 ⟨s, rfl, hs, hg2⟩
    have HG2 := Lib.hid hg2
    clear hg2
    go_wp2_with fail
    go_ret
    exact ⟨s, p + 1, rfl, by omega, by omega, by omega, by omega, HR1.out.grown HG2.out (by simp) (by simp), HG1.out.trans (gr_someG HG2.out)⟩

set_option maxRecDepth 100000 in
set_option maxHeartbeats 4000000 in
theorem draw_zero1 (g n c p : Nat) (A : Option Addr) (f : Int) (z o : ByteArray) (w : World) (h : Rd13 w g A n c p) (hf : f ≤ 0) (hp : p ≤ 900000) (hn2 : n ≤ 2000) (hz : o.size ≤ 100) :
    Calls Try.prog 145 #[.pointer (some ⟨g, 0, none⟩), .int .i64 1, .int .i64 f, .string z, .string o] w (DrP g n c p 2 1 A w) := by
  have H := Lib.hid h
  obtain ⟨k, hk⟩ : ∃ k, o.size = k := ⟨_, rfl⟩
  have HK := Lib.hid hk
  rw [hk] at hz
  obtain ⟨zb, hzb⟩ : ∃ b, o.toList.isEmpty = b := ⟨_, rfl⟩
  clear h
  cases zb
  · have hk0 : 0 < k := by
      rcases Nat.eq_zero_or_pos k with h0 | h0
      · exfalso
        have : o = ⟨#[]⟩ := ByteArray.ext (Array.eq_empty_of_size_eq_zero (by have := HK.out; rw [h0] at this; exact this))
        rw [this] at hzb
        have h9 : (⟨#[]⟩ : ByteArray).toList.isEmpty = true := by first | kernel_rfl | (unfold ByteArray.toList ByteArray.toList.loop; simp [ByteArray.size])
        rw [h9] at hzb
        cases hzb
      · exact h0
    have H3 := Lib.hid (pick_any g n c p A 2 w H.out (by omega) hn2 (by omega) (by omega))
    go_enter Try.func145, Try.ntmps145
    go_wp2_with fail
    refine H3.out.mono ?_
    rintro e w1 ⟨x, rfl, hx0, hx1, hr1, hg1⟩
    have HR1 := Lib.hid hr1
    have HG1 := Lib.hid hg1
    clear hr1 hg1
    obtain ⟨xb, hxb⟩ : ∃ b, (x == 0) = b := ⟨_, rfl⟩
    cases xb
    · go_wp2_with fail
      go_ret
      exact ⟨_, p + 1, rfl, Nat.le_refl _, Nat.le_refl _, by omega, by omega, HR1.out, HG1.out⟩
    · have HK1 := Lib.hid (pick_any g n c (p + 1) A k w1 HR1.out (by omega) hn2 (by omega) (by omega))
      go_wp2_with fail
      refine HK1.out.mono ?_
      rintro e w2 ⟨y, rfl, hy0, hy1, hr2, hg2⟩
      obtain ⟨i, rfl⟩ : ∃ i : Nat, y = (i : Int) := ⟨y.toNat, by omega⟩
      have hik : i < k := by omega
      have HR2 := Lib.hid hr2
      have HG2 := Lib.hid (HG1.out.trans hg2)
      have HS := Lib.hid (ext_one o i (by have := HK.out; omega))
      clear hr2 hg2
      go_wp2_with fail
      go_ret
      exact ⟨_, p + 2, rfl, by rw [HS.out]; omega, by rw [HS.out]; omega, by omega, by omega, HR2.out, HG2.out⟩
  · go_enter Try.func145, Try.ntmps145
    go_wp2_with fail
    go_ret
    exact ⟨_, p, rfl, Nat.le_refl _, Nat.le_refl _, by omega, by omega, H.out, gr_selfG _ _⟩

set_option maxRecDepth 100000 in
set_option maxHeartbeats 4000000 in
theorem draw_zero2 (g n c p : Nat) (A : Option Addr) (f : Int) (z o : ByteArray) (w : World) (h : Rd13 w g A n c p) (hf : f ≤ 0) :
    Calls Try.prog 145 #[.pointer (some ⟨g, 0, none⟩), .int .i64 2, .int .i64 f, .string z, .string o] w (DrP g n c p 2 1 A w) := by
  have H := Lib.hid h
  clear h
  go_enter Try.func145, Try.ntmps145
  go_wp2_with fail
  go_ret
  exact ⟨_, p, rfl, Nat.le_refl _, Nat.le_refl _, by omega, by omega, H.out, gr_selfG _ _⟩

theorem draw_zero (g n c p : Nat) (A : Option Addr) (d f : Int) (z o : ByteArray) (w : World) (h : Rd13 w g A n c p) (hd : d = 0 ∨ d = 1 ∨ d = 2) (hf : f ≤ 0) (hp : p ≤ 900000) (hn2 : n ≤ 2000) (hz : z.size ≤ 100) (ho : o.size ≤ 100) :
    Calls Try.prog 145 #[.pointer (some ⟨g, 0, none⟩), .int .i64 d, .int .i64 f, .string z, .string o] w (DrP g n c p 2 1 A w) := by
  rcases hd with rfl | rfl | rfl
  · exact draw_zero0 g n c p A f z o w h hf hp hn2 hz
  · exact draw_zero1 g n c p A f z o w h hf hp hn2 ho
  · exact draw_zero2 g n c p A f z o w h hf
end

section
open Go.RowKit

/-- What a draw with less fuel does. -/
def DrH (m K L : Nat) (g n c : Nat) (A : Option Addr) : Prop := ∀ (d f : Int) (z o : ByteArray) (p : Nat) (w : World), (d = 0 ∨ d = 1 ∨ d = 2) → f ≤ m → z.size + m ≤ 50 → o.size + m ≤ 50 → p + K ≤ 800000 → Rd13 w g A n c p →
  Calls Try.prog 145 #[.pointer (some ⟨g, 0, none⟩), .int .i64 d, .int .i64 f, .string z, .string o] w (DrP g n c p K L A w)

theorem DrP.wide {g n c p p0 K L K' L' : Nat} {A : Option Addr} {w w0 : World} {e : Ending} {w' : World} (h : DrP g n c p K L A w e w') (h1 : p0 ≤ p) (h2 : p + K ≤ p0 + K') (h3 : L ≤ L') (hg : w0.grownBy w (some g)) : DrP g n c p0 K' L' A w0 e w' := by
  obtain ⟨s, p', he, a1, a2, a3, a4, hr, hgg⟩ := h
  exact ⟨s, p', he, a1, by omega, by omega, by omega, hr, hg.trans hgg⟩

theorem name_at (f : Int) (z o : Nat) (h0 : 0 < f) (h1 : f ≤ 60) (h2 : z ≤ 60) (h3 : o ≤ 60) : ∃ i : Nat, i < 5 ∧ (f + z + 2 * o).tmod 5 = (i : Int) := by
  refine ⟨((f + z + 2 * o) % 5).toNat, by omega, ?_⟩
  rw [Int.tmod_eq_emod_of_nonneg (by omega)]
  omega

theorem strs_new (w : World) (ss : List ByteArray) (ty : TypeId) : Strs (w.alloc (.cells (List.toArray (List.map Value.string ss)) ty)) (some ⟨w.heap.size, 0, none⟩) ss := fun _ =>
  ⟨_, _, rfl, by simp, fun j s hj => by
    have h1 := heap_alloc_new w (.cells (List.toArray (List.map Value.string ss)) ty)
    simp only [World.cell?, h1]
    simp [hj]⟩

set_option maxRecDepth 100000 in
set_option maxHeartbeats 16000000 in
theorem draw_up0 (m K L g n c p : Nat) (A : Option Addr) (f : Int) (z o : ByteArray) (w : World) (hI : DrH m K L g n c A) (h : Rd13 w g A n c p) (hf : 0 < f) (hfm : f ≤ m + 1) (hm : m ≤ 20) (hL : L ≤ 100000) (hK : K ≤ 100000) (hp : p + (2 * K + 2) ≤ 800000) (hn2 : n ≤ 2000)
    (hz : z.size + m < 50) (ho : o.size + m < 50) :
    Calls Try.prog 145 #[.pointer (some ⟨g, 0, none⟩), .int .i64 0, .int .i64 f, .string z, .string o] w (DrP g n c p (2 * K + 2) (2 * L + 5) A w) := by
  have H := Lib.hid h
  have HI := Lib.hid hI
  obtain ⟨i, hi5, hi⟩ := name_at f z.size o.size hf (by omega) (by omega) (by omega)
  obtain ⟨zs, hzs⟩ : ∃ k, z.size = k := ⟨_, rfl⟩
  obtain ⟨os, hos⟩ : ∃ k, o.size = k := ⟨_, rfl⟩
  have HZ := Lib.hid hzs
  have HO := Lib.hid hos
  rw [hzs, hos] at hi
  rw [hzs] at hz
  rw [hos] at ho
  have hf2 : ¬ f ≤ 0 := by omega
  have hi6 : ¬ ((i : Int) < 0) := by omega
  have hnm : ((⟨#[118, 119, 120, 121, 122]⟩ : ByteArray).extract i (i + 1)).size = 1 := by rw [ext_one]; show i < 5; exact hi5
  have H7 := Lib.hid (pick_any g n c p A 7 w H.out (by omega) hn2 (by omega) (by omega))
  clear h hI
  go_enter Try.func145, Try.ntmps145
  go_wp2_with fail
  refine H7.out.mono ?_
  rintro e w1 ⟨x, rfl, hx0, hx1, hr1, hg1⟩
  have HR1 := Lib.hid hr1
  have HG1 := Lib.hid hg1
  clear hr1 hg1
  by_cases h0 : x = 0
  · subst h0
    go_wp2_with fail
    refine (HI.out 1 (f - 1) z o (p + 1) w1 (by omega) (by omega) (by have := HZ.out; omega) (by have := HO.out; omega) (by omega) HR1.out).mono ?_
    rintro e w2 ⟨s2, p2, rfl, hs2, ht2, hp2, hq2, hr2, hg2⟩
    have HR2 := Lib.hid hr2
    have HG2 := Lib.hid (HG1.out.trans hg2)
    clear hr2 hg2
    go_wp2_with fail
    have c0 : (⟨#[83]⟩ : ByteArray).size = 1 := rfl
    go_ret
    exact ⟨_, p2, rfl, by (simp only [ByteArray.size_append]; omega), by (simp only [ByteArray.size_append]; omega), by omega, by omega, HR2.out, HG2.out⟩
  by_cases h1 : x = 1
  · subst h1
    go_wp2_with fail
    have HRA := Lib.hid (HR1.out.grown (World.grownBy_alloc w1 (.cells (List.toArray (List.map Value.string [⟨#[77]⟩, ⟨#[78]⟩])) 9) none) (by simp) (by simp))
    refine (oftxt_any g n c (p + 1) A _ 2 [⟨#[77]⟩, ⟨#[78]⟩] _ HRA.out (strs_new w1 [⟨#[77]⟩, ⟨#[78]⟩] _) (fun b off e => by cases e; have := HR1.out.lt; omega) (by omega) hn2 (by simp) (by simp)).mono ?_
    rintro e w2 ⟨s2, rfl, hm2, hr2, hg2⟩
    have hs2 : s2.size = 1 := by
      simp only [List.mem_cons, List.not_mem_nil, or_false] at hm2
      rcases hm2 with rfl | rfl <;> rfl
    have HR2 := Lib.hid hr2
    have HG2 := Lib.hid (HG1.out.trans ((gr_someG (World.grownBy_alloc w1 _ none)).trans hg2))
    clear hr2 hg2 hm2 HRA
    obtain ⟨p2, hp2⟩ : ∃ q, (p + 1) + 1 = q := ⟨_, rfl⟩
    rw [hp2] at HR2
    go_wp2_with fail
    refine (HI.out 1 (f - 1) z o p2 w2 (by omega) (by omega) (by have := HZ.out; omega) (by have := HO.out; omega) (by omega) HR2.out).mono ?_
    rintro e w3 ⟨s3, p3, rfl, hs3, ht3, hp3, hq3, hr3, hg3⟩
    have HR3 := Lib.hid hr3
    have HG3 := Lib.hid (HG2.out.trans hg3)
    clear hr3 hg3
    go_wp2_with fail
    go_ret
    exact ⟨_, p3, rfl, by (simp only [ByteArray.size_append]; omega), by (simp only [ByteArray.size_append]; omega), by omega, by omega, HR3.out, HG3.out⟩
  by_cases h2 : x = 2
  · subst h2
    go_wp2_with fail
    refine (HI.out 1 (f - 2) z o (p + 1) w1 (by omega) (by omega) (by have := HZ.out; omega) (by have := HO.out; omega) (by omega) HR1.out).mono ?_
    rintro e w2 ⟨s2, p2, rfl, hs2, ht2, hp2, hq2, hr2, hg2⟩
    have HR2 := Lib.hid hr2
    have HG2 := Lib.hid (HG1.out.trans hg2)
    clear hr2 hg2
    go_wp2_with fail
    refine (HI.out 0 (f - 2) z o p2 w2 (by omega) (by omega) (by have := HZ.out; omega) (by have := HO.out; omega) (by omega) HR2.out).mono ?_
    rintro e w3 ⟨s3, p3, rfl, hs3, ht3, hp3, hq3, hr3, hg3⟩
    have HR3 := Lib.hid hr3
    have HG3 := Lib.hid (HG2.out.trans hg3)
    clear hr3 hg3
    go_wp2_with fail
    have c0 : (⟨#[40]⟩ : ByteArray).size = 1 := rfl
    have c1 : (⟨#[41]⟩ : ByteArray).size = 1 := rfl
    have c2 : (⟨#[64]⟩ : ByteArray).size = 1 := rfl
    go_ret
    exact ⟨_, p3, rfl, by (simp only [ByteArray.size_append]; omega), by (simp only [ByteArray.size_append]; omega), by omega, by omega, HR3.out, HG3.out⟩
  by_cases h3 : x = 3
  · subst h3
    go_wp2_with fail
    refine (HI.out 0 0 z o (p + 1) w1 (by omega) (by omega) (by have := HZ.out; omega) (by have := HO.out; omega) (by omega) HR1.out).mono ?_
    rintro e w2 ⟨s2, p2, rfl, hs2, ht2, hp2, hq2, hr2, hg2⟩
    have HR2 := Lib.hid hr2
    have HG2 := Lib.hid (HG1.out.trans hg2)
    clear hr2 hg2
    go_wp2_with fail
    go_ret
    exact ⟨_, p2, rfl, by omega, by omega, by omega, by omega, HR2.out, HG2.out⟩
  have k0 : (x == 0) = false := by rw [beq_eq_false_iff_ne]; exact h0
  have k1 : (x == 1) = false := by rw [beq_eq_false_iff_ne]; exact h1
  have k2 : (x == 2) = false := by rw [beq_eq_false_iff_ne]; exact h2
  have k3 : (x == 3) = false := by rw [beq_eq_false_iff_ne]; exact h3
  go_wp2_with fail
  refine (HI.out 0 (f - 2) z o (p + 1) w1 (by omega) (by omega) (by have := HZ.out; omega) (by have := HO.out; omega) (by omega) HR1.out).mono ?_
  rintro e w2 ⟨s2, p2, rfl, hs2, ht2, hp2, hq2, hr2, hg2⟩
  have HR2 := Lib.hid hr2
  have HG2 := Lib.hid (HG1.out.trans hg2)
  clear hr2 hg2
  go_wp2_with fail
  have HRA := Lib.hid (HR2.out.grown (World.grownBy_alloc w2 (.cells (List.toArray (List.map Value.string [⟨#[43]⟩, ⟨#[42]⟩, ⟨#[94]⟩, ⟨#[45]⟩, ⟨#[61]⟩, ⟨#[60]⟩])) 9) none) (by simp) (by simp))
  refine (oftxt_any g n c p2 A _ 6 [⟨#[43]⟩, ⟨#[42]⟩, ⟨#[94]⟩, ⟨#[45]⟩, ⟨#[61]⟩, ⟨#[60]⟩] _ HRA.out (strs_new w2 [⟨#[43]⟩, ⟨#[42]⟩, ⟨#[94]⟩, ⟨#[45]⟩, ⟨#[61]⟩, ⟨#[60]⟩] _) (fun b off e => by cases e; have := HR2.out.lt; omega) (by omega) hn2 (by simp) (by simp)).mono ?_
  rintro e w3 ⟨s3, rfl, hm3, hr3, hg3⟩
  have hs3 : s3.size = 1 := by
    simp only [List.mem_cons, List.not_mem_nil, or_false] at hm3
    rcases hm3 with rfl | rfl | rfl | rfl | rfl | rfl <;> rfl
  have HR3 := Lib.hid hr3
  have HG3 := Lib.hid (HG2.out.trans ((gr_someG (World.grownBy_alloc w2 _ none)).trans hg3))
  clear hr3 hg3 hm3 HRA
  obtain ⟨p3, hp3⟩ : ∃ q, p2 + 1 = q := ⟨_, rfl⟩
  rw [hp3] at HR3
  go_wp2_with fail
  refine (HI.out 0 (f - 2) z o p3 w3 (by omega) (by omega) (by have := HZ.out; omega) (by have := HO.out; omega) (by omega) HR3.out).mono ?_
  rintro e w4 ⟨s4, p4, rfl, hs4, ht4, hp4, hq4, hr4, hg4⟩
  have HR4 := Lib.hid hr4
  have HG4 := Lib.hid (HG3.out.trans hg4)
  clear hr4 hg4
  go_wp2_with fail
  have c0 : (⟨#[40]⟩ : ByteArray).size = 1 := rfl
  have c1 : (⟨#[41]⟩ : ByteArray).size = 1 := rfl
  go_ret
  exact ⟨_, p4, rfl, by (simp only [ByteArray.size_append]; omega), by (simp only [ByteArray.size_append]; omega), by omega, by omega, HR4.out, HG4.out⟩
end

section
open Go.RowKit

set_option maxRecDepth 100000 in
set_option maxHeartbeats 16000000 in
theorem draw_up1 (m K L g n c p : Nat) (A : Option Addr) (f : Int) (z o : ByteArray) (w : World) (hI : DrH m K L g n c A) (h : Rd13 w g A n c p) (hf : 0 < f) (hfm : f ≤ m + 1) (hm : m ≤ 20) (hL : L ≤ 100000) (hK : K ≤ 100000) (hp : p + (2 * K + 2) ≤ 800000) (hn2 : n ≤ 2000)
    (hz : z.size + m < 50) (ho : o.size + m < 50) :
    Calls Try.prog 145 #[.pointer (some ⟨g, 0, none⟩), .int .i64 1, .int .i64 f, .string z, .string o] w (DrP g n c p (2 * K + 2) (2 * L + 5) A w) := by
  have H := Lib.hid h
  have HI := Lib.hid hI
  obtain ⟨i, hi5, hi⟩ := name_at f z.size o.size hf (by omega) (by omega) (by omega)
  obtain ⟨zs, hzs⟩ : ∃ k, z.size = k := ⟨_, rfl⟩
  obtain ⟨os, hos⟩ : ∃ k, o.size = k := ⟨_, rfl⟩
  have HZ := Lib.hid hzs
  have HO := Lib.hid hos
  rw [hzs, hos] at hi
  rw [hzs] at hz
  rw [hos] at ho
  have hf2 : ¬ f ≤ 0 := by omega
  have hi6 : ¬ ((i : Int) < 0) := by omega
  have hnm : ((⟨#[118, 119, 120, 121, 122]⟩ : ByteArray).extract i (i + 1)).size = 1 := by rw [ext_one]; show i < 5; exact hi5
  have H7 := Lib.hid (pick_any g n c p A 7 w H.out (by omega) hn2 (by omega) (by omega))
  clear h hI
  go_enter Try.func145, Try.ntmps145
  go_wp2_with fail
  refine H7.out.mono ?_
  rintro e w1 ⟨x, rfl, hx0, hx1, hr1, hg1⟩
  have HR1 := Lib.hid hr1
  have HG1 := Lib.hid hg1
  clear hr1 hg1
  by_cases h0 : x = 0
  · subst h0
    go_wp2_with fail
    refine (HI.out 0 (f - 1) z o (p + 1) w1 (by omega) (by omega) (by have := HZ.out; omega) (by have := HO.out; omega) (by omega) HR1.out).mono ?_
    rintro e w2 ⟨s2, p2, rfl, hs2, ht2, hp2, hq2, hr2, hg2⟩
    have HR2 := Lib.hid hr2
    have HG2 := Lib.hid (HG1.out.trans hg2)
    clear hr2 hg2
    go_wp2_with fail
    have c0 : (⟨#[73]⟩ : ByteArray).size = 1 := rfl
    go_ret
    exact ⟨_, p2, rfl, by (simp only [ByteArray.size_append]; omega), by (simp only [ByteArray.size_append]; omega), by omega, by omega, HR2.out, HG2.out⟩
  by_cases h1 : x = 1
  · subst h1
    go_wp2_with fail
    have HRA := Lib.hid (HR1.out.grown (World.grownBy_alloc w1 (.cells (List.toArray (List.map Value.string [⟨#[82]⟩, ⟨#[80]⟩])) 9) none) (by simp) (by simp))
    refine (oftxt_any g n c (p + 1) A _ 2 [⟨#[82]⟩, ⟨#[80]⟩] _ HRA.out (strs_new w1 [⟨#[82]⟩, ⟨#[80]⟩] _) (fun b off e => by cases e; have := HR1.out.lt; omega) (by omega) hn2 (by simp) (by simp)).mono ?_
    rintro e w2 ⟨s2, rfl, hm2, hr2, hg2⟩
    have hs2 : s2.size = 1 := by
      simp only [List.mem_cons, List.not_mem_nil, or_false] at hm2
      rcases hm2 with rfl | rfl <;> rfl
    have HR2 := Lib.hid hr2
    have HG2 := Lib.hid (HG1.out.trans ((gr_someG (World.grownBy_alloc w1 _ none)).trans hg2))
    clear hr2 hg2 hm2 HRA
    obtain ⟨p2, hp2⟩ : ∃ q, (p + 1) + 1 = q := ⟨_, rfl⟩
    rw [hp2] at HR2
    go_wp2_with fail
    refine (HI.out 1 (f - 1) z o p2 w2 (by omega) (by omega) (by have := HZ.out; omega) (by have := HO.out; omega) (by omega) HR2.out).mono ?_
    rintro e w3 ⟨s3, p3, rfl, hs3, ht3, hp3, hq3, hr3, hg3⟩
    have HR3 := Lib.hid hr3
    have HG3 := Lib.hid (HG2.out.trans hg3)
    clear hr3 hg3
    go_wp2_with fail
    go_ret
    exact ⟨_, p3, rfl, by (simp only [ByteArray.size_append]; omega), by (simp only [ByteArray.size_append]; omega), by omega, by omega, HR3.out, HG3.out⟩
  by_cases h2 : x = 2
  · subst h2
    go_wp2_with fail
    refine (HI.out 2 (f - 1) z o (p + 1) w1 (by omega) (by omega) (by have := HZ.out; omega) (by have := HO.out; omega) (by omega) HR1.out).mono ?_
    rintro e w2 ⟨s2, p2, rfl, hs2, ht2, hp2, hq2, hr2, hg2⟩
    have HR2 := Lib.hid hr2
    have HG2 := Lib.hid (HG1.out.trans hg2)
    clear hr2 hg2
    go_wp2_with fail
    have c0 : (⟨#[67]⟩ : ByteArray).size = 1 := rfl
    go_ret
    exact ⟨_, p2, rfl, by (simp only [ByteArray.size_append]; omega), by (simp only [ByteArray.size_append]; omega), by omega, by omega, HR2.out, HG2.out⟩
  by_cases h3 : x = 3
  · subst h3
    go_wp2_with fail
    refine (HI.out 1 (f - 2) z o (p + 1) w1 (by omega) (by omega) (by have := HZ.out; omega) (by have := HO.out; omega) (by omega) HR1.out).mono ?_
    rintro e w2 ⟨s2, p2, rfl, hs2, ht2, hp2, hq2, hr2, hg2⟩
    have HR2 := Lib.hid hr2
    have HG2 := Lib.hid (HG1.out.trans hg2)
    clear hr2 hg2
    go_wp2_with fail
    refine (bind_any z _ w2 (by have := HZ.out; omega) hnm).mono ?_
    rintro e w9 ⟨z2, rfl, hz2, hw9⟩
    subst w9
    go_wp2_with fail
    refine (unbind_any o _ w2 (by have := HO.out; omega)).mono ?_
    rintro e w9 ⟨o2, rfl, ho2, hw9⟩
    subst w9
    go_wp2_with fail
    refine (HI.out 0 (f - 2) z2 o2 p2 w2 (by omega) (by omega) (by have := HZ.out; omega) (by have := HO.out; omega) (by omega) HR2.out).mono ?_
    rintro e w3 ⟨s3, p3, rfl, hs3, ht3, hp3, hq3, hr3, hg3⟩
    have HR3 := Lib.hid hr3
    have HG3 := Lib.hid (HG2.out.trans hg3)
    clear hr3 hg3
    go_wp2_with fail
    have c0 : (⟨#[58]⟩ : ByteArray).size = 1 := rfl
    have c1 : (⟨#[62]⟩ : ByteArray).size = 1 := rfl
    have c2 : (⟨#[123]⟩ : ByteArray).size = 1 := rfl
    have c3 : (⟨#[125]⟩ : ByteArray).size = 1 := rfl
    go_ret
    exact ⟨_, p3, rfl, by (simp only [ByteArray.size_append]; omega), by (simp only [ByteArray.size_append]; omega), by omega, by omega, HR3.out, HG3.out⟩
  by_cases h4 : x = 4
  · subst h4
    go_wp2_with fail
    refine (HI.out 2 (f - 2) z o (p + 1) w1 (by omega) (by omega) (by have := HZ.out; omega) (by have := HO.out; omega) (by omega) HR1.out).mono ?_
    rintro e w2 ⟨s2, p2, rfl, hs2, ht2, hp2, hq2, hr2, hg2⟩
    have HR2 := Lib.hid hr2
    have HG2 := Lib.hid (HG1.out.trans hg2)
    clear hr2 hg2
    go_wp2_with fail
    refine (unbind_any z _ w2 (by have := HZ.out; omega)).mono ?_
    rintro e w9 ⟨z2, rfl, hz2, hw9⟩
    subst w9
    go_wp2_with fail
    refine (bind_any o _ w2 (by have := HO.out; omega) hnm).mono ?_
    rintro e w9 ⟨o2, rfl, ho2, hw9⟩
    subst w9
    go_wp2_with fail
    refine (HI.out 0 (f - 2) z2 o2 p2 w2 (by omega) (by omega) (by have := HZ.out; omega) (by have := HO.out; omega) (by omega) HR2.out).mono ?_
    rintro e w3 ⟨s3, p3, rfl, hs3, ht3, hp3, hq3, hr3, hg3⟩
    have HR3 := Lib.hid hr3
    have HG3 := Lib.hid (HG2.out.trans hg3)
    clear hr3 hg3
    go_wp2_with fail
    have c0 : (⟨#[58]⟩ : ByteArray).size = 1 := rfl
    have c1 : (⟨#[62]⟩ : ByteArray).size = 1 := rfl
    have c2 : (⟨#[91]⟩ : ByteArray).size = 1 := rfl
    have c3 : (⟨#[93]⟩ : ByteArray).size = 1 := rfl
    go_ret
    exact ⟨_, p3, rfl, by (simp only [ByteArray.size_append]; omega), by (simp only [ByteArray.size_append]; omega), by omega, by omega, HR3.out, HG3.out⟩
  have k0 : (x == 0) = false := by rw [beq_eq_false_iff_ne]; exact h0
  have k1 : (x == 1) = false := by rw [beq_eq_false_iff_ne]; exact h1
  have k2 : (x == 2) = false := by rw [beq_eq_false_iff_ne]; exact h2
  have k3 : (x == 3) = false := by rw [beq_eq_false_iff_ne]; exact h3
  have k4 : (x == 4) = false := by rw [beq_eq_false_iff_ne]; exact h4
  go_wp2_with fail
  refine (HI.out 1 (f - 2) z o (p + 1) w1 (by omega) (by omega) (by have := HZ.out; omega) (by have := HO.out; omega) (by omega) HR1.out).mono ?_
  rintro e w2 ⟨s2, p2, rfl, hs2, ht2, hp2, hq2, hr2, hg2⟩
  have HR2 := Lib.hid hr2
  have HG2 := Lib.hid (HG1.out.trans hg2)
  clear hr2 hg2
  go_wp2_with fail
  refine (bind_any z _ w2 (by have := HZ.out; omega) hnm).mono ?_
  rintro e w9 ⟨z2, rfl, hz2, hw9⟩
  subst w9
  go_wp2_with fail
  refine (unbind_any o _ w2 (by have := HO.out; omega)).mono ?_
  rintro e w9 ⟨o2, rfl, ho2, hw9⟩
  subst w9
  go_wp2_with fail
  refine (HI.out 0 (f - 2) z2 o2 p2 w2 (by omega) (by omega) (by have := HZ.out; omega) (by have := HO.out; omega) (by omega) HR2.out).mono ?_
  rintro e w3 ⟨s3, p3, rfl, hs3, ht3, hp3, hq3, hr3, hg3⟩
  have HR3 := Lib.hid hr3
  have HG3 := Lib.hid (HG2.out.trans hg3)
  clear hr3 hg3
  go_wp2_with fail
  have c0 : (⟨#[58]⟩ : ByteArray).size = 1 := rfl
  have c1 : (⟨#[62]⟩ : ByteArray).size = 1 := rfl
  have c2 : (⟨#[91]⟩ : ByteArray).size = 1 := rfl
  have c3 : (⟨#[93]⟩ : ByteArray).size = 1 := rfl
  go_ret
  exact ⟨_, p3, rfl, by (simp only [ByteArray.size_append]; omega), by (simp only [ByteArray.size_append]; omega), by omega, by omega, HR3.out, HG3.out⟩
end

section
open Go.RowKit

set_option maxRecDepth 100000 in
set_option maxHeartbeats 16000000 in
theorem draw_up2 (m K L g n c p : Nat) (A : Option Addr) (f : Int) (z o : ByteArray) (w : World) (hI : DrH m K L g n c A) (h : Rd13 w g A n c p) (hf : 0 < f) (hfm : f ≤ m + 1) (hm : m ≤ 20) (hL : L ≤ 100000) (hK : K ≤ 100000) (hp : p + (2 * K + 2) ≤ 800000) (hn2 : n ≤ 2000)
    (hz : z.size + m < 50) (ho : o.size + m < 50) :
    Calls Try.prog 145 #[.pointer (some ⟨g, 0, none⟩), .int .i64 2, .int .i64 f, .string z, .string o] w (DrP g n c p (2 * K + 2) (2 * L + 5) A w) := by
  have H := Lib.hid h
  have HI := Lib.hid hI
  obtain ⟨i, hi5, hi⟩ := name_at f z.size o.size hf (by omega) (by omega) (by omega)
  obtain ⟨zs, hzs⟩ : ∃ k, z.size = k := ⟨_, rfl⟩
  obtain ⟨os, hos⟩ : ∃ k, o.size = k := ⟨_, rfl⟩
  have HZ := Lib.hid hzs
  have HO := Lib.hid hos
  rw [hzs, hos] at hi
  rw [hzs] at hz
  rw [hos] at ho
  have hf2 : ¬ f ≤ 0 := by omega
  have hi6 : ¬ ((i : Int) < 0) := by omega
  have hnm : ((⟨#[118, 119, 120, 121, 122]⟩ : ByteArray).extract i (i + 1)).size = 1 := by rw [ext_one]; show i < 5; exact hi5
  have H7 := Lib.hid (pick_any g n c p A 3 w H.out (by omega) hn2 (by omega) (by omega))
  clear h hI
  go_enter Try.func145, Try.ntmps145
  go_wp2_with fail
  refine H7.out.mono ?_
  rintro e w1 ⟨x, rfl, hx0, hx1, hr1, hg1⟩
  have HR1 := Lib.hid hr1
  have HG1 := Lib.hid hg1
  clear hr1 hg1
  by_cases h0 : x = 0
  · subst h0
    go_wp2_with fail
    go_ret
    exact ⟨_, (p + 1), rfl, Nat.le_refl _, by show 1 ≤ _; omega, by omega, by omega, HR1.out, HG1.out⟩
  by_cases h1 : x = 1
  · subst h1
    go_wp2_with fail
    refine (HI.out 1 (f - 2) z o (p + 1) w1 (by omega) (by omega) (by have := HZ.out; omega) (by have := HO.out; omega) (by omega) HR1.out).mono ?_
    rintro e w2 ⟨s2, p2, rfl, hs2, ht2, hp2, hq2, hr2, hg2⟩
    have HR2 := Lib.hid hr2
    have HG2 := Lib.hid (HG1.out.trans hg2)
    clear hr2 hg2
    go_wp2_with fail
    refine (bind_any z _ w2 (by have := HZ.out; omega) hnm).mono ?_
    rintro e w9 ⟨z2, rfl, hz2, hw9⟩
    subst w9
    go_wp2_with fail
    refine (unbind_any o _ w2 (by have := HO.out; omega)).mono ?_
    rintro e w9 ⟨o2, rfl, ho2, hw9⟩
    subst w9
    go_wp2_with fail
    refine (HI.out 1 (f - 2) z2 o2 p2 w2 (by omega) (by omega) (by have := HZ.out; omega) (by have := HO.out; omega) (by omega) HR2.out).mono ?_
    rintro e w3 ⟨s3, p3, rfl, hs3, ht3, hp3, hq3, hr3, hg3⟩
    have HR3 := Lib.hid hr3
    have HG3 := Lib.hid (HG2.out.trans hg3)
    clear hr3 hg3
    go_wp2_with fail
    have c0 : (⟨#[58]⟩ : ByteArray).size = 1 := rfl
    have c1 : (⟨#[62]⟩ : ByteArray).size = 1 := rfl
    have c2 : (⟨#[91]⟩ : ByteArray).size = 1 := rfl
    have c3 : (⟨#[93]⟩ : ByteArray).size = 1 := rfl
    go_ret
    exact ⟨_, p3, rfl, by (simp only [ByteArray.size_append]; omega), by (simp only [ByteArray.size_append]; omega), by omega, by omega, HR3.out, HG3.out⟩
  have k0 : (x == 0) = false := by rw [beq_eq_false_iff_ne]; exact h0
  have k1 : (x == 1) = false := by rw [beq_eq_false_iff_ne]; exact h1
  go_wp2_with fail
  refine (HI.out 2 (f - 2) z o (p + 1) w1 (by omega) (by omega) (by have := HZ.out; omega) (by have := HO.out; omega) (by omega) HR1.out).mono ?_
  rintro e w2 ⟨s2, p2, rfl, hs2, ht2, hp2, hq2, hr2, hg2⟩
  have HR2 := Lib.hid hr2
  have HG2 := Lib.hid (HG1.out.trans hg2)
  clear hr2 hg2
  go_wp2_with fail
  refine (unbind_any z _ w2 (by have := HZ.out; omega)).mono ?_
  rintro e w9 ⟨z2, rfl, hz2, hw9⟩
  subst w9
  go_wp2_with fail
  refine (bind_any o _ w2 (by have := HO.out; omega) hnm).mono ?_
  rintro e w9 ⟨o2, rfl, ho2, hw9⟩
  subst w9
  go_wp2_with fail
  refine (HI.out 1 (f - 2) z2 o2 p2 w2 (by omega) (by omega) (by have := HZ.out; omega) (by have := HO.out; omega) (by omega) HR2.out).mono ?_
  rintro e w3 ⟨s3, p3, rfl, hs3, ht3, hp3, hq3, hr3, hg3⟩
  have HR3 := Lib.hid hr3
  have HG3 := Lib.hid (HG2.out.trans hg3)
  clear hr3 hg3
  go_wp2_with fail
  have c0 : (⟨#[58]⟩ : ByteArray).size = 1 := rfl
  have c1 : (⟨#[62]⟩ : ByteArray).size = 1 := rfl
  have c2 : (⟨#[91]⟩ : ByteArray).size = 1 := rfl
  have c3 : (⟨#[93]⟩ : ByteArray).size = 1 := rfl
  go_ret
  exact ⟨_, p3, rfl, by (simp only [ByteArray.size_append]; omega), by (simp only [ByteArray.size_append]; omega), by omega, by omega, HR3.out, HG3.out⟩
end

section
open Go.RowKit

def bsz : Nat → Nat
  | 0 => 1
  | m + 1 => 2 * bsz m + 5
def bk : Nat → Nat
  | 0 => 2
  | m + 1 => 2 * bk m + 2
theorem bsz_eq : ∀ m, bsz m + 5 = 6 * 2 ^ m
  | 0 => rfl
  | m + 1 => by have := bsz_eq m; simp only [bsz, Nat.pow_succ]; omega
theorem bk_eq : ∀ m, bk m + 2 = 4 * 2 ^ m
  | 0 => rfl
  | m + 1 => by have := bk_eq m; simp only [bk, Nat.pow_succ]; omega
theorem two_le {m : Nat} (h : m ≤ 10) : 2 ^ m ≤ 1024 := Nat.pow_le_pow_right (n := 2) (by omega) h
theorem two_ge (m : Nat) : 1 ≤ 2 ^ m := Nat.one_le_two_pow

theorem draw_any (g n c : Nat) (A : Option Addr) (hn2 : n ≤ 2000) : ∀ m, m ≤ 10 → DrH m (bk m) (bsz m) g n c A
  | 0, _ => fun d f z o p w hd hf hz ho hp h => by
    have : bk 0 = 2 := rfl
    exact draw_zero g n c p A d f z o w h hd hf (by omega) hn2 (by omega) (by omega)
  | m + 1, hm => fun d f z o p w hd hf hz ho hp h => by
    have b1 := bsz_eq m
    have b2 := bk_eq m
    have b3 := two_le (m := m) (by omega)
    have b4 := two_ge m
    have e1 : bk (m + 1) = 2 * bk m + 2 := rfl
    have e2 : bsz (m + 1) = 2 * bsz m + 5 := rfl
    by_cases hf0 : f ≤ 0
    · exact (draw_zero g n c p A d f z o w h hd hf0 (by omega) hn2 (by omega) (by omega)).mono fun e w' hq => hq.wide (Nat.le_refl _) (by omega) (by omega) (gr_refl _ _)
    · have hI := draw_any g n c A hn2 m (by omega)
      rw [e1, e2]
      rcases hd with rfl | rfl | rfl
      · exact draw_up0 m (bk m) (bsz m) g n c p A f z o w hI h (by omega) (by omega) (by omega) (by omega) (by omega) (by omega) hn2 (by omega) (by omega)
      · exact draw_up1 m (bk m) (bsz m) g n c p A f z o w hI h (by omega) (by omega) (by omega) (by omega) (by omega) (by omega) hn2 (by omega) (by omega)
      · exact draw_up2 m (bk m) (bsz m) g n c p A f z o w hI h (by omega) (by omega) (by omega) (by omega) (by omega) (by omega) hn2 (by omega) (by omega)

def known16 : List ByteArray := [⟨#[83, 97]⟩, ⟨#[91, 120, 58, 98, 62, 83, 120, 93]⟩, ⟨#[83, 91, 120, 58, 98, 62, 83, 91, 121, 58, 120, 62, 40, 121, 42, 121, 41, 93, 93]⟩, ⟨#[91, 120, 58, 97, 62, 73, 120, 93]⟩, ⟨#[67, 91, 120, 58, 97, 62, 73, 40, 120, 43, 49, 41, 93]⟩, ⟨#[123, 120, 58, 97, 62, 40, 120, 60, 51, 41, 125]⟩, ⟨#[91, 120, 58, 98, 62, 123, 121, 58, 120, 62, 40, 121, 60, 83, 120, 41, 125, 93]⟩, ⟨#[91, 120, 58, 97, 62, 40, 97, 64, 120, 41, 93]⟩, ⟨#[91, 120, 58, 98, 62, 91, 121, 58, 120, 62, 40, 121, 43, 78, 120, 41, 93, 93]⟩, ⟨#[80, 97]⟩, ⟨#[91, 120, 58, 98, 62, 80, 120, 93]⟩, ⟨#[82, 91, 120, 58, 97, 62, 40, 120, 43, 49, 41, 93]⟩, ⟨#[91, 120, 58, 73, 78, 97, 62, 120, 93]⟩, ⟨#[77, 91, 120, 58, 98, 62, 78, 120, 93]⟩, ⟨#[91, 120, 58, 97, 62, 91, 121, 58, 97, 62, 40, 120, 42, 121, 41, 93, 93]⟩, ⟨#[91, 120, 58, 91, 121, 58, 97, 62, 40, 121, 43, 49, 41, 93, 62, 40, 120, 42, 50, 41, 93]⟩]
theorem known_sizes : ∀ s ∈ known16, 1 ≤ s.size ∧ s.size ≤ 80 := by
  intro s hs
  simp only [known16, List.mem_cons, List.not_mem_nil, or_false] at hs
  rcases hs with rfl | rfl | rfl | rfl | rfl | rfl | rfl | rfl | rfl | rfl | rfl | rfl | rfl | rfl | rfl | rfl <;> exact ⟨by decide, by decide⟩

set_option maxRecDepth 100000 in
set_option maxHeartbeats 4000000 in
theorem known_any (x : Int) (w : World) (h0 : 0 ≤ x) (h1 : x < 16) :
    Calls Try.prog 144 #[.int .i64 x] w fun e w' => ∃ s, e = .returned (.string s) ∧ 1 ≤ s.size ∧ s.size ≤ 80 ∧ w.grownBy w' none := by
  obtain ⟨i, rfl⟩ : ∃ i : Nat, x = (i : Int) := ⟨x.toNat, by omega⟩
  obtain ⟨s, hs⟩ : ∃ s, known16[i]? = some s := ⟨_, List.getElem?_eq_getElem (by show i < 16; omega)⟩
  have HB := Lib.hid (known_sizes s (List.mem_of_getElem? hs))
  have hc : (w.alloc (.cells #[.string ⟨#[83, 97]⟩, .string ⟨#[91, 120, 58, 98, 62, 83, 120, 93]⟩, .string ⟨#[83, 91, 120, 58, 98, 62, 83, 91, 121, 58, 120, 62, 40, 121, 42, 121, 41, 93, 93]⟩, .string ⟨#[91, 120, 58, 97, 62, 73, 120, 93]⟩, .string ⟨#[67, 91, 120, 58, 97, 62, 73, 40, 120, 43, 49, 41, 93]⟩, .string ⟨#[123, 120, 58, 97, 62, 40, 120, 60, 51, 41, 125]⟩, .string ⟨#[91, 120, 58, 98, 62, 123, 121, 58, 120, 62, 40, 121, 60, 83, 120, 41, 125, 93]⟩, .string ⟨#[91, 120, 58, 97, 62, 40, 97, 64, 120, 41, 93]⟩, .string ⟨#[91, 120, 58, 98, 62, 91, 121, 58, 120, 62, 40, 121, 43, 78, 120, 41, 93, 93]⟩, .string ⟨#[80, 97]⟩, .string ⟨#[91, 120, 58, 98, 62, 80, 120, 93]⟩, .string ⟨#[82, 91, 120, 58, 97, 62, 40, 120, 43, 49, 41, 93]⟩, .string ⟨#[91, 120, 58, 73, 78, 97, 62, 120, 93]⟩, .string ⟨#[77, 91, 120, 58, 98, 62, 78, 120, 93]⟩, .string ⟨#[91, 120, 58, 97, 62, 91, 121, 58, 97, 62, 40, 120, 42, 121, 41, 93, 93]⟩, .string ⟨#[91, 120, 58, 91, 121, 58, 97, 62, 40, 121, 43, 49, 41, 93, 62, 40, 120, 42, 50, 41, 93]⟩] 9)).cell? ⟨w.heap.size, i, none⟩ = some (.string s) := by
    obtain ⟨b, off, e, _, hcc⟩ := strs_new w known16 9 (by decide)
    cases e
    have := hcc i s hs
    rw [Nat.zero_add] at this
    exact this
  have ht : (i : Int).tmod 16 = (i : Int) := by rw [Int.tmod_eq_emod_of_nonneg (by omega)]; omega
  clear hs
  go_enter Try.func144, Try.ntmps144
  go_wp2_with fail
  go_ret
  exact ⟨s, rfl, HB.out.1, HB.out.2, World.grownBy_alloc _ _ _⟩
end

section
open Go.RowKit

def s7L : List ByteArray := [⟨#[]⟩, ⟨#[97]⟩, ⟨#[120]⟩, ⟨#[83]⟩, ⟨#[40]⟩, ⟨#[93]⟩, ⟨#[113]⟩]
theorem s7_size : ∀ s ∈ s7L, s.size ≤ 1 := by
  intro s hs
  simp only [s7L, List.mem_cons, List.not_mem_nil, or_false] at hs
  rcases hs with rfl | rfl | rfl | rfl | rfl | rfl | rfl <;> decide
def cost7 : Nat → Nat
  | 5 => 1
  | 10 => 1
  | _ => 0
def sR (g i : Nat) (s : ByteArray) : Nat → Value → World → Prop
  | 0, v, _ => v = .string s
  | 7, v, _ => v = .string s
  | 1, v, _ => v = .int .i64 i
  | 8, v, _ => v = .int .i64 i
  | 2, v, _ => ∃ x, v = .string x ∧ x.size ≤ 80
  | 3, v, _ => v = .pointer (some ⟨g, 0, none⟩)
  | 9, v, _ => v = .pointer (some ⟨g, 0, none⟩)
  | 4, v, w => ∃ B, v = .slice (some ⟨B, 0, none⟩) 7 7 ∧ Strs w (some ⟨B, 0, none⟩) s7L ∧ B ≠ g
  | 5, v, _ => ∃ x, v = .string x ∧ x.size ≤ 1
  | 6, v, _ => ∃ x, v = .string x ∧ x.size ≤ 81
  | 10, v, _ => ∃ x, v = .int .i64 x ∧ 0 ≤ x ∧ x < 2
  | 11, v, _ => ∃ x, v = .int .i64 ((i : Int) + x) ∧ 0 ≤ x ∧ x < 2
  | 12, v, _ => ∃ x, v = .string x ∧ x.size ≤ 80
  | _, v, _ => ∃ x, v = .string x ∧ x.size ≤ 161
theorem sR_mono {g i : Nat} {s : ByteArray} {j : Nat} {v : Value} {w w' : World} (h : sR g i s j v w) (hg : w.grownBy w' (some g)) : sR g i s j v w' := by
  by_cases hj : j = 4
  · subst hj
    obtain ⟨B, e, hB, hne⟩ := h
    exact ⟨B, e, hB.grownG hg (fun b off e => by cases e; simpa using hne), hne⟩
  · unfold sR at h ⊢
    split at h <;> first | exact h | exact absurd rfl hj

/-- How l5Some ends. -/
def SomeP (g n c p : Nat) (A : Option Addr) (w : World) (e : Ending) (w' : World) : Prop := ∃ s p', e = .returned (.string s) ∧ s.size ≤ 161 ∧ p ≤ p' ∧ p' ≤ p + 1000 ∧ Rd13 w' g A n c p' ∧ w.grownBy w' (some g)

set_option maxRecDepth 100000 in
set_option maxHeartbeats 16000000 in
theorem some_any (g n c p : Nat) (A : Option Addr) (w : World) (h : Rd13 w g A n c p) (hp : p ≤ 100000) (hn2 : n ≤ 2000) :
    Calls Try.prog 84 #[.pointer (some ⟨g, 0, none⟩)] w (SomeP g n c p A w) := by
  have H16 := Lib.hid (pick_any g n c p A 16 w h (by omega) hn2 (by omega) (by omega))
  have HDR := Lib.hid (draw_any g n c A hn2 6 (by omega))
  have hbk : bk 6 = 254 := rfl
  have hbz : bsz 6 = 379 := rfl
  rw [hbk, hbz] at HDR
  clear h hbk hbz
  go_enter Try.func84, Try.ntmps84
  go_wp2_with fail
  refine H16.out.mono ?_
  rintro e w1 ⟨x, rfl, hx0, hx1, hr1, hg1⟩
  have HR1 := Lib.hid hr1
  have HG1 := Lib.hid hg1
  clear hr1 hg1 H16
  go_wp2_with fail
  refine (known_any x w1 hx0 hx1).mono ?_
  rintro e w2 ⟨s, rfl, hs1, hs2, hg2⟩
  have HR2 := Lib.hid (HR1.out.grown hg2 (by simp) (by simp))
  have HG2 := Lib.hid (HG1.out.trans (gr_someG hg2))
  have H3 := Lib.hid (pick_any g n c (p + 1) A 3 w2 HR2.out (by omega) hn2 (by omega) (by omega))
  clear hg2 hx0 hx1
  go_wp2_with fail
  refine H3.out.mono ?_
  rintro e w3 ⟨x3, rfl, hx0, hx1, hr3, hg3⟩
  have HR3 := Lib.hid hr3
  have HG3 := Lib.hid (HG2.out.trans hg3)
  clear hr3 hg3 H3
  by_cases hx : 0 < x3
  · clear hs1 hs2
    have H3b := Lib.hid (pick_any g n c (p + 1 + 1) A 3 w3 HR3.out (by omega) hn2 (by omega) (by omega))
    go_wp2_with fail
    refine H3b.out.mono ?_
    rintro e w4 ⟨x4, rfl, hx40, hx41, hr4, hg4⟩
    have HR4 := Lib.hid hr4
    have HG4 := Lib.hid (HG3.out.trans hg4)
    clear hr4 hg4 H3b
    have H5b := Lib.hid (pick_any g n c (p + 1 + 1 + 1) A 5 w4 HR4.out (by omega) hn2 (by omega) (by omega))
    go_wp2_with fail
    refine H5b.out.mono ?_
    rintro e w5 ⟨x5, rfl, hx50, hx51, hr5, hg5⟩
    have HR5 := Lib.hid hr5
    have HG5 := Lib.hid (HG4.out.trans hg5)
    clear hr5 hg5 H5b
    go_wp2_with fail
    refine (HDR.out x4 (2 + x5) ⟨#[]⟩ ⟨#[]⟩ (p + 1 + 1 + 1 + 1) w5 (by omega) (by omega) (by show 0 + 6 ≤ 50; omega) (by show 0 + 6 ≤ 50; omega) (by omega) HR5.out).mono ?_
    rintro e w6 ⟨s, p6, rfl, hs1, hs2, hp1, hp2, hr6, hg6⟩
    have HR6 := Lib.hid hr6
    have HG6 := Lib.hid (HG5.out.trans hg6)
    clear hr6 hg6
    by_cases h80 : 80 < s.size
    · obtain ⟨s0, hs0⟩ : ∃ z, s = z := ⟨_, rfl⟩
      rw [hs0] at h80 hs1 hs2 ⊢
      clear hs0 hs1 hs2 s
      obtain ⟨s, hsA⟩ : ∃ z, z = (⟨#[83, 97]⟩ : ByteArray) := ⟨_, rfl⟩
      have hs1 : 1 ≤ s.size := by rw [hsA]; decide
      have hs2 : s.size ≤ 80 := by rw [hsA]; decide
      have H18 := Lib.hid (pick_any g n c p6 A 18 w6 HR6.out (by omega) hn2 (by omega) (by omega))
      go_wp2_with fail
      rw [← hsA]
      clear hsA h80
      refine H18.out.mono ?_
      rintro e w8 ⟨x8, rfl, hx80, hx81, hr8, hg8⟩
      have HR8 := Lib.hid hr8
      have HG8 := Lib.hid (HG6.out.trans hg8)
      clear hr8 hg8 H18
      by_cases hx8 : 0 < x8
      · go_wp2_with fail
        go_ret
        exact ⟨s, p6 + 1, rfl, by omega, by omega, by omega, HR8.out, HG8.out⟩
      · obtain ⟨ss, hss⟩ : ∃ q, s.size = q := ⟨_, rfl⟩
        have HSS := Lib.hid hss
        have hss1 : 1 ≤ ss ∧ ss ≤ 80 := by omega
        have HLEN := Lib.hid (pick_any g n c (p6 + 1) A ss w8 HR8.out (by omega) hn2 (by omega) (by omega))
        clear hs1 hs2
        go_wp2_with fail
        refine HLEN.out.mono ?_
        rintro e w9 ⟨x9, rfl, hx90, hx91, hr9, hg9⟩
        obtain ⟨i, rfl⟩ : ∃ i : Nat, x9 = (i : Int) := ⟨x9.toNat, by omega⟩
        have HRK := Lib.hid hr9
        have HGK := Lib.hid (HG8.out.trans hg9)
        clear hr9 hg9
        go_wp2_with fail
        refine wp_region_jsteps (u := w9) 43 rfl (by kernel_rfl) (fun w w' => w.grownBy w' (some g)) (sR g i s) cost7 (fun k w => ∃ p', (p6 + 1 + 1) ≤ p' ∧ p' ≤ (p6 + 1 + 1) + k ∧ Rd13 w g A n c p') (by kernel_rfl) (fun _ _ _ h1 h2 => h1.trans h2) (fun j v w w' h hg => sR_mono h hg) ?_ ?_ _ (gr_drewN _ _ _) ⟨(p6 + 1 + 1), Nat.le_refl _, Nat.le_refl _, HRK.out.grown (gr_drewN _ 1 none) (by simp) (by simp)⟩
        · intro a' w' hdf hgr hfar hall ⟨k9, hk9, p9, j1, j2, j3⟩
          have hk8 : k9 ≤ 2 := hk9
          obtain ⟨x, e2, hx⟩ : ∃ x, a'.tmps.getD 2 undef = .string x ∧ x.size ≤ 161 := hall 14 _ 2 rfl rfl
          have e2' : a'.tmps[2]?.getD undef = .string x := by rw [← e2]; simp
          go_wp2_with fail
          refine bodyPost_ret (v := .string x) (by simp [results, Try.results84, go_sem, e2']) hdf ?_
          exact ⟨x, p9, rfl, by omega, by omega, by omega, j3, HGK.out.trans hgr⟩
        refine ⟨?_, ?_, ?_, ?_, ?_, ?_, ?_, ?_, ?_, ?_, ?_, ?_, ?_, ?_, ?_, trivial⟩
        · intro a' w' k hdf hgr hfar hdep hJ hk
          have hkk : k ≤ 2 := by have h9 : spentAll cost7 15 = 2 := rfl; exact Nat.le_trans (Nat.le_add_right _ _) (h9 ▸ hk)
          have e3 : a'.tmps.getD 3 undef = .string s := hfar 3 (by kernel_rfl)
          go_simp
          exact ⟨_, rfl, gr_refl _ _, rfl, hJ⟩
        · intro a' w' k hdf hgr hfar hdep hJ hk
          have hkk : k ≤ 2 := by have h9 : spentAll cost7 15 = 2 := rfl; exact Nat.le_trans (Nat.le_add_right _ _) (h9 ▸ hk)
          have e4 : a'.tmps.getD 4 undef = .int .i64 i := hfar 4 (by kernel_rfl)
          go_simp
          exact ⟨_, rfl, gr_refl _ _, rfl, hJ⟩
        · intro a' w' k hdf hgr hfar hdep hJ hk
          have hkk : k ≤ 2 := by have h9 : spentAll cost7 15 = 2 := rfl; exact Nat.le_trans (Nat.le_add_right _ _) (h9 ▸ hk)
          have e29 : a'.tmps.getD 29 undef = .string s := hdep 0 _ 29 (by kernel_rfl) rfl rfl
          have e30 : a'.tmps.getD 30 undef = .int .i64 i := hdep 1 _ 30 (by kernel_rfl) rfl rfl
          have q1 : i ≤ ss := by omega
          go_simp
          exact ⟨_, rfl, gr_refl _ _, ⟨_, rfl, by simp only [ByteArray.size_extract]; omega⟩, hJ⟩
        · intro a' w' k hdf hgr hfar hdep hJ hk
          have hkk : k ≤ 2 := by have h9 : spentAll cost7 15 = 2 := rfl; exact Nat.le_trans (Nat.le_add_right _ _) (h9 ▸ hk)
          have e0 : a'.tmps.getD 0 undef = .pointer (some ⟨g, 0, none⟩) := hfar 0 (by kernel_rfl)
          go_simp
          exact ⟨_, rfl, gr_refl _ _, rfl, hJ⟩
        · intro a' w' k hdf hgr hfar hdep hJ hk
          have hkk : k ≤ 2 := by have h9 : spentAll cost7 15 = 2 := rfl; exact Nat.le_trans (Nat.le_add_right _ _) (h9 ▸ hk)
          go_simp
          obtain ⟨p9, j1, j2, j3⟩ := hJ
          exact ⟨_, rfl, gr_someG (World.grownBy_alloc _ _ none), ⟨w'.heap.size, rfl, strs_new w' s7L _, by have := j3.lt; omega⟩, ⟨p9, j1, j2, j3.grown (World.grownBy_alloc _ _ none) (by simp) (by simp)⟩⟩
        · intro a' w' k hdf hgr hfar hdep hJ hk
          have hkk : k ≤ 2 := by have h9 : spentAll cost7 15 = 2 := rfl; exact Nat.le_trans (Nat.le_add_right _ _) (h9 ▸ hk)
          have e32 : a'.tmps.getD 32 undef = .pointer (some ⟨g, 0, none⟩) := hdep 3 _ 32 (by kernel_rfl) rfl rfl
          obtain ⟨B, e33, hB, hBg⟩ : ∃ B, a'.tmps.getD 33 undef = .slice (some ⟨B, 0, none⟩) 7 7 ∧ Strs w' (some ⟨B, 0, none⟩) s7L ∧ B ≠ g := hdep 4 _ 33 (by kernel_rfl) rfl rfl
          obtain ⟨p9, j1, j2, j3⟩ := hJ
          go_simp
          refine (oftxt_any g n c p9 A _ 7 s7L w' j3 hB (fun b off e => by cases e; exact hBg) (by omega) hn2 (by decide) (by decide)).mono ?_
          rintro e w2 ⟨x, rfl, hx, hr, hg⟩
          exact ⟨_, rfl, hg, ⟨x, rfl, s7_size x hx⟩, ⟨p9 + 1, by omega, by simp only [cost7]; omega, hr⟩⟩
        · intro a' w' k hdf hgr hfar hdep hJ hk
          have hkk : k ≤ 2 := by have h9 : spentAll cost7 15 = 2 := rfl; exact Nat.le_trans (Nat.le_add_right _ _) (h9 ▸ hk)
          obtain ⟨x, e31, hx⟩ : ∃ x, a'.tmps.getD 31 undef = .string x ∧ x.size ≤ 80 := hdep 2 _ 31 (by kernel_rfl) rfl rfl
          obtain ⟨y, e34, hy⟩ : ∃ x, a'.tmps.getD 34 undef = .string x ∧ x.size ≤ 1 := hdep 5 _ 34 (by kernel_rfl) rfl rfl
          have q1 : ¬ 9223372036854775807 < x.size + y.size := by omega
          go_simp
          exact ⟨_, rfl, gr_refl _ _, ⟨_, rfl, by simp only [ByteArray.size_append]; omega⟩, hJ⟩
        · intro a' w' k hdf hgr hfar hdep hJ hk
          have hkk : k ≤ 2 := by have h9 : spentAll cost7 15 = 2 := rfl; exact Nat.le_trans (Nat.le_add_right _ _) (h9 ▸ hk)
          have e3 : a'.tmps.getD 3 undef = .string s := hfar 3 (by kernel_rfl)
          go_simp
          exact ⟨_, rfl, gr_refl _ _, rfl, hJ⟩
        · intro a' w' k hdf hgr hfar hdep hJ hk
          have hkk : k ≤ 2 := by have h9 : spentAll cost7 15 = 2 := rfl; exact Nat.le_trans (Nat.le_add_right _ _) (h9 ▸ hk)
          have e4 : a'.tmps.getD 4 undef = .int .i64 i := hfar 4 (by kernel_rfl)
          go_simp
          exact ⟨_, rfl, gr_refl _ _, rfl, hJ⟩
        · intro a' w' k hdf hgr hfar hdep hJ hk
          have hkk : k ≤ 2 := by have h9 : spentAll cost7 15 = 2 := rfl; exact Nat.le_trans (Nat.le_add_right _ _) (h9 ▸ hk)
          have e0 : a'.tmps.getD 0 undef = .pointer (some ⟨g, 0, none⟩) := hfar 0 (by kernel_rfl)
          go_simp
          exact ⟨_, rfl, gr_refl _ _, rfl, hJ⟩
        · intro a' w' k hdf hgr hfar hdep hJ hk
          have hkk : k ≤ 2 := by have h9 : spentAll cost7 15 = 2 := rfl; exact Nat.le_trans (Nat.le_add_right _ _) (h9 ▸ hk)
          have e38 : a'.tmps.getD 38 undef = .pointer (some ⟨g, 0, none⟩) := hdep 9 _ 38 (by kernel_rfl) rfl rfl
          obtain ⟨p9, j1, j2, j3⟩ := hJ
          go_simp
          refine (pick_any g n c p9 A 2 w' j3 (by omega) hn2 (by omega) (by omega)).mono ?_
          rintro e w2 ⟨x, rfl, hx0, hx1, hr, hg⟩
          exact ⟨_, rfl, hg, ⟨x, rfl, hx0, hx1⟩, ⟨p9 + 1, by omega, by simp only [cost7]; omega, hr⟩⟩
        · intro a' w' k hdf hgr hfar hdep hJ hk
          have hkk : k ≤ 2 := by have h9 : spentAll cost7 15 = 2 := rfl; exact Nat.le_trans (Nat.le_add_right _ _) (h9 ▸ hk)
          have e37 : a'.tmps.getD 37 undef = .int .i64 i := hdep 8 _ 37 (by kernel_rfl) rfl rfl
          obtain ⟨x, e39, hx0, hx1⟩ : ∃ x, a'.tmps.getD 39 undef = .int .i64 x ∧ 0 ≤ x ∧ x < 2 := hdep 10 _ 39 (by kernel_rfl) rfl rfl
          have q1 : IntKind.i64.wrap ((i : Int) + x) = (i : Int) + x := IntWalk.i64_in _ (by omega)
          go_simp
          exact ⟨_, rfl, gr_refl _ _, ⟨x, rfl, hx0, hx1⟩, hJ⟩
        · intro a' w' k hdf hgr hfar hdep hJ hk
          have hkk : k ≤ 2 := by have h9 : spentAll cost7 15 = 2 := rfl; exact Nat.le_trans (Nat.le_add_right _ _) (h9 ▸ hk)
          have e36 : a'.tmps.getD 36 undef = .string s := hdep 7 _ 36 (by kernel_rfl) rfl rfl
          obtain ⟨x, e40, hx0, hx1⟩ : ∃ x, a'.tmps.getD 40 undef = .int .i64 ((i : Int) + x) ∧ 0 ≤ x ∧ x < 2 := hdep 11 _ 40 (by kernel_rfl) rfl rfl
          obtain ⟨j, rfl⟩ : ∃ j : Nat, x = (j : Int) := ⟨x.toNat, by omega⟩
          have q1 : 0 ≤ (i : Int) + (j : Int) ∧ (i : Int) + (j : Int) ≤ (ss : Int) := by omega
          go_simp
          exact ⟨_, rfl, gr_refl _ _, ⟨_, rfl, by simp only [ByteArray.size_extract]; omega⟩, hJ⟩
        · intro a' w' k hdf hgr hfar hdep hJ hk
          have hkk : k ≤ 2 := by have h9 : spentAll cost7 15 = 2 := rfl; exact Nat.le_trans (Nat.le_add_right _ _) (h9 ▸ hk)
          obtain ⟨x, e35, hx⟩ : ∃ x, a'.tmps.getD 35 undef = .string x ∧ x.size ≤ 81 := hdep 6 _ 35 (by kernel_rfl) rfl rfl
          obtain ⟨y, e41, hy⟩ : ∃ x, a'.tmps.getD 41 undef = .string x ∧ x.size ≤ 80 := hdep 12 _ 41 (by kernel_rfl) rfl rfl
          have q1 : ¬ 9223372036854775807 < x.size + y.size := by omega
          go_simp
          exact ⟨_, rfl, gr_refl _ _, ⟨_, rfl, by simp only [ByteArray.size_append]; omega⟩, hJ⟩
        · intro a' w' k hdf hgr hfar hdep hJ hk
          have hkk : k ≤ 2 := by have h9 : spentAll cost7 15 = 2 := rfl; exact Nat.le_trans (Nat.le_add_right _ _) (h9 ▸ hk)
          obtain ⟨x, e42, hx⟩ : ∃ x, a'.tmps.getD 42 undef = .string x ∧ x.size ≤ 161 := hdep 13 _ 42 (by kernel_rfl) rfl rfl
          go_simp
          exact ⟨_, rfl, gr_refl _ _, ⟨x, rfl, hx⟩, hJ⟩
    · have hs2 : s.size ≤ 80 := by omega
      have H18 := Lib.hid (pick_any g n c p6 A 18 w6 HR6.out (by omega) hn2 (by omega) (by omega))
      go_wp2_with fail
      refine H18.out.mono ?_
      rintro e w8 ⟨x8, rfl, hx80, hx81, hr8, hg8⟩
      have HR8 := Lib.hid hr8
      have HG8 := Lib.hid (HG6.out.trans hg8)
      clear hr8 hg8 H18
      by_cases hx8 : 0 < x8
      · go_wp2_with fail
        go_ret
        exact ⟨s, p6 + 1, rfl, by omega, by omega, by omega, HR8.out, HG8.out⟩
      · obtain ⟨ss, hss⟩ : ∃ q, s.size = q := ⟨_, rfl⟩
        have HSS := Lib.hid hss
        have hss1 : 1 ≤ ss ∧ ss ≤ 80 := by omega
        have HLEN := Lib.hid (pick_any g n c (p6 + 1) A ss w8 HR8.out (by omega) hn2 (by omega) (by omega))
        clear hs1 hs2
        go_wp2_with fail
        refine HLEN.out.mono ?_
        rintro e w9 ⟨x9, rfl, hx90, hx91, hr9, hg9⟩
        obtain ⟨i, rfl⟩ : ∃ i : Nat, x9 = (i : Int) := ⟨x9.toNat, by omega⟩
        have HRK := Lib.hid hr9
        have HGK := Lib.hid (HG8.out.trans hg9)
        clear hr9 hg9
        go_wp2_with fail
        refine wp_region_jsteps (u := w9) 43 rfl (by kernel_rfl) (fun w w' => w.grownBy w' (some g)) (sR g i s) cost7 (fun k w => ∃ p', (p6 + 1 + 1) ≤ p' ∧ p' ≤ (p6 + 1 + 1) + k ∧ Rd13 w g A n c p') (by kernel_rfl) (fun _ _ _ h1 h2 => h1.trans h2) (fun j v w w' h hg => sR_mono h hg) ?_ ?_ _ (gr_drewN _ _ _) ⟨(p6 + 1 + 1), Nat.le_refl _, Nat.le_refl _, HRK.out.grown (gr_drewN _ 1 none) (by simp) (by simp)⟩
        · intro a' w' hdf hgr hfar hall ⟨k9, hk9, p9, j1, j2, j3⟩
          have hk8 : k9 ≤ 2 := hk9
          obtain ⟨x, e2, hx⟩ : ∃ x, a'.tmps.getD 2 undef = .string x ∧ x.size ≤ 161 := hall 14 _ 2 rfl rfl
          have e2' : a'.tmps[2]?.getD undef = .string x := by rw [← e2]; simp
          go_wp2_with fail
          refine bodyPost_ret (v := .string x) (by simp [results, Try.results84, go_sem, e2']) hdf ?_
          exact ⟨x, p9, rfl, by omega, by omega, by omega, j3, HGK.out.trans hgr⟩
        refine ⟨?_, ?_, ?_, ?_, ?_, ?_, ?_, ?_, ?_, ?_, ?_, ?_, ?_, ?_, ?_, trivial⟩
        · intro a' w' k hdf hgr hfar hdep hJ hk
          have hkk : k ≤ 2 := by have h9 : spentAll cost7 15 = 2 := rfl; exact Nat.le_trans (Nat.le_add_right _ _) (h9 ▸ hk)
          have e3 : a'.tmps.getD 3 undef = .string s := hfar 3 (by kernel_rfl)
          go_simp
          exact ⟨_, rfl, gr_refl _ _, rfl, hJ⟩
        · intro a' w' k hdf hgr hfar hdep hJ hk
          have hkk : k ≤ 2 := by have h9 : spentAll cost7 15 = 2 := rfl; exact Nat.le_trans (Nat.le_add_right _ _) (h9 ▸ hk)
          have e4 : a'.tmps.getD 4 undef = .int .i64 i := hfar 4 (by kernel_rfl)
          go_simp
          exact ⟨_, rfl, gr_refl _ _, rfl, hJ⟩
        · intro a' w' k hdf hgr hfar hdep hJ hk
          have hkk : k ≤ 2 := by have h9 : spentAll cost7 15 = 2 := rfl; exact Nat.le_trans (Nat.le_add_right _ _) (h9 ▸ hk)
          have e29 : a'.tmps.getD 29 undef = .string s := hdep 0 _ 29 (by kernel_rfl) rfl rfl
          have e30 : a'.tmps.getD 30 undef = .int .i64 i := hdep 1 _ 30 (by kernel_rfl) rfl rfl
          have q1 : i ≤ ss := by omega
          go_simp
          exact ⟨_, rfl, gr_refl _ _, ⟨_, rfl, by simp only [ByteArray.size_extract]; omega⟩, hJ⟩
        · intro a' w' k hdf hgr hfar hdep hJ hk
          have hkk : k ≤ 2 := by have h9 : spentAll cost7 15 = 2 := rfl; exact Nat.le_trans (Nat.le_add_right _ _) (h9 ▸ hk)
          have e0 : a'.tmps.getD 0 undef = .pointer (some ⟨g, 0, none⟩) := hfar 0 (by kernel_rfl)
          go_simp
          exact ⟨_, rfl, gr_refl _ _, rfl, hJ⟩
        · intro a' w' k hdf hgr hfar hdep hJ hk
          have hkk : k ≤ 2 := by have h9 : spentAll cost7 15 = 2 := rfl; exact Nat.le_trans (Nat.le_add_right _ _) (h9 ▸ hk)
          go_simp
          obtain ⟨p9, j1, j2, j3⟩ := hJ
          exact ⟨_, rfl, gr_someG (World.grownBy_alloc _ _ none), ⟨w'.heap.size, rfl, strs_new w' s7L _, by have := j3.lt; omega⟩, ⟨p9, j1, j2, j3.grown (World.grownBy_alloc _ _ none) (by simp) (by simp)⟩⟩
        · intro a' w' k hdf hgr hfar hdep hJ hk
          have hkk : k ≤ 2 := by have h9 : spentAll cost7 15 = 2 := rfl; exact Nat.le_trans (Nat.le_add_right _ _) (h9 ▸ hk)
          have e32 : a'.tmps.getD 32 undef = .pointer (some ⟨g, 0, none⟩) := hdep 3 _ 32 (by kernel_rfl) rfl rfl
          obtain ⟨B, e33, hB, hBg⟩ : ∃ B, a'.tmps.getD 33 undef = .slice (some ⟨B, 0, none⟩) 7 7 ∧ Strs w' (some ⟨B, 0, none⟩) s7L ∧ B ≠ g := hdep 4 _ 33 (by kernel_rfl) rfl rfl
          obtain ⟨p9, j1, j2, j3⟩ := hJ
          go_simp
          refine (oftxt_any g n c p9 A _ 7 s7L w' j3 hB (fun b off e => by cases e; exact hBg) (by omega) hn2 (by decide) (by decide)).mono ?_
          rintro e w2 ⟨x, rfl, hx, hr, hg⟩
          exact ⟨_, rfl, hg, ⟨x, rfl, s7_size x hx⟩, ⟨p9 + 1, by omega, by simp only [cost7]; omega, hr⟩⟩
        · intro a' w' k hdf hgr hfar hdep hJ hk
          have hkk : k ≤ 2 := by have h9 : spentAll cost7 15 = 2 := rfl; exact Nat.le_trans (Nat.le_add_right _ _) (h9 ▸ hk)
          obtain ⟨x, e31, hx⟩ : ∃ x, a'.tmps.getD 31 undef = .string x ∧ x.size ≤ 80 := hdep 2 _ 31 (by kernel_rfl) rfl rfl
          obtain ⟨y, e34, hy⟩ : ∃ x, a'.tmps.getD 34 undef = .string x ∧ x.size ≤ 1 := hdep 5 _ 34 (by kernel_rfl) rfl rfl
          have q1 : ¬ 9223372036854775807 < x.size + y.size := by omega
          go_simp
          exact ⟨_, rfl, gr_refl _ _, ⟨_, rfl, by simp only [ByteArray.size_append]; omega⟩, hJ⟩
        · intro a' w' k hdf hgr hfar hdep hJ hk
          have hkk : k ≤ 2 := by have h9 : spentAll cost7 15 = 2 := rfl; exact Nat.le_trans (Nat.le_add_right _ _) (h9 ▸ hk)
          have e3 : a'.tmps.getD 3 undef = .string s := hfar 3 (by kernel_rfl)
          go_simp
          exact ⟨_, rfl, gr_refl _ _, rfl, hJ⟩
        · intro a' w' k hdf hgr hfar hdep hJ hk
          have hkk : k ≤ 2 := by have h9 : spentAll cost7 15 = 2 := rfl; exact Nat.le_trans (Nat.le_add_right _ _) (h9 ▸ hk)
          have e4 : a'.tmps.getD 4 undef = .int .i64 i := hfar 4 (by kernel_rfl)
          go_simp
          exact ⟨_, rfl, gr_refl _ _, rfl, hJ⟩
        · intro a' w' k hdf hgr hfar hdep hJ hk
          have hkk : k ≤ 2 := by have h9 : spentAll cost7 15 = 2 := rfl; exact Nat.le_trans (Nat.le_add_right _ _) (h9 ▸ hk)
          have e0 : a'.tmps.getD 0 undef = .pointer (some ⟨g, 0, none⟩) := hfar 0 (by kernel_rfl)
          go_simp
          exact ⟨_, rfl, gr_refl _ _, rfl, hJ⟩
        · intro a' w' k hdf hgr hfar hdep hJ hk
          have hkk : k ≤ 2 := by have h9 : spentAll cost7 15 = 2 := rfl; exact Nat.le_trans (Nat.le_add_right _ _) (h9 ▸ hk)
          have e38 : a'.tmps.getD 38 undef = .pointer (some ⟨g, 0, none⟩) := hdep 9 _ 38 (by kernel_rfl) rfl rfl
          obtain ⟨p9, j1, j2, j3⟩ := hJ
          go_simp
          refine (pick_any g n c p9 A 2 w' j3 (by omega) hn2 (by omega) (by omega)).mono ?_
          rintro e w2 ⟨x, rfl, hx0, hx1, hr, hg⟩
          exact ⟨_, rfl, hg, ⟨x, rfl, hx0, hx1⟩, ⟨p9 + 1, by omega, by simp only [cost7]; omega, hr⟩⟩
        · intro a' w' k hdf hgr hfar hdep hJ hk
          have hkk : k ≤ 2 := by have h9 : spentAll cost7 15 = 2 := rfl; exact Nat.le_trans (Nat.le_add_right _ _) (h9 ▸ hk)
          have e37 : a'.tmps.getD 37 undef = .int .i64 i := hdep 8 _ 37 (by kernel_rfl) rfl rfl
          obtain ⟨x, e39, hx0, hx1⟩ : ∃ x, a'.tmps.getD 39 undef = .int .i64 x ∧ 0 ≤ x ∧ x < 2 := hdep 10 _ 39 (by kernel_rfl) rfl rfl
          have q1 : IntKind.i64.wrap ((i : Int) + x) = (i : Int) + x := IntWalk.i64_in _ (by omega)
          go_simp
          exact ⟨_, rfl, gr_refl _ _, ⟨x, rfl, hx0, hx1⟩, hJ⟩
        · intro a' w' k hdf hgr hfar hdep hJ hk
          have hkk : k ≤ 2 := by have h9 : spentAll cost7 15 = 2 := rfl; exact Nat.le_trans (Nat.le_add_right _ _) (h9 ▸ hk)
          have e36 : a'.tmps.getD 36 undef = .string s := hdep 7 _ 36 (by kernel_rfl) rfl rfl
          obtain ⟨x, e40, hx0, hx1⟩ : ∃ x, a'.tmps.getD 40 undef = .int .i64 ((i : Int) + x) ∧ 0 ≤ x ∧ x < 2 := hdep 11 _ 40 (by kernel_rfl) rfl rfl
          obtain ⟨j, rfl⟩ : ∃ j : Nat, x = (j : Int) := ⟨x.toNat, by omega⟩
          have q1 : 0 ≤ (i : Int) + (j : Int) ∧ (i : Int) + (j : Int) ≤ (ss : Int) := by omega
          go_simp
          exact ⟨_, rfl, gr_refl _ _, ⟨_, rfl, by simp only [ByteArray.size_extract]; omega⟩, hJ⟩
        · intro a' w' k hdf hgr hfar hdep hJ hk
          have hkk : k ≤ 2 := by have h9 : spentAll cost7 15 = 2 := rfl; exact Nat.le_trans (Nat.le_add_right _ _) (h9 ▸ hk)
          obtain ⟨x, e35, hx⟩ : ∃ x, a'.tmps.getD 35 undef = .string x ∧ x.size ≤ 81 := hdep 6 _ 35 (by kernel_rfl) rfl rfl
          obtain ⟨y, e41, hy⟩ : ∃ x, a'.tmps.getD 41 undef = .string x ∧ x.size ≤ 80 := hdep 12 _ 41 (by kernel_rfl) rfl rfl
          have q1 : ¬ 9223372036854775807 < x.size + y.size := by omega
          go_simp
          exact ⟨_, rfl, gr_refl _ _, ⟨_, rfl, by simp only [ByteArray.size_append]; omega⟩, hJ⟩
        · intro a' w' k hdf hgr hfar hdep hJ hk
          have hkk : k ≤ 2 := by have h9 : spentAll cost7 15 = 2 := rfl; exact Nat.le_trans (Nat.le_add_right _ _) (h9 ▸ hk)
          obtain ⟨x, e42, hx⟩ : ∃ x, a'.tmps.getD 42 undef = .string x ∧ x.size ≤ 161 := hdep 13 _ 42 (by kernel_rfl) rfl rfl
          go_simp
          exact ⟨_, rfl, gr_refl _ _, ⟨x, rfl, hx⟩, hJ⟩
  · have h80 : ¬ 80 < s.size := by omega
    have H18 := Lib.hid (pick_any g n c (p + 1 + 1) A 18 w3 HR3.out (by omega) hn2 (by omega) (by omega))
    go_wp2_with fail
    refine H18.out.mono ?_
    rintro e w8 ⟨x8, rfl, hx80, hx81, hr8, hg8⟩
    have HR8 := Lib.hid hr8
    have HG8 := Lib.hid (HG3.out.trans hg8)
    clear hr8 hg8 H18
    by_cases hx8 : 0 < x8
    · go_wp2_with fail
      go_ret
      exact ⟨s, (p + 1 + 1) + 1, rfl, by omega, by omega, by omega, HR8.out, HG8.out⟩
    · obtain ⟨ss, hss⟩ : ∃ q, s.size = q := ⟨_, rfl⟩
      have HSS := Lib.hid hss
      have hss1 : 1 ≤ ss ∧ ss ≤ 80 := by omega
      have HLEN := Lib.hid (pick_any g n c ((p + 1 + 1) + 1) A ss w8 HR8.out (by omega) hn2 (by omega) (by omega))
      clear hs1 hs2
      go_wp2_with fail
      refine HLEN.out.mono ?_
      rintro e w9 ⟨x9, rfl, hx90, hx91, hr9, hg9⟩
      obtain ⟨i, rfl⟩ : ∃ i : Nat, x9 = (i : Int) := ⟨x9.toNat, by omega⟩
      have HRK := Lib.hid hr9
      have HGK := Lib.hid (HG8.out.trans hg9)
      clear hr9 hg9
      go_wp2_with fail
      refine wp_region_jsteps (u := w9) 43 rfl (by kernel_rfl) (fun w w' => w.grownBy w' (some g)) (sR g i s) cost7 (fun k w => ∃ p', ((p + 1 + 1) + 1 + 1) ≤ p' ∧ p' ≤ ((p + 1 + 1) + 1 + 1) + k ∧ Rd13 w g A n c p') (by kernel_rfl) (fun _ _ _ h1 h2 => h1.trans h2) (fun j v w w' h hg => sR_mono h hg) ?_ ?_ _ (gr_drewN _ _ _) ⟨((p + 1 + 1) + 1 + 1), Nat.le_refl _, Nat.le_refl _, HRK.out.grown (gr_drewN _ 1 none) (by simp) (by simp)⟩
      · intro a' w' hdf hgr hfar hall ⟨k9, hk9, p9, j1, j2, j3⟩
        have hk8 : k9 ≤ 2 := hk9
        obtain ⟨x, e2, hx⟩ : ∃ x, a'.tmps.getD 2 undef = .string x ∧ x.size ≤ 161 := hall 14 _ 2 rfl rfl
        have e2' : a'.tmps[2]?.getD undef = .string x := by rw [← e2]; simp
        go_wp2_with fail
        refine bodyPost_ret (v := .string x) (by simp [results, Try.results84, go_sem, e2']) hdf ?_
        exact ⟨x, p9, rfl, by omega, by omega, by omega, j3, HGK.out.trans hgr⟩
      refine ⟨?_, ?_, ?_, ?_, ?_, ?_, ?_, ?_, ?_, ?_, ?_, ?_, ?_, ?_, ?_, trivial⟩
      · intro a' w' k hdf hgr hfar hdep hJ hk
        have hkk : k ≤ 2 := by have h9 : spentAll cost7 15 = 2 := rfl; exact Nat.le_trans (Nat.le_add_right _ _) (h9 ▸ hk)
        have e3 : a'.tmps.getD 3 undef = .string s := hfar 3 (by kernel_rfl)
        go_simp
        exact ⟨_, rfl, gr_refl _ _, rfl, hJ⟩
      · intro a' w' k hdf hgr hfar hdep hJ hk
        have hkk : k ≤ 2 := by have h9 : spentAll cost7 15 = 2 := rfl; exact Nat.le_trans (Nat.le_add_right _ _) (h9 ▸ hk)
        have e4 : a'.tmps.getD 4 undef = .int .i64 i := hfar 4 (by kernel_rfl)
        go_simp
        exact ⟨_, rfl, gr_refl _ _, rfl, hJ⟩
      · intro a' w' k hdf hgr hfar hdep hJ hk
        have hkk : k ≤ 2 := by have h9 : spentAll cost7 15 = 2 := rfl; exact Nat.le_trans (Nat.le_add_right _ _) (h9 ▸ hk)
        have e29 : a'.tmps.getD 29 undef = .string s := hdep 0 _ 29 (by kernel_rfl) rfl rfl
        have e30 : a'.tmps.getD 30 undef = .int .i64 i := hdep 1 _ 30 (by kernel_rfl) rfl rfl
        have q1 : i ≤ ss := by omega
        go_simp
        exact ⟨_, rfl, gr_refl _ _, ⟨_, rfl, by simp only [ByteArray.size_extract]; omega⟩, hJ⟩
      · intro a' w' k hdf hgr hfar hdep hJ hk
        have hkk : k ≤ 2 := by have h9 : spentAll cost7 15 = 2 := rfl; exact Nat.le_trans (Nat.le_add_right _ _) (h9 ▸ hk)
        have e0 : a'.tmps.getD 0 undef = .pointer (some ⟨g, 0, none⟩) := hfar 0 (by kernel_rfl)
        go_simp
        exact ⟨_, rfl, gr_refl _ _, rfl, hJ⟩
      · intro a' w' k hdf hgr hfar hdep hJ hk
        have hkk : k ≤ 2 := by have h9 : spentAll cost7 15 = 2 := rfl; exact Nat.le_trans (Nat.le_add_right _ _) (h9 ▸ hk)
        go_simp
        obtain ⟨p9, j1, j2, j3⟩ := hJ
        exact ⟨_, rfl, gr_someG (World.grownBy_alloc _ _ none), ⟨w'.heap.size, rfl, strs_new w' s7L _, by have := j3.lt; omega⟩, ⟨p9, j1, j2, j3.grown (World.grownBy_alloc _ _ none) (by simp) (by simp)⟩⟩
      · intro a' w' k hdf hgr hfar hdep hJ hk
        have hkk : k ≤ 2 := by have h9 : spentAll cost7 15 = 2 := rfl; exact Nat.le_trans (Nat.le_add_right _ _) (h9 ▸ hk)
        have e32 : a'.tmps.getD 32 undef = .pointer (some ⟨g, 0, none⟩) := hdep 3 _ 32 (by kernel_rfl) rfl rfl
        obtain ⟨B, e33, hB, hBg⟩ : ∃ B, a'.tmps.getD 33 undef = .slice (some ⟨B, 0, none⟩) 7 7 ∧ Strs w' (some ⟨B, 0, none⟩) s7L ∧ B ≠ g := hdep 4 _ 33 (by kernel_rfl) rfl rfl
        obtain ⟨p9, j1, j2, j3⟩ := hJ
        go_simp
        refine (oftxt_any g n c p9 A _ 7 s7L w' j3 hB (fun b off e => by cases e; exact hBg) (by omega) hn2 (by decide) (by decide)).mono ?_
        rintro e w2 ⟨x, rfl, hx, hr, hg⟩
        exact ⟨_, rfl, hg, ⟨x, rfl, s7_size x hx⟩, ⟨p9 + 1, by omega, by simp only [cost7]; omega, hr⟩⟩
      · intro a' w' k hdf hgr hfar hdep hJ hk
        have hkk : k ≤ 2 := by have h9 : spentAll cost7 15 = 2 := rfl; exact Nat.le_trans (Nat.le_add_right _ _) (h9 ▸ hk)
        obtain ⟨x, e31, hx⟩ : ∃ x, a'.tmps.getD 31 undef = .string x ∧ x.size ≤ 80 := hdep 2 _ 31 (by kernel_rfl) rfl rfl
        obtain ⟨y, e34, hy⟩ : ∃ x, a'.tmps.getD 34 undef = .string x ∧ x.size ≤ 1 := hdep 5 _ 34 (by kernel_rfl) rfl rfl
        have q1 : ¬ 9223372036854775807 < x.size + y.size := by omega
        go_simp
        exact ⟨_, rfl, gr_refl _ _, ⟨_, rfl, by simp only [ByteArray.size_append]; omega⟩, hJ⟩
      · intro a' w' k hdf hgr hfar hdep hJ hk
        have hkk : k ≤ 2 := by have h9 : spentAll cost7 15 = 2 := rfl; exact Nat.le_trans (Nat.le_add_right _ _) (h9 ▸ hk)
        have e3 : a'.tmps.getD 3 undef = .string s := hfar 3 (by kernel_rfl)
        go_simp
        exact ⟨_, rfl, gr_refl _ _, rfl, hJ⟩
      · intro a' w' k hdf hgr hfar hdep hJ hk
        have hkk : k ≤ 2 := by have h9 : spentAll cost7 15 = 2 := rfl; exact Nat.le_trans (Nat.le_add_right _ _) (h9 ▸ hk)
        have e4 : a'.tmps.getD 4 undef = .int .i64 i := hfar 4 (by kernel_rfl)
        go_simp
        exact ⟨_, rfl, gr_refl _ _, rfl, hJ⟩
      · intro a' w' k hdf hgr hfar hdep hJ hk
        have hkk : k ≤ 2 := by have h9 : spentAll cost7 15 = 2 := rfl; exact Nat.le_trans (Nat.le_add_right _ _) (h9 ▸ hk)
        have e0 : a'.tmps.getD 0 undef = .pointer (some ⟨g, 0, none⟩) := hfar 0 (by kernel_rfl)
        go_simp
        exact ⟨_, rfl, gr_refl _ _, rfl, hJ⟩
      · intro a' w' k hdf hgr hfar hdep hJ hk
        have hkk : k ≤ 2 := by have h9 : spentAll cost7 15 = 2 := rfl; exact Nat.le_trans (Nat.le_add_right _ _) (h9 ▸ hk)
        have e38 : a'.tmps.getD 38 undef = .pointer (some ⟨g, 0, none⟩) := hdep 9 _ 38 (by kernel_rfl) rfl rfl
        obtain ⟨p9, j1, j2, j3⟩ := hJ
        go_simp
        refine (pick_any g n c p9 A 2 w' j3 (by omega) hn2 (by omega) (by omega)).mono ?_
        rintro e w2 ⟨x, rfl, hx0, hx1, hr, hg⟩
        exact ⟨_, rfl, hg, ⟨x, rfl, hx0, hx1⟩, ⟨p9 + 1, by omega, by simp only [cost7]; omega, hr⟩⟩
      · intro a' w' k hdf hgr hfar hdep hJ hk
        have hkk : k ≤ 2 := by have h9 : spentAll cost7 15 = 2 := rfl; exact Nat.le_trans (Nat.le_add_right _ _) (h9 ▸ hk)
        have e37 : a'.tmps.getD 37 undef = .int .i64 i := hdep 8 _ 37 (by kernel_rfl) rfl rfl
        obtain ⟨x, e39, hx0, hx1⟩ : ∃ x, a'.tmps.getD 39 undef = .int .i64 x ∧ 0 ≤ x ∧ x < 2 := hdep 10 _ 39 (by kernel_rfl) rfl rfl
        have q1 : IntKind.i64.wrap ((i : Int) + x) = (i : Int) + x := IntWalk.i64_in _ (by omega)
        go_simp
        exact ⟨_, rfl, gr_refl _ _, ⟨x, rfl, hx0, hx1⟩, hJ⟩
      · intro a' w' k hdf hgr hfar hdep hJ hk
        have hkk : k ≤ 2 := by have h9 : spentAll cost7 15 = 2 := rfl; exact Nat.le_trans (Nat.le_add_right _ _) (h9 ▸ hk)
        have e36 : a'.tmps.getD 36 undef = .string s := hdep 7 _ 36 (by kernel_rfl) rfl rfl
        obtain ⟨x, e40, hx0, hx1⟩ : ∃ x, a'.tmps.getD 40 undef = .int .i64 ((i : Int) + x) ∧ 0 ≤ x ∧ x < 2 := hdep 11 _ 40 (by kernel_rfl) rfl rfl
        obtain ⟨j, rfl⟩ : ∃ j : Nat, x = (j : Int) := ⟨x.toNat, by omega⟩
        have q1 : 0 ≤ (i : Int) + (j : Int) ∧ (i : Int) + (j : Int) ≤ (ss : Int) := by omega
        go_simp
        exact ⟨_, rfl, gr_refl _ _, ⟨_, rfl, by simp only [ByteArray.size_extract]; omega⟩, hJ⟩
      · intro a' w' k hdf hgr hfar hdep hJ hk
        have hkk : k ≤ 2 := by have h9 : spentAll cost7 15 = 2 := rfl; exact Nat.le_trans (Nat.le_add_right _ _) (h9 ▸ hk)
        obtain ⟨x, e35, hx⟩ : ∃ x, a'.tmps.getD 35 undef = .string x ∧ x.size ≤ 81 := hdep 6 _ 35 (by kernel_rfl) rfl rfl
        obtain ⟨y, e41, hy⟩ : ∃ x, a'.tmps.getD 41 undef = .string x ∧ x.size ≤ 80 := hdep 12 _ 41 (by kernel_rfl) rfl rfl
        have q1 : ¬ 9223372036854775807 < x.size + y.size := by omega
        go_simp
        exact ⟨_, rfl, gr_refl _ _, ⟨_, rfl, by simp only [ByteArray.size_append]; omega⟩, hJ⟩
      · intro a' w' k hdf hgr hfar hdep hJ hk
        have hkk : k ≤ 2 := by have h9 : spentAll cost7 15 = 2 := rfl; exact Nat.le_trans (Nat.le_add_right _ _) (h9 ▸ hk)
        obtain ⟨x, e42, hx⟩ : ∃ x, a'.tmps.getD 42 undef = .string x ∧ x.size ≤ 161 := hdep 13 _ 42 (by kernel_rfl) rfl rfl
        go_simp
        exact ⟨_, rfl, gr_refl _ _, ⟨x, rfl, hx⟩, hJ⟩
end

section
open Go.ChangeShapes Go.WideShapes Go.ChangeAt Go.RowKit Go.Joins Go.Deep

theorem laid_out_p : laidOutB Try.prog = true := by kernel_rfl
set_option maxHeartbeats 1000000 in
theorem open_anyT (A : Option Addr) (n c : Nat) (w : World) (h : Byts w A n) (hc : n ≤ c) (hn : n ≤ 9223372036854775807) :
    Calls Try.prog 85 #[.slice A n c] w fun e w' => e = .returned (.pointer (some ⟨w.heap.size, 0, none⟩)) ∧ (∃ n' c', n' ≤ 2000 ∧ Rd13 w' w.heap.size A n' c' 0 ∧ (0 < n' → ∀ b off, A = some ⟨b, off, none⟩ → b < w.heap.size)) ∧ w.grownBy w' none := by
  have key : ∀ n', n' ≤ n → Rd13 (w.alloc (.cells #[.slice A n' c, .int .i64 0] 180)) w.heap.size A n' c 0 ∧ (0 < n' → ∀ b off, A = some ⟨b, off, none⟩ → b < w.heap.size) := fun n' hn' => by
    have hlt : 0 < n' → ∀ b off, A = some ⟨b, off, none⟩ → b < w.heap.size := fun hp b off e => by
      obtain ⟨b2, off2, e2, hb, _⟩ := h (by omega)
      rw [e] at e2
      cases e2
      exact hb
    refine ⟨⟨Pr.new w _ _ _, ?_, fun hp b off e => Nat.ne_of_lt (hlt hp b off e)⟩, hlt⟩
    intro hp
    obtain ⟨b, off, e, hb, hcc⟩ := h (by omega)
    refine ⟨b, off, e, by simp; omega, fun k hk => ?_⟩
    obtain ⟨x, h1, h2⟩ := hcc k (by omega)
    exact ⟨x, (World.grownBy_alloc w _ none).cell h1 (by simp), h2⟩
  have KEY := Lib.hid key
  clear key
  by_cases hb : 2000 < n
  · have hA : ∃ a, A = some a := by obtain ⟨b, off, e, _⟩ := h (by omega); exact ⟨_, e⟩
    obtain ⟨a, rfl⟩ := hA
    have hc0 : ¬ c = 0 := by omega
    clear h
    go_enter Try.func85, Try.ntmps85
    go_wp2_with fail
    go_ret
    exact ⟨rfl, ⟨2000, c, Nat.le_refl _, KEY.out 2000 (by omega)⟩, World.grownBy_alloc _ _ _⟩
  · clear h
    go_enter Try.func85, Try.ntmps85
    go_wp2_with fail
    go_ret
    exact ⟨rfl, ⟨n, c, by omega, KEY.out n (Nat.le_refl _)⟩, World.grownBy_alloc _ _ _⟩


set_option maxRecDepth 100000 in
/-- Bytes that came in as an argument. -/
theorem open_bytsT {H : Type} {enc : TypeId × Value → H} {W : World} {base : Nat} {v : Value} {d : DataW H} {p : List MemPlace} (hval : Value.okWide Try.prog W .any base 27 v) (h : DataW.Trod enc Try.prog W 0 (fun _ => true) true 27 v d p) :
    ∃ A n c, v = .slice A n c ∧ n ≤ c ∧ n ≤ 9223372036854775807 ∧ Byts W A n := by
  obtain ⟨E0, len, cap, rfl⟩ := okWide_slice Try.underlying27 hval
  have h1' := h
  obtain ⟨fuel, h1'⟩ := h1'
  simp only [Value.cells] at h1'
  have hmx : maxLen ≤ 9223372036854775807 := by simp [maxLen]
  rcases open_ints Try.underlying27 Try.underlying5 (by kernel_rfl) h1' with ⟨hcs, _⟩ | ⟨a, len', cap', zs, hcs, _, hl, hm, hz, _, hcell, hwz⟩
  · simp only [List.cons.injEq, and_true] at hcs
    cases hcs
    exact ⟨none, 0, 0, rfl, Nat.le_refl _, by omega, fun h => by omega⟩
  · simp only [List.cons.injEq, and_true] at hcs
    cases hcs
    simp only [if_true] at hz
    refine ⟨some a, _, _, rfl, hl, by omega, fun hpos => ?_⟩
    obtain ⟨b, off, spot⟩ := a
    have hspot : spot = none := by simpa [Addr.add] using World.cell?_spot (hcell 0 (by omega))
    subst hspot
    have hc0 := hcell 0 (by omega)
    rw [addr_flat] at hc0
    refine ⟨b, off, rfl, World.block_lt_of_cell? W _ hc0, fun k hk => ?_⟩
    have hck := hcell k (by omega)
    rw [addr_flat] at hck
    refine ⟨_, hck, ?_⟩
    have hmem : zs.getD k 0 ∈ zs := by
      rw [List.getD_eq_getElem?_getD, List.getElem?_eq_getElem (by omega)]
      exact List.getElem_mem _
    exact bounds_u8 (hwz _ hmem)


theorem gr_row5 {w w1 w2 : World} {row : Option Nat} (h : w.grownBy w1 none) (h2 : w1.grownBy w2 row) (hr : ∀ k, row = some k → w.heap.size ≤ k) : w.grownBy w2 none :=
  ⟨h2.os.trans h.os, h2.tape.trans h.tape, h2.output.trans h.output, Nat.le_trans h.size h2.size, fun k hk hn => (h2.block k (Nat.lt_of_lt_of_le hk h.size) (fun e => by have := hr k e.symm; omega)).trans (h.block k hk hn)⟩

/-- How a drawn text comes. -/
def TxtP (w : World) (e : Ending) (w' : World) : Prop := ∃ s, e = .returned (.string s) ∧ s.size ≤ 161 ∧ w.grownBy w' none

theorem drawparts_any (A : Option Addr) (n c : Nat) (w : World) (h : Byts w A n) (hc : n ≤ c) (hn : n ≤ 9223372036854775807) :
    Calls Try.prog 19 #[.slice A n c] w (TxtP w) := by
  have HO := Lib.hid (open_anyT A n c w h hc hn)
  clear h hc hn
  go_enter Try.func19, Try.ntmps19
  go_wp2_with fail
  refine HO.out.mono ?_
  rintro e w1 ⟨rfl, ⟨n', c', hn', hr, _⟩, hg⟩
  have HS := Lib.hid (some_any w.heap.size n' c' 0 A w1 hr (by omega) hn')
  have HG := Lib.hid hg
  clear hr hg
  go_wp2_with fail
  refine HS.out.mono ?_
  rintro e w2 ⟨s, p', rfl, hs, _, _, _, hg2⟩
  have HG2 := Lib.hid (gr_row5 HG.out hg2 (fun k e => by cases e; exact Nat.le_refl _))
  clear hg2
  go_wp2_with fail
  go_ret
  exact ⟨s, rfl, hs, HG2.out⟩

theorem Strs.at_ {w : World} {A : Option Addr} {ss : List ByteArray} {j : Nat} {s : ByteArray} (h : Strs w A ss) (hj : ss[j]? = some s) : ∃ b off, A = some ⟨b, off, none⟩ ∧ w.cell? ⟨b, off + j, none⟩ = some (.string s) := by
  obtain ⟨b, off, e, _, hc⟩ := h (by have := (List.getElem?_eq_some_iff.1 hj).1; omega)
  exact ⟨b, off, e, hc j s hj⟩

set_option maxHeartbeats 1000000 in
theorem fatexts_any (A B : Option Addr) (c d : Nat) (ss : List ByteArray) (w : World) (h : Strs w A ss) (h2 : Strs w B ss) (hn : ss.length ≤ 1048576) :
    Calls Try.prog 22 #[.slice A ss.length c, .slice B ss.length d] w fun e w' => e = .returned (.bool true) ∧ ∃ m, w' = w.drewN m := by
  have HS := Lib.hid h
  have HS2 := Lib.hid h2
  obtain ⟨n, hnn⟩ : ∃ n, ss.length = n := ⟨_, rfl⟩
  have HN := Lib.hid hnn
  rw [hnn] at hn ⊢
  clear h h2 hnn
  have hnn : ((n : Int) == (n : Int)) = true := by simp
  go_enter Try.func22, Try.ntmps22
  go_wp2_with fail
  go_loopw [11] (fun i wr => ∃ j : Nat, j ≤ n ∧ i = .int .i64 j ∧ Hid (∃ m, wr = w.drewN m)) (fun i _ => n - (intOf i).toNat)
  case atStart => exact ⟨0, Nat.zero_le _, rfl, Lib.hid ⟨0, rfl⟩⟩
  case round =>
    obtain ⟨j, hj, rfl, hgr⟩ := hrel
    have hgr2 : w.grownBy wr none := by obtain ⟨m, rfl⟩ := hgr.out; exact gr_drewN _ _ _
    have HGR := Lib.hid hgr2
    clear hgr2
    by_cases hlt : j < n
    · obtain ⟨z, hz⟩ : ∃ z, ss[j]? = some z := ⟨_, List.getElem?_eq_getElem (by have := HN.out; omega)⟩
      obtain ⟨b, off, rfl, hcell⟩ := (HS.out.grown HGR.out).at_ hz
      obtain ⟨b2, off2, rfl, hcell2⟩ := (HS2.out.grown HGR.out).at_ hz
      have hj0 : (0 : Int) ≤ (j : Int) := by omega
      have hj1 : (j : Int) < (n : Int) := by omega
      clear hz
      go_wp2_with fail
      go_quiet (fail)
      go_wp2_with fail
      go_roundw
      case rel => exact ⟨j + 1, by omega, by go_num, Lib.hid (by obtain ⟨m, rfl⟩ := hgr.out; exact ⟨m + _, World.drewN_drewN _ _ _⟩)⟩
      case measure => simp [intOf]; omega
    · go_wp2_with fail
      go_ret
      exact ⟨rfl, hgr.out⟩
end
end

section
open Go.RowKit

def v7L : List ByteArray := [⟨#[97]⟩, ⟨#[98]⟩, ⟨#[120]⟩, ⟨#[121]⟩, ⟨#[97]⟩, ⟨#[51]⟩, ⟨#[113]⟩]
def u9L : List ByteArray := [⟨#[97]⟩, ⟨#[91, 120, 58, 97, 62, 49, 93]⟩, ⟨#[120]⟩, ⟨#[82, 97]⟩, ⟨#[98]⟩, ⟨#[73, 51]⟩, ⟨#[121]⟩, ⟨#[113]⟩, ⟨#[40, 120, 43, 49, 41]⟩]
theorem v7_size : ∀ s ∈ v7L, s.size ≤ 10 := by
  intro s hs
  simp only [v7L, List.mem_cons, List.not_mem_nil, or_false] at hs
  rcases hs with rfl | rfl | rfl | rfl | rfl | rfl | rfl <;> decide
theorem u9_size : ∀ s ∈ u9L, s.size ≤ 10 := by
  intro s hs
  simp only [u9L, List.mem_cons, List.not_mem_nil, or_false] at hs
  rcases hs with rfl | rfl | rfl | rfl | rfl | rfl | rfl | rfl | rfl <;> decide

/-- How three drawn texts come. -/
def TxtP3 (w : World) (e : Ending) (w' : World) : Prop := ∃ t v u, e = .returned (.tuple #[.string t, .string v, .string u]) ∧ t.size ≤ 161 ∧ v.size ≤ 10 ∧ u.size ≤ 10 ∧ w.grownBy w' none

set_option maxRecDepth 100000 in
set_option maxHeartbeats 4000000 in
theorem drawrep_any (A : Option Addr) (n c : Nat) (w : World) (h : Byts w A n) (hc : n ≤ c) (hn : n ≤ 9223372036854775807) :
    Calls Try.prog 36 #[.slice A n c] w (TxtP3 w) := by
  have HO := Lib.hid (open_anyT A n c w h hc hn)
  clear h hc hn
  go_enter Try.func36, Try.ntmps36
  go_wp2_with fail
  refine HO.out.mono ?_
  rintro e w1 ⟨rfl, ⟨n', c', hn', hr, _⟩, hg⟩
  obtain ⟨g, hgg⟩ : ∃ g, w.heap.size = g := ⟨_, rfl⟩
  rw [hgg] at hr ⊢
  have HS := Lib.hid (some_any g n' c' 0 A w1 hr (by omega) hn')
  have HG := Lib.hid hg
  have HGG := Lib.hid hgg
  clear hr hg hgg
  go_wp2_with fail
  refine HS.out.mono ?_
  rintro e w2 ⟨t, p', rfl, ht, _, hp, hr2, hg2⟩
  have HR2 := Lib.hid (hr2.grown (World.grownBy_alloc w2 (.cells (List.toArray (List.map Value.string v7L)) 9) none) (by simp) (by simp))
  have HG2 := Lib.hid (gr_row5 HG.out hg2 (fun k e => by cases e; have := HGG.out; omega))
  have hlt2 := hr2.lt
  clear hr2 hg2
  go_wp2_with fail
  refine (oftxt_any g n' c' p' A _ 7 v7L _ HR2.out (strs_new w2 v7L _) (fun b off e => by cases e; omega) (by omega) hn' (by decide) (by decide)).mono ?_
  rintro e w3 ⟨v, rfl, hv, hr3, hg3⟩
  have HV := Lib.hid (v7_size v hv)
  have HR3 := Lib.hid (hr3.grown (World.grownBy_alloc w3 (.cells (List.toArray (List.map Value.string u9L)) 9) none) (by simp) (by simp))
  have HG3 := Lib.hid (gr_row5 (HG2.out.trans (World.grownBy_alloc w2 _ none)) hg3 (fun k e => by cases e; have := HGG.out; omega))
  have hlt3 := hr3.lt
  clear hr3 hg3 hv
  go_wp2_with fail
  refine (oftxt_any g n' c' (p' + 1) A _ 9 u9L _ HR3.out (strs_new w3 u9L _) (fun b off e => by cases e; omega) (by omega) hn' (by decide) (by decide)).mono ?_
  rintro e w4 ⟨u, rfl, hu, hr4, hg4⟩
  have HU := Lib.hid (u9_size u hu)
  have HG4 := Lib.hid (gr_row5 (HG3.out.trans (World.grownBy_alloc w3 _ none)) hg4 (fun k e => by cases e; have := HGG.out; omega))
  clear hr4 hg4 hu
  go_wp2_with fail
  refine bodyPost_ret (v := .tuple #[.string t, .string v, .string u]) (by simp [results, Try.results36, go_sem]) rfl ?_
  exact ⟨t, v, u, rfl, ht, HV.out, HU.out, HG4.out⟩

theorem strs_ownR {w : World} {B : Nat} {sv : Value} {ss : List ByteArray} (h : w.ownsRow B 9 1 sv ss.length (strV ss)) : ∃ A c, sv = .slice A ss.length c ∧ Strs w A ss := by
  obtain ⟨A, m, c, rfl⟩ := own_form h
  obtain rfl := own_len h
  refine ⟨A, c, rfl, fun hl => ?_⟩
  obtain ⟨_, _, hrow⟩ := orow h
  obtain ⟨g, rfl, _, hg, hc⟩ := hrow hl
  refine ⟨g, 0, rfl, hg, fun j s hj => ?_⟩
  rw [Nat.zero_add]
  exact hc j _ (by simp [strV, hj])
theorem partsA_size {t : ByteArray} : ∀ z ∈ partsA t, z.size ≤ 161 := by
  intro z hz
  unfold partsA at hz
  cases hr : readT t with
  | none => rw [hr] at hz; cases hz
  | some T =>
    rw [hr] at hz
    obtain ⟨k, hk, rfl⟩ := List.mem_map.1 hz
    have h1 := (Tm.kids_ok (readT_some hr).2.2.1 hk).2
    have h2 := readT_len hr
    have h3 := (readT_some hr).1
    rw [bytesOf_size]
    omega

set_option maxRecDepth 100000 in
set_option maxHeartbeats 4000000 in
theorem drawfree_any (A : Option Addr) (n c : Nat) (w : World) (h : Byts w A n) (hc : n ≤ c) (hn : n ≤ 9223372036854775807) :
    Calls Try.prog 37 #[.slice A n c] w (TxtP w) := by
  have HO := Lib.hid (open_anyT A n c w h hc hn)
  clear h hc hn
  go_enter Try.func37, Try.ntmps37
  go_wp2_with fail
  refine HO.out.mono ?_
  rintro e w1 ⟨rfl, ⟨n', c', hn', hr, _⟩, hg⟩
  obtain ⟨g, hgg⟩ : ∃ g, w.heap.size = g := ⟨_, rfl⟩
  rw [hgg] at hr ⊢
  have HS := Lib.hid (some_any g n' c' 0 A w1 hr (by omega) hn')
  have HG := Lib.hid hg
  have HGG := Lib.hid hgg
  clear hr hg hgg
  go_wp2_with fail
  refine HS.out.mono ?_
  rintro e w2 ⟨s, p', rfl, hs, _, hp, hr2, hg2⟩
  have HG2 := Lib.hid (gr_row5 HG.out hg2 (fun k e => by cases e; have := HGG.out; omega))
  have HR2 := Lib.hid hr2
  have HP := Lib.hid (tpts_spec s (by omega) w2)
  have HZ := Lib.hid (partsA_size (t := s))
  have HNB := Lib.hid (partsA_len s)
  obtain ⟨PP, hPP⟩ : ∃ P, partsA s = P := ⟨_, rfl⟩
  rw [hPP] at HP HZ HNB
  clear hr2 hg2 hPP
  go_wp2_with fail
  refine HP.out.mono ?_
  rintro e w3 ⟨sv, rfl, hg3, ho3⟩
  obtain ⟨A3, c3, rfl, hs3⟩ := strs_ownR ho3
  have HG3 := Lib.hid (HG2.out.trans hg3)
  have HR3 := Lib.hid (HR2.out.grown hg3 (by simp) (by simp))
  have HS3 := Lib.hid hs3
  have hlt2 := HR2.out.lt
  have HSG := Lib.hid (fun b off (e : A3 = some ⟨b, off, none⟩) => show w2.heap.size ≤ b from by
    subst e
    exact (ho3.lt b rfl).1)
  obtain ⟨np, hnp⟩ : ∃ k, PP.length = k := ⟨_, rfl⟩
  have HNP := Lib.hid hnp
  have hnb : np ≤ 1000000 := by have := HNB.out; omega
  rw [hnp]
  clear hg3 ho3 hs3 hnp
  by_cases h0 : np = 0
  · subst h0
    go_wp2_with fail
    go_ret
    exact ⟨s, rfl, hs, HG3.out⟩
  · have h1 : 0 < np := by omega
    have HK := Lib.hid (pick_any g n' c' p' A 2 w3 HR3.out (by omega) hn' (by omega) (by omega))
    go_wp2_with fail
    refine HK.out.mono ?_
    rintro e w4 ⟨x, rfl, hx0, hx1, hr4, hg4⟩
    have HG4 := Lib.hid (gr_row5 HG3.out hg4 (fun k e => by cases e; have := HGG.out; omega))
    by_cases hx : x = 0
    · subst hx
      obtain ⟨q, rfl⟩ : ∃ q, np = q + 1 := ⟨np - 1, by omega⟩
      obtain ⟨z, hz⟩ : ∃ z, PP[q]? = some z := ⟨_, List.getElem?_eq_getElem (by have := HNP.out; omega)⟩
      have hzs := HZ.out z (List.mem_of_getElem? hz)
      obtain ⟨b5, off5, rfl, hc0⟩ := (HS3.out.grownG hg4 (fun b off e => by
        cases e
        have := HSG.out b off rfl
        simp; omega)).at_ hz
      have hq1 : ((q + 1 : Nat) : Int) - 1 = (q : Int) := by omega
      go_wp2_with fail
      go_ret
      exact ⟨z, rfl, hzs, HG4.out⟩
    · have hxb : (x == 0) = false := by rw [beq_eq_false_iff_ne]; exact hx
      go_wp2_with fail
      go_ret
      exact ⟨s, rfl, hs, HG4.out⟩
end

section
section
open Go.RowKit

abbrev TE : TypeId := 187
def pve (P : List Int) : Array Value := (P.map (Value.int .i64)).toArray
theorem pve_size (P : List Int) : (pve P).size = P.length := by simp [pve]
theorem zeroE : (∀ w, (zeroValue TE).run Try.prog w = .ok (.agg (Array.replicate 256 (.int .i64 0))) w) ∧ (Try.prog.info? TE).map (·.size) = some 256 := zero_of_info (by kernel_rfl)
theorem underE : Try.prog.underlying TE = some (.array 256 3) := by kernel_rfl
theorem pve_zero : pve (List.replicate 256 0) = Array.replicate 256 (.int .i64 0) := by
  simp only [pve, List.map_replicate, List.toArray_replicate]

/-- A block that holds an array of 256 numbers. -/
def A256 (w : World) (g : Nat) (P : List Int) : Prop := w.heap[g]? = some (.cells (pve P) TE (0, 0)) ∧ P.length = 256
theorem A256.lt {w : World} {g : Nat} {P : List Int} (h : A256 w g P) : g < w.heap.size := (Array.getElem?_eq_some_iff.1 h.1).1
theorem A256.new (w : World) {P : List Int} (h : P.length = 256) : A256 (w.alloc (.cells (pve P) TE)) w.heap.size P := ⟨heap_alloc_last w _, h⟩
theorem A256.grown {w w' : World} {g : Nat} {P : List Int} {row : Option Nat} (h : A256 w g P) (hg : w.grownBy w' row) (hne : some g ≠ row) : A256 w' g P := ⟨(hg.block g h.lt hne).trans h.1, h.2⟩
theorem A256.own {w : World} {g : Nat} {P : List Int} (h : A256 w g P) : w.ownsRow 0 TE 1 (.slice (some ⟨g, 0, none⟩) 256 256) 256 (P.map (Value.int .i64)) :=
  ⟨by simp [h.2], .inr ⟨g, 256, pve P, rfl, Nat.zero_le _, h.1, Nat.le_refl _, by simp [maxLen], by rw [pve_size, h.2], by simp [pve]; rw [← h.2, ← List.length_map (f := Value.int .i64), List.take_length]⟩⟩
theorem A256.cell {w : World} {g : Nat} {P : List Int} (h : A256 w g P) {j : Nat} {x : Int} (hj : P[j]? = some x) : w.cell? ⟨g, j, none⟩ = some (.int .i64 x) := by
  have hl := (List.getElem?_eq_some_iff.1 hj).1
  have h1 := h.own.cellAt j (by have := h.2; omega)
  rw [h1, List.getElem?_map, hj]
  rfl
theorem A256.frozen {w : World} {g : Nat} {P : List Int} (h : A256 w g P) (j : Nat) : w.frozen? ⟨g, j, none⟩ = false := h.own.frozenAt j
theorem A256.set {w : World} {g : Nat} {P : List Int} (h : A256 w g P) (j : Nat) (x : Int) : A256 (w.setCell ⟨g, j, none⟩ (.int .i64 x)) g (P.set j x) ∧ w.grownBy (w.setCell ⟨g, j, none⟩ (.int .i64 x)) (some g) := by
  refine ⟨⟨?_, by rw [List.length_set]; exact h.2⟩, (h.own.stored j _).2⟩
  rw [heap_setCell_same w g j (pve P) TE (.int .i64 x) h.1]
  simp [pve, List.map_set]

/-- .. that says what depths variables have. -/
def EnvAt (w : World) (g : Nat) (e : Int → Int) : Prop := ∃ P, A256 w g P ∧ ∀ k : Nat, k < 256 → P[k]? = some (e (k : Int))
theorem EnvAt.lt {w : World} {g : Nat} {e : Int → Int} (h : EnvAt w g e) : g < w.heap.size := by
  obtain ⟨P, h1, _⟩ := h
  exact h1.lt
theorem EnvAt.grown {w w' : World} {g : Nat} {e : Int → Int} (h : EnvAt w g e) (hg : w.grownBy w' none) : EnvAt w' g e := by
  obtain ⟨P, h1, h2⟩ := h
  exact ⟨P, h1.grown hg (by simp), h2⟩
theorem EnvAt.cell {w : World} {g : Nat} {e : Int → Int} (h : EnvAt w g e) {k : Nat} (hk : k < 256) : w.cell? ⟨g, k, none⟩ = some (.int .i64 (e (k : Int))) := by
  obtain ⟨P, h1, h2⟩ := h
  exact h1.cell (h2 k hk)
theorem EnvAt.frozen {w : World} {g : Nat} {e : Int → Int} (h : EnvAt w g e) (k : Nat) : w.frozen? ⟨g, k, none⟩ = false := by
  obtain ⟨P, h1, _⟩ := h
  exact h1.frozen k
theorem EnvAt.set {w : World} {g : Nat} {e : Int → Int} (h : EnvAt w g e) (k : Nat) (d : Int) : EnvAt (w.setCell ⟨g, k, none⟩ (.int .i64 d)) g (upd e k d) ∧ w.grownBy (w.setCell ⟨g, k, none⟩ (.int .i64 d)) (some g) := by
  obtain ⟨P, h1, h2⟩ := h
  refine ⟨⟨_, (h1.set k d).1, fun j hj => ?_⟩, (h1.set k d).2⟩
  rw [List.getElem?_set]
  unfold upd
  by_cases hjk : k = j
  · subst hjk
    simp
    rw [h1.2]; exact hj
  · have : ¬ ((j : Int) = (k : Int)) := by omega
    rw [if_neg hjk, if_neg this]
    exact h2 j hj
theorem upd_back (e : Int → Int) (k d : Int) : upd (upd e k d) k (e k) = e := by
  funext c
  unfold upd
  by_cases h : c = k
  · rw [if_pos h, h]
  · rw [if_neg h, if_neg h]

set_option maxRecDepth 100000 in
set_option maxHeartbeats 2000000 in
theorem sstart_any (w : World) :
    Calls Try.prog 91 #[] w fun e w' => ∃ g, e = .returned (.pointer (some ⟨g, 0, none⟩)) ∧ w.heap.size ≤ g ∧ w.grownBy w' none ∧ EnvAt w' g env0 := by
  have hz : ∀ w, (zeroValue 187).run Try.prog w = .ok (.agg (Array.replicate 256 (.int .i64 0))) w := zeroE.1
  have HA0 := Lib.hid (by have := A256.new w (P := List.replicate 256 0) (by simp); rw [pve_zero] at this; exact this)
  have HG0 := Lib.hid (World.grownBy_alloc w (.cells (Array.replicate 256 (.int .i64 0)) TE) none)
  go_enter Try.func91, Try.ntmps91
  go_wp2_with fail
  go_loopw [5] (fun i wr => ∃ (j : Nat) (P : List Int), j ≤ 256 ∧ i = .int .i64 j ∧ Hid (A256 wr w.heap.size P) ∧ Hid (∀ k : Nat, k < j → P[k]? = some (-1)) ∧ Hid (w.grownBy wr none)) (fun i _ => 256 - (intOf i).toNat)
  case atStart => exact ⟨0, _, Nat.zero_le _, rfl, HA0, Lib.hid (fun k hk => by omega), HG0⟩
  case round =>
    obtain ⟨j, P, hj, rfl, ha, hp, hgr⟩ := hrel
    have hfr := ha.out.frozen
    by_cases hlt : j < 256
    · have hpl := ha.out.2
      obtain ⟨x, hx⟩ : ∃ x, P[j]? = some x := ⟨_, List.getElem?_eq_getElem (by omega)⟩
      have hcell := ha.out.cell hx
      have hset := ha.out.set j (-1)
      have HST := Lib.hid hset
      have HP2 : Hid (∀ k : Nat, k < j + 1 → (P.set j (-1))[k]? = some (-1)) := Lib.hid (fun k hk => by
        rw [List.getElem?_set]
        by_cases hjk : j = k
        · rw [if_pos hjk, if_pos (by rw [hpl]; exact hlt)]
        · rw [if_neg hjk]; exact hp.out k (by omega))
      clear hset hx hpl
      go_wp2_with fail
      go_roundw
      case rel => exact ⟨j + 1, _, by omega, by go_num, Lib.hid HST.out.1, HP2, Lib.hid (gr_new hgr.out HST.out.2 (Nat.le_refl _))⟩
      case measure => simp [intOf]; omega
    · obtain rfl : j = 256 := by omega
      have he : EnvAt wr w.heap.size (fun _ => -1) := ⟨P, ha.out, hp.out⟩
      have h1 := he.set 97 1
      have h2 := h1.1.set 98 2
      have HE1 := Lib.hid h1
      have HE2 := Lib.hid h2
      have c97 := he.cell (k := 97) (by omega)
      have c98 := h1.1.cell (k := 98) (by omega)
      have f98 := h1.1.frozen 98
      have hfr97 := he.frozen 97
      clear h1 h2 he
      go_wp2_with fail
      go_ret
      refine ⟨_, rfl, Nat.le_refl _, gr_new (gr_new hgr.out HE1.out.2 (Nat.le_refl _)) HE2.out.2 (Nat.le_refl _), ?_⟩
      have := HE2.out.1
      rw [show env0 = upd (upd (fun _ => -1) ((97 : Nat) : Int) 1) ((98 : Nat) : Int) 2 from by
        funext c
        unfold env0 upd
        by_cases h1 : c = 97
        · subst h1; rfl
        · simp [h1]]
      exact this
end

section
open Go.RowKit

/-- How it ends: with the depth; the array says what it said; nothing else has turned. -/
def SDP (x : Int) (g : Nat) (en : Int → Int) (w : World) (e : Ending) (w' : World) : Prop := e = .returned (.int .i64 x) ∧ w.grownBy w' (some g) ∧ EnvAt w' g en

theorem gr_some {w w' : World} (g : Nat) (h : w.grownBy w' none) : w.grownBy w' (some g) := ⟨h.os, h.tape, h.output, h.size, fun k hk _ => h.block k hk (by simp)⟩

set_option maxRecDepth 100000 in
set_option maxHeartbeats 1000000 in
theorem sdep_dig (b : Int) (A : Option Addr) (c g : Nat) (en : Int → Int) (w : World) (he : EnvAt w g en) :
    Calls Try.prog 92 #[.pointer (some ⟨g, 0, none⟩), .agg #[.int .u8 48, .int .u8 b, .slice A 0 c]] w (SDP 0 g en w) := by
  have HX := Lib.hid (c3_new w (.int .u8 48) (.int .u8 b) (.slice A 0 c) 70)
  have x0 := HX.out.c0
  have x2 := HX.out.c2
  have HE := Lib.hid he
  clear he
  go_enter Try.func92, Try.ntmps92
  go_wp2_with fail
  go_ret
  exact ⟨rfl, gr_some g (World.grownBy_alloc _ _ _), HE.out.grown (World.grownBy_alloc _ _ _)⟩

set_option maxRecDepth 100000 in
set_option maxHeartbeats 1000000 in
theorem sdep_var (k : Nat) (hk : k < 256) (A : Option Addr) (c g : Nat) (en : Int → Int) (w : World) (he : EnvAt w g en) :
    Calls Try.prog 92 #[.pointer (some ⟨g, 0, none⟩), .agg #[.int .u8 97, .int .u8 (k : Int), .slice A 0 c]] w (SDP (en k) g en w) := by
  have HX := Lib.hid (c3_new w (.int .u8 97) (.int .u8 (k : Int)) (.slice A 0 c) 70)
  have x0 := HX.out.c0
  have x1 := HX.out.c1
  have x2 := HX.out.c2
  have HG := Lib.hid (World.grownBy_alloc w (.cells #[.int .u8 97, .int .u8 (k : Int), .slice A 0 c] 70) none)
  have HE := Lib.hid (he.grown HG.out)
  have hcell := HE.out.cell hk
  generalize en (k : Int) = r at hcell ⊢
  clear he
  go_enter Try.func92, Try.ntmps92
  go_wp2_with fail
  go_quiet (fail)
  go_wp2_with fail
  go_ret
  exact ⟨rfl, (gr_some g HG.out).trans (gr_drewN _ _ _), HE.out.grown (gr_drewN _ _ _)⟩

set_option maxRecDepth 100000 in
set_option maxHeartbeats 2000000 in
theorem sdep_pre (a d a2 b2 : Int) (A A2 : Option Addr) (c k2 c2 g : Nat) (en : Int → Int) (w : World) (hd : -1 ≤ d ∧ d ≤ 3) (he : EnvAt w g en)
    (ho : w.ownsRow 0 70 3 (.slice A 1 c) 1 (flat3 [(a2, b2, .slice A2 k2 c2)]))
    (ih : ∀ u : World, w.grownBy u (some g) → EnvAt u g en → Calls Try.prog 92 #[.pointer (some ⟨g, 0, none⟩), .agg #[.int .u8 a2, .int .u8 b2, .slice A2 k2 c2]] u (SDP d g en u)) :
    Calls Try.prog 92 #[.pointer (some ⟨g, 0, none⟩), .agg #[.int .u8 a, .int .u8 0, .slice A 1 c]] w (SDP (dOne a d) g en w) := by
  obtain ⟨-, -, hrow⟩ := srow3 (xs := [(a2, b2, .slice A2 k2 c2)]) ho
  obtain ⟨gr, rfl, hgr1, hcell⟩ := hrow (by omega)
  obtain ⟨q0, q1, q2⟩ := hcell 0 _ rfl
  simp only [Nat.zero_mul, Nat.zero_add] at q0 q1 q2
  have HX := Lib.hid (c3_new w (.int .u8 a) (.int .u8 0) (.slice (some ⟨gr, 0, none⟩) 1 c) 70)
  have x0 := HX.out.c0
  have x2 := HX.out.c2
  have HG := Lib.hid (World.grownBy_alloc w (.cells #[.int .u8 a, .int .u8 0, .slice (some ⟨gr, 0, none⟩) 1 c] 70) none)
  have h0 := HG.out.cell q0 (by simp)
  have h1 := HG.out.cell q1 (by simp)
  have h2 := HG.out.cell q2 (by simp)
  have HE := Lib.hid (he.grown HG.out)
  have hlt : g < w.heap.size := he.lt
  have HD := Lib.hid (fun w => done_any a d w hd)
  generalize dOne a d = r at HD ⊢
  have HC := Lib.hid ih
  clear hcell hrow ho ih q0 q1 q2 he
  go_enter Try.func92, Try.ntmps92
  go_wp2_with fail
  go_region_law (first
    | (go_simp
       go_at_call 150
       refine (HD.out _).mono ?_
       rintro e wb ⟨rfl, rfl⟩
       have HDONE := Lib.hid True.intro)
    | (go_simp
       go_at_call 92
       refine (HC.out _ ((gr_some g HG.out).trans (gr_drewN _ 1 _)) (HE.out.grown (gr_drewN _ 1 _))).mono ?_
       rintro e wa ⟨rfl, hga, hea⟩
       have HGa := Lib.hid ((gr_drewN (w.alloc (.cells #[.int .u8 a, .int .u8 0, .slice (some ⟨gr, 0, none⟩) 1 c] 70)) 1 (some g)).trans hga)
       have HEa := Lib.hid hea
       have x0a := HGa.out.cell x0 (by simp; omega)
       clear hga hea))
  all_goals
    go_wp2_with fail
  all_goals
    go_ret
    exact ⟨rfl, (gr_some g HG.out).trans HGa.out, HEa.out⟩

set_option maxRecDepth 100000 in
set_option maxHeartbeats 2000000 in
theorem sdep_two (a d1 d2 a2 b2 a3 b3 : Int) (A A2 A3 : Option Addr) (c k2 c2 k3 c3 g : Nat) (en : Int → Int) (w : World) (he : EnvAt w g en)
    (hne : ∀ x, (Value.slice A 2 c).ownBlock = some x → x ≠ g)
    (ho : w.ownsRow 0 70 3 (.slice A 2 c) 2 (flat3 [(a2, b2, .slice A2 k2 c2), (a3, b3, .slice A3 k3 c3)]))
    (ih1 : ∀ u : World, w.grownBy u (some g) → EnvAt u g en → Calls Try.prog 92 #[.pointer (some ⟨g, 0, none⟩), .agg #[.int .u8 a2, .int .u8 b2, .slice A2 k2 c2]] u (SDP d1 g en u))
    (ih2 : ∀ u : World, w.grownBy u (some g) → EnvAt u g en → Calls Try.prog 92 #[.pointer (some ⟨g, 0, none⟩), .agg #[.int .u8 a3, .int .u8 b3, .slice A3 k3 c3]] u (SDP d2 g en u)) :
    Calls Try.prog 92 #[.pointer (some ⟨g, 0, none⟩), .agg #[.int .u8 a, .int .u8 0, .slice A 2 c]] w (SDP (dTwo a d1 d2) g en w) := by
  obtain ⟨-, -, hrow⟩ := srow3 (xs := [(a2, b2, .slice A2 k2 c2), (a3, b3, .slice A3 k3 c3)]) ho
  obtain ⟨gr, rfl, hgr1, hcell⟩ := hrow (by omega)
  obtain ⟨q0, q1, q2⟩ := hcell 0 _ rfl
  obtain ⟨q3, q4, q5⟩ := hcell 1 _ rfl
  simp only [Nat.zero_mul, Nat.zero_add, Nat.one_mul] at q0 q1 q2 q3 q4 q5
  have HX := Lib.hid (c3_new w (.int .u8 a) (.int .u8 0) (.slice (some ⟨gr, 0, none⟩) 2 c) 70)
  have x0 := HX.out.c0
  have x1 := HX.out.c1
  have x2 := HX.out.c2
  have HG := Lib.hid (World.grownBy_alloc w (.cells #[.int .u8 a, .int .u8 0, .slice (some ⟨gr, 0, none⟩) 2 c] 70) none)
  have h0 := HG.out.cell q0 (by simp)
  have h1 := HG.out.cell q1 (by simp)
  have h2 := HG.out.cell q2 (by simp)
  have h3 := HG.out.cell q3 (by simp)
  have h4 := HG.out.cell q4 (by simp)
  have h5 := HG.out.cell q5 (by simp)
  have HE := Lib.hid (he.grown HG.out)
  have hlt : g < w.heap.size := he.lt
  have hneg : gr ≠ g := hne gr rfl
  have HD := Lib.hid (fun w => dtwo_any a d1 d2 w)
  generalize dTwo a d1 d2 = r at HD ⊢
  have HC1 := Lib.hid ih1
  have HC2 := Lib.hid ih2
  clear hcell hrow ho ih1 ih2 q0 q1 q2 q3 q4 q5 he hne
  go_enter Try.func92, Try.ntmps92
  go_wp2_with fail
  refine (HC1.out _ (gr_some g HG.out) HE.out).mono ?_
  rintro e w1 ⟨rfl, hg1, he1⟩
  have HG1 := Lib.hid hg1
  have HE1 := Lib.hid he1
  have y0 := hg1.cell x0 (by simp; omega)
  have y1 := hg1.cell x1 (by simp; omega)
  have y2 := hg1.cell x2 (by simp; omega)
  have z3 := hg1.cell h3 (by simp; exact hneg)
  have z4 := hg1.cell h4 (by simp; exact hneg)
  have z5 := hg1.cell h5 (by simp; exact hneg)
  have HGG := Lib.hid ((gr_some g HG.out).trans hg1)
  clear hg1 he1 x0 x1 x2 h0 h1 h2 h3 h4 h5
  go_wp2_with fail
  go_region_law (first
    | (go_simp
       go_at_call 151
       refine (HD.out _).mono ?_
       rintro e wb ⟨rfl, rfl⟩
       have HDONE := Lib.hid True.intro)
    | (go_simp
       go_at_call 92
       refine (HC2.out _ (HGG.out.trans (gr_drewN w1 1 _)) (HE1.out.grown (gr_drewN w1 1 _))).mono ?_
       rintro e wa ⟨rfl, hga, hea⟩
       have HGa := Lib.hid ((gr_drewN w1 1 (some g)).trans hga)
       have HEa := Lib.hid hea
       have x0a := HGa.out.cell y0 (by simp; omega)
       clear hga hea))
  all_goals
    go_wp2_with fail
  all_goals
    go_ret
    exact ⟨rfl, HGG.out.trans HGa.out, HEa.out⟩
end

section
open Go.RowKit

set_option maxRecDepth 100000 in
set_option maxHeartbeats 2000000 in
theorem sdep_loop0 (a d1 a2 b2 a3 b3 : Int) (k : Nat) (A A2 A3 : Option Addr) (c k2 c2 k3 c3 g : Nat) (en : Int → Int) (w : World) (hk0 : 0 < k) (hd : d1 < 1) (he : EnvAt w g en)
    (hne : ∀ x, (Value.slice A 2 c).ownBlock = some x → x ≠ g)
    (ho : w.ownsRow 0 70 3 (.slice A 2 c) 2 (flat3 [(a2, b2, .slice A2 k2 c2), (a3, b3, .slice A3 k3 c3)]))
    (ih1 : ∀ u : World, w.grownBy u (some g) → EnvAt u g en → Calls Try.prog 92 #[.pointer (some ⟨g, 0, none⟩), .agg #[.int .u8 a2, .int .u8 b2, .slice A2 k2 c2]] u (SDP d1 g en u)) :
    Calls Try.prog 92 #[.pointer (some ⟨g, 0, none⟩), .agg #[.int .u8 a, .int .u8 (k : Int), .slice A 2 c]] w (SDP (-1) g en w) := by
  obtain ⟨-, -, hrow⟩ := srow3 (xs := [(a2, b2, .slice A2 k2 c2), (a3, b3, .slice A3 k3 c3)]) ho
  obtain ⟨gr, rfl, hgr1, hcell⟩ := hrow (by omega)
  obtain ⟨q0, q1, q2⟩ := hcell 0 _ rfl
  simp only [Nat.zero_mul, Nat.zero_add] at q0 q1 q2
  have HX := Lib.hid (c3_new w (.int .u8 a) (.int .u8 (k : Int)) (.slice (some ⟨gr, 0, none⟩) 2 c) 70)
  have x0 := HX.out.c0
  have x1 := HX.out.c1
  have x2 := HX.out.c2
  have HG := Lib.hid (World.grownBy_alloc w (.cells #[.int .u8 a, .int .u8 (k : Int), .slice (some ⟨gr, 0, none⟩) 2 c] 70) none)
  have h0 := HG.out.cell q0 (by simp)
  have h1 := HG.out.cell q1 (by simp)
  have h2 := HG.out.cell q2 (by simp)
  have HE := Lib.hid (he.grown HG.out)
  have hlt : g < w.heap.size := he.lt
  have hkz : ((k : Int) == 0) = false := by rw [beq_eq_false_iff_ne]; omega
  have HC1 := Lib.hid ih1
  clear hcell hrow ho ih1 q0 q1 q2 he hne
  go_enter Try.func92, Try.ntmps92
  go_wp2_with fail
  refine (HC1.out _ (gr_some g HG.out) HE.out).mono ?_
  rintro e w1 ⟨rfl, hg1, he1⟩
  have HG1 := Lib.hid hg1
  have HE1 := Lib.hid he1
  have y1 := hg1.cell x1 (by simp; omega)
  have HGG := Lib.hid ((gr_some g HG.out).trans hg1)
  clear hg1 he1 x0 x1 x2 h0 h1 h2
  go_wp2_with fail
  go_ret
  exact ⟨rfl, HGG.out, HE1.out⟩

set_option maxRecDepth 100000 in
set_option maxHeartbeats 4000000 in
theorem sdep_loop1 (a d1 d2 a2 b2 a3 b3 : Int) (k : Nat) (A A2 A3 : Option Addr) (c k2 c2 k3 c3 g : Nat) (en : Int → Int) (w : World) (ha : a = 91 ∨ a = 123) (hk0 : 0 < k) (hk : k < 256) (hd : 1 ≤ d1) (hd1 : d1 ≤ 3) (hd2 : -1 ≤ d2 ∧ d2 ≤ 3) (he : EnvAt w g en)
    (hne : ∀ x, (Value.slice A 2 c).ownBlock = some x → x ≠ g)
    (ho : w.ownsRow 0 70 3 (.slice A 2 c) 2 (flat3 [(a2, b2, .slice A2 k2 c2), (a3, b3, .slice A3 k3 c3)]))
    (ih1 : ∀ u : World, w.grownBy u (some g) → EnvAt u g en → Calls Try.prog 92 #[.pointer (some ⟨g, 0, none⟩), .agg #[.int .u8 a2, .int .u8 b2, .slice A2 k2 c2]] u (SDP d1 g en u))
    (ih2 : ∀ u : World, w.grownBy u (some g) → EnvAt u g (upd en k (d1 - 1)) → Calls Try.prog 92 #[.pointer (some ⟨g, 0, none⟩), .agg #[.int .u8 a3, .int .u8 b3, .slice A3 k3 c3]] u (SDP d2 g (upd en k (d1 - 1)) u)) :
    Calls Try.prog 92 #[.pointer (some ⟨g, 0, none⟩), .agg #[.int .u8 a, .int .u8 (k : Int), .slice A 2 c]] w (SDP (dLoop a d1 d2) g en w) := by
  obtain ⟨-, -, hrow⟩ := srow3 (xs := [(a2, b2, .slice A2 k2 c2), (a3, b3, .slice A3 k3 c3)]) ho
  obtain ⟨gr, rfl, hgr1, hcell⟩ := hrow (by omega)
  obtain ⟨q0, q1, q2⟩ := hcell 0 _ rfl
  obtain ⟨q3, q4, q5⟩ := hcell 1 _ rfl
  simp only [Nat.zero_mul, Nat.zero_add, Nat.one_mul] at q0 q1 q2 q3 q4 q5
  have HX := Lib.hid (c3_new w (.int .u8 a) (.int .u8 (k : Int)) (.slice (some ⟨gr, 0, none⟩) 2 c) 70)
  have x0 := HX.out.c0
  have x1 := HX.out.c1
  have x2 := HX.out.c2
  have HG := Lib.hid (World.grownBy_alloc w (.cells #[.int .u8 a, .int .u8 (k : Int), .slice (some ⟨gr, 0, none⟩) 2 c] 70) none)
  have h0 := HG.out.cell q0 (by simp)
  have h1 := HG.out.cell q1 (by simp)
  have h2 := HG.out.cell q2 (by simp)
  have h3 := HG.out.cell q3 (by simp)
  have h4 := HG.out.cell q4 (by simp)
  have h5 := HG.out.cell q5 (by simp)
  have HE := Lib.hid (he.grown HG.out)
  have hlt : g < w.heap.size := he.lt
  have hneg : gr ≠ g := hne gr rfl
  have hkz : ((k : Int) == 0) = false := by rw [beq_eq_false_iff_ne]; omega
  have hd0 : ¬ (d1 < 1) := by omega
  have wr1 : IntKind.i64.wrap (d1 - 1) = d1 - 1 := IntWalk.i64_in _ (by omega)
  have wr2 : IntKind.i64.wrap (d2 + 1) = d2 + 1 := IntWalk.i64_in _ (by omega)
  have HC1 := Lib.hid ih1
  have HC2 := Lib.hid ih2
  have HA := Lib.hid ha
  clear hcell hrow ho ih1 ih2 q0 q1 q2 q3 q4 q5 he hne ha
  go_enter Try.func92, Try.ntmps92
  go_wp2_with fail
  refine (HC1.out _ (gr_some g HG.out) HE.out).mono ?_
  rintro e w1 ⟨rfl, hg1, he1⟩
  have HE1 := Lib.hid he1
  have y0 := hg1.cell x0 (by simp; omega)
  have y1 := hg1.cell x1 (by simp; omega)
  have y2 := hg1.cell x2 (by simp; omega)
  have z3 := hg1.cell h3 (by simp; exact hneg)
  have z4 := hg1.cell h4 (by simp; exact hneg)
  have z5 := hg1.cell h5 (by simp; exact hneg)
  have HGG := Lib.hid ((gr_some g HG.out).trans hg1)
  have hold := he1.cell hk
  have hfr := he1.frozen k
  obtain ⟨old, hO⟩ : ∃ o, en (k : Int) = o := ⟨_, rfl⟩
  rw [hO] at hold
  have HO := Lib.hid hO
  have HB : Hid (w.heap.size ≠ g) := Lib.hid (by omega)
  have HR : Hid (gr ≠ g) := Lib.hid hneg
  clear hg1 he1 x0 x1 x2 h0 h1 h2 h3 h4 h5 hO
  go_wp2_with fail
  go_quiet (fail)
  go_wp2_with fail
  go_region
  go_wp2_with fail
  have HS := Lib.hid ((HE1.out.grown (gr_drewN w1 (nq + 1) none)).set k (d1 - 1))
  refine (HC2.out _ ((HGG.out.trans (gr_drewN w1 (nq + 1) _)).trans HS.out.2) HS.out.1).mono ?_
  rintro e w2 ⟨rfl, hg2, he2⟩
  have hch := ((gr_drewN w1 (nq + 1) (some g)).trans HS.out.2).trans hg2
  have HG2 := Lib.hid (HGG.out.trans hch)
  have v0 := hch.cell y0 (by simp; exact HB.out)
  have v1 := hch.cell y1 (by simp; exact HB.out)
  have hcell2 := he2.cell hk
  have hfr2 := he2.frozen k
  obtain ⟨mid, hM⟩ : ∃ o, upd en (k : Int) (d1 - 1) (k : Int) = o := ⟨_, rfl⟩
  rw [hM] at hcell2
  have HE2 := Lib.hid he2
  clear hg2 he2 hch hM y0 y1 y2 z3 z4 z5 hold hfr
  go_wp2_with fail
  go_region
  have HS2 := Lib.hid ((HE2.out.grown (gr_drewN w2 1 none)).set k old)
  have HEND : Hid (w.grownBy ((w2.drewN 1).setCell ⟨g, k, none⟩ (.int .i64 old)) (some g) ∧ EnvAt ((w2.drewN 1).setCell ⟨g, k, none⟩ (.int .i64 old)) g en) := Lib.hid ⟨(HG2.out.trans (gr_drewN w2 1 _)).trans HS2.out.2, by
    have := HS2.out.1
    rw [show upd (upd en (k : Int) (d1 - 1)) (k : Int) old = en from by rw [← HO.out]; exact upd_back en _ _] at this
    exact this⟩
  clear HS HS2 HE2 HG2
  rcases HA.out with rfl | rfl
  · go_wp2_with fail
    all_goals
      go_ret
      refine ⟨ret_i ?_, HEND.out.1, HEND.out.2⟩
      unfold dLoop
      (repeat' split) <;> omega
  · go_wp2_with fail
    all_goals
      go_ret
      refine ⟨ret_i ?_, HEND.out.1, HEND.out.2⟩
      try simp only [bne_iff_ne, bne_eq_false_iff_eq, ne_eq] at *
      unfold dLoop
      (repeat' split) <;> omega
end

section
open Go.RowKit

theorem SN.grownG {w w' : World} {S : Nat → Prop} {t : Tm} {x : Int × Int × Value} {g : Nat} (h : SN w S t x) (hS : ∀ b, S b → b ≠ g) (hg : w.grownBy w' (some g)) : SN w' S t x :=
  h.keep (fun b hb hl => hg.block b hl (by simp; exact hS b hb)) (fun _ hb _ => hb) t x

theorem slice_form {w : World} {e : TypeId} {size n : Nat} {sv : Value} {xs : List Value} (h : w.ownsRow 0 e size sv n xs) : ∃ A c, sv = .slice A n c := by
  obtain ⟨A, m, c, rfl⟩ := own_form h
  exact ⟨A, c, by rw [own_len h]⟩

set_option maxRecDepth 100000 in
theorem sdep_any : ∀ (n : Nat) (t : Tm) (S : Nat → Prop) (x : Int × Int × Value) (g : Nat) (en : Int → Int) (w : World), t.size ≤ n → t.Ok → (∀ c, -1 ≤ en c ∧ en c ≤ 3) → SN w S t x → (∀ b, S b → b ≠ g) → EnvAt w g en →
    Calls Try.prog 92 #[.pointer (some ⟨g, 0, none⟩), .agg #[.int .u8 x.1, .int .u8 x.2.1, x.2.2]] w (SDP (t.depth en) g en w)
  | 0, t, _, _, _, _, _, hn, _, _, _, _, _ => by have := t.size_pos; omega
  | n + 1, .dig c, S, (x1, x2, x3), g, en, w, hn, ho, hen, h, hS, he => by
    obtain ⟨h1, h2, h3, _⟩ := h
    obtain ⟨A, cc, h4⟩ := slice_form h3
    simp only at h1 h2 h4
    subst h1 h4
    exact sdep_dig _ A cc g en w he
  | n + 1, .var c, S, (x1, x2, x3), g, en, w, hn, ho, hen, h, hS, he => by
    obtain ⟨h1, h2, h3, _⟩ := h
    obtain ⟨A, cc, h4⟩ := slice_form h3
    simp only at h1 h2 h4
    subst h1 h2 h4
    have hv := vb ho
    have := sdep_var x2.toNat (by omega) A cc g en w he
    rw [show ((x2.toNat : Nat) : Int) = x2 from by omega] at this
    exact this
  | n + 1, .pre c s, S, (x1, x2, x3), g, en, w, hn, ho, hen, h, hS, he => by
    obtain ⟨h1, h2, y, h3, _, hy⟩ := h
    obtain ⟨A, cc, h4⟩ := slice_form h3
    simp only at h1 h2 h4 h3
    subst h1 h2 h4
    obtain ⟨y1, y2, y3⟩ := y
    obtain ⟨A2, k2, c2, h5⟩ := hy.form
    simp only at h5
    subst h5
    simp only [Tm.size] at hn
    exact sdep_pre x1 (s.depth en) y1 y2 A A2 cc k2 c2 g en w (s.depth_bd en hen) he h3 (fun u hu hue => sdep_any n s S (y1, y2, .slice A2 k2 c2) g en u (by omega) ho.2 hen (hy.grownG hS hu) hS hue)
  | n + 1, .two c s t, S, (x1, x2, x3), g, en, w, hn, ho, hen, h, hS, he => by
    obtain ⟨h1, h2, y, z, h3, hb, hy, hz⟩ := h
    obtain ⟨A, cc, h4⟩ := slice_form h3
    simp only at h1 h2 h4 h3 hb
    subst h1 h2 h4
    obtain ⟨y1, y2, y3⟩ := y
    obtain ⟨A2, k2, c2, h5⟩ := hy.form
    simp only at h5
    subst h5
    obtain ⟨z1, z2, z3⟩ := z
    obtain ⟨A3, k3, c3, h6⟩ := hz.form
    simp only at h6
    subst h6
    simp only [Tm.size] at hn
    exact sdep_two x1 (s.depth en) (t.depth en) y1 y2 z1 z2 A A2 A3 cc k2 c2 k3 c3 g en w he (fun x hx => hS x (hb x hx)) h3
      (fun u hu hue => sdep_any n s S (y1, y2, .slice A2 k2 c2) g en u (by omega) ho.2.1 hen (hy.grownG hS hu) hS hue)
      (fun u hu hue => sdep_any n t S (z1, z2, .slice A3 k3 c3) g en u (by omega) ho.2.2 hen (hz.grownG hS hu) hS hue)
  | n + 1, .loop c i s t, S, (x1, x2, x3), g, en, w, hn, ho, hen, h, hS, he => by
    obtain ⟨h1, h2, y, z, h3, hb, hy, hz⟩ := h
    obtain ⟨A, cc, h4⟩ := slice_form h3
    simp only at h1 h2 h4 h3 hb
    subst h1 h2 h4
    obtain ⟨y1, y2, y3⟩ := y
    obtain ⟨A2, k2, c2, h5⟩ := hy.form
    simp only at h5
    subst h5
    obtain ⟨z1, z2, z3⟩ := z
    obtain ⟨A3, k3, c3, h6⟩ := hz.form
    simp only at h6
    subst h6
    simp only [Tm.size] at hn
    have hl := lb ho.2.1
    have hl0 := isL_ge ho.2.1
    have hd1 := s.depth_bd en hen
    have hxk : ((x2.toNat : Nat) : Int) = x2 := by omega
    simp only [Tm.depth]
    by_cases hd : 1 ≤ s.depth en
    · rw [if_pos hd]
      have hbu := upd_bd hen x2 (d := s.depth en - 1) (by omega)
      have hd2 := t.depth_bd _ hbu
      have := sdep_loop1 x1 (s.depth en) (t.depth (upd en x2 (s.depth en - 1))) y1 y2 z1 z2 x2.toNat A A2 A3 cc k2 c2 k3 c3 g en w ho.1 (by omega) (by omega) hd hd1.2 hd2 he (fun x hx => hS x (hb x hx)) h3
        (fun u hu hue => sdep_any n s S (y1, y2, .slice A2 k2 c2) g en u (by omega) ho.2.2.1 hen (hy.grownG hS hu) hS hue)
        (fun u hu hue => by rw [hxk] at hue ⊢; exact sdep_any n t S (z1, z2, .slice A3 k3 c3) g _ u (by omega) ho.2.2.2 hbu (hz.grownG hS hu) hS hue)
      rw [hxk] at this
      exact this
    · rw [if_neg hd]
      have := sdep_loop0 x1 (s.depth en) y1 y2 z1 z2 x2.toNat A A2 A3 cc k2 c2 k3 c3 g en w (by omega) (by omega) he (fun x hx => hS x (hb x hx)) h3
        (fun u hu hue => sdep_any n s S (y1, y2, .slice A2 k2 c2) g en u (by omega) ho.2.2.1 hen (hy.grownG hS hu) hS hue)
      rw [hxk] at this
      exact this

set_option maxRecDepth 100000 in
set_option maxHeartbeats 2000000 in
theorem tdepth_spec (s : ByteArray) (hs : s.size ≤ 1048576) (w : World) :
    Calls Try.prog 33 #[.string s] w (DepP (depthA s) w) := by
  have H := Lib.hid (sterm_any s hs w)
  obtain ⟨r, hb⟩ : ∃ b, depthA s = b := ⟨_, rfl⟩
  rw [hb]
  have HB := Lib.hid hb
  clear hb
  go_enter Try.func33, Try.ntmps33
  go_wp2_with fail
  refine H.out.mono ?_
  intro e w1 hp
  unfold STermPost at hp
  have hb := HB.out
  unfold depthA at hb
  cases hr : readT s with
  | none =>
    rw [hr] at hp hb
    subst hb
    obtain ⟨rfl, hg⟩ := hp
    have HG := Lib.hid hg
    clear hg hr
    go_wp2_with fail
    go_ret
    exact ⟨rfl, HG.out.trans (World.grownBy_alloc _ _ _)⟩
  | some t =>
    rw [hr] at hp hb
    obtain ⟨a, d, A, k, c, rfl, hg, ha⟩ := hp
    have HG := Lib.hid (hg.trans (World.grownBy_alloc w1 (.cells #[.int .u8 a, .int .u8 d, .slice A k c] 70) none))
    have HX := Lib.hid (c3_new w1 (.int .u8 a) (.int .u8 d) (.slice A k c) 70)
    have x0 := HX.out.c0
    have x1 := HX.out.c1
    have x2 := HX.out.c2
    have hok := readT_some hr
    have HR : Hid (t.depth env0 = r) := Lib.hid hb
    have HA : Hid (SN w1 (fun b => b < w1.heap.size) t (a, d, .slice A k c)) := Lib.hid (ha.keep (fun _ _ _ => rfl) (fun b _ hl => hl) _ _)
    have HOK := Lib.hid hok.2.2.1
    have HSZ := Lib.hid hok.2.2.2
    have HCALL : Hid (∀ (g : Nat) (u : World), (w1.alloc (.cells #[.int .u8 a, .int .u8 d, .slice A k c] 70)).heap.size ≤ g → (w1.alloc (.cells #[.int .u8 a, .int .u8 d, .slice A k c] 70)).grownBy u none → EnvAt u g env0 →
        Calls Try.prog 92 #[.pointer (some ⟨g, 0, none⟩), .agg #[.int .u8 a, .int .u8 d, .slice A k c]] u (SDP r g env0 u)) := Lib.hid (fun g u hge hu hue => by
      rw [← HR.out]
      exact sdep_any 80 t _ (a, d, .slice A k c) g env0 u HSZ.out HOK.out env0_bd ((HA.out.grown (World.grownBy_alloc w1 _ none)).grown hu) (fun b (hb : b < w1.heap.size) => by rw [World.size_alloc] at hge; omega) hue)
    clear hg hr hb ha hok
    go_wp2_with fail
    go_region_law (first
      | (go_simp
         go_at_call 92
         refine (HCALL.out _ _ HGE.out HG2.out HE2.out).mono ?_
         rintro e w3 ⟨rfl, hg3, -⟩
         have HG3 := Lib.hid hg3
         clear hg3)
      | (go_simp
         go_at_call 91
         refine (sstart_any _).mono ?_
         rintro e w2 ⟨g, rfl, hge, hg2, he2⟩
         have hg2' := (gr_drewN (w1.alloc (.cells #[.int .u8 a, .int .u8 d, .slice A k c] 70)) 1 none).trans hg2
         have HG2 := Lib.hid hg2'
         have x0a := hg2'.cell x0 (by simp)
         have x1a := hg2'.cell x1 (by simp)
         have x2a := hg2'.cell x2 (by simp)
         have HGE : Hid ((w1.alloc (.cells #[.int .u8 a, .int .u8 d, .slice A k c] 70)).heap.size ≤ g) := Lib.hid hge
         have HE2 := Lib.hid he2
         clear hge hg2 he2 hg2'))
    all_goals
      go_wp2_with fail
    all_goals
      go_ret
      exact ⟨rfl, gr_new (HG.out.trans HG2.out) HG3.out (Nat.le_trans HG.out.size HGE.out)⟩
end

section
open Go.RowKit

def tdepA (s : ByteArray) : Int := depthA s
def tfunA (s : ByteArray) : Bool := decide (0 ≤ depthA s)
theorem tdep_spec (s : ByteArray) (hs : s.size ≤ 1048576) (w : World) : Calls Try.prog 33 #[.string s] w fun e w' => e = .returned (.int .i64 (tdepA s)) ∧ w.grownBy w' none := tdepth_spec s hs w
theorem tdep_impl (s : ByteArray) (_ : s.size ≤ 1048576) (w : World) : Calls Try.prog 32 #[.string s] w fun e w' => e = .returned (.int .i64 (tdepA s)) ∧ w.grownBy w' none := tdepth_impl s w
theorem tfun_impl (s : ByteArray) (_ : s.size ≤ 1048576) (w : World) : Calls Try.prog 34 #[.string s] w fun e w' => e = .returned (.bool (tfunA s)) ∧ w.grownBy w' none := tisfun_impl s w

set_option maxRecDepth 100000 in
set_option maxHeartbeats 1000000 in
theorem tfun_spec (s : ByteArray) (hs : s.size ≤ 1048576) (w : World) : Calls Try.prog 35 #[.string s] w fun e w' => e = .returned (.bool (tfunA s)) ∧ w.grownBy w' none := by
  have H := Lib.hid (tdep_spec s hs w)
  unfold tfunA
  unfold tdepA at H
  generalize depthA s = r at H ⊢
  go_enter Try.func35, Try.ntmps35
  go_wp2_with fail
  refine H.out.mono ?_
  rintro e w1 ⟨rfl, hg1⟩
  have HG1 := Lib.hid hg1
  clear hg1
  go_wp2_with fail
  go_ret
  exact ⟨rfl, HG1.out⟩
end
end

section
open Go.ChangeShapes Go.WideShapes Go.ChangeAt Go.RowKit

theorem knob_own : ownKnob Try.prog.godebug = none := by kernel_rfl
theorem below_of {w w' : World} (h : w.grownBy w' none) : Below w.heap.size w w' := ⟨h.os, h.tape, h.output, h.size, fun k hk => h.block k hk (by simp)⟩
end

open Go.ChangeShapes Go.WideShapes Go.ChangeAt Go.RowKit
open Go.ChangeMaps (open_string shut_string)

set_option maxRecDepth 100000 in
set_option maxHeartbeats 16000000 in
theorem law_dreplace (A B : Option Addr) (n c m d : Nat) (w : World) (hA : Byts w A n) (hc : n ≤ c) (hn : n ≤ 9223372036854775807) (hB : Byts w B m) (hd : m ≤ d) (hm : m ≤ 9223372036854775807) :
    Calls Try.prog 7 #[.slice A n c, .slice B m d] w fun e w' => e = .returned (.bool true) ∧ w.grownBy w' none := by
  by_cases h1 : 1048576 < n
  · clear hA hB
    go_enter Try.func7, Try.ntmps7
    go_wp2_with fail
    go_ret
    exact ⟨rfl, gr_refl _ _⟩
  by_cases h2 : 1048576 < m
  · clear hA hB
    go_enter Try.func7, Try.ntmps7
    go_wp2_with fail
    go_ret
    exact ⟨rfl, gr_refl _ _⟩
  have HD := Lib.hid (drawrep_any A n c w hA hc hn)
  have HBY := Lib.hid hB
  clear hA hB hc
  go_enter Try.func7, Try.ntmps7
  go_wp2_with fail
  refine HD.out.mono ?_
  rintro e w1 ⟨t, v, u, rfl, ht, hv, hu, hg1⟩
  have HG1 := Lib.hid hg1
  have RI := Lib.hid (fun w => repv_impl t v u w)
  have RS2 := Lib.hid (fun w => repv_spec t v u (by omega) (by omega) (by omega) w)
  unfold RVP at RI RS2
  obtain ⟨R, hR⟩ : ∃ R, replA t v u = R := ⟨_, rfl⟩
  rw [hR] at RI RS2
  have HRR := Lib.hid hR
  clear hg1 HD hR
  go_wp2_with fail
  refine (RI.out _).mono ?_
  rintro e w2 ⟨rfl, hg2⟩
  have HG2 := Lib.hid (HG1.out.trans hg2)
  clear hg2
  go_wp2_with fail
  refine (RS2.out _).mono ?_
  rintro e w3 ⟨rfl, hg3⟩
  have HG3 := Lib.hid (HG2.out.trans hg3)
  have HDF := Lib.hid (drawfree_any B m d w3 (HBY.out.grown HG3.out (by simp)) hd hm)
  clear hg3
  go_wp2_with fail
  refine HDF.out.mono ?_
  rintro e w4 ⟨z, rfl, hz, hg4⟩
  have HG4 := Lib.hid (HG3.out.trans hg4)
  have V1 := Lib.hid (fun w => freev_impl z w)
  have V2 := Lib.hid (fun w => freev_spec z (by omega) w)
  obtain ⟨FZ, hFZ⟩ : ∃ F, freeA z = F := ⟨_, rfl⟩
  rw [hFZ] at V1 V2
  clear hg4 hFZ
  cases R with
  | none =>
    simp only [Option.getD_none, Option.isSome_none]
    go_wp2_with fail
    refine (V1.out _).mono ?_
    rintro e w5 ⟨rfl, hg5⟩
    have HG5 := Lib.hid (HG4.out.trans hg5)
    clear hg5
    go_wp2_with fail
    refine (V2.out _).mono ?_
    rintro e w6 ⟨rfl, hg6⟩
    have HG6 := Lib.hid (HG5.out.trans hg6)
    clear hg6
    go_wp2_with fail
    refine (V1.out _).mono ?_
    rintro e w7 ⟨rfl, hg7⟩
    have HG7 := Lib.hid (HG6.out.trans hg7)
    clear hg7
    go_wp2_with fail
    refine (V2.out _).mono ?_
    rintro e w8 ⟨rfl, hg8⟩
    have HG8 := Lib.hid (HG7.out.trans hg8)
    clear hg8
    go_wp2_with fail
    go_ret
    exact ⟨rfl, HG8.out⟩
  | some S =>
    simp only [Option.getD_some, Option.isSome_some]
    obtain ⟨T, U, cc, hT, hU, hvc, hvo, hc0, hc1, hbd, hS, hrS⟩ := repl_some HRR.out
    have hokT := (readT_some hT).2.2.1
    have hokU := (readT_some hU).2.2.1
    have hokS := (readT_some hrS).2.2.1
    have HT := Lib.hid hT
    have HU := Lib.hid hU
    have HRS := Lib.hid hrS
    have HVC := Lib.hid hvc
    have HBD := Lib.hid hbd
    have HSB := Lib.hid hS
    have hvl : v.toList = [byt cc] := by rw [hvo]; exact one_toList cc
    have HVL := Lib.hid hvl
    have h1f : freeA t = frTo T 7 := by unfold freeA; rw [hT]
    have h2f : freeA S = frTo (T.rep cc U) 7 := by unfold freeA; rw [hrS]
    have h3f : freeA u = frTo U 7 := by unfold freeA; rw [hU]
    have W1 := Lib.hid (fun w => freev_impl t w)
    have W2 := Lib.hid (fun w => freev_impl S w)
    have W3 := Lib.hid (fun w => freev_impl u w)
    rw [h1f] at W1
    rw [h2f] at W2
    rw [h3f] at W3
    have z1 := frTo_size T 7
    have z2 := frTo_size (T.rep cc U) 7
    have z3 := frTo_size U 7
    have HM1 := Lib.hid (fun (d : Int) (hd : 0 ≤ d ∧ d ≤ 255) (x : ByteArray) (hx : x.toList = [byt d]) => (anyTo_mem (F := frTo T 7) hx).trans (free_mem hokT hd))
    have HM3 := Lib.hid (fun (d : Int) (hd : 0 ≤ d ∧ d ≤ 255) (x : ByteArray) (hx : x.toList = [byt d]) => (anyTo_mem (F := frTo U 7) hx).trans (free_mem hokU hd))
    have HNT := Lib.hid (fun (i : Nat) (hi : i < (frTo (T.rep cc U) 7).size) => free_nth (T := T.rep cc U) hi)
    have HRF := Lib.hid (fun d (hd : (T.rep cc U).free d = true) => Tm.rep_free T cc U d hbd hd)
    obtain ⟨F1, hF1⟩ : ∃ F, frTo T 7 = F := ⟨_, rfl⟩
    obtain ⟨F2, hF2⟩ : ∃ F, frTo (T.rep cc U) 7 = F := ⟨_, rfl⟩
    obtain ⟨F3, hF3⟩ : ∃ F, frTo U 7 = F := ⟨_, rfl⟩
    rw [hF1] at W1 z1 HM1
    rw [hF2] at W2 z2 HNT
    rw [hF3] at W3 z3 HM3
    clear hT hU hrS hvc hbd hS hvl hvo h1f h2f h3f hF1 hF2 hF3 hokT hokU hokS
    go_wp2_with fail
    refine (V1.out _).mono ?_
    rintro e w5 ⟨rfl, hg5⟩
    have HG5 := Lib.hid (HG4.out.trans hg5)
    clear hg5
    go_wp2_with fail
    refine (V2.out _).mono ?_
    rintro e w6 ⟨rfl, hg6⟩
    have HG6 := Lib.hid (HG5.out.trans hg6)
    clear hg6
    go_wp2_with fail
    refine (W1.out _).mono ?_
    rintro e w7 ⟨rfl, hg7⟩
    have HG7 := Lib.hid (HG6.out.trans hg7)
    clear hg7
    go_wp2_with fail
    refine (W2.out _).mono ?_
    rintro e w8 ⟨rfl, hg8⟩
    have HG8 := Lib.hid (HG7.out.trans hg8)
    clear hg8
    go_wp2_with fail
    refine (W3.out _).mono ?_
    rintro e w9 ⟨rfl, hg9⟩
    have HG9 := Lib.hid (HG8.out.trans hg9)
    clear hg9
    go_wp2_with fail
    go_loopw [16, 97] (fun a i wr => ∃ j : Nat, j ≤ F1.size ∧ i = .int .i64 j ∧ a = .bool (anyTo F1 v j) ∧ Hid (w.grownBy wr none)) (fun _ i _ => F1.size - (intOf i).toNat)
    case atStart => exact ⟨0, Nat.zero_le _, rfl, rfl, HG9⟩
    case round =>
      obtain ⟨j, hj, rfl, rfl, HGr⟩ := hrel
      by_cases hlt : j < F1.size
      · have HST := Lib.hid (anyTo_step F1 v j)
        obtain ⟨sb, hsb⟩ : ∃ x, anyTo F1 v j = x := ⟨_, rfl⟩
        obtain ⟨eb, heb⟩ : ∃ x, ((F1.extract j (j + 1)).toList == v.toList) = x := ⟨_, rfl⟩
        rw [hsb, heb] at HST
        rw [hsb]
        clear hsb
        cases sb
        · cases eb
          all_goals
            go_wp2_with fail
            go_roundw
            case rel => exact ⟨j + 1, by omega, by go_num, by rw [HST.out]; rfl, by first | exact HGr | exact Lib.hid (HGr.out.trans (gr_drewN _ _ none))⟩
            case measure => simp [intOf]; omega
        · go_wp2_with fail
          go_roundw
          case rel => exact ⟨j + 1, by omega, by go_num, by rw [HST.out]; rfl, by first | exact HGr | exact Lib.hid (HGr.out.trans (gr_drewN _ _ none))⟩
          case measure => simp [intOf]; omega
      · have hjn : j = F1.size := by omega
        subst hjn
        have HST := Lib.hid (HM1.out cc ⟨hc0, hc1⟩ v HVL.out)
        obtain ⟨sb, hsb⟩ : ∃ x, anyTo F1 v F1.size = x := ⟨_, rfl⟩
        rw [hsb] at HST ⊢
        clear hj hsb
        cases sb
        · have hidle : T.rep cc U = T := repl_idle (by
            cases hf : T.free cc with
            | false => rfl
            | true => have := HST.out.2 hf; cases this)
          have hSt : S = t := by rw [HSB.out, hidle]; exact (ptextM HT.out).symm
          subst hSt
          go_wp2_with fail
          go_ret
          exact ⟨rfl, HGr.out⟩
        · have HSELF := Lib.hid (repl_self HT.out HVC.out)
          have RV := Lib.hid (fun w => repv_impl t v v w)
          unfold RVP at RV
          rw [HSELF.out] at RV
          simp only [Option.getD_some, Option.isSome_some] at RV
          go_wp2_with fail
          go_loopw [118] (fun i wr => ∃ j : Nat, j ≤ F2.size ∧ i = .int .i64 j ∧ Hid (w.grownBy wr none)) (fun i _ => F2.size - (intOf i).toNat)
          case atStart => exact ⟨0, Nat.zero_le _, rfl, HGr⟩
          case round =>
            clear HGr
            obtain ⟨j, hj, rfl, HGr⟩ := hrel
            by_cases hlt : j < F2.size
            · obtain ⟨d, hd0, hd1, hdf, hdl⟩ := HNT.out j hlt
              have HDF2 := Lib.hid (HRF.out d hdf)
              obtain ⟨x2, hx2⟩ : ∃ x, F2.extract j (j + 1) = x := ⟨_, rfl⟩
              rw [hx2] at hdl
              have M1 := Lib.hid (HM1.out d ⟨hd0, hd1⟩ x2 hdl)
              have M3 := Lib.hid (HM3.out d ⟨hd0, hd1⟩ x2 hdl)
              obtain ⟨nb, hnb⟩ : ∃ b, (x2.toList == v.toList) = b := ⟨_, rfl⟩
              have HNB : Hid (d ≠ cc → nb = false) := Lib.hid (fun hne => by
                rw [← hnb, hdl, HVL.out, beq_eq_false_iff_ne]
                intro e
                exact hne (byt_inj ⟨hd0, hd1⟩ ⟨hc0, hc1⟩ (by simpa using e)))
              clear hdf hdl
              go_wp2_with fail
              go_loopw [20, 128] (fun a i wr => ∃ k : Nat, k ≤ F3.size ∧ i = .int .i64 k ∧ a = .bool (anyTo F3 x2 k) ∧ Hid (w.grownBy wr none)) (fun _ i _ => F3.size - (intOf i).toNat)
              case atStart => exact ⟨0, Nat.zero_le _, rfl, rfl, HGr⟩
              case round =>
                clear HGr
                obtain ⟨k, hk, rfl, rfl, HGr⟩ := hrel
                by_cases hlk : k < F3.size
                · have HST := Lib.hid (anyTo_step F3 x2 k)
                  obtain ⟨sb, hsb⟩ : ∃ x, anyTo F3 x2 k = x := ⟨_, rfl⟩
                  obtain ⟨eb, heb⟩ : ∃ x, ((F3.extract k (k + 1)).toList == x2.toList) = x := ⟨_, rfl⟩
                  rw [hsb, heb] at HST
                  rw [hsb]
                  clear hsb
                  cases sb
                  · cases eb
                    all_goals
                      go_wp2_with fail
                      go_roundw
                      case rel => exact ⟨k + 1, by omega, by go_num, by rw [HST.out]; rfl, by first | exact HGr | exact Lib.hid (HGr.out.trans (gr_drewN _ _ none))⟩
                      case measure => simp [intOf]; omega
                  · go_wp2_with fail
                    go_roundw
                    case rel => exact ⟨k + 1, by omega, by go_num, by rw [HST.out]; rfl, by first | exact HGr | exact Lib.hid (HGr.out.trans (gr_drewN _ _ none))⟩
                    case measure => simp [intOf]; omega
                · have hkn : k = F3.size := by omega
                  subst hkn
                  obtain ⟨tb, htb⟩ : ∃ x, anyTo F3 x2 F3.size = x := ⟨_, rfl⟩
                  rw [htb] at M3 ⊢
                  clear htb
                  go_wp2_with fail
                  go_loopw [20, 144] (fun a i wr => ∃ q : Nat, q ≤ F1.size ∧ i = .int .i64 q ∧ a = .bool (tb || (anyTo F1 x2 q && !nb)) ∧ Hid (w.grownBy wr none)) (fun _ i _ => F1.size - (intOf i).toNat)
                  case atStart => exact ⟨0, Nat.zero_le _, rfl, by simp [anyTo], HGr⟩
                  case round =>
                    clear HGr
                    obtain ⟨q, hq, rfl, rfl, HGr⟩ := hrel
                    by_cases hlq : q < F1.size
                    · have HST := Lib.hid (anyTo_step F1 x2 q)
                      obtain ⟨sb, hsb⟩ : ∃ x, anyTo F1 x2 q = x := ⟨_, rfl⟩
                      obtain ⟨eb, heb⟩ : ∃ x, ((F1.extract q (q + 1)).toList == x2.toList) = x := ⟨_, rfl⟩
                      rw [hsb, heb] at HST
                      rw [hsb]
                      clear hsb
                      cases tb <;> cases sb <;> cases nb <;> cases eb
                      all_goals
                        go_wp2_with fail
                        go_roundw
                        case rel => exact ⟨q + 1, by omega, by go_num, by rw [HST.out]; rfl, by first | exact HGr | exact Lib.hid (HGr.out.trans (gr_drewN _ _ none))⟩
                        case measure => simp [intOf]; omega
                    · have hqn : q = F1.size := by omega
                      subst hqn
                      have htrue : (tb || (anyTo F1 x2 F1.size && !nb)) = true := by
                        rcases HDF2.out with ⟨h1, h2⟩ | ⟨h1, _⟩
                        · rw [M1.out.2 h1, HNB.out h2]; simp
                        · rw [M3.out.2 h1]; simp
                      rw [htrue]
                      clear htrue
                      go_wp2_with fail
                      go_roundw
                      case rel => exact ⟨j + 1, by omega, by go_num, HGr⟩
                      case measure => simp [intOf]; omega
            · clear hj
              go_wp2_with fail
              refine (RV.out _).mono ?_
              rintro e wx ⟨rfl, hgx⟩
              have HGx := Lib.hid (HGr.out.trans hgx)
              clear hgx
              have D1 := Lib.hid (fun w => tdepth_impl u w)
              have D2 := Lib.hid (fun w => tdepth_impl t w)
              have D3 := Lib.hid (fun w => tdepth_impl S w)
              obtain ⟨du, hdu⟩ : ∃ x, depthA u = x := ⟨_, rfl⟩
              obtain ⟨dt, hdt⟩ : ∃ x, depthA t = x := ⟨_, rfl⟩
              have HEQ : Hid (cc = 97 → du = 1 → depthA S = dt) := Lib.hid (fun hc h1 => by
                have e1 : depthA S = (T.rep cc U).depth env0 := by unfold depthA; rw [HRS.out]
                have e2 : depthA t = T.depth env0 := by unfold depthA; rw [HT.out]
                have e3 : depthA u = U.depth env0 := by unfold depthA; rw [HU.out]
                rw [← hdt, e1, e2]
                refine Tm.rep_depth T cc U env0 HBD.out ?_
                rw [← e3, hdu, h1, hc]
                rfl)
              rw [hdu] at D1
              rw [hdt] at D2
              clear hdu hdt
              by_cases h97 : cc = 97
              · have hva : (v.toList == [97]) = true := by rw [HVL.out, h97]; rfl
                go_wp2_with fail
                refine (D1.out _).mono ?_
                rintro e wy ⟨rfl, hgy⟩
                have HGy := Lib.hid (HGx.out.trans hgy)
                clear hgy
                by_cases h1 : du = 1
                · have h1b : (du == 1) = true := by simp [h1]
                  have he := HEQ.out h97 h1
                  rw [he] at D3
                  have hdd : (dt != dt) = false := by simp
                  clear he h1
                  go_wp2_with fail
                  refine (D2.out _).mono ?_
                  rintro e wa ⟨rfl, hga⟩
                  have HGa := Lib.hid (HGy.out.trans hga)
                  clear hga
                  go_wp2_with fail
                  refine (D3.out _).mono ?_
                  rintro e wb ⟨rfl, hgb⟩
                  have HGb := Lib.hid (HGa.out.trans hgb)
                  clear hgb
                  go_wp2_with fail
                  go_ret
                  exact ⟨rfl, HGb.out⟩
                · have h1b : (du == 1) = false := by simp [h1]
                  go_wp2_with fail
                  go_ret
                  exact ⟨rfl, HGy.out⟩
              · have hva : (v.toList == [97]) = false := by
                  rw [HVL.out, beq_eq_false_iff_ne]
                  intro e
                  exact h97 (byt_inj ⟨hc0, hc1⟩ ⟨by omega, by omega⟩ (show byt cc = byt 97 from (List.cons.inj e).1))
                go_wp2_with fail
                go_ret
                exact ⟨rfl, HGx.out⟩

set_option maxRecDepth 100000 in
theorem dreplace_lifted (os : Os) (started : os.Started) (H : Type) (enc : TypeId × Value → H) :
    ReturnsInHanded {} Try.checked os 7 .any (Rows.fnReplaceSpec.pre6 enc Try.prog Try.f7 Rows.fnReplaceRow.domain false) (Rows.fnReplaceSpec.post enc Try.prog Try.f7 false true false false) := by
  refine returnsInHanded_of_change (C := Try.checked) knob_own started (by kernel_rfl) Try.func7
    (ChangeSpec.witness6 (enc := enc) (C := Try.checked) false ⟨#[], #[.slice none 0 0, .slice none 0 0], []⟩ 8 (by kernel_rfl) (by kernel_rfl) (by kernel_rfl) (by kernel_rfl)) ?_
  intro W base args ds gs before hval0 hW hcnd _
  have hval : ∀ (j : Nat) t v, Try.f7.params[j]? = some t → args[j]? = some v → Value.okWide Try.prog W .any base t v := hval0
  have hW' := hW
  obtain ⟨p, q, hA0, hV, rfl, hfz, hnd⟩ := hW
  have hA : DataW.TrodAll enc Try.prog W 0 (fun _ => true) true Try.f7.params.toList args.toList ds p := hA0
  rw [Try.params7] at hA hval
  obtain ⟨v0, v1, d0, d1, p0, p1, rfl, rfl, rfl, h0, h1⟩ := trodAll_two hA
  obtain ⟨rfl, rfl⟩ := trodVars_none hV
  obtain ⟨A, n, c, rfl, a1, a2, a3⟩ := open_bytsT (hval 0 27 v0 rfl rfl) h0
  obtain ⟨B, m, d, rfl, b1, b2, b3⟩ := open_bytsT (hval 1 27 v1 rfl rfl) h1
  clear hA0 hval0
  simp only [List.append_nil] at hW'
  have hlt : ∀ x ∈ p0 ++ p1, x.block < W.heap.size := fun x hx => by simpa using hW'.lt x hx
  refine (law_dreplace A B n c m d W a3 a1 a2 b3 b1 b2).mono fun e W' ⟨he, hg⟩ => ?_
  subst he
  refine ⟨_, rfl, _, _, _, [], p0 ++ p1, [], hW', ?_, ?_, rfl, (below_of hg).frame _, fun h => by cases h⟩
  · exact trodAll_mk1 (shut_bool Try.underlying4 _)
  · exact trodAll_mk2 (Below.trod laid_out_p (by kernel_rfl) (of_decide_eq_true (by kernel_rfl)) h0 (below_of hg) (fun x hx => hlt x (List.mem_append_left _ hx))) (Below.trod laid_out_p (by kernel_rfl) (of_decide_eq_true (by kernel_rfl)) h1 (below_of hg) (fun x hx => hlt x (List.mem_append_right _ hx)))

theorem dreplace_holds : Rows.FnReplaceSaid :=
  OpenClaim.holds_of_wide 7 Try.f7 rfl rfl rfl rfl rfl rfl rfl ⟨rfl, rfl, rfl, rfl, rfl⟩ rfl rfl rfl rfl rfl fdreplace_name Try.func7 fdreplace_all fdreplace_inst fdreplace_wrap
    (fun os started H enc _ => (dreplace_lifted os started H enc))

#print axioms dreplace_holds

end Go.Proofs.Ytmofoeljajdhmaa
